/- Pipes: a box that is made and filled beside a call that makes a list; the truth in which a loop cools most, or least, by the specification. -/
import Derived.Test.YticmeeinjkoodaaQE
namespace Go.Proofs.Yticmeeinjkoodaa
open Go.RowKit Go.Shelf

/-- A box that is made and filled in a drawn statement (operations ai and si), beside a call (xi) that makes a list X, and one (ci) that reads it. -/
structure NewX (w0 : World) (ai si xi ci : Nat) (T : TypeId) (ov nv : Array Value) (X : Value → World → Prop) (done : Nat → Bool) (g : Nat × Value) (w' : World) : Prop where
  a : NewA w0 ai si T ov nv done g.1 w'
  os : done si = true → done ci = true
  x : done xi = true → done si = false → X g.2 w'
section
variable {w0 w : World} {ai si xi ci : Nat} {T : TypeId} {ov nv : Array Value} {X : Value → World → Prop} {done : Nat → Bool} {ops : Array Oper} {cv : Nat × Value → Tmp → Value} {i : Nat} {g : Nat × Value} {o : Oper}
abbrev AskX (w0 : World) (ai si xi ci : Nat) (T : TypeId) (ov nv : Array Value) (X : Value → World → Prop) (ops : Array Oper) (cv : Nat × Value → Tmp → Value) (done : Nat → Bool) (g : Nat × Value) (w : World) (i : Nat) (o : Oper) : Prop :=
  Region.wanted o (yieldedBy ops (cv g)) = true ∧ Yield Try.prog (fun v w' => ∃ g', NewX w0 ai si xi ci T ov nv X (updB done i) g' w' ∧ (∀ d, o.dst = some d → cv g' d = v) ∧ ∀ t, o.dst ≠ some t → cv g' t = cv g t) ((execOp (evalBy (cv g)) o).run Try.prog w)
theorem upd_ne {j : Nat} (h : i ≠ j) : updB done i j = done j := by simp [updB, Ne.symm h]
theorem NewX.step (hX : ∀ v A B, X v A → Below A.heap.size A B → X v B) (h : NewX w0 ai si xi ci T ov nv X done g w) {w' : World} (hb : Below w.heap.size w w') (hi : i ≠ si) (ha : i ≠ ai) (hx : i ≠ xi) : NewX w0 ai si xi ci T ov nv X (updB done i) g w' := by
  refine ⟨h.a.step hb hi ha, fun hd => ?_, fun hd hs => ?_⟩
  · rw [upd_ne hi] at hd
    exact upd_true (h.os hd)
  · rw [upd_ne hx] at hd
    rw [upd_ne hi] at hs
    exact hX _ _ _ (h.x hd hs) hb
theorem quietX (hX : ∀ v A B, X v A → Below A.heap.size A B → X v B) (h : NewX w0 ai si xi ci T ov nv X done g w) (d : Tmp) (hd : o.dst = some d) (hi : i ≠ si) (ha : i ≠ ai) (hx : i ≠ xi) (hg : Region.wanted o (yieldedBy ops (cv g)) = true)
    (he : (execOp (evalBy (cv g)) o).run Try.prog w = .ok (.value (cv g d)) w) : AskX w0 ai si xi ci T ov nv X ops cv done g w i o := by
  refine ⟨hg, ?_⟩
  rw [he]
  exact ⟨g, h.step hX (Below.refl _ _) hi ha hx, fun e hE => by rw [hd] at hE; injection hE with hE; subst hE; rfl, fun _ _ => rfl⟩
theorem callX (hX : ∀ v A B, X v A → Below A.heap.size A B → X v B) (h : NewX w0 ai si xi ci T ov nv X done g w) (d : Tmp) (hd : o.dst = some d) (hi : i ≠ si) (ha : i ≠ ai) (hx : i ≠ xi) (hg : Region.wanted o (yieldedBy ops (cv g)) = true) (f : FuncId) (args : Array Value)
    (he : (execOp (evalBy (cv g)) o).run Try.prog w = .ok (.enter f args) w) (hc : Calls Try.prog f args w fun e w' => e = .returned (cv g d) ∧ Below w.heap.size w w') : AskX w0 ai si xi ci T ov nv X ops cv done g w i o := by
  refine ⟨hg, ?_⟩
  rw [he]
  show Calls Try.prog f args w _
  refine hc.mono ?_
  rintro e w' ⟨rfl, hb⟩
  exact ⟨_, rfl, g, h.step hX hb hi ha hx, fun e hE => by rw [hd] at hE; injection hE with hE; subst hE; rfl, fun _ _ => rfl⟩
theorem listX (h : NewX w0 ai si xi ci T ov nv X done g w) (d : Tmp) (hd : o.dst = some d) (hi : xi ≠ si) (ha : xi ≠ ai) (hg : Region.wanted o (yieldedBy ops (cv g)) = true) (f : FuncId) (args : Array Value)
    (hcd : ∀ v, cv (g.1, v) d = v) (hct : ∀ v t, t ≠ d → cv (g.1, v) t = cv g t)
    (he : (execOp (evalBy (cv g)) o).run Try.prog w = .ok (.enter f args) w) (hc : Calls Try.prog f args w fun e w' => ∃ v, e = .returned v ∧ Below w.heap.size w w' ∧ X v w') : AskX w0 ai si xi ci T ov nv X ops cv done g w xi o := by
  refine ⟨hg, ?_⟩
  rw [he]
  show Calls Try.prog f args w _
  refine hc.mono ?_
  rintro e w' ⟨v, rfl, hb, hx⟩
  refine ⟨_, rfl, (g.1, v), ⟨h.a.step hb hi ha, fun hdn => ?_, fun _ _ => hx⟩, fun e hE => by rw [hd] at hE; injection hE with hE; subst hE; exact hcd v, fun t ht => hct v t (fun e => ht (by rw [hd, e]))⟩
  rw [upd_ne hi] at hdn
  exact upd_true (h.os hdn)
theorem allocX (hX : ∀ v A B, X v A → Below A.heap.size A B → X v B) (h : NewX w0 ai si xi ci T ov nv X done g w) (d : Tmp) (hd : o.dst = some d) (hu : done ai = false) (hne : ai ≠ si) (hax : ai ≠ xi) (hg : Region.wanted o (yieldedBy ops (cv g)) = true)
    (hcd : ∀ g', cv (g', g.2) d = .pointer (some ⟨g', 0, none⟩)) (hct : ∀ g' t, t ≠ d → cv (g', g.2) t = cv g t)
    (he : (execOp (evalBy (cv g)) o).run Try.prog w = .ok (.value (.pointer (some ⟨w.heap.size, 0, none⟩))) (w.alloc (.cells ov T))) : AskX w0 ai si xi ci T ov nv X ops cv done g w ai o := by
  refine ⟨hg, ?_⟩
  rw [he]
  have hs : done si = false := by
    cases hq : done si with
    | false => rfl
    | true => exact absurd (h.a.ord hq) (by rw [hu]; exact Bool.false_ne_true)
  have hb : Below w.heap.size w (w.alloc (.cells ov T)) := (Below.refl _ w).alloc (Nat.le_refl _) _
  refine ⟨(w.heap.size, g.2), ⟨⟨h.a.keep.alloc h.a.keep.size _, fun _ => by simp [updB], fun _ => ⟨h.a.keep.size, ?_⟩⟩, fun hdn => ?_, fun hdx hdn => ?_⟩, fun e hE => by rw [hd] at hE; injection hE with hE; subst hE; exact hcd _, fun t ht => hct _ t (fun e => ht (by rw [hd, e]))⟩
  · rw [upd_ne hne, hs]
    exact heap_alloc_new w _
  · rw [upd_ne hne] at hdn
    exact upd_true (h.os hdn)
  · rw [upd_ne hax] at hdx
    rw [upd_ne hne] at hdn
    exact hX _ _ _ (h.x hdx hdn) hb
theorem storeX (h : NewX w0 ai si xi ci T ov nv X done g w) (hd : o.dst = none) (ha : done ai = true) (hc : done ci = true) (hu : done si = false) (hg : Region.wanted o (yieldedBy ops (cv g)) = true)
    (he : w.heap[g.1]? = some (.cells ov T (0, 0)) → ∃ w2, (execOp (evalBy (cv g)) o).run Try.prog w = .ok .skip w2 ∧ (∀ n, n ≤ g.1 → Below n w w2) ∧ w2.heap[g.1]? = some (.cells nv T (0, 0))) : AskX w0 ai si xi ci T ov nv X ops cv done g w si o := by
  refine ⟨hg, ?_⟩
  obtain ⟨hge, hb⟩ := h.a.box ha
  rw [hu] at hb
  obtain ⟨w2, hr, hbb, hz⟩ := he hb
  rw [hr]
  have e1 : updB done si si = true := by simp [updB]
  refine ⟨g, ⟨⟨h.a.keep.trans (hbb _ hge), fun _ => upd_true ha, fun _ => ⟨hge, ?_⟩⟩, fun _ => upd_true hc, fun _ hs => ?_⟩, fun e hE => by rw [hd] at hE; exact absurd hE (by simp), fun _ _ => rfl⟩
  · rw [e1]
    exact hz
  · rw [e1] at hs
    cases hs
end
end Go.Proofs.Yticmeeinjkoodaa
