/- Stores: two stores that are made and filled in one statement. -/
import Derived.Test.YtijjkiogmlannaaDoorDH
import Derived.Test.YtijjkiogmlannaaDoorCW
import Derived.Maps.AppendAt
import Derived.Laws.Append
namespace Go.Proofs.YtijjkiogmlannaaDoor
open Go.RowKit

/-- A store's twelve cells, filled. -/
theorem store12 {w : World} {B : Nat} (X : SX) (h : w.heap[B]? = some (.cells zs28 28 (0, 0))) :
    ∃ w', w.setCells B 0 X.cells.toList = w' ∧ w.there B 0 X.cells.size ∧ w'.heap[B]? = some (.cells X.cells 28 (0, 0)) ∧ (∀ j, j ≠ B → w'.heap[j]? = w.heap[j]?) ∧ ∀ n, n ≤ B → Below n w w' := by
  obtain ⟨z8, o8, hb8⟩ := setCells_block (X.cells).toList 0 w _ h
  refine ⟨_, rfl, fun j hj => ?_, ?_, o8, hb8⟩
  · have hj12 : j < 12 := hj
    have hc := cell_of_row w B j _ 28 (0, 0) h
    have hf : w.frozen? ⟨B, j, none⟩ = false := by simp [World.frozen?, h]
    rw [Nat.zero_add, hc, hf]
    refine ⟨?_, rfl⟩
    rw [Array.getElem?_eq_getElem (by simpa using hj12)]
    rfl
  · rw [z8]
    refine congrArg (fun c => some (Obj.cells c 28 (0, 0))) ?_
    clear z8 o8 hb8 h
    obtain ⟨S, a1, a2, a3, b1, b2, b3, c1, c2, c3⟩ := X
    simp [SX.cells]
theorem one12 (X : SX) : X.cells.all (·.oneCell') = true := all_oneCell_toArray (cs := X.cells.toList) (fun v hm => by simp at hm; rcases hm with rfl | rfl | rfl | rfl | rfl | rfl | rfl | rfl | rfl | rfl | rfl | rfl <;> rfl)
structure TwoA (w0 : World) (nv : Array Value) (done : Nat → Bool) (g : Nat × Nat) (w' : World) : Prop where
  a : NewA w0 2 4 28 zs28 nv done g.1 w'
  b : NewA w0 3 5 28 zs28 nv done g.2 w'
  ne : done 2 = true → done 3 = true → g.1 ≠ g.2
section
variable {w0 w : World} {nv : Array Value} {done : Nat → Bool} {ops : Array Oper} {cv : Nat × Nat → Tmp → Value} {i : Nat} {g : Nat × Nat} {o : Oper}
abbrev AskT (w0 : World) (nv : Array Value) (ops : Array Oper) (cv : Nat × Nat → Tmp → Value) (done : Nat → Bool) (g : Nat × Nat) (w : World) (i : Nat) (o : Oper) : Prop :=
  Region.wanted o (yieldedBy ops (cv g)) = true ∧ Yield Tryd.prog (fun v w' => ∃ g', TwoA w0 nv (updB done i) g' w' ∧ (∀ d, o.dst = some d → cv g' d = v) ∧ ∀ t, o.dst ≠ some t → cv g' t = cv g t) ((execOp (evalBy (cv g)) o).run Tryd.prog w)
theorem upd_other {i j : Nat} (h : j ≠ i) : updB done i j = done j := by simp [updB, h]
theorem quietT (h : TwoA w0 nv done g w) (d : Tmp) (hd : o.dst = some d) (h2 : 2 ≠ i) (h3 : 3 ≠ i) (h4 : 4 ≠ i) (h5 : 5 ≠ i) (hg : Region.wanted o (yieldedBy ops (cv g)) = true)
    (he : (execOp (evalBy (cv g)) o).run Tryd.prog w = .ok (.value (cv g d)) w) : AskT w0 nv ops cv done g w i o := by
  refine ⟨hg, ?_⟩
  rw [he]
  refine ⟨g, ⟨h.a.step (Below.refl _ _) (Ne.symm h4) (Ne.symm h2), h.b.step (Below.refl _ _) (Ne.symm h5) (Ne.symm h3), ?_⟩, fun e hE => by rw [hd] at hE; injection hE with hE; subst hE; rfl, fun _ _ => rfl⟩
  rw [upd_other h2, upd_other h3]
  exact h.ne
theorem new_alloc {ai si : Nat} {ov : Array Value} {T : TypeId} {g : Nat} (h : NewA w0 ai si T ov nv done g w) (hu : done ai = false) (hne : ai ≠ si) : NewA w0 ai si T ov nv (updB done ai) w.heap.size (w.alloc (.cells ov T)) := by
  have hs : done si = false := by
    cases hq : done si with
    | false => rfl
    | true => exact absurd (h.ord hq) (by rw [hu]; exact Bool.false_ne_true)
  refine ⟨h.keep.alloc h.keep.size _, fun _ => by simp [updB], fun _ => ⟨h.keep.size, ?_⟩⟩
  have e1 : updB done ai si = false := by simp [updB, Ne.symm hne, hs]
  rw [e1]
  exact heap_alloc_new w _
theorem alloc2 (h : TwoA w0 nv done g w) (d : Tmp) (hd : o.dst = some d) (hu : done 2 = false) (hg : Region.wanted o (yieldedBy ops (cv g)) = true)
    (hcd : ∀ g' : Nat × Nat, cv g' d = .pointer (some ⟨g'.1, 0, none⟩)) (hct : ∀ a b b' t, t ≠ d → cv (a, b) t = cv (b', b) t)
    (he : (execOp (evalBy (cv g)) o).run Tryd.prog w = .ok (.value (.pointer (some ⟨w.heap.size, 0, none⟩))) (w.alloc (.cells zs28 28))) : AskT w0 nv ops cv done g w 2 o := by
  refine ⟨hg, ?_⟩
  rw [he]
  refine ⟨(w.heap.size, g.2), ⟨new_alloc h.a hu (by decide), h.b.step ((Below.refl _ _).alloc (Nat.le_refl _) _) (by decide) (by decide), fun _ h3 => ?_⟩, fun e hE => by rw [hd] at hE; injection hE with hE; subst hE; exact hcd _, fun t ht => hct _ _ _ t (fun e => ht (by rw [hd, e]))⟩
  rw [upd_other (by decide)] at h3
  have := heapszO (h.b.box h3).2
  show w.heap.size ≠ g.2
  omega
theorem alloc3 (h : TwoA w0 nv done g w) (d : Tmp) (hd : o.dst = some d) (hu : done 3 = false) (hg : Region.wanted o (yieldedBy ops (cv g)) = true)
    (hcd : ∀ g' : Nat × Nat, cv g' d = .pointer (some ⟨g'.2, 0, none⟩)) (hct : ∀ a b b' t, t ≠ d → cv (a, b) t = cv (a, b') t)
    (he : (execOp (evalBy (cv g)) o).run Tryd.prog w = .ok (.value (.pointer (some ⟨w.heap.size, 0, none⟩))) (w.alloc (.cells zs28 28))) : AskT w0 nv ops cv done g w 3 o := by
  refine ⟨hg, ?_⟩
  rw [he]
  refine ⟨(g.1, w.heap.size), ⟨h.a.step ((Below.refl _ _).alloc (Nat.le_refl _) _) (by decide) (by decide), new_alloc h.b hu (by decide), fun h2 _ => ?_⟩, fun e hE => by rw [hd] at hE; injection hE with hE; subst hE; exact hcd _, fun t ht => hct _ _ _ t (fun e => ht (by rw [hd, e]))⟩
  rw [upd_other (by decide)] at h2
  have := heapszO (h.a.box h2).2
  show g.1 ≠ w.heap.size
  omega
theorem new_store {ai si : Nat} {ov : Array Value} {T : TypeId} {g : Nat} {w2 : World} (h : NewA w0 ai si T ov nv done g w) (ha : done ai = true) (hbb : ∀ n, n ≤ g → Below n w w2) (hz : w2.heap[g]? = some (.cells nv T (0, 0))) : NewA w0 ai si T ov nv (updB done si) g w2 := by
  obtain ⟨hge, _⟩ := h.box ha
  refine ⟨h.keep.trans (hbb _ hge), fun _ => upd_true ha, fun _ => ⟨hge, ?_⟩⟩
  have e1 : updB done si si = true := by simp [updB]
  rw [e1]
  exact hz
theorem new_aside {ai si k : Nat} {ov : Array Value} {T : TypeId} {g : Nat} {w2 : World} (h : NewA w0 ai si T ov nv done g w) (ha : ai ≠ k) (hs : si ≠ k) (hb : Below w0.heap.size w w2) (ho : done ai = true → w2.heap[g]? = w.heap[g]?) : NewA w0 ai si T ov nv (updB done k) g w2 := by
  refine ⟨h.keep.trans hb, ?_, ?_⟩
  · rw [upd_other hs, upd_other ha]; exact h.ord
  · rw [upd_other hs, upd_other ha]; exact fun hd => ⟨(h.box hd).1, (ho hd).trans (h.box hd).2⟩
theorem store4 (h : TwoA w0 nv done g w) (hd : o.dst = none) (ha : done 2 = true) (hu : done 4 = false) (hg : Region.wanted o (yieldedBy ops (cv g)) = true)
    (he : w.heap[g.1]? = some (.cells zs28 28 (0, 0)) → ∃ w2, (execOp (evalBy (cv g)) o).run Tryd.prog w = .ok .skip w2 ∧ (∀ n, n ≤ g.1 → Below n w w2) ∧ w2.heap[g.1]? = some (.cells nv 28 (0, 0)) ∧ ∀ j, j ≠ g.1 → w2.heap[j]? = w.heap[j]?) : AskT w0 nv ops cv done g w 4 o := by
  refine ⟨hg, ?_⟩
  obtain ⟨hge, hb⟩ := h.a.box ha
  rw [hu] at hb
  obtain ⟨w2, hr, hbb, hz, ho⟩ := he hb
  rw [hr]
  refine ⟨g, ⟨new_store h.a ha hbb hz, new_aside h.b (by decide) (by decide) (hbb _ hge) (fun h3 => ho _ (Ne.symm (h.ne ha h3))), ?_⟩, fun e hE => by rw [hd] at hE; exact absurd hE (by simp), fun _ _ => rfl⟩
  rw [upd_other (by decide), upd_other (by decide)]
  exact h.ne
theorem store5T (h : TwoA w0 nv done g w) (hd : o.dst = none) (ha : done 3 = true) (hu : done 5 = false) (hg : Region.wanted o (yieldedBy ops (cv g)) = true)
    (he : w.heap[g.2]? = some (.cells zs28 28 (0, 0)) → ∃ w2, (execOp (evalBy (cv g)) o).run Tryd.prog w = .ok .skip w2 ∧ (∀ n, n ≤ g.2 → Below n w w2) ∧ w2.heap[g.2]? = some (.cells nv 28 (0, 0)) ∧ ∀ j, j ≠ g.2 → w2.heap[j]? = w.heap[j]?) : AskT w0 nv ops cv done g w 5 o := by
  refine ⟨hg, ?_⟩
  obtain ⟨hge, hb⟩ := h.b.box ha
  rw [hu] at hb
  obtain ⟨w2, hr, hbb, hz, ho⟩ := he hb
  rw [hr]
  refine ⟨g, ⟨new_aside h.a (by decide) (by decide) (hbb _ hge) (fun h2 => ho _ (h.ne h2 ha)), new_store h.b ha hbb hz, ?_⟩, fun e hE => by rw [hd] at hE; exact absurd hE (by simp), fun _ _ => rfl⟩
  rw [upd_other (by decide), upd_other (by decide)]
  exact h.ne
end
def moCv (B : Nat) (v : Value) (g : Nat × Nat) : Tmp → Value
  | 4 => .pointer (some ⟨B, 0, none⟩)
  | 36 => v
  | 37 => v
  | 9 => .pointer (some ⟨g.1, 0, none⟩)
  | 10 => .pointer (some ⟨g.2, 0, none⟩)
  | _ => undef
end Go.Proofs.YtijjkiogmlannaaDoor
