/- Pipes: a box that is made and filled in a drawn statement; that heat is conserved. -/
import Derived.Test.YticmeeinjkoodaaQC
import Derived.Deep.MidRow
namespace Go
section
variable {P : Program}
theorem exec_store_mid {o : Oper} {ev : Operand → Value} {w : World} (ty : TypeId) (x y : Operand) (ho : o.op = .store ty x y) (b : Nat) (cells : Array Value) (hx : ev x = .pointer (some ⟨b, 0, none⟩)) (hy : ev y = .agg cells)
    (ht : w.there b 0 cells.size) (hi : (P.info? ty).map (·.size) = some cells.size) (h1 : cells.all (·.oneCell') = true) : (execOp ev o).run P w = .ok .skip (w.setCells b 0 cells.toList) := by
  unfold execOp
  simp only [ho, hx, hy, Instr.storeAt, Instr.sureAddr, Sem.run_bind, Sem.run_pure, Result.andThen_ok, run_storeVar_mid w b 0 ty cells ht hi h1]
end
end Go
namespace Go.Proofs.Yticmeeinjkoodaa
open Go.RowKit Go.Shelf

/-! ### A box that is made and filled in a statement whose order is left open -/
structure NewA (w0 : World) (ai si : Nat) (T : TypeId) (ov nv : Array Value) (done : Nat → Bool) (g : Nat) (w' : World) : Prop where
  keep : Below w0.heap.size w0 w'
  ord : done si = true → done ai = true
  box : done ai = true → w0.heap.size ≤ g ∧ w'.heap[g]? = some (.cells (if done si then nv else ov) T (0, 0))
section
variable {w0 w : World} {ai si : Nat} {T : TypeId} {ov nv : Array Value} {done : Nat → Bool} {ops : Array Oper} {cv : Nat → Tmp → Value} {i g : Nat} {o : Oper}
abbrev AskN (w0 : World) (ai si : Nat) (T : TypeId) (ov nv : Array Value) (ops : Array Oper) (cv : Nat → Tmp → Value) (done : Nat → Bool) (g : Nat) (w : World) (i : Nat) (o : Oper) : Prop :=
  Region.wanted o (yieldedBy ops (cv g)) = true ∧ Yield Try.prog (fun v w' => ∃ g', NewA w0 ai si T ov nv (updB done i) g' w' ∧ (∀ d, o.dst = some d → cv g' d = v) ∧ ∀ t, o.dst ≠ some t → cv g' t = cv g t) ((execOp (evalBy (cv g)) o).run Try.prog w)
theorem NewA.step (h : NewA w0 ai si T ov nv done g w) {w' : World} (hb : Below w.heap.size w w') (hi : i ≠ si) (ha : i ≠ ai) : NewA w0 ai si T ov nv (updB done i) g w' := by
  have e1 : updB done i si = done si := by simp [updB, Ne.symm hi]
  have e2 : updB done i ai = done ai := by simp [updB, Ne.symm ha]
  refine ⟨h.keep.trans (hb.mono h.keep.size), ?_, fun hd => ?_⟩
  · rw [e1, e2]
    exact h.ord
  · rw [e2] at hd
    rw [e1]
    exact ⟨(h.box hd).1, (hb.block _ (heapszO (h.box hd).2)).trans (h.box hd).2⟩
theorem quietN (h : NewA w0 ai si T ov nv done g w) (d : Tmp) (hd : o.dst = some d) (hi : i ≠ si) (ha : i ≠ ai) (hg : Region.wanted o (yieldedBy ops (cv g)) = true)
    (he : (execOp (evalBy (cv g)) o).run Try.prog w = .ok (.value (cv g d)) w) : AskN w0 ai si T ov nv ops cv done g w i o := by
  refine ⟨hg, ?_⟩
  rw [he]
  exact ⟨g, h.step (Below.refl _ _) hi ha, fun e hE => by rw [hd] at hE; injection hE with hE; subst hE; rfl, fun _ _ => rfl⟩
theorem callN (h : NewA w0 ai si T ov nv done g w) (d : Tmp) (hd : o.dst = some d) (hi : i ≠ si) (ha : i ≠ ai) (hg : Region.wanted o (yieldedBy ops (cv g)) = true) (f : FuncId) (args : Array Value)
    (he : (execOp (evalBy (cv g)) o).run Try.prog w = .ok (.enter f args) w) (hc : Calls Try.prog f args w fun e w' => e = .returned (cv g d) ∧ Below w.heap.size w w') : AskN w0 ai si T ov nv ops cv done g w i o := by
  refine ⟨hg, ?_⟩
  rw [he]
  show Calls Try.prog f args w _
  refine hc.mono ?_
  rintro e w' ⟨rfl, hb⟩
  exact ⟨_, rfl, g, h.step hb hi ha, fun e hE => by rw [hd] at hE; injection hE with hE; subst hE; rfl, fun _ _ => rfl⟩
theorem allocN (h : NewA w0 ai si T ov nv done g w) (d : Tmp) (hd : o.dst = some d) (hu : done ai = false) (hne : ai ≠ si) (hg : Region.wanted o (yieldedBy ops (cv g)) = true)
    (hcd : ∀ g', cv g' d = .pointer (some ⟨g', 0, none⟩)) (hct : ∀ g' t, t ≠ d → cv g' t = cv g t)
    (he : (execOp (evalBy (cv g)) o).run Try.prog w = .ok (.value (.pointer (some ⟨w.heap.size, 0, none⟩))) (w.alloc (.cells ov T))) : AskN w0 ai si T ov nv ops cv done g w ai o := by
  refine ⟨hg, ?_⟩
  rw [he]
  have hs : done si = false := by
    cases hq : done si with
    | false => rfl
    | true => exact absurd (h.ord hq) (by rw [hu]; exact Bool.false_ne_true)
  refine ⟨w.heap.size, ⟨h.keep.alloc h.keep.size _, fun _ => by simp [updB], fun _ => ⟨h.keep.size, ?_⟩⟩, fun e hE => by rw [hd] at hE; injection hE with hE; subst hE; exact hcd _, fun t ht => hct _ t (fun e => ht (by rw [hd, e]))⟩
  have e1 : updB done ai si = false := by simp [updB, Ne.symm hne, hs]
  rw [e1]
  exact heap_alloc_new w _
theorem storeN (h : NewA w0 ai si T ov nv done g w) (hd : o.dst = none) (ha : done ai = true) (hu : done si = false) (hg : Region.wanted o (yieldedBy ops (cv g)) = true)
    (he : w.heap[g]? = some (.cells ov T (0, 0)) → ∃ w2, (execOp (evalBy (cv g)) o).run Try.prog w = .ok .skip w2 ∧ (∀ n, n ≤ g → Below n w w2) ∧ w2.heap[g]? = some (.cells nv T (0, 0))) : AskN w0 ai si T ov nv ops cv done g w si o := by
  refine ⟨hg, ?_⟩
  obtain ⟨hge, hb⟩ := h.box ha
  rw [hu] at hb
  obtain ⟨w2, hr, hbb, hz⟩ := he hb
  rw [hr]
  refine ⟨g, ⟨h.keep.trans (hbb _ hge), fun _ => upd_true ha, fun _ => ⟨hge, ?_⟩⟩, fun e hE => by rw [hd] at hE; exact absurd hE (by simp), fun _ _ => rfl⟩
  have e1 : updB done si si = true := by simp [updB]
  rw [e1]
  exact hz
end


theorem heat_info : (Try.prog.info? 43).map (·.size) = some 4 := by kernel_rfl
theorem one4 {v0 v1 v2 v3 : Value} (hv : v0.oneCell' = true ∧ v1.oneCell' = true ∧ v2.oneCell' = true ∧ v3.oneCell' = true) : (#[v0, v1, v2, v3] : Array Value).all (·.oneCell') = true :=
  all_oneCell_toArray (cs := [v0, v1, v2, v3]) (fun v hm => by
    obtain ⟨h0, h1, h2, h3⟩ := hv
    simp only [List.mem_cons, List.not_mem_nil, or_false] at hm
    rcases hm with rfl | rfl | rfl | rfl <;> assumption)
theorem store4 {w : World} {B : Nat} {a b c d : Value} {t : TypeId} (h : w.heap[B]? = some (.cells #[a, b, c, d] t (0, 0))) (v0 v1 v2 v3 : Value) :
    ∃ w', w.setCells B 0 (#[v0, v1, v2, v3] : Array Value).toList = w' ∧ w.there B 0 (#[v0, v1, v2, v3] : Array Value).size ∧ w'.heap[B]? = some (.cells #[v0, v1, v2, v3] t (0, 0)) ∧ (∀ j, j ≠ B → w'.heap[j]? = w.heap[j]?) ∧ (∀ n, n ≤ B → Below n w w') := by
  obtain ⟨f1, f2, f3⟩ := fill4 h v0 v1 v2 v3
  exact ⟨_, rfl, there_block h (by simp), f1, f2, f3⟩
/-! ### Heat -/
def fedK (ts : List Th) (k : Nat) : Int := (ts.take k).foldl (fun a t => a + (if t.fed then 1 else 0)) 0
theorem fed_succ {ts : List Th} {k : Nat} {t : Th} (h : ts[k]? = some t) : fedK ts (k + 1) = fedK ts k + (if t.fed then 1 else 0) := by
  unfold fedK
  rw [List.take_add_one, h, Option.toList_some, List.foldl_append]
  rfl
theorem fed_in (ts : List Th) : ∀ k, k ≤ ts.length → 0 ≤ fedK ts k ∧ fedK ts k ≤ (k : Int)
  | 0, _ => by simp [fedK]
  | k + 1, hk => by
    obtain ⟨t, ht⟩ := get_of_lt (l := ts) (k := k) (by omega)
    have := fed_in ts k (by omega)
    rw [fed_succ ht]
    split <;> omega
/-- What is asked of heat. -/
structure Sane (l : Lp) (S : Ht) (fed x : Int) : Prop where
  w : 0 ≤ S.w ∧ S.w ≤ 1000000
  b : S.b = l.ma * l.fe * fed
  g : 0 ≤ S.g ∧ S.g ≤ 10000000000000
  s : 0 ≤ S.s ∧ S.s ≤ 10000000000000
  e : l.ma * x + S.b = l.ma * S.w + S.g + S.s
theorem bal_step {l : Lp} {S : Ht} {x : Int} (h : l.ma * x + S.b = l.ma * S.w + S.g + S.s) (t : Th) : l.ma * x + (addH S (hourI l S.w t)).b = l.ma * (addH S (hourI l S.w t)).w + (addH S (hourI l S.w t)).g + (addH S (hourI l S.w t)).s := by
  have ew : (addH S (hourI l S.w t)).w = S.w + (gainI l t - lossI l S.w t) := rfl
  have eb : (addH S (hourI l S.w t)).b = S.b + gainI l t * l.ma := rfl
  have eg : (addH S (hourI l S.w t)).g = S.g + grndI l S.w t := rfl
  have es : (addH S (hourI l S.w t)).s = S.s + (lossI l S.w t * l.ma - grndI l S.w t) := rfl
  rw [ew, eb, eg, es, Int.mul_add, Int.mul_sub, Int.mul_comm l.ma (gainI l t), Int.mul_comm l.ma (lossI l S.w t)]
  omega
theorem play_bal {l : Lp} {x : Int} {ts : List Th} : ∀ k, k ≤ ts.length → l.ma * x + (playI l x (ts.take k)).b = l.ma * (playI l x (ts.take k)).w + (playI l x (ts.take k)).g + (playI l x (ts.take k)).s ∧ (playI l x (ts.take k)).b = l.ma * l.fe * fedK ts k
  | 0, _ => by simp [playI, fedK]
  | k + 1, hk => by
    obtain ⟨t, ht⟩ := get_of_lt (l := ts) (k := k) (by omega)
    obtain ⟨h1, h2⟩ := play_bal (l := l) (x := x) (ts := ts) k (by omega)
    rw [playI_take ht]
    refine ⟨bal_step h1 t, ?_⟩
    show (playI l x (ts.take k)).b + gainI l t * l.ma = _
    rw [h2, fed_succ ht, Int.mul_add]
    unfold gainI
    cases t.fed
    · simp
    · simp only [if_true, Int.mul_one]
      rw [Int.mul_comm l.fe l.ma]
theorem play_mono {l : Lp} (K : LpOk l) {x : Int} (hx : 0 ≤ x ∧ x ≤ 1000) {ts : List Th} (ht : ∀ t ∈ ts, ThOk t) (hn : ts.length ≤ 72) (k : Nat) : ∀ d, k + d ≤ ts.length → (playI l x (ts.take k)).g ≤ (playI l x (ts.take (k + d))).g ∧ (playI l x (ts.take k)).s ≤ (playI l x (ts.take (k + d))).s
  | 0, _ => ⟨Int.le_refl _, Int.le_refl _⟩
  | d + 1, hd => by
    obtain ⟨t, htt⟩ := get_of_lt (l := ts) (k := k + d) (by omega)
    obtain ⟨h1, h2⟩ := play_mono K hx ht hn k d (by omega)
    have hI := play_in K hx ht hn (k + d) (by omega)
    have hg := grnd_in K (ht t (List.mem_of_getElem? htt)) (w := (playI l x (ts.take (k + d))).w) (by have := hI.w; omega)
    rw [show k + (d + 1) = (k + d) + 1 from rfl, playI_take htt]
    exact ⟨by show _ ≤ (playI l x (ts.take (k + d))).g + grndI l _ t; omega, by show _ ≤ (playI l x (ts.take (k + d))).s + (lossI l _ t * l.ma - grndI l _ t); omega⟩
theorem sane_of {l : Lp} (K : LpOk l) {x : Int} (hx : 0 ≤ x ∧ x ≤ 1000) {ts : List Th} (ht : ∀ t ∈ ts, ThOk t) (hn : ts.length ≤ 72) {k : Nat} (hk : k ≤ ts.length) : Sane l (playI l x (ts.take k)) (fedK ts k) x := by
  have hI := play_in K hx ht hn k hk
  have hB := play_bal (l := l) (x := x) k hk
  exact ⟨by have := hI.w; omega, hB.2, by have := hI.g; omega, by have := hI.s; omega, hB.1⟩
set_option maxRecDepth 100000 in
set_option maxHeartbeats 4000000 in
theorem sane_any {l : Lp} (K : LpOk l) {S : Ht} {fed x : Int} (h : Sane l S fed x) (hx : 0 ≤ x ∧ x ≤ 1000) (hf : 0 ≤ fed ∧ fed ≤ 72) (w : World) :
    Calls Try.prog 29 #[lpV l, htV S, .int .i64 fed, .int .i64 x] w fun e w' => e = .returned (.bool true) ∧ Below w.heap.size w w' := by
  obtain ⟨sw, sb, sg, ss⟩ := S
  obtain ⟨hw, hb2, hg, hs, he⟩ := h
  simp only at hw hb2 hg hs he
  have a1 := mul_in (x := l.ma) (y := l.fe) (a := 10000) (b := 1000) (by have := K.ma; omega) K.fe
  have a2 := mul_in a1 (y := fed) (b := 72) hf
  have a3 := mul_in (x := l.ma) (y := x) (a := 10000) (b := 1000) (by have := K.ma; omega) hx
  have a4 := mul_in (x := l.ma) (y := sw) (a := 10000) (b := 1000000) (by have := K.ma; omega) hw
  subst hb2
  have n1 : wrap64 (l.ma * l.fe) = l.ma * l.fe := w64 (by omega)
  have n2 : wrap64 (l.ma * l.fe * fed) = l.ma * l.fe * fed := w64 (by omega)
  have n3 : wrap64 (l.ma * x) = l.ma * x := w64 (by omega)
  have n4 : wrap64 (l.ma * sw) = l.ma * sw := w64 (by omega)
  have n5 : wrap64 (l.ma * x + l.ma * l.fe * fed) = l.ma * x + l.ma * l.fe * fed := w64 (by omega)
  have n6 : wrap64 (l.ma * sw + sg) = l.ma * sw + sg := w64 (by omega)
  have n7 : wrap64 (l.ma * sw + sg + ss) = l.ma * x + l.ma * l.fe * fed := by rw [he]; exact w64 (by omega)
  have h1 : ¬ sw < 0 := by omega
  have h2 : ¬ 1000000 < sw := by omega
  have h3 : ¬ sg < 0 := by omega
  have h4 : ¬ 10000000000000 < sg := by omega
  have h5 : ¬ ss < 0 := by omega
  have h6 : ¬ 10000000000000 < ss := by omega
  obtain ⟨z0, z1, hb⟩ := two_new w (.cells (lpC l) 49) (.cells (htC ⟨sw, l.ma * l.fe * fed, sg, ss⟩) 43)
  obtain ⟨w2, hw2⟩ : ∃ z, (w.alloc (.cells (lpC l) 49)).alloc (.cells (htC ⟨sw, l.ma * l.fe * fed, sg, ss⟩) 43) = z := ⟨_, rfl⟩
  rw [hw2] at hb
  have HW := Lib.hid hw2; have HB := Lib.hid hb
  clear z0 z1 hb hw2 K hg hs a1 a2 a3 a4 hx hf hw he
  go_enter Try.func29, Try.ntmps29
  go_wp2_with fail
  have hb3 := HB.out
  rw [← HW.out] at hb3
  clear n1 n2 n3 n4 n5 n6 n7
  go_ret
  exact ⟨rfl, hb3⟩
end Go.Proofs.Yticmeeinjkoodaa
