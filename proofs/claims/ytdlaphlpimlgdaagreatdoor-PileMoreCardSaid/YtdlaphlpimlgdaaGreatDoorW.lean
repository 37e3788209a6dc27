/- A region in which a box of three cells is made and filled beside calls; how far a pile settles at most, and at least. -/
import Derived.Test.YtdlaphlpimlgdaaGreatDoorS
import Derived.Test.YtdlaphlpimlgdaaGreatDoorRE
namespace Go.Proofs.YtdlaphlpimlgdaaGreatDoor
open Go.RowKit

/-- Every operation of a list, by its number. -/
def AllOps (Φ : Nat → Oper → Prop) : Nat → List Oper → Prop
  | _, [] => True
  | k, o :: r => Φ k o ∧ AllOps Φ (k + 1) r
theorem allOps_at {Φ : Nat → Oper → Prop} : ∀ {l : List Oper} {k : Nat}, AllOps Φ k l → ∀ i o, l[i]? = some o → Φ (k + i) o
  | [], _, _, i, o, hi => by simp at hi
  | p :: r, k, h, 0, o, hi => by
    have : p = o := by simpa using hi
    subst this
    exact h.1
  | p :: r, k, h, i + 1, o, hi => by
    have := allOps_at h.2 i o (by simpa using hi)
    rw [show k + (i + 1) = k + 1 + i by omega]
    exact this
theorem allOps_array {Φ : Nat → Oper → Prop} {l : List Oper} (h : AllOps Φ 0 l) : ∀ i o, l.toArray[i]? = some o → Φ i o := fun i o hi => by
  have := allOps_at h i o (by simpa using hi)
  rwa [Nat.zero_add] at this
theorem upd_true {done : Nat → Bool} {i j : Nat} (h : done j = true) : updB done i j = true := by
  unfold updB
  split
  · rfl
  · exact h
theorem heapszO {w : World} {B : Nat} {x : Obj} (h : w.heap[B]? = some x) : B < w.heap.size := (Array.getElem?_eq_some_iff.1 h).1
/-- Memory while a box of three cells is made ('ai') and filled ('si'); g: where it lies. -/
structure NewS (w0 : World) (ai si : Nat) (T : TypeId) (o n : Value × Value × Value) (done : Nat → Bool) (g : Nat) (w' : World) : Prop where
  keep : Below w0.heap.size w0 w'
  ord : done si = true → done ai = true
  box : done ai = true → w0.heap.size ≤ g ∧ w'.heap[g]? = some (.cells (if done si then #[n.1, n.2.1, n.2.2] else #[o.1, o.2.1, o.2.2]) T (0, 0))
section
variable {w0 w : World} {ai si : Nat} {T : TypeId} {ov nv : Value × Value × Value} {done : Nat → Bool} {ops : Array Oper} {cv : Nat → Tmp → Value} {i g : Nat} {o : Oper}
abbrev AskN (w0 : World) (ai si : Nat) (T : TypeId) (ov nv : Value × Value × Value) (ops : Array Oper) (cv : Nat → Tmp → Value) (done : Nat → Bool) (g : Nat) (w : World) (i : Nat) (o : Oper) : Prop :=
  Region.wanted o (yieldedBy ops (cv g)) = true ∧ Yield Tryz.prog (fun v w' => ∃ g', NewS w0 ai si T ov nv (updB done i) g' w' ∧ (∀ d, o.dst = some d → cv g' d = v) ∧ ∀ t, o.dst ≠ some t → cv g' t = cv g t) ((execOp (evalBy (cv g)) o).run Tryz.prog w)
theorem NewS.step (h : NewS w0 ai si T ov nv done g w) {w' : World} (hb : Below w.heap.size w w') (hi : i ≠ si) (ha : i ≠ ai) : NewS w0 ai si T ov nv (updB done i) g w' :=
  ⟨h.keep.trans (hb.mono h.keep.size), by
    have e1 : updB done i si = done si := by simp [updB, Ne.symm hi]
    have e2 : updB done i ai = done ai := by simp [updB, Ne.symm ha]
    rw [e1, e2]
    exact h.ord, fun hd => by
    have e1 : updB done i si = done si := by simp [updB, Ne.symm hi]
    have e2 : updB done i ai = done ai := by simp [updB, Ne.symm ha]
    rw [e2] at hd
    rw [e1]
    exact ⟨(h.box hd).1, (hb.block _ (heapszO (h.box hd).2)).trans (h.box hd).2⟩⟩
theorem quietN (h : NewS w0 ai si T ov nv done g w) (d : Tmp) (hd : o.dst = some d) (hi : i ≠ si) (ha : i ≠ ai) (hg : Region.wanted o (yieldedBy ops (cv g)) = true)
    (he : (execOp (evalBy (cv g)) o).run Tryz.prog w = .ok (.value (cv g d)) w) : AskN w0 ai si T ov nv ops cv done g w i o := by
  refine ⟨hg, ?_⟩
  rw [he]
  exact ⟨g, h.step (Below.refl _ _) hi ha, fun e hE => by rw [hd] at hE; injection hE with hE; subst hE; rfl, fun _ _ => rfl⟩
theorem callN (h : NewS w0 ai si T ov nv done g w) (d : Tmp) (hd : o.dst = some d) (hi : i ≠ si) (ha : i ≠ ai) (hg : Region.wanted o (yieldedBy ops (cv g)) = true) (f : FuncId) (args : Array Value)
    (he : (execOp (evalBy (cv g)) o).run Tryz.prog w = .ok (.enter f args) w) (hc : Calls Tryz.prog f args w fun e w' => e = .returned (cv g d) ∧ Below w.heap.size w w') : AskN w0 ai si T ov nv ops cv done g w i o := by
  refine ⟨hg, ?_⟩
  rw [he]
  show Calls Tryz.prog f args w _
  refine hc.mono ?_
  rintro e w' ⟨rfl, hb⟩
  exact ⟨_, rfl, g, h.step hb hi ha, fun e hE => by rw [hd] at hE; injection hE with hE; subst hE; rfl, fun _ _ => rfl⟩
theorem allocN (h : NewS w0 ai si T ov nv done g w) (d : Tmp) (hd : o.dst = some d) (hu : done ai = false) (hne : ai ≠ si) (hg : Region.wanted o (yieldedBy ops (cv g)) = true)
    (hcd : ∀ g', cv g' d = .pointer (some ⟨g', 0, none⟩)) (hct : ∀ g' t, t ≠ d → cv g' t = cv g t)
    (he : (execOp (evalBy (cv g)) o).run Tryz.prog w = .ok (.value (.pointer (some ⟨w.heap.size, 0, none⟩))) (w.alloc (.cells #[ov.1, ov.2.1, ov.2.2] T))) : AskN w0 ai si T ov nv ops cv done g w ai o := by
  refine ⟨hg, ?_⟩
  rw [he]
  have hs : done si = false := by
    cases hq : done si with
    | false => rfl
    | true => exact absurd (h.ord hq) (by rw [hu]; exact Bool.false_ne_true)
  refine ⟨w.heap.size, ⟨h.keep.alloc h.keep.size _, fun _ => by simp [updB], fun _ => ⟨h.keep.size, ?_⟩⟩, fun e hE => by rw [hd] at hE; injection hE with hE; subst hE; exact hcd _, fun t ht => hct _ t (fun e => ht (by rw [hd, e]))⟩
  have e1 : updB done ai si = false := by simp [updB, Ne.symm hne, hs]
  rw [e1]
  exact heap_alloc_last w _
theorem storeN (h : NewS w0 ai si T ov nv done g w) (hd : o.dst = none) (ha : done ai = true) (hu : done si = false) (hg : Region.wanted o (yieldedBy ops (cv g)) = true)
    (he : (∀ a, w.frozen? ⟨g, a, none⟩ = false) → w.cell? ⟨g, 0, none⟩ = some ov.1 → w.cell? ⟨g, 1, none⟩ = some ov.2.1 → w.cell? ⟨g, 2, none⟩ = some ov.2.2 →
      (execOp (evalBy (cv g)) o).run Tryz.prog w = .ok .skip (((w.setCell ⟨g, 0, none⟩ nv.1).setCell ⟨g, 1, none⟩ nv.2.1).setCell ⟨g, 2, none⟩ nv.2.2)) : AskN w0 ai si T ov nv ops cv done g w si o := by
  refine ⟨hg, ?_⟩
  obtain ⟨hge, hb⟩ := h.box ha
  rw [hu] at hb
  obtain ⟨c0, c1, c2⟩ := box3_cells hb
  have hf : ∀ a, w.frozen? ⟨g, a, none⟩ = false := fun a => box3_frozen hb a
  rw [he hf c0 c1 c2]
  refine ⟨g, ⟨((h.keep.setCell (p := ⟨g, 0, none⟩) hge _).setCell (p := ⟨g, 1, none⟩) hge _).setCell (p := ⟨g, 2, none⟩) hge _, fun _ => upd_true ha, fun _ => ⟨hge, ?_⟩⟩, fun e hE => by rw [hd] at hE; exact absurd hE (by simp), fun _ _ => rfl⟩
  have e1 : updB done si si = true := by simp [updB]
  rw [e1]
  simpa using blk_set (blk_set (blk_set hb 0 nv.1) 1 nv.2.1) 2 nv.2.2
end
def seCv (G b o np cp t i : Nat) (F : Nat) (C L : Int) (r : Rw) (f : Bool) (g : Nat) : Tmp → Value
  | 0 => .pointer (some ⟨G, 0, none⟩)
  | 1 => .int .i64 (t : Int)
  | 2 => .int .i64 (i : Int)
  | 10 => .pointer (some ⟨G, 0, none⟩)
  | 11 => .pointer (some ⟨G, 0, none⟩)
  | 12 => .int .i64 (t : Int)
  | 13 => .int .i64 (i : Int)
  | 14 => .int .i64 C
  | 15 => .pointer (some ⟨G, 0, none⟩)
  | 16 => .pointer (some ⟨G, 0, none⟩)
  | 17 => .pointer (some ⟨G, 0, none⟩)
  | 18 => .pointer (some ⟨G, 0, none⟩)
  | 19 => .slice (some ⟨b, o, none⟩) np cp
  | 20 => .int .i64 (i : Int)
  | 21 => .pointer (some ⟨b, o + i * 7, none⟩)
  | 22 => .pointer (some ⟨b, o + i * 7 + 3, none⟩)
  | 23 => .pointer (some ⟨b, o + i * 7 + F, none⟩)
  | 24 => .int .i64 L
  | 25 => .tuple #[.agg #[.int .i64 r.u, .int .i64 r.lo, .int .i64 r.hi], .bool f]
  | 9 => .tuple #[.agg #[.int .i64 r.u, .int .i64 r.lo, .int .i64 r.hi], .bool f]
  | 26 => .agg #[.int .i64 r.u, .int .i64 r.lo, .int .i64 r.hi]
  | 27 => .bool f
  | 7 => .pointer (some ⟨g, 0, none⟩)
  | 8 => .bool f
  | _ => undef
set_option maxRecDepth 100000 in
set_option maxHeartbeats 4000000 in
theorem mostSettled_any (G : Nat) (AP AQ AR A : Option Addr) (np cp nq cq nr cr n c t i : Nat) (ps : List Pil) (rs : List Rw) (may sink tilt : Int) (ts : List (List Sp)) (row : List Sp) (x : Pil) (y : Sp) (w : World) (hG : LookAt w G AP AQ AR A np cp nq cq nr cr n c may sink tilt)
    (hp : ps.length = np) (hP : PilsAt w w.heap.size AP ps) (hr : rs.length = nr) (hr0 : 1 ≤ nr) (hr2 : nr ≤ maxLen) (hR : RwsAt w w.heap.size AR rs) (hl : ts.length = n) (hT : SpsAt w w.heap.size A ts) (ht : ts[t]? = some row) (hi : row[i]? = some y) (hx : ps[i]? = some x) (hB : pilB x = true) (hY : spB y = true) :
    Calls Tryz.prog 109 #[.pointer (some ⟨G, 0, none⟩), .int .i64 (t : Int), .int .i64 (i : Int)] w fun e w' => e = .returned (.int .i64 (rowI rs (carI x y.2) x.h).1.hi) ∧ Below w.heap.size w w' := by
  have HG := Lib.hid hG
  have hyb := withinB_iff.1 hY
  have hxb := (pilB_iff.1 hB).2.2.2.1
  have hcb := carI_b hB (t := y.2) (by omega)
  have hil : i < np := by rw [← hp]; exact (List.getElem?_eq_some_iff.1 hx).1
  have H1 : Hid (∀ u : World, Below w.heap.size w u → Calls Tryz.prog 106 #[.pointer (some ⟨G, 0, none⟩), .int .i64 (t : Int), .int .i64 (i : Int)] u fun e w' => e = .returned (.int .i64 (carI x y.2)) ∧ Below u.heap.size u w') :=
    Lib.hid fun u hu => leastCarried_any G AP AQ AR A np cp nq cq nr cr n c t i ps may sink tilt ts row x y u ((hu.block _ (heapsz hG)).trans hG) hp (hP.up hu) hl (hT.up hu) ht hi hx hB hY
  have H2 : Hid (∀ u : World, Below w.heap.size w u → Calls Tryz.prog 112 #[.pointer (some ⟨G, 0, none⟩), .int .i64 (carI x y.2), .int .i64 x.h] u fun e w' => e = .returned (.tuple #[.agg #[.int .i64 (rowI rs (carI x y.2) x.h).1.u, .int .i64 (rowI rs (carI x y.2) x.h).1.lo, .int .i64 (rowI rs (carI x y.2) x.h).1.hi], .bool (rowI rs (carI x y.2) x.h).2]) ∧ Below u.heap.size u w') :=
    Lib.hid fun u hu => rowOf_any G AP AQ AR A np cp nq cq nr cr n c rs may sink tilt _ _ u ((hu.block _ (heapsz hG)).trans hG) hr hr0 hr2 (hR.up hu) hcb (by omega)
  obtain ⟨b, o, rfl, hb, hcs⟩ := pil_cells hP (by intro e; rw [e] at hx; simp at hx)
  obtain ⟨_, _, _, l3, l4, _, _⟩ := hcs i x hx
  have g0 := (look_cells hG).1
  have FC : Hid (∀ u : World, Below w.heap.size w u → u.cell? ⟨G, 0, none⟩ = some (.slice (some ⟨b, o, none⟩) np cp) ∧ u.cell? ⟨b, o + i * 7 + 4, none⟩ = some (.int .i64 x.h)) := Lib.hid fun u hu => ⟨((bcell hu).1 _ 0 (heapsz hG)).trans g0, ((bcell hu).1 _ _ hb).trans l4⟩
  obtain ⟨R, hR2⟩ : ∃ z, rowI rs (carI x y.2) x.h = z := ⟨_, rfl⟩
  obtain ⟨C, hC2⟩ : ∃ z, carI x y.2 = z := ⟨_, rfl⟩
  obtain ⟨L, hL2⟩ : ∃ z, x.h = z := ⟨_, rfl⟩
  have i0 : (0 : Int) ≤ (i : Int) := by omega
  have i1 : (i : Int) < (np : Int) := by omega
  rw [hR2] at H2 ⊢
  rw [hC2] at H1 H2
  rw [hL2] at H2 FC
  clear hG hP hR hT hp hl hr hr0 hr2 ht hi hx hB hY hyb hxb hcb hcs l3 l4 g0 hR2 hC2 hL2 hb
  go_enter Tryz.func109, Tryz.ntmps109
  go_wp2_with fail
  refine wp_region_any (by kernel_rfl) (plan_guarded_any (γ := Nat) [0, 1, 2] (seCv G b o np cp t i 4 C L R.1 R.2) (fun done g w' => NewS w 19 20 119 (.int .i64 0, .int .i64 0, .int .i64 0) (.int .i64 R.1.u, .int .i64 R.1.lo, .int .i64 R.1.hi) done g w') 0 (by kernel_rfl) (by kernel_rfl) (by kernel_rfl) (by kernel_rfl) ?_ ?_ ?_ ?_)
  · intro t ht
    simp only [List.mem_cons, List.not_mem_nil, or_false] at ht
    rcases ht with rfl | rfl | rfl <;> rfl
  · exact ⟨(Below.refl w.heap.size w).drew, fun h => by simp at h, fun h => by simp at h⟩
  · refine allOps_array ?_
    refine ⟨?_, ?_, ?_, ?_, ?_, ?_, ?_, ?_, ?_, ?_, ?_, ?_, ?_, ?_, ?_, ?_, ?_, ?_, ?_, ?_, ?_, ?_, trivial⟩
    · intro done g w' hS hu hdep _
      refine quietN hS 10 rfl (by decide) (by decide) rfl ?_
      simp [go_sem, evalBy, seCv]
    · intro done g w' hS hu hdep _
      refine quietN hS 11 rfl (by decide) (by decide) rfl ?_
      simp [go_sem, evalBy, seCv]
    · intro done g w' hS hu hdep _
      refine quietN hS 12 rfl (by decide) (by decide) rfl ?_
      simp [go_sem, evalBy, seCv]
    · intro done g w' hS hu hdep _
      refine quietN hS 13 rfl (by decide) (by decide) rfl ?_
      simp [go_sem, evalBy, seCv]
    · intro done g w' hS hu hdep _
      refine callN hS 14 rfl (by decide) (by decide) rfl 106 #[.pointer (some ⟨G, 0, none⟩), .int .i64 (t : Int), .int .i64 (i : Int)] (by simp [go_sem, evalBy, seCv]) ?_
      exact H1.out w' hS.keep
    · intro done g w' hS hu hdep _
      refine quietN hS 15 rfl (by decide) (by decide) rfl ?_
      simp [go_sem, evalBy, seCv]
    · intro done g w' hS hu hdep _
      refine quietN hS 16 rfl (by decide) (by decide) rfl ?_
      simp [go_sem, evalBy, seCv]
    · intro done g w' hS hu hdep _
      refine quietN hS 17 rfl (by decide) (by decide) rfl ?_
      simp [go_sem, evalBy, seCv]
    · intro done g w' hS hu hdep _
      refine quietN hS 18 rfl (by decide) (by decide) rfl ?_
      simp [go_sem, evalBy, seCv]
    · intro done g w' hS hu hdep _
      obtain ⟨x0, x1⟩ := FC.out w' hS.keep
      refine quietN hS 19 rfl (by decide) (by decide) rfl ?_
      simp [go_sem, evalBy, seCv, x0]
    · intro done g w' hS hu hdep _
      refine quietN hS 20 rfl (by decide) (by decide) rfl ?_
      simp [go_sem, evalBy, seCv]
    · intro done g w' hS hu hdep _
      refine quietN hS 21 rfl (by decide) (by decide) rfl ?_
      simp [go_sem, evalBy, seCv, i0, i1]
    · intro done g w' hS hu hdep _
      refine quietN hS 22 rfl (by decide) (by decide) rfl ?_
      simp [go_sem, evalBy, seCv]
    · intro done g w' hS hu hdep _
      refine quietN hS 23 rfl (by decide) (by decide) rfl ?_
      simp [go_sem, evalBy, seCv]
    · intro done g w' hS hu hdep _
      obtain ⟨x0, x1⟩ := FC.out w' hS.keep
      refine quietN hS 24 rfl (by decide) (by decide) rfl ?_
      simp [go_sem, evalBy, seCv, x1]
    · intro done g w' hS hu hdep _
      refine callN hS 25 rfl (by decide) (by decide) rfl 112 #[.pointer (some ⟨G, 0, none⟩), .int .i64 C, .int .i64 L] (by simp [go_sem, evalBy, seCv]) ?_
      exact H2.out w' hS.keep
    · intro done g w' hS hu hdep _
      refine quietN hS 9 rfl (by decide) (by decide) rfl ?_
      simp [go_sem, evalBy, seCv]
    · intro done g w' hS hu hdep _
      refine quietN hS 26 rfl (by decide) (by decide) rfl ?_
      simp [go_sem, evalBy, seCv]
    · intro done g w' hS hu hdep _
      refine quietN hS 27 rfl (by decide) (by decide) rfl ?_
      simp [go_sem, evalBy, seCv]
    · intro done g w' hS hu hdep _
      refine allocN hS 7 rfl hu (by decide) rfl (fun _ => rfl) ?_ (by simp [go_sem])
      intro g' t' ht'
      unfold seCv
      split <;> first | rfl | exact absurd rfl ht'
    · intro done g w' hS hu hdep _
      refine storeN hS rfl (hdep ⟨19, .data⟩ (by simp) rfl) hu rfl ?_
      intro hf d0 d1 d2
      have f0 := hf 0; have f1 := hf 1; have f2 := hf 2
      clear hf
      simp at d0 d1 d2
      simp [go_sem, evalBy, seCv, f0, f1, f2, d0, d1, d2]
    · intro done g w' hS hu hdep _
      refine quietN hS 8 rfl (by decide) (by decide) rfl ?_
      simp [go_sem, evalBy, seCv]
  · intro g wE hS
    obtain ⟨hge, hbx⟩ := hS.box (by decide)
    rw [if_pos (by decide)] at hbx
    obtain ⟨e0, e1, e2⟩ := box3_cells hbx
    have HK := Lib.hid hS.keep
    clear hS hbx
    simp [putAll, Act.put, seCv]
    go_wp2_with fail
    go_ret
    exact ⟨rfl, HK.out⟩
set_option maxRecDepth 100000 in
set_option maxHeartbeats 4000000 in
theorem leastSettled_any (G : Nat) (AP AQ AR A : Option Addr) (np cp nq cq nr cr n c t i : Nat) (ps : List Pil) (rs : List Rw) (may sink tilt : Int) (ts : List (List Sp)) (row : List Sp) (x : Pil) (y : Sp) (w : World) (hG : LookAt w G AP AQ AR A np cp nq cq nr cr n c may sink tilt)
    (hp : ps.length = np) (hP : PilsAt w w.heap.size AP ps) (hr : rs.length = nr) (hr0 : 1 ≤ nr) (hr2 : nr ≤ maxLen) (hR : RwsAt w w.heap.size AR rs) (hl : ts.length = n) (hT : SpsAt w w.heap.size A ts) (ht : ts[t]? = some row) (hi : row[i]? = some y) (hx : ps[i]? = some x) (hB : pilB x = true) (hY : spB y = true) :
    Calls Tryz.prog 110 #[.pointer (some ⟨G, 0, none⟩), .int .i64 (t : Int), .int .i64 (i : Int)] w fun e w' => e = .returned (.int .i64 (rowI rs (carI x y.1) x.l).1.lo) ∧ Below w.heap.size w w' := by
  have HG := Lib.hid hG
  have hyb := withinB_iff.1 hY
  have hxb := (pilB_iff.1 hB).2.2.2.1
  have hcb := carI_b hB (t := y.1) (by omega)
  have hil : i < np := by rw [← hp]; exact (List.getElem?_eq_some_iff.1 hx).1
  have H1 : Hid (∀ u : World, Below w.heap.size w u → Calls Tryz.prog 107 #[.pointer (some ⟨G, 0, none⟩), .int .i64 (t : Int), .int .i64 (i : Int)] u fun e w' => e = .returned (.int .i64 (carI x y.1)) ∧ Below u.heap.size u w') :=
    Lib.hid fun u hu => mostCarried_any G AP AQ AR A np cp nq cq nr cr n c t i ps may sink tilt ts row x y u ((hu.block _ (heapsz hG)).trans hG) hp (hP.up hu) hl (hT.up hu) ht hi hx hB hY
  have H2 : Hid (∀ u : World, Below w.heap.size w u → Calls Tryz.prog 112 #[.pointer (some ⟨G, 0, none⟩), .int .i64 (carI x y.1), .int .i64 x.l] u fun e w' => e = .returned (.tuple #[.agg #[.int .i64 (rowI rs (carI x y.1) x.l).1.u, .int .i64 (rowI rs (carI x y.1) x.l).1.lo, .int .i64 (rowI rs (carI x y.1) x.l).1.hi], .bool (rowI rs (carI x y.1) x.l).2]) ∧ Below u.heap.size u w') :=
    Lib.hid fun u hu => rowOf_any G AP AQ AR A np cp nq cq nr cr n c rs may sink tilt _ _ u ((hu.block _ (heapsz hG)).trans hG) hr hr0 hr2 (hR.up hu) hcb (by omega)
  obtain ⟨b, o, rfl, hb, hcs⟩ := pil_cells hP (by intro e; rw [e] at hx; simp at hx)
  obtain ⟨_, _, _, l3, l4, _, _⟩ := hcs i x hx
  have g0 := (look_cells hG).1
  have FC : Hid (∀ u : World, Below w.heap.size w u → u.cell? ⟨G, 0, none⟩ = some (.slice (some ⟨b, o, none⟩) np cp) ∧ u.cell? ⟨b, o + i * 7 + 3, none⟩ = some (.int .i64 x.l)) := Lib.hid fun u hu => ⟨((bcell hu).1 _ 0 (heapsz hG)).trans g0, ((bcell hu).1 _ _ hb).trans l3⟩
  obtain ⟨R, hR2⟩ : ∃ z, rowI rs (carI x y.1) x.l = z := ⟨_, rfl⟩
  obtain ⟨C, hC2⟩ : ∃ z, carI x y.1 = z := ⟨_, rfl⟩
  obtain ⟨L, hL2⟩ : ∃ z, x.l = z := ⟨_, rfl⟩
  have i0 : (0 : Int) ≤ (i : Int) := by omega
  have i1 : (i : Int) < (np : Int) := by omega
  rw [hR2] at H2 ⊢
  rw [hC2] at H1 H2
  rw [hL2] at H2 FC
  clear hG hP hR hT hp hl hr hr0 hr2 ht hi hx hB hY hyb hxb hcb hcs l3 l4 g0 hR2 hC2 hL2 hb
  go_enter Tryz.func110, Tryz.ntmps110
  go_wp2_with fail
  refine wp_region_any (by kernel_rfl) (plan_guarded_any (γ := Nat) [0, 1, 2] (seCv G b o np cp t i 3 C L R.1 R.2) (fun done g w' => NewS w 19 20 119 (.int .i64 0, .int .i64 0, .int .i64 0) (.int .i64 R.1.u, .int .i64 R.1.lo, .int .i64 R.1.hi) done g w') 0 (by kernel_rfl) (by kernel_rfl) (by kernel_rfl) (by kernel_rfl) ?_ ?_ ?_ ?_)
  · intro t ht
    simp only [List.mem_cons, List.not_mem_nil, or_false] at ht
    rcases ht with rfl | rfl | rfl <;> rfl
  · exact ⟨(Below.refl w.heap.size w).drew, fun h => by simp at h, fun h => by simp at h⟩
  · refine allOps_array ?_
    refine ⟨?_, ?_, ?_, ?_, ?_, ?_, ?_, ?_, ?_, ?_, ?_, ?_, ?_, ?_, ?_, ?_, ?_, ?_, ?_, ?_, ?_, ?_, trivial⟩
    · intro done g w' hS hu hdep _
      refine quietN hS 10 rfl (by decide) (by decide) rfl ?_
      simp [go_sem, evalBy, seCv]
    · intro done g w' hS hu hdep _
      refine quietN hS 11 rfl (by decide) (by decide) rfl ?_
      simp [go_sem, evalBy, seCv]
    · intro done g w' hS hu hdep _
      refine quietN hS 12 rfl (by decide) (by decide) rfl ?_
      simp [go_sem, evalBy, seCv]
    · intro done g w' hS hu hdep _
      refine quietN hS 13 rfl (by decide) (by decide) rfl ?_
      simp [go_sem, evalBy, seCv]
    · intro done g w' hS hu hdep _
      refine callN hS 14 rfl (by decide) (by decide) rfl 107 #[.pointer (some ⟨G, 0, none⟩), .int .i64 (t : Int), .int .i64 (i : Int)] (by simp [go_sem, evalBy, seCv]) ?_
      exact H1.out w' hS.keep
    · intro done g w' hS hu hdep _
      refine quietN hS 15 rfl (by decide) (by decide) rfl ?_
      simp [go_sem, evalBy, seCv]
    · intro done g w' hS hu hdep _
      refine quietN hS 16 rfl (by decide) (by decide) rfl ?_
      simp [go_sem, evalBy, seCv]
    · intro done g w' hS hu hdep _
      refine quietN hS 17 rfl (by decide) (by decide) rfl ?_
      simp [go_sem, evalBy, seCv]
    · intro done g w' hS hu hdep _
      refine quietN hS 18 rfl (by decide) (by decide) rfl ?_
      simp [go_sem, evalBy, seCv]
    · intro done g w' hS hu hdep _
      obtain ⟨x0, x1⟩ := FC.out w' hS.keep
      refine quietN hS 19 rfl (by decide) (by decide) rfl ?_
      simp [go_sem, evalBy, seCv, x0]
    · intro done g w' hS hu hdep _
      refine quietN hS 20 rfl (by decide) (by decide) rfl ?_
      simp [go_sem, evalBy, seCv]
    · intro done g w' hS hu hdep _
      refine quietN hS 21 rfl (by decide) (by decide) rfl ?_
      simp [go_sem, evalBy, seCv, i0, i1]
    · intro done g w' hS hu hdep _
      refine quietN hS 22 rfl (by decide) (by decide) rfl ?_
      simp [go_sem, evalBy, seCv]
    · intro done g w' hS hu hdep _
      refine quietN hS 23 rfl (by decide) (by decide) rfl ?_
      simp [go_sem, evalBy, seCv]
    · intro done g w' hS hu hdep _
      obtain ⟨x0, x1⟩ := FC.out w' hS.keep
      refine quietN hS 24 rfl (by decide) (by decide) rfl ?_
      simp [go_sem, evalBy, seCv, x1]
    · intro done g w' hS hu hdep _
      refine callN hS 25 rfl (by decide) (by decide) rfl 112 #[.pointer (some ⟨G, 0, none⟩), .int .i64 C, .int .i64 L] (by simp [go_sem, evalBy, seCv]) ?_
      exact H2.out w' hS.keep
    · intro done g w' hS hu hdep _
      refine quietN hS 9 rfl (by decide) (by decide) rfl ?_
      simp [go_sem, evalBy, seCv]
    · intro done g w' hS hu hdep _
      refine quietN hS 26 rfl (by decide) (by decide) rfl ?_
      simp [go_sem, evalBy, seCv]
    · intro done g w' hS hu hdep _
      refine quietN hS 27 rfl (by decide) (by decide) rfl ?_
      simp [go_sem, evalBy, seCv]
    · intro done g w' hS hu hdep _
      refine allocN hS 7 rfl hu (by decide) rfl (fun _ => rfl) ?_ (by simp [go_sem])
      intro g' t' ht'
      unfold seCv
      split <;> first | rfl | exact absurd rfl ht'
    · intro done g w' hS hu hdep _
      refine storeN hS rfl (hdep ⟨19, .data⟩ (by simp) rfl) hu rfl ?_
      intro hf d0 d1 d2
      have f0 := hf 0; have f1 := hf 1; have f2 := hf 2
      clear hf
      simp at d0 d1 d2
      simp [go_sem, evalBy, seCv, f0, f1, f2, d0, d1, d2]
    · intro done g w' hS hu hdep _
      refine quietN hS 8 rfl (by decide) (by decide) rfl ?_
      simp [go_sem, evalBy, seCv]
  · intro g wE hS
    obtain ⟨hge, hbx⟩ := hS.box (by decide)
    rw [if_pos (by decide)] at hbx
    obtain ⟨e0, e1, e2⟩ := box3_cells hbx
    have HK := Lib.hid hS.keep
    clear hS hbx
    simp [putAll, Act.put, seCv]
    go_wp2_with fail
    go_ret
    exact ⟨rfl, HK.out⟩

end Go.Proofs.YtdlaphlpimlgdaaGreatDoor
/- PileReadies, its function, given what known() returns. -/
namespace Go.Proofs.YtdlaphlpimlgdaaGreatDoor
open Go.RowKit

set_option maxRecDepth 100000 in
set_option maxHeartbeats 4000000 in
theorem readies_any (p : Pil) (lo hi : Int) (A : Option Addr) (n c : Nat) (xs : List (Int × Int)) (w : World) (hl : xs.length = n) (hn : n ≤ maxLen) (hA : PrsAt w w.heap.size A xs)
    (hk : ∀ u, Below w.heap.size w u → Calls Tryz.prog 19 #[] u fun e w' => e = .returned (.bool true) ∧ Below u.heap.size u w') :
    Calls Tryz.prog 12 #[pilV p, .agg #[.int .i64 lo, .int .i64 hi], .slice A n c] w fun e w' => e = .returned (.bool true) ∧ Below w.heap.size w w' := by
  have HL := Lib.hid hl
  have HN := Lib.hid hn
  have HA := Lib.hid hA
  have HKN := Lib.hid hk
  unfold maxLen at hn
  obtain ⟨d, pp, s, l, h, g, co⟩ := p
  obtain ⟨z0, z1, hb0⟩ := two_boxes w (.cells #[.int .i64 d, .int .i64 pp, .int .i64 s, .int .i64 l, .int .i64 h, .int .i64 g, .int .i64 co] 45) (.cells #[.int .i64 lo, .int .i64 hi] 42)
  obtain ⟨w1, hw1⟩ : ∃ z, (w.alloc (.cells #[.int .i64 d, .int .i64 pp, .int .i64 s, .int .i64 l, .int .i64 h, .int .i64 g, .int .i64 co] 45)).alloc (.cells #[.int .i64 lo, .int .i64 hi] 42) = z := ⟨_, rfl⟩
  rw [hw1] at z0 z1 hb0
  have Z0 := Lib.hid z0; have Z1 := Lib.hid z1; have HB1 := Lib.hid hb0
  obtain ⟨p0, p1, p2, p3, p4, p5, p6⟩ := pil_box z0
  obtain ⟨t0, t1⟩ := span_box z1
  clear z0 z1 hb0 hA hl hk
  by_cases h10 : (10 : Int) < (n : Int)
  · go_enter Tryz.func12, Tryz.ntmps12
    go_wp2_with fail
    refine (HKN.out _ HB1.out).mono ?_
    rintro e wk ⟨rfl, hbk⟩
    have HBK := Lib.hid (HB1.out.trans (hbk.mono HB1.out.size))
    clear hbk
    go_wp2_with fail
    go_ret
    exact ⟨rfl, HBK.out⟩
  · go_enter Tryz.func12, Tryz.ntmps12
    go_wp2_with fail
    refine (Ready_any ⟨d, pp, s, l, h, g, co⟩ lo hi A n c xs w1 HL.out HN.out (HA.out.up HB1.out)).mono ?_
    rintro e w2 ⟨rfl, hb⟩
    have HB2 := Lib.hid (HB1.out.trans (hb.mono HB1.out.size))
    have Y0 := Lib.hid ((hb.block _ (heapsz Z0.out)).trans Z0.out)
    have Y1 := Lib.hid ((hb.block _ (heapsz Z1.out)).trans Z1.out)
    clear hb p0 p1 p2 p3 p4 p5 p6 t0 t1 h10
    obtain ⟨p0, p1, p2, p3, p4, p5, p6⟩ := pil_box Y0.out
    obtain ⟨t0, t1⟩ := span_box Y1.out
    obtain ⟨R, hR⟩ : ∃ z, readyR ⟨d, pp, s, l, h, g, co⟩ lo hi xs = z := ⟨_, rfl⟩
    have HR := Lib.hid hR
    rw [hR]
    obtain ⟨R1, R2⟩ := R
    clear hR
    go_wp2_with fail
    refine (cured_any ⟨d, pp, s, l, h, g, co⟩ lo hi A n c xs w2 HL.out HN.out (HA.out.up HB2.out)).mono ?_
    rintro e w3 ⟨rfl, hb⟩
    have HB3 := Lib.hid (HB2.out.trans (hb.mono HB2.out.size))
    have X0 := Lib.hid ((hb.block _ (heapsz Y0.out)).trans Y0.out)
    have X1 := Lib.hid ((hb.block _ (heapsz Y1.out)).trans Y1.out)
    clear hb p0 p1 p2 p3 p4 p5 p6 t0 t1
    obtain ⟨p0, p1, p2, p3, p4, p5, p6⟩ := pil_box X0.out
    obtain ⟨t0, t1⟩ := span_box X1.out
    cases hc : (pilB ⟨d, pp, s, l, h, g, co⟩ && withinB 0 lo hi 50000 && cureB xs) with
    | false =>
      have hv := HR.out
      unfold readyR at hv
      rw [hc] at hv
      cases hv
      go_wp2_with fail
      refine (HKN.out _ HB3.out).mono ?_
      rintro e wk ⟨rfl, hbk⟩
      have HBK := Lib.hid (HB3.out.trans (hbk.mono HB3.out.size))
      clear hbk
      go_wp2_with fail
      go_ret
      exact ⟨rfl, HBK.out⟩
    | true =>
      have hv := HR.out
      unfold readyR at hv
      rw [hc, if_pos rfl] at hv
      have HV := Lib.hid hv
      simp only [Bool.and_eq_true] at hc
      obtain ⟨⟨c1, c2⟩, c3⟩ := hc
      have c2' := withinB_iff.1 c2
      have HCU : cuGo (-1, 0) xs = true := by unfold cureB at c3; rw [Bool.and_eq_true] at c3; exact c3.2
      have hrd := refReady_any ⟨d, pp, s, l, h, g, co⟩ lo hi A n c xs w3 c1 (by omega) (by omega) HL.out HN.out (HA.out.up HB3.out) HCU
      have HRD := Lib.hid hrd
      clear hv c1 c2 c3 c2' HCU hrd
      go_wp2_with fail
      refine HRD.out.mono ?_
      rintro e w4 ⟨rfl, hb⟩
      have HB4 := Lib.hid (HB3.out.trans (hb.mono HB3.out.size))
      clear hb p0 p1 p2 p3 p4 p5 p6 t0 t1 HRD
      obtain ⟨I, hI⟩ : ∃ z, readyI ⟨d, pp, s, l, h, g, co⟩ hi xs = z := ⟨_, rfl⟩
      have hv := HV.out
      rw [hI] at hv ⊢
      clear hI HV HR
      by_cases hneg : I < 0
      · rw [if_pos hneg] at hv
        cases hv
        go_wp2_with fail
        refine (HKN.out _ HB4.out).mono ?_
        rintro e wk ⟨rfl, hbk⟩
        have HBK := Lib.hid (HB4.out.trans (hbk.mono HB4.out.size))
        clear hbk
        go_wp2_with fail
        go_ret
        exact ⟨rfl, HBK.out⟩
      · rw [if_neg hneg] at hv
        cases hv
        go_wp2_with fail
        refine (HKN.out _ HB4.out).mono ?_
        rintro e wk ⟨rfl, hbk⟩
        have HBK := Lib.hid (HB4.out.trans (hbk.mono HB4.out.size))
        clear hbk
        go_wp2_with fail
        go_ret
        exact ⟨rfl, HBK.out⟩
end Go.Proofs.YtdlaphlpimlgdaaGreatDoor
/- PileCured, its function, given what known() returns. -/
namespace Go.Proofs.YtdlaphlpimlgdaaGreatDoor
open Go.RowKit

theorem ready_spec (p : Pil) (t : Int) (xs : List (Int × Int)) : (readyI p t xs = -1 ∧ ∀ j : Nat, j < 101 → newI p t xs j < p.h) ∨ ∃ v : Nat, v < 101 ∧ readyI p t xs = v ∧ p.h ≤ newI p t xs v ∧ ∀ j : Nat, j < v → newI p t xs j < p.h := by
  unfold readyI
  cases hf : (List.range 101).find? (fun v : Nat => decide (p.h ≤ newI p t xs (v : Int))) with
  | none =>
    rw [List.find?_range_eq_none] at hf
    exact .inl ⟨rfl, fun j hj => by simpa using hf j hj⟩
  | some v =>
    rw [List.find?_range_eq_some] at hf
    exact .inr ⟨v, List.mem_range.1 hf.2.1, rfl, by simpa using hf.1, fun j hj => by simpa using hf.2.2 j hj⟩
theorem part_sorted {xs : List (Int × Int)} (h : cuGo (-1, 0) xs = true) {k : Nat} {x : Int × Int} (hx : xs[k]? = some x) : ∀ (j : Nat) (y : Int × Int), xs[k + j]? = some y → x.2 ≤ y.2
  | 0, y, hy => by
    rw [Nat.add_zero, hx] at hy
    cases hy
    exact Int.le_refl _
  | j + 1, y, hy => by
    obtain ⟨z, hz⟩ := get_of_lt (l := xs) (k := k + j) (by have := (List.getElem?_eq_some_iff.1 hy).1; omega)
    have h1 := part_sorted h hx j z hz
    have h2 := cure_row h (k + j + 1) y hy
    rw [cuBefore_succ hz] at h2
    unfold cuB at h2
    simp only [Bool.and_eq_true, inB_iff] at h2
    omega
theorem partI_mono {xs : List (Int × Int)} (h : cuGo (-1, 0) xs = true) {a b : Int} (hab : a ≤ b) : partI xs a ≤ partI xs b := by
  have hT : xs.take xs.length = xs := List.take_length
  have h1 := partI_is (xs := xs) a xs.length (Nat.le_refl _)
  have h2 := partI_is (xs := xs) b xs.length (Nat.le_refl _)
  have h3 := partI_bd b h xs.length (Nat.le_refl _)
  rw [hT] at h1 h2 h3
  rcases h1 with ⟨e, _⟩ | ⟨j, y, hj, hy, hle, e, _⟩
  · rw [e]
    exact h3.1
  · rcases h2 with ⟨_, hn⟩ | ⟨j', y', hj', hy', hle', e', hlast⟩
    · have := hn j y hj hy
      omega
    · rw [e, e']
      by_cases hjj : j ≤ j'
      · refine part_sorted h hy (j' - j) y' ?_
        rw [show j + (j' - j) = j' by omega]
        exact hy'
      · have := hlast j y (by omega) hj hy
        omega
theorem partI_late {xs : List (Int × Int)} (h : cuGo (-1, 0) xs = true) {a : Int} (ha : 100 ≤ a) : partI xs a = partI xs 100 := by
  have h1 := partI_mono h ha
  have hT : xs.take xs.length = xs := List.take_length
  have h2 := partI_is (xs := xs) a xs.length (Nat.le_refl _)
  have h3 := partI_is (xs := xs) 100 xs.length (Nat.le_refl _)
  rw [hT] at h2 h3
  rcases h2 with ⟨e, _⟩ | ⟨j, y, hj, hy, _, e, _⟩
  · rcases h3 with ⟨e', _⟩ | ⟨j', y', _, hy', _, e', _⟩
    · rw [e, e']
    · have := (cure_bd h hy').2
      omega
  · have hb := (cure_bd h hy).1
    rcases h3 with ⟨_, hn⟩ | ⟨j', y', hj', hy', _, e', hlast⟩
    · have := hn j y hj hy
      omega
    · have : y.2 ≤ y'.2 := by
        by_cases hjj : j ≤ j'
        · refine part_sorted h hy (j' - j) y' ?_
          rw [show j + (j' - j) = j' by omega]
          exact hy'
        · have := hlast j y (by omega) hj hy
          omega
      omega
theorem car_mono {p : Pil} (hp : pilB p = true) {a b : Int} (h : a ≤ b) : carI p b ≤ carI p a := by
  have hs := (pilB_iff.1 hp).2.2.1
  unfold carI
  have h1 : p.s * max (p.d - b) 0 ≤ p.s * max (p.d - a) 0 := Int.mul_le_mul_of_nonneg_left (by omega) hs.1
  have h2 : p.s * max (p.d - b) 0 / 1000 ≤ p.s * max (p.d - a) 0 / 1000 := Int.ediv_le_ediv (by decide) h1
  omega
theorem new_mono {p : Pil} (hp : pilB p = true) {xs : List (Int × Int)} (h : cuGo (-1, 0) xs = true) {a b : Int} (hab : a ≤ b) (ha : 0 ≤ a) {v k : Int} (hvk : v ≤ k) : newI p b xs v ≤ newI p a xs k := by
  have hT : xs.take xs.length = xs := List.take_length
  have h3 := partI_bd v h xs.length (Nat.le_refl _)
  rw [hT] at h3
  have hc := car_mono hp hab
  have hca := carI_b hp ha
  unfold newI
  refine Int.ediv_le_ediv (by decide) ?_
  exact Int.mul_le_mul hc (partI_mono h hvk) h3.1 hca.1
/-- In each week before the one that is told, a pile does not carry its load. -/
theorem cured_before {p : Pil} {t : Int} {xs : List (Int × Int)} (h : cuGo (-1, 0) xs = true) {wk : Int} (h0 : 0 ≤ wk) (hw : readyI p t xs < 0 ∨ wk < readyI p t xs) : newI p t xs wk < p.h := by
  have hwn : ((wk.toNat : Nat) : Int) = wk := Int.toNat_of_nonneg h0
  rcases ready_spec p t xs with ⟨e, hj⟩ | ⟨v, hv, e, _, hj⟩
  · by_cases hl : wk ≤ 100
    · have := hj wk.toNat (by omega)
      rwa [hwn] at this
    · have := hj 100 (by decide)
      unfold newI at this ⊢
      rw [partI_late h (by omega)]
      exact this
  · rw [e] at hw
    have := hj wk.toNat (by omega)
    rwa [hwn] at this
/-- From the week on that is told, it does, with whatever thaw. -/
theorem cured_after {p : Pil} (hp : pilB p = true) {t d : Int} {xs : List (Int × Int)} (h : cuGo (-1, 0) xs = true) {wk : Int} (hd : d ≤ t) (d0 : 0 ≤ d) (h1 : ¬ readyI p t xs < 0) (h2 : ¬ wk < readyI p t xs) : p.h ≤ newI p d xs wk := by
  rcases ready_spec p t xs with ⟨e, _⟩ | ⟨v, hv, e, hge, _⟩
  · rw [e] at h1
    exact absurd (by decide) h1
  · rw [e] at h2
    exact Int.le_trans hge (new_mono hp h hd d0 (by omega))
set_option maxRecDepth 100000 in
set_option maxHeartbeats 4000000 in
theorem curedS_any (p : Pil) (lo hi : Int) (A : Option Addr) (n c : Nat) (xs : List (Int × Int)) (wk dp ld : Int) (w : World) (hl : xs.length = n) (hn : n ≤ maxLen) (hA : PrsAt w w.heap.size A xs)
    (hk : ∀ u, Below w.heap.size w u → Calls Tryz.prog 19 #[] u fun e w' => e = .returned (.bool true) ∧ Below u.heap.size u w') :
    Calls Tryz.prog 13 #[pilV p, .agg #[.int .i64 lo, .int .i64 hi], .slice A n c, .int .i64 wk, .int .i64 dp, .int .i64 ld] w fun e w' => e = .returned (.bool true) ∧ Below w.heap.size w w' := by
  have HL := Lib.hid hl
  have HN := Lib.hid hn
  have HA := Lib.hid hA
  have HKN := Lib.hid hk
  unfold maxLen at hn
  obtain ⟨d, pp, s, l, h, g, co⟩ := p
  obtain ⟨z0, z1, hb0⟩ := two_boxes w (.cells #[.int .i64 d, .int .i64 pp, .int .i64 s, .int .i64 l, .int .i64 h, .int .i64 g, .int .i64 co] 45) (.cells #[.int .i64 lo, .int .i64 hi] 42)
  obtain ⟨w1, hw1⟩ : ∃ z, (w.alloc (.cells #[.int .i64 d, .int .i64 pp, .int .i64 s, .int .i64 l, .int .i64 h, .int .i64 g, .int .i64 co] 45)).alloc (.cells #[.int .i64 lo, .int .i64 hi] 42) = z := ⟨_, rfl⟩
  rw [hw1] at z0 z1 hb0
  have Z0 := Lib.hid z0; have Z1 := Lib.hid z1; have HB1 := Lib.hid hb0
  obtain ⟨p0, p1, p2, p3, p4, p5, p6⟩ := pil_box z0
  obtain ⟨t0, t1⟩ := span_box z1
  clear z0 z1 hb0 hA hl hk
  by_cases h10 : (10 : Int) < (n : Int)
  · go_enter Tryz.func13, Tryz.ntmps13
    go_wp2_with fail
    refine (HKN.out _ HB1.out).mono ?_
    rintro e wk ⟨rfl, hbk⟩
    have HBK := Lib.hid (HB1.out.trans (hbk.mono HB1.out.size))
    clear hbk
    go_wp2_with fail
    go_ret
    exact ⟨rfl, HBK.out⟩
  · go_enter Tryz.func13, Tryz.ntmps13
    go_wp2_with fail
    refine (cured_any ⟨d, pp, s, l, h, g, co⟩ lo hi A n c xs w1 HL.out HN.out (HA.out.up HB1.out)).mono ?_
    rintro e w2 ⟨rfl, hb⟩
    have HB2 := Lib.hid (HB1.out.trans (hb.mono HB1.out.size))
    have Y0 := Lib.hid ((hb.block _ (heapsz Z0.out)).trans Z0.out)
    have Y1 := Lib.hid ((hb.block _ (heapsz Z1.out)).trans Z1.out)
    clear hb p0 p1 p2 p3 p4 p5 p6 t0 t1
    obtain ⟨p0, p1, p2, p3, p4, p5, p6⟩ := pil_box Y0.out
    obtain ⟨t0, t1⟩ := span_box Y1.out
    cases hc : (pilB ⟨d, pp, s, l, h, g, co⟩ && withinB 0 lo hi 50000 && cureB xs) with
    | false =>
      go_wp2_with fail
      refine (HKN.out _ HB2.out).mono ?_
      rintro e wk ⟨rfl, hbk⟩
      have HBK := Lib.hid (HB2.out.trans (hbk.mono HB2.out.size))
      clear hbk
      go_wp2_with fail
      go_ret
      exact ⟨rfl, HBK.out⟩
    | true =>
      have HR : Hid (readyR ⟨d, pp, s, l, h, g, co⟩ lo hi xs = if readyI ⟨d, pp, s, l, h, g, co⟩ hi xs < 0 then (0, 5) else (readyI ⟨d, pp, s, l, h, g, co⟩ hi xs, 0)) := Lib.hid (by unfold readyR; rw [hc, if_pos rfl])
      simp only [Bool.and_eq_true] at hc
      obtain ⟨⟨c1, c2⟩, c3⟩ := hc
      have HT := Lib.hid (withinB_iff.1 c2)
      have HPB := Lib.hid c1
      have HPL := Lib.hid (pilB_iff.1 c1).2.2.2.1
      have HCU : Hid (cuGo (-1, 0) xs = true) := Lib.hid (by unfold cureB at c3; rw [Bool.and_eq_true] at c3; exact c3.2)
      clear c1 c2 c3
      by_cases w0 : wk < 0
      · skip
        go_wp2_with fail
        refine (HKN.out _ HB2.out).mono ?_
        rintro e wk ⟨rfl, hbk⟩
        have HBK := Lib.hid (HB2.out.trans (hbk.mono HB2.out.size))
        clear hbk
        go_wp2_with fail
        go_ret
        exact ⟨rfl, HBK.out⟩
      · by_cases w9 : 1000 < wk
        · skip
          go_wp2_with fail
          refine (HKN.out _ HB2.out).mono ?_
          rintro e wk ⟨rfl, hbk⟩
          have HBK := Lib.hid (HB2.out.trans (hbk.mono HB2.out.size))
          clear hbk
          go_wp2_with fail
          go_ret
          exact ⟨rfl, HBK.out⟩
        · go_wp2_with fail
          refine (Ready_any ⟨d, pp, s, l, h, g, co⟩ lo hi A n c xs w2 HL.out HN.out (HA.out.up HB2.out)).mono ?_
          rintro e w3 ⟨rfl, hb⟩
          have HB3 := Lib.hid (HB2.out.trans (hb.mono HB2.out.size))
          have X0 := Lib.hid ((hb.block _ (heapsz Y0.out)).trans Y0.out)
          have X1 := Lib.hid ((hb.block _ (heapsz Y1.out)).trans Y1.out)
          clear hb p0 p1 p2 p3 p4 p5 p6 t0 t1 h10
          obtain ⟨q0, q1, q2, q3, q4, q5, q6⟩ := pil_box X0.out
          obtain ⟨r0, r1⟩ := span_box X1.out
          have lt0 := heapsz X0.out
          have lt1 := heapsz X1.out
          have p0 : ∀ u : KeptW w3, u.w.cell? ⟨w.heap.size, 0, none⟩ = some (.int .i64 d) := fun u => ((bcell u.h).1 _ 0 lt0).trans q0
          have p1 : ∀ u : KeptW w3, u.w.cell? ⟨w.heap.size, 1, none⟩ = some (.int .i64 pp) := fun u => ((bcell u.h).1 _ 1 lt0).trans q1
          have p2 : ∀ u : KeptW w3, u.w.cell? ⟨w.heap.size, 2, none⟩ = some (.int .i64 s) := fun u => ((bcell u.h).1 _ 2 lt0).trans q2
          have p3 : ∀ u : KeptW w3, u.w.cell? ⟨w.heap.size, 3, none⟩ = some (.int .i64 l) := fun u => ((bcell u.h).1 _ 3 lt0).trans q3
          have p4 : ∀ u : KeptW w3, u.w.cell? ⟨w.heap.size, 4, none⟩ = some (.int .i64 h) := fun u => ((bcell u.h).1 _ 4 lt0).trans q4
          have p5 : ∀ u : KeptW w3, u.w.cell? ⟨w.heap.size, 5, none⟩ = some (.int .i64 g) := fun u => ((bcell u.h).1 _ 5 lt0).trans q5
          have p6 : ∀ u : KeptW w3, u.w.cell? ⟨w.heap.size, 6, none⟩ = some (.int .i64 co) := fun u => ((bcell u.h).1 _ 6 lt0).trans q6
          have t1 : ∀ u : KeptW w3, u.w.cell? ⟨w.heap.size + 1, 1, none⟩ = some (.int .i64 hi) := fun u => ((bcell u.h).1 _ 1 lt1).trans r1
          obtain ⟨N, hN⟩ : ∃ z, newI ⟨d, pp, s, l, h, g, co⟩ hi xs wk = z := ⟨_, rfl⟩
          have HNN := Lib.hid hN
          have HK : Hid (∀ u : KeptW w3, Calls Tryz.prog 53 #[.agg #[.int .i64 d, .int .i64 pp, .int .i64 s, .int .i64 l, .int .i64 h, .int .i64 g, .int .i64 co], .int .i64 hi, .slice A n c, .int .i64 wk] u.w fun e w' => e = .returned (.int .i64 N) ∧ ∃ u' : KeptW w3, w' = u'.w) :=
            Lib.hid fun u => Calls.in_kept u (by rw [← hN]; exact refNew_any ⟨d, pp, s, l, h, g, co⟩ hi A n c xs wk u.w HPB.out (by have := HT.out; omega) (by have := HT.out; omega) HL.out HN.out (HA.out.up (HB3.out.trans (u.h.mono HB3.out.size))) HCU.out)
          have HKK : Hid (∀ u : KeptW w3, Calls Tryz.prog 19 #[] u.w fun e w' => e = .returned (.bool true) ∧ ∃ u' : KeptW w3, w' = u'.w) := Lib.hid fun u => Calls.in_kept u (HKN.out _ (HB3.out.trans (u.h.mono HB3.out.size)))
          have HLO : Hid (readyI ⟨d, pp, s, l, h, g, co⟩ hi xs < 0 ∨ wk < readyI ⟨d, pp, s, l, h, g, co⟩ hi xs → N < h) := Lib.hid fun hh => by rw [← hN]; exact cured_before HCU.out (by omega) hh
          have HHI : Hid (∀ dd, dd ≤ hi → 0 ≤ dd → ¬ readyI ⟨d, pp, s, l, h, g, co⟩ hi xs < 0 → ¬ wk < readyI ⟨d, pp, s, l, h, g, co⟩ hi xs → h ≤ newI ⟨d, pp, s, l, h, g, co⟩ dd xs wk) := Lib.hid fun dd h1 h2 h3 h4 => cured_after HPB.out HCU.out h1 h2 h3 h4
          rw [HR.out]
          obtain ⟨I, hI⟩ : ∃ z, readyI ⟨d, pp, s, l, h, g, co⟩ hi xs = z := ⟨_, rfl⟩
          rw [hI] at HLO HHI ⊢
          clear hI HR hN lt0 lt1
          by_cases hneg : I < 0
          · rw [if_pos hneg]
            have hNh := HLO.out (.inl hneg)
            clear q0 q1 q2 q3 q4 q5 q6 r0 r1
            go_wp2_with fail
            have hNh2 : N < h := by omega
            refine rk_region (by kernel_rfl) (by kernel_rfl) ?_
            repeat (go_big_quiet_step (first | (with_reducible exact HK.out _) | (with_reducible exact HKK.out _) | fail))
            refine wpQuiet_nil ?_
            rintro _ ⟨⟨wz, hbz⟩, rfl⟩
            have BZ := Lib.hid (HB3.out.trans (hbz.mono HB3.out.size))
            clear p0 p1 p2 p3 p4 p5 p6 t1 hbz
            go_wp2_with fail
            go_ret
            exact ⟨rfl, BZ.out⟩
          · rw [if_neg hneg]
            by_cases hwi : wk < I
            · have hNh := HLO.out (.inr hwi)
              clear q0 q1 q2 q3 q4 q5 q6 r0 r1
              go_wp2_with fail
              have hNh2 : N < h := by omega
              refine rk_region (by kernel_rfl) (by kernel_rfl) ?_
              repeat (go_big_quiet_step (first | (with_reducible exact HK.out _) | (with_reducible exact HKK.out _) | fail))
              refine wpQuiet_nil ?_
              rintro _ ⟨⟨wz, hbz⟩, rfl⟩
              have BZ := Lib.hid (HB3.out.trans (hbz.mono HB3.out.size))
              clear p0 p1 p2 p3 p4 p5 p6 t1 hbz
              go_wp2_with fail
              go_ret
              exact ⟨rfl, BZ.out⟩
            · clear p0 p1 p2 p3 p4 p5 p6 t1
              by_cases e1 : dp < lo
              · skip
                go_wp2_with fail
                refine (HKN.out _ HB3.out).mono ?_
                rintro e wk ⟨rfl, hbk⟩
                have HBK := Lib.hid (HB3.out.trans (hbk.mono HB3.out.size))
                clear hbk
                go_wp2_with fail
                go_ret
                exact ⟨rfl, HBK.out⟩
              · by_cases e2 : hi < dp
                · skip
                  go_wp2_with fail
                  refine (HKN.out _ HB3.out).mono ?_
                  rintro e wk ⟨rfl, hbk⟩
                  have HBK := Lib.hid (HB3.out.trans (hbk.mono HB3.out.size))
                  clear hbk
                  go_wp2_with fail
                  go_ret
                  exact ⟨rfl, HBK.out⟩
                · by_cases e3 : ld < l
                  · skip
                    go_wp2_with fail
                    refine (HKN.out _ HB3.out).mono ?_
                    rintro e wk ⟨rfl, hbk⟩
                    have HBK := Lib.hid (HB3.out.trans (hbk.mono HB3.out.size))
                    clear hbk
                    go_wp2_with fail
                    go_ret
                    exact ⟨rfl, HBK.out⟩
                  · by_cases e4 : h < ld
                    · skip
                      go_wp2_with fail
                      refine (HKN.out _ HB3.out).mono ?_
                      rintro e wk ⟨rfl, hbk⟩
                      have HBK := Lib.hid (HB3.out.trans (hbk.mono HB3.out.size))
                      clear hbk
                      go_wp2_with fail
                      go_ret
                      exact ⟨rfl, HBK.out⟩
                    · have hge := HHI.out dp (by omega) (by have := HT.out; omega) hneg hwi
                      have hnw := Lib.hid (refNew_any ⟨d, pp, s, l, h, g, co⟩ dp A n c xs wk w3 HPB.out (by have := HT.out; omega) (by have := HT.out; omega) HL.out HN.out (HA.out.up HB3.out) HCU.out)
                      obtain ⟨M, hM⟩ : ∃ z, newI ⟨d, pp, s, l, h, g, co⟩ dp xs wk = z := ⟨_, rfl⟩
                      rw [hM] at hge hnw
                      have hml : ld ≤ M := by omega
                      clear hM HHI HLO HNN HK HKK
                      go_wp2_with fail
                      refine hnw.out.mono ?_
                      rintro e w4 ⟨rfl, hb⟩
                      have HB4 := Lib.hid (HB3.out.trans (hb.mono HB3.out.size))
                      clear hb q0 q1 q2 q3 q4 q5 q6 r0 r1 hnw
                      go_wp2_with fail
                      refine (HKN.out _ HB4.out).mono ?_
                      rintro e wk ⟨rfl, hbk⟩
                      have HBK := Lib.hid (HB4.out.trans (hbk.mono HB4.out.size))
                      clear hbk
                      go_wp2_with fail
                      go_ret
                      exact ⟨rfl, HBK.out⟩
end Go.Proofs.YtdlaphlpimlgdaaGreatDoor
/- Which levels are a level book: the code's test. A looked-at site is made. -/
namespace Go.Proofs.YtdlaphlpimlgdaaGreatDoor
open Go.RowKit

/-- Rows of numbers: a slice of slices. -/
def LvsAt (w : World) (B : Nat) (A : Option Addr) (ts : List (List Int)) : Prop :=
  ts ≠ [] → ∃ b o, A = some ⟨b, o, none⟩ ∧ b < B ∧ ∀ i x, ts[i]? = some x → ∃ A' c', w.cell? ⟨b, o + i, none⟩ = some (.slice A' x.length c') ∧ IntsAt w B A' x ∧ x.length ≤ maxLen ∧ x.length ≤ c'
theorem LvsAt.next {w w' : World} {B B' : Nat} {A : Option Addr} {ts : List (List Int)} (h : LvsAt w B A ts) (hb : Below B w w') (hB : B ≤ B') : LvsAt w' B' A ts := fun hne => by
  obtain ⟨b, o, rfl, hlt, hc⟩ := h hne
  refine ⟨b, o, rfl, by omega, fun i x hx => ?_⟩
  obtain ⟨A', c', h1, h2, h3⟩ := hc i x hx
  exact ⟨A', c', ((bcell hb).1 _ _ hlt).trans h1, h2.next hb hB, h3⟩
theorem LvsAt.up {w w' : World} {A : Option Addr} {ts : List (List Int)} (h : LvsAt w w.heap.size A ts) (hb : Below w.heap.size w w') : LvsAt w' w'.heap.size A ts := h.next hb hb.size
def lvB (x : Int) : Bool := inB (-100000) x 100000
def lvsB (np : Nat) (x : List Int) : Bool := decide (x.length = np) && x.all lvB
def bookB (ts : List (List Int)) : Bool := inB 1 (ts.length : Int) 10 && inB 1 ((ts.headD []).length : Int) 6 && ts.all (lvsB (ts.headD []).length)
set_option maxRecDepth 100000 in
set_option maxHeartbeats 4000000 in
theorem bookFine_any (A : Option Addr) (n c : Nat) (ts : List (List Int)) (w : World) (hl : ts.length = n) (hn : n ≤ maxLen) (hT : LvsAt w w.heap.size A ts) :
    Calls Tryz.prog 96 #[.slice A n c] w fun e w' => e = .returned (.bool (bookB ts)) ∧ w = w' := by
  have HL := Lib.hid hl
  have HT := Lib.hid hT
  have HCI : Hid (bookB ts = (inB 1 (n : Int) 10 && inB 1 ((ts.headD []).length : Int) 6 && ts.all (lvsB (ts.headD []).length))) := Lib.hid (by rw [← hl]; rfl)
  unfold maxLen at hn
  clear hT
  cases q1 : inB 1 (n : Int) 10 with
  | false =>
    have HF : Hid (bookB ts = false) := Lib.hid (by rw [HCI.out, q1]; rfl)
    clear hl
    go_enter Tryz.func96, Tryz.ntmps96
    go_wp2_with (first | (go_at_call 67; refine (from_any _ _ _ _).mono ?_; rintro e w' ⟨rfl, rfl⟩) | fail)
    go_ret
    exact ⟨by rw [HF.out]; rfl, rfl⟩
  | true =>
    have hq := inB_iff.1 q1
    obtain ⟨r, hr⟩ := get_of_lt (l := ts) (k := 0) (by omega)
    obtain ⟨b, o, rfl, hb, hcs⟩ := HT.out (by intro h; rw [h] at hr; simp at hr)
    obtain ⟨A0, c0', d1, d2, d3, d4⟩ := hcs 0 r hr
    have hhd : ts.headD [] = r := by
      cases ts with
      | nil => simp at hr
      | cons z zs => simp at hr; exact hr
    rw [Nat.add_zero] at d1
    obtain ⟨np, hnp⟩ : ∃ z, r.length = z := ⟨_, rfl⟩
    have HC2 : Hid (bookB ts = (inB 1 (np : Int) 6 && ts.all (lvsB np))) := Lib.hid (by rw [HCI.out, q1, hhd, hnp, Bool.true_and])
    rw [hnp] at d1 d3
    unfold maxLen at d3
    have n0 : (0 : Int) < (n : Int) := by omega
    have HCS := Lib.hid hcs
    clear hl hr hhd hnp hcs d2 d4 hb hq
    cases q2 : inB 1 (np : Int) 6 with
    | false =>
      have HF : Hid (bookB ts = false) := Lib.hid (by rw [HC2.out, q2]; rfl)
      go_enter Tryz.func96, Tryz.ntmps96
      go_wp2_with (first | (go_at_call 67; refine (from_any _ _ _ _).mono ?_; rintro e w' ⟨rfl, rfl⟩) | fail)
      go_ret
      exact ⟨by rw [HF.out]; rfl, rfl⟩
    | true =>
      have HC3 : Hid (bookB ts = ts.all (lvsB np)) := Lib.hid (by rw [HC2.out, q2, Bool.true_and])
      go_enter Tryz.func96, Tryz.ntmps96
      go_wp2_with (first | (go_at_call 67; refine (from_any _ _ _ _).mono ?_; rintro e w' ⟨rfl, rfl⟩) | fail)
      clear q1 q2
      go_loopw [21] (fun i wr => ∃ k : Nat, k ≤ n ∧ i = .int .i64 k ∧ (ts.take k).all (lvsB np) = true ∧ wr = w) (fun i _ => n - (intOf i).toNat)
      case atStart => exact ⟨0, Nat.zero_le _, rfl, by simp, rfl⟩
      case round =>
        obtain ⟨k, hk, rfl, hall, rfl⟩ := hrel
        have HALL := Lib.hid hall
        clear hall
        by_cases hlt : k < n
        · obtain ⟨x, hx⟩ := get_of_lt (l := ts) (k := k) (by rw [HL.out]; exact hlt)
          obtain ⟨A', c', e1, e2, e3, e4⟩ := HCS.out k x hx
          have HX := Lib.hid hx
          have HX2 := Lib.hid e2
          obtain ⟨m, hm⟩ : ∃ m, x.length = m := ⟨_, rfl⟩
          rw [hm] at e1 e3
          unfold maxLen at e3
          have HM := Lib.hid hm
          have hk0 : (0 : Int) ≤ (k : Int) := by omega
          have hk1 : (k : Int) < (n : Int) := by omega
          have HR1 : Hid (lvsB np x = (decide (m = np) && x.all lvB)) := Lib.hid (by rw [← hm]; rfl)
          clear hx e2 hm e4
          by_cases hmn : m = np
          · subst hmn
            have HR2 : Hid (lvsB m x = x.all lvB) := Lib.hid (by rw [HR1.out]; simp)
            go_wp2_with fail
            go_loopw [34] (fun i wq => ∃ j : Nat, j ≤ m ∧ i = .int .i64 j ∧ (x.take j).all lvB = true ∧ wq = wr) (fun i _ => m - (intOf i).toNat)
            case atStart => exact ⟨0, Nat.zero_le _, rfl, by simp, rfl⟩
            case round =>
              obtain ⟨j, hj, rfl, hall, rfl⟩ := hrel
              have HALQ := Lib.hid hall
              clear hall
              by_cases hlj : j < m
              · obtain ⟨y, hy⟩ := get_of_lt (l := x) (k := j) (by rw [HM.out]; exact hlj)
                obtain ⟨b', o', rfl, hb', hcs'⟩ := int_cells HX2.out (by intro h; rw [h] at hy; simp at hy)
                have c1 := hcs' j y hy
                have HY := Lib.hid hy
                have hj0 : (0 : Int) ≤ (j : Int) := by omega
                have hj1 : (j : Int) < (m : Int) := by omega
                clear hy hcs' hb'
                cases q : inB (-100000) y 100000 with
                | false =>
                  have HF : Hid (bookB ts = false) := Lib.hid (by rw [HC3.out]; exact all_no HX.out (by rw [HR2.out]; exact all_no HY.out q))
                  go_wp2_with (first | (go_at_call 67; refine (from_any _ _ _ _).mono ?_; rintro e w' ⟨rfl, rfl⟩) | fail)
                  go_ret
                  exact ⟨by rw [HF.out]; rfl, rfl⟩
                | true =>
                  have HF := Lib.hid (show lvB y = true from q)
                  go_wp2_with (first | (go_at_call 67; refine (from_any _ _ _ _).mono ?_; rintro e w' ⟨rfl, rfl⟩) | fail)
                  exact ⟨⟨j + 1, by omega, by go_num, take_all HY.out HALQ.out HF.out, trivial⟩, by simp [intOf]; omega⟩
              · have hje : j = m := by omega
                have hj1 : ¬ (j : Int) < (m : Int) := by omega
                have HF : Hid (lvsB m x = true) := Lib.hid (by
                  have := HALQ.out
                  rw [List.take_of_length_le (by rw [HM.out]; omega)] at this
                  rw [HR2.out, this])
                go_wp2_with fail
                exact ⟨⟨k + 1, by omega, by go_num, take_all HX.out HALL.out HF.out, trivial⟩, by simp [intOf]; omega⟩
          · have HF : Hid (bookB ts = false) := Lib.hid (by rw [HC3.out]; exact all_no HX.out (by rw [HR1.out, decide_eq_false hmn]; rfl))
            have hmn' : ¬ (m : Int) = (np : Int) := by omega
            go_wp2_with fail
            go_ret
            exact ⟨by rw [HF.out]; rfl, rfl⟩
        · have hke : k = n := by omega
          have hk1 : ¬ (k : Int) < (n : Int) := by omega
          have HF : Hid (bookB ts = true) := Lib.hid (by
            have := HALL.out
            rw [List.take_of_length_le (by rw [HL.out]; omega)] at this
            rw [HC3.out, this])
          go_wp2_with fail
          go_ret
          exact ⟨by rw [HF.out]; rfl, rfl⟩
end Go.Proofs.YtdlaphlpimlgdaaGreatDoor
