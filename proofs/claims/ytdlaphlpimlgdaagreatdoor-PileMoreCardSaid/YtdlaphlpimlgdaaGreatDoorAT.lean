/- The planner: the sets of piles of a group, one after the other. -/
import Derived.Test.YtdlaphlpimlgdaaGreatDoorAP
import Derived.Maps.Own
import Derived.DeepKeys4
namespace Go.Proofs.YtdlaphlpimlgdaaGreatDoor
open Go.RowKit Go.Shelf
attribute [local go_sem] Oper.semAt_some

def setL (g : Nat) : List Nat := List.range (g + 1)
abbrev SX (g : Nat) := { x : Nat // x ≤ g }
set_option maxRecDepth 100000 in
set_option maxHeartbeats 2000000 in
theorem sets1_in (n : Nat) (hn : 1 ≤ n) (l Bn n₀ g : Nat) (hg : g ≤ 63) (hall : ∀ s : Nat, s ≤ g → bits .andNot .i64 (s : Int) (g : Int) = 0) (J Jx : List (SX g) → World → Prop)
    (hY : ∀ pre x W, J pre W → pre.length < g + 1 → YieldAt Fence.wide (n - 1) Tryz.prog l #[.int .i64 (x.1 : Int)] W fun e W' =>
      (e = .returned (.bool true) ∧ J (pre ++ [x]) W' ∧ KpB n₀ Bn W W') ∨ (e = .returned (.bool false) ∧ Jx (pre ++ [x]) W'))
    (W : World) (c0 : W.cell? ⟨Bn, 0, none⟩ = some (.int .i64 (g : Int))) (h0 : J [] W) :
    CallsIn Fence.wide n Tryz.prog 158 #[.func (.yield l) #[] #[], .pointer (some ⟨Bn, 0, none⟩)] W fun e W' => (∃ v, e = .returned v) ∧
      ((∃ ys, ys.map Subtype.val = setL g ∧ J ys W') ∨ (∃ pre, True ∧ Jx pre W')) := by
  have C0 := Lib.hid c0
  have g1 : Value.int .i64 (wrap64 ((g : Int) + 1)) = Value.int .i64 ((g : Int) + 1) := by congr 1; exact w64 (by omega)
  refine callsIn_of_wp Tryz.func158 rfl trivial ?_ rfl
  simp only [Tryz.ntmps158, List.size_toArray, List.length_cons, List.length_nil, Nat.reduceAdd, Nat.reduceSub, Array.replicate_succ, Array.replicate_zero, List.push_toArray, List.append_toArray, List.nil_append, List.cons_append]
  gi_wp2
  gi_loopw [6] (fun i wr => ∃ (k : Nat) (pre : List (SX g)), k ≤ g + 1 ∧ i = .int .i64 k ∧ pre.map Subtype.val = List.range k ∧ J pre wr ∧ wr.cell? ⟨Bn, 0, none⟩ = some (.int .i64 (g : Int))) (fun i _ => g + 1 - (intOf i).toNat)
  case atStart => exact ⟨0, [], by omega, rfl, by simp, h0, C0.out⟩
  case round =>
    clear c0
    obtain ⟨k, pre, hk, rfl, hpre, hJs, c0⟩ := hrel
    have HP := Lib.hid hpre; clear hpre
    by_cases hlt : k ≤ g
    · have hk1 : (k : Int) < (g : Int) + 1 := by omega
      have hlen : pre.length < g + 1 := by
        have := congrArg List.length HP.out
        rw [List.length_map, List.length_range] at this
        omega
      have hand := hall k hlt
      obtain ⟨fn, tmps, assign, body, hy, hR⟩ := hY pre ⟨k, hlt⟩ _ hJs hlen
      dsimp only at hy
      gi_wp2
      refine hR.mono ?_
      rintro e W3 h4
      obtain ⟨bv, rfl, h3⟩ := two h4
      clear h4 hy
      have hmap : (pre ++ [(⟨k, hlt⟩ : SX g)]).map Subtype.val = List.range (k + 1) := by
        rw [List.map_append, HP.out, List.range_succ]
        rfl
      have HB := Lib.hid hmap
      clear hmap
      rcases h3 with ⟨rfl, hJ3, hk3⟩ | ⟨rfl, hJx3⟩
      · have hcB : W3.cell? ⟨Bn, 0, none⟩ = some (.int .i64 (g : Int)) := hk3.2.trans c0
        have HcB := Lib.hid hcB
        clear hcB hk3
        gi_wp2
        go_roundw
        case rel => exact ⟨k + 1, _, by omega, by go_num, HB.out, hJ3, HcB.out⟩
        case measure => simp [intOf]; omega
      · gi_wp2
        refine bodyPost_ret (results_none rfl _ _ _) rfl ?_
        exact ⟨⟨_, rfl⟩, .inr ⟨_, trivial, hJx3⟩⟩
    · have hk1 : ¬ (k : Int) < (g : Int) + 1 := by omega
      have hk6 : k = g + 1 := by omega
      subst hk6
      gi_wp2
      go_end0
      exact ⟨⟨_, rfl⟩, .inl ⟨_, HP.out, hJs⟩⟩
theorem sets_stops (n : Nat) (hn : 1 ≤ n) (Bn n₀ g : Nat) (hg : g ≤ 63) (hall : ∀ s : Nat, s ≤ g → bits .andNot .i64 (s : Int) (g : Int) = 0) (w : World) (hBn : Bn < w.heap.size) (c0 : w.cell? ⟨Bn, 0, none⟩ = some (.int .i64 (g : Int))) :
    SeqStopsK Fence.wide n Tryz.prog 158 #[.pointer (some ⟨Bn, 0, none⟩)] (fun x : SX g => #[.int .i64 (x.1 : Int)]) (KpB n₀ Bn) (fun ys => ys.map Subtype.val = setL g) (fun _ => True) (g + 1) w := fun l J Jx W hW _ _ hY h0 => by
  obtain ⟨r1, _⟩ := bcell hW
  exact sets1_in n hn l Bn n₀ g hg hall J Jx hY W ((r1 _ _ hBn).trans c0) h0
set_option maxHeartbeats 400000 in
theorem setsOf_any (s : Int) (w : World) :
    Calls Tryz.prog 140 #[.int .i64 s] w fun e w' => e = .returned (.func (.func 158) #[] #[.pointer (some ⟨w.heap.size, 0, none⟩)]) ∧ w.alloc (.cells #[.int .i64 s] 3) = w' := by
  go_enter Tryz.func140, Tryz.ntmps140
  go_wp2
  go_ret
  exact ⟨rfl, rfl⟩
end Go.Proofs.YtdlaphlpimlgdaaGreatDoor
/- The planner: the cheapest of the sets of a group. -/
namespace Go.Proofs.YtdlaphlpimlgdaaGreatDoor
open Go.RowKit Go.Shelf
attribute [local go_sem] Oper.semAt_some

theorem ko_below {W W' : World} (h : Below W.heap.size W W') : KeepsOthers W W' := ⟨h.size, fun k _ hk _ => (h.block k (Array.getElem?_eq_some_iff.1 hk).1).trans hk⟩
/-- Some blocks, as they are. -/
structure FI (n0 : Nat) (w : World) (fs : List (Nat × Array Value × TypeId)) (W : World) : Prop where
  bel : Below n0 w W
  fix : ∀ x ∈ fs, W.heap[x.1]? = some (.cells x.2.1 x.2.2 (0, 0))
theorem FI.own {n0 N : Nat} {w A B : World} {fs : List (Nat × Array Value × TypeId)} {row : Option Nat} (hN : n0 ≤ N) (h : FI n0 w fs A) (hA : n0 ≤ A.heap.size) (hg : A.grownBy B row) (hr : ∀ r, row = some r → N ≤ r ∧ ∃ o : Obj, A.heap[r]? = some o ∧ o.isCells = false) : FI n0 w fs B :=
  ⟨h.bel.grown hg hA (fun k e => by have := (hr k e).1; omega), fun x hx => by
    have hb := h.fix x hx
    refine (hg.block x.1 (Array.getElem?_eq_some_iff.1 hb).1 (fun e => ?_)).trans hb
    obtain ⟨_, o, h2, h3⟩ := hr x.1 e.symm
    rw [hb] at h2
    injection h2 with h2
    rw [← h2] at h3
    cases h3⟩
theorem FI.up {n0 : Nat} {w W W' : World} {fs : List (Nat × Array Value × TypeId)} (h : FI n0 w fs W) (hn : n0 ≤ W.heap.size) (hb : Below W.heap.size W W') : FI n0 w fs W' :=
  ⟨h.bel.trans (hb.mono hn), fun x hx => (hb.block _ (Array.getElem?_eq_some_iff.1 (h.fix x hx)).1).trans (h.fix x hx)⟩
theorem FI.keep {n0 : Nat} {w W : World} {fs : List (Nat × Array Value × TypeId)} (h : FI n0 w fs W) (b j : Nat) (v : Value) (x : Nat × Array Value × TypeId) (hx : x ∈ fs) (hne : x.1 ≠ b) : (W.setCell ⟨b, j, none⟩ v).heap[x.1]? = some (.cells x.2.1 x.2.2 (0, 0)) :=
  (Below.heap_setCell _ _ _ _ hne).trans (h.fix x hx)
def chF (f : Nat → Int) (a : Int × Int × Bool) (s : Nat) : Int × Int × Bool := if !a.2.2 || decide (f s < a.2.1) then ((s : Int), f s, true) else a
def chI (f : Nat → Int) (g : Nat) : Int := ((setL g).foldl (chF f) (0, 0, false)).1
theorem chF_yes {f : Nat → Int} {a : Int × Int × Bool} {s : Nat} (h : (!a.2.2 || decide (f s < a.2.1)) = true) : chF f a s = ((s : Int), f s, true) := if_pos h
theorem chF_no {f : Nat → Int} {a : Int × Int × Bool} {s : Nat} (h : (!a.2.2 || decide (f s < a.2.1)) = false) : chF f a s = a := if_neg (by rw [h]; decide)
def chL (n0 : Nat) (fv : Value) (a : Int × Int × Bool) : List (Nat × Array Value × TypeId) := [(n0, #[fv], 169), (n0 + 1, #[.int .i64 a.1], 3), (n0 + 1 + 1, #[.int .i64 a.2.1], 3), (n0 + 1 + 1 + 1, #[.bool a.2.2], 4)]
theorem ch_set {n0 : Nat} {w W : World} {fv : Value} {a : Int × Int × Bool} (h : FI n0 w (chL n0 fv a) W) (x y : Int) :
    FI n0 w (chL n0 fv (x, y, true)) (((W.setCell ⟨n0 + 1, 0, none⟩ (.int .i64 x)).setCell ⟨n0 + 1 + 1, 0, none⟩ (.int .i64 y)).setCell ⟨n0 + 1 + 1 + 1, 0, none⟩ (.bool true)) := by
  have h0 := h.fix (n0, #[fv], 169) (by simp [chL])
  have h1 := h.fix (n0 + 1, #[.int .i64 a.1], 3) (by simp [chL])
  have h2 := h.fix (n0 + 1 + 1, #[.int .i64 a.2.1], 3) (by simp [chL])
  have h3 := h.fix (n0 + 1 + 1 + 1, #[.bool a.2.2], 4) (by simp [chL])
  simp only at h0 h1 h2 h3
  refine ⟨((h.bel.setCell (p := ⟨n0 + 1, 0, none⟩) (by simp) _).setCell (p := ⟨n0 + 1 + 1, 0, none⟩) (by simp; omega) _).setCell (p := ⟨n0 + 1 + 1 + 1, 0, none⟩) (by simp; omega) _, fun z hz => ?_⟩
  simp only [chL, List.mem_cons, List.not_mem_nil, or_false] at hz
  rcases hz with rfl | rfl | rfl | rfl
  · exact (Below.heap_setCell _ _ _ _ (show n0 ≠ n0 + 1 + 1 + 1 by omega)).trans ((Below.heap_setCell _ _ _ _ (show n0 ≠ n0 + 1 + 1 by omega)).trans ((Below.heap_setCell _ _ _ _ (show n0 ≠ n0 + 1 by omega)).trans h0))
  · exact (Below.heap_setCell _ _ _ _ (show n0 + 1 ≠ n0 + 1 + 1 + 1 by omega)).trans ((Below.heap_setCell _ _ _ _ (show n0 + 1 ≠ n0 + 1 + 1 by omega)).trans (by simpa using blk_set h1 0 (.int .i64 x)))
  · exact (Below.heap_setCell _ _ _ _ (show n0 + 1 + 1 ≠ n0 + 1 + 1 + 1 by omega)).trans (by simpa using blk_set ((Below.heap_setCell _ ⟨n0 + 1, 0, none⟩ (.int .i64 x) _ (show n0 + 1 + 1 ≠ n0 + 1 by omega)).trans h2) 0 (.int .i64 y))
  · simpa using blk_set ((Below.heap_setCell _ ⟨n0 + 1 + 1, 0, none⟩ (.int .i64 y) _ (show n0 + 1 + 1 + 1 ≠ n0 + 1 + 1 by omega)).trans ((Below.heap_setCell _ ⟨n0 + 1, 0, none⟩ (.int .i64 x) _ (show n0 + 1 + 1 + 1 ≠ n0 + 1 by omega)).trans h3)) 0 (.bool true)
set_option maxRecDepth 100000 in
set_option maxHeartbeats 2000000 in
theorem cheapest_any (Bn g : Nat) (hg : g ≤ 63) (hall : ∀ s : Nat, s ≤ g → bits .andNot .i64 (s : Int) (g : Int) = 0) (fid : Nat) (cs : Array Value) (f : Nat → Int) (w : World) (hBn : Bn < w.heap.size) (c0 : w.cell? ⟨Bn, 0, none⟩ = some (.int .i64 (g : Int)))
    (hE : ∀ args w, (callFunc fid args).run Tryz.prog w = .ok (.enter fid args) w)
    (hC : ∀ u, Below w.heap.size w u → ∀ s : Nat, s ≤ g → Calls Tryz.prog fid (#[] ++ (#[.int .i64 (s : Int)] ++ cs)) u fun e w' => e = .returned (.int .i64 (f s)) ∧ Below u.heap.size u w') :
    Calls Tryz.prog 139 #[.func (.func 158) #[] #[.pointer (some ⟨Bn, 0, none⟩)], .func (.func fid) #[] cs] w fun e w' => e = .returned (.int .i64 (chI f g)) ∧ Below w.heap.size w w' := by
  obtain ⟨z0, z1, z2, z3, hb⟩ := four_new w (.cells #[.func (.func fid) #[] cs] 169) (.cells #[.int .i64 0] 3) (.cells #[.int .i64 0] 3) (.cells #[.bool false] 4)
  have HI : Hid (FI w.heap.size w (chL w.heap.size (.func (.func fid) #[] cs) (0, 0, false)) ((((w.alloc (.cells #[.func (.func fid) #[] cs] 169)).alloc (.cells #[.int .i64 0] 3)).alloc (.cells #[.int .i64 0] 3)).alloc (.cells #[.bool false] 4))) :=
    Lib.hid ⟨hb, fun x hx => by
      simp only [chL, List.mem_cons, List.not_mem_nil, or_false] at hx
      rcases hx with rfl | rfl | rfl | rfl
      · exact z0
      · exact z1
      · exact z2
      · exact z3⟩
  have HSZ : Hid (w.heap.size + 1 + 1 + 1 < ((((w.alloc (.cells #[.func (.func fid) #[] cs] 169)).alloc (.cells #[.int .i64 0] 3)).alloc (.cells #[.int .i64 0] 3)).alloc (.cells #[.bool false] 4)).heap.size) := Lib.hid (heapsz z3)
  have HCB := Lib.hid (((bcell hb).1 _ 0 hBn).trans c0)
  have HCC := Lib.hid hC
  clear z0 z1 z2 z3 hb hC c0
  refine callsIn_wide.1 (callsIn_of_wp_marks (n := 5) Tryz.func139 rfl trivial (wpIn_wide.2 ?_) rfl)
  simp only [Tryz.ntmps139, List.size_toArray, List.length_cons, List.length_nil, Nat.reduceAdd, Nat.reduceSub, Array.replicate_succ, Array.replicate_zero, List.push_toArray, List.append_toArray, List.nil_append, List.cons_append]
  go_wp2_with fail
  generalize (((w.alloc (.cells #[.func (.func fid) #[] cs] 169)).alloc (.cells #[.int .i64 0] 3)).alloc (.cells #[.int .i64 0] 3)).alloc (.cells #[.bool false] 4) = w5 at *
  refine (wpIn_wide (n := 3)).1 ?_
  refine wpIn_rangeFunc_ownF rfl (by decide) (gf := 158) (lb := #[.pointer (some ⟨Bn, 0, none⟩)]) rfl trivial (enters_of Tryz.func158 (by kernel_rfl) rfl)
    (sets_stops (3 - 1) (by decide) Bn w.heap.size g hg hall w5 (by have := HSZ.out; omega) HCB.out)
    kpB_t (kpB_b (by have := HSZ.out; omega) (by have := HSZ.out; omega)) (Below.refl _ _) (fun _ => rfl)
    (fun pre W => FI w.heap.size w (chL w.heap.size (.func (.func fid) #[] cs) ((pre.map Subtype.val).foldl (chF f) (0, 0, false))) W)
    (fun _ _ _ => False)
    (fun pre A B row hs hg hr => hs.own (N := w5.heap.size) (by have := HSZ.out; omega) (by have := heapsz (hs.fix _ List.mem_cons_self); omega) hg hr)
    (fun _ _ _ _ _ hs _ _ => hs)
    (show FI _ _ _ _ from HI.out)
    (fun x => { tmps := List.toArray ((Value.func (.func 158) #[] #[.pointer (some ⟨Bn, 0, none⟩)]) :: (Value.func (.func fid) #[] cs) :: undef :: (Value.pointer (some ⟨w.heap.size, 0, none⟩)) :: (Value.int .i64 0) :: (Value.pointer (some ⟨w.heap.size + 1, 0, none⟩)) :: (Value.pointer (some ⟨w.heap.size + 1 + 1, 0, none⟩)) :: (Value.pointer (some ⟨w.heap.size + 1 + 1 + 1, 0, none⟩)) :: (Value.int .i64 (x.1 : Int)) :: undef :: (Value.func (.func 158) #[] #[.pointer (some ⟨Bn, 0, none⟩)]) :: (Value.int .i64 (x.1 : Int)) :: undef :: undef :: undef :: undef :: undef :: undef :: undef :: undef :: undef :: undef :: undef :: undef :: undef :: []), defers := [] }) ?assign ?body ?done ?stop
  case assign =>
    intro l x W K hK
    gi_wp2
    exact hK
  case body =>
    rintro l pre ⟨x, hx⟩ W hI hlen
    have HI5 := Lib.hid hI
    have HE : Hid (((pre ++ [(⟨x, hx⟩ : SX g)]).map Subtype.val).foldl (chF f) (0, 0, false) = chF f ((pre.map Subtype.val).foldl (chF f) (0, 0, false)) x) := Lib.hid (by rw [List.map_append, List.foldl_append]; rfl)
    obtain ⟨A, hA⟩ : ∃ z, (pre.map Subtype.val).foldl (chF f) (0, 0, false) = z := ⟨_, rfl⟩
    rw [hA] at HE HI5 hI
    have a0 := cell_of_row W w.heap.size 0 _ 169 (0, 0) (hI.fix (w.heap.size, #[.func (.func fid) #[] cs], 169) (by simp [chL]))
    simp at a0
    have hcall := HCC.out W hI.bel x hx
    have HCL := Lib.hid hcall
    clear hI hA hcall
    dsimp only
    gi_wp2
    refine ⟨trivial, CallsIn.inRound l (callsIn_wide.2 (Calls.mono (by simpa using HCL.out) ?_))⟩
    rintro e W1 ⟨rfl, hb1⟩
    have hI1 := HI5.out.up (by have := heapsz (HI5.out.fix _ List.mem_cons_self); omega) hb1
    have HI1 := Lib.hid hI1
    have HB1 := Lib.hid hb1
    have b1 := hI1.fix (w.heap.size + 1, #[.int .i64 A.1], 3) (by simp [chL])
    have b2 := hI1.fix (w.heap.size + 1 + 1, #[.int .i64 A.2.1], 3) (by simp [chL])
    have b3 := hI1.fix (w.heap.size + 1 + 1 + 1, #[.bool A.2.2], 4) (by simp [chL])
    simp only at b1 b2 b3
    have e1 := cell_of_row W1 (w.heap.size + 1) 0 _ 3 (0, 0) b1
    have e2 := cell_of_row W1 (w.heap.size + 1 + 1) 0 _ 3 (0, 0) b2
    have e3 := cell_of_row W1 (w.heap.size + 1 + 1 + 1) 0 _ 4 (0, 0) b3
    simp at e1 e2 e3
    have f1 : W1.frozen? ⟨w.heap.size + 1, 0, none⟩ = false := by simp [World.frozen?, b1]
    have f2 : W1.frozen? ⟨w.heap.size + 1 + 1, 0, none⟩ = false := by simp [World.frozen?, b2]
    have f3 : W1.frozen? ⟨w.heap.size + 1 + 1 + 1, 0, none⟩ = false := by simp [World.frozen?, b3]
    have HWB : Hid (w.heap.size ≤ W.heap.size ∧ Bn < W.heap.size) := Lib.hid ⟨HI5.out.bel.size, by have := HI5.out.bel.size; omega⟩
    have HN := Lib.hid (ch_set HI1.out (x : Int) (f x))
    clear hI1 b1 b2 b3 hb1 HCL a0
    obtain ⟨A1, A2, A3⟩ := A
    simp only at e1 e2 e3 HE
    obtain ⟨Y, hY⟩ : ∃ z, f x = z := ⟨_, rfl⟩
    have HYF := Lib.hid hY
    rw [hY] at HN ⊢
    clear hY
    cases A3 with
    | false =>
      gi_wp2
      refine ⟨(ko_below HB1.out).trans (((KeepsOthers.setCell _ _ _).trans (KeepsOthers.setCell _ _ _)).trans (KeepsOthers.setCell _ _ _)), ⟨(((HB1.out.mono HWB.out.1).setCell (p := ⟨w.heap.size + 1, 0, none⟩) (by simp) _).setCell (p := ⟨w.heap.size + 1 + 1, 0, none⟩) (by simp; omega) _).setCell (p := ⟨w.heap.size + 1 + 1 + 1, 0, none⟩) (by simp; omega) _, ?_⟩, ?_⟩
      · exact ((World.cell?_setCell_other _ _ _ _ (fun e => by injection e with e; omega)).trans ((World.cell?_setCell_other _ _ _ _ (fun e => by injection e with e; omega)).trans (World.cell?_setCell_other _ _ _ _ (fun e => by injection e with e; omega)))).trans ((bcell HB1.out).1 _ 0 HWB.out.2)
      · show FI _ _ (chL _ _ (((pre ++ [(⟨x, hx⟩ : SX g)]).map Subtype.val).foldl (chF f) (0, 0, false))) _
        rw [HE.out, chF_yes (by rfl), HYF.out]
        exact HN.out
    | true =>
      by_cases hlt : Y < A2
      · gi_wp2
        refine ⟨(ko_below HB1.out).trans (((KeepsOthers.setCell _ _ _).trans (KeepsOthers.setCell _ _ _)).trans (KeepsOthers.setCell _ _ _)), ⟨(((HB1.out.mono HWB.out.1).setCell (p := ⟨w.heap.size + 1, 0, none⟩) (by simp) _).setCell (p := ⟨w.heap.size + 1 + 1, 0, none⟩) (by simp; omega) _).setCell (p := ⟨w.heap.size + 1 + 1 + 1, 0, none⟩) (by simp; omega) _, ?_⟩, ?_⟩
        · exact ((World.cell?_setCell_other _ _ _ _ (fun e => by injection e with e; omega)).trans ((World.cell?_setCell_other _ _ _ _ (fun e => by injection e with e; omega)).trans (World.cell?_setCell_other _ _ _ _ (fun e => by injection e with e; omega)))).trans ((bcell HB1.out).1 _ 0 HWB.out.2)
        · show FI _ _ (chL _ _ (((pre ++ [(⟨x, hx⟩ : SX g)]).map Subtype.val).foldl (chF f) (0, 0, false))) _
          rw [HE.out, chF_yes (by simp only [HYF.out]; simp; exact hlt), HYF.out]
          exact HN.out
      · gi_wp2
        refine ⟨ko_below HB1.out, ⟨HB1.out.mono HWB.out.1, (bcell HB1.out).1 _ 0 HWB.out.2⟩, ?_⟩
        show FI _ _ (chL _ _ (((pre ++ [(⟨x, hx⟩ : SX g)]).map Subtype.val).foldl (chF f) (0, 0, false))) _
        rw [HE.out, chF_no (by simp only [HYF.out]; simp; omega)]
        exact HI1.out
  case done =>
    rintro D ys W hD hys hI hK
    rw [hys] at hI
    have a1 := cell_of_row W (w.heap.size + 1) 0 _ 3 (0, 0) (hI.fix (w.heap.size + 1, #[.int .i64 (chI f g)], 3) (by simp [chL, chI]))
    simp at a1
    have HW := Lib.hid hI.bel
    have HM : Hid (Marks W w.heap.size [D]) := Lib.hid ⟨by simp, fun E hE => by rw [List.mem_singleton.1 hE]; exact ⟨by have := HSZ.out; omega, hK⟩⟩
    clear hI hK hys
    simp only [Exit.inBlock, Exit.then]
    go_wp2_with fail
    refine leaves_marks [D] W HM.out (fun w' hk => ⟨_, results_tmp rfl _ _ _, ?_⟩)
    exact ⟨rfl, HW.out.trans hk.1⟩
  case stop =>
    rintro D c pre W _ _ h _
    exact h.elim
end Go.Proofs.YtdlaphlpimlgdaaGreatDoor
/- The planner: what a set of piles costs, with all that comes later. -/
namespace Go.Proofs.YtdlaphlpimlgdaaGreatDoor
open Go.RowKit Go.Shelf

set_option maxRecDepth 100000 in
set_option maxHeartbeats 2000000 in
theorem jcost_X {X : Ctx} (K : X.Ok) {LL : List (List Sp)} {p : Nat} {A3 : Option Addr} {c3 : Nat} {mv : Value} {w : World} (h : PlAt X LL p A3 c3 mv w) (b1 b2 b3 b4 b5 bc oc m cc s y : Nat) (g V : Int) (a b c d e f : Int)
    (z1 : w.heap[b1]? = some (.cells #[.pointer (some ⟨p, 0, none⟩)] 164 (0, 0))) (z2 : w.heap[b2]? = some (.cells #[.slice (some ⟨bc, oc, none⟩) m cc] 34 (0, 0))) (z3 : w.heap[b3]? = some (.cells #[.int .i64 a, .int .i64 b, .int .i64 c, .int .i64 d, .int .i64 e, .int .i64 f] 192 (0, 0)))
    (z4 : w.heap[b4]? = some (.cells #[.int .i64 (y : Int)] 3 (0, 0))) (z5 : w.heap[b5]? = some (.cells #[.int .i64 g] 3 (0, 0)))
    (hs1 : (s : Int) ≤ (2 ^ X.np : Int) - 1) (hy : y ≤ 9) (hst : ∀ i, 0 ≤ (jakL [a, b, c, d, e, f] s y).getD i 0 ∧ (jakL [a, b, c, d, e, f] s y).getD i 0 ≤ (y : Int))
    (k : Nat) (hk : plaI (jakL [a, b, c, d, e, f] s y) g y = (k : Int)) (hkm : k < m) (hbc : bc < w.heap.size) (zc : w.cell? ⟨bc, oc + k, none⟩ = some (.int .i64 V)) (hV : 0 ≤ V ∧ V ≤ 1000000000) :
    Calls Tryz.prog 141 #[.int .i64 (s : Int), .pointer (some ⟨b1, 0, none⟩), .pointer (some ⟨b2, 0, none⟩), .pointer (some ⟨b3, 0, none⟩), .pointer (some ⟨b4, 0, none⟩), .pointer (some ⟨b5, 0, none⟩)] w fun e w' => e = .returned (.int .i64 (priI X (s : Int) + V)) ∧ Below w.heap.size w w' := by
  have hpr := pri_bd K (pilL (s : Int)) 0 (fun z hz => by
    unfold pilL at hz
    have := (List.mem_filter.1 hz).2
    exact jack_lt (by omega) hs1 this) (Int.le_refl _)
  have hpl := pilL_len (s : Int)
  have hpr2 : 0 ≤ priI X (s : Int) ∧ priI X (s : Int) ≤ 6000000 := ⟨hpr.1, by have := hpr.2; unfold priI; omega⟩
  have h6 : (jakL [a, b, c, d, e, f] s y).length = 6 := jak_len y _ _
  have HC1 := Lib.hid (fun u : KeptW w => Calls.in_kept u (price_X K (h.up u.h) (s : Int) (by omega) hs1))
  have HC2 := Lib.hid (fun u : KeptW w => Calls.in_kept u (jacked_any a b c d e f (s : Int) y u.w))
  have HC3 := Lib.hid (fun u : KeptW w => Calls.in_kept u (place_any (jakL [a, b, c, d, e, f] s y) h6 g y hy hst u.w))
  rw [hk] at HC3
  obtain ⟨P, hP⟩ : ∃ z, priI X (s : Int) = z := ⟨_, rfl⟩
  rw [hP] at HC1 hpr2 ⊢
  obtain ⟨JV, hJV⟩ : ∃ z, Value.agg (iV (jakL [a, b, c, d, e, f] s y)) = z := ⟨_, rfl⟩
  rw [hJV] at HC2 HC3
  have F1 : ∀ u : KeptW w, u.w.cell? ⟨b1, 0, none⟩ = some (.pointer (some ⟨p, 0, none⟩)) := fun u => cell_of_row u.w b1 0 _ 164 (0, 0) ((u.h.block _ (heapsz z1)).trans z1)
  have F2 : ∀ u : KeptW w, u.w.cell? ⟨b2, 0, none⟩ = some (.slice (some ⟨bc, oc, none⟩) m cc) := fun u => cell_of_row u.w b2 0 _ 34 (0, 0) ((u.h.block _ (heapsz z2)).trans z2)
  have F4 : ∀ u : KeptW w, u.w.cell? ⟨b4, 0, none⟩ = some (.int .i64 (y : Int)) := fun u => cell_of_row u.w b4 0 _ 3 (0, 0) ((u.h.block _ (heapsz z4)).trans z4)
  have F5 : ∀ u : KeptW w, u.w.cell? ⟨b5, 0, none⟩ = some (.int .i64 g) := fun u => cell_of_row u.w b5 0 _ 3 (0, 0) ((u.h.block _ (heapsz z5)).trans z5)
  have Z (u : KeptW w) (j : Nat) : u.w.cell? ⟨b3, j, none⟩ = #[Value.int .i64 a, .int .i64 b, .int .i64 c, .int .i64 d, .int .i64 e, .int .i64 f][j]? := cell_of_row u.w b3 j _ 192 (0, 0) ((u.h.block _ (heapsz z3)).trans z3)
  have S0 : ∀ u : KeptW w, u.w.cell? ⟨b3, 0, none⟩ = some (.int .i64 a) := fun u => Z u 0
  have S1 : ∀ u : KeptW w, u.w.cell? ⟨b3, 1, none⟩ = some (.int .i64 b) := fun u => Z u 1
  have S2 : ∀ u : KeptW w, u.w.cell? ⟨b3, 2, none⟩ = some (.int .i64 c) := fun u => Z u 2
  have S3 : ∀ u : KeptW w, u.w.cell? ⟨b3, 3, none⟩ = some (.int .i64 d) := fun u => Z u 3
  have S4 : ∀ u : KeptW w, u.w.cell? ⟨b3, 4, none⟩ = some (.int .i64 e) := fun u => Z u 4
  have S5 : ∀ u : KeptW w, u.w.cell? ⟨b3, 5, none⟩ = some (.int .i64 f) := fun u => Z u 5
  have FV : ∀ u : KeptW w, u.w.cell? ⟨bc, oc + k, none⟩ = some (.int .i64 V) := fun u => ((bcell u.h).1 _ _ hbc).trans zc
  have k0 : (0 : Int) ≤ (k : Int) := by omega
  have k1 : (k : Int) < (m : Int) := by omega
  clear Z z1 z2 z3 z4 z5 h K hpr hpl h6 hk zc hP hJV hst
  go_enter Tryz.func141, Tryz.ntmps141
  go_wp2_with fail
  refine rk_region (by kernel_rfl) (by kernel_rfl) ?_
  repeat (go_big_quiet_step (first | (with_reducible exact HC1.out _) | (with_reducible exact HC2.out _) | (with_reducible exact HC3.out _) | fail))
  refine wpQuiet_nil ?_
  rintro _ ⟨u, rfl⟩
  go_wp2_with fail
  go_ret
  exact ⟨rfl, u.h⟩
end Go.Proofs.YtdlaphlpimlgdaaGreatDoor
/- The planner's map: what is put into it, what is found in it. -/
namespace Go.Proofs.YtdlaphlpimlgdaaGreatDoor
open Go.RowKit Go.Shelf
open Go.Maps (Keyed)
open Go.ChangeMaps (setBlock heap_setBlock_same heap_setBlock_other)

theorem laid_out : laidOutB Tryz.prog = true := by kernel_rfl
theorem key_row : 189 < Tryz.prog.types.size := of_decide_eq_true (by kernel_rfl)
theorem key_type : Tryz.prog.keyTypeAt 2 189 = true := by kernel_rfl
set_option maxRecDepth 100000 in
theorem key_law : Keyed Tryz.prog 189 := Keyed.of_law (deep_law_laid laid_out (m := 2) (by omega) key_row key_type (by rw [Tryz.underlying189]))
def keyV (g y : Int) : Value := .agg #[.int .i64 g, .int .i64 y]
theorem map_put {w : World} {b clock : Nat} {es : Array MapEntry} (hb : w.heap[b]? = some (.map es clock)) {key val : Value} {kl : Lit} (hkey : keyOf Tryz.prog 189 key = some kl) (hes : ∀ e ∈ es.toList, ∃ l, keyOf Tryz.prog 189 e.key = some l) (hne : ∀ e ∈ es.toList, e.key ≠ key) :
    (Instr.mapUpdate 165 (.map (some b)) key val).run Tryz.prog w = .ok () (setBlock w b (.map (es.push ⟨key, val, clock⟩) (clock + 1))) := by
  rcases key_law.find w hkey es.toList hes with ⟨h1, h2⟩ | ⟨j, e0, h1, h2, h3⟩
  · simp [Instr.mapUpdate, run_underlying Tryz.underlying165, MapKept.run_getObj_map hb, key_law.check w false hkey, h1, MapKept.run_setObj_map _ hb, Result.andThen, setBlock]
  · exact absurd h3 (hne e0 (List.mem_of_getElem? h2))
theorem map_get {w : World} {b clock : Nat} {es : Array MapEntry} (hb : w.heap[b]? = some (.map es clock)) {key v : Value} {kl : Lit} (hkey : keyOf Tryz.prog 189 key = some kl) (hes : ∀ e ∈ es.toList, ∃ l, keyOf Tryz.prog 189 e.key = some l)
    (hin : ∃ e ∈ es.toList, e.key = key) (hv : ∀ e ∈ es.toList, e.key = key → e.val = v) :
    (Instr.lookup 165 (.map (some b)) key false).run Tryz.prog w = .ok v w := by
  rcases key_law.find w hkey es.toList hes with ⟨h1, h2⟩ | ⟨j, e0, h1, h2, h3⟩
  · obtain ⟨e, he, hk⟩ := hin
    exact absurd hk (h2 e he)
  · have := hv e0 (List.mem_of_getElem? h2) h3
    simp [Instr.lookup, run_underlying Tryz.underlying165, MapKept.run_getObj_map hb, key_law.check w _ hkey, h1, Result.andThen, this]
theorem key_some {v : Value} (h : (keyOf Tryz.prog 189 v).isSome = true) : ∃ l, keyOf Tryz.prog 189 v = some l := Option.isSome_iff_exists.1 h
theorem key_31 : ∃ l, keyOf Tryz.prog 189 (keyV 3 1) = some l := key_some (by kernel_rfl)
theorem key_30 : ∃ l, keyOf Tryz.prog 189 (keyV 3 0) = some l := key_some (by kernel_rfl)
end Go.Proofs.YtdlaphlpimlgdaaGreatDoor
