/- Stores: fair prices, what must be landed at least, the floor of prices, by the code. Stores: what must be landed at least, the floor of prices, by the code. Stores: the floor of prices, by the code. -/
import Derived.Test.YtijjkiogmlannaaDoorK
import Derived.Test.YtijjkiogmlannaaDoorSC
namespace Go.Proofs.YtijjkiogmlannaaDoor
open Go.RowKit

theorem amtB_le {m n : Int} {g : Gd} (h : amtB m g = true) (hmn : m ≤ n) : amtB n g = true := by
  rw [amtB_iff] at *
  omega
def fairB (l : List Shp) (p : Gd) : Bool := l.all fun s => decide (worG s.g p ≤ s.c)
set_option maxRecDepth 100000 in
set_option maxHeartbeats 4000000 in
theorem fair_any (A : Option Addr) (n c : Nat) (l : List Shp) (p : Gd) (w : World) (hl : l.length = n) (hn : n ≤ maxLen) (hA : ShsAt w w.heap.size A l) (hs : ∀ s ∈ l, amtB 1000 s.g = true) (hp : amtB 1000000 p = true) :
    Calls Tryd.prog 59 #[.slice A n c, gV p] w fun e w' => e = .returned (.bool (fairB l p)) ∧ Below w.heap.size w w' := by
  have z0 := heap_alloc_new w (.cells (gC p) 23)
  have hb0 := (Below.refl w.heap.size w).alloc (Nat.le_refl _) (.cells (gC p) 23)
  obtain ⟨w1, hw1⟩ : ∃ z, w.alloc (.cells (gC p) 23) = z := ⟨_, rfl⟩
  rw [hw1] at z0 hb0
  have HL := Lib.hid hl; have HA := Lib.hid (RowAt.up (k := 5) (R := shR) hA hb0); have HB0 := Lib.hid hb0; have HS := Lib.hid hs; have Z0 := Lib.hid z0
  unfold maxLen at hn
  have KW : Hid (∀ (s : Shp) u, s ∈ l → Calls Tryd.prog 60 #[gV s.g, gV p] u fun e w' => e = .returned (.int .i64 (worG s.g p)) ∧ Below u.heap.size u w') := Lib.hid fun s u h => worth_any s.g p u (amtB_le (hs s h) (by omega)) hp
  clear hl hA hs hp z0 hb0
  go_enter Tryd.func59, Tryd.ntmps59
  go_wp2_with fail
  try rw [hw1]
  clear hw1
  go_loopw [9] (fun i wr => ∃ k : Nat, k ≤ n ∧ i = .int .i64 k ∧ (∀ j x, j < k → l[j]? = some x → decide (worG x.g p ≤ x.c) = true) ∧ Below w1.heap.size w1 wr) (fun i _ => n - (intOf i).toNat)
  case atStart => exact ⟨0, Nat.zero_le _, rfl, fun j _ hj => absurd hj (Nat.not_lt_zero _), Below.refl _ _⟩
  case round =>
    obtain ⟨i, hi, rfl, hall, hbr⟩ := hrel
    have HBR := Lib.hid hbr; have HAL := Lib.hid hall
    clear hall
    by_cases hlt : i < n
    · obtain ⟨x, hx⟩ := get_of_lt (l := l) (k := i) (by rw [HL.out]; exact hlt)
      obtain ⟨b, o, rfl, hb, c0, c1, c2, c3, c4⟩ := sh_el HA.out hx
      replace c0 := ((bcell hbr).1 _ _ hb).trans c0
      replace c1 := ((bcell hbr).1 _ _ hb).trans c1
      replace c2 := ((bcell hbr).1 _ _ hb).trans c2
      replace c3 := ((bcell hbr).1 _ _ hb).trans c3
      replace c4 := ((bcell hbr).1 _ _ hb).trans c4
      have HX := Lib.hid hx
      have i0 : (0 : Int) ≤ (i : Int) := by omega
      have i1 : (i : Int) < (n : Int) := by omega
      have hv := heap_alloc_new wr (.cells (sC x) 44)
      have hbi := (Below.refl wr.heap.size wr).alloc (Nat.le_refl _) (.cells (sC x) 44)
      obtain ⟨q0, q1, q2, q3, q4⟩ := sc_cells hv
      obtain ⟨wi, hwi⟩ : ∃ z, wr.alloc (.cells (sC x) 44) = z := ⟨_, rfl⟩
      rw [hwi] at hv hbi
      have HV := Lib.hid hv; have HBI := Lib.hid (HBR.out.trans (hbi.mono HBR.out.size)); have HWI := Lib.hid hwi; have HP := Lib.hid ((HBI.out.block _ (heapsz Z0.out)).trans Z0.out)
      have KX : Hid (∀ u, Calls Tryd.prog 60 #[gV x.g, gV p] u fun e w' => e = .returned (.int .i64 (worG x.g p)) ∧ Below u.heap.size u w') := Lib.hid fun u => KW.out x u (List.mem_of_getElem? hx)
      clear hbr hx hb hwi hv hbi
      go_wp2_with fail
      rw [HWI.out]
      clear c0 c1 c2 c3 c4 q0 q1 q2 q3 q4
      obtain ⟨q0, q1, q2, q3, q4⟩ := sc_cells HV.out
      obtain ⟨p0, p1, p2⟩ := g_cells HP.out
      have LW : wr.heap.size < wi.heap.size := heapsz HV.out
      have LP : w.heap.size < wi.heap.size := heapsz HP.out
      have v1 : ∀ u : KeptW wi, u.w.cell? ⟨wr.heap.size, 1, none⟩ = some (.int .i64 x.g.a) := fun u => ((bcell u.h).1 _ _ LW).trans q1
      have v2 : ∀ u : KeptW wi, u.w.cell? ⟨wr.heap.size, 2, none⟩ = some (.int .i64 x.g.b) := fun u => ((bcell u.h).1 _ _ LW).trans q2
      have v3 : ∀ u : KeptW wi, u.w.cell? ⟨wr.heap.size, 3, none⟩ = some (.int .i64 x.g.c) := fun u => ((bcell u.h).1 _ _ LW).trans q3
      have v4 : ∀ u : KeptW wi, u.w.cell? ⟨wr.heap.size, 4, none⟩ = some (.int .i64 x.c) := fun u => ((bcell u.h).1 _ _ LW).trans q4
      have u0 : ∀ u : KeptW wi, u.w.cell? ⟨w.heap.size, 0, none⟩ = some (.int .i64 p.a) := fun u => ((bcell u.h).1 _ _ LP).trans p0
      have u1 : ∀ u : KeptW wi, u.w.cell? ⟨w.heap.size, 1, none⟩ = some (.int .i64 p.b) := fun u => ((bcell u.h).1 _ _ LP).trans p1
      have u2 : ∀ u : KeptW wi, u.w.cell? ⟨w.heap.size, 2, none⟩ = some (.int .i64 p.c) := fun u => ((bcell u.h).1 _ _ LP).trans p2
      have HC := Lib.hid (fun u : KeptW wi => Calls.in_kept u (KX.out u.w))
      clear q0 q1 q2 q3 q4 p0 p1 p2 HWI
      refine rk_region (by kernel_rfl) (by kernel_rfl) ?_
      repeat (go_big_quiet_step (first | (with_reducible exact HC.out _) | fail))
      refine wpQuiet_nil ?_
      rintro _ ⟨⟨wz, hbz⟩, rfl⟩
      have HBZ := Lib.hid (HBI.out.trans (hbz.mono HBI.out.size))
      clear hbz v1 v2 v3 v4 u0 u1 u2
      by_cases hle : worG x.g p ≤ x.c
      · have nle : ¬ x.c < worG x.g p := by omega
        have HY : Hid (decide (worG x.g p ≤ x.c) = true) := Lib.hid (decide_eq_true hle)
        go_wp2_with fail
        refine ⟨⟨i + 1, by omega, by go_num, fun j y hj hy => ?_, HBZ.out⟩, by simp [intOf]; omega⟩
        rcases Nat.lt_succ_iff_lt_or_eq.1 hj with h | rfl
        · exact HAL.out j y h hy
        · rw [HX.out] at hy
          cases hy
          exact HY.out
      · have nle : x.c < worG x.g p := by omega
        have HR : Hid (fairB l p = false) := Lib.hid (all_no HX.out (decide_eq_false hle))
        go_wp2_with fail
        go_ret
        exact ⟨ret_bool HR.out.symm, HB0.out.trans (HBZ.out.mono HB0.out.size)⟩
    · have hke : i = n := by omega
      have i1 : ¬ (i : Int) < (n : Int) := by omega
      have HR : Hid (fairB l p = true) := Lib.hid (all_yes fun j x hj hx => HAL.out j x (by rw [HL.out] at hj; omega) hx)
      clear hbr
      go_wp2_with fail
      go_ret
      exact ⟨ret_bool HR.out.symm, HB0.out.trans (HBR.out.mono HB0.out.size)⟩
end Go.Proofs.YtijjkiogmlannaaDoor

namespace Go.Proofs.YtijjkiogmlannaaDoor
open Go.RowKit

theorem foldl_needs : ∀ (l : List Gd) (g : Gd), l.foldl addG g = addG g (needL l)
  | [], g => Gd.eq (by simp [addG, needL, sumK]) (by simp [addG, needL, sumK]) (by simp [addG, needL, sumK])
  | x :: l, g => by
    rw [List.foldl_cons, foldl_needs l]
    refine Gd.eq ?_ ?_ ?_ <;> simp [addG, needL, sumK] <;> omega
theorem sumL_needs (l : List Gd) : sumL l = needL l := by
  unfold sumL
  rw [foldl_needs]
  exact Gd.eq (by simp [addG, z3]) (by simp [addG, z3]) (by simp [addG, z3])
theorem needs_in {l : List Gd} (h : ∀ x ∈ l, amtB 1000 x = true) (hl : l.length ≤ 30) {k : Nat} (hk : k < 3) : 0 ≤ (needL l).at k ∧ (needL l).at k ≤ 30000 := by
  have := sumL_in h l.length (Nat.le_refl _) k hk
  rw [List.take_length, sumL_needs] at this
  omega
theorem min_at (g h : Gd) {k : Nat} (hk : k < 3) : (minG g h).at k = min (g.at k) (h.at k) := by
  match k, hk with
  | 0, _ => rfl
  | 1, _ => rfl
  | 2, _ => rfl
theorem sub_at (g h : Gd) {k : Nat} (hk : k < 3) : (subG g h).at k = g.at k - h.at k := by
  match k, hk with
  | 0, _ => rfl
  | 1, _ => rfl
  | 2, _ => rfl
set_option maxRecDepth 100000 in
set_option maxHeartbeats 4000000 in
theorem missing_any {X : SX} {w : World} (h : X.In w) (K : X.S.Ok) (n : Nat) (hn : n < X.nw) : Calls Tryd.prog 61 #[X.v, .int .i64 (n : Int)] w fun e w' => e = .returned (gV (X.S.miss (X.S.wins.getD n []))) ∧ Below w.heap.size w w' := by
  rcases X with ⟨S, AS, ns, cs, AI, ni, ci, AW, nw, cw⟩
  obtain ⟨z0, z1, hb0⟩ := two_new w (.cells (SX.cells ⟨S, AS, ns, cs, AI, ni, ci, AW, nw, cw⟩) 28) (.cells #[.int .i64 0, .int .i64 0, .int .i64 0] 23)
  obtain ⟨w1, hw1⟩ : ∃ z, (w.alloc (.cells (SX.cells ⟨S, AS, ns, cs, AI, ni, ci, AW, nw, cw⟩) 28)).alloc (.cells #[.int .i64 0, .int .i64 0, .int .i64 0] 23) = z := ⟨_, rfl⟩
  rw [hw1] at z0 z1 hb0
  have hI := h.up hb0
  have hlw := h.hw
  simp only at hn hlw
  obtain ⟨win, hwin⟩ := get_of_lt (l := S.wins) (k := n) (by rw [hlw]; exact hn)
  have e1 : S.wins.getD n [] = win := by rw [List.getD_eq_getElem?_getD, hwin]; rfl
  have hG := hI.W
  simp only at hG
  obtain ⟨bi, oi, A', m, c', rfl, hbi, hm, d1, p1, _⟩ := grid_row hG hwin
  have hwk := K.wins win (List.mem_of_getElem? hwin)
  have hw30 := K.weeks
  simp only at hwk hw30
  show Calls _ _ _ _ fun e w' => e = .returned (gV (S.miss (S.wins.getD n []))) ∧ _
  rw [e1]
  have hN : ∀ k, k < 3 → 0 ≤ (needL win).at k ∧ (needL win).at k ≤ 30000 := fun k hk => needs_in hwk.2 (by omega) hk
  have hT : ∀ k, k < 3 → 0 ≤ S.st.at k ∧ S.st.at k ≤ 1000 := fun k hk => inB_iff.1 (amtB_at.1 K.st k hk)
  have KS : Hid (∀ u, Below w1.heap.size w1 u → Calls Tryd.prog 77 #[.slice A' m c'] u fun e w' => e = .returned (gV (needL win)) ∧ Below u.heap.size u w') := Lib.hid fun u hu => by
    rw [← sumL_needs]
    exact sum_any A' m c' win u hm.symm (by omega) hwk.2 (RowAt.next (k := 3) (R := gR) p1 hu hu.size)
  have KM : Hid (∀ u, Calls Tryd.prog 79 #[gV (needL win), gV S.st] u fun e w' => e = .returned (gV (minG (needL win) S.st)) ∧ Below u.heap.size u w') := Lib.hid fun u => least_any _ _ u
  have KL : Hid (∀ u, Calls Tryd.prog 78 #[gV (needL win), gV (minG (needL win) S.st)] u fun e w' => e = .returned (gV (S.miss win)) ∧ Below u.heap.size u w') := Lib.hid fun u => less_any _ _ u fun k hk => by
    have := hN k hk; have := hT k hk
    rw [min_at _ _ hk]
    omega
  have Z0 := Lib.hid z0; have Z1 := Lib.hid z1; have HB0 := Lib.hid hb0
  obtain ⟨_, _, _, _, _, s11⟩ := sto_box z0
  simp only at s11
  have n0 : (0 : Int) ≤ (n : Int) := by omega
  have n1 : (n : Int) < (nw : Int) := by omega
  have LZ := heapsz z1
  obtain ⟨N, hNN⟩ : ∃ z, needL win = z := ⟨_, rfl⟩
  obtain ⟨M, hMM⟩ : ∃ z, S.miss win = z := ⟨_, rfl⟩
  rw [hNN] at KS KM KL
  rw [hMM] at KL ⊢
  obtain ⟨V, hVV⟩ : ∃ z, minG N S.st = z := ⟨_, rfl⟩
  rw [hVV] at KM KL
  clear h z0 z1 hb0 hI hlw hn hG hwin hbi hwk hw30 hN hT p1 hm e1 K hNN hMM hVV
  go_enter Tryd.func61, Tryd.ntmps61
  go_wp2_with fail
  try rw [hw1]
  clear hw1
  go_wp2_with fail
  refine (KS.out _ (Below.refl _ _)).mono ?_
  rintro e w2 ⟨rfl, hb⟩
  have HB2 := Lib.hid (HB0.out.trans (hb.mono HB0.out.size))
  have Z02 := Lib.hid ((hb.block _ (heapsz Z0.out)).trans Z0.out)
  have Z12 := Lib.hid ((hb.block _ (heapsz Z1.out)).trans Z1.out)
  clear hb s11 d1
  have y2 := heap_alloc_new w2 (.cells (gC N) 23)
  have hb3 := (Below.refl w2.heap.size w2).alloc (Nat.le_refl _) (.cells (gC N) 23)
  obtain ⟨w3, hw3⟩ : ∃ z, w2.alloc (.cells (gC N) 23) = z := ⟨_, rfl⟩
  have q0 := (g_cells y2).1; have q1 := (g_cells y2).2.1; have q2 := (g_cells y2).2.2
  rw [hw3] at y2 hb3
  have HB3 := Lib.hid (HB2.out.trans (hb3.mono HB2.out.size))
  have Z03 := Lib.hid ((hb3.block _ (heapsz Z02.out)).trans Z02.out)
  have Z13 := Lib.hid ((hb3.block _ (heapsz Z12.out)).trans Z12.out)
  have Y2 := Lib.hid y2; have HW3 := Lib.hid hw3
  clear y2 hb3 hw3
  go_wp2_with fail
  rw [HW3.out]
  clear HW3 q0 q1 q2
  have L0 := heapsz Z03.out; have L1 := heapsz Z13.out; have L2 := heapsz Y2.out
  obtain ⟨⟨s0, s1, s2⟩, _⟩ := sto_box Z03.out
  obtain ⟨q0, q1, q2⟩ := g_cells Y2.out
  simp only at s0 s1 s2
  have v0 : ∀ u : KeptW w3, u.w.cell? ⟨w.heap.size, 0, none⟩ = some (.int .i64 S.st.a) := fun u => ((bcell u.h).1 _ _ L0).trans s0
  have v1 : ∀ u : KeptW w3, u.w.cell? ⟨w.heap.size, 1, none⟩ = some (.int .i64 S.st.b) := fun u => ((bcell u.h).1 _ _ L0).trans s1
  have v2 : ∀ u : KeptW w3, u.w.cell? ⟨w.heap.size, 2, none⟩ = some (.int .i64 S.st.c) := fun u => ((bcell u.h).1 _ _ L0).trans s2
  have v3 : ∀ u : KeptW w3, u.w.cell? ⟨w2.heap.size, 0, none⟩ = some (.int .i64 N.a) := fun u => ((bcell u.h).1 _ _ L2).trans q0
  have v4 : ∀ u : KeptW w3, u.w.cell? ⟨w2.heap.size, 1, none⟩ = some (.int .i64 N.b) := fun u => ((bcell u.h).1 _ _ L2).trans q1
  have v5 : ∀ u : KeptW w3, u.w.cell? ⟨w2.heap.size, 2, none⟩ = some (.int .i64 N.c) := fun u => ((bcell u.h).1 _ _ L2).trans q2
  have HC1 := Lib.hid (fun u : KeptW w3 => Calls.in_kept u (KM.out u.w))
  have HC2 := Lib.hid (fun u : KeptW w3 => Calls.in_kept u (KL.out u.w))
  clear s0 s1 s2 q0 q1 q2
  apply rk_tail (C := fun w' => ∃ u : KeptW w3, w' = u.w)
  case hs => exact (rfl : _ = [_, _, _, _, _, _] ++ [_])
  case hm => kernel_rfl
  case hB => kernel_rfl
  case hT => kernel_rfl
  case hC => exact ⟨⟨w3.drew, (Below.refl w3.heap.size w3).drew⟩, rfl⟩
  repeat (go_big_quiet_step (first | (with_reducible exact HC1.out _) | (with_reducible exact HC2.out _) | fail))
  refine wpQuiet_nil ?_
  rintro _ ⟨u, rfl⟩
  have X1 := Lib.hid ((u.h.block _ L1).trans Z13.out)
  have HBX := Lib.hid (HB3.out.trans (u.h.mono HB3.out.size))
  obtain ⟨x0, x1, x2⟩ := g_cells (g := z3) X1.out
  have f0 := g_frz (g := z3) (k := 0) X1.out; have f1 := g_frz (g := z3) (k := 1) X1.out; have f2 := g_frz (g := z3) (k := 2) X1.out
  have HV := Lib.hid (g_fill (g := z3) M X1.out); have HBF := Lib.hid (bel_fill (b := w.heap.size + 1) (x := .int .i64 M.a) (y := .int .i64 M.b) (z := .int .i64 M.c) HBX.out (by omega))
  clear v0 v1 v2 v3 v4 v5 HC1 HC2
  unfold Oper.wp
  simp [go_sem, f0, f1, f2, x0, x1, x2]
  go_wp2_with fail
  obtain ⟨c0, c1, c2⟩ := g_cells HV.out
  exact bodyPost_ret (v := gV M) (by simp [results, Tryd.results61, go_sem, c0, c1, c2]) rfl ⟨rfl, HBF.out⟩
end Go.Proofs.YtijjkiogmlannaaDoor

namespace Go.Proofs.YtijjkiogmlannaaDoor
open Go.RowKit

/-- The floor that is told, and the error. -/
def floI (S : Sto) (n : Int) (p : Gd) : Int × Int :=
  if !(stoB S && (inB 0 n ((S.wins.length : Int) - 1) && amtB 1000000 p)) then (0, 2) else if !fairB S.ships p then (0, 7) else (S.floor (S.wins.getD n.toNat []) p, 0)
theorem miss_amt {S : Sto} {l : List Gd} (K : S.Ok) (h : ∀ x ∈ l, amtB 1000 x = true) (hl : l.length ≤ 30) : amtB 100000 (S.miss l) = true := by
  rw [amtB_at]
  intro k hk
  have h1 := needs_in h hl hk
  have h2 := inB_iff.1 (amtB_at.1 K.st k hk)
  unfold Sto.miss
  rw [sub_at _ _ hk, min_at _ _ hk, inB_iff]
  omega
theorem st_box {w : World} {B : Nat} {X : SX} (h : w.heap[B]? = some (.cells X.cells 28 (0, 0))) : B < w.heap.size := heapsz h
set_option maxRecDepth 100000 in
set_option maxHeartbeats 4000000 in
theorem Floor_any {X : SX} {w : World} (h : X.In w) (n : Int) (p : Gd) : Calls Tryd.prog 31 #[X.v, .int .i64 n, gV p] w fun e w' => e = .returned (.tuple #[.int .i64 (floI X.S n p).1, .int .i64 (floI X.S n p).2]) ∧ Below w.heap.size w w' := by
  rcases X with ⟨S, AS, ns, cs, AI, ni, ci, AW, nw, cw⟩
  obtain ⟨z0, z1, hb0⟩ := two_new w (.cells (SX.cells ⟨S, AS, ns, cs, AI, ni, ci, AW, nw, cw⟩) 28) (.cells (gC p) 23)
  obtain ⟨w1, hw1⟩ : ∃ z, (w.alloc (.cells (SX.cells ⟨S, AS, ns, cs, AI, ni, ci, AW, nw, cw⟩) 28)).alloc (.cells (gC p) 23) = z := ⟨_, rfl⟩
  obtain ⟨⟨s0, s1, s2⟩, ⟨s3, s4, s5⟩, ⟨s6, s7, s8⟩, s9, s10, s11⟩ := sto_box z0
  obtain ⟨p0, p1, p2⟩ := g_cells z1
  simp only at s0 s1 s2 s3 s4 s5 s6 s7 s8 s9 s10 s11
  rw [hw1] at z0 z1 hb0
  have HB1 := Lib.hid hb0; have Z1 := Lib.hid z0; have P1 := Lib.hid z1; have HI1 := Lib.hid (h.up hb0); have HW1 := Lib.hid hw1
  have hlw := h.hw; have hls := h.hs; have hs2 := h.s2; have hw2 := h.w2
  simp only at hlw hls hs2 hw2
  have hck := Check_any HI1.out
  obtain ⟨B, hB⟩ : ∃ z, stoB S = z := ⟨_, rfl⟩
  have hci : chkI S = if B then 0 else 2 := by unfold chkI; rw [hB]
  simp only at hck
  rw [hci] at hck
  have HS := Lib.hid hB; have HCK := Lib.hid hck; have HLW := Lib.hid hlw; have HLS := Lib.hid hls; have HS2 := Lib.hid hs2
  unfold maxLen at hw2
  show Calls _ _ _ _ fun e w' => e = .returned (.tuple #[.int .i64 (floI S n p).1, .int .i64 (floI S n p).2]) ∧ _
  clear h z0 z1 hb0 hlw hls hs2 hck hci hB hw1
  go_enter Tryd.func31, Tryd.ntmps31
  cases B with
  | false =>
    have HR : Hid (floI S n p = (0, 2)) := Lib.hid (by unfold floI; rw [HS.out]; rfl)
    go_wp2_with fail
    rw [HW1.out]
    refine HCK.out.mono ?_
    rintro e w2 ⟨rfl, hb⟩
    have HB2 := Lib.hid (HB1.out.trans (hb.mono HB1.out.size))
    clear hb
    go_wp2_with fail
    exact bodyPost_ret (by simp [results, Tryd.results31, go_sem]; rfl) rfl ⟨by rw [HR.out], HB2.out⟩
  | true =>
    have hok := stoB_iff.1 HS.out
    have hw4 := hok.w4
    rw [HLW.out] at hw4
    have HOK := Lib.hid hok
    clear hok
    go_wp2_with fail
    rw [HW1.out]
    refine HCK.out.mono ?_
    rintro e w2 ⟨rfl, hb⟩
    have HB2 := Lib.hid (HB1.out.trans (hb.mono HB1.out.size)); have Z2 := Lib.hid ((hb.block _ (heapsz Z1.out)).trans Z1.out); have P2 := Lib.hid ((hb.block _ (heapsz P1.out)).trans P1.out); have HI2 := Lib.hid (HI1.out.up hb)
    clear hb s0 s1 s2 s3 s4 s5 s6 s7 s8 s9 s10 s11 p0 p1 p2 Z1 P1
    obtain ⟨⟨s0, s1, s2⟩, ⟨s3, s4, s5⟩, ⟨s6, s7, s8⟩, s9, s10, s11⟩ := sto_box Z2.out
    obtain ⟨p0, p1, p2⟩ := g_cells P2.out
    simp only at s0 s1 s2 s3 s4 s5 s6 s7 s8 s9 s10 s11
    have eN : Value.int .i64 (wrap64 ((nw : Int) - 1)) = Value.int .i64 ((nw : Int) - 1) := by congr 1; exact w64 (by omega)
    obtain ⟨F, hF⟩ : ∃ z, inB 0 n ((nw : Int) - 1) = z := ⟨_, rfl⟩
    have HF := Lib.hid hF
    have KF : Hid (∀ u, Calls Tryd.prog 42 #[.int .i64 0, .int .i64 n, .int .i64 ((nw : Int) - 1)] u fun e w' => e = .returned (.bool F) ∧ u = w') := Lib.hid fun u => by rw [← hF]; exact from_any _ _ _ u
    obtain ⟨G, hG⟩ : ∃ z, amtB 1000000 p = z := ⟨_, rfl⟩
    have HG := Lib.hid hG
    have KG : Hid (∀ u, Calls Tryd.prog 58 #[gV p] u fun e w' => e = .returned (.bool G) ∧ Below u.heap.size u w') := Lib.hid fun u => by rw [← hG]; exact prices_any p u
    clear hF hG
    go_wp2_with fail
    refine (KF.out _).mono ?_
    rintro e w' ⟨rfl, rfl⟩
    cases F with
    | false =>
      have HR : Hid (floI S n p = (0, 2)) := Lib.hid (by unfold floI; rw [HS.out, HLW.out, HF.out]; rfl)
      go_wp2_with fail
      exact bodyPost_ret (by simp [results, Tryd.results31, go_sem]; rfl) rfl ⟨by rw [HR.out], HB2.out⟩
    | true =>
      go_wp2_with fail
      refine (KG.out _).mono ?_
      rintro e w3 ⟨rfl, hb⟩
      have HB3 := Lib.hid (HB2.out.trans (hb.mono HB2.out.size)); have Z3 := Lib.hid ((hb.block _ (heapsz Z2.out)).trans Z2.out); have P3 := Lib.hid ((hb.block _ (heapsz P2.out)).trans P2.out); have HI3 := Lib.hid (HI2.out.up hb)
      clear hb s0 s1 s2 s3 s4 s5 s6 s7 s8 s9 s10 s11 p0 p1 p2 Z2 P2
      cases G with
      | false =>
        have HR : Hid (floI S n p = (0, 2)) := Lib.hid (by unfold floI; rw [HS.out, HLW.out, HF.out, HG.out]; rfl)
        go_wp2_with fail
        exact bodyPost_ret (by simp [results, Tryd.results31, go_sem]; rfl) rfl ⟨by rw [HR.out], HB3.out⟩
      | true =>
        obtain ⟨_, _, _, s9, _, _⟩ := sto_box Z3.out
        obtain ⟨p0, p1, p2⟩ := g_cells P3.out
        simp only at s9
        have hA := HI3.out.P
        simp only at hA
        have hfr := fair_any AS ns cs S.ships p w3 HLS.out HS2.out hA (fun s hs => (shpB_iff.1 (HOK.out.ships s hs)).2.1) HG.out
        obtain ⟨R, hR⟩ : ∃ z, fairB S.ships p = z := ⟨_, rfl⟩
        rw [hR] at hfr
        have HFR := Lib.hid hfr; have HRR := Lib.hid hR
        clear hfr hR hA
        go_wp2_with fail
        refine HFR.out.mono ?_
        rintro e w4 ⟨rfl, hb⟩
        have HB4 := Lib.hid (HB3.out.trans (hb.mono HB3.out.size)); have Z4 := Lib.hid ((hb.block _ (heapsz Z3.out)).trans Z3.out); have P4 := Lib.hid ((hb.block _ (heapsz P3.out)).trans P3.out); have HI4 := Lib.hid (HI3.out.up hb)
        clear hb s9 p0 p1 p2 Z3 P3 HFR
        cases R with
        | false =>
          have HR : Hid (floI S n p = (0, 7)) := Lib.hid (by unfold floI; rw [HS.out, HLW.out, HF.out, HG.out, HRR.out]; rfl)
          go_wp2_with fail
          exact bodyPost_ret (by simp [results, Tryd.results31, go_sem]; rfl) rfl ⟨by rw [HR.out], HB4.out⟩
        | true =>
          have hnn := inB_iff.1 HF.out
          obtain ⟨m, rfl⟩ : ∃ m : Nat, n = (m : Int) := ⟨n.toNat, by omega⟩
          have hmw : m < nw := by omega
          have HMW := Lib.hid hmw
          have hwl : (S.wins.getD m []) ∈ S.wins := by
            rw [List.getD_eq_getElem?_getD, List.getElem?_eq_getElem (by rw [HLW.out]; exact hmw), Option.getD_some]
            exact List.getElem_mem _
          have hwk := HOK.out.wins _ hwl
          have hw30 := HOK.out.weeks
          have HR : Hid (floI S m p = (worG (S.miss (S.wins.getD m [])) p, 0)) := Lib.hid (by unfold floI; rw [HS.out, HLW.out, HF.out, HG.out, HRR.out]; rfl)
          have KM : Hid (∀ u, Below w4.heap.size w4 u → Calls Tryd.prog 61 #[SX.v ⟨S, AS, ns, cs, AI, ni, ci, AW, nw, cw⟩, .int .i64 (m : Int)] u fun e w' => e = .returned (gV (S.miss (S.wins.getD m []))) ∧ Below u.heap.size u w') := Lib.hid fun u hu => missing_any (HI4.out.up hu) HOK.out m HMW.out
          have KW : Hid (∀ u, Calls Tryd.prog 60 #[gV (S.miss (S.wins.getD m [])), gV p] u fun e w' => e = .returned (.int .i64 (worG (S.miss (S.wins.getD m [])) p)) ∧ Below u.heap.size u w') := Lib.hid fun u => worth_any _ p u (miss_amt HOK.out hwk.2 (by omega)) HG.out
          obtain ⟨M, hM⟩ : ∃ z, S.miss (S.wins.getD m []) = z := ⟨_, rfl⟩
          rw [hM] at KM KW HR
          obtain ⟨⟨s0, s1, s2⟩, ⟨s3, s4, s5⟩, ⟨s6, s7, s8⟩, s9, s10, s11⟩ := sto_box Z4.out
          obtain ⟨p0, p1, p2⟩ := g_cells P4.out
          simp only at s0 s1 s2 s3 s4 s5 s6 s7 s8 s9 s10 s11
          have L0 := heapsz Z4.out; have L1 := heapsz P4.out
          have HC1 := Lib.hid (fun u : KeptW w4 => Calls.in_kept u (KM.out u.w u.h))
          have HC2 := Lib.hid (fun u : KeptW w4 => Calls.in_kept u (KW.out u.w))
          have v0 : ∀ u : KeptW w4, u.w.cell? ⟨w.heap.size, 0, none⟩ = some (.int .i64 S.st.a) := fun u => ((bcell u.h).1 _ _ L0).trans s0
          have v1 : ∀ u : KeptW w4, u.w.cell? ⟨w.heap.size, 1, none⟩ = some (.int .i64 S.st.b) := fun u => ((bcell u.h).1 _ _ L0).trans s1
          have v2 : ∀ u : KeptW w4, u.w.cell? ⟨w.heap.size, 2, none⟩ = some (.int .i64 S.st.c) := fun u => ((bcell u.h).1 _ _ L0).trans s2
          have v3 : ∀ u : KeptW w4, u.w.cell? ⟨w.heap.size, 3, none⟩ = some (.int .i64 S.yd.a) := fun u => ((bcell u.h).1 _ _ L0).trans s3
          have v4 : ∀ u : KeptW w4, u.w.cell? ⟨w.heap.size, 4, none⟩ = some (.int .i64 S.yd.b) := fun u => ((bcell u.h).1 _ _ L0).trans s4
          have v5 : ∀ u : KeptW w4, u.w.cell? ⟨w.heap.size, 5, none⟩ = some (.int .i64 S.yd.c) := fun u => ((bcell u.h).1 _ _ L0).trans s5
          have v6 : ∀ u : KeptW w4, u.w.cell? ⟨w.heap.size, 6, none⟩ = some (.int .i64 S.rate) := fun u => ((bcell u.h).1 _ _ L0).trans s6
          have v7 : ∀ u : KeptW w4, u.w.cell? ⟨w.heap.size, 7, none⟩ = some (.int .i64 S.weeks) := fun u => ((bcell u.h).1 _ _ L0).trans s7
          have v8 : ∀ u : KeptW w4, u.w.cell? ⟨w.heap.size, 8, none⟩ = some (.int .i64 S.land) := fun u => ((bcell u.h).1 _ _ L0).trans s8
          have v9 : ∀ u : KeptW w4, u.w.cell? ⟨w.heap.size, 9, none⟩ = some (.slice AS ns cs) := fun u => ((bcell u.h).1 _ _ L0).trans s9
          have v10 : ∀ u : KeptW w4, u.w.cell? ⟨w.heap.size, 10, none⟩ = some (.slice AI ni ci) := fun u => ((bcell u.h).1 _ _ L0).trans s10
          have v11 : ∀ u : KeptW w4, u.w.cell? ⟨w.heap.size, 11, none⟩ = some (.slice AW nw cw) := fun u => ((bcell u.h).1 _ _ L0).trans s11
          have u0 : ∀ u : KeptW w4, u.w.cell? ⟨w.heap.size + 1, 0, none⟩ = some (.int .i64 p.a) := fun u => ((bcell u.h).1 _ _ L1).trans p0
          have u1 : ∀ u : KeptW w4, u.w.cell? ⟨w.heap.size + 1, 1, none⟩ = some (.int .i64 p.b) := fun u => ((bcell u.h).1 _ _ L1).trans p1
          have u2 : ∀ u : KeptW w4, u.w.cell? ⟨w.heap.size + 1, 2, none⟩ = some (.int .i64 p.c) := fun u => ((bcell u.h).1 _ _ L1).trans p2
          clear s0 s1 s2 s3 s4 s5 s6 s7 s8 s9 s10 s11 p0 p1 p2 hwl hwk hw30 hM hnn hmw HF eN KF
          go_wp2_with fail
          refine rk_region (by kernel_rfl) (by kernel_rfl) ?_
          repeat (go_big_quiet_step (first | (with_reducible exact HC1.out _) | (with_reducible exact HC2.out _) | fail))
          refine wpQuiet_nil ?_
          rintro _ ⟨⟨wz, hbz⟩, rfl⟩
          have HBZ := Lib.hid (HB4.out.trans (hbz.mono HB4.out.size))
          clear hbz
          go_wp2_with fail
          exact bodyPost_ret (by simp [results, Tryd.results31, go_sem]; rfl) rfl ⟨by rw [HR.out], HBZ.out⟩
end Go.Proofs.YtijjkiogmlannaaDoor
