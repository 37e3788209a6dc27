/- Stores: fair prices and their floor, by the statements' package. Stores: the floor of prices, by the statements' package. Stores: which ones are as defined, by the statements' package. -/
import Derived.Test.YtijjkiogmlannaaDoorN
namespace Go.Proofs.YtijjkiogmlannaaDoor
open Go.RowKit

set_option maxRecDepth 100000 in
set_option maxHeartbeats 4000000 in
theorem rfair_any {X : SX} {w : World} (h : X.In w) (K : X.S.Ok) (p : Gd) (hp : amtB 1000000 p = true) : Calls Tryd.prog 33 #[X.v, gV p] w fun e w' => e = .returned (.bool (fairB X.S.ships p)) ∧ Below w.heap.size w w' := by
  rcases X with ⟨S, AS, ns, cs, AI, ni, ci, AW, nw, cw⟩
  obtain ⟨z0, z1, hb0⟩ := two_new w (.cells (SX.cells ⟨S, AS, ns, cs, AI, ni, ci, AW, nw, cw⟩) 28) (.cells (gC p) 23)
  obtain ⟨w1, hw1⟩ : ∃ z, (w.alloc (.cells (SX.cells ⟨S, AS, ns, cs, AI, ni, ci, AW, nw, cw⟩) 28)).alloc (.cells (gC p) 23) = z := ⟨_, rfl⟩
  rw [hw1] at z0 z1 hb0
  have HB1 := Lib.hid hb0; have Z1 := Lib.hid z0; have P1 := Lib.hid z1; have HI1 := Lib.hid (h.up hb0)
  have hls := h.hs; have hs2 := h.s2
  simp only at hls hs2
  unfold maxLen at hs2
  have HLS := Lib.hid hls; have HOK := Lib.hid K; have HP := Lib.hid hp
  show Calls _ _ _ _ fun e w' => e = .returned (.bool (fairB S.ships p)) ∧ _
  clear h z0 z1 hb0 hls K hp
  go_enter Tryd.func33, Tryd.ntmps33
  go_wp2_with fail
  try rw [hw1]
  clear hw1
  go_loopw [5] (fun i wr => ∃ k : Nat, k ≤ ns ∧ i = .int .i64 k ∧ (∀ j x, j < k → S.ships[j]? = some x → decide (worG x.g p ≤ x.c) = true) ∧ Below w1.heap.size w1 wr) (fun i _ => ns - (intOf i).toNat)
  case atStart => exact ⟨0, Nat.zero_le _, rfl, fun j _ hj => absurd hj (Nat.not_lt_zero _), Below.refl _ _⟩
  case round =>
    obtain ⟨i, hi, rfl, hall, hbr⟩ := hrel
    have HBR := Lib.hid hbr; have HAL := Lib.hid hall
    have ZR := Lib.hid ((hbr.block _ (heapsz Z1.out)).trans Z1.out); have PR := Lib.hid ((hbr.block _ (heapsz P1.out)).trans P1.out)
    clear hall
    obtain ⟨_, _, _, s9, _, _⟩ := sto_box ZR.out
    simp only at s9
    by_cases hlt : i < ns
    · obtain ⟨x, hx⟩ := get_of_lt (l := S.ships) (k := i) (by rw [HLS.out]; exact hlt)
      have hA := (HI1.out.up hbr).P
      simp only at hA
      obtain ⟨b, o, rfl, hb, c0, c1, c2, c3, c4⟩ := sh_el hA hx
      have HX := Lib.hid hx
      have hxs := shpB_iff.1 (HOK.out.ships x (List.mem_of_getElem? hx))
      have i0 : (0 : Int) ≤ (i : Int) := by omega
      have i1 : (i : Int) < (ns : Int) := by omega
      have hv := heap_alloc_new wr (.cells (gC x.g) 23)
      have hbi := (Below.refl wr.heap.size wr).alloc (Nat.le_refl _) (.cells (gC x.g) 23)
      obtain ⟨q0, q1, q2⟩ := g_cells hv
      obtain ⟨wi, hwi⟩ : ∃ z, wr.alloc (.cells (gC x.g) 23) = z := ⟨_, rfl⟩
      rw [hwi] at hv hbi
      have HV := Lib.hid hv; have HBI := Lib.hid (HBR.out.trans (hbi.mono HBR.out.size)); have HWI := Lib.hid hwi
      have ZI := Lib.hid ((hbi.block _ (heapsz ZR.out)).trans ZR.out); have PI := Lib.hid ((hbi.block _ (heapsz PR.out)).trans PR.out)
      have C4 := Lib.hid (((bcell hbi).1 _ _ hb).trans c4); have BB := Lib.hid (Nat.lt_of_lt_of_le hb hbi.size)
      have hg := amtB_iff.1 hxs.2.1; have hpp := amtB_iff.1 HP.out
      have m0 := mul_in hpp.1 hg.1; have m1 := mul_in hpp.2.1 hg.2.1; have m2 := mul_in hpp.2.2 hg.2.2
      have e0 : Value.int .i64 (wrap64 (p.a * x.g.a)) = Value.int .i64 (p.a * x.g.a) := by congr 1; exact w64 (by omega)
      have e1 : Value.int .i64 (wrap64 (p.b * x.g.b)) = Value.int .i64 (p.b * x.g.b) := by congr 1; exact w64 (by omega)
      have e2 : Value.int .i64 (wrap64 (p.c * x.g.c)) = Value.int .i64 (p.c * x.g.c) := by congr 1; exact w64 (by omega)
      have e3 : Value.int .i64 (wrap64 (p.a * x.g.a + p.b * x.g.b)) = Value.int .i64 (p.a * x.g.a + p.b * x.g.b) := by congr 1; exact w64 (by omega)
      have e4 : Value.int .i64 (wrap64 (p.a * x.g.a + p.b * x.g.b + p.c * x.g.c)) = Value.int .i64 (p.a * x.g.a + p.b * x.g.b + p.c * x.g.c) := by congr 1; exact w64 (by omega)
      have hW : worG x.g p = p.a * x.g.a + p.b * x.g.b + p.c * x.g.c := by unfold worG; rw [Int.mul_comm p.a, Int.mul_comm p.b, Int.mul_comm p.c]
      have HW := Lib.hid hW
      clear hbr hx hb hwi hv hbi hA m0 m1 m2 hg hpp hxs hW
      go_wp2_with fail
      rw [HWI.out]
      clear c0 c1 c2 c3 c4 q0 q1 q2 s9
      obtain ⟨q0, q1, q2⟩ := g_cells HV.out
      obtain ⟨p0, p1, p2⟩ := g_cells PI.out
      obtain ⟨_, _, _, s9, _, _⟩ := sto_box ZI.out
      simp only at s9
      have LW : wr.heap.size < wi.heap.size := heapsz HV.out
      have LP : w.heap.size + 1 < wi.heap.size := heapsz PI.out
      have LZ : w.heap.size < wi.heap.size := heapsz ZI.out
      have v1 : ∀ u : KeptW wi, u.w.cell? ⟨wr.heap.size, 0, none⟩ = some (.int .i64 x.g.a) := fun u => ((bcell u.h).1 _ _ LW).trans q0
      have v2 : ∀ u : KeptW wi, u.w.cell? ⟨wr.heap.size, 1, none⟩ = some (.int .i64 x.g.b) := fun u => ((bcell u.h).1 _ _ LW).trans q1
      have v3 : ∀ u : KeptW wi, u.w.cell? ⟨wr.heap.size, 2, none⟩ = some (.int .i64 x.g.c) := fun u => ((bcell u.h).1 _ _ LW).trans q2
      have v4 : ∀ u : KeptW wi, u.w.cell? ⟨b, o + i * 5 + 4, none⟩ = some (.int .i64 x.c) := fun u => ((bcell u.h).1 _ _ BB.out).trans C4.out
      have v5 : ∀ u : KeptW wi, u.w.cell? ⟨w.heap.size, 9, none⟩ = some (.slice (some ⟨b, o, none⟩) ns cs) := fun u => ((bcell u.h).1 _ _ LZ).trans s9
      have u0 : ∀ u : KeptW wi, u.w.cell? ⟨w.heap.size + 1, 0, none⟩ = some (.int .i64 p.a) := fun u => ((bcell u.h).1 _ _ LP).trans p0
      have u1 : ∀ u : KeptW wi, u.w.cell? ⟨w.heap.size + 1, 1, none⟩ = some (.int .i64 p.b) := fun u => ((bcell u.h).1 _ _ LP).trans p1
      have u2 : ∀ u : KeptW wi, u.w.cell? ⟨w.heap.size + 1, 2, none⟩ = some (.int .i64 p.c) := fun u => ((bcell u.h).1 _ _ LP).trans p2
      clear q0 q1 q2 p0 p1 p2 s9
      refine rk_region (by kernel_rfl) (by kernel_rfl) ?_
      repeat (go_big_quiet_step (fail))
      refine wpQuiet_nil ?_
      rintro _ ⟨⟨wz, hbz⟩, rfl⟩
      have HBZ := Lib.hid (HBI.out.trans (hbz.mono HBI.out.size))
      clear hbz v1 v2 v3 v4 u0 u1 u2 v5
      by_cases hle : worG x.g p ≤ x.c
      · have HY : Hid (decide (worG x.g p ≤ x.c) = true) := Lib.hid (decide_eq_true hle)
        have nle : ¬ x.c < p.a * x.g.a + p.b * x.g.b + p.c * x.g.c := by rw [← HW.out]; omega
        clear hle
        go_wp2_with fail
        refine ⟨⟨i + 1, by omega, by go_num, fun j y hj hy => ?_, HBZ.out⟩, by simp [intOf]; omega⟩
        rcases Nat.lt_succ_iff_lt_or_eq.1 hj with h | rfl
        · exact HAL.out j y h hy
        · rw [HX.out] at hy
          cases hy
          exact HY.out
      · have HR : Hid (fairB S.ships p = false) := Lib.hid (all_no HX.out (decide_eq_false hle))
        have nle : x.c < p.a * x.g.a + p.b * x.g.b + p.c * x.g.c := by rw [← HW.out]; omega
        clear hle
        go_wp2_with fail
        go_ret
        exact ⟨ret_bool HR.out.symm, HB1.out.trans (HBZ.out.mono HB1.out.size)⟩
    · have hke : i = ns := by omega
      have i1 : ¬ (i : Int) < (ns : Int) := by omega
      have HR : Hid (fairB S.ships p = true) := Lib.hid (all_yes fun j x hj hx => HAL.out j x (by rw [HLS.out] at hj; omega) hx)
      clear hbr
      go_wp2_with fail
      go_ret
      exact ⟨ret_bool HR.out.symm, HB1.out.trans (HBR.out.mono HB1.out.size)⟩
end Go.Proofs.YtijjkiogmlannaaDoor

namespace Go.Proofs.YtijjkiogmlannaaDoor
open Go.RowKit

theorem gds_at {w : World} {B : Nat} {A : Option Addr} {l : List Gd} {i : Nat} {x : Gd} (h : GdsAt w B A l) (hx : l[i]? = some x) : ∃ b o, A = some ⟨b, o, none⟩ ∧ b < B ∧ ∀ k, k < 3 → w.cell? ⟨b, o + i * 3 + k, none⟩ = some (.int .i64 (x.at k)) := by
  obtain ⟨b, o, rfl, h1, h2⟩ := h (by intro e; rw [e] at hx; simp at hx)
  refine ⟨b, o, rfl, h1, fun k hk => h2 i x hx k _ ?_⟩
  match k, hk with
  | 0, _ => rfl
  | 1, _ => rfl
  | 2, _ => rfl
theorem st_at {w : World} {B : Nat} {X : SX} {T : TypeId} (z : w.heap[B]? = some (.cells X.cells T (0, 0))) {k : Nat} (hk : k < 3) : w.cell? ⟨B, k, none⟩ = some (.int .i64 (X.S.st.at k)) := by
  obtain ⟨⟨s0, s1, s2⟩, _⟩ := sto_box z
  match k, hk with
  | 0, _ => exact s0
  | 1, _ => exact s1
  | 2, _ => exact s2
theorem miss_at (S : Sto) (l : List Gd) {k : Nat} (hk : k < 3) : (S.miss l).at k = max 0 ((needL l).at k - S.st.at k) := by
  unfold Sto.miss
  rw [sub_at _ _ hk, min_at _ _ hk]
  omega
theorem needs_take {l : List Gd} {j : Nat} {x : Gd} (h : l[j]? = some x) {k : Nat} (hk : k < 3) : (needL (l.take (j + 1))).at k = (needL (l.take j)).at k + x.at k := by
  rw [← sumL_needs, ← sumL_needs, sumL_take h, add_at _ _ hk]
theorem needs_nil (l : List Gd) {k : Nat} (hk : k < 3) : (needL (l.take 0)).at k = 0 := by
  match k, hk with
  | 0, _ => rfl
  | 1, _ => rfl
  | 2, _ => rfl
set_option maxRecDepth 100000 in
set_option maxHeartbeats 4000000 in
theorem rfloor_any {X : SX} {w : World} (h : X.In w) (K : X.S.Ok) (n : Nat) (hn : n < X.nw) (p : Gd) (hp : amtB 1000000 p = true) : Calls Tryd.prog 34 #[X.v, .int .i64 (n : Int), gV p] w fun e w' => e = .returned (.int .i64 (X.S.floor (X.S.wins.getD n []) p)) ∧ Below w.heap.size w w' := by
  rcases X with ⟨S, AS, ns, cs, AI, ni, ci, AW, nw, cw⟩
  obtain ⟨z0, z1, hb0⟩ := two_new w (.cells (SX.cells ⟨S, AS, ns, cs, AI, ni, ci, AW, nw, cw⟩) 28) (.cells (gC p) 23)
  obtain ⟨w1, hw1⟩ : ∃ z, (w.alloc (.cells (SX.cells ⟨S, AS, ns, cs, AI, ni, ci, AW, nw, cw⟩) 28)).alloc (.cells (gC p) 23) = z := ⟨_, rfl⟩
  rw [hw1] at z0 z1 hb0
  have hI := h.up hb0
  have hlw := h.hw
  simp only at hn hlw
  obtain ⟨win, hwin⟩ := get_of_lt (l := S.wins) (k := n) (by rw [hlw]; exact hn)
  have e1 : S.wins.getD n [] = win := by rw [List.getD_eq_getElem?_getD, hwin]; rfl
  have hG := hI.W
  simp only at hG
  obtain ⟨bi, oi, A', m, c', rfl, hbi, hm, d1, p1, _⟩ := grid_row hG hwin
  have hwk := K.wins win (List.mem_of_getElem? hwin)
  have hw30 := K.weeks
  simp only at hwk hw30
  show Calls _ _ _ _ fun e w' => e = .returned (.int .i64 (S.floor (S.wins.getD n []) p)) ∧ _
  rw [e1]
  have HN : Hid (∀ k, k < 3 → ∀ i, i ≤ m → 0 ≤ (needL (win.take i)).at k ∧ (needL (win.take i)).at k ≤ 30000) := Lib.hid fun k hk i hi => by
    have := sumL_in hwk.2 i (by omega) k hk
    rw [sumL_needs] at this
    omega
  have HT : Hid (∀ k, k < 3 → 0 ≤ S.st.at k ∧ S.st.at k ≤ 1000) := Lib.hid fun k hk => inB_iff.1 (amtB_at.1 K.st k hk)
  have HMI : Hid (amtB 100000 (S.miss win) = true) := Lib.hid (miss_amt K hwk.2 (by omega))
  have HAM : Hid (∀ g ∈ win, amtB 1000 g = true) := Lib.hid hwk.2
  have HPP := Lib.hid hp
  have HGW := Lib.hid p1
  have HWK : Hid ((m : Int) = S.weeks ∧ win.length = m) := Lib.hid ⟨by rw [hm]; exact hwk.1, hm.symm⟩
  have Z0 := Lib.hid z0; have Z1 := Lib.hid z1; have HB0 := Lib.hid hb0; have HD := Lib.hid d1; have HBI := Lib.hid hbi
  have m30 : m ≤ 30 := by omega
  have n0 : (0 : Int) ≤ (n : Int) := by omega
  have n1 : (n : Int) < (nw : Int) := by omega
  clear h z0 z1 hb0 hI hlw hn hG hwin hbi hwk hw30 p1 hm e1 K d1 hp
  go_enter Tryd.func34, Tryd.ntmps34
  go_wp2_with fail
  try rw [hw1]
  clear hw1
  go_loopw [7, 8] (fun v i wr => ∃ (k : Nat) (V : Int), k ≤ 3 ∧ i = .int .i64 k ∧ v = .int .i64 V ∧ V = worN (S.miss win) p k ∧ Below w1.heap.size w1 wr) (fun _ i _ => 3 - (intOf i).toNat)
  case atStart => exact ⟨0, 0, Nat.zero_le _, rfl, rfl, rfl, Below.refl _ _⟩
  case round =>
    obtain ⟨k, V, hk, rfl, rfl, hV, hbr⟩ := hrel
    have HBR := Lib.hid hbr; have HV := Lib.hid hV
    clear hV
    by_cases hlt : k < 3
    · have k0 : (0 : Int) ≤ (k : Int) := by omega
      have k1 : (k : Int) < 3 := by omega
      have HK : Hid (k < 3) := Lib.hid hlt
      clear hbr
      go_wp2_with fail
      go_loopw [9, 10] (fun v i wq => ∃ (j : Nat) (T : Int), j ≤ m ∧ i = .int .i64 j ∧ v = .int .i64 T ∧ T = (needL (win.take j)).at k ∧ wq = wr) (fun _ i _ => m - (intOf i).toNat)
      case atStart => exact ⟨0, 0, Nat.zero_le _, rfl, rfl, (needs_nil win HK.out).symm, rfl⟩
      case round =>
        obtain ⟨j, T, hj, rfl, rfl, hT, rfl⟩ := hrel
        have HTT := Lib.hid hT
        have hb := HN.out k HK.out j hj
        rw [← hT] at hb
        have z0 := (HBR.out.block _ (heapsz Z0.out)).trans Z0.out
        obtain ⟨_, _, ⟨_, s7, _⟩, _, _, s11⟩ := sto_box z0
        simp only at s7 s11
        by_cases hjl : j < m
        · obtain ⟨x, hx⟩ := get_of_lt (l := win) (k := j) (by rw [HWK.out.2]; exact hjl)
          obtain ⟨b, o, rfl, hbb, c⟩ := gds_at HGW.out hx
          have c0 := ((bcell HBR.out).1 _ _ hbb).trans (c k HK.out)
          have d0 := ((bcell HBR.out).1 _ _ HBI.out).trans HD.out
          have j0 : (0 : Int) ≤ (j : Int) := by omega
          have j1 : (j : Int) < (m : Int) := by omega
          have j2 : (j : Int) < S.weeks := by have := HWK.out.1; omega
          have hxb := inB_iff.1 (amtB_at.1 (HAM.out x (List.mem_of_getElem? hx)) k HK.out)
          have HNT := Lib.hid (needs_take hx HK.out)
          obtain ⟨Y, hY⟩ : ∃ z, x.at k = z := ⟨_, rfl⟩
          rw [hY] at c0 hxb HNT
          have HE : Hid (wrap64 (T + Y) = T + Y) := Lib.hid (w64 (by omega))
          clear z0 hT c hbb hx hY hxb hb
          go_wp2_with fail
          exact ⟨⟨j + 1, _, by omega, by go_num, rfl, by rw [HE.out, HNT.out, HTT.out], trivial⟩, by simp [intOf]; omega⟩
        · have hje : j = m := by omega
          subst hje
          have j2 : ¬ (j : Int) < S.weeks := by have := HWK.out.1; omega
          have hTN : T = (needL win).at k := by rw [hT, List.take_of_length_le (by rw [HWK.out.2]; exact Nat.le_refl _)]
          have c0 := st_at z0 HK.out
          have c1 := g_at ((HBR.out.block _ (heapsz Z1.out)).trans Z1.out) HK.out
          have hst := HT.out k HK.out
          have hpb := inB_iff.1 (amtB_at.1 HPP.out k HK.out)
          have hmb := inB_iff.1 (amtB_at.1 HMI.out k HK.out)
          have hmm := mul_in hpb hmb
          have HMA := Lib.hid (miss_at S win HK.out)
          have hw3 := worN_in HMI.out HPP.out k hk
          rw [← HV.out] at hw3
          have HNX : Hid (worN (S.miss win) p (k + 1) = V + p.at k * (S.miss win).at k) := Lib.hid (by rw [HV.out, Int.mul_comm]; rfl)
          simp only at c0
          rw [← hTN] at HMA
          obtain ⟨Y, hY⟩ : ∃ z, S.st.at k = z := ⟨_, rfl⟩
          obtain ⟨P, hP⟩ : ∃ z, p.at k = z := ⟨_, rfl⟩
          rw [hY] at c0 hst HMA
          rw [hP] at c1 hmm HNX
          rw [HMA.out] at hmm HNX
          have e1 : Value.int .i64 (wrap64 (T - Y)) = Value.int .i64 (T - Y) := by congr 1; exact w64 (by omega)
          have HE2 : Hid (wrap64 (P * max 0 (T - Y)) = P * max 0 (T - Y)) := Lib.hid (w64 (by omega))
          have HE3 : Hid (wrap64 (V + P * max 0 (T - Y)) = V + P * max 0 (T - Y)) := Lib.hid (w64 (by omega))
          have HIF : Hid ((if Y < T then T - Y else 0) = max 0 (T - Y)) := Lib.hid (by split <;> omega)
          have L0 := heapsz z0; have L1 := heapsz ((HBR.out.block _ (heapsz Z1.out)).trans Z1.out)
          have v0 : ∀ u : KeptW wr, u.w.cell? ⟨w.heap.size, k, none⟩ = some (.int .i64 Y) := fun u => ((bcell u.h).1 _ _ L0).trans c0
          have v1 : ∀ u : KeptW wr, u.w.cell? ⟨w.heap.size + 1, k, none⟩ = some (.int .i64 P) := fun u => ((bcell u.h).1 _ _ L1).trans c1
          clear z0 c0 c1 hT hTN hst hpb hmb hmm hw3 hY hP hb
          go_wp2_with fail
          refine rk_region (by kernel_rfl) (by kernel_rfl) ?_
          repeat (go_big_quiet_step (fail))
          refine wpQuiet_nil ?_
          rintro _ ⟨⟨wz, hbz⟩, rfl⟩
          have HBZ := Lib.hid (HBR.out.trans (hbz.mono HBR.out.size))
          clear hbz v0 v1
          go_wp2_with fail
          exact ⟨⟨k + 1, _, by omega, by go_num, rfl, by rw [HIF.out, HE2.out, HE3.out]; exact HNX.out.symm, HBZ.out⟩, by simp [intOf]; omega⟩
    · have hke : k = 3 := by omega
      subst hke
      have HR : Hid (V = S.floor win p) := Lib.hid (HV.out.trans (worN_3 _ _))
      clear hbr
      go_wp2_with fail
      go_ret
      exact ⟨congrArg (fun z => Ending.returned (Value.int .i64 z)) HR.out, HB0.out.trans (HBR.out.mono HB0.out.size)⟩
end Go.Proofs.YtijjkiogmlannaaDoor

namespace Go.Proofs.YtijjkiogmlannaaDoor
open Go.RowKit

set_option maxRecDepth 100000 in
set_option maxHeartbeats 16000000 in
theorem rstore_any {X : SX} {w : World} (h : X.In w) : Calls Tryd.prog 16 #[X.v] w fun e w' => e = .returned (.bool (stoB X.S)) ∧ Below w.heap.size w w' := by
  rcases X with ⟨S, AS, ns, cs, AI, ni, ci, AW, nw, cw⟩
  obtain ⟨z0, hb0⟩ := sto_new ⟨S, AS, ns, cs, AI, ni, ci, AW, nw, cw⟩ w
  obtain ⟨⟨s0, s1, s2⟩, ⟨s3, s4, s5⟩, ⟨s6, s7, s8⟩, s9, s10, s11⟩ := sto_box z0
  simp only at s0 s1 s2 s3 s4 s5 s6 s7 s8 s9 s10 s11
  obtain ⟨w1, hw1⟩ : ∃ z, w.alloc (.cells (SX.cells ⟨S, AS, ns, cs, AI, ni, ci, AW, nw, cw⟩) 28) = z := ⟨_, rfl⟩
  rw [hw1] at z0 hb0
  have HB1 := Lib.hid hb0; have Z1 := Lib.hid z0; have HI1 := Lib.hid (h.up hb0); have HW1 := Lib.hid hw1
  have hls := h.hs; have hli := h.hi; have hlw := h.hw; have hns := h.s2; have hni := h.i2; have hnw := h.w2
  simp only at hls hli hlw hns hni hnw
  have HNS := Lib.hid hns
  unfold maxLen at hns hni hnw
  have HLS := Lib.hid hls; have HLI := Lib.hid hli; have HLW := Lib.hid hlw
  show Calls _ _ _ _ fun e w' => e = .returned (.bool (stoB S)) ∧ _
  obtain ⟨F1, hF1⟩ : ∃ z, amtB 1000 S.st = z := ⟨_, rfl⟩
  obtain ⟨F2, hF2⟩ : ∃ z, amtB 1000 S.yd = z := ⟨_, rfl⟩
  have H1 := Lib.hid hF1; have H2 := Lib.hid hF2
  have K1 : Hid (∀ u, Calls Tryd.prog 48 #[gV S.st] u fun e w' => e = .returned (.bool F1) ∧ Below u.heap.size u w') := Lib.hid fun u => by rw [← hF1]; exact rgoods_any _ u
  have K2 : Hid (∀ u, Calls Tryd.prog 48 #[gV S.yd] u fun e w' => e = .returned (.bool F2) ∧ Below u.heap.size u w') := Lib.hid fun u => by rw [← hF2]; exact rgoods_any _ u
  clear h z0 hb0 hls hli hlw hF1 hF2 hw1
  go_enter Tryd.func16, Tryd.ntmps16
  go_wp2_with fail
  rw [HW1.out]
  refine (K1.out _).mono ?_
  rintro e w2 ⟨rfl, hb⟩
  have HB2 := Lib.hid (HB1.out.trans (hb.mono HB1.out.size)); have Z2 := Lib.hid ((hb.block _ (heapsz Z1.out)).trans Z1.out); have HI2 := Lib.hid (HI1.out.up hb)
  clear hb s0 s1 s2 s3 s4 s5 s6 s7 s8 s9 s10 s11 Z1 HI1 HW1 K1
  cases F1 with
  | false =>
    have HR : Hid (stoB S = false) := Lib.hid (no_sto fun K => by have := K.st; rw [H1.out] at this; cases this)
    go_wp2_with fail
    go_ret
    exact ⟨ret_bool HR.out.symm, HB2.out⟩
  | true =>
    obtain ⟨⟨s0, s1, s2⟩, ⟨s3, s4, s5⟩, _⟩ := sto_box Z2.out
    simp only at s0 s1 s2 s3 s4 s5
    go_wp2_with fail
    refine (K2.out _).mono ?_
    rintro e w3 ⟨rfl, hb⟩
    have HB3 := Lib.hid (HB2.out.trans (hb.mono HB2.out.size)); have Z3 := Lib.hid ((hb.block _ (heapsz Z2.out)).trans Z2.out); have HI3 := Lib.hid (HI2.out.up hb)
    clear hb s0 s1 s2 s3 s4 s5 Z2 HI2 K2
    cases F2 with
    | false =>
      have HR : Hid (stoB S = false) := Lib.hid (no_sto fun K => by have := K.yd; rw [H2.out] at this; cases this)
      go_wp2_with fail
      go_ret
      exact ⟨ret_bool HR.out.symm, HB3.out⟩
    | true =>
      obtain ⟨⟨s0, s1, s2⟩, ⟨s3, s4, s5⟩, _⟩ := sto_box Z3.out
      simp only at s0 s1 s2 s3 s4 s5
      by_cases g1 : S.yd.a < S.st.a
      · have HR : Hid (stoB S = false) := Lib.hid (no_sto fun K => by have := (leB_iff.1 K.fit).1; omega)
        go_wp2_with fail
        go_ret
        exact ⟨ret_bool HR.out.symm, HB3.out⟩
      by_cases g2 : S.yd.b < S.st.b
      · have HR : Hid (stoB S = false) := Lib.hid (no_sto fun K => by have := (leB_iff.1 K.fit).2.1; omega)
        go_wp2_with fail
        go_ret
        exact ⟨ret_bool HR.out.symm, HB3.out⟩
      by_cases g3 : S.yd.c < S.st.c
      · have HR : Hid (stoB S = false) := Lib.hid (no_sto fun K => by have := (leB_iff.1 K.fit).2.2; omega)
        go_wp2_with fail
        go_ret
        exact ⟨ret_bool HR.out.symm, HB3.out⟩
      have HG : Hid (leB S.st S.yd = true) := Lib.hid (leB_iff.2 ⟨by omega, by omega, by omega⟩)
      go_wp2_with fail
      clear s0 s1 s2 s3 s4 s5 g1 g2 g3
      go_loopw [3] (fun i wa => ∃ k : Nat, k ≤ ni ∧ i = .int .i64 k ∧ (∀ j x, j < k → S.ices[j]? = some x → (x.length : Int) = S.land) ∧ Below w3.heap.size w3 wa) (fun i _ => ni - (intOf i).toNat)
      case atStart => exact ⟨0, Nat.zero_le _, rfl, fun j _ hj => absurd hj (Nat.not_lt_zero _), Below.refl _ _⟩
      case round =>
        rename World => wa
        obtain ⟨k, hk, rfl, hall, hbr⟩ := hrel
        have HAL := Lib.hid hall
        have ZR := Lib.hid ((hbr.block _ (heapsz Z3.out)).trans Z3.out); have HBR := Lib.hid hbr; have HBW := Lib.hid (HB3.out.trans (hbr.mono HB3.out.size)); have HIR := Lib.hid (HI3.out.up hbr)
        clear hall hbr
        obtain ⟨_, _, ⟨_, _, s8⟩, _, s10, _⟩ := sto_box ZR.out
        simp only at s8 s10
        by_cases hlt : k < ni
        · obtain ⟨x, hx⟩ := get_of_lt (l := S.ices) (k := k) (by rw [HLI.out]; exact hlt)
          have hG := HIR.out.I
          simp only at hG
          obtain ⟨b, o, A', m, c', rfl, hb, hm, d1, _, hm2⟩ := grid_row hG hx
          have i0 : (0 : Int) ≤ (k : Int) := by omega
          have i1 : (k : Int) < (ni : Int) := by omega
          have HX := Lib.hid hx; have HM := Lib.hid hm
          by_cases hle : (m : Int) = S.land
          · clear hx hm hm2 hb hG
            go_wp2_with fail
            go_quiet (fail)
            go_wp2_with fail
            refine ⟨⟨k + 1, by omega, by go_num, fun j y hj hy => ?_, belN HBR.out _⟩, by simp [intOf]; omega⟩
            rcases Nat.lt_succ_iff_lt_or_eq.1 hj with h | rfl
            · exact HAL.out j y h hy
            · rw [HX.out] at hy
              cases hy
              rw [← HM.out]
              exact hle
          · have HR : Hid (stoB S = false) := Lib.hid (no_sto fun K => by
              have := K.ices x (List.mem_of_getElem? HX.out)
              rw [← HM.out] at this
              exact hle this)
            clear hx hm hm2 hb hG
            go_wp2_with fail
            go_quiet (fail)
            go_wp2_with fail
            go_ret
            exact ⟨ret_bool HR.out.symm, belN HBW.out _⟩
        · have hke : k = ni := by omega
          have i1 : ¬ (k : Int) < (ni : Int) := by omega
          have ZWX := ZR; have HBWX := HBW; have HIWX := HIR
          have HIC : Hid (∀ x ∈ S.ices, (x.length : Int) = S.land) := Lib.hid fun x hx => by
            obtain ⟨j, hj⟩ := List.mem_iff_getElem?.1 hx
            have := (List.getElem?_eq_some_iff.1 hj).1
            rw [HLI.out] at this
            exact HAL.out j x (by omega) hj
          clear s8
          go_wp2_with fail
          clear s10 i1 hke hlt hk HBR HIR ZR HBW
          have ZW := Lib.hid ZWX.out; have HBX := Lib.hid HBWX.out; have HIW := Lib.hid HIWX.out
          clear ZWX HBWX HIWX
          go_loopw [4] (fun i wt => ∃ k : Nat, k ≤ nw ∧ i = .int .i64 k ∧ (∀ j x, j < k → S.wins[j]? = some x → (x.length : Int) = S.weeks ∧ ∀ g ∈ x, amtB 1000 g = true) ∧ Below wa.heap.size wa wt) (fun i _ => nw - (intOf i).toNat)
          case atStart => exact ⟨0, Nat.zero_le _, rfl, fun j _ hj => absurd hj (Nat.not_lt_zero _), Below.refl _ _⟩
          case round =>
            rename World => wt
            obtain ⟨i, hi, rfl, hall, hbr⟩ := hrel
            have HAL := Lib.hid hall
            have ZR := Lib.hid ((hbr.block _ (heapsz ZW.out)).trans ZW.out); have HBR := Lib.hid hbr; have HBW := Lib.hid (HBX.out.trans (hbr.mono HBX.out.size)); have HIR := Lib.hid (HIW.out.up hbr)
            clear hall hbr
            obtain ⟨_, _, ⟨s6, s7, s8⟩, s9, s10, s11⟩ := sto_box ZR.out
            simp only at s6 s7 s8 s9 s10 s11
            by_cases hlt : i < nw
            · obtain ⟨x, hx⟩ := get_of_lt (l := S.wins) (k := i) (by rw [HLW.out]; exact hlt)
              have hG := HIR.out.W
              simp only at hG
              obtain ⟨b, o, A', m, c', rfl, hb, hm, d1, p1, hm2⟩ := grid_row hG hx
              have i0 : (0 : Int) ≤ (i : Int) := by omega
              have i1 : (i : Int) < (nw : Int) := by omega
              have HX := Lib.hid hx; have HM := Lib.hid hm; have HP1 := Lib.hid p1; have HBB := Lib.hid hb; have HD1 := Lib.hid d1
              unfold maxLen at hm2
              by_cases hle : (m : Int) = S.weeks
              · have HLE := Lib.hid hle
                clear hx hm hb hG p1 s6 s8 s9 s10
                go_wp2_with fail
                go_quiet (fail)
                go_wp2_with fail
                clear s7 s11 d1
                go_loopw [5] (fun v wq => ∃ k : Nat, k ≤ m ∧ v = .int .i64 k ∧ (∀ j g, j < k → x[j]? = some g → amtB 1000 g = true) ∧ Below wt.heap.size wt wq) (fun v _ => m - (intOf v).toNat)
                case atStart => exact ⟨0, Nat.zero_le _, rfl, fun j _ hj => absurd hj (Nat.not_lt_zero _), belN (Below.refl _ _) _⟩
                case round =>
                  rename World => wq
                  obtain ⟨k, hk, rfl, hall, hbq⟩ := hrel
                  have HAQ := Lib.hid hall
                  have ZQ := Lib.hid ((hbq.block _ (heapsz ZR.out)).trans ZR.out); have HBQ := Lib.hid hbq; have HBV := Lib.hid (HBR.out.trans (hbq.mono HBR.out.size))
                  have HBU := Lib.hid (HBX.out.trans (HBV.out.mono HBX.out.size))
                  have d1 := ((bcell hbq).1 _ _ HBB.out).trans HD1.out
                  obtain ⟨_, _, _, _, _, s11⟩ := sto_box ZQ.out
                  simp only at s11
                  clear hall
                  by_cases hlk : k < m
                  · obtain ⟨g, hg⟩ := get_of_lt (l := x) (k := k) (by rw [← HM.out]; exact hlk)
                    obtain ⟨b2, o2, rfl, hb2, c0, c1, c2⟩ := gds_el HP1.out hg
                    replace c0 := ((bcell hbq).1 _ _ hb2).trans c0
                    replace c1 := ((bcell hbq).1 _ _ hb2).trans c1
                    replace c2 := ((bcell hbq).1 _ _ hb2).trans c2
                    have k0 : (0 : Int) ≤ (k : Int) := by omega
                    have k1 : (k : Int) < (m : Int) := by omega
                    obtain ⟨F, hF⟩ : ∃ z, amtB 1000 g = z := ⟨_, rfl⟩
                    have KG : Hid (∀ u, Calls Tryd.prog 48 #[gV g] u fun e w' => e = .returned (.bool F) ∧ Below u.heap.size u w') := Lib.hid fun u => by rw [← hF]; exact rgoods_any _ u
                    have HF := Lib.hid hF; have HG := Lib.hid hg
                    clear hF hg hb2 hbq
                    go_wp2_with fail
                    refine (KG.out _).mono ?_
                    rintro e w5 ⟨rfl, hb⟩
                    have HB5 := Lib.hid (HBQ.out.trans (hb.mono HBQ.out.size))
                    have HB6 := Lib.hid (HBU.out.trans (hb.mono HBU.out.size))
                    clear hb c0 c1 c2 s11 d1
                    cases F with
                    | false =>
                      have HR : Hid (stoB S = false) := Lib.hid (no_sto fun K => by
                        have := (K.wins x (List.mem_of_getElem? HX.out)).2 g (List.mem_of_getElem? HG.out)
                        rw [HF.out] at this
                        cases this)
                      go_wp2_with fail
                      go_ret
                      exact ⟨ret_bool HR.out.symm, HB6.out⟩
                    | true =>
                      go_wp2_with fail
                      refine ⟨⟨k + 1, by omega, by go_num, fun j y hj hy => ?_, HB5.out⟩, by simp [intOf]; omega⟩
                      rcases Nat.lt_succ_iff_lt_or_eq.1 hj with h | rfl
                      · exact HAQ.out j y h hy
                      · rw [HG.out] at hy
                        cases hy
                        exact HF.out
                  · have hke : k = m := by omega
                    have k1 : ¬ (k : Int) < (m : Int) := by omega
                    clear hbq
                    go_wp2_with fail
                    refine ⟨⟨i + 1, by omega, by go_num, fun j y hj hy => ?_, HBV.out⟩, by simp [intOf]; omega⟩
                    rcases Nat.lt_succ_iff_lt_or_eq.1 hj with h | rfl
                    · exact HAL.out j y h hy
                    · rw [HX.out] at hy
                      cases hy
                      refine ⟨by rw [← HM.out]; exact HLE.out, fun g hg => ?_⟩
                      obtain ⟨j, hj⟩ := List.mem_iff_getElem?.1 hg
                      have := (List.getElem?_eq_some_iff.1 hj).1
                      rw [← HM.out] at this
                      exact HAQ.out j g (by omega) hj
              · have HR : Hid (stoB S = false) := Lib.hid (no_sto fun K => by
                  have := (K.wins x (List.mem_of_getElem? HX.out)).1
                  rw [← HM.out] at this
                  exact hle this)
                clear hx hm hb hG p1 s6 s8 s9 s10
                go_wp2_with fail
                go_quiet (fail)
                go_wp2_with fail
                go_ret
                exact ⟨ret_bool HR.out.symm, belN HBW.out _⟩
            · have hke : i = nw := by omega
              have i1 : ¬ (i : Int) < (nw : Int) := by omega
              have HWC : Hid (∀ x ∈ S.wins, (x.length : Int) = S.weeks ∧ ∀ g ∈ x, amtB 1000 g = true) := Lib.hid fun x hx => by
                obtain ⟨j, hj⟩ := List.mem_iff_getElem?.1 hx
                have := (List.getElem?_eq_some_iff.1 hj).1
                rw [HLW.out] at this
                exact HAL.out j x (by omega) hj
              have HSH : Hid (∀ u, Below wt.heap.size wt u → Calls Tryd.prog 50 #[.slice AS ns cs] u fun e w' => e = .returned (.bool (S.ships.all shpB)) ∧ Below u.heap.size u w') := Lib.hid fun u hu => rships_any AS ns cs S.ships u HLS.out HNS.out (HIR.out.up hu).P
              obtain ⟨A1, hA1⟩ : ∃ z, inB 0 S.rate 3000 = z := ⟨_, rfl⟩
              obtain ⟨A2, hA2⟩ : ∃ z, inB 1 S.weeks 30 = z := ⟨_, rfl⟩
              obtain ⟨A3, hA3⟩ : ∃ z, inB 1 S.land 8 = z := ⟨_, rfl⟩
              obtain ⟨A4, hA4⟩ : ∃ z, S.ships.all shpB = z := ⟨_, rfl⟩
              obtain ⟨A5, hA5⟩ : ∃ z, inB 1 (ni : Int) 4 = z := ⟨_, rfl⟩
              obtain ⟨A6, hA6⟩ : ∃ z, inB 1 (nw : Int) 4 = z := ⟨_, rfl⟩
              rw [hA4] at HSH
              have C1 : Hid (∀ u, Calls Tryd.prog 49 #[.int .i64 S.rate, .int .i64 0, .int .i64 3000] u fun e w' => e = .returned (.bool A1) ∧ u = w') := Lib.hid fun u => by rw [← hA1]; exact rin_any _ _ _ u
              have C2 : Hid (∀ u, Calls Tryd.prog 49 #[.int .i64 S.weeks, .int .i64 1, .int .i64 30] u fun e w' => e = .returned (.bool A2) ∧ u = w') := Lib.hid fun u => by rw [← hA2]; exact rin_any _ _ _ u
              have C3 : Hid (∀ u, Calls Tryd.prog 49 #[.int .i64 S.land, .int .i64 1, .int .i64 8] u fun e w' => e = .returned (.bool A3) ∧ u = w') := Lib.hid fun u => by rw [← hA3]; exact rin_any _ _ _ u
              have C5 : Hid (∀ u, Calls Tryd.prog 49 #[.int .i64 (ni : Int), .int .i64 1, .int .i64 4] u fun e w' => e = .returned (.bool A5) ∧ u = w') := Lib.hid fun u => by rw [← hA5]; exact rin_any _ _ _ u
              have C6 : Hid (∀ u, Calls Tryd.prog 49 #[.int .i64 (nw : Int), .int .i64 1, .int .i64 4] u fun e w' => e = .returned (.bool A6) ∧ u = w') := Lib.hid fun u => by rw [← hA6]; exact rin_any _ _ _ u
              have E1 := Lib.hid hA1; have E2 := Lib.hid hA2; have E3 := Lib.hid hA3; have E4 := Lib.hid hA4; have E5 := Lib.hid hA5; have E6 := Lib.hid hA6
              clear hA1 hA2 hA3 hA4 hA5 hA6
              go_wp2_with fail
              refine (C1.out _).mono ?_
              rintro e w' ⟨rfl, rfl⟩
              cases A1 with
              | false =>
                have HR : Hid (stoB S = false) := Lib.hid (no_sto fun K => by have := K.rate; have h6 := E1.out; rw [inB_iff.2 (by omega)] at h6; cases h6)
                go_wp2_with fail
                go_ret
                exact ⟨ret_bool HR.out.symm, HBW.out⟩
              | true =>
                go_wp2_with fail
                refine (C2.out _).mono ?_
                rintro e w' ⟨rfl, rfl⟩
                cases A2 with
                | false =>
                  have HR : Hid (stoB S = false) := Lib.hid (no_sto fun K => by have := K.weeks; have h6 := E2.out; rw [inB_iff.2 (by omega)] at h6; cases h6)
                  go_wp2_with fail
                  go_ret
                  exact ⟨ret_bool HR.out.symm, HBW.out⟩
                | true =>
                  go_wp2_with fail
                  refine (C3.out _).mono ?_
                  rintro e w' ⟨rfl, rfl⟩
                  cases A3 with
                  | false =>
                    have HR : Hid (stoB S = false) := Lib.hid (no_sto fun K => by have := K.land; have h6 := E3.out; rw [inB_iff.2 (by omega)] at h6; cases h6)
                    go_wp2_with fail
                    go_ret
                    exact ⟨ret_bool HR.out.symm, HBW.out⟩
                  | true =>
                    by_cases g1 : S.land ≤ S.weeks
                    · by_cases g2 : (ns : Int) ≤ 6
                      · go_wp2_with fail
                        refine (HSH.out _ (Below.refl _ _)).mono ?_
                        rintro e w5 ⟨rfl, hb⟩
                        have HB5 := Lib.hid (HBW.out.trans (hb.mono HBW.out.size)); have Z5 := Lib.hid ((hb.block _ (heapsz ZR.out)).trans ZR.out)
                        clear hb s6 s7 s8 s9 s10 s11
                        obtain ⟨_, _, _, _, s10, s11⟩ := sto_box Z5.out
                        simp only at s10 s11
                        cases A4 with
                        | false =>
                          have HR : Hid (stoB S = false) := Lib.hid (no_sto fun K => by have h6 := E4.out; rw [List.all_eq_true.2 K.ships] at h6; cases h6)
                          go_wp2_with fail
                          go_ret
                          exact ⟨ret_bool HR.out.symm, HB5.out⟩
                        | true =>
                          go_wp2_with fail
                          refine (C5.out _).mono ?_
                          rintro e w' ⟨rfl, rfl⟩
                          cases A5 with
                          | false =>
                            have HR : Hid (stoB S = false) := Lib.hid (no_sto fun K => by have := K.i4; have h6 := E5.out; rw [HLI.out] at this; rw [inB_iff.2 (by omega)] at h6; cases h6)
                            go_wp2_with fail
                            go_ret
                            exact ⟨ret_bool HR.out.symm, HB5.out⟩
                          | true =>
                            go_wp2_with fail
                            refine (C6.out _).mono ?_
                            rintro e w' ⟨rfl, rfl⟩
                            have HR : Hid (stoB S = A6) := Lib.hid (by
                              cases A6 with
                              | false =>
                                exact no_sto fun K => by
                                  have := K.w4
                                  have h6 := E6.out
                                  rw [HLW.out] at this
                                  rw [inB_iff.2 (by omega)] at h6
                                  cases h6
                              | true =>
                                have b1 := inB_iff.1 E1.out; have b2 := inB_iff.1 E2.out; have b3 := inB_iff.1 E3.out; have b5 := inB_iff.1 E5.out; have b6 := inB_iff.1 E6.out
                                exact stoB_iff.2 ⟨H1.out, H2.out, HG.out, b1, b2, ⟨b3.1, b3.2, g1⟩, by rw [HLS.out]; omega, fun s hs => (List.all_eq_true.1 E4.out) s hs, by rw [HLI.out]; omega, HIC.out, by rw [HLW.out]; omega, HWC.out⟩)
                            go_wp2_with fail
                            go_ret
                            exact ⟨ret_bool HR.out.symm, HB5.out⟩
                      · have HR : Hid (stoB S = false) := Lib.hid (no_sto fun K => by have := K.n6; rw [HLS.out] at this; omega)
                        go_wp2_with fail
                        go_ret
                        exact ⟨ret_bool HR.out.symm, HBW.out⟩
                    · have HR : Hid (stoB S = false) := Lib.hid (no_sto fun K => by have := K.land; omega)
                      go_wp2_with fail
                      go_ret
                      exact ⟨ret_bool HR.out.symm, HBW.out⟩
end Go.Proofs.YtijjkiogmlannaaDoor
