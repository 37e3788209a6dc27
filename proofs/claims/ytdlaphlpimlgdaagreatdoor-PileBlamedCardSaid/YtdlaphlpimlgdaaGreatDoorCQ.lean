/- The law of the levels in truth. -/
import Derived.Test.YtdlaphlpimlgdaaGreatDoorCP
namespace Go.Proofs.YtdlaphlpimlgdaaGreatDoor
open Go.RowKit Go.Shelf

set_option maxRecDepth 100000 in
set_option maxHeartbeats 8000000 in
theorem plays_law {X : Ctx} {w : World} (h : X.In w) (ht : Tab w) (A2 : Option Addr) (m c2 : Nat) (plan : List Int) (hm : plan.length = m) (hm2 : m ≤ maxLen) (hL : IntsAt w w.heap.size A2 plan)
    (A3 : Option Addr) (k c3 : Nat) (L : List (List Tru)) (hl : L.length = k) (hk : k ≤ maxLen) (hG : GridAt 3 truR w w.heap.size A3 L) :
    Calls Tryz.prog 5 #[X.sv, X.tv, .slice A2 m c2, .slice A3 k c3] w fun e w' => e = .returned (.bool true) ∧ Below w.heap.size w w' := by
  obtain ⟨z0, hb0⟩ := site_new X w
  have HM := Lib.hid hm; have HM2 := Lib.hid hm2; have HT := Lib.hid ht; have HLN := Lib.hid hl; have HK2 := Lib.hid hk
  have m63 : (m : Int) ≤ 9223372036854775807 := by unfold maxLen at hm2; omega
  have k63 : (k : Int) ≤ 9223372036854775807 := by unfold maxLen at hk; omega
  obtain ⟨w1, hw1⟩ : ∃ z, w.alloc (.cells X.cells 26) = z := ⟨_, rfl⟩
  rw [hw1] at z0 hb0
  have HI := Lib.hid (h.up hb0); have HB := Lib.hid hb0; have HL := Lib.hid (RowAt.up (k := 1) (R := intR) hL hb0); have HG := Lib.hid (hG.up hb0)
  have Z0 := Lib.hid z0
  obtain ⟨s0, s1, s2, s3, s4, s5⟩ := site_box z0
  clear h ht z0 hb0 hm hm2 hL hl hk hG
  have HSH := Lib.hid (short_X HI.out)
  have HKN : Hid (∀ u, Below w.heap.size w u → Calls Tryz.prog 19 #[] u fun e w' => e = .returned (.bool true) ∧ Below u.heap.size u w') := Lib.hid fun u hu => known_any u (HT.out.next hu)
  obtain ⟨S, hS⟩ : ∃ z, shortB X.np X.nq X.nr X.ts = z := ⟨_, rfl⟩
  rw [hS] at HSH
  clear hS
  cases S with
  | false =>
    go_enter Tryz.func5, Tryz.ntmps5
    go_wp2_with fail
    refine HSH.out.mono ?_
    rintro e w2 ⟨rfl, hb⟩
    have HB2 := Lib.hid (HB.out.trans (hb.mono HB.out.size)); clear hb
    go_wp2_with fail
    refine (HKN.out _ HB2.out).mono ?_
    rintro e w3 ⟨rfl, hb⟩
    have HB3 := Lib.hid (HB2.out.trans (hb.mono HB2.out.size)); clear hb
    go_wp2_with fail
    go_ret
    exact ⟨rfl, HB3.out⟩
  | true =>
    by_cases h15 : (15 : Int) < (m : Int)
    · have hx := h15
      go_enter Tryz.func5, Tryz.ntmps5
      go_wp2_with fail
      refine HSH.out.mono ?_
      rintro e w2 ⟨rfl, hb⟩
      have HB2 := Lib.hid (HB.out.trans (hb.mono HB.out.size)); clear hb
      go_wp2_with fail
      refine (HKN.out _ HB2.out).mono ?_
      rintro e w3 ⟨rfl, hb⟩
      have HB3 := Lib.hid (HB2.out.trans (hb.mono HB2.out.size)); clear hb
      go_wp2_with fail
      go_ret
      exact ⟨rfl, HB3.out⟩
    · by_cases h16 : (15 : Int) < (k : Int)
      · have hx := h16
        go_enter Tryz.func5, Tryz.ntmps5
        go_wp2_with fail
        refine HSH.out.mono ?_
        rintro e w2 ⟨rfl, hb⟩
        have HB2 := Lib.hid (HB.out.trans (hb.mono HB.out.size)); clear hb
        go_wp2_with fail
        refine (HKN.out _ HB2.out).mono ?_
        rintro e w3 ⟨rfl, hb⟩
        have HB3 := Lib.hid (HB2.out.trans (hb.mono HB2.out.size)); clear hb
        go_wp2_with fail
        go_ret
        exact ⟨rfl, HB3.out⟩
      · go_enter Tryz.func5, Tryz.ntmps5
        go_wp2_with fail
        refine HSH.out.mono ?_
        rintro e w2 ⟨rfl, hb⟩
        have HB2 := Lib.hid (HB.out.trans (hb.mono HB.out.size)); have HI2 := Lib.hid (HI.out.up hb); have HL2 := Lib.hid (RowAt.up (k := 1) (R := intR) HL.out hb); have HG2 := Lib.hid (HG.out.up hb)
        have Z2 := Lib.hid ((hb.block _ (heapsz Z0.out)).trans Z0.out)
        clear hb s0 s1 s2 s3 s4 s5 HSH
        go_wp2_with fail
        go_loopw [9] (fun i wr => ∃ j : Nat, j ≤ k ∧ i = .int .i64 j ∧ Below w2.heap.size w2 wr) (fun i _ => k - (intOf i).toNat)
        case atStart => exact ⟨0, Nat.zero_le _, rfl, Below.refl _ _⟩
        case round =>
          obtain ⟨j, hj, rfl, hbr⟩ := hrel
          have HBR := Lib.hid hbr
          by_cases hjt : j < k
          · have hj0 : (0 : Int) ≤ (j : Int) := by omega
            have hj1 : (j : Int) < (k : Int) := by omega
            obtain ⟨row, hrow⟩ := get_of_lt (l := L) (k := j) (by rw [HLN.out]; exact hjt)
            obtain ⟨ba, oa, A', nr, c', rfl, hba, hnr, d1, p1, hrx⟩ := grid_row HG2.out hrow
            have f1 := ((bcell hbr).1 _ _ hba).trans d1
            have nr63 : (nr : Int) ≤ 9223372036854775807 := by unfold maxLen at hrx; omega
            clear hrow hba hnr d1 p1 hrx hbr
            by_cases h10 : (10 : Int) < (nr : Int)
            · have HBX := Lib.hid (HB2.out.trans (HBR.out.mono HB2.out.size))
              go_wp2_with fail
              refine (HKN.out _ HBX.out).mono ?_
              rintro e wy ⟨rfl, hb⟩
              have HBY := Lib.hid (HBX.out.trans (hb.mono HBX.out.size)); clear hb
              go_wp2_with fail
              go_ret
              exact ⟨rfl, HBY.out⟩
            · go_wp2_with fail
              go_roundw
              case rel => exact ⟨j + 1, by omega, by go_num, HBR.out⟩
              case measure => simp [intOf]; omega
          · have hj1 : ¬ (j : Int) < (k : Int) := by omega
            have HBr := Lib.hid (HB2.out.trans (hbr.mono HB2.out.size)); have HIr := Lib.hid (HI2.out.up hbr); have HLr := Lib.hid (RowAt.up (k := 1) (R := intR) HL2.out hbr); have HGr := Lib.hid (HG2.out.up hbr)
            have Zr := Lib.hid ((hbr.block _ (heapsz Z2.out)).trans Z2.out)
            obtain ⟨s0, s1, s2, s3, s4, s5⟩ := site_box Zr.out
            obtain ⟨I, hI⟩ : ∃ z, planI X.sit X.ts plan = z := ⟨_, rfl⟩
            have HPI := Lib.hid hI
            have hv := planI_v X.sit X.ts plan
            have hPY := Play_any HIr.out A2 A3 m c2 k c3 plan L HM.out HM2.out HLr.out HLN.out HK2.out HGr.out
            unfold PlayPost at hPY
            obtain ⟨V, hV⟩ : ∃ z, playI X plan L = z := ⟨_, rfl⟩
            rw [hI] at hv
            rw [hV] at hPY
            have HPY := Lib.hid hPY
            have HV : Hid (V = if 10 < (L.length : Int) then 3 else if I = 0 then (if possB X L then 0 else 2) else I) := Lib.hid (by rw [← hV, ← hI]; rfl)
            clear hI hV hPY hbr HBR HB2 HI2 HL2 HG2 Z2
            go_wp2_with fail
            refine HPY.out.mono ?_
            rintro e w3 ⟨A4, n4, c4, rfl, g1, g2, hb⟩
            have HB3 := Lib.hid (HBr.out.trans (hb.mono HBr.out.size)); have HI3 := Lib.hid (HIr.out.up hb); have HL3 := Lib.hid (RowAt.up (k := 1) (R := intR) HLr.out hb); have HG3 := Lib.hid (HGr.out.up hb)
            have Z3 := Lib.hid ((hb.block _ (heapsz Zr.out)).trans Zr.out)
            have G1 := Lib.hid g1; have G2 := Lib.hid g2
            have hPL := planned_X (c2 := c2) HI3.out A2 m plan HM.out HM2.out HL3.out
            rw [HPI.out] at hPL
            have HPL := Lib.hid hPL
            clear hb s0 s1 s2 s3 s4 s5 HPY g1 g2 hPL HBr HIr HLr HGr Zr
            obtain ⟨s0, s1, s2, s3, s4, s5⟩ := site_box Z3.out
            by_cases h10 : (10 : Int) < (k : Int)
            · obtain rfl : V = 3 := (by rw [HV.out, if_pos (by rw [HLN.out]; exact h10)])
              obtain ⟨rfl, rfl, rfl⟩ := G2.out (by decide)
              clear G1 G2 HV
              go_wp2_with fail
              refine HPL.out.mono ?_
              rintro e w4 ⟨rfl, hb⟩
              have HBX := Lib.hid (HB3.out.trans (hb.mono HB3.out.size))
              clear hb HPL s0 s1 s2 s3 s4 s5
              go_wp2_with fail
              refine (HKN.out _ HBX.out).mono ?_
              rintro e wy ⟨rfl, hb⟩
              have HBY := Lib.hid (HBX.out.trans (hb.mono HBX.out.size)); clear hb
              go_wp2_with fail
              go_ret
              exact ⟨rfl, HBY.out⟩
            · have HV2 : Hid (V = if I = 0 then (if possB X L then 0 else 2) else I) := Lib.hid (by rw [HV.out, if_neg (by rw [HLN.out]; exact h10)])
              clear HV
              by_cases h0 : I = 0
              · subst h0
                have HZ := Lib.hid (planI_0 HPI.out)
                have HMN : Hid (m = X.n) := Lib.hid (by rw [← HM.out, HZ.out.2.1, HI3.out.hl])
                have HPB : Hid (planB X.np plan = true) := Lib.hid (by rw [← HI3.out.hp]; exact HZ.out.2.2)
                have HKO : Hid X.Ok := Lib.hid ⟨HI3.out.hp, HI3.out.hq, HI3.out.hr, HI3.out.hl, HZ.out.1⟩
                obtain ⟨B, hB⟩ : ∃ z, possB X L = z := ⟨_, rfl⟩
                have HBB := Lib.hid hB
                have HV3 : Hid (V = if B then 0 else 2) := Lib.hid (by rw [HV2.out, if_pos rfl, hB])
                clear hB HV2 hv
                go_wp2_with fail
                refine HPL.out.mono ?_
                rintro e w4 ⟨rfl, hb⟩
                have HB4 := Lib.hid (HB3.out.trans (hb.mono HB3.out.size)); have HI4 := Lib.hid (HI3.out.up hb); have HL4 := Lib.hid (RowAt.up (k := 1) (R := intR) HL3.out hb); have HG4 := Lib.hid (HG3.out.up hb)
                have HB34 := Lib.hid hb
                have Z4 := Lib.hid ((hb.block _ (heapsz Z3.out)).trans Z3.out)
                have hTR := refTruths_any HI4.out HKO.out A3 k c3 L HLN.out HK2.out HG4.out
                rw [HBB.out] at hTR
                have HTR := Lib.hid hTR
                clear hb s0 s1 s2 s3 s4 s5 HPL hTR
                obtain ⟨s0, s1, s2, s3, s4, s5⟩ := site_box Z4.out
                go_wp2_with fail
                refine HTR.out.mono ?_
                rintro e w5 ⟨rfl, hb⟩
                have HB5 := Lib.hid (HB4.out.trans (hb.mono HB4.out.size)); have HI5 := Lib.hid (HI4.out.up hb); have HL5 := Lib.hid (RowAt.up (k := 1) (R := intR) HL4.out hb); have HG5 := Lib.hid (HG4.out.up hb)
                have HB35 := Lib.hid (HB34.out.trans (hb.mono HB34.out.size))
                have Z5 := Lib.hid ((hb.block _ (heapsz Z4.out)).trans Z4.out)
                clear hb s0 s1 s2 s3 s4 s5 HTR
                cases B with
                | false =>
                  obtain rfl : V = 2 := HV3.out
                  obtain ⟨rfl, rfl, rfl⟩ := G2.out (by decide)
                  have HBX := HB5
                  clear G1 G2 HV3
                  go_wp2_with fail
                  refine (HKN.out _ HBX.out).mono ?_
                  rintro e wy ⟨rfl, hb⟩
                  have HBY := Lib.hid (HBX.out.trans (hb.mono HBX.out.size)); clear hb
                  go_wp2_with fail
                  go_ret
                  exact ⟨rfl, HBY.out⟩
                | true =>
                  obtain rfl : V = 0 := HV3.out
                  obtain ⟨rfl, hlv, _⟩ := G1.out rfl
                  have HLV := Lib.hid (LvsAt.up hlv HB35.out)
                  obtain ⟨hln, hrw⟩ := poss_at HBB.out
                  obtain rfl : k = n4 := (by rw [← HLN.out, hln, HMN.out])
                  have hrl : ∀ row ∈ L, row.length = X.np := fun row hr => by
                    obtain ⟨t, ht⟩ := List.mem_iff_getElem?.1 hr
                    exact (hrw t row ht).1
                  have HRP := Lib.hid (refPlay_any X.AP X.AQ X.AR A2 A3 X.np X.cp X.nq X.cq X.nr X.cr k c2 c3 X.may X.sink X.tilt plan L w5 HKO.out.np6 HM.out (by omega) HL5.out HPB.out HLN.out hrl HG5.out (poss_set HKO.out HBB.out))
                  have HLL : Hid ((lvT (setF L) plan X.np).length = k) := Lib.hid (by unfold lvT; rw [List.length_map, List.length_range, HM.out])
                  obtain ⟨s0, s1, s2, s3, s4, s5⟩ := site_box Z5.out
                  clear G1 G2 HV3 hlv hln hrw hrl
                  go_wp2_with fail
                  refine HRP.out.mono ?_
                  rintro e w6 ⟨A5, c5, rfl, hs5, _, hb⟩
                  have HB6 := Lib.hid (HB5.out.trans (hb.mono HB5.out.size))
                  have HSS := Lib.hid (sameRows_eq A4 A5 k c4 c5 _ w6 HLL.out HK2.out (LvsAt.up HLV.out hb) hs5)
                  clear hb hs5 HRP s0 s1 s2 s3 s4 s5
                  go_wp2_with fail
                  refine HSS.out.mono ?_
                  rintro e w7 ⟨rfl, hb⟩
                  have HBX := Lib.hid (HB6.out.trans (hb.mono HB6.out.size)); clear hb
                  go_wp2_with fail
                  refine (HKN.out _ HBX.out).mono ?_
                  rintro e wy ⟨rfl, hb⟩
                  have HBY := Lib.hid (HBX.out.trans (hb.mono HBX.out.size)); clear hb
                  go_wp2_with fail
                  go_ret
                  exact ⟨rfl, HBY.out⟩
              · obtain rfl : V = I := (by rw [HV2.out, if_neg h0])
                obtain ⟨rfl, rfl, rfl⟩ := G2.out h0
                clear G1 G2 HV2
                have hI : V = 2 ∨ V = 3 := by omega
                clear hv h0
                rcases hI with rfl | rfl
                all_goals
                  go_wp2_with fail
                  refine HPL.out.mono ?_
                  rintro e w4 ⟨rfl, hb⟩
                  have HBX := Lib.hid (HB3.out.trans (hb.mono HB3.out.size))
                  clear hb HPL s0 s1 s2 s3 s4 s5
                  go_wp2_with fail
                  refine (HKN.out _ HBX.out).mono ?_
                  rintro e wy ⟨rfl, hb⟩
                  have HBY := Lib.hid (HBX.out.trans (hb.mono HBX.out.size)); clear hb
                  go_wp2_with fail
                  go_ret
                  exact ⟨rfl, HBY.out⟩
end Go.Proofs.YtdlaphlpimlgdaaGreatDoor
