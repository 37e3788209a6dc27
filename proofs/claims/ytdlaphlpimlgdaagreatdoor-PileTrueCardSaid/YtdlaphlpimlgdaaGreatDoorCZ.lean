/- The law of the levels: whatever is true. -/
import Derived.Test.YtdlaphlpimlgdaaGreatDoorCY
namespace Go.Proofs.YtdlaphlpimlgdaaGreatDoor
open Go.RowKit Go.Shelf

set_option maxRecDepth 100000 in
set_option maxHeartbeats 16000000 in
theorem true_law {X : Ctx} {w : World} (h : X.In w) (ht : Tab w) (A2 : Option Addr) (m c2 : Nat) (plan : List Int) (hm : plan.length = m) (hm2 : m ≤ maxLen) (hL : IntsAt w w.heap.size A2 plan)
    (A3 : Option Addr) (k c3 : Nat) (xs : List Int) (hk : xs.length = k) (hk2 : k ≤ maxLen) (hX : IntsAt w w.heap.size A3 xs) :
    Calls Tryz.prog 6 #[X.sv, X.tv, .slice A2 m c2, .slice A3 k c3] w fun e w' => e = .returned (.bool true) ∧ Below w.heap.size w w' := by
  obtain ⟨z0, hb0⟩ := site_new X w
  have HM := Lib.hid hm; have HM2 := Lib.hid hm2; have HT := Lib.hid ht; have HKX := Lib.hid hk; have HKX2 := Lib.hid hk2
  obtain ⟨w1, hw1⟩ : ∃ z, w.alloc (.cells X.cells 26) = z := ⟨_, rfl⟩
  rw [hw1] at z0 hb0
  have HI := Lib.hid (h.up hb0); have HB := Lib.hid hb0; have HL := Lib.hid (RowAt.up (k := 1) (R := intR) hL hb0); have HX := Lib.hid (RowAt.up (k := 1) (R := intR) hX hb0)
  have Z0 := Lib.hid z0
  obtain ⟨s0, s1, s2, s3, s4, s5⟩ := site_box z0
  clear h ht z0 hb0 hm hm2 hL hk hk2 hX
  have HSH := Lib.hid (short_X HI.out)
  have HKN : Hid (∀ u, Below w.heap.size w u → Calls Tryz.prog 19 #[] u fun e w' => e = .returned (.bool true) ∧ Below u.heap.size u w') := Lib.hid fun u hu => known_any u (HT.out.next hu)
  obtain ⟨S, hS⟩ : ∃ z, shortB X.np X.nq X.nr X.ts = z := ⟨_, rfl⟩
  rw [hS] at HSH
  clear hS
  cases S with
  | false =>
    go_enter Tryz.func6, Tryz.ntmps6
    go_wp2_with fail
    refine HSH.out.mono ?_
    rintro e w2 ⟨rfl, hb⟩
    have HBX := Lib.hid (HB.out.trans (hb.mono HB.out.size)); clear hb
    go_wp2_with fail
    refine (HKN.out _ HBX.out).mono ?_
    rintro e wy ⟨rfl, hb⟩
    have HBY := Lib.hid (HBX.out.trans (hb.mono HBX.out.size)); clear hb
    go_wp2_with fail
    go_ret
    exact ⟨rfl, HBY.out⟩
  | true =>
    go_enter Tryz.func6, Tryz.ntmps6
    go_wp2_with fail
    refine HSH.out.mono ?_
    rintro e w2 ⟨rfl, hb⟩
    have HB1 := HB; have HI1 := HI; have HL1 := HL; have HX1 := HX; have Z1 := Z0
    have HB2 := Lib.hid (HB1.out.trans (hb.mono HB1.out.size)); have HI2 := Lib.hid (HI1.out.up hb); have HL2 := Lib.hid (RowAt.up (k := 1) (R := intR) HL1.out hb); have HX2 := Lib.hid (RowAt.up (k := 1) (R := intR) HX1.out hb)
    have Z2 := Lib.hid ((hb.block _ (heapsz Z1.out)).trans Z1.out)
    clear hb s0 s1 s2 s3 s4 s5
    obtain ⟨s0, s1, s2, s3, s4, s5⟩ := site_box Z2.out
    obtain ⟨I, hI⟩ : ∃ z, planI X.sit X.ts plan = z := ⟨_, rfl⟩
    have HPI := Lib.hid hI
    have hv := planI_v X.sit X.ts plan
    have hPL := planned_X (c2 := c2) HI2.out A2 m plan HM.out HM2.out HL2.out
    rw [hI] at hv hPL
    have HPL := Lib.hid hPL
    clear hI hPL HSH
    go_wp2_with fail
    refine HPL.out.mono ?_
    rintro e w3 ⟨rfl, hb⟩
    clear HPL
    have HB3 := Lib.hid (HB2.out.trans (hb.mono HB2.out.size)); have HI3 := Lib.hid (HI2.out.up hb); have HL3 := Lib.hid (RowAt.up (k := 1) (R := intR) HL2.out hb); have HX3 := Lib.hid (RowAt.up (k := 1) (R := intR) HX2.out hb)
    have Z3 := Lib.hid ((hb.block _ (heapsz Z2.out)).trans Z2.out)
    clear hb s0 s1 s2 s3 s4 s5
    obtain ⟨s0, s1, s2, s3, s4, s5⟩ := site_box Z3.out
    by_cases h0 : I = 0
    · subst h0
      have HZ := Lib.hid (planI_0 HPI.out)
      have HTH := Lib.hid HZ.out.1
      obtain rfl : m = X.n := (by rw [← HM.out, HZ.out.2.1, HI3.out.hl])
      have HK : Hid X.Ok := Lib.hid ⟨HI3.out.hp, HI3.out.hq, HI3.out.hr, HI3.out.hl, HZ.out.1⟩
      have np6 := HK.out.np6; have n10 := HK.out.n10
      have hni : ((X.n : Int) == (X.n : Int)) = true := beq_self_eq_true _
      have hnpi : ((X.np : Int) == (X.np : Int)) = true := beq_self_eq_true _
      obtain ⟨PB, hPB⟩ : ∃ z, perB xs = z := ⟨_, rfl⟩
      have HPC := Lib.hid hPB
      have hPE := percents_any A3 k c3 xs w3 HKX.out HKX2.out HX3.out
      rw [hPB] at hPE
      have HPE := Lib.hid hPE
      clear hv hPB hPE
      go_wp2_with fail
      refine HPE.out.mono ?_
      rintro e w4 ⟨rfl, hb⟩
      clear HPE
      have HB4 := Lib.hid (HB3.out.trans (hb.mono HB3.out.size)); have HI4 := Lib.hid (HI3.out.up hb); have HL4 := Lib.hid (RowAt.up (k := 1) (R := intR) HL3.out hb); have HX4 := Lib.hid (RowAt.up (k := 1) (R := intR) HX3.out hb)
      have Z4 := Lib.hid ((hb.block _ (heapsz Z3.out)).trans Z3.out)
      clear hb s0 s1 s2 s3 s4 s5
      obtain ⟨s0, s1, s2, s3, s4, s5⟩ := site_box Z4.out
      cases PB with
      | false =>
        have HBX := HB4
        go_wp2_with fail
        refine (HKN.out _ HBX.out).mono ?_
        rintro e wy ⟨rfl, hb⟩
        have HBY := Lib.hid (HBX.out.trans (hb.mono HBX.out.size)); clear hb
        go_wp2_with fail
        go_ret
        exact ⟨rfl, HBY.out⟩
      | true =>
        have hTR := truth_any HI4.out HK.out A3 k c3 xs HKX.out HPC.out HX4.out
        have HTR := Lib.hid hTR
        clear hTR
        go_wp2_with fail
        refine HTR.out.mono ?_
        rintro e w5 ⟨A5, c5, rfl, hg, _, hb⟩
        have HG5 := Lib.hid hg
        clear hg HTR
        have HB5 := Lib.hid (HB4.out.trans (hb.mono HB4.out.size)); have HI5 := Lib.hid (HI4.out.up hb); have HL5 := Lib.hid (RowAt.up (k := 1) (R := intR) HL4.out hb); have HX5 := Lib.hid (RowAt.up (k := 1) (R := intR) HX4.out hb)
        have Z5 := Lib.hid ((hb.block _ (heapsz Z4.out)).trans Z4.out)
        clear hb s0 s1 s2 s3 s4 s5
        obtain ⟨s0, s1, s2, s3, s4, s5⟩ := site_box Z5.out
        have hCA := Carries_any HI5.out
        rw [HTH.out ] at hCA
        unfold CarPost at hCA
        have HCA := Lib.hid hCA
        clear hCA
        go_wp2_with fail
        refine HCA.out.mono ?_
        rintro e w6 ⟨A6, n6, c6, rfl, g1, _, hb⟩
        obtain ⟨rfl, hc, _⟩ := g1 (by simp)
        have HC6 := Lib.hid hc; have HG6 := Lib.hid (HG5.out.up hb)
        clear hc g1 HCA
        have HB6 := Lib.hid (HB5.out.trans (hb.mono HB5.out.size)); have HI6 := Lib.hid (HI5.out.up hb); have HL6 := Lib.hid (RowAt.up (k := 1) (R := intR) HL5.out hb); have HX6 := Lib.hid (RowAt.up (k := 1) (R := intR) HX5.out hb)
        have Z6 := Lib.hid ((hb.block _ (heapsz Z5.out)).trans Z5.out)
        clear hb s0 s1 s2 s3 s4 s5
        obtain ⟨s0, s1, s2, s3, s4, s5⟩ := site_box Z6.out
        have hLE := Levels_any HI6.out A2 X.n c2 plan HM.out HM2.out HL6.out
        rw [HPI.out ] at hLE
        unfold LevPost at hLE
        have HLE := Lib.hid hLE
        clear hLE
        go_wp2_with fail
        refine HLE.out.mono ?_
        rintro e w7 ⟨A7, n7, c7, rfl, g1, _, hb⟩
        obtain ⟨rfl, hc, _⟩ := g1 (by simp)
        have HS7 := Lib.hid hc; have HC7 := Lib.hid (hc.up (Below.refl _ _)); have HG7 := Lib.hid (HG6.out.up hb); have HD7 := Lib.hid (HC6.out.up hb)
        clear hc g1 HLE HC7
        have HB7 := Lib.hid (HB6.out.trans (hb.mono HB6.out.size)); have HI7 := Lib.hid (HI6.out.up hb); have HL7 := Lib.hid (RowAt.up (k := 1) (R := intR) HL6.out hb); have HX7 := Lib.hid (RowAt.up (k := 1) (R := intR) HX6.out hb)
        have Z7 := Lib.hid ((hb.block _ (heapsz Z6.out)).trans Z6.out)
        clear hb s0 s1 s2 s3 s4 s5
        obtain ⟨s0, s1, s2, s3, s4, s5⟩ := site_box Z7.out
        have hPY := Play_any HI7.out A2 A5 X.n c2 X.n c5 plan (X.truL xs) HM.out HM2.out HL7.out (tru_len X xs) HM2.out HG7.out
        have hp0 : playI X plan (X.truL xs) = 0 := by
          unfold playI
          rw [if_neg (by rw [tru_len]; omega), if_pos HPI.out, tru_poss HK.out HPC.out]
          rfl
        rw [hp0 ] at hPY
        unfold PlayPost at hPY
        have HPY := Lib.hid hPY
        clear hPY hp0
        go_wp2_with fail
        refine HPY.out.mono ?_
        rintro e w8 ⟨A8, n8, c8, rfl, g1, _, hb⟩
        obtain ⟨rfl, hc, _⟩ := g1 (by simp)
        have HP8 := Lib.hid hc; have HG8 := Lib.hid (HG7.out.up hb); have HD8 := Lib.hid (HD7.out.up hb); have HS8 := Lib.hid (HS7.out.up hb)
        clear hc g1 HPY
        have HB8 := Lib.hid (HB7.out.trans (hb.mono HB7.out.size)); have HI8 := Lib.hid (HI7.out.up hb); have HL8 := Lib.hid (RowAt.up (k := 1) (R := intR) HL7.out hb); have HX8 := Lib.hid (RowAt.up (k := 1) (R := intR) HX7.out hb)
        have Z8 := Lib.hid ((hb.block _ (heapsz Z7.out)).trans Z7.out)
        clear hb s0 s1 s2 s3 s4 s5
        obtain ⟨s0, s1, s2, s3, s4, s5⟩ := site_box Z8.out
        have hFA := Fault_any HI8.out A2 X.n c2 plan HM.out HM2.out HL8.out
        rw [HPI.out ] at hFA
        unfold FauPost at hFA
        obtain ⟨⟨p0, p1, p2⟩, hp⟩ : ∃ z, fauI (fauF X (spanL X.ps X.rs X.ts plan)) = z := ⟨_, rfl⟩
        have HFN : Hid (p1 = 1 → fauF X (spanL X.ps X.rs X.ts plan) = none) := Lib.hid fun h1 => fau_fine (by rw [hp]; exact h1)
        simp only [hp, fauV, if_pos] at hFA
        have HFA := Lib.hid hFA
        clear hFA hp
        go_wp2_with fail
        refine HFA.out.mono ?_
        rintro e w9 ⟨rfl, hb⟩
        have HG9 := Lib.hid (HG8.out.up hb); have HD9 := Lib.hid (HD8.out.up hb); have HS9 := Lib.hid (HS8.out.up hb); have HP9 := Lib.hid (LvsAt.up HP8.out hb)
        clear HFA
        have HB9 := Lib.hid (HB8.out.trans (hb.mono HB8.out.size)); have HI9 := Lib.hid (HI8.out.up hb); have HL9 := Lib.hid (RowAt.up (k := 1) (R := intR) HL8.out hb); have HX9 := Lib.hid (RowAt.up (k := 1) (R := intR) HX8.out hb)
        have Z9 := Lib.hid ((hb.block _ (heapsz Z8.out)).trans Z8.out)
        clear hb s0 s1 s2 s3 s4 s5
        obtain ⟨s0, s1, s2, s3, s4, s5⟩ := site_box Z9.out
        have hbz := (Below.refl w9.heap.size w9).alloc (Nat.le_refl _) (.cells #[.int .i64 p0, .int .i64 p1, .int .i64 p2] 64)
        have zf := heap_alloc_new w9 (.cells #[.int .i64 p0, .int .i64 p1, .int .i64 p2] 64)
        obtain ⟨wf, hwf⟩ : ∃ z, w9.alloc (.cells #[.int .i64 p0, .int .i64 p1, .int .i64 p2] 64) = z := ⟨_, rfl⟩
        rw [hwf] at hbz zf
        have HBF := Lib.hid (HB9.out.trans (hbz.mono HB9.out.size)); have HIF := Lib.hid (HI9.out.up hbz)
        have HGF := Lib.hid (HG9.out.up hbz); have HDF := Lib.hid (HD9.out.up hbz); have HSF := Lib.hid (HS9.out.up hbz); have HPF := Lib.hid (LvsAt.up HP9.out hbz)
        have ZX := Lib.hid ((hbz.block _ (heapsz Z9.out)).trans Z9.out); have ZF := Lib.hid zf
        clear hbz zf
        go_wp2_with fail
        try rw [hwf]
        obtain ⟨bf, hbf⟩ : ∃ z, w9.heap.size = z := ⟨_, rfl⟩
        rw [hbf] at ZF
        try rw [hbf]
        clear hwf hbf s0 s1 s2 s3 s4 s5 HB9 HI9 HL9 HX9 Z9 HG9 HD9 HS9 HP9
        go_loopw [18] (fun i wr => ∃ t : Nat, t ≤ X.n ∧ i = .int .i64 t ∧ Below wf.heap.size wf wr) (fun i _ => X.n - (intOf i).toNat)
        case atStart => exact ⟨0, Nat.zero_le _, rfl, Below.refl _ _⟩
        case round =>
          obtain ⟨t, ht, rfl, hbr⟩ := hrel
          have HBR := Lib.hid hbr
          by_cases hlt : t < X.n
          · have ht0 : (0 : Int) ≤ (t : Int) := by omega
            have ht1 : (t : Int) < (X.n : Int) := by omega
            have hrt : (X.truL xs)[t]? = some ((List.range X.np).map (X.trT xs t)) := gridL_at _ hlt
            have hrc : (zipL X.leastL X.mostL)[t]? = some (((List.range X.np).map (X.leastC t)).zip ((List.range X.np).map (X.mostC t))) := by
              unfold zipL
              rw [List.getElem?_zipWith, show X.leastL[t]? = some ((List.range X.np).map (X.leastC t)) from gridL_at _ hlt, show X.mostL[t]? = some ((List.range X.np).map (X.mostC t)) from gridL_at _ hlt]
            have hrs : (spanL X.ps X.rs X.ts plan)[t]? = some ((lvL X.most plan X.np t).zip (lvL X.least plan X.np t)) := by
              unfold spanL zipL lvT
              rw [List.getElem?_zipWith, List.getElem?_map, List.getElem?_map, List.getElem?_range (by rw [HM.out]; exact hlt), HK.out.hp]
              rfl
            have hrp : (lvT (setF (X.truL xs)) plan X.np)[t]? = some (lvL (setF (X.truL xs)) plan X.np t) := by
              unfold lvT
              rw [List.getElem?_map, List.getElem?_range (by rw [HM.out]; exact hlt)]
              rfl
            obtain ⟨b5, o5, R5, m5, d5, rfl, hb5, hm5, e5, q5, _⟩ := grid_row HGF.out hrt
            obtain ⟨b6, o6, R6, m6, d6, rfl, hb6, hm6, e6, q6, _⟩ := sps_row HDF.out hrc
            obtain ⟨b7, o7, R7, m7, d7, rfl, hb7, hm7, e7, q7, _⟩ := sps_row HSF.out hrs
            obtain ⟨b8, o8, R8, m8, d8, rfl, hb8, hm8, e8, q8, _⟩ := lvs_row HPF.out hrp
            have n5 : m5 = X.np := by rw [hm5]; simp
            have n6 : m6 = X.np := by rw [hm6, List.length_zip, List.length_map, List.length_map, List.length_range, Nat.min_self]
            have n7 : m7 = X.np := by rw [hm7, List.length_zip]; unfold lvL; rw [List.length_map, List.length_map, List.length_range, Nat.min_self]
            have n8 : m8 = X.np := by rw [hm8]; unfold lvL; simp
            rw [n5] at e5
            rw [n6] at e6
            rw [n7] at e7
            rw [n8] at e8
            have Q5 := Lib.hid q5; have Q6 := Lib.hid q6; have Q7 := Lib.hid q7; have Q8 := Lib.hid q8
            have FD : Hid (∀ u, Below wf.heap.size wf u → u.cell? ⟨b5, o5 + t, none⟩ = some (.slice R5 X.np d5) ∧ u.cell? ⟨b6, o6 + t, none⟩ = some (.slice R6 X.np d6) ∧ u.cell? ⟨b7, o7 + t, none⟩ = some (.slice R7 X.np d7) ∧ u.cell? ⟨b8, o8 + t, none⟩ = some (.slice R8 X.np d8) ∧ u.cell? ⟨w.heap.size, 0, none⟩ = some (.slice X.AP X.np X.cp)) :=
              Lib.hid fun u hu => ⟨((bcell hu).1 _ _ hb5).trans e5, ((bcell hu).1 _ _ hb6).trans e6, ((bcell hu).1 _ _ hb7).trans e7, ((bcell hu).1 _ _ hb8).trans e8, (site_box ((hu.block _ (heapsz ZX.out)).trans ZX.out)).1⟩
            clear hrt hrc hrs hrp hb5 hb6 hb7 hb8 hm5 hm6 hm7 hm8 e5 e6 e7 e8 q5 q6 q7 q8 n5 n6 n7 n8
            obtain ⟨_, f6, f7, f8, f0⟩ := FD.out wr hbr
            clear hbr
            go_wp2_with fail
            go_quiet (fail)
            go_wp2_with fail
            rename World => wo
            clear f6 f7 f8 f0
            go_loopw [19, 20] (fun i n wq => ∃ j : Nat, j ≤ X.np ∧ i = .int .i64 j ∧ Below wf.heap.size wf wq) (fun i _ _ => X.np - (intOf i).toNat)
            case atStart => exact ⟨0, Nat.zero_le _, rfl, belN HBR.out _⟩
            case round =>
              obtain ⟨j, hj, rfl, hbq⟩ := hrel
              have HBQ := Lib.hid hbq
              obtain ⟨_, _, _, _, f0⟩ := FD.out wr hbq
              clear hbq
              by_cases hjt : j < X.np
              · have hj0 : (0 : Int) ≤ (j : Int) := by omega
                have hj1 : (j : Int) < (X.np : Int) := by omega
                obtain ⟨bp, op, eAP, hbp, y0, y1, y2, y3, y4, y5, y6⟩ := HIF.out.cells_p HK.out hjt
                obtain ⟨b9, o9, rfl, hb9, u0, u1, u2⟩ := tru_el Q5.out (rowL_at (X.trT xs t) hjt)
                have hel : (((List.range X.np).map (X.leastC t)).zip ((List.range X.np).map (X.mostC t)))[j]? = some (X.leastC t j, X.mostC t j) := by rw [List.zip_eq_zipWith, List.getElem?_zipWith, rowL_at _ hjt, rowL_at _ hjt]
                obtain ⟨ba, oa, rfl, hba, v0, v1⟩ := prs_el Q6.out hel
                have hes : ((lvL X.most plan X.np t).zip (lvL X.least plan X.np t))[j]? = some (lvI X.most plan t j, lvI X.least plan t j) := by unfold lvL; rw [List.zip_eq_zipWith, List.getElem?_zipWith, rowL_at _ hjt, rowL_at _ hjt]
                obtain ⟨bb, ob, rfl, hbb, x0, x1⟩ := prs_el Q7.out hes
                have hep : (lvL (setF (X.truL xs)) plan X.np t)[j]? = some (lvI (setF (X.truL xs)) plan t j) := rowL_at _ hjt
                obtain ⟨bc, oc, rfl, hbc, hcl⟩ := Q8.out (by intro h; rw [h] at hep; simp at hep)
                have k0 := hcl j _ hep 0 (.int .i64 (lvI (setF (X.truL xs)) plan t j)) rfl
                simp only [Nat.mul_one, Nat.add_zero] at k0
                obtain ⟨tc1, tc2⟩ := tru_carry HK.out HPC.out hlt hjt
                obtain ⟨tl1, tl2⟩ := tru_lv HK.out HPC.out plan hlt hjt
                obtain ⟨ti1, _⟩ := tru_in HK.out HPC.out hlt hjt
                have hpB := (HK.out.at_pile hjt).2
                have u0' : wf.cell? ⟨b9, o9 + j * 3, none⟩ = some (.int .i64 (X.trA xs t j)) := u0
                have HC := Lib.hid fun u : World => refCarries_any (X.pile j) (X.trA xs t j) u hpB (by omega) (by omega)
                have FE : Hid (∀ u, Below wf.heap.size wf u → (u.cell? ⟨b5, o5 + t, none⟩ = some (.slice (some ⟨b9, o9, none⟩) X.np d5) ∧ u.cell? ⟨b6, o6 + t, none⟩ = some (.slice (some ⟨ba, oa, none⟩) X.np d6) ∧ u.cell? ⟨b7, o7 + t, none⟩ = some (.slice (some ⟨bb, ob, none⟩) X.np d7) ∧ u.cell? ⟨b8, o8 + t, none⟩ = some (.slice (some ⟨bc, oc, none⟩) X.np d8) ∧ u.cell? ⟨w.heap.size, 0, none⟩ = some (.slice (some ⟨bp, op, none⟩) X.np X.cp)) ∧
                    (u.cell? ⟨bp, op + j * 7, none⟩ = some (.int .i64 (X.pile j).d) ∧ u.cell? ⟨bp, op + j * 7 + 1, none⟩ = some (.int .i64 (X.pile j).p) ∧ u.cell? ⟨bp, op + j * 7 + 2, none⟩ = some (.int .i64 (X.pile j).s) ∧ u.cell? ⟨bp, op + j * 7 + 3, none⟩ = some (.int .i64 (X.pile j).l) ∧ u.cell? ⟨bp, op + j * 7 + 4, none⟩ = some (.int .i64 (X.pile j).h) ∧ u.cell? ⟨bp, op + j * 7 + 5, none⟩ = some (.int .i64 (X.pile j).g) ∧ u.cell? ⟨bp, op + j * 7 + 6, none⟩ = some (.int .i64 (X.pile j).c)) ∧
                    u.cell? ⟨b9, o9 + j * 3, none⟩ = some (.int .i64 (X.trA xs t j)) ∧ u.cell? ⟨ba, oa + j * 2, none⟩ = some (.int .i64 (X.leastC t j)) ∧ u.cell? ⟨ba, oa + j * 2 + 1, none⟩ = some (.int .i64 (X.mostC t j)) ∧ u.cell? ⟨bb, ob + j * 2, none⟩ = some (.int .i64 (lvI X.most plan t j)) ∧ u.cell? ⟨bb, ob + j * 2 + 1, none⟩ = some (.int .i64 (lvI X.least plan t j)) ∧ u.cell? ⟨bc, oc + j, none⟩ = some (.int .i64 (lvI (setF (X.truL xs)) plan t j))) :=
                  Lib.hid fun u hu => ⟨by rw [← eAP]; exact FD.out u hu, ⟨((bcell hu).1 _ _ hbp).trans y0, ((bcell hu).1 _ _ hbp).trans y1, ((bcell hu).1 _ _ hbp).trans y2, ((bcell hu).1 _ _ hbp).trans y3, ((bcell hu).1 _ _ hbp).trans y4, ((bcell hu).1 _ _ hbp).trans y5, ((bcell hu).1 _ _ hbp).trans y6⟩, ((bcell hu).1 _ _ hb9).trans u0', ((bcell hu).1 _ _ hba).trans v0, ((bcell hu).1 _ _ hba).trans v1, ((bcell hu).1 _ _ hbb).trans x0, ((bcell hu).1 _ _ hbb).trans x1, ((bcell hu).1 _ _ hbc).trans k0⟩
                obtain ⟨P, hP⟩ : ∃ z, X.pile j = z := ⟨_, rfl⟩
                obtain ⟨TA, hTA⟩ : ∃ z, X.trA xs t j = z := ⟨_, rfl⟩
                rw [hP, hTA] at tc1 tc2
                obtain ⟨CC, hCC⟩ : ∃ z, carI P TA = z := ⟨_, rfl⟩
                obtain ⟨C1, hC1⟩ : ∃ z, X.leastC t j = z := ⟨_, rfl⟩
                obtain ⟨C2, hC2⟩ : ∃ z, X.mostC t j = z := ⟨_, rfl⟩
                obtain ⟨L1, hL1⟩ : ∃ z, lvI X.most plan t j = z := ⟨_, rfl⟩
                obtain ⟨L2, hL2⟩ : ∃ z, lvI X.least plan t j = z := ⟨_, rfl⟩
                obtain ⟨L3, hL3⟩ : ∃ z, lvI (setF (X.truL xs)) plan t j = z := ⟨_, rfl⟩
                simp only [hP, hTA, hCC, hC1, hC2, hL1, hL2, hL3] at FE HC tc1 tc2 tl1 tl2
                unfold pilV at HC
                have HC1 := Lib.hid fun u : KeptW wr => Calls.in_kept u (HC.out u.w)
                have HT : Hid ((C1 ≤ CC ∧ CC ≤ C2) ∧ L1 ≤ L3 ∧ L3 ≤ L2) := Lib.hid ⟨⟨tc1, tc2⟩, tl1, tl2⟩
                have fu := fun u : KeptW wr => FE.out u.w (HBQ.out.trans (u.h.mono HBQ.out.size))
                have r5 := fun u => (fu u).1.1; have s0 := fun u => (fu u).1.2.2.2.2
                have l0 := fun u => (fu u).2.1.1; have l1 := fun u => (fu u).2.1.2.1; have l2 := fun u => (fu u).2.1.2.2.1; have l3 := fun u => (fu u).2.1.2.2.2.1; have l4 := fun u => (fu u).2.1.2.2.2.2.1; have l5 := fun u => (fu u).2.1.2.2.2.2.2.1; have l6 := fun u => (fu u).2.1.2.2.2.2.2.2
                have a0 := fun u => (fu u).2.2.1
                clear y0 y1 y2 y3 y4 y5 y6 hbp hb9 u0 u1 u2 u0' hel hba v0 v1 hes hbb x0 x1 hep hbc hcl k0 tc1 tc2 tl1 tl2 ti1 hpB hP hTA hCC hC1 hC2 hL1 hL2 hL3 eAP fu HC
                go_wp2_with fail
                clear f0
                refine rk_region (by kernel_rfl) (by kernel_rfl) ?_
                repeat (go_big_quiet_step (first | (with_reducible exact HC1.out _) | fail))
                refine wpQuiet_nil ?_
                rintro _ ⟨u, rfl⟩
                have HBU := Lib.hid (HBQ.out.trans (u.h.mono HBQ.out.size))
                clear r5 s0 l0 l1 l2 l3 l4 l5 l6 a0 HC1
                go_wp2_with fail
                obtain ⟨wv, hwv⟩ : ∃ z, u.w = z := ⟨_, rfl⟩
                rw [hwv] at HBU ⊢
                clear hwv u
                have fu := fun u : KeptW wv => FE.out u.w (HBU.out.trans (u.h.mono HBU.out.size))
                have r6 := fun u => (fu u).1.2.1; have r7 := fun u => (fu u).1.2.2.1; have r8 := fun u => (fu u).1.2.2.2.1
                have a1 := fun u => (fu u).2.2.2.1; have a2 := fun u => (fu u).2.2.2.2.1; have a3 := fun u => (fu u).2.2.2.2.2.1; have a4 := fun u => (fu u).2.2.2.2.2.2.1; have a5 := fun u => (fu u).2.2.2.2.2.2.2
                have hT := HT.out
                have b1 : decide (CC < C1) = false := decide_eq_false (by omega)
                have b2 : decide (C2 < CC) = false := decide_eq_false (by omega)
                have b3 : decide (L3 < L1) = false := decide_eq_false (by omega)
                have b4 : decide (L2 < L3) = false := decide_eq_false (by omega)
                clear hT fu
                refine rk_region (by kernel_rfl) (by kernel_rfl) ?_
                repeat (go_big_quiet_step (fail))
                refine wpQuiet_nil ?_
                rintro _ ⟨u, rfl⟩
                have HBV := Lib.hid (HBU.out.trans (u.h.mono HBU.out.size))
                clear r6 r7 r8 a1 a2 a3 a4 a5 b1 b2 b3 b4
                go_wp2_with fail
                go_roundw
                case rel => exact ⟨j + 1, by omega, by go_num, HBV.out⟩
                case measure => simp [intOf]; omega
              · have hje : j = X.np := by omega
                have hj1 : ¬ (j : Int) < (X.np : Int) := by omega
                clear hje
                have FW := fun u : KeptW wr => FD.out u.w (HBQ.out.trans (u.h.mono HBQ.out.size))
                have r5 := fun u => (FW u).1; have r8 := fun u => (FW u).2.2.2.1
                have ss := fun u : KeptW wr => site_box (((HBQ.out.trans (u.h.mono HBQ.out.size)).block _ (heapsz ZX.out)).trans ZX.out)
                have S0 := fun u => (ss u).1; have S1 := fun u => (ss u).2.1; have S2 := fun u => (ss u).2.2.1; have S3 := fun u => (ss u).2.2.2.1; have S4 := fun u => (ss u).2.2.2.2.1; have S5 := fun u => (ss u).2.2.2.2.2
                have gf := fun u : KeptW wr => (box3_cells (((HBQ.out.trans (u.h.mono HBQ.out.size)).block _ (heapsz ZF.out)).trans ZF.out)).2.1
                clear FW ss
                by_cases h1 : p1 = 1
                · obtain ⟨w1', w2'⟩ := tru_fine HK.out HPC.out plan HM.out hlt (HFN.out h1)
                  have hset := setF_in (poss_set HK.out (tru_poss HK.out HPC.out))
                  have HC := Lib.hid fun u : KeptW wr => Calls.in_kept u (wrong_no (HIF.out.up (HBQ.out.trans (u.h.mono HBQ.out.size))) HK.out R5 R8 d5 d8 ((List.range X.np).map (X.trT xs t)) (lvL (setF (X.truL xs)) plan X.np t) (by simp) (by unfold lvL; simp) (RowAt.up (k := 3) (R := truR) Q5.out (HBQ.out.trans (u.h.mono HBQ.out.size))) (RowAt.up (k := 1) (R := intR) Q8.out (HBQ.out.trans (u.h.mono HBQ.out.size)))
                    (fun x hx => by
                      unfold lvL at hx
                      obtain ⟨i, _, rfl⟩ := List.mem_map.1 hx
                      have q1 := hdI_in hset plan t i
                      have q2 := hset t i
                      unfold lvI
                      omega) w1' w2')
                  subst h1
                  clear w1' w2' hset
                  go_wp2_with fail
                  clear f0
                  refine rk_region (by kernel_rfl) (by kernel_rfl) ?_
                  repeat (go_big_quiet_step (first | (with_reducible exact HC.out _) | fail))
                  refine wpQuiet_nil ?_
                  rintro _ ⟨u, rfl⟩
                  have HBV := Lib.hid (HBQ.out.trans (u.h.mono HBQ.out.size))
                  clear r5 r8 S0 S1 S2 S3 S4 S5 gf HC
                  go_wp2_with fail
                  go_roundw
                  case rel => exact ⟨t + 1, by omega, by go_num, HBV.out⟩
                  case measure => simp [intOf]; omega
                · have hp1 : (p1 == 1) = false := beq_eq_false_iff_ne.2 h1
                  clear h1
                  go_wp2_with fail
                  clear f0
                  refine rk_region (by kernel_rfl) (by kernel_rfl) ?_
                  repeat (go_big_quiet_step (fail))
                  refine wpQuiet_nil ?_
                  rintro _ ⟨u, rfl⟩
                  have HBV := Lib.hid (HBQ.out.trans (u.h.mono HBQ.out.size))
                  clear r5 r8 S0 S1 S2 S3 S4 S5 gf
                  go_wp2_with fail
                  go_roundw
                  case rel => exact ⟨t + 1, by omega, by go_num, HBV.out⟩
                  case measure => simp [intOf]; omega
          · have hte : t = X.n := by omega
            have ht1 : ¬ (t : Int) < (X.n : Int) := by omega
            have HBX := Lib.hid (HBF.out.trans (HBR.out.mono HBF.out.size))
            clear hbr
            go_wp2_with fail
            refine (HKN.out _ HBX.out).mono ?_
            rintro e wy ⟨rfl, hb⟩
            have HBY := Lib.hid (HBX.out.trans (hb.mono HBX.out.size)); clear hb
            go_wp2_with fail
            go_ret
            exact ⟨rfl, HBY.out⟩
    · have hI : I = 2 ∨ I = 3 := by omega
      have HBX := HB3
      clear hv h0
      rcases hI with rfl | rfl
      all_goals
        go_wp2_with fail
        refine (HKN.out _ HBX.out).mono ?_
        rintro e wy ⟨rfl, hb⟩
        have HBY := Lib.hid (HBX.out.trans (hb.mono HBX.out.size)); clear hb
        go_wp2_with fail
        go_ret
        exact ⟨rfl, HBY.out⟩
end Go.Proofs.YtdlaphlpimlgdaaGreatDoor
