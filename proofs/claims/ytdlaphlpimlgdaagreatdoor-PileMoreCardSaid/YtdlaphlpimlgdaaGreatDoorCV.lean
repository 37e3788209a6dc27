/- The law of what each pile carries, and of what is lost. -/
import Derived.Test.YtdlaphlpimlgdaaGreatDoorCU
namespace Go.Proofs.YtdlaphlpimlgdaaGreatDoor
open Go.RowKit Go.Shelf

theorem thawsI_v (S : Sit) (ts : List (List Sp)) : thawsI S ts = 0 ∨ thawsI S ts = 2 ∨ thawsI S ts = 3 := by
  by_cases h : 10 < (ts.length : Int)
  · refine .inr (.inr ?_)
    unfold thawsI
    rw [if_pos h]
  · rcases thawsI_or h with h | h
    · exact .inl h
    · exact .inr (.inl h)
theorem asked_X {X : Ctx} {w : World} (h : X.In w) : Calls Tryz.prog 24 #[X.sv, X.tv] w fun e w' => e = .returned (.int .i64 (thawsI X.sit X.ts)) ∧ Below w.heap.size w w' :=
  asked_any X.AP X.AQ X.AR X.A X.np X.cp X.nq X.cq X.nr X.cr X.n X.c X.ps X.qs X.rs X.may X.sink X.tilt X.ts w h.hp h.p2 h.P h.hq h.q2 h.Q h.hr h.r2 h.R h.hl h.n2 h.T
theorem Check_X {X : Ctx} {w : World} (h : X.In w) : Calls Tryz.prog 20 #[X.sv] w fun e w' => e = .returned (.int .i64 (checkI X.sit)) ∧ Below w.heap.size w w' :=
  Check_any X.AP X.AQ X.AR X.np X.cp X.nq X.cq X.nr X.cr X.ps X.qs X.rs X.may X.sink X.tilt w h.hp h.p2 h.P h.hq h.q2 h.Q h.hr h.r2 h.R
theorem refSite_X {X : Ctx} {w : World} (h : X.In w) : Calls Tryz.prog 23 #[X.sv] w fun e w' => e = .returned (.bool (sitB X.sit)) ∧ Below w.heap.size w w' :=
  refSite_any X.AP X.AQ X.AR X.np X.cp X.nq X.cq X.nr X.cr X.ps X.qs X.rs X.may X.sink X.tilt w h.hp h.p2 h.P h.hq h.q2 h.Q h.hr h.r2 h.R
set_option maxRecDepth 100000 in
set_option maxHeartbeats 16000000 in
theorem checks_law {X : Ctx} {w : World} (h : X.In w) (ht : Tab w) :
    Calls Tryz.prog 3 #[X.sv, X.tv] w fun e w' => e = .returned (.bool true) ∧ Below w.heap.size w w' := by
  obtain ⟨z0, hb0⟩ := site_new X w
  have HT := Lib.hid ht
  obtain ⟨w1, hw1⟩ : ∃ z, w.alloc (.cells X.cells 26) = z := ⟨_, rfl⟩
  rw [hw1] at z0 hb0
  have HI := Lib.hid (h.up hb0); have HB := Lib.hid hb0
  have Z0 := Lib.hid z0
  obtain ⟨s0, s1, s2, s3, s4, s5⟩ := site_box z0
  have htv : X.tv = .slice X.A X.n X.c := rfl
  obtain ⟨AA, hAA⟩ : ∃ z, X.A = z := ⟨_, rfl⟩
  have HAA := Lib.hid hAA
  have HTV : Hid (X.tv = .slice AA X.n X.c) := Lib.hid (by rw [htv, hAA])
  rw [HTV.out]
  clear h ht z0 hb0 htv hAA
  have HSH := Lib.hid (short_X HI.out)
  rw [HTV.out] at HSH
  have HKN : Hid (∀ u, Below w.heap.size w u → Calls Tryz.prog 19 #[] u fun e w' => e = .returned (.bool true) ∧ Below u.heap.size u w') := Lib.hid fun u hu => known_any u (HT.out.next hu)
  obtain ⟨S, hS⟩ : ∃ z, shortB X.np X.nq X.nr X.ts = z := ⟨_, rfl⟩
  rw [hS] at HSH
  clear hS
  cases S with
  | false =>
    go_enter Tryz.func3, Tryz.ntmps3
    go_wp2_with fail
    refine HSH.out.mono ?_
    rintro e w2 ⟨rfl, hb⟩
    have HBX := Lib.hid (HB.out.trans (hb.mono HB.out.size)); clear hb
    go_wp2_with fail
    refine (HKN.out _ HBX.out).mono ?_
    rintro e wy ⟨rfl, hb⟩
    have HBY := Lib.hid (HBX.out.trans (hb.mono HBX.out.size)); clear hb
    go_wp2_with fail
    go_ret
    exact ⟨rfl, HBY.out⟩
  | true =>
    go_enter Tryz.func3, Tryz.ntmps3
    go_wp2_with fail
    refine HSH.out.mono ?_
    rintro e w2 ⟨rfl, hb⟩
    have HB2 := Lib.hid (HB.out.trans (hb.mono HB.out.size)); have HI2 := Lib.hid (HI.out.up hb)
    have Z2 := Lib.hid ((hb.block _ (heapsz Z0.out)).trans Z0.out)
    clear hb s0 s1 s2 s3 s4 s5 HSH
    obtain ⟨s0, s1, s2, s3, s4, s5⟩ := site_box Z2.out
    obtain ⟨B, hB⟩ : ∃ z, sitB X.sit = z := ⟨_, rfl⟩
    have HSB := Lib.hid hB
    obtain ⟨I, hI⟩ : ∃ z, thawsI X.sit X.ts = z := ⟨_, rfl⟩
    have HPI := Lib.hid hI
    have hv := thawsI_v X.sit X.ts
    rw [hI] at hv
    have hck := Check_X HI2.out
    obtain ⟨E, hE⟩ : ∃ z, checkI X.sit = z := ⟨_, rfl⟩
    rw [hE] at hck
    have HCK := Lib.hid hck
    have HE : Hid (E = if B then 0 else 2) := Lib.hid (by rw [← hE]; unfold checkI; rw [hB])
    clear hB hI hck hE
    go_wp2_with fail
    refine HCK.out.mono ?_
    rintro e w3 ⟨rfl, hb⟩
    have HB3 := Lib.hid (HB2.out.trans (hb.mono HB2.out.size)); have HI3 := Lib.hid (HI2.out.up hb)
    have Z3 := Lib.hid ((hb.block _ (heapsz Z2.out)).trans Z2.out)
    have hca := Carries_any HI3.out
    rw [HPI.out, HTV.out] at hca
    unfold CarPost at hca
    have HCA := Lib.hid hca
    clear hb HCK hca s0 s1 s2 s3 s4 s5
    obtain ⟨s0, s1, s2, s3, s4, s5⟩ := site_box Z3.out
    go_wp2_with fail
    refine HCA.out.mono ?_
    rintro e w4 ⟨A4, n4, c4, rfl, g1, g2, hb⟩
    have HB4 := Lib.hid (HB3.out.trans (hb.mono HB3.out.size)); have HI4 := Lib.hid (HI3.out.up hb)
    have Z4 := Lib.hid ((hb.block _ (heapsz Z3.out)).trans Z3.out)
    have GC1 := Lib.hid g1; have GC2 := Lib.hid g2
    have hlo := Lost_any HI4.out
    rw [HPI.out, HTV.out] at hlo
    unfold LosPost at hlo
    have HLO := Lib.hid hlo
    clear hb HCA hlo g1 g2 s0 s1 s2 s3 s4 s5
    obtain ⟨s0, s1, s2, s3, s4, s5⟩ := site_box Z4.out
    go_wp2_with fail
    refine HLO.out.mono ?_
    rintro e w5 ⟨A5, n5, c5, rfl, g1, g2, hb⟩
    have HB5 := Lib.hid (HB4.out.trans (hb.mono HB4.out.size)); have HI5 := Lib.hid (HI4.out.up hb)
    have Z5 := Lib.hid ((hb.block _ (heapsz Z4.out)).trans Z4.out)
    have GL1 := Lib.hid g1; have GL2 := Lib.hid g2
    have HK45 := Lib.hid hb
    have hrs := refSite_X HI5.out
    rw [HSB.out] at hrs
    have HRS := Lib.hid hrs
    clear hb HLO hrs g1 g2 s0 s1 s2 s3 s4 s5
    obtain ⟨s0, s1, s2, s3, s4, s5⟩ := site_box Z5.out
    go_wp2_with fail
    refine HRS.out.mono ?_
    rintro e w6 ⟨rfl, hb⟩
    have HB6 := Lib.hid (HB5.out.trans (hb.mono HB5.out.size)); have HI6 := Lib.hid (HI5.out.up hb)
    have Z6 := Lib.hid ((hb.block _ (heapsz Z5.out)).trans Z5.out)
    have HK56 := Lib.hid hb; have HK46 := Lib.hid (HK45.out.trans (hb.mono HK45.out.size))
    have has := asked_X HI6.out
    rw [HPI.out, HTV.out] at has
    have HAS := Lib.hid has
    clear hb HRS has s0 s1 s2 s3 s4 s5
    cases B with
    | false =>
      obtain rfl : E = 2 := HE.out
      obtain ⟨s0, s1, s2, s3, s4, s5⟩ := site_box Z6.out
      go_wp2_with fail
      refine HAS.out.mono ?_
      rintro e w7 ⟨rfl, hb⟩
      have HB7 := Lib.hid (HB6.out.trans (hb.mono HB6.out.size)); have HI7 := Lib.hid (HI6.out.up hb)
      have Z7 := Lib.hid ((hb.block _ (heapsz Z6.out)).trans Z6.out)
      have HK57 := Lib.hid (HK56.out.trans (hb.mono HK56.out.size)); have HK47 := Lib.hid (HK46.out.trans (hb.mono HK46.out.size))
      clear hb HAS s0 s1 s2 s3 s4 s5
      have h0 : I ≠ 0 := fun h0 => by
        have := (thawsI_0 (HPI.out.trans h0)).1
        rw [HSB.out] at this
        cases this
      have hI : I = 2 ∨ I = 3 := by omega
      obtain ⟨rfl, rfl, rfl⟩ := GC2.out h0
      obtain ⟨rfl, rfl, rfl⟩ := GL2.out h0
      have HBX := HB7
      clear GC1 GL1 GC2 GL2 hv h0
      rcases hI with rfl | rfl
      all_goals
        go_wp2_with fail
        refine (HKN.out _ HBX.out).mono ?_
        rintro e wy ⟨rfl, hb⟩
        have HBY := Lib.hid (HBX.out.trans (hb.mono HBX.out.size)); clear hb
        go_wp2_with fail
        go_ret
        exact ⟨rfl, HBY.out⟩
    | true =>
      obtain rfl : E = 0 := HE.out
      obtain ⟨s0, s1, s2, s3, s4, s5⟩ := site_box Z6.out
      go_wp2_with fail
      refine HAS.out.mono ?_
      rintro e w7 ⟨rfl, hb⟩
      have HB7 := Lib.hid (HB6.out.trans (hb.mono HB6.out.size)); have HI7 := Lib.hid (HI6.out.up hb)
      have Z7 := Lib.hid ((hb.block _ (heapsz Z6.out)).trans Z6.out)
      have HK57 := Lib.hid (HK56.out.trans (hb.mono HK56.out.size)); have HK47 := Lib.hid (HK46.out.trans (hb.mono HK46.out.size))
      clear hb HAS s0 s1 s2 s3 s4 s5
      by_cases h0 : I = 0
      · subst h0
        obtain ⟨rfl, hsp, _⟩ := GC1.out rfl
        obtain ⟨rfl, hli⟩ := GL1.out rfl
        have HSP := Lib.hid (hsp.up HK47.out); have HLI := Lib.hid (RowAt.up (k := 1) (R := intR) hli HK57.out)
        have HKO : Hid X.Ok := Lib.hid ⟨HI7.out.hp, HI7.out.hq, HI7.out.hr, HI7.out.hl, HPI.out⟩
        have np6 := HKO.out.np6; have n10 := HKO.out.n10
        have hni : ((X.n : Int) == (X.n : Int)) = true := beq_self_eq_true _
        have hnpi : ((X.np : Int) == (X.np : Int)) = true := beq_self_eq_true _
        have hg : Tryz.prog.eqGuardType Tryz.prog.depth 42 = false := by kernel_rfl
        have LA1 : Hid (X.leastL.length = X.n ∧ ∀ t, t < X.n → X.leastL[t]? = some ((List.range X.np).map (X.leastC t))) := Lib.hid ⟨by unfold Ctx.leastL gridL; simp, fun t ht => gridL_at _ ht⟩
        have LA2 : Hid (X.mostL.length = X.n ∧ ∀ t, t < X.n → X.mostL[t]? = some ((List.range X.np).map (X.mostC t))) := Lib.hid ⟨by unfold Ctx.mostL gridL; simp, fun t ht => gridL_at _ ht⟩
        obtain ⟨s0, s1, s2, s3, s4, s5⟩ := site_box Z7.out
        clear hsp hli GC1 GL1 GC2 GL2 hv
        go_wp2_with fail
        clear s0 s1 s2 s3 s4 s5
        go_loopw [12] (fun i wr => ∃ k : Nat, k ≤ X.np ∧ i = .int .i64 k ∧ Below w7.heap.size w7 wr) (fun i _ => X.np - (intOf i).toNat)
        case atStart => exact ⟨0, Nat.zero_le _, rfl, Below.refl _ _⟩
        case round =>
          obtain ⟨k, hk, rfl, hbr⟩ := hrel
          have HBR := Lib.hid hbr
          obtain ⟨s0, s1, s2, s3, s4, s5⟩ := site_box ((hbr.block _ (heapsz Z7.out)).trans Z7.out)
          clear hbr
          by_cases hkt : k < X.np
          · have hk0 : (0 : Int) ≤ (k : Int) := by omega
            have hk1 : (k : Int) < (X.np : Int) := by omega
            obtain ⟨V, hV⟩ : ∃ z, X.lostI k = z := ⟨_, rfl⟩
            have hlk : X.lostL[k]? = some V := by rw [← hV]; exact rowL_at _ hkt
            obtain ⟨bl, ol, rfl, hbl, hcl⟩ := HLI.out (by intro h; rw [h] at hlk; simp at hlk)
            have d0 := hcl k V hlk 0 (.int .i64 V) rfl
            simp only [Nat.mul_one, Nat.add_zero] at d0
            have D0 := fun u : KeptW wr => ((bcell (HBR.out.trans (u.h.mono HBR.out.size))).1 _ _ hbl).trans d0
            have ss := fun u : KeptW wr => site_box (((HBR.out.trans (u.h.mono HBR.out.size)).block _ (heapsz Z7.out)).trans Z7.out)
            have S0 := fun u => (ss u).1; have S1 := fun u => (ss u).2.1; have S2 := fun u => (ss u).2.2.1; have S3 := fun u => (ss u).2.2.2.1; have S4 := fun u => (ss u).2.2.2.2.1; have S5 := fun u => (ss u).2.2.2.2.2
            have HC := Lib.hid fun u : KeptW wr => Calls.in_kept u (by
              have h1 := refLost_any (HI7.out.up (HBR.out.trans (u.h.mono HBR.out.size))) HKO.out k hkt
              rw [hV, HTV.out] at h1
              exact h1)
            have hvv : (V == V) = true := beq_self_eq_true _
            clear hV hlk hbl hcl d0 ss
            go_wp2_with fail
            refine rk_region (by kernel_rfl) (by kernel_rfl) ?_
            repeat (go_big_quiet_step (first | (with_reducible exact HC.out _) | fail))
            refine wpQuiet_nil ?_
            rintro _ ⟨u, rfl⟩
            have HBU := Lib.hid (HBR.out.trans (u.h.mono HBR.out.size))
            clear S0 S1 S2 S3 S4 S5 D0 HC s0 s1 s2 s3 s4 s5
            go_wp2_with fail
            obtain ⟨wo, hwo⟩ : ∃ z, u.w = z := ⟨_, rfl⟩
            rw [hwo] at HBU ⊢
            clear hwo u
            go_loopw [13] (fun i wq => ∃ t : Nat, t ≤ X.n ∧ i = .int .i64 t ∧ Below w7.heap.size w7 wq) (fun i _ => X.n - (intOf i).toNat)
            case atStart => exact ⟨0, Nat.zero_le _, rfl, HBU.out⟩
            case round =>
              obtain ⟨t, ht, rfl, hbq⟩ := hrel
              have HBQ := Lib.hid hbq
              clear hbq
              by_cases hlt : t < X.n
              · have ht0 : (0 : Int) ≤ (t : Int) := by omega
                have ht1 : (t : Int) < (X.n : Int) := by omega
                obtain ⟨bp, op, eAP, hbp, y0, y1, y2, y3, y4, y5, y6⟩ := HI7.out.cells_p HKO.out hkt
                obtain ⟨bt, ot, b2, o2, c2, eA, hbt, hb2, t0, t1, t2⟩ := HI7.out.cells_t HKO.out hlt hkt
                obtain rfl : AA = some ⟨bt, ot, none⟩ := HAA.out.symm.trans eA
                have hrz : (zipL X.leastL X.mostL)[t]? = some (((List.range X.np).map (X.leastC t)).zip ((List.range X.np).map (X.mostC t))) := by unfold zipL; rw [List.getElem?_zipWith, LA1.out.2 t hlt, LA2.out.2 t hlt]
                obtain ⟨bs, os, S', n1, c1, rfl, hbs, hn1, d1, p1, _⟩ := sps_row HSP.out hrz
                have l3 : n1 = X.np := by rw [hn1, List.length_zip, List.length_map, List.length_map, List.length_range, Nat.min_self]
                rw [l3] at d1
                have hel : (((List.range X.np).map (X.leastC t)).zip ((List.range X.np).map (X.mostC t)))[k]? = some (X.leastC t k, X.mostC t k) := by rw [List.zip_eq_zipWith, List.getElem?_zipWith, rowL_at _ hkt, rowL_at _ hkt]
                obtain ⟨b3, o3, rfl, hb3, q0, q1⟩ := prs_el p1 hel
                have hpB := (HKO.out.at_pile hkt).2
                have hyB : 0 ≤ (X.th t k).1 ∧ (X.th t k).1 ≤ (X.th t k).2 ∧ (X.th t k).2 ≤ 50000 := by
                  obtain ⟨_, _, _, _, h5⟩ := HKO.out.at_th hlt hkt
                  exact withinB_iff.1 h5
                have hku := fun u : KeptW wr => (bcell (HBQ.out.trans (u.h.mono HBQ.out.size))).1
                have S0 := fun u : KeptW wr => (site_box (((HBQ.out.trans (u.h.mono HBQ.out.size)).block _ (heapsz Z7.out)).trans Z7.out)).1
                have Y0 := fun u => (hku u _ _ hbp).trans y0; have Y1 := fun u => (hku u _ _ hbp).trans y1; have Y2 := fun u => (hku u _ _ hbp).trans y2; have Y3 := fun u => (hku u _ _ hbp).trans y3; have Y4 := fun u => (hku u _ _ hbp).trans y4; have Y5 := fun u => (hku u _ _ hbp).trans y5; have Y6 := fun u => (hku u _ _ hbp).trans y6
                have T0 := fun u => (hku u _ _ hbt).trans t0; have T1 := fun u => (hku u _ _ hb2).trans t1; have T2 := fun u => (hku u _ _ hb2).trans t2
                have D1 := fun u => (hku u _ _ hbs).trans d1; have Q0 := fun u => (hku u _ _ hb3).trans q0; have Q1 := fun u => (hku u _ _ hb3).trans q1
                have HC1 := Lib.hid fun u : KeptW wr => Calls.in_kept u (refCarries_any (X.pile k) (X.th t k).2 u.w hpB (by omega) (by omega))
                have HC2 := Lib.hid fun u : KeptW wr => Calls.in_kept u (refCarries_any (X.pile k) (X.th t k).1 u.w hpB (by omega) (by omega))
                have v1 : carI (X.pile k) (X.th t k).2 = X.leastC t k := rfl
                have v2 : carI (X.pile k) (X.th t k).1 = X.mostC t k := rfl
                simp only [eAP] at S0
                simp only [v1] at HC1
                simp only [v2] at HC2
                obtain ⟨P, hP⟩ : ∃ z, X.pile k = z := ⟨_, rfl⟩
                obtain ⟨Yy, hY⟩ : ∃ z, X.th t k = z := ⟨_, rfl⟩
                obtain ⟨x, hx⟩ : ∃ z, X.leastC t k = z := ⟨_, rfl⟩
                obtain ⟨y, hy⟩ : ∃ z, X.mostC t k = z := ⟨_, rfl⟩
                simp only [hP, hY, hx, hy] at HC1 HC2 Y0 Y1 Y2 Y3 Y4 Y5 Y6 T1 T2 Q0 Q1
                unfold pilV at HC1 HC2
                have q42' : ∀ W : World, (Op.equalIn 10000 42 (.agg #[.int .i64 x, .int .i64 y]) (.agg #[.int .i64 x, .int .i64 y])).run Tryz.prog W = .ok true W := fun W => by rw [eq42]; simp
                clear y0 y1 y2 y3 y4 y5 y6 t0 t1 t2 hbp hbt hb2 hpB hyB hku eAP eA hP hY hx hy v1 v2 hrz hel hn1 l3 d1 p1 q0 q1 hbs hb3
                go_wp2_with fail
                refine rk_region (by kernel_rfl) (by kernel_rfl) ?_
                repeat (go_big_quiet_step (first | (with_reducible exact HC1.out _) | (with_reducible exact HC2.out _) | fail))
                refine wpQuiet_nil ?_
                rintro _ ⟨u, rfl⟩
                have HBV := Lib.hid (HBQ.out.trans (u.h.mono HBQ.out.size))
                clear S0 Y0 Y1 Y2 Y3 Y4 Y5 Y6 T0 T1 T2 D1 Q0 Q1 HC1 HC2
                go_wp2_with fail
                go_roundw
                case rel => exact ⟨t + 1, by omega, by go_num, HBV.out⟩
                case measure => simp [intOf]; omega
              · have hte : t = X.n := by omega
                have ht1 : ¬ (t : Int) < (X.n : Int) := by omega
                go_wp2_with fail
                go_roundw
                case rel => exact ⟨k + 1, by omega, by go_num, HBQ.out⟩
                case measure => simp [intOf]; omega
          · have hke : k = X.np := by omega
            have hk1 : ¬ (k : Int) < (X.np : Int) := by omega
            have HBX := Lib.hid (HB7.out.trans (HBR.out.mono HB7.out.size))
            go_wp2_with fail
            refine (HKN.out _ HBX.out).mono ?_
            rintro e wy ⟨rfl, hb⟩
            have HBY := Lib.hid (HBX.out.trans (hb.mono HBX.out.size)); clear hb
            go_wp2_with fail
            go_ret
            exact ⟨rfl, HBY.out⟩
      · have hI : I = 2 ∨ I = 3 := by omega
        obtain ⟨rfl, rfl, rfl⟩ := GC2.out h0
        obtain ⟨rfl, rfl, rfl⟩ := GL2.out h0
        have HBX := HB7
        clear GC1 GL1 GC2 GL2 hv h0
        rcases hI with rfl | rfl
        all_goals
          go_wp2_with fail
          refine (HKN.out _ HBX.out).mono ?_
          rintro e wy ⟨rfl, hb⟩
          have HBY := Lib.hid (HBX.out.trans (hb.mono HBX.out.size)); clear hb
          go_wp2_with fail
          go_ret
          exact ⟨rfl, HBY.out⟩
end Go.Proofs.YtdlaphlpimlgdaaGreatDoor
