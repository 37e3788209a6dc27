/- PileLevels, its function: it returns true for all arguments. -/
import Derived.Test.YtdlaphlpimlgdaaGreatDoorCG
namespace Go.Proofs.YtdlaphlpimlgdaaGreatDoor
open Go.RowKit

theorem short_X {X : Ctx} {w : World} (h : X.In w) : Calls Tryz.prog 18 #[X.sv, X.tv] w fun e w' => e = .returned (.bool (shortB X.np X.nq X.nr X.ts)) ∧ Below w.heap.size w w' :=
  short_any X.AP X.AQ X.AR X.A X.np X.cp X.nq X.cq X.nr X.cr X.n X.c X.may X.sink X.tilt X.ts w h.p2 h.q2 h.r2 h.hl h.n2 h.T
theorem planned_X {X : Ctx} {w : World} (h : X.In w) (A2 : Option Addr) (m c2 : Nat) (plan : List Int) (hm : plan.length = m) (hm2 : m ≤ maxLen) (hL : IntsAt w w.heap.size A2 plan) :
    Calls Tryz.prog 28 #[X.sv, X.tv, .slice A2 m c2] w fun e w' => e = .returned (.int .i64 (planI X.sit X.ts plan)) ∧ Below w.heap.size w w' :=
  planned_any X.AP X.AQ X.AR X.A A2 X.np X.cp X.nq X.cq X.nr X.cr X.n X.c m c2 X.ps X.qs X.rs X.may X.sink X.tilt X.ts plan w h.hp h.p2 h.P h.hq h.q2 h.Q h.hr h.r2 h.R h.hl h.n2 h.T hm hm2 hL
theorem planI_v (S : Sit) (ts : List (List Sp)) (plan : List Int) : planI S ts plan = 0 ∨ planI S ts plan = 2 ∨ planI S ts plan = 3 := by
  unfold planI
  split
  · exact .inr (.inr rfl)
  · rename_i h
    split
    · split
      · exact .inl rfl
      · exact .inr (.inl rfl)
    · have := thawsI_or (s := S) (ts := ts) (fun h' => h (.inl h'))
      omega
set_option maxRecDepth 100000 in
set_option maxHeartbeats 4000000 in
theorem levels_law {X : Ctx} {w : World} (h : X.In w) (ht : Tab w) (A2 : Option Addr) (m c2 : Nat) (plan : List Int) (hm : plan.length = m) (hm2 : m ≤ maxLen) (hL : IntsAt w w.heap.size A2 plan) :
    Calls Tryz.prog 4 #[X.sv, X.tv, .slice A2 m c2] w fun e w' => e = .returned (.bool true) ∧ Below w.heap.size w w' := by
  obtain ⟨z0, hb0⟩ := site_new X w
  have HM := Lib.hid hm; have HM2 := Lib.hid hm2; have HT := Lib.hid ht
  have m63 : (m : Int) ≤ 9223372036854775807 := by unfold maxLen at hm2; omega
  obtain ⟨w1, hw1⟩ : ∃ z, w.alloc (.cells X.cells 26) = z := ⟨_, rfl⟩
  rw [hw1] at z0 hb0
  have HI := Lib.hid (h.up hb0); have HB := Lib.hid hb0; have HL := Lib.hid (RowAt.up (k := 1) (R := intR) hL hb0)
  have Z0 := Lib.hid z0
  obtain ⟨s0, s1, s2, s3, s4, s5⟩ := site_box z0
  clear h ht z0 hb0 hm hm2 hL
  have HSH := Lib.hid (short_X HI.out)
  have HKN : Hid (∀ u, Below w.heap.size w u → Calls Tryz.prog 19 #[] u fun e w' => e = .returned (.bool true) ∧ Below u.heap.size u w') := Lib.hid fun u hu => known_any u (HT.out.next hu)
  obtain ⟨S, hS⟩ : ∃ z, shortB X.np X.nq X.nr X.ts = z := ⟨_, rfl⟩
  rw [hS] at HSH
  clear hS
  cases S with
  | false =>
    go_enter Tryz.func4, Tryz.ntmps4
    go_wp2_with fail
    refine HSH.out.mono ?_
    rintro e w2 ⟨rfl, hb⟩
    have HB2 := Lib.hid (HB.out.trans (hb.mono HB.out.size)); clear hb
    go_wp2_with fail
    refine (HKN.out _ HB2.out).mono ?_
    rintro e w3 ⟨rfl, hb⟩
    have HB3 := Lib.hid (HB2.out.trans (hb.mono HB2.out.size)); clear hb
    go_wp2_with fail
    go_ret
    exact ⟨rfl, HB3.out⟩
  | true =>
    by_cases h15 : (15 : Int) < (m : Int)
    · go_enter Tryz.func4, Tryz.ntmps4
      go_wp2_with fail
      refine HSH.out.mono ?_
      rintro e w2 ⟨rfl, hb⟩
      have HB2 := Lib.hid (HB.out.trans (hb.mono HB.out.size)); clear hb
      go_wp2_with fail
      refine (HKN.out _ HB2.out).mono ?_
      rintro e w3 ⟨rfl, hb⟩
      have HB3 := Lib.hid (HB2.out.trans (hb.mono HB2.out.size)); clear hb
      go_wp2_with fail
      go_ret
      exact ⟨rfl, HB3.out⟩
    · go_enter Tryz.func4, Tryz.ntmps4
      go_wp2_with fail
      refine HSH.out.mono ?_
      rintro e w2 ⟨rfl, hb⟩
      have HB2 := Lib.hid (HB.out.trans (hb.mono HB.out.size)); have HI2 := Lib.hid (HI.out.up hb); have HL2 := Lib.hid (RowAt.up (k := 1) (R := intR) HL.out hb)
      have z2 := (hb.block _ (heapsz Z0.out)).trans Z0.out
      have Z2 := Lib.hid z2
      clear hb s0 s1 s2 s3 s4 s5 HSH
      obtain ⟨s0, s1, s2, s3, s4, s5⟩ := site_box z2
      clear z2
      obtain ⟨I, hI⟩ : ∃ z, planI X.sit X.ts plan = z := ⟨_, rfl⟩
      have HPI := Lib.hid hI
      have hv := planI_v X.sit X.ts plan
      have hLE := Levels_any HI2.out A2 m c2 plan HM.out HM2.out HL2.out
      rw [hI] at hv hLE
      have HLE := Lib.hid hLE
      clear hI hLE
      go_wp2_with fail
      refine HLE.out.mono ?_
      rintro e w3 ⟨A3, n3, c3, rfl, g1, g2, hb⟩
      have HB3 := Lib.hid (HB2.out.trans (hb.mono HB2.out.size)); have HI3 := Lib.hid (HI2.out.up hb); have HL3 := Lib.hid (RowAt.up (k := 1) (R := intR) HL2.out hb)
      have z3 := (hb.block _ (heapsz Z2.out)).trans Z2.out
      have Z3 := Lib.hid z3
      have G1 := Lib.hid g1; have G2 := Lib.hid g2
      have hPL := planned_X (c2 := c2) HI3.out A2 m plan HM.out HM2.out HL3.out
      rw [HPI.out] at hPL
      have HPL := Lib.hid hPL
      clear hb s0 s1 s2 s3 s4 s5 HLE z3 g1 g2 hPL
      obtain ⟨s0, s1, s2, s3, s4, s5⟩ := site_box Z3.out
      by_cases h0 : I = 0
      · subst h0
        obtain ⟨rfl, hsp, _⟩ := G1.out rfl
        have HSP := Lib.hid hsp
        clear hsp G1 G2 hv
        go_wp2_with fail
        refine HPL.out.mono ?_
        rintro e w4 ⟨rfl, hb⟩
        have HB4 := Lib.hid (HB3.out.trans (hb.mono HB3.out.size)); have HI4 := Lib.hid (HI3.out.up hb); have HL4 := Lib.hid (RowAt.up (k := 1) (R := intR) HL3.out hb); have HSP4 := Lib.hid (HSP.out.up hb)
        have z4 := (hb.block _ (heapsz Z3.out)).trans Z3.out
        have HRL := Lib.hid (refLevels_any HI4.out A2 n3 c2 plan HM.out HL4.out HPI.out)
        clear hb s0 s1 s2 s3 s4 s5 HPL
        obtain ⟨s0, s1, s2, s3, s4, s5⟩ := site_box z4
        clear z4
        go_wp2_with fail
        refine HRL.out.mono ?_
        rintro e w5 ⟨A5, c5, rfl, hs5, _, hb⟩
        have HB5 := Lib.hid (HB4.out.trans (hb.mono HB4.out.size))
        have hlen : (spanL X.ps X.rs X.ts plan).length = n3 := by
          unfold spanL zipL lvT
          rw [List.length_zipWith, List.length_map, List.length_map, List.length_range, HM.out, Nat.min_self]
        have hss := sameSpans_any A3 A5 n3 n3 c3 c5 (spanL X.ps X.rs X.ts plan) (spanL X.ps X.rs X.ts plan) w5 hlen hlen HM2.out HM2.out (HSP4.out.up hb) hs5
        rw [decide_eq_true rfl] at hss
        have HSS := Lib.hid hss
        clear hb hs5 hlen hss HRL s0 s1 s2 s3 s4 s5
        go_wp2_with fail
        refine HSS.out.mono ?_
        rintro e w6 ⟨rfl, hb⟩
        have HB6 := Lib.hid (HB5.out.trans (hb.mono HB5.out.size)); clear hb
        go_wp2_with fail
        refine (HKN.out _ HB6.out).mono ?_
        rintro e w7 ⟨rfl, hb⟩
        have HB7 := Lib.hid (HB6.out.trans (hb.mono HB6.out.size)); clear hb
        go_wp2_with fail
        go_ret
        exact ⟨rfl, HB7.out⟩
      · obtain ⟨rfl, rfl, rfl⟩ := G2.out h0
        clear G1 G2
        have hI : I = 2 ∨ I = 3 := by omega
        clear hv h0
        rcases hI with rfl | rfl
        all_goals
          go_wp2_with fail
          refine HPL.out.mono ?_
          rintro e w4 ⟨rfl, hb⟩
          have HB4 := Lib.hid (HB3.out.trans (hb.mono HB3.out.size))
          clear hb HPL s0 s1 s2 s3 s4 s5
          go_wp2_with fail
          refine (HKN.out _ HB4.out).mono ?_
          rintro e w5 ⟨rfl, hb⟩
          have HB5 := Lib.hid (HB4.out.trans (hb.mono HB4.out.size)); clear hb
          go_wp2_with fail
          go_ret
          exact ⟨rfl, HB5.out⟩
end Go.Proofs.YtdlaphlpimlgdaaGreatDoor
