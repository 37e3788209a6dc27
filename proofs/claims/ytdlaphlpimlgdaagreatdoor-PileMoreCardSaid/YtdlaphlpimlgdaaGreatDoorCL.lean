/- PileFaults, its function: it returns true for all arguments. -/
import Derived.Test.YtdlaphlpimlgdaaGreatDoorCK
namespace Go.Proofs.YtdlaphlpimlgdaaGreatDoor
open Go.RowKit

set_option maxRecDepth 100000 in
set_option maxHeartbeats 4000000 in
theorem faults_law {X : Ctx} {w : World} (h : X.In w) (ht : Tab w) (A2 : Option Addr) (m c2 : Nat) (plan : List Int) (hm : plan.length = m) (hm2 : m ≤ maxLen) (hL : IntsAt w w.heap.size A2 plan) :
    Calls Tryz.prog 8 #[X.sv, X.tv, .slice A2 m c2] w fun e w' => e = .returned (.bool true) ∧ Below w.heap.size w w' := by
  obtain ⟨z0, hb0⟩ := site_new X w
  have HM := Lib.hid hm; have HM2 := Lib.hid hm2; have HT := Lib.hid ht
  have m63 : (m : Int) ≤ 9223372036854775807 := by unfold maxLen at hm2; omega
  obtain ⟨w1, hw1⟩ : ∃ z, w.alloc (.cells X.cells 26) = z := ⟨_, rfl⟩
  rw [hw1] at z0 hb0
  have HI := Lib.hid (h.up hb0); have HB := Lib.hid hb0; have HL := Lib.hid (RowAt.up (k := 1) (R := intR) hL hb0)
  have Z0 := Lib.hid z0
  obtain ⟨s0, s1, s2, s3, s4, s5⟩ := site_box z0
  clear h ht z0 hb0 hm hm2 hL
  have HSH := Lib.hid (short_X HI.out)
  have HKN : Hid (∀ u, Below w.heap.size w u → Calls Tryz.prog 19 #[] u fun e w' => e = .returned (.bool true) ∧ Below u.heap.size u w') := Lib.hid fun u hu => known_any u (HT.out.next hu)
  obtain ⟨S, hS⟩ : ∃ z, shortB X.np X.nq X.nr X.ts = z := ⟨_, rfl⟩
  rw [hS] at HSH
  clear hS
  cases S with
  | false =>
    go_enter Tryz.func8, Tryz.ntmps8
    go_wp2_with fail
    refine HSH.out.mono ?_
    rintro e w2 ⟨rfl, hb⟩
    have HB2 := Lib.hid (HB.out.trans (hb.mono HB.out.size)); clear hb
    go_wp2_with fail
    refine (HKN.out _ HB2.out).mono ?_
    rintro e w3 ⟨rfl, hb⟩
    have HB3 := Lib.hid (HB2.out.trans (hb.mono HB2.out.size)); clear hb
    go_wp2_with fail
    go_ret
    exact ⟨rfl, HB3.out⟩
  | true =>
    by_cases h15 : (15 : Int) < (m : Int)
    · go_enter Tryz.func8, Tryz.ntmps8
      go_wp2_with fail
      refine HSH.out.mono ?_
      rintro e w2 ⟨rfl, hb⟩
      have HB2 := Lib.hid (HB.out.trans (hb.mono HB.out.size)); clear hb
      go_wp2_with fail
      refine (HKN.out _ HB2.out).mono ?_
      rintro e w3 ⟨rfl, hb⟩
      have HB3 := Lib.hid (HB2.out.trans (hb.mono HB2.out.size)); clear hb
      go_wp2_with fail
      go_ret
      exact ⟨rfl, HB3.out⟩
    · go_enter Tryz.func8, Tryz.ntmps8
      go_wp2_with fail
      refine HSH.out.mono ?_
      rintro e w2 ⟨rfl, hb⟩
      have HB2 := Lib.hid (HB.out.trans (hb.mono HB.out.size)); have HI2 := Lib.hid (HI.out.up hb); have HL2 := Lib.hid (RowAt.up (k := 1) (R := intR) HL.out hb)
      have z2 := (hb.block _ (heapsz Z0.out)).trans Z0.out
      have Z2 := Lib.hid z2
      clear hb s0 s1 s2 s3 s4 s5 HSH
      obtain ⟨s0, s1, s2, s3, s4, s5⟩ := site_box z2
      clear z2
      obtain ⟨I, hI⟩ : ∃ z, planI X.sit X.ts plan = z := ⟨_, rfl⟩
      have HPI := Lib.hid hI
      have hv := planI_v X.sit X.ts plan
      have hLE := Fault_any HI2.out A2 m c2 plan HM.out HM2.out HL2.out
      rw [hI] at hv hLE
      unfold FauPost at hLE
      have HLE := Lib.hid hLE
      clear hI hLE
      by_cases h0 : I = 0
      · subst h0
        have HRF := Lib.hid fun (u : World) (hu : X.In u) (hl : IntsAt u u.heap.size A2 plan) => refFault_any hu A2 m c2 plan HM.out hl HPI.out
        obtain ⟨⟨p0, p1, p2⟩, hp⟩ : ∃ z, fauI (fauF X (spanL X.ps X.rs X.ts plan)) = z := ⟨_, rfl⟩
        simp only [hp, fauV, if_pos] at HLE HRF
        clear hp hv
        go_wp2_with fail
        refine HLE.out.mono ?_
        rintro e w3 ⟨rfl, hb⟩
        have HB3 := Lib.hid (HB2.out.trans (hb.mono HB2.out.size)); have HI3 := Lib.hid (HI2.out.up hb); have HL3 := Lib.hid (RowAt.up (k := 1) (R := intR) HL2.out hb)
        have Z3 := Lib.hid ((hb.block _ (heapsz Z2.out)).trans Z2.out)
        clear hb s0 s1 s2 s3 s4 s5 HLE
        have hbz := (Below.refl w3.heap.size w3).alloc (Nat.le_refl _) (.cells #[.int .i64 p0, .int .i64 p1, .int .i64 p2] 64)
        have zf := heap_alloc_new w3 (.cells #[.int .i64 p0, .int .i64 p1, .int .i64 p2] 64)
        have z4 := (hbz.block _ (heapsz Z3.out)).trans Z3.out
        have hPL := planned_X (c2 := c2) (HI3.out.up hbz) A2 m plan HM.out HM2.out (RowAt.up (k := 1) (R := intR) HL3.out hbz)
        rw [HPI.out] at hPL
        have HPL := Lib.hid hPL
        obtain ⟨s0, s1, s2, s3, s4, s5⟩ := site_box z4
        go_wp2_with fail
        obtain ⟨wf, hwf⟩ : ∃ z, w3.alloc (.cells #[.int .i64 p0, .int .i64 p1, .int .i64 p2] 64) = z := ⟨_, rfl⟩
        rw [hwf] at hbz zf z4 HPL ⊢
        obtain ⟨bf, hbf⟩ : ∃ z, w3.heap.size = z := ⟨_, rfl⟩
        rw [hbf] at zf ⊢
        have HBF := Lib.hid (HB3.out.trans (hbz.mono HB3.out.size)); have HIF := Lib.hid (HI3.out.up hbz); have HLF := Lib.hid (RowAt.up (k := 1) (R := intR) HL3.out hbz)
        have ZF := Lib.hid zf; have Z4 := Lib.hid z4
        clear hbz zf z4 hPL hwf hbf s0 s1 s2 s3 s4 s5 Z3
        refine HPL.out.mono ?_
        rintro e w4 ⟨rfl, hb⟩
        have HB4 := Lib.hid (HBF.out.trans (hb.mono HBF.out.size)); have HI4 := Lib.hid (HIF.out.up hb); have HL4 := Lib.hid (RowAt.up (k := 1) (R := intR) HLF.out hb)
        have ZF4 := Lib.hid ((hb.block _ (heapsz ZF.out)).trans ZF.out); have Z5 := Lib.hid ((hb.block _ (heapsz Z4.out)).trans Z4.out)
        clear hb HPL
        go_wp2_with fail
        have fs := fun u : KeptW w4 => site_box ((u.h.block _ (heapsz Z5.out)).trans Z5.out)
        have g0 := fun u => (fs u).1; have g1 := fun u => (fs u).2.1; have g2 := fun u => (fs u).2.2.1; have g3 := fun u => (fs u).2.2.2.1; have g4 := fun u => (fs u).2.2.2.2.1; have g5 := fun u => (fs u).2.2.2.2.2
        have gf := fun u : KeptW w4 => box3_cells ((u.h.block _ (heapsz ZF4.out)).trans ZF4.out)
        have f0 := fun u => (gf u).1; have f1 := fun u => (gf u).2.1; have f2 := fun u => (gf u).2.2
        have HC1 := Lib.hid fun u : KeptW w4 => Calls.in_kept u (HRF.out u.w (HI4.out.up u.h) (RowAt.up (k := 1) (R := intR) HL4.out u.h))
        have HC2 := Lib.hid fun u : KeptW w4 => Calls.in_kept u (HKN.out u.w (HB4.out.trans (u.h.mono HB4.out.size)))
        have q64 : ∀ w, (Op.equalIn 10000 64 (.agg #[.int .i64 p0, .int .i64 p1, .int .i64 p2]) (.agg #[.int .i64 p0, .int .i64 p1, .int .i64 p2])).run Tryz.prog w = .ok true w := fun w => by rw [eq64]; simp
        have hg : Tryz.prog.eqGuardType Tryz.prog.depth 64 = false := by kernel_rfl
        clear fs gf
        refine rk_region (by kernel_rfl) (by kernel_rfl) ?_
        repeat (go_big_quiet_step (first | (with_reducible exact HC1.out _) | (with_reducible exact HC2.out _) | fail))
        refine wpQuiet_nil ?_
        rintro _ ⟨u, rfl⟩
        clear g0 g1 g2 g3 g4 g5 f0 f1 f2 HC1 HC2 q64 hg
        go_wp2_with fail
        go_ret
        exact ⟨rfl, HB4.out.trans (u.h.mono HB4.out.size)⟩
      · simp only [if_neg h0, fauV] at HLE
        have hI : I = 2 ∨ I = 3 := by omega
        have h00 := h0
        clear hv h0
        have q64 : ∀ w, (Op.equalIn 10000 64 (.agg #[.int .i64 0, .int .i64 0, .int .i64 0]) (.agg #[.int .i64 0, .int .i64 0, .int .i64 0])).run Tryz.prog w = .ok true w := fun w => by rw [eq64]; simp
        have hg : Tryz.prog.eqGuardType Tryz.prog.depth 64 = false := by kernel_rfl
        rcases hI with rfl | rfl
        all_goals
          go_wp2_with fail
          refine HLE.out.mono ?_
          rintro e w3 ⟨rfl, hb⟩
          have HB3 := Lib.hid (HB2.out.trans (hb.mono HB2.out.size)); have HI3 := Lib.hid (HI2.out.up hb); have HL3 := Lib.hid (RowAt.up (k := 1) (R := intR) HL2.out hb)
          have Z3 := Lib.hid ((hb.block _ (heapsz Z2.out)).trans Z2.out)
          clear hb s0 s1 s2 s3 s4 s5 HLE
          have hbz := (Below.refl w3.heap.size w3).alloc (Nat.le_refl _) (.cells #[.int .i64 0, .int .i64 0, .int .i64 0] 64)
          have zf := heap_alloc_new w3 (.cells #[.int .i64 0, .int .i64 0, .int .i64 0] 64)
          have z4 := (hbz.block _ (heapsz Z3.out)).trans Z3.out
          have hPL := planned_X (c2 := c2) (HI3.out.up hbz) A2 m plan HM.out HM2.out (RowAt.up (k := 1) (R := intR) HL3.out hbz)
          rw [HPI.out] at hPL
          have HPL := Lib.hid hPL
          obtain ⟨s0, s1, s2, s3, s4, s5⟩ := site_box z4
          go_wp2_with fail
          obtain ⟨wf, hwf⟩ : ∃ z, w3.alloc (.cells #[.int .i64 0, .int .i64 0, .int .i64 0] 64) = z := ⟨_, rfl⟩
          rw [hwf] at hbz zf z4 HPL ⊢
          obtain ⟨bf, hbf⟩ : ∃ z, w3.heap.size = z := ⟨_, rfl⟩
          rw [hbf] at zf ⊢
          have HBF := Lib.hid (HB3.out.trans (hbz.mono HB3.out.size))
          have ZF := Lib.hid zf
          clear hbz zf z4 hPL hwf hbf s0 s1 s2 s3 s4 s5 Z3
          refine HPL.out.mono ?_
          rintro e w4 ⟨rfl, hb⟩
          have HB4 := Lib.hid (HBF.out.trans (hb.mono HBF.out.size))
          obtain ⟨f0, f1, f2⟩ := box3_cells ((hb.block _ (heapsz ZF.out)).trans ZF.out)
          clear hb HPL
          go_wp2_with fail
          refine (HKN.out _ HB4.out).mono ?_
          rintro e w5 ⟨rfl, hb⟩
          have HB5 := Lib.hid (HB4.out.trans (hb.mono HB4.out.size)); clear hb
          go_wp2_with fail
          go_ret
          exact ⟨rfl, HB5.out⟩
end Go.Proofs.YtdlaphlpimlgdaaGreatDoor
