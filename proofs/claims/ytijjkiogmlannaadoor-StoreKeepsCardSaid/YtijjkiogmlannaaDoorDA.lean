/- Stores: the law of the best plan. -/
import Derived.Test.YtijjkiogmlannaaDoorCZ
namespace Go.Proofs.YtijjkiogmlannaaDoor
open Go.RowKit

/-- Whether something lacks, told with four numbers. -/
theorem flt_form (o : Option Flt) : ∃ L x1 x2 x3 x4, fltO o = .agg #[.bool L, .int .i64 x1, .int .i64 x2, .int .i64 x3, .int .i64 x4] ∧ (L = false ↔ o = none) := by
  cases o with
  | none => exact ⟨_, _, _, _, _, rfl, by simp⟩
  | some f => exact ⟨_, _, _, _, _, rfl, by simp⟩
theorem plan_nat {S : Sto} {o : Int} (h : planOk S o = true) : ∃ m : Nat, o = (m : Int) ∧ m < 2 ^ S.ships.length := by
  unfold planOk at h
  rw [inB_iff] at h
  exact ⟨o.toNat, by omega, by omega⟩
theorem plan_of_nat {S : Sto} {m : Nat} (h : m < 2 ^ S.ships.length) : planOk S (m : Int) = true := by
  unfold planOk
  rw [inB_iff]
  omega
theorem two_six {n : Nat} (h : n ≤ 6) : 2 ^ n ≤ 64 := by
  rcases (show n = 0 ∨ n = 1 ∨ n = 2 ∨ n = 3 ∨ n = 4 ∨ n = 5 ∨ n = 6 by omega) with rfl | rfl | rfl | rfl | rfl | rfl | rfl <;> decide
set_option maxRecDepth 100000 in
set_option maxHeartbeats 8000000 in
theorem rivals_law {X : SX} {w : World} (h : X.In w) (ht : Tab w) (o : Int) : Calls Tryd.prog 8 #[X.v, .int .i64 o] w fun e w' => e = .returned (.bool true) ∧ Below w.heap.size w w' := by
  rcases X with ⟨S, AS, ns, cs, AI, ni, ci, AW, nw, cw⟩
  obtain ⟨z0, hb0⟩ := sto_new ⟨S, AS, ns, cs, AI, ni, ci, AW, nw, cw⟩ w
  obtain ⟨⟨s0, s1, s2⟩, ⟨s3, s4, s5⟩, ⟨s6, s7, s8⟩, s9, s10, s11⟩ := sto_box z0
  simp only at s0 s1 s2 s3 s4 s5 s6 s7 s8 s9 s10 s11
  obtain ⟨w1, hw1⟩ : ∃ z, w.alloc (.cells (SX.cells ⟨S, AS, ns, cs, AI, ni, ci, AW, nw, cw⟩) 28) = z := ⟨_, rfl⟩
  rw [hw1] at z0 hb0
  have hls := h.hs
  simp only at hls
  have HB0 := Lib.hid hb0; have HB1 := Lib.hid (Below.refl w1.heap.size w1); have Z1 := Lib.hid z0; have HI := Lib.hid (h.up hb0); have HW1 := Lib.hid hw1; have HT := Lib.hid (ht.next hb0); have HLS := Lib.hid hls
  obtain ⟨A, hA⟩ : ∃ z, shortB ⟨S, AS, ns, cs, AI, ni, ci, AW, nw, cw⟩ = z := ⟨_, rfl⟩
  have KSH : Hid (∀ u, Below w1.heap.size w1 u → Calls Tryd.prog 12 #[.agg #[.int .i64 S.st.a, .int .i64 S.st.b, .int .i64 S.st.c, .int .i64 S.yd.a, .int .i64 S.yd.b, .int .i64 S.yd.c, .int .i64 S.rate, .int .i64 S.weeks, .int .i64 S.land, .slice AS ns cs, .slice AI ni ci, .slice AW nw cw]] u fun e w' => e = .returned (.bool A) ∧ Below u.heap.size u w') := Lib.hid fun u hu => by rw [← hA]; exact short_any (HI.out.up hu)
  have KKN : Hid (∀ u, Below w1.heap.size w1 u → Calls Tryd.prog 13 #[] u fun e w' => e = .returned (.bool true) ∧ Below u.heap.size u w') := Lib.hid fun u hu => known_any u (HT.out.next hu)
  clear h ht z0 hb0 hw1 hls hA
  cases A with
  | false =>
    go_enter Tryd.func8, Tryd.ntmps8
    go_wp2_with fail
    rw [HW1.out]
    refine (KSH.out _ HB1.out).mono ?_
    rintro e w2 ⟨rfl, hb⟩
    have HB2 := Lib.hid (HB1.out.trans (hb.mono HB1.out.size)); have Z2 := Lib.hid ((hb.block _ (heapsz Z1.out)).trans Z1.out)
    clear hb s0 s1 s2 s3 s4 s5 s6 s7 s8 s9 s10 s11 Z1
    obtain ⟨⟨s0, s1, s2⟩, ⟨s3, s4, s5⟩, ⟨s6, s7, s8⟩, s9, s10, s11⟩ := sto_box Z2.out
    simp only at s0 s1 s2 s3 s4 s5 s6 s7 s8 s9 s10 s11
    go_wp2_with fail
    refine (KKN.out _ HB2.out).mono ?_
    rintro e w3 ⟨rfl, hb⟩
    have HB3 := Lib.hid (HB2.out.trans (hb.mono HB2.out.size)); have Z3 := Lib.hid ((hb.block _ (heapsz Z2.out)).trans Z2.out)
    clear hb s0 s1 s2 s3 s4 s5 s6 s7 s8 s9 s10 s11 Z2
    obtain ⟨⟨s0, s1, s2⟩, ⟨s3, s4, s5⟩, ⟨s6, s7, s8⟩, s9, s10, s11⟩ := sto_box Z3.out
    simp only at s0 s1 s2 s3 s4 s5 s6 s7 s8 s9 s10 s11
    go_wp2_with fail
    go_ret
    exact ⟨rfl, HB0.out.trans (HB3.out.mono HB0.out.size)⟩
  | true =>
    obtain ⟨B, hB⟩ : ∃ z, stoB S = z := ⟨_, rfl⟩
    have KST : Hid (∀ u, Below w1.heap.size w1 u → Calls Tryd.prog 16 #[.agg #[.int .i64 S.st.a, .int .i64 S.st.b, .int .i64 S.st.c, .int .i64 S.yd.a, .int .i64 S.yd.b, .int .i64 S.yd.c, .int .i64 S.rate, .int .i64 S.weeks, .int .i64 S.land, .slice AS ns cs, .slice AI ni ci, .slice AW nw cw]] u fun e w' => e = .returned (.bool B) ∧ Below u.heap.size u w') := Lib.hid fun u hu => by rw [← hB]; exact rstore_any (HI.out.up hu)
    cases B with
    | false =>
      clear hB
      go_enter Tryd.func8, Tryd.ntmps8
      go_wp2_with fail
      rw [HW1.out]
      refine (KSH.out _ HB1.out).mono ?_
      rintro e w2 ⟨rfl, hb⟩
      have HB2 := Lib.hid (HB1.out.trans (hb.mono HB1.out.size)); have Z2 := Lib.hid ((hb.block _ (heapsz Z1.out)).trans Z1.out)
      clear hb s0 s1 s2 s3 s4 s5 s6 s7 s8 s9 s10 s11 Z1
      obtain ⟨⟨s0, s1, s2⟩, ⟨s3, s4, s5⟩, ⟨s6, s7, s8⟩, s9, s10, s11⟩ := sto_box Z2.out
      simp only at s0 s1 s2 s3 s4 s5 s6 s7 s8 s9 s10 s11
      go_wp2_with fail
      refine (KST.out _ HB2.out).mono ?_
      rintro e w3 ⟨rfl, hb⟩
      have HB3 := Lib.hid (HB2.out.trans (hb.mono HB2.out.size)); have Z3 := Lib.hid ((hb.block _ (heapsz Z2.out)).trans Z2.out)
      clear hb s0 s1 s2 s3 s4 s5 s6 s7 s8 s9 s10 s11 Z2
      obtain ⟨⟨s0, s1, s2⟩, ⟨s3, s4, s5⟩, ⟨s6, s7, s8⟩, s9, s10, s11⟩ := sto_box Z3.out
      simp only at s0 s1 s2 s3 s4 s5 s6 s7 s8 s9 s10 s11
      go_wp2_with fail
      refine (KKN.out _ HB3.out).mono ?_
      rintro e w4 ⟨rfl, hb⟩
      have HB4 := Lib.hid (HB3.out.trans (hb.mono HB3.out.size)); have Z4 := Lib.hid ((hb.block _ (heapsz Z3.out)).trans Z3.out)
      clear hb s0 s1 s2 s3 s4 s5 s6 s7 s8 s9 s10 s11 Z3
      obtain ⟨⟨s0, s1, s2⟩, ⟨s3, s4, s5⟩, ⟨s6, s7, s8⟩, s9, s10, s11⟩ := sto_box Z4.out
      simp only at s0 s1 s2 s3 s4 s5 s6 s7 s8 s9 s10 s11
      go_wp2_with fail
      go_ret
      exact ⟨rfl, HB0.out.trans (HB4.out.mono HB0.out.size)⟩
    | true =>
      have hok := stoB_iff.1 hB
      have n6 := hok.n6
      have HOK := Lib.hid hok
      obtain ⟨C, hC⟩ : ∃ z, planOk S o = z := ⟨_, rfl⟩
      have HLS2 := HLS.out
      have KPL : Hid (∀ u, Below w1.heap.size w1 u → Calls Tryd.prog 17 #[.agg #[.int .i64 S.st.a, .int .i64 S.st.b, .int .i64 S.st.c, .int .i64 S.yd.a, .int .i64 S.yd.b, .int .i64 S.yd.c, .int .i64 S.rate, .int .i64 S.weeks, .int .i64 S.land, .slice AS ns cs, .slice AI ni ci, .slice AW nw cw], .int .i64 o] u fun e w' => e = .returned (.bool C) ∧ Below u.heap.size u w') := Lib.hid fun u hu => by rw [← hC]; exact rplan_any (X := ⟨S, AS, ns, cs, AI, ni, ci, AW, nw, cw⟩) (by rw [← HLS2]; exact n6) HLS2 o
      cases C with
      | false =>
        clear hB hC hok n6 HLS2
        go_enter Tryd.func8, Tryd.ntmps8
        go_wp2_with fail
        rw [HW1.out]
        refine (KSH.out _ HB1.out).mono ?_
        rintro e w2 ⟨rfl, hb⟩
        have HB2 := Lib.hid (HB1.out.trans (hb.mono HB1.out.size)); have Z2 := Lib.hid ((hb.block _ (heapsz Z1.out)).trans Z1.out)
        clear hb s0 s1 s2 s3 s4 s5 s6 s7 s8 s9 s10 s11 Z1
        obtain ⟨⟨s0, s1, s2⟩, ⟨s3, s4, s5⟩, ⟨s6, s7, s8⟩, s9, s10, s11⟩ := sto_box Z2.out
        simp only at s0 s1 s2 s3 s4 s5 s6 s7 s8 s9 s10 s11
        go_wp2_with fail
        refine (KST.out _ HB2.out).mono ?_
        rintro e w3 ⟨rfl, hb⟩
        have HB3 := Lib.hid (HB2.out.trans (hb.mono HB2.out.size)); have Z3 := Lib.hid ((hb.block _ (heapsz Z2.out)).trans Z2.out)
        clear hb s0 s1 s2 s3 s4 s5 s6 s7 s8 s9 s10 s11 Z2
        obtain ⟨⟨s0, s1, s2⟩, ⟨s3, s4, s5⟩, ⟨s6, s7, s8⟩, s9, s10, s11⟩ := sto_box Z3.out
        simp only at s0 s1 s2 s3 s4 s5 s6 s7 s8 s9 s10 s11
        go_wp2_with fail
        refine (KPL.out _ HB3.out).mono ?_
        rintro e w4 ⟨rfl, hb⟩
        have HB4 := Lib.hid (HB3.out.trans (hb.mono HB3.out.size)); have Z4 := Lib.hid ((hb.block _ (heapsz Z3.out)).trans Z3.out)
        clear hb s0 s1 s2 s3 s4 s5 s6 s7 s8 s9 s10 s11 Z3
        obtain ⟨⟨s0, s1, s2⟩, ⟨s3, s4, s5⟩, ⟨s6, s7, s8⟩, s9, s10, s11⟩ := sto_box Z4.out
        simp only at s0 s1 s2 s3 s4 s5 s6 s7 s8 s9 s10 s11
        go_wp2_with fail
        refine (KKN.out _ HB4.out).mono ?_
        rintro e w5 ⟨rfl, hb⟩
        have HB5 := Lib.hid (HB4.out.trans (hb.mono HB4.out.size)); have Z5 := Lib.hid ((hb.block _ (heapsz Z4.out)).trans Z4.out)
        clear hb s0 s1 s2 s3 s4 s5 s6 s7 s8 s9 s10 s11 Z4
        obtain ⟨⟨s0, s1, s2⟩, ⟨s3, s4, s5⟩, ⟨s6, s7, s8⟩, s9, s10, s11⟩ := sto_box Z5.out
        simp only at s0 s1 s2 s3 s4 s5 s6 s7 s8 s9 s10 s11
        go_wp2_with fail
        go_ret
        exact ⟨rfl, HB0.out.trans (HB5.out.mono HB0.out.size)⟩
      | true =>
        obtain ⟨m, rfl, hm⟩ := plan_nat hC
        have h64 := two_six n6
        obtain ⟨L, x1, x2, x3, x4, hf, hL⟩ := flt_form (S.fault m)
        have hfa : fauV S (m : Int) = (.agg #[.bool L, .int .i64 x1, .int .i64 x2, .int .i64 x3, .int .i64 x4], 0) := by unfold fauV; rw [hB, hC]; exact congrArg (fun z => (z, (0 : Int))) hf
        have KFO : Hid (∀ u, Below w1.heap.size w1 u → Calls Tryd.prog 24 #[.agg #[.int .i64 S.st.a, .int .i64 S.st.b, .int .i64 S.st.c, .int .i64 S.yd.a, .int .i64 S.yd.b, .int .i64 S.yd.c, .int .i64 S.rate, .int .i64 S.weeks, .int .i64 S.land, .slice AS ns cs, .slice AI ni ci, .slice AW nw cw], .int .i64 (m : Int)] u fun e w' => e = .returned (.tuple #[.agg #[.bool L, .int .i64 x1, .int .i64 x2, .int .i64 x3, .int .i64 x4], .int .i64 0]) ∧ Below u.heap.size u w') := Lib.hid fun u hu => by have := Fault_any (HI.out.up hu) (m : Int); simp only at this; rw [hfa] at this; exact this
        cases hb : S.best with
        | none =>
          have hl : L = true := by
            cases L with
            | true => rfl
            | false => exact absurd (hL.1 rfl) (best_none hb hm)
          subst hl
          have hbi : bstI S = (0, 0, 5) := by unfold bstI; rw [hB, hb]; rfl
          have KBE : Hid (∀ u, Below w1.heap.size w1 u → Calls Tryd.prog 28 #[.agg #[.int .i64 S.st.a, .int .i64 S.st.b, .int .i64 S.st.c, .int .i64 S.yd.a, .int .i64 S.yd.b, .int .i64 S.yd.c, .int .i64 S.rate, .int .i64 S.weeks, .int .i64 S.land, .slice AS ns cs, .slice AI ni ci, .slice AW nw cw]] u fun e w' => e = .returned (.tuple #[.int .i64 0, .int .i64 0, .int .i64 5]) ∧ Below u.heap.size u w') := Lib.hid fun u hu => by have := Best_any (HI.out.up hu); simp only at this; rw [hbi] at this; exact this
          clear hB hC hok n6 HLS2 hm h64 hf hL hfa hb hbi
          go_enter Tryd.func8, Tryd.ntmps8
          go_wp2_with fail
          rw [HW1.out]
          refine (KSH.out _ HB1.out).mono ?_
          rintro e w2 ⟨rfl, hb⟩
          have HB2 := Lib.hid (HB1.out.trans (hb.mono HB1.out.size)); have Z2 := Lib.hid ((hb.block _ (heapsz Z1.out)).trans Z1.out)
          clear hb s0 s1 s2 s3 s4 s5 s6 s7 s8 s9 s10 s11 Z1
          obtain ⟨⟨s0, s1, s2⟩, ⟨s3, s4, s5⟩, ⟨s6, s7, s8⟩, s9, s10, s11⟩ := sto_box Z2.out
          simp only at s0 s1 s2 s3 s4 s5 s6 s7 s8 s9 s10 s11
          go_wp2_with fail
          refine (KST.out _ HB2.out).mono ?_
          rintro e w3 ⟨rfl, hb⟩
          have HB3 := Lib.hid (HB2.out.trans (hb.mono HB2.out.size)); have Z3 := Lib.hid ((hb.block _ (heapsz Z2.out)).trans Z2.out)
          clear hb s0 s1 s2 s3 s4 s5 s6 s7 s8 s9 s10 s11 Z2
          obtain ⟨⟨s0, s1, s2⟩, ⟨s3, s4, s5⟩, ⟨s6, s7, s8⟩, s9, s10, s11⟩ := sto_box Z3.out
          simp only at s0 s1 s2 s3 s4 s5 s6 s7 s8 s9 s10 s11
          go_wp2_with fail
          refine (KPL.out _ HB3.out).mono ?_
          rintro e w4 ⟨rfl, hb⟩
          have HB4 := Lib.hid (HB3.out.trans (hb.mono HB3.out.size)); have Z4 := Lib.hid ((hb.block _ (heapsz Z3.out)).trans Z3.out)
          clear hb s0 s1 s2 s3 s4 s5 s6 s7 s8 s9 s10 s11 Z3
          obtain ⟨⟨s0, s1, s2⟩, ⟨s3, s4, s5⟩, ⟨s6, s7, s8⟩, s9, s10, s11⟩ := sto_box Z4.out
          simp only at s0 s1 s2 s3 s4 s5 s6 s7 s8 s9 s10 s11
          go_wp2_with fail
          refine (KBE.out _ HB4.out).mono ?_
          rintro e w5 ⟨rfl, hb⟩
          have HB5 := Lib.hid (HB4.out.trans (hb.mono HB4.out.size)); have Z5 := Lib.hid ((hb.block _ (heapsz Z4.out)).trans Z4.out)
          clear hb s0 s1 s2 s3 s4 s5 s6 s7 s8 s9 s10 s11 Z4
          obtain ⟨⟨s0, s1, s2⟩, ⟨s3, s4, s5⟩, ⟨s6, s7, s8⟩, s9, s10, s11⟩ := sto_box Z5.out
          simp only at s0 s1 s2 s3 s4 s5 s6 s7 s8 s9 s10 s11
          go_wp2_with fail
          refine (KFO.out _ HB5.out).mono ?_
          rintro e w6 ⟨rfl, hb⟩
          have HB6 := Lib.hid (HB5.out.trans (hb.mono HB5.out.size)); have Z6 := Lib.hid ((hb.block _ (heapsz Z5.out)).trans Z5.out)
          clear hb s0 s1 s2 s3 s4 s5 s6 s7 s8 s9 s10 s11 Z5
          obtain ⟨⟨s0, s1, s2⟩, ⟨s3, s4, s5⟩, ⟨s6, s7, s8⟩, s9, s10, s11⟩ := sto_box Z6.out
          simp only at s0 s1 s2 s3 s4 s5 s6 s7 s8 s9 s10 s11
          clear s0 s1 s2 s3 s4 s5 s6 s7 s8 s9 s10 s11
          have al := (Below.refl w6.heap.size w6).alloc (Nat.le_refl _) (.cells #[.bool true, .int .i64 x1, .int .i64 x2, .int .i64 x3, .int .i64 x4] 48)
          have zf := heap_alloc_new w6 (.cells #[.bool true, .int .i64 x1, .int .i64 x2, .int .i64 x3, .int .i64 x4] 48)
          have ZU := Lib.hid ((al.block _ (heapsz Z6.out)).trans Z6.out)
          obtain ⟨⟨s0, s1, s2⟩, ⟨s3, s4, s5⟩, ⟨s6, s7, s8⟩, s9, s10, s11⟩ := sto_box ZU.out
          simp only at s0 s1 s2 s3 s4 s5 s6 s7 s8 s9 s10 s11
          have fa := cell_of_row _ _ 0 _ 48 (0, 0) zf
          simp only [List.getElem?_toArray, List.getElem?_cons_zero] at fa
          obtain ⟨w7, hw7⟩ : ∃ W, w6.alloc (.cells #[.bool true, .int .i64 x1, .int .i64 x2, .int .i64 x3, .int .i64 x4] 48) = W := ⟨_, rfl⟩
          have HW7 := Lib.hid hw7
          have HB7 := Lib.hid (HB6.out.trans (al.mono HB6.out.size)); have Z7 := ZU; have Fa_7 := Lib.hid zf
          rw [hw7] at HB7 Z7 Fa_7
          clear al zf ZU hw7 Z6
          go_wp2_with fail
          rw [HW7.out]
          refine (KKN.out _ HB7.out).mono ?_
          rintro e w8 ⟨rfl, hb⟩
          have HB8 := Lib.hid (HB7.out.trans (hb.mono HB7.out.size)); have Z8 := Lib.hid ((hb.block _ (heapsz Z7.out)).trans Z7.out)
          have Fa_8 := Lib.hid ((hb.block _ (heapsz Fa_7.out)).trans Fa_7.out)
          clear hb s0 s1 s2 s3 s4 s5 s6 s7 s8 s9 s10 s11 fa Z7 Fa_7
          obtain ⟨⟨s0, s1, s2⟩, ⟨s3, s4, s5⟩, ⟨s6, s7, s8⟩, s9, s10, s11⟩ := sto_box Z8.out
          simp only at s0 s1 s2 s3 s4 s5 s6 s7 s8 s9 s10 s11
          have fa := cell_of_row _ _ 0 _ 48 (0, 0) Fa_8.out
          simp at fa
          go_wp2_with fail
          go_ret
          exact ⟨rfl, HB0.out.trans (HB8.out.mono HB0.out.size)⟩
        | some b =>
          obtain ⟨⟨hb2, hfb⟩, hbest⟩ := best_some hb
          have hbi : bstI S = ((b : Int), S.cost b, 0) := by unfold bstI; rw [hB, hb]; rfl
          have hcb : planOk S (b : Int) = true := plan_of_nat hb2
          have hfv : fauV S (b : Int) = (.agg #[.bool false, .int .i64 0, .int .i64 0, .int .i64 0, .int .i64 0], 0) := by unfold fauV; rw [hB, hcb, show ((b : Int)).toNat = b from rfl, hfb]; rfl
          obtain ⟨c, hc⟩ : ∃ z, S.cost b = z := ⟨_, rfl⟩
          obtain ⟨d, hd⟩ : ∃ z, S.cost m = z := ⟨_, rfl⟩
          rw [hc] at hbi
          have KBE : Hid (∀ u, Below w1.heap.size w1 u → Calls Tryd.prog 28 #[.agg #[.int .i64 S.st.a, .int .i64 S.st.b, .int .i64 S.st.c, .int .i64 S.yd.a, .int .i64 S.yd.b, .int .i64 S.yd.c, .int .i64 S.rate, .int .i64 S.weeks, .int .i64 S.land, .slice AS ns cs, .slice AI ni ci, .slice AW nw cw]] u fun e w' => e = .returned (.tuple #[.int .i64 (b : Int), .int .i64 c, .int .i64 0]) ∧ Below u.heap.size u w') := Lib.hid fun u hu => by have := Best_any (HI.out.up hu); simp only at this; rw [hbi] at this; exact this
          have KPB : Hid (∀ u, Below w1.heap.size w1 u → Calls Tryd.prog 17 #[.agg #[.int .i64 S.st.a, .int .i64 S.st.b, .int .i64 S.st.c, .int .i64 S.yd.a, .int .i64 S.yd.b, .int .i64 S.yd.c, .int .i64 S.rate, .int .i64 S.weeks, .int .i64 S.land, .slice AS ns cs, .slice AI ni ci, .slice AW nw cw], .int .i64 (b : Int)] u fun e w' => e = .returned (.bool true) ∧ Below u.heap.size u w') := Lib.hid fun u hu => by rw [← hcb]; exact rplan_any (X := ⟨S, AS, ns, cs, AI, ni, ci, AW, nw, cw⟩) (by rw [← HLS2]; exact n6) HLS2 (b : Int)
          have KCB : Hid (∀ u, Below w1.heap.size w1 u → Calls Tryd.prog 30 #[.agg #[.int .i64 S.st.a, .int .i64 S.st.b, .int .i64 S.st.c, .int .i64 S.yd.a, .int .i64 S.yd.b, .int .i64 S.yd.c, .int .i64 S.rate, .int .i64 S.weeks, .int .i64 S.land, .slice AS ns cs, .slice AI ni ci, .slice AW nw cw], .int .i64 (b : Int)] u fun e w' => e = .returned (.int .i64 c) ∧ Below u.heap.size u w') := Lib.hid fun u hu => by rw [← hc]; exact rcost_any (HI.out.up hu) HOK.out b (by omega)
          have KFB : Hid (∀ u, Below w1.heap.size w1 u → Calls Tryd.prog 24 #[.agg #[.int .i64 S.st.a, .int .i64 S.st.b, .int .i64 S.st.c, .int .i64 S.yd.a, .int .i64 S.yd.b, .int .i64 S.yd.c, .int .i64 S.rate, .int .i64 S.weeks, .int .i64 S.land, .slice AS ns cs, .slice AI ni ci, .slice AW nw cw], .int .i64 (b : Int)] u fun e w' => e = .returned (.tuple #[.agg #[.bool false, .int .i64 0, .int .i64 0, .int .i64 0, .int .i64 0], .int .i64 0]) ∧ Below u.heap.size u w') := Lib.hid fun u hu => by have := Fault_any (HI.out.up hu) (b : Int); simp only at this; rw [hfv] at this; exact this
          have KCO : Hid (∀ u, Below w1.heap.size w1 u → Calls Tryd.prog 30 #[.agg #[.int .i64 S.st.a, .int .i64 S.st.b, .int .i64 S.st.c, .int .i64 S.yd.a, .int .i64 S.yd.b, .int .i64 S.yd.c, .int .i64 S.rate, .int .i64 S.weeks, .int .i64 S.land, .slice AS ns cs, .slice AI ni ci, .slice AW nw cw], .int .i64 (m : Int)] u fun e w' => e = .returned (.int .i64 d) ∧ Below u.heap.size u w') := Lib.hid fun u hu => by rw [← hd]; exact rcost_any (HI.out.up hu) HOK.out m (by omega)
          have hle : L = false → c ≤ d ∧ (d = c → b ≤ m) := fun e => by rw [← hc, ← hd]; exact hbest m hm (hL.1 e)
          clear hB hC hok n6 HLS2 hm h64 hf hL hfa hb hbi hb2 hfb hbest hcb hfv hc hd
          cases L with
          | true =>
            clear hle
            go_enter Tryd.func8, Tryd.ntmps8
            go_wp2_with fail
            rw [HW1.out]
            refine (KSH.out _ HB1.out).mono ?_
            rintro e w2 ⟨rfl, hb⟩
            have HB2 := Lib.hid (HB1.out.trans (hb.mono HB1.out.size)); have Z2 := Lib.hid ((hb.block _ (heapsz Z1.out)).trans Z1.out)
            clear hb s0 s1 s2 s3 s4 s5 s6 s7 s8 s9 s10 s11 Z1
            obtain ⟨⟨s0, s1, s2⟩, ⟨s3, s4, s5⟩, ⟨s6, s7, s8⟩, s9, s10, s11⟩ := sto_box Z2.out
            simp only at s0 s1 s2 s3 s4 s5 s6 s7 s8 s9 s10 s11
            go_wp2_with fail
            refine (KST.out _ HB2.out).mono ?_
            rintro e w3 ⟨rfl, hb⟩
            have HB3 := Lib.hid (HB2.out.trans (hb.mono HB2.out.size)); have Z3 := Lib.hid ((hb.block _ (heapsz Z2.out)).trans Z2.out)
            clear hb s0 s1 s2 s3 s4 s5 s6 s7 s8 s9 s10 s11 Z2
            obtain ⟨⟨s0, s1, s2⟩, ⟨s3, s4, s5⟩, ⟨s6, s7, s8⟩, s9, s10, s11⟩ := sto_box Z3.out
            simp only at s0 s1 s2 s3 s4 s5 s6 s7 s8 s9 s10 s11
            go_wp2_with fail
            refine (KPL.out _ HB3.out).mono ?_
            rintro e w4 ⟨rfl, hb⟩
            have HB4 := Lib.hid (HB3.out.trans (hb.mono HB3.out.size)); have Z4 := Lib.hid ((hb.block _ (heapsz Z3.out)).trans Z3.out)
            clear hb s0 s1 s2 s3 s4 s5 s6 s7 s8 s9 s10 s11 Z3
            obtain ⟨⟨s0, s1, s2⟩, ⟨s3, s4, s5⟩, ⟨s6, s7, s8⟩, s9, s10, s11⟩ := sto_box Z4.out
            simp only at s0 s1 s2 s3 s4 s5 s6 s7 s8 s9 s10 s11
            go_wp2_with fail
            refine (KBE.out _ HB4.out).mono ?_
            rintro e w5 ⟨rfl, hb⟩
            have HB5 := Lib.hid (HB4.out.trans (hb.mono HB4.out.size)); have Z5 := Lib.hid ((hb.block _ (heapsz Z4.out)).trans Z4.out)
            clear hb s0 s1 s2 s3 s4 s5 s6 s7 s8 s9 s10 s11 Z4
            obtain ⟨⟨s0, s1, s2⟩, ⟨s3, s4, s5⟩, ⟨s6, s7, s8⟩, s9, s10, s11⟩ := sto_box Z5.out
            simp only at s0 s1 s2 s3 s4 s5 s6 s7 s8 s9 s10 s11
            go_wp2_with fail
            refine (KFO.out _ HB5.out).mono ?_
            rintro e w6 ⟨rfl, hb⟩
            have HB6 := Lib.hid (HB5.out.trans (hb.mono HB5.out.size)); have Z6 := Lib.hid ((hb.block _ (heapsz Z5.out)).trans Z5.out)
            clear hb s0 s1 s2 s3 s4 s5 s6 s7 s8 s9 s10 s11 Z5
            obtain ⟨⟨s0, s1, s2⟩, ⟨s3, s4, s5⟩, ⟨s6, s7, s8⟩, s9, s10, s11⟩ := sto_box Z6.out
            simp only at s0 s1 s2 s3 s4 s5 s6 s7 s8 s9 s10 s11
            clear s0 s1 s2 s3 s4 s5 s6 s7 s8 s9 s10 s11
            have al := (Below.refl w6.heap.size w6).alloc (Nat.le_refl _) (.cells #[.bool true, .int .i64 x1, .int .i64 x2, .int .i64 x3, .int .i64 x4] 48)
            have zf := heap_alloc_new w6 (.cells #[.bool true, .int .i64 x1, .int .i64 x2, .int .i64 x3, .int .i64 x4] 48)
            have ZU := Lib.hid ((al.block _ (heapsz Z6.out)).trans Z6.out)
            obtain ⟨⟨s0, s1, s2⟩, ⟨s3, s4, s5⟩, ⟨s6, s7, s8⟩, s9, s10, s11⟩ := sto_box ZU.out
            simp only at s0 s1 s2 s3 s4 s5 s6 s7 s8 s9 s10 s11
            have fa := cell_of_row _ _ 0 _ 48 (0, 0) zf
            simp only [List.getElem?_toArray, List.getElem?_cons_zero] at fa
            obtain ⟨w7, hw7⟩ : ∃ W, w6.alloc (.cells #[.bool true, .int .i64 x1, .int .i64 x2, .int .i64 x3, .int .i64 x4] 48) = W := ⟨_, rfl⟩
            have HW7 := Lib.hid hw7
            have HB7 := Lib.hid (HB6.out.trans (al.mono HB6.out.size)); have Z7 := ZU; have Fa_7 := Lib.hid zf
            rw [hw7] at HB7 Z7 Fa_7
            clear al zf ZU hw7 Z6
            go_wp2_with fail
            rw [HW7.out]
            refine (KPB.out _ HB7.out).mono ?_
            rintro e w8 ⟨rfl, hb⟩
            have HB8 := Lib.hid (HB7.out.trans (hb.mono HB7.out.size)); have Z8 := Lib.hid ((hb.block _ (heapsz Z7.out)).trans Z7.out)
            have Fa_8 := Lib.hid ((hb.block _ (heapsz Fa_7.out)).trans Fa_7.out)
            clear hb s0 s1 s2 s3 s4 s5 s6 s7 s8 s9 s10 s11 fa Z7 Fa_7
            obtain ⟨⟨s0, s1, s2⟩, ⟨s3, s4, s5⟩, ⟨s6, s7, s8⟩, s9, s10, s11⟩ := sto_box Z8.out
            simp only at s0 s1 s2 s3 s4 s5 s6 s7 s8 s9 s10 s11
            have fa := cell_of_row _ _ 0 _ 48 (0, 0) Fa_8.out
            simp at fa
            go_wp2_with fail
            refine (KCB.out _ HB8.out).mono ?_
            rintro e w9 ⟨rfl, hb⟩
            have HB9 := Lib.hid (HB8.out.trans (hb.mono HB8.out.size)); have Z9 := Lib.hid ((hb.block _ (heapsz Z8.out)).trans Z8.out)
            have Fa_9 := Lib.hid ((hb.block _ (heapsz Fa_8.out)).trans Fa_8.out)
            clear hb s0 s1 s2 s3 s4 s5 s6 s7 s8 s9 s10 s11 fa Z8 Fa_8
            obtain ⟨⟨s0, s1, s2⟩, ⟨s3, s4, s5⟩, ⟨s6, s7, s8⟩, s9, s10, s11⟩ := sto_box Z9.out
            simp only at s0 s1 s2 s3 s4 s5 s6 s7 s8 s9 s10 s11
            have fa := cell_of_row _ _ 0 _ 48 (0, 0) Fa_9.out
            simp at fa
            go_wp2_with fail
            refine (KFB.out _ HB9.out).mono ?_
            rintro e w10 ⟨rfl, hb⟩
            have HB10 := Lib.hid (HB9.out.trans (hb.mono HB9.out.size)); have Z10 := Lib.hid ((hb.block _ (heapsz Z9.out)).trans Z9.out)
            have Fa_10 := Lib.hid ((hb.block _ (heapsz Fa_9.out)).trans Fa_9.out)
            clear hb s0 s1 s2 s3 s4 s5 s6 s7 s8 s9 s10 s11 fa Z9 Fa_9
            obtain ⟨⟨s0, s1, s2⟩, ⟨s3, s4, s5⟩, ⟨s6, s7, s8⟩, s9, s10, s11⟩ := sto_box Z10.out
            simp only at s0 s1 s2 s3 s4 s5 s6 s7 s8 s9 s10 s11
            have fa := cell_of_row _ _ 0 _ 48 (0, 0) Fa_10.out
            simp at fa
            clear s0 s1 s2 s3 s4 s5 s6 s7 s8 s9 s10 s11 fa
            have al := (Below.refl w10.heap.size w10).alloc (Nat.le_refl _) (.cells #[.bool false, .int .i64 0, .int .i64 0, .int .i64 0, .int .i64 0] 48)
            have zf := heap_alloc_new w10 (.cells #[.bool false, .int .i64 0, .int .i64 0, .int .i64 0, .int .i64 0] 48)
            have ZU := Lib.hid ((al.block _ (heapsz Z10.out)).trans Z10.out)
            obtain ⟨⟨s0, s1, s2⟩, ⟨s3, s4, s5⟩, ⟨s6, s7, s8⟩, s9, s10, s11⟩ := sto_box ZU.out
            simp only at s0 s1 s2 s3 s4 s5 s6 s7 s8 s9 s10 s11
            have FaU := Lib.hid ((al.block _ (heapsz Fa_10.out)).trans Fa_10.out)
            have fa := cell_of_row _ _ 0 _ 48 (0, 0) FaU.out
            simp at fa
            have fb := cell_of_row _ _ 0 _ 48 (0, 0) zf
            simp only [List.getElem?_toArray, List.getElem?_cons_zero] at fb
            obtain ⟨w11, hw11⟩ : ∃ W, w10.alloc (.cells #[.bool false, .int .i64 0, .int .i64 0, .int .i64 0, .int .i64 0] 48) = W := ⟨_, rfl⟩
            have HW11 := Lib.hid hw11
            have HB11 := Lib.hid (HB10.out.trans (al.mono HB10.out.size)); have Z11 := ZU; have Fb_11 := Lib.hid zf
            have Fa_11 := FaU
            rw [hw11] at HB11 Z11 Fb_11 Fa_11
            clear al zf ZU FaU hw11 Z10 Fa_10
            go_wp2_with fail
            rw [HW11.out]
            refine (KCO.out _ HB11.out).mono ?_
            rintro e w12 ⟨rfl, hb⟩
            have HB12 := Lib.hid (HB11.out.trans (hb.mono HB11.out.size)); have Z12 := Lib.hid ((hb.block _ (heapsz Z11.out)).trans Z11.out)
            have Fa_12 := Lib.hid ((hb.block _ (heapsz Fa_11.out)).trans Fa_11.out)
            have Fb_12 := Lib.hid ((hb.block _ (heapsz Fb_11.out)).trans Fb_11.out)
            clear hb s0 s1 s2 s3 s4 s5 s6 s7 s8 s9 s10 s11 fa fb Z11 Fa_11 Fb_11
            obtain ⟨⟨s0, s1, s2⟩, ⟨s3, s4, s5⟩, ⟨s6, s7, s8⟩, s9, s10, s11⟩ := sto_box Z12.out
            simp only at s0 s1 s2 s3 s4 s5 s6 s7 s8 s9 s10 s11
            have fa := cell_of_row _ _ 0 _ 48 (0, 0) Fa_12.out
            simp at fa
            have fb := cell_of_row _ _ 0 _ 48 (0, 0) Fb_12.out
            simp at fb
            go_wp2_with fail
            refine (KKN.out _ HB12.out).mono ?_
            rintro e w13 ⟨rfl, hb⟩
            have HB13 := Lib.hid (HB12.out.trans (hb.mono HB12.out.size)); have Z13 := Lib.hid ((hb.block _ (heapsz Z12.out)).trans Z12.out)
            have Fa_13 := Lib.hid ((hb.block _ (heapsz Fa_12.out)).trans Fa_12.out)
            have Fb_13 := Lib.hid ((hb.block _ (heapsz Fb_12.out)).trans Fb_12.out)
            clear hb s0 s1 s2 s3 s4 s5 s6 s7 s8 s9 s10 s11 fa fb Z12 Fa_12 Fb_12
            obtain ⟨⟨s0, s1, s2⟩, ⟨s3, s4, s5⟩, ⟨s6, s7, s8⟩, s9, s10, s11⟩ := sto_box Z13.out
            simp only at s0 s1 s2 s3 s4 s5 s6 s7 s8 s9 s10 s11
            have fa := cell_of_row _ _ 0 _ 48 (0, 0) Fa_13.out
            simp at fa
            have fb := cell_of_row _ _ 0 _ 48 (0, 0) Fb_13.out
            simp at fb
            go_wp2_with fail
            go_ret
            exact ⟨rfl, HB0.out.trans (HB13.out.mono HB0.out.size)⟩
          | false =>
            obtain ⟨h1, h2⟩ := hle rfl
            by_cases hgt : d = c
            · have hbm := h2 hgt
              subst hgt
              have g1 : ¬ d > d := by omega
              have g2 : (m : Int) ≥ (b : Int) := by omega
              have g3 : (b : Int) ≤ (m : Int) := by omega
              clear h1 h2 hle
              go_enter Tryd.func8, Tryd.ntmps8
              go_wp2_with fail
              rw [HW1.out]
              refine (KSH.out _ HB1.out).mono ?_
              rintro e w2 ⟨rfl, hb⟩
              have HB2 := Lib.hid (HB1.out.trans (hb.mono HB1.out.size)); have Z2 := Lib.hid ((hb.block _ (heapsz Z1.out)).trans Z1.out)
              clear hb s0 s1 s2 s3 s4 s5 s6 s7 s8 s9 s10 s11 Z1
              obtain ⟨⟨s0, s1, s2⟩, ⟨s3, s4, s5⟩, ⟨s6, s7, s8⟩, s9, s10, s11⟩ := sto_box Z2.out
              simp only at s0 s1 s2 s3 s4 s5 s6 s7 s8 s9 s10 s11
              go_wp2_with fail
              refine (KST.out _ HB2.out).mono ?_
              rintro e w3 ⟨rfl, hb⟩
              have HB3 := Lib.hid (HB2.out.trans (hb.mono HB2.out.size)); have Z3 := Lib.hid ((hb.block _ (heapsz Z2.out)).trans Z2.out)
              clear hb s0 s1 s2 s3 s4 s5 s6 s7 s8 s9 s10 s11 Z2
              obtain ⟨⟨s0, s1, s2⟩, ⟨s3, s4, s5⟩, ⟨s6, s7, s8⟩, s9, s10, s11⟩ := sto_box Z3.out
              simp only at s0 s1 s2 s3 s4 s5 s6 s7 s8 s9 s10 s11
              go_wp2_with fail
              refine (KPL.out _ HB3.out).mono ?_
              rintro e w4 ⟨rfl, hb⟩
              have HB4 := Lib.hid (HB3.out.trans (hb.mono HB3.out.size)); have Z4 := Lib.hid ((hb.block _ (heapsz Z3.out)).trans Z3.out)
              clear hb s0 s1 s2 s3 s4 s5 s6 s7 s8 s9 s10 s11 Z3
              obtain ⟨⟨s0, s1, s2⟩, ⟨s3, s4, s5⟩, ⟨s6, s7, s8⟩, s9, s10, s11⟩ := sto_box Z4.out
              simp only at s0 s1 s2 s3 s4 s5 s6 s7 s8 s9 s10 s11
              go_wp2_with fail
              refine (KBE.out _ HB4.out).mono ?_
              rintro e w5 ⟨rfl, hb⟩
              have HB5 := Lib.hid (HB4.out.trans (hb.mono HB4.out.size)); have Z5 := Lib.hid ((hb.block _ (heapsz Z4.out)).trans Z4.out)
              clear hb s0 s1 s2 s3 s4 s5 s6 s7 s8 s9 s10 s11 Z4
              obtain ⟨⟨s0, s1, s2⟩, ⟨s3, s4, s5⟩, ⟨s6, s7, s8⟩, s9, s10, s11⟩ := sto_box Z5.out
              simp only at s0 s1 s2 s3 s4 s5 s6 s7 s8 s9 s10 s11
              go_wp2_with fail
              refine (KFO.out _ HB5.out).mono ?_
              rintro e w6 ⟨rfl, hb⟩
              have HB6 := Lib.hid (HB5.out.trans (hb.mono HB5.out.size)); have Z6 := Lib.hid ((hb.block _ (heapsz Z5.out)).trans Z5.out)
              clear hb s0 s1 s2 s3 s4 s5 s6 s7 s8 s9 s10 s11 Z5
              obtain ⟨⟨s0, s1, s2⟩, ⟨s3, s4, s5⟩, ⟨s6, s7, s8⟩, s9, s10, s11⟩ := sto_box Z6.out
              simp only at s0 s1 s2 s3 s4 s5 s6 s7 s8 s9 s10 s11
              clear s0 s1 s2 s3 s4 s5 s6 s7 s8 s9 s10 s11
              have al := (Below.refl w6.heap.size w6).alloc (Nat.le_refl _) (.cells #[.bool false, .int .i64 x1, .int .i64 x2, .int .i64 x3, .int .i64 x4] 48)
              have zf := heap_alloc_new w6 (.cells #[.bool false, .int .i64 x1, .int .i64 x2, .int .i64 x3, .int .i64 x4] 48)
              have ZU := Lib.hid ((al.block _ (heapsz Z6.out)).trans Z6.out)
              obtain ⟨⟨s0, s1, s2⟩, ⟨s3, s4, s5⟩, ⟨s6, s7, s8⟩, s9, s10, s11⟩ := sto_box ZU.out
              simp only at s0 s1 s2 s3 s4 s5 s6 s7 s8 s9 s10 s11
              have fa := cell_of_row _ _ 0 _ 48 (0, 0) zf
              simp only [List.getElem?_toArray, List.getElem?_cons_zero] at fa
              obtain ⟨w7, hw7⟩ : ∃ W, w6.alloc (.cells #[.bool false, .int .i64 x1, .int .i64 x2, .int .i64 x3, .int .i64 x4] 48) = W := ⟨_, rfl⟩
              have HW7 := Lib.hid hw7
              have HB7 := Lib.hid (HB6.out.trans (al.mono HB6.out.size)); have Z7 := ZU; have Fa_7 := Lib.hid zf
              rw [hw7] at HB7 Z7 Fa_7
              clear al zf ZU hw7 Z6
              go_wp2_with fail
              rw [HW7.out]
              refine (KPB.out _ HB7.out).mono ?_
              rintro e w8 ⟨rfl, hb⟩
              have HB8 := Lib.hid (HB7.out.trans (hb.mono HB7.out.size)); have Z8 := Lib.hid ((hb.block _ (heapsz Z7.out)).trans Z7.out)
              have Fa_8 := Lib.hid ((hb.block _ (heapsz Fa_7.out)).trans Fa_7.out)
              clear hb s0 s1 s2 s3 s4 s5 s6 s7 s8 s9 s10 s11 fa Z7 Fa_7
              obtain ⟨⟨s0, s1, s2⟩, ⟨s3, s4, s5⟩, ⟨s6, s7, s8⟩, s9, s10, s11⟩ := sto_box Z8.out
              simp only at s0 s1 s2 s3 s4 s5 s6 s7 s8 s9 s10 s11
              have fa := cell_of_row _ _ 0 _ 48 (0, 0) Fa_8.out
              simp at fa
              go_wp2_with fail
              refine (KCB.out _ HB8.out).mono ?_
              rintro e w9 ⟨rfl, hb⟩
              have HB9 := Lib.hid (HB8.out.trans (hb.mono HB8.out.size)); have Z9 := Lib.hid ((hb.block _ (heapsz Z8.out)).trans Z8.out)
              have Fa_9 := Lib.hid ((hb.block _ (heapsz Fa_8.out)).trans Fa_8.out)
              clear hb s0 s1 s2 s3 s4 s5 s6 s7 s8 s9 s10 s11 fa Z8 Fa_8
              obtain ⟨⟨s0, s1, s2⟩, ⟨s3, s4, s5⟩, ⟨s6, s7, s8⟩, s9, s10, s11⟩ := sto_box Z9.out
              simp only at s0 s1 s2 s3 s4 s5 s6 s7 s8 s9 s10 s11
              have fa := cell_of_row _ _ 0 _ 48 (0, 0) Fa_9.out
              simp at fa
              go_wp2_with fail
              refine (KFB.out _ HB9.out).mono ?_
              rintro e w10 ⟨rfl, hb⟩
              have HB10 := Lib.hid (HB9.out.trans (hb.mono HB9.out.size)); have Z10 := Lib.hid ((hb.block _ (heapsz Z9.out)).trans Z9.out)
              have Fa_10 := Lib.hid ((hb.block _ (heapsz Fa_9.out)).trans Fa_9.out)
              clear hb s0 s1 s2 s3 s4 s5 s6 s7 s8 s9 s10 s11 fa Z9 Fa_9
              obtain ⟨⟨s0, s1, s2⟩, ⟨s3, s4, s5⟩, ⟨s6, s7, s8⟩, s9, s10, s11⟩ := sto_box Z10.out
              simp only at s0 s1 s2 s3 s4 s5 s6 s7 s8 s9 s10 s11
              have fa := cell_of_row _ _ 0 _ 48 (0, 0) Fa_10.out
              simp at fa
              clear s0 s1 s2 s3 s4 s5 s6 s7 s8 s9 s10 s11 fa
              have al := (Below.refl w10.heap.size w10).alloc (Nat.le_refl _) (.cells #[.bool false, .int .i64 0, .int .i64 0, .int .i64 0, .int .i64 0] 48)
              have zf := heap_alloc_new w10 (.cells #[.bool false, .int .i64 0, .int .i64 0, .int .i64 0, .int .i64 0] 48)
              have ZU := Lib.hid ((al.block _ (heapsz Z10.out)).trans Z10.out)
              obtain ⟨⟨s0, s1, s2⟩, ⟨s3, s4, s5⟩, ⟨s6, s7, s8⟩, s9, s10, s11⟩ := sto_box ZU.out
              simp only at s0 s1 s2 s3 s4 s5 s6 s7 s8 s9 s10 s11
              have FaU := Lib.hid ((al.block _ (heapsz Fa_10.out)).trans Fa_10.out)
              have fa := cell_of_row _ _ 0 _ 48 (0, 0) FaU.out
              simp at fa
              have fb := cell_of_row _ _ 0 _ 48 (0, 0) zf
              simp only [List.getElem?_toArray, List.getElem?_cons_zero] at fb
              obtain ⟨w11, hw11⟩ : ∃ W, w10.alloc (.cells #[.bool false, .int .i64 0, .int .i64 0, .int .i64 0, .int .i64 0] 48) = W := ⟨_, rfl⟩
              have HW11 := Lib.hid hw11
              have HB11 := Lib.hid (HB10.out.trans (al.mono HB10.out.size)); have Z11 := ZU; have Fb_11 := Lib.hid zf
              have Fa_11 := FaU
              rw [hw11] at HB11 Z11 Fb_11 Fa_11
              clear al zf ZU FaU hw11 Z10 Fa_10
              go_wp2_with fail
              rw [HW11.out]
              refine (KCO.out _ HB11.out).mono ?_
              rintro e w12 ⟨rfl, hb⟩
              have HB12 := Lib.hid (HB11.out.trans (hb.mono HB11.out.size)); have Z12 := Lib.hid ((hb.block _ (heapsz Z11.out)).trans Z11.out)
              have Fa_12 := Lib.hid ((hb.block _ (heapsz Fa_11.out)).trans Fa_11.out)
              have Fb_12 := Lib.hid ((hb.block _ (heapsz Fb_11.out)).trans Fb_11.out)
              clear hb s0 s1 s2 s3 s4 s5 s6 s7 s8 s9 s10 s11 fa fb Z11 Fa_11 Fb_11
              obtain ⟨⟨s0, s1, s2⟩, ⟨s3, s4, s5⟩, ⟨s6, s7, s8⟩, s9, s10, s11⟩ := sto_box Z12.out
              simp only at s0 s1 s2 s3 s4 s5 s6 s7 s8 s9 s10 s11
              have fa := cell_of_row _ _ 0 _ 48 (0, 0) Fa_12.out
              simp at fa
              have fb := cell_of_row _ _ 0 _ 48 (0, 0) Fb_12.out
              simp at fb
              go_wp2_with fail
              refine (KKN.out _ HB12.out).mono ?_
              rintro e w13 ⟨rfl, hb⟩
              have HB13 := Lib.hid (HB12.out.trans (hb.mono HB12.out.size)); have Z13 := Lib.hid ((hb.block _ (heapsz Z12.out)).trans Z12.out)
              have Fa_13 := Lib.hid ((hb.block _ (heapsz Fa_12.out)).trans Fa_12.out)
              have Fb_13 := Lib.hid ((hb.block _ (heapsz Fb_12.out)).trans Fb_12.out)
              clear hb s0 s1 s2 s3 s4 s5 s6 s7 s8 s9 s10 s11 fa fb Z12 Fa_12 Fb_12
              obtain ⟨⟨s0, s1, s2⟩, ⟨s3, s4, s5⟩, ⟨s6, s7, s8⟩, s9, s10, s11⟩ := sto_box Z13.out
              simp only at s0 s1 s2 s3 s4 s5 s6 s7 s8 s9 s10 s11
              have fa := cell_of_row _ _ 0 _ 48 (0, 0) Fa_13.out
              simp at fa
              have fb := cell_of_row _ _ 0 _ 48 (0, 0) Fb_13.out
              simp at fb
              go_wp2_with fail
              go_ret
              exact ⟨rfl, HB0.out.trans (HB13.out.mono HB0.out.size)⟩
            · have g1 : d > c := by omega
              have g2 : c < d := g1
              clear h1 h2 hgt hle
              go_enter Tryd.func8, Tryd.ntmps8
              go_wp2_with fail
              rw [HW1.out]
              refine (KSH.out _ HB1.out).mono ?_
              rintro e w2 ⟨rfl, hb⟩
              have HB2 := Lib.hid (HB1.out.trans (hb.mono HB1.out.size)); have Z2 := Lib.hid ((hb.block _ (heapsz Z1.out)).trans Z1.out)
              clear hb s0 s1 s2 s3 s4 s5 s6 s7 s8 s9 s10 s11 Z1
              obtain ⟨⟨s0, s1, s2⟩, ⟨s3, s4, s5⟩, ⟨s6, s7, s8⟩, s9, s10, s11⟩ := sto_box Z2.out
              simp only at s0 s1 s2 s3 s4 s5 s6 s7 s8 s9 s10 s11
              go_wp2_with fail
              refine (KST.out _ HB2.out).mono ?_
              rintro e w3 ⟨rfl, hb⟩
              have HB3 := Lib.hid (HB2.out.trans (hb.mono HB2.out.size)); have Z3 := Lib.hid ((hb.block _ (heapsz Z2.out)).trans Z2.out)
              clear hb s0 s1 s2 s3 s4 s5 s6 s7 s8 s9 s10 s11 Z2
              obtain ⟨⟨s0, s1, s2⟩, ⟨s3, s4, s5⟩, ⟨s6, s7, s8⟩, s9, s10, s11⟩ := sto_box Z3.out
              simp only at s0 s1 s2 s3 s4 s5 s6 s7 s8 s9 s10 s11
              go_wp2_with fail
              refine (KPL.out _ HB3.out).mono ?_
              rintro e w4 ⟨rfl, hb⟩
              have HB4 := Lib.hid (HB3.out.trans (hb.mono HB3.out.size)); have Z4 := Lib.hid ((hb.block _ (heapsz Z3.out)).trans Z3.out)
              clear hb s0 s1 s2 s3 s4 s5 s6 s7 s8 s9 s10 s11 Z3
              obtain ⟨⟨s0, s1, s2⟩, ⟨s3, s4, s5⟩, ⟨s6, s7, s8⟩, s9, s10, s11⟩ := sto_box Z4.out
              simp only at s0 s1 s2 s3 s4 s5 s6 s7 s8 s9 s10 s11
              go_wp2_with fail
              refine (KBE.out _ HB4.out).mono ?_
              rintro e w5 ⟨rfl, hb⟩
              have HB5 := Lib.hid (HB4.out.trans (hb.mono HB4.out.size)); have Z5 := Lib.hid ((hb.block _ (heapsz Z4.out)).trans Z4.out)
              clear hb s0 s1 s2 s3 s4 s5 s6 s7 s8 s9 s10 s11 Z4
              obtain ⟨⟨s0, s1, s2⟩, ⟨s3, s4, s5⟩, ⟨s6, s7, s8⟩, s9, s10, s11⟩ := sto_box Z5.out
              simp only at s0 s1 s2 s3 s4 s5 s6 s7 s8 s9 s10 s11
              go_wp2_with fail
              refine (KFO.out _ HB5.out).mono ?_
              rintro e w6 ⟨rfl, hb⟩
              have HB6 := Lib.hid (HB5.out.trans (hb.mono HB5.out.size)); have Z6 := Lib.hid ((hb.block _ (heapsz Z5.out)).trans Z5.out)
              clear hb s0 s1 s2 s3 s4 s5 s6 s7 s8 s9 s10 s11 Z5
              obtain ⟨⟨s0, s1, s2⟩, ⟨s3, s4, s5⟩, ⟨s6, s7, s8⟩, s9, s10, s11⟩ := sto_box Z6.out
              simp only at s0 s1 s2 s3 s4 s5 s6 s7 s8 s9 s10 s11
              clear s0 s1 s2 s3 s4 s5 s6 s7 s8 s9 s10 s11
              have al := (Below.refl w6.heap.size w6).alloc (Nat.le_refl _) (.cells #[.bool false, .int .i64 x1, .int .i64 x2, .int .i64 x3, .int .i64 x4] 48)
              have zf := heap_alloc_new w6 (.cells #[.bool false, .int .i64 x1, .int .i64 x2, .int .i64 x3, .int .i64 x4] 48)
              have ZU := Lib.hid ((al.block _ (heapsz Z6.out)).trans Z6.out)
              obtain ⟨⟨s0, s1, s2⟩, ⟨s3, s4, s5⟩, ⟨s6, s7, s8⟩, s9, s10, s11⟩ := sto_box ZU.out
              simp only at s0 s1 s2 s3 s4 s5 s6 s7 s8 s9 s10 s11
              have fa := cell_of_row _ _ 0 _ 48 (0, 0) zf
              simp only [List.getElem?_toArray, List.getElem?_cons_zero] at fa
              obtain ⟨w7, hw7⟩ : ∃ W, w6.alloc (.cells #[.bool false, .int .i64 x1, .int .i64 x2, .int .i64 x3, .int .i64 x4] 48) = W := ⟨_, rfl⟩
              have HW7 := Lib.hid hw7
              have HB7 := Lib.hid (HB6.out.trans (al.mono HB6.out.size)); have Z7 := ZU; have Fa_7 := Lib.hid zf
              rw [hw7] at HB7 Z7 Fa_7
              clear al zf ZU hw7 Z6
              go_wp2_with fail
              rw [HW7.out]
              refine (KPB.out _ HB7.out).mono ?_
              rintro e w8 ⟨rfl, hb⟩
              have HB8 := Lib.hid (HB7.out.trans (hb.mono HB7.out.size)); have Z8 := Lib.hid ((hb.block _ (heapsz Z7.out)).trans Z7.out)
              have Fa_8 := Lib.hid ((hb.block _ (heapsz Fa_7.out)).trans Fa_7.out)
              clear hb s0 s1 s2 s3 s4 s5 s6 s7 s8 s9 s10 s11 fa Z7 Fa_7
              obtain ⟨⟨s0, s1, s2⟩, ⟨s3, s4, s5⟩, ⟨s6, s7, s8⟩, s9, s10, s11⟩ := sto_box Z8.out
              simp only at s0 s1 s2 s3 s4 s5 s6 s7 s8 s9 s10 s11
              have fa := cell_of_row _ _ 0 _ 48 (0, 0) Fa_8.out
              simp at fa
              go_wp2_with fail
              refine (KCB.out _ HB8.out).mono ?_
              rintro e w9 ⟨rfl, hb⟩
              have HB9 := Lib.hid (HB8.out.trans (hb.mono HB8.out.size)); have Z9 := Lib.hid ((hb.block _ (heapsz Z8.out)).trans Z8.out)
              have Fa_9 := Lib.hid ((hb.block _ (heapsz Fa_8.out)).trans Fa_8.out)
              clear hb s0 s1 s2 s3 s4 s5 s6 s7 s8 s9 s10 s11 fa Z8 Fa_8
              obtain ⟨⟨s0, s1, s2⟩, ⟨s3, s4, s5⟩, ⟨s6, s7, s8⟩, s9, s10, s11⟩ := sto_box Z9.out
              simp only at s0 s1 s2 s3 s4 s5 s6 s7 s8 s9 s10 s11
              have fa := cell_of_row _ _ 0 _ 48 (0, 0) Fa_9.out
              simp at fa
              go_wp2_with fail
              refine (KFB.out _ HB9.out).mono ?_
              rintro e w10 ⟨rfl, hb⟩
              have HB10 := Lib.hid (HB9.out.trans (hb.mono HB9.out.size)); have Z10 := Lib.hid ((hb.block _ (heapsz Z9.out)).trans Z9.out)
              have Fa_10 := Lib.hid ((hb.block _ (heapsz Fa_9.out)).trans Fa_9.out)
              clear hb s0 s1 s2 s3 s4 s5 s6 s7 s8 s9 s10 s11 fa Z9 Fa_9
              obtain ⟨⟨s0, s1, s2⟩, ⟨s3, s4, s5⟩, ⟨s6, s7, s8⟩, s9, s10, s11⟩ := sto_box Z10.out
              simp only at s0 s1 s2 s3 s4 s5 s6 s7 s8 s9 s10 s11
              have fa := cell_of_row _ _ 0 _ 48 (0, 0) Fa_10.out
              simp at fa
              clear s0 s1 s2 s3 s4 s5 s6 s7 s8 s9 s10 s11 fa
              have al := (Below.refl w10.heap.size w10).alloc (Nat.le_refl _) (.cells #[.bool false, .int .i64 0, .int .i64 0, .int .i64 0, .int .i64 0] 48)
              have zf := heap_alloc_new w10 (.cells #[.bool false, .int .i64 0, .int .i64 0, .int .i64 0, .int .i64 0] 48)
              have ZU := Lib.hid ((al.block _ (heapsz Z10.out)).trans Z10.out)
              obtain ⟨⟨s0, s1, s2⟩, ⟨s3, s4, s5⟩, ⟨s6, s7, s8⟩, s9, s10, s11⟩ := sto_box ZU.out
              simp only at s0 s1 s2 s3 s4 s5 s6 s7 s8 s9 s10 s11
              have FaU := Lib.hid ((al.block _ (heapsz Fa_10.out)).trans Fa_10.out)
              have fa := cell_of_row _ _ 0 _ 48 (0, 0) FaU.out
              simp at fa
              have fb := cell_of_row _ _ 0 _ 48 (0, 0) zf
              simp only [List.getElem?_toArray, List.getElem?_cons_zero] at fb
              obtain ⟨w11, hw11⟩ : ∃ W, w10.alloc (.cells #[.bool false, .int .i64 0, .int .i64 0, .int .i64 0, .int .i64 0] 48) = W := ⟨_, rfl⟩
              have HW11 := Lib.hid hw11
              have HB11 := Lib.hid (HB10.out.trans (al.mono HB10.out.size)); have Z11 := ZU; have Fb_11 := Lib.hid zf
              have Fa_11 := FaU
              rw [hw11] at HB11 Z11 Fb_11 Fa_11
              clear al zf ZU FaU hw11 Z10 Fa_10
              go_wp2_with fail
              rw [HW11.out]
              refine (KCO.out _ HB11.out).mono ?_
              rintro e w12 ⟨rfl, hb⟩
              have HB12 := Lib.hid (HB11.out.trans (hb.mono HB11.out.size)); have Z12 := Lib.hid ((hb.block _ (heapsz Z11.out)).trans Z11.out)
              have Fa_12 := Lib.hid ((hb.block _ (heapsz Fa_11.out)).trans Fa_11.out)
              have Fb_12 := Lib.hid ((hb.block _ (heapsz Fb_11.out)).trans Fb_11.out)
              clear hb s0 s1 s2 s3 s4 s5 s6 s7 s8 s9 s10 s11 fa fb Z11 Fa_11 Fb_11
              obtain ⟨⟨s0, s1, s2⟩, ⟨s3, s4, s5⟩, ⟨s6, s7, s8⟩, s9, s10, s11⟩ := sto_box Z12.out
              simp only at s0 s1 s2 s3 s4 s5 s6 s7 s8 s9 s10 s11
              have fa := cell_of_row _ _ 0 _ 48 (0, 0) Fa_12.out
              simp at fa
              have fb := cell_of_row _ _ 0 _ 48 (0, 0) Fb_12.out
              simp at fb
              go_wp2_with fail
              refine (KKN.out _ HB12.out).mono ?_
              rintro e w13 ⟨rfl, hb⟩
              have HB13 := Lib.hid (HB12.out.trans (hb.mono HB12.out.size)); have Z13 := Lib.hid ((hb.block _ (heapsz Z12.out)).trans Z12.out)
              have Fa_13 := Lib.hid ((hb.block _ (heapsz Fa_12.out)).trans Fa_12.out)
              have Fb_13 := Lib.hid ((hb.block _ (heapsz Fb_12.out)).trans Fb_12.out)
              clear hb s0 s1 s2 s3 s4 s5 s6 s7 s8 s9 s10 s11 fa fb Z12 Fa_12 Fb_12
              obtain ⟨⟨s0, s1, s2⟩, ⟨s3, s4, s5⟩, ⟨s6, s7, s8⟩, s9, s10, s11⟩ := sto_box Z13.out
              simp only at s0 s1 s2 s3 s4 s5 s6 s7 s8 s9 s10 s11
              have fa := cell_of_row _ _ 0 _ 48 (0, 0) Fa_13.out
              simp at fa
              have fb := cell_of_row _ _ 0 _ 48 (0, 0) Fb_13.out
              simp at fb
              go_wp2_with fail
              go_ret
              exact ⟨rfl, HB0.out.trans (HB13.out.mono HB0.out.size)⟩
end Go.Proofs.YtijjkiogmlannaaDoor
