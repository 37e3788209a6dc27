/- Stores: the law of plans that suffice. -/
import Derived.Test.YtijjkiogmlannaaDoorDE
namespace Go.Proofs.YtijjkiogmlannaaDoor
open Go.RowKit

set_option maxRecDepth 100000 in
set_option maxHeartbeats 8000000 in
theorem enough_law {X : SX} {w : World} (h : X.In w) (ht : Tab w) (o i n : Int) : Calls Tryd.prog 6 #[X.v, .int .i64 o, .int .i64 i, .int .i64 n] w fun e w' => e = .returned (.bool true) ∧ Below w.heap.size w w' := by
  rcases X with ⟨S, AS, ns, cs, AI, ni, ci, AW, nw, cw⟩
  obtain ⟨z0, hb0⟩ := sto_new ⟨S, AS, ns, cs, AI, ni, ci, AW, nw, cw⟩ w
  obtain ⟨⟨s0, s1, s2⟩, ⟨s3, s4, s5⟩, ⟨s6, s7, s8⟩, s9, s10, s11⟩ := sto_box z0
  simp only at s0 s1 s2 s3 s4 s5 s6 s7 s8 s9 s10 s11
  obtain ⟨w1, hw1⟩ : ∃ z, w.alloc (.cells (SX.cells ⟨S, AS, ns, cs, AI, ni, ci, AW, nw, cw⟩) 28) = z := ⟨_, rfl⟩
  rw [hw1] at z0 hb0
  have hls := h.hs; have hli := h.hi; have hlw := h.hw
  simp only at hls hli hlw
  have HB0 := Lib.hid hb0; have HB1 := Lib.hid (Below.refl w1.heap.size w1); have Z1 := Lib.hid z0; have HI := Lib.hid (h.up hb0); have HW1 := Lib.hid hw1; have HT := Lib.hid (ht.next hb0); have HLS := Lib.hid hls; have HLI := Lib.hid hli; have HLW := Lib.hid hlw
  obtain ⟨A, hA⟩ : ∃ z, shortB ⟨S, AS, ns, cs, AI, ni, ci, AW, nw, cw⟩ = z := ⟨_, rfl⟩
  have KSH : Hid (∀ u, Below w1.heap.size w1 u → Calls Tryd.prog 12 #[.agg #[.int .i64 S.st.a, .int .i64 S.st.b, .int .i64 S.st.c, .int .i64 S.yd.a, .int .i64 S.yd.b, .int .i64 S.yd.c, .int .i64 S.rate, .int .i64 S.weeks, .int .i64 S.land, .slice AS ns cs, .slice AI ni ci, .slice AW nw cw]] u fun e w' => e = .returned (.bool A) ∧ Below u.heap.size u w') := Lib.hid fun u hu => by rw [← hA]; exact short_any (HI.out.up hu)
  have KKN : Hid (∀ u, Below w1.heap.size w1 u → Calls Tryd.prog 13 #[] u fun e w' => e = .returned (.bool true) ∧ Below u.heap.size u w') := Lib.hid fun u hu => known_any u (HT.out.next hu)
  clear h ht z0 hb0 hw1 hls hli hlw hA
  cases A with
  | false =>
    go_enter Tryd.func6, Tryd.ntmps6
    go_wp2_with fail
    rw [HW1.out]
    refine (KSH.out _ HB1.out).mono ?_
    rintro e w2 ⟨rfl, hb⟩
    have HB2 := Lib.hid (HB1.out.trans (hb.mono HB1.out.size)); have Z2 := Lib.hid ((hb.block _ (heapsz Z1.out)).trans Z1.out)
    clear hb s0 s1 s2 s3 s4 s5 s6 s7 s8 s9 s10 s11 Z1
    obtain ⟨⟨s0, s1, s2⟩, ⟨s3, s4, s5⟩, ⟨s6, s7, s8⟩, s9, s10, s11⟩ := sto_box Z2.out
    simp only at s0 s1 s2 s3 s4 s5 s6 s7 s8 s9 s10 s11
    go_wp2_with fail
    refine (KKN.out _ HB2.out).mono ?_
    rintro e w3 ⟨rfl, hb⟩
    have HB3 := Lib.hid (HB2.out.trans (hb.mono HB2.out.size)); have Z3 := Lib.hid ((hb.block _ (heapsz Z2.out)).trans Z2.out)
    clear hb s0 s1 s2 s3 s4 s5 s6 s7 s8 s9 s10 s11 Z2
    obtain ⟨⟨s0, s1, s2⟩, ⟨s3, s4, s5⟩, ⟨s6, s7, s8⟩, s9, s10, s11⟩ := sto_box Z3.out
    simp only at s0 s1 s2 s3 s4 s5 s6 s7 s8 s9 s10 s11
    go_wp2_with fail
    go_ret
    exact ⟨rfl, HB0.out.trans (HB3.out.mono HB0.out.size)⟩
  | true =>
    obtain ⟨B, hB⟩ : ∃ z, stoB S = z := ⟨_, rfl⟩
    have KST : Hid (∀ u, Below w1.heap.size w1 u → Calls Tryd.prog 16 #[.agg #[.int .i64 S.st.a, .int .i64 S.st.b, .int .i64 S.st.c, .int .i64 S.yd.a, .int .i64 S.yd.b, .int .i64 S.yd.c, .int .i64 S.rate, .int .i64 S.weeks, .int .i64 S.land, .slice AS ns cs, .slice AI ni ci, .slice AW nw cw]] u fun e w' => e = .returned (.bool B) ∧ Below u.heap.size u w') := Lib.hid fun u hu => by rw [← hB]; exact rstore_any (HI.out.up hu)
    cases B with
    | false =>
      clear hB
      go_enter Tryd.func6, Tryd.ntmps6
      go_wp2_with fail
      rw [HW1.out]
      refine (KSH.out _ HB1.out).mono ?_
      rintro e w2 ⟨rfl, hb⟩
      have HB2 := Lib.hid (HB1.out.trans (hb.mono HB1.out.size)); have Z2 := Lib.hid ((hb.block _ (heapsz Z1.out)).trans Z1.out)
      clear hb s0 s1 s2 s3 s4 s5 s6 s7 s8 s9 s10 s11 Z1
      obtain ⟨⟨s0, s1, s2⟩, ⟨s3, s4, s5⟩, ⟨s6, s7, s8⟩, s9, s10, s11⟩ := sto_box Z2.out
      simp only at s0 s1 s2 s3 s4 s5 s6 s7 s8 s9 s10 s11
      go_wp2_with fail
      refine (KST.out _ HB2.out).mono ?_
      rintro e w3 ⟨rfl, hb⟩
      have HB3 := Lib.hid (HB2.out.trans (hb.mono HB2.out.size)); have Z3 := Lib.hid ((hb.block _ (heapsz Z2.out)).trans Z2.out)
      clear hb s0 s1 s2 s3 s4 s5 s6 s7 s8 s9 s10 s11 Z2
      obtain ⟨⟨s0, s1, s2⟩, ⟨s3, s4, s5⟩, ⟨s6, s7, s8⟩, s9, s10, s11⟩ := sto_box Z3.out
      simp only at s0 s1 s2 s3 s4 s5 s6 s7 s8 s9 s10 s11
      go_wp2_with fail
      refine (KKN.out _ HB3.out).mono ?_
      rintro e w4 ⟨rfl, hb⟩
      have HB4 := Lib.hid (HB3.out.trans (hb.mono HB3.out.size)); have Z4 := Lib.hid ((hb.block _ (heapsz Z3.out)).trans Z3.out)
      clear hb s0 s1 s2 s3 s4 s5 s6 s7 s8 s9 s10 s11 Z3
      obtain ⟨⟨s0, s1, s2⟩, ⟨s3, s4, s5⟩, ⟨s6, s7, s8⟩, s9, s10, s11⟩ := sto_box Z4.out
      simp only at s0 s1 s2 s3 s4 s5 s6 s7 s8 s9 s10 s11
      go_wp2_with fail
      go_ret
      exact ⟨rfl, HB0.out.trans (HB4.out.mono HB0.out.size)⟩
    | true =>
      have hok := stoB_iff.1 hB
      have n6 := hok.n6
      have HOK := Lib.hid hok
      obtain ⟨C, hC⟩ : ∃ z, planOk S o = z := ⟨_, rfl⟩
      have HLS2 := HLS.out
      have KPL : Hid (∀ u, Below w1.heap.size w1 u → Calls Tryd.prog 17 #[.agg #[.int .i64 S.st.a, .int .i64 S.st.b, .int .i64 S.st.c, .int .i64 S.yd.a, .int .i64 S.yd.b, .int .i64 S.yd.c, .int .i64 S.rate, .int .i64 S.weeks, .int .i64 S.land, .slice AS ns cs, .slice AI ni ci, .slice AW nw cw], .int .i64 o] u fun e w' => e = .returned (.bool C) ∧ Below u.heap.size u w') := Lib.hid fun u hu => by rw [← hC]; exact rplan_any (X := ⟨S, AS, ns, cs, AI, ni, ci, AW, nw, cw⟩) (by rw [← HLS2]; exact n6) HLS2 o
      cases C with
      | false =>
        clear hB hC hok n6 HLS2
        go_enter Tryd.func6, Tryd.ntmps6
        go_wp2_with fail
        rw [HW1.out]
        refine (KSH.out _ HB1.out).mono ?_
        rintro e w2 ⟨rfl, hb⟩
        have HB2 := Lib.hid (HB1.out.trans (hb.mono HB1.out.size)); have Z2 := Lib.hid ((hb.block _ (heapsz Z1.out)).trans Z1.out)
        clear hb s0 s1 s2 s3 s4 s5 s6 s7 s8 s9 s10 s11 Z1
        obtain ⟨⟨s0, s1, s2⟩, ⟨s3, s4, s5⟩, ⟨s6, s7, s8⟩, s9, s10, s11⟩ := sto_box Z2.out
        simp only at s0 s1 s2 s3 s4 s5 s6 s7 s8 s9 s10 s11
        go_wp2_with fail
        refine (KST.out _ HB2.out).mono ?_
        rintro e w3 ⟨rfl, hb⟩
        have HB3 := Lib.hid (HB2.out.trans (hb.mono HB2.out.size)); have Z3 := Lib.hid ((hb.block _ (heapsz Z2.out)).trans Z2.out)
        clear hb s0 s1 s2 s3 s4 s5 s6 s7 s8 s9 s10 s11 Z2
        obtain ⟨⟨s0, s1, s2⟩, ⟨s3, s4, s5⟩, ⟨s6, s7, s8⟩, s9, s10, s11⟩ := sto_box Z3.out
        simp only at s0 s1 s2 s3 s4 s5 s6 s7 s8 s9 s10 s11
        go_wp2_with fail
        refine (KPL.out _ HB3.out).mono ?_
        rintro e w4 ⟨rfl, hb⟩
        have HB4 := Lib.hid (HB3.out.trans (hb.mono HB3.out.size)); have Z4 := Lib.hid ((hb.block _ (heapsz Z3.out)).trans Z3.out)
        clear hb s0 s1 s2 s3 s4 s5 s6 s7 s8 s9 s10 s11 Z3
        obtain ⟨⟨s0, s1, s2⟩, ⟨s3, s4, s5⟩, ⟨s6, s7, s8⟩, s9, s10, s11⟩ := sto_box Z4.out
        simp only at s0 s1 s2 s3 s4 s5 s6 s7 s8 s9 s10 s11
        go_wp2_with fail
        refine (KKN.out _ HB4.out).mono ?_
        rintro e w5 ⟨rfl, hb⟩
        have HB5 := Lib.hid (HB4.out.trans (hb.mono HB4.out.size)); have Z5 := Lib.hid ((hb.block _ (heapsz Z4.out)).trans Z4.out)
        clear hb s0 s1 s2 s3 s4 s5 s6 s7 s8 s9 s10 s11 Z4
        obtain ⟨⟨s0, s1, s2⟩, ⟨s3, s4, s5⟩, ⟨s6, s7, s8⟩, s9, s10, s11⟩ := sto_box Z5.out
        simp only at s0 s1 s2 s3 s4 s5 s6 s7 s8 s9 s10 s11
        go_wp2_with fail
        go_ret
        exact ⟨rfl, HB0.out.trans (HB5.out.mono HB0.out.size)⟩
      | true =>
        obtain ⟨D, hD⟩ : ∃ z, decide (0 ≤ i ∧ i < (ni : Int)) = z := ⟨_, rfl⟩
        have KIC : Hid (∀ u, Below w1.heap.size w1 u → Calls Tryd.prog 18 #[.agg #[.int .i64 S.st.a, .int .i64 S.st.b, .int .i64 S.st.c, .int .i64 S.yd.a, .int .i64 S.yd.b, .int .i64 S.yd.c, .int .i64 S.rate, .int .i64 S.weeks, .int .i64 S.land, .slice AS ns cs, .slice AI ni ci, .slice AW nw cw], .int .i64 i] u fun e w' => e = .returned (.bool D) ∧ Below u.heap.size u w') := Lib.hid fun u hu => by rw [← hD]; exact ice_any (X := ⟨S, AS, ns, cs, AI, ni, ci, AW, nw, cw⟩) i
        cases D with
        | false =>
          clear hB hC hok n6 HLS2 hD
          go_enter Tryd.func6, Tryd.ntmps6
          go_wp2_with fail
          rw [HW1.out]
          refine (KSH.out _ HB1.out).mono ?_
          rintro e w2 ⟨rfl, hb⟩
          have HB2 := Lib.hid (HB1.out.trans (hb.mono HB1.out.size)); have Z2 := Lib.hid ((hb.block _ (heapsz Z1.out)).trans Z1.out)
          clear hb s0 s1 s2 s3 s4 s5 s6 s7 s8 s9 s10 s11 Z1
          obtain ⟨⟨s0, s1, s2⟩, ⟨s3, s4, s5⟩, ⟨s6, s7, s8⟩, s9, s10, s11⟩ := sto_box Z2.out
          simp only at s0 s1 s2 s3 s4 s5 s6 s7 s8 s9 s10 s11
          go_wp2_with fail
          refine (KST.out _ HB2.out).mono ?_
          rintro e w3 ⟨rfl, hb⟩
          have HB3 := Lib.hid (HB2.out.trans (hb.mono HB2.out.size)); have Z3 := Lib.hid ((hb.block _ (heapsz Z2.out)).trans Z2.out)
          clear hb s0 s1 s2 s3 s4 s5 s6 s7 s8 s9 s10 s11 Z2
          obtain ⟨⟨s0, s1, s2⟩, ⟨s3, s4, s5⟩, ⟨s6, s7, s8⟩, s9, s10, s11⟩ := sto_box Z3.out
          simp only at s0 s1 s2 s3 s4 s5 s6 s7 s8 s9 s10 s11
          go_wp2_with fail
          refine (KPL.out _ HB3.out).mono ?_
          rintro e w4 ⟨rfl, hb⟩
          have HB4 := Lib.hid (HB3.out.trans (hb.mono HB3.out.size)); have Z4 := Lib.hid ((hb.block _ (heapsz Z3.out)).trans Z3.out)
          clear hb s0 s1 s2 s3 s4 s5 s6 s7 s8 s9 s10 s11 Z3
          obtain ⟨⟨s0, s1, s2⟩, ⟨s3, s4, s5⟩, ⟨s6, s7, s8⟩, s9, s10, s11⟩ := sto_box Z4.out
          simp only at s0 s1 s2 s3 s4 s5 s6 s7 s8 s9 s10 s11
          go_wp2_with fail
          refine (KIC.out _ HB4.out).mono ?_
          rintro e w5 ⟨rfl, hb⟩
          have HB5 := Lib.hid (HB4.out.trans (hb.mono HB4.out.size)); have Z5 := Lib.hid ((hb.block _ (heapsz Z4.out)).trans Z4.out)
          clear hb s0 s1 s2 s3 s4 s5 s6 s7 s8 s9 s10 s11 Z4
          obtain ⟨⟨s0, s1, s2⟩, ⟨s3, s4, s5⟩, ⟨s6, s7, s8⟩, s9, s10, s11⟩ := sto_box Z5.out
          simp only at s0 s1 s2 s3 s4 s5 s6 s7 s8 s9 s10 s11
          go_wp2_with fail
          refine (KKN.out _ HB5.out).mono ?_
          rintro e w6 ⟨rfl, hb⟩
          have HB6 := Lib.hid (HB5.out.trans (hb.mono HB5.out.size)); have Z6 := Lib.hid ((hb.block _ (heapsz Z5.out)).trans Z5.out)
          clear hb s0 s1 s2 s3 s4 s5 s6 s7 s8 s9 s10 s11 Z5
          obtain ⟨⟨s0, s1, s2⟩, ⟨s3, s4, s5⟩, ⟨s6, s7, s8⟩, s9, s10, s11⟩ := sto_box Z6.out
          simp only at s0 s1 s2 s3 s4 s5 s6 s7 s8 s9 s10 s11
          go_wp2_with fail
          go_ret
          exact ⟨rfl, HB0.out.trans (HB6.out.mono HB0.out.size)⟩
        | true =>
          obtain ⟨E, hE⟩ : ∃ z, decide (0 ≤ n ∧ n < (nw : Int)) = z := ⟨_, rfl⟩
          have KWI : Hid (∀ u, Below w1.heap.size w1 u → Calls Tryd.prog 19 #[.agg #[.int .i64 S.st.a, .int .i64 S.st.b, .int .i64 S.st.c, .int .i64 S.yd.a, .int .i64 S.yd.b, .int .i64 S.yd.c, .int .i64 S.rate, .int .i64 S.weeks, .int .i64 S.land, .slice AS ns cs, .slice AI ni ci, .slice AW nw cw], .int .i64 n] u fun e w' => e = .returned (.bool E) ∧ Below u.heap.size u w') := Lib.hid fun u hu => by rw [← hE]; exact winter_any (X := ⟨S, AS, ns, cs, AI, ni, ci, AW, nw, cw⟩) n
          cases E with
          | false =>
            clear hB hC hok n6 HLS2 hD hE
            go_enter Tryd.func6, Tryd.ntmps6
            go_wp2_with fail
            rw [HW1.out]
            refine (KSH.out _ HB1.out).mono ?_
            rintro e w2 ⟨rfl, hb⟩
            have HB2 := Lib.hid (HB1.out.trans (hb.mono HB1.out.size)); have Z2 := Lib.hid ((hb.block _ (heapsz Z1.out)).trans Z1.out)
            clear hb s0 s1 s2 s3 s4 s5 s6 s7 s8 s9 s10 s11 Z1
            obtain ⟨⟨s0, s1, s2⟩, ⟨s3, s4, s5⟩, ⟨s6, s7, s8⟩, s9, s10, s11⟩ := sto_box Z2.out
            simp only at s0 s1 s2 s3 s4 s5 s6 s7 s8 s9 s10 s11
            go_wp2_with fail
            refine (KST.out _ HB2.out).mono ?_
            rintro e w3 ⟨rfl, hb⟩
            have HB3 := Lib.hid (HB2.out.trans (hb.mono HB2.out.size)); have Z3 := Lib.hid ((hb.block _ (heapsz Z2.out)).trans Z2.out)
            clear hb s0 s1 s2 s3 s4 s5 s6 s7 s8 s9 s10 s11 Z2
            obtain ⟨⟨s0, s1, s2⟩, ⟨s3, s4, s5⟩, ⟨s6, s7, s8⟩, s9, s10, s11⟩ := sto_box Z3.out
            simp only at s0 s1 s2 s3 s4 s5 s6 s7 s8 s9 s10 s11
            go_wp2_with fail
            refine (KPL.out _ HB3.out).mono ?_
            rintro e w4 ⟨rfl, hb⟩
            have HB4 := Lib.hid (HB3.out.trans (hb.mono HB3.out.size)); have Z4 := Lib.hid ((hb.block _ (heapsz Z3.out)).trans Z3.out)
            clear hb s0 s1 s2 s3 s4 s5 s6 s7 s8 s9 s10 s11 Z3
            obtain ⟨⟨s0, s1, s2⟩, ⟨s3, s4, s5⟩, ⟨s6, s7, s8⟩, s9, s10, s11⟩ := sto_box Z4.out
            simp only at s0 s1 s2 s3 s4 s5 s6 s7 s8 s9 s10 s11
            go_wp2_with fail
            refine (KIC.out _ HB4.out).mono ?_
            rintro e w5 ⟨rfl, hb⟩
            have HB5 := Lib.hid (HB4.out.trans (hb.mono HB4.out.size)); have Z5 := Lib.hid ((hb.block _ (heapsz Z4.out)).trans Z4.out)
            clear hb s0 s1 s2 s3 s4 s5 s6 s7 s8 s9 s10 s11 Z4
            obtain ⟨⟨s0, s1, s2⟩, ⟨s3, s4, s5⟩, ⟨s6, s7, s8⟩, s9, s10, s11⟩ := sto_box Z5.out
            simp only at s0 s1 s2 s3 s4 s5 s6 s7 s8 s9 s10 s11
            go_wp2_with fail
            refine (KWI.out _ HB5.out).mono ?_
            rintro e w6 ⟨rfl, hb⟩
            have HB6 := Lib.hid (HB5.out.trans (hb.mono HB5.out.size)); have Z6 := Lib.hid ((hb.block _ (heapsz Z5.out)).trans Z5.out)
            clear hb s0 s1 s2 s3 s4 s5 s6 s7 s8 s9 s10 s11 Z5
            obtain ⟨⟨s0, s1, s2⟩, ⟨s3, s4, s5⟩, ⟨s6, s7, s8⟩, s9, s10, s11⟩ := sto_box Z6.out
            simp only at s0 s1 s2 s3 s4 s5 s6 s7 s8 s9 s10 s11
            go_wp2_with fail
            refine (KKN.out _ HB6.out).mono ?_
            rintro e w7 ⟨rfl, hb⟩
            have HB7 := Lib.hid (HB6.out.trans (hb.mono HB6.out.size)); have Z7 := Lib.hid ((hb.block _ (heapsz Z6.out)).trans Z6.out)
            clear hb s0 s1 s2 s3 s4 s5 s6 s7 s8 s9 s10 s11 Z6
            obtain ⟨⟨s0, s1, s2⟩, ⟨s3, s4, s5⟩, ⟨s6, s7, s8⟩, s9, s10, s11⟩ := sto_box Z7.out
            simp only at s0 s1 s2 s3 s4 s5 s6 s7 s8 s9 s10 s11
            go_wp2_with fail
            go_ret
            exact ⟨rfl, HB0.out.trans (HB7.out.mono HB0.out.size)⟩
          | true =>
            have hni := of_decide_eq_true hD; have hnn := of_decide_eq_true hE
            obtain ⟨m, rfl, hm⟩ := plan_nat hC
            obtain ⟨ii, rfl⟩ : ∃ k : Nat, i = (k : Int) := ⟨i.toNat, by omega⟩
            obtain ⟨nn, rfl⟩ : ∃ k : Nat, n = (k : Int) := ⟨n.toNat, by omega⟩
            have hi2 : ii < S.ices.length := by rw [HLI.out]; omega
            have hn2 : nn < S.wins.length := by rw [HLW.out]; omega
            have hwks := hok.weeks
            obtain ⟨wk, hwk⟩ : ∃ wk : Nat, S.weeks = (wk : Int) := ⟨S.weeks.toNat, by omega⟩
            have hwt : S.weeks.toNat = wk := by rw [hwk]; rfl
            have HWK := Lib.hid hwk
            rw [hwk] at hwks
            have KRU : ∀ a b : Nat, a < S.ices.length → b < S.wins.length → Hid (∀ u, Below w1.heap.size w1 u → Calls Tryd.prog 15 #[.agg #[.int .i64 S.st.a, .int .i64 S.st.b, .int .i64 S.st.c, .int .i64 S.yd.a, .int .i64 S.yd.b, .int .i64 S.yd.c, .int .i64 S.rate, .int .i64 S.weeks, .int .i64 S.land, .slice AS ns cs, .slice AI ni ci, .slice AW nw cw], .int .i64 (m : Int), .int .i64 (a : Int), .int .i64 (b : Int)] u fun e w' => Below u.heap.size u w' ∧ ∃ D A2 n2 c2 A3 c3, e = .returned (.tuple #[.agg #[.slice (some ⟨D, 0, none⟩) ns ns, .slice A2 n2 c2, .slice A3 wk c3], .int .i64 0]) ∧ GdsAt w' w'.heap.size A3 (S.run m (S.ices.getD a []) (S.wins.getD b [])).lacks) := fun a b ha hb => Lib.hid fun u hu => by
              have := run_ok (HI.out.up hu) (p := m) (i := a) (n := b) hB hC ha hb
              simp only at this; rw [hwt] at this; exact this
            have KR1 := KRU ii nn hi2 hn2
            have LL : (S.run m (S.ices.getD ii []) (S.wins.getD nn [])).lacks.length = wk := by rw [lacks_len, hwt]
            cases hF : S.fault m with
            | none =>
              have h1 := first_none.2 hF
              have hfa : fauV S (m : Int) = (.agg #[.bool false, .int .i64 0, .int .i64 0, .int .i64 0, .int .i64 0], 0) := by unfold fauV; rw [hB, hC, show ((m : Int)).toNat = m from rfl, hF]; rfl
              have hfi : fstI S (m : Int) = (0, 0, 5) := by unfold fstI; rw [hB, hC, show ((m : Int)).toNat = m from rfl, h1]; rfl
              have KFO : Hid (∀ u, Below w1.heap.size w1 u → Calls Tryd.prog 24 #[.agg #[.int .i64 S.st.a, .int .i64 S.st.b, .int .i64 S.st.c, .int .i64 S.yd.a, .int .i64 S.yd.b, .int .i64 S.yd.c, .int .i64 S.rate, .int .i64 S.weeks, .int .i64 S.land, .slice AS ns cs, .slice AI ni ci, .slice AW nw cw], .int .i64 (m : Int)] u fun e w' => e = .returned (.tuple #[.agg #[.bool false, .int .i64 0, .int .i64 0, .int .i64 0, .int .i64 0], .int .i64 0]) ∧ Below u.heap.size u w') := Lib.hid fun u hu => by have := Fault_any (HI.out.up hu) (m : Int); simp only at this; rw [hfa] at this; exact this
              have KFI : Hid (∀ u, Below w1.heap.size w1 u → Calls Tryd.prog 25 #[.agg #[.int .i64 S.st.a, .int .i64 S.st.b, .int .i64 S.st.c, .int .i64 S.yd.a, .int .i64 S.yd.b, .int .i64 S.yd.c, .int .i64 S.rate, .int .i64 S.weeks, .int .i64 S.land, .slice AS ns cs, .slice AI ni ci, .slice AW nw cw], .int .i64 (m : Int)] u fun e w' => e = .returned (.tuple #[.int .i64 0, .int .i64 0, .int .i64 5]) ∧ Below u.heap.size u w') := Lib.hid fun u hu => by have := First_any (HI.out.up hu) (m : Int); simp only at this; rw [hfi] at this; exact this
              have hz : ∀ t, t < wk → (S.run m (S.ices.getD ii []) (S.wins.getD nn [])).lacks[t]? = some z3 := fun t ht => enough_none hi2 hn2 hF (by rw [hwt]; exact ht)
              have HZ := Lib.hid hz
              rw [HWK.out] at KSH KST KPL KIC KWI KR1 KFO KFI s7
              clear hB hC hok n6 HLS2 hD hE hni hnn hm hi2 hn2 hwk hwt KRU LL hF h1 hfa hfi hz
              go_enter Tryd.func6, Tryd.ntmps6
              go_wp2_with fail
              rw [HW1.out]
              refine (KSH.out _ HB1.out).mono ?_
              rintro e w2 ⟨rfl, hb⟩
              have HB2 := Lib.hid (HB1.out.trans (hb.mono HB1.out.size)); have Z2 := Lib.hid ((hb.block _ (heapsz Z1.out)).trans Z1.out)
              clear hb s0 s1 s2 s3 s4 s5 s6 s7 s8 s9 s10 s11 Z1
              obtain ⟨⟨s0, s1, s2⟩, ⟨s3, s4, s5⟩, ⟨s6, s7, s8⟩, s9, s10, s11⟩ := sto_box Z2.out
              simp only at s0 s1 s2 s3 s4 s5 s6 s7 s8 s9 s10 s11
              rw [HWK.out] at s7
              go_wp2_with fail
              refine (KST.out _ HB2.out).mono ?_
              rintro e w3 ⟨rfl, hb⟩
              have HB3 := Lib.hid (HB2.out.trans (hb.mono HB2.out.size)); have Z3 := Lib.hid ((hb.block _ (heapsz Z2.out)).trans Z2.out)
              clear hb s0 s1 s2 s3 s4 s5 s6 s7 s8 s9 s10 s11 Z2
              obtain ⟨⟨s0, s1, s2⟩, ⟨s3, s4, s5⟩, ⟨s6, s7, s8⟩, s9, s10, s11⟩ := sto_box Z3.out
              simp only at s0 s1 s2 s3 s4 s5 s6 s7 s8 s9 s10 s11
              rw [HWK.out] at s7
              go_wp2_with fail
              refine (KPL.out _ HB3.out).mono ?_
              rintro e w4 ⟨rfl, hb⟩
              have HB4 := Lib.hid (HB3.out.trans (hb.mono HB3.out.size)); have Z4 := Lib.hid ((hb.block _ (heapsz Z3.out)).trans Z3.out)
              clear hb s0 s1 s2 s3 s4 s5 s6 s7 s8 s9 s10 s11 Z3
              obtain ⟨⟨s0, s1, s2⟩, ⟨s3, s4, s5⟩, ⟨s6, s7, s8⟩, s9, s10, s11⟩ := sto_box Z4.out
              simp only at s0 s1 s2 s3 s4 s5 s6 s7 s8 s9 s10 s11
              rw [HWK.out] at s7
              go_wp2_with fail
              refine (KIC.out _ HB4.out).mono ?_
              rintro e w5 ⟨rfl, hb⟩
              have HB5 := Lib.hid (HB4.out.trans (hb.mono HB4.out.size)); have Z5 := Lib.hid ((hb.block _ (heapsz Z4.out)).trans Z4.out)
              clear hb s0 s1 s2 s3 s4 s5 s6 s7 s8 s9 s10 s11 Z4
              obtain ⟨⟨s0, s1, s2⟩, ⟨s3, s4, s5⟩, ⟨s6, s7, s8⟩, s9, s10, s11⟩ := sto_box Z5.out
              simp only at s0 s1 s2 s3 s4 s5 s6 s7 s8 s9 s10 s11
              rw [HWK.out] at s7
              go_wp2_with fail
              refine (KWI.out _ HB5.out).mono ?_
              rintro e w6 ⟨rfl, hb⟩
              have HB6 := Lib.hid (HB5.out.trans (hb.mono HB5.out.size)); have Z6 := Lib.hid ((hb.block _ (heapsz Z5.out)).trans Z5.out)
              clear hb s0 s1 s2 s3 s4 s5 s6 s7 s8 s9 s10 s11 Z5
              obtain ⟨⟨s0, s1, s2⟩, ⟨s3, s4, s5⟩, ⟨s6, s7, s8⟩, s9, s10, s11⟩ := sto_box Z6.out
              simp only at s0 s1 s2 s3 s4 s5 s6 s7 s8 s9 s10 s11
              rw [HWK.out] at s7
              go_wp2_with fail
              refine (KFO.out _ HB6.out).mono ?_
              rintro e w7 ⟨rfl, hb⟩
              have HB7 := Lib.hid (HB6.out.trans (hb.mono HB6.out.size)); have Z7 := Lib.hid ((hb.block _ (heapsz Z6.out)).trans Z6.out)
              clear hb s0 s1 s2 s3 s4 s5 s6 s7 s8 s9 s10 s11 Z6
              obtain ⟨⟨s0, s1, s2⟩, ⟨s3, s4, s5⟩, ⟨s6, s7, s8⟩, s9, s10, s11⟩ := sto_box Z7.out
              simp only at s0 s1 s2 s3 s4 s5 s6 s7 s8 s9 s10 s11
              rw [HWK.out] at s7
              clear s0 s1 s2 s3 s4 s5 s6 s7 s8 s9 s10 s11
              have al := (Below.refl w7.heap.size w7).alloc (Nat.le_refl _) (.cells #[.bool false, .int .i64 0, .int .i64 0, .int .i64 0, .int .i64 0] 48)
              have zf := heap_alloc_new w7 (.cells #[.bool false, .int .i64 0, .int .i64 0, .int .i64 0, .int .i64 0] 48)
              have ZU := Lib.hid ((al.block _ (heapsz Z7.out)).trans Z7.out)
              obtain ⟨⟨s0, s1, s2⟩, ⟨s3, s4, s5⟩, ⟨s6, s7, s8⟩, s9, s10, s11⟩ := sto_box ZU.out
              simp only at s0 s1 s2 s3 s4 s5 s6 s7 s8 s9 s10 s11
              rw [HWK.out] at s7
              have fv0 := cell_of_row _ _ 0 _ 48 (0, 0) zf
              have fv1 := cell_of_row _ _ 1 _ 48 (0, 0) zf
              have fv2 := cell_of_row _ _ 2 _ 48 (0, 0) zf
              have fv3 := cell_of_row _ _ 3 _ 48 (0, 0) zf
              have fv4 := cell_of_row _ _ 4 _ 48 (0, 0) zf
              simp at fv0 fv1 fv2 fv3 fv4
              obtain ⟨w8, hw8⟩ : ∃ W, w7.alloc (.cells #[.bool false, .int .i64 0, .int .i64 0, .int .i64 0, .int .i64 0] 48) = W := ⟨_, rfl⟩
              have HW8 := Lib.hid hw8
              have HB8 := Lib.hid (HB7.out.trans (al.mono HB7.out.size)); have Z8 := ZU; have Fv_8 := Lib.hid zf; have AL8 := Lib.hid al
              rw [hw8] at HB8 Z8 Fv_8 AL8
              clear al zf ZU hw8 Z7
              go_wp2_with fail
              rw [HW8.out]
              refine (KFI.out _ HB8.out).mono ?_
              rintro e w9 ⟨rfl, hb⟩
              have HB9 := Lib.hid (HB8.out.trans (hb.mono HB8.out.size)); have Z9 := Lib.hid ((hb.block _ (heapsz Z8.out)).trans Z8.out)
              have Fv_9 := Lib.hid ((hb.block _ (heapsz Fv_8.out)).trans Fv_8.out)
              clear hb s0 s1 s2 s3 s4 s5 s6 s7 s8 s9 s10 s11 fv0 fv1 fv2 fv3 fv4 Z8 Fv_8
              obtain ⟨⟨s0, s1, s2⟩, ⟨s3, s4, s5⟩, ⟨s6, s7, s8⟩, s9, s10, s11⟩ := sto_box Z9.out
              simp only at s0 s1 s2 s3 s4 s5 s6 s7 s8 s9 s10 s11
              rw [HWK.out] at s7
              have fv0 := cell_of_row _ _ 0 _ 48 (0, 0) Fv_9.out
              have fv1 := cell_of_row _ _ 1 _ 48 (0, 0) Fv_9.out
              have fv2 := cell_of_row _ _ 2 _ 48 (0, 0) Fv_9.out
              have fv3 := cell_of_row _ _ 3 _ 48 (0, 0) Fv_9.out
              have fv4 := cell_of_row _ _ 4 _ 48 (0, 0) Fv_9.out
              simp at fv0 fv1 fv2 fv3 fv4
              go_wp2_with fail
              refine (KR1.out _ HB9.out).mono ?_
              rintro e w10 ⟨hb, D, A2, n2, c2, A3, c3, rfl, hg⟩
              have HB10 := Lib.hid (HB9.out.trans (hb.mono HB9.out.size)); have Z10 := Lib.hid ((hb.block _ (heapsz Z9.out)).trans Z9.out)
              have Fv_10 := Lib.hid ((hb.block _ (heapsz Fv_9.out)).trans Fv_9.out)
              have HG := Lib.hid hg; clear hg
              clear hb s0 s1 s2 s3 s4 s5 s6 s7 s8 s9 s10 s11 fv0 fv1 fv2 fv3 fv4 Z9 Fv_9
              obtain ⟨⟨s0, s1, s2⟩, ⟨s3, s4, s5⟩, ⟨s6, s7, s8⟩, s9, s10, s11⟩ := sto_box Z10.out
              simp only at s0 s1 s2 s3 s4 s5 s6 s7 s8 s9 s10 s11
              rw [HWK.out] at s7
              have fv0 := cell_of_row _ _ 0 _ 48 (0, 0) Fv_10.out
              have fv1 := cell_of_row _ _ 1 _ 48 (0, 0) Fv_10.out
              have fv2 := cell_of_row _ _ 2 _ 48 (0, 0) Fv_10.out
              have fv3 := cell_of_row _ _ 3 _ 48 (0, 0) Fv_10.out
              have fv4 := cell_of_row _ _ 4 _ 48 (0, 0) Fv_10.out
              simp at fv0 fv1 fv2 fv3 fv4
              clear s0 s1 s2 s3 s4 s5 s6 s7 s8 s9 s10 s11 fv0 fv1 fv2 fv3 fv4
              have al := (Below.refl w10.heap.size w10).alloc (Nat.le_refl _) (.cells #[.slice (some ⟨D, 0, none⟩) ns ns, .slice A2 n2 c2, .slice A3 wk c3] 35)
              have zf := heap_alloc_new w10 (.cells #[.slice (some ⟨D, 0, none⟩) ns ns, .slice A2 n2 c2, .slice A3 wk c3] 35)
              have ZU := Lib.hid ((al.block _ (heapsz Z10.out)).trans Z10.out)
              obtain ⟨⟨s0, s1, s2⟩, ⟨s3, s4, s5⟩, ⟨s6, s7, s8⟩, s9, s10, s11⟩ := sto_box ZU.out
              simp only at s0 s1 s2 s3 s4 s5 s6 s7 s8 s9 s10 s11
              rw [HWK.out] at s7
              have FvU := Lib.hid ((al.block _ (heapsz Fv_10.out)).trans Fv_10.out)
              have fv0 := cell_of_row _ _ 0 _ 48 (0, 0) FvU.out
              have fv1 := cell_of_row _ _ 1 _ 48 (0, 0) FvU.out
              have fv2 := cell_of_row _ _ 2 _ 48 (0, 0) FvU.out
              have fv3 := cell_of_row _ _ 3 _ 48 (0, 0) FvU.out
              have fv4 := cell_of_row _ _ 4 _ 48 (0, 0) FvU.out
              simp at fv0 fv1 fv2 fv3 fv4
              have fx0 := cell_of_row _ _ 0 _ 35 (0, 0) zf
              have fx1 := cell_of_row _ _ 1 _ 35 (0, 0) zf
              have fx2 := cell_of_row _ _ 2 _ 35 (0, 0) zf
              simp at fx0 fx1 fx2
              obtain ⟨w11, hw11⟩ : ∃ W, w10.alloc (.cells #[.slice (some ⟨D, 0, none⟩) ns ns, .slice A2 n2 c2, .slice A3 wk c3] 35) = W := ⟨_, rfl⟩
              have HW11 := Lib.hid hw11
              have HB11 := Lib.hid (HB10.out.trans (al.mono HB10.out.size)); have Z11 := ZU; have Fx_11 := Lib.hid zf; have AL11 := Lib.hid al
              have Fv_11 := FvU
              rw [hw11] at HB11 Z11 Fx_11 AL11 Fv_11
              clear al zf ZU FvU hw11 Z10 Fv_10
              have HG2 := Lib.hid (HG.out.up AL11.out)
              clear HG; have HG := HG2; clear HG2
              go_wp2_with fail
              rw [HW11.out]
              clear s0 s1 s2 s3 s4 s5 s6 s7 s8 s9 s10 s11 fv0 fv1 fv2 fv3 fv4 fx0 fx1 fx2
              have fx := cell_of_row _ _ 2 _ 35 (0, 0) Fx_11.out
              simp at fx
              go_loopw [19] (fun v wr => ∃ t : Nat, t ≤ wk ∧ v = .int .i64 t ∧ wr = w11) (fun v _ => wk - (intOf v).toNat)
              case atStart => exact ⟨0, Nat.zero_le _, rfl, rfl⟩
              case round =>
                obtain ⟨t, hk, rfl, rfl⟩ := hrel
                by_cases hlt : t < wk
                · have k0 : (0 : Int) ≤ (t : Int) := by omega
                  have k1 : (t : Int) < (wk : Int) := by omega
                  have k2 : (t : Int) < (wk : Int) := by omega
                  obtain ⟨b, o, rfl, hbb, c0, c1, c2_⟩ := gds_el HG.out (HZ.out t hlt)
                  simp only [z3] at c0 c1 c2_
                  have hg : Tryd.prog.eqGuardType Tryd.prog.depth 23 = false := by kernel_rfl
                  have Q23 := fun w => eq_yes (g := z3) rfl w
                  simp only [z3] at Q23
                  go_wp2_with fail
                  exact ⟨⟨t + 1, by omega, by go_num, trivial⟩, by simp [intOf]; omega⟩
                · have hke : t = wk := by omega
                  have k1 : ¬ (t : Int) < (wk : Int) := by omega
                  subst hke
                  go_wp2_with fail
                  refine (KKN.out _ HB11.out).mono ?_
                  rintro e wz ⟨rfl, hb⟩
                  have HBZ := Lib.hid (HB11.out.trans (hb.mono HB11.out.size))
                  clear hb
                  go_wp2_with fail
                  go_ret
                  exact ⟨rfl, HB0.out.trans (HBZ.out.mono HB0.out.size)⟩
            | some f =>
              obtain ⟨g, hg1⟩ : ∃ g, S.first m = some g := by
                cases hq : S.first m with
                | none => rw [first_none.1 hq] at hF; cases hF
                | some g => exact ⟨g, rfl⟩
              obtain ⟨hm1, hm2⟩ := first_some hg1
              obtain ⟨_, _, q1, q2, _⟩ := flt_lacks hm1
              obtain ⟨q3, q4, q5, q6, y, hy, hy0⟩ := flt_lacks (fault_some hF)
              have q7 := hm2 f (fault_some hF)
              rw [hwt] at q1 q5
              have hfa : fauV S (m : Int) = (.agg #[.bool true, .int .i64 (f.i : Int), .int .i64 (f.n : Int), .int .i64 (f.w : Int), .int .i64 (f.k : Int)], 0) := by unfold fauV; rw [hB, hC, show ((m : Int)).toNat = m from rfl, hF]; rfl
              have hfi : fstI S (m : Int) = ((g.w : Int), (g.k : Int), 0) := by unfold fstI; rw [hB, hC, show ((m : Int)).toNat = m from rfl, hg1]; rfl
              have KR2 := KRU f.i f.n q3 q4
              have hz : ∀ t, t < g.w → (S.run m (S.ices.getD ii []) (S.wins.getD nn [])).lacks[t]? = some z3 := fun t ht => enough_some hi2 hn2 hg1 ht (by rw [hwt]; omega)
              have HZ := Lib.hid hz; have HY := Lib.hid hy; have HY0 := Lib.hid hy0
              have q8 : f.i < ni := by rw [← HLI.out]; exact q3
              have q9 : f.n < nw := by rw [← HLW.out]; exact q4
              clear hm1 hm2 q3 q4 hg1 hz hy hy0 hF
              obtain ⟨fi, fn, fw, fk⟩ := f
              obtain ⟨_, _, gw, gk⟩ := g
              simp only at q1 q2 q5 q6 q7 q8 q9 hfa hfi KR2 HZ HY HY0
              have KFO : Hid (∀ u, Below w1.heap.size w1 u → Calls Tryd.prog 24 #[.agg #[.int .i64 S.st.a, .int .i64 S.st.b, .int .i64 S.st.c, .int .i64 S.yd.a, .int .i64 S.yd.b, .int .i64 S.yd.c, .int .i64 S.rate, .int .i64 S.weeks, .int .i64 S.land, .slice AS ns cs, .slice AI ni ci, .slice AW nw cw], .int .i64 (m : Int)] u fun e w' => e = .returned (.tuple #[.agg #[.bool true, .int .i64 (fi : Int), .int .i64 (fn : Int), .int .i64 (fw : Int), .int .i64 (fk : Int)], .int .i64 0]) ∧ Below u.heap.size u w') := Lib.hid fun u hu => by have := Fault_any (HI.out.up hu) (m : Int); simp only at this; rw [hfa] at this; exact this
              have KFI : Hid (∀ u, Below w1.heap.size w1 u → Calls Tryd.prog 25 #[.agg #[.int .i64 S.st.a, .int .i64 S.st.b, .int .i64 S.st.c, .int .i64 S.yd.a, .int .i64 S.yd.b, .int .i64 S.yd.c, .int .i64 S.rate, .int .i64 S.weeks, .int .i64 S.land, .slice AS ns cs, .slice AI ni ci, .slice AW nw cw], .int .i64 (m : Int)] u fun e w' => e = .returned (.tuple #[.int .i64 (gw : Int), .int .i64 (gk : Int), .int .i64 0]) ∧ Below u.heap.size u w') := Lib.hid fun u hu => by have := First_any (HI.out.up hu) (m : Int); simp only at this; rw [hfi] at this; exact this
              have KIC2 : Hid (∀ u, Below w1.heap.size w1 u → Calls Tryd.prog 18 #[.agg #[.int .i64 S.st.a, .int .i64 S.st.b, .int .i64 S.st.c, .int .i64 S.yd.a, .int .i64 S.yd.b, .int .i64 S.yd.c, .int .i64 S.rate, .int .i64 S.weeks, .int .i64 S.land, .slice AS ns cs, .slice AI ni ci, .slice AW nw cw], .int .i64 (fi : Int)] u fun e w' => e = .returned (.bool true) ∧ Below u.heap.size u w') := Lib.hid fun u hu => by have := ice_any (X := ⟨S, AS, ns, cs, AI, ni, ci, AW, nw, cw⟩) (w := u) (fi : Int); simp only at this; rw [decide_eq_true (show 0 ≤ (fi : Int) ∧ (fi : Int) < (ni : Int) by omega)] at this; exact this
              have KWI2 : Hid (∀ u, Below w1.heap.size w1 u → Calls Tryd.prog 19 #[.agg #[.int .i64 S.st.a, .int .i64 S.st.b, .int .i64 S.st.c, .int .i64 S.yd.a, .int .i64 S.yd.b, .int .i64 S.yd.c, .int .i64 S.rate, .int .i64 S.weeks, .int .i64 S.land, .slice AS ns cs, .slice AI ni ci, .slice AW nw cw], .int .i64 (fn : Int)] u fun e w' => e = .returned (.bool true) ∧ Below u.heap.size u w') := Lib.hid fun u hu => by have := winter_any (X := ⟨S, AS, ns, cs, AI, ni, ci, AW, nw, cw⟩) (w := u) (fn : Int); simp only at this; rw [decide_eq_true (show 0 ≤ (fn : Int) ∧ (fn : Int) < (nw : Int) by omega)] at this; exact this
              rw [HWK.out] at KSH KST KPL KIC KWI KR1 KR2 KFO KFI KIC2 KWI2 s7
              clear hB hC hok n6 HLS2 hD hE hni hnn hm hi2 hn2 hwk hwt KRU LL hfa hfi q8 q9
              have a1 : ¬ (gw : Int) < 0 := by omega
              have a2 : ¬ (gw : Int) ≥ (wk : Int) := by omega
              have a3 : ¬ (gk : Int) < 0 := by omega
              have a4 : ¬ (gk : Int) > 2 := by omega
              have a5 : ¬ (fw : Int) < (gw : Int) := by omega
              have a6 : ¬ (fw : Int) ≥ (wk : Int) := by omega
              have a7 : ¬ (fk : Int) < 0 := by omega
              have a8 : ¬ (fk : Int) > 2 := by omega
              have b1 : (0 : Int) ≤ (fw : Int) := by omega
              have b2 : (fw : Int) < (wk : Int) := by omega
              have b3 : (0 : Int) ≤ (fk : Int) := by omega
              have b4 : (fk : Int) < 3 := by omega
              go_enter Tryd.func6, Tryd.ntmps6
              go_wp2_with fail
              rw [HW1.out]
              refine (KSH.out _ HB1.out).mono ?_
              rintro e w2 ⟨rfl, hb⟩
              have HB2 := Lib.hid (HB1.out.trans (hb.mono HB1.out.size)); have Z2 := Lib.hid ((hb.block _ (heapsz Z1.out)).trans Z1.out)
              clear hb s0 s1 s2 s3 s4 s5 s6 s7 s8 s9 s10 s11 Z1
              obtain ⟨⟨s0, s1, s2⟩, ⟨s3, s4, s5⟩, ⟨s6, s7, s8⟩, s9, s10, s11⟩ := sto_box Z2.out
              simp only at s0 s1 s2 s3 s4 s5 s6 s7 s8 s9 s10 s11
              rw [HWK.out] at s7
              go_wp2_with fail
              refine (KST.out _ HB2.out).mono ?_
              rintro e w3 ⟨rfl, hb⟩
              have HB3 := Lib.hid (HB2.out.trans (hb.mono HB2.out.size)); have Z3 := Lib.hid ((hb.block _ (heapsz Z2.out)).trans Z2.out)
              clear hb s0 s1 s2 s3 s4 s5 s6 s7 s8 s9 s10 s11 Z2
              obtain ⟨⟨s0, s1, s2⟩, ⟨s3, s4, s5⟩, ⟨s6, s7, s8⟩, s9, s10, s11⟩ := sto_box Z3.out
              simp only at s0 s1 s2 s3 s4 s5 s6 s7 s8 s9 s10 s11
              rw [HWK.out] at s7
              go_wp2_with fail
              refine (KPL.out _ HB3.out).mono ?_
              rintro e w4 ⟨rfl, hb⟩
              have HB4 := Lib.hid (HB3.out.trans (hb.mono HB3.out.size)); have Z4 := Lib.hid ((hb.block _ (heapsz Z3.out)).trans Z3.out)
              clear hb s0 s1 s2 s3 s4 s5 s6 s7 s8 s9 s10 s11 Z3
              obtain ⟨⟨s0, s1, s2⟩, ⟨s3, s4, s5⟩, ⟨s6, s7, s8⟩, s9, s10, s11⟩ := sto_box Z4.out
              simp only at s0 s1 s2 s3 s4 s5 s6 s7 s8 s9 s10 s11
              rw [HWK.out] at s7
              go_wp2_with fail
              refine (KIC.out _ HB4.out).mono ?_
              rintro e w5 ⟨rfl, hb⟩
              have HB5 := Lib.hid (HB4.out.trans (hb.mono HB4.out.size)); have Z5 := Lib.hid ((hb.block _ (heapsz Z4.out)).trans Z4.out)
              clear hb s0 s1 s2 s3 s4 s5 s6 s7 s8 s9 s10 s11 Z4
              obtain ⟨⟨s0, s1, s2⟩, ⟨s3, s4, s5⟩, ⟨s6, s7, s8⟩, s9, s10, s11⟩ := sto_box Z5.out
              simp only at s0 s1 s2 s3 s4 s5 s6 s7 s8 s9 s10 s11
              rw [HWK.out] at s7
              go_wp2_with fail
              refine (KWI.out _ HB5.out).mono ?_
              rintro e w6 ⟨rfl, hb⟩
              have HB6 := Lib.hid (HB5.out.trans (hb.mono HB5.out.size)); have Z6 := Lib.hid ((hb.block _ (heapsz Z5.out)).trans Z5.out)
              clear hb s0 s1 s2 s3 s4 s5 s6 s7 s8 s9 s10 s11 Z5
              obtain ⟨⟨s0, s1, s2⟩, ⟨s3, s4, s5⟩, ⟨s6, s7, s8⟩, s9, s10, s11⟩ := sto_box Z6.out
              simp only at s0 s1 s2 s3 s4 s5 s6 s7 s8 s9 s10 s11
              rw [HWK.out] at s7
              go_wp2_with fail
              refine (KFO.out _ HB6.out).mono ?_
              rintro e w7 ⟨rfl, hb⟩
              have HB7 := Lib.hid (HB6.out.trans (hb.mono HB6.out.size)); have Z7 := Lib.hid ((hb.block _ (heapsz Z6.out)).trans Z6.out)
              clear hb s0 s1 s2 s3 s4 s5 s6 s7 s8 s9 s10 s11 Z6
              obtain ⟨⟨s0, s1, s2⟩, ⟨s3, s4, s5⟩, ⟨s6, s7, s8⟩, s9, s10, s11⟩ := sto_box Z7.out
              simp only at s0 s1 s2 s3 s4 s5 s6 s7 s8 s9 s10 s11
              rw [HWK.out] at s7
              clear s0 s1 s2 s3 s4 s5 s6 s7 s8 s9 s10 s11
              have al := (Below.refl w7.heap.size w7).alloc (Nat.le_refl _) (.cells #[.bool true, .int .i64 (fi : Int), .int .i64 (fn : Int), .int .i64 (fw : Int), .int .i64 (fk : Int)] 48)
              have zf := heap_alloc_new w7 (.cells #[.bool true, .int .i64 (fi : Int), .int .i64 (fn : Int), .int .i64 (fw : Int), .int .i64 (fk : Int)] 48)
              have ZU := Lib.hid ((al.block _ (heapsz Z7.out)).trans Z7.out)
              obtain ⟨⟨s0, s1, s2⟩, ⟨s3, s4, s5⟩, ⟨s6, s7, s8⟩, s9, s10, s11⟩ := sto_box ZU.out
              simp only at s0 s1 s2 s3 s4 s5 s6 s7 s8 s9 s10 s11
              rw [HWK.out] at s7
              have fv0 := cell_of_row _ _ 0 _ 48 (0, 0) zf
              have fv1 := cell_of_row _ _ 1 _ 48 (0, 0) zf
              have fv2 := cell_of_row _ _ 2 _ 48 (0, 0) zf
              have fv3 := cell_of_row _ _ 3 _ 48 (0, 0) zf
              have fv4 := cell_of_row _ _ 4 _ 48 (0, 0) zf
              simp at fv0 fv1 fv2 fv3 fv4
              obtain ⟨w8, hw8⟩ : ∃ W, w7.alloc (.cells #[.bool true, .int .i64 (fi : Int), .int .i64 (fn : Int), .int .i64 (fw : Int), .int .i64 (fk : Int)] 48) = W := ⟨_, rfl⟩
              have HW8 := Lib.hid hw8
              have HB8 := Lib.hid (HB7.out.trans (al.mono HB7.out.size)); have Z8 := ZU; have Fv_8 := Lib.hid zf; have AL8 := Lib.hid al
              rw [hw8] at HB8 Z8 Fv_8 AL8
              clear al zf ZU hw8 Z7
              go_wp2_with fail
              rw [HW8.out]
              refine (KFI.out _ HB8.out).mono ?_
              rintro e w9 ⟨rfl, hb⟩
              have HB9 := Lib.hid (HB8.out.trans (hb.mono HB8.out.size)); have Z9 := Lib.hid ((hb.block _ (heapsz Z8.out)).trans Z8.out)
              have Fv_9 := Lib.hid ((hb.block _ (heapsz Fv_8.out)).trans Fv_8.out)
              clear hb s0 s1 s2 s3 s4 s5 s6 s7 s8 s9 s10 s11 fv0 fv1 fv2 fv3 fv4 Z8 Fv_8
              obtain ⟨⟨s0, s1, s2⟩, ⟨s3, s4, s5⟩, ⟨s6, s7, s8⟩, s9, s10, s11⟩ := sto_box Z9.out
              simp only at s0 s1 s2 s3 s4 s5 s6 s7 s8 s9 s10 s11
              rw [HWK.out] at s7
              have fv0 := cell_of_row _ _ 0 _ 48 (0, 0) Fv_9.out
              have fv1 := cell_of_row _ _ 1 _ 48 (0, 0) Fv_9.out
              have fv2 := cell_of_row _ _ 2 _ 48 (0, 0) Fv_9.out
              have fv3 := cell_of_row _ _ 3 _ 48 (0, 0) Fv_9.out
              have fv4 := cell_of_row _ _ 4 _ 48 (0, 0) Fv_9.out
              simp at fv0 fv1 fv2 fv3 fv4
              go_wp2_with fail
              refine (KR1.out _ HB9.out).mono ?_
              rintro e w10 ⟨hb, D, A2, n2, c2, A3, c3, rfl, hg⟩
              have HB10 := Lib.hid (HB9.out.trans (hb.mono HB9.out.size)); have Z10 := Lib.hid ((hb.block _ (heapsz Z9.out)).trans Z9.out)
              have Fv_10 := Lib.hid ((hb.block _ (heapsz Fv_9.out)).trans Fv_9.out)
              have HG := Lib.hid hg; clear hg
              clear hb s0 s1 s2 s3 s4 s5 s6 s7 s8 s9 s10 s11 fv0 fv1 fv2 fv3 fv4 Z9 Fv_9
              obtain ⟨⟨s0, s1, s2⟩, ⟨s3, s4, s5⟩, ⟨s6, s7, s8⟩, s9, s10, s11⟩ := sto_box Z10.out
              simp only at s0 s1 s2 s3 s4 s5 s6 s7 s8 s9 s10 s11
              rw [HWK.out] at s7
              have fv0 := cell_of_row _ _ 0 _ 48 (0, 0) Fv_10.out
              have fv1 := cell_of_row _ _ 1 _ 48 (0, 0) Fv_10.out
              have fv2 := cell_of_row _ _ 2 _ 48 (0, 0) Fv_10.out
              have fv3 := cell_of_row _ _ 3 _ 48 (0, 0) Fv_10.out
              have fv4 := cell_of_row _ _ 4 _ 48 (0, 0) Fv_10.out
              simp at fv0 fv1 fv2 fv3 fv4
              clear s0 s1 s2 s3 s4 s5 s6 s7 s8 s9 s10 s11 fv0 fv1 fv2 fv3 fv4
              have al := (Below.refl w10.heap.size w10).alloc (Nat.le_refl _) (.cells #[.slice (some ⟨D, 0, none⟩) ns ns, .slice A2 n2 c2, .slice A3 wk c3] 35)
              have zf := heap_alloc_new w10 (.cells #[.slice (some ⟨D, 0, none⟩) ns ns, .slice A2 n2 c2, .slice A3 wk c3] 35)
              have ZU := Lib.hid ((al.block _ (heapsz Z10.out)).trans Z10.out)
              obtain ⟨⟨s0, s1, s2⟩, ⟨s3, s4, s5⟩, ⟨s6, s7, s8⟩, s9, s10, s11⟩ := sto_box ZU.out
              simp only at s0 s1 s2 s3 s4 s5 s6 s7 s8 s9 s10 s11
              rw [HWK.out] at s7
              have FvU := Lib.hid ((al.block _ (heapsz Fv_10.out)).trans Fv_10.out)
              have fv0 := cell_of_row _ _ 0 _ 48 (0, 0) FvU.out
              have fv1 := cell_of_row _ _ 1 _ 48 (0, 0) FvU.out
              have fv2 := cell_of_row _ _ 2 _ 48 (0, 0) FvU.out
              have fv3 := cell_of_row _ _ 3 _ 48 (0, 0) FvU.out
              have fv4 := cell_of_row _ _ 4 _ 48 (0, 0) FvU.out
              simp at fv0 fv1 fv2 fv3 fv4
              have fx0 := cell_of_row _ _ 0 _ 35 (0, 0) zf
              have fx1 := cell_of_row _ _ 1 _ 35 (0, 0) zf
              have fx2 := cell_of_row _ _ 2 _ 35 (0, 0) zf
              simp at fx0 fx1 fx2
              obtain ⟨w11, hw11⟩ : ∃ W, w10.alloc (.cells #[.slice (some ⟨D, 0, none⟩) ns ns, .slice A2 n2 c2, .slice A3 wk c3] 35) = W := ⟨_, rfl⟩
              have HW11 := Lib.hid hw11
              have HB11 := Lib.hid (HB10.out.trans (al.mono HB10.out.size)); have Z11 := ZU; have Fx_11 := Lib.hid zf; have AL11 := Lib.hid al
              have Fv_11 := FvU
              rw [hw11] at HB11 Z11 Fx_11 AL11 Fv_11
              clear al zf ZU FvU hw11 Z10 Fv_10
              have HG2 := Lib.hid (HG.out.up AL11.out); clear HG
              go_wp2_with fail
              rw [HW11.out]
              refine (KIC2.out _ HB11.out).mono ?_
              rintro e w12 ⟨rfl, hb⟩
              have HB12 := Lib.hid (HB11.out.trans (hb.mono HB11.out.size)); have Z12 := Lib.hid ((hb.block _ (heapsz Z11.out)).trans Z11.out)
              have Fv_12 := Lib.hid ((hb.block _ (heapsz Fv_11.out)).trans Fv_11.out)
              have Fx_12 := Lib.hid ((hb.block _ (heapsz Fx_11.out)).trans Fx_11.out)
              have HG3 := Lib.hid (HG2.out.up hb); clear HG2
              clear hb s0 s1 s2 s3 s4 s5 s6 s7 s8 s9 s10 s11 fv0 fv1 fv2 fv3 fv4 fx0 fx1 fx2 Z11 Fv_11 Fx_11
              obtain ⟨⟨s0, s1, s2⟩, ⟨s3, s4, s5⟩, ⟨s6, s7, s8⟩, s9, s10, s11⟩ := sto_box Z12.out
              simp only at s0 s1 s2 s3 s4 s5 s6 s7 s8 s9 s10 s11
              rw [HWK.out] at s7
              have fv0 := cell_of_row _ _ 0 _ 48 (0, 0) Fv_12.out
              have fv1 := cell_of_row _ _ 1 _ 48 (0, 0) Fv_12.out
              have fv2 := cell_of_row _ _ 2 _ 48 (0, 0) Fv_12.out
              have fv3 := cell_of_row _ _ 3 _ 48 (0, 0) Fv_12.out
              have fv4 := cell_of_row _ _ 4 _ 48 (0, 0) Fv_12.out
              simp at fv0 fv1 fv2 fv3 fv4
              have fx0 := cell_of_row _ _ 0 _ 35 (0, 0) Fx_12.out
              have fx1 := cell_of_row _ _ 1 _ 35 (0, 0) Fx_12.out
              have fx2 := cell_of_row _ _ 2 _ 35 (0, 0) Fx_12.out
              simp at fx0 fx1 fx2
              go_wp2_with fail
              refine (KWI2.out _ HB12.out).mono ?_
              rintro e w13 ⟨rfl, hb⟩
              have HB13 := Lib.hid (HB12.out.trans (hb.mono HB12.out.size)); have Z13 := Lib.hid ((hb.block _ (heapsz Z12.out)).trans Z12.out)
              have Fv_13 := Lib.hid ((hb.block _ (heapsz Fv_12.out)).trans Fv_12.out)
              have Fx_13 := Lib.hid ((hb.block _ (heapsz Fx_12.out)).trans Fx_12.out)
              have HG4 := Lib.hid (HG3.out.up hb); clear HG3
              clear hb s0 s1 s2 s3 s4 s5 s6 s7 s8 s9 s10 s11 fv0 fv1 fv2 fv3 fv4 fx0 fx1 fx2 Z12 Fv_12 Fx_12
              obtain ⟨⟨s0, s1, s2⟩, ⟨s3, s4, s5⟩, ⟨s6, s7, s8⟩, s9, s10, s11⟩ := sto_box Z13.out
              simp only at s0 s1 s2 s3 s4 s5 s6 s7 s8 s9 s10 s11
              rw [HWK.out] at s7
              have fv0 := cell_of_row _ _ 0 _ 48 (0, 0) Fv_13.out
              have fv1 := cell_of_row _ _ 1 _ 48 (0, 0) Fv_13.out
              have fv2 := cell_of_row _ _ 2 _ 48 (0, 0) Fv_13.out
              have fv3 := cell_of_row _ _ 3 _ 48 (0, 0) Fv_13.out
              have fv4 := cell_of_row _ _ 4 _ 48 (0, 0) Fv_13.out
              simp at fv0 fv1 fv2 fv3 fv4
              have fx0 := cell_of_row _ _ 0 _ 35 (0, 0) Fx_13.out
              have fx1 := cell_of_row _ _ 1 _ 35 (0, 0) Fx_13.out
              have fx2 := cell_of_row _ _ 2 _ 35 (0, 0) Fx_13.out
              simp at fx0 fx1 fx2
              go_wp2_with fail
              refine (KR2.out _ HB13.out).mono ?_
              rintro e w14 ⟨hb, D2, B2, m2, d2, B3, d3, rfl, hg⟩
              have HB14 := Lib.hid (HB13.out.trans (hb.mono HB13.out.size)); have Z14 := Lib.hid ((hb.block _ (heapsz Z13.out)).trans Z13.out)
              have Fv_14 := Lib.hid ((hb.block _ (heapsz Fv_13.out)).trans Fv_13.out)
              have Fx_14 := Lib.hid ((hb.block _ (heapsz Fx_13.out)).trans Fx_13.out)
              have HG5 := Lib.hid (HG4.out.up hb); clear HG4; have HY1 := Lib.hid hg; clear hg
              clear hb s0 s1 s2 s3 s4 s5 s6 s7 s8 s9 s10 s11 fv0 fv1 fv2 fv3 fv4 fx0 fx1 fx2 Z13 Fv_13 Fx_13
              obtain ⟨⟨s0, s1, s2⟩, ⟨s3, s4, s5⟩, ⟨s6, s7, s8⟩, s9, s10, s11⟩ := sto_box Z14.out
              simp only at s0 s1 s2 s3 s4 s5 s6 s7 s8 s9 s10 s11
              rw [HWK.out] at s7
              have fv0 := cell_of_row _ _ 0 _ 48 (0, 0) Fv_14.out
              have fv1 := cell_of_row _ _ 1 _ 48 (0, 0) Fv_14.out
              have fv2 := cell_of_row _ _ 2 _ 48 (0, 0) Fv_14.out
              have fv3 := cell_of_row _ _ 3 _ 48 (0, 0) Fv_14.out
              have fv4 := cell_of_row _ _ 4 _ 48 (0, 0) Fv_14.out
              simp at fv0 fv1 fv2 fv3 fv4
              have fx0 := cell_of_row _ _ 0 _ 35 (0, 0) Fx_14.out
              have fx1 := cell_of_row _ _ 1 _ 35 (0, 0) Fx_14.out
              have fx2 := cell_of_row _ _ 2 _ 35 (0, 0) Fx_14.out
              simp at fx0 fx1 fx2
              clear s0 s1 s2 s3 s4 s5 s6 s7 s8 s9 s10 s11 fv0 fv1 fv2 fv3 fv4 fx0 fx1 fx2
              have al := (Below.refl w14.heap.size w14).alloc (Nat.le_refl _) (.cells #[.slice (some ⟨D2, 0, none⟩) ns ns, .slice B2 m2 d2, .slice B3 wk d3] 35)
              have zf := heap_alloc_new w14 (.cells #[.slice (some ⟨D2, 0, none⟩) ns ns, .slice B2 m2 d2, .slice B3 wk d3] 35)
              have ZU := Lib.hid ((al.block _ (heapsz Z14.out)).trans Z14.out)
              obtain ⟨⟨s0, s1, s2⟩, ⟨s3, s4, s5⟩, ⟨s6, s7, s8⟩, s9, s10, s11⟩ := sto_box ZU.out
              simp only at s0 s1 s2 s3 s4 s5 s6 s7 s8 s9 s10 s11
              rw [HWK.out] at s7
              have FvU := Lib.hid ((al.block _ (heapsz Fv_14.out)).trans Fv_14.out)
              have fv0 := cell_of_row _ _ 0 _ 48 (0, 0) FvU.out
              have fv1 := cell_of_row _ _ 1 _ 48 (0, 0) FvU.out
              have fv2 := cell_of_row _ _ 2 _ 48 (0, 0) FvU.out
              have fv3 := cell_of_row _ _ 3 _ 48 (0, 0) FvU.out
              have fv4 := cell_of_row _ _ 4 _ 48 (0, 0) FvU.out
              simp at fv0 fv1 fv2 fv3 fv4
              have FxU := Lib.hid ((al.block _ (heapsz Fx_14.out)).trans Fx_14.out)
              have fx0 := cell_of_row _ _ 0 _ 35 (0, 0) FxU.out
              have fx1 := cell_of_row _ _ 1 _ 35 (0, 0) FxU.out
              have fx2 := cell_of_row _ _ 2 _ 35 (0, 0) FxU.out
              simp at fx0 fx1 fx2
              have fy0 := cell_of_row _ _ 0 _ 35 (0, 0) zf
              have fy1 := cell_of_row _ _ 1 _ 35 (0, 0) zf
              have fy2 := cell_of_row _ _ 2 _ 35 (0, 0) zf
              simp at fy0 fy1 fy2
              obtain ⟨w15, hw15⟩ : ∃ W, w14.alloc (.cells #[.slice (some ⟨D2, 0, none⟩) ns ns, .slice B2 m2 d2, .slice B3 wk d3] 35) = W := ⟨_, rfl⟩
              have HW15 := Lib.hid hw15
              have HB15 := Lib.hid (HB14.out.trans (al.mono HB14.out.size)); have Z15 := ZU; have Fy_15 := Lib.hid zf; have AL15 := Lib.hid al
              have Fv_15 := FvU
              have Fx_15 := FxU
              rw [hw15] at HB15 Z15 Fy_15 AL15 Fv_15 Fx_15
              clear al zf ZU FvU FxU hw15 Z14 Fv_14 Fx_14
              have HG := Lib.hid (HG5.out.up AL15.out); clear HG5
              have HY2 := HY1.out.up AL15.out
              obtain ⟨bb, oo, rfl, hbb, hat⟩ := gds_at HY2 HY.out
              have hv := hat fk q6; clear hat HY2 hbb
              rw [← HW15.out] at hv
              have hv0 := HY0.out
              obtain ⟨vv, hvv⟩ : ∃ z, y.at fk = z := ⟨_, rfl⟩
              rw [hvv] at hv hv0
              have a9 : ¬ vv ≤ 0 := by omega
              clear hvv
              go_wp2_with fail
              go_quiet (fail)
              go_wp2_with fail
              rw [HW15.out]
              clear s0 s1 s2 s3 s4 s5 s6 s7 s8 s9 s10 s11 fv0 fv1 fv2 fv3 fv4 fx0 fx1 fx2 fy0 fy1 fy2
              have fx := cell_of_row _ _ 2 _ 35 (0, 0) Fx_15.out
              simp at fx
              go_loopw [19] (fun v wr => ∃ t : Nat, t ≤ gw ∧ v = .int .i64 t ∧ wr = (w15.drewN nq)) (fun v _ => gw - (intOf v).toNat)
              case atStart => exact ⟨0, Nat.zero_le _, rfl, rfl⟩
              case round =>
                obtain ⟨t, hk, rfl, rfl⟩ := hrel
                by_cases hlt : t < gw
                · have k0 : (0 : Int) ≤ (t : Int) := by omega
                  have k1 : (t : Int) < (gw : Int) := by omega
                  have k2 : (t : Int) < (wk : Int) := by omega
                  obtain ⟨b, o, rfl, hbb, c0, c1, c2_⟩ := gds_el HG.out (HZ.out t hlt)
                  simp only [z3] at c0 c1 c2_
                  have hg : Tryd.prog.eqGuardType Tryd.prog.depth 23 = false := by kernel_rfl
                  have Q23 := fun w => eq_yes (g := z3) rfl w
                  simp only [z3] at Q23
                  go_wp2_with fail
                  exact ⟨⟨t + 1, by omega, by go_num, trivial⟩, by simp [intOf]; omega⟩
                · have hke : t = gw := by omega
                  have k1 : ¬ (t : Int) < (gw : Int) := by omega
                  subst hke
                  go_wp2_with fail
                  refine (KKN.out _ (belN HB15.out _)).mono ?_
                  rintro e wz ⟨rfl, hb⟩
                  have HBZ := Lib.hid ((belN HB15.out _).trans (hb.mono (belN HB15.out _).size))
                  clear hb
                  go_wp2_with fail
                  go_ret
                  exact ⟨rfl, HB0.out.trans (HBZ.out.mono HB0.out.size)⟩
end Go.Proofs.YtijjkiogmlannaaDoor
