/- Stores: the law of prices: no plan that suffices costs less than the floor of fair prices. -/
import Derived.Test.YtijjkiogmlannaaDoorDA
namespace Go.Proofs.YtijjkiogmlannaaDoor
open Go.RowKit

set_option maxRecDepth 100000 in
set_option maxHeartbeats 8000000 in
theorem floored_law {X : SX} {w : World} (h : X.In w) (ht : Tab w) (o n : Int) (p : Gd) : Calls Tryd.prog 10 #[X.v, .int .i64 o, .int .i64 n, gV p] w fun e w' => e = .returned (.bool true) ∧ Below w.heap.size w w' := by
  rcases X with ⟨S, AS, ns, cs, AI, ni, ci, AW, nw, cw⟩
  obtain ⟨z0, z1, hb0⟩ := two_new w (.cells (SX.cells ⟨S, AS, ns, cs, AI, ni, ci, AW, nw, cw⟩) 28) (.cells (gC p) 23)
  obtain ⟨w1, hw1⟩ : ∃ z, (w.alloc (.cells (SX.cells ⟨S, AS, ns, cs, AI, ni, ci, AW, nw, cw⟩) 28)).alloc (.cells (gC p) 23) = z := ⟨_, rfl⟩
  obtain ⟨⟨s0, s1, s2⟩, ⟨s3, s4, s5⟩, ⟨s6, s7, s8⟩, s9, s10, s11⟩ := sto_box z0
  obtain ⟨p0, p1, p2⟩ := g_cells z1
  simp only at s0 s1 s2 s3 s4 s5 s6 s7 s8 s9 s10 s11
  rw [hw1] at z0 z1 hb0
  have hls := h.hs; have hlw := h.hw
  simp only at hls hlw
  have HB0 := Lib.hid hb0; have HB1 := Lib.hid (Below.refl w1.heap.size w1); have Z1 := Lib.hid z0; have P1 := Lib.hid z1; have HI := Lib.hid (h.up hb0); have HW1 := Lib.hid hw1; have HT := Lib.hid (ht.next hb0); have HLS := Lib.hid hls; have HLW := Lib.hid hlw
  obtain ⟨A, hA⟩ : ∃ z, shortB ⟨S, AS, ns, cs, AI, ni, ci, AW, nw, cw⟩ = z := ⟨_, rfl⟩
  have KSH : Hid (∀ u, Below w1.heap.size w1 u → Calls Tryd.prog 12 #[.agg #[.int .i64 S.st.a, .int .i64 S.st.b, .int .i64 S.st.c, .int .i64 S.yd.a, .int .i64 S.yd.b, .int .i64 S.yd.c, .int .i64 S.rate, .int .i64 S.weeks, .int .i64 S.land, .slice AS ns cs, .slice AI ni ci, .slice AW nw cw]] u fun e w' => e = .returned (.bool A) ∧ Below u.heap.size u w') := Lib.hid fun u hu => by rw [← hA]; exact short_any (HI.out.up hu)
  have KKN : Hid (∀ u, Below w1.heap.size w1 u → Calls Tryd.prog 13 #[] u fun e w' => e = .returned (.bool true) ∧ Below u.heap.size u w') := Lib.hid fun u hu => known_any u (HT.out.next hu)
  clear h ht z0 z1 hb0 hw1 hls hlw hA
  cases A with
  | false =>
    go_enter Tryd.func10, Tryd.ntmps10
    go_wp2_with fail
    rw [HW1.out]
    refine (KSH.out _ HB1.out).mono ?_
    rintro e w2 ⟨rfl, hb⟩
    have HB2 := Lib.hid (HB1.out.trans (hb.mono HB1.out.size)); have Z2 := Lib.hid ((hb.block _ (heapsz Z1.out)).trans Z1.out)
    have P2 := Lib.hid ((hb.block _ (heapsz P1.out)).trans P1.out)
    clear hb s0 s1 s2 s3 s4 s5 s6 s7 s8 s9 s10 s11 p0 p1 p2 Z1 P1
    obtain ⟨⟨s0, s1, s2⟩, ⟨s3, s4, s5⟩, ⟨s6, s7, s8⟩, s9, s10, s11⟩ := sto_box Z2.out
    obtain ⟨p0, p1, p2⟩ := g_cells P2.out
    simp only at s0 s1 s2 s3 s4 s5 s6 s7 s8 s9 s10 s11
    go_wp2_with fail
    refine (KKN.out _ HB2.out).mono ?_
    rintro e w3 ⟨rfl, hb⟩
    have HB3 := Lib.hid (HB2.out.trans (hb.mono HB2.out.size)); have Z3 := Lib.hid ((hb.block _ (heapsz Z2.out)).trans Z2.out)
    have P3 := Lib.hid ((hb.block _ (heapsz P2.out)).trans P2.out)
    clear hb s0 s1 s2 s3 s4 s5 s6 s7 s8 s9 s10 s11 p0 p1 p2 Z2 P2
    obtain ⟨⟨s0, s1, s2⟩, ⟨s3, s4, s5⟩, ⟨s6, s7, s8⟩, s9, s10, s11⟩ := sto_box Z3.out
    obtain ⟨p0, p1, p2⟩ := g_cells P3.out
    simp only at s0 s1 s2 s3 s4 s5 s6 s7 s8 s9 s10 s11
    go_wp2_with fail
    go_ret
    exact ⟨rfl, HB0.out.trans (HB3.out.mono HB0.out.size)⟩
  | true =>
    obtain ⟨B, hB⟩ : ∃ z, stoB S = z := ⟨_, rfl⟩
    have KST : Hid (∀ u, Below w1.heap.size w1 u → Calls Tryd.prog 16 #[.agg #[.int .i64 S.st.a, .int .i64 S.st.b, .int .i64 S.st.c, .int .i64 S.yd.a, .int .i64 S.yd.b, .int .i64 S.yd.c, .int .i64 S.rate, .int .i64 S.weeks, .int .i64 S.land, .slice AS ns cs, .slice AI ni ci, .slice AW nw cw]] u fun e w' => e = .returned (.bool B) ∧ Below u.heap.size u w') := Lib.hid fun u hu => by rw [← hB]; exact rstore_any (HI.out.up hu)
    cases B with
    | false =>
      clear hB
      go_enter Tryd.func10, Tryd.ntmps10
      go_wp2_with fail
      rw [HW1.out]
      refine (KSH.out _ HB1.out).mono ?_
      rintro e w2 ⟨rfl, hb⟩
      have HB2 := Lib.hid (HB1.out.trans (hb.mono HB1.out.size)); have Z2 := Lib.hid ((hb.block _ (heapsz Z1.out)).trans Z1.out)
      have P2 := Lib.hid ((hb.block _ (heapsz P1.out)).trans P1.out)
      clear hb s0 s1 s2 s3 s4 s5 s6 s7 s8 s9 s10 s11 p0 p1 p2 Z1 P1
      obtain ⟨⟨s0, s1, s2⟩, ⟨s3, s4, s5⟩, ⟨s6, s7, s8⟩, s9, s10, s11⟩ := sto_box Z2.out
      obtain ⟨p0, p1, p2⟩ := g_cells P2.out
      simp only at s0 s1 s2 s3 s4 s5 s6 s7 s8 s9 s10 s11
      go_wp2_with fail
      refine (KST.out _ HB2.out).mono ?_
      rintro e w3 ⟨rfl, hb⟩
      have HB3 := Lib.hid (HB2.out.trans (hb.mono HB2.out.size)); have Z3 := Lib.hid ((hb.block _ (heapsz Z2.out)).trans Z2.out)
      have P3 := Lib.hid ((hb.block _ (heapsz P2.out)).trans P2.out)
      clear hb s0 s1 s2 s3 s4 s5 s6 s7 s8 s9 s10 s11 p0 p1 p2 Z2 P2
      obtain ⟨⟨s0, s1, s2⟩, ⟨s3, s4, s5⟩, ⟨s6, s7, s8⟩, s9, s10, s11⟩ := sto_box Z3.out
      obtain ⟨p0, p1, p2⟩ := g_cells P3.out
      simp only at s0 s1 s2 s3 s4 s5 s6 s7 s8 s9 s10 s11
      go_wp2_with fail
      refine (KKN.out _ HB3.out).mono ?_
      rintro e w4 ⟨rfl, hb⟩
      have HB4 := Lib.hid (HB3.out.trans (hb.mono HB3.out.size)); have Z4 := Lib.hid ((hb.block _ (heapsz Z3.out)).trans Z3.out)
      have P4 := Lib.hid ((hb.block _ (heapsz P3.out)).trans P3.out)
      clear hb s0 s1 s2 s3 s4 s5 s6 s7 s8 s9 s10 s11 p0 p1 p2 Z3 P3
      obtain ⟨⟨s0, s1, s2⟩, ⟨s3, s4, s5⟩, ⟨s6, s7, s8⟩, s9, s10, s11⟩ := sto_box Z4.out
      obtain ⟨p0, p1, p2⟩ := g_cells P4.out
      simp only at s0 s1 s2 s3 s4 s5 s6 s7 s8 s9 s10 s11
      go_wp2_with fail
      go_ret
      exact ⟨rfl, HB0.out.trans (HB4.out.mono HB0.out.size)⟩
    | true =>
      have hok := stoB_iff.1 hB
      have n6 := hok.n6
      have HOK := Lib.hid hok
      obtain ⟨C, hC⟩ : ∃ z, planOk S o = z := ⟨_, rfl⟩
      have HLS2 := HLS.out
      have KPL : Hid (∀ u, Below w1.heap.size w1 u → Calls Tryd.prog 17 #[.agg #[.int .i64 S.st.a, .int .i64 S.st.b, .int .i64 S.st.c, .int .i64 S.yd.a, .int .i64 S.yd.b, .int .i64 S.yd.c, .int .i64 S.rate, .int .i64 S.weeks, .int .i64 S.land, .slice AS ns cs, .slice AI ni ci, .slice AW nw cw], .int .i64 o] u fun e w' => e = .returned (.bool C) ∧ Below u.heap.size u w') := Lib.hid fun u hu => by rw [← hC]; exact rplan_any (X := ⟨S, AS, ns, cs, AI, ni, ci, AW, nw, cw⟩) (by rw [← HLS2]; exact n6) HLS2 o
      cases C with
      | false =>
        clear hB hC hok n6 HLS2
        go_enter Tryd.func10, Tryd.ntmps10
        go_wp2_with fail
        rw [HW1.out]
        refine (KSH.out _ HB1.out).mono ?_
        rintro e w2 ⟨rfl, hb⟩
        have HB2 := Lib.hid (HB1.out.trans (hb.mono HB1.out.size)); have Z2 := Lib.hid ((hb.block _ (heapsz Z1.out)).trans Z1.out)
        have P2 := Lib.hid ((hb.block _ (heapsz P1.out)).trans P1.out)
        clear hb s0 s1 s2 s3 s4 s5 s6 s7 s8 s9 s10 s11 p0 p1 p2 Z1 P1
        obtain ⟨⟨s0, s1, s2⟩, ⟨s3, s4, s5⟩, ⟨s6, s7, s8⟩, s9, s10, s11⟩ := sto_box Z2.out
        obtain ⟨p0, p1, p2⟩ := g_cells P2.out
        simp only at s0 s1 s2 s3 s4 s5 s6 s7 s8 s9 s10 s11
        go_wp2_with fail
        refine (KST.out _ HB2.out).mono ?_
        rintro e w3 ⟨rfl, hb⟩
        have HB3 := Lib.hid (HB2.out.trans (hb.mono HB2.out.size)); have Z3 := Lib.hid ((hb.block _ (heapsz Z2.out)).trans Z2.out)
        have P3 := Lib.hid ((hb.block _ (heapsz P2.out)).trans P2.out)
        clear hb s0 s1 s2 s3 s4 s5 s6 s7 s8 s9 s10 s11 p0 p1 p2 Z2 P2
        obtain ⟨⟨s0, s1, s2⟩, ⟨s3, s4, s5⟩, ⟨s6, s7, s8⟩, s9, s10, s11⟩ := sto_box Z3.out
        obtain ⟨p0, p1, p2⟩ := g_cells P3.out
        simp only at s0 s1 s2 s3 s4 s5 s6 s7 s8 s9 s10 s11
        go_wp2_with fail
        refine (KPL.out _ HB3.out).mono ?_
        rintro e w4 ⟨rfl, hb⟩
        have HB4 := Lib.hid (HB3.out.trans (hb.mono HB3.out.size)); have Z4 := Lib.hid ((hb.block _ (heapsz Z3.out)).trans Z3.out)
        have P4 := Lib.hid ((hb.block _ (heapsz P3.out)).trans P3.out)
        clear hb s0 s1 s2 s3 s4 s5 s6 s7 s8 s9 s10 s11 p0 p1 p2 Z3 P3
        obtain ⟨⟨s0, s1, s2⟩, ⟨s3, s4, s5⟩, ⟨s6, s7, s8⟩, s9, s10, s11⟩ := sto_box Z4.out
        obtain ⟨p0, p1, p2⟩ := g_cells P4.out
        simp only at s0 s1 s2 s3 s4 s5 s6 s7 s8 s9 s10 s11
        go_wp2_with fail
        refine (KKN.out _ HB4.out).mono ?_
        rintro e w5 ⟨rfl, hb⟩
        have HB5 := Lib.hid (HB4.out.trans (hb.mono HB4.out.size)); have Z5 := Lib.hid ((hb.block _ (heapsz Z4.out)).trans Z4.out)
        have P5 := Lib.hid ((hb.block _ (heapsz P4.out)).trans P4.out)
        clear hb s0 s1 s2 s3 s4 s5 s6 s7 s8 s9 s10 s11 p0 p1 p2 Z4 P4
        obtain ⟨⟨s0, s1, s2⟩, ⟨s3, s4, s5⟩, ⟨s6, s7, s8⟩, s9, s10, s11⟩ := sto_box Z5.out
        obtain ⟨p0, p1, p2⟩ := g_cells P5.out
        simp only at s0 s1 s2 s3 s4 s5 s6 s7 s8 s9 s10 s11
        go_wp2_with fail
        go_ret
        exact ⟨rfl, HB0.out.trans (HB5.out.mono HB0.out.size)⟩
      | true =>
        obtain ⟨D, hD⟩ : ∃ z, decide (0 ≤ n ∧ n < (nw : Int)) = z := ⟨_, rfl⟩
        have KWI : Hid (∀ u, Below w1.heap.size w1 u → Calls Tryd.prog 19 #[.agg #[.int .i64 S.st.a, .int .i64 S.st.b, .int .i64 S.st.c, .int .i64 S.yd.a, .int .i64 S.yd.b, .int .i64 S.yd.c, .int .i64 S.rate, .int .i64 S.weeks, .int .i64 S.land, .slice AS ns cs, .slice AI ni ci, .slice AW nw cw], .int .i64 n] u fun e w' => e = .returned (.bool D) ∧ Below u.heap.size u w') := Lib.hid fun u hu => by rw [← hD]; exact winter_any (X := ⟨S, AS, ns, cs, AI, ni, ci, AW, nw, cw⟩) n
        cases D with
        | false =>
          clear hB hC hok n6 HLS2 hD
          go_enter Tryd.func10, Tryd.ntmps10
          go_wp2_with fail
          rw [HW1.out]
          refine (KSH.out _ HB1.out).mono ?_
          rintro e w2 ⟨rfl, hb⟩
          have HB2 := Lib.hid (HB1.out.trans (hb.mono HB1.out.size)); have Z2 := Lib.hid ((hb.block _ (heapsz Z1.out)).trans Z1.out)
          have P2 := Lib.hid ((hb.block _ (heapsz P1.out)).trans P1.out)
          clear hb s0 s1 s2 s3 s4 s5 s6 s7 s8 s9 s10 s11 p0 p1 p2 Z1 P1
          obtain ⟨⟨s0, s1, s2⟩, ⟨s3, s4, s5⟩, ⟨s6, s7, s8⟩, s9, s10, s11⟩ := sto_box Z2.out
          obtain ⟨p0, p1, p2⟩ := g_cells P2.out
          simp only at s0 s1 s2 s3 s4 s5 s6 s7 s8 s9 s10 s11
          go_wp2_with fail
          refine (KST.out _ HB2.out).mono ?_
          rintro e w3 ⟨rfl, hb⟩
          have HB3 := Lib.hid (HB2.out.trans (hb.mono HB2.out.size)); have Z3 := Lib.hid ((hb.block _ (heapsz Z2.out)).trans Z2.out)
          have P3 := Lib.hid ((hb.block _ (heapsz P2.out)).trans P2.out)
          clear hb s0 s1 s2 s3 s4 s5 s6 s7 s8 s9 s10 s11 p0 p1 p2 Z2 P2
          obtain ⟨⟨s0, s1, s2⟩, ⟨s3, s4, s5⟩, ⟨s6, s7, s8⟩, s9, s10, s11⟩ := sto_box Z3.out
          obtain ⟨p0, p1, p2⟩ := g_cells P3.out
          simp only at s0 s1 s2 s3 s4 s5 s6 s7 s8 s9 s10 s11
          go_wp2_with fail
          refine (KPL.out _ HB3.out).mono ?_
          rintro e w4 ⟨rfl, hb⟩
          have HB4 := Lib.hid (HB3.out.trans (hb.mono HB3.out.size)); have Z4 := Lib.hid ((hb.block _ (heapsz Z3.out)).trans Z3.out)
          have P4 := Lib.hid ((hb.block _ (heapsz P3.out)).trans P3.out)
          clear hb s0 s1 s2 s3 s4 s5 s6 s7 s8 s9 s10 s11 p0 p1 p2 Z3 P3
          obtain ⟨⟨s0, s1, s2⟩, ⟨s3, s4, s5⟩, ⟨s6, s7, s8⟩, s9, s10, s11⟩ := sto_box Z4.out
          obtain ⟨p0, p1, p2⟩ := g_cells P4.out
          simp only at s0 s1 s2 s3 s4 s5 s6 s7 s8 s9 s10 s11
          go_wp2_with fail
          refine (KWI.out _ HB4.out).mono ?_
          rintro e w5 ⟨rfl, hb⟩
          have HB5 := Lib.hid (HB4.out.trans (hb.mono HB4.out.size)); have Z5 := Lib.hid ((hb.block _ (heapsz Z4.out)).trans Z4.out)
          have P5 := Lib.hid ((hb.block _ (heapsz P4.out)).trans P4.out)
          clear hb s0 s1 s2 s3 s4 s5 s6 s7 s8 s9 s10 s11 p0 p1 p2 Z4 P4
          obtain ⟨⟨s0, s1, s2⟩, ⟨s3, s4, s5⟩, ⟨s6, s7, s8⟩, s9, s10, s11⟩ := sto_box Z5.out
          obtain ⟨p0, p1, p2⟩ := g_cells P5.out
          simp only at s0 s1 s2 s3 s4 s5 s6 s7 s8 s9 s10 s11
          go_wp2_with fail
          refine (KKN.out _ HB5.out).mono ?_
          rintro e w6 ⟨rfl, hb⟩
          have HB6 := Lib.hid (HB5.out.trans (hb.mono HB5.out.size)); have Z6 := Lib.hid ((hb.block _ (heapsz Z5.out)).trans Z5.out)
          have P6 := Lib.hid ((hb.block _ (heapsz P5.out)).trans P5.out)
          clear hb s0 s1 s2 s3 s4 s5 s6 s7 s8 s9 s10 s11 p0 p1 p2 Z5 P5
          obtain ⟨⟨s0, s1, s2⟩, ⟨s3, s4, s5⟩, ⟨s6, s7, s8⟩, s9, s10, s11⟩ := sto_box Z6.out
          obtain ⟨p0, p1, p2⟩ := g_cells P6.out
          simp only at s0 s1 s2 s3 s4 s5 s6 s7 s8 s9 s10 s11
          go_wp2_with fail
          go_ret
          exact ⟨rfl, HB0.out.trans (HB6.out.mono HB0.out.size)⟩
        | true =>
          have hn := of_decide_eq_true hD
          obtain ⟨E, hE⟩ : ∃ z, amtB 1000000 p = z := ⟨_, rfl⟩
          have KPR : Hid (∀ u, Below w1.heap.size w1 u → Calls Tryd.prog 32 #[.agg #[.int .i64 p.a, .int .i64 p.b, .int .i64 p.c]] u fun e w' => e = .returned (.bool E) ∧ Below u.heap.size u w') := Lib.hid fun u hu => by rw [← hE]; exact rprices_any p u
          cases E with
          | false =>
            clear hB hC hok n6 HLS2 hD hn hE
            go_enter Tryd.func10, Tryd.ntmps10
            go_wp2_with fail
            rw [HW1.out]
            refine (KSH.out _ HB1.out).mono ?_
            rintro e w2 ⟨rfl, hb⟩
            have HB2 := Lib.hid (HB1.out.trans (hb.mono HB1.out.size)); have Z2 := Lib.hid ((hb.block _ (heapsz Z1.out)).trans Z1.out)
            have P2 := Lib.hid ((hb.block _ (heapsz P1.out)).trans P1.out)
            clear hb s0 s1 s2 s3 s4 s5 s6 s7 s8 s9 s10 s11 p0 p1 p2 Z1 P1
            obtain ⟨⟨s0, s1, s2⟩, ⟨s3, s4, s5⟩, ⟨s6, s7, s8⟩, s9, s10, s11⟩ := sto_box Z2.out
            obtain ⟨p0, p1, p2⟩ := g_cells P2.out
            simp only at s0 s1 s2 s3 s4 s5 s6 s7 s8 s9 s10 s11
            go_wp2_with fail
            refine (KST.out _ HB2.out).mono ?_
            rintro e w3 ⟨rfl, hb⟩
            have HB3 := Lib.hid (HB2.out.trans (hb.mono HB2.out.size)); have Z3 := Lib.hid ((hb.block _ (heapsz Z2.out)).trans Z2.out)
            have P3 := Lib.hid ((hb.block _ (heapsz P2.out)).trans P2.out)
            clear hb s0 s1 s2 s3 s4 s5 s6 s7 s8 s9 s10 s11 p0 p1 p2 Z2 P2
            obtain ⟨⟨s0, s1, s2⟩, ⟨s3, s4, s5⟩, ⟨s6, s7, s8⟩, s9, s10, s11⟩ := sto_box Z3.out
            obtain ⟨p0, p1, p2⟩ := g_cells P3.out
            simp only at s0 s1 s2 s3 s4 s5 s6 s7 s8 s9 s10 s11
            go_wp2_with fail
            refine (KPL.out _ HB3.out).mono ?_
            rintro e w4 ⟨rfl, hb⟩
            have HB4 := Lib.hid (HB3.out.trans (hb.mono HB3.out.size)); have Z4 := Lib.hid ((hb.block _ (heapsz Z3.out)).trans Z3.out)
            have P4 := Lib.hid ((hb.block _ (heapsz P3.out)).trans P3.out)
            clear hb s0 s1 s2 s3 s4 s5 s6 s7 s8 s9 s10 s11 p0 p1 p2 Z3 P3
            obtain ⟨⟨s0, s1, s2⟩, ⟨s3, s4, s5⟩, ⟨s6, s7, s8⟩, s9, s10, s11⟩ := sto_box Z4.out
            obtain ⟨p0, p1, p2⟩ := g_cells P4.out
            simp only at s0 s1 s2 s3 s4 s5 s6 s7 s8 s9 s10 s11
            go_wp2_with fail
            refine (KWI.out _ HB4.out).mono ?_
            rintro e w5 ⟨rfl, hb⟩
            have HB5 := Lib.hid (HB4.out.trans (hb.mono HB4.out.size)); have Z5 := Lib.hid ((hb.block _ (heapsz Z4.out)).trans Z4.out)
            have P5 := Lib.hid ((hb.block _ (heapsz P4.out)).trans P4.out)
            clear hb s0 s1 s2 s3 s4 s5 s6 s7 s8 s9 s10 s11 p0 p1 p2 Z4 P4
            obtain ⟨⟨s0, s1, s2⟩, ⟨s3, s4, s5⟩, ⟨s6, s7, s8⟩, s9, s10, s11⟩ := sto_box Z5.out
            obtain ⟨p0, p1, p2⟩ := g_cells P5.out
            simp only at s0 s1 s2 s3 s4 s5 s6 s7 s8 s9 s10 s11
            go_wp2_with fail
            refine (KPR.out _ HB5.out).mono ?_
            rintro e w6 ⟨rfl, hb⟩
            have HB6 := Lib.hid (HB5.out.trans (hb.mono HB5.out.size)); have Z6 := Lib.hid ((hb.block _ (heapsz Z5.out)).trans Z5.out)
            have P6 := Lib.hid ((hb.block _ (heapsz P5.out)).trans P5.out)
            clear hb s0 s1 s2 s3 s4 s5 s6 s7 s8 s9 s10 s11 p0 p1 p2 Z5 P5
            obtain ⟨⟨s0, s1, s2⟩, ⟨s3, s4, s5⟩, ⟨s6, s7, s8⟩, s9, s10, s11⟩ := sto_box Z6.out
            obtain ⟨p0, p1, p2⟩ := g_cells P6.out
            simp only at s0 s1 s2 s3 s4 s5 s6 s7 s8 s9 s10 s11
            go_wp2_with fail
            refine (KKN.out _ HB6.out).mono ?_
            rintro e w7 ⟨rfl, hb⟩
            have HB7 := Lib.hid (HB6.out.trans (hb.mono HB6.out.size)); have Z7 := Lib.hid ((hb.block _ (heapsz Z6.out)).trans Z6.out)
            have P7 := Lib.hid ((hb.block _ (heapsz P6.out)).trans P6.out)
            clear hb s0 s1 s2 s3 s4 s5 s6 s7 s8 s9 s10 s11 p0 p1 p2 Z6 P6
            obtain ⟨⟨s0, s1, s2⟩, ⟨s3, s4, s5⟩, ⟨s6, s7, s8⟩, s9, s10, s11⟩ := sto_box Z7.out
            obtain ⟨p0, p1, p2⟩ := g_cells P7.out
            simp only at s0 s1 s2 s3 s4 s5 s6 s7 s8 s9 s10 s11
            go_wp2_with fail
            go_ret
            exact ⟨rfl, HB0.out.trans (HB7.out.mono HB0.out.size)⟩
          | true =>
            obtain ⟨m, rfl, hm⟩ := plan_nat hC
            obtain ⟨k, rfl⟩ : ∃ k : Nat, n = (k : Int) := ⟨n.toNat, by omega⟩
            have h64 := two_six n6
            have hF : inB 0 (k : Int) ((S.wins.length : Int) - 1) = true := by rw [HLW.out, inB_iff]; omega
            have hk : k < S.wins.length := by rw [HLW.out]; omega
            have hp3 : 0 ≤ p.a ∧ 0 ≤ p.b ∧ 0 ≤ p.c := by
              have g := amtB_at.1 hE
              have g0 := inB_iff.1 (g 0 (by omega)); have g1 := inB_iff.1 (g 1 (by omega)); have g2 := inB_iff.1 (g 2 (by omega))
              exact ⟨g0.1, g1.1, g2.1⟩
            obtain ⟨L, x1, x2, x3, x4, hf, hL⟩ := flt_form (S.fault m)
            have hfa : fauV S (m : Int) = (.agg #[.bool L, .int .i64 x1, .int .i64 x2, .int .i64 x3, .int .i64 x4], 0) := by unfold fauV; rw [hB, hC]; exact congrArg (fun z => (z, (0 : Int))) hf
            have KFO : Hid (∀ u, Below w1.heap.size w1 u → Calls Tryd.prog 24 #[.agg #[.int .i64 S.st.a, .int .i64 S.st.b, .int .i64 S.st.c, .int .i64 S.yd.a, .int .i64 S.yd.b, .int .i64 S.yd.c, .int .i64 S.rate, .int .i64 S.weeks, .int .i64 S.land, .slice AS ns cs, .slice AI ni ci, .slice AW nw cw], .int .i64 (m : Int)] u fun e w' => e = .returned (.tuple #[.agg #[.bool L, .int .i64 x1, .int .i64 x2, .int .i64 x3, .int .i64 x4], .int .i64 0]) ∧ Below u.heap.size u w') := Lib.hid fun u hu => by have := Fault_any (HI.out.up hu) (m : Int); simp only at this; rw [hfa] at this; exact this
            have KF0 : ∀ q, floI S (k : Int) p = q → Hid (∀ u, Below w1.heap.size w1 u → Calls Tryd.prog 31 #[.agg #[.int .i64 S.st.a, .int .i64 S.st.b, .int .i64 S.st.c, .int .i64 S.yd.a, .int .i64 S.yd.b, .int .i64 S.yd.c, .int .i64 S.rate, .int .i64 S.weeks, .int .i64 S.land, .slice AS ns cs, .slice AI ni ci, .slice AW nw cw], .int .i64 (k : Int), .agg #[.int .i64 p.a, .int .i64 p.b, .int .i64 p.c]] u fun e w' => e = .returned (.tuple #[.int .i64 q.1, .int .i64 q.2]) ∧ Below u.heap.size u w') := fun q hq => Lib.hid fun u hu => by rw [← hq]; exact Floor_any (HI.out.up hu) (k : Int) p
            cases hQ : fairB S.ships p with
            | false =>
              have hfl : floI S (k : Int) p = (0, 7) := by unfold floI; rw [hB, hF, hE, hQ]; rfl
              have KFL := KF0 _ hfl
              obtain ⟨⟨b1, b2, b3⟩, hbi⟩ : ∃ z, bstI S = z := ⟨_, rfl⟩
              have KBE : Hid (∀ u, Below w1.heap.size w1 u → Calls Tryd.prog 28 #[.agg #[.int .i64 S.st.a, .int .i64 S.st.b, .int .i64 S.st.c, .int .i64 S.yd.a, .int .i64 S.yd.b, .int .i64 S.yd.c, .int .i64 S.rate, .int .i64 S.weeks, .int .i64 S.land, .slice AS ns cs, .slice AI ni ci, .slice AW nw cw]] u fun e w' => e = .returned (.tuple #[.int .i64 b1, .int .i64 b2, .int .i64 b3]) ∧ Below u.heap.size u w') := Lib.hid fun u hu => by have := Best_any (HI.out.up hu); simp only at this; rw [hbi] at this; exact this
              clear hB hC hok n6 HLS2 hD hn hE hm h64 hF hk hp3 hf hL hfa KF0 hQ hfl hbi
              simp only at KFL
              go_enter Tryd.func10, Tryd.ntmps10
              go_wp2_with fail
              rw [HW1.out]
              refine (KSH.out _ HB1.out).mono ?_
              rintro e w2 ⟨rfl, hb⟩
              have HB2 := Lib.hid (HB1.out.trans (hb.mono HB1.out.size)); have Z2 := Lib.hid ((hb.block _ (heapsz Z1.out)).trans Z1.out)
              have P2 := Lib.hid ((hb.block _ (heapsz P1.out)).trans P1.out)
              clear hb s0 s1 s2 s3 s4 s5 s6 s7 s8 s9 s10 s11 p0 p1 p2 Z1 P1
              obtain ⟨⟨s0, s1, s2⟩, ⟨s3, s4, s5⟩, ⟨s6, s7, s8⟩, s9, s10, s11⟩ := sto_box Z2.out
              obtain ⟨p0, p1, p2⟩ := g_cells P2.out
              simp only at s0 s1 s2 s3 s4 s5 s6 s7 s8 s9 s10 s11
              go_wp2_with fail
              refine (KST.out _ HB2.out).mono ?_
              rintro e w3 ⟨rfl, hb⟩
              have HB3 := Lib.hid (HB2.out.trans (hb.mono HB2.out.size)); have Z3 := Lib.hid ((hb.block _ (heapsz Z2.out)).trans Z2.out)
              have P3 := Lib.hid ((hb.block _ (heapsz P2.out)).trans P2.out)
              clear hb s0 s1 s2 s3 s4 s5 s6 s7 s8 s9 s10 s11 p0 p1 p2 Z2 P2
              obtain ⟨⟨s0, s1, s2⟩, ⟨s3, s4, s5⟩, ⟨s6, s7, s8⟩, s9, s10, s11⟩ := sto_box Z3.out
              obtain ⟨p0, p1, p2⟩ := g_cells P3.out
              simp only at s0 s1 s2 s3 s4 s5 s6 s7 s8 s9 s10 s11
              go_wp2_with fail
              refine (KPL.out _ HB3.out).mono ?_
              rintro e w4 ⟨rfl, hb⟩
              have HB4 := Lib.hid (HB3.out.trans (hb.mono HB3.out.size)); have Z4 := Lib.hid ((hb.block _ (heapsz Z3.out)).trans Z3.out)
              have P4 := Lib.hid ((hb.block _ (heapsz P3.out)).trans P3.out)
              clear hb s0 s1 s2 s3 s4 s5 s6 s7 s8 s9 s10 s11 p0 p1 p2 Z3 P3
              obtain ⟨⟨s0, s1, s2⟩, ⟨s3, s4, s5⟩, ⟨s6, s7, s8⟩, s9, s10, s11⟩ := sto_box Z4.out
              obtain ⟨p0, p1, p2⟩ := g_cells P4.out
              simp only at s0 s1 s2 s3 s4 s5 s6 s7 s8 s9 s10 s11
              go_wp2_with fail
              refine (KWI.out _ HB4.out).mono ?_
              rintro e w5 ⟨rfl, hb⟩
              have HB5 := Lib.hid (HB4.out.trans (hb.mono HB4.out.size)); have Z5 := Lib.hid ((hb.block _ (heapsz Z4.out)).trans Z4.out)
              have P5 := Lib.hid ((hb.block _ (heapsz P4.out)).trans P4.out)
              clear hb s0 s1 s2 s3 s4 s5 s6 s7 s8 s9 s10 s11 p0 p1 p2 Z4 P4
              obtain ⟨⟨s0, s1, s2⟩, ⟨s3, s4, s5⟩, ⟨s6, s7, s8⟩, s9, s10, s11⟩ := sto_box Z5.out
              obtain ⟨p0, p1, p2⟩ := g_cells P5.out
              simp only at s0 s1 s2 s3 s4 s5 s6 s7 s8 s9 s10 s11
              go_wp2_with fail
              refine (KPR.out _ HB5.out).mono ?_
              rintro e w6 ⟨rfl, hb⟩
              have HB6 := Lib.hid (HB5.out.trans (hb.mono HB5.out.size)); have Z6 := Lib.hid ((hb.block _ (heapsz Z5.out)).trans Z5.out)
              have P6 := Lib.hid ((hb.block _ (heapsz P5.out)).trans P5.out)
              clear hb s0 s1 s2 s3 s4 s5 s6 s7 s8 s9 s10 s11 p0 p1 p2 Z5 P5
              obtain ⟨⟨s0, s1, s2⟩, ⟨s3, s4, s5⟩, ⟨s6, s7, s8⟩, s9, s10, s11⟩ := sto_box Z6.out
              obtain ⟨p0, p1, p2⟩ := g_cells P6.out
              simp only at s0 s1 s2 s3 s4 s5 s6 s7 s8 s9 s10 s11
              go_wp2_with fail
              refine (KFL.out _ HB6.out).mono ?_
              rintro e w7 ⟨rfl, hb⟩
              have HB7 := Lib.hid (HB6.out.trans (hb.mono HB6.out.size)); have Z7 := Lib.hid ((hb.block _ (heapsz Z6.out)).trans Z6.out)
              have P7 := Lib.hid ((hb.block _ (heapsz P6.out)).trans P6.out)
              clear hb s0 s1 s2 s3 s4 s5 s6 s7 s8 s9 s10 s11 p0 p1 p2 Z6 P6
              obtain ⟨⟨s0, s1, s2⟩, ⟨s3, s4, s5⟩, ⟨s6, s7, s8⟩, s9, s10, s11⟩ := sto_box Z7.out
              obtain ⟨p0, p1, p2⟩ := g_cells P7.out
              simp only at s0 s1 s2 s3 s4 s5 s6 s7 s8 s9 s10 s11
              go_wp2_with fail
              refine (KFO.out _ HB7.out).mono ?_
              rintro e w8 ⟨rfl, hb⟩
              have HB8 := Lib.hid (HB7.out.trans (hb.mono HB7.out.size)); have Z8 := Lib.hid ((hb.block _ (heapsz Z7.out)).trans Z7.out)
              have P8 := Lib.hid ((hb.block _ (heapsz P7.out)).trans P7.out)
              clear hb s0 s1 s2 s3 s4 s5 s6 s7 s8 s9 s10 s11 p0 p1 p2 Z7 P7
              obtain ⟨⟨s0, s1, s2⟩, ⟨s3, s4, s5⟩, ⟨s6, s7, s8⟩, s9, s10, s11⟩ := sto_box Z8.out
              obtain ⟨p0, p1, p2⟩ := g_cells P8.out
              simp only at s0 s1 s2 s3 s4 s5 s6 s7 s8 s9 s10 s11
              clear s0 s1 s2 s3 s4 s5 s6 s7 s8 s9 s10 s11 p0 p1 p2
              have al := (Below.refl w8.heap.size w8).alloc (Nat.le_refl _) (.cells #[.bool L, .int .i64 x1, .int .i64 x2, .int .i64 x3, .int .i64 x4] 48)
              have zf := heap_alloc_new w8 (.cells #[.bool L, .int .i64 x1, .int .i64 x2, .int .i64 x3, .int .i64 x4] 48)
              have ZU := Lib.hid ((al.block _ (heapsz Z8.out)).trans Z8.out)
              obtain ⟨⟨s0, s1, s2⟩, ⟨s3, s4, s5⟩, ⟨s6, s7, s8⟩, s9, s10, s11⟩ := sto_box ZU.out
              have PU := Lib.hid ((al.block _ (heapsz P8.out)).trans P8.out)
              obtain ⟨p0, p1, p2⟩ := g_cells PU.out
              simp only at s0 s1 s2 s3 s4 s5 s6 s7 s8 s9 s10 s11
              have fa := cell_of_row _ _ 0 _ 48 (0, 0) zf
              simp only [List.getElem?_toArray, List.getElem?_cons_zero] at fa
              obtain ⟨w9, hw9⟩ : ∃ W, w8.alloc (.cells #[.bool L, .int .i64 x1, .int .i64 x2, .int .i64 x3, .int .i64 x4] 48) = W := ⟨_, rfl⟩
              have HW9 := Lib.hid hw9
              have HB9 := Lib.hid (HB8.out.trans (al.mono HB8.out.size)); have Z9 := ZU; have Fa_9 := Lib.hid zf
              have P9 := PU
              rw [hw9] at HB9 Z9 Fa_9 P9
              clear al zf ZU PU hw9 Z8 P8
              go_wp2_with fail
              rw [HW9.out]
              refine (KBE.out _ HB9.out).mono ?_
              rintro e w10 ⟨rfl, hb⟩
              have HB10 := Lib.hid (HB9.out.trans (hb.mono HB9.out.size)); have Z10 := Lib.hid ((hb.block _ (heapsz Z9.out)).trans Z9.out)
              have P10 := Lib.hid ((hb.block _ (heapsz P9.out)).trans P9.out)
              have Fa_10 := Lib.hid ((hb.block _ (heapsz Fa_9.out)).trans Fa_9.out)
              clear hb s0 s1 s2 s3 s4 s5 s6 s7 s8 s9 s10 s11 p0 p1 p2 fa Z9 P9 Fa_9
              obtain ⟨⟨s0, s1, s2⟩, ⟨s3, s4, s5⟩, ⟨s6, s7, s8⟩, s9, s10, s11⟩ := sto_box Z10.out
              obtain ⟨p0, p1, p2⟩ := g_cells P10.out
              simp only at s0 s1 s2 s3 s4 s5 s6 s7 s8 s9 s10 s11
              have fa := cell_of_row _ _ 0 _ 48 (0, 0) Fa_10.out
              simp at fa
              go_wp2_with fail
              refine (KKN.out _ HB10.out).mono ?_
              rintro e w11 ⟨rfl, hb⟩
              have HB11 := Lib.hid (HB10.out.trans (hb.mono HB10.out.size)); have Z11 := Lib.hid ((hb.block _ (heapsz Z10.out)).trans Z10.out)
              have P11 := Lib.hid ((hb.block _ (heapsz P10.out)).trans P10.out)
              have Fa_11 := Lib.hid ((hb.block _ (heapsz Fa_10.out)).trans Fa_10.out)
              clear hb s0 s1 s2 s3 s4 s5 s6 s7 s8 s9 s10 s11 p0 p1 p2 fa Z10 P10 Fa_10
              obtain ⟨⟨s0, s1, s2⟩, ⟨s3, s4, s5⟩, ⟨s6, s7, s8⟩, s9, s10, s11⟩ := sto_box Z11.out
              obtain ⟨p0, p1, p2⟩ := g_cells P11.out
              simp only at s0 s1 s2 s3 s4 s5 s6 s7 s8 s9 s10 s11
              have fa := cell_of_row _ _ 0 _ 48 (0, 0) Fa_11.out
              simp at fa
              go_wp2_with fail
              go_ret
              exact ⟨rfl, HB0.out.trans (HB11.out.mono HB0.out.size)⟩
            | true =>
              obtain ⟨R, hR⟩ : ∃ z, S.floor (S.wins.getD k []) p = z := ⟨_, rfl⟩
              have hfl : floI S (k : Int) p = (R, 0) := by unfold floI; rw [hB, hF, hE, hQ, show ((k : Int)).toNat = k from rfl, hR]; rfl
              have KFL := KF0 _ hfl
              simp only at KFL
              have hmin : ∀ q, S.fault q = none → R ≤ S.cost q := fun q hq => by rw [← hR]; exact floor_le hok hp3 hQ hq hk
              cases hb : S.best with
              | none =>
                have hl : L = true := by
                  cases L with
                  | true => rfl
                  | false => exact absurd (hL.1 rfl) (best_none hb hm)
                subst hl
                have hbi : bstI S = (0, 0, 5) := by unfold bstI; rw [hB, hb]; rfl
                have KBE : Hid (∀ u, Below w1.heap.size w1 u → Calls Tryd.prog 28 #[.agg #[.int .i64 S.st.a, .int .i64 S.st.b, .int .i64 S.st.c, .int .i64 S.yd.a, .int .i64 S.yd.b, .int .i64 S.yd.c, .int .i64 S.rate, .int .i64 S.weeks, .int .i64 S.land, .slice AS ns cs, .slice AI ni ci, .slice AW nw cw]] u fun e w' => e = .returned (.tuple #[.int .i64 0, .int .i64 0, .int .i64 5]) ∧ Below u.heap.size u w') := Lib.hid fun u hu => by have := Best_any (HI.out.up hu); simp only at this; rw [hbi] at this; exact this
                clear hB hC hok n6 HLS2 hD hn hE hm h64 hF hk hp3 hf hL hfa KF0 hQ hfl hbi hb hR hmin
                go_enter Tryd.func10, Tryd.ntmps10
                go_wp2_with fail
                rw [HW1.out]
                refine (KSH.out _ HB1.out).mono ?_
                rintro e w2 ⟨rfl, hb⟩
                have HB2 := Lib.hid (HB1.out.trans (hb.mono HB1.out.size)); have Z2 := Lib.hid ((hb.block _ (heapsz Z1.out)).trans Z1.out)
                have P2 := Lib.hid ((hb.block _ (heapsz P1.out)).trans P1.out)
                clear hb s0 s1 s2 s3 s4 s5 s6 s7 s8 s9 s10 s11 p0 p1 p2 Z1 P1
                obtain ⟨⟨s0, s1, s2⟩, ⟨s3, s4, s5⟩, ⟨s6, s7, s8⟩, s9, s10, s11⟩ := sto_box Z2.out
                obtain ⟨p0, p1, p2⟩ := g_cells P2.out
                simp only at s0 s1 s2 s3 s4 s5 s6 s7 s8 s9 s10 s11
                go_wp2_with fail
                refine (KST.out _ HB2.out).mono ?_
                rintro e w3 ⟨rfl, hb⟩
                have HB3 := Lib.hid (HB2.out.trans (hb.mono HB2.out.size)); have Z3 := Lib.hid ((hb.block _ (heapsz Z2.out)).trans Z2.out)
                have P3 := Lib.hid ((hb.block _ (heapsz P2.out)).trans P2.out)
                clear hb s0 s1 s2 s3 s4 s5 s6 s7 s8 s9 s10 s11 p0 p1 p2 Z2 P2
                obtain ⟨⟨s0, s1, s2⟩, ⟨s3, s4, s5⟩, ⟨s6, s7, s8⟩, s9, s10, s11⟩ := sto_box Z3.out
                obtain ⟨p0, p1, p2⟩ := g_cells P3.out
                simp only at s0 s1 s2 s3 s4 s5 s6 s7 s8 s9 s10 s11
                go_wp2_with fail
                refine (KPL.out _ HB3.out).mono ?_
                rintro e w4 ⟨rfl, hb⟩
                have HB4 := Lib.hid (HB3.out.trans (hb.mono HB3.out.size)); have Z4 := Lib.hid ((hb.block _ (heapsz Z3.out)).trans Z3.out)
                have P4 := Lib.hid ((hb.block _ (heapsz P3.out)).trans P3.out)
                clear hb s0 s1 s2 s3 s4 s5 s6 s7 s8 s9 s10 s11 p0 p1 p2 Z3 P3
                obtain ⟨⟨s0, s1, s2⟩, ⟨s3, s4, s5⟩, ⟨s6, s7, s8⟩, s9, s10, s11⟩ := sto_box Z4.out
                obtain ⟨p0, p1, p2⟩ := g_cells P4.out
                simp only at s0 s1 s2 s3 s4 s5 s6 s7 s8 s9 s10 s11
                go_wp2_with fail
                refine (KWI.out _ HB4.out).mono ?_
                rintro e w5 ⟨rfl, hb⟩
                have HB5 := Lib.hid (HB4.out.trans (hb.mono HB4.out.size)); have Z5 := Lib.hid ((hb.block _ (heapsz Z4.out)).trans Z4.out)
                have P5 := Lib.hid ((hb.block _ (heapsz P4.out)).trans P4.out)
                clear hb s0 s1 s2 s3 s4 s5 s6 s7 s8 s9 s10 s11 p0 p1 p2 Z4 P4
                obtain ⟨⟨s0, s1, s2⟩, ⟨s3, s4, s5⟩, ⟨s6, s7, s8⟩, s9, s10, s11⟩ := sto_box Z5.out
                obtain ⟨p0, p1, p2⟩ := g_cells P5.out
                simp only at s0 s1 s2 s3 s4 s5 s6 s7 s8 s9 s10 s11
                go_wp2_with fail
                refine (KPR.out _ HB5.out).mono ?_
                rintro e w6 ⟨rfl, hb⟩
                have HB6 := Lib.hid (HB5.out.trans (hb.mono HB5.out.size)); have Z6 := Lib.hid ((hb.block _ (heapsz Z5.out)).trans Z5.out)
                have P6 := Lib.hid ((hb.block _ (heapsz P5.out)).trans P5.out)
                clear hb s0 s1 s2 s3 s4 s5 s6 s7 s8 s9 s10 s11 p0 p1 p2 Z5 P5
                obtain ⟨⟨s0, s1, s2⟩, ⟨s3, s4, s5⟩, ⟨s6, s7, s8⟩, s9, s10, s11⟩ := sto_box Z6.out
                obtain ⟨p0, p1, p2⟩ := g_cells P6.out
                simp only at s0 s1 s2 s3 s4 s5 s6 s7 s8 s9 s10 s11
                go_wp2_with fail
                refine (KFL.out _ HB6.out).mono ?_
                rintro e w7 ⟨rfl, hb⟩
                have HB7 := Lib.hid (HB6.out.trans (hb.mono HB6.out.size)); have Z7 := Lib.hid ((hb.block _ (heapsz Z6.out)).trans Z6.out)
                have P7 := Lib.hid ((hb.block _ (heapsz P6.out)).trans P6.out)
                clear hb s0 s1 s2 s3 s4 s5 s6 s7 s8 s9 s10 s11 p0 p1 p2 Z6 P6
                obtain ⟨⟨s0, s1, s2⟩, ⟨s3, s4, s5⟩, ⟨s6, s7, s8⟩, s9, s10, s11⟩ := sto_box Z7.out
                obtain ⟨p0, p1, p2⟩ := g_cells P7.out
                simp only at s0 s1 s2 s3 s4 s5 s6 s7 s8 s9 s10 s11
                go_wp2_with fail
                refine (KFO.out _ HB7.out).mono ?_
                rintro e w8 ⟨rfl, hb⟩
                have HB8 := Lib.hid (HB7.out.trans (hb.mono HB7.out.size)); have Z8 := Lib.hid ((hb.block _ (heapsz Z7.out)).trans Z7.out)
                have P8 := Lib.hid ((hb.block _ (heapsz P7.out)).trans P7.out)
                clear hb s0 s1 s2 s3 s4 s5 s6 s7 s8 s9 s10 s11 p0 p1 p2 Z7 P7
                obtain ⟨⟨s0, s1, s2⟩, ⟨s3, s4, s5⟩, ⟨s6, s7, s8⟩, s9, s10, s11⟩ := sto_box Z8.out
                obtain ⟨p0, p1, p2⟩ := g_cells P8.out
                simp only at s0 s1 s2 s3 s4 s5 s6 s7 s8 s9 s10 s11
                clear s0 s1 s2 s3 s4 s5 s6 s7 s8 s9 s10 s11 p0 p1 p2
                have al := (Below.refl w8.heap.size w8).alloc (Nat.le_refl _) (.cells #[.bool true, .int .i64 x1, .int .i64 x2, .int .i64 x3, .int .i64 x4] 48)
                have zf := heap_alloc_new w8 (.cells #[.bool true, .int .i64 x1, .int .i64 x2, .int .i64 x3, .int .i64 x4] 48)
                have ZU := Lib.hid ((al.block _ (heapsz Z8.out)).trans Z8.out)
                obtain ⟨⟨s0, s1, s2⟩, ⟨s3, s4, s5⟩, ⟨s6, s7, s8⟩, s9, s10, s11⟩ := sto_box ZU.out
                have PU := Lib.hid ((al.block _ (heapsz P8.out)).trans P8.out)
                obtain ⟨p0, p1, p2⟩ := g_cells PU.out
                simp only at s0 s1 s2 s3 s4 s5 s6 s7 s8 s9 s10 s11
                have fa := cell_of_row _ _ 0 _ 48 (0, 0) zf
                simp only [List.getElem?_toArray, List.getElem?_cons_zero] at fa
                obtain ⟨w9, hw9⟩ : ∃ W, w8.alloc (.cells #[.bool true, .int .i64 x1, .int .i64 x2, .int .i64 x3, .int .i64 x4] 48) = W := ⟨_, rfl⟩
                have HW9 := Lib.hid hw9
                have HB9 := Lib.hid (HB8.out.trans (al.mono HB8.out.size)); have Z9 := ZU; have Fa_9 := Lib.hid zf
                have P9 := PU
                rw [hw9] at HB9 Z9 Fa_9 P9
                clear al zf ZU PU hw9 Z8 P8
                go_wp2_with fail
                rw [HW9.out]
                refine (KBE.out _ HB9.out).mono ?_
                rintro e w10 ⟨rfl, hb⟩
                have HB10 := Lib.hid (HB9.out.trans (hb.mono HB9.out.size)); have Z10 := Lib.hid ((hb.block _ (heapsz Z9.out)).trans Z9.out)
                have P10 := Lib.hid ((hb.block _ (heapsz P9.out)).trans P9.out)
                have Fa_10 := Lib.hid ((hb.block _ (heapsz Fa_9.out)).trans Fa_9.out)
                clear hb s0 s1 s2 s3 s4 s5 s6 s7 s8 s9 s10 s11 p0 p1 p2 fa Z9 P9 Fa_9
                obtain ⟨⟨s0, s1, s2⟩, ⟨s3, s4, s5⟩, ⟨s6, s7, s8⟩, s9, s10, s11⟩ := sto_box Z10.out
                obtain ⟨p0, p1, p2⟩ := g_cells P10.out
                simp only at s0 s1 s2 s3 s4 s5 s6 s7 s8 s9 s10 s11
                have fa := cell_of_row _ _ 0 _ 48 (0, 0) Fa_10.out
                simp at fa
                go_wp2_with fail
                refine (KKN.out _ HB10.out).mono ?_
                rintro e w11 ⟨rfl, hb⟩
                have HB11 := Lib.hid (HB10.out.trans (hb.mono HB10.out.size)); have Z11 := Lib.hid ((hb.block _ (heapsz Z10.out)).trans Z10.out)
                have P11 := Lib.hid ((hb.block _ (heapsz P10.out)).trans P10.out)
                have Fa_11 := Lib.hid ((hb.block _ (heapsz Fa_10.out)).trans Fa_10.out)
                clear hb s0 s1 s2 s3 s4 s5 s6 s7 s8 s9 s10 s11 p0 p1 p2 fa Z10 P10 Fa_10
                obtain ⟨⟨s0, s1, s2⟩, ⟨s3, s4, s5⟩, ⟨s6, s7, s8⟩, s9, s10, s11⟩ := sto_box Z11.out
                obtain ⟨p0, p1, p2⟩ := g_cells P11.out
                simp only at s0 s1 s2 s3 s4 s5 s6 s7 s8 s9 s10 s11
                have fa := cell_of_row _ _ 0 _ 48 (0, 0) Fa_11.out
                simp at fa
                go_wp2_with fail
                go_ret
                exact ⟨rfl, HB0.out.trans (HB11.out.mono HB0.out.size)⟩
              | some b =>
                obtain ⟨⟨hb2, hfb⟩, hbest⟩ := best_some hb
                have hbi : bstI S = ((b : Int), S.cost b, 0) := by unfold bstI; rw [hB, hb]; rfl
                have c1 := hmin b hfb
                have c2 : L = false → R ≤ S.cost m := fun e => hmin m (hL.1 e)
                obtain ⟨c, hc⟩ : ∃ z, S.cost b = z := ⟨_, rfl⟩
                obtain ⟨d, hd⟩ : ∃ z, S.cost m = z := ⟨_, rfl⟩
                rw [hc] at hbi c1
                rw [hd] at c2
                have KBE : Hid (∀ u, Below w1.heap.size w1 u → Calls Tryd.prog 28 #[.agg #[.int .i64 S.st.a, .int .i64 S.st.b, .int .i64 S.st.c, .int .i64 S.yd.a, .int .i64 S.yd.b, .int .i64 S.yd.c, .int .i64 S.rate, .int .i64 S.weeks, .int .i64 S.land, .slice AS ns cs, .slice AI ni ci, .slice AW nw cw]] u fun e w' => e = .returned (.tuple #[.int .i64 (b : Int), .int .i64 c, .int .i64 0]) ∧ Below u.heap.size u w') := Lib.hid fun u hu => by have := Best_any (HI.out.up hu); simp only at this; rw [hbi] at this; exact this
                have KCO : Hid (∀ u, Below w1.heap.size w1 u → Calls Tryd.prog 30 #[.agg #[.int .i64 S.st.a, .int .i64 S.st.b, .int .i64 S.st.c, .int .i64 S.yd.a, .int .i64 S.yd.b, .int .i64 S.yd.c, .int .i64 S.rate, .int .i64 S.weeks, .int .i64 S.land, .slice AS ns cs, .slice AI ni ci, .slice AW nw cw], .int .i64 (m : Int)] u fun e w' => e = .returned (.int .i64 d) ∧ Below u.heap.size u w') := Lib.hid fun u hu => by rw [← hd]; exact rcost_any (HI.out.up hu) HOK.out m (by omega)
                have g1 : c ≥ R := c1
                clear hB hC hok n6 HLS2 hD hn hE hm h64 hF hk hp3 hf hL hfa KF0 hQ hfl hbi hb hR hmin hb2 hfb hbest hc hd
                cases L with
                | true =>
                  clear c2
                  go_enter Tryd.func10, Tryd.ntmps10
                  go_wp2_with fail
                  rw [HW1.out]
                  refine (KSH.out _ HB1.out).mono ?_
                  rintro e w2 ⟨rfl, hb⟩
                  have HB2 := Lib.hid (HB1.out.trans (hb.mono HB1.out.size)); have Z2 := Lib.hid ((hb.block _ (heapsz Z1.out)).trans Z1.out)
                  have P2 := Lib.hid ((hb.block _ (heapsz P1.out)).trans P1.out)
                  clear hb s0 s1 s2 s3 s4 s5 s6 s7 s8 s9 s10 s11 p0 p1 p2 Z1 P1
                  obtain ⟨⟨s0, s1, s2⟩, ⟨s3, s4, s5⟩, ⟨s6, s7, s8⟩, s9, s10, s11⟩ := sto_box Z2.out
                  obtain ⟨p0, p1, p2⟩ := g_cells P2.out
                  simp only at s0 s1 s2 s3 s4 s5 s6 s7 s8 s9 s10 s11
                  go_wp2_with fail
                  refine (KST.out _ HB2.out).mono ?_
                  rintro e w3 ⟨rfl, hb⟩
                  have HB3 := Lib.hid (HB2.out.trans (hb.mono HB2.out.size)); have Z3 := Lib.hid ((hb.block _ (heapsz Z2.out)).trans Z2.out)
                  have P3 := Lib.hid ((hb.block _ (heapsz P2.out)).trans P2.out)
                  clear hb s0 s1 s2 s3 s4 s5 s6 s7 s8 s9 s10 s11 p0 p1 p2 Z2 P2
                  obtain ⟨⟨s0, s1, s2⟩, ⟨s3, s4, s5⟩, ⟨s6, s7, s8⟩, s9, s10, s11⟩ := sto_box Z3.out
                  obtain ⟨p0, p1, p2⟩ := g_cells P3.out
                  simp only at s0 s1 s2 s3 s4 s5 s6 s7 s8 s9 s10 s11
                  go_wp2_with fail
                  refine (KPL.out _ HB3.out).mono ?_
                  rintro e w4 ⟨rfl, hb⟩
                  have HB4 := Lib.hid (HB3.out.trans (hb.mono HB3.out.size)); have Z4 := Lib.hid ((hb.block _ (heapsz Z3.out)).trans Z3.out)
                  have P4 := Lib.hid ((hb.block _ (heapsz P3.out)).trans P3.out)
                  clear hb s0 s1 s2 s3 s4 s5 s6 s7 s8 s9 s10 s11 p0 p1 p2 Z3 P3
                  obtain ⟨⟨s0, s1, s2⟩, ⟨s3, s4, s5⟩, ⟨s6, s7, s8⟩, s9, s10, s11⟩ := sto_box Z4.out
                  obtain ⟨p0, p1, p2⟩ := g_cells P4.out
                  simp only at s0 s1 s2 s3 s4 s5 s6 s7 s8 s9 s10 s11
                  go_wp2_with fail
                  refine (KWI.out _ HB4.out).mono ?_
                  rintro e w5 ⟨rfl, hb⟩
                  have HB5 := Lib.hid (HB4.out.trans (hb.mono HB4.out.size)); have Z5 := Lib.hid ((hb.block _ (heapsz Z4.out)).trans Z4.out)
                  have P5 := Lib.hid ((hb.block _ (heapsz P4.out)).trans P4.out)
                  clear hb s0 s1 s2 s3 s4 s5 s6 s7 s8 s9 s10 s11 p0 p1 p2 Z4 P4
                  obtain ⟨⟨s0, s1, s2⟩, ⟨s3, s4, s5⟩, ⟨s6, s7, s8⟩, s9, s10, s11⟩ := sto_box Z5.out
                  obtain ⟨p0, p1, p2⟩ := g_cells P5.out
                  simp only at s0 s1 s2 s3 s4 s5 s6 s7 s8 s9 s10 s11
                  go_wp2_with fail
                  refine (KPR.out _ HB5.out).mono ?_
                  rintro e w6 ⟨rfl, hb⟩
                  have HB6 := Lib.hid (HB5.out.trans (hb.mono HB5.out.size)); have Z6 := Lib.hid ((hb.block _ (heapsz Z5.out)).trans Z5.out)
                  have P6 := Lib.hid ((hb.block _ (heapsz P5.out)).trans P5.out)
                  clear hb s0 s1 s2 s3 s4 s5 s6 s7 s8 s9 s10 s11 p0 p1 p2 Z5 P5
                  obtain ⟨⟨s0, s1, s2⟩, ⟨s3, s4, s5⟩, ⟨s6, s7, s8⟩, s9, s10, s11⟩ := sto_box Z6.out
                  obtain ⟨p0, p1, p2⟩ := g_cells P6.out
                  simp only at s0 s1 s2 s3 s4 s5 s6 s7 s8 s9 s10 s11
                  go_wp2_with fail
                  refine (KFL.out _ HB6.out).mono ?_
                  rintro e w7 ⟨rfl, hb⟩
                  have HB7 := Lib.hid (HB6.out.trans (hb.mono HB6.out.size)); have Z7 := Lib.hid ((hb.block _ (heapsz Z6.out)).trans Z6.out)
                  have P7 := Lib.hid ((hb.block _ (heapsz P6.out)).trans P6.out)
                  clear hb s0 s1 s2 s3 s4 s5 s6 s7 s8 s9 s10 s11 p0 p1 p2 Z6 P6
                  obtain ⟨⟨s0, s1, s2⟩, ⟨s3, s4, s5⟩, ⟨s6, s7, s8⟩, s9, s10, s11⟩ := sto_box Z7.out
                  obtain ⟨p0, p1, p2⟩ := g_cells P7.out
                  simp only at s0 s1 s2 s3 s4 s5 s6 s7 s8 s9 s10 s11
                  go_wp2_with fail
                  refine (KFO.out _ HB7.out).mono ?_
                  rintro e w8 ⟨rfl, hb⟩
                  have HB8 := Lib.hid (HB7.out.trans (hb.mono HB7.out.size)); have Z8 := Lib.hid ((hb.block _ (heapsz Z7.out)).trans Z7.out)
                  have P8 := Lib.hid ((hb.block _ (heapsz P7.out)).trans P7.out)
                  clear hb s0 s1 s2 s3 s4 s5 s6 s7 s8 s9 s10 s11 p0 p1 p2 Z7 P7
                  obtain ⟨⟨s0, s1, s2⟩, ⟨s3, s4, s5⟩, ⟨s6, s7, s8⟩, s9, s10, s11⟩ := sto_box Z8.out
                  obtain ⟨p0, p1, p2⟩ := g_cells P8.out
                  simp only at s0 s1 s2 s3 s4 s5 s6 s7 s8 s9 s10 s11
                  clear s0 s1 s2 s3 s4 s5 s6 s7 s8 s9 s10 s11 p0 p1 p2
                  have al := (Below.refl w8.heap.size w8).alloc (Nat.le_refl _) (.cells #[.bool true, .int .i64 x1, .int .i64 x2, .int .i64 x3, .int .i64 x4] 48)
                  have zf := heap_alloc_new w8 (.cells #[.bool true, .int .i64 x1, .int .i64 x2, .int .i64 x3, .int .i64 x4] 48)
                  have ZU := Lib.hid ((al.block _ (heapsz Z8.out)).trans Z8.out)
                  obtain ⟨⟨s0, s1, s2⟩, ⟨s3, s4, s5⟩, ⟨s6, s7, s8⟩, s9, s10, s11⟩ := sto_box ZU.out
                  have PU := Lib.hid ((al.block _ (heapsz P8.out)).trans P8.out)
                  obtain ⟨p0, p1, p2⟩ := g_cells PU.out
                  simp only at s0 s1 s2 s3 s4 s5 s6 s7 s8 s9 s10 s11
                  have fa := cell_of_row _ _ 0 _ 48 (0, 0) zf
                  simp only [List.getElem?_toArray, List.getElem?_cons_zero] at fa
                  obtain ⟨w9, hw9⟩ : ∃ W, w8.alloc (.cells #[.bool true, .int .i64 x1, .int .i64 x2, .int .i64 x3, .int .i64 x4] 48) = W := ⟨_, rfl⟩
                  have HW9 := Lib.hid hw9
                  have HB9 := Lib.hid (HB8.out.trans (al.mono HB8.out.size)); have Z9 := ZU; have Fa_9 := Lib.hid zf
                  have P9 := PU
                  rw [hw9] at HB9 Z9 Fa_9 P9
                  clear al zf ZU PU hw9 Z8 P8
                  go_wp2_with fail
                  rw [HW9.out]
                  refine (KBE.out _ HB9.out).mono ?_
                  rintro e w10 ⟨rfl, hb⟩
                  have HB10 := Lib.hid (HB9.out.trans (hb.mono HB9.out.size)); have Z10 := Lib.hid ((hb.block _ (heapsz Z9.out)).trans Z9.out)
                  have P10 := Lib.hid ((hb.block _ (heapsz P9.out)).trans P9.out)
                  have Fa_10 := Lib.hid ((hb.block _ (heapsz Fa_9.out)).trans Fa_9.out)
                  clear hb s0 s1 s2 s3 s4 s5 s6 s7 s8 s9 s10 s11 p0 p1 p2 fa Z9 P9 Fa_9
                  obtain ⟨⟨s0, s1, s2⟩, ⟨s3, s4, s5⟩, ⟨s6, s7, s8⟩, s9, s10, s11⟩ := sto_box Z10.out
                  obtain ⟨p0, p1, p2⟩ := g_cells P10.out
                  simp only at s0 s1 s2 s3 s4 s5 s6 s7 s8 s9 s10 s11
                  have fa := cell_of_row _ _ 0 _ 48 (0, 0) Fa_10.out
                  simp at fa
                  go_wp2_with fail
                  refine (KKN.out _ HB10.out).mono ?_
                  rintro e w11 ⟨rfl, hb⟩
                  have HB11 := Lib.hid (HB10.out.trans (hb.mono HB10.out.size)); have Z11 := Lib.hid ((hb.block _ (heapsz Z10.out)).trans Z10.out)
                  have P11 := Lib.hid ((hb.block _ (heapsz P10.out)).trans P10.out)
                  have Fa_11 := Lib.hid ((hb.block _ (heapsz Fa_10.out)).trans Fa_10.out)
                  clear hb s0 s1 s2 s3 s4 s5 s6 s7 s8 s9 s10 s11 p0 p1 p2 fa Z10 P10 Fa_10
                  obtain ⟨⟨s0, s1, s2⟩, ⟨s3, s4, s5⟩, ⟨s6, s7, s8⟩, s9, s10, s11⟩ := sto_box Z11.out
                  obtain ⟨p0, p1, p2⟩ := g_cells P11.out
                  simp only at s0 s1 s2 s3 s4 s5 s6 s7 s8 s9 s10 s11
                  have fa := cell_of_row _ _ 0 _ 48 (0, 0) Fa_11.out
                  simp at fa
                  go_wp2_with fail
                  go_ret
                  exact ⟨rfl, HB0.out.trans (HB11.out.mono HB0.out.size)⟩
                | false =>
                  have g2 := c2 rfl
                  have g3 : d ≥ R := g2
                  clear c2
                  go_enter Tryd.func10, Tryd.ntmps10
                  go_wp2_with fail
                  rw [HW1.out]
                  refine (KSH.out _ HB1.out).mono ?_
                  rintro e w2 ⟨rfl, hb⟩
                  have HB2 := Lib.hid (HB1.out.trans (hb.mono HB1.out.size)); have Z2 := Lib.hid ((hb.block _ (heapsz Z1.out)).trans Z1.out)
                  have P2 := Lib.hid ((hb.block _ (heapsz P1.out)).trans P1.out)
                  clear hb s0 s1 s2 s3 s4 s5 s6 s7 s8 s9 s10 s11 p0 p1 p2 Z1 P1
                  obtain ⟨⟨s0, s1, s2⟩, ⟨s3, s4, s5⟩, ⟨s6, s7, s8⟩, s9, s10, s11⟩ := sto_box Z2.out
                  obtain ⟨p0, p1, p2⟩ := g_cells P2.out
                  simp only at s0 s1 s2 s3 s4 s5 s6 s7 s8 s9 s10 s11
                  go_wp2_with fail
                  refine (KST.out _ HB2.out).mono ?_
                  rintro e w3 ⟨rfl, hb⟩
                  have HB3 := Lib.hid (HB2.out.trans (hb.mono HB2.out.size)); have Z3 := Lib.hid ((hb.block _ (heapsz Z2.out)).trans Z2.out)
                  have P3 := Lib.hid ((hb.block _ (heapsz P2.out)).trans P2.out)
                  clear hb s0 s1 s2 s3 s4 s5 s6 s7 s8 s9 s10 s11 p0 p1 p2 Z2 P2
                  obtain ⟨⟨s0, s1, s2⟩, ⟨s3, s4, s5⟩, ⟨s6, s7, s8⟩, s9, s10, s11⟩ := sto_box Z3.out
                  obtain ⟨p0, p1, p2⟩ := g_cells P3.out
                  simp only at s0 s1 s2 s3 s4 s5 s6 s7 s8 s9 s10 s11
                  go_wp2_with fail
                  refine (KPL.out _ HB3.out).mono ?_
                  rintro e w4 ⟨rfl, hb⟩
                  have HB4 := Lib.hid (HB3.out.trans (hb.mono HB3.out.size)); have Z4 := Lib.hid ((hb.block _ (heapsz Z3.out)).trans Z3.out)
                  have P4 := Lib.hid ((hb.block _ (heapsz P3.out)).trans P3.out)
                  clear hb s0 s1 s2 s3 s4 s5 s6 s7 s8 s9 s10 s11 p0 p1 p2 Z3 P3
                  obtain ⟨⟨s0, s1, s2⟩, ⟨s3, s4, s5⟩, ⟨s6, s7, s8⟩, s9, s10, s11⟩ := sto_box Z4.out
                  obtain ⟨p0, p1, p2⟩ := g_cells P4.out
                  simp only at s0 s1 s2 s3 s4 s5 s6 s7 s8 s9 s10 s11
                  go_wp2_with fail
                  refine (KWI.out _ HB4.out).mono ?_
                  rintro e w5 ⟨rfl, hb⟩
                  have HB5 := Lib.hid (HB4.out.trans (hb.mono HB4.out.size)); have Z5 := Lib.hid ((hb.block _ (heapsz Z4.out)).trans Z4.out)
                  have P5 := Lib.hid ((hb.block _ (heapsz P4.out)).trans P4.out)
                  clear hb s0 s1 s2 s3 s4 s5 s6 s7 s8 s9 s10 s11 p0 p1 p2 Z4 P4
                  obtain ⟨⟨s0, s1, s2⟩, ⟨s3, s4, s5⟩, ⟨s6, s7, s8⟩, s9, s10, s11⟩ := sto_box Z5.out
                  obtain ⟨p0, p1, p2⟩ := g_cells P5.out
                  simp only at s0 s1 s2 s3 s4 s5 s6 s7 s8 s9 s10 s11
                  go_wp2_with fail
                  refine (KPR.out _ HB5.out).mono ?_
                  rintro e w6 ⟨rfl, hb⟩
                  have HB6 := Lib.hid (HB5.out.trans (hb.mono HB5.out.size)); have Z6 := Lib.hid ((hb.block _ (heapsz Z5.out)).trans Z5.out)
                  have P6 := Lib.hid ((hb.block _ (heapsz P5.out)).trans P5.out)
                  clear hb s0 s1 s2 s3 s4 s5 s6 s7 s8 s9 s10 s11 p0 p1 p2 Z5 P5
                  obtain ⟨⟨s0, s1, s2⟩, ⟨s3, s4, s5⟩, ⟨s6, s7, s8⟩, s9, s10, s11⟩ := sto_box Z6.out
                  obtain ⟨p0, p1, p2⟩ := g_cells P6.out
                  simp only at s0 s1 s2 s3 s4 s5 s6 s7 s8 s9 s10 s11
                  go_wp2_with fail
                  refine (KFL.out _ HB6.out).mono ?_
                  rintro e w7 ⟨rfl, hb⟩
                  have HB7 := Lib.hid (HB6.out.trans (hb.mono HB6.out.size)); have Z7 := Lib.hid ((hb.block _ (heapsz Z6.out)).trans Z6.out)
                  have P7 := Lib.hid ((hb.block _ (heapsz P6.out)).trans P6.out)
                  clear hb s0 s1 s2 s3 s4 s5 s6 s7 s8 s9 s10 s11 p0 p1 p2 Z6 P6
                  obtain ⟨⟨s0, s1, s2⟩, ⟨s3, s4, s5⟩, ⟨s6, s7, s8⟩, s9, s10, s11⟩ := sto_box Z7.out
                  obtain ⟨p0, p1, p2⟩ := g_cells P7.out
                  simp only at s0 s1 s2 s3 s4 s5 s6 s7 s8 s9 s10 s11
                  go_wp2_with fail
                  refine (KFO.out _ HB7.out).mono ?_
                  rintro e w8 ⟨rfl, hb⟩
                  have HB8 := Lib.hid (HB7.out.trans (hb.mono HB7.out.size)); have Z8 := Lib.hid ((hb.block _ (heapsz Z7.out)).trans Z7.out)
                  have P8 := Lib.hid ((hb.block _ (heapsz P7.out)).trans P7.out)
                  clear hb s0 s1 s2 s3 s4 s5 s6 s7 s8 s9 s10 s11 p0 p1 p2 Z7 P7
                  obtain ⟨⟨s0, s1, s2⟩, ⟨s3, s4, s5⟩, ⟨s6, s7, s8⟩, s9, s10, s11⟩ := sto_box Z8.out
                  obtain ⟨p0, p1, p2⟩ := g_cells P8.out
                  simp only at s0 s1 s2 s3 s4 s5 s6 s7 s8 s9 s10 s11
                  clear s0 s1 s2 s3 s4 s5 s6 s7 s8 s9 s10 s11 p0 p1 p2
                  have al := (Below.refl w8.heap.size w8).alloc (Nat.le_refl _) (.cells #[.bool false, .int .i64 x1, .int .i64 x2, .int .i64 x3, .int .i64 x4] 48)
                  have zf := heap_alloc_new w8 (.cells #[.bool false, .int .i64 x1, .int .i64 x2, .int .i64 x3, .int .i64 x4] 48)
                  have ZU := Lib.hid ((al.block _ (heapsz Z8.out)).trans Z8.out)
                  obtain ⟨⟨s0, s1, s2⟩, ⟨s3, s4, s5⟩, ⟨s6, s7, s8⟩, s9, s10, s11⟩ := sto_box ZU.out
                  have PU := Lib.hid ((al.block _ (heapsz P8.out)).trans P8.out)
                  obtain ⟨p0, p1, p2⟩ := g_cells PU.out
                  simp only at s0 s1 s2 s3 s4 s5 s6 s7 s8 s9 s10 s11
                  have fa := cell_of_row _ _ 0 _ 48 (0, 0) zf
                  simp only [List.getElem?_toArray, List.getElem?_cons_zero] at fa
                  obtain ⟨w9, hw9⟩ : ∃ W, w8.alloc (.cells #[.bool false, .int .i64 x1, .int .i64 x2, .int .i64 x3, .int .i64 x4] 48) = W := ⟨_, rfl⟩
                  have HW9 := Lib.hid hw9
                  have HB9 := Lib.hid (HB8.out.trans (al.mono HB8.out.size)); have Z9 := ZU; have Fa_9 := Lib.hid zf
                  have P9 := PU
                  rw [hw9] at HB9 Z9 Fa_9 P9
                  clear al zf ZU PU hw9 Z8 P8
                  go_wp2_with fail
                  rw [HW9.out]
                  refine (KBE.out _ HB9.out).mono ?_
                  rintro e w10 ⟨rfl, hb⟩
                  have HB10 := Lib.hid (HB9.out.trans (hb.mono HB9.out.size)); have Z10 := Lib.hid ((hb.block _ (heapsz Z9.out)).trans Z9.out)
                  have P10 := Lib.hid ((hb.block _ (heapsz P9.out)).trans P9.out)
                  have Fa_10 := Lib.hid ((hb.block _ (heapsz Fa_9.out)).trans Fa_9.out)
                  clear hb s0 s1 s2 s3 s4 s5 s6 s7 s8 s9 s10 s11 p0 p1 p2 fa Z9 P9 Fa_9
                  obtain ⟨⟨s0, s1, s2⟩, ⟨s3, s4, s5⟩, ⟨s6, s7, s8⟩, s9, s10, s11⟩ := sto_box Z10.out
                  obtain ⟨p0, p1, p2⟩ := g_cells P10.out
                  simp only at s0 s1 s2 s3 s4 s5 s6 s7 s8 s9 s10 s11
                  have fa := cell_of_row _ _ 0 _ 48 (0, 0) Fa_10.out
                  simp at fa
                  go_wp2_with fail
                  refine (KCO.out _ HB10.out).mono ?_
                  rintro e w11 ⟨rfl, hb⟩
                  have HB11 := Lib.hid (HB10.out.trans (hb.mono HB10.out.size)); have Z11 := Lib.hid ((hb.block _ (heapsz Z10.out)).trans Z10.out)
                  have P11 := Lib.hid ((hb.block _ (heapsz P10.out)).trans P10.out)
                  have Fa_11 := Lib.hid ((hb.block _ (heapsz Fa_10.out)).trans Fa_10.out)
                  clear hb s0 s1 s2 s3 s4 s5 s6 s7 s8 s9 s10 s11 p0 p1 p2 fa Z10 P10 Fa_10
                  obtain ⟨⟨s0, s1, s2⟩, ⟨s3, s4, s5⟩, ⟨s6, s7, s8⟩, s9, s10, s11⟩ := sto_box Z11.out
                  obtain ⟨p0, p1, p2⟩ := g_cells P11.out
                  simp only at s0 s1 s2 s3 s4 s5 s6 s7 s8 s9 s10 s11
                  have fa := cell_of_row _ _ 0 _ 48 (0, 0) Fa_11.out
                  simp at fa
                  go_wp2_with fail
                  refine (KKN.out _ HB11.out).mono ?_
                  rintro e w12 ⟨rfl, hb⟩
                  have HB12 := Lib.hid (HB11.out.trans (hb.mono HB11.out.size)); have Z12 := Lib.hid ((hb.block _ (heapsz Z11.out)).trans Z11.out)
                  have P12 := Lib.hid ((hb.block _ (heapsz P11.out)).trans P11.out)
                  have Fa_12 := Lib.hid ((hb.block _ (heapsz Fa_11.out)).trans Fa_11.out)
                  clear hb s0 s1 s2 s3 s4 s5 s6 s7 s8 s9 s10 s11 p0 p1 p2 fa Z11 P11 Fa_11
                  obtain ⟨⟨s0, s1, s2⟩, ⟨s3, s4, s5⟩, ⟨s6, s7, s8⟩, s9, s10, s11⟩ := sto_box Z12.out
                  obtain ⟨p0, p1, p2⟩ := g_cells P12.out
                  simp only at s0 s1 s2 s3 s4 s5 s6 s7 s8 s9 s10 s11
                  have fa := cell_of_row _ _ 0 _ 48 (0, 0) Fa_12.out
                  simp at fa
                  go_wp2_with fail
                  go_ret
                  exact ⟨rfl, HB0.out.trans (HB12.out.mono HB0.out.size)⟩
end Go.Proofs.YtijjkiogmlannaaDoor
