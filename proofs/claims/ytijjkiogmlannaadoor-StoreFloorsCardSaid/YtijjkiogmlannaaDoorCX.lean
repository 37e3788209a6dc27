/- Stores: the law of the floor of prices. -/
import Derived.Test.YtijjkiogmlannaaDoorWV
namespace Go.Proofs.YtijjkiogmlannaaDoor
open Go.RowKit

set_option maxRecDepth 100000 in
set_option maxHeartbeats 8000000 in
theorem floors_law {X : SX} {w : World} (h : X.In w) (ht : Tab w) (n : Int) (p : Gd) : Calls Tryd.prog 9 #[X.v, .int .i64 n, gV p] w fun e w' => e = .returned (.bool true) ∧ Below w.heap.size w w' := by
  rcases X with ⟨S, AS, ns, cs, AI, ni, ci, AW, nw, cw⟩
  obtain ⟨z0, z1, hb0⟩ := two_new w (.cells (SX.cells ⟨S, AS, ns, cs, AI, ni, ci, AW, nw, cw⟩) 28) (.cells (gC p) 23)
  obtain ⟨w1, hw1⟩ : ∃ z, (w.alloc (.cells (SX.cells ⟨S, AS, ns, cs, AI, ni, ci, AW, nw, cw⟩) 28)).alloc (.cells (gC p) 23) = z := ⟨_, rfl⟩
  obtain ⟨⟨s0, s1, s2⟩, ⟨s3, s4, s5⟩, ⟨s6, s7, s8⟩, s9, s10, s11⟩ := sto_box z0
  obtain ⟨p0, p1, p2⟩ := g_cells z1
  simp only at s0 s1 s2 s3 s4 s5 s6 s7 s8 s9 s10 s11
  rw [hw1] at z0 z1 hb0
  have hlw := h.hw; have hls := h.hs
  simp only at hlw hls
  have HB0 := Lib.hid hb0; have HB1 := Lib.hid (Below.refl w1.heap.size w1); have Z1 := Lib.hid z0; have P1 := Lib.hid z1; have HI := Lib.hid (h.up hb0); have HW1 := Lib.hid hw1; have HT := Lib.hid (ht.next hb0); have HLW := Lib.hid hlw
  obtain ⟨A, hA⟩ : ∃ z, shortB ⟨S, AS, ns, cs, AI, ni, ci, AW, nw, cw⟩ = z := ⟨_, rfl⟩
  have KSH : Hid (∀ u, Below w1.heap.size w1 u → Calls Tryd.prog 12 #[.agg #[.int .i64 S.st.a, .int .i64 S.st.b, .int .i64 S.st.c, .int .i64 S.yd.a, .int .i64 S.yd.b, .int .i64 S.yd.c, .int .i64 S.rate, .int .i64 S.weeks, .int .i64 S.land, .slice AS ns cs, .slice AI ni ci, .slice AW nw cw]] u fun e w' => e = .returned (.bool A) ∧ Below u.heap.size u w') := Lib.hid fun u hu => by rw [← hA]; exact short_any (HI.out.up hu)
  have KKN : Hid (∀ u, Below w1.heap.size w1 u → Calls Tryd.prog 13 #[] u fun e w' => e = .returned (.bool true) ∧ Below u.heap.size u w') := Lib.hid fun u hu => known_any u (HT.out.next hu)
  clear h ht z0 z1 hb0 hw1 hlw hls hA
  cases A with
  | false =>
    go_enter Tryd.func9, Tryd.ntmps9
    go_wp2_with fail
    rw [HW1.out]
    refine (KSH.out _ HB1.out).mono ?_
    rintro e w2 ⟨rfl, hb⟩
    have HB2 := Lib.hid (HB1.out.trans (hb.mono HB1.out.size)); have Z2 := Lib.hid ((hb.block _ (heapsz Z1.out)).trans Z1.out); have P2 := Lib.hid ((hb.block _ (heapsz P1.out)).trans P1.out)
    clear hb s0 s1 s2 s3 s4 s5 s6 s7 s8 s9 s10 s11 p0 p1 p2 Z1 P1
    obtain ⟨⟨s0, s1, s2⟩, ⟨s3, s4, s5⟩, ⟨s6, s7, s8⟩, s9, s10, s11⟩ := sto_box Z2.out
    obtain ⟨p0, p1, p2⟩ := g_cells P2.out
    simp only at s0 s1 s2 s3 s4 s5 s6 s7 s8 s9 s10 s11
    go_wp2_with fail
    refine (KKN.out _ HB2.out).mono ?_
    rintro e w3 ⟨rfl, hb⟩
    have HB3 := Lib.hid (HB2.out.trans (hb.mono HB2.out.size)); have Z3 := Lib.hid ((hb.block _ (heapsz Z2.out)).trans Z2.out); have P3 := Lib.hid ((hb.block _ (heapsz P2.out)).trans P2.out)
    clear hb s0 s1 s2 s3 s4 s5 s6 s7 s8 s9 s10 s11 p0 p1 p2 Z2 P2
    obtain ⟨⟨s0, s1, s2⟩, ⟨s3, s4, s5⟩, ⟨s6, s7, s8⟩, s9, s10, s11⟩ := sto_box Z3.out
    obtain ⟨p0, p1, p2⟩ := g_cells P3.out
    simp only at s0 s1 s2 s3 s4 s5 s6 s7 s8 s9 s10 s11
    go_wp2_with fail
    go_ret
    exact ⟨rfl, HB0.out.trans (HB3.out.mono HB0.out.size)⟩
  | true =>
    obtain ⟨B, hB⟩ : ∃ z, stoB S = z := ⟨_, rfl⟩
    have KST : Hid (∀ u, Below w1.heap.size w1 u → Calls Tryd.prog 16 #[.agg #[.int .i64 S.st.a, .int .i64 S.st.b, .int .i64 S.st.c, .int .i64 S.yd.a, .int .i64 S.yd.b, .int .i64 S.yd.c, .int .i64 S.rate, .int .i64 S.weeks, .int .i64 S.land, .slice AS ns cs, .slice AI ni ci, .slice AW nw cw]] u fun e w' => e = .returned (.bool B) ∧ Below u.heap.size u w') := Lib.hid fun u hu => by rw [← hB]; exact rstore_any (HI.out.up hu)
    obtain ⟨C, hC⟩ : ∃ z, decide (0 ≤ n ∧ n < (nw : Int)) = z := ⟨_, rfl⟩
    have KWI : Hid (∀ u, Below w1.heap.size w1 u → Calls Tryd.prog 19 #[.agg #[.int .i64 S.st.a, .int .i64 S.st.b, .int .i64 S.st.c, .int .i64 S.yd.a, .int .i64 S.yd.b, .int .i64 S.yd.c, .int .i64 S.rate, .int .i64 S.weeks, .int .i64 S.land, .slice AS ns cs, .slice AI ni ci, .slice AW nw cw], .int .i64 n] u fun e w' => e = .returned (.bool C) ∧ Below u.heap.size u w') := Lib.hid fun u hu => by rw [← hC]; exact winter_any (X := ⟨S, AS, ns, cs, AI, ni, ci, AW, nw, cw⟩) n
    obtain ⟨D, hD⟩ : ∃ z, amtB 1000000 p = z := ⟨_, rfl⟩
    have KPR : Hid (∀ u, Below w1.heap.size w1 u → Calls Tryd.prog 32 #[.agg #[.int .i64 p.a, .int .i64 p.b, .int .i64 p.c]] u fun e w' => e = .returned (.bool D) ∧ Below u.heap.size u w') := Lib.hid fun u hu => by rw [← hD]; exact rprices_any p u
    have hF : inB 0 n ((S.wins.length : Int) - 1) = C := by
      rw [HLW.out, ← hC]; unfold inB; congr 1; apply propext; constructor <;> intro g <;> omega
    have KF0 : ∀ q, floI S n p = q → Hid (∀ u, Below w1.heap.size w1 u → Calls Tryd.prog 31 #[.agg #[.int .i64 S.st.a, .int .i64 S.st.b, .int .i64 S.st.c, .int .i64 S.yd.a, .int .i64 S.yd.b, .int .i64 S.yd.c, .int .i64 S.rate, .int .i64 S.weeks, .int .i64 S.land, .slice AS ns cs, .slice AI ni ci, .slice AW nw cw], .int .i64 n, .agg #[.int .i64 p.a, .int .i64 p.b, .int .i64 p.c]] u fun e w' => e = .returned (.tuple #[.int .i64 q.1, .int .i64 q.2]) ∧ Below u.heap.size u w') := fun q hq => Lib.hid fun u hu => by rw [← hq]; exact Floor_any (HI.out.up hu) n p
    have hfl : ((B && (C && D)) = false → floI S n p = (0, 2)) ∧ (B = true → C = true → D = true → fairB S.ships p = false → floI S n p = (0, 7)) ∧ (B = true → C = true → D = true → fairB S.ships p = true → floI S n p = (S.floor (S.wins.getD n.toNat []) p, 0)) := by
      unfold floI
      rw [hB, hF, hD]
      refine ⟨fun e => by rw [e]; rfl, ?_, ?_⟩
      · rintro rfl rfl rfl e; rw [e]; rfl
      · rintro rfl rfl rfl e; rw [e]; rfl
    obtain ⟨hf1, hf2, hf3⟩ := hfl
    clear hF
    cases B with
    | false =>
      have KFL := KF0 _ (hf1 rfl)
      clear KF0 hf1 hf2 hf3 hB hC hD
      simp only at KFL
      go_enter Tryd.func9, Tryd.ntmps9
      go_wp2_with fail
      rw [HW1.out]
      refine (KSH.out _ HB1.out).mono ?_
      rintro e w2 ⟨rfl, hb⟩
      have HB2 := Lib.hid (HB1.out.trans (hb.mono HB1.out.size)); have Z2 := Lib.hid ((hb.block _ (heapsz Z1.out)).trans Z1.out); have P2 := Lib.hid ((hb.block _ (heapsz P1.out)).trans P1.out)
      clear hb s0 s1 s2 s3 s4 s5 s6 s7 s8 s9 s10 s11 p0 p1 p2 Z1 P1
      obtain ⟨⟨s0, s1, s2⟩, ⟨s3, s4, s5⟩, ⟨s6, s7, s8⟩, s9, s10, s11⟩ := sto_box Z2.out
      obtain ⟨p0, p1, p2⟩ := g_cells P2.out
      simp only at s0 s1 s2 s3 s4 s5 s6 s7 s8 s9 s10 s11
      go_wp2_with fail
      refine (KFL.out _ HB2.out).mono ?_
      rintro e w3 ⟨rfl, hb⟩
      have HB3 := Lib.hid (HB2.out.trans (hb.mono HB2.out.size)); have Z3 := Lib.hid ((hb.block _ (heapsz Z2.out)).trans Z2.out); have P3 := Lib.hid ((hb.block _ (heapsz P2.out)).trans P2.out)
      clear hb s0 s1 s2 s3 s4 s5 s6 s7 s8 s9 s10 s11 p0 p1 p2 Z2 P2
      obtain ⟨⟨s0, s1, s2⟩, ⟨s3, s4, s5⟩, ⟨s6, s7, s8⟩, s9, s10, s11⟩ := sto_box Z3.out
      obtain ⟨p0, p1, p2⟩ := g_cells P3.out
      simp only at s0 s1 s2 s3 s4 s5 s6 s7 s8 s9 s10 s11
      go_wp2_with fail
      refine (KST.out _ HB3.out).mono ?_
      rintro e w4 ⟨rfl, hb⟩
      have HB4 := Lib.hid (HB3.out.trans (hb.mono HB3.out.size)); have Z4 := Lib.hid ((hb.block _ (heapsz Z3.out)).trans Z3.out); have P4 := Lib.hid ((hb.block _ (heapsz P3.out)).trans P3.out)
      clear hb s0 s1 s2 s3 s4 s5 s6 s7 s8 s9 s10 s11 p0 p1 p2 Z3 P3
      obtain ⟨⟨s0, s1, s2⟩, ⟨s3, s4, s5⟩, ⟨s6, s7, s8⟩, s9, s10, s11⟩ := sto_box Z4.out
      obtain ⟨p0, p1, p2⟩ := g_cells P4.out
      simp only at s0 s1 s2 s3 s4 s5 s6 s7 s8 s9 s10 s11
      go_wp2_with fail
      refine (KKN.out _ HB4.out).mono ?_
      rintro e w5 ⟨rfl, hb⟩
      have HB5 := Lib.hid (HB4.out.trans (hb.mono HB4.out.size)); have Z5 := Lib.hid ((hb.block _ (heapsz Z4.out)).trans Z4.out); have P5 := Lib.hid ((hb.block _ (heapsz P4.out)).trans P4.out)
      clear hb s0 s1 s2 s3 s4 s5 s6 s7 s8 s9 s10 s11 p0 p1 p2 Z4 P4
      obtain ⟨⟨s0, s1, s2⟩, ⟨s3, s4, s5⟩, ⟨s6, s7, s8⟩, s9, s10, s11⟩ := sto_box Z5.out
      obtain ⟨p0, p1, p2⟩ := g_cells P5.out
      simp only at s0 s1 s2 s3 s4 s5 s6 s7 s8 s9 s10 s11
      go_wp2_with fail
      go_ret
      exact ⟨rfl, HB0.out.trans (HB5.out.mono HB0.out.size)⟩
    | true =>
      have hok := Lib.hid (stoB_iff.1 hB)
      cases C with
      | false =>
        have KFL := KF0 _ (hf1 rfl)
        clear KF0 hf1 hf2 hf3 hB hC hD
        simp only at KFL
        go_enter Tryd.func9, Tryd.ntmps9
        go_wp2_with fail
        rw [HW1.out]
        refine (KSH.out _ HB1.out).mono ?_
        rintro e w2 ⟨rfl, hb⟩
        have HB2 := Lib.hid (HB1.out.trans (hb.mono HB1.out.size)); have Z2 := Lib.hid ((hb.block _ (heapsz Z1.out)).trans Z1.out); have P2 := Lib.hid ((hb.block _ (heapsz P1.out)).trans P1.out)
        clear hb s0 s1 s2 s3 s4 s5 s6 s7 s8 s9 s10 s11 p0 p1 p2 Z1 P1
        obtain ⟨⟨s0, s1, s2⟩, ⟨s3, s4, s5⟩, ⟨s6, s7, s8⟩, s9, s10, s11⟩ := sto_box Z2.out
        obtain ⟨p0, p1, p2⟩ := g_cells P2.out
        simp only at s0 s1 s2 s3 s4 s5 s6 s7 s8 s9 s10 s11
        go_wp2_with fail
        refine (KFL.out _ HB2.out).mono ?_
        rintro e w3 ⟨rfl, hb⟩
        have HB3 := Lib.hid (HB2.out.trans (hb.mono HB2.out.size)); have Z3 := Lib.hid ((hb.block _ (heapsz Z2.out)).trans Z2.out); have P3 := Lib.hid ((hb.block _ (heapsz P2.out)).trans P2.out)
        clear hb s0 s1 s2 s3 s4 s5 s6 s7 s8 s9 s10 s11 p0 p1 p2 Z2 P2
        obtain ⟨⟨s0, s1, s2⟩, ⟨s3, s4, s5⟩, ⟨s6, s7, s8⟩, s9, s10, s11⟩ := sto_box Z3.out
        obtain ⟨p0, p1, p2⟩ := g_cells P3.out
        simp only at s0 s1 s2 s3 s4 s5 s6 s7 s8 s9 s10 s11
        go_wp2_with fail
        refine (KST.out _ HB3.out).mono ?_
        rintro e w4 ⟨rfl, hb⟩
        have HB4 := Lib.hid (HB3.out.trans (hb.mono HB3.out.size)); have Z4 := Lib.hid ((hb.block _ (heapsz Z3.out)).trans Z3.out); have P4 := Lib.hid ((hb.block _ (heapsz P3.out)).trans P3.out)
        clear hb s0 s1 s2 s3 s4 s5 s6 s7 s8 s9 s10 s11 p0 p1 p2 Z3 P3
        obtain ⟨⟨s0, s1, s2⟩, ⟨s3, s4, s5⟩, ⟨s6, s7, s8⟩, s9, s10, s11⟩ := sto_box Z4.out
        obtain ⟨p0, p1, p2⟩ := g_cells P4.out
        simp only at s0 s1 s2 s3 s4 s5 s6 s7 s8 s9 s10 s11
        go_wp2_with fail
        refine (KWI.out _ HB4.out).mono ?_
        rintro e w5 ⟨rfl, hb⟩
        have HB5 := Lib.hid (HB4.out.trans (hb.mono HB4.out.size)); have Z5 := Lib.hid ((hb.block _ (heapsz Z4.out)).trans Z4.out); have P5 := Lib.hid ((hb.block _ (heapsz P4.out)).trans P4.out)
        clear hb s0 s1 s2 s3 s4 s5 s6 s7 s8 s9 s10 s11 p0 p1 p2 Z4 P4
        obtain ⟨⟨s0, s1, s2⟩, ⟨s3, s4, s5⟩, ⟨s6, s7, s8⟩, s9, s10, s11⟩ := sto_box Z5.out
        obtain ⟨p0, p1, p2⟩ := g_cells P5.out
        simp only at s0 s1 s2 s3 s4 s5 s6 s7 s8 s9 s10 s11
        go_wp2_with fail
        refine (KKN.out _ HB5.out).mono ?_
        rintro e w6 ⟨rfl, hb⟩
        have HB6 := Lib.hid (HB5.out.trans (hb.mono HB5.out.size)); have Z6 := Lib.hid ((hb.block _ (heapsz Z5.out)).trans Z5.out); have P6 := Lib.hid ((hb.block _ (heapsz P5.out)).trans P5.out)
        clear hb s0 s1 s2 s3 s4 s5 s6 s7 s8 s9 s10 s11 p0 p1 p2 Z5 P5
        obtain ⟨⟨s0, s1, s2⟩, ⟨s3, s4, s5⟩, ⟨s6, s7, s8⟩, s9, s10, s11⟩ := sto_box Z6.out
        obtain ⟨p0, p1, p2⟩ := g_cells P6.out
        simp only at s0 s1 s2 s3 s4 s5 s6 s7 s8 s9 s10 s11
        go_wp2_with fail
        go_ret
        exact ⟨rfl, HB0.out.trans (HB6.out.mono HB0.out.size)⟩
      | true =>
        have hn := of_decide_eq_true hC
        cases D with
        | false =>
          have KFL := KF0 _ (hf1 rfl)
          clear KF0 hf1 hf2 hf3 hB hC hD hn
          simp only at KFL
          go_enter Tryd.func9, Tryd.ntmps9
          go_wp2_with fail
          rw [HW1.out]
          refine (KSH.out _ HB1.out).mono ?_
          rintro e w2 ⟨rfl, hb⟩
          have HB2 := Lib.hid (HB1.out.trans (hb.mono HB1.out.size)); have Z2 := Lib.hid ((hb.block _ (heapsz Z1.out)).trans Z1.out); have P2 := Lib.hid ((hb.block _ (heapsz P1.out)).trans P1.out)
          clear hb s0 s1 s2 s3 s4 s5 s6 s7 s8 s9 s10 s11 p0 p1 p2 Z1 P1
          obtain ⟨⟨s0, s1, s2⟩, ⟨s3, s4, s5⟩, ⟨s6, s7, s8⟩, s9, s10, s11⟩ := sto_box Z2.out
          obtain ⟨p0, p1, p2⟩ := g_cells P2.out
          simp only at s0 s1 s2 s3 s4 s5 s6 s7 s8 s9 s10 s11
          go_wp2_with fail
          refine (KFL.out _ HB2.out).mono ?_
          rintro e w3 ⟨rfl, hb⟩
          have HB3 := Lib.hid (HB2.out.trans (hb.mono HB2.out.size)); have Z3 := Lib.hid ((hb.block _ (heapsz Z2.out)).trans Z2.out); have P3 := Lib.hid ((hb.block _ (heapsz P2.out)).trans P2.out)
          clear hb s0 s1 s2 s3 s4 s5 s6 s7 s8 s9 s10 s11 p0 p1 p2 Z2 P2
          obtain ⟨⟨s0, s1, s2⟩, ⟨s3, s4, s5⟩, ⟨s6, s7, s8⟩, s9, s10, s11⟩ := sto_box Z3.out
          obtain ⟨p0, p1, p2⟩ := g_cells P3.out
          simp only at s0 s1 s2 s3 s4 s5 s6 s7 s8 s9 s10 s11
          go_wp2_with fail
          refine (KST.out _ HB3.out).mono ?_
          rintro e w4 ⟨rfl, hb⟩
          have HB4 := Lib.hid (HB3.out.trans (hb.mono HB3.out.size)); have Z4 := Lib.hid ((hb.block _ (heapsz Z3.out)).trans Z3.out); have P4 := Lib.hid ((hb.block _ (heapsz P3.out)).trans P3.out)
          clear hb s0 s1 s2 s3 s4 s5 s6 s7 s8 s9 s10 s11 p0 p1 p2 Z3 P3
          obtain ⟨⟨s0, s1, s2⟩, ⟨s3, s4, s5⟩, ⟨s6, s7, s8⟩, s9, s10, s11⟩ := sto_box Z4.out
          obtain ⟨p0, p1, p2⟩ := g_cells P4.out
          simp only at s0 s1 s2 s3 s4 s5 s6 s7 s8 s9 s10 s11
          go_wp2_with fail
          refine (KWI.out _ HB4.out).mono ?_
          rintro e w5 ⟨rfl, hb⟩
          have HB5 := Lib.hid (HB4.out.trans (hb.mono HB4.out.size)); have Z5 := Lib.hid ((hb.block _ (heapsz Z4.out)).trans Z4.out); have P5 := Lib.hid ((hb.block _ (heapsz P4.out)).trans P4.out)
          clear hb s0 s1 s2 s3 s4 s5 s6 s7 s8 s9 s10 s11 p0 p1 p2 Z4 P4
          obtain ⟨⟨s0, s1, s2⟩, ⟨s3, s4, s5⟩, ⟨s6, s7, s8⟩, s9, s10, s11⟩ := sto_box Z5.out
          obtain ⟨p0, p1, p2⟩ := g_cells P5.out
          simp only at s0 s1 s2 s3 s4 s5 s6 s7 s8 s9 s10 s11
          go_wp2_with fail
          refine (KPR.out _ HB5.out).mono ?_
          rintro e w6 ⟨rfl, hb⟩
          have HB6 := Lib.hid (HB5.out.trans (hb.mono HB5.out.size)); have Z6 := Lib.hid ((hb.block _ (heapsz Z5.out)).trans Z5.out); have P6 := Lib.hid ((hb.block _ (heapsz P5.out)).trans P5.out)
          clear hb s0 s1 s2 s3 s4 s5 s6 s7 s8 s9 s10 s11 p0 p1 p2 Z5 P5
          obtain ⟨⟨s0, s1, s2⟩, ⟨s3, s4, s5⟩, ⟨s6, s7, s8⟩, s9, s10, s11⟩ := sto_box Z6.out
          obtain ⟨p0, p1, p2⟩ := g_cells P6.out
          simp only at s0 s1 s2 s3 s4 s5 s6 s7 s8 s9 s10 s11
          go_wp2_with fail
          refine (KKN.out _ HB6.out).mono ?_
          rintro e w7 ⟨rfl, hb⟩
          have HB7 := Lib.hid (HB6.out.trans (hb.mono HB6.out.size)); have Z7 := Lib.hid ((hb.block _ (heapsz Z6.out)).trans Z6.out); have P7 := Lib.hid ((hb.block _ (heapsz P6.out)).trans P6.out)
          clear hb s0 s1 s2 s3 s4 s5 s6 s7 s8 s9 s10 s11 p0 p1 p2 Z6 P6
          obtain ⟨⟨s0, s1, s2⟩, ⟨s3, s4, s5⟩, ⟨s6, s7, s8⟩, s9, s10, s11⟩ := sto_box Z7.out
          obtain ⟨p0, p1, p2⟩ := g_cells P7.out
          simp only at s0 s1 s2 s3 s4 s5 s6 s7 s8 s9 s10 s11
          go_wp2_with fail
          go_ret
          exact ⟨rfl, HB0.out.trans (HB7.out.mono HB0.out.size)⟩
        | true =>
          have HD := Lib.hid hD
          obtain ⟨E, hE⟩ : ∃ z, fairB S.ships p = z := ⟨_, rfl⟩
          have KFA : Hid (∀ u, Below w1.heap.size w1 u → Calls Tryd.prog 33 #[.agg #[.int .i64 S.st.a, .int .i64 S.st.b, .int .i64 S.st.c, .int .i64 S.yd.a, .int .i64 S.yd.b, .int .i64 S.yd.c, .int .i64 S.rate, .int .i64 S.weeks, .int .i64 S.land, .slice AS ns cs, .slice AI ni ci, .slice AW nw cw], .agg #[.int .i64 p.a, .int .i64 p.b, .int .i64 p.c]] u fun e w' => e = .returned (.bool E) ∧ Below u.heap.size u w') := Lib.hid fun u hu => by rw [← hE]; exact rfair_any (HI.out.up hu) hok.out p HD.out
          cases E with
          | false =>
            have KFL := KF0 _ (hf2 rfl rfl rfl hE)
            clear KF0 hf1 hf2 hf3 hB hC hD hn hE
            simp only at KFL
            go_enter Tryd.func9, Tryd.ntmps9
            go_wp2_with fail
            rw [HW1.out]
            refine (KSH.out _ HB1.out).mono ?_
            rintro e w2 ⟨rfl, hb⟩
            have HB2 := Lib.hid (HB1.out.trans (hb.mono HB1.out.size)); have Z2 := Lib.hid ((hb.block _ (heapsz Z1.out)).trans Z1.out); have P2 := Lib.hid ((hb.block _ (heapsz P1.out)).trans P1.out)
            clear hb s0 s1 s2 s3 s4 s5 s6 s7 s8 s9 s10 s11 p0 p1 p2 Z1 P1
            obtain ⟨⟨s0, s1, s2⟩, ⟨s3, s4, s5⟩, ⟨s6, s7, s8⟩, s9, s10, s11⟩ := sto_box Z2.out
            obtain ⟨p0, p1, p2⟩ := g_cells P2.out
            simp only at s0 s1 s2 s3 s4 s5 s6 s7 s8 s9 s10 s11
            go_wp2_with fail
            refine (KFL.out _ HB2.out).mono ?_
            rintro e w3 ⟨rfl, hb⟩
            have HB3 := Lib.hid (HB2.out.trans (hb.mono HB2.out.size)); have Z3 := Lib.hid ((hb.block _ (heapsz Z2.out)).trans Z2.out); have P3 := Lib.hid ((hb.block _ (heapsz P2.out)).trans P2.out)
            clear hb s0 s1 s2 s3 s4 s5 s6 s7 s8 s9 s10 s11 p0 p1 p2 Z2 P2
            obtain ⟨⟨s0, s1, s2⟩, ⟨s3, s4, s5⟩, ⟨s6, s7, s8⟩, s9, s10, s11⟩ := sto_box Z3.out
            obtain ⟨p0, p1, p2⟩ := g_cells P3.out
            simp only at s0 s1 s2 s3 s4 s5 s6 s7 s8 s9 s10 s11
            go_wp2_with fail
            refine (KST.out _ HB3.out).mono ?_
            rintro e w4 ⟨rfl, hb⟩
            have HB4 := Lib.hid (HB3.out.trans (hb.mono HB3.out.size)); have Z4 := Lib.hid ((hb.block _ (heapsz Z3.out)).trans Z3.out); have P4 := Lib.hid ((hb.block _ (heapsz P3.out)).trans P3.out)
            clear hb s0 s1 s2 s3 s4 s5 s6 s7 s8 s9 s10 s11 p0 p1 p2 Z3 P3
            obtain ⟨⟨s0, s1, s2⟩, ⟨s3, s4, s5⟩, ⟨s6, s7, s8⟩, s9, s10, s11⟩ := sto_box Z4.out
            obtain ⟨p0, p1, p2⟩ := g_cells P4.out
            simp only at s0 s1 s2 s3 s4 s5 s6 s7 s8 s9 s10 s11
            go_wp2_with fail
            refine (KWI.out _ HB4.out).mono ?_
            rintro e w5 ⟨rfl, hb⟩
            have HB5 := Lib.hid (HB4.out.trans (hb.mono HB4.out.size)); have Z5 := Lib.hid ((hb.block _ (heapsz Z4.out)).trans Z4.out); have P5 := Lib.hid ((hb.block _ (heapsz P4.out)).trans P4.out)
            clear hb s0 s1 s2 s3 s4 s5 s6 s7 s8 s9 s10 s11 p0 p1 p2 Z4 P4
            obtain ⟨⟨s0, s1, s2⟩, ⟨s3, s4, s5⟩, ⟨s6, s7, s8⟩, s9, s10, s11⟩ := sto_box Z5.out
            obtain ⟨p0, p1, p2⟩ := g_cells P5.out
            simp only at s0 s1 s2 s3 s4 s5 s6 s7 s8 s9 s10 s11
            go_wp2_with fail
            refine (KPR.out _ HB5.out).mono ?_
            rintro e w6 ⟨rfl, hb⟩
            have HB6 := Lib.hid (HB5.out.trans (hb.mono HB5.out.size)); have Z6 := Lib.hid ((hb.block _ (heapsz Z5.out)).trans Z5.out); have P6 := Lib.hid ((hb.block _ (heapsz P5.out)).trans P5.out)
            clear hb s0 s1 s2 s3 s4 s5 s6 s7 s8 s9 s10 s11 p0 p1 p2 Z5 P5
            obtain ⟨⟨s0, s1, s2⟩, ⟨s3, s4, s5⟩, ⟨s6, s7, s8⟩, s9, s10, s11⟩ := sto_box Z6.out
            obtain ⟨p0, p1, p2⟩ := g_cells P6.out
            simp only at s0 s1 s2 s3 s4 s5 s6 s7 s8 s9 s10 s11
            go_wp2_with fail
            refine (KFA.out _ HB6.out).mono ?_
            rintro e w7 ⟨rfl, hb⟩
            have HB7 := Lib.hid (HB6.out.trans (hb.mono HB6.out.size)); have Z7 := Lib.hid ((hb.block _ (heapsz Z6.out)).trans Z6.out); have P7 := Lib.hid ((hb.block _ (heapsz P6.out)).trans P6.out)
            clear hb s0 s1 s2 s3 s4 s5 s6 s7 s8 s9 s10 s11 p0 p1 p2 Z6 P6
            obtain ⟨⟨s0, s1, s2⟩, ⟨s3, s4, s5⟩, ⟨s6, s7, s8⟩, s9, s10, s11⟩ := sto_box Z7.out
            obtain ⟨p0, p1, p2⟩ := g_cells P7.out
            simp only at s0 s1 s2 s3 s4 s5 s6 s7 s8 s9 s10 s11
            go_wp2_with fail
            refine (KKN.out _ HB7.out).mono ?_
            rintro e w8 ⟨rfl, hb⟩
            have HB8 := Lib.hid (HB7.out.trans (hb.mono HB7.out.size)); have Z8 := Lib.hid ((hb.block _ (heapsz Z7.out)).trans Z7.out); have P8 := Lib.hid ((hb.block _ (heapsz P7.out)).trans P7.out)
            clear hb s0 s1 s2 s3 s4 s5 s6 s7 s8 s9 s10 s11 p0 p1 p2 Z7 P7
            obtain ⟨⟨s0, s1, s2⟩, ⟨s3, s4, s5⟩, ⟨s6, s7, s8⟩, s9, s10, s11⟩ := sto_box Z8.out
            obtain ⟨p0, p1, p2⟩ := g_cells P8.out
            simp only at s0 s1 s2 s3 s4 s5 s6 s7 s8 s9 s10 s11
            go_wp2_with fail
            go_ret
            exact ⟨rfl, HB0.out.trans (HB8.out.mono HB0.out.size)⟩
          | true =>
            have KFL := KF0 _ (hf3 rfl rfl rfl hE)
            obtain ⟨m, rfl⟩ : ∃ m : Nat, n = (m : Int) := ⟨n.toNat, by omega⟩
            rw [show ((m : Int)).toNat = m from rfl] at KFL
            obtain ⟨R, hR⟩ : ∃ z, S.floor (S.wins.getD m []) p = z := ⟨_, rfl⟩
            have hm : m < nw := by omega
            have KRF : Hid (∀ u, Below w1.heap.size w1 u → Calls Tryd.prog 34 #[.agg #[.int .i64 S.st.a, .int .i64 S.st.b, .int .i64 S.st.c, .int .i64 S.yd.a, .int .i64 S.yd.b, .int .i64 S.yd.c, .int .i64 S.rate, .int .i64 S.weeks, .int .i64 S.land, .slice AS ns cs, .slice AI ni ci, .slice AW nw cw], .int .i64 (m : Int), .agg #[.int .i64 p.a, .int .i64 p.b, .int .i64 p.c]] u fun e w' => e = .returned (.int .i64 R) ∧ Below u.heap.size u w') := Lib.hid fun u hu => by rw [← hR]; exact rfloor_any (HI.out.up hu) hok.out m hm p HD.out
            rw [hR] at KFL
            clear KF0 hf1 hf2 hf3 hB hC hD hn hE hR hm
            simp only at KFL
            go_enter Tryd.func9, Tryd.ntmps9
            go_wp2_with fail
            rw [HW1.out]
            refine (KSH.out _ HB1.out).mono ?_
            rintro e w2 ⟨rfl, hb⟩
            have HB2 := Lib.hid (HB1.out.trans (hb.mono HB1.out.size)); have Z2 := Lib.hid ((hb.block _ (heapsz Z1.out)).trans Z1.out); have P2 := Lib.hid ((hb.block _ (heapsz P1.out)).trans P1.out)
            clear hb s0 s1 s2 s3 s4 s5 s6 s7 s8 s9 s10 s11 p0 p1 p2 Z1 P1
            obtain ⟨⟨s0, s1, s2⟩, ⟨s3, s4, s5⟩, ⟨s6, s7, s8⟩, s9, s10, s11⟩ := sto_box Z2.out
            obtain ⟨p0, p1, p2⟩ := g_cells P2.out
            simp only at s0 s1 s2 s3 s4 s5 s6 s7 s8 s9 s10 s11
            go_wp2_with fail
            refine (KFL.out _ HB2.out).mono ?_
            rintro e w3 ⟨rfl, hb⟩
            have HB3 := Lib.hid (HB2.out.trans (hb.mono HB2.out.size)); have Z3 := Lib.hid ((hb.block _ (heapsz Z2.out)).trans Z2.out); have P3 := Lib.hid ((hb.block _ (heapsz P2.out)).trans P2.out)
            clear hb s0 s1 s2 s3 s4 s5 s6 s7 s8 s9 s10 s11 p0 p1 p2 Z2 P2
            obtain ⟨⟨s0, s1, s2⟩, ⟨s3, s4, s5⟩, ⟨s6, s7, s8⟩, s9, s10, s11⟩ := sto_box Z3.out
            obtain ⟨p0, p1, p2⟩ := g_cells P3.out
            simp only at s0 s1 s2 s3 s4 s5 s6 s7 s8 s9 s10 s11
            go_wp2_with fail
            refine (KST.out _ HB3.out).mono ?_
            rintro e w4 ⟨rfl, hb⟩
            have HB4 := Lib.hid (HB3.out.trans (hb.mono HB3.out.size)); have Z4 := Lib.hid ((hb.block _ (heapsz Z3.out)).trans Z3.out); have P4 := Lib.hid ((hb.block _ (heapsz P3.out)).trans P3.out)
            clear hb s0 s1 s2 s3 s4 s5 s6 s7 s8 s9 s10 s11 p0 p1 p2 Z3 P3
            obtain ⟨⟨s0, s1, s2⟩, ⟨s3, s4, s5⟩, ⟨s6, s7, s8⟩, s9, s10, s11⟩ := sto_box Z4.out
            obtain ⟨p0, p1, p2⟩ := g_cells P4.out
            simp only at s0 s1 s2 s3 s4 s5 s6 s7 s8 s9 s10 s11
            go_wp2_with fail
            refine (KWI.out _ HB4.out).mono ?_
            rintro e w5 ⟨rfl, hb⟩
            have HB5 := Lib.hid (HB4.out.trans (hb.mono HB4.out.size)); have Z5 := Lib.hid ((hb.block _ (heapsz Z4.out)).trans Z4.out); have P5 := Lib.hid ((hb.block _ (heapsz P4.out)).trans P4.out)
            clear hb s0 s1 s2 s3 s4 s5 s6 s7 s8 s9 s10 s11 p0 p1 p2 Z4 P4
            obtain ⟨⟨s0, s1, s2⟩, ⟨s3, s4, s5⟩, ⟨s6, s7, s8⟩, s9, s10, s11⟩ := sto_box Z5.out
            obtain ⟨p0, p1, p2⟩ := g_cells P5.out
            simp only at s0 s1 s2 s3 s4 s5 s6 s7 s8 s9 s10 s11
            go_wp2_with fail
            refine (KPR.out _ HB5.out).mono ?_
            rintro e w6 ⟨rfl, hb⟩
            have HB6 := Lib.hid (HB5.out.trans (hb.mono HB5.out.size)); have Z6 := Lib.hid ((hb.block _ (heapsz Z5.out)).trans Z5.out); have P6 := Lib.hid ((hb.block _ (heapsz P5.out)).trans P5.out)
            clear hb s0 s1 s2 s3 s4 s5 s6 s7 s8 s9 s10 s11 p0 p1 p2 Z5 P5
            obtain ⟨⟨s0, s1, s2⟩, ⟨s3, s4, s5⟩, ⟨s6, s7, s8⟩, s9, s10, s11⟩ := sto_box Z6.out
            obtain ⟨p0, p1, p2⟩ := g_cells P6.out
            simp only at s0 s1 s2 s3 s4 s5 s6 s7 s8 s9 s10 s11
            go_wp2_with fail
            refine (KFA.out _ HB6.out).mono ?_
            rintro e w7 ⟨rfl, hb⟩
            have HB7 := Lib.hid (HB6.out.trans (hb.mono HB6.out.size)); have Z7 := Lib.hid ((hb.block _ (heapsz Z6.out)).trans Z6.out); have P7 := Lib.hid ((hb.block _ (heapsz P6.out)).trans P6.out)
            clear hb s0 s1 s2 s3 s4 s5 s6 s7 s8 s9 s10 s11 p0 p1 p2 Z6 P6
            obtain ⟨⟨s0, s1, s2⟩, ⟨s3, s4, s5⟩, ⟨s6, s7, s8⟩, s9, s10, s11⟩ := sto_box Z7.out
            obtain ⟨p0, p1, p2⟩ := g_cells P7.out
            simp only at s0 s1 s2 s3 s4 s5 s6 s7 s8 s9 s10 s11
            go_wp2_with fail
            refine (KRF.out _ HB7.out).mono ?_
            rintro e w8 ⟨rfl, hb⟩
            have HB8 := Lib.hid (HB7.out.trans (hb.mono HB7.out.size)); have Z8 := Lib.hid ((hb.block _ (heapsz Z7.out)).trans Z7.out); have P8 := Lib.hid ((hb.block _ (heapsz P7.out)).trans P7.out)
            clear hb s0 s1 s2 s3 s4 s5 s6 s7 s8 s9 s10 s11 p0 p1 p2 Z7 P7
            obtain ⟨⟨s0, s1, s2⟩, ⟨s3, s4, s5⟩, ⟨s6, s7, s8⟩, s9, s10, s11⟩ := sto_box Z8.out
            obtain ⟨p0, p1, p2⟩ := g_cells P8.out
            simp only at s0 s1 s2 s3 s4 s5 s6 s7 s8 s9 s10 s11
            go_wp2_with fail
            refine (KKN.out _ HB8.out).mono ?_
            rintro e w9 ⟨rfl, hb⟩
            have HB9 := Lib.hid (HB8.out.trans (hb.mono HB8.out.size)); have Z9 := Lib.hid ((hb.block _ (heapsz Z8.out)).trans Z8.out); have P9 := Lib.hid ((hb.block _ (heapsz P8.out)).trans P8.out)
            clear hb s0 s1 s2 s3 s4 s5 s6 s7 s8 s9 s10 s11 p0 p1 p2 Z8 P8
            obtain ⟨⟨s0, s1, s2⟩, ⟨s3, s4, s5⟩, ⟨s6, s7, s8⟩, s9, s10, s11⟩ := sto_box Z9.out
            obtain ⟨p0, p1, p2⟩ := g_cells P9.out
            simp only at s0 s1 s2 s3 s4 s5 s6 s7 s8 s9 s10 s11
            go_wp2_with fail
            go_ret
            exact ⟨rfl, HB0.out.trans (HB9.out.mono HB0.out.size)⟩
end Go.Proofs.YtijjkiogmlannaaDoor
