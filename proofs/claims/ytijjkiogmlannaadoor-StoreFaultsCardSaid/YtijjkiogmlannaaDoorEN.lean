/- Stores: the laws of what is lacking first, and of the best plan. -/
import Derived.Test.YtijjkiogmlannaaDoorEM
namespace Go.Proofs.YtijjkiogmlannaaDoor
open Go.RowKit

theorem eq48a (b : Bool) (i n v k : Int) (w : World) : (Op.equalIn 10000 48 (.agg #[.bool b, .int .i64 i, .int .i64 n, .int .i64 v, .int .i64 k]) (.agg #[.bool b, .int .i64 i, .int .i64 n, .int .i64 v, .int .i64 k])).run Tryd.prog w = .ok true w := by
  have u3 := Tryd.underlying3
  have a3 := Tryd.isAgg3
  have z3 := Tryd.sizeOf3
  have u4 := Tryd.underlying4
  have a4 := Tryd.isAgg4
  have z4 := Tryd.sizeOf4
  have hS : Tryd.prog.underlying 48 = some (.struct (Tryd.prog.fieldsOf 48)) := by kernel_rfl
  have hp : Tryd.prog.stoodInHeld 48 = false := by kernel_rfl
  rw [show (10000 : Nat) = 9999 + 1 from rfl, run_equalIn_agg w 9999 48 _ _ hS hp]
  simp only [Program.fieldsOf, Tryd.underlying48]
  simp [go_sem, u3, a3, z3, u4, a4, z4]
set_option maxRecDepth 100000 in
set_option maxHeartbeats 8000000 in
theorem bests_law {X : SX} {w : World} (h : X.In w) (ht : Tab w) : Calls Tryd.prog 7 #[X.v] w fun e w' => e = .returned (.bool true) ∧ Below w.heap.size w w' := by
  rcases X with ⟨S, AS, ns, cs, AI, ni, ci, AW, nw, cw⟩
  obtain ⟨z0, hb0⟩ := sto_new ⟨S, AS, ns, cs, AI, ni, ci, AW, nw, cw⟩ w
  obtain ⟨⟨s0, s1, s2⟩, ⟨s3, s4, s5⟩, ⟨s6, s7, s8⟩, s9, s10, s11⟩ := sto_box z0
  simp only at s0 s1 s2 s3 s4 s5 s6 s7 s8 s9 s10 s11
  obtain ⟨w1, hw1⟩ : ∃ z, w.alloc (.cells (SX.cells ⟨S, AS, ns, cs, AI, ni, ci, AW, nw, cw⟩) 28) = z := ⟨_, rfl⟩
  rw [hw1] at z0 hb0
  have hls := h.hs; have hli := h.hi; have hlw := h.hw
  simp only at hls hli hlw
  have HB0 := Lib.hid hb0; have HB1 := Lib.hid (Below.refl w1.heap.size w1); have Z1 := Lib.hid z0; have HI := Lib.hid (h.up hb0); have HW1 := Lib.hid hw1; have HT := Lib.hid (ht.next hb0); have HLS := Lib.hid hls; have HLI := Lib.hid hli; have HLW := Lib.hid hlw
  obtain ⟨A, hA⟩ : ∃ z, shortB ⟨S, AS, ns, cs, AI, ni, ci, AW, nw, cw⟩ = z := ⟨_, rfl⟩
  have KSH : Hid (∀ u, Below w1.heap.size w1 u → Calls Tryd.prog 12 #[.agg #[.int .i64 S.st.a, .int .i64 S.st.b, .int .i64 S.st.c, .int .i64 S.yd.a, .int .i64 S.yd.b, .int .i64 S.yd.c, .int .i64 S.rate, .int .i64 S.weeks, .int .i64 S.land, .slice AS ns cs, .slice AI ni ci, .slice AW nw cw]] u fun e w' => e = .returned (.bool A) ∧ Below u.heap.size u w') := Lib.hid fun u hu => by rw [← hA]; exact short_any (HI.out.up hu)
  have KKN : Hid (∀ u, Below w1.heap.size w1 u → Calls Tryd.prog 13 #[] u fun e w' => e = .returned (.bool true) ∧ Below u.heap.size u w') := Lib.hid fun u hu => known_any u (HT.out.next hu)
  clear h ht z0 hb0 hw1 hls hli hlw hA
  cases A with
  | false =>
    go_enter Tryd.func7, Tryd.ntmps7
    go_wp2_with fail
    rw [HW1.out]
    refine (KSH.out _ HB1.out).mono ?_
    rintro e w2 ⟨rfl, hb⟩
    have HB2 := Lib.hid (HB1.out.trans (hb.mono HB1.out.size)); have Z2 := Lib.hid ((hb.block _ (heapsz Z1.out)).trans Z1.out)
    clear hb s0 s1 s2 s3 s4 s5 s6 s7 s8 s9 s10 s11 Z1
    obtain ⟨⟨s0, s1, s2⟩, ⟨s3, s4, s5⟩, ⟨s6, s7, s8⟩, s9, s10, s11⟩ := sto_box Z2.out
    simp only at s0 s1 s2 s3 s4 s5 s6 s7 s8 s9 s10 s11
    go_wp2_with fail
    refine (KKN.out _ HB2.out).mono ?_
    rintro e w3 ⟨rfl, hb⟩
    have HB3 := Lib.hid (HB2.out.trans (hb.mono HB2.out.size)); have Z3 := Lib.hid ((hb.block _ (heapsz Z2.out)).trans Z2.out)
    clear hb s0 s1 s2 s3 s4 s5 s6 s7 s8 s9 s10 s11 Z2
    obtain ⟨⟨s0, s1, s2⟩, ⟨s3, s4, s5⟩, ⟨s6, s7, s8⟩, s9, s10, s11⟩ := sto_box Z3.out
    simp only at s0 s1 s2 s3 s4 s5 s6 s7 s8 s9 s10 s11
    go_wp2_with fail
    go_ret
    exact ⟨rfl, HB0.out.trans (HB3.out.mono HB0.out.size)⟩
  | true =>
    obtain ⟨B, hB⟩ : ∃ z, stoB S = z := ⟨_, rfl⟩
    have KST : Hid (∀ u, Below w1.heap.size w1 u → Calls Tryd.prog 16 #[.agg #[.int .i64 S.st.a, .int .i64 S.st.b, .int .i64 S.st.c, .int .i64 S.yd.a, .int .i64 S.yd.b, .int .i64 S.yd.c, .int .i64 S.rate, .int .i64 S.weeks, .int .i64 S.land, .slice AS ns cs, .slice AI ni ci, .slice AW nw cw]] u fun e w' => e = .returned (.bool B) ∧ Below u.heap.size u w') := Lib.hid fun u hu => by rw [← hB]; exact rstore_any (HI.out.up hu)
    cases B with
    | false =>
      have KBE : Hid (∀ u, Below w1.heap.size w1 u → Calls Tryd.prog 28 #[.agg #[.int .i64 S.st.a, .int .i64 S.st.b, .int .i64 S.st.c, .int .i64 S.yd.a, .int .i64 S.yd.b, .int .i64 S.yd.c, .int .i64 S.rate, .int .i64 S.weeks, .int .i64 S.land, .slice AS ns cs, .slice AI ni ci, .slice AW nw cw]] u fun e w' => e = .returned (.tuple #[.int .i64 0, .int .i64 0, .int .i64 2]) ∧ Below u.heap.size u w') := Lib.hid fun u hu => by have := Best_any (HI.out.up hu); unfold bstI at this; simp only at this; rw [hB] at this; exact this
      clear hB
      go_enter Tryd.func7, Tryd.ntmps7
      go_wp2_with fail
      rw [HW1.out]
      refine (KSH.out _ HB1.out).mono ?_
      rintro e w2 ⟨rfl, hb⟩
      have HB2 := Lib.hid (HB1.out.trans (hb.mono HB1.out.size)); have Z2 := Lib.hid ((hb.block _ (heapsz Z1.out)).trans Z1.out)
      clear hb s0 s1 s2 s3 s4 s5 s6 s7 s8 s9 s10 s11 Z1
      obtain ⟨⟨s0, s1, s2⟩, ⟨s3, s4, s5⟩, ⟨s6, s7, s8⟩, s9, s10, s11⟩ := sto_box Z2.out
      simp only at s0 s1 s2 s3 s4 s5 s6 s7 s8 s9 s10 s11
      go_wp2_with fail
      refine (KST.out _ HB2.out).mono ?_
      rintro e w3 ⟨rfl, hb⟩
      have HB3 := Lib.hid (HB2.out.trans (hb.mono HB2.out.size)); have Z3 := Lib.hid ((hb.block _ (heapsz Z2.out)).trans Z2.out)
      clear hb s0 s1 s2 s3 s4 s5 s6 s7 s8 s9 s10 s11 Z2
      obtain ⟨⟨s0, s1, s2⟩, ⟨s3, s4, s5⟩, ⟨s6, s7, s8⟩, s9, s10, s11⟩ := sto_box Z3.out
      simp only at s0 s1 s2 s3 s4 s5 s6 s7 s8 s9 s10 s11
      go_wp2_with fail
      refine (KBE.out _ HB3.out).mono ?_
      rintro e w4 ⟨rfl, hb⟩
      have HB4 := Lib.hid (HB3.out.trans (hb.mono HB3.out.size)); have Z4 := Lib.hid ((hb.block _ (heapsz Z3.out)).trans Z3.out)
      clear hb s0 s1 s2 s3 s4 s5 s6 s7 s8 s9 s10 s11 Z3
      obtain ⟨⟨s0, s1, s2⟩, ⟨s3, s4, s5⟩, ⟨s6, s7, s8⟩, s9, s10, s11⟩ := sto_box Z4.out
      simp only at s0 s1 s2 s3 s4 s5 s6 s7 s8 s9 s10 s11
      go_wp2_with fail
      refine (KST.out _ HB4.out).mono ?_
      rintro e w5 ⟨rfl, hb⟩
      have HB5 := Lib.hid (HB4.out.trans (hb.mono HB4.out.size)); have Z5 := Lib.hid ((hb.block _ (heapsz Z4.out)).trans Z4.out)
      clear hb s0 s1 s2 s3 s4 s5 s6 s7 s8 s9 s10 s11 Z4
      obtain ⟨⟨s0, s1, s2⟩, ⟨s3, s4, s5⟩, ⟨s6, s7, s8⟩, s9, s10, s11⟩ := sto_box Z5.out
      simp only at s0 s1 s2 s3 s4 s5 s6 s7 s8 s9 s10 s11
      go_wp2_with fail
      refine (KKN.out _ HB5.out).mono ?_
      rintro e w6 ⟨rfl, hb⟩
      have HB6 := Lib.hid (HB5.out.trans (hb.mono HB5.out.size)); have Z6 := Lib.hid ((hb.block _ (heapsz Z5.out)).trans Z5.out)
      clear hb s0 s1 s2 s3 s4 s5 s6 s7 s8 s9 s10 s11 Z5
      obtain ⟨⟨s0, s1, s2⟩, ⟨s3, s4, s5⟩, ⟨s6, s7, s8⟩, s9, s10, s11⟩ := sto_box Z6.out
      simp only at s0 s1 s2 s3 s4 s5 s6 s7 s8 s9 s10 s11
      go_wp2_with fail
      go_ret
      exact ⟨rfl, HB0.out.trans (HB6.out.mono HB0.out.size)⟩
    | true =>
      have hok := stoB_iff.1 hB
      have n6 := hok.n6
      have HOK := Lib.hid hok
      by_cases n5 : ns > 5
      · have n5' : (ns : Int) > 5 := by omega
        clear hB hok n6 n5
        go_enter Tryd.func7, Tryd.ntmps7
        go_wp2_with fail
        rw [HW1.out]
        refine (KSH.out _ HB1.out).mono ?_
        rintro e w2 ⟨rfl, hb⟩
        have HB2 := Lib.hid (HB1.out.trans (hb.mono HB1.out.size)); have Z2 := Lib.hid ((hb.block _ (heapsz Z1.out)).trans Z1.out)
        clear hb s0 s1 s2 s3 s4 s5 s6 s7 s8 s9 s10 s11 Z1
        obtain ⟨⟨s0, s1, s2⟩, ⟨s3, s4, s5⟩, ⟨s6, s7, s8⟩, s9, s10, s11⟩ := sto_box Z2.out
        simp only at s0 s1 s2 s3 s4 s5 s6 s7 s8 s9 s10 s11
        go_wp2_with fail
        refine (KST.out _ HB2.out).mono ?_
        rintro e w3 ⟨rfl, hb⟩
        have HB3 := Lib.hid (HB2.out.trans (hb.mono HB2.out.size)); have Z3 := Lib.hid ((hb.block _ (heapsz Z2.out)).trans Z2.out)
        clear hb s0 s1 s2 s3 s4 s5 s6 s7 s8 s9 s10 s11 Z2
        obtain ⟨⟨s0, s1, s2⟩, ⟨s3, s4, s5⟩, ⟨s6, s7, s8⟩, s9, s10, s11⟩ := sto_box Z3.out
        simp only at s0 s1 s2 s3 s4 s5 s6 s7 s8 s9 s10 s11
        go_wp2_with fail
        refine (KKN.out _ HB3.out).mono ?_
        rintro e w4 ⟨rfl, hb⟩
        have HB4 := Lib.hid (HB3.out.trans (hb.mono HB3.out.size)); have Z4 := Lib.hid ((hb.block _ (heapsz Z3.out)).trans Z3.out)
        clear hb s0 s1 s2 s3 s4 s5 s6 s7 s8 s9 s10 s11 Z3
        obtain ⟨⟨s0, s1, s2⟩, ⟨s3, s4, s5⟩, ⟨s6, s7, s8⟩, s9, s10, s11⟩ := sto_box Z4.out
        simp only at s0 s1 s2 s3 s4 s5 s6 s7 s8 s9 s10 s11
        go_wp2_with fail
        go_ret
        exact ⟨rfl, HB0.out.trans (HB4.out.mono HB0.out.size)⟩
      · have n5' : ¬ (ns : Int) > 5 := by omega
        have h64 := two_six n6
        have KRB : Hid (∀ u, Below w1.heap.size w1 u → Calls Tryd.prog 29 #[.agg #[.int .i64 S.st.a, .int .i64 S.st.b, .int .i64 S.st.c, .int .i64 S.yd.a, .int .i64 S.yd.b, .int .i64 S.yd.c, .int .i64 S.rate, .int .i64 S.weeks, .int .i64 S.land, .slice AS ns cs, .slice AI ni ci, .slice AW nw cw]] u fun e w' => e = .returned (.int .i64 (bsI S.best)) ∧ Below u.heap.size u w') := Lib.hid fun u hu => rbest_any (X := ⟨S, AS, ns, cs, AI, ni, ci, AW, nw, cw⟩) (HI.out.up hu) HOK.out
        cases hb : S.best with
        | none =>
          have KBE : Hid (∀ u, Below w1.heap.size w1 u → Calls Tryd.prog 28 #[.agg #[.int .i64 S.st.a, .int .i64 S.st.b, .int .i64 S.st.c, .int .i64 S.yd.a, .int .i64 S.yd.b, .int .i64 S.yd.c, .int .i64 S.rate, .int .i64 S.weeks, .int .i64 S.land, .slice AS ns cs, .slice AI ni ci, .slice AW nw cw]] u fun e w' => e = .returned (.tuple #[.int .i64 0, .int .i64 0, .int .i64 5]) ∧ Below u.heap.size u w') := Lib.hid fun u hu => by have := Best_any (HI.out.up hu); unfold bstI at this; simp only at this; rw [hB, hb] at this; exact this
          rw [hb] at KRB
          simp only [bsI] at KRB
          clear hB hok n6 n5 h64 hb
          go_enter Tryd.func7, Tryd.ntmps7
          go_wp2_with fail
          rw [HW1.out]
          refine (KSH.out _ HB1.out).mono ?_
          rintro e w2 ⟨rfl, hb⟩
          have HB2 := Lib.hid (HB1.out.trans (hb.mono HB1.out.size)); have Z2 := Lib.hid ((hb.block _ (heapsz Z1.out)).trans Z1.out)
          clear hb s0 s1 s2 s3 s4 s5 s6 s7 s8 s9 s10 s11 Z1
          obtain ⟨⟨s0, s1, s2⟩, ⟨s3, s4, s5⟩, ⟨s6, s7, s8⟩, s9, s10, s11⟩ := sto_box Z2.out
          simp only at s0 s1 s2 s3 s4 s5 s6 s7 s8 s9 s10 s11
          go_wp2_with fail
          refine (KST.out _ HB2.out).mono ?_
          rintro e w3 ⟨rfl, hb⟩
          have HB3 := Lib.hid (HB2.out.trans (hb.mono HB2.out.size)); have Z3 := Lib.hid ((hb.block _ (heapsz Z2.out)).trans Z2.out)
          clear hb s0 s1 s2 s3 s4 s5 s6 s7 s8 s9 s10 s11 Z2
          obtain ⟨⟨s0, s1, s2⟩, ⟨s3, s4, s5⟩, ⟨s6, s7, s8⟩, s9, s10, s11⟩ := sto_box Z3.out
          simp only at s0 s1 s2 s3 s4 s5 s6 s7 s8 s9 s10 s11
          go_wp2_with fail
          refine (KBE.out _ HB3.out).mono ?_
          rintro e w4 ⟨rfl, hb⟩
          have HB4 := Lib.hid (HB3.out.trans (hb.mono HB3.out.size)); have Z4 := Lib.hid ((hb.block _ (heapsz Z3.out)).trans Z3.out)
          clear hb s0 s1 s2 s3 s4 s5 s6 s7 s8 s9 s10 s11 Z3
          obtain ⟨⟨s0, s1, s2⟩, ⟨s3, s4, s5⟩, ⟨s6, s7, s8⟩, s9, s10, s11⟩ := sto_box Z4.out
          simp only at s0 s1 s2 s3 s4 s5 s6 s7 s8 s9 s10 s11
          go_wp2_with fail
          refine (KST.out _ HB4.out).mono ?_
          rintro e w5 ⟨rfl, hb⟩
          have HB5 := Lib.hid (HB4.out.trans (hb.mono HB4.out.size)); have Z5 := Lib.hid ((hb.block _ (heapsz Z4.out)).trans Z4.out)
          clear hb s0 s1 s2 s3 s4 s5 s6 s7 s8 s9 s10 s11 Z4
          obtain ⟨⟨s0, s1, s2⟩, ⟨s3, s4, s5⟩, ⟨s6, s7, s8⟩, s9, s10, s11⟩ := sto_box Z5.out
          simp only at s0 s1 s2 s3 s4 s5 s6 s7 s8 s9 s10 s11
          go_wp2_with fail
          refine (KRB.out _ HB5.out).mono ?_
          rintro e w6 ⟨rfl, hb⟩
          have HB6 := Lib.hid (HB5.out.trans (hb.mono HB5.out.size)); have Z6 := Lib.hid ((hb.block _ (heapsz Z5.out)).trans Z5.out)
          clear hb s0 s1 s2 s3 s4 s5 s6 s7 s8 s9 s10 s11 Z5
          obtain ⟨⟨s0, s1, s2⟩, ⟨s3, s4, s5⟩, ⟨s6, s7, s8⟩, s9, s10, s11⟩ := sto_box Z6.out
          simp only at s0 s1 s2 s3 s4 s5 s6 s7 s8 s9 s10 s11
          go_wp2_with fail
          refine (KKN.out _ HB6.out).mono ?_
          rintro e w7 ⟨rfl, hb⟩
          have HB7 := Lib.hid (HB6.out.trans (hb.mono HB6.out.size)); have Z7 := Lib.hid ((hb.block _ (heapsz Z6.out)).trans Z6.out)
          clear hb s0 s1 s2 s3 s4 s5 s6 s7 s8 s9 s10 s11 Z6
          obtain ⟨⟨s0, s1, s2⟩, ⟨s3, s4, s5⟩, ⟨s6, s7, s8⟩, s9, s10, s11⟩ := sto_box Z7.out
          simp only at s0 s1 s2 s3 s4 s5 s6 s7 s8 s9 s10 s11
          go_wp2_with fail
          go_ret
          exact ⟨rfl, HB0.out.trans (HB7.out.mono HB0.out.size)⟩
        | some b =>
          have hbl := (best_some hb).1.1
          have hb6 : b ≤ 1000000 := by omega
          have KBE : Hid (∀ u, Below w1.heap.size w1 u → Calls Tryd.prog 28 #[.agg #[.int .i64 S.st.a, .int .i64 S.st.b, .int .i64 S.st.c, .int .i64 S.yd.a, .int .i64 S.yd.b, .int .i64 S.yd.c, .int .i64 S.rate, .int .i64 S.weeks, .int .i64 S.land, .slice AS ns cs, .slice AI ni ci, .slice AW nw cw]] u fun e w' => e = .returned (.tuple #[.int .i64 (b : Int), .int .i64 (S.cost b), .int .i64 0]) ∧ Below u.heap.size u w') := Lib.hid fun u hu => by have := Best_any (HI.out.up hu); unfold bstI at this; simp only at this; rw [hB, hb] at this; exact this
          have KCO : Hid (∀ u, Below w1.heap.size w1 u → Calls Tryd.prog 30 #[.agg #[.int .i64 S.st.a, .int .i64 S.st.b, .int .i64 S.st.c, .int .i64 S.yd.a, .int .i64 S.yd.b, .int .i64 S.yd.c, .int .i64 S.rate, .int .i64 S.weeks, .int .i64 S.land, .slice AS ns cs, .slice AI ni ci, .slice AW nw cw], .int .i64 (b : Int)] u fun e w' => e = .returned (.int .i64 (S.cost b)) ∧ Below u.heap.size u w') := Lib.hid fun u hu => rcost_any (X := ⟨S, AS, ns, cs, AI, ni, ci, AW, nw, cw⟩) (HI.out.up hu) HOK.out b hb6
          rw [hb] at KRB
          simp only [bsI] at KRB
          have b0 : ¬ (b : Int) < 0 := by omega
          obtain ⟨cb, hcb⟩ : ∃ z, S.cost b = z := ⟨_, rfl⟩
          rw [hcb] at KBE KCO
          clear hB hok n6 n5 h64 hb hbl hb6 hcb
          go_enter Tryd.func7, Tryd.ntmps7
          go_wp2_with fail
          rw [HW1.out]
          refine (KSH.out _ HB1.out).mono ?_
          rintro e w2 ⟨rfl, hb⟩
          have HB2 := Lib.hid (HB1.out.trans (hb.mono HB1.out.size)); have Z2 := Lib.hid ((hb.block _ (heapsz Z1.out)).trans Z1.out)
          clear hb s0 s1 s2 s3 s4 s5 s6 s7 s8 s9 s10 s11 Z1
          obtain ⟨⟨s0, s1, s2⟩, ⟨s3, s4, s5⟩, ⟨s6, s7, s8⟩, s9, s10, s11⟩ := sto_box Z2.out
          simp only at s0 s1 s2 s3 s4 s5 s6 s7 s8 s9 s10 s11
          go_wp2_with fail
          refine (KST.out _ HB2.out).mono ?_
          rintro e w3 ⟨rfl, hb⟩
          have HB3 := Lib.hid (HB2.out.trans (hb.mono HB2.out.size)); have Z3 := Lib.hid ((hb.block _ (heapsz Z2.out)).trans Z2.out)
          clear hb s0 s1 s2 s3 s4 s5 s6 s7 s8 s9 s10 s11 Z2
          obtain ⟨⟨s0, s1, s2⟩, ⟨s3, s4, s5⟩, ⟨s6, s7, s8⟩, s9, s10, s11⟩ := sto_box Z3.out
          simp only at s0 s1 s2 s3 s4 s5 s6 s7 s8 s9 s10 s11
          go_wp2_with fail
          refine (KBE.out _ HB3.out).mono ?_
          rintro e w4 ⟨rfl, hb⟩
          have HB4 := Lib.hid (HB3.out.trans (hb.mono HB3.out.size)); have Z4 := Lib.hid ((hb.block _ (heapsz Z3.out)).trans Z3.out)
          clear hb s0 s1 s2 s3 s4 s5 s6 s7 s8 s9 s10 s11 Z3
          obtain ⟨⟨s0, s1, s2⟩, ⟨s3, s4, s5⟩, ⟨s6, s7, s8⟩, s9, s10, s11⟩ := sto_box Z4.out
          simp only at s0 s1 s2 s3 s4 s5 s6 s7 s8 s9 s10 s11
          go_wp2_with fail
          refine (KST.out _ HB4.out).mono ?_
          rintro e w5 ⟨rfl, hb⟩
          have HB5 := Lib.hid (HB4.out.trans (hb.mono HB4.out.size)); have Z5 := Lib.hid ((hb.block _ (heapsz Z4.out)).trans Z4.out)
          clear hb s0 s1 s2 s3 s4 s5 s6 s7 s8 s9 s10 s11 Z4
          obtain ⟨⟨s0, s1, s2⟩, ⟨s3, s4, s5⟩, ⟨s6, s7, s8⟩, s9, s10, s11⟩ := sto_box Z5.out
          simp only at s0 s1 s2 s3 s4 s5 s6 s7 s8 s9 s10 s11
          go_wp2_with fail
          refine (KRB.out _ HB5.out).mono ?_
          rintro e w6 ⟨rfl, hb⟩
          have HB6 := Lib.hid (HB5.out.trans (hb.mono HB5.out.size)); have Z6 := Lib.hid ((hb.block _ (heapsz Z5.out)).trans Z5.out)
          clear hb s0 s1 s2 s3 s4 s5 s6 s7 s8 s9 s10 s11 Z5
          obtain ⟨⟨s0, s1, s2⟩, ⟨s3, s4, s5⟩, ⟨s6, s7, s8⟩, s9, s10, s11⟩ := sto_box Z6.out
          simp only at s0 s1 s2 s3 s4 s5 s6 s7 s8 s9 s10 s11
          go_wp2_with fail
          refine (KCO.out _ HB6.out).mono ?_
          rintro e w7 ⟨rfl, hb⟩
          have HB7 := Lib.hid (HB6.out.trans (hb.mono HB6.out.size)); have Z7 := Lib.hid ((hb.block _ (heapsz Z6.out)).trans Z6.out)
          clear hb s0 s1 s2 s3 s4 s5 s6 s7 s8 s9 s10 s11 Z6
          obtain ⟨⟨s0, s1, s2⟩, ⟨s3, s4, s5⟩, ⟨s6, s7, s8⟩, s9, s10, s11⟩ := sto_box Z7.out
          simp only at s0 s1 s2 s3 s4 s5 s6 s7 s8 s9 s10 s11
          go_wp2_with fail
          refine (KKN.out _ HB7.out).mono ?_
          rintro e w8 ⟨rfl, hb⟩
          have HB8 := Lib.hid (HB7.out.trans (hb.mono HB7.out.size)); have Z8 := Lib.hid ((hb.block _ (heapsz Z7.out)).trans Z7.out)
          clear hb s0 s1 s2 s3 s4 s5 s6 s7 s8 s9 s10 s11 Z7
          obtain ⟨⟨s0, s1, s2⟩, ⟨s3, s4, s5⟩, ⟨s6, s7, s8⟩, s9, s10, s11⟩ := sto_box Z8.out
          simp only at s0 s1 s2 s3 s4 s5 s6 s7 s8 s9 s10 s11
          go_wp2_with fail
          go_ret
          exact ⟨rfl, HB0.out.trans (HB8.out.mono HB0.out.size)⟩
set_option maxRecDepth 100000 in
set_option maxHeartbeats 8000000 in
theorem faults_law {X : SX} {w : World} (h : X.In w) (ht : Tab w) (o : Int) : Calls Tryd.prog 5 #[X.v, .int .i64 o] w fun e w' => e = .returned (.bool true) ∧ Below w.heap.size w w' := by
  rcases X with ⟨S, AS, ns, cs, AI, ni, ci, AW, nw, cw⟩
  obtain ⟨z0, hb0⟩ := sto_new ⟨S, AS, ns, cs, AI, ni, ci, AW, nw, cw⟩ w
  obtain ⟨⟨s0, s1, s2⟩, ⟨s3, s4, s5⟩, ⟨s6, s7, s8⟩, s9, s10, s11⟩ := sto_box z0
  simp only at s0 s1 s2 s3 s4 s5 s6 s7 s8 s9 s10 s11
  obtain ⟨w1, hw1⟩ : ∃ z, w.alloc (.cells (SX.cells ⟨S, AS, ns, cs, AI, ni, ci, AW, nw, cw⟩) 28) = z := ⟨_, rfl⟩
  rw [hw1] at z0 hb0
  have hls := h.hs; have hli := h.hi; have hlw := h.hw
  simp only at hls hli hlw
  have HB0 := Lib.hid hb0; have HB1 := Lib.hid (Below.refl w1.heap.size w1); have Z1 := Lib.hid z0; have HI := Lib.hid (h.up hb0); have HW1 := Lib.hid hw1; have HT := Lib.hid (ht.next hb0); have HLS := Lib.hid hls; have HLI := Lib.hid hli; have HLW := Lib.hid hlw
  obtain ⟨A, hA⟩ : ∃ z, shortB ⟨S, AS, ns, cs, AI, ni, ci, AW, nw, cw⟩ = z := ⟨_, rfl⟩
  have KSH : Hid (∀ u, Below w1.heap.size w1 u → Calls Tryd.prog 12 #[.agg #[.int .i64 S.st.a, .int .i64 S.st.b, .int .i64 S.st.c, .int .i64 S.yd.a, .int .i64 S.yd.b, .int .i64 S.yd.c, .int .i64 S.rate, .int .i64 S.weeks, .int .i64 S.land, .slice AS ns cs, .slice AI ni ci, .slice AW nw cw]] u fun e w' => e = .returned (.bool A) ∧ Below u.heap.size u w') := Lib.hid fun u hu => by rw [← hA]; exact short_any (HI.out.up hu)
  have KKN : Hid (∀ u, Below w1.heap.size w1 u → Calls Tryd.prog 13 #[] u fun e w' => e = .returned (.bool true) ∧ Below u.heap.size u w') := Lib.hid fun u hu => known_any u (HT.out.next hu)
  clear h ht z0 hb0 hw1 hls hli hlw hA
  cases A with
  | false =>
    go_enter Tryd.func5, Tryd.ntmps5
    go_wp2_with fail
    rw [HW1.out]
    refine (KSH.out _ HB1.out).mono ?_
    rintro e w2 ⟨rfl, hb⟩
    have HB2 := Lib.hid (HB1.out.trans (hb.mono HB1.out.size)); have Z2 := Lib.hid ((hb.block _ (heapsz Z1.out)).trans Z1.out)
    clear hb s0 s1 s2 s3 s4 s5 s6 s7 s8 s9 s10 s11 Z1
    obtain ⟨⟨s0, s1, s2⟩, ⟨s3, s4, s5⟩, ⟨s6, s7, s8⟩, s9, s10, s11⟩ := sto_box Z2.out
    simp only at s0 s1 s2 s3 s4 s5 s6 s7 s8 s9 s10 s11
    go_wp2_with fail
    refine (KKN.out _ HB2.out).mono ?_
    rintro e w3 ⟨rfl, hb⟩
    have HB3 := Lib.hid (HB2.out.trans (hb.mono HB2.out.size)); have Z3 := Lib.hid ((hb.block _ (heapsz Z2.out)).trans Z2.out)
    clear hb s0 s1 s2 s3 s4 s5 s6 s7 s8 s9 s10 s11 Z2
    obtain ⟨⟨s0, s1, s2⟩, ⟨s3, s4, s5⟩, ⟨s6, s7, s8⟩, s9, s10, s11⟩ := sto_box Z3.out
    simp only at s0 s1 s2 s3 s4 s5 s6 s7 s8 s9 s10 s11
    go_wp2_with fail
    go_ret
    exact ⟨rfl, HB0.out.trans (HB3.out.mono HB0.out.size)⟩
  | true =>
    obtain ⟨B, hB⟩ : ∃ z, stoB S = z := ⟨_, rfl⟩
    have KST : Hid (∀ u, Below w1.heap.size w1 u → Calls Tryd.prog 16 #[.agg #[.int .i64 S.st.a, .int .i64 S.st.b, .int .i64 S.st.c, .int .i64 S.yd.a, .int .i64 S.yd.b, .int .i64 S.yd.c, .int .i64 S.rate, .int .i64 S.weeks, .int .i64 S.land, .slice AS ns cs, .slice AI ni ci, .slice AW nw cw]] u fun e w' => e = .returned (.bool B) ∧ Below u.heap.size u w') := Lib.hid fun u hu => by rw [← hB]; exact rstore_any (HI.out.up hu)
    cases B with
    | false =>
      have KFA : Hid (∀ u, Below w1.heap.size w1 u → Calls Tryd.prog 24 #[.agg #[.int .i64 S.st.a, .int .i64 S.st.b, .int .i64 S.st.c, .int .i64 S.yd.a, .int .i64 S.yd.b, .int .i64 S.yd.c, .int .i64 S.rate, .int .i64 S.weeks, .int .i64 S.land, .slice AS ns cs, .slice AI ni ci, .slice AW nw cw], .int .i64 o] u fun e w' => e = .returned (.tuple #[.agg #[.bool false, .int .i64 0, .int .i64 0, .int .i64 0, .int .i64 0], .int .i64 2]) ∧ Below u.heap.size u w') := Lib.hid fun u hu => by have := Fault_any (HI.out.up hu) o; have e : fauV S o = (fltO none, 2) := (by unfold fauV; rw [hB]; rfl); simp only at this; rw [e] at this; exact this
      have KFI : Hid (∀ u, Below w1.heap.size w1 u → Calls Tryd.prog 25 #[.agg #[.int .i64 S.st.a, .int .i64 S.st.b, .int .i64 S.st.c, .int .i64 S.yd.a, .int .i64 S.yd.b, .int .i64 S.yd.c, .int .i64 S.rate, .int .i64 S.weeks, .int .i64 S.land, .slice AS ns cs, .slice AI ni ci, .slice AW nw cw], .int .i64 o] u fun e w' => e = .returned (.tuple #[.int .i64 0, .int .i64 0, .int .i64 2]) ∧ Below u.heap.size u w') := Lib.hid fun u hu => by have := First_any (HI.out.up hu) o; have e : fstI S o = (0, 0, 2) := (by unfold fstI; rw [hB]; rfl); simp only at this; rw [e] at this; exact this
      clear hB
      have hg48 : Tryd.prog.eqGuardType Tryd.prog.depth 48 = false := by kernel_rfl
      have q48 := eq48a false 0 0 0 0
      go_enter Tryd.func5, Tryd.ntmps5
      go_wp2_with fail
      rw [HW1.out]
      refine (KSH.out _ HB1.out).mono ?_
      rintro e w2 ⟨rfl, hb⟩
      have HB2 := Lib.hid (HB1.out.trans (hb.mono HB1.out.size)); have Z2 := Lib.hid ((hb.block _ (heapsz Z1.out)).trans Z1.out)
      clear hb s0 s1 s2 s3 s4 s5 s6 s7 s8 s9 s10 s11 Z1
      obtain ⟨⟨s0, s1, s2⟩, ⟨s3, s4, s5⟩, ⟨s6, s7, s8⟩, s9, s10, s11⟩ := sto_box Z2.out
      simp only at s0 s1 s2 s3 s4 s5 s6 s7 s8 s9 s10 s11
      go_wp2_with fail
      refine (KFA.out _ HB2.out).mono ?_
      rintro e w3 ⟨rfl, hb⟩
      have HB3 := Lib.hid (HB2.out.trans (hb.mono HB2.out.size)); have Z3 := Lib.hid ((hb.block _ (heapsz Z2.out)).trans Z2.out)
      clear hb s0 s1 s2 s3 s4 s5 s6 s7 s8 s9 s10 s11 Z2
      obtain ⟨⟨s0, s1, s2⟩, ⟨s3, s4, s5⟩, ⟨s6, s7, s8⟩, s9, s10, s11⟩ := sto_box Z3.out
      simp only at s0 s1 s2 s3 s4 s5 s6 s7 s8 s9 s10 s11
      clear s0 s1 s2 s3 s4 s5 s6 s7 s8 s9 s10 s11
      have al := (Below.refl w3.heap.size w3).alloc (Nat.le_refl _) (.cells #[.bool false, .int .i64 0, .int .i64 0, .int .i64 0, .int .i64 0] 48)
      have zf := heap_alloc_new w3 (.cells #[.bool false, .int .i64 0, .int .i64 0, .int .i64 0, .int .i64 0] 48)
      have ZU := Lib.hid ((al.block _ (heapsz Z3.out)).trans Z3.out)
      obtain ⟨⟨s0, s1, s2⟩, ⟨s3, s4, s5⟩, ⟨s6, s7, s8⟩, s9, s10, s11⟩ := sto_box ZU.out
      simp only at s0 s1 s2 s3 s4 s5 s6 s7 s8 s9 s10 s11
      have fv0 := cell_of_row _ _ 0 _ 48 (0, 0) zf
      have fv1 := cell_of_row _ _ 1 _ 48 (0, 0) zf
      have fv2 := cell_of_row _ _ 2 _ 48 (0, 0) zf
      have fv3 := cell_of_row _ _ 3 _ 48 (0, 0) zf
      have fv4 := cell_of_row _ _ 4 _ 48 (0, 0) zf
      simp at fv0 fv1 fv2 fv3 fv4
      obtain ⟨w4, hw4⟩ : ∃ W, w3.alloc (.cells #[.bool false, .int .i64 0, .int .i64 0, .int .i64 0, .int .i64 0] 48) = W := ⟨_, rfl⟩
      have HW4 := Lib.hid hw4
      have HB4 := Lib.hid (HB3.out.trans (al.mono HB3.out.size)); have Z4 := ZU; have Fv_4 := Lib.hid zf; have AL4 := Lib.hid al
      rw [hw4] at HB4 Z4 Fv_4 AL4
      clear al zf ZU hw4 Z3
      go_wp2_with fail
      rw [HW4.out]
      refine (KFI.out _ HB4.out).mono ?_
      rintro e w5 ⟨rfl, hb⟩
      have HB5 := Lib.hid (HB4.out.trans (hb.mono HB4.out.size)); have Z5 := Lib.hid ((hb.block _ (heapsz Z4.out)).trans Z4.out)
      have Fv_5 := Lib.hid ((hb.block _ (heapsz Fv_4.out)).trans Fv_4.out)
      clear hb s0 s1 s2 s3 s4 s5 s6 s7 s8 s9 s10 s11 fv0 fv1 fv2 fv3 fv4 Z4 Fv_4
      obtain ⟨⟨s0, s1, s2⟩, ⟨s3, s4, s5⟩, ⟨s6, s7, s8⟩, s9, s10, s11⟩ := sto_box Z5.out
      simp only at s0 s1 s2 s3 s4 s5 s6 s7 s8 s9 s10 s11
      have fv0 := cell_of_row _ _ 0 _ 48 (0, 0) Fv_5.out
      have fv1 := cell_of_row _ _ 1 _ 48 (0, 0) Fv_5.out
      have fv2 := cell_of_row _ _ 2 _ 48 (0, 0) Fv_5.out
      have fv3 := cell_of_row _ _ 3 _ 48 (0, 0) Fv_5.out
      have fv4 := cell_of_row _ _ 4 _ 48 (0, 0) Fv_5.out
      simp at fv0 fv1 fv2 fv3 fv4
      go_wp2_with fail
      refine (KST.out _ HB5.out).mono ?_
      rintro e w6 ⟨rfl, hb⟩
      have HB6 := Lib.hid (HB5.out.trans (hb.mono HB5.out.size)); have Z6 := Lib.hid ((hb.block _ (heapsz Z5.out)).trans Z5.out)
      have Fv_6 := Lib.hid ((hb.block _ (heapsz Fv_5.out)).trans Fv_5.out)
      clear hb s0 s1 s2 s3 s4 s5 s6 s7 s8 s9 s10 s11 fv0 fv1 fv2 fv3 fv4 Z5 Fv_5
      obtain ⟨⟨s0, s1, s2⟩, ⟨s3, s4, s5⟩, ⟨s6, s7, s8⟩, s9, s10, s11⟩ := sto_box Z6.out
      simp only at s0 s1 s2 s3 s4 s5 s6 s7 s8 s9 s10 s11
      have fv0 := cell_of_row _ _ 0 _ 48 (0, 0) Fv_6.out
      have fv1 := cell_of_row _ _ 1 _ 48 (0, 0) Fv_6.out
      have fv2 := cell_of_row _ _ 2 _ 48 (0, 0) Fv_6.out
      have fv3 := cell_of_row _ _ 3 _ 48 (0, 0) Fv_6.out
      have fv4 := cell_of_row _ _ 4 _ 48 (0, 0) Fv_6.out
      simp at fv0 fv1 fv2 fv3 fv4
      go_wp2_with fail
      refine (KKN.out _ HB6.out).mono ?_
      rintro e w7 ⟨rfl, hb⟩
      have HB7 := Lib.hid (HB6.out.trans (hb.mono HB6.out.size)); have Z7 := Lib.hid ((hb.block _ (heapsz Z6.out)).trans Z6.out)
      have Fv_7 := Lib.hid ((hb.block _ (heapsz Fv_6.out)).trans Fv_6.out)
      clear hb s0 s1 s2 s3 s4 s5 s6 s7 s8 s9 s10 s11 fv0 fv1 fv2 fv3 fv4 Z6 Fv_6
      obtain ⟨⟨s0, s1, s2⟩, ⟨s3, s4, s5⟩, ⟨s6, s7, s8⟩, s9, s10, s11⟩ := sto_box Z7.out
      simp only at s0 s1 s2 s3 s4 s5 s6 s7 s8 s9 s10 s11
      have fv0 := cell_of_row _ _ 0 _ 48 (0, 0) Fv_7.out
      have fv1 := cell_of_row _ _ 1 _ 48 (0, 0) Fv_7.out
      have fv2 := cell_of_row _ _ 2 _ 48 (0, 0) Fv_7.out
      have fv3 := cell_of_row _ _ 3 _ 48 (0, 0) Fv_7.out
      have fv4 := cell_of_row _ _ 4 _ 48 (0, 0) Fv_7.out
      simp at fv0 fv1 fv2 fv3 fv4
      go_wp2_with fail
      go_ret
      exact ⟨rfl, HB0.out.trans (HB7.out.mono HB0.out.size)⟩
    | true =>
      have hok := stoB_iff.1 hB
      have n6 := hok.n6
      have HOK := Lib.hid hok
      obtain ⟨C, hC⟩ : ∃ z, planOk S o = z := ⟨_, rfl⟩
      have HLS2 := HLS.out
      have KPL : Hid (∀ u, Below w1.heap.size w1 u → Calls Tryd.prog 17 #[.agg #[.int .i64 S.st.a, .int .i64 S.st.b, .int .i64 S.st.c, .int .i64 S.yd.a, .int .i64 S.yd.b, .int .i64 S.yd.c, .int .i64 S.rate, .int .i64 S.weeks, .int .i64 S.land, .slice AS ns cs, .slice AI ni ci, .slice AW nw cw], .int .i64 o] u fun e w' => e = .returned (.bool C) ∧ Below u.heap.size u w') := Lib.hid fun u hu => by rw [← hC]; exact rplan_any (X := ⟨S, AS, ns, cs, AI, ni, ci, AW, nw, cw⟩) (by rw [← HLS2]; exact n6) HLS2 o
      cases C with
      | false =>
        have KFA : Hid (∀ u, Below w1.heap.size w1 u → Calls Tryd.prog 24 #[.agg #[.int .i64 S.st.a, .int .i64 S.st.b, .int .i64 S.st.c, .int .i64 S.yd.a, .int .i64 S.yd.b, .int .i64 S.yd.c, .int .i64 S.rate, .int .i64 S.weeks, .int .i64 S.land, .slice AS ns cs, .slice AI ni ci, .slice AW nw cw], .int .i64 o] u fun e w' => e = .returned (.tuple #[.agg #[.bool false, .int .i64 0, .int .i64 0, .int .i64 0, .int .i64 0], .int .i64 2]) ∧ Below u.heap.size u w') := Lib.hid fun u hu => by have := Fault_any (HI.out.up hu) o; have e : fauV S o = (fltO none, 2) := (by unfold fauV; rw [hB, hC]; rfl); simp only at this; rw [e] at this; exact this
        have KFI : Hid (∀ u, Below w1.heap.size w1 u → Calls Tryd.prog 25 #[.agg #[.int .i64 S.st.a, .int .i64 S.st.b, .int .i64 S.st.c, .int .i64 S.yd.a, .int .i64 S.yd.b, .int .i64 S.yd.c, .int .i64 S.rate, .int .i64 S.weeks, .int .i64 S.land, .slice AS ns cs, .slice AI ni ci, .slice AW nw cw], .int .i64 o] u fun e w' => e = .returned (.tuple #[.int .i64 0, .int .i64 0, .int .i64 2]) ∧ Below u.heap.size u w') := Lib.hid fun u hu => by have := First_any (HI.out.up hu) o; have e : fstI S o = (0, 0, 2) := (by unfold fstI; rw [hB, hC]; rfl); simp only at this; rw [e] at this; exact this
        clear hB hC hok n6 HLS2
        have hg48 : Tryd.prog.eqGuardType Tryd.prog.depth 48 = false := by kernel_rfl
        have q48 := eq48a false 0 0 0 0
        go_enter Tryd.func5, Tryd.ntmps5
        go_wp2_with fail
        rw [HW1.out]
        refine (KSH.out _ HB1.out).mono ?_
        rintro e w2 ⟨rfl, hb⟩
        have HB2 := Lib.hid (HB1.out.trans (hb.mono HB1.out.size)); have Z2 := Lib.hid ((hb.block _ (heapsz Z1.out)).trans Z1.out)
        clear hb s0 s1 s2 s3 s4 s5 s6 s7 s8 s9 s10 s11 Z1
        obtain ⟨⟨s0, s1, s2⟩, ⟨s3, s4, s5⟩, ⟨s6, s7, s8⟩, s9, s10, s11⟩ := sto_box Z2.out
        simp only at s0 s1 s2 s3 s4 s5 s6 s7 s8 s9 s10 s11
        go_wp2_with fail
        refine (KFA.out _ HB2.out).mono ?_
        rintro e w3 ⟨rfl, hb⟩
        have HB3 := Lib.hid (HB2.out.trans (hb.mono HB2.out.size)); have Z3 := Lib.hid ((hb.block _ (heapsz Z2.out)).trans Z2.out)
        clear hb s0 s1 s2 s3 s4 s5 s6 s7 s8 s9 s10 s11 Z2
        obtain ⟨⟨s0, s1, s2⟩, ⟨s3, s4, s5⟩, ⟨s6, s7, s8⟩, s9, s10, s11⟩ := sto_box Z3.out
        simp only at s0 s1 s2 s3 s4 s5 s6 s7 s8 s9 s10 s11
        clear s0 s1 s2 s3 s4 s5 s6 s7 s8 s9 s10 s11
        have al := (Below.refl w3.heap.size w3).alloc (Nat.le_refl _) (.cells #[.bool false, .int .i64 0, .int .i64 0, .int .i64 0, .int .i64 0] 48)
        have zf := heap_alloc_new w3 (.cells #[.bool false, .int .i64 0, .int .i64 0, .int .i64 0, .int .i64 0] 48)
        have ZU := Lib.hid ((al.block _ (heapsz Z3.out)).trans Z3.out)
        obtain ⟨⟨s0, s1, s2⟩, ⟨s3, s4, s5⟩, ⟨s6, s7, s8⟩, s9, s10, s11⟩ := sto_box ZU.out
        simp only at s0 s1 s2 s3 s4 s5 s6 s7 s8 s9 s10 s11
        have fv0 := cell_of_row _ _ 0 _ 48 (0, 0) zf
        have fv1 := cell_of_row _ _ 1 _ 48 (0, 0) zf
        have fv2 := cell_of_row _ _ 2 _ 48 (0, 0) zf
        have fv3 := cell_of_row _ _ 3 _ 48 (0, 0) zf
        have fv4 := cell_of_row _ _ 4 _ 48 (0, 0) zf
        simp at fv0 fv1 fv2 fv3 fv4
        obtain ⟨w4, hw4⟩ : ∃ W, w3.alloc (.cells #[.bool false, .int .i64 0, .int .i64 0, .int .i64 0, .int .i64 0] 48) = W := ⟨_, rfl⟩
        have HW4 := Lib.hid hw4
        have HB4 := Lib.hid (HB3.out.trans (al.mono HB3.out.size)); have Z4 := ZU; have Fv_4 := Lib.hid zf; have AL4 := Lib.hid al
        rw [hw4] at HB4 Z4 Fv_4 AL4
        clear al zf ZU hw4 Z3
        go_wp2_with fail
        rw [HW4.out]
        refine (KFI.out _ HB4.out).mono ?_
        rintro e w5 ⟨rfl, hb⟩
        have HB5 := Lib.hid (HB4.out.trans (hb.mono HB4.out.size)); have Z5 := Lib.hid ((hb.block _ (heapsz Z4.out)).trans Z4.out)
        have Fv_5 := Lib.hid ((hb.block _ (heapsz Fv_4.out)).trans Fv_4.out)
        clear hb s0 s1 s2 s3 s4 s5 s6 s7 s8 s9 s10 s11 fv0 fv1 fv2 fv3 fv4 Z4 Fv_4
        obtain ⟨⟨s0, s1, s2⟩, ⟨s3, s4, s5⟩, ⟨s6, s7, s8⟩, s9, s10, s11⟩ := sto_box Z5.out
        simp only at s0 s1 s2 s3 s4 s5 s6 s7 s8 s9 s10 s11
        have fv0 := cell_of_row _ _ 0 _ 48 (0, 0) Fv_5.out
        have fv1 := cell_of_row _ _ 1 _ 48 (0, 0) Fv_5.out
        have fv2 := cell_of_row _ _ 2 _ 48 (0, 0) Fv_5.out
        have fv3 := cell_of_row _ _ 3 _ 48 (0, 0) Fv_5.out
        have fv4 := cell_of_row _ _ 4 _ 48 (0, 0) Fv_5.out
        simp at fv0 fv1 fv2 fv3 fv4
        go_wp2_with fail
        refine (KST.out _ HB5.out).mono ?_
        rintro e w6 ⟨rfl, hb⟩
        have HB6 := Lib.hid (HB5.out.trans (hb.mono HB5.out.size)); have Z6 := Lib.hid ((hb.block _ (heapsz Z5.out)).trans Z5.out)
        have Fv_6 := Lib.hid ((hb.block _ (heapsz Fv_5.out)).trans Fv_5.out)
        clear hb s0 s1 s2 s3 s4 s5 s6 s7 s8 s9 s10 s11 fv0 fv1 fv2 fv3 fv4 Z5 Fv_5
        obtain ⟨⟨s0, s1, s2⟩, ⟨s3, s4, s5⟩, ⟨s6, s7, s8⟩, s9, s10, s11⟩ := sto_box Z6.out
        simp only at s0 s1 s2 s3 s4 s5 s6 s7 s8 s9 s10 s11
        have fv0 := cell_of_row _ _ 0 _ 48 (0, 0) Fv_6.out
        have fv1 := cell_of_row _ _ 1 _ 48 (0, 0) Fv_6.out
        have fv2 := cell_of_row _ _ 2 _ 48 (0, 0) Fv_6.out
        have fv3 := cell_of_row _ _ 3 _ 48 (0, 0) Fv_6.out
        have fv4 := cell_of_row _ _ 4 _ 48 (0, 0) Fv_6.out
        simp at fv0 fv1 fv2 fv3 fv4
        go_wp2_with fail
        refine (KPL.out _ HB6.out).mono ?_
        rintro e w7 ⟨rfl, hb⟩
        have HB7 := Lib.hid (HB6.out.trans (hb.mono HB6.out.size)); have Z7 := Lib.hid ((hb.block _ (heapsz Z6.out)).trans Z6.out)
        have Fv_7 := Lib.hid ((hb.block _ (heapsz Fv_6.out)).trans Fv_6.out)
        clear hb s0 s1 s2 s3 s4 s5 s6 s7 s8 s9 s10 s11 fv0 fv1 fv2 fv3 fv4 Z6 Fv_6
        obtain ⟨⟨s0, s1, s2⟩, ⟨s3, s4, s5⟩, ⟨s6, s7, s8⟩, s9, s10, s11⟩ := sto_box Z7.out
        simp only at s0 s1 s2 s3 s4 s5 s6 s7 s8 s9 s10 s11
        have fv0 := cell_of_row _ _ 0 _ 48 (0, 0) Fv_7.out
        have fv1 := cell_of_row _ _ 1 _ 48 (0, 0) Fv_7.out
        have fv2 := cell_of_row _ _ 2 _ 48 (0, 0) Fv_7.out
        have fv3 := cell_of_row _ _ 3 _ 48 (0, 0) Fv_7.out
        have fv4 := cell_of_row _ _ 4 _ 48 (0, 0) Fv_7.out
        simp at fv0 fv1 fv2 fv3 fv4
        go_wp2_with fail
        refine (KKN.out _ HB7.out).mono ?_
        rintro e w8 ⟨rfl, hb⟩
        have HB8 := Lib.hid (HB7.out.trans (hb.mono HB7.out.size)); have Z8 := Lib.hid ((hb.block _ (heapsz Z7.out)).trans Z7.out)
        have Fv_8 := Lib.hid ((hb.block _ (heapsz Fv_7.out)).trans Fv_7.out)
        clear hb s0 s1 s2 s3 s4 s5 s6 s7 s8 s9 s10 s11 fv0 fv1 fv2 fv3 fv4 Z7 Fv_7
        obtain ⟨⟨s0, s1, s2⟩, ⟨s3, s4, s5⟩, ⟨s6, s7, s8⟩, s9, s10, s11⟩ := sto_box Z8.out
        simp only at s0 s1 s2 s3 s4 s5 s6 s7 s8 s9 s10 s11
        have fv0 := cell_of_row _ _ 0 _ 48 (0, 0) Fv_8.out
        have fv1 := cell_of_row _ _ 1 _ 48 (0, 0) Fv_8.out
        have fv2 := cell_of_row _ _ 2 _ 48 (0, 0) Fv_8.out
        have fv3 := cell_of_row _ _ 3 _ 48 (0, 0) Fv_8.out
        have fv4 := cell_of_row _ _ 4 _ 48 (0, 0) Fv_8.out
        simp at fv0 fv1 fv2 fv3 fv4
        go_wp2_with fail
        go_ret
        exact ⟨rfl, HB0.out.trans (HB8.out.mono HB0.out.size)⟩
      | true =>
        obtain ⟨m, rfl, hm⟩ := plan_nat hC
        have hm6 : m ≤ 1000000 := by have h1 := hm; have h2 := two_six n6; omega
        have KRA : Hid (∀ u, Below w1.heap.size w1 u → Calls Tryd.prog 26 #[.agg #[.int .i64 S.st.a, .int .i64 S.st.b, .int .i64 S.st.c, .int .i64 S.yd.a, .int .i64 S.yd.b, .int .i64 S.yd.c, .int .i64 S.rate, .int .i64 S.weeks, .int .i64 S.land, .slice AS ns cs, .slice AI ni ci, .slice AW nw cw], .int .i64 (m : Int)] u fun e w' => e = .returned (fltO (S.fault m)) ∧ Below u.heap.size u w') := Lib.hid fun u hu => rfault_any (X := ⟨S, AS, ns, cs, AI, ni, ci, AW, nw, cw⟩) (HI.out.up hu) HOK.out m hm6
        have KRF : Hid (∀ u, Below w1.heap.size w1 u → Calls Tryd.prog 27 #[.agg #[.int .i64 S.st.a, .int .i64 S.st.b, .int .i64 S.st.c, .int .i64 S.yd.a, .int .i64 S.yd.b, .int .i64 S.yd.c, .int .i64 S.rate, .int .i64 S.weeks, .int .i64 S.land, .slice AS ns cs, .slice AI ni ci, .slice AW nw cw], .int .i64 (m : Int)] u fun e w' => e = .returned (.tuple #[.int .i64 (fsW (S.first m)), .int .i64 (fsK (S.first m)), .bool (S.first m).isSome]) ∧ Below u.heap.size u w') := Lib.hid fun u hu => rfirst_any (X := ⟨S, AS, ns, cs, AI, ni, ci, AW, nw, cw⟩) (HI.out.up hu) HOK.out m hm6
        have hg48 : Tryd.prog.eqGuardType Tryd.prog.depth 48 = false := by kernel_rfl
        cases hF : S.fault m with
        | none =>
          have h1 := first_none.2 hF
          have hfa : fauV S (m : Int) = (.agg #[.bool false, .int .i64 0, .int .i64 0, .int .i64 0, .int .i64 0], 0) := by unfold fauV; rw [hB, hC, show ((m : Int)).toNat = m from rfl, hF]; rfl
          have hfi : fstI S (m : Int) = (0, 0, 5) := by unfold fstI; rw [hB, hC, show ((m : Int)).toNat = m from rfl, h1]; rfl
          have KFA : Hid (∀ u, Below w1.heap.size w1 u → Calls Tryd.prog 24 #[.agg #[.int .i64 S.st.a, .int .i64 S.st.b, .int .i64 S.st.c, .int .i64 S.yd.a, .int .i64 S.yd.b, .int .i64 S.yd.c, .int .i64 S.rate, .int .i64 S.weeks, .int .i64 S.land, .slice AS ns cs, .slice AI ni ci, .slice AW nw cw], .int .i64 (m : Int)] u fun e w' => e = .returned (.tuple #[.agg #[.bool false, .int .i64 0, .int .i64 0, .int .i64 0, .int .i64 0], .int .i64 0]) ∧ Below u.heap.size u w') := Lib.hid fun u hu => by have := Fault_any (HI.out.up hu) (m : Int); simp only at this; rw [hfa] at this; exact this
          have KFI : Hid (∀ u, Below w1.heap.size w1 u → Calls Tryd.prog 25 #[.agg #[.int .i64 S.st.a, .int .i64 S.st.b, .int .i64 S.st.c, .int .i64 S.yd.a, .int .i64 S.yd.b, .int .i64 S.yd.c, .int .i64 S.rate, .int .i64 S.weeks, .int .i64 S.land, .slice AS ns cs, .slice AI ni ci, .slice AW nw cw], .int .i64 (m : Int)] u fun e w' => e = .returned (.tuple #[.int .i64 0, .int .i64 0, .int .i64 5]) ∧ Below u.heap.size u w') := Lib.hid fun u hu => by have := First_any (HI.out.up hu) (m : Int); simp only at this; rw [hfi] at this; exact this
          rw [hF] at KRA
          rw [h1] at KRF
          simp only [fltO] at KRA
          simp only [fsW, fsK, Option.isSome_none] at KRF
          clear hB hC hok n6 HLS2 hm hm6 hF h1 hfa hfi
          go_enter Tryd.func5, Tryd.ntmps5
          go_wp2_with fail
          rw [HW1.out]
          refine (KSH.out _ HB1.out).mono ?_
          rintro e w2 ⟨rfl, hb⟩
          have HB2 := Lib.hid (HB1.out.trans (hb.mono HB1.out.size)); have Z2 := Lib.hid ((hb.block _ (heapsz Z1.out)).trans Z1.out)
          clear hb s0 s1 s2 s3 s4 s5 s6 s7 s8 s9 s10 s11 Z1
          obtain ⟨⟨s0, s1, s2⟩, ⟨s3, s4, s5⟩, ⟨s6, s7, s8⟩, s9, s10, s11⟩ := sto_box Z2.out
          simp only at s0 s1 s2 s3 s4 s5 s6 s7 s8 s9 s10 s11
          go_wp2_with fail
          refine (KFA.out _ HB2.out).mono ?_
          rintro e w3 ⟨rfl, hb⟩
          have HB3 := Lib.hid (HB2.out.trans (hb.mono HB2.out.size)); have Z3 := Lib.hid ((hb.block _ (heapsz Z2.out)).trans Z2.out)
          clear hb s0 s1 s2 s3 s4 s5 s6 s7 s8 s9 s10 s11 Z2
          obtain ⟨⟨s0, s1, s2⟩, ⟨s3, s4, s5⟩, ⟨s6, s7, s8⟩, s9, s10, s11⟩ := sto_box Z3.out
          simp only at s0 s1 s2 s3 s4 s5 s6 s7 s8 s9 s10 s11
          clear s0 s1 s2 s3 s4 s5 s6 s7 s8 s9 s10 s11
          have al := (Below.refl w3.heap.size w3).alloc (Nat.le_refl _) (.cells #[.bool false, .int .i64 0, .int .i64 0, .int .i64 0, .int .i64 0] 48)
          have zf := heap_alloc_new w3 (.cells #[.bool false, .int .i64 0, .int .i64 0, .int .i64 0, .int .i64 0] 48)
          have ZU := Lib.hid ((al.block _ (heapsz Z3.out)).trans Z3.out)
          obtain ⟨⟨s0, s1, s2⟩, ⟨s3, s4, s5⟩, ⟨s6, s7, s8⟩, s9, s10, s11⟩ := sto_box ZU.out
          simp only at s0 s1 s2 s3 s4 s5 s6 s7 s8 s9 s10 s11
          have fv0 := cell_of_row _ _ 0 _ 48 (0, 0) zf
          have fv1 := cell_of_row _ _ 1 _ 48 (0, 0) zf
          have fv2 := cell_of_row _ _ 2 _ 48 (0, 0) zf
          have fv3 := cell_of_row _ _ 3 _ 48 (0, 0) zf
          have fv4 := cell_of_row _ _ 4 _ 48 (0, 0) zf
          simp at fv0 fv1 fv2 fv3 fv4
          obtain ⟨w4, hw4⟩ : ∃ W, w3.alloc (.cells #[.bool false, .int .i64 0, .int .i64 0, .int .i64 0, .int .i64 0] 48) = W := ⟨_, rfl⟩
          have HW4 := Lib.hid hw4
          have HB4 := Lib.hid (HB3.out.trans (al.mono HB3.out.size)); have Z4 := ZU; have Fv_4 := Lib.hid zf; have AL4 := Lib.hid al
          rw [hw4] at HB4 Z4 Fv_4 AL4
          clear al zf ZU hw4 Z3
          go_wp2_with fail
          rw [HW4.out]
          refine (KFI.out _ HB4.out).mono ?_
          rintro e w5 ⟨rfl, hb⟩
          have HB5 := Lib.hid (HB4.out.trans (hb.mono HB4.out.size)); have Z5 := Lib.hid ((hb.block _ (heapsz Z4.out)).trans Z4.out)
          have Fv_5 := Lib.hid ((hb.block _ (heapsz Fv_4.out)).trans Fv_4.out)
          clear hb s0 s1 s2 s3 s4 s5 s6 s7 s8 s9 s10 s11 fv0 fv1 fv2 fv3 fv4 Z4 Fv_4
          obtain ⟨⟨s0, s1, s2⟩, ⟨s3, s4, s5⟩, ⟨s6, s7, s8⟩, s9, s10, s11⟩ := sto_box Z5.out
          simp only at s0 s1 s2 s3 s4 s5 s6 s7 s8 s9 s10 s11
          have fv0 := cell_of_row _ _ 0 _ 48 (0, 0) Fv_5.out
          have fv1 := cell_of_row _ _ 1 _ 48 (0, 0) Fv_5.out
          have fv2 := cell_of_row _ _ 2 _ 48 (0, 0) Fv_5.out
          have fv3 := cell_of_row _ _ 3 _ 48 (0, 0) Fv_5.out
          have fv4 := cell_of_row _ _ 4 _ 48 (0, 0) Fv_5.out
          simp at fv0 fv1 fv2 fv3 fv4
          go_wp2_with fail
          refine (KST.out _ HB5.out).mono ?_
          rintro e w6 ⟨rfl, hb⟩
          have HB6 := Lib.hid (HB5.out.trans (hb.mono HB5.out.size)); have Z6 := Lib.hid ((hb.block _ (heapsz Z5.out)).trans Z5.out)
          have Fv_6 := Lib.hid ((hb.block _ (heapsz Fv_5.out)).trans Fv_5.out)
          clear hb s0 s1 s2 s3 s4 s5 s6 s7 s8 s9 s10 s11 fv0 fv1 fv2 fv3 fv4 Z5 Fv_5
          obtain ⟨⟨s0, s1, s2⟩, ⟨s3, s4, s5⟩, ⟨s6, s7, s8⟩, s9, s10, s11⟩ := sto_box Z6.out
          simp only at s0 s1 s2 s3 s4 s5 s6 s7 s8 s9 s10 s11
          have fv0 := cell_of_row _ _ 0 _ 48 (0, 0) Fv_6.out
          have fv1 := cell_of_row _ _ 1 _ 48 (0, 0) Fv_6.out
          have fv2 := cell_of_row _ _ 2 _ 48 (0, 0) Fv_6.out
          have fv3 := cell_of_row _ _ 3 _ 48 (0, 0) Fv_6.out
          have fv4 := cell_of_row _ _ 4 _ 48 (0, 0) Fv_6.out
          simp at fv0 fv1 fv2 fv3 fv4
          go_wp2_with fail
          refine (KPL.out _ HB6.out).mono ?_
          rintro e w7 ⟨rfl, hb⟩
          have HB7 := Lib.hid (HB6.out.trans (hb.mono HB6.out.size)); have Z7 := Lib.hid ((hb.block _ (heapsz Z6.out)).trans Z6.out)
          have Fv_7 := Lib.hid ((hb.block _ (heapsz Fv_6.out)).trans Fv_6.out)
          clear hb s0 s1 s2 s3 s4 s5 s6 s7 s8 s9 s10 s11 fv0 fv1 fv2 fv3 fv4 Z6 Fv_6
          obtain ⟨⟨s0, s1, s2⟩, ⟨s3, s4, s5⟩, ⟨s6, s7, s8⟩, s9, s10, s11⟩ := sto_box Z7.out
          simp only at s0 s1 s2 s3 s4 s5 s6 s7 s8 s9 s10 s11
          have fv0 := cell_of_row _ _ 0 _ 48 (0, 0) Fv_7.out
          have fv1 := cell_of_row _ _ 1 _ 48 (0, 0) Fv_7.out
          have fv2 := cell_of_row _ _ 2 _ 48 (0, 0) Fv_7.out
          have fv3 := cell_of_row _ _ 3 _ 48 (0, 0) Fv_7.out
          have fv4 := cell_of_row _ _ 4 _ 48 (0, 0) Fv_7.out
          simp at fv0 fv1 fv2 fv3 fv4
          go_wp2_with fail
          have hp : ∀ u : KeptW w7, _ := fun u => sto_box ((u.h.block _ (heapsz Z7.out)).trans Z7.out)
          have hv : ∀ u : KeptW w7, _ := fun u => (box5_cells ((u.h.block _ (heapsz Fv_7.out)).trans Fv_7.out)).1
          clear s0 s1 s2 s3 s4 s5 s6 s7 s8 s9 s10 s11 fv0 fv1 fv2 fv3 fv4
          have s0 := fun u => (hp u).1.1; have s1 := fun u => (hp u).1.2.1; have s2 := fun u => (hp u).1.2.2
          have s3 := fun u => (hp u).2.1.1; have s4 := fun u => (hp u).2.1.2.1; have s5 := fun u => (hp u).2.1.2.2
          have s6 := fun u => (hp u).2.2.1.1; have s7 := fun u => (hp u).2.2.1.2.1; have s8 := fun u => (hp u).2.2.1.2.2
          have s9 := fun u => (hp u).2.2.2.1; have s10 := fun u => (hp u).2.2.2.2.1; have s11 := fun u => (hp u).2.2.2.2.2
          have fv0 := fun u => (hv u).1; have fv1 := fun u => (hv u).2.1; have fv2 := fun u => (hv u).2.2.1; have fv3 := fun u => (hv u).2.2.2.1; have fv4 := fun u => (hv u).2.2.2.2
          simp only at s0 s1 s2 s3 s4 s5 s6 s7 s8 s9 s10 s11
          have HRA := Lib.hid fun u : KeptW w7 => Calls.in_kept u (KRA.out u.w (HB7.out.trans (u.h.mono HB7.out.size)))
          have q48 := fun u : KeptW w7 => eq48a false 0 0 0 0 u.w
          clear hp hv
          refine rk_region (by kernel_rfl) (by kernel_rfl) ?_
          repeat (go_big_quiet_step (first | (with_reducible exact HRA.out _) | fail))
          refine wpQuiet_nil ?_
          rintro _ ⟨⟨w8, hb⟩, rfl⟩
          have HB8 := Lib.hid (HB7.out.trans (hb.mono HB7.out.size)); have Z8 := Lib.hid ((hb.block _ (heapsz Z7.out)).trans Z7.out); have Fv_8 := Lib.hid ((hb.block _ (heapsz Fv_7.out)).trans Fv_7.out)
          clear hb s0 s1 s2 s3 s4 s5 s6 s7 s8 s9 s10 s11 fv0 fv1 fv2 fv3 fv4 q48 Z7 Fv_7
          obtain ⟨⟨s0, s1, s2⟩, ⟨s3, s4, s5⟩, ⟨s6, s7, s8⟩, s9, s10, s11⟩ := sto_box Z8.out
          simp only at s0 s1 s2 s3 s4 s5 s6 s7 s8 s9 s10 s11
          have fv0 := cell_of_row _ _ 0 _ 48 (0, 0) Fv_8.out
          have fv1 := cell_of_row _ _ 1 _ 48 (0, 0) Fv_8.out
          have fv2 := cell_of_row _ _ 2 _ 48 (0, 0) Fv_8.out
          have fv3 := cell_of_row _ _ 3 _ 48 (0, 0) Fv_8.out
          have fv4 := cell_of_row _ _ 4 _ 48 (0, 0) Fv_8.out
          simp at fv0 fv1 fv2 fv3 fv4
          go_wp2_with fail
          refine (KRF.out _ HB8.out).mono ?_
          rintro e w9 ⟨rfl, hb⟩
          have HB9 := Lib.hid (HB8.out.trans (hb.mono HB8.out.size)); have Z9 := Lib.hid ((hb.block _ (heapsz Z8.out)).trans Z8.out)
          have Fv_9 := Lib.hid ((hb.block _ (heapsz Fv_8.out)).trans Fv_8.out)
          clear hb s0 s1 s2 s3 s4 s5 s6 s7 s8 s9 s10 s11 fv0 fv1 fv2 fv3 fv4 Z8 Fv_8
          obtain ⟨⟨s0, s1, s2⟩, ⟨s3, s4, s5⟩, ⟨s6, s7, s8⟩, s9, s10, s11⟩ := sto_box Z9.out
          simp only at s0 s1 s2 s3 s4 s5 s6 s7 s8 s9 s10 s11
          have fv0 := cell_of_row _ _ 0 _ 48 (0, 0) Fv_9.out
          have fv1 := cell_of_row _ _ 1 _ 48 (0, 0) Fv_9.out
          have fv2 := cell_of_row _ _ 2 _ 48 (0, 0) Fv_9.out
          have fv3 := cell_of_row _ _ 3 _ 48 (0, 0) Fv_9.out
          have fv4 := cell_of_row _ _ 4 _ 48 (0, 0) Fv_9.out
          simp at fv0 fv1 fv2 fv3 fv4
          go_wp2_with fail
          refine (KKN.out _ HB9.out).mono ?_
          rintro e w10 ⟨rfl, hb⟩
          have HB10 := Lib.hid (HB9.out.trans (hb.mono HB9.out.size)); have Z10 := Lib.hid ((hb.block _ (heapsz Z9.out)).trans Z9.out)
          have Fv_10 := Lib.hid ((hb.block _ (heapsz Fv_9.out)).trans Fv_9.out)
          clear hb s0 s1 s2 s3 s4 s5 s6 s7 s8 s9 s10 s11 fv0 fv1 fv2 fv3 fv4 Z9 Fv_9
          obtain ⟨⟨s0, s1, s2⟩, ⟨s3, s4, s5⟩, ⟨s6, s7, s8⟩, s9, s10, s11⟩ := sto_box Z10.out
          simp only at s0 s1 s2 s3 s4 s5 s6 s7 s8 s9 s10 s11
          have fv0 := cell_of_row _ _ 0 _ 48 (0, 0) Fv_10.out
          have fv1 := cell_of_row _ _ 1 _ 48 (0, 0) Fv_10.out
          have fv2 := cell_of_row _ _ 2 _ 48 (0, 0) Fv_10.out
          have fv3 := cell_of_row _ _ 3 _ 48 (0, 0) Fv_10.out
          have fv4 := cell_of_row _ _ 4 _ 48 (0, 0) Fv_10.out
          simp at fv0 fv1 fv2 fv3 fv4
          go_wp2_with fail
          go_ret
          exact ⟨rfl, HB0.out.trans (HB10.out.mono HB0.out.size)⟩
        | some f =>
          obtain ⟨g, hg1⟩ : ∃ g, S.first m = some g := by
            cases hq : S.first m with
            | none => rw [first_none.1 hq] at hF; cases hF
            | some g => exact ⟨g, rfl⟩
          have hfa : fauV S (m : Int) = (.agg #[.bool true, .int .i64 (f.i : Int), .int .i64 (f.n : Int), .int .i64 (f.w : Int), .int .i64 (f.k : Int)], 0) := by unfold fauV; rw [hB, hC, show ((m : Int)).toNat = m from rfl, hF]; rfl
          have hfi : fstI S (m : Int) = ((g.w : Int), (g.k : Int), 0) := by unfold fstI; rw [hB, hC, show ((m : Int)).toNat = m from rfl, hg1]; rfl
          obtain ⟨fi, hfi1⟩ : ∃ z : Int, (f.i : Int) = z := ⟨_, rfl⟩
          obtain ⟨fn, hfn1⟩ : ∃ z : Int, (f.n : Int) = z := ⟨_, rfl⟩
          obtain ⟨fw, hfw1⟩ : ∃ z : Int, (f.w : Int) = z := ⟨_, rfl⟩
          obtain ⟨fk, hfk1⟩ : ∃ z : Int, (f.k : Int) = z := ⟨_, rfl⟩
          obtain ⟨gw, hgw1⟩ : ∃ z : Int, (g.w : Int) = z := ⟨_, rfl⟩
          obtain ⟨gk, hgk1⟩ : ∃ z : Int, (g.k : Int) = z := ⟨_, rfl⟩
          rw [hfi1, hfn1, hfw1, hfk1] at hfa
          rw [hgw1, hgk1] at hfi
          have KFA : Hid (∀ u, Below w1.heap.size w1 u → Calls Tryd.prog 24 #[.agg #[.int .i64 S.st.a, .int .i64 S.st.b, .int .i64 S.st.c, .int .i64 S.yd.a, .int .i64 S.yd.b, .int .i64 S.yd.c, .int .i64 S.rate, .int .i64 S.weeks, .int .i64 S.land, .slice AS ns cs, .slice AI ni ci, .slice AW nw cw], .int .i64 (m : Int)] u fun e w' => e = .returned (.tuple #[.agg #[.bool true, .int .i64 fi, .int .i64 fn, .int .i64 fw, .int .i64 fk], .int .i64 0]) ∧ Below u.heap.size u w') := Lib.hid fun u hu => by have := Fault_any (HI.out.up hu) (m : Int); simp only at this; rw [hfa] at this; exact this
          have KFI : Hid (∀ u, Below w1.heap.size w1 u → Calls Tryd.prog 25 #[.agg #[.int .i64 S.st.a, .int .i64 S.st.b, .int .i64 S.st.c, .int .i64 S.yd.a, .int .i64 S.yd.b, .int .i64 S.yd.c, .int .i64 S.rate, .int .i64 S.weeks, .int .i64 S.land, .slice AS ns cs, .slice AI ni ci, .slice AW nw cw], .int .i64 (m : Int)] u fun e w' => e = .returned (.tuple #[.int .i64 gw, .int .i64 gk, .int .i64 0]) ∧ Below u.heap.size u w') := Lib.hid fun u hu => by have := First_any (HI.out.up hu) (m : Int); simp only at this; rw [hfi] at this; exact this
          rw [hF] at KRA
          rw [hg1] at KRF
          simp only [fltO] at KRA
          rw [hfi1, hfn1, hfw1, hfk1] at KRA
          simp only [fsW, fsK, Option.isSome_some] at KRF
          rw [hgw1, hgk1] at KRF
          clear hB hC hok n6 HLS2 hm hm6 hF hg1 hfa hfi hfi1 hfn1 hfw1 hfk1 hgw1 hgk1
          go_enter Tryd.func5, Tryd.ntmps5
          go_wp2_with fail
          rw [HW1.out]
          refine (KSH.out _ HB1.out).mono ?_
          rintro e w2 ⟨rfl, hb⟩
          have HB2 := Lib.hid (HB1.out.trans (hb.mono HB1.out.size)); have Z2 := Lib.hid ((hb.block _ (heapsz Z1.out)).trans Z1.out)
          clear hb s0 s1 s2 s3 s4 s5 s6 s7 s8 s9 s10 s11 Z1
          obtain ⟨⟨s0, s1, s2⟩, ⟨s3, s4, s5⟩, ⟨s6, s7, s8⟩, s9, s10, s11⟩ := sto_box Z2.out
          simp only at s0 s1 s2 s3 s4 s5 s6 s7 s8 s9 s10 s11
          go_wp2_with fail
          refine (KFA.out _ HB2.out).mono ?_
          rintro e w3 ⟨rfl, hb⟩
          have HB3 := Lib.hid (HB2.out.trans (hb.mono HB2.out.size)); have Z3 := Lib.hid ((hb.block _ (heapsz Z2.out)).trans Z2.out)
          clear hb s0 s1 s2 s3 s4 s5 s6 s7 s8 s9 s10 s11 Z2
          obtain ⟨⟨s0, s1, s2⟩, ⟨s3, s4, s5⟩, ⟨s6, s7, s8⟩, s9, s10, s11⟩ := sto_box Z3.out
          simp only at s0 s1 s2 s3 s4 s5 s6 s7 s8 s9 s10 s11
          clear s0 s1 s2 s3 s4 s5 s6 s7 s8 s9 s10 s11
          have al := (Below.refl w3.heap.size w3).alloc (Nat.le_refl _) (.cells #[.bool true, .int .i64 fi, .int .i64 fn, .int .i64 fw, .int .i64 fk] 48)
          have zf := heap_alloc_new w3 (.cells #[.bool true, .int .i64 fi, .int .i64 fn, .int .i64 fw, .int .i64 fk] 48)
          have ZU := Lib.hid ((al.block _ (heapsz Z3.out)).trans Z3.out)
          obtain ⟨⟨s0, s1, s2⟩, ⟨s3, s4, s5⟩, ⟨s6, s7, s8⟩, s9, s10, s11⟩ := sto_box ZU.out
          simp only at s0 s1 s2 s3 s4 s5 s6 s7 s8 s9 s10 s11
          have fv0 := cell_of_row _ _ 0 _ 48 (0, 0) zf
          have fv1 := cell_of_row _ _ 1 _ 48 (0, 0) zf
          have fv2 := cell_of_row _ _ 2 _ 48 (0, 0) zf
          have fv3 := cell_of_row _ _ 3 _ 48 (0, 0) zf
          have fv4 := cell_of_row _ _ 4 _ 48 (0, 0) zf
          simp at fv0 fv1 fv2 fv3 fv4
          obtain ⟨w4, hw4⟩ : ∃ W, w3.alloc (.cells #[.bool true, .int .i64 fi, .int .i64 fn, .int .i64 fw, .int .i64 fk] 48) = W := ⟨_, rfl⟩
          have HW4 := Lib.hid hw4
          have HB4 := Lib.hid (HB3.out.trans (al.mono HB3.out.size)); have Z4 := ZU; have Fv_4 := Lib.hid zf; have AL4 := Lib.hid al
          rw [hw4] at HB4 Z4 Fv_4 AL4
          clear al zf ZU hw4 Z3
          go_wp2_with fail
          rw [HW4.out]
          refine (KFI.out _ HB4.out).mono ?_
          rintro e w5 ⟨rfl, hb⟩
          have HB5 := Lib.hid (HB4.out.trans (hb.mono HB4.out.size)); have Z5 := Lib.hid ((hb.block _ (heapsz Z4.out)).trans Z4.out)
          have Fv_5 := Lib.hid ((hb.block _ (heapsz Fv_4.out)).trans Fv_4.out)
          clear hb s0 s1 s2 s3 s4 s5 s6 s7 s8 s9 s10 s11 fv0 fv1 fv2 fv3 fv4 Z4 Fv_4
          obtain ⟨⟨s0, s1, s2⟩, ⟨s3, s4, s5⟩, ⟨s6, s7, s8⟩, s9, s10, s11⟩ := sto_box Z5.out
          simp only at s0 s1 s2 s3 s4 s5 s6 s7 s8 s9 s10 s11
          have fv0 := cell_of_row _ _ 0 _ 48 (0, 0) Fv_5.out
          have fv1 := cell_of_row _ _ 1 _ 48 (0, 0) Fv_5.out
          have fv2 := cell_of_row _ _ 2 _ 48 (0, 0) Fv_5.out
          have fv3 := cell_of_row _ _ 3 _ 48 (0, 0) Fv_5.out
          have fv4 := cell_of_row _ _ 4 _ 48 (0, 0) Fv_5.out
          simp at fv0 fv1 fv2 fv3 fv4
          go_wp2_with fail
          refine (KST.out _ HB5.out).mono ?_
          rintro e w6 ⟨rfl, hb⟩
          have HB6 := Lib.hid (HB5.out.trans (hb.mono HB5.out.size)); have Z6 := Lib.hid ((hb.block _ (heapsz Z5.out)).trans Z5.out)
          have Fv_6 := Lib.hid ((hb.block _ (heapsz Fv_5.out)).trans Fv_5.out)
          clear hb s0 s1 s2 s3 s4 s5 s6 s7 s8 s9 s10 s11 fv0 fv1 fv2 fv3 fv4 Z5 Fv_5
          obtain ⟨⟨s0, s1, s2⟩, ⟨s3, s4, s5⟩, ⟨s6, s7, s8⟩, s9, s10, s11⟩ := sto_box Z6.out
          simp only at s0 s1 s2 s3 s4 s5 s6 s7 s8 s9 s10 s11
          have fv0 := cell_of_row _ _ 0 _ 48 (0, 0) Fv_6.out
          have fv1 := cell_of_row _ _ 1 _ 48 (0, 0) Fv_6.out
          have fv2 := cell_of_row _ _ 2 _ 48 (0, 0) Fv_6.out
          have fv3 := cell_of_row _ _ 3 _ 48 (0, 0) Fv_6.out
          have fv4 := cell_of_row _ _ 4 _ 48 (0, 0) Fv_6.out
          simp at fv0 fv1 fv2 fv3 fv4
          go_wp2_with fail
          refine (KPL.out _ HB6.out).mono ?_
          rintro e w7 ⟨rfl, hb⟩
          have HB7 := Lib.hid (HB6.out.trans (hb.mono HB6.out.size)); have Z7 := Lib.hid ((hb.block _ (heapsz Z6.out)).trans Z6.out)
          have Fv_7 := Lib.hid ((hb.block _ (heapsz Fv_6.out)).trans Fv_6.out)
          clear hb s0 s1 s2 s3 s4 s5 s6 s7 s8 s9 s10 s11 fv0 fv1 fv2 fv3 fv4 Z6 Fv_6
          obtain ⟨⟨s0, s1, s2⟩, ⟨s3, s4, s5⟩, ⟨s6, s7, s8⟩, s9, s10, s11⟩ := sto_box Z7.out
          simp only at s0 s1 s2 s3 s4 s5 s6 s7 s8 s9 s10 s11
          have fv0 := cell_of_row _ _ 0 _ 48 (0, 0) Fv_7.out
          have fv1 := cell_of_row _ _ 1 _ 48 (0, 0) Fv_7.out
          have fv2 := cell_of_row _ _ 2 _ 48 (0, 0) Fv_7.out
          have fv3 := cell_of_row _ _ 3 _ 48 (0, 0) Fv_7.out
          have fv4 := cell_of_row _ _ 4 _ 48 (0, 0) Fv_7.out
          simp at fv0 fv1 fv2 fv3 fv4
          go_wp2_with fail
          have hp : ∀ u : KeptW w7, _ := fun u => sto_box ((u.h.block _ (heapsz Z7.out)).trans Z7.out)
          have hv : ∀ u : KeptW w7, _ := fun u => (box5_cells ((u.h.block _ (heapsz Fv_7.out)).trans Fv_7.out)).1
          clear s0 s1 s2 s3 s4 s5 s6 s7 s8 s9 s10 s11 fv0 fv1 fv2 fv3 fv4
          have s0 := fun u => (hp u).1.1; have s1 := fun u => (hp u).1.2.1; have s2 := fun u => (hp u).1.2.2
          have s3 := fun u => (hp u).2.1.1; have s4 := fun u => (hp u).2.1.2.1; have s5 := fun u => (hp u).2.1.2.2
          have s6 := fun u => (hp u).2.2.1.1; have s7 := fun u => (hp u).2.2.1.2.1; have s8 := fun u => (hp u).2.2.1.2.2
          have s9 := fun u => (hp u).2.2.2.1; have s10 := fun u => (hp u).2.2.2.2.1; have s11 := fun u => (hp u).2.2.2.2.2
          have fv0 := fun u => (hv u).1; have fv1 := fun u => (hv u).2.1; have fv2 := fun u => (hv u).2.2.1; have fv3 := fun u => (hv u).2.2.2.1; have fv4 := fun u => (hv u).2.2.2.2
          simp only at s0 s1 s2 s3 s4 s5 s6 s7 s8 s9 s10 s11
          have HRA := Lib.hid fun u : KeptW w7 => Calls.in_kept u (KRA.out u.w (HB7.out.trans (u.h.mono HB7.out.size)))
          have q48 := fun u : KeptW w7 => eq48a true fi fn fw fk u.w
          clear hp hv
          refine rk_region (by kernel_rfl) (by kernel_rfl) ?_
          repeat (go_big_quiet_step (first | (with_reducible exact HRA.out _) | fail))
          refine wpQuiet_nil ?_
          rintro _ ⟨⟨w8, hb⟩, rfl⟩
          have HB8 := Lib.hid (HB7.out.trans (hb.mono HB7.out.size)); have Z8 := Lib.hid ((hb.block _ (heapsz Z7.out)).trans Z7.out); have Fv_8 := Lib.hid ((hb.block _ (heapsz Fv_7.out)).trans Fv_7.out)
          clear hb s0 s1 s2 s3 s4 s5 s6 s7 s8 s9 s10 s11 fv0 fv1 fv2 fv3 fv4 q48 Z7 Fv_7
          obtain ⟨⟨s0, s1, s2⟩, ⟨s3, s4, s5⟩, ⟨s6, s7, s8⟩, s9, s10, s11⟩ := sto_box Z8.out
          simp only at s0 s1 s2 s3 s4 s5 s6 s7 s8 s9 s10 s11
          have fv0 := cell_of_row _ _ 0 _ 48 (0, 0) Fv_8.out
          have fv1 := cell_of_row _ _ 1 _ 48 (0, 0) Fv_8.out
          have fv2 := cell_of_row _ _ 2 _ 48 (0, 0) Fv_8.out
          have fv3 := cell_of_row _ _ 3 _ 48 (0, 0) Fv_8.out
          have fv4 := cell_of_row _ _ 4 _ 48 (0, 0) Fv_8.out
          simp at fv0 fv1 fv2 fv3 fv4
          go_wp2_with fail
          refine (KRF.out _ HB8.out).mono ?_
          rintro e w9 ⟨rfl, hb⟩
          have HB9 := Lib.hid (HB8.out.trans (hb.mono HB8.out.size)); have Z9 := Lib.hid ((hb.block _ (heapsz Z8.out)).trans Z8.out)
          have Fv_9 := Lib.hid ((hb.block _ (heapsz Fv_8.out)).trans Fv_8.out)
          clear hb s0 s1 s2 s3 s4 s5 s6 s7 s8 s9 s10 s11 fv0 fv1 fv2 fv3 fv4 Z8 Fv_8
          obtain ⟨⟨s0, s1, s2⟩, ⟨s3, s4, s5⟩, ⟨s6, s7, s8⟩, s9, s10, s11⟩ := sto_box Z9.out
          simp only at s0 s1 s2 s3 s4 s5 s6 s7 s8 s9 s10 s11
          have fv0 := cell_of_row _ _ 0 _ 48 (0, 0) Fv_9.out
          have fv1 := cell_of_row _ _ 1 _ 48 (0, 0) Fv_9.out
          have fv2 := cell_of_row _ _ 2 _ 48 (0, 0) Fv_9.out
          have fv3 := cell_of_row _ _ 3 _ 48 (0, 0) Fv_9.out
          have fv4 := cell_of_row _ _ 4 _ 48 (0, 0) Fv_9.out
          simp at fv0 fv1 fv2 fv3 fv4
          go_wp2_with fail
          refine (KKN.out _ HB9.out).mono ?_
          rintro e w10 ⟨rfl, hb⟩
          have HB10 := Lib.hid (HB9.out.trans (hb.mono HB9.out.size)); have Z10 := Lib.hid ((hb.block _ (heapsz Z9.out)).trans Z9.out)
          have Fv_10 := Lib.hid ((hb.block _ (heapsz Fv_9.out)).trans Fv_9.out)
          clear hb s0 s1 s2 s3 s4 s5 s6 s7 s8 s9 s10 s11 fv0 fv1 fv2 fv3 fv4 Z9 Fv_9
          obtain ⟨⟨s0, s1, s2⟩, ⟨s3, s4, s5⟩, ⟨s6, s7, s8⟩, s9, s10, s11⟩ := sto_box Z10.out
          simp only at s0 s1 s2 s3 s4 s5 s6 s7 s8 s9 s10 s11
          have fv0 := cell_of_row _ _ 0 _ 48 (0, 0) Fv_10.out
          have fv1 := cell_of_row _ _ 1 _ 48 (0, 0) Fv_10.out
          have fv2 := cell_of_row _ _ 2 _ 48 (0, 0) Fv_10.out
          have fv3 := cell_of_row _ _ 3 _ 48 (0, 0) Fv_10.out
          have fv4 := cell_of_row _ _ 4 _ 48 (0, 0) Fv_10.out
          simp at fv0 fv1 fv2 fv3 fv4
          go_wp2_with fail
          go_ret
          exact ⟨rfl, HB0.out.trans (HB10.out.mono HB0.out.size)⟩
end Go.Proofs.YtijjkiogmlannaaDoor
