/- Stores: the law of goods. -/
import Derived.Test.YtijjkiogmlannaaDoorEQ
namespace Go.Proofs.YtijjkiogmlannaaDoor
open Go.RowKit

def landK (l : List Gd) : Nat → Int
  | 0 => 0
  | k + 1 => landK l k + ldS2 l k l.length
theorem landK_in {l : List Gd} (h : ∀ g ∈ l, ∀ k, k < 3 → 0 ≤ g.at k ∧ g.at k ≤ 1000) : ∀ k, k ≤ 3 → 0 ≤ landK l k ∧ landK l k ≤ 1000 * (l.length : Int) * (k : Int)
  | 0, _ => by simp [landK]
  | k + 1, hk => by
    have ih := landK_in h k (by omega)
    have hs := ldS2_in (l := l) (k := k) (fun g hg => h g hg k (by omega)) l.length (Nat.le_refl _)
    have e : landK l (k + 1) = landK l k + ldS2 l k l.length := rfl
    have e2 : 1000 * (l.length : Int) * ((k + 1 : Nat) : Int) = 1000 * (l.length : Int) * (k : Int) + 1000 * (l.length : Int) := by rw [Int.natCast_succ, Int.mul_add, Int.mul_one]
    omega
theorem bef_stock {C : KC} {w : World} (h : KIn C w) {k : Nat} (hk : k < 3) {mp : Nat} (hmp : C.mw = mp + 1) : ∃ b o, C.A2 = some ⟨b, o, none⟩ ∧ w.cell? ⟨b, o + mp * 3 + k, none⟩ = some (.int .i64 (C.X.S.st.at k + ldS2 (C.X.S.run C.m C.ice C.win).ld k C.X.ns - needS C.win k C.mw + lackS C.X.S C.m C.ice C.win k C.mw)) := by
  have hmw : C.X.S.weeks.toNat = C.mw := by rw [h.hmw]; rfl
  obtain ⟨b, o, hA, _, hat⟩ := gds_at h.st (stocks_get (S := C.X.S) (p := C.m) (ice := C.ice) (win := C.win) (t := mp) (by rw [hmw, hmp]; omega))
  refine ⟨b, o, hA, ?_⟩
  have he := keeps_end h.K (p := C.m) (ice := C.ice) (win := C.win) h.winl.2 hk
  rw [hmw, h.ldl] at he
  rw [he, hmp, bef_succ]
  exact hat k hk
set_option maxRecDepth 1000000 in
set_option maxHeartbeats 40000000 in
theorem keeps_law {X : SX} {w : World} (h : X.In w) (ht : Tab w) (o i n : Int) : Calls Tryd.prog 4 #[X.v, .int .i64 o, .int .i64 i, .int .i64 n] w fun e w' => e = .returned (.bool true) ∧ Below w.heap.size w w' := by
  rcases X with ⟨S, AS, ns, cs, AI, ni, ci, AW, nw, cw⟩
  obtain ⟨z0, hb0⟩ := sto_new ⟨S, AS, ns, cs, AI, ni, ci, AW, nw, cw⟩ w
  obtain ⟨⟨s0, s1, s2⟩, ⟨s3, s4, s5⟩, ⟨s6, s7, s8⟩, s9, s10, s11⟩ := sto_box z0
  simp only at s0 s1 s2 s3 s4 s5 s6 s7 s8 s9 s10 s11
  obtain ⟨w1, hw1⟩ : ∃ z, w.alloc (.cells (SX.cells ⟨S, AS, ns, cs, AI, ni, ci, AW, nw, cw⟩) 28) = z := ⟨_, rfl⟩
  rw [hw1] at z0 hb0
  have hls := h.hs; have hli := h.hi; have hlw := h.hw
  simp only at hls hli hlw
  have HB0 := Lib.hid hb0; have HB1 := Lib.hid (Below.refl w1.heap.size w1); have Z1 := Lib.hid z0; have HI := Lib.hid (h.up hb0); have HW1 := Lib.hid hw1; have HT := Lib.hid (ht.next hb0); have HLS := Lib.hid hls; have HLI := Lib.hid hli; have HLW := Lib.hid hlw
  obtain ⟨A, hA⟩ : ∃ z, shortB ⟨S, AS, ns, cs, AI, ni, ci, AW, nw, cw⟩ = z := ⟨_, rfl⟩
  have KSH : Hid (∀ u, Below w1.heap.size w1 u → Calls Tryd.prog 12 #[.agg #[.int .i64 S.st.a, .int .i64 S.st.b, .int .i64 S.st.c, .int .i64 S.yd.a, .int .i64 S.yd.b, .int .i64 S.yd.c, .int .i64 S.rate, .int .i64 S.weeks, .int .i64 S.land, .slice AS ns cs, .slice AI ni ci, .slice AW nw cw]] u fun e w' => e = .returned (.bool A) ∧ Below u.heap.size u w') := Lib.hid fun u hu => by rw [← hA]; exact short_any (HI.out.up hu)
  have KKN : Hid (∀ u, Below w1.heap.size w1 u → Calls Tryd.prog 13 #[] u fun e w' => e = .returned (.bool true) ∧ Below u.heap.size u w') := Lib.hid fun u hu => known_any u (HT.out.next hu)
  clear h ht z0 hb0 hw1 hls hli hlw hA
  cases A with
  | false =>
    go_enter Tryd.func4, Tryd.ntmps4
    go_wp2_with fail
    rw [HW1.out]
    refine (KSH.out _ HB1.out).mono ?_
    rintro e w2 ⟨rfl, hb⟩
    have HB2 := Lib.hid (HB1.out.trans (hb.mono HB1.out.size)); have Z2 := Lib.hid ((hb.block _ (heapsz Z1.out)).trans Z1.out)
    clear hb s0 s1 s2 s3 s4 s5 s6 s7 s8 s9 s10 s11 Z1
    obtain ⟨⟨s0, s1, s2⟩, ⟨s3, s4, s5⟩, ⟨s6, s7, s8⟩, s9, s10, s11⟩ := sto_box Z2.out
    simp only at s0 s1 s2 s3 s4 s5 s6 s7 s8 s9 s10 s11
    go_wp2_with fail
    refine (KKN.out _ HB2.out).mono ?_
    rintro e w3 ⟨rfl, hb⟩
    have HB3 := Lib.hid (HB2.out.trans (hb.mono HB2.out.size)); have Z3 := Lib.hid ((hb.block _ (heapsz Z2.out)).trans Z2.out)
    clear hb s0 s1 s2 s3 s4 s5 s6 s7 s8 s9 s10 s11 Z2
    obtain ⟨⟨s0, s1, s2⟩, ⟨s3, s4, s5⟩, ⟨s6, s7, s8⟩, s9, s10, s11⟩ := sto_box Z3.out
    simp only at s0 s1 s2 s3 s4 s5 s6 s7 s8 s9 s10 s11
    go_wp2_with fail
    go_ret
    exact ⟨rfl, HB0.out.trans (HB3.out.mono HB0.out.size)⟩
  | true =>
    obtain ⟨B, hB⟩ : ∃ z, stoB S = z := ⟨_, rfl⟩
    have KST : Hid (∀ u, Below w1.heap.size w1 u → Calls Tryd.prog 16 #[.agg #[.int .i64 S.st.a, .int .i64 S.st.b, .int .i64 S.st.c, .int .i64 S.yd.a, .int .i64 S.yd.b, .int .i64 S.yd.c, .int .i64 S.rate, .int .i64 S.weeks, .int .i64 S.land, .slice AS ns cs, .slice AI ni ci, .slice AW nw cw]] u fun e w' => e = .returned (.bool B) ∧ Below u.heap.size u w') := Lib.hid fun u hu => by rw [← hB]; exact rstore_any (HI.out.up hu)
    cases B with
    | false =>
      clear hB
      go_enter Tryd.func4, Tryd.ntmps4
      go_wp2_with fail
      rw [HW1.out]
      refine (KSH.out _ HB1.out).mono ?_
      rintro e w2 ⟨rfl, hb⟩
      have HB2 := Lib.hid (HB1.out.trans (hb.mono HB1.out.size)); have Z2 := Lib.hid ((hb.block _ (heapsz Z1.out)).trans Z1.out)
      clear hb s0 s1 s2 s3 s4 s5 s6 s7 s8 s9 s10 s11 Z1
      obtain ⟨⟨s0, s1, s2⟩, ⟨s3, s4, s5⟩, ⟨s6, s7, s8⟩, s9, s10, s11⟩ := sto_box Z2.out
      simp only at s0 s1 s2 s3 s4 s5 s6 s7 s8 s9 s10 s11
      go_wp2_with fail
      refine (KST.out _ HB2.out).mono ?_
      rintro e w3 ⟨rfl, hb⟩
      have HB3 := Lib.hid (HB2.out.trans (hb.mono HB2.out.size)); have Z3 := Lib.hid ((hb.block _ (heapsz Z2.out)).trans Z2.out)
      clear hb s0 s1 s2 s3 s4 s5 s6 s7 s8 s9 s10 s11 Z2
      obtain ⟨⟨s0, s1, s2⟩, ⟨s3, s4, s5⟩, ⟨s6, s7, s8⟩, s9, s10, s11⟩ := sto_box Z3.out
      simp only at s0 s1 s2 s3 s4 s5 s6 s7 s8 s9 s10 s11
      go_wp2_with fail
      refine (KKN.out _ HB3.out).mono ?_
      rintro e w4 ⟨rfl, hb⟩
      have HB4 := Lib.hid (HB3.out.trans (hb.mono HB3.out.size)); have Z4 := Lib.hid ((hb.block _ (heapsz Z3.out)).trans Z3.out)
      clear hb s0 s1 s2 s3 s4 s5 s6 s7 s8 s9 s10 s11 Z3
      obtain ⟨⟨s0, s1, s2⟩, ⟨s3, s4, s5⟩, ⟨s6, s7, s8⟩, s9, s10, s11⟩ := sto_box Z4.out
      simp only at s0 s1 s2 s3 s4 s5 s6 s7 s8 s9 s10 s11
      go_wp2_with fail
      go_ret
      exact ⟨rfl, HB0.out.trans (HB4.out.mono HB0.out.size)⟩
    | true =>
      have hok := stoB_iff.1 hB
      have n6 := hok.n6
      have HOK := Lib.hid hok
      obtain ⟨C, hC⟩ : ∃ z, planOk S o = z := ⟨_, rfl⟩
      have HLS2 := HLS.out
      have KPL : Hid (∀ u, Below w1.heap.size w1 u → Calls Tryd.prog 17 #[.agg #[.int .i64 S.st.a, .int .i64 S.st.b, .int .i64 S.st.c, .int .i64 S.yd.a, .int .i64 S.yd.b, .int .i64 S.yd.c, .int .i64 S.rate, .int .i64 S.weeks, .int .i64 S.land, .slice AS ns cs, .slice AI ni ci, .slice AW nw cw], .int .i64 o] u fun e w' => e = .returned (.bool C) ∧ Below u.heap.size u w') := Lib.hid fun u hu => by rw [← hC]; exact rplan_any (X := ⟨S, AS, ns, cs, AI, ni, ci, AW, nw, cw⟩) (by rw [← HLS2]; exact n6) HLS2 o
      cases C with
      | false =>
        clear hB hC hok n6 HLS2
        go_enter Tryd.func4, Tryd.ntmps4
        go_wp2_with fail
        rw [HW1.out]
        refine (KSH.out _ HB1.out).mono ?_
        rintro e w2 ⟨rfl, hb⟩
        have HB2 := Lib.hid (HB1.out.trans (hb.mono HB1.out.size)); have Z2 := Lib.hid ((hb.block _ (heapsz Z1.out)).trans Z1.out)
        clear hb s0 s1 s2 s3 s4 s5 s6 s7 s8 s9 s10 s11 Z1
        obtain ⟨⟨s0, s1, s2⟩, ⟨s3, s4, s5⟩, ⟨s6, s7, s8⟩, s9, s10, s11⟩ := sto_box Z2.out
        simp only at s0 s1 s2 s3 s4 s5 s6 s7 s8 s9 s10 s11
        go_wp2_with fail
        refine (KST.out _ HB2.out).mono ?_
        rintro e w3 ⟨rfl, hb⟩
        have HB3 := Lib.hid (HB2.out.trans (hb.mono HB2.out.size)); have Z3 := Lib.hid ((hb.block _ (heapsz Z2.out)).trans Z2.out)
        clear hb s0 s1 s2 s3 s4 s5 s6 s7 s8 s9 s10 s11 Z2
        obtain ⟨⟨s0, s1, s2⟩, ⟨s3, s4, s5⟩, ⟨s6, s7, s8⟩, s9, s10, s11⟩ := sto_box Z3.out
        simp only at s0 s1 s2 s3 s4 s5 s6 s7 s8 s9 s10 s11
        go_wp2_with fail
        refine (KPL.out _ HB3.out).mono ?_
        rintro e w4 ⟨rfl, hb⟩
        have HB4 := Lib.hid (HB3.out.trans (hb.mono HB3.out.size)); have Z4 := Lib.hid ((hb.block _ (heapsz Z3.out)).trans Z3.out)
        clear hb s0 s1 s2 s3 s4 s5 s6 s7 s8 s9 s10 s11 Z3
        obtain ⟨⟨s0, s1, s2⟩, ⟨s3, s4, s5⟩, ⟨s6, s7, s8⟩, s9, s10, s11⟩ := sto_box Z4.out
        simp only at s0 s1 s2 s3 s4 s5 s6 s7 s8 s9 s10 s11
        go_wp2_with fail
        refine (KKN.out _ HB4.out).mono ?_
        rintro e w5 ⟨rfl, hb⟩
        have HB5 := Lib.hid (HB4.out.trans (hb.mono HB4.out.size)); have Z5 := Lib.hid ((hb.block _ (heapsz Z4.out)).trans Z4.out)
        clear hb s0 s1 s2 s3 s4 s5 s6 s7 s8 s9 s10 s11 Z4
        obtain ⟨⟨s0, s1, s2⟩, ⟨s3, s4, s5⟩, ⟨s6, s7, s8⟩, s9, s10, s11⟩ := sto_box Z5.out
        simp only at s0 s1 s2 s3 s4 s5 s6 s7 s8 s9 s10 s11
        go_wp2_with fail
        go_ret
        exact ⟨rfl, HB0.out.trans (HB5.out.mono HB0.out.size)⟩
      | true =>
        obtain ⟨D, hD⟩ : ∃ z, decide (0 ≤ i ∧ i < (ni : Int)) = z := ⟨_, rfl⟩
        have KIC : Hid (∀ u, Below w1.heap.size w1 u → Calls Tryd.prog 18 #[.agg #[.int .i64 S.st.a, .int .i64 S.st.b, .int .i64 S.st.c, .int .i64 S.yd.a, .int .i64 S.yd.b, .int .i64 S.yd.c, .int .i64 S.rate, .int .i64 S.weeks, .int .i64 S.land, .slice AS ns cs, .slice AI ni ci, .slice AW nw cw], .int .i64 i] u fun e w' => e = .returned (.bool D) ∧ Below u.heap.size u w') := Lib.hid fun u hu => by rw [← hD]; exact ice_any (X := ⟨S, AS, ns, cs, AI, ni, ci, AW, nw, cw⟩) i
        cases D with
        | false =>
          clear hB hC hok n6 HLS2 hD
          go_enter Tryd.func4, Tryd.ntmps4
          go_wp2_with fail
          rw [HW1.out]
          refine (KSH.out _ HB1.out).mono ?_
          rintro e w2 ⟨rfl, hb⟩
          have HB2 := Lib.hid (HB1.out.trans (hb.mono HB1.out.size)); have Z2 := Lib.hid ((hb.block _ (heapsz Z1.out)).trans Z1.out)
          clear hb s0 s1 s2 s3 s4 s5 s6 s7 s8 s9 s10 s11 Z1
          obtain ⟨⟨s0, s1, s2⟩, ⟨s3, s4, s5⟩, ⟨s6, s7, s8⟩, s9, s10, s11⟩ := sto_box Z2.out
          simp only at s0 s1 s2 s3 s4 s5 s6 s7 s8 s9 s10 s11
          go_wp2_with fail
          refine (KST.out _ HB2.out).mono ?_
          rintro e w3 ⟨rfl, hb⟩
          have HB3 := Lib.hid (HB2.out.trans (hb.mono HB2.out.size)); have Z3 := Lib.hid ((hb.block _ (heapsz Z2.out)).trans Z2.out)
          clear hb s0 s1 s2 s3 s4 s5 s6 s7 s8 s9 s10 s11 Z2
          obtain ⟨⟨s0, s1, s2⟩, ⟨s3, s4, s5⟩, ⟨s6, s7, s8⟩, s9, s10, s11⟩ := sto_box Z3.out
          simp only at s0 s1 s2 s3 s4 s5 s6 s7 s8 s9 s10 s11
          go_wp2_with fail
          refine (KPL.out _ HB3.out).mono ?_
          rintro e w4 ⟨rfl, hb⟩
          have HB4 := Lib.hid (HB3.out.trans (hb.mono HB3.out.size)); have Z4 := Lib.hid ((hb.block _ (heapsz Z3.out)).trans Z3.out)
          clear hb s0 s1 s2 s3 s4 s5 s6 s7 s8 s9 s10 s11 Z3
          obtain ⟨⟨s0, s1, s2⟩, ⟨s3, s4, s5⟩, ⟨s6, s7, s8⟩, s9, s10, s11⟩ := sto_box Z4.out
          simp only at s0 s1 s2 s3 s4 s5 s6 s7 s8 s9 s10 s11
          go_wp2_with fail
          refine (KIC.out _ HB4.out).mono ?_
          rintro e w5 ⟨rfl, hb⟩
          have HB5 := Lib.hid (HB4.out.trans (hb.mono HB4.out.size)); have Z5 := Lib.hid ((hb.block _ (heapsz Z4.out)).trans Z4.out)
          clear hb s0 s1 s2 s3 s4 s5 s6 s7 s8 s9 s10 s11 Z4
          obtain ⟨⟨s0, s1, s2⟩, ⟨s3, s4, s5⟩, ⟨s6, s7, s8⟩, s9, s10, s11⟩ := sto_box Z5.out
          simp only at s0 s1 s2 s3 s4 s5 s6 s7 s8 s9 s10 s11
          go_wp2_with fail
          refine (KKN.out _ HB5.out).mono ?_
          rintro e w6 ⟨rfl, hb⟩
          have HB6 := Lib.hid (HB5.out.trans (hb.mono HB5.out.size)); have Z6 := Lib.hid ((hb.block _ (heapsz Z5.out)).trans Z5.out)
          clear hb s0 s1 s2 s3 s4 s5 s6 s7 s8 s9 s10 s11 Z5
          obtain ⟨⟨s0, s1, s2⟩, ⟨s3, s4, s5⟩, ⟨s6, s7, s8⟩, s9, s10, s11⟩ := sto_box Z6.out
          simp only at s0 s1 s2 s3 s4 s5 s6 s7 s8 s9 s10 s11
          go_wp2_with fail
          go_ret
          exact ⟨rfl, HB0.out.trans (HB6.out.mono HB0.out.size)⟩
        | true =>
          obtain ⟨E, hE⟩ : ∃ z, decide (0 ≤ n ∧ n < (nw : Int)) = z := ⟨_, rfl⟩
          have KWI : Hid (∀ u, Below w1.heap.size w1 u → Calls Tryd.prog 19 #[.agg #[.int .i64 S.st.a, .int .i64 S.st.b, .int .i64 S.st.c, .int .i64 S.yd.a, .int .i64 S.yd.b, .int .i64 S.yd.c, .int .i64 S.rate, .int .i64 S.weeks, .int .i64 S.land, .slice AS ns cs, .slice AI ni ci, .slice AW nw cw], .int .i64 n] u fun e w' => e = .returned (.bool E) ∧ Below u.heap.size u w') := Lib.hid fun u hu => by rw [← hE]; exact winter_any (X := ⟨S, AS, ns, cs, AI, ni, ci, AW, nw, cw⟩) n
          cases E with
          | false =>
            clear hB hC hok n6 HLS2 hD hE
            go_enter Tryd.func4, Tryd.ntmps4
            go_wp2_with fail
            rw [HW1.out]
            refine (KSH.out _ HB1.out).mono ?_
            rintro e w2 ⟨rfl, hb⟩
            have HB2 := Lib.hid (HB1.out.trans (hb.mono HB1.out.size)); have Z2 := Lib.hid ((hb.block _ (heapsz Z1.out)).trans Z1.out)
            clear hb s0 s1 s2 s3 s4 s5 s6 s7 s8 s9 s10 s11 Z1
            obtain ⟨⟨s0, s1, s2⟩, ⟨s3, s4, s5⟩, ⟨s6, s7, s8⟩, s9, s10, s11⟩ := sto_box Z2.out
            simp only at s0 s1 s2 s3 s4 s5 s6 s7 s8 s9 s10 s11
            go_wp2_with fail
            refine (KST.out _ HB2.out).mono ?_
            rintro e w3 ⟨rfl, hb⟩
            have HB3 := Lib.hid (HB2.out.trans (hb.mono HB2.out.size)); have Z3 := Lib.hid ((hb.block _ (heapsz Z2.out)).trans Z2.out)
            clear hb s0 s1 s2 s3 s4 s5 s6 s7 s8 s9 s10 s11 Z2
            obtain ⟨⟨s0, s1, s2⟩, ⟨s3, s4, s5⟩, ⟨s6, s7, s8⟩, s9, s10, s11⟩ := sto_box Z3.out
            simp only at s0 s1 s2 s3 s4 s5 s6 s7 s8 s9 s10 s11
            go_wp2_with fail
            refine (KPL.out _ HB3.out).mono ?_
            rintro e w4 ⟨rfl, hb⟩
            have HB4 := Lib.hid (HB3.out.trans (hb.mono HB3.out.size)); have Z4 := Lib.hid ((hb.block _ (heapsz Z3.out)).trans Z3.out)
            clear hb s0 s1 s2 s3 s4 s5 s6 s7 s8 s9 s10 s11 Z3
            obtain ⟨⟨s0, s1, s2⟩, ⟨s3, s4, s5⟩, ⟨s6, s7, s8⟩, s9, s10, s11⟩ := sto_box Z4.out
            simp only at s0 s1 s2 s3 s4 s5 s6 s7 s8 s9 s10 s11
            go_wp2_with fail
            refine (KIC.out _ HB4.out).mono ?_
            rintro e w5 ⟨rfl, hb⟩
            have HB5 := Lib.hid (HB4.out.trans (hb.mono HB4.out.size)); have Z5 := Lib.hid ((hb.block _ (heapsz Z4.out)).trans Z4.out)
            clear hb s0 s1 s2 s3 s4 s5 s6 s7 s8 s9 s10 s11 Z4
            obtain ⟨⟨s0, s1, s2⟩, ⟨s3, s4, s5⟩, ⟨s6, s7, s8⟩, s9, s10, s11⟩ := sto_box Z5.out
            simp only at s0 s1 s2 s3 s4 s5 s6 s7 s8 s9 s10 s11
            go_wp2_with fail
            refine (KWI.out _ HB5.out).mono ?_
            rintro e w6 ⟨rfl, hb⟩
            have HB6 := Lib.hid (HB5.out.trans (hb.mono HB5.out.size)); have Z6 := Lib.hid ((hb.block _ (heapsz Z5.out)).trans Z5.out)
            clear hb s0 s1 s2 s3 s4 s5 s6 s7 s8 s9 s10 s11 Z5
            obtain ⟨⟨s0, s1, s2⟩, ⟨s3, s4, s5⟩, ⟨s6, s7, s8⟩, s9, s10, s11⟩ := sto_box Z6.out
            simp only at s0 s1 s2 s3 s4 s5 s6 s7 s8 s9 s10 s11
            go_wp2_with fail
            refine (KKN.out _ HB6.out).mono ?_
            rintro e w7 ⟨rfl, hb⟩
            have HB7 := Lib.hid (HB6.out.trans (hb.mono HB6.out.size)); have Z7 := Lib.hid ((hb.block _ (heapsz Z6.out)).trans Z6.out)
            clear hb s0 s1 s2 s3 s4 s5 s6 s7 s8 s9 s10 s11 Z6
            obtain ⟨⟨s0, s1, s2⟩, ⟨s3, s4, s5⟩, ⟨s6, s7, s8⟩, s9, s10, s11⟩ := sto_box Z7.out
            simp only at s0 s1 s2 s3 s4 s5 s6 s7 s8 s9 s10 s11
            go_wp2_with fail
            go_ret
            exact ⟨rfl, HB0.out.trans (HB7.out.mono HB0.out.size)⟩
          | true =>
            have hni := of_decide_eq_true hD; have hnn := of_decide_eq_true hE
            obtain ⟨m, rfl, hm⟩ := plan_nat hC
            obtain ⟨ii, rfl⟩ : ∃ k : Nat, i = (k : Int) := ⟨i.toNat, by omega⟩
            obtain ⟨nn, rfl⟩ : ∃ k : Nat, n = (k : Int) := ⟨n.toNat, by omega⟩
            have hi2 : ii < S.ices.length := by rw [HLI.out]; omega
            have hn2 : nn < S.wins.length := by rw [HLW.out]; omega
            have hwks := hok.weeks
            obtain ⟨wk, hwk⟩ : ∃ wk : Nat, S.weeks = (wk : Int) := ⟨S.weeks.toNat, by omega⟩
            have hwt : S.weeks.toNat = wk := by rw [hwk]; rfl
            have HWK := Lib.hid hwk
            rw [hwk] at hwks
            obtain ⟨ice, hig⟩ := get_of_lt (l := S.ices) (k := ii) hi2
            obtain ⟨win, hwg⟩ := get_of_lt (l := S.wins) (k := nn) hn2
            have hice : S.ices.getD ii [] = ice := by rw [List.getD_eq_getElem?_getD, hig]; rfl
            have hwin : S.wins.getD nn [] = win := by rw [List.getD_eq_getElem?_getD, hwg]; rfl
            have hland := hok.land
            obtain ⟨mi, hmi⟩ : ∃ lk : Nat, S.land = (lk : Int) := ⟨S.land.toNat, by omega⟩
            obtain ⟨mp, rfl⟩ : ∃ mp, wk = mp + 1 := ⟨wk - 1, by omega⟩
            have hw30 : mp + 1 ≤ 30 := by omega
            have hmi8 : mi ≤ 8 := by omega
            have hm6 : m ≤ 1000000 := by have h1 := hm; have h2 := two_six n6; omega
            have ns6 : ns ≤ 6 := by rw [← HLS2]; exact n6
            have HMI := Lib.hid hmi; have HICE := Lib.hid hice; have HWIN := Lib.hid hwin
            have KR : Hid (∀ u, Below w1.heap.size w1 u → Calls Tryd.prog 15 #[.agg #[.int .i64 S.st.a, .int .i64 S.st.b, .int .i64 S.st.c, .int .i64 S.yd.a, .int .i64 S.yd.b, .int .i64 S.yd.c, .int .i64 S.rate, .int .i64 S.weeks, .int .i64 S.land, .slice AS ns cs, .slice AI ni ci, .slice AW nw cw], .int .i64 (m : Int), .int .i64 (ii : Int), .int .i64 (nn : Int)] u fun e w' => Below u.heap.size u w' ∧ ∃ D A2 c2 A3 c3, e = .returned (.tuple #[.agg #[.slice (some ⟨D, 0, none⟩) ns ns, .slice A2 (mp + 1) c2, .slice A3 (mp + 1) c3], .int .i64 0]) ∧ GdsAt w' w'.heap.size (some ⟨D, 0, none⟩) (S.run m ice win).ld ∧ GdsAt w' w'.heap.size A2 (S.run m ice win).stocks ∧ GdsAt w' w'.heap.size A3 (S.run m ice win).lacks) := Lib.hid fun u hu => by
              have := run_all (HI.out.up hu) (p := m) (i := ii) (n := nn) hB hC hi2 hn2
              simp only at this; rw [hwt, hice, hwin] at this; exact this
            have HHI : Hid (ii < ni ∧ nn < nw ∧ m ≤ 1000000) := Lib.hid ⟨by omega, by omega, hm6⟩
            have hrt := HOK.out.rate
            rw [HWK.out] at KSH KST KPL KIC KWI KR
            rw [HWK.out] at s7
            clear hB hC hok n6 HLS2 hD hE hni hnn hm hi2 hn2 hwk hwt hig hwg hice hwin hland hmi hwks hm6
            go_enter Tryd.func4, Tryd.ntmps4
            go_wp2_with fail
            rw [HW1.out]
            refine (KSH.out _ HB1.out).mono ?_
            rintro e w2 ⟨rfl, hb⟩
            have HB2 := Lib.hid (HB1.out.trans (hb.mono HB1.out.size)); have Z2 := Lib.hid ((hb.block _ (heapsz Z1.out)).trans Z1.out)
            clear hb s0 s1 s2 s3 s4 s5 s6 s7 s8 s9 s10 s11 Z1
            obtain ⟨⟨s0, s1, s2⟩, ⟨s3, s4, s5⟩, ⟨s6, s7, s8⟩, s9, s10, s11⟩ := sto_box Z2.out
            simp only at s0 s1 s2 s3 s4 s5 s6 s7 s8 s9 s10 s11
            rw [HWK.out] at s7
            go_wp2_with fail
            refine (KST.out _ HB2.out).mono ?_
            rintro e w3 ⟨rfl, hb⟩
            have HB3 := Lib.hid (HB2.out.trans (hb.mono HB2.out.size)); have Z3 := Lib.hid ((hb.block _ (heapsz Z2.out)).trans Z2.out)
            clear hb s0 s1 s2 s3 s4 s5 s6 s7 s8 s9 s10 s11 Z2
            obtain ⟨⟨s0, s1, s2⟩, ⟨s3, s4, s5⟩, ⟨s6, s7, s8⟩, s9, s10, s11⟩ := sto_box Z3.out
            simp only at s0 s1 s2 s3 s4 s5 s6 s7 s8 s9 s10 s11
            rw [HWK.out] at s7
            go_wp2_with fail
            refine (KPL.out _ HB3.out).mono ?_
            rintro e w4 ⟨rfl, hb⟩
            have HB4 := Lib.hid (HB3.out.trans (hb.mono HB3.out.size)); have Z4 := Lib.hid ((hb.block _ (heapsz Z3.out)).trans Z3.out)
            clear hb s0 s1 s2 s3 s4 s5 s6 s7 s8 s9 s10 s11 Z3
            obtain ⟨⟨s0, s1, s2⟩, ⟨s3, s4, s5⟩, ⟨s6, s7, s8⟩, s9, s10, s11⟩ := sto_box Z4.out
            simp only at s0 s1 s2 s3 s4 s5 s6 s7 s8 s9 s10 s11
            rw [HWK.out] at s7
            go_wp2_with fail
            refine (KIC.out _ HB4.out).mono ?_
            rintro e w5 ⟨rfl, hb⟩
            have HB5 := Lib.hid (HB4.out.trans (hb.mono HB4.out.size)); have Z5 := Lib.hid ((hb.block _ (heapsz Z4.out)).trans Z4.out)
            clear hb s0 s1 s2 s3 s4 s5 s6 s7 s8 s9 s10 s11 Z4
            obtain ⟨⟨s0, s1, s2⟩, ⟨s3, s4, s5⟩, ⟨s6, s7, s8⟩, s9, s10, s11⟩ := sto_box Z5.out
            simp only at s0 s1 s2 s3 s4 s5 s6 s7 s8 s9 s10 s11
            rw [HWK.out] at s7
            go_wp2_with fail
            refine (KWI.out _ HB5.out).mono ?_
            rintro e w6 ⟨rfl, hb⟩
            have HB6 := Lib.hid (HB5.out.trans (hb.mono HB5.out.size)); have Z6 := Lib.hid ((hb.block _ (heapsz Z5.out)).trans Z5.out)
            clear hb s0 s1 s2 s3 s4 s5 s6 s7 s8 s9 s10 s11 Z5
            obtain ⟨⟨s0, s1, s2⟩, ⟨s3, s4, s5⟩, ⟨s6, s7, s8⟩, s9, s10, s11⟩ := sto_box Z6.out
            simp only at s0 s1 s2 s3 s4 s5 s6 s7 s8 s9 s10 s11
            rw [HWK.out] at s7
            go_wp2_with fail
            refine (KR.out _ HB6.out).mono ?_
            rintro e w7 ⟨hb, D, A2, c2, A3, c3, rfl, g1, g2, g3⟩
            have HB7 := Lib.hid (HB6.out.trans (hb.mono HB6.out.size)); have Z7 := Lib.hid ((hb.block _ (heapsz Z6.out)).trans Z6.out)
            have G1 := Lib.hid g1; have G2 := Lib.hid g2; have G3 := Lib.hid g3; clear g1 g2 g3
            clear hb s0 s1 s2 s3 s4 s5 s6 s7 s8 s9 s10 s11 Z6
            obtain ⟨⟨s0, s1, s2⟩, ⟨s3, s4, s5⟩, ⟨s6, s7, s8⟩, s9, s10, s11⟩ := sto_box Z7.out
            simp only at s0 s1 s2 s3 s4 s5 s6 s7 s8 s9 s10 s11
            rw [HWK.out] at s7
            clear s0 s1 s2 s3 s4 s5 s6 s7 s8 s9 s10 s11
            have al := (Below.refl w7.heap.size w7).alloc (Nat.le_refl _) (.cells #[.slice (some ⟨D, 0, none⟩) ns ns, .slice A2 (mp + 1) c2, .slice A3 (mp + 1) c3] 35)
            have zf := heap_alloc_new w7 (.cells #[.slice (some ⟨D, 0, none⟩) ns ns, .slice A2 (mp + 1) c2, .slice A3 (mp + 1) c3] 35)
            have ZU := Lib.hid ((al.block _ (heapsz Z7.out)).trans Z7.out)
            obtain ⟨⟨s0, s1, s2⟩, ⟨s3, s4, s5⟩, ⟨s6, s7, s8⟩, s9, s10, s11⟩ := sto_box ZU.out
            simp only at s0 s1 s2 s3 s4 s5 s6 s7 s8 s9 s10 s11
            rw [HWK.out] at s7
            have fx0 := cell_of_row _ _ 0 _ 35 (0, 0) zf
            have fx1 := cell_of_row _ _ 1 _ 35 (0, 0) zf
            have fx2 := cell_of_row _ _ 2 _ 35 (0, 0) zf
            simp at fx0 fx1 fx2
            obtain ⟨w8, hw8⟩ : ∃ W, w7.alloc (.cells #[.slice (some ⟨D, 0, none⟩) ns ns, .slice A2 (mp + 1) c2, .slice A3 (mp + 1) c3] 35) = W := ⟨_, rfl⟩
            have HW8 := Lib.hid hw8
            have HB8 := Lib.hid (HB7.out.trans (al.mono HB7.out.size)); have Z8 := ZU; have Fx_8 := Lib.hid zf; have AL8 := Lib.hid al
            rw [hw8] at HB8 Z8 Fx_8 AL8
            clear al zf ZU hw8 Z7
            have HKI : Hid (KIn ⟨⟨S, AS, ns, cs, AI, ni, ci, AW, nw, cw⟩, w.heap.size, w7.heap.size, D, A2, c2, A3, c3, m, ii, nn, ice, win, mp + 1, mi⟩ w8) := Lib.hid
              ⟨HI.out.up HB8.out, HOK.out, Z8.out, Fx_8.out, RowAt.up (k := 3) (R := gR) G1.out AL8.out, RowAt.up (k := 3) (R := gR) G2.out AL8.out, RowAt.up (k := 3) (R := gR) G3.out AL8.out, HHI.out.1, HHI.out.2.1, HHI.out.2.2, HWK.out, HMI.out, HICE.out, HWIN.out⟩
            obtain ⟨C, hC⟩ : ∃ z : KC, (⟨⟨S, AS, ns, cs, AI, ni, ci, AW, nw, cw⟩, w.heap.size, w7.heap.size, D, A2, c2, A3, c3, m, ii, nn, ice, win, mp + 1, mi⟩ : KC) = z := ⟨_, rfl⟩
            have HCE := Lib.hid hC
            rw [hC] at HKI
            have hmw : C.mw = mp + 1 := by rw [← hC]
            have HLM : Hid (∀ g ∈ (C.X.S.run C.m C.ice C.win).ld, ∀ k, k < 3 → 0 ≤ g.at k ∧ g.at k ≤ 1000) := Lib.hid fun g hg k hk => by
              obtain ⟨j, hj⟩ := List.mem_iff_getElem?.1 hg
              have h := HKI.out
              obtain ⟨hl1, hl2, _⟩ := keeps_ld h.K (p := C.m) (ice := C.ice) h.winl.2
              have hj' : j < C.X.S.ships.length := by rw [← hl1]; exact (List.getElem?_eq_some_iff.1 hj).1
              have h1 := hl2 j g k hj hk
              have h2 := inB_iff.1 (amtB_at.1 (h.K.cgB hj') k hk)
              omega
            have KRATE : Hid (landK (C.X.S.run C.m C.ice C.win).ld 3 ≤ (openN C.ice C.mi : Int) * C.X.S.rate) := Lib.hid (by
              have h := HKI.out
              have hh := keeps_rate h.K (p := C.m) (ice := C.ice) (win := C.win) (by rw [h.icel]; exact h.hmi.symm) h.winl.2
              rw [h.icel] at hh
              have e : ∀ l : List Gd, landK l 3 = ldS2 l 0 l.length + ldS2 l 1 l.length + ldS2 l 2 l.length := fun l => by
                unfold landK landK landK landK
                omega
              rw [e]; exact hh)
            have HLL : Hid ((C.X.S.run C.m C.ice C.win).ld.length = ns) := Lib.hid (by rw [HKI.out.ldl, ← hC])
            have HSB : Hid (∀ k, k < 3 → 0 ≤ C.X.S.st.at k ∧ C.X.S.st.at k ≤ 1000) := Lib.hid fun k hk => inB_iff.1 (amtB_at.1 HKI.out.K.st k hk)
            have HRA : Hid (C.X.S.rate = S.rate ∧ C.mi = mi ∧ C.ice = ice ∧ C.X.ns = ns ∧ C.mw = mp + 1) := Lib.hid (by rw [← hC]; exact ⟨rfl, rfl, rfl, rfl, rfl⟩)
            have HST : Hid (C.X.S.st = S.st) := Lib.hid (by rw [← hC])
            have HCZ : Hid (C.zb = w.heap.size ∧ C.xb = w7.heap.size ∧ C.m = m ∧ C.ii = ii ∧ C.nn = nn) := Lib.hid (by rw [← hC]; exact ⟨rfl, rfl, rfl, rfl, rfl⟩)
            have KK : Hid (∀ u, Below w8.heap.size w8 u → Calls Tryd.prog 13 #[] u fun e w' => e = .returned (.bool true) ∧ Below u.heap.size u w') := Lib.hid fun u hu => KKN.out u (HB8.out.trans (hu.mono HB8.out.size))
            clear hC hmw KSH KST KPL KIC KWI KR KKN
            go_wp2_with fail
            rw [HW8.out]
            clear s0 s1 s2 s3 s4 s5 s6 s7 s8 s9 s10 s11 fx0 fx1 fx2
            obtain ⟨wL, hwL⟩ : ∃ z, w8 = z := ⟨_, rfl⟩
            have HBL := HB8
            rw [hwL] at HKI KK HBL
            rw [hwL]
            clear hwL
            obtain ⟨e1, e2, e3, e4, e5⟩ := HCZ.out
            rw [← e1, ← e2, ← e3, ← e4, ← e5]
            clear e1 e2 e3 e4 e5
            refine (fun (h : ∀ C : Code, C = bodyKO → Code.wp Tryd.prog (Code.loop C) _ _ _) => h _ (by kernel_rfl)) ?_
            rintro _ rfl
            refine loopKO C _ HKI.out ?_
            intro wo
            intros
            rename_i ho
            have HBO := Lib.hid ho
            clear ho
            go_wp2_with fail
            go_loopw [11, 14] (fun la kk wr => ∃ k : Nat, k ≤ 3 ∧ kk = .int .i64 k ∧ la = .int .i64 (landK (C.X.S.run C.m C.ice C.win).ld k) ∧ Below wL.heap.size wL wr) (fun _ kk _ => 3 - (intOf kk).toNat)
            case atStart => exact ⟨0, by omega, rfl, rfl, HBO.out⟩
            case round =>
              obtain ⟨k, hk, rfl, rfl, hbr⟩ := hrel
              have HBR := Lib.hid hbr
              clear hbr
              by_cases hk3 : k < 3
              · have k0 : (0 : Int) ≤ (k : Int) := by omega
                have k1 : (k : Int) < 3 := by omega
                have hkin := HKI.out.up HBR.out
                obtain ⟨⟨s0, s1, s2⟩, _⟩ := sto_box hkin.z
                have hsk : wr.cell? ⟨C.zb, k, none⟩ = some (.int .i64 (C.X.S.st.at k)) := by
                  rcases (show k = 0 ∨ k = 1 ∨ k = 2 by omega) with rfl | rfl | rfl
                  · exact s0
                  · exact s1
                  · exact s2
                have hlk := landK_in HLM.out k hk
                rw [HLL.out] at hlk
                have hls := ldS2_in (l := (C.X.S.run C.m C.ice C.win).ld) (k := k) (fun g hg => HLM.out g hg k hk3) ns (by rw [HLL.out]; exact Nat.le_refl _)
                have HLS := Lib.hid hls
                have hlk2 : 0 ≤ landK (C.X.S.run C.m C.ice C.win).ld k ∧ landK (C.X.S.run C.m C.ice C.win).ld k ≤ 100000 := by
                  have : 1000 * (ns : Int) * (k : Int) ≤ 18000 := by
                    rcases (show k = 0 ∨ k = 1 ∨ k = 2 by omega) with rfl | rfl | rfl <;> omega
                  omega
                have HLK := Lib.hid hlk2
                have HSK := Lib.hid (HSB.out k hk3)
                have HLN : Hid (landK (C.X.S.run C.m C.ice C.win).ld (k + 1) = landK (C.X.S.run C.m C.ice C.win).ld k + ldS2 (C.X.S.run C.m C.ice C.win).ld k ns) := Lib.hid (by rw [← HLL.out]; rfl)
                clear hkin hlk hls hlk2 s0 s1 s2
                go_wp2_with fail
                refine (fun (h : ∀ C : Code, C = bodyKS → Code.wp Tryd.prog (Code.loop C) _ _ _) => h _ (by kernel_rfl)) ?_
                rintro _ rfl
                refine loopKS C k hk3 _ _ HLK.out HSK.out _ (HKI.out.up HBR.out) ?_
                intro ws
                intros
                rename_i hs
                have HBS := Lib.hid (HBR.out.trans (hs.mono HBR.out.size))
                clear hs hsk
                have hkin := HKI.out.up HBS.out
                obtain ⟨⟨s0, s1, s2⟩, _⟩ := sto_box hkin.z
                have hsk : ws.cell? ⟨C.zb, k, none⟩ = some (.int .i64 (C.X.S.st.at k)) := by
                  rcases (show k = 0 ∨ k = 1 ∨ k = 2 by omega) with rfl | rfl | rfl
                  · exact s0
                  · exact s1
                  · exact s2
                clear hkin s0 s1 s2
                go_wp2_with fail
                refine (fun (h : ∀ C : Code, C = bodyKW → Code.wp Tryd.prog (Code.loop C) _ _ _) => h _ (by kernel_rfl)) ?_
                rintro _ rfl
                refine loopKW C k hk3 _ (by have h1 := HSK.out; have h2 := HLS.out; rw [HRA.out.2.2.2.1]; omega) _ (HKI.out.up HBS.out) ?_
                intro wv
                intros
                rename_i hv
                have HBV := Lib.hid (HBS.out.trans (hv.mono HBS.out.size))
                clear hv hsk
                have hkin := HKI.out.up HBV.out
                obtain ⟨_, _, ⟨_, s7, _⟩, _⟩ := sto_box hkin.z
                rw [hkin.hmw, HRA.out.2.2.2.2] at s7
                obtain ⟨_, x1, _⟩ := hkin.cells
                obtain ⟨b2, o2, hA2, hst⟩ := bef_stock hkin hk3 HRA.out.2.2.2.2
                rw [hA2, HRA.out.2.2.2.2] at x1
                clear hkin hA2
                go_wp2_with fail
                exact ⟨⟨k + 1, by omega, by go_num, by rw [HLN.out, HRA.out.2.2.2.1], HBV.out⟩, by simp [intOf]; omega⟩
              · have hke : k = 3 := by omega
                subst hke
                have hkin := HKI.out.up HBR.out
                obtain ⟨_, _, ⟨s6, _, _⟩, _⟩ := sto_box hkin.z
                have hra := hkin.K.rate
                have hno := open_le C.ice C.mi
                have hmi := HRA.out.2.1
                have hle := KRATE.out
                clear hkin
                obtain ⟨LT, hLT⟩ : ∃ z, landK (C.X.S.run C.m C.ice C.win).ld 3 = z := ⟨_, rfl⟩
                obtain ⟨NO, hNO⟩ : ∃ z, openN C.ice C.mi = z := ⟨_, rfl⟩
                obtain ⟨RA, hRA⟩ : ∃ z, C.X.S.rate = z := ⟨_, rfl⟩
                rw [hLT, hNO, hRA] at hle; rw [hNO] at hno; rw [hRA] at hra s6
                rw [hLT, hNO]
                have hp := mul_in (x := (NO : Int)) (y := RA) (a := 8) (b := 3000) (by omega) hra
                have hw := w64 (n := (NO : Int) * RA) (by omega)
                clear hLT hNO hRA hno hmi hra hp hk3
                go_wp2_with fail
                refine (KK.out _ HBR.out).mono ?_
                rintro e wz ⟨rfl, hbz⟩
                have HBZ := Lib.hid (HBR.out.trans (hbz.mono HBR.out.size))
                clear hbz
                go_wp2_with fail
                go_ret
                exact ⟨rfl, HB0.out.trans ((HBL.out.trans (HBZ.out.mono HBL.out.size)).mono HB0.out.size)⟩
end Go.Proofs.YtijjkiogmlannaaDoor
