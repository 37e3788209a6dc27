/- Stores: the law of a winter more, and of an ice more. -/
import Derived.Test.YtijjkiogmlannaaDoorDJ
namespace Go.Proofs.YtijjkiogmlannaaDoor
open Go.RowKit

theorem cell_of_block {w w' : World} {b : Nat} (h : w'.heap[b]? = w.heap[b]?) {o : Nat} : w'.cell? ⟨b, o, none⟩ = w.cell? ⟨b, o, none⟩ := by simp [World.cell?, h]
theorem addr_add (b o j : Nat) : (⟨b, o, none⟩ : Addr).add j = ⟨b, o + j, none⟩ := by unfold Addr.add; split <;> simp_all
set_option maxRecDepth 100000 in
set_option maxHeartbeats 8000000 in
theorem more_law {X : SX} {w : World} (h : X.In w) (ht : Tab w) (o : Int) (A2 : Option Addr) (n2 c2 : Nat) (hard : List Gd) (A3 : Option Addr) (n3 c3 : Nat) (opn : List Bool) (hl2 : hard.length = n2) (hc2 : n2 ≤ c2) (hm2 : n2 ≤ maxLen) (hG2 : GdsAt w w.heap.size A2 hard)
    (hl3 : opn.length = n3) (hc3 : n3 ≤ c3) (hm3 : n3 ≤ maxLen) (hG3 : RowAt 1 boolR w w.heap.size A3 opn) :
    Calls Tryd.prog 11 #[X.v, .int .i64 o, .slice A2 n2 c2, .slice A3 n3 c3] w fun e w' => e = .returned (.bool true) ∧ Below w.heap.size w w' := by
  rcases X with ⟨S, AS, ns, cs, AI, ni, ci, AW, nw, cw⟩
  obtain ⟨z0, hb0⟩ := sto_new ⟨S, AS, ns, cs, AI, ni, ci, AW, nw, cw⟩ w
  obtain ⟨⟨s0, s1, s2⟩, ⟨s3, s4, s5⟩, ⟨s6, s7, s8⟩, s9, s10, s11⟩ := sto_box z0
  simp only at s0 s1 s2 s3 s4 s5 s6 s7 s8 s9 s10 s11
  obtain ⟨w1, hw1⟩ : ∃ z, w.alloc (.cells (SX.cells ⟨S, AS, ns, cs, AI, ni, ci, AW, nw, cw⟩) 28) = z := ⟨_, rfl⟩
  rw [hw1] at z0 hb0
  have hls := h.hs; have hli := h.hi; have hlw := h.hw
  simp only at hls hli hlw
  have HB0 := Lib.hid hb0; have HB1 := Lib.hid (Below.refl w1.heap.size w1); have Z1 := Lib.hid z0; have HI := Lib.hid (h.up hb0); have HW1 := Lib.hid hw1; have HT := Lib.hid (ht.next hb0); have HLS := Lib.hid hls; have HLI := Lib.hid hli; have HLW := Lib.hid hlw
  have HG2 := Lib.hid hG2; have HG3 := Lib.hid hG3; have HL2 := Lib.hid hl2; have HL3 := Lib.hid hl3
  unfold maxLen at hm2 hm3
  obtain ⟨A, hA⟩ : ∃ z, shortB ⟨S, AS, ns, cs, AI, ni, ci, AW, nw, cw⟩ = z := ⟨_, rfl⟩
  have KSH : Hid (∀ u, Below w1.heap.size w1 u → Calls Tryd.prog 12 #[.agg #[.int .i64 S.st.a, .int .i64 S.st.b, .int .i64 S.st.c, .int .i64 S.yd.a, .int .i64 S.yd.b, .int .i64 S.yd.c, .int .i64 S.rate, .int .i64 S.weeks, .int .i64 S.land, .slice AS ns cs, .slice AI ni ci, .slice AW nw cw]] u fun e w' => e = .returned (.bool A) ∧ Below u.heap.size u w') := Lib.hid fun u hu => by rw [← hA]; exact short_any (HI.out.up hu)
  have KKN : Hid (∀ u, Below w1.heap.size w1 u → Calls Tryd.prog 13 #[] u fun e w' => e = .returned (.bool true) ∧ Below u.heap.size u w') := Lib.hid fun u hu => known_any u (HT.out.next hu)
  have hW := h.W; have hIc := h.I
  simp only at hW hIc
  clear h ht z0 hb0 hw1 hls hG2 hG3 hl2 hl3 hA
  cases A with
  | false =>
    go_enter Tryd.func11, Tryd.ntmps11
    go_wp2_with fail
    rw [HW1.out]
    refine (KSH.out _ HB1.out).mono ?_
    rintro e w2 ⟨rfl, hb⟩
    have HB2 := Lib.hid (HB1.out.trans (hb.mono HB1.out.size)); have Z2 := Lib.hid ((hb.block _ (heapsz Z1.out)).trans Z1.out)
    clear hb s0 s1 s2 s3 s4 s5 s6 s7 s8 s9 s10 s11 Z1
    obtain ⟨⟨s0, s1, s2⟩, ⟨s3, s4, s5⟩, ⟨s6, s7, s8⟩, s9, s10, s11⟩ := sto_box Z2.out
    simp only at s0 s1 s2 s3 s4 s5 s6 s7 s8 s9 s10 s11
    go_wp2_with fail
    refine (KKN.out _ HB2.out).mono ?_
    rintro e w3 ⟨rfl, hb⟩
    have HB3 := Lib.hid (HB2.out.trans (hb.mono HB2.out.size)); have Z3 := Lib.hid ((hb.block _ (heapsz Z2.out)).trans Z2.out)
    clear hb s0 s1 s2 s3 s4 s5 s6 s7 s8 s9 s10 s11 Z2
    obtain ⟨⟨s0, s1, s2⟩, ⟨s3, s4, s5⟩, ⟨s6, s7, s8⟩, s9, s10, s11⟩ := sto_box Z3.out
    simp only at s0 s1 s2 s3 s4 s5 s6 s7 s8 s9 s10 s11
    go_wp2_with fail
    go_ret
    exact ⟨rfl, HB0.out.trans (HB3.out.mono HB0.out.size)⟩
  | true =>
    by_cases h40 : (n2 : Int) > 40
    · have h40b : 40 < (n2 : Int) := h40
      go_enter Tryd.func11, Tryd.ntmps11
      go_wp2_with fail
      rw [HW1.out]
      refine (KSH.out _ HB1.out).mono ?_
      rintro e w2 ⟨rfl, hb⟩
      have HB2 := Lib.hid (HB1.out.trans (hb.mono HB1.out.size)); have Z2 := Lib.hid ((hb.block _ (heapsz Z1.out)).trans Z1.out)
      clear hb s0 s1 s2 s3 s4 s5 s6 s7 s8 s9 s10 s11 Z1
      obtain ⟨⟨s0, s1, s2⟩, ⟨s3, s4, s5⟩, ⟨s6, s7, s8⟩, s9, s10, s11⟩ := sto_box Z2.out
      simp only at s0 s1 s2 s3 s4 s5 s6 s7 s8 s9 s10 s11
      go_wp2_with fail
      refine (KKN.out _ HB2.out).mono ?_
      rintro e w3 ⟨rfl, hb⟩
      have HB3 := Lib.hid (HB2.out.trans (hb.mono HB2.out.size)); have Z3 := Lib.hid ((hb.block _ (heapsz Z2.out)).trans Z2.out)
      clear hb s0 s1 s2 s3 s4 s5 s6 s7 s8 s9 s10 s11 Z2
      obtain ⟨⟨s0, s1, s2⟩, ⟨s3, s4, s5⟩, ⟨s6, s7, s8⟩, s9, s10, s11⟩ := sto_box Z3.out
      simp only at s0 s1 s2 s3 s4 s5 s6 s7 s8 s9 s10 s11
      go_wp2_with fail
      go_ret
      exact ⟨rfl, HB0.out.trans (HB3.out.mono HB0.out.size)⟩
    by_cases h15 : (n3 : Int) > 15
    · have h15b : 15 < (n3 : Int) := h15
      go_enter Tryd.func11, Tryd.ntmps11
      go_wp2_with fail
      rw [HW1.out]
      refine (KSH.out _ HB1.out).mono ?_
      rintro e w2 ⟨rfl, hb⟩
      have HB2 := Lib.hid (HB1.out.trans (hb.mono HB1.out.size)); have Z2 := Lib.hid ((hb.block _ (heapsz Z1.out)).trans Z1.out)
      clear hb s0 s1 s2 s3 s4 s5 s6 s7 s8 s9 s10 s11 Z1
      obtain ⟨⟨s0, s1, s2⟩, ⟨s3, s4, s5⟩, ⟨s6, s7, s8⟩, s9, s10, s11⟩ := sto_box Z2.out
      simp only at s0 s1 s2 s3 s4 s5 s6 s7 s8 s9 s10 s11
      go_wp2_with fail
      refine (KKN.out _ HB2.out).mono ?_
      rintro e w3 ⟨rfl, hb⟩
      have HB3 := Lib.hid (HB2.out.trans (hb.mono HB2.out.size)); have Z3 := Lib.hid ((hb.block _ (heapsz Z2.out)).trans Z2.out)
      clear hb s0 s1 s2 s3 s4 s5 s6 s7 s8 s9 s10 s11 Z2
      obtain ⟨⟨s0, s1, s2⟩, ⟨s3, s4, s5⟩, ⟨s6, s7, s8⟩, s9, s10, s11⟩ := sto_box Z3.out
      simp only at s0 s1 s2 s3 s4 s5 s6 s7 s8 s9 s10 s11
      go_wp2_with fail
      go_ret
      exact ⟨rfl, HB0.out.trans (HB3.out.mono HB0.out.size)⟩
    obtain ⟨B, hB⟩ : ∃ z, stoB S = z := ⟨_, rfl⟩
    have KST : Hid (∀ u, Below w1.heap.size w1 u → Calls Tryd.prog 16 #[.agg #[.int .i64 S.st.a, .int .i64 S.st.b, .int .i64 S.st.c, .int .i64 S.yd.a, .int .i64 S.yd.b, .int .i64 S.yd.c, .int .i64 S.rate, .int .i64 S.weeks, .int .i64 S.land, .slice AS ns cs, .slice AI ni ci, .slice AW nw cw]] u fun e w' => e = .returned (.bool B) ∧ Below u.heap.size u w') := Lib.hid fun u hu => by rw [← hB]; exact rstore_any (HI.out.up hu)
    cases B with
    | false =>
      clear hB hW hIc
      go_enter Tryd.func11, Tryd.ntmps11
      go_wp2_with fail
      rw [HW1.out]
      refine (KSH.out _ HB1.out).mono ?_
      rintro e w2 ⟨rfl, hb⟩
      have HB2 := Lib.hid (HB1.out.trans (hb.mono HB1.out.size)); have Z2 := Lib.hid ((hb.block _ (heapsz Z1.out)).trans Z1.out)
      clear hb s0 s1 s2 s3 s4 s5 s6 s7 s8 s9 s10 s11 Z1
      obtain ⟨⟨s0, s1, s2⟩, ⟨s3, s4, s5⟩, ⟨s6, s7, s8⟩, s9, s10, s11⟩ := sto_box Z2.out
      simp only at s0 s1 s2 s3 s4 s5 s6 s7 s8 s9 s10 s11
      go_wp2_with fail
      refine (KST.out _ HB2.out).mono ?_
      rintro e w3 ⟨rfl, hb⟩
      have HB3 := Lib.hid (HB2.out.trans (hb.mono HB2.out.size)); have Z3 := Lib.hid ((hb.block _ (heapsz Z2.out)).trans Z2.out)
      clear hb s0 s1 s2 s3 s4 s5 s6 s7 s8 s9 s10 s11 Z2
      obtain ⟨⟨s0, s1, s2⟩, ⟨s3, s4, s5⟩, ⟨s6, s7, s8⟩, s9, s10, s11⟩ := sto_box Z3.out
      simp only at s0 s1 s2 s3 s4 s5 s6 s7 s8 s9 s10 s11
      go_wp2_with fail
      refine (KKN.out _ HB3.out).mono ?_
      rintro e w4 ⟨rfl, hb⟩
      have HB4 := Lib.hid (HB3.out.trans (hb.mono HB3.out.size)); have Z4 := Lib.hid ((hb.block _ (heapsz Z3.out)).trans Z3.out)
      clear hb s0 s1 s2 s3 s4 s5 s6 s7 s8 s9 s10 s11 Z3
      obtain ⟨⟨s0, s1, s2⟩, ⟨s3, s4, s5⟩, ⟨s6, s7, s8⟩, s9, s10, s11⟩ := sto_box Z4.out
      simp only at s0 s1 s2 s3 s4 s5 s6 s7 s8 s9 s10 s11
      go_wp2_with fail
      go_ret
      exact ⟨rfl, HB0.out.trans (HB4.out.mono HB0.out.size)⟩
    | true =>
      have hok := stoB_iff.1 hB
      have n6 := hok.n6
      have HOK := Lib.hid hok
      obtain ⟨C, hC⟩ : ∃ z, planOk S o = z := ⟨_, rfl⟩
      have HLS2 := HLS.out
      have KPL : Hid (∀ u, Below w1.heap.size w1 u → Calls Tryd.prog 17 #[.agg #[.int .i64 S.st.a, .int .i64 S.st.b, .int .i64 S.st.c, .int .i64 S.yd.a, .int .i64 S.yd.b, .int .i64 S.yd.c, .int .i64 S.rate, .int .i64 S.weeks, .int .i64 S.land, .slice AS ns cs, .slice AI ni ci, .slice AW nw cw], .int .i64 o] u fun e w' => e = .returned (.bool C) ∧ Below u.heap.size u w') := Lib.hid fun u hu => by rw [← hC]; exact rplan_any (X := ⟨S, AS, ns, cs, AI, ni, ci, AW, nw, cw⟩) (by rw [← HLS2]; exact n6) HLS2 o
      cases C with
      | false =>
        clear hB hC hok n6 HLS2 hW hIc
        go_enter Tryd.func11, Tryd.ntmps11
        go_wp2_with fail
        rw [HW1.out]
        refine (KSH.out _ HB1.out).mono ?_
        rintro e w2 ⟨rfl, hb⟩
        have HB2 := Lib.hid (HB1.out.trans (hb.mono HB1.out.size)); have Z2 := Lib.hid ((hb.block _ (heapsz Z1.out)).trans Z1.out)
        clear hb s0 s1 s2 s3 s4 s5 s6 s7 s8 s9 s10 s11 Z1
        obtain ⟨⟨s0, s1, s2⟩, ⟨s3, s4, s5⟩, ⟨s6, s7, s8⟩, s9, s10, s11⟩ := sto_box Z2.out
        simp only at s0 s1 s2 s3 s4 s5 s6 s7 s8 s9 s10 s11
        go_wp2_with fail
        refine (KST.out _ HB2.out).mono ?_
        rintro e w3 ⟨rfl, hb⟩
        have HB3 := Lib.hid (HB2.out.trans (hb.mono HB2.out.size)); have Z3 := Lib.hid ((hb.block _ (heapsz Z2.out)).trans Z2.out)
        clear hb s0 s1 s2 s3 s4 s5 s6 s7 s8 s9 s10 s11 Z2
        obtain ⟨⟨s0, s1, s2⟩, ⟨s3, s4, s5⟩, ⟨s6, s7, s8⟩, s9, s10, s11⟩ := sto_box Z3.out
        simp only at s0 s1 s2 s3 s4 s5 s6 s7 s8 s9 s10 s11
        go_wp2_with fail
        refine (KPL.out _ HB3.out).mono ?_
        rintro e w4 ⟨rfl, hb⟩
        have HB4 := Lib.hid (HB3.out.trans (hb.mono HB3.out.size)); have Z4 := Lib.hid ((hb.block _ (heapsz Z3.out)).trans Z3.out)
        clear hb s0 s1 s2 s3 s4 s5 s6 s7 s8 s9 s10 s11 Z3
        obtain ⟨⟨s0, s1, s2⟩, ⟨s3, s4, s5⟩, ⟨s6, s7, s8⟩, s9, s10, s11⟩ := sto_box Z4.out
        simp only at s0 s1 s2 s3 s4 s5 s6 s7 s8 s9 s10 s11
        go_wp2_with fail
        refine (KKN.out _ HB4.out).mono ?_
        rintro e w5 ⟨rfl, hb⟩
        have HB5 := Lib.hid (HB4.out.trans (hb.mono HB4.out.size)); have Z5 := Lib.hid ((hb.block _ (heapsz Z4.out)).trans Z4.out)
        clear hb s0 s1 s2 s3 s4 s5 s6 s7 s8 s9 s10 s11 Z4
        obtain ⟨⟨s0, s1, s2⟩, ⟨s3, s4, s5⟩, ⟨s6, s7, s8⟩, s9, s10, s11⟩ := sto_box Z5.out
        simp only at s0 s1 s2 s3 s4 s5 s6 s7 s8 s9 s10 s11
        go_wp2_with fail
        go_ret
        exact ⟨rfl, HB0.out.trans (HB5.out.mono HB0.out.size)⟩
      | true =>
        obtain ⟨m, rfl, hm⟩ := plan_nat hC
        have hi4 := hok.i4; have hw4 := hok.w4
        obtain ⟨bw, ow, rfl, hbw, LW, hLW, hrW, hcW⟩ := rows_list hW (fun e => by rw [e] at hw4; simp at hw4)
        obtain ⟨bi, oi, rfl, hbi, LI, hLI, hrI, hcI⟩ := rows_list hIc (fun e => by rw [e] at hi4; simp at hi4)
        rw [HLW.out] at hw4 hLW
        rw [HLI.out] at hi4 hLI
        have HM := Lib.hid hm; have HRW := Lib.hid hrW; have HCW := Lib.hid hcW; have HRI := Lib.hid hrI; have HCI := Lib.hid hcI; have HBW := Lib.hid hbw; have HBI := Lib.hid hbi; have HLL := Lib.hid (And.intro hLW hLI)
        have HOW := Lib.hid (rows_one hrW); have HOI := Lib.hid (rows_one hrI)
        clear hB hC hok n6 HLS2 hW hIc hm hrW hcW hrI hcI hbw hbi hLW hLI hli hlw
        go_enter Tryd.func11, Tryd.ntmps11
        go_wp2_with fail
        rw [HW1.out]
        refine (KSH.out _ HB1.out).mono ?_
        rintro e w2 ⟨rfl, hb⟩
        have HB2 := Lib.hid (HB1.out.trans (hb.mono HB1.out.size)); have Z2 := Lib.hid ((hb.block _ (heapsz Z1.out)).trans Z1.out)
        clear hb s0 s1 s2 s3 s4 s5 s6 s7 s8 s9 s10 s11 Z1
        obtain ⟨⟨s0, s1, s2⟩, ⟨s3, s4, s5⟩, ⟨s6, s7, s8⟩, s9, s10, s11⟩ := sto_box Z2.out
        simp only at s0 s1 s2 s3 s4 s5 s6 s7 s8 s9 s10 s11
        go_wp2_with fail
        refine (KST.out _ HB2.out).mono ?_
        rintro e w3 ⟨rfl, hb⟩
        have HB3 := Lib.hid (HB2.out.trans (hb.mono HB2.out.size)); have Z3 := Lib.hid ((hb.block _ (heapsz Z2.out)).trans Z2.out)
        clear hb s0 s1 s2 s3 s4 s5 s6 s7 s8 s9 s10 s11 Z2
        obtain ⟨⟨s0, s1, s2⟩, ⟨s3, s4, s5⟩, ⟨s6, s7, s8⟩, s9, s10, s11⟩ := sto_box Z3.out
        simp only at s0 s1 s2 s3 s4 s5 s6 s7 s8 s9 s10 s11
        go_wp2_with fail
        refine (KPL.out _ HB3.out).mono ?_
        rintro e w4 ⟨rfl, hb⟩
        have HB4 := Lib.hid (HB3.out.trans (hb.mono HB3.out.size)); have Z4 := Lib.hid ((hb.block _ (heapsz Z3.out)).trans Z3.out)
        clear hb s0 s1 s2 s3 s4 s5 s6 s7 s8 s9 s10 s11 Z3
        obtain ⟨⟨s0, s1, s2⟩, ⟨s3, s4, s5⟩, ⟨s6, s7, s8⟩, s9, s10, s11⟩ := sto_box Z4.out
        simp only at s0 s1 s2 s3 s4 s5 s6 s7 s8 s9 s10 s11
        clear s0 s1 s2 s3 s4 s5 s6 s7 s8 s9 s10 s11
        go_wp2_with fail
        have HF : Hid (∀ u, Below w4.heap.size w4 u → u.heap[w.heap.size]? = some (.cells (SX.cells ⟨S, AS, ns, cs, (some ⟨bi, oi, none⟩), ni, ci, (some ⟨bw, ow, none⟩), nw, cw⟩) 28 (0, 0))) := Lib.hid fun u hu => (hu.block _ (heapsz Z4.out)).trans Z4.out
        refine wp_region_any (by kernel_rfl) (plan_guarded_any (γ := Nat × Nat) [4] (moCv w.heap.size (.agg #[.int .i64 S.st.a, .int .i64 S.st.b, .int .i64 S.st.c, .int .i64 S.yd.a, .int .i64 S.yd.b, .int .i64 S.yd.c, .int .i64 S.rate, .int .i64 S.weeks, .int .i64 S.land, .slice AS ns cs, .slice (some ⟨bi, oi, none⟩) ni ci, .slice (some ⟨bw, ow, none⟩) nw cw])) (fun done g w' => TwoA w4 (SX.cells ⟨S, AS, ns, cs, (some ⟨bi, oi, none⟩), ni, ci, (some ⟨bw, ow, none⟩), nw, cw⟩) done g w') (0, 0) (by kernel_rfl) (by kernel_rfl) (by kernel_rfl) (by kernel_rfl) ?_ ?_ ?_ ?_)
        · intro t ht
          simp only [List.mem_cons, List.not_mem_nil, or_false] at ht
          subst ht
          rfl
        · exact ⟨⟨(Below.refl w4.heap.size w4).drew, fun h => by simp at h, fun h => by simp at h⟩, ⟨(Below.refl w4.heap.size w4).drew, fun h => by simp at h, fun h => by simp at h⟩, fun h => by simp at h⟩
        · refine allOps_array ?_
          refine ⟨?_, ?_, ?_, ?_, ?_, ?_, trivial⟩
          · intro done g u hS hu hdep _
            obtain ⟨⟨s0, s1, s2⟩, ⟨s3, s4, s5⟩, ⟨s6, s7, s8⟩, s9, s10, s11⟩ := sto_box (HF.out u hS.a.keep)
            simp only at s0 s1 s2 s3 s4 s5 s6 s7 s8 s9 s10 s11
            refine quietT hS 36 rfl (by decide) (by decide) (by decide) (by decide) rfl ?_
            simp [go_sem, evalBy, moCv, s0, s1, s2, s3, s4, s5, s6, s7, s8, s9, s10, s11]
          · intro done g u hS hu hdep _
            obtain ⟨⟨s0, s1, s2⟩, ⟨s3, s4, s5⟩, ⟨s6, s7, s8⟩, s9, s10, s11⟩ := sto_box (HF.out u hS.a.keep)
            simp only at s0 s1 s2 s3 s4 s5 s6 s7 s8 s9 s10 s11
            refine quietT hS 37 rfl (by decide) (by decide) (by decide) (by decide) rfl ?_
            simp [go_sem, evalBy, moCv, s0, s1, s2, s3, s4, s5, s6, s7, s8, s9, s10, s11]
          · intro done g u hS hu hdep _
            exact alloc2 hS 9 rfl hu rfl (fun _ => rfl) (fun a b b' t ht => by unfold moCv; split <;> first | rfl | exact absurd rfl ht) (by simp [go_sem])
          · intro done g u hS hu hdep _
            exact alloc3 hS 10 rfl hu rfl (fun _ => rfl) (fun a b b' t ht => by unfold moCv; split <;> first | rfl | exact absurd rfl ht) (by simp [go_sem])
          · intro done g u hS hu hdep _
            refine store4 hS rfl (hdep ⟨2, .data⟩ (by simp) rfl) hu rfl (fun hb => ?_)
            obtain ⟨w2, h1, h2, h3, h4, h5⟩ := store12 ⟨S, AS, ns, cs, (some ⟨bi, oi, none⟩), ni, ci, (some ⟨bw, ow, none⟩), nw, cw⟩ hb
            exact ⟨w2, by rw [← h1]; exact exec_store_mid 28 _ _ rfl g.1 (SX.cells ⟨S, AS, ns, cs, (some ⟨bi, oi, none⟩), ni, ci, (some ⟨bw, ow, none⟩), nw, cw⟩) rfl (by simp [evalBy, moCv]) h2 sto_info (one12 ⟨S, AS, ns, cs, (some ⟨bi, oi, none⟩), ni, ci, (some ⟨bw, ow, none⟩), nw, cw⟩), h5, h3, h4⟩
          · intro done g u hS hu hdep _
            refine store5T hS rfl (hdep ⟨3, .data⟩ (by simp) rfl) hu rfl (fun hb => ?_)
            obtain ⟨w2, h1, h2, h3, h4, h5⟩ := store12 ⟨S, AS, ns, cs, (some ⟨bi, oi, none⟩), ni, ci, (some ⟨bw, ow, none⟩), nw, cw⟩ hb
            exact ⟨w2, by rw [← h1]; exact exec_store_mid 28 _ _ rfl g.2 (SX.cells ⟨S, AS, ns, cs, (some ⟨bi, oi, none⟩), ni, ci, (some ⟨bw, ow, none⟩), nw, cw⟩) rfl (by simp [evalBy, moCv]) h2 sto_info (one12 ⟨S, AS, ns, cs, (some ⟨bi, oi, none⟩), ni, ci, (some ⟨bw, ow, none⟩), nw, cw⟩), h5, h3, h4⟩
        · intro g u hS
          obtain ⟨g9, g10⟩ := g
          have hk := hS.a.keep
          obtain ⟨p9, z9⟩ := hS.a.box (by decide)
          obtain ⟨p10, z10⟩ := hS.b.box (by decide)
          rw [if_pos (by decide)] at z9 z10
          have hne := hS.ne (by decide) (by decide)
          simp only at p9 z9 p10 z10 hne
          have HK := Lib.hid hk; have HZ9 := Lib.hid z9; have HZ10 := Lib.hid z10; have HP9 := Lib.hid p9; have HP10 := Lib.hid p10; have HNE := Lib.hid hne
          have HNW : Hid (∀ j v, LW[j]? = some v → u.cell? ((⟨bw, ow, none⟩ : Addr).add j) = some v) := Lib.hid fun j v hv => by
            rw [addr_add]
            have hwb : Below w.heap.size w u := HB0.out.trans ((HB4.out.trans (hk.mono HB4.out.size)).mono HB0.out.size)
            exact ((bcell hwb).1 _ _ HBW.out).trans (HCW.out j v hv)
          obtain ⟨⟨s0, s1, s2⟩, ⟨s3, s4, s5⟩, ⟨s6, s7, s8⟩, s9, s10, s11⟩ := sto_box (HF.out u hk)
          simp only at s0 s1 s2 s3 s4 s5 s6 s7 s8 s9 s10 s11
          clear hS hk z9 z10 p9 p10 hne
          simp [putAll, Act.put, moCv]
          obtain ⟨i0, hi0, hz0, hz1, hz2⟩ := info_parts row_info33
          obtain ⟨j0, hj0, jz0, jz1, jz2⟩ := info_parts row_info42
          go_wp2_with (first
            | (at_builtin
               refine wpList_append_own_at _ rfl _ _ 26 rfl u.heap.size 33 i0 _ 1 24 Tryd.underlying26 hi0 hz0 hz1 hz2 rfl (by decide) _ _ _ rfl (World.ownsRow_nil _ _ _ _) ⟨bw, ow, none⟩ nw cw LW rfl (by rw [HLL.out.1]; omega) HNW.out HOW.out (by unfold maxLen; omega) (by omega) (Nat.le_refl _) ?_
               intro v1 w6 hown6 hgr6 hnil6 hat6)
            | (at_builtin
               refine wpList_append_own_at _ rfl _ _ 26 rfl u.heap.size 33 i0 _ 1 24 Tryd.underlying26 hi0 hz0 hz1 hz2 rfl (by decide) _ _ _ rfl (hown6.alloc _) ⟨w6.heap.size, 0, none⟩ 1 1 [.slice A2 n2 c2] rfl rfl (Go.cell_one_new _ _ _) (by simp [Value.oneCell']) (by unfold maxLen; omega) (by omega) (by have := hgr6.size; simp; omega) ?_
               intro v2 w7 hown7 hgr7 hnil7 hat7
               rw [Nat.zero_add, List.nil_append] at hown7
               obtain ⟨q, cq, rfl, hq⟩ := hown7.form (by omega)
               have hB7 : Below u.heap.size u w7 := (((Below.refl u.heap.size u).grown hgr6 (Nat.le_refl _) (fun k e => by cases e)).alloc (by have := hgr6.size; omega) _).grown hgr7 (by have := hgr6.size; simp; omega) (fun k e => (hown6.lt k e).1)
               have y9 := (hB7.block _ (heapsz HZ9.out)).trans HZ9.out
               have k11 := cell_of_row w7 g9 11 _ 28 (0, 0) y9
               simp at k11
               have f11 : w7.frozen? ⟨g9, 11, none⟩ = false := by simp [World.frozen?, y9]
               obtain ⟨w8, hw8⟩ : ∃ z, w7.setCell ⟨g9, 11, none⟩ (.slice (some ⟨q, 0, none⟩) (nw + 1) cq) = z := ⟨_, rfl⟩
               have E8 := Lib.hid (show ∀ j, j ≠ g9 → w8.heap[j]? = w7.heap[j]? from fun j hj => by rw [← hw8]; exact Below.heap_setCell _ _ _ _ hj)
               have B9 : Hid (w8.heap[g9]? = some (.cells (SX.cells ⟨⟨S.st, S.yd, S.rate, S.weeks, S.land, S.ships, S.ices, S.wins ++ [hard]⟩, AS, ns, cs, some ⟨bi, oi, none⟩, ni, ci, some ⟨q, 0, none⟩, nw + 1, cq⟩) 28 (0, 0))) := Lib.hid (by have := blk_set y9 11 (.slice (some ⟨q, 0, none⟩) (nw + 1) cq); rw [← hw8]; simpa using this)
               have HB8 := Lib.hid (show Below w4.heap.size w4 w8 by rw [← hw8]; exact (HK.out.trans (hB7.mono HK.out.size)).setCell (p := ⟨g9, 11, none⟩) HP9.out _)
               have HS8 : Hid (w8.heap.size = w7.heap.size) := Lib.hid (by rw [← hw8]; simp [World.setCell])
               have B10 : Hid (w8.heap[g10]? = some (.cells (SX.cells ⟨S, AS, ns, cs, (some ⟨bi, oi, none⟩), ni, ci, (some ⟨bw, ow, none⟩), nw, cw⟩) 28 (0, 0))) := Lib.hid ((E8.out g10 (Ne.symm HNE.out)).trans ((hB7.block _ (heapsz HZ10.out)).trans HZ10.out))
               have HNI : Hid (∀ j v, LI[j]? = some v → w8.cell? ((⟨bi, oi, none⟩ : Addr).add j) = some v) := Lib.hid fun j v hv => by
                 rw [addr_add]
                 have hwb : Below w.heap.size w w8 := HB0.out.trans ((HB4.out.trans (HB8.out.mono HB4.out.size)).mono HB0.out.size)
                 exact ((bcell hwb).1 _ _ HBI.out).trans (HCI.out j v hv)
               have HBB7 := Lib.hid hB7; have HOWN7 := Lib.hid hown7; have HQ := Lib.hid hq
               obtain ⟨_, _, _, _, r10, _⟩ := sto_box (HF.out w8 HB8.out)
               simp only at r10
               clear hB7 hown7 hq y9)
            | (at_builtin
               refine wpList_append_own_at _ rfl _ _ 25 rfl w8.heap.size 42 j0 _ 1 24 Tryd.underlying25 hj0 jz0 jz1 jz2 rfl (by decide) _ _ _ rfl (World.ownsRow_nil _ _ _ _) ⟨bi, oi, none⟩ ni ci LI rfl (by rw [HLL.out.2]; omega) HNI.out HOI.out (by unfold maxLen; omega) (by omega) (Nat.le_refl _) ?_
               intro v3 w9 hown9 hgr9 hnil9 hat9)
            | (at_builtin
               refine wpList_append_own_at _ rfl _ _ 25 rfl w8.heap.size 42 j0 _ 1 24 Tryd.underlying25 hj0 jz0 jz1 jz2 rfl (by decide) _ _ _ rfl (hown9.alloc _) ⟨w9.heap.size, 0, none⟩ 1 1 [.slice A3 n3 c3] rfl rfl (Go.cell_one_new _ _ _) (by simp [Value.oneCell']) (by unfold maxLen; omega) (by omega) (by have := hgr9.size; simp; omega) ?_
               intro v4 w10 hown10 hgr10 hnil10 hat10
               rw [Nat.zero_add, List.nil_append] at hown10
               obtain ⟨q2, cq2, rfl, hq2⟩ := hown10.form (by omega)
               have hB10 : Below w8.heap.size w8 w10 := (((Below.refl w8.heap.size w8).grown hgr9 (Nat.le_refl _) (fun k e => by cases e)).alloc (by have := hgr9.size; omega) _).grown hgr10 (by have := hgr9.size; simp; omega) (fun k e => (hown9.lt k e).1)
               have y10 := (hB10.block _ (heapsz B10.out)).trans B10.out
               have k10 := cell_of_row w10 g10 10 _ 28 (0, 0) y10
               simp at k10
               have f10 : w10.frozen? ⟨g10, 10, none⟩ = false := by simp [World.frozen?, y10]
               obtain ⟨w11, hw11⟩ : ∃ z, w10.setCell ⟨g10, 10, none⟩ (.slice (some ⟨q2, 0, none⟩) (ni + 1) cq2) = z := ⟨_, rfl⟩
               have E11 := Lib.hid (show ∀ j, j ≠ g10 → w11.heap[j]? = w10.heap[j]? from fun j hj => by rw [← hw11]; exact Below.heap_setCell _ _ _ _ hj)
               have C10 : Hid (w11.heap[g10]? = some (.cells (SX.cells ⟨⟨S.st, S.yd, S.rate, S.weeks, S.land, S.ships, S.ices ++ [opn], S.wins⟩, AS, ns, cs, some ⟨q2, 0, none⟩, ni + 1, cq2, some ⟨bw, ow, none⟩, nw, cw⟩) 28 (0, 0))) := Lib.hid (by have := blk_set y10 10 (.slice (some ⟨q2, 0, none⟩) (ni + 1) cq2); rw [← hw11]; simpa using this)
               have C9 : Hid (w11.heap[g9]? = some (.cells (SX.cells ⟨⟨S.st, S.yd, S.rate, S.weeks, S.land, S.ships, S.ices, S.wins ++ [hard]⟩, AS, ns, cs, some ⟨bi, oi, none⟩, ni, ci, some ⟨q, 0, none⟩, nw + 1, cq⟩) 28 (0, 0))) := Lib.hid ((E11.out g9 HNE.out).trans ((hB10.block _ (heapsz B9.out)).trans B9.out))
               have HB11 := Lib.hid (show Below w4.heap.size w4 w11 by rw [← hw11]; exact (HB8.out.trans (hB10.mono HB8.out.size)).setCell (p := ⟨g10, 10, none⟩) HP10.out _)
               have HS11 : Hid (w11.heap.size = w10.heap.size) := Lib.hid (by rw [← hw11]; simp [World.setCell])
               have HBB10 := Lib.hid hB10; have HOWN10 := Lib.hid hown10; have HQ2 := Lib.hid hq2
               clear hB10 hown10 hq2 y10
               obtain ⟨⟨t0, t1, t2⟩, ⟨t3, t4, t5⟩, ⟨t6, t7, t8⟩, t9, t10, t11⟩ := sto_box (HF.out w11 HB11.out)
               obtain ⟨⟨r0, r1, r2⟩, ⟨r3, r4, r5⟩, ⟨r6, r7, r8⟩, r9, r12, r11⟩ := sto_box C9.out
               simp only at t0 t1 t2 t3 t4 t5 t6 t7 t8 t9 t10 t11 r0 r1 r2 r3 r4 r5 r6 r7 r8 r9 r12 r11)
            | fail)
          try rw [hw11]
          have hw_all : Below w.heap.size w w11 := HB0.out.trans ((HB4.out.trans (HB11.out.mono HB4.out.size)).mono HB0.out.size)
          have hX := (HI.out.up HB4.out).up HB11.out
          have g9lt : g9 < u.heap.size := heapsz HZ9.out
          have g10lt : g10 < w8.heap.size := heapsz B10.out
          have hX2 : SX.In ⟨⟨S.st, S.yd, S.rate, S.weeks, S.land, S.ships, S.ices, S.wins ++ [hard]⟩, AS, ns, cs, some ⟨bi, oi, none⟩, ni, ci, some ⟨q, 0, none⟩, nw + 1, cq⟩ w11 := by
            refine ⟨hX.hs, hX.hi, ?_, hX.s2, hX.i2, ?_, hX.P, hX.I, ?_⟩
            · show (S.wins ++ [hard]).length = nw + 1; rw [List.length_append, HLW.out]; rfl
            · show nw + 1 ≤ maxLen; unfold maxLen; omega
            · refine grid_more (w := w) (L := LW) (A2 := A2) (c2 := c2) (q := q) (by rw [HLL.out.1, HLW.out]) HRW.out hw_all (by have := HQ.out.2; have := HS8.out; have := HBB10.out.size; have := HS11.out; omega) (fun j v hv => ?_) HG2.out (by rw [HL2.out]; unfold maxLen; omega) (by rw [HL2.out]; exact hc2)
              rw [HL2.out] at hv
              have e1 := HOWN7.out.cells (g := q) rfl j v hv
              rw [addr_add, Nat.zero_add] at e1
              have e2 : w8.cell? ⟨q, j, none⟩ = w7.cell? ⟨q, j, none⟩ := cell_of_block (E8.out q (by have := HQ.out.1; omega))
              have e3 : w10.cell? ⟨q, j, none⟩ = w8.cell? ⟨q, j, none⟩ := (bcell HBB10.out).1 _ _ (by have := HQ.out.2; have := HS8.out; omega)
              have e4 : w11.cell? ⟨q, j, none⟩ = w10.cell? ⟨q, j, none⟩ := cell_of_block (E11.out q (by have := HQ.out.1; have := heapsz HZ10.out; omega))
              exact e4.trans (e3.trans (e2.trans e1))
          have hX3 : SX.In ⟨⟨S.st, S.yd, S.rate, S.weeks, S.land, S.ships, S.ices ++ [opn], S.wins⟩, AS, ns, cs, some ⟨q2, 0, none⟩, ni + 1, cq2, some ⟨bw, ow, none⟩, nw, cw⟩ w11 := by
            refine ⟨hX.hs, ?_, hX.hw, hX.s2, ?_, hX.w2, hX.P, ?_, hX.W⟩
            · show (S.ices ++ [opn]).length = ni + 1; rw [List.length_append, HLI.out]; rfl
            · show ni + 1 ≤ maxLen; unfold maxLen; omega
            · refine grid_more (w := w) (L := LI) (A2 := A3) (c2 := c3) (q := q2) (by rw [HLL.out.2, HLI.out]) HRI.out hw_all (by have := HQ2.out.2; have := HS11.out; omega) (fun j v hv => ?_) HG3.out (by rw [HL3.out]; unfold maxLen; omega) (by rw [HL3.out]; exact hc3)
              rw [HL3.out] at hv
              have e1 := HOWN10.out.cells (g := q2) rfl j v hv
              rw [addr_add, Nat.zero_add] at e1
              have e4 : w11.cell? ⟨q2, j, none⟩ = w10.cell? ⟨q2, j, none⟩ := cell_of_block (E11.out q2 (by have := HQ2.out.1; omega))
              exact e4.trans e1
          have HX11 := Lib.hid hX; have HX3 := Lib.hid hX3
          refine (harder_any hX hX2 HOK.out ⟨⟨rfl, rfl, rfl, rfl, rfl, rfl⟩, ⟨[], by simp⟩, ⟨[hard], rfl⟩⟩ HM.out).mono ?_
          rintro e w12 ⟨rfl, hb⟩
          have HB12 := Lib.hid (HB11.out.trans (hb.mono HB11.out.size)); have HX12 := Lib.hid (HX11.out.up hb); have HX3b := Lib.hid (HX3.out.up hb); have D10 := Lib.hid ((hb.block _ (heapsz C10.out)).trans C10.out)
          clear hb hX hX2 hX3 hw_all t0 t1 t2 t3 t4 t5 t6 t7 t8 t9 t10 t11 r0 r1 r2 r3 r4 r5 r6 r7 r8 r9 r12 r11
          obtain ⟨⟨t0, t1, t2⟩, ⟨t3, t4, t5⟩, ⟨t6, t7, t8⟩, t9, t10, t11⟩ := sto_box (HF.out w12 HB12.out)
          obtain ⟨⟨r0, r1, r2⟩, ⟨r3, r4, r5⟩, ⟨r6, r7, r8⟩, r9, r12, r11⟩ := sto_box D10.out
          simp only at t0 t1 t2 t3 t4 t5 t6 t7 t8 t9 t10 t11 r0 r1 r2 r3 r4 r5 r6 r7 r8 r9 r12 r11
          go_wp2_with fail
          refine (harder_any HX12.out HX3b.out HOK.out ⟨⟨rfl, rfl, rfl, rfl, rfl, rfl⟩, ⟨[opn], rfl⟩, ⟨[], by simp⟩⟩ HM.out).mono ?_
          rintro e w13 ⟨rfl, hb⟩
          have HB13 := Lib.hid (HB12.out.trans (hb.mono HB12.out.size))
          clear hb
          go_wp2_with fail
          refine (KKN.out _ (HB4.out.trans (HB13.out.mono HB4.out.size))).mono ?_
          rintro e w14 ⟨rfl, hb⟩
          have HB14 := Lib.hid (HB13.out.trans (hb.mono HB13.out.size))
          clear hb
          go_wp2_with fail
          go_ret
          exact ⟨rfl, HB0.out.trans ((HB4.out.trans (HB14.out.mono HB4.out.size)).mono HB0.out.size)⟩
end Go.Proofs.YtijjkiogmlannaaDoor
