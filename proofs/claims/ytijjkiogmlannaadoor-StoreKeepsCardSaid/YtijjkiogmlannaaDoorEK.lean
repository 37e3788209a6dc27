/- Stores: the law of what happens with any plan. -/
import Derived.Test.YtijjkiogmlannaaDoorEJ
import Derived.Test.YtijjkiogmlannaaDoorEE
namespace Go.Proofs.YtijjkiogmlannaaDoor
open Go.RowKit

/-- What the statements' own run tells. -/
def rrF (R : Rn) : Nat → Value → World → Prop := fun i v w => i = 8 → ∃ t : Tr, v = t.v ∧ t.In w ∧ t.l1 = R.ld ∧ t.l2 = R.stocks ∧ t.l3 = R.lacks
theorem rrF_keep (R : Rn) (i : Nat) (v : Value) (w1 w2 : World) (h : rrF R i v w1) (hb : Below w1.heap.size w1 w2) : rrF R i v w2 := fun e => by
  obtain ⟨t, h1, h2, h3⟩ := h e
  exact ⟨t, h1, h2.up hb, h3⟩
theorem rrF_other {R : Rn} {i : Nat} {v : Value} {w : World} (h : i ≠ 8) : rrF R i v w := fun e => absurd e h
def rrCv (zb xb : Nat) (sv tv : Value) (p i n : Int) : Tmp → Value
  | 1 => .int .i64 p
  | 2 => .int .i64 i
  | 3 => .int .i64 n
  | 4 => .pointer (some ⟨zb, 0, none⟩)
  | 10 => .pointer (some ⟨xb, 0, none⟩)
  | 11 => .int .i64 0
  | 73 => .int .i64 0
  | 74 => .bool true
  | 75 => .bool true
  | 76 => tv
  | 77 => sv
  | 78 => .int .i64 p
  | 79 => .int .i64 i
  | 80 => .int .i64 n
  | 82 => .bool true
  | 83 => .bool true
  | 84 => .bool true
  | 85 => .bool true
  | 86 => .bool true
  | 8 => .bool true
  | _ => undef
theorem rgood {X : SX} {w : World} (h : X.In w) {p i n : Nat} (hB : stoB X.S = true) (hC : planOk X.S (p : Int) = true) (hi : i < X.S.ices.length) (hn : n < X.S.wins.length) : Calls Tryd.prog 15 #[X.v, .int .i64 (p : Int), .int .i64 (i : Int), .int .i64 (n : Int)] w fun e w' => Below w.heap.size w w' ∧
    ∃ t : Tr, e = .returned (.tuple #[t.v, .int .i64 0]) ∧ t.In w' ∧ t.l1 = (X.S.run p (X.S.ices.getD i []) (X.S.wins.getD n [])).ld ∧ t.l2 = (X.S.run p (X.S.ices.getD i []) (X.S.wins.getD n [])).stocks ∧ t.l3 = (X.S.run p (X.S.ices.getD i []) (X.S.wins.getD n [])).lacks := by
  have hok := stoB_iff.1 hB
  have hw : ∀ g ∈ X.S.wins.getD n [], amtB 1000 g = true := by
    obtain ⟨x, hx⟩ := get_of_lt hn
    rw [List.getD_eq_getElem?_getD, hx]
    exact (hok.wins x (List.mem_of_getElem? hx)).2
  have hl := (runN_ok hok (plan := p) (ice := X.S.ices.getD i []) hw X.S.weeks.toNat).ld.len
  have hw30 := hok.weeks
  refine (run_all h hB hC hi hn).mono fun e w' hh => ?_
  obtain ⟨hb, D, A2, c2, A3, c3, he, g1, g2, g3⟩ := hh
  refine ⟨hb, ⟨some ⟨D, 0, none⟩, X.ns, X.ns, _, A2, X.S.weeks.toNat, c2, _, A3, X.S.weeks.toNat, c3, _⟩, he, ⟨?_, h.s2, g1, stocks_len, by show X.S.weeks.toNat ≤ maxLen; unfold maxLen; omega, g2, lacks_len, by show X.S.weeks.toNat ≤ maxLen; unfold maxLen; omega, g3⟩, rfl, rfl, rfl⟩
  rw [← h.hs]; exact hl
theorem rrgood {X : SX} {w : World} (h : X.In w) (K : X.S.Ok) (p i n : Nat) (hp : p ≤ 1000000) (hi : i < X.ni) (hn : n < X.nw) : Calls Tryd.prog 21 #[X.v, .int .i64 (p : Int), .int .i64 (i : Int), .int .i64 (n : Int)] w fun e w' =>
    ∃ t : Tr, e = .returned t.v ∧ Below w.heap.size w w' ∧ t.In w' ∧ t.l1 = (X.S.run p (X.S.ices.getD i []) (X.S.wins.getD n [])).ld ∧ t.l2 = (X.S.run p (X.S.ices.getD i []) (X.S.wins.getD n [])).stocks ∧ t.l3 = (X.S.run p (X.S.ices.getD i []) (X.S.wins.getD n [])).lacks := by
  have hw : ∀ g ∈ X.S.wins.getD n [], amtB 1000 g = true := by
    obtain ⟨x, hx⟩ := get_of_lt (l := X.S.wins) (k := n) (by rw [h.hw]; exact hn)
    rw [List.getD_eq_getElem?_getD, hx]
    exact (K.wins x (List.mem_of_getElem? hx)).2
  have hl := (runN_ok K (plan := p) (ice := X.S.ices.getD i []) hw X.S.weeks.toNat).ld.len
  have hw30 := K.weeks
  refine (rrun_any h K p i n hp hi hn).mono fun e w' hh => ?_
  obtain ⟨D, A2, c2, A3, c3, he, hb, g1, g2, g3⟩ := hh
  refine ⟨⟨some ⟨D, 0, none⟩, X.ns, X.ns, _, A2, _, c2, _, A3, _, c3, _⟩, he, hb, ⟨?_, h.s2, g1, rfl, by show (X.S.run _ _ _).stocks.length ≤ maxLen; rw [stocks_len]; unfold maxLen; omega, g2, rfl, by show (X.S.run _ _ _).lacks.length ≤ maxLen; rw [lacks_len]; unfold maxLen; omega, g3⟩, rfl, rfl, rfl⟩
  rw [← h.hs]; exact hl
def noTr : Tr := ⟨none, 0, 0, [], none, 0, 0, [], none, 0, 0, []⟩
theorem noTr_in (w : World) : noTr.In w := ⟨rfl, Nat.zero_le _, fun h => absurd rfl h, rfl, Nat.zero_le _, fun h => absurd rfl h, rfl, Nat.zero_le _, fun h => absurd rfl h⟩
set_option maxRecDepth 100000 in
set_option maxHeartbeats 8000000 in
theorem runs_law {X : SX} {w : World} (h : X.In w) (ht : Tab w) (o i n : Int) : Calls Tryd.prog 3 #[X.v, .int .i64 o, .int .i64 i, .int .i64 n] w fun e w' => e = .returned (.bool true) ∧ Below w.heap.size w w' := by
  rcases X with ⟨S, AS, ns, cs, AI, ni, ci, AW, nw, cw⟩
  obtain ⟨z0, hb0⟩ := sto_new ⟨S, AS, ns, cs, AI, ni, ci, AW, nw, cw⟩ w
  obtain ⟨⟨s0, s1, s2⟩, ⟨s3, s4, s5⟩, ⟨s6, s7, s8⟩, s9, s10, s11⟩ := sto_box z0
  simp only at s0 s1 s2 s3 s4 s5 s6 s7 s8 s9 s10 s11
  obtain ⟨w1, hw1⟩ : ∃ z, w.alloc (.cells (SX.cells ⟨S, AS, ns, cs, AI, ni, ci, AW, nw, cw⟩) 28) = z := ⟨_, rfl⟩
  rw [hw1] at z0 hb0
  have hls := h.hs; have hli := h.hi; have hlw := h.hw
  simp only at hls hli hlw
  have HB0 := Lib.hid hb0; have HB1 := Lib.hid (Below.refl w1.heap.size w1); have Z1 := Lib.hid z0; have HI := Lib.hid (h.up hb0); have HW1 := Lib.hid hw1; have HT := Lib.hid (ht.next hb0); have HLS := Lib.hid hls; have HLI := Lib.hid hli; have HLW := Lib.hid hlw
  obtain ⟨A, hA⟩ : ∃ z, shortB ⟨S, AS, ns, cs, AI, ni, ci, AW, nw, cw⟩ = z := ⟨_, rfl⟩
  have KSH : Hid (∀ u, Below w1.heap.size w1 u → Calls Tryd.prog 12 #[.agg #[.int .i64 S.st.a, .int .i64 S.st.b, .int .i64 S.st.c, .int .i64 S.yd.a, .int .i64 S.yd.b, .int .i64 S.yd.c, .int .i64 S.rate, .int .i64 S.weeks, .int .i64 S.land, .slice AS ns cs, .slice AI ni ci, .slice AW nw cw]] u fun e w' => e = .returned (.bool A) ∧ Below u.heap.size u w') := Lib.hid fun u hu => by rw [← hA]; exact short_any (HI.out.up hu)
  have KKN : Hid (∀ u, Below w1.heap.size w1 u → Calls Tryd.prog 13 #[] u fun e w' => e = .returned (.bool true) ∧ Below u.heap.size u w') := Lib.hid fun u hu => known_any u (HT.out.next hu)
  clear h ht z0 hb0 hw1 hls hli hlw hA
  cases A with
  | false =>
    go_enter Tryd.func3, Tryd.ntmps3
    go_wp2_with fail
    rw [HW1.out]
    refine (KSH.out _ HB1.out).mono ?_
    rintro e w2 ⟨rfl, hb⟩
    have HB2 := Lib.hid (HB1.out.trans (hb.mono HB1.out.size)); have Z2 := Lib.hid ((hb.block _ (heapsz Z1.out)).trans Z1.out)
    clear hb s0 s1 s2 s3 s4 s5 s6 s7 s8 s9 s10 s11 Z1
    obtain ⟨⟨s0, s1, s2⟩, ⟨s3, s4, s5⟩, ⟨s6, s7, s8⟩, s9, s10, s11⟩ := sto_box Z2.out
    simp only at s0 s1 s2 s3 s4 s5 s6 s7 s8 s9 s10 s11
    go_wp2_with fail
    refine (KKN.out _ HB2.out).mono ?_
    rintro e w3 ⟨rfl, hb⟩
    have HB3 := Lib.hid (HB2.out.trans (hb.mono HB2.out.size)); have Z3 := Lib.hid ((hb.block _ (heapsz Z2.out)).trans Z2.out)
    clear hb s0 s1 s2 s3 s4 s5 s6 s7 s8 s9 s10 s11 Z2
    obtain ⟨⟨s0, s1, s2⟩, ⟨s3, s4, s5⟩, ⟨s6, s7, s8⟩, s9, s10, s11⟩ := sto_box Z3.out
    simp only at s0 s1 s2 s3 s4 s5 s6 s7 s8 s9 s10 s11
    go_wp2_with fail
    go_ret
    exact ⟨rfl, HB0.out.trans (HB3.out.mono HB0.out.size)⟩
  | true =>
    obtain ⟨B, hB⟩ : ∃ z, stoB S = z := ⟨_, rfl⟩
    have KST : Hid (∀ u, Below w1.heap.size w1 u → Calls Tryd.prog 16 #[.agg #[.int .i64 S.st.a, .int .i64 S.st.b, .int .i64 S.st.c, .int .i64 S.yd.a, .int .i64 S.yd.b, .int .i64 S.yd.c, .int .i64 S.rate, .int .i64 S.weeks, .int .i64 S.land, .slice AS ns cs, .slice AI ni ci, .slice AW nw cw]] u fun e w' => e = .returned (.bool B) ∧ Below u.heap.size u w') := Lib.hid fun u hu => by rw [← hB]; exact rstore_any (HI.out.up hu)
    have KCH : Hid (∀ u, Below w1.heap.size w1 u → Calls Tryd.prog 14 #[.agg #[.int .i64 S.st.a, .int .i64 S.st.b, .int .i64 S.st.c, .int .i64 S.yd.a, .int .i64 S.yd.b, .int .i64 S.yd.c, .int .i64 S.rate, .int .i64 S.weeks, .int .i64 S.land, .slice AS ns cs, .slice AI ni ci, .slice AW nw cw]] u fun e w' => e = .returned (.int .i64 (if B then 0 else 2)) ∧ Below u.heap.size u w') := Lib.hid fun u hu => by rw [← hB]; exact Check_any (HI.out.up hu)
    have KRN : askB S o i n = false → Hid (∀ u, Below w1.heap.size w1 u → Calls Tryd.prog 15 #[.agg #[.int .i64 S.st.a, .int .i64 S.st.b, .int .i64 S.st.c, .int .i64 S.yd.a, .int .i64 S.yd.b, .int .i64 S.yd.c, .int .i64 S.rate, .int .i64 S.weeks, .int .i64 S.land, .slice AS ns cs, .slice AI ni ci, .slice AW nw cw], .int .i64 o, .int .i64 i, .int .i64 n] u fun e w' => e = .returned (.tuple #[.agg #[.slice none 0 0, .slice none 0 0, .slice none 0 0], .int .i64 2]) ∧ Below u.heap.size u w') := fun hask => Lib.hid fun u hu => by
      refine (Run_any (HI.out.up hu) o i n).mono fun e w' hh => ?_
      simp only at hh
      rcases hh with ⟨hb, ⟨_, he⟩ | ⟨hk, _⟩⟩
      · exact ⟨he, hb⟩
      · rw [hask] at hk; cases hk
    have KSA : Hid (∀ u, Below w1.heap.size w1 u → Calls Tryd.prog 20 #[.agg #[.slice none 0 0, .slice none 0 0, .slice none 0 0], .agg #[.slice none 0 0, .slice none 0 0, .slice none 0 0]] u fun e w' => e = .returned (.bool true) ∧ Below u.heap.size u w') := Lib.hid fun u _ => by
      have := sameTrace_any (s := noTr) (t := noTr) (noTr_in u) (noTr_in u)
      exact this
    cases B with
    | false =>
      have KRU := KRN (by unfold askB; rw [hB]; rfl)
      clear hB KRN
      simp only [Bool.false_eq_true, if_false] at KCH
      go_enter Tryd.func3, Tryd.ntmps3
      go_wp2_with fail
      rw [HW1.out]
      refine (KSH.out _ HB1.out).mono ?_
      rintro e w2 ⟨rfl, hb⟩
      have HB2 := Lib.hid (HB1.out.trans (hb.mono HB1.out.size)); have Z2 := Lib.hid ((hb.block _ (heapsz Z1.out)).trans Z1.out)
      clear hb s0 s1 s2 s3 s4 s5 s6 s7 s8 s9 s10 s11 Z1
      obtain ⟨⟨s0, s1, s2⟩, ⟨s3, s4, s5⟩, ⟨s6, s7, s8⟩, s9, s10, s11⟩ := sto_box Z2.out
      simp only at s0 s1 s2 s3 s4 s5 s6 s7 s8 s9 s10 s11
      go_wp2_with fail
      refine (KCH.out _ HB2.out).mono ?_
      rintro e w3 ⟨rfl, hb⟩
      have HB3 := Lib.hid (HB2.out.trans (hb.mono HB2.out.size)); have Z3 := Lib.hid ((hb.block _ (heapsz Z2.out)).trans Z2.out)
      clear hb s0 s1 s2 s3 s4 s5 s6 s7 s8 s9 s10 s11 Z2
      obtain ⟨⟨s0, s1, s2⟩, ⟨s3, s4, s5⟩, ⟨s6, s7, s8⟩, s9, s10, s11⟩ := sto_box Z3.out
      simp only at s0 s1 s2 s3 s4 s5 s6 s7 s8 s9 s10 s11
      go_wp2_with fail
      refine (KRU.out _ HB3.out).mono ?_
      rintro e w4 ⟨rfl, hb⟩
      have HB4 := Lib.hid (HB3.out.trans (hb.mono HB3.out.size)); have Z4 := Lib.hid ((hb.block _ (heapsz Z3.out)).trans Z3.out)
      clear hb s0 s1 s2 s3 s4 s5 s6 s7 s8 s9 s10 s11 Z3
      obtain ⟨⟨s0, s1, s2⟩, ⟨s3, s4, s5⟩, ⟨s6, s7, s8⟩, s9, s10, s11⟩ := sto_box Z4.out
      simp only at s0 s1 s2 s3 s4 s5 s6 s7 s8 s9 s10 s11
      clear s0 s1 s2 s3 s4 s5 s6 s7 s8 s9 s10 s11
      have al := (Below.refl w4.heap.size w4).alloc (Nat.le_refl _) (.cells #[.slice none 0 0, .slice none 0 0, .slice none 0 0] 35)
      have zf := heap_alloc_new w4 (.cells #[.slice none 0 0, .slice none 0 0, .slice none 0 0] 35)
      have ZU := Lib.hid ((al.block _ (heapsz Z4.out)).trans Z4.out)
      obtain ⟨⟨s0, s1, s2⟩, ⟨s3, s4, s5⟩, ⟨s6, s7, s8⟩, s9, s10, s11⟩ := sto_box ZU.out
      simp only at s0 s1 s2 s3 s4 s5 s6 s7 s8 s9 s10 s11
      have fx0 := cell_of_row _ _ 0 _ 35 (0, 0) zf
      have fx1 := cell_of_row _ _ 1 _ 35 (0, 0) zf
      have fx2 := cell_of_row _ _ 2 _ 35 (0, 0) zf
      simp at fx0 fx1 fx2
      obtain ⟨w5, hw5⟩ : ∃ W, w4.alloc (.cells #[.slice none 0 0, .slice none 0 0, .slice none 0 0] 35) = W := ⟨_, rfl⟩
      have HW5 := Lib.hid hw5
      have HB5 := Lib.hid (HB4.out.trans (al.mono HB4.out.size)); have Z5 := ZU; have Fx_5 := Lib.hid zf; have AL5 := Lib.hid al
      rw [hw5] at HB5 Z5 Fx_5 AL5
      clear al zf ZU hw5 Z4
      go_wp2_with fail
      rw [HW5.out]
      refine (KST.out _ HB5.out).mono ?_
      rintro e w6 ⟨rfl, hb⟩
      have HB6 := Lib.hid (HB5.out.trans (hb.mono HB5.out.size)); have Z6 := Lib.hid ((hb.block _ (heapsz Z5.out)).trans Z5.out)
      have Fx_6 := Lib.hid ((hb.block _ (heapsz Fx_5.out)).trans Fx_5.out)
      clear hb s0 s1 s2 s3 s4 s5 s6 s7 s8 s9 s10 s11 fx0 fx1 fx2 Z5 Fx_5
      obtain ⟨⟨s0, s1, s2⟩, ⟨s3, s4, s5⟩, ⟨s6, s7, s8⟩, s9, s10, s11⟩ := sto_box Z6.out
      simp only at s0 s1 s2 s3 s4 s5 s6 s7 s8 s9 s10 s11
      have fx0 := cell_of_row _ _ 0 _ 35 (0, 0) Fx_6.out
      have fx1 := cell_of_row _ _ 1 _ 35 (0, 0) Fx_6.out
      have fx2 := cell_of_row _ _ 2 _ 35 (0, 0) Fx_6.out
      simp at fx0 fx1 fx2
      go_wp2_with fail
      refine (KST.out _ HB6.out).mono ?_
      rintro e w7 ⟨rfl, hb⟩
      have HB7 := Lib.hid (HB6.out.trans (hb.mono HB6.out.size)); have Z7 := Lib.hid ((hb.block _ (heapsz Z6.out)).trans Z6.out)
      have Fx_7 := Lib.hid ((hb.block _ (heapsz Fx_6.out)).trans Fx_6.out)
      clear hb s0 s1 s2 s3 s4 s5 s6 s7 s8 s9 s10 s11 fx0 fx1 fx2 Z6 Fx_6
      obtain ⟨⟨s0, s1, s2⟩, ⟨s3, s4, s5⟩, ⟨s6, s7, s8⟩, s9, s10, s11⟩ := sto_box Z7.out
      simp only at s0 s1 s2 s3 s4 s5 s6 s7 s8 s9 s10 s11
      have fx0 := cell_of_row _ _ 0 _ 35 (0, 0) Fx_7.out
      have fx1 := cell_of_row _ _ 1 _ 35 (0, 0) Fx_7.out
      have fx2 := cell_of_row _ _ 2 _ 35 (0, 0) Fx_7.out
      simp at fx0 fx1 fx2
      go_wp2_with fail
      refine (KSA.out _ HB7.out).mono ?_
      rintro e w8 ⟨rfl, hb⟩
      have HB8 := Lib.hid (HB7.out.trans (hb.mono HB7.out.size)); have Z8 := Lib.hid ((hb.block _ (heapsz Z7.out)).trans Z7.out)
      have Fx_8 := Lib.hid ((hb.block _ (heapsz Fx_7.out)).trans Fx_7.out)
      clear hb s0 s1 s2 s3 s4 s5 s6 s7 s8 s9 s10 s11 fx0 fx1 fx2 Z7 Fx_7
      obtain ⟨⟨s0, s1, s2⟩, ⟨s3, s4, s5⟩, ⟨s6, s7, s8⟩, s9, s10, s11⟩ := sto_box Z8.out
      simp only at s0 s1 s2 s3 s4 s5 s6 s7 s8 s9 s10 s11
      have fx0 := cell_of_row _ _ 0 _ 35 (0, 0) Fx_8.out
      have fx1 := cell_of_row _ _ 1 _ 35 (0, 0) Fx_8.out
      have fx2 := cell_of_row _ _ 2 _ 35 (0, 0) Fx_8.out
      simp at fx0 fx1 fx2
      go_wp2_with fail
      refine (KKN.out _ HB8.out).mono ?_
      rintro e w9 ⟨rfl, hb⟩
      have HB9 := Lib.hid (HB8.out.trans (hb.mono HB8.out.size)); have Z9 := Lib.hid ((hb.block _ (heapsz Z8.out)).trans Z8.out)
      have Fx_9 := Lib.hid ((hb.block _ (heapsz Fx_8.out)).trans Fx_8.out)
      clear hb s0 s1 s2 s3 s4 s5 s6 s7 s8 s9 s10 s11 fx0 fx1 fx2 Z8 Fx_8
      obtain ⟨⟨s0, s1, s2⟩, ⟨s3, s4, s5⟩, ⟨s6, s7, s8⟩, s9, s10, s11⟩ := sto_box Z9.out
      simp only at s0 s1 s2 s3 s4 s5 s6 s7 s8 s9 s10 s11
      have fx0 := cell_of_row _ _ 0 _ 35 (0, 0) Fx_9.out
      have fx1 := cell_of_row _ _ 1 _ 35 (0, 0) Fx_9.out
      have fx2 := cell_of_row _ _ 2 _ 35 (0, 0) Fx_9.out
      simp at fx0 fx1 fx2
      go_wp2_with fail
      go_ret
      exact ⟨rfl, HB0.out.trans (HB9.out.mono HB0.out.size)⟩
    | true =>
      simp only [if_true] at KCH
      have hok := stoB_iff.1 hB
      have n6 := hok.n6
      have HOK := Lib.hid hok
      obtain ⟨C, hC⟩ : ∃ z, planOk S o = z := ⟨_, rfl⟩
      have HLS2 := HLS.out
      have KPL : Hid (∀ u, Below w1.heap.size w1 u → Calls Tryd.prog 17 #[.agg #[.int .i64 S.st.a, .int .i64 S.st.b, .int .i64 S.st.c, .int .i64 S.yd.a, .int .i64 S.yd.b, .int .i64 S.yd.c, .int .i64 S.rate, .int .i64 S.weeks, .int .i64 S.land, .slice AS ns cs, .slice AI ni ci, .slice AW nw cw], .int .i64 o] u fun e w' => e = .returned (.bool C) ∧ Below u.heap.size u w') := Lib.hid fun u hu => by rw [← hC]; exact rplan_any (X := ⟨S, AS, ns, cs, AI, ni, ci, AW, nw, cw⟩) (by rw [← HLS2]; exact n6) HLS2 o
      cases C with
      | false =>
        have KRU := KRN (by unfold askB; rw [hB, hC]; rfl)
        clear hB hC hok n6 HLS2 KRN
        go_enter Tryd.func3, Tryd.ntmps3
        go_wp2_with fail
        rw [HW1.out]
        refine (KSH.out _ HB1.out).mono ?_
        rintro e w2 ⟨rfl, hb⟩
        have HB2 := Lib.hid (HB1.out.trans (hb.mono HB1.out.size)); have Z2 := Lib.hid ((hb.block _ (heapsz Z1.out)).trans Z1.out)
        clear hb s0 s1 s2 s3 s4 s5 s6 s7 s8 s9 s10 s11 Z1
        obtain ⟨⟨s0, s1, s2⟩, ⟨s3, s4, s5⟩, ⟨s6, s7, s8⟩, s9, s10, s11⟩ := sto_box Z2.out
        simp only at s0 s1 s2 s3 s4 s5 s6 s7 s8 s9 s10 s11
        go_wp2_with fail
        refine (KCH.out _ HB2.out).mono ?_
        rintro e w3 ⟨rfl, hb⟩
        have HB3 := Lib.hid (HB2.out.trans (hb.mono HB2.out.size)); have Z3 := Lib.hid ((hb.block _ (heapsz Z2.out)).trans Z2.out)
        clear hb s0 s1 s2 s3 s4 s5 s6 s7 s8 s9 s10 s11 Z2
        obtain ⟨⟨s0, s1, s2⟩, ⟨s3, s4, s5⟩, ⟨s6, s7, s8⟩, s9, s10, s11⟩ := sto_box Z3.out
        simp only at s0 s1 s2 s3 s4 s5 s6 s7 s8 s9 s10 s11
        go_wp2_with fail
        refine (KRU.out _ HB3.out).mono ?_
        rintro e w4 ⟨rfl, hb⟩
        have HB4 := Lib.hid (HB3.out.trans (hb.mono HB3.out.size)); have Z4 := Lib.hid ((hb.block _ (heapsz Z3.out)).trans Z3.out)
        clear hb s0 s1 s2 s3 s4 s5 s6 s7 s8 s9 s10 s11 Z3
        obtain ⟨⟨s0, s1, s2⟩, ⟨s3, s4, s5⟩, ⟨s6, s7, s8⟩, s9, s10, s11⟩ := sto_box Z4.out
        simp only at s0 s1 s2 s3 s4 s5 s6 s7 s8 s9 s10 s11
        clear s0 s1 s2 s3 s4 s5 s6 s7 s8 s9 s10 s11
        have al := (Below.refl w4.heap.size w4).alloc (Nat.le_refl _) (.cells #[.slice none 0 0, .slice none 0 0, .slice none 0 0] 35)
        have zf := heap_alloc_new w4 (.cells #[.slice none 0 0, .slice none 0 0, .slice none 0 0] 35)
        have ZU := Lib.hid ((al.block _ (heapsz Z4.out)).trans Z4.out)
        obtain ⟨⟨s0, s1, s2⟩, ⟨s3, s4, s5⟩, ⟨s6, s7, s8⟩, s9, s10, s11⟩ := sto_box ZU.out
        simp only at s0 s1 s2 s3 s4 s5 s6 s7 s8 s9 s10 s11
        have fx0 := cell_of_row _ _ 0 _ 35 (0, 0) zf
        have fx1 := cell_of_row _ _ 1 _ 35 (0, 0) zf
        have fx2 := cell_of_row _ _ 2 _ 35 (0, 0) zf
        simp at fx0 fx1 fx2
        obtain ⟨w5, hw5⟩ : ∃ W, w4.alloc (.cells #[.slice none 0 0, .slice none 0 0, .slice none 0 0] 35) = W := ⟨_, rfl⟩
        have HW5 := Lib.hid hw5
        have HB5 := Lib.hid (HB4.out.trans (al.mono HB4.out.size)); have Z5 := ZU; have Fx_5 := Lib.hid zf; have AL5 := Lib.hid al
        rw [hw5] at HB5 Z5 Fx_5 AL5
        clear al zf ZU hw5 Z4
        go_wp2_with fail
        rw [HW5.out]
        refine (KST.out _ HB5.out).mono ?_
        rintro e w6 ⟨rfl, hb⟩
        have HB6 := Lib.hid (HB5.out.trans (hb.mono HB5.out.size)); have Z6 := Lib.hid ((hb.block _ (heapsz Z5.out)).trans Z5.out)
        have Fx_6 := Lib.hid ((hb.block _ (heapsz Fx_5.out)).trans Fx_5.out)
        clear hb s0 s1 s2 s3 s4 s5 s6 s7 s8 s9 s10 s11 fx0 fx1 fx2 Z5 Fx_5
        obtain ⟨⟨s0, s1, s2⟩, ⟨s3, s4, s5⟩, ⟨s6, s7, s8⟩, s9, s10, s11⟩ := sto_box Z6.out
        simp only at s0 s1 s2 s3 s4 s5 s6 s7 s8 s9 s10 s11
        have fx0 := cell_of_row _ _ 0 _ 35 (0, 0) Fx_6.out
        have fx1 := cell_of_row _ _ 1 _ 35 (0, 0) Fx_6.out
        have fx2 := cell_of_row _ _ 2 _ 35 (0, 0) Fx_6.out
        simp at fx0 fx1 fx2
        go_wp2_with fail
        refine (KST.out _ HB6.out).mono ?_
        rintro e w7 ⟨rfl, hb⟩
        have HB7 := Lib.hid (HB6.out.trans (hb.mono HB6.out.size)); have Z7 := Lib.hid ((hb.block _ (heapsz Z6.out)).trans Z6.out)
        have Fx_7 := Lib.hid ((hb.block _ (heapsz Fx_6.out)).trans Fx_6.out)
        clear hb s0 s1 s2 s3 s4 s5 s6 s7 s8 s9 s10 s11 fx0 fx1 fx2 Z6 Fx_6
        obtain ⟨⟨s0, s1, s2⟩, ⟨s3, s4, s5⟩, ⟨s6, s7, s8⟩, s9, s10, s11⟩ := sto_box Z7.out
        simp only at s0 s1 s2 s3 s4 s5 s6 s7 s8 s9 s10 s11
        have fx0 := cell_of_row _ _ 0 _ 35 (0, 0) Fx_7.out
        have fx1 := cell_of_row _ _ 1 _ 35 (0, 0) Fx_7.out
        have fx2 := cell_of_row _ _ 2 _ 35 (0, 0) Fx_7.out
        simp at fx0 fx1 fx2
        go_wp2_with fail
        refine (KPL.out _ HB7.out).mono ?_
        rintro e w8 ⟨rfl, hb⟩
        have HB8 := Lib.hid (HB7.out.trans (hb.mono HB7.out.size)); have Z8 := Lib.hid ((hb.block _ (heapsz Z7.out)).trans Z7.out)
        have Fx_8 := Lib.hid ((hb.block _ (heapsz Fx_7.out)).trans Fx_7.out)
        clear hb s0 s1 s2 s3 s4 s5 s6 s7 s8 s9 s10 s11 fx0 fx1 fx2 Z7 Fx_7
        obtain ⟨⟨s0, s1, s2⟩, ⟨s3, s4, s5⟩, ⟨s6, s7, s8⟩, s9, s10, s11⟩ := sto_box Z8.out
        simp only at s0 s1 s2 s3 s4 s5 s6 s7 s8 s9 s10 s11
        have fx0 := cell_of_row _ _ 0 _ 35 (0, 0) Fx_8.out
        have fx1 := cell_of_row _ _ 1 _ 35 (0, 0) Fx_8.out
        have fx2 := cell_of_row _ _ 2 _ 35 (0, 0) Fx_8.out
        simp at fx0 fx1 fx2
        go_wp2_with fail
        refine (KSA.out _ HB8.out).mono ?_
        rintro e w9 ⟨rfl, hb⟩
        have HB9 := Lib.hid (HB8.out.trans (hb.mono HB8.out.size)); have Z9 := Lib.hid ((hb.block _ (heapsz Z8.out)).trans Z8.out)
        have Fx_9 := Lib.hid ((hb.block _ (heapsz Fx_8.out)).trans Fx_8.out)
        clear hb s0 s1 s2 s3 s4 s5 s6 s7 s8 s9 s10 s11 fx0 fx1 fx2 Z8 Fx_8
        obtain ⟨⟨s0, s1, s2⟩, ⟨s3, s4, s5⟩, ⟨s6, s7, s8⟩, s9, s10, s11⟩ := sto_box Z9.out
        simp only at s0 s1 s2 s3 s4 s5 s6 s7 s8 s9 s10 s11
        have fx0 := cell_of_row _ _ 0 _ 35 (0, 0) Fx_9.out
        have fx1 := cell_of_row _ _ 1 _ 35 (0, 0) Fx_9.out
        have fx2 := cell_of_row _ _ 2 _ 35 (0, 0) Fx_9.out
        simp at fx0 fx1 fx2
        go_wp2_with fail
        refine (KKN.out _ HB9.out).mono ?_
        rintro e w10 ⟨rfl, hb⟩
        have HB10 := Lib.hid (HB9.out.trans (hb.mono HB9.out.size)); have Z10 := Lib.hid ((hb.block _ (heapsz Z9.out)).trans Z9.out)
        have Fx_10 := Lib.hid ((hb.block _ (heapsz Fx_9.out)).trans Fx_9.out)
        clear hb s0 s1 s2 s3 s4 s5 s6 s7 s8 s9 s10 s11 fx0 fx1 fx2 Z9 Fx_9
        obtain ⟨⟨s0, s1, s2⟩, ⟨s3, s4, s5⟩, ⟨s6, s7, s8⟩, s9, s10, s11⟩ := sto_box Z10.out
        simp only at s0 s1 s2 s3 s4 s5 s6 s7 s8 s9 s10 s11
        have fx0 := cell_of_row _ _ 0 _ 35 (0, 0) Fx_10.out
        have fx1 := cell_of_row _ _ 1 _ 35 (0, 0) Fx_10.out
        have fx2 := cell_of_row _ _ 2 _ 35 (0, 0) Fx_10.out
        simp at fx0 fx1 fx2
        go_wp2_with fail
        go_ret
        exact ⟨rfl, HB0.out.trans (HB10.out.mono HB0.out.size)⟩
      | true =>
        obtain ⟨D, hD⟩ : ∃ z, decide (0 ≤ i ∧ i < (ni : Int)) = z := ⟨_, rfl⟩
        have KIC : Hid (∀ u, Below w1.heap.size w1 u → Calls Tryd.prog 18 #[.agg #[.int .i64 S.st.a, .int .i64 S.st.b, .int .i64 S.st.c, .int .i64 S.yd.a, .int .i64 S.yd.b, .int .i64 S.yd.c, .int .i64 S.rate, .int .i64 S.weeks, .int .i64 S.land, .slice AS ns cs, .slice AI ni ci, .slice AW nw cw], .int .i64 i] u fun e w' => e = .returned (.bool D) ∧ Below u.heap.size u w') := Lib.hid fun u hu => by rw [← hD]; exact ice_any (X := ⟨S, AS, ns, cs, AI, ni, ci, AW, nw, cw⟩) i
        cases D with
        | false =>
          have KRU := KRN (by unfold askB; rw [hB, hC, show inB 0 i ((S.ices.length : Int) - 1) = false from by unfold inB; rw [HLI.out]; have := of_decide_eq_false hD; exact decide_eq_false (by omega)]; rfl)
          clear hB hC hok n6 HLS2 hD KRN
          go_enter Tryd.func3, Tryd.ntmps3
          go_wp2_with fail
          rw [HW1.out]
          refine (KSH.out _ HB1.out).mono ?_
          rintro e w2 ⟨rfl, hb⟩
          have HB2 := Lib.hid (HB1.out.trans (hb.mono HB1.out.size)); have Z2 := Lib.hid ((hb.block _ (heapsz Z1.out)).trans Z1.out)
          clear hb s0 s1 s2 s3 s4 s5 s6 s7 s8 s9 s10 s11 Z1
          obtain ⟨⟨s0, s1, s2⟩, ⟨s3, s4, s5⟩, ⟨s6, s7, s8⟩, s9, s10, s11⟩ := sto_box Z2.out
          simp only at s0 s1 s2 s3 s4 s5 s6 s7 s8 s9 s10 s11
          go_wp2_with fail
          refine (KCH.out _ HB2.out).mono ?_
          rintro e w3 ⟨rfl, hb⟩
          have HB3 := Lib.hid (HB2.out.trans (hb.mono HB2.out.size)); have Z3 := Lib.hid ((hb.block _ (heapsz Z2.out)).trans Z2.out)
          clear hb s0 s1 s2 s3 s4 s5 s6 s7 s8 s9 s10 s11 Z2
          obtain ⟨⟨s0, s1, s2⟩, ⟨s3, s4, s5⟩, ⟨s6, s7, s8⟩, s9, s10, s11⟩ := sto_box Z3.out
          simp only at s0 s1 s2 s3 s4 s5 s6 s7 s8 s9 s10 s11
          go_wp2_with fail
          refine (KRU.out _ HB3.out).mono ?_
          rintro e w4 ⟨rfl, hb⟩
          have HB4 := Lib.hid (HB3.out.trans (hb.mono HB3.out.size)); have Z4 := Lib.hid ((hb.block _ (heapsz Z3.out)).trans Z3.out)
          clear hb s0 s1 s2 s3 s4 s5 s6 s7 s8 s9 s10 s11 Z3
          obtain ⟨⟨s0, s1, s2⟩, ⟨s3, s4, s5⟩, ⟨s6, s7, s8⟩, s9, s10, s11⟩ := sto_box Z4.out
          simp only at s0 s1 s2 s3 s4 s5 s6 s7 s8 s9 s10 s11
          clear s0 s1 s2 s3 s4 s5 s6 s7 s8 s9 s10 s11
          have al := (Below.refl w4.heap.size w4).alloc (Nat.le_refl _) (.cells #[.slice none 0 0, .slice none 0 0, .slice none 0 0] 35)
          have zf := heap_alloc_new w4 (.cells #[.slice none 0 0, .slice none 0 0, .slice none 0 0] 35)
          have ZU := Lib.hid ((al.block _ (heapsz Z4.out)).trans Z4.out)
          obtain ⟨⟨s0, s1, s2⟩, ⟨s3, s4, s5⟩, ⟨s6, s7, s8⟩, s9, s10, s11⟩ := sto_box ZU.out
          simp only at s0 s1 s2 s3 s4 s5 s6 s7 s8 s9 s10 s11
          have fx0 := cell_of_row _ _ 0 _ 35 (0, 0) zf
          have fx1 := cell_of_row _ _ 1 _ 35 (0, 0) zf
          have fx2 := cell_of_row _ _ 2 _ 35 (0, 0) zf
          simp at fx0 fx1 fx2
          obtain ⟨w5, hw5⟩ : ∃ W, w4.alloc (.cells #[.slice none 0 0, .slice none 0 0, .slice none 0 0] 35) = W := ⟨_, rfl⟩
          have HW5 := Lib.hid hw5
          have HB5 := Lib.hid (HB4.out.trans (al.mono HB4.out.size)); have Z5 := ZU; have Fx_5 := Lib.hid zf; have AL5 := Lib.hid al
          rw [hw5] at HB5 Z5 Fx_5 AL5
          clear al zf ZU hw5 Z4
          go_wp2_with fail
          rw [HW5.out]
          refine (KST.out _ HB5.out).mono ?_
          rintro e w6 ⟨rfl, hb⟩
          have HB6 := Lib.hid (HB5.out.trans (hb.mono HB5.out.size)); have Z6 := Lib.hid ((hb.block _ (heapsz Z5.out)).trans Z5.out)
          have Fx_6 := Lib.hid ((hb.block _ (heapsz Fx_5.out)).trans Fx_5.out)
          clear hb s0 s1 s2 s3 s4 s5 s6 s7 s8 s9 s10 s11 fx0 fx1 fx2 Z5 Fx_5
          obtain ⟨⟨s0, s1, s2⟩, ⟨s3, s4, s5⟩, ⟨s6, s7, s8⟩, s9, s10, s11⟩ := sto_box Z6.out
          simp only at s0 s1 s2 s3 s4 s5 s6 s7 s8 s9 s10 s11
          have fx0 := cell_of_row _ _ 0 _ 35 (0, 0) Fx_6.out
          have fx1 := cell_of_row _ _ 1 _ 35 (0, 0) Fx_6.out
          have fx2 := cell_of_row _ _ 2 _ 35 (0, 0) Fx_6.out
          simp at fx0 fx1 fx2
          go_wp2_with fail
          refine (KST.out _ HB6.out).mono ?_
          rintro e w7 ⟨rfl, hb⟩
          have HB7 := Lib.hid (HB6.out.trans (hb.mono HB6.out.size)); have Z7 := Lib.hid ((hb.block _ (heapsz Z6.out)).trans Z6.out)
          have Fx_7 := Lib.hid ((hb.block _ (heapsz Fx_6.out)).trans Fx_6.out)
          clear hb s0 s1 s2 s3 s4 s5 s6 s7 s8 s9 s10 s11 fx0 fx1 fx2 Z6 Fx_6
          obtain ⟨⟨s0, s1, s2⟩, ⟨s3, s4, s5⟩, ⟨s6, s7, s8⟩, s9, s10, s11⟩ := sto_box Z7.out
          simp only at s0 s1 s2 s3 s4 s5 s6 s7 s8 s9 s10 s11
          have fx0 := cell_of_row _ _ 0 _ 35 (0, 0) Fx_7.out
          have fx1 := cell_of_row _ _ 1 _ 35 (0, 0) Fx_7.out
          have fx2 := cell_of_row _ _ 2 _ 35 (0, 0) Fx_7.out
          simp at fx0 fx1 fx2
          go_wp2_with fail
          refine (KPL.out _ HB7.out).mono ?_
          rintro e w8 ⟨rfl, hb⟩
          have HB8 := Lib.hid (HB7.out.trans (hb.mono HB7.out.size)); have Z8 := Lib.hid ((hb.block _ (heapsz Z7.out)).trans Z7.out)
          have Fx_8 := Lib.hid ((hb.block _ (heapsz Fx_7.out)).trans Fx_7.out)
          clear hb s0 s1 s2 s3 s4 s5 s6 s7 s8 s9 s10 s11 fx0 fx1 fx2 Z7 Fx_7
          obtain ⟨⟨s0, s1, s2⟩, ⟨s3, s4, s5⟩, ⟨s6, s7, s8⟩, s9, s10, s11⟩ := sto_box Z8.out
          simp only at s0 s1 s2 s3 s4 s5 s6 s7 s8 s9 s10 s11
          have fx0 := cell_of_row _ _ 0 _ 35 (0, 0) Fx_8.out
          have fx1 := cell_of_row _ _ 1 _ 35 (0, 0) Fx_8.out
          have fx2 := cell_of_row _ _ 2 _ 35 (0, 0) Fx_8.out
          simp at fx0 fx1 fx2
          go_wp2_with fail
          refine (KIC.out _ HB8.out).mono ?_
          rintro e w9 ⟨rfl, hb⟩
          have HB9 := Lib.hid (HB8.out.trans (hb.mono HB8.out.size)); have Z9 := Lib.hid ((hb.block _ (heapsz Z8.out)).trans Z8.out)
          have Fx_9 := Lib.hid ((hb.block _ (heapsz Fx_8.out)).trans Fx_8.out)
          clear hb s0 s1 s2 s3 s4 s5 s6 s7 s8 s9 s10 s11 fx0 fx1 fx2 Z8 Fx_8
          obtain ⟨⟨s0, s1, s2⟩, ⟨s3, s4, s5⟩, ⟨s6, s7, s8⟩, s9, s10, s11⟩ := sto_box Z9.out
          simp only at s0 s1 s2 s3 s4 s5 s6 s7 s8 s9 s10 s11
          have fx0 := cell_of_row _ _ 0 _ 35 (0, 0) Fx_9.out
          have fx1 := cell_of_row _ _ 1 _ 35 (0, 0) Fx_9.out
          have fx2 := cell_of_row _ _ 2 _ 35 (0, 0) Fx_9.out
          simp at fx0 fx1 fx2
          go_wp2_with fail
          refine (KSA.out _ HB9.out).mono ?_
          rintro e w10 ⟨rfl, hb⟩
          have HB10 := Lib.hid (HB9.out.trans (hb.mono HB9.out.size)); have Z10 := Lib.hid ((hb.block _ (heapsz Z9.out)).trans Z9.out)
          have Fx_10 := Lib.hid ((hb.block _ (heapsz Fx_9.out)).trans Fx_9.out)
          clear hb s0 s1 s2 s3 s4 s5 s6 s7 s8 s9 s10 s11 fx0 fx1 fx2 Z9 Fx_9
          obtain ⟨⟨s0, s1, s2⟩, ⟨s3, s4, s5⟩, ⟨s6, s7, s8⟩, s9, s10, s11⟩ := sto_box Z10.out
          simp only at s0 s1 s2 s3 s4 s5 s6 s7 s8 s9 s10 s11
          have fx0 := cell_of_row _ _ 0 _ 35 (0, 0) Fx_10.out
          have fx1 := cell_of_row _ _ 1 _ 35 (0, 0) Fx_10.out
          have fx2 := cell_of_row _ _ 2 _ 35 (0, 0) Fx_10.out
          simp at fx0 fx1 fx2
          go_wp2_with fail
          refine (KKN.out _ HB10.out).mono ?_
          rintro e w11 ⟨rfl, hb⟩
          have HB11 := Lib.hid (HB10.out.trans (hb.mono HB10.out.size)); have Z11 := Lib.hid ((hb.block _ (heapsz Z10.out)).trans Z10.out)
          have Fx_11 := Lib.hid ((hb.block _ (heapsz Fx_10.out)).trans Fx_10.out)
          clear hb s0 s1 s2 s3 s4 s5 s6 s7 s8 s9 s10 s11 fx0 fx1 fx2 Z10 Fx_10
          obtain ⟨⟨s0, s1, s2⟩, ⟨s3, s4, s5⟩, ⟨s6, s7, s8⟩, s9, s10, s11⟩ := sto_box Z11.out
          simp only at s0 s1 s2 s3 s4 s5 s6 s7 s8 s9 s10 s11
          have fx0 := cell_of_row _ _ 0 _ 35 (0, 0) Fx_11.out
          have fx1 := cell_of_row _ _ 1 _ 35 (0, 0) Fx_11.out
          have fx2 := cell_of_row _ _ 2 _ 35 (0, 0) Fx_11.out
          simp at fx0 fx1 fx2
          go_wp2_with fail
          go_ret
          exact ⟨rfl, HB0.out.trans (HB11.out.mono HB0.out.size)⟩
        | true =>
          obtain ⟨E, hE⟩ : ∃ z, decide (0 ≤ n ∧ n < (nw : Int)) = z := ⟨_, rfl⟩
          have KWI : Hid (∀ u, Below w1.heap.size w1 u → Calls Tryd.prog 19 #[.agg #[.int .i64 S.st.a, .int .i64 S.st.b, .int .i64 S.st.c, .int .i64 S.yd.a, .int .i64 S.yd.b, .int .i64 S.yd.c, .int .i64 S.rate, .int .i64 S.weeks, .int .i64 S.land, .slice AS ns cs, .slice AI ni ci, .slice AW nw cw], .int .i64 n] u fun e w' => e = .returned (.bool E) ∧ Below u.heap.size u w') := Lib.hid fun u hu => by rw [← hE]; exact winter_any (X := ⟨S, AS, ns, cs, AI, ni, ci, AW, nw, cw⟩) n
          cases E with
          | false =>
            have KRU := KRN (by unfold askB; rw [hB, hC, show inB 0 n ((S.wins.length : Int) - 1) = false from by unfold inB; rw [HLW.out]; have := of_decide_eq_false hE; exact decide_eq_false (by omega), Bool.and_false]; rfl)
            clear hB hC hok n6 HLS2 hD hE KRN
            go_enter Tryd.func3, Tryd.ntmps3
            go_wp2_with fail
            rw [HW1.out]
            refine (KSH.out _ HB1.out).mono ?_
            rintro e w2 ⟨rfl, hb⟩
            have HB2 := Lib.hid (HB1.out.trans (hb.mono HB1.out.size)); have Z2 := Lib.hid ((hb.block _ (heapsz Z1.out)).trans Z1.out)
            clear hb s0 s1 s2 s3 s4 s5 s6 s7 s8 s9 s10 s11 Z1
            obtain ⟨⟨s0, s1, s2⟩, ⟨s3, s4, s5⟩, ⟨s6, s7, s8⟩, s9, s10, s11⟩ := sto_box Z2.out
            simp only at s0 s1 s2 s3 s4 s5 s6 s7 s8 s9 s10 s11
            go_wp2_with fail
            refine (KCH.out _ HB2.out).mono ?_
            rintro e w3 ⟨rfl, hb⟩
            have HB3 := Lib.hid (HB2.out.trans (hb.mono HB2.out.size)); have Z3 := Lib.hid ((hb.block _ (heapsz Z2.out)).trans Z2.out)
            clear hb s0 s1 s2 s3 s4 s5 s6 s7 s8 s9 s10 s11 Z2
            obtain ⟨⟨s0, s1, s2⟩, ⟨s3, s4, s5⟩, ⟨s6, s7, s8⟩, s9, s10, s11⟩ := sto_box Z3.out
            simp only at s0 s1 s2 s3 s4 s5 s6 s7 s8 s9 s10 s11
            go_wp2_with fail
            refine (KRU.out _ HB3.out).mono ?_
            rintro e w4 ⟨rfl, hb⟩
            have HB4 := Lib.hid (HB3.out.trans (hb.mono HB3.out.size)); have Z4 := Lib.hid ((hb.block _ (heapsz Z3.out)).trans Z3.out)
            clear hb s0 s1 s2 s3 s4 s5 s6 s7 s8 s9 s10 s11 Z3
            obtain ⟨⟨s0, s1, s2⟩, ⟨s3, s4, s5⟩, ⟨s6, s7, s8⟩, s9, s10, s11⟩ := sto_box Z4.out
            simp only at s0 s1 s2 s3 s4 s5 s6 s7 s8 s9 s10 s11
            clear s0 s1 s2 s3 s4 s5 s6 s7 s8 s9 s10 s11
            have al := (Below.refl w4.heap.size w4).alloc (Nat.le_refl _) (.cells #[.slice none 0 0, .slice none 0 0, .slice none 0 0] 35)
            have zf := heap_alloc_new w4 (.cells #[.slice none 0 0, .slice none 0 0, .slice none 0 0] 35)
            have ZU := Lib.hid ((al.block _ (heapsz Z4.out)).trans Z4.out)
            obtain ⟨⟨s0, s1, s2⟩, ⟨s3, s4, s5⟩, ⟨s6, s7, s8⟩, s9, s10, s11⟩ := sto_box ZU.out
            simp only at s0 s1 s2 s3 s4 s5 s6 s7 s8 s9 s10 s11
            have fx0 := cell_of_row _ _ 0 _ 35 (0, 0) zf
            have fx1 := cell_of_row _ _ 1 _ 35 (0, 0) zf
            have fx2 := cell_of_row _ _ 2 _ 35 (0, 0) zf
            simp at fx0 fx1 fx2
            obtain ⟨w5, hw5⟩ : ∃ W, w4.alloc (.cells #[.slice none 0 0, .slice none 0 0, .slice none 0 0] 35) = W := ⟨_, rfl⟩
            have HW5 := Lib.hid hw5
            have HB5 := Lib.hid (HB4.out.trans (al.mono HB4.out.size)); have Z5 := ZU; have Fx_5 := Lib.hid zf; have AL5 := Lib.hid al
            rw [hw5] at HB5 Z5 Fx_5 AL5
            clear al zf ZU hw5 Z4
            go_wp2_with fail
            rw [HW5.out]
            refine (KST.out _ HB5.out).mono ?_
            rintro e w6 ⟨rfl, hb⟩
            have HB6 := Lib.hid (HB5.out.trans (hb.mono HB5.out.size)); have Z6 := Lib.hid ((hb.block _ (heapsz Z5.out)).trans Z5.out)
            have Fx_6 := Lib.hid ((hb.block _ (heapsz Fx_5.out)).trans Fx_5.out)
            clear hb s0 s1 s2 s3 s4 s5 s6 s7 s8 s9 s10 s11 fx0 fx1 fx2 Z5 Fx_5
            obtain ⟨⟨s0, s1, s2⟩, ⟨s3, s4, s5⟩, ⟨s6, s7, s8⟩, s9, s10, s11⟩ := sto_box Z6.out
            simp only at s0 s1 s2 s3 s4 s5 s6 s7 s8 s9 s10 s11
            have fx0 := cell_of_row _ _ 0 _ 35 (0, 0) Fx_6.out
            have fx1 := cell_of_row _ _ 1 _ 35 (0, 0) Fx_6.out
            have fx2 := cell_of_row _ _ 2 _ 35 (0, 0) Fx_6.out
            simp at fx0 fx1 fx2
            go_wp2_with fail
            refine (KST.out _ HB6.out).mono ?_
            rintro e w7 ⟨rfl, hb⟩
            have HB7 := Lib.hid (HB6.out.trans (hb.mono HB6.out.size)); have Z7 := Lib.hid ((hb.block _ (heapsz Z6.out)).trans Z6.out)
            have Fx_7 := Lib.hid ((hb.block _ (heapsz Fx_6.out)).trans Fx_6.out)
            clear hb s0 s1 s2 s3 s4 s5 s6 s7 s8 s9 s10 s11 fx0 fx1 fx2 Z6 Fx_6
            obtain ⟨⟨s0, s1, s2⟩, ⟨s3, s4, s5⟩, ⟨s6, s7, s8⟩, s9, s10, s11⟩ := sto_box Z7.out
            simp only at s0 s1 s2 s3 s4 s5 s6 s7 s8 s9 s10 s11
            have fx0 := cell_of_row _ _ 0 _ 35 (0, 0) Fx_7.out
            have fx1 := cell_of_row _ _ 1 _ 35 (0, 0) Fx_7.out
            have fx2 := cell_of_row _ _ 2 _ 35 (0, 0) Fx_7.out
            simp at fx0 fx1 fx2
            go_wp2_with fail
            refine (KPL.out _ HB7.out).mono ?_
            rintro e w8 ⟨rfl, hb⟩
            have HB8 := Lib.hid (HB7.out.trans (hb.mono HB7.out.size)); have Z8 := Lib.hid ((hb.block _ (heapsz Z7.out)).trans Z7.out)
            have Fx_8 := Lib.hid ((hb.block _ (heapsz Fx_7.out)).trans Fx_7.out)
            clear hb s0 s1 s2 s3 s4 s5 s6 s7 s8 s9 s10 s11 fx0 fx1 fx2 Z7 Fx_7
            obtain ⟨⟨s0, s1, s2⟩, ⟨s3, s4, s5⟩, ⟨s6, s7, s8⟩, s9, s10, s11⟩ := sto_box Z8.out
            simp only at s0 s1 s2 s3 s4 s5 s6 s7 s8 s9 s10 s11
            have fx0 := cell_of_row _ _ 0 _ 35 (0, 0) Fx_8.out
            have fx1 := cell_of_row _ _ 1 _ 35 (0, 0) Fx_8.out
            have fx2 := cell_of_row _ _ 2 _ 35 (0, 0) Fx_8.out
            simp at fx0 fx1 fx2
            go_wp2_with fail
            refine (KIC.out _ HB8.out).mono ?_
            rintro e w9 ⟨rfl, hb⟩
            have HB9 := Lib.hid (HB8.out.trans (hb.mono HB8.out.size)); have Z9 := Lib.hid ((hb.block _ (heapsz Z8.out)).trans Z8.out)
            have Fx_9 := Lib.hid ((hb.block _ (heapsz Fx_8.out)).trans Fx_8.out)
            clear hb s0 s1 s2 s3 s4 s5 s6 s7 s8 s9 s10 s11 fx0 fx1 fx2 Z8 Fx_8
            obtain ⟨⟨s0, s1, s2⟩, ⟨s3, s4, s5⟩, ⟨s6, s7, s8⟩, s9, s10, s11⟩ := sto_box Z9.out
            simp only at s0 s1 s2 s3 s4 s5 s6 s7 s8 s9 s10 s11
            have fx0 := cell_of_row _ _ 0 _ 35 (0, 0) Fx_9.out
            have fx1 := cell_of_row _ _ 1 _ 35 (0, 0) Fx_9.out
            have fx2 := cell_of_row _ _ 2 _ 35 (0, 0) Fx_9.out
            simp at fx0 fx1 fx2
            go_wp2_with fail
            refine (KWI.out _ HB9.out).mono ?_
            rintro e w10 ⟨rfl, hb⟩
            have HB10 := Lib.hid (HB9.out.trans (hb.mono HB9.out.size)); have Z10 := Lib.hid ((hb.block _ (heapsz Z9.out)).trans Z9.out)
            have Fx_10 := Lib.hid ((hb.block _ (heapsz Fx_9.out)).trans Fx_9.out)
            clear hb s0 s1 s2 s3 s4 s5 s6 s7 s8 s9 s10 s11 fx0 fx1 fx2 Z9 Fx_9
            obtain ⟨⟨s0, s1, s2⟩, ⟨s3, s4, s5⟩, ⟨s6, s7, s8⟩, s9, s10, s11⟩ := sto_box Z10.out
            simp only at s0 s1 s2 s3 s4 s5 s6 s7 s8 s9 s10 s11
            have fx0 := cell_of_row _ _ 0 _ 35 (0, 0) Fx_10.out
            have fx1 := cell_of_row _ _ 1 _ 35 (0, 0) Fx_10.out
            have fx2 := cell_of_row _ _ 2 _ 35 (0, 0) Fx_10.out
            simp at fx0 fx1 fx2
            go_wp2_with fail
            refine (KSA.out _ HB10.out).mono ?_
            rintro e w11 ⟨rfl, hb⟩
            have HB11 := Lib.hid (HB10.out.trans (hb.mono HB10.out.size)); have Z11 := Lib.hid ((hb.block _ (heapsz Z10.out)).trans Z10.out)
            have Fx_11 := Lib.hid ((hb.block _ (heapsz Fx_10.out)).trans Fx_10.out)
            clear hb s0 s1 s2 s3 s4 s5 s6 s7 s8 s9 s10 s11 fx0 fx1 fx2 Z10 Fx_10
            obtain ⟨⟨s0, s1, s2⟩, ⟨s3, s4, s5⟩, ⟨s6, s7, s8⟩, s9, s10, s11⟩ := sto_box Z11.out
            simp only at s0 s1 s2 s3 s4 s5 s6 s7 s8 s9 s10 s11
            have fx0 := cell_of_row _ _ 0 _ 35 (0, 0) Fx_11.out
            have fx1 := cell_of_row _ _ 1 _ 35 (0, 0) Fx_11.out
            have fx2 := cell_of_row _ _ 2 _ 35 (0, 0) Fx_11.out
            simp at fx0 fx1 fx2
            go_wp2_with fail
            refine (KKN.out _ HB11.out).mono ?_
            rintro e w12 ⟨rfl, hb⟩
            have HB12 := Lib.hid (HB11.out.trans (hb.mono HB11.out.size)); have Z12 := Lib.hid ((hb.block _ (heapsz Z11.out)).trans Z11.out)
            have Fx_12 := Lib.hid ((hb.block _ (heapsz Fx_11.out)).trans Fx_11.out)
            clear hb s0 s1 s2 s3 s4 s5 s6 s7 s8 s9 s10 s11 fx0 fx1 fx2 Z11 Fx_11
            obtain ⟨⟨s0, s1, s2⟩, ⟨s3, s4, s5⟩, ⟨s6, s7, s8⟩, s9, s10, s11⟩ := sto_box Z12.out
            simp only at s0 s1 s2 s3 s4 s5 s6 s7 s8 s9 s10 s11
            have fx0 := cell_of_row _ _ 0 _ 35 (0, 0) Fx_12.out
            have fx1 := cell_of_row _ _ 1 _ 35 (0, 0) Fx_12.out
            have fx2 := cell_of_row _ _ 2 _ 35 (0, 0) Fx_12.out
            simp at fx0 fx1 fx2
            go_wp2_with fail
            go_ret
            exact ⟨rfl, HB0.out.trans (HB12.out.mono HB0.out.size)⟩
          | true =>
            have hni := of_decide_eq_true hD; have hnn := of_decide_eq_true hE
            obtain ⟨m, rfl, hm⟩ := plan_nat hC
            obtain ⟨ii, rfl⟩ : ∃ k : Nat, i = (k : Int) := ⟨i.toNat, by omega⟩
            obtain ⟨nn, rfl⟩ : ∃ k : Nat, n = (k : Int) := ⟨n.toNat, by omega⟩
            have hi2 : ii < S.ices.length := by rw [HLI.out]; omega
            have hn2 : nn < S.wins.length := by rw [HLW.out]; omega
            have hi3 : ii < ni := by omega
            have hn3 : nn < nw := by omega
            have hm6 : m ≤ 1000000 := by have h1 := hm; have h2 := two_six n6; omega
            obtain ⟨R, hR⟩ : ∃ z, S.run m (S.ices.getD ii []) (S.wins.getD nn []) = z := ⟨_, rfl⟩
            have KRR : Hid (∀ u, Below w1.heap.size w1 u → Calls Tryd.prog 21 #[.agg #[.int .i64 S.st.a, .int .i64 S.st.b, .int .i64 S.st.c, .int .i64 S.yd.a, .int .i64 S.yd.b, .int .i64 S.yd.c, .int .i64 S.rate, .int .i64 S.weeks, .int .i64 S.land, .slice AS ns cs, .slice AI ni ci, .slice AW nw cw], .int .i64 (m : Int), .int .i64 (ii : Int), .int .i64 (nn : Int)] u fun e w' => ∃ t : Tr, e = .returned t.v ∧ Below u.heap.size u w' ∧ t.In w' ∧ t.l1 = R.ld ∧ t.l2 = R.stocks ∧ t.l3 = R.lacks) := Lib.hid fun u hu => by
              have := rrgood (HI.out.up hu) HOK.out m ii nn hm6 hi3 hn3
              simp only at this
              rw [hR] at this; exact this
            have KRG : Hid (∀ u, Below w1.heap.size w1 u → Calls Tryd.prog 15 #[.agg #[.int .i64 S.st.a, .int .i64 S.st.b, .int .i64 S.st.c, .int .i64 S.yd.a, .int .i64 S.yd.b, .int .i64 S.yd.c, .int .i64 S.rate, .int .i64 S.weeks, .int .i64 S.land, .slice AS ns cs, .slice AI ni ci, .slice AW nw cw], .int .i64 (m : Int), .int .i64 (ii : Int), .int .i64 (nn : Int)] u fun e w' => Below u.heap.size u w' ∧ ∃ t : Tr, e = .returned (.tuple #[t.v, .int .i64 0]) ∧ t.In w' ∧ t.l1 = R.ld ∧ t.l2 = R.stocks ∧ t.l3 = R.lacks) := Lib.hid fun u hu => by
              have := rgood (HI.out.up hu) hB hC hi2 hn2
              simp only at this
              rw [hR] at this; exact this
            clear hB hC hok n6 HLS2 hD hE KRN KSA hni hnn hm hi2 hn2 hi3 hn3 hm6 hR
            go_enter Tryd.func3, Tryd.ntmps3
            go_wp2_with fail
            rw [HW1.out]
            refine (KSH.out _ HB1.out).mono ?_
            rintro e w2 ⟨rfl, hb⟩
            have HB2 := Lib.hid (HB1.out.trans (hb.mono HB1.out.size)); have Z2 := Lib.hid ((hb.block _ (heapsz Z1.out)).trans Z1.out)
            clear hb s0 s1 s2 s3 s4 s5 s6 s7 s8 s9 s10 s11 Z1
            obtain ⟨⟨s0, s1, s2⟩, ⟨s3, s4, s5⟩, ⟨s6, s7, s8⟩, s9, s10, s11⟩ := sto_box Z2.out
            simp only at s0 s1 s2 s3 s4 s5 s6 s7 s8 s9 s10 s11
            go_wp2_with fail
            refine (KCH.out _ HB2.out).mono ?_
            rintro e w3 ⟨rfl, hb⟩
            have HB3 := Lib.hid (HB2.out.trans (hb.mono HB2.out.size)); have Z3 := Lib.hid ((hb.block _ (heapsz Z2.out)).trans Z2.out)
            clear hb s0 s1 s2 s3 s4 s5 s6 s7 s8 s9 s10 s11 Z2
            obtain ⟨⟨s0, s1, s2⟩, ⟨s3, s4, s5⟩, ⟨s6, s7, s8⟩, s9, s10, s11⟩ := sto_box Z3.out
            simp only at s0 s1 s2 s3 s4 s5 s6 s7 s8 s9 s10 s11
            go_wp2_with fail
            refine (KRG.out _ HB3.out).mono ?_
            rintro e w4 ⟨hb, t1, rfl, g0, g1, g2, g3⟩
            have HB4 := Lib.hid (HB3.out.trans (hb.mono HB3.out.size)); have Z4 := Lib.hid ((hb.block _ (heapsz Z3.out)).trans Z3.out)
            have HT1 := Lib.hid g0; have HE1 := Lib.hid (And.intro g1 (And.intro g2 g3)); clear g0 g1 g2 g3
            clear hb s0 s1 s2 s3 s4 s5 s6 s7 s8 s9 s10 s11 Z3
            obtain ⟨⟨s0, s1, s2⟩, ⟨s3, s4, s5⟩, ⟨s6, s7, s8⟩, s9, s10, s11⟩ := sto_box Z4.out
            simp only at s0 s1 s2 s3 s4 s5 s6 s7 s8 s9 s10 s11
            clear s0 s1 s2 s3 s4 s5 s6 s7 s8 s9 s10 s11
            have al := (Below.refl w4.heap.size w4).alloc (Nat.le_refl _) (.cells (Tr.C t1) 35)
            have zf := heap_alloc_new w4 (.cells (Tr.C t1) 35)
            have ZU := Lib.hid ((al.block _ (heapsz Z4.out)).trans Z4.out)
            obtain ⟨⟨s0, s1, s2⟩, ⟨s3, s4, s5⟩, ⟨s6, s7, s8⟩, s9, s10, s11⟩ := sto_box ZU.out
            simp only at s0 s1 s2 s3 s4 s5 s6 s7 s8 s9 s10 s11
            have fx0 := cell_of_row _ _ 0 _ 35 (0, 0) zf
            have fx1 := cell_of_row _ _ 1 _ 35 (0, 0) zf
            have fx2 := cell_of_row _ _ 2 _ 35 (0, 0) zf
            simp at fx0 fx1 fx2
            obtain ⟨w5, hw5⟩ : ∃ W, w4.alloc (.cells (Tr.C t1) 35) = W := ⟨_, rfl⟩
            have HW5 := Lib.hid hw5
            have HB5 := Lib.hid (HB4.out.trans (al.mono HB4.out.size)); have Z5 := ZU; have Fx_5 := Lib.hid zf; have AL5 := Lib.hid al
            rw [hw5] at HB5 Z5 Fx_5 AL5
            clear al zf ZU hw5 Z4
            have HTA := Lib.hid (HT1.out.up AL5.out); clear HT1
            go_wp2_with fail
            rw [HW5.out]
            refine (KST.out _ HB5.out).mono ?_
            rintro e w6 ⟨rfl, hb⟩
            have HB6 := Lib.hid (HB5.out.trans (hb.mono HB5.out.size)); have Z6 := Lib.hid ((hb.block _ (heapsz Z5.out)).trans Z5.out)
            have Fx_6 := Lib.hid ((hb.block _ (heapsz Fx_5.out)).trans Fx_5.out)
            have HTB := Lib.hid (HTA.out.up hb); clear HTA
            clear hb s0 s1 s2 s3 s4 s5 s6 s7 s8 s9 s10 s11 fx0 fx1 fx2 Z5 Fx_5
            obtain ⟨⟨s0, s1, s2⟩, ⟨s3, s4, s5⟩, ⟨s6, s7, s8⟩, s9, s10, s11⟩ := sto_box Z6.out
            simp only at s0 s1 s2 s3 s4 s5 s6 s7 s8 s9 s10 s11
            have fx0 := cell_of_row _ _ 0 _ 35 (0, 0) Fx_6.out
            have fx1 := cell_of_row _ _ 1 _ 35 (0, 0) Fx_6.out
            have fx2 := cell_of_row _ _ 2 _ 35 (0, 0) Fx_6.out
            simp at fx0 fx1 fx2
            go_wp2_with fail
            refine (KST.out _ HB6.out).mono ?_
            rintro e w7 ⟨rfl, hb⟩
            have HB7 := Lib.hid (HB6.out.trans (hb.mono HB6.out.size)); have Z7 := Lib.hid ((hb.block _ (heapsz Z6.out)).trans Z6.out)
            have Fx_7 := Lib.hid ((hb.block _ (heapsz Fx_6.out)).trans Fx_6.out)
            have HTC := Lib.hid (HTB.out.up hb); clear HTB
            clear hb s0 s1 s2 s3 s4 s5 s6 s7 s8 s9 s10 s11 fx0 fx1 fx2 Z6 Fx_6
            obtain ⟨⟨s0, s1, s2⟩, ⟨s3, s4, s5⟩, ⟨s6, s7, s8⟩, s9, s10, s11⟩ := sto_box Z7.out
            simp only at s0 s1 s2 s3 s4 s5 s6 s7 s8 s9 s10 s11
            have fx0 := cell_of_row _ _ 0 _ 35 (0, 0) Fx_7.out
            have fx1 := cell_of_row _ _ 1 _ 35 (0, 0) Fx_7.out
            have fx2 := cell_of_row _ _ 2 _ 35 (0, 0) Fx_7.out
            simp at fx0 fx1 fx2
            go_wp2_with fail
            refine (KPL.out _ HB7.out).mono ?_
            rintro e w8 ⟨rfl, hb⟩
            have HB8 := Lib.hid (HB7.out.trans (hb.mono HB7.out.size)); have Z8 := Lib.hid ((hb.block _ (heapsz Z7.out)).trans Z7.out)
            have Fx_8 := Lib.hid ((hb.block _ (heapsz Fx_7.out)).trans Fx_7.out)
            have HTD := Lib.hid (HTC.out.up hb); clear HTC
            clear hb s0 s1 s2 s3 s4 s5 s6 s7 s8 s9 s10 s11 fx0 fx1 fx2 Z7 Fx_7
            obtain ⟨⟨s0, s1, s2⟩, ⟨s3, s4, s5⟩, ⟨s6, s7, s8⟩, s9, s10, s11⟩ := sto_box Z8.out
            simp only at s0 s1 s2 s3 s4 s5 s6 s7 s8 s9 s10 s11
            have fx0 := cell_of_row _ _ 0 _ 35 (0, 0) Fx_8.out
            have fx1 := cell_of_row _ _ 1 _ 35 (0, 0) Fx_8.out
            have fx2 := cell_of_row _ _ 2 _ 35 (0, 0) Fx_8.out
            simp at fx0 fx1 fx2
            go_wp2_with fail
            refine (KIC.out _ HB8.out).mono ?_
            rintro e w9 ⟨rfl, hb⟩
            have HB9 := Lib.hid (HB8.out.trans (hb.mono HB8.out.size)); have Z9 := Lib.hid ((hb.block _ (heapsz Z8.out)).trans Z8.out)
            have Fx_9 := Lib.hid ((hb.block _ (heapsz Fx_8.out)).trans Fx_8.out)
            have HTE := Lib.hid (HTD.out.up hb); clear HTD
            clear hb s0 s1 s2 s3 s4 s5 s6 s7 s8 s9 s10 s11 fx0 fx1 fx2 Z8 Fx_8
            obtain ⟨⟨s0, s1, s2⟩, ⟨s3, s4, s5⟩, ⟨s6, s7, s8⟩, s9, s10, s11⟩ := sto_box Z9.out
            simp only at s0 s1 s2 s3 s4 s5 s6 s7 s8 s9 s10 s11
            have fx0 := cell_of_row _ _ 0 _ 35 (0, 0) Fx_9.out
            have fx1 := cell_of_row _ _ 1 _ 35 (0, 0) Fx_9.out
            have fx2 := cell_of_row _ _ 2 _ 35 (0, 0) Fx_9.out
            simp at fx0 fx1 fx2
            go_wp2_with fail
            refine (KWI.out _ HB9.out).mono ?_
            rintro e w10 ⟨rfl, hb⟩
            have HB10 := Lib.hid (HB9.out.trans (hb.mono HB9.out.size)); have Z10 := Lib.hid ((hb.block _ (heapsz Z9.out)).trans Z9.out)
            have Fx_10 := Lib.hid ((hb.block _ (heapsz Fx_9.out)).trans Fx_9.out)
            have HTF := Lib.hid (HTE.out.up hb); clear HTE
            clear hb s0 s1 s2 s3 s4 s5 s6 s7 s8 s9 s10 s11 fx0 fx1 fx2 Z9 Fx_9
            obtain ⟨⟨s0, s1, s2⟩, ⟨s3, s4, s5⟩, ⟨s6, s7, s8⟩, s9, s10, s11⟩ := sto_box Z10.out
            simp only at s0 s1 s2 s3 s4 s5 s6 s7 s8 s9 s10 s11
            have fx0 := cell_of_row _ _ 0 _ 35 (0, 0) Fx_10.out
            have fx1 := cell_of_row _ _ 1 _ 35 (0, 0) Fx_10.out
            have fx2 := cell_of_row _ _ 2 _ 35 (0, 0) Fx_10.out
            simp at fx0 fx1 fx2
            go_wp2_with fail
            clear s0 s1 s2 s3 s4 s5 s6 s7 s8 s9 s10 s11 fx0 fx1 fx2
            refine rel_region [1, 2, 3, 4, 10, 11] [(81, 8)] (rrCv w.heap.size w4.heap.size (.agg #[.int .i64 S.st.a, .int .i64 S.st.b, .int .i64 S.st.c, .int .i64 S.yd.a, .int .i64 S.yd.b, .int .i64 S.yd.c, .int .i64 S.rate, .int .i64 S.weeks, .int .i64 S.land, .slice AS ns cs, .slice AI ni ci, .slice AW nw cw]) t1.v m ii nn) (rrF R) (by kernel_rfl) (by kernel_rfl) (by kernel_rfl) (by kernel_rfl) (by kernel_rfl) (by kernel_rfl) ?_ (rrF_keep R) ?_ ?_
            · intro t ht
              simp only [List.mem_cons, List.not_mem_nil, or_false] at ht
              rcases ht with rfl | rfl | rfl | rfl | rfl | rfl <;> rfl
            · refine allOps_array ?_
              have hp : ∀ u : KeptW w10, _ := fun u => sto_box ((u.h.block _ (heapsz Z10.out)).trans Z10.out)
              have hq : ∀ u : KeptW w10, _ := fun u => tr_box (t := t1) ((u.h.block _ (heapsz Fx_10.out)).trans Fx_10.out)
              have hbu : ∀ u : KeptW w10, Below w1.heap.size w1 u.w := fun u => HB10.out.trans (u.h.mono HB10.out.size)
              refine ⟨?_, ?_, ?_, ?_, ?_, ?_, ?_, ?_, ?_, ?_, ?_, ?_, ?_, ?_, ?_, trivial⟩ <;> intro g u hd_ <;> obtain ⟨⟨s0, s1, s2⟩, ⟨s3, s4, s5⟩, ⟨s6, s7, s8⟩, s9, s10, s11⟩ := hp u <;> simp only at s0 s1 s2 s3 s4 s5 s6 s7 s8 s9 s10 s11 <;> obtain ⟨x0, x1, x2⟩ := hq u
              · refine ⟨rfl, relQ 73 rfl (rrF_other (by decide)) ?_⟩
                simp [go_sem, evalBy, rhoT, relOf, rrCv]
              · refine ⟨rfl, relQ 74 rfl (rrF_other (by decide)) ?_⟩
                simp [go_sem, evalBy, rhoT, relOf, rrCv]
              · refine ⟨rfl, relQ 75 rfl (rrF_other (by decide)) ?_⟩
                simp [go_sem, evalBy, rhoT, relOf, rrCv]
              · refine ⟨rfl, relQ 76 rfl (rrF_other (by decide)) ?_⟩
                simp [go_sem, evalBy, rhoT, relOf, rrCv, x0, x1, x2]
              · refine ⟨rfl, relQ 77 rfl (rrF_other (by decide)) ?_⟩
                simp [go_sem, evalBy, rhoT, relOf, rrCv, s0, s1, s2, s3, s4, s5, s6, s7, s8, s9, s10, s11]
              · refine ⟨rfl, relQ 78 rfl (rrF_other (by decide)) ?_⟩
                simp [go_sem, evalBy, rhoT, relOf, rrCv]
              · refine ⟨rfl, relQ 79 rfl (rrF_other (by decide)) ?_⟩
                simp [go_sem, evalBy, rhoT, relOf, rrCv]
              · refine ⟨rfl, relQ 80 rfl (rrF_other (by decide)) ?_⟩
                simp [go_sem, evalBy, rhoT, relOf, rrCv]
              · refine ⟨rfl, relC 21 #[.agg #[.int .i64 S.st.a, .int .i64 S.st.b, .int .i64 S.st.c, .int .i64 S.yd.a, .int .i64 S.yd.b, .int .i64 S.yd.c, .int .i64 S.rate, .int .i64 S.weeks, .int .i64 S.land, .slice AS ns cs, .slice AI ni ci, .slice AW nw cw], .int .i64 (m : Int), .int .i64 (ii : Int), .int .i64 (nn : Int)] (by simp [go_sem, evalBy, rhoT, relOf, rrCv]) ((KRR.out u.w (hbu u)).mono ?_)⟩
                rintro e w' ⟨t, rfl, hb, hh⟩
                exact ⟨_, rfl, hb, fun _ => ⟨t, rfl, hh⟩, fun d hd hr => by injection hd with hd; subst hd; simp [relOf] at hr⟩
              · obtain ⟨t2, e2, i2, j1, j2, j3⟩ := hd_ ⟨8, .data⟩ (by simp) rfl rfl
                refine ⟨rfl, relK 82 rfl (fun _ => rrF_other (by decide)) 20 #[t1.v, t2.v] (by simp [go_sem, evalBy, rhoT, relOf, rrCv, e2]) ?_⟩
                have ht1 : t1.In u.w := HTF.out.up u.h
                refine (sameTrace_any ht1 i2).mono ?_
                rintro e w' ⟨rfl, hb⟩
                refine ⟨?_, hb⟩
                show Ending.returned (.bool (trB t1 t2)) = .returned (.bool true)
                obtain ⟨k1, k2, k3⟩ := HE1.out
                unfold trB
                rw [k1, k2, k3, j1, j2, j3]
                simp
              · refine ⟨rfl, relQ 83 rfl (rrF_other (by decide)) ?_⟩
                simp [go_sem, evalBy, rhoT, relOf, rrCv]
              · refine ⟨rfl, relQ 84 rfl (rrF_other (by decide)) ?_⟩
                simp [go_sem, evalBy, rhoT, relOf, rrCv]
              · refine ⟨rfl, relK 85 rfl (fun _ => rrF_other (by decide)) 13 #[] (by simp [go_sem, evalBy]) ?_⟩
                exact KKN.out _ (hbu u)
              · refine ⟨rfl, relQ 86 rfl (rrF_other (by decide)) ?_⟩
                simp [go_sem, evalBy, rhoT, relOf, rrCv]
              · refine ⟨rfl, relQ 8 rfl (rrF_other (by decide)) ?_⟩
                simp [go_sem, evalBy, rhoT, relOf, rrCv]
            · intro g u hf
              have HBU := Lib.hid (HB10.out.trans (u.h.mono HB10.out.size))
              obtain ⟨wu, hwu⟩ : ∃ z, u.w = z := ⟨_, rfl⟩
              rw [hwu] at HBU ⊢
              simp [putAll, Act.put, rhoT, relOf, rrCv]
              clear hf hwu
              go_wp2_with fail
              go_ret
              exact ⟨rfl, HB0.out.trans (HBU.out.mono HB0.out.size)⟩
end Go.Proofs.YtijjkiogmlannaaDoor
