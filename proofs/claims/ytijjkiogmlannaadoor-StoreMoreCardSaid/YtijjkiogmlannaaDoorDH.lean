/- Stores: a store that is harder is no easier, by the statements' package. -/
import Derived.Test.YtijjkiogmlannaaDoorDA
namespace Go.Proofs.YtijjkiogmlannaaDoor
open Go.RowKit

set_option maxRecDepth 100000 in
set_option maxHeartbeats 8000000 in
theorem harder_any {X Y : SX} {w : World} (h : X.In w) (hy : Y.In w) (K : X.S.Ok) (hh : Harder X.S Y.S) {m : Nat} (hm : m < 2 ^ X.S.ships.length) : Calls Tryd.prog 35 #[X.v, Y.v, .int .i64 (m : Int)] w fun e w' => e = .returned (.bool true) ∧ Below w.heap.size w w' := by
  rcases X with ⟨S, AS, ns, cs, AI, ni, ci, AW, nw, cw⟩
  rcases Y with ⟨R, BS, ms, ds, BI, mi, di, BW, mw, dw⟩
  obtain ⟨z0, z1, hb0⟩ := two_new w (.cells (SX.cells ⟨S, AS, ns, cs, AI, ni, ci, AW, nw, cw⟩) 28) (.cells (SX.cells ⟨R, BS, ms, ds, BI, mi, di, BW, mw, dw⟩) 28)
  obtain ⟨⟨s0, s1, s2⟩, ⟨s3, s4, s5⟩, ⟨s6, s7, s8⟩, s9, s10, s11⟩ := sto_box z0
  obtain ⟨⟨r0, r1, r2⟩, ⟨r3, r4, r5⟩, ⟨r6, r7, r8⟩, r9, r10, r11⟩ := sto_box z1
  simp only at s0 s1 s2 s3 s4 s5 s6 s7 s8 s9 s10 s11 r0 r1 r2 r3 r4 r5 r6 r7 r8 r9 r10 r11
  simp only at K hh hm
  obtain ⟨w1, hw1⟩ : ∃ z, (w.alloc (.cells (SX.cells ⟨S, AS, ns, cs, AI, ni, ci, AW, nw, cw⟩) 28)).alloc (.cells (SX.cells ⟨R, BS, ms, ds, BI, mi, di, BW, mw, dw⟩) 28) = z := ⟨_, rfl⟩
  rw [hw1] at z0 z1 hb0
  have HB0 := Lib.hid hb0; have HB1 := Lib.hid (Below.refl w1.heap.size w1); have Z1 := Lib.hid z0; have Y1 := Lib.hid z1; have HI := Lib.hid (h.up hb0); have HJ := Lib.hid (hy.up hb0); have HW1 := Lib.hid hw1
  have hS := stoB_iff.2 K
  have hsh := hh.same.2.2.2.2.2
  obtain ⟨B, hB⟩ : ∃ z, stoB R = z := ⟨_, rfl⟩
  have KST : Hid (∀ u, Below w1.heap.size w1 u → Calls Tryd.prog 16 #[.agg #[.int .i64 R.st.a, .int .i64 R.st.b, .int .i64 R.st.c, .int .i64 R.yd.a, .int .i64 R.yd.b, .int .i64 R.yd.c, .int .i64 R.rate, .int .i64 R.weeks, .int .i64 R.land, .slice BS ms ds, .slice BI mi di, .slice BW mw dw]] u fun e w' => e = .returned (.bool B) ∧ Below u.heap.size u w') := Lib.hid fun u hu => by rw [← hB]; exact rstore_any (HJ.out.up hu)
  clear h hy z0 z1 hb0 hw1
  cases B with
  | false =>
    clear hB hS hsh K hh hm
    go_enter Tryd.func35, Tryd.ntmps35
    go_wp2_with fail
    rw [HW1.out]
    refine (KST.out _ HB1.out).mono ?_
    rintro e w2 ⟨rfl, hb⟩
    have HB2 := Lib.hid (HB1.out.trans (hb.mono HB1.out.size)); have Z2 := Lib.hid ((hb.block _ (heapsz Z1.out)).trans Z1.out); have Y2 := Lib.hid ((hb.block _ (heapsz Y1.out)).trans Y1.out)
    clear hb s0 s1 s2 s3 s4 s5 s6 s7 s8 s9 s10 s11 r0 r1 r2 r3 r4 r5 r6 r7 r8 r9 r10 r11 Z1 Y1
    obtain ⟨⟨s0, s1, s2⟩, ⟨s3, s4, s5⟩, ⟨s6, s7, s8⟩, s9, s10, s11⟩ := sto_box Z2.out
    obtain ⟨⟨r0, r1, r2⟩, ⟨r3, r4, r5⟩, ⟨r6, r7, r8⟩, r9, r10, r11⟩ := sto_box Y2.out
    simp only at s0 s1 s2 s3 s4 s5 s6 s7 s8 s9 s10 s11 r0 r1 r2 r3 r4 r5 r6 r7 r8 r9 r10 r11
    go_wp2_with fail
    go_ret
    exact ⟨rfl, HB0.out.trans (HB2.out.mono HB0.out.size)⟩
  | true =>
    have hC : planOk S (m : Int) = true := plan_of_nat hm
    have hD : planOk R (m : Int) = true := plan_of_nat (by rw [hsh]; exact hm)
    obtain ⟨L, x1, x2, x3, x4, hf, hL⟩ := flt_form (S.fault m)
    obtain ⟨L2, y1, y2, y3, y4, hf2, hL2⟩ := flt_form (R.fault m)
    have hfa : fauV S (m : Int) = (.agg #[.bool L, .int .i64 x1, .int .i64 x2, .int .i64 x3, .int .i64 x4], 0) := by unfold fauV; rw [hS, hC]; exact congrArg (fun z => (z, (0 : Int))) hf
    have hfb : fauV R (m : Int) = (.agg #[.bool L2, .int .i64 y1, .int .i64 y2, .int .i64 y3, .int .i64 y4], 0) := by unfold fauV; rw [hB, hD]; exact congrArg (fun z => (z, (0 : Int))) hf2
    have KFS : Hid (∀ u, Below w1.heap.size w1 u → Calls Tryd.prog 24 #[.agg #[.int .i64 S.st.a, .int .i64 S.st.b, .int .i64 S.st.c, .int .i64 S.yd.a, .int .i64 S.yd.b, .int .i64 S.yd.c, .int .i64 S.rate, .int .i64 S.weeks, .int .i64 S.land, .slice AS ns cs, .slice AI ni ci, .slice AW nw cw], .int .i64 (m : Int)] u fun e w' => e = .returned (.tuple #[.agg #[.bool L, .int .i64 x1, .int .i64 x2, .int .i64 x3, .int .i64 x4], .int .i64 0]) ∧ Below u.heap.size u w') := Lib.hid fun u hu => by have := Fault_any (HI.out.up hu) (m : Int); simp only at this; rw [hfa] at this; exact this
    have KFR : Hid (∀ u, Below w1.heap.size w1 u → Calls Tryd.prog 24 #[.agg #[.int .i64 R.st.a, .int .i64 R.st.b, .int .i64 R.st.c, .int .i64 R.yd.a, .int .i64 R.yd.b, .int .i64 R.yd.c, .int .i64 R.rate, .int .i64 R.weeks, .int .i64 R.land, .slice BS ms ds, .slice BI mi di, .slice BW mw dw], .int .i64 (m : Int)] u fun e w' => e = .returned (.tuple #[.agg #[.bool L2, .int .i64 y1, .int .i64 y2, .int .i64 y3, .int .i64 y4], .int .i64 0]) ∧ Below u.heap.size u w') := Lib.hid fun u hu => by have := Fault_any (HJ.out.up hu) (m : Int); simp only at this; rw [hfb] at this; exact this
    have hLL : L = true → L2 = true := fun e => by
      cases L2 with
      | true => rfl
      | false => rw [e] at hL; exact absurd (hL.2 (hh.fault (hL2.1 rfl))) (by decide)
    have hbb := hh.best
    clear hfa hfb hf hf2 hC hD hL hL2 hm hsh K
    cases hq : R.best with
    | none =>
      have hbr : bstI R = (0, 0, 5) := by unfold bstI; rw [hB, hq]; rfl
      have KBR : Hid (∀ u, Below w1.heap.size w1 u → Calls Tryd.prog 28 #[.agg #[.int .i64 R.st.a, .int .i64 R.st.b, .int .i64 R.st.c, .int .i64 R.yd.a, .int .i64 R.yd.b, .int .i64 R.yd.c, .int .i64 R.rate, .int .i64 R.weeks, .int .i64 R.land, .slice BS ms ds, .slice BI mi di, .slice BW mw dw]] u fun e w' => e = .returned (.tuple #[.int .i64 0, .int .i64 0, .int .i64 5]) ∧ Below u.heap.size u w') := Lib.hid fun u hu => by have := Best_any (HJ.out.up hu); simp only at this; rw [hbr] at this; exact this
      cases hp : S.best with
      | none =>
        have hbs : bstI S = (0, 0, 5) := by unfold bstI; rw [hS, hp]; rfl
        have KBS : Hid (∀ u, Below w1.heap.size w1 u → Calls Tryd.prog 28 #[.agg #[.int .i64 S.st.a, .int .i64 S.st.b, .int .i64 S.st.c, .int .i64 S.yd.a, .int .i64 S.yd.b, .int .i64 S.yd.c, .int .i64 S.rate, .int .i64 S.weeks, .int .i64 S.land, .slice AS ns cs, .slice AI ni ci, .slice AW nw cw]] u fun e w' => e = .returned (.tuple #[.int .i64 0, .int .i64 0, .int .i64 5]) ∧ Below u.heap.size u w') := Lib.hid fun u hu => by have := Best_any (HI.out.up hu); simp only at this; rw [hbs] at this; exact this
        clear hbr hbs hbb hp hq hB hS hh
        cases L with
        | false =>
          clear hLL
          go_enter Tryd.func35, Tryd.ntmps35
          go_wp2_with fail
          rw [HW1.out]
          refine (KST.out _ HB1.out).mono ?_
          rintro e w2 ⟨rfl, hb⟩
          have HB2 := Lib.hid (HB1.out.trans (hb.mono HB1.out.size)); have Z2 := Lib.hid ((hb.block _ (heapsz Z1.out)).trans Z1.out); have Y2 := Lib.hid ((hb.block _ (heapsz Y1.out)).trans Y1.out)
          clear hb s0 s1 s2 s3 s4 s5 s6 s7 s8 s9 s10 s11 r0 r1 r2 r3 r4 r5 r6 r7 r8 r9 r10 r11 Z1 Y1
          obtain ⟨⟨s0, s1, s2⟩, ⟨s3, s4, s5⟩, ⟨s6, s7, s8⟩, s9, s10, s11⟩ := sto_box Z2.out
          obtain ⟨⟨r0, r1, r2⟩, ⟨r3, r4, r5⟩, ⟨r6, r7, r8⟩, r9, r10, r11⟩ := sto_box Y2.out
          simp only at s0 s1 s2 s3 s4 s5 s6 s7 s8 s9 s10 s11 r0 r1 r2 r3 r4 r5 r6 r7 r8 r9 r10 r11
          go_wp2_with fail
          refine (KFS.out _ HB2.out).mono ?_
          rintro e w3 ⟨rfl, hb⟩
          have HB3 := Lib.hid (HB2.out.trans (hb.mono HB2.out.size)); have Z3 := Lib.hid ((hb.block _ (heapsz Z2.out)).trans Z2.out); have Y3 := Lib.hid ((hb.block _ (heapsz Y2.out)).trans Y2.out)
          clear hb s0 s1 s2 s3 s4 s5 s6 s7 s8 s9 s10 s11 r0 r1 r2 r3 r4 r5 r6 r7 r8 r9 r10 r11 Z2 Y2
          obtain ⟨⟨s0, s1, s2⟩, ⟨s3, s4, s5⟩, ⟨s6, s7, s8⟩, s9, s10, s11⟩ := sto_box Z3.out
          obtain ⟨⟨r0, r1, r2⟩, ⟨r3, r4, r5⟩, ⟨r6, r7, r8⟩, r9, r10, r11⟩ := sto_box Y3.out
          simp only at s0 s1 s2 s3 s4 s5 s6 s7 s8 s9 s10 s11 r0 r1 r2 r3 r4 r5 r6 r7 r8 r9 r10 r11
          clear s0 s1 s2 s3 s4 s5 s6 s7 s8 s9 s10 s11 r0 r1 r2 r3 r4 r5 r6 r7 r8 r9 r10 r11
          have al := (Below.refl w3.heap.size w3).alloc (Nat.le_refl _) (.cells #[.bool false, .int .i64 x1, .int .i64 x2, .int .i64 x3, .int .i64 x4] 48)
          have zf := heap_alloc_new w3 (.cells #[.bool false, .int .i64 x1, .int .i64 x2, .int .i64 x3, .int .i64 x4] 48)
          have ZU := Lib.hid ((al.block _ (heapsz Z3.out)).trans Z3.out); have YU := Lib.hid ((al.block _ (heapsz Y3.out)).trans Y3.out)
          obtain ⟨⟨s0, s1, s2⟩, ⟨s3, s4, s5⟩, ⟨s6, s7, s8⟩, s9, s10, s11⟩ := sto_box ZU.out
          obtain ⟨⟨r0, r1, r2⟩, ⟨r3, r4, r5⟩, ⟨r6, r7, r8⟩, r9, r10, r11⟩ := sto_box YU.out
          simp only at s0 s1 s2 s3 s4 s5 s6 s7 s8 s9 s10 s11 r0 r1 r2 r3 r4 r5 r6 r7 r8 r9 r10 r11
          have fa := cell_of_row _ _ 0 _ 48 (0, 0) zf
          simp at fa
          obtain ⟨w4, hw4⟩ : ∃ W, w3.alloc (.cells #[.bool false, .int .i64 x1, .int .i64 x2, .int .i64 x3, .int .i64 x4] 48) = W := ⟨_, rfl⟩
          have HW4 := Lib.hid hw4
          have HB4 := Lib.hid (HB3.out.trans (al.mono HB3.out.size)); have Z4 := ZU; have Y4 := YU; have Fa_4 := Lib.hid zf
          rw [hw4] at HB4 Z4 Y4 Fa_4
          clear al zf ZU YU hw4 Z3 Y3
          go_wp2_with fail
          rw [HW4.out]
          refine (KFR.out _ HB4.out).mono ?_
          rintro e w5 ⟨rfl, hb⟩
          have HB5 := Lib.hid (HB4.out.trans (hb.mono HB4.out.size)); have Z5 := Lib.hid ((hb.block _ (heapsz Z4.out)).trans Z4.out); have Y5 := Lib.hid ((hb.block _ (heapsz Y4.out)).trans Y4.out)
          have Fa_5 := Lib.hid ((hb.block _ (heapsz Fa_4.out)).trans Fa_4.out)
          clear hb s0 s1 s2 s3 s4 s5 s6 s7 s8 s9 s10 s11 r0 r1 r2 r3 r4 r5 r6 r7 r8 r9 r10 r11 fa Z4 Y4 Fa_4
          obtain ⟨⟨s0, s1, s2⟩, ⟨s3, s4, s5⟩, ⟨s6, s7, s8⟩, s9, s10, s11⟩ := sto_box Z5.out
          obtain ⟨⟨r0, r1, r2⟩, ⟨r3, r4, r5⟩, ⟨r6, r7, r8⟩, r9, r10, r11⟩ := sto_box Y5.out
          simp only at s0 s1 s2 s3 s4 s5 s6 s7 s8 s9 s10 s11 r0 r1 r2 r3 r4 r5 r6 r7 r8 r9 r10 r11
          have fa := cell_of_row _ _ 0 _ 48 (0, 0) Fa_5.out
          simp at fa
          clear s0 s1 s2 s3 s4 s5 s6 s7 s8 s9 s10 s11 r0 r1 r2 r3 r4 r5 r6 r7 r8 r9 r10 r11 fa
          have al := (Below.refl w5.heap.size w5).alloc (Nat.le_refl _) (.cells #[.bool L2, .int .i64 y1, .int .i64 y2, .int .i64 y3, .int .i64 y4] 48)
          have zf := heap_alloc_new w5 (.cells #[.bool L2, .int .i64 y1, .int .i64 y2, .int .i64 y3, .int .i64 y4] 48)
          have ZU := Lib.hid ((al.block _ (heapsz Z5.out)).trans Z5.out); have YU := Lib.hid ((al.block _ (heapsz Y5.out)).trans Y5.out)
          obtain ⟨⟨s0, s1, s2⟩, ⟨s3, s4, s5⟩, ⟨s6, s7, s8⟩, s9, s10, s11⟩ := sto_box ZU.out
          obtain ⟨⟨r0, r1, r2⟩, ⟨r3, r4, r5⟩, ⟨r6, r7, r8⟩, r9, r10, r11⟩ := sto_box YU.out
          simp only at s0 s1 s2 s3 s4 s5 s6 s7 s8 s9 s10 s11 r0 r1 r2 r3 r4 r5 r6 r7 r8 r9 r10 r11
          have FaU := Lib.hid ((al.block _ (heapsz Fa_5.out)).trans Fa_5.out)
          have fa := cell_of_row _ _ 0 _ 48 (0, 0) FaU.out
          simp at fa
          have fb := cell_of_row _ _ 0 _ 48 (0, 0) zf
          simp at fb
          obtain ⟨w6, hw6⟩ : ∃ W, w5.alloc (.cells #[.bool L2, .int .i64 y1, .int .i64 y2, .int .i64 y3, .int .i64 y4] 48) = W := ⟨_, rfl⟩
          have HW6 := Lib.hid hw6
          have HB6 := Lib.hid (HB5.out.trans (al.mono HB5.out.size)); have Z6 := ZU; have Y6 := YU; have Fb_6 := Lib.hid zf
          have Fa_6 := FaU
          rw [hw6] at HB6 Z6 Y6 Fb_6 Fa_6
          clear al zf ZU YU FaU hw6 Z5 Y5 Fa_5
          go_wp2_with fail
          rw [HW6.out]
          refine (KBS.out _ HB6.out).mono ?_
          rintro e w7 ⟨rfl, hb⟩
          have HB7 := Lib.hid (HB6.out.trans (hb.mono HB6.out.size)); have Z7 := Lib.hid ((hb.block _ (heapsz Z6.out)).trans Z6.out); have Y7 := Lib.hid ((hb.block _ (heapsz Y6.out)).trans Y6.out)
          have Fa_7 := Lib.hid ((hb.block _ (heapsz Fa_6.out)).trans Fa_6.out)
          have Fb_7 := Lib.hid ((hb.block _ (heapsz Fb_6.out)).trans Fb_6.out)
          clear hb s0 s1 s2 s3 s4 s5 s6 s7 s8 s9 s10 s11 r0 r1 r2 r3 r4 r5 r6 r7 r8 r9 r10 r11 fa fb Z6 Y6 Fa_6 Fb_6
          obtain ⟨⟨s0, s1, s2⟩, ⟨s3, s4, s5⟩, ⟨s6, s7, s8⟩, s9, s10, s11⟩ := sto_box Z7.out
          obtain ⟨⟨r0, r1, r2⟩, ⟨r3, r4, r5⟩, ⟨r6, r7, r8⟩, r9, r10, r11⟩ := sto_box Y7.out
          simp only at s0 s1 s2 s3 s4 s5 s6 s7 s8 s9 s10 s11 r0 r1 r2 r3 r4 r5 r6 r7 r8 r9 r10 r11
          have fa := cell_of_row _ _ 0 _ 48 (0, 0) Fa_7.out
          simp at fa
          have fb := cell_of_row _ _ 0 _ 48 (0, 0) Fb_7.out
          simp at fb
          go_wp2_with fail
          refine (KBR.out _ HB7.out).mono ?_
          rintro e w8 ⟨rfl, hb⟩
          have HB8 := Lib.hid (HB7.out.trans (hb.mono HB7.out.size)); have Z8 := Lib.hid ((hb.block _ (heapsz Z7.out)).trans Z7.out); have Y8 := Lib.hid ((hb.block _ (heapsz Y7.out)).trans Y7.out)
          have Fa_8 := Lib.hid ((hb.block _ (heapsz Fa_7.out)).trans Fa_7.out)
          have Fb_8 := Lib.hid ((hb.block _ (heapsz Fb_7.out)).trans Fb_7.out)
          clear hb s0 s1 s2 s3 s4 s5 s6 s7 s8 s9 s10 s11 r0 r1 r2 r3 r4 r5 r6 r7 r8 r9 r10 r11 fa fb Z7 Y7 Fa_7 Fb_7
          obtain ⟨⟨s0, s1, s2⟩, ⟨s3, s4, s5⟩, ⟨s6, s7, s8⟩, s9, s10, s11⟩ := sto_box Z8.out
          obtain ⟨⟨r0, r1, r2⟩, ⟨r3, r4, r5⟩, ⟨r6, r7, r8⟩, r9, r10, r11⟩ := sto_box Y8.out
          simp only at s0 s1 s2 s3 s4 s5 s6 s7 s8 s9 s10 s11 r0 r1 r2 r3 r4 r5 r6 r7 r8 r9 r10 r11
          have fa := cell_of_row _ _ 0 _ 48 (0, 0) Fa_8.out
          simp at fa
          have fb := cell_of_row _ _ 0 _ 48 (0, 0) Fb_8.out
          simp at fb
          go_wp2_with fail
          go_ret
          exact ⟨rfl, HB0.out.trans (HB8.out.mono HB0.out.size)⟩
        | true =>
          obtain rfl := hLL rfl
          clear hLL
          go_enter Tryd.func35, Tryd.ntmps35
          go_wp2_with fail
          rw [HW1.out]
          refine (KST.out _ HB1.out).mono ?_
          rintro e w2 ⟨rfl, hb⟩
          have HB2 := Lib.hid (HB1.out.trans (hb.mono HB1.out.size)); have Z2 := Lib.hid ((hb.block _ (heapsz Z1.out)).trans Z1.out); have Y2 := Lib.hid ((hb.block _ (heapsz Y1.out)).trans Y1.out)
          clear hb s0 s1 s2 s3 s4 s5 s6 s7 s8 s9 s10 s11 r0 r1 r2 r3 r4 r5 r6 r7 r8 r9 r10 r11 Z1 Y1
          obtain ⟨⟨s0, s1, s2⟩, ⟨s3, s4, s5⟩, ⟨s6, s7, s8⟩, s9, s10, s11⟩ := sto_box Z2.out
          obtain ⟨⟨r0, r1, r2⟩, ⟨r3, r4, r5⟩, ⟨r6, r7, r8⟩, r9, r10, r11⟩ := sto_box Y2.out
          simp only at s0 s1 s2 s3 s4 s5 s6 s7 s8 s9 s10 s11 r0 r1 r2 r3 r4 r5 r6 r7 r8 r9 r10 r11
          go_wp2_with fail
          refine (KFS.out _ HB2.out).mono ?_
          rintro e w3 ⟨rfl, hb⟩
          have HB3 := Lib.hid (HB2.out.trans (hb.mono HB2.out.size)); have Z3 := Lib.hid ((hb.block _ (heapsz Z2.out)).trans Z2.out); have Y3 := Lib.hid ((hb.block _ (heapsz Y2.out)).trans Y2.out)
          clear hb s0 s1 s2 s3 s4 s5 s6 s7 s8 s9 s10 s11 r0 r1 r2 r3 r4 r5 r6 r7 r8 r9 r10 r11 Z2 Y2
          obtain ⟨⟨s0, s1, s2⟩, ⟨s3, s4, s5⟩, ⟨s6, s7, s8⟩, s9, s10, s11⟩ := sto_box Z3.out
          obtain ⟨⟨r0, r1, r2⟩, ⟨r3, r4, r5⟩, ⟨r6, r7, r8⟩, r9, r10, r11⟩ := sto_box Y3.out
          simp only at s0 s1 s2 s3 s4 s5 s6 s7 s8 s9 s10 s11 r0 r1 r2 r3 r4 r5 r6 r7 r8 r9 r10 r11
          clear s0 s1 s2 s3 s4 s5 s6 s7 s8 s9 s10 s11 r0 r1 r2 r3 r4 r5 r6 r7 r8 r9 r10 r11
          have al := (Below.refl w3.heap.size w3).alloc (Nat.le_refl _) (.cells #[.bool true, .int .i64 x1, .int .i64 x2, .int .i64 x3, .int .i64 x4] 48)
          have zf := heap_alloc_new w3 (.cells #[.bool true, .int .i64 x1, .int .i64 x2, .int .i64 x3, .int .i64 x4] 48)
          have ZU := Lib.hid ((al.block _ (heapsz Z3.out)).trans Z3.out); have YU := Lib.hid ((al.block _ (heapsz Y3.out)).trans Y3.out)
          obtain ⟨⟨s0, s1, s2⟩, ⟨s3, s4, s5⟩, ⟨s6, s7, s8⟩, s9, s10, s11⟩ := sto_box ZU.out
          obtain ⟨⟨r0, r1, r2⟩, ⟨r3, r4, r5⟩, ⟨r6, r7, r8⟩, r9, r10, r11⟩ := sto_box YU.out
          simp only at s0 s1 s2 s3 s4 s5 s6 s7 s8 s9 s10 s11 r0 r1 r2 r3 r4 r5 r6 r7 r8 r9 r10 r11
          have fa := cell_of_row _ _ 0 _ 48 (0, 0) zf
          simp at fa
          obtain ⟨w4, hw4⟩ : ∃ W, w3.alloc (.cells #[.bool true, .int .i64 x1, .int .i64 x2, .int .i64 x3, .int .i64 x4] 48) = W := ⟨_, rfl⟩
          have HW4 := Lib.hid hw4
          have HB4 := Lib.hid (HB3.out.trans (al.mono HB3.out.size)); have Z4 := ZU; have Y4 := YU; have Fa_4 := Lib.hid zf
          rw [hw4] at HB4 Z4 Y4 Fa_4
          clear al zf ZU YU hw4 Z3 Y3
          go_wp2_with fail
          rw [HW4.out]
          refine (KFR.out _ HB4.out).mono ?_
          rintro e w5 ⟨rfl, hb⟩
          have HB5 := Lib.hid (HB4.out.trans (hb.mono HB4.out.size)); have Z5 := Lib.hid ((hb.block _ (heapsz Z4.out)).trans Z4.out); have Y5 := Lib.hid ((hb.block _ (heapsz Y4.out)).trans Y4.out)
          have Fa_5 := Lib.hid ((hb.block _ (heapsz Fa_4.out)).trans Fa_4.out)
          clear hb s0 s1 s2 s3 s4 s5 s6 s7 s8 s9 s10 s11 r0 r1 r2 r3 r4 r5 r6 r7 r8 r9 r10 r11 fa Z4 Y4 Fa_4
          obtain ⟨⟨s0, s1, s2⟩, ⟨s3, s4, s5⟩, ⟨s6, s7, s8⟩, s9, s10, s11⟩ := sto_box Z5.out
          obtain ⟨⟨r0, r1, r2⟩, ⟨r3, r4, r5⟩, ⟨r6, r7, r8⟩, r9, r10, r11⟩ := sto_box Y5.out
          simp only at s0 s1 s2 s3 s4 s5 s6 s7 s8 s9 s10 s11 r0 r1 r2 r3 r4 r5 r6 r7 r8 r9 r10 r11
          have fa := cell_of_row _ _ 0 _ 48 (0, 0) Fa_5.out
          simp at fa
          clear s0 s1 s2 s3 s4 s5 s6 s7 s8 s9 s10 s11 r0 r1 r2 r3 r4 r5 r6 r7 r8 r9 r10 r11 fa
          have al := (Below.refl w5.heap.size w5).alloc (Nat.le_refl _) (.cells #[.bool true, .int .i64 y1, .int .i64 y2, .int .i64 y3, .int .i64 y4] 48)
          have zf := heap_alloc_new w5 (.cells #[.bool true, .int .i64 y1, .int .i64 y2, .int .i64 y3, .int .i64 y4] 48)
          have ZU := Lib.hid ((al.block _ (heapsz Z5.out)).trans Z5.out); have YU := Lib.hid ((al.block _ (heapsz Y5.out)).trans Y5.out)
          obtain ⟨⟨s0, s1, s2⟩, ⟨s3, s4, s5⟩, ⟨s6, s7, s8⟩, s9, s10, s11⟩ := sto_box ZU.out
          obtain ⟨⟨r0, r1, r2⟩, ⟨r3, r4, r5⟩, ⟨r6, r7, r8⟩, r9, r10, r11⟩ := sto_box YU.out
          simp only at s0 s1 s2 s3 s4 s5 s6 s7 s8 s9 s10 s11 r0 r1 r2 r3 r4 r5 r6 r7 r8 r9 r10 r11
          have FaU := Lib.hid ((al.block _ (heapsz Fa_5.out)).trans Fa_5.out)
          have fa := cell_of_row _ _ 0 _ 48 (0, 0) FaU.out
          simp at fa
          have fb := cell_of_row _ _ 0 _ 48 (0, 0) zf
          simp at fb
          obtain ⟨w6, hw6⟩ : ∃ W, w5.alloc (.cells #[.bool true, .int .i64 y1, .int .i64 y2, .int .i64 y3, .int .i64 y4] 48) = W := ⟨_, rfl⟩
          have HW6 := Lib.hid hw6
          have HB6 := Lib.hid (HB5.out.trans (al.mono HB5.out.size)); have Z6 := ZU; have Y6 := YU; have Fb_6 := Lib.hid zf
          have Fa_6 := FaU
          rw [hw6] at HB6 Z6 Y6 Fb_6 Fa_6
          clear al zf ZU YU FaU hw6 Z5 Y5 Fa_5
          go_wp2_with fail
          rw [HW6.out]
          refine (KBS.out _ HB6.out).mono ?_
          rintro e w7 ⟨rfl, hb⟩
          have HB7 := Lib.hid (HB6.out.trans (hb.mono HB6.out.size)); have Z7 := Lib.hid ((hb.block _ (heapsz Z6.out)).trans Z6.out); have Y7 := Lib.hid ((hb.block _ (heapsz Y6.out)).trans Y6.out)
          have Fa_7 := Lib.hid ((hb.block _ (heapsz Fa_6.out)).trans Fa_6.out)
          have Fb_7 := Lib.hid ((hb.block _ (heapsz Fb_6.out)).trans Fb_6.out)
          clear hb s0 s1 s2 s3 s4 s5 s6 s7 s8 s9 s10 s11 r0 r1 r2 r3 r4 r5 r6 r7 r8 r9 r10 r11 fa fb Z6 Y6 Fa_6 Fb_6
          obtain ⟨⟨s0, s1, s2⟩, ⟨s3, s4, s5⟩, ⟨s6, s7, s8⟩, s9, s10, s11⟩ := sto_box Z7.out
          obtain ⟨⟨r0, r1, r2⟩, ⟨r3, r4, r5⟩, ⟨r6, r7, r8⟩, r9, r10, r11⟩ := sto_box Y7.out
          simp only at s0 s1 s2 s3 s4 s5 s6 s7 s8 s9 s10 s11 r0 r1 r2 r3 r4 r5 r6 r7 r8 r9 r10 r11
          have fa := cell_of_row _ _ 0 _ 48 (0, 0) Fa_7.out
          simp at fa
          have fb := cell_of_row _ _ 0 _ 48 (0, 0) Fb_7.out
          simp at fb
          go_wp2_with fail
          refine (KBR.out _ HB7.out).mono ?_
          rintro e w8 ⟨rfl, hb⟩
          have HB8 := Lib.hid (HB7.out.trans (hb.mono HB7.out.size)); have Z8 := Lib.hid ((hb.block _ (heapsz Z7.out)).trans Z7.out); have Y8 := Lib.hid ((hb.block _ (heapsz Y7.out)).trans Y7.out)
          have Fa_8 := Lib.hid ((hb.block _ (heapsz Fa_7.out)).trans Fa_7.out)
          have Fb_8 := Lib.hid ((hb.block _ (heapsz Fb_7.out)).trans Fb_7.out)
          clear hb s0 s1 s2 s3 s4 s5 s6 s7 s8 s9 s10 s11 r0 r1 r2 r3 r4 r5 r6 r7 r8 r9 r10 r11 fa fb Z7 Y7 Fa_7 Fb_7
          obtain ⟨⟨s0, s1, s2⟩, ⟨s3, s4, s5⟩, ⟨s6, s7, s8⟩, s9, s10, s11⟩ := sto_box Z8.out
          obtain ⟨⟨r0, r1, r2⟩, ⟨r3, r4, r5⟩, ⟨r6, r7, r8⟩, r9, r10, r11⟩ := sto_box Y8.out
          simp only at s0 s1 s2 s3 s4 s5 s6 s7 s8 s9 s10 s11 r0 r1 r2 r3 r4 r5 r6 r7 r8 r9 r10 r11
          have fa := cell_of_row _ _ 0 _ 48 (0, 0) Fa_8.out
          simp at fa
          have fb := cell_of_row _ _ 0 _ 48 (0, 0) Fb_8.out
          simp at fb
          go_wp2_with fail
          go_ret
          exact ⟨rfl, HB0.out.trans (HB8.out.mono HB0.out.size)⟩
      | some p =>
        have hbs : bstI S = ((p : Int), S.cost p, 0) := by unfold bstI; rw [hS, hp]; rfl
        obtain ⟨c, hc⟩ : ∃ z, S.cost p = z := ⟨_, rfl⟩
        rw [hc] at hbs
        have KBS : Hid (∀ u, Below w1.heap.size w1 u → Calls Tryd.prog 28 #[.agg #[.int .i64 S.st.a, .int .i64 S.st.b, .int .i64 S.st.c, .int .i64 S.yd.a, .int .i64 S.yd.b, .int .i64 S.yd.c, .int .i64 S.rate, .int .i64 S.weeks, .int .i64 S.land, .slice AS ns cs, .slice AI ni ci, .slice AW nw cw]] u fun e w' => e = .returned (.tuple #[.int .i64 (p : Int), .int .i64 c, .int .i64 0]) ∧ Below u.heap.size u w') := Lib.hid fun u hu => by have := Best_any (HI.out.up hu); simp only at this; rw [hbs] at this; exact this
        clear hbr hbs hbb hp hq hB hS hh hc
        cases L with
        | false =>
          clear hLL
          go_enter Tryd.func35, Tryd.ntmps35
          go_wp2_with fail
          rw [HW1.out]
          refine (KST.out _ HB1.out).mono ?_
          rintro e w2 ⟨rfl, hb⟩
          have HB2 := Lib.hid (HB1.out.trans (hb.mono HB1.out.size)); have Z2 := Lib.hid ((hb.block _ (heapsz Z1.out)).trans Z1.out); have Y2 := Lib.hid ((hb.block _ (heapsz Y1.out)).trans Y1.out)
          clear hb s0 s1 s2 s3 s4 s5 s6 s7 s8 s9 s10 s11 r0 r1 r2 r3 r4 r5 r6 r7 r8 r9 r10 r11 Z1 Y1
          obtain ⟨⟨s0, s1, s2⟩, ⟨s3, s4, s5⟩, ⟨s6, s7, s8⟩, s9, s10, s11⟩ := sto_box Z2.out
          obtain ⟨⟨r0, r1, r2⟩, ⟨r3, r4, r5⟩, ⟨r6, r7, r8⟩, r9, r10, r11⟩ := sto_box Y2.out
          simp only at s0 s1 s2 s3 s4 s5 s6 s7 s8 s9 s10 s11 r0 r1 r2 r3 r4 r5 r6 r7 r8 r9 r10 r11
          go_wp2_with fail
          refine (KFS.out _ HB2.out).mono ?_
          rintro e w3 ⟨rfl, hb⟩
          have HB3 := Lib.hid (HB2.out.trans (hb.mono HB2.out.size)); have Z3 := Lib.hid ((hb.block _ (heapsz Z2.out)).trans Z2.out); have Y3 := Lib.hid ((hb.block _ (heapsz Y2.out)).trans Y2.out)
          clear hb s0 s1 s2 s3 s4 s5 s6 s7 s8 s9 s10 s11 r0 r1 r2 r3 r4 r5 r6 r7 r8 r9 r10 r11 Z2 Y2
          obtain ⟨⟨s0, s1, s2⟩, ⟨s3, s4, s5⟩, ⟨s6, s7, s8⟩, s9, s10, s11⟩ := sto_box Z3.out
          obtain ⟨⟨r0, r1, r2⟩, ⟨r3, r4, r5⟩, ⟨r6, r7, r8⟩, r9, r10, r11⟩ := sto_box Y3.out
          simp only at s0 s1 s2 s3 s4 s5 s6 s7 s8 s9 s10 s11 r0 r1 r2 r3 r4 r5 r6 r7 r8 r9 r10 r11
          clear s0 s1 s2 s3 s4 s5 s6 s7 s8 s9 s10 s11 r0 r1 r2 r3 r4 r5 r6 r7 r8 r9 r10 r11
          have al := (Below.refl w3.heap.size w3).alloc (Nat.le_refl _) (.cells #[.bool false, .int .i64 x1, .int .i64 x2, .int .i64 x3, .int .i64 x4] 48)
          have zf := heap_alloc_new w3 (.cells #[.bool false, .int .i64 x1, .int .i64 x2, .int .i64 x3, .int .i64 x4] 48)
          have ZU := Lib.hid ((al.block _ (heapsz Z3.out)).trans Z3.out); have YU := Lib.hid ((al.block _ (heapsz Y3.out)).trans Y3.out)
          obtain ⟨⟨s0, s1, s2⟩, ⟨s3, s4, s5⟩, ⟨s6, s7, s8⟩, s9, s10, s11⟩ := sto_box ZU.out
          obtain ⟨⟨r0, r1, r2⟩, ⟨r3, r4, r5⟩, ⟨r6, r7, r8⟩, r9, r10, r11⟩ := sto_box YU.out
          simp only at s0 s1 s2 s3 s4 s5 s6 s7 s8 s9 s10 s11 r0 r1 r2 r3 r4 r5 r6 r7 r8 r9 r10 r11
          have fa := cell_of_row _ _ 0 _ 48 (0, 0) zf
          simp at fa
          obtain ⟨w4, hw4⟩ : ∃ W, w3.alloc (.cells #[.bool false, .int .i64 x1, .int .i64 x2, .int .i64 x3, .int .i64 x4] 48) = W := ⟨_, rfl⟩
          have HW4 := Lib.hid hw4
          have HB4 := Lib.hid (HB3.out.trans (al.mono HB3.out.size)); have Z4 := ZU; have Y4 := YU; have Fa_4 := Lib.hid zf
          rw [hw4] at HB4 Z4 Y4 Fa_4
          clear al zf ZU YU hw4 Z3 Y3
          go_wp2_with fail
          rw [HW4.out]
          refine (KFR.out _ HB4.out).mono ?_
          rintro e w5 ⟨rfl, hb⟩
          have HB5 := Lib.hid (HB4.out.trans (hb.mono HB4.out.size)); have Z5 := Lib.hid ((hb.block _ (heapsz Z4.out)).trans Z4.out); have Y5 := Lib.hid ((hb.block _ (heapsz Y4.out)).trans Y4.out)
          have Fa_5 := Lib.hid ((hb.block _ (heapsz Fa_4.out)).trans Fa_4.out)
          clear hb s0 s1 s2 s3 s4 s5 s6 s7 s8 s9 s10 s11 r0 r1 r2 r3 r4 r5 r6 r7 r8 r9 r10 r11 fa Z4 Y4 Fa_4
          obtain ⟨⟨s0, s1, s2⟩, ⟨s3, s4, s5⟩, ⟨s6, s7, s8⟩, s9, s10, s11⟩ := sto_box Z5.out
          obtain ⟨⟨r0, r1, r2⟩, ⟨r3, r4, r5⟩, ⟨r6, r7, r8⟩, r9, r10, r11⟩ := sto_box Y5.out
          simp only at s0 s1 s2 s3 s4 s5 s6 s7 s8 s9 s10 s11 r0 r1 r2 r3 r4 r5 r6 r7 r8 r9 r10 r11
          have fa := cell_of_row _ _ 0 _ 48 (0, 0) Fa_5.out
          simp at fa
          clear s0 s1 s2 s3 s4 s5 s6 s7 s8 s9 s10 s11 r0 r1 r2 r3 r4 r5 r6 r7 r8 r9 r10 r11 fa
          have al := (Below.refl w5.heap.size w5).alloc (Nat.le_refl _) (.cells #[.bool L2, .int .i64 y1, .int .i64 y2, .int .i64 y3, .int .i64 y4] 48)
          have zf := heap_alloc_new w5 (.cells #[.bool L2, .int .i64 y1, .int .i64 y2, .int .i64 y3, .int .i64 y4] 48)
          have ZU := Lib.hid ((al.block _ (heapsz Z5.out)).trans Z5.out); have YU := Lib.hid ((al.block _ (heapsz Y5.out)).trans Y5.out)
          obtain ⟨⟨s0, s1, s2⟩, ⟨s3, s4, s5⟩, ⟨s6, s7, s8⟩, s9, s10, s11⟩ := sto_box ZU.out
          obtain ⟨⟨r0, r1, r2⟩, ⟨r3, r4, r5⟩, ⟨r6, r7, r8⟩, r9, r10, r11⟩ := sto_box YU.out
          simp only at s0 s1 s2 s3 s4 s5 s6 s7 s8 s9 s10 s11 r0 r1 r2 r3 r4 r5 r6 r7 r8 r9 r10 r11
          have FaU := Lib.hid ((al.block _ (heapsz Fa_5.out)).trans Fa_5.out)
          have fa := cell_of_row _ _ 0 _ 48 (0, 0) FaU.out
          simp at fa
          have fb := cell_of_row _ _ 0 _ 48 (0, 0) zf
          simp at fb
          obtain ⟨w6, hw6⟩ : ∃ W, w5.alloc (.cells #[.bool L2, .int .i64 y1, .int .i64 y2, .int .i64 y3, .int .i64 y4] 48) = W := ⟨_, rfl⟩
          have HW6 := Lib.hid hw6
          have HB6 := Lib.hid (HB5.out.trans (al.mono HB5.out.size)); have Z6 := ZU; have Y6 := YU; have Fb_6 := Lib.hid zf
          have Fa_6 := FaU
          rw [hw6] at HB6 Z6 Y6 Fb_6 Fa_6
          clear al zf ZU YU FaU hw6 Z5 Y5 Fa_5
          go_wp2_with fail
          rw [HW6.out]
          refine (KBS.out _ HB6.out).mono ?_
          rintro e w7 ⟨rfl, hb⟩
          have HB7 := Lib.hid (HB6.out.trans (hb.mono HB6.out.size)); have Z7 := Lib.hid ((hb.block _ (heapsz Z6.out)).trans Z6.out); have Y7 := Lib.hid ((hb.block _ (heapsz Y6.out)).trans Y6.out)
          have Fa_7 := Lib.hid ((hb.block _ (heapsz Fa_6.out)).trans Fa_6.out)
          have Fb_7 := Lib.hid ((hb.block _ (heapsz Fb_6.out)).trans Fb_6.out)
          clear hb s0 s1 s2 s3 s4 s5 s6 s7 s8 s9 s10 s11 r0 r1 r2 r3 r4 r5 r6 r7 r8 r9 r10 r11 fa fb Z6 Y6 Fa_6 Fb_6
          obtain ⟨⟨s0, s1, s2⟩, ⟨s3, s4, s5⟩, ⟨s6, s7, s8⟩, s9, s10, s11⟩ := sto_box Z7.out
          obtain ⟨⟨r0, r1, r2⟩, ⟨r3, r4, r5⟩, ⟨r6, r7, r8⟩, r9, r10, r11⟩ := sto_box Y7.out
          simp only at s0 s1 s2 s3 s4 s5 s6 s7 s8 s9 s10 s11 r0 r1 r2 r3 r4 r5 r6 r7 r8 r9 r10 r11
          have fa := cell_of_row _ _ 0 _ 48 (0, 0) Fa_7.out
          simp at fa
          have fb := cell_of_row _ _ 0 _ 48 (0, 0) Fb_7.out
          simp at fb
          go_wp2_with fail
          refine (KBR.out _ HB7.out).mono ?_
          rintro e w8 ⟨rfl, hb⟩
          have HB8 := Lib.hid (HB7.out.trans (hb.mono HB7.out.size)); have Z8 := Lib.hid ((hb.block _ (heapsz Z7.out)).trans Z7.out); have Y8 := Lib.hid ((hb.block _ (heapsz Y7.out)).trans Y7.out)
          have Fa_8 := Lib.hid ((hb.block _ (heapsz Fa_7.out)).trans Fa_7.out)
          have Fb_8 := Lib.hid ((hb.block _ (heapsz Fb_7.out)).trans Fb_7.out)
          clear hb s0 s1 s2 s3 s4 s5 s6 s7 s8 s9 s10 s11 r0 r1 r2 r3 r4 r5 r6 r7 r8 r9 r10 r11 fa fb Z7 Y7 Fa_7 Fb_7
          obtain ⟨⟨s0, s1, s2⟩, ⟨s3, s4, s5⟩, ⟨s6, s7, s8⟩, s9, s10, s11⟩ := sto_box Z8.out
          obtain ⟨⟨r0, r1, r2⟩, ⟨r3, r4, r5⟩, ⟨r6, r7, r8⟩, r9, r10, r11⟩ := sto_box Y8.out
          simp only at s0 s1 s2 s3 s4 s5 s6 s7 s8 s9 s10 s11 r0 r1 r2 r3 r4 r5 r6 r7 r8 r9 r10 r11
          have fa := cell_of_row _ _ 0 _ 48 (0, 0) Fa_8.out
          simp at fa
          have fb := cell_of_row _ _ 0 _ 48 (0, 0) Fb_8.out
          simp at fb
          go_wp2_with fail
          go_ret
          exact ⟨rfl, HB0.out.trans (HB8.out.mono HB0.out.size)⟩
        | true =>
          obtain rfl := hLL rfl
          clear hLL
          go_enter Tryd.func35, Tryd.ntmps35
          go_wp2_with fail
          rw [HW1.out]
          refine (KST.out _ HB1.out).mono ?_
          rintro e w2 ⟨rfl, hb⟩
          have HB2 := Lib.hid (HB1.out.trans (hb.mono HB1.out.size)); have Z2 := Lib.hid ((hb.block _ (heapsz Z1.out)).trans Z1.out); have Y2 := Lib.hid ((hb.block _ (heapsz Y1.out)).trans Y1.out)
          clear hb s0 s1 s2 s3 s4 s5 s6 s7 s8 s9 s10 s11 r0 r1 r2 r3 r4 r5 r6 r7 r8 r9 r10 r11 Z1 Y1
          obtain ⟨⟨s0, s1, s2⟩, ⟨s3, s4, s5⟩, ⟨s6, s7, s8⟩, s9, s10, s11⟩ := sto_box Z2.out
          obtain ⟨⟨r0, r1, r2⟩, ⟨r3, r4, r5⟩, ⟨r6, r7, r8⟩, r9, r10, r11⟩ := sto_box Y2.out
          simp only at s0 s1 s2 s3 s4 s5 s6 s7 s8 s9 s10 s11 r0 r1 r2 r3 r4 r5 r6 r7 r8 r9 r10 r11
          go_wp2_with fail
          refine (KFS.out _ HB2.out).mono ?_
          rintro e w3 ⟨rfl, hb⟩
          have HB3 := Lib.hid (HB2.out.trans (hb.mono HB2.out.size)); have Z3 := Lib.hid ((hb.block _ (heapsz Z2.out)).trans Z2.out); have Y3 := Lib.hid ((hb.block _ (heapsz Y2.out)).trans Y2.out)
          clear hb s0 s1 s2 s3 s4 s5 s6 s7 s8 s9 s10 s11 r0 r1 r2 r3 r4 r5 r6 r7 r8 r9 r10 r11 Z2 Y2
          obtain ⟨⟨s0, s1, s2⟩, ⟨s3, s4, s5⟩, ⟨s6, s7, s8⟩, s9, s10, s11⟩ := sto_box Z3.out
          obtain ⟨⟨r0, r1, r2⟩, ⟨r3, r4, r5⟩, ⟨r6, r7, r8⟩, r9, r10, r11⟩ := sto_box Y3.out
          simp only at s0 s1 s2 s3 s4 s5 s6 s7 s8 s9 s10 s11 r0 r1 r2 r3 r4 r5 r6 r7 r8 r9 r10 r11
          clear s0 s1 s2 s3 s4 s5 s6 s7 s8 s9 s10 s11 r0 r1 r2 r3 r4 r5 r6 r7 r8 r9 r10 r11
          have al := (Below.refl w3.heap.size w3).alloc (Nat.le_refl _) (.cells #[.bool true, .int .i64 x1, .int .i64 x2, .int .i64 x3, .int .i64 x4] 48)
          have zf := heap_alloc_new w3 (.cells #[.bool true, .int .i64 x1, .int .i64 x2, .int .i64 x3, .int .i64 x4] 48)
          have ZU := Lib.hid ((al.block _ (heapsz Z3.out)).trans Z3.out); have YU := Lib.hid ((al.block _ (heapsz Y3.out)).trans Y3.out)
          obtain ⟨⟨s0, s1, s2⟩, ⟨s3, s4, s5⟩, ⟨s6, s7, s8⟩, s9, s10, s11⟩ := sto_box ZU.out
          obtain ⟨⟨r0, r1, r2⟩, ⟨r3, r4, r5⟩, ⟨r6, r7, r8⟩, r9, r10, r11⟩ := sto_box YU.out
          simp only at s0 s1 s2 s3 s4 s5 s6 s7 s8 s9 s10 s11 r0 r1 r2 r3 r4 r5 r6 r7 r8 r9 r10 r11
          have fa := cell_of_row _ _ 0 _ 48 (0, 0) zf
          simp at fa
          obtain ⟨w4, hw4⟩ : ∃ W, w3.alloc (.cells #[.bool true, .int .i64 x1, .int .i64 x2, .int .i64 x3, .int .i64 x4] 48) = W := ⟨_, rfl⟩
          have HW4 := Lib.hid hw4
          have HB4 := Lib.hid (HB3.out.trans (al.mono HB3.out.size)); have Z4 := ZU; have Y4 := YU; have Fa_4 := Lib.hid zf
          rw [hw4] at HB4 Z4 Y4 Fa_4
          clear al zf ZU YU hw4 Z3 Y3
          go_wp2_with fail
          rw [HW4.out]
          refine (KFR.out _ HB4.out).mono ?_
          rintro e w5 ⟨rfl, hb⟩
          have HB5 := Lib.hid (HB4.out.trans (hb.mono HB4.out.size)); have Z5 := Lib.hid ((hb.block _ (heapsz Z4.out)).trans Z4.out); have Y5 := Lib.hid ((hb.block _ (heapsz Y4.out)).trans Y4.out)
          have Fa_5 := Lib.hid ((hb.block _ (heapsz Fa_4.out)).trans Fa_4.out)
          clear hb s0 s1 s2 s3 s4 s5 s6 s7 s8 s9 s10 s11 r0 r1 r2 r3 r4 r5 r6 r7 r8 r9 r10 r11 fa Z4 Y4 Fa_4
          obtain ⟨⟨s0, s1, s2⟩, ⟨s3, s4, s5⟩, ⟨s6, s7, s8⟩, s9, s10, s11⟩ := sto_box Z5.out
          obtain ⟨⟨r0, r1, r2⟩, ⟨r3, r4, r5⟩, ⟨r6, r7, r8⟩, r9, r10, r11⟩ := sto_box Y5.out
          simp only at s0 s1 s2 s3 s4 s5 s6 s7 s8 s9 s10 s11 r0 r1 r2 r3 r4 r5 r6 r7 r8 r9 r10 r11
          have fa := cell_of_row _ _ 0 _ 48 (0, 0) Fa_5.out
          simp at fa
          clear s0 s1 s2 s3 s4 s5 s6 s7 s8 s9 s10 s11 r0 r1 r2 r3 r4 r5 r6 r7 r8 r9 r10 r11 fa
          have al := (Below.refl w5.heap.size w5).alloc (Nat.le_refl _) (.cells #[.bool true, .int .i64 y1, .int .i64 y2, .int .i64 y3, .int .i64 y4] 48)
          have zf := heap_alloc_new w5 (.cells #[.bool true, .int .i64 y1, .int .i64 y2, .int .i64 y3, .int .i64 y4] 48)
          have ZU := Lib.hid ((al.block _ (heapsz Z5.out)).trans Z5.out); have YU := Lib.hid ((al.block _ (heapsz Y5.out)).trans Y5.out)
          obtain ⟨⟨s0, s1, s2⟩, ⟨s3, s4, s5⟩, ⟨s6, s7, s8⟩, s9, s10, s11⟩ := sto_box ZU.out
          obtain ⟨⟨r0, r1, r2⟩, ⟨r3, r4, r5⟩, ⟨r6, r7, r8⟩, r9, r10, r11⟩ := sto_box YU.out
          simp only at s0 s1 s2 s3 s4 s5 s6 s7 s8 s9 s10 s11 r0 r1 r2 r3 r4 r5 r6 r7 r8 r9 r10 r11
          have FaU := Lib.hid ((al.block _ (heapsz Fa_5.out)).trans Fa_5.out)
          have fa := cell_of_row _ _ 0 _ 48 (0, 0) FaU.out
          simp at fa
          have fb := cell_of_row _ _ 0 _ 48 (0, 0) zf
          simp at fb
          obtain ⟨w6, hw6⟩ : ∃ W, w5.alloc (.cells #[.bool true, .int .i64 y1, .int .i64 y2, .int .i64 y3, .int .i64 y4] 48) = W := ⟨_, rfl⟩
          have HW6 := Lib.hid hw6
          have HB6 := Lib.hid (HB5.out.trans (al.mono HB5.out.size)); have Z6 := ZU; have Y6 := YU; have Fb_6 := Lib.hid zf
          have Fa_6 := FaU
          rw [hw6] at HB6 Z6 Y6 Fb_6 Fa_6
          clear al zf ZU YU FaU hw6 Z5 Y5 Fa_5
          go_wp2_with fail
          rw [HW6.out]
          refine (KBS.out _ HB6.out).mono ?_
          rintro e w7 ⟨rfl, hb⟩
          have HB7 := Lib.hid (HB6.out.trans (hb.mono HB6.out.size)); have Z7 := Lib.hid ((hb.block _ (heapsz Z6.out)).trans Z6.out); have Y7 := Lib.hid ((hb.block _ (heapsz Y6.out)).trans Y6.out)
          have Fa_7 := Lib.hid ((hb.block _ (heapsz Fa_6.out)).trans Fa_6.out)
          have Fb_7 := Lib.hid ((hb.block _ (heapsz Fb_6.out)).trans Fb_6.out)
          clear hb s0 s1 s2 s3 s4 s5 s6 s7 s8 s9 s10 s11 r0 r1 r2 r3 r4 r5 r6 r7 r8 r9 r10 r11 fa fb Z6 Y6 Fa_6 Fb_6
          obtain ⟨⟨s0, s1, s2⟩, ⟨s3, s4, s5⟩, ⟨s6, s7, s8⟩, s9, s10, s11⟩ := sto_box Z7.out
          obtain ⟨⟨r0, r1, r2⟩, ⟨r3, r4, r5⟩, ⟨r6, r7, r8⟩, r9, r10, r11⟩ := sto_box Y7.out
          simp only at s0 s1 s2 s3 s4 s5 s6 s7 s8 s9 s10 s11 r0 r1 r2 r3 r4 r5 r6 r7 r8 r9 r10 r11
          have fa := cell_of_row _ _ 0 _ 48 (0, 0) Fa_7.out
          simp at fa
          have fb := cell_of_row _ _ 0 _ 48 (0, 0) Fb_7.out
          simp at fb
          go_wp2_with fail
          refine (KBR.out _ HB7.out).mono ?_
          rintro e w8 ⟨rfl, hb⟩
          have HB8 := Lib.hid (HB7.out.trans (hb.mono HB7.out.size)); have Z8 := Lib.hid ((hb.block _ (heapsz Z7.out)).trans Z7.out); have Y8 := Lib.hid ((hb.block _ (heapsz Y7.out)).trans Y7.out)
          have Fa_8 := Lib.hid ((hb.block _ (heapsz Fa_7.out)).trans Fa_7.out)
          have Fb_8 := Lib.hid ((hb.block _ (heapsz Fb_7.out)).trans Fb_7.out)
          clear hb s0 s1 s2 s3 s4 s5 s6 s7 s8 s9 s10 s11 r0 r1 r2 r3 r4 r5 r6 r7 r8 r9 r10 r11 fa fb Z7 Y7 Fa_7 Fb_7
          obtain ⟨⟨s0, s1, s2⟩, ⟨s3, s4, s5⟩, ⟨s6, s7, s8⟩, s9, s10, s11⟩ := sto_box Z8.out
          obtain ⟨⟨r0, r1, r2⟩, ⟨r3, r4, r5⟩, ⟨r6, r7, r8⟩, r9, r10, r11⟩ := sto_box Y8.out
          simp only at s0 s1 s2 s3 s4 s5 s6 s7 s8 s9 s10 s11 r0 r1 r2 r3 r4 r5 r6 r7 r8 r9 r10 r11
          have fa := cell_of_row _ _ 0 _ 48 (0, 0) Fa_8.out
          simp at fa
          have fb := cell_of_row _ _ 0 _ 48 (0, 0) Fb_8.out
          simp at fb
          go_wp2_with fail
          go_ret
          exact ⟨rfl, HB0.out.trans (HB8.out.mono HB0.out.size)⟩
    | some q =>
      rw [hq] at hbb
      obtain ⟨p, hp, hle⟩ := hbb
      have hbr : bstI R = ((q : Int), R.cost q, 0) := by unfold bstI; rw [hB, hq]; rfl
      have hbs : bstI S = ((p : Int), S.cost p, 0) := by unfold bstI; rw [hS, hp]; rfl
      obtain ⟨c, hc⟩ : ∃ z, S.cost p = z := ⟨_, rfl⟩
      obtain ⟨d, hd⟩ : ∃ z, R.cost q = z := ⟨_, rfl⟩
      rw [hc] at hbs hle
      rw [hd] at hbr hle
      have KBR : Hid (∀ u, Below w1.heap.size w1 u → Calls Tryd.prog 28 #[.agg #[.int .i64 R.st.a, .int .i64 R.st.b, .int .i64 R.st.c, .int .i64 R.yd.a, .int .i64 R.yd.b, .int .i64 R.yd.c, .int .i64 R.rate, .int .i64 R.weeks, .int .i64 R.land, .slice BS ms ds, .slice BI mi di, .slice BW mw dw]] u fun e w' => e = .returned (.tuple #[.int .i64 (q : Int), .int .i64 d, .int .i64 0]) ∧ Below u.heap.size u w') := Lib.hid fun u hu => by have := Best_any (HJ.out.up hu); simp only at this; rw [hbr] at this; exact this
      have KBS : Hid (∀ u, Below w1.heap.size w1 u → Calls Tryd.prog 28 #[.agg #[.int .i64 S.st.a, .int .i64 S.st.b, .int .i64 S.st.c, .int .i64 S.yd.a, .int .i64 S.yd.b, .int .i64 S.yd.c, .int .i64 S.rate, .int .i64 S.weeks, .int .i64 S.land, .slice AS ns cs, .slice AI ni ci, .slice AW nw cw]] u fun e w' => e = .returned (.tuple #[.int .i64 (p : Int), .int .i64 c, .int .i64 0]) ∧ Below u.heap.size u w') := Lib.hid fun u hu => by have := Best_any (HI.out.up hu); simp only at this; rw [hbs] at this; exact this
      have g1 : d ≥ c := hle
      clear hbr hbs hp hq hB hS hh hc hd
      cases L with
      | false =>
        clear hLL
        go_enter Tryd.func35, Tryd.ntmps35
        go_wp2_with fail
        rw [HW1.out]
        refine (KST.out _ HB1.out).mono ?_
        rintro e w2 ⟨rfl, hb⟩
        have HB2 := Lib.hid (HB1.out.trans (hb.mono HB1.out.size)); have Z2 := Lib.hid ((hb.block _ (heapsz Z1.out)).trans Z1.out); have Y2 := Lib.hid ((hb.block _ (heapsz Y1.out)).trans Y1.out)
        clear hb s0 s1 s2 s3 s4 s5 s6 s7 s8 s9 s10 s11 r0 r1 r2 r3 r4 r5 r6 r7 r8 r9 r10 r11 Z1 Y1
        obtain ⟨⟨s0, s1, s2⟩, ⟨s3, s4, s5⟩, ⟨s6, s7, s8⟩, s9, s10, s11⟩ := sto_box Z2.out
        obtain ⟨⟨r0, r1, r2⟩, ⟨r3, r4, r5⟩, ⟨r6, r7, r8⟩, r9, r10, r11⟩ := sto_box Y2.out
        simp only at s0 s1 s2 s3 s4 s5 s6 s7 s8 s9 s10 s11 r0 r1 r2 r3 r4 r5 r6 r7 r8 r9 r10 r11
        go_wp2_with fail
        refine (KFS.out _ HB2.out).mono ?_
        rintro e w3 ⟨rfl, hb⟩
        have HB3 := Lib.hid (HB2.out.trans (hb.mono HB2.out.size)); have Z3 := Lib.hid ((hb.block _ (heapsz Z2.out)).trans Z2.out); have Y3 := Lib.hid ((hb.block _ (heapsz Y2.out)).trans Y2.out)
        clear hb s0 s1 s2 s3 s4 s5 s6 s7 s8 s9 s10 s11 r0 r1 r2 r3 r4 r5 r6 r7 r8 r9 r10 r11 Z2 Y2
        obtain ⟨⟨s0, s1, s2⟩, ⟨s3, s4, s5⟩, ⟨s6, s7, s8⟩, s9, s10, s11⟩ := sto_box Z3.out
        obtain ⟨⟨r0, r1, r2⟩, ⟨r3, r4, r5⟩, ⟨r6, r7, r8⟩, r9, r10, r11⟩ := sto_box Y3.out
        simp only at s0 s1 s2 s3 s4 s5 s6 s7 s8 s9 s10 s11 r0 r1 r2 r3 r4 r5 r6 r7 r8 r9 r10 r11
        clear s0 s1 s2 s3 s4 s5 s6 s7 s8 s9 s10 s11 r0 r1 r2 r3 r4 r5 r6 r7 r8 r9 r10 r11
        have al := (Below.refl w3.heap.size w3).alloc (Nat.le_refl _) (.cells #[.bool false, .int .i64 x1, .int .i64 x2, .int .i64 x3, .int .i64 x4] 48)
        have zf := heap_alloc_new w3 (.cells #[.bool false, .int .i64 x1, .int .i64 x2, .int .i64 x3, .int .i64 x4] 48)
        have ZU := Lib.hid ((al.block _ (heapsz Z3.out)).trans Z3.out); have YU := Lib.hid ((al.block _ (heapsz Y3.out)).trans Y3.out)
        obtain ⟨⟨s0, s1, s2⟩, ⟨s3, s4, s5⟩, ⟨s6, s7, s8⟩, s9, s10, s11⟩ := sto_box ZU.out
        obtain ⟨⟨r0, r1, r2⟩, ⟨r3, r4, r5⟩, ⟨r6, r7, r8⟩, r9, r10, r11⟩ := sto_box YU.out
        simp only at s0 s1 s2 s3 s4 s5 s6 s7 s8 s9 s10 s11 r0 r1 r2 r3 r4 r5 r6 r7 r8 r9 r10 r11
        have fa := cell_of_row _ _ 0 _ 48 (0, 0) zf
        simp at fa
        obtain ⟨w4, hw4⟩ : ∃ W, w3.alloc (.cells #[.bool false, .int .i64 x1, .int .i64 x2, .int .i64 x3, .int .i64 x4] 48) = W := ⟨_, rfl⟩
        have HW4 := Lib.hid hw4
        have HB4 := Lib.hid (HB3.out.trans (al.mono HB3.out.size)); have Z4 := ZU; have Y4 := YU; have Fa_4 := Lib.hid zf
        rw [hw4] at HB4 Z4 Y4 Fa_4
        clear al zf ZU YU hw4 Z3 Y3
        go_wp2_with fail
        rw [HW4.out]
        refine (KFR.out _ HB4.out).mono ?_
        rintro e w5 ⟨rfl, hb⟩
        have HB5 := Lib.hid (HB4.out.trans (hb.mono HB4.out.size)); have Z5 := Lib.hid ((hb.block _ (heapsz Z4.out)).trans Z4.out); have Y5 := Lib.hid ((hb.block _ (heapsz Y4.out)).trans Y4.out)
        have Fa_5 := Lib.hid ((hb.block _ (heapsz Fa_4.out)).trans Fa_4.out)
        clear hb s0 s1 s2 s3 s4 s5 s6 s7 s8 s9 s10 s11 r0 r1 r2 r3 r4 r5 r6 r7 r8 r9 r10 r11 fa Z4 Y4 Fa_4
        obtain ⟨⟨s0, s1, s2⟩, ⟨s3, s4, s5⟩, ⟨s6, s7, s8⟩, s9, s10, s11⟩ := sto_box Z5.out
        obtain ⟨⟨r0, r1, r2⟩, ⟨r3, r4, r5⟩, ⟨r6, r7, r8⟩, r9, r10, r11⟩ := sto_box Y5.out
        simp only at s0 s1 s2 s3 s4 s5 s6 s7 s8 s9 s10 s11 r0 r1 r2 r3 r4 r5 r6 r7 r8 r9 r10 r11
        have fa := cell_of_row _ _ 0 _ 48 (0, 0) Fa_5.out
        simp at fa
        clear s0 s1 s2 s3 s4 s5 s6 s7 s8 s9 s10 s11 r0 r1 r2 r3 r4 r5 r6 r7 r8 r9 r10 r11 fa
        have al := (Below.refl w5.heap.size w5).alloc (Nat.le_refl _) (.cells #[.bool L2, .int .i64 y1, .int .i64 y2, .int .i64 y3, .int .i64 y4] 48)
        have zf := heap_alloc_new w5 (.cells #[.bool L2, .int .i64 y1, .int .i64 y2, .int .i64 y3, .int .i64 y4] 48)
        have ZU := Lib.hid ((al.block _ (heapsz Z5.out)).trans Z5.out); have YU := Lib.hid ((al.block _ (heapsz Y5.out)).trans Y5.out)
        obtain ⟨⟨s0, s1, s2⟩, ⟨s3, s4, s5⟩, ⟨s6, s7, s8⟩, s9, s10, s11⟩ := sto_box ZU.out
        obtain ⟨⟨r0, r1, r2⟩, ⟨r3, r4, r5⟩, ⟨r6, r7, r8⟩, r9, r10, r11⟩ := sto_box YU.out
        simp only at s0 s1 s2 s3 s4 s5 s6 s7 s8 s9 s10 s11 r0 r1 r2 r3 r4 r5 r6 r7 r8 r9 r10 r11
        have FaU := Lib.hid ((al.block _ (heapsz Fa_5.out)).trans Fa_5.out)
        have fa := cell_of_row _ _ 0 _ 48 (0, 0) FaU.out
        simp at fa
        have fb := cell_of_row _ _ 0 _ 48 (0, 0) zf
        simp at fb
        obtain ⟨w6, hw6⟩ : ∃ W, w5.alloc (.cells #[.bool L2, .int .i64 y1, .int .i64 y2, .int .i64 y3, .int .i64 y4] 48) = W := ⟨_, rfl⟩
        have HW6 := Lib.hid hw6
        have HB6 := Lib.hid (HB5.out.trans (al.mono HB5.out.size)); have Z6 := ZU; have Y6 := YU; have Fb_6 := Lib.hid zf
        have Fa_6 := FaU
        rw [hw6] at HB6 Z6 Y6 Fb_6 Fa_6
        clear al zf ZU YU FaU hw6 Z5 Y5 Fa_5
        go_wp2_with fail
        rw [HW6.out]
        refine (KBS.out _ HB6.out).mono ?_
        rintro e w7 ⟨rfl, hb⟩
        have HB7 := Lib.hid (HB6.out.trans (hb.mono HB6.out.size)); have Z7 := Lib.hid ((hb.block _ (heapsz Z6.out)).trans Z6.out); have Y7 := Lib.hid ((hb.block _ (heapsz Y6.out)).trans Y6.out)
        have Fa_7 := Lib.hid ((hb.block _ (heapsz Fa_6.out)).trans Fa_6.out)
        have Fb_7 := Lib.hid ((hb.block _ (heapsz Fb_6.out)).trans Fb_6.out)
        clear hb s0 s1 s2 s3 s4 s5 s6 s7 s8 s9 s10 s11 r0 r1 r2 r3 r4 r5 r6 r7 r8 r9 r10 r11 fa fb Z6 Y6 Fa_6 Fb_6
        obtain ⟨⟨s0, s1, s2⟩, ⟨s3, s4, s5⟩, ⟨s6, s7, s8⟩, s9, s10, s11⟩ := sto_box Z7.out
        obtain ⟨⟨r0, r1, r2⟩, ⟨r3, r4, r5⟩, ⟨r6, r7, r8⟩, r9, r10, r11⟩ := sto_box Y7.out
        simp only at s0 s1 s2 s3 s4 s5 s6 s7 s8 s9 s10 s11 r0 r1 r2 r3 r4 r5 r6 r7 r8 r9 r10 r11
        have fa := cell_of_row _ _ 0 _ 48 (0, 0) Fa_7.out
        simp at fa
        have fb := cell_of_row _ _ 0 _ 48 (0, 0) Fb_7.out
        simp at fb
        go_wp2_with fail
        refine (KBR.out _ HB7.out).mono ?_
        rintro e w8 ⟨rfl, hb⟩
        have HB8 := Lib.hid (HB7.out.trans (hb.mono HB7.out.size)); have Z8 := Lib.hid ((hb.block _ (heapsz Z7.out)).trans Z7.out); have Y8 := Lib.hid ((hb.block _ (heapsz Y7.out)).trans Y7.out)
        have Fa_8 := Lib.hid ((hb.block _ (heapsz Fa_7.out)).trans Fa_7.out)
        have Fb_8 := Lib.hid ((hb.block _ (heapsz Fb_7.out)).trans Fb_7.out)
        clear hb s0 s1 s2 s3 s4 s5 s6 s7 s8 s9 s10 s11 r0 r1 r2 r3 r4 r5 r6 r7 r8 r9 r10 r11 fa fb Z7 Y7 Fa_7 Fb_7
        obtain ⟨⟨s0, s1, s2⟩, ⟨s3, s4, s5⟩, ⟨s6, s7, s8⟩, s9, s10, s11⟩ := sto_box Z8.out
        obtain ⟨⟨r0, r1, r2⟩, ⟨r3, r4, r5⟩, ⟨r6, r7, r8⟩, r9, r10, r11⟩ := sto_box Y8.out
        simp only at s0 s1 s2 s3 s4 s5 s6 s7 s8 s9 s10 s11 r0 r1 r2 r3 r4 r5 r6 r7 r8 r9 r10 r11
        have fa := cell_of_row _ _ 0 _ 48 (0, 0) Fa_8.out
        simp at fa
        have fb := cell_of_row _ _ 0 _ 48 (0, 0) Fb_8.out
        simp at fb
        go_wp2_with fail
        go_ret
        exact ⟨rfl, HB0.out.trans (HB8.out.mono HB0.out.size)⟩
      | true =>
        obtain rfl := hLL rfl
        clear hLL
        go_enter Tryd.func35, Tryd.ntmps35
        go_wp2_with fail
        rw [HW1.out]
        refine (KST.out _ HB1.out).mono ?_
        rintro e w2 ⟨rfl, hb⟩
        have HB2 := Lib.hid (HB1.out.trans (hb.mono HB1.out.size)); have Z2 := Lib.hid ((hb.block _ (heapsz Z1.out)).trans Z1.out); have Y2 := Lib.hid ((hb.block _ (heapsz Y1.out)).trans Y1.out)
        clear hb s0 s1 s2 s3 s4 s5 s6 s7 s8 s9 s10 s11 r0 r1 r2 r3 r4 r5 r6 r7 r8 r9 r10 r11 Z1 Y1
        obtain ⟨⟨s0, s1, s2⟩, ⟨s3, s4, s5⟩, ⟨s6, s7, s8⟩, s9, s10, s11⟩ := sto_box Z2.out
        obtain ⟨⟨r0, r1, r2⟩, ⟨r3, r4, r5⟩, ⟨r6, r7, r8⟩, r9, r10, r11⟩ := sto_box Y2.out
        simp only at s0 s1 s2 s3 s4 s5 s6 s7 s8 s9 s10 s11 r0 r1 r2 r3 r4 r5 r6 r7 r8 r9 r10 r11
        go_wp2_with fail
        refine (KFS.out _ HB2.out).mono ?_
        rintro e w3 ⟨rfl, hb⟩
        have HB3 := Lib.hid (HB2.out.trans (hb.mono HB2.out.size)); have Z3 := Lib.hid ((hb.block _ (heapsz Z2.out)).trans Z2.out); have Y3 := Lib.hid ((hb.block _ (heapsz Y2.out)).trans Y2.out)
        clear hb s0 s1 s2 s3 s4 s5 s6 s7 s8 s9 s10 s11 r0 r1 r2 r3 r4 r5 r6 r7 r8 r9 r10 r11 Z2 Y2
        obtain ⟨⟨s0, s1, s2⟩, ⟨s3, s4, s5⟩, ⟨s6, s7, s8⟩, s9, s10, s11⟩ := sto_box Z3.out
        obtain ⟨⟨r0, r1, r2⟩, ⟨r3, r4, r5⟩, ⟨r6, r7, r8⟩, r9, r10, r11⟩ := sto_box Y3.out
        simp only at s0 s1 s2 s3 s4 s5 s6 s7 s8 s9 s10 s11 r0 r1 r2 r3 r4 r5 r6 r7 r8 r9 r10 r11
        clear s0 s1 s2 s3 s4 s5 s6 s7 s8 s9 s10 s11 r0 r1 r2 r3 r4 r5 r6 r7 r8 r9 r10 r11
        have al := (Below.refl w3.heap.size w3).alloc (Nat.le_refl _) (.cells #[.bool true, .int .i64 x1, .int .i64 x2, .int .i64 x3, .int .i64 x4] 48)
        have zf := heap_alloc_new w3 (.cells #[.bool true, .int .i64 x1, .int .i64 x2, .int .i64 x3, .int .i64 x4] 48)
        have ZU := Lib.hid ((al.block _ (heapsz Z3.out)).trans Z3.out); have YU := Lib.hid ((al.block _ (heapsz Y3.out)).trans Y3.out)
        obtain ⟨⟨s0, s1, s2⟩, ⟨s3, s4, s5⟩, ⟨s6, s7, s8⟩, s9, s10, s11⟩ := sto_box ZU.out
        obtain ⟨⟨r0, r1, r2⟩, ⟨r3, r4, r5⟩, ⟨r6, r7, r8⟩, r9, r10, r11⟩ := sto_box YU.out
        simp only at s0 s1 s2 s3 s4 s5 s6 s7 s8 s9 s10 s11 r0 r1 r2 r3 r4 r5 r6 r7 r8 r9 r10 r11
        have fa := cell_of_row _ _ 0 _ 48 (0, 0) zf
        simp at fa
        obtain ⟨w4, hw4⟩ : ∃ W, w3.alloc (.cells #[.bool true, .int .i64 x1, .int .i64 x2, .int .i64 x3, .int .i64 x4] 48) = W := ⟨_, rfl⟩
        have HW4 := Lib.hid hw4
        have HB4 := Lib.hid (HB3.out.trans (al.mono HB3.out.size)); have Z4 := ZU; have Y4 := YU; have Fa_4 := Lib.hid zf
        rw [hw4] at HB4 Z4 Y4 Fa_4
        clear al zf ZU YU hw4 Z3 Y3
        go_wp2_with fail
        rw [HW4.out]
        refine (KFR.out _ HB4.out).mono ?_
        rintro e w5 ⟨rfl, hb⟩
        have HB5 := Lib.hid (HB4.out.trans (hb.mono HB4.out.size)); have Z5 := Lib.hid ((hb.block _ (heapsz Z4.out)).trans Z4.out); have Y5 := Lib.hid ((hb.block _ (heapsz Y4.out)).trans Y4.out)
        have Fa_5 := Lib.hid ((hb.block _ (heapsz Fa_4.out)).trans Fa_4.out)
        clear hb s0 s1 s2 s3 s4 s5 s6 s7 s8 s9 s10 s11 r0 r1 r2 r3 r4 r5 r6 r7 r8 r9 r10 r11 fa Z4 Y4 Fa_4
        obtain ⟨⟨s0, s1, s2⟩, ⟨s3, s4, s5⟩, ⟨s6, s7, s8⟩, s9, s10, s11⟩ := sto_box Z5.out
        obtain ⟨⟨r0, r1, r2⟩, ⟨r3, r4, r5⟩, ⟨r6, r7, r8⟩, r9, r10, r11⟩ := sto_box Y5.out
        simp only at s0 s1 s2 s3 s4 s5 s6 s7 s8 s9 s10 s11 r0 r1 r2 r3 r4 r5 r6 r7 r8 r9 r10 r11
        have fa := cell_of_row _ _ 0 _ 48 (0, 0) Fa_5.out
        simp at fa
        clear s0 s1 s2 s3 s4 s5 s6 s7 s8 s9 s10 s11 r0 r1 r2 r3 r4 r5 r6 r7 r8 r9 r10 r11 fa
        have al := (Below.refl w5.heap.size w5).alloc (Nat.le_refl _) (.cells #[.bool true, .int .i64 y1, .int .i64 y2, .int .i64 y3, .int .i64 y4] 48)
        have zf := heap_alloc_new w5 (.cells #[.bool true, .int .i64 y1, .int .i64 y2, .int .i64 y3, .int .i64 y4] 48)
        have ZU := Lib.hid ((al.block _ (heapsz Z5.out)).trans Z5.out); have YU := Lib.hid ((al.block _ (heapsz Y5.out)).trans Y5.out)
        obtain ⟨⟨s0, s1, s2⟩, ⟨s3, s4, s5⟩, ⟨s6, s7, s8⟩, s9, s10, s11⟩ := sto_box ZU.out
        obtain ⟨⟨r0, r1, r2⟩, ⟨r3, r4, r5⟩, ⟨r6, r7, r8⟩, r9, r10, r11⟩ := sto_box YU.out
        simp only at s0 s1 s2 s3 s4 s5 s6 s7 s8 s9 s10 s11 r0 r1 r2 r3 r4 r5 r6 r7 r8 r9 r10 r11
        have FaU := Lib.hid ((al.block _ (heapsz Fa_5.out)).trans Fa_5.out)
        have fa := cell_of_row _ _ 0 _ 48 (0, 0) FaU.out
        simp at fa
        have fb := cell_of_row _ _ 0 _ 48 (0, 0) zf
        simp at fb
        obtain ⟨w6, hw6⟩ : ∃ W, w5.alloc (.cells #[.bool true, .int .i64 y1, .int .i64 y2, .int .i64 y3, .int .i64 y4] 48) = W := ⟨_, rfl⟩
        have HW6 := Lib.hid hw6
        have HB6 := Lib.hid (HB5.out.trans (al.mono HB5.out.size)); have Z6 := ZU; have Y6 := YU; have Fb_6 := Lib.hid zf
        have Fa_6 := FaU
        rw [hw6] at HB6 Z6 Y6 Fb_6 Fa_6
        clear al zf ZU YU FaU hw6 Z5 Y5 Fa_5
        go_wp2_with fail
        rw [HW6.out]
        refine (KBS.out _ HB6.out).mono ?_
        rintro e w7 ⟨rfl, hb⟩
        have HB7 := Lib.hid (HB6.out.trans (hb.mono HB6.out.size)); have Z7 := Lib.hid ((hb.block _ (heapsz Z6.out)).trans Z6.out); have Y7 := Lib.hid ((hb.block _ (heapsz Y6.out)).trans Y6.out)
        have Fa_7 := Lib.hid ((hb.block _ (heapsz Fa_6.out)).trans Fa_6.out)
        have Fb_7 := Lib.hid ((hb.block _ (heapsz Fb_6.out)).trans Fb_6.out)
        clear hb s0 s1 s2 s3 s4 s5 s6 s7 s8 s9 s10 s11 r0 r1 r2 r3 r4 r5 r6 r7 r8 r9 r10 r11 fa fb Z6 Y6 Fa_6 Fb_6
        obtain ⟨⟨s0, s1, s2⟩, ⟨s3, s4, s5⟩, ⟨s6, s7, s8⟩, s9, s10, s11⟩ := sto_box Z7.out
        obtain ⟨⟨r0, r1, r2⟩, ⟨r3, r4, r5⟩, ⟨r6, r7, r8⟩, r9, r10, r11⟩ := sto_box Y7.out
        simp only at s0 s1 s2 s3 s4 s5 s6 s7 s8 s9 s10 s11 r0 r1 r2 r3 r4 r5 r6 r7 r8 r9 r10 r11
        have fa := cell_of_row _ _ 0 _ 48 (0, 0) Fa_7.out
        simp at fa
        have fb := cell_of_row _ _ 0 _ 48 (0, 0) Fb_7.out
        simp at fb
        go_wp2_with fail
        refine (KBR.out _ HB7.out).mono ?_
        rintro e w8 ⟨rfl, hb⟩
        have HB8 := Lib.hid (HB7.out.trans (hb.mono HB7.out.size)); have Z8 := Lib.hid ((hb.block _ (heapsz Z7.out)).trans Z7.out); have Y8 := Lib.hid ((hb.block _ (heapsz Y7.out)).trans Y7.out)
        have Fa_8 := Lib.hid ((hb.block _ (heapsz Fa_7.out)).trans Fa_7.out)
        have Fb_8 := Lib.hid ((hb.block _ (heapsz Fb_7.out)).trans Fb_7.out)
        clear hb s0 s1 s2 s3 s4 s5 s6 s7 s8 s9 s10 s11 r0 r1 r2 r3 r4 r5 r6 r7 r8 r9 r10 r11 fa fb Z7 Y7 Fa_7 Fb_7
        obtain ⟨⟨s0, s1, s2⟩, ⟨s3, s4, s5⟩, ⟨s6, s7, s8⟩, s9, s10, s11⟩ := sto_box Z8.out
        obtain ⟨⟨r0, r1, r2⟩, ⟨r3, r4, r5⟩, ⟨r6, r7, r8⟩, r9, r10, r11⟩ := sto_box Y8.out
        simp only at s0 s1 s2 s3 s4 s5 s6 s7 s8 s9 s10 s11 r0 r1 r2 r3 r4 r5 r6 r7 r8 r9 r10 r11
        have fa := cell_of_row _ _ 0 _ 48 (0, 0) Fa_8.out
        simp at fa
        have fb := cell_of_row _ _ 0 _ 48 (0, 0) Fb_8.out
        simp at fb
        go_wp2_with fail
        go_ret
        exact ⟨rfl, HB0.out.trans (HB8.out.mono HB0.out.size)⟩
end Go.Proofs.YtijjkiogmlannaaDoor
