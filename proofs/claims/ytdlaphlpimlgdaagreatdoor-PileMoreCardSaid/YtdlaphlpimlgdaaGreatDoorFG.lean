/- PileMore: thaws that lie within thaws, a span that is known better, and the statement where its input is none. -/
import Derived.Test.YtdlaphlpimlgdaaGreatDoorEM
namespace Go.Proofs.YtdlaphlpimlgdaaGreatDoor
open Go.RowKit Go.Shelf

set_option maxRecDepth 100000 in
set_option maxHeartbeats 4000000 in
theorem within_yes (A B : Option Addr) (n c d : Nat) (ts us : List (List Sp)) (w : World) (hl : ts.length = n) (hn : n ≤ 1000) (hr : ∀ (t : Nat) (row : List Sp), ts[t]? = some row → row.length ≤ 1000 ∧ ∃ row', us[t]? = some row' ∧ row'.length = row.length ∧ ∀ (j : Nat) (y z : Sp), row[j]? = some y → row'[j]? = some z → y.1 ≤ z.1 ∧ z.2 ≤ y.2)
    (hA : SpsAt w w.heap.size A us) (hB : SpsAt w w.heap.size B ts) :
    Calls Tryz.prog 60 #[.slice A n c, .slice B n d] w fun e w' => e = .returned (.bool true) ∧ Below w.heap.size w w' := by
  have HL := Lib.hid hl; have HR := Lib.hid hr; have HA := Lib.hid hA; have HB := Lib.hid hB
  have HB0 := Lib.hid (Below.refl w.heap.size w)
  have hnn : ((n : Int) != (n : Int)) = false := by simp
  clear hl hr hA hB
  go_enter Tryz.func60, Tryz.ntmps60
  go_wp2_with fail
  clear hnn
  go_loopw [5] (fun i wr => ∃ t : Nat, t ≤ n ∧ i = .int .i64 t ∧ Below w.heap.size w wr) (fun i _ => n - (intOf i).toNat)
  case atStart => exact ⟨0, Nat.zero_le _, rfl, HB0.out⟩
  case round =>
    obtain ⟨t, ht, rfl, hbr⟩ := hrel
    have HBR := Lib.hid hbr
    by_cases hlt : t < n
    · obtain ⟨row, hrow⟩ := get_of_lt (l := ts) (k := t) (by rw [HL.out]; exact hlt)
      obtain ⟨hrw, row', hrow2, hln, hin⟩ := HR.out t row hrow
      have HLN := Lib.hid hln
      obtain ⟨b1, o1, A1, m1, c1, rfl, hb1, hm1, d1, p1, _⟩ := sps_row (HA.out.up hbr) hrow2
      obtain ⟨b2, o2, A2, m, c2, rfl, hb2, hm2, d2, p2, _⟩ := sps_row (HB.out.up hbr) hrow
      rw [hln, ← hm2] at hm1
      subst hm1
      have hmb : m1 ≤ 1000 := by rw [hm2]; exact hrw
      have HM := Lib.hid hm2; have HP1 := Lib.hid p1; have HP2 := Lib.hid p2; have HRW := Lib.hid hin
      have t0 : (0 : Int) ≤ (t : Int) := by omega
      have t1 : (t : Int) < (n : Int) := by omega
      have hmm : ((m1 : Int) != (m1 : Int)) = false := by simp
      clear hrow hrow2 hrw hm2 p1 p2 hln hin
      go_wp2_with fail
      go_quiet (fail)
      go_wp2_with fail
      have HBQ := Lib.hid (belN HBR.out nq)
      have d1' : (wr.drewN nq).cell? ⟨b1, o1 + t, none⟩ = some (.slice A1 m1 c1) := d1
      have d2' : (wr.drewN nq).cell? ⟨b2, o2 + t, none⟩ = some (.slice A2 m1 c2) := d2
      have HQ1 : Hid (PrsAt (wr.drewN nq) (wr.drewN nq).heap.size A1 row') := Lib.hid HP1.out
      have HQ2 : Hid (PrsAt (wr.drewN nq) (wr.drewN nq).heap.size A2 row) := Lib.hid HP2.out
      have hb1' : b1 < (wr.drewN nq).heap.size := hb1
      have hb2' : b2 < (wr.drewN nq).heap.size := hb2
      clear d1 d2 HP1 HP2 hb1 hb2 hbr HBR hmm
      generalize wr.drewN nq = wq at *
      have HD1 := Lib.hid d1'; have HD2 := Lib.hid d2'; have HBB := Lib.hid (And.intro hb1' hb2')
      clear d1' d2' hb1' hb2'
      go_loopw [6] (fun i wz => ∃ j : Nat, j ≤ m1 ∧ i = .int .i64 j ∧ Below wq.heap.size wq wz) (fun i _ => m1 - (intOf i).toNat)
      case atStart => exact ⟨0, Nat.zero_le _, rfl, Below.refl _ _⟩
      case round =>
        obtain ⟨j, hj, rfl, hbz⟩ := hrel
        have HBZ := Lib.hid hbz
        have d1 := ((bcell hbz).1 _ _ HBB.out.1).trans HD1.out
        have d2 := ((bcell hbz).1 _ _ HBB.out.2).trans HD2.out
        by_cases hlj : j < m1
        · obtain ⟨y, hy⟩ := get_of_lt (l := row) (k := j) (by rw [← HM.out]; exact hlj)
          obtain ⟨z, hy2⟩ := get_of_lt (l := row') (k := j) (by rw [HLN.out, ← HM.out]; exact hlj)
          obtain ⟨e1, f1, rfl, he1, x1, x2⟩ := prs_el HQ1.out hy2
          obtain ⟨e2, f2, rfl, he2, x3, x4⟩ := prs_el HQ2.out hy
          replace x1 := ((bcell hbz).1 _ _ he1).trans x1
          replace x2 := ((bcell hbz).1 _ _ he1).trans x2
          replace x3 := ((bcell hbz).1 _ _ he2).trans x3
          replace x4 := ((bcell hbz).1 _ _ he2).trans x4
          have hin := HRW.out j y z hy hy2
          obtain ⟨y1, y2⟩ := y
          obtain ⟨z1, z2⟩ := z
          simp only at x1 x2 x3 x4 hin
          have j0 : (0 : Int) ≤ (j : Int) := by omega
          have j1 : (j : Int) < (m1 : Int) := by omega
          have n1 : decide (z1 < y1) = false := decide_eq_false (by omega)
          have n2 : ¬ y2 < z2 := by omega
          have n3 : decide (y2 < z2) = false := decide_eq_false n2
          clear hy hy2 hin he1 he2 hbz
          go_wp2_with fail
          go_quiet (fail)
          go_wp2_with fail
          exact ⟨⟨j + 1, by omega, by go_num, belN HBZ.out _⟩, by simp [intOf]; omega⟩
        · have hje : j = m1 := by omega
          have j1 : ¬ (j : Int) < (m1 : Int) := by omega
          clear hbz
          go_wp2_with fail
          exact ⟨⟨t + 1, by omega, by go_num, HBQ.out.trans (HBZ.out.mono HBQ.out.size)⟩, by simp [intOf]; omega⟩
    · have hte : t = n := by omega
      have t1 : ¬ (t : Int) < (n : Int) := by omega
      go_wp2_with fail
      go_ret
      exact ⟨rfl, HBR.out⟩
end Go.Proofs.YtdlaphlpimlgdaaGreatDoor

namespace Go.Proofs.YtdlaphlpimlgdaaGreatDoor
open Go.RowKit Go.Shelf

set_option maxRecDepth 100000 in
set_option maxHeartbeats 4000000 in
theorem narrow_any (y : Sp) (a b : Int) (w : World) (hy : 0 ≤ y.1 ∧ y.1 ≤ y.2 ∧ y.2 ≤ 100000) (ha : 0 ≤ a ∧ a ≤ 100) (hb : 0 ≤ b ∧ b ≤ 100) :
    Calls Tryz.prog 59 #[.agg #[.int .i64 y.1, .int .i64 y.2], .int .i64 a, .int .i64 b] w fun e w' => e = .returned (.agg #[.int .i64 (prtI y a), .int .i64 (prtI y b)]) ∧ Below w.heap.size w w' := by
  have z0 := heap_alloc_new w (.cells #[.int .i64 y.1, .int .i64 y.2] 42)
  have z1 := heap_alloc_new (w.alloc (.cells #[.int .i64 y.1, .int .i64 y.2] 42)) (.cells #[.int .i64 0, .int .i64 0] 42)
  simp only [World.size_alloc] at z1
  have hb1 := (Below.refl (w.alloc (.cells #[.int .i64 y.1, .int .i64 y.2] 42)).heap.size (w.alloc (.cells #[.int .i64 y.1, .int .i64 y.2] 42))).alloc (Nat.le_refl _) (.cells #[.int .i64 0, .int .i64 0] 42)
  have z0' := (hb1.block _ (Array.getElem?_eq_some_iff.1 z0).1).trans z0
  have HB1 := Lib.hid (((Below.refl w.heap.size w).alloc (Nat.le_refl _) (.cells #[.int .i64 y.1, .int .i64 y.2] 42)).alloc (by simp) (.cells #[.int .i64 0, .int .i64 0] 42))
  obtain ⟨y1, y2⟩ := y
  simp only at hy z0' z1 HB1 ⊢
  have HC1 : Hid (∀ W : World, ∀ u : KeptW W, Calls Tryz.prog 83 #[.agg #[.int .i64 y1, .int .i64 y2], .int .i64 a] u.w fun e w' => e = .returned (.int .i64 (prtI (y1, y2) a)) ∧ ∃ u' : KeptW W, w' = u'.w) := Lib.hid fun W u => Calls.in_kept u (part_any y1 y2 a u.w hy ha)
  have HC2 : Hid (∀ W : World, ∀ u : KeptW W, Calls Tryz.prog 83 #[.agg #[.int .i64 y1, .int .i64 y2], .int .i64 b] u.w fun e w' => e = .returned (.int .i64 (prtI (y1, y2) b)) ∧ ∃ u' : KeptW W, w' = u'.w) := Lib.hid fun W u => Calls.in_kept u (part_any y1 y2 b u.w hy hb)
  obtain ⟨A, hA⟩ : ∃ z, prtI (y1, y2) a = z := ⟨_, rfl⟩
  obtain ⟨B, hB⟩ : ∃ z, prtI (y1, y2) b = z := ⟨_, rfl⟩
  rw [hA] at HC1 ⊢
  rw [hB] at HC2 ⊢
  obtain ⟨wr, hwr⟩ : ∃ z, (w.alloc (.cells #[.int .i64 y1, .int .i64 y2] 42)).alloc (.cells #[.int .i64 0, .int .i64 0] 42) = z := ⟨_, rfl⟩
  rw [hwr] at z0' z1 HB1
  have Z0 := Lib.hid z0'; have Z1 := Lib.hid z1
  clear hy ha hb z0 z0' z1 hb1 hA hB
  go_enter Tryz.func59, Tryz.ntmps59
  go_wp2_with fail
  try rw [hwr]
  clear hwr
  have l0 := (Array.getElem?_eq_some_iff.1 Z0.out).1
  have l1 := (Array.getElem?_eq_some_iff.1 Z1.out).1
  have k0 : ∀ u : KeptW wr, u.w.cell? ⟨w.heap.size, 0, none⟩ = some (.int .i64 y1) := fun u => by
    have := cell_of_row u.w w.heap.size 0 _ 42 (0, 0) ((u.h.block _ l0).trans Z0.out)
    simpa using this
  have k1 : ∀ u : KeptW wr, u.w.cell? ⟨w.heap.size, 1, none⟩ = some (.int .i64 y2) := fun u => by
    have := cell_of_row u.w w.heap.size 1 _ 42 (0, 0) ((u.h.block _ l0).trans Z0.out)
    simpa using this
  have hl1 : wr.heap.size = w.heap.size + 2 ∨ True := .inr trivial
  have c1 := HC1.out wr
  have c2 := HC2.out wr
  have HX1 := Lib.hid c1; have HX2 := Lib.hid c2
  clear c1 c2 hl1
  apply rk_tail (C := fun w' => ∃ u : KeptW wr, w' = u.w)
  case hs => exact (rfl : _ = [_, _, _, _, _, _, _] ++ [_])
  case hm => kernel_rfl
  case hB => kernel_rfl
  case hT => kernel_rfl
  case hC => exact ⟨⟨wr.drew, (Below.refl wr.heap.size wr).drew⟩, rfl⟩
  repeat (go_big_quiet_step (first | (with_reducible exact HX1.out _) | (with_reducible exact HX2.out _) | fail))
  refine wpQuiet_nil ?_
  rintro _ ⟨u, rfl⟩
  have V1 := (u.h.block _ l1).trans Z1.out
  have f0 : u.w.frozen? ⟨w.heap.size + 1, 0, none⟩ = false := by simp [World.frozen?, V1]
  have f1 : u.w.frozen? ⟨w.heap.size + 1, 1, none⟩ = false := by simp [World.frozen?, V1]
  have e0 := cell_of_row u.w (w.heap.size + 1) 0 _ 42 (0, 0) V1
  have e1 := cell_of_row u.w (w.heap.size + 1) 1 _ 42 (0, 0) V1
  simp at e0 e1
  have HBU := Lib.hid (HB1.out.trans (u.h.mono HB1.out.size))
  have HV := Lib.hid V1
  clear V1 k0 k1
  unfold Oper.wp
  simp [go_sem, f0, f1, e0, e1]
  obtain ⟨w7, hw7⟩ : ∃ z, (u.w.setCell ⟨w.heap.size + 1, 0, none⟩ (.int .i64 A)).setCell ⟨w.heap.size + 1, 1, none⟩ (.int .i64 B) = z := ⟨_, rfl⟩
  have V7 : w7.heap[w.heap.size + 1]? = some (.cells #[.int .i64 A, .int .i64 B] 42 (0, 0)) := by
    rw [← hw7]
    exact blk_set (blk_set HV.out 0 (.int .i64 A)) 1 (.int .i64 B)
  have HB7 := Lib.hid (show Below w.heap.size w w7 by
    rw [← hw7]
    exact (HBU.out.setCell (p := ⟨w.heap.size + 1, 0, none⟩) (by show _ ≤ w.heap.size + 1; omega) _).setCell (p := ⟨w.heap.size + 1, 1, none⟩) (by show _ ≤ w.heap.size + 1; omega) _)
  rw [hw7]
  clear hw7 f0 f1 e0 e1
  have e0 := cell_of_row w7 (w.heap.size + 1) 0 _ 42 (0, 0) V7
  have e1 := cell_of_row w7 (w.heap.size + 1) 1 _ 42 (0, 0) V7
  simp at e0 e1
  go_wp2_with fail
  exact bodyPost_ret (v := .agg #[.int .i64 A, .int .i64 B]) (by simp [results, Tryz.results59, go_sem, e0, e1]) rfl ⟨rfl, HB7.out⟩
end Go.Proofs.YtdlaphlpimlgdaaGreatDoor

namespace Go.Proofs.YtdlaphlpimlgdaaGreatDoor
open Go.RowKit Go.Shelf

set_option maxRecDepth 100000 in
set_option maxHeartbeats 4000000 in
theorem more_bad {X : Ctx} {w : World} (h : X.In w) (ht : Tab w) (A2 : Option Addr) (m c2 : Nat) (plan : List Int) (a b d i j : Int) (hm : plan.length = m) (hm2 : m ≤ maxLen) (hL : IntsAt w w.heap.size A2 plan)
    (hbad : shortB X.np X.nq X.nr X.ts = false ∨ planI X.sit X.ts plan ≠ 0 ∨ a < 0 ∨ b < a ∨ 100 < b ∨ d < 0 ∨ 50000 < d) :
    Calls Tryz.prog 17 #[X.sv, X.tv, .slice A2 m c2, .int .i64 a, .int .i64 b, .int .i64 d, .int .i64 i, .int .i64 j] w fun e w' => e = .returned (.bool true) ∧ Below w.heap.size w w' := by
  obtain ⟨z0, hb0⟩ := site_new X w
  have HM := Lib.hid hm; have HM2 := Lib.hid hm2; have HT := Lib.hid ht
  obtain ⟨w1, hw1⟩ : ∃ z, w.alloc (.cells X.cells 26) = z := ⟨_, rfl⟩
  rw [hw1] at z0 hb0
  have HI := Lib.hid (h.up hb0); have HB := Lib.hid hb0; have HL := Lib.hid (RowAt.up (k := 1) (R := intR) hL hb0)
  have Z0 := Lib.hid z0
  obtain ⟨s0, s1, s2, s3, s4, s5⟩ := site_box z0
  clear h ht z0 hb0 hm hm2 hL
  have HSH := Lib.hid (short_X HI.out)
  have HKN : Hid (∀ u, Below w.heap.size w u → Calls Tryz.prog 19 #[] u fun e w' => e = .returned (.bool true) ∧ Below u.heap.size u w') := Lib.hid fun u hu => known_any u (HT.out.next hu)
  obtain ⟨S, hS⟩ : ∃ z, shortB X.np X.nq X.nr X.ts = z := ⟨_, rfl⟩
  rw [hS] at HSH hbad
  clear hS
  cases S with
  | false =>
    clear hbad
    go_enter Tryz.func17, Tryz.ntmps17
    go_wp2_with fail
    refine HSH.out.mono ?_
    rintro e w2 ⟨rfl, hb⟩
    have HB2 := Lib.hid (HB.out.trans (hb.mono HB.out.size)); clear hb
    go_wp2_with fail
    refine (HKN.out _ HB2.out).mono ?_
    rintro e w9 ⟨rfl, hb⟩
    have HB9 := Lib.hid (HB2.out.trans (hb.mono HB2.out.size)); clear hb
    go_wp2_with fail
    go_ret
    exact ⟨rfl, HB9.out⟩
  | true =>
    obtain ⟨I, hI⟩ : ∃ z, planI X.sit X.ts plan = z := ⟨_, rfl⟩
    rw [hI] at hbad
    have HPI := Lib.hid hI
    have HBAD : Hid (I ≠ 0 ∨ a < 0 ∨ b < a ∨ 100 < b ∨ d < 0 ∨ 50000 < d) := Lib.hid (by simpa using hbad)
    clear hI hbad
    go_enter Tryz.func17, Tryz.ntmps17
    go_wp2_with fail
    refine HSH.out.mono ?_
    rintro e w2 ⟨rfl, hb⟩
    have HB2 := Lib.hid (HB.out.trans (hb.mono HB.out.size)); have HI2 := Lib.hid (HI.out.up hb); have HL2 := Lib.hid (RowAt.up (k := 1) (R := intR) HL.out hb)
    have z2 := (hb.block _ (heapsz Z0.out)).trans Z0.out
    clear hb s0 s1 s2 s3 s4 s5 HSH
    obtain ⟨s0, s1, s2, s3, s4, s5⟩ := site_box z2
    clear z2
    have HPL := Lib.hid (planned_X (c2 := c2) HI2.out A2 m plan HM.out HM2.out HL2.out)
    rw [HPI.out] at HPL
    go_wp2_with fail
    refine HPL.out.mono ?_
    rintro e w3 ⟨rfl, hb⟩
    have HB3 := Lib.hid (HB2.out.trans (hb.mono HB2.out.size)); clear hb s0 s1 s2 s3 s4 s5 HPL
    by_cases hI0 : ¬ I = 0
    · go_wp2_with fail
      refine (HKN.out _ HB3.out).mono ?_
      rintro e w9 ⟨rfl, hb⟩
      have HB9 := Lib.hid (HB3.out.trans (hb.mono HB3.out.size)); clear hb
      go_wp2_with fail
      go_ret
      exact ⟨rfl, HB9.out⟩
    have hI1 : I = 0 := by omega
    subst hI1
    clear hI0
    by_cases h1 : a < 0
    · go_wp2_with fail
      refine (HKN.out _ HB3.out).mono ?_
      rintro e w9 ⟨rfl, hb⟩
      have HB9 := Lib.hid (HB3.out.trans (hb.mono HB3.out.size)); clear hb
      go_wp2_with fail
      go_ret
      exact ⟨rfl, HB9.out⟩
    by_cases h2 : b < a
    · go_wp2_with fail
      refine (HKN.out _ HB3.out).mono ?_
      rintro e w9 ⟨rfl, hb⟩
      have HB9 := Lib.hid (HB3.out.trans (hb.mono HB3.out.size)); clear hb
      go_wp2_with fail
      go_ret
      exact ⟨rfl, HB9.out⟩
    by_cases h3 : 100 < b
    · go_wp2_with fail
      refine (HKN.out _ HB3.out).mono ?_
      rintro e w9 ⟨rfl, hb⟩
      have HB9 := Lib.hid (HB3.out.trans (hb.mono HB3.out.size)); clear hb
      go_wp2_with fail
      go_ret
      exact ⟨rfl, HB9.out⟩
    by_cases h4 : d < 0
    · go_wp2_with fail
      refine (HKN.out _ HB3.out).mono ?_
      rintro e w9 ⟨rfl, hb⟩
      have HB9 := Lib.hid (HB3.out.trans (hb.mono HB3.out.size)); clear hb
      go_wp2_with fail
      go_ret
      exact ⟨rfl, HB9.out⟩
    by_cases h5 : 50000 < d
    · go_wp2_with fail
      refine (HKN.out _ HB3.out).mono ?_
      rintro e w9 ⟨rfl, hb⟩
      have HB9 := Lib.hid (HB3.out.trans (hb.mono HB3.out.size)); clear hb
      go_wp2_with fail
      go_ret
      exact ⟨rfl, HB9.out⟩
    exfalso
    have := HBAD.out
    omega
end Go.Proofs.YtdlaphlpimlgdaaGreatDoor
