/- known: it returns true. -/
import Derived.Test.YtdlaphlpimlgdaaGreatDoorBQ
namespace Go.Proofs.YtdlaphlpimlgdaaGreatDoor
open Go.RowKit

section
variable {AP AQ AR A A2 : Option Addr} {cp cq cr c c2 : Nat} {w : World}
abbrev exV (AP AQ AR : Option Addr) (cp cq cr : Nat) : Value := .agg #[.slice AP 2 cp, .slice AQ 1 cq, .slice AR 3 cr, .int .i64 200, .int .i64 25, .int .i64 10]
theorem ex_in (h1 : PilsAt w w.heap.size AP exPs) (h2 : PrsAt w w.heap.size AQ [(0, 1)]) (h3 : RwsAt w w.heap.size AR exRs) (h4 : SpsAt w w.heap.size A exTs) : (exC 0 AP AQ AR A cp cq cr c).In w :=
  ⟨rfl, rfl, rfl, rfl, by unfold maxLen; show 2 ≤ _; omega, by unfold maxLen; show 1 ≤ _; omega, by unfold maxLen; show 3 ≤ _; omega, by unfold maxLen; show 2 ≤ _; omega, h1, h2, h3, h4⟩
theorem levels_ex (h : (exC 0 AP AQ AR A cp cq cr c).In w) (hL : IntsAt w w.heap.size A2 [0, 0]) :
    Calls Tryz.prog 27 #[exV AP AQ AR cp cq cr, .slice A 2 c, .slice A2 2 c2] w fun e w' => ∃ A3 c3, e = .returned (.tuple #[.slice A3 2 c3, .int .i64 0]) ∧ SpsAt w' w'.heap.size A3 exL ∧ Below w.heap.size w w' := by
  refine (Levels_any h A2 2 c2 [0, 0] rfl (by unfold maxLen; omega) hL).mono ?_
  rintro e w' ⟨A3, n3, c3, rfl, h1, _, h3⟩
  have e1 : planI (exC 0 AP AQ AR A cp cq cr c).sit (exC 0 AP AQ AR A cp cq cr c).ts [0, 0] = 0 := ex_plan _ _ _ _ _ _ _ _ _
  obtain ⟨rfl, h5, _⟩ := h1 e1
  exact ⟨A3, c3, by rw [e1], h5, h3⟩
theorem fault_ex (h : (exC 0 AP AQ AR A cp cq cr c).In w) (hL : IntsAt w w.heap.size A2 [0, 0]) :
    Calls Tryz.prog 37 #[exV AP AQ AR cp cq cr, .slice A 2 c, .slice A2 2 c2] w fun e w' => e = .returned (.tuple #[.agg #[.int .i64 1, .int .i64 5, .int .i64 0], .int .i64 0]) ∧ Below w.heap.size w w' := by
  refine (Fault_any h A2 2 c2 [0, 0] rfl (by unfold maxLen; omega) hL).mono ?_
  rintro e w' ⟨rfl, h3⟩
  have e1 : planI (exC 0 AP AQ AR A cp cq cr c).sit (exC 0 AP AQ AR A cp cq cr c).ts [0, 0] = 0 := ex_plan _ _ _ _ _ _ _ _ _
  have e2 : fauI (fauF (exC 0 AP AQ AR A cp cq cr c) (spanL (exC 0 AP AQ AR A cp cq cr c).ps (exC 0 AP AQ AR A cp cq cr c).rs (exC 0 AP AQ AR A cp cq cr c).ts [0, 0])) = (1, 5, 0) := by
    show fauI (fauF _ (spanL exPs exRs exTs [0, 0])) = _
    rw [ex_span]
    exact ex_fau _ _ _ _ _ _ _ _ _
  exact ⟨by rw [e1, if_pos rfl, e2]; rfl, h3⟩
theorem best_ex (h : (exC 0 AP AQ AR A cp cq cr c).In w) :
    Calls Tryz.prog 44 #[exV AP AQ AR cp cq cr, .slice A 2 c] w fun e w' => ∃ bp, e = .returned (.tuple #[.slice (some ⟨bp, 0, none⟩) 2 2, .int .i64 5, .int .i64 0]) ∧ w'.heap[bp]? = some (.cells #[.int .i64 1, .int .i64 0] 3 (0, 0)) ∧ w.heap.size ≤ bp ∧ Below w.heap.size w w' :=
  Best_ex (X := exC 0 AP AQ AR A cp cq cr c) (ex_thaws _ _ _ _ _ _ _ _ _) (fun G => ex_all G AP AQ AR A cp cq cr c) h
end
theorem ready_ex (A : Option Addr) (c : Nat) (w : World) (hA : PrsAt w w.heap.size A [(2, 300), (4, 650), (8, 1000)]) :
    Calls Tryz.prog 50 #[.agg #[.int .i64 8000, .int .i64 20, .int .i64 30, .int .i64 100, .int .i64 120, .int .i64 230, .int .i64 5], .agg #[.int .i64 1000, .int .i64 2000], .slice A 3 c] w fun e w' => e = .returned (.tuple #[.int .i64 4, .int .i64 0]) ∧ Below w.heap.size w w' := by
  refine (Ready_any ⟨8000, 20, 30, 100, 120, 230, 5⟩ 1000 2000 A 3 c [(2, 300), (4, 650), (8, 1000)] w rfl (by unfold maxLen; omega) hA).mono ?_
  rintro e w' ⟨rfl, hb⟩
  have e1 : readyR ⟨8000, 20, 30, 100, 120, 230, 5⟩ 1000 2000 [(2, 300), (4, 650), (8, 1000)] = (4, 0) := by decide +kernel
  exact ⟨by rw [e1], hb⟩
def exB : List UInt8 := [108, 101, 118, 101, 108, 115, 32, 50, 32, 50, 10, 121, 101, 97, 114, 32, 48, 32, 45, 57, 32, 45, 52, 10, 121, 101, 97, 114, 32, 49, 32, 48, 32, 45, 56, 10, 101, 110, 100, 32, 49, 48, 53, 10]
theorem print_exB : printR [[-9, -4], [0, -8]] = (exB, 0) := by decide +kernel
theorem print_ex (A : Option Addr) (c : Nat) (w : World) (hT : LvsAt w w.heap.size A [[-9, -4], [0, -8]]) (ht : Tab w) :
    Calls Tryz.prog 54 #[.slice A 2 c] w fun e w' => e = .returned (.tuple #[.string ⟨exB.toArray⟩, .int .i64 0]) ∧ Below w.heap.size w w' := by
  refine (Print_any A 2 c [[-9, -4], [0, -8]] w rfl (by unfold maxLen; omega) hT ht).mono ?_
  rintro e w' ⟨rfl, hb⟩
  exact ⟨by rw [print_exB], hb⟩
theorem eq64 (a b c a' b' c' : Int) (w : World) : (Op.equalIn 10000 64 (.agg #[.int .i64 a, .int .i64 b, .int .i64 c]) (.agg #[.int .i64 a', .int .i64 b', .int .i64 c'])).run Tryz.prog w = .ok (a == a' && (b == b' && c == c')) w := by
  have u3 := Tryz.underlying3
  have u62 := Tryz.underlying62
  have a3 := Tryz.isAgg3
  have z3 := Tryz.sizeOf3
  have a62 := Tryz.isAgg62
  have z62 := Tryz.sizeOf62
  have hS : Tryz.prog.underlying 64 = some (.struct (Tryz.prog.fieldsOf 64)) := by kernel_rfl
  have hp : Tryz.prog.stoodInHeld 64 = false := by kernel_rfl
  rw [show (10000 : Nat) = 9999 + 1 from rfl, run_equalIn_agg w 9999 64 _ _ hS hp]
  simp only [Program.fieldsOf, Tryz.underlying64]
  go_simp
  by_cases h1 : a = a' <;> by_cases h2 : b = b' <;> by_cases h3 : c = c' <;> simp [h1, h2, h3]
theorem sps_two {w : World} {b B : Nat} {A1 A2 : Option Addr} {xs ys : List Sp} {c1 c2 : Nat} (h : w.heap[b]? = some (.cells #[.slice A1 xs.length c1, .slice A2 ys.length c2] 40 (0, 0))) (hb : b < B)
    (h1 : PrsAt w B A1 xs) (h2 : PrsAt w B A2 ys) (l1 : xs.length ≤ maxLen) (l2 : ys.length ≤ maxLen) (k1 : xs.length ≤ c1) (k2 : ys.length ≤ c2) : SpsAt w B (some ⟨b, 0, none⟩) [xs, ys] := fun _ => by
  refine ⟨b, 0, rfl, hb, fun i x hx => ?_⟩
  have e := fun i => cell_of_row w b i _ 40 (0, 0) h
  match i, hx with
  | 0, hx => simp at hx; subst hx; exact ⟨A1, c1, by simpa using e 0, h1, l1, k1⟩
  | 1, hx => simp at hx; subst hx; exact ⟨A2, c2, by simpa using e 1, h2, l2, k2⟩
  | i + 2, hx => simp at hx
theorem three_blks (w : World) (o1 o2 o3 : Obj) : (((w.alloc o1).alloc o2).alloc o3).heap[w.heap.size]? = some o1 ∧ (((w.alloc o1).alloc o2).alloc o3).heap[w.heap.size + 1]? = some o2 ∧ (((w.alloc o1).alloc o2).alloc o3).heap[w.heap.size + 1 + 1]? = some o3 ∧ Below w.heap.size w (((w.alloc o1).alloc o2).alloc o3) := by
  have z1 := heap_alloc_new w o1
  have b1 := (Below.refl w.heap.size w).alloc (Nat.le_refl _) o1
  obtain ⟨z2, z3, b2⟩ := two_boxes (w.alloc o1) o2 o3
  simp only [World.size_alloc] at z2 z3
  exact ⟨(b2.block _ (by simp)).trans z1, z2, z3, b1.trans (b2.mono (by simp))⟩
theorem fld26_0 (x0 x1 x2 x3 x4 x5 : Value) (w : World) : (Instr.field 26 (.agg #[x0, x1, x2, x3, x4, x5]) 0).run Tryz.prog w = .ok x0 w := by
  have a22 := Tryz.isAgg22
  have s22 := Tryz.sizeOf22
  simp [Instr.field, go_sem, part, asAgg, a22, s22]
theorem thaws2 (A : Option Addr) (w : World) (B : Nat) (h : SpsAt w B A (List.replicate 2 thR)) : SpsAt w B A exTs := h
theorem zeros2 (w : World) : IntsAt (w.alloc (.cells #[.int .i64 0, .int .i64 0] 3)) (w.alloc (.cells #[.int .i64 0, .int .i64 0] 3)).heap.size (some ⟨w.heap.size, 0, none⟩) [0, 0] := two_ints w 0 0
set_option maxRecDepth 100000 in
set_option maxHeartbeats 8000000 in
theorem known_any (w : World) (ht : Tab w) : Calls Tryz.prog 19 #[] w fun e w' => e = .returned (.bool true) ∧ Below w.heap.size w w' := by
  have HT := Lib.hid ht; clear ht
  go_enter Tryz.func19, Tryz.ntmps19
  go_wp2_with fail
  refine (Site_any _).mono ?_
  rintro e w1 ⟨p1, q1, r1, rfl, h1, h2, h3, b1⟩
  have P1 := Lib.hid h1; have Q1 := Lib.hid h2; have R1 := Lib.hid h3; have B1 := Lib.hid b1; clear h1 h2 h3 b1
  go_wp2_with fail
  refine (Thaws_any 2 (by decide) _).mono ?_
  rintro e w2 ⟨A2, c2, rfl, _, s2, b1⟩
  have I2 : Hid ((exC 0 (some ⟨p1, 0, none⟩) (some ⟨q1, 0, none⟩) (some ⟨r1, 0, none⟩) A2 2 1 3 c2).In w2) := Lib.hid (ex_in (P1.out.up b1) (Q1.out.up b1) (R1.out.up b1) s2)
  have B2 := Lib.hid (B1.out.trans (b1.mono B1.out.size)); clear b1 s2
  go_wp2_with fail
  have bz := (Below.refl w2.heap.size w2).alloc (Nat.le_refl _) (.cells #[.int .i64 0, .int .i64 0] 3)
  have L3 := Lib.hid (levels_ex (c2 := 2) (I2.out.up bz) (zeros2 w2))
  have B3 := Lib.hid (B2.out.trans (bz.mono B2.out.size)); clear bz
  refine L3.out.mono ?_
  rintro e w3 ⟨AL, cL, rfl, sL, b1⟩
  have SL3 := Lib.hid sL; have B4 := Lib.hid (B3.out.trans (b1.mono B3.out.size)); clear sL b1 L3
  go_wp2_with fail
  refine (Site_any _).mono ?_
  rintro e w4 ⟨p2, q2, r2, rfl, h1, h2, h3, b1⟩
  have P2 := Lib.hid h1; have Q2 := Lib.hid h2; have R2 := Lib.hid h3; have B5 := Lib.hid (B4.out.trans (b1.mono B4.out.size)); have SL4 := Lib.hid (SL3.out.up b1); clear h1 h2 h3 b1
  go_wp2_with fail
  refine (Thaws_any 2 (by decide) _).mono ?_
  rintro e w5 ⟨A3, c3, rfl, _, s2, b1⟩
  have I5 : Hid ((exC 0 (some ⟨p2, 0, none⟩) (some ⟨q2, 0, none⟩) (some ⟨r2, 0, none⟩) A3 2 1 3 c3).In w5) := Lib.hid (ex_in (P2.out.up b1) (Q2.out.up b1) (R2.out.up b1) s2)
  have B6 := Lib.hid (B5.out.trans (b1.mono B5.out.size)); have SL5 := Lib.hid (SL4.out.up b1); clear b1 s2
  go_wp2_with fail
  have bz := (Below.refl w5.heap.size w5).alloc (Nat.le_refl _) (.cells #[.int .i64 0, .int .i64 0] 3)
  have L6 := Lib.hid (fault_ex (c2 := 2) (I5.out.up bz) (zeros2 w5))
  have B7 := Lib.hid (B6.out.trans (bz.mono B6.out.size)); have SL6 := Lib.hid (SL5.out.up bz); clear bz
  refine L6.out.mono ?_
  rintro e w6 ⟨rfl, b1⟩
  have B8 := Lib.hid (B7.out.trans (b1.mono B7.out.size)); have SL7 := Lib.hid (SL6.out.up b1); clear b1 L6
  go_wp2_with fail
  have zf := heap_alloc_new w6 (.cells #[.int .i64 1, .int .i64 5, .int .i64 0] 64)
  have bz := (Below.refl w6.heap.size w6).alloc (Nat.le_refl _) (.cells #[.int .i64 1, .int .i64 5, .int .i64 0] 64)
  obtain ⟨wf, hwf⟩ : ∃ z, w6.alloc (.cells #[.int .i64 1, .int .i64 5, .int .i64 0] 64) = z := ⟨_, rfl⟩
  rw [hwf] at zf bz ⊢
  obtain ⟨bf, hbf⟩ : ∃ z, w6.heap.size = z := ⟨_, rfl⟩
  rw [hbf] at zf ⊢
  have B9 := Lib.hid (B8.out.trans (bz.mono B8.out.size)); have SL8 := Lib.hid (SL7.out.up bz); have ZF := Lib.hid zf
  clear zf bz hwf hbf SL7 SL6 SL5 SL4 SL3 P1 Q1 R1 P2 Q2 R2 I2 I5
  refine (Site_any _).mono ?_
  rintro e w7 ⟨p3, q3, r3, rfl, h1, h2, h3, b1⟩
  have P3 := Lib.hid h1; have Q3 := Lib.hid h2; have R3 := Lib.hid h3; have C1 := Lib.hid b1; clear h1 h2 h3 b1
  go_wp2_with fail
  refine (Thaws_any 2 (by decide) _).mono ?_
  rintro e w8 ⟨A4, c4, rfl, _, s2, b1⟩
  have I8 : Hid ((exC 0 (some ⟨p3, 0, none⟩) (some ⟨q3, 0, none⟩) (some ⟨r3, 0, none⟩) A4 2 1 3 c4).In w8) := Lib.hid (ex_in (P3.out.up b1) (Q3.out.up b1) (R3.out.up b1) s2)
  have C2 := Lib.hid (C1.out.trans (b1.mono C1.out.size)); clear b1 s2
  have L9 := Lib.hid (best_ex I8.out)
  go_wp2_with fail
  refine L9.out.mono ?_
  rintro e w9 ⟨bp, rfl, zb, _, b1⟩
  have ZB := Lib.hid zb; have C3 := Lib.hid (C2.out.trans (b1.mono C2.out.size)); clear zb b1 L9
  go_wp2_with fail
  refine (Site_any _).mono ?_
  rintro e w10 ⟨p4, q4, r4, rfl, h1, h2, h3, b1⟩
  obtain ⟨bp4, op4, e4, hb4, hc4⟩ := pil_cells h1 (by simp [exPs])
  injection e4 with e4
  injection e4 with e5 e6
  subst e5 e6
  have hc := hc4 0 _ rfl
  obtain ⟨k0, k1, k2, k3, k4, k5, k6⟩ := hc
  simp only [Nat.zero_mul, Nat.zero_add, Nat.add_zero] at k0 k1 k2 k3 k4 k5 k6
  have ZB2 := Lib.hid ((b1.block _ (heapsz ZB.out)).trans ZB.out); have C4 := Lib.hid (C3.out.trans (b1.mono C3.out.size))
  clear h1 h2 h3 b1 hc4 hb4
  have g26 := fld26_0 (.slice (some ⟨p4, 0, none⟩) 2 2) (.slice (some ⟨q4, 0, none⟩) 1 1) (.slice (some ⟨r4, 0, none⟩) 3 3) (.int .i64 200) (.int .i64 25) (.int .i64 10)
  go_wp2_with fail
  clear k0 k1 k2 k3 k4 k5 k6
  have zc := heap_alloc_new w10 (.cells #[.int .i64 2, .int .i64 300, .int .i64 4, .int .i64 650, .int .i64 8, .int .i64 1000] 108)
  have bz := (Below.refl w10.heap.size w10).alloc (Nat.le_refl _) (.cells #[.int .i64 2, .int .i64 300, .int .i64 4, .int .i64 650, .int .i64 8, .int .i64 1000] 108)
  have hcu : PrsAt (w10.alloc (.cells #[.int .i64 2, .int .i64 300, .int .i64 4, .int .i64 650, .int .i64 8, .int .i64 1000] 108)) (w10.alloc (.cells #[.int .i64 2, .int .i64 300, .int .i64 4, .int .i64 650, .int .i64 8, .int .i64 1000] 108)).heap.size (some ⟨w10.heap.size, 0, none⟩) [(2, 300), (4, 650), (8, 1000)] :=
    rowAt_block (k := 2) (fun _ => rfl) (T := 108) zc (heapsz zc)
  have L11 := Lib.hid (ready_ex (c := 3) _ _ hcu)
  have ZB3 := Lib.hid ((bz.block _ (heapsz ZB2.out)).trans ZB2.out); have C5 := Lib.hid (C4.out.trans (bz.mono C4.out.size))
  clear zc bz hcu
  refine L11.out.mono ?_
  rintro e w11 ⟨rfl, b1⟩
  have ZB4 := Lib.hid ((b1.block _ (heapsz ZB3.out)).trans ZB3.out); have C6 := Lib.hid (C5.out.trans (b1.mono C5.out.size)); clear b1 L11
  go_wp2_with fail
  obtain ⟨w12, hw12⟩ : ∃ z, ((w11.alloc (.cells #[.int .i64 (-9), .int .i64 (-4)] 3)).alloc (.cells #[.int .i64 0, .int .i64 (-8)] 3)).alloc (.cells #[.slice (some ⟨w11.heap.size, 0, none⟩) 2 2, .slice (some ⟨w11.heap.size + 1, 0, none⟩) 2 2] 34) = z := ⟨_, rfl⟩
  obtain ⟨y0, y1, y2, bz⟩ := three_blks w11 (.cells #[.int .i64 (-9), .int .i64 (-4)] 3) (.cells #[.int .i64 0, .int .i64 (-8)] 3) (.cells #[.slice (some ⟨w11.heap.size, 0, none⟩) 2 2, .slice (some ⟨w11.heap.size + 1, 0, none⟩) 2 2] 34)
  rw [hw12] at y0 y1 y2 bz ⊢
  have hlv : LvsAt w12 w12.heap.size (some ⟨w11.heap.size + 1 + 1, 0, none⟩) [[-9, -4], [0, -8]] :=
    lvs_two y2 (heapsz y2) (rowAt_block (k := 1) (R := intR) (xs := [-9, -4]) (fun _ => rfl) (T := 3) y0 (heapsz y0)) (rowAt_block (k := 1) (R := intR) (xs := [0, -8]) (fun _ => rfl) (T := 3) y1 (heapsz y1)) (by simp [maxLen]) (by simp [maxLen]) (Nat.le_refl _) (Nat.le_refl _)
  have ZB5 := Lib.hid ((bz.block _ (heapsz ZB4.out)).trans ZB4.out); have C7 := Lib.hid (C6.out.trans (bz.mono C6.out.size))
  have L13 := Lib.hid (print_ex (some ⟨w11.heap.size + 1 + 1, 0, none⟩) 2 w12 hlv (HT.out.next (B9.out.trans (C7.out.mono B9.out.size))))
  clear y0 y1 y2 bz hlv hw12
  refine L13.out.mono ?_
  rintro e w13 ⟨rfl, b1⟩
  have ZB6 := Lib.hid ((b1.block _ (heapsz ZB5.out)).trans ZB5.out); have C8 := Lib.hid (C7.out.trans (b1.mono C7.out.size)); clear b1 L13
  clear ZB ZB2 ZB3 ZB4 ZB5 C1 C2 C3 C4 C5 C6 C7 I8 P3 Q3 R3
  go_wp2_with fail
  obtain ⟨w14, hw14⟩ : ∃ z, ((w13.alloc (.cells #[.int .i64 (-9), .int .i64 (-2), .int .i64 (-4), .int .i64 (-2)] 42)).alloc (.cells #[.int .i64 (-18), .int .i64 (-4), .int .i64 (-8), .int .i64 (-4)] 42)).alloc (.cells #[.slice (some ⟨w13.heap.size, 0, none⟩) 2 2, .slice (some ⟨w13.heap.size + 1, 0, none⟩) 2 2] 40) = z := ⟨_, rfl⟩
  obtain ⟨y0, y1, y2, bz⟩ := three_blks w13 (.cells #[.int .i64 (-9), .int .i64 (-2), .int .i64 (-4), .int .i64 (-2)] 42) (.cells #[.int .i64 (-18), .int .i64 (-4), .int .i64 (-8), .int .i64 (-4)] 42) (.cells #[.slice (some ⟨w13.heap.size, 0, none⟩) 2 2, .slice (some ⟨w13.heap.size + 1, 0, none⟩) 2 2] 40)
  rw [hw14] at y0 y1 y2 bz ⊢
  have hlv : SpsAt w14 w14.heap.size (some ⟨w13.heap.size + 1 + 1, 0, none⟩) exL :=
    sps_two y2 (heapsz y2) (rowAt_block (k := 2) (R := prR) (xs := [(-9, -2), (-4, -2)]) (fun _ => rfl) (T := 42) y0 (heapsz y0)) (rowAt_block (k := 2) (R := prR) (xs := [(-18, -4), (-8, -4)]) (fun _ => rfl) (T := 42) y1 (heapsz y1)) (by simp [maxLen]) (by simp [maxLen]) (Nat.le_refl _) (Nat.le_refl _)
  have ZB7 := Lib.hid ((bz.block _ (heapsz ZB6.out)).trans ZB6.out); have C9 := Lib.hid (C8.out.trans (bz.mono C8.out.size))
  have hss := sameSpans_any AL (some ⟨w13.heap.size + 1 + 1, 0, none⟩) 2 2 cL 2 exL exL w14 rfl rfl (by unfold maxLen; omega) (by unfold maxLen; omega) (SL8.out.up C9.out) hlv
  rw [decide_eq_true rfl] at hss
  have L15 := Lib.hid hss
  clear y0 y1 y2 bz hlv hw14 hss
  refine L15.out.mono ?_
  rintro e w15 ⟨rfl, b1⟩
  have ZB8 := Lib.hid ((b1.block _ (heapsz ZB7.out)).trans ZB7.out); have D1 := Lib.hid (C9.out.trans (b1.mono C9.out.size)); clear b1 L15
  have zf := (D1.out.block _ (heapsz ZF.out)).trans ZF.out
  obtain ⟨f0, f1, f2⟩ := box3_cells zf
  have q64 : ∀ w, (Op.equalIn 10000 64 (.agg #[.int .i64 1, .int .i64 5, .int .i64 0]) (.agg #[.int .i64 1, .int .i64 5, .int .i64 0])).run Tryz.prog w = .ok true w := fun w => by rw [eq64]; simp
  have hg : Tryz.prog.eqGuardType Tryz.prog.depth 64 = false := by kernel_rfl
  clear zf
  go_wp2_with fail
  have bz := (Below.refl w15.heap.size w15).alloc (Nat.le_refl _) (.cells #[.int .i64 1, .int .i64 0] 3)
  have zb := (bz.block _ (heapsz ZB8.out)).trans ZB8.out
  have hsm := same_any (some ⟨bp, 0, none⟩) (some ⟨w15.heap.size, 0, none⟩) 2 2 2 2 [1, 0] [1, 0] (w15.alloc (.cells #[.int .i64 1, .int .i64 0] 3)) rfl rfl (by unfold maxLen; omega) (by unfold maxLen; omega) (rowAt_block (k := 1) (R := intR) (xs := [1, 0]) (fun _ => rfl) (T := 3) zb (heapsz zb)) (two_ints w15 1 0)
  rw [decide_eq_true rfl] at hsm
  have L16 := Lib.hid hsm
  have D2 := Lib.hid (D1.out.trans (bz.mono D1.out.size))
  clear bz zb hsm f0 f1 f2 q64 hg
  refine L16.out.mono ?_
  rintro e w16 ⟨rfl, b1⟩
  have D3 := Lib.hid (B9.out.trans ((D2.out.trans (b1.mono D2.out.size)).mono B9.out.size)); clear b1 L16
  go_wp2_with fail
  go_ret
  exact ⟨ret_bool (by decide +kernel), D3.out⟩
end Go.Proofs.YtdlaphlpimlgdaaGreatDoor
