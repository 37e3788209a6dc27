/- known, walked. -/
import Derived.Test.YtccekbdhffccdaaDoorLL
namespace Go.Proofs.YtccekbdhffccdaaDoor
open Go.RowKit

theorem sl_new (w : World) (x y : Int) : SlInts (w.alloc (.cells #[.int .i64 x, .int .i64 y] 3)) (.slice (some ⟨w.heap.size, 0, none⟩) 2 2) [x, y] := by
  have h := heap_alloc_new w (.cells #[.int .i64 x, .int .i64 y] 3)
  refine ⟨_, 2, rfl, Nat.le_refl _, fun _ => ⟨w.heap.size, 0, rfl, by simp, fun i v hv => ?_⟩⟩
  have hi : i < 2 := (List.getElem?_eq_some_iff.1 hv).1
  rw [cell_of_row _ w.heap.size _ _ 3 (0, 0) h]
  match i, hi with
  | 0, _ => cases hv; rfl
  | 1, _ => cases hv; rfl
theorem SlInts.al {w : World} {v : Value} {xs : List Int} (h : SlInts w v xs) (o : Obj) : SlInts (w.alloc o) v xs := h.next_ ((Below.refl _ _).alloc (Nat.le_refl _) _)
theorem truth_ex (w : World) : ∀ W, W = (((((w.alloc (.cells #[.int .i64 110, .int .i64 250] 3)).alloc (.cells #[.int .i64 1000, .int .i64 0] 3)).alloc (.cells #[.int .i64 65000, .int .i64 60000] 3)).alloc (.cells #[.int .i64 60000, .int .i64 80000] 3)).alloc (.cells #[.int .i64 200, .int .i64 100] 3)) →
    SlInts W (.slice (some ⟨w.heap.size, 0, none⟩) 2 2) exT.ms ∧ SlInts W (.slice (some ⟨w.heap.size + 1, 0, none⟩) 2 2) exT.ws ∧ SlInts W (.slice (some ⟨w.heap.size + 1 + 1, 0, none⟩) 2 2) exT.ss ∧
    SlInts W (.slice (some ⟨w.heap.size + 1 + 1 + 1, 0, none⟩) 2 2) exT.vs ∧ SlInts W (.slice (some ⟨w.heap.size + 1 + 1 + 1 + 1, 0, none⟩) 2 2) exT.ns ∧ Below w.heap.size w W := by
  rintro W rfl
  have q1 := sl_new (w.alloc (.cells #[.int .i64 110, .int .i64 250] 3)) 1000 0
  have q2 := sl_new ((w.alloc (.cells #[.int .i64 110, .int .i64 250] 3)).alloc (.cells #[.int .i64 1000, .int .i64 0] 3)) 65000 60000
  have q3 := sl_new (((w.alloc (.cells #[.int .i64 110, .int .i64 250] 3)).alloc (.cells #[.int .i64 1000, .int .i64 0] 3)).alloc (.cells #[.int .i64 65000, .int .i64 60000] 3)) 60000 80000
  have q4 := sl_new ((((w.alloc (.cells #[.int .i64 110, .int .i64 250] 3)).alloc (.cells #[.int .i64 1000, .int .i64 0] 3)).alloc (.cells #[.int .i64 65000, .int .i64 60000] 3)).alloc (.cells #[.int .i64 60000, .int .i64 80000] 3)) 200 100
  simp only [World.size_alloc] at q1 q2 q3 q4
  exact ⟨((((sl_new w 110 250).al _).al _).al _).al _, ((q1.al _).al _).al _, (q2.al _).al _, q3.al _, q4,
    (((((Below.refl _ _).alloc (Nat.le_refl _) _).alloc (by simp) _).alloc (by simp; omega) _).alloc (by simp; omega) _).alloc (by simp; omega) _⟩

theorem exW_at {w : World} {b B : Nat} (h : w.heap[b]? = some (.cells #[.int .i64 500, .int .i64 610, .int .i64 0, .int .i64 37000, .int .i64 2, .int .i64 500, .int .i64 795, .int .i64 0, .int .i64 74000, .int .i64 2] 58 (0, 0))) (hb : b < B) : SnsAt w B (some ⟨b, 0, none⟩) exW := fun _ => by
  refine ⟨b, 0, rfl, hb, fun i x hx => ?_⟩
  have hi : i < 2 := (List.getElem?_eq_some_iff.1 hx).1
  simp only [cell_of_row w b _ _ 58 (0, 0) h]
  match i, hi with
  | 0, _ => cases hx; exact ⟨rfl, rfl, rfl, rfl, rfl⟩
  | 1, _ => cases hx; exact ⟨rfl, rfl, rfl, rfl, rfl⟩
theorem ints2 (w : World) (x y : Int) : IntsAt (w.alloc (.cells #[.int .i64 x, .int .i64 y] 3)) (w.alloc (.cells #[.int .i64 x, .int .i64 y] 3)).heap.size (some ⟨w.heap.size, 0, none⟩) [x, y] := by
  obtain ⟨A, c, hv, hc, hi⟩ := sl_new w x y
  cases hv
  exact hi

set_option maxRecDepth 100000 in
set_option maxHeartbeats 4000000 in
theorem known_any (w : World) (ht : Tab w) : Calls Tryd.prog 17 #[] w fun e w' => e = .returned (.bool true) ∧ Below w.heap.size w w' := by
  have HT := Lib.hid ht; clear ht
  go_enter Tryd.func17, Tryd.ntmps17
  go_wp2_with fail
  refine (P_any _).mono ?_
  rintro e w1 ⟨A1, rfl, l1, b1⟩
  have L1 := Lib.hid l1; have B1 := Lib.hid b1; clear l1 b1
  go_wp2_with fail
  refine (Y_any 2 (by decide) _).mono ?_
  rintro e w2 ⟨Y1, c1, rfl, h1, y1, b1⟩
  have B2 := Lib.hid (B1.out.trans (b1.mono B1.out.size)); have L2 := Lib.hid (L1.out.next b1); have Y2 := Lib.hid y1; clear b1 y1 h1
  go_wp2_with fail
  refine (years_ex A1 Y1 c1 _ L2.out Y2.out).mono ?_
  rintro e w3 ⟨S1, d1, xs, rfl, hl, hm, s1, b1⟩
  have B3 := Lib.hid (B2.out.trans (b1.mono B2.out.size)); have S3 := Lib.hid s1; have HXL := Lib.hid hl; have HXM := Lib.hid hm; clear b1 s1 hl hm
  go_wp2_with fail
  refine (P_any _).mono ?_
  rintro e w4 ⟨A2, rfl, l1, b1⟩
  have B4 := Lib.hid (B3.out.trans (b1.mono B3.out.size)); have L4 := Lib.hid l1; have S4 := Lib.hid (S3.out.next_ b1); clear b1 l1
  go_wp2_with fail
  refine (Y_any 2 (by decide) _).mono ?_
  rintro e w5 ⟨Y3, c2, rfl, h1, y1, b1⟩
  have B5 := Lib.hid (B4.out.trans (b1.mono B4.out.size)); have L5 := Lib.hid (L4.out.next b1); have Y5 := Lib.hid y1; have S5 := Lib.hid (S4.out.next_ b1); clear b1 y1 h1
  go_wp2_with fail
  obtain ⟨W5, hW5⟩ : ∃ W, W = (((((w5.alloc (.cells #[.int .i64 110, .int .i64 250] 3)).alloc (.cells #[.int .i64 1000, .int .i64 0] 3)).alloc (.cells #[.int .i64 65000, .int .i64 60000] 3)).alloc (.cells #[.int .i64 60000, .int .i64 80000] 3)).alloc (.cells #[.int .i64 200, .int .i64 100] 3)) := ⟨_, rfl⟩
  obtain ⟨t0, t1, t2, t3, t4, b1⟩ := truth_ex w5 W5 hW5
  rw [← hW5]
  have B6 := Lib.hid (B5.out.trans (b1.mono B5.out.size)); have S6 := Lib.hid (S5.out.next_ b1)
  refine (play_ex A2 Y3 c2 _ _ _ _ _ _ (L5.out.next b1) (Y5.out.next b1) t0 t1 t2 t3 t4).mono ?_
  clear b1 t0 t1 t2 t3 t4 hW5
  rintro e w7 ⟨v, rfl, v1, b1⟩
  obtain ⟨V, dv, rfl, hdv, V1⟩ := v1
  have B7 := Lib.hid (B6.out.trans (b1.mono B6.out.size)); have V7 := Lib.hid V1; have S7 := Lib.hid (S6.out.next_ b1); clear b1 V1
  go_wp2_with fail
  obtain ⟨W8, hW8⟩ : ∃ W, W = w7.alloc (.cells #[.int .i64 126000, .int .i64 120000, .int .i64 6000] 44) := ⟨_, rfl⟩
  have z8 : W8.heap[w7.heap.size]? = some (.cells #[.int .i64 126000, .int .i64 120000, .int .i64 6000] 44 (0, 0)) := by rw [hW8]; exact heap_alloc_new w7 _
  have b8 : Below w7.heap.size w7 W8 := by rw [hW8]; exact (Below.refl _ _).alloc (Nat.le_refl _) _
  rw [← hW8]
  have Z8 := Lib.hid z8
  have B8 := Lib.hid (B7.out.trans (b8.mono B7.out.size)); have V8 := Lib.hid (V7.out.next b8); have S8 := Lib.hid (S7.out.next_ b8)
  clear z8 b8 hW8
  refine (P_any _).mono ?_
  rintro e w9 ⟨A3, rfl, l1, b1⟩
  have C9 := Lib.hid b1; have L9 := Lib.hid l1; clear b1 l1
  go_wp2_with fail
  refine (Y_any 2 (by decide) _).mono ?_
  rintro e w10 ⟨Y4, c3, rfl, h1, y1, b1⟩
  have C10 := Lib.hid (C9.out.trans (b1.mono C9.out.size)); have L10 := Lib.hid (L9.out.next b1); have Y10 := Lib.hid y1; clear b1 y1 h1
  go_wp2_with fail
  refine (exc_ex A3 Y4 c3 _ L10.out Y10.out).mono ?_
  rintro e w11 ⟨rfl, b1⟩
  have C11 := Lib.hid (C10.out.trans (b1.mono C10.out.size)); clear b1
  go_wp2_with fail
  refine (P_any _).mono ?_
  rintro e w12 ⟨A4, rfl, l1, b1⟩
  have C12 := Lib.hid (C11.out.trans (b1.mono C11.out.size)); have L12 := Lib.hid l1; clear b1 l1
  go_wp2_with fail
  refine (Y_any 1 (by decide) _).mono ?_
  rintro e w13 ⟨Y5', c4, rfl, h1, y1, b1⟩
  have C13 := Lib.hid (C12.out.trans (b1.mono C12.out.size)); have L13 := Lib.hid (L12.out.next b1); have Y13 := Lib.hid y1; clear b1 y1 h1
  go_wp2_with fail
  refine (allow_ex A4 Y5' c4 _ L13.out Y13.out).mono ?_
  rintro e w14 ⟨rfl, b1⟩
  have C14 := Lib.hid (C13.out.trans (b1.mono C13.out.size)); clear b1
  go_wp2_with fail
  refine (P_any _).mono ?_
  rintro e w15 ⟨A5, rfl, l1, b1⟩
  have C15 := Lib.hid (C14.out.trans (b1.mono C14.out.size)); have L15 := Lib.hid l1; clear b1 l1
  go_wp2_with fail
  refine (Y_any 2 (by decide) _).mono ?_
  rintro e w16 ⟨Y6, c5, rfl, h1, y1, b1⟩
  have C16 := Lib.hid (C15.out.trans (b1.mono C15.out.size)); have L16 := Lib.hid (L15.out.next b1); have Y16 := Lib.hid y1; clear b1 y1 h1
  go_wp2_with fail
  refine (need_ex A5 Y6 c5 _ L16.out Y16.out).mono ?_
  rintro e w17 ⟨rfl, b1⟩
  have C17 := Lib.hid (C16.out.trans (b1.mono C16.out.size)); clear b1
  go_wp2_with fail
  refine (P_any _).mono ?_
  rintro e w18 ⟨A6, rfl, l1, b1⟩
  have C18 := Lib.hid (C17.out.trans (b1.mono C17.out.size)); have L18 := Lib.hid l1; clear b1 l1
  go_wp2_with fail
  refine (print_ex A6 _ L18.out (HT.out.next (B8.out.trans (C18.out.mono B8.out.size)))).mono ?_
  rintro e w19 ⟨rfl, b1⟩
  have C19 := Lib.hid (C18.out.trans (b1.mono C18.out.size)); clear b1
  go_wp2_with fail
  refine (span_any _ _ _).mono ?_
  rintro e w20 ⟨rfl, b1⟩
  have C20 := Lib.hid (C19.out.trans (b1.mono C19.out.size)); clear b1
  go_wp2_with fail
  refine (span_any _ _ _).mono ?_
  rintro e w21 ⟨rfl, b1⟩
  have C21 := Lib.hid (C20.out.trans (b1.mono C20.out.size)); clear b1
  go_wp2_with fail
  refine (span_any _ _ _).mono ?_
  rintro e w22 ⟨rfl, b1⟩
  have C22 := Lib.hid (C21.out.trans (b1.mono C21.out.size)); clear b1
  go_wp2_with fail
  refine (span_any _ _ _).mono ?_
  rintro e w23 ⟨rfl, b1⟩
  have C23 := Lib.hid (C22.out.trans (b1.mono C22.out.size)); clear b1
  go_wp2_with fail
  obtain ⟨W24, hW24⟩ : ∃ W, W = w23.alloc (.cells #[.int .i64 500, .int .i64 610, .int .i64 0, .int .i64 37000, .int .i64 2, .int .i64 500, .int .i64 795, .int .i64 0, .int .i64 74000, .int .i64 2] 58) := ⟨_, rfl⟩
  have z24 : W24.heap[w23.heap.size]? = some (.cells #[.int .i64 500, .int .i64 610, .int .i64 0, .int .i64 37000, .int .i64 2, .int .i64 500, .int .i64 795, .int .i64 0, .int .i64 74000, .int .i64 2] 58 (0, 0)) := by rw [hW24]; exact heap_alloc_new w23 _
  have b24 : Below w23.heap.size w23 W24 := by rw [hW24]; exact (Below.refl _ _).alloc (Nat.le_refl _) _
  rw [← hW24]
  have C24 := Lib.hid (C23.out.trans (b24.mono C23.out.size))
  have W24' := Lib.hid (exW_at z24 (Array.getElem?_eq_some_iff.1 z24).1)
  clear z24 b24 hW24
  refine (sameSeen_any S1 _ 2 2 d1 2 xs exW W24 HXL.out rfl (by decide) (by decide) (S8.out.next_ C24.out) W24'.out).mono ?_
  rintro e w25 ⟨rfl, b1⟩
  rw [decide_eq_true HXM.out]
  have C25 := Lib.hid (C24.out.trans (b1.mono C24.out.size)); clear b1
  go_wp2_with fail
  refine (same_any V _ 2 2 dv 2 [544, 592] [544, 592] _ rfl rfl (by decide) (by decide) ((V8.out.next C25.out).alloc _) (ints2 _ _ _)).mono ?_
  rintro e w26 ⟨rfl, b1⟩
  rw [decide_eq_true rfl]
  have C26 := Lib.hid (C25.out.trans (((Below.refl _ _).alloc (Nat.le_refl _) _ |>.trans (b1.mono (by simp))).mono C25.out.size)); clear b1
  have z26 := (C26.out.block _ (Array.getElem?_eq_some_iff.1 Z8.out).1).trans Z8.out
  have p0 := cell_of_row w26 w7.heap.size 0 _ 44 (0, 0) z26
  have p1 := cell_of_row w26 w7.heap.size 1 _ 44 (0, 0) z26
  have p2 := cell_of_row w26 w7.heap.size 2 _ 44 (0, 0) z26
  simp at p0 p1 p2
  clear z26
  have q44 : ∀ w, (Op.equalIn 10000 44 (.agg #[.int .i64 126000, .int .i64 120000, .int .i64 6000]) (.agg #[.int .i64 126000, .int .i64 120000, .int .i64 6000])).run Tryd.prog w = .ok true w := fun w => by rw [eq44]; simp
  have hg : Tryd.prog.eqGuardType Tryd.prog.depth 44 = false := by kernel_rfl
  go_wp2_with fail
  go_ret
  exact ⟨ret_bool (by decide +kernel), B8.out.trans (C26.out.mono B8.out.size)⟩
end Go.Proofs.YtccekbdhffccdaaDoor
