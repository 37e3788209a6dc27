/- What the examples' rows ask, at the models. known. known, walked. -/
import Derived.Test.YtccekbdhffccdaaDoorFF
import Derived.Test.YtccekbdhffccdaaDoorHH
import Derived.Test.YtccekbdhffccdaaDoorNN
import Derived.Test.YtccekbdhffccdaaDoorJJ
import Derived.Test.YtccekbdhffccdaaDoorAA
import Derived.Test.YtccekbdhffccdaaDoorTT
namespace Go.Proofs.YtccekbdhffccdaaDoor
open Go.RowKit

def exT : Tru := ⟨[110, 250], [1000, 0], [65000, 60000], [60000, 80000], [200, 100]⟩
def exW : List Sn := [⟨500, 610, 0, 37000, 2⟩, ⟨500, 795, 0, 74000, 2⟩]
theorem k_years : (yearsR exP 0 2000 (List.replicate 2 exY)).1.map snT = exW.map snT ∧ (yearsR exP 0 2000 (List.replicate 2 exY)).2 = 0 := by decide +kernel
theorem k_play : playI exP 0 2000 (List.replicate 2 exY) exT = ([544, 592], (126000, 120000, 6000), 0) := by decide +kernel
theorem k_print : printR exP 0 2000 = ([104, 111, 108, 101, 32, 50, 32, 48, 32, 50, 48, 48, 48, 10, 108, 97, 121, 101, 114, 32, 53, 48, 48, 32, 49, 48, 48, 32, 49, 50, 48, 10, 108, 97, 121, 101, 114, 32, 49, 48, 48, 48, 32, 50, 48, 48, 32, 51, 48, 48, 10, 101, 110, 100, 32, 49, 102, 10], 0) := by decide +kernel
theorem k_exc : depthI exP 0 2000 (List.replicate 2 exY) 610 = 0 ∧ excI true exP 0 2000 (List.replicate 2 exY) 610 0 = 1 ∧ excI false exP 0 2000 (List.replicate 2 exY) 610 0 = 2 := by decide +kernel
theorem k_allow : allowI exP 0 2000 (List.replicate 1 exY) 700 = (20199, 0) := by decide +kernel
theorem k_need : needI exP 0 2000 (List.replicate 2 exY) 700 = (18801, 0) := by decide +kernel
end Go.Proofs.YtccekbdhffccdaaDoor

namespace Go.Proofs.YtccekbdhffccdaaDoor
open Go.RowKit

theorem SnsAt.more_ {w : World} {B B' : Nat} {A : Option Addr} {xs : List Sn} (h : SnsAt w B A xs) (hB : B ≤ B') : SnsAt w B' A xs := fun hx => by
  obtain ⟨b, o, hA, hbB, hc⟩ := h hx
  exact ⟨b, o, hA, Nat.lt_of_lt_of_le hbB hB, hc⟩
theorem SnsAt.next_ {w w' : World} {A : Option Addr} {xs : List Sn} (h : SnsAt w w.heap.size A xs) (hb : Below w.heap.size w w') : SnsAt w' w'.heap.size A xs := (h.keep_ hb).more_ hb.size
theorem SlInts.next_ {w w' : World} {v : Value} {xs : List Int} (h : SlInts w v xs) (hb : Below w.heap.size w w') : SlInts w' v xs := by
  obtain ⟨A, c, hv, hc, hi⟩ := h
  exact ⟨A, c, hv, hc, hi.next hb⟩

/-- What Years tells of the examples, in a form that names no model. -/
theorem years_ex (A A2 : Option Addr) (c' : Nat) (w : World) (hL : LaysAt w w.heap.size A exP) (hY : YrsAt w w.heap.size A2 (List.replicate 2 exY)) :
    Calls Tryd.prog 19 #[.agg #[.slice A 2 2, .int .i64 0, .int .i64 2000], .slice A2 2 c'] w fun e w' => ∃ (A' : Option Addr) (c : Nat) (xs : List Sn), e = .returned (.tuple #[.slice A' 2 c, .int .i64 0]) ∧ xs.length = 2 ∧ xs.map snT = exW.map snT ∧ SnsAt w' w'.heap.size A' xs ∧ Below w.heap.size w w' := by
  refine (years_any A A2 2 2 2 c' exP (List.replicate 2 exY) 0 2000 w rfl (by decide) (by decide) hL rfl (by decide) hY).mono ?_
  rintro e w' ⟨A', c, rfl, hs, hb⟩
  have hl : (yearsR exP 0 2000 (List.replicate 2 exY)).1.length = 2 := by
    have := congrArg List.length k_years.1
    simpa [exW] using this
  refine ⟨A', c, _, ?_, hl, k_years.1, hs, hb⟩
  rw [hl, k_years.2]
theorem play_ex (A A2 : Option Addr) (c' : Nat) (v0 v1 v2 v3 v4 : Value) (w : World) (hL : LaysAt w w.heap.size A exP) (hY : YrsAt w w.heap.size A2 (List.replicate 2 exY)) (s0 : SlInts w v0 exT.ms) (s1 : SlInts w v1 exT.ws) (s2 : SlInts w v2 exT.ss) (s3 : SlInts w v3 exT.vs) (s4 : SlInts w v4 exT.ns) :
    Calls Tryd.prog 25 #[.agg #[.slice A 2 2, .int .i64 0, .int .i64 2000], .slice A2 2 c', .agg #[v0, v1, v2, v3, v4]] w fun e w' => ∃ v, e = .returned (.tuple #[v, .agg #[.int .i64 126000, .int .i64 120000, .int .i64 6000], .int .i64 0]) ∧ SlInts w' v [544, 592] ∧ Below w.heap.size w w' := by
  refine (play_any A A2 2 2 2 c' exP (List.replicate 2 exY) 0 2000 exT v0 v1 v2 v3 v4 w rfl (by decide) (by decide) hL rfl (by decide) hY s0 s1 s2 s3 s4 (by decide) (by decide) (by decide) (by decide) (by decide)).mono ?_
  rintro e w' ⟨v, rfl, hs, hb⟩
  rw [k_play] at hs ⊢
  exact ⟨v, rfl, hs, hb⟩
theorem exc_ex (A A2 : Option Addr) (c' : Nat) (w : World) (hL : LaysAt w w.heap.size A exP) (hY : YrsAt w w.heap.size A2 (List.replicate 2 exY)) :
    Calls Tryd.prog 34 #[.agg #[.slice A 2 2, .int .i64 0, .int .i64 2000], .slice A2 2 c', .int .i64 610] w fun e w' => e = .returned (.tuple #[.int .i64 1, .int .i64 2, .int .i64 0]) ∧ Below w.heap.size w w' := by
  refine (exceeds_any A A2 2 2 2 c' exP (List.replicate 2 exY) 0 2000 610 w rfl (by decide) (by decide) hL rfl (by decide) hY).mono ?_
  rintro e w' ⟨rfl, hb⟩
  rw [k_exc.1, if_pos rfl, if_pos rfl, k_exc.2.1, k_exc.2.2]
  exact ⟨rfl, hb⟩
theorem allow_ex (A A2 : Option Addr) (c' : Nat) (w : World) (hL : LaysAt w w.heap.size A exP) (hY : YrsAt w w.heap.size A2 (List.replicate 1 exY)) :
    Calls Tryd.prog 36 #[.agg #[.slice A 2 2, .int .i64 0, .int .i64 2000], .slice A2 1 c', .int .i64 700] w fun e w' => e = .returned (.tuple #[.int .i64 20199, .int .i64 0]) ∧ Below w.heap.size w w' := by
  refine (allow_any A A2 2 2 1 c' exP (List.replicate 1 exY) 0 2000 700 w rfl (by decide) (by decide) hL rfl (by decide) hY).mono ?_
  rintro e w' ⟨rfl, hb⟩
  rw [k_allow]
  exact ⟨rfl, hb⟩
theorem need_ex (A A2 : Option Addr) (c' : Nat) (w : World) (hL : LaysAt w w.heap.size A exP) (hY : YrsAt w w.heap.size A2 (List.replicate 2 exY)) :
    Calls Tryd.prog 37 #[.agg #[.slice A 2 2, .int .i64 0, .int .i64 2000], .slice A2 2 c', .int .i64 700] w fun e w' => e = .returned (.tuple #[.int .i64 18801, .int .i64 0]) ∧ Below w.heap.size w w' := by
  refine (need_any A A2 2 2 2 c' exP (List.replicate 2 exY) 0 2000 700 w rfl (by decide) (by decide) hL rfl (by decide) hY).mono ?_
  rintro e w' ⟨rfl, hb⟩
  rw [k_need]
  exact ⟨rfl, hb⟩
def logT : ByteArray := ⟨#[104, 111, 108, 101, 32, 50, 32, 48, 32, 50, 48, 48, 48, 10, 108, 97, 121, 101, 114, 32, 53, 48, 48, 32, 49, 48, 48, 32, 49, 50, 48, 10, 108, 97, 121, 101, 114, 32, 49, 48, 48, 48, 32, 50, 48, 48, 32, 51, 48, 48, 10, 101, 110, 100, 32, 49, 102, 10]⟩
theorem print_ex (A : Option Addr) (w : World) (hL : LaysAt w w.heap.size A exP) (ht : Tab w) :
    Calls Tryd.prog 42 #[.agg #[.slice A 2 2, .int .i64 0, .int .i64 2000]] w fun e w' => e = .returned (.tuple #[.string logT, .int .i64 0]) ∧ Below w.heap.size w w' := by
  refine (print_any A 2 2 exP 0 2000 w rfl (by decide) (by decide) hL ht).mono ?_
  rintro e w' ⟨rfl, hb⟩
  rw [k_print]
  exact ⟨rfl, hb⟩
theorem eq44 (a b c a' b' c' : Int) (w : World) : (Op.equalIn 10000 44 (.agg #[.int .i64 a, .int .i64 b, .int .i64 c]) (.agg #[.int .i64 a', .int .i64 b', .int .i64 c'])).run Tryd.prog w = .ok (a == a' && (b == b' && c == c')) w := by
  have u3 := Tryd.underlying3
  have a3 := Tryd.isAgg3
  have z3 := Tryd.sizeOf3
  have hS : Tryd.prog.underlying 44 = some (.struct (Tryd.prog.fieldsOf 44)) := by kernel_rfl
  have hp : Tryd.prog.stoodInHeld 44 = false := by kernel_rfl
  rw [show (10000 : Nat) = 9999 + 1 from rfl, run_equalIn_agg w 9999 44 _ _ hS hp]
  simp only [Program.fieldsOf, Tryd.underlying44]
  go_simp
  by_cases h1 : a = a' <;> by_cases h2 : b = b' <;> by_cases h3 : c = c' <;> simp [h1, h2, h3]
end Go.Proofs.YtccekbdhffccdaaDoor

namespace Go.Proofs.YtccekbdhffccdaaDoor
open Go.RowKit

theorem sl_new (w : World) (x y : Int) : SlInts (w.alloc (.cells #[.int .i64 x, .int .i64 y] 3)) (.slice (some ⟨w.heap.size, 0, none⟩) 2 2) [x, y] := by
  have h := heap_alloc_new w (.cells #[.int .i64 x, .int .i64 y] 3)
  refine ⟨_, 2, rfl, Nat.le_refl _, fun _ => ⟨w.heap.size, 0, rfl, by simp, fun i v hv => ?_⟩⟩
  have hi : i < 2 := (List.getElem?_eq_some_iff.1 hv).1
  rw [cell_of_row _ w.heap.size _ _ 3 (0, 0) h]
  match i, hi with
  | 0, _ => cases hv; rfl
  | 1, _ => cases hv; rfl
theorem SlInts.al {w : World} {v : Value} {xs : List Int} (h : SlInts w v xs) (o : Obj) : SlInts (w.alloc o) v xs := h.next_ ((Below.refl _ _).alloc (Nat.le_refl _) _)
theorem truth_ex (w : World) : ∀ W, W = (((((w.alloc (.cells #[.int .i64 110, .int .i64 250] 3)).alloc (.cells #[.int .i64 1000, .int .i64 0] 3)).alloc (.cells #[.int .i64 65000, .int .i64 60000] 3)).alloc (.cells #[.int .i64 60000, .int .i64 80000] 3)).alloc (.cells #[.int .i64 200, .int .i64 100] 3)) →
    SlInts W (.slice (some ⟨w.heap.size, 0, none⟩) 2 2) exT.ms ∧ SlInts W (.slice (some ⟨w.heap.size + 1, 0, none⟩) 2 2) exT.ws ∧ SlInts W (.slice (some ⟨w.heap.size + 1 + 1, 0, none⟩) 2 2) exT.ss ∧
    SlInts W (.slice (some ⟨w.heap.size + 1 + 1 + 1, 0, none⟩) 2 2) exT.vs ∧ SlInts W (.slice (some ⟨w.heap.size + 1 + 1 + 1 + 1, 0, none⟩) 2 2) exT.ns ∧ Below w.heap.size w W := by
  rintro W rfl
  have q1 := sl_new (w.alloc (.cells #[.int .i64 110, .int .i64 250] 3)) 1000 0
  have q2 := sl_new ((w.alloc (.cells #[.int .i64 110, .int .i64 250] 3)).alloc (.cells #[.int .i64 1000, .int .i64 0] 3)) 65000 60000
  have q3 := sl_new (((w.alloc (.cells #[.int .i64 110, .int .i64 250] 3)).alloc (.cells #[.int .i64 1000, .int .i64 0] 3)).alloc (.cells #[.int .i64 65000, .int .i64 60000] 3)) 60000 80000
  have q4 := sl_new ((((w.alloc (.cells #[.int .i64 110, .int .i64 250] 3)).alloc (.cells #[.int .i64 1000, .int .i64 0] 3)).alloc (.cells #[.int .i64 65000, .int .i64 60000] 3)).alloc (.cells #[.int .i64 60000, .int .i64 80000] 3)) 200 100
  simp only [World.size_alloc] at q1 q2 q3 q4
  exact ⟨((((sl_new w 110 250).al _).al _).al _).al _, ((q1.al _).al _).al _, (q2.al _).al _, q3.al _, q4,
    (((((Below.refl _ _).alloc (Nat.le_refl _) _).alloc (by simp) _).alloc (by simp; omega) _).alloc (by simp; omega) _).alloc (by simp; omega) _⟩

theorem exW_at {w : World} {b B : Nat} (h : w.heap[b]? = some (.cells #[.int .i64 500, .int .i64 610, .int .i64 0, .int .i64 37000, .int .i64 2, .int .i64 500, .int .i64 795, .int .i64 0, .int .i64 74000, .int .i64 2] 58 (0, 0))) (hb : b < B) : SnsAt w B (some ⟨b, 0, none⟩) exW := fun _ => by
  refine ⟨b, 0, rfl, hb, fun i x hx => ?_⟩
  have hi : i < 2 := (List.getElem?_eq_some_iff.1 hx).1
  simp only [cell_of_row w b _ _ 58 (0, 0) h]
  match i, hi with
  | 0, _ => cases hx; exact ⟨rfl, rfl, rfl, rfl, rfl⟩
  | 1, _ => cases hx; exact ⟨rfl, rfl, rfl, rfl, rfl⟩
theorem ints2 (w : World) (x y : Int) : IntsAt (w.alloc (.cells #[.int .i64 x, .int .i64 y] 3)) (w.alloc (.cells #[.int .i64 x, .int .i64 y] 3)).heap.size (some ⟨w.heap.size, 0, none⟩) [x, y] := by
  obtain ⟨A, c, hv, hc, hi⟩ := sl_new w x y
  cases hv
  exact hi

set_option maxRecDepth 100000 in
set_option maxHeartbeats 4000000 in
theorem known_any (w : World) (ht : Tab w) : Calls Tryd.prog 17 #[] w fun e w' => e = .returned (.bool true) ∧ Below w.heap.size w w' := by
  have HT := Lib.hid ht; clear ht
  go_enter Tryd.func17, Tryd.ntmps17
  go_wp2_with fail
  refine (P_any _).mono ?_
  rintro e w1 ⟨A1, rfl, l1, b1⟩
  have L1 := Lib.hid l1; have B1 := Lib.hid b1; clear l1 b1
  go_wp2_with fail
  refine (Y_any 2 (by decide) _).mono ?_
  rintro e w2 ⟨Y1, c1, rfl, h1, y1, b1⟩
  have B2 := Lib.hid (B1.out.trans (b1.mono B1.out.size)); have L2 := Lib.hid (L1.out.next b1); have Y2 := Lib.hid y1; clear b1 y1 h1
  go_wp2_with fail
  refine (years_ex A1 Y1 c1 _ L2.out Y2.out).mono ?_
  rintro e w3 ⟨S1, d1, xs, rfl, hl, hm, s1, b1⟩
  have B3 := Lib.hid (B2.out.trans (b1.mono B2.out.size)); have S3 := Lib.hid s1; have HXL := Lib.hid hl; have HXM := Lib.hid hm; clear b1 s1 hl hm
  go_wp2_with fail
  refine (P_any _).mono ?_
  rintro e w4 ⟨A2, rfl, l1, b1⟩
  have B4 := Lib.hid (B3.out.trans (b1.mono B3.out.size)); have L4 := Lib.hid l1; have S4 := Lib.hid (S3.out.next_ b1); clear b1 l1
  go_wp2_with fail
  refine (Y_any 2 (by decide) _).mono ?_
  rintro e w5 ⟨Y3, c2, rfl, h1, y1, b1⟩
  have B5 := Lib.hid (B4.out.trans (b1.mono B4.out.size)); have L5 := Lib.hid (L4.out.next b1); have Y5 := Lib.hid y1; have S5 := Lib.hid (S4.out.next_ b1); clear b1 y1 h1
  go_wp2_with fail
  obtain ⟨W5, hW5⟩ : ∃ W, W = (((((w5.alloc (.cells #[.int .i64 110, .int .i64 250] 3)).alloc (.cells #[.int .i64 1000, .int .i64 0] 3)).alloc (.cells #[.int .i64 65000, .int .i64 60000] 3)).alloc (.cells #[.int .i64 60000, .int .i64 80000] 3)).alloc (.cells #[.int .i64 200, .int .i64 100] 3)) := ⟨_, rfl⟩
  obtain ⟨t0, t1, t2, t3, t4, b1⟩ := truth_ex w5 W5 hW5
  rw [← hW5]
  have B6 := Lib.hid (B5.out.trans (b1.mono B5.out.size)); have S6 := Lib.hid (S5.out.next_ b1)
  refine (play_ex A2 Y3 c2 _ _ _ _ _ _ (L5.out.next b1) (Y5.out.next b1) t0 t1 t2 t3 t4).mono ?_
  clear b1 t0 t1 t2 t3 t4 hW5
  rintro e w7 ⟨v, rfl, v1, b1⟩
  obtain ⟨V, dv, rfl, hdv, V1⟩ := v1
  have B7 := Lib.hid (B6.out.trans (b1.mono B6.out.size)); have V7 := Lib.hid V1; have S7 := Lib.hid (S6.out.next_ b1); clear b1 V1
  go_wp2_with fail
  obtain ⟨W8, hW8⟩ : ∃ W, W = w7.alloc (.cells #[.int .i64 126000, .int .i64 120000, .int .i64 6000] 44) := ⟨_, rfl⟩
  have z8 : W8.heap[w7.heap.size]? = some (.cells #[.int .i64 126000, .int .i64 120000, .int .i64 6000] 44 (0, 0)) := by rw [hW8]; exact heap_alloc_new w7 _
  have b8 : Below w7.heap.size w7 W8 := by rw [hW8]; exact (Below.refl _ _).alloc (Nat.le_refl _) _
  rw [← hW8]
  have Z8 := Lib.hid z8
  have B8 := Lib.hid (B7.out.trans (b8.mono B7.out.size)); have V8 := Lib.hid (V7.out.next b8); have S8 := Lib.hid (S7.out.next_ b8)
  clear z8 b8 hW8
  refine (P_any _).mono ?_
  rintro e w9 ⟨A3, rfl, l1, b1⟩
  have C9 := Lib.hid b1; have L9 := Lib.hid l1; clear b1 l1
  go_wp2_with fail
  refine (Y_any 2 (by decide) _).mono ?_
  rintro e w10 ⟨Y4, c3, rfl, h1, y1, b1⟩
  have C10 := Lib.hid (C9.out.trans (b1.mono C9.out.size)); have L10 := Lib.hid (L9.out.next b1); have Y10 := Lib.hid y1; clear b1 y1 h1
  go_wp2_with fail
  refine (exc_ex A3 Y4 c3 _ L10.out Y10.out).mono ?_
  rintro e w11 ⟨rfl, b1⟩
  have C11 := Lib.hid (C10.out.trans (b1.mono C10.out.size)); clear b1
  go_wp2_with fail
  refine (P_any _).mono ?_
  rintro e w12 ⟨A4, rfl, l1, b1⟩
  have C12 := Lib.hid (C11.out.trans (b1.mono C11.out.size)); have L12 := Lib.hid l1; clear b1 l1
  go_wp2_with fail
  refine (Y_any 1 (by decide) _).mono ?_
  rintro e w13 ⟨Y5', c4, rfl, h1, y1, b1⟩
  have C13 := Lib.hid (C12.out.trans (b1.mono C12.out.size)); have L13 := Lib.hid (L12.out.next b1); have Y13 := Lib.hid y1; clear b1 y1 h1
  go_wp2_with fail
  refine (allow_ex A4 Y5' c4 _ L13.out Y13.out).mono ?_
  rintro e w14 ⟨rfl, b1⟩
  have C14 := Lib.hid (C13.out.trans (b1.mono C13.out.size)); clear b1
  go_wp2_with fail
  refine (P_any _).mono ?_
  rintro e w15 ⟨A5, rfl, l1, b1⟩
  have C15 := Lib.hid (C14.out.trans (b1.mono C14.out.size)); have L15 := Lib.hid l1; clear b1 l1
  go_wp2_with fail
  refine (Y_any 2 (by decide) _).mono ?_
  rintro e w16 ⟨Y6, c5, rfl, h1, y1, b1⟩
  have C16 := Lib.hid (C15.out.trans (b1.mono C15.out.size)); have L16 := Lib.hid (L15.out.next b1); have Y16 := Lib.hid y1; clear b1 y1 h1
  go_wp2_with fail
  refine (need_ex A5 Y6 c5 _ L16.out Y16.out).mono ?_
  rintro e w17 ⟨rfl, b1⟩
  have C17 := Lib.hid (C16.out.trans (b1.mono C16.out.size)); clear b1
  go_wp2_with fail
  refine (P_any _).mono ?_
  rintro e w18 ⟨A6, rfl, l1, b1⟩
  have C18 := Lib.hid (C17.out.trans (b1.mono C17.out.size)); have L18 := Lib.hid l1; clear b1 l1
  go_wp2_with fail
  refine (print_ex A6 _ L18.out (HT.out.next (B8.out.trans (C18.out.mono B8.out.size)))).mono ?_
  rintro e w19 ⟨rfl, b1⟩
  have C19 := Lib.hid (C18.out.trans (b1.mono C18.out.size)); clear b1
  go_wp2_with fail
  refine (span_any _ _ _).mono ?_
  rintro e w20 ⟨rfl, b1⟩
  have C20 := Lib.hid (C19.out.trans (b1.mono C19.out.size)); clear b1
  go_wp2_with fail
  refine (span_any _ _ _).mono ?_
  rintro e w21 ⟨rfl, b1⟩
  have C21 := Lib.hid (C20.out.trans (b1.mono C20.out.size)); clear b1
  go_wp2_with fail
  refine (span_any _ _ _).mono ?_
  rintro e w22 ⟨rfl, b1⟩
  have C22 := Lib.hid (C21.out.trans (b1.mono C21.out.size)); clear b1
  go_wp2_with fail
  refine (span_any _ _ _).mono ?_
  rintro e w23 ⟨rfl, b1⟩
  have C23 := Lib.hid (C22.out.trans (b1.mono C22.out.size)); clear b1
  go_wp2_with fail
  obtain ⟨W24, hW24⟩ : ∃ W, W = w23.alloc (.cells #[.int .i64 500, .int .i64 610, .int .i64 0, .int .i64 37000, .int .i64 2, .int .i64 500, .int .i64 795, .int .i64 0, .int .i64 74000, .int .i64 2] 58) := ⟨_, rfl⟩
  have z24 : W24.heap[w23.heap.size]? = some (.cells #[.int .i64 500, .int .i64 610, .int .i64 0, .int .i64 37000, .int .i64 2, .int .i64 500, .int .i64 795, .int .i64 0, .int .i64 74000, .int .i64 2] 58 (0, 0)) := by rw [hW24]; exact heap_alloc_new w23 _
  have b24 : Below w23.heap.size w23 W24 := by rw [hW24]; exact (Below.refl _ _).alloc (Nat.le_refl _) _
  rw [← hW24]
  have C24 := Lib.hid (C23.out.trans (b24.mono C23.out.size))
  have W24' := Lib.hid (exW_at z24 (Array.getElem?_eq_some_iff.1 z24).1)
  clear z24 b24 hW24
  refine (sameSeen_any S1 _ 2 2 d1 2 xs exW W24 HXL.out rfl (by decide) (by decide) (S8.out.next_ C24.out) W24'.out).mono ?_
  rintro e w25 ⟨rfl, b1⟩
  rw [decide_eq_true HXM.out]
  have C25 := Lib.hid (C24.out.trans (b1.mono C24.out.size)); clear b1
  go_wp2_with fail
  refine (same_any V _ 2 2 dv 2 [544, 592] [544, 592] _ rfl rfl (by decide) (by decide) ((V8.out.next C25.out).alloc _) (ints2 _ _ _)).mono ?_
  rintro e w26 ⟨rfl, b1⟩
  rw [decide_eq_true rfl]
  have C26 := Lib.hid (C25.out.trans (((Below.refl _ _).alloc (Nat.le_refl _) _ |>.trans (b1.mono (by simp))).mono C25.out.size)); clear b1
  have z26 := (C26.out.block _ (Array.getElem?_eq_some_iff.1 Z8.out).1).trans Z8.out
  have p0 := cell_of_row w26 w7.heap.size 0 _ 44 (0, 0) z26
  have p1 := cell_of_row w26 w7.heap.size 1 _ 44 (0, 0) z26
  have p2 := cell_of_row w26 w7.heap.size 2 _ 44 (0, 0) z26
  simp at p0 p1 p2
  clear z26
  have q44 : ∀ w, (Op.equalIn 10000 44 (.agg #[.int .i64 126000, .int .i64 120000, .int .i64 6000]) (.agg #[.int .i64 126000, .int .i64 120000, .int .i64 6000])).run Tryd.prog w = .ok true w := fun w => by rw [eq44]; simp
  have hg : Tryd.prog.eqGuardType Tryd.prog.depth 44 = false := by kernel_rfl
  go_wp2_with fail
  go_ret
  exact ⟨ret_bool (by decide +kernel), B8.out.trans (C26.out.mono B8.out.size)⟩
end Go.Proofs.YtccekbdhffccdaaDoor
