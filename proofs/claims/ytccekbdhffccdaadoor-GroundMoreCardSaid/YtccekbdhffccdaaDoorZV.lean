/- The statement on what is known better: narrower spans, spans within others. -/
import Derived.Test.YtccekbdhffccdaaDoorZU
namespace Go.Proofs.YtccekbdhffccdaaDoor
open Go.RowKit Go.Shelf

set_option maxRecDepth 100000 in
set_option maxHeartbeats 1000000 in
theorem narrow_any (lo hi a b : Int) (w : World) (h0 : 0 ≤ lo) (h1 : lo ≤ hi) (h2 : hi ≤ 1000000) (a0 : 0 ≤ a) (a1 : a ≤ 100) (b0 : 0 ≤ b) (b1 : b ≤ 100) :
    Calls Tryd.prog 47 #[.agg #[.int .i64 lo, .int .i64 hi], .int .i64 a, .int .i64 b] w fun e w' => e = .returned (.agg #[.int .i64 (nar lo hi a), .int .i64 (nar lo hi b)]) ∧ Below w.heap.size w w' := by
  have pa0 : 0 ≤ (hi - lo) * a := Int.mul_nonneg (by omega) a0
  have pa1 : (hi - lo) * a ≤ 1000000 * 100 := Int.mul_le_mul (by omega) a1 a0 (by decide)
  have pb0 : 0 ≤ (hi - lo) * b := Int.mul_nonneg (by omega) b0
  have pb1 : (hi - lo) * b ≤ 1000000 * 100 := Int.mul_le_mul (by omega) b1 b0 (by decide)
  have qa0 : 0 ≤ (hi - lo) * a / 100 := by omega
  have qa1 : (hi - lo) * a / 100 ≤ 1000000 := by omega
  have qb0 : 0 ≤ (hi - lo) * b / 100 := by omega
  have qb1 : (hi - lo) * b / 100 ≤ 1000000 := by omega
  have s0 : 0 ≤ hi - lo := by omega
  have s1 : hi - lo ≤ 1000000 := by omega
  have z0 := heap_alloc_new w (.cells #[.int .i64 lo, .int .i64 hi] 24)
  have z1 := heap_alloc_new (w.alloc (.cells #[.int .i64 lo, .int .i64 hi] 24)) (.cells #[.int .i64 0, .int .i64 0] 24)
  simp only [World.size_alloc] at z1
  have HB1 := Lib.hid (((Below.refl w.heap.size w).alloc (Nat.le_refl _) (.cells #[.int .i64 lo, .int .i64 hi] 24)).alloc (by simp) (.cells #[.int .i64 0, .int .i64 0] 24))
  have Z1 := Lib.hid z1
  clear z0 z1
  go_enter Tryd.func47, Tryd.ntmps47
  go_wp2_with fail
  refine (span_any _ _ _).mono ?_
  rintro e w2 ⟨rfl, hb2⟩
  have z2 := (hb2.block _ (Array.getElem?_eq_some_iff.1 Z1.out).1).trans Z1.out
  have HB2 := Lib.hid (HB1.out.trans (hb2.mono HB1.out.size))
  have c0 := cell_of_row w2 (w.heap.size + 1) 0 _ 24 (0, 0) z2
  have c1 := cell_of_row w2 (w.heap.size + 1) 1 _ 24 (0, 0) z2
  simp at c0 c1
  have f0 : w2.frozen? ⟨w.heap.size + 1, 0, none⟩ = false := by simp [World.frozen?, z2]
  have f1 : w2.frozen? ⟨w.heap.size + 1, 1, none⟩ = false := by simp [World.frozen?, z2]
  clear hb2 z2
  go_wp2_with fail
  exact bodyPost_ret (v := .agg #[.int .i64 (nar lo hi a), .int .i64 (nar lo hi b)]) (by simp [results, Tryd.results47, go_sem, c0, c1]; exact ⟨rfl, rfl⟩) rfl ⟨rfl, (HB2.out.setCell (p := ⟨w.heap.size + 1, 0, none⟩) (by show _ ≤ w.heap.size + 1; omega) _).setCell (p := ⟨w.heap.size + 1, 1, none⟩) (by show _ ≤ w.heap.size + 1; omega) _⟩
set_option maxRecDepth 100000 in
theorem within_ok (a1 a2 b1 b2 : Int) (w : World) (h1 : b1 ≤ a1) (h2 : a2 ≤ b2) :
    Calls Tryd.prog 48 #[.agg #[.int .i64 a1, .int .i64 a2], .agg #[.int .i64 b1, .int .i64 b2]] w fun e w' => e = .returned (.bool true) ∧ Below w.heap.size w w' := by
  go_enter Tryd.func48, Tryd.ntmps48
  go_wp2
  go_ret
  exact ⟨rfl, ((Below.refl _ _).alloc (Nat.le_refl _) _).alloc (by simp) _⟩
end Go.Proofs.YtccekbdhffccdaaDoor
