/- A part of a span, by percentages. -/
import Derived.Test.YtdlaphlpimlgdaaGreatDoorCV
namespace Go.Proofs.YtdlaphlpimlgdaaGreatDoor
open Go.RowKit Go.Shelf

def prtI (y : Sp) (p : Int) : Int := y.1 + (y.2 - y.1) * p / 100
theorem prt_in {y : Sp} {p : Int} (h : 0 ≤ y.1 ∧ y.1 ≤ y.2) (hp : 0 ≤ p ∧ p ≤ 100) : y.1 ≤ prtI y p ∧ prtI y p ≤ y.2 := by
  unfold prtI
  have h1 : 0 ≤ (y.2 - y.1) * p := Int.mul_nonneg (by omega) hp.1
  have h2 : (y.2 - y.1) * p ≤ (y.2 - y.1) * 100 := Int.mul_le_mul_of_nonneg_left hp.2 (by omega)
  omega
theorem prt_wrap {lo hi p : Int} (h : 0 ≤ lo ∧ lo ≤ hi ∧ hi ≤ 100000) (hp : 0 ≤ p ∧ p ≤ 100) : wrap64 (lo + wrap64 ((wrap64 (wrap64 (hi - lo) * p)).tdiv 100)) = prtI (lo, hi) p := by
  have h1 : 0 ≤ (hi - lo) * p := Int.mul_nonneg (by omega) hp.1
  have h2 : (hi - lo) * p ≤ (hi - lo) * 100 := Int.mul_le_mul_of_nonneg_left hp.2 (by omega)
  unfold prtI
  rw [w64 (n := hi - lo) (by omega), w64 (n := (hi - lo) * p) (by omega), Int.tdiv_eq_ediv_of_nonneg h1, w64 (n := (hi - lo) * p / 100) (by omega), w64 (by omega)]
set_option maxRecDepth 100000 in
theorem part_any (lo hi p : Int) (w : World) (h : 0 ≤ lo ∧ lo ≤ hi ∧ hi ≤ 100000) (hp : 0 ≤ p ∧ p ≤ 100) :
    Calls Tryz.prog 83 #[.agg #[.int .i64 lo, .int .i64 hi], .int .i64 p] w fun e w' => e = .returned (.int .i64 (prtI (lo, hi) p)) ∧ Below w.heap.size w w' := by
  have HP := Lib.hid (prt_wrap h hp)
  have HB := Lib.hid ((Below.refl w.heap.size w).alloc (Nat.le_refl _) (.cells #[.int .i64 lo, .int .i64 hi] 42))
  clear h hp
  go_enter Tryz.func83, Tryz.ntmps83
  go_wp2_with fail
  go_ret
  exact ⟨by rw [← HP.out]; rfl, HB.out⟩
end Go.Proofs.YtdlaphlpimlgdaaGreatDoor
