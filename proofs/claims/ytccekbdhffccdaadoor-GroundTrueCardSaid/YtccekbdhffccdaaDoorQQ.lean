/- The specification's check of a truth. -/
import Derived.Test.YtccekbdhffccdaaDoorS
import Derived.Test.YtccekbdhffccdaaDoorNN
import Derived.Deep.RegionHeld3
import Derived.Deep.DrawnRows
namespace Go.Proofs.YtccekbdhffccdaaDoor
open Go.RowKit
attribute [local go_sem ↓] Go.wp_at_zero Go.wp_at_succ

def sizedB (a b c d e : Nat) : Bool := decide (a ≤ 12 ∧ b ≤ 20 ∧ c ≤ 20 ∧ d ≤ 20 ∧ e ≤ 20)
theorem sized_cases (a b c d e : Nat) : (¬ a ≤ 12) ∨ (a ≤ 12 ∧ ¬ b ≤ 20) ∨ (a ≤ 12 ∧ b ≤ 20 ∧ ¬ c ≤ 20) ∨ (a ≤ 12 ∧ b ≤ 20 ∧ c ≤ 20 ∧ ¬ d ≤ 20) ∨ (a ≤ 12 ∧ b ≤ 20 ∧ c ≤ 20 ∧ d ≤ 20 ∧ ¬ e ≤ 20) ∨ (a ≤ 12 ∧ b ≤ 20 ∧ c ≤ 20 ∧ d ≤ 20 ∧ e ≤ 20) := by omega

set_option maxRecDepth 100000 in
set_option maxHeartbeats 1000000 in
theorem sized_any (AM AW AS AV AN : Option Addr) (nm cm nw cw ns_ cs nv cv nn cn : Nat) (w : World) (g1 : nm ≤ maxLen) (g2 : nw ≤ maxLen) (g3 : ns_ ≤ maxLen) (g4 : nv ≤ maxLen) (g5 : nn ≤ maxLen) :
    Calls Tryd.prog 24 #[.agg #[.slice AM nm cm, .slice AW nw cw, .slice AS ns_ cs, .slice AV nv cv, .slice AN nn cn]] w fun e w' => e = .returned (.bool (sizedB nm nw ns_ nv nn)) ∧ Below w.heap.size w w' := by
  unfold maxLen at g1 g2 g3 g4 g5
  rcases sized_cases nm nw ns_ nv nn with h1 | ⟨h1, h2⟩ | ⟨h1, h2, h3⟩ | ⟨h1, h2, h3, h4⟩ | ⟨h1, h2, h3, h4, h5⟩ | ⟨h1, h2, h3, h4, h5⟩
  all_goals
    go_enter Tryd.func24, Tryd.ntmps24
    go_wp2
    go_ret
    exact ⟨ret_bool (by first | (simp [sizedB, *]; done) | (simp [sizedB, *]; omega)), (Below.refl _ _).alloc (Nat.le_refl _) _⟩
theorem truth_cases (nm n nw m ns_ nv nn : Nat) : nm ≠ n ∨ (nm = n ∧ nw ≠ m) ∨ (nm = n ∧ nw = m ∧ ns_ ≠ m) ∨ (nm = n ∧ nw = m ∧ ns_ = m ∧ nv ≠ m) ∨ (nm = n ∧ nw = m ∧ ns_ = m ∧ nv = m ∧ nn ≠ m) ∨ (nm = n ∧ nw = m ∧ ns_ = m ∧ nv = m ∧ nn = m) := by omega

set_option maxRecDepth 100000 in
set_option maxHeartbeats 1000000 in
theorem truth_len (A A2 AM AW AS AV AN : Option Addr) (n c m c' nm cm nw cw ns_ cs nv cv nn cn : Nat) (lo hi : Int) (w : World) (hn : n ≤ maxLen) (hm : m ≤ maxLen) (_g1 : nm ≤ maxLen) (g2 : nw ≤ maxLen) (g3 : ns_ ≤ maxLen) (_g4 : nv ≤ maxLen) (_g5 : nn ≤ maxLen)
    (h : ¬ (nm = n ∧ nw = m ∧ ns_ = m ∧ nv = m ∧ nn = m)) :
    Calls Tryd.prog 26 #[.agg #[.slice A n c, .int .i64 lo, .int .i64 hi], .slice A2 m c', .agg #[.slice AM nm cm, .slice AW nw cw, .slice AS ns_ cs, .slice AV nv cv, .slice AN nn cn]] w fun e w' => e = .returned (.bool false) ∧ Below w.heap.size w w' := by
  unfold maxLen at hn hm _g1 g2 g3 _g4 _g5
  rcases truth_cases nm n nw m ns_ nv nn with h1 | ⟨rfl, h2⟩ | ⟨rfl, rfl, h3⟩ | ⟨rfl, rfl, rfl, h4⟩ | ⟨rfl, rfl, rfl, rfl, h5⟩ | h6
  rotate_right
  · exact absurd h6 h
  all_goals
    clear h
    go_enter Tryd.func26, Tryd.ntmps26
    go_wp2
    go_ret
    exact ⟨rfl, ((Below.refl _ _).alloc (Nat.le_refl _) _).alloc (by simp) _⟩

end Go.Proofs.YtccekbdhffccdaaDoor
