/- Pipes: percentages, by the statements. -/
import Derived.Test.YticmeeinjkoodaaRS
namespace Go.Proofs.Yticmeeinjkoodaa
open Go.RowKit Go.Shelf

def pct1 (p : Int) : Bool := decide (0 ≤ p ∧ p ≤ 100)
def pctB (l : List Int) : Bool := l.all pct1 && decide (1 ≤ l.length ∧ l.length ≤ 200)
set_option maxRecDepth 100000 in
set_option maxHeartbeats 8000000 in
theorem percents_any (l : List Int) (A : Option Addr) (n c : Nat) (w : World) (hl : l.length = n) (hn : n ≤ maxLen) (hA : IntsAt w w.heap.size A l) :
    Calls Try.prog 30 #[.slice A n c] w fun e w' => e = .returned (.bool (pctB l)) ∧ Below w.heap.size w w' := by
  have HL := Lib.hid hl; have HA := Lib.hid hA
  unfold maxLen at hn
  clear hl hA
  go_enter Try.func30, Try.ntmps30
  go_wp2_with fail
  go_loopw [3] (fun ii wr => ∃ k : Nat, k ≤ n ∧ ii = .int .i64 k ∧ w = wr ∧ ∀ (j : Nat) (p : Int), j < k → l[j]? = some p → pct1 p = true) (fun ii _ => n - (intOf ii).toNat)
  case atStart => exact ⟨0, by omega, rfl, rfl, fun _ _ h => absurd h (Nat.not_lt_zero _)⟩
  case round =>
    obtain ⟨k, hk, rfl, rfl, hall⟩ := hrel
    have HAL := Lib.hid hall
    clear hall
    by_cases hlt : k < n
    · have k3 : (0 : Int) ≤ (k : Int) := by omega
      have k4 : (k : Int) < (n : Int) := by omega
      obtain ⟨x, hx⟩ := get_of_lt (l := l) (k := k) (by rw [HL.out]; exact hlt)
      obtain ⟨b, o, rfl, hbb, c0⟩ := ints_el HA.out hx
      have HX := Lib.hid hx
      clear hx hbb
      by_cases h0 : x < 0
      · have hp : pct1 x = false := by unfold pct1; exact decide_eq_false (by omega)
        have HP : Hid (pctB l = false) := Lib.hid (by unfold pctB; rw [allB_no HX.out hp]; rfl)
        clear hp
        go_wp2_with fail
        go_ret
        exact ⟨by rw [HP.out]; rfl, Below.refl _ _⟩
      · by_cases h1 : 100 < x
        · have hp : pct1 x = false := by unfold pct1; exact decide_eq_false (by omega)
          have HP : Hid (pctB l = false) := Lib.hid (by unfold pctB; rw [allB_no HX.out hp]; rfl)
          clear hp
          go_wp2_with fail
          go_ret
          exact ⟨by rw [HP.out]; rfl, Below.refl _ _⟩
        · have HP : Hid (pct1 x = true) := Lib.hid (by unfold pct1; exact decide_eq_true (by omega))
          go_wp2_with fail
          refine ⟨⟨k + 1, by omega, rfl, by first | rfl | trivial, fun j p hj hp => ?_⟩, by simp [intOf]; omega⟩
          by_cases hjk : j < k
          · exact HAL.out j p hjk hp
          · obtain rfl : j = k := by omega
            have := HX.out
            rw [this] at hp
            injection hp with hp
            rw [← hp]
            exact HP.out
    · obtain rfl : n = k := by omega
      have k4 : ¬ (n : Int) < (n : Int) := by omega
      have HT : Hid (pctB l = decide (1 ≤ n ∧ n ≤ 200)) := Lib.hid (by
        unfold pctB
        rw [allB_yes fun j p hp => HAL.out j p (by have := (List.getElem?_eq_some_iff.1 hp).1; have := HL.out; omega) hp, HL.out]
        rfl)
      by_cases h1 : 1 ≤ n <;> by_cases h2 : n ≤ 200
      all_goals
        first
          | (have q1 : (1 : Int) ≤ (n : Int) := by omega)
          | (have q1 : ¬ (1 : Int) ≤ (n : Int) := by omega)
        first
          | (have q2 : (n : Int) ≤ 200 := by omega)
          | (have q2 : ¬ (n : Int) ≤ 200 := by omega)
        go_wp2_with fail
        go_ret
        refine ⟨?_, Below.refl _ _⟩
        rw [HT.out]
        simp [h1, h2]
        try omega
end Go.Proofs.Yticmeeinjkoodaa
