/- Pipes: a loop that is repaired before it is due is warmer than ice. -/
import Derived.Test.YticmeeinjkoodaaRV
namespace Go.Proofs.Yticmeeinjkoodaa
open Go.RowKit Go.Shelf

theorem due_warm {N : Nt} (K : NtOk N) {j : Nat} {l : Lp} (hl : N.lo[j]? = some l) {H : Nat} (hH : (H : Int) ≤ N.due 0 j) {x : Int} (hx : l.wl ≤ x ∧ x ≤ l.wh) {wh : List Int} {n : Nat} (hn : 1 ≤ n ∧ n ≤ 200) (hlen : wh.length = n) (hp : ∀ p ∈ wh, 0 ≤ p ∧ p ≤ 100) :
    0 < (playI l x (truL l N.fr wh H)).w := by
  have hm := List.mem_of_getElem? hl
  have hd := due_N N 0 j
  by_cases h0 : H = 0
  · subst h0
    have := (K.lo l hm).w
    show 0 < x
    omega
  · obtain ⟨_, _, h3, h4, _⟩ := true_math K hm (H := H) (by omega) (by omega) hx hn hlen hp
    by_cases hw : (playI l x (truL l N.fr wh H)).w = 0
    · obtain ⟨h5, h6⟩ := h4 hw
      have e : N.due 0 j = dueI l false N.fr := by
        unfold Nt.due
        rw [List.getD_eq_getElem?_getD, hl, Nat.zero_testBit]
        rfl
      rw [e] at hH
      unfold dueI at hH
      rw [if_pos (by omega)] at hH
      omega
    · omega
theorem ordS_step {N : Nt} {a k : Nat} {t : Int} {r : List Nat} (h : 0 ≤ ordS N a t (k :: r)) : N.arr a t k ≤ N.due 0 k ∧ 0 ≤ ordS N (k + 1) (N.arr a t k) r := by
  have h1 : ordS N a t (k :: r) = min (N.due 0 k - N.arr a t k) (ordS N (k + 1) (N.arr a t k) r) := rfl
  rw [h1] at h
  omega
/-- So many percent of a number. -/
theorem pct_in {x p : Int} (hx : 0 ≤ x) (hp : 0 ≤ p ∧ p ≤ 100) : 0 ≤ x * p / 100 ∧ x * p / 100 ≤ x := by
  have h1 : 0 ≤ x * p := Int.mul_nonneg hx hp.1
  have h2 : x * p ≤ x * 100 := Int.mul_le_mul_of_nonneg_left hp.2 hx
  omega
theorem pct_tdiv {x p : Int} (hx : 0 ≤ x) (hp : 0 ≤ p) : (x * p).tdiv 100 = x * p / 100 := Int.tdiv_eq_ediv_of_nonneg (Int.mul_nonneg hx hp)
end Go.Proofs.Yticmeeinjkoodaa
