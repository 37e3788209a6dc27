/- Lists that are the same. -/
import Derived.Test.YtccekbdhffccdaaDoorG
namespace Go.Proofs.YtccekbdhffccdaaDoor
open Go.RowKit

theorem list_ne_of_get {α : Type} {xs ys : List α} {k : Nat} {x y : α} (hx : xs[k]? = some x) (hy : ys[k]? = some y) (h : x ≠ y) : xs ≠ ys := fun he => by
  rw [he, hy] at hx
  exact h (Option.some.inj hx).symm
theorem take_eq_succ {α : Type} {xs ys : List α} {k : Nat} {x : α} (hx : xs[k]? = some x) (hy : ys[k]? = some x) (h : xs.take k = ys.take k) : xs.take (k + 1) = ys.take (k + 1) := by
  obtain ⟨h1, e1⟩ := List.getElem?_eq_some_iff.1 hx
  obtain ⟨h2, e2⟩ := List.getElem?_eq_some_iff.1 hy
  rw [List.take_succ_eq_append_getElem h1, List.take_succ_eq_append_getElem h2, h, e1, e2]
theorem take_all_eq {α : Type} {xs ys : List α} {k : Nat} (h1 : xs.length = k) (h2 : ys.length = k) (h : xs.take k = ys.take k) : xs = ys := by
  rwa [List.take_of_length_le (by omega), List.take_of_length_le (by omega)] at h

set_option maxRecDepth 100000 in
set_option maxHeartbeats 1000000 in
theorem same_any (A A2 : Option Addr) (n m c c' : Nat) (xs ys : List Int) (w : World) (hl : xs.length = n) (hl2 : ys.length = m) (hn : n ≤ maxLen) (hn2 : m ≤ maxLen) (hX : IntsAt w w.heap.size A xs) (hY : IntsAt w w.heap.size A2 ys) :
    Calls Tryd.prog 28 #[.slice A n c, .slice A2 m c'] w fun e w' => e = .returned (.bool (decide (xs = ys))) ∧ Below w.heap.size w w' := by
  unfold maxLen at hn hn2
  have HL := Lib.hid hl; have HL2 := Lib.hid hl2
  clear hl hl2
  by_cases hnm : n = m
  · subst hnm
    have HX := Lib.hid hX; have HY := Lib.hid hY
    clear hX hY
    go_enter Tryd.func28, Tryd.ntmps28
    go_wp2
    go_loopw [5] (fun i wr => ∃ k : Nat, k ≤ n ∧ i = .int .i64 k ∧ xs.take k = ys.take k ∧ Below w.heap.size w wr) (fun i _ => n - (intOf i).toNat)
    case atStart => exact ⟨0, Nat.zero_le _, rfl, by simp, Below.refl _ _⟩
    case round =>
      obtain ⟨k, hk, rfl, hall, hbr⟩ := hrel
      have HA := Lib.hid hall; clear hall
      have hz := hbr.size
      by_cases hlt : k < n
      · obtain ⟨x, hx⟩ := get_of_lt (l := xs) (k := k) (by rw [HL.out]; exact hlt)
        obtain ⟨y, hy⟩ := get_of_lt (l := ys) (k := k) (by rw [HL2.out]; exact hlt)
        obtain ⟨b1, o1, rfl, hb1, hcs1⟩ := HX.out (by intro h; rw [h] at hx; simp at hx)
        obtain ⟨b2, o2, rfl, hb2, hcs2⟩ := HY.out (by intro h; rw [h] at hy; simp at hy)
        have d1 := ((bcell hbr).1 _ _ hb1).trans (hcs1 k x hx)
        have d2 := ((bcell hbr).1 _ _ hb2).trans (hcs2 k y hy)
        have KX := Lib.hid hx; have KY := Lib.hid hy
        clear hx hy hcs1 hcs2
        by_cases hxy : x = y
        · subst hxy
          go_wp2
          go_quiet (fail)
          go_wp2
          go_roundw
          case rel => exact ⟨k + 1, by omega, by go_num, take_eq_succ KX.out KY.out HA.out, belN hbr _⟩
          case measure => simp [intOf]; omega
        · have HNE := Lib.hid hxy
          go_wp2
          go_quiet (fail)
          go_wp2
          go_ret
          exact ⟨ret_bool (by simp [list_ne_of_get KX.out KY.out HNE.out]), belN hbr _⟩
      · have hkn : k = n := by omega
        have HKN := Lib.hid hkn
        clear hkn
        go_wp2
        go_ret
        exact ⟨ret_bool (by simp [take_all_eq (HL.out.trans HKN.out.symm) (HL2.out.trans HKN.out.symm) HA.out]), hbr⟩
  · have hne : xs ≠ ys := fun h => hnm (by rw [← HL.out, ← HL2.out, h])
    have HNE := Lib.hid hne
    clear hne
    go_enter Tryd.func28, Tryd.ntmps28
    go_wp2
    go_ret
    exact ⟨ret_bool (by simp [HNE.out]), Below.refl _ _⟩
end Go.Proofs.YtccekbdhffccdaaDoor
