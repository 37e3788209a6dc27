/- The specification's checks. -/
import Derived.Test.YtccekbdhffccdaaDoorG
namespace Go.Proofs.YtccekbdhffccdaaDoor
open Go.RowKit

set_option maxRecDepth 100000 in
set_option maxHeartbeats 1000000 in
theorem short_any (A A2 : Option Addr) (n m c c' : Nat) (lo hi : Int) (w : World) (hn : n ≤ maxLen) (hm : m ≤ maxLen) :
    Calls Tryd.prog 16 #[.agg #[.slice A n c, .int .i64 lo, .int .i64 hi], .slice A2 m c'] w fun e w' => e = .returned (.bool (decide (n ≤ 12 ∧ m ≤ 17))) ∧ Below w.heap.size w w' := by
  unfold maxLen at hn hm
  by_cases h1 : n ≤ 12 <;> by_cases h2 : m ≤ 17
  all_goals
    go_enter Tryd.func16, Tryd.ntmps16
    go_wp2
    try go_quiet (fail)
    try go_wp2
    go_ret
    exact ⟨ret_bool (by first | (simp [h1, h2]; done) | (simp [h1, h2]; omega)), by first | exact (Below.refl _ _).alloc (Nat.le_refl _) _ | exact belN ((Below.refl _ _).alloc (Nat.le_refl _) _) _ | exact Below.refl _ _⟩

set_option maxRecDepth 100000 in
set_option maxHeartbeats 1000000 in
theorem refPlace_any (A : Option Addr) (n c : Nat) (ls : List Lay) (lo hi : Int) (w : World) (hl : ls.length = n) (hn : n ≤ maxLen) (hL : LaysAt w w.heap.size A ls) :
    Calls Tryd.prog 20 #[.agg #[.slice A n c, .int .i64 lo, .int .i64 hi]] w fun e w' => e = .returned (.bool (placeB ls lo hi)) ∧ Below w.heap.size w w' := by
  unfold maxLen at hn
  have HL := Lib.hid hl; clear hl
  have z0 := heap_alloc_new w (.cells #[.slice A n c, .int .i64 lo, .int .i64 hi] 26)
  have hB : Below w.heap.size w (w.alloc (.cells #[.slice A n c, .int .i64 lo, .int .i64 hi] 26)) := (Below.refl _ _).alloc (Nat.le_refl _) _
  obtain ⟨W, hW⟩ : ∃ W, w.alloc (.cells #[.slice A n c, .int .i64 lo, .int .i64 hi] 26) = W := ⟨_, rfl⟩
  go_enter Tryd.func20, Tryd.ntmps20
  rw [hW] at z0 hB
  have HB := Lib.hid hB; have Z0 := Lib.hid z0
  have HLL := Lib.hid (hL.next hB)
  clear hL hB z0
  go_wp2
  try simp only [hW]
  clear hW
  go_loopw [3] (fun i wr => ∃ k : Nat, k ≤ n ∧ i = .int .i64 k ∧ (ls.take k).all layB = true ∧ Below W.heap.size W wr) (fun i _ => n - (intOf i).toNat)
  case atStart => exact ⟨0, Nat.zero_le _, rfl, by simp, Below.refl _ _⟩
  case round =>
    obtain ⟨k, hk, rfl, hall, hbr⟩ := hrel
    have HA := Lib.hid hall; clear hall
    have hlW := (Array.getElem?_eq_some_iff.1 Z0.out).1
    have X0 := Lib.hid ((hbr.block _ hlW).trans Z0.out)
    have p0 := cell_of_row wr w.heap.size 0 _ 26 (0, 0) X0.out
    have p1 := cell_of_row wr w.heap.size 1 _ 26 (0, 0) X0.out
    have p2 := cell_of_row wr w.heap.size 2 _ 26 (0, 0) X0.out
    simp at p0 p1 p2
    have HBR := Lib.hid hbr
    by_cases hlt : k < n
    · obtain ⟨x, hx⟩ := get_of_lt (l := ls) (k := k) (by rw [HL.out]; exact hlt)
      obtain ⟨b, o, rfl, hb, hcs⟩ := HLL.out (by intro h; rw [h] at hx; simp at hx)
      obtain ⟨c0, c1, c2⟩ := hcs k x hx
      replace c0 := ((bcell hbr).1 _ _ hb).trans c0
      replace c1 := ((bcell hbr).1 _ _ hb).trans c1
      replace c2 := ((bcell hbr).1 _ _ hb).trans c2
      have HX := Lib.hid hx
      clear hx hcs hbr
      cases g1 : inB x.t 1 20000 with
      | false =>
        have hbad : layB x = false := by simp [layB, g1]
        have HBD := Lib.hid (all_of_get HX.out hbad)
        have G1 := Lib.hid g1
        clear hbad g1
        go_wp2_with fail
        refine (in_any _ _ _ _).mono ?_
        rintro e w2 ⟨rfl, rfl⟩
        rw [G1.out]
        go_wp2
        go_ret
        exact ⟨ret_bool (by simp [placeB, HBD.out]), HB.out.trans (HBR.out.mono HB.out.size)⟩
      | true =>
        have G1 := Lib.hid g1
        clear g1
        go_wp2_with fail
        refine (in_any _ _ _ _).mono ?_
        rintro e w2 ⟨rfl, rfl⟩
        rw [G1.out]
        go_wp2_with fail
        refine (Span_any _ _ _ _ _).mono ?_
        rintro e w2 ⟨rfl, hb2⟩
        have HB2 := Lib.hid (HBR.out.trans (hb2.mono HBR.out.size))
        clear hb2
        cases g2 : withinB x.lo x.hi 1 1000 with
        | false =>
          have hbad : layB x = false := by simp [layB, g2]
          have HBD := Lib.hid (all_of_get HX.out hbad)
          go_wp2
          go_ret
          exact ⟨ret_bool (by simp [placeB, HBD.out]), HB.out.trans (HB2.out.mono HB.out.size)⟩
        | true =>
          have G2 := Lib.hid g2
          go_wp2
          exact ⟨⟨k + 1, by omega, by go_num, take_succ_all HX.out HA.out (by simp [layB, G1.out, G2.out]), HB2.out⟩, by simp [intOf]; omega⟩
    · have hkn : k = n := by omega
      have hA : ls.all layB = true := by
        have := HA.out
        rwa [List.take_of_length_le (by have := HL.out; omega)] at this
      have HAA := Lib.hid hA
      clear hA hkn
      cases g1 : inB (n : Int) 1 6 with
      | false =>
        have G1 := Lib.hid g1
        clear g1
        go_wp2_with fail
        refine (in_any _ _ _ _).mono ?_
        rintro e w2 ⟨rfl, rfl⟩
        rw [G1.out]
        go_wp2
        go_ret
        exact ⟨ret_bool (by simp [placeB, HL.out, G1.out]), HB.out.trans (HBR.out.mono HB.out.size)⟩
      | true =>
        have G1 := Lib.hid g1
        clear g1
        go_wp2_with fail
        refine (in_any _ _ _ _).mono ?_
        rintro e w2 ⟨rfl, rfl⟩
        rw [G1.out]
        go_wp2_with fail
        refine (Span_any _ _ _ _ _).mono ?_
        rintro e w2 ⟨rfl, hb2⟩
        have HB2 := Lib.hid (HBR.out.trans (hb2.mono HBR.out.size))
        clear hb2
        go_wp2
        go_ret
        exact ⟨ret_bool (by simp [placeB, HL.out, G1.out, HAA.out]), HB.out.trans (HB2.out.mono HB.out.size)⟩
end Go.Proofs.YtccekbdhffccdaaDoor
