/- The statement on what is known better: where lists are too long, years or place are wrong, or the numbers are. -/
import Derived.Test.YtccekbdhffccdaaDoorZW
namespace Go.Proofs.YtccekbdhffccdaaDoor
open Go.RowKit

set_option maxRecDepth 100000 in
set_option maxHeartbeats 4000000 in
theorem mor_far (a b k1 k2 k3 : Int) (A A2 : Option Addr) (n c m c' : Nat) (lo hi : Int) (w : World) (ht : Tab w) (hn : n ≤ maxLen) (hm : m ≤ maxLen) (hs : decide (n ≤ 12 ∧ m ≤ 17) = false) :
    Calls Tryd.prog 15 #[.agg #[.slice A n c, .int .i64 lo, .int .i64 hi], .slice A2 m c', .int .i64 a, .int .i64 b, .int .i64 k1, .int .i64 k2, .int .i64 k3] w fun e w' => e = .returned (.bool true) ∧ Below w.heap.size w w' := by
  have HT := Lib.hid ht
  have HN := Lib.hid hn; have HM := Lib.hid hm
  have HS := Lib.hid hs
  clear hn hm ht hs
  have HB1 := Lib.hid ((Below.refl w.heap.size w).alloc (Nat.le_refl _) (.cells #[.slice A n c, .int .i64 lo, .int .i64 hi] 26))
  go_enter Tryd.func15, Tryd.ntmps15
  go_wp2_with fail
  refine (short_any A A2 n m c c' lo hi _ HN.out HM.out).mono ?_
  rintro e w2 ⟨rfl, hb2⟩
  rw [HS.out]
  have HB2 := Lib.hid (HB1.out.trans (hb2.mono HB1.out.size))
  clear hb2
  go_wp2_with fail
  refine (known_any _ (HT.out.next HB2.out)).mono ?_
  rintro e w3 ⟨rfl, hb3⟩
  have HB3 := Lib.hid (HB2.out.trans (hb3.mono HB2.out.size))
  clear hb3
  go_wp2_with fail
  go_ret
  exact ⟨rfl, HB3.out⟩
set_option maxRecDepth 100000 in
set_option maxHeartbeats 4000000 in
theorem mor_bad (r a b k1 k2 k3 : Int) (A A2 : Option Addr) (n c m c' : Nat) (ls : List Lay) (ys : List Yr) (lo hi : Int) (w : World) (ht : Tab w) (hl : ls.length = n) (hn : n ≤ maxLen) (hL : LaysAt w w.heap.size A ls) (hy : ys.length = m) (hm : m ≤ maxLen) (hY : YrsAt w w.heap.size A2 ys)
    (hs : decide (n ≤ 12 ∧ m ≤ 17) = true) (hr : yearsI ls lo hi ys = r) (hr0 : ¬ r = 0) :
    Calls Tryd.prog 15 #[.agg #[.slice A n c, .int .i64 lo, .int .i64 hi], .slice A2 m c', .int .i64 a, .int .i64 b, .int .i64 k1, .int .i64 k2, .int .i64 k3] w fun e w' => e = .returned (.bool true) ∧ Below w.heap.size w w' := by
  have HT := Lib.hid ht
  have HN := Lib.hid hn; have HM := Lib.hid hm; have HL := Lib.hid hl; have HY := Lib.hid hy
  have HS := Lib.hid hs; have HR := Lib.hid hr
  clear hn hm ht hs hr hl hy
  have HB1 := Lib.hid ((Below.refl w.heap.size w).alloc (Nat.le_refl _) (.cells #[.slice A n c, .int .i64 lo, .int .i64 hi] 26))
  have Z1 := Lib.hid (heap_alloc_new w (.cells #[.slice A n c, .int .i64 lo, .int .i64 hi] 26))
  go_enter Tryd.func15, Tryd.ntmps15
  go_wp2_with fail
  refine (short_any A A2 n m c c' lo hi _ HN.out HM.out).mono ?_
  rintro e w2 ⟨rfl, hb2⟩
  rw [HS.out]
  have HB2 := Lib.hid (HB1.out.trans (hb2.mono HB1.out.size))
  have Z2 := Lib.hid ((hb2.block _ (Array.getElem?_eq_some_iff.1 Z1.out).1).trans Z1.out)
  clear hb2
  have p0 := cell_of_row w2 w.heap.size 0 _ 26 (0, 0) Z2.out
  have p1 := cell_of_row w2 w.heap.size 1 _ 26 (0, 0) Z2.out
  have p2 := cell_of_row w2 w.heap.size 2 _ 26 (0, 0) Z2.out
  simp at p0 p1 p2
  go_wp2_with fail
  refine (wanted_is r A A2 n c m c' ls ys lo hi _ HL.out HN.out (hL.next HB2.out) HY.out HM.out (hY.next HB2.out) HR.out).mono ?_
  rintro e w3 ⟨rfl, hb3⟩
  have HB3 := Lib.hid (HB2.out.trans (hb3.mono HB2.out.size))
  clear hb3 p0 p1 p2
  go_wp2_with fail
  refine (known_any _ (HT.out.next HB3.out)).mono ?_
  rintro e w4 ⟨rfl, hb4⟩
  have HB4 := Lib.hid (HB3.out.trans (hb4.mono HB3.out.size))
  clear hb4
  go_wp2_with fail
  go_ret
  exact ⟨rfl, HB4.out⟩
set_option maxRecDepth 100000 in
set_option maxHeartbeats 4000000 in
theorem mor_odd (a b k1 k2 k3 : Int) (A A2 : Option Addr) (n c m c' : Nat) (ls : List Lay) (ys : List Yr) (lo hi : Int) (w : World) (ht : Tab w) (hl : ls.length = n) (hn : n ≤ maxLen) (hL : LaysAt w w.heap.size A ls) (hy : ys.length = m) (hm : m ≤ maxLen) (hY : YrsAt w w.heap.size A2 ys)
    (hs : decide (n ≤ 12 ∧ m ≤ 17) = true) (hr : yearsI ls lo hi ys = 0) (ho : a < 0 ∨ b < a ∨ 100 < b ∨ k1 < 0 ∨ 1000000 < k1 ∨ k2 < 0 ∨ 1000 < k2 ∨ k3 < 0 ∨ 1000 < k3) :
    Calls Tryd.prog 15 #[.agg #[.slice A n c, .int .i64 lo, .int .i64 hi], .slice A2 m c', .int .i64 a, .int .i64 b, .int .i64 k1, .int .i64 k2, .int .i64 k3] w fun e w' => e = .returned (.bool true) ∧ Below w.heap.size w w' := by
  have HT := Lib.hid ht
  have HN := Lib.hid hn; have HM := Lib.hid hm; have HL := Lib.hid hl; have HY := Lib.hid hy
  have HS := Lib.hid hs; have HR := Lib.hid hr; have HO := Lib.hid ho
  clear hn hm ht hs hr hl hy ho
  have HB1 := Lib.hid ((Below.refl w.heap.size w).alloc (Nat.le_refl _) (.cells #[.slice A n c, .int .i64 lo, .int .i64 hi] 26))
  have Z1 := Lib.hid (heap_alloc_new w (.cells #[.slice A n c, .int .i64 lo, .int .i64 hi] 26))
  go_enter Tryd.func15, Tryd.ntmps15
  go_wp2_with fail
  refine (short_any A A2 n m c c' lo hi _ HN.out HM.out).mono ?_
  rintro e w2 ⟨rfl, hb2⟩
  rw [HS.out]
  have HB2 := Lib.hid (HB1.out.trans (hb2.mono HB1.out.size))
  have Z2 := Lib.hid ((hb2.block _ (Array.getElem?_eq_some_iff.1 Z1.out).1).trans Z1.out)
  clear hb2
  have p0 := cell_of_row w2 w.heap.size 0 _ 26 (0, 0) Z2.out
  have p1 := cell_of_row w2 w.heap.size 1 _ 26 (0, 0) Z2.out
  have p2 := cell_of_row w2 w.heap.size 2 _ 26 (0, 0) Z2.out
  simp at p0 p1 p2
  go_wp2_with fail
  refine (wanted_is 0 A A2 n c m c' ls ys lo hi _ HL.out HN.out (hL.next HB2.out) HY.out HM.out (hY.next HB2.out) HR.out).mono ?_
  rintro e w3 ⟨rfl, hb3⟩
  have HB3 := Lib.hid (HB2.out.trans (hb3.mono HB2.out.size))
  clear hb3 p0 p1 p2 hL hY Z1 Z2 HB2 HB1
  by_cases o1 : a < 0
  · go_wp2_with fail
    refine (known_any _ (HT.out.next HB3.out)).mono ?_
    rintro e w4 ⟨rfl, hb4⟩
    have HB4 := Lib.hid (HB3.out.trans (hb4.mono HB3.out.size))
    clear hb4
    go_wp2_with fail
    go_ret
    exact ⟨rfl, HB4.out⟩
  by_cases o2 : b < a
  · go_wp2_with fail
    refine (known_any _ (HT.out.next HB3.out)).mono ?_
    rintro e w4 ⟨rfl, hb4⟩
    have HB4 := Lib.hid (HB3.out.trans (hb4.mono HB3.out.size))
    clear hb4
    go_wp2_with fail
    go_ret
    exact ⟨rfl, HB4.out⟩
  by_cases o3 : 100 < b
  · go_wp2_with fail
    refine (known_any _ (HT.out.next HB3.out)).mono ?_
    rintro e w4 ⟨rfl, hb4⟩
    have HB4 := Lib.hid (HB3.out.trans (hb4.mono HB3.out.size))
    clear hb4
    go_wp2_with fail
    go_ret
    exact ⟨rfl, HB4.out⟩
  by_cases o4 : k1 < 0
  · go_wp2_with fail
    refine (known_any _ (HT.out.next HB3.out)).mono ?_
    rintro e w4 ⟨rfl, hb4⟩
    have HB4 := Lib.hid (HB3.out.trans (hb4.mono HB3.out.size))
    clear hb4
    go_wp2_with fail
    go_ret
    exact ⟨rfl, HB4.out⟩
  by_cases o5 : 1000000 < k1
  · go_wp2_with fail
    refine (known_any _ (HT.out.next HB3.out)).mono ?_
    rintro e w4 ⟨rfl, hb4⟩
    have HB4 := Lib.hid (HB3.out.trans (hb4.mono HB3.out.size))
    clear hb4
    go_wp2_with fail
    go_ret
    exact ⟨rfl, HB4.out⟩
  by_cases o6 : k2 < 0
  · go_wp2_with fail
    refine (known_any _ (HT.out.next HB3.out)).mono ?_
    rintro e w4 ⟨rfl, hb4⟩
    have HB4 := Lib.hid (HB3.out.trans (hb4.mono HB3.out.size))
    clear hb4
    go_wp2_with fail
    go_ret
    exact ⟨rfl, HB4.out⟩
  by_cases o7 : 1000 < k2
  · go_wp2_with fail
    refine (known_any _ (HT.out.next HB3.out)).mono ?_
    rintro e w4 ⟨rfl, hb4⟩
    have HB4 := Lib.hid (HB3.out.trans (hb4.mono HB3.out.size))
    clear hb4
    go_wp2_with fail
    go_ret
    exact ⟨rfl, HB4.out⟩
  by_cases o8 : k3 < 0
  · go_wp2_with fail
    refine (known_any _ (HT.out.next HB3.out)).mono ?_
    rintro e w4 ⟨rfl, hb4⟩
    have HB4 := Lib.hid (HB3.out.trans (hb4.mono HB3.out.size))
    clear hb4
    go_wp2_with fail
    go_ret
    exact ⟨rfl, HB4.out⟩
  have o9 : 1000 < k3 := by
    have := HO.out
    omega
  go_wp2_with fail
  refine (known_any _ (HT.out.next HB3.out)).mono ?_
  rintro e w4 ⟨rfl, hb4⟩
  have HB4 := Lib.hid (HB3.out.trans (hb4.mono HB3.out.size))
  clear hb4
  go_wp2_with fail
  go_ret
  exact ⟨rfl, HB4.out⟩
end Go.Proofs.YtccekbdhffccdaaDoor
