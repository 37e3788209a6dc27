/- Lists that are the same. The place and the years of the examples. The specification's checks. -/
import Derived.Test.YtccekbdhffccdaaDoorG
namespace Go.Proofs.YtccekbdhffccdaaDoor
open Go.RowKit

theorem list_ne_of_get {α : Type} {xs ys : List α} {k : Nat} {x y : α} (hx : xs[k]? = some x) (hy : ys[k]? = some y) (h : x ≠ y) : xs ≠ ys := fun he => by
  rw [he, hy] at hx
  exact h (Option.some.inj hx).symm
theorem take_eq_succ {α : Type} {xs ys : List α} {k : Nat} {x : α} (hx : xs[k]? = some x) (hy : ys[k]? = some x) (h : xs.take k = ys.take k) : xs.take (k + 1) = ys.take (k + 1) := by
  obtain ⟨h1, e1⟩ := List.getElem?_eq_some_iff.1 hx
  obtain ⟨h2, e2⟩ := List.getElem?_eq_some_iff.1 hy
  rw [List.take_succ_eq_append_getElem h1, List.take_succ_eq_append_getElem h2, h, e1, e2]
theorem take_all_eq {α : Type} {xs ys : List α} {k : Nat} (h1 : xs.length = k) (h2 : ys.length = k) (h : xs.take k = ys.take k) : xs = ys := by
  rwa [List.take_of_length_le (by omega), List.take_of_length_le (by omega)] at h

set_option maxRecDepth 100000 in
set_option maxHeartbeats 1000000 in
theorem same_any (A A2 : Option Addr) (n m c c' : Nat) (xs ys : List Int) (w : World) (hl : xs.length = n) (hl2 : ys.length = m) (hn : n ≤ maxLen) (hn2 : m ≤ maxLen) (hX : IntsAt w w.heap.size A xs) (hY : IntsAt w w.heap.size A2 ys) :
    Calls Tryd.prog 28 #[.slice A n c, .slice A2 m c'] w fun e w' => e = .returned (.bool (decide (xs = ys))) ∧ Below w.heap.size w w' := by
  unfold maxLen at hn hn2
  have HL := Lib.hid hl; have HL2 := Lib.hid hl2
  clear hl hl2
  by_cases hnm : n = m
  · subst hnm
    have HX := Lib.hid hX; have HY := Lib.hid hY
    clear hX hY
    go_enter Tryd.func28, Tryd.ntmps28
    go_wp2
    go_loopw [5] (fun i wr => ∃ k : Nat, k ≤ n ∧ i = .int .i64 k ∧ xs.take k = ys.take k ∧ Below w.heap.size w wr) (fun i _ => n - (intOf i).toNat)
    case atStart => exact ⟨0, Nat.zero_le _, rfl, by simp, Below.refl _ _⟩
    case round =>
      obtain ⟨k, hk, rfl, hall, hbr⟩ := hrel
      have HA := Lib.hid hall; clear hall
      have hz := hbr.size
      by_cases hlt : k < n
      · obtain ⟨x, hx⟩ := get_of_lt (l := xs) (k := k) (by rw [HL.out]; exact hlt)
        obtain ⟨y, hy⟩ := get_of_lt (l := ys) (k := k) (by rw [HL2.out]; exact hlt)
        obtain ⟨b1, o1, rfl, hb1, hcs1⟩ := HX.out (by intro h; rw [h] at hx; simp at hx)
        obtain ⟨b2, o2, rfl, hb2, hcs2⟩ := HY.out (by intro h; rw [h] at hy; simp at hy)
        have d1 := ((bcell hbr).1 _ _ hb1).trans (hcs1 k x hx)
        have d2 := ((bcell hbr).1 _ _ hb2).trans (hcs2 k y hy)
        have KX := Lib.hid hx; have KY := Lib.hid hy
        clear hx hy hcs1 hcs2
        by_cases hxy : x = y
        · subst hxy
          go_wp2
          go_quiet (fail)
          go_wp2
          go_roundw
          case rel => exact ⟨k + 1, by omega, by go_num, take_eq_succ KX.out KY.out HA.out, belN hbr _⟩
          case measure => simp [intOf]; omega
        · have HNE := Lib.hid hxy
          go_wp2
          go_quiet (fail)
          go_wp2
          go_ret
          exact ⟨ret_bool (by simp [list_ne_of_get KX.out KY.out HNE.out]), belN hbr _⟩
      · have hkn : k = n := by omega
        have HKN := Lib.hid hkn
        clear hkn
        go_wp2
        go_ret
        exact ⟨ret_bool (by simp [take_all_eq (HL.out.trans HKN.out.symm) (HL2.out.trans HKN.out.symm) HA.out]), hbr⟩
  · have hne : xs ≠ ys := fun h => hnm (by rw [← HL.out, ← HL2.out, h])
    have HNE := Lib.hid hne
    clear hne
    go_enter Tryd.func28, Tryd.ntmps28
    go_wp2
    go_ret
    exact ⟨ret_bool (by simp [HNE.out]), Below.refl _ _⟩
end Go.Proofs.YtccekbdhffccdaaDoor

namespace Go.Proofs.YtccekbdhffccdaaDoor
open Go.RowKit

def exP : List Lay := [⟨500, 100, 120⟩, ⟨1000, 200, 300⟩]
theorem exP_at {w : World} {b B T : Nat} (h : w.heap[b]? = some (.cells #[.int .i64 500, .int .i64 100, .int .i64 120, .int .i64 1000, .int .i64 200, .int .i64 300] T (0, 0))) (hb : b < B) : LaysAt w B (some ⟨b, 0, none⟩) exP := fun _ => by
  refine ⟨b, 0, rfl, hb, fun i x hx => ?_⟩
  have hi : i < 2 := (List.getElem?_eq_some_iff.1 hx).1
  simp only [cell_of_row w b _ _ T (0, 0) h]
  match i, hi with
  | 0, _ => cases hx; exact ⟨rfl, rfl, rfl⟩
  | 1, _ => cases hx; exact ⟨rfl, rfl, rfl⟩
set_option maxRecDepth 100000 in
set_option maxHeartbeats 1000000 in
theorem P_any (w : World) :
    Calls Tryd.prog 49 #[] w fun e w' => ∃ A, e = .returned (.agg #[.slice A 2 2, .int .i64 0, .int .i64 2000]) ∧ LaysAt w' w'.heap.size A exP ∧ Below w.heap.size w w' := by
  have z0 := heap_alloc_new w (.cells #[.slice none 0 0, .int .i64 0, .int .i64 0] 26)
  have hB : Below w.heap.size w (w.alloc (.cells #[.slice none 0 0, .int .i64 0, .int .i64 0] 26)) := (Below.refl _ _).alloc (Nat.le_refl _) _
  have HB := Lib.hid hB; have Z0 := Lib.hid z0
  clear hB z0
  go_enter Tryd.func49, Tryd.ntmps49
  go_wp2_with fail
  refine (span_any _ _ _).mono ?_
  rintro e w1 ⟨rfl, hb1⟩
  have B1 := Lib.hid (HB.out.trans (hb1.mono HB.out.size))
  have X1 := Lib.hid ((hb1.block _ (Array.getElem?_eq_some_iff.1 Z0.out).1).trans Z0.out)
  clear hb1
  go_wp2_with fail
  refine (span_any _ _ _).mono ?_
  rintro e w2 ⟨rfl, hb2⟩
  have B2 := Lib.hid (B1.out.trans (hb2.mono B1.out.size))
  have X2 := Lib.hid ((hb2.block _ (Array.getElem?_eq_some_iff.1 X1.out).1).trans X1.out)
  clear hb2
  go_wp2_with fail
  have z3 := heap_alloc_new w2 (.cells #[.int .i64 500, .int .i64 100, .int .i64 120, .int .i64 1000, .int .i64 200, .int .i64 300] 86)
  have hb : Below w2.heap.size w2 (w2.alloc (.cells #[.int .i64 500, .int .i64 100, .int .i64 120, .int .i64 1000, .int .i64 200, .int .i64 300] 86)) := (Below.refl _ _).alloc (Nat.le_refl _) _
  have Z3 := Lib.hid z3
  have BB := Lib.hid hb
  clear z3 hb
  refine (span_any _ _ _).mono ?_
  rintro e w3 ⟨rfl, hb3⟩
  have HB3 := Lib.hid hb3
  have X3 := Lib.hid ((hb3.block _ (Array.getElem?_eq_some_iff.1 Z3.out).1).trans Z3.out)
  have B3 := Lib.hid (B2.out.trans ((BB.out.trans (hb3.mono BB.out.size)).mono B2.out.size))
  have Y3 := Lib.hid ((hb3.block _ (Nat.lt_of_lt_of_le (Array.getElem?_eq_some_iff.1 X2.out).1 BB.out.size)).trans ((BB.out.block _ (Array.getElem?_eq_some_iff.1 X2.out).1).trans X2.out))
  clear hb3
  have p0 := cell_of_row w3 w.heap.size 0 _ 26 (0, 0) Y3.out
  have p1 := cell_of_row w3 w.heap.size 1 _ 26 (0, 0) Y3.out
  have p2 := cell_of_row w3 w.heap.size 2 _ 26 (0, 0) Y3.out
  simp at p0 p1 p2
  have f0 : w3.frozen? ⟨w.heap.size, 0, none⟩ = false := by simp [World.frozen?, Y3.out]
  have f1 : w3.frozen? ⟨w.heap.size, 1, none⟩ = false := by simp [World.frozen?, Y3.out]
  have f2 : w3.frozen? ⟨w.heap.size, 2, none⟩ = false := by simp [World.frozen?, Y3.out]
  go_wp2
  have hlt : w.heap.size < w2.heap.size := (Array.getElem?_eq_some_iff.1 X2.out).1
  have hlt3 : w2.heap.size < w3.heap.size := (Array.getElem?_eq_some_iff.1 X3.out).1
  have hX4 : ((((w3.setCell ⟨w.heap.size, 0, none⟩ (.slice (some ⟨w2.heap.size, 0, none⟩) 2 2)).setCell ⟨w.heap.size, 1, none⟩ (.int .i64 0)).setCell ⟨w.heap.size, 2, none⟩ (.int .i64 2000)).heap[w2.heap.size]?) = some (.cells #[.int .i64 500, .int .i64 100, .int .i64 120, .int .i64 1000, .int .i64 200, .int .i64 300] 86 (0, 0)) := by
    rw [Below.heap_setCell _ _ _ _ (by simp; omega), Below.heap_setCell _ _ _ _ (by simp; omega), Below.heap_setCell _ _ _ _ (by simp; omega)]
    exact X3.out
  have hb4 : Below w.heap.size w (((w3.setCell ⟨w.heap.size, 0, none⟩ (.slice (some ⟨w2.heap.size, 0, none⟩) 2 2)).setCell ⟨w.heap.size, 1, none⟩ (.int .i64 0)).setCell ⟨w.heap.size, 2, none⟩ (.int .i64 2000)) :=
    ((B3.out.setCell (Nat.le_refl _) _).setCell (Nat.le_refl _) _).setCell (Nat.le_refl _) _
  exact bodyPost_ret (v := .agg #[.slice (some ⟨w2.heap.size, 0, none⟩) 2 2, .int .i64 0, .int .i64 2000]) (by simp [results, Tryd.results49, go_sem, p0, p1, p2]) rfl ⟨_, rfl, exP_at hX4 (Array.getElem?_eq_some_iff.1 hX4).1, hb4⟩
end Go.Proofs.YtccekbdhffccdaaDoor

namespace Go.Proofs.YtccekbdhffccdaaDoor
open Go.RowKit

set_option maxRecDepth 100000 in
set_option maxHeartbeats 1000000 in
theorem short_any (A A2 : Option Addr) (n m c c' : Nat) (lo hi : Int) (w : World) (hn : n ≤ maxLen) (hm : m ≤ maxLen) :
    Calls Tryd.prog 16 #[.agg #[.slice A n c, .int .i64 lo, .int .i64 hi], .slice A2 m c'] w fun e w' => e = .returned (.bool (decide (n ≤ 12 ∧ m ≤ 17))) ∧ Below w.heap.size w w' := by
  unfold maxLen at hn hm
  by_cases h1 : n ≤ 12 <;> by_cases h2 : m ≤ 17
  all_goals
    go_enter Tryd.func16, Tryd.ntmps16
    go_wp2
    try go_quiet (fail)
    try go_wp2
    go_ret
    exact ⟨ret_bool (by first | (simp [h1, h2]; done) | (simp [h1, h2]; omega)), by first | exact (Below.refl _ _).alloc (Nat.le_refl _) _ | exact belN ((Below.refl _ _).alloc (Nat.le_refl _) _) _ | exact Below.refl _ _⟩

set_option maxRecDepth 100000 in
set_option maxHeartbeats 1000000 in
theorem refPlace_any (A : Option Addr) (n c : Nat) (ls : List Lay) (lo hi : Int) (w : World) (hl : ls.length = n) (hn : n ≤ maxLen) (hL : LaysAt w w.heap.size A ls) :
    Calls Tryd.prog 20 #[.agg #[.slice A n c, .int .i64 lo, .int .i64 hi]] w fun e w' => e = .returned (.bool (placeB ls lo hi)) ∧ Below w.heap.size w w' := by
  unfold maxLen at hn
  have HL := Lib.hid hl; clear hl
  have z0 := heap_alloc_new w (.cells #[.slice A n c, .int .i64 lo, .int .i64 hi] 26)
  have hB : Below w.heap.size w (w.alloc (.cells #[.slice A n c, .int .i64 lo, .int .i64 hi] 26)) := (Below.refl _ _).alloc (Nat.le_refl _) _
  obtain ⟨W, hW⟩ : ∃ W, w.alloc (.cells #[.slice A n c, .int .i64 lo, .int .i64 hi] 26) = W := ⟨_, rfl⟩
  go_enter Tryd.func20, Tryd.ntmps20
  rw [hW] at z0 hB
  have HB := Lib.hid hB; have Z0 := Lib.hid z0
  have HLL := Lib.hid (hL.next hB)
  clear hL hB z0
  go_wp2
  try simp only [hW]
  clear hW
  go_loopw [3] (fun i wr => ∃ k : Nat, k ≤ n ∧ i = .int .i64 k ∧ (ls.take k).all layB = true ∧ Below W.heap.size W wr) (fun i _ => n - (intOf i).toNat)
  case atStart => exact ⟨0, Nat.zero_le _, rfl, by simp, Below.refl _ _⟩
  case round =>
    obtain ⟨k, hk, rfl, hall, hbr⟩ := hrel
    have HA := Lib.hid hall; clear hall
    have hlW := (Array.getElem?_eq_some_iff.1 Z0.out).1
    have X0 := Lib.hid ((hbr.block _ hlW).trans Z0.out)
    have p0 := cell_of_row wr w.heap.size 0 _ 26 (0, 0) X0.out
    have p1 := cell_of_row wr w.heap.size 1 _ 26 (0, 0) X0.out
    have p2 := cell_of_row wr w.heap.size 2 _ 26 (0, 0) X0.out
    simp at p0 p1 p2
    have HBR := Lib.hid hbr
    by_cases hlt : k < n
    · obtain ⟨x, hx⟩ := get_of_lt (l := ls) (k := k) (by rw [HL.out]; exact hlt)
      obtain ⟨b, o, rfl, hb, hcs⟩ := HLL.out (by intro h; rw [h] at hx; simp at hx)
      obtain ⟨c0, c1, c2⟩ := hcs k x hx
      replace c0 := ((bcell hbr).1 _ _ hb).trans c0
      replace c1 := ((bcell hbr).1 _ _ hb).trans c1
      replace c2 := ((bcell hbr).1 _ _ hb).trans c2
      have HX := Lib.hid hx
      clear hx hcs hbr
      cases g1 : inB x.t 1 20000 with
      | false =>
        have hbad : layB x = false := by simp [layB, g1]
        have HBD := Lib.hid (all_of_get HX.out hbad)
        have G1 := Lib.hid g1
        clear hbad g1
        go_wp2_with fail
        refine (in_any _ _ _ _).mono ?_
        rintro e w2 ⟨rfl, rfl⟩
        rw [G1.out]
        go_wp2
        go_ret
        exact ⟨ret_bool (by simp [placeB, HBD.out]), HB.out.trans (HBR.out.mono HB.out.size)⟩
      | true =>
        have G1 := Lib.hid g1
        clear g1
        go_wp2_with fail
        refine (in_any _ _ _ _).mono ?_
        rintro e w2 ⟨rfl, rfl⟩
        rw [G1.out]
        go_wp2_with fail
        refine (Span_any _ _ _ _ _).mono ?_
        rintro e w2 ⟨rfl, hb2⟩
        have HB2 := Lib.hid (HBR.out.trans (hb2.mono HBR.out.size))
        clear hb2
        cases g2 : withinB x.lo x.hi 1 1000 with
        | false =>
          have hbad : layB x = false := by simp [layB, g2]
          have HBD := Lib.hid (all_of_get HX.out hbad)
          go_wp2
          go_ret
          exact ⟨ret_bool (by simp [placeB, HBD.out]), HB.out.trans (HB2.out.mono HB.out.size)⟩
        | true =>
          have G2 := Lib.hid g2
          go_wp2
          exact ⟨⟨k + 1, by omega, by go_num, take_succ_all HX.out HA.out (by simp [layB, G1.out, G2.out]), HB2.out⟩, by simp [intOf]; omega⟩
    · have hkn : k = n := by omega
      have hA : ls.all layB = true := by
        have := HA.out
        rwa [List.take_of_length_le (by have := HL.out; omega)] at this
      have HAA := Lib.hid hA
      clear hA hkn
      cases g1 : inB (n : Int) 1 6 with
      | false =>
        have G1 := Lib.hid g1
        clear g1
        go_wp2_with fail
        refine (in_any _ _ _ _).mono ?_
        rintro e w2 ⟨rfl, rfl⟩
        rw [G1.out]
        go_wp2
        go_ret
        exact ⟨ret_bool (by simp [placeB, HL.out, G1.out]), HB.out.trans (HBR.out.mono HB.out.size)⟩
      | true =>
        have G1 := Lib.hid g1
        clear g1
        go_wp2_with fail
        refine (in_any _ _ _ _).mono ?_
        rintro e w2 ⟨rfl, rfl⟩
        rw [G1.out]
        go_wp2_with fail
        refine (Span_any _ _ _ _ _).mono ?_
        rintro e w2 ⟨rfl, hb2⟩
        have HB2 := Lib.hid (HBR.out.trans (hb2.mono HBR.out.size))
        clear hb2
        go_wp2
        go_ret
        exact ⟨ret_bool (by simp [placeB, HL.out, G1.out, HAA.out]), HB.out.trans (HB2.out.mono HB.out.size)⟩
end Go.Proofs.YtccekbdhffccdaaDoor
