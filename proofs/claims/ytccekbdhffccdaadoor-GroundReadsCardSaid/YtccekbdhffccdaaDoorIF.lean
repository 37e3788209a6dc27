/- The statement on texts that are read: the statement's function. -/
import Derived.Test.YtccekbdhffccdaaDoorHD
import Derived.Test.YtccekbdhffccdaaDoorIE
namespace Go.Proofs.YtccekbdhffccdaaDoor
open Go.RowKit

set_option maxRecDepth 100000 in
set_option maxHeartbeats 4000000 in
theorem reads_any (t : ByteArray) (w : World) (ht : Tab w) (hx : MaxW w) :
    Calls Tryd.prog 13 #[.string t] w fun e w' => e = .returned (.bool true) ∧ Below w.heap.size w w' := by
  have HT := Lib.hid ht; have HX := Lib.hid hx
  clear ht hx
  by_cases hA : 5100 < t.size
  · have h1 : (400 : Int) < (t.size : Int) := by omega
    have h2 : ¬ (t.size : Int) ≤ 5000 := by omega
    have h3 : (5100 : Int) < (t.size : Int) := by omega
    go_enter Tryd.func13, Tryd.ntmps13
    go_wp2_with fail
    refine (known_any w HT.out).mono ?_
    rintro e w5 ⟨rfl, hb5⟩
    have HB5 := Lib.hid hb5
    clear hb5
    go_wp2_with fail
    go_ret
    exact ⟨rfl, HB5.out⟩
  · by_cases hB : 5000 < t.size
    · have h1 : (400 : Int) < (t.size : Int) := by omega
      have h2 : ¬ (t.size : Int) ≤ 5000 := by omega
      have h3 : ¬ (5100 : Int) < (t.size : Int) := by omega
      have H5 := Lib.hid (show t.size ≤ 5100 by omega)
      go_enter Tryd.func13, Tryd.ntmps13
      go_wp2_with fail
      refine (read_long t w hB).mono ?_
      rintro e w1 ⟨rfl, hb1⟩
      have zp := heap_alloc_new w1 (.cells #[.slice none 0 0, .int .i64 0, .int .i64 0] 26)
      have HB1 := Lib.hid (hb1.alloc hb1.size (.cells #[.slice none 0 0, .int .i64 0, .int .i64 0] 26))
      have ZP := Lib.hid zp
      clear hb1 zp
      go_wp2_with fail
      refine (read2_any t H5.out _).mono ?_
      rintro e w2 ⟨hb2, hpost⟩
      have hq : ∃ A n c lo hi z, e = .returned (.tuple #[.agg #[.slice A n c, .int .i64 lo, .int .i64 hi], .bool z]) := by
        rcases hpost with ⟨ls, lo, hi, A, n, c, _, _, he, _⟩ | ⟨_, A, n, c, lo, hi, he⟩
        · exact ⟨_, _, _, _, _, _, he⟩
        · exact ⟨_, _, _, _, _, _, he⟩
      obtain ⟨A, n, c, lo, hi, z, rfl⟩ := hq
      obtain ⟨w3, hw3⟩ : ∃ z, w2.alloc (.cells #[.slice A n c, .int .i64 lo, .int .i64 hi] 26) = z := ⟨_, rfl⟩
      have hb3 : Below w2.heap.size w2 w3 := by rw [← hw3]; exact (Below.refl _ _).alloc (Nat.le_refl _) _
      have zp2 := (hb2.block _ (Array.getElem?_eq_some_iff.1 ZP.out).1).trans ZP.out
      have zp3 := (hb3.block _ (Array.getElem?_eq_some_iff.1 zp2).1).trans zp2
      have hb12 := HB1.out.trans (hb2.mono HB1.out.size)
      have HB3 := Lib.hid (hb12.trans (hb3.mono hb12.size))
      have p0 := cell_of_row w3 w1.heap.size 0 _ 26 (0, 0) zp3
      have p1 := cell_of_row w3 w1.heap.size 1 _ 26 (0, 0) zp3
      have p2 := cell_of_row w3 w1.heap.size 2 _ 26 (0, 0) zp3
      simp at p0 p1 p2
      clear hpost hb2 zp2 hb3 zp3 hb12
      go_wp2_with fail
      refine (samePlace_ok none none 0 0 0 [] 0 0 w3 rfl (Nat.zero_le _) (fun h => absurd rfl h) (fun h => absurd rfl h)).mono ?_
      rintro e w4 ⟨rfl, hb4⟩
      have HB4 := Lib.hid (HB3.out.trans (hb4.mono HB3.out.size))
      clear hb4 hw3 p0 p1 p2
      go_wp2_with fail
      refine (known_any _ (HT.out.next HB4.out)).mono ?_
      rintro e w5 ⟨rfl, hb5⟩
      have HB5 := Lib.hid (HB4.out.trans (hb5.mono HB4.out.size))
      clear hb5
      go_wp2_with fail
      go_ret
      exact ⟨rfl, HB5.out⟩
    · by_cases hC : 400 < t.size
      · have h1 : (400 : Int) < (t.size : Int) := by omega
        have h2 : (t.size : Int) ≤ 5000 := by omega
        go_enter Tryd.func13, Tryd.ntmps13
        go_wp2_with fail
        refine (known_any w HT.out).mono ?_
        rintro e w5 ⟨rfl, hb5⟩
        have HB5 := Lib.hid hb5
        clear hb5
        go_wp2_with fail
        go_ret
        exact ⟨rfl, HB5.out⟩
      · have h1 : ¬ (400 : Int) < (t.size : Int) := by omega
        have h3 : ¬ (5100 : Int) < (t.size : Int) := by omega
        have H5 := Lib.hid (show t.size ≤ 5000 ∧ t.size ≤ 5100 by omega)
        have h5 : ¬ (5000 : Int) < (t.size : Int) := by omega
        obtain ⟨m, hm, hm1⟩ := HX.out
        go_enter Tryd.func13, Tryd.ntmps13
        go_wp2_with fail
        refine (read_any t m w H5.out.1 hm hm1).mono ?_
        rintro e w1 ⟨hread, hb1⟩
        have HR1 := Lib.hid hread
        rcases hread with ⟨ls, lo, hi, hd, htt, hp, A, n, c, rfl, hl, hc, hL⟩ | ⟨ls, lo, hi, hd, htt, hp, rfl⟩ | ⟨hno, rfl⟩
        · have HD := Lib.hid hd; have HTT := Lib.hid htt; have HP := Lib.hid hp
          have zp := heap_alloc_new w1 (.cells #[.slice A n c, .int .i64 lo, .int .i64 hi] 26)
          have hbA := (Below.refl w1.heap.size w1).alloc (Nat.le_refl _) (.cells #[.slice A n c, .int .i64 lo, .int .i64 hi] 26)
          have HB1 := Lib.hid (hb1.trans (hbA.mono hb1.size))
          have HLA := Lib.hid (hL.next hbA)
          have ZP := Lib.hid zp
          have hlen : ls.length ≤ maxLen := by have := HD.out.1.2; unfold maxLen; omega
          have hnm : n ≤ maxLen := hl ▸ hlen
          have HLN := Lib.hid hl; have HNM := Lib.hid hnm; have HC := Lib.hid hc
          clear hb1 zp hd htt hp hm hm1 HR1 hL hl hc hlen hnm hbA
          go_wp2_with fail
          refine (read2_any t H5.out.2 _).mono ?_
          rintro e w2 ⟨hb2, hpost⟩
          have hq : ∃ A2 c2, e = .returned (.tuple #[.agg #[.slice A2 n c2, .int .i64 lo, .int .i64 hi], .bool true]) ∧ LaysAt w2 w2.heap.size A2 ls := by
            rcases hpost with ⟨ls', lo', hi', A2, n2, c2, hd', ht', he, hl', hc', hL'⟩ | ⟨hno, _⟩
            · obtain ⟨rfl, rfl, rfl⟩ := printT_inj HD.out hd' (HTT.out.symm.trans ht')
              obtain rfl : n2 = n := hl'.symm.trans HLN.out
              exact ⟨A2, c2, he, hL'⟩
            · exact absurd HTT.out (hno _ _ _ HD.out)
          obtain ⟨A2, c2, rfl, hL⟩ := hq
          clear hpost
          obtain ⟨w3, hw3⟩ : ∃ z, w2.alloc (.cells #[.slice A2 n c2, .int .i64 lo, .int .i64 hi] 26) = z := ⟨_, rfl⟩
          have hb3 : Below w2.heap.size w2 w3 := by rw [← hw3]; exact (Below.refl _ _).alloc (Nat.le_refl _) _
          have zp2 := (hb2.block _ (Array.getElem?_eq_some_iff.1 ZP.out).1).trans ZP.out
          have ZP3 := Lib.hid ((hb3.block _ (Array.getElem?_eq_some_iff.1 zp2).1).trans zp2)
          have zx := heap_alloc_new w2 (.cells #[.slice A2 n c2, .int .i64 lo, .int .i64 hi] 26)
          rw [hw3] at zx
          have hb12 := HB1.out.trans (hb2.mono HB1.out.size)
          have HB3 := Lib.hid (hb12.trans (hb3.mono hb12.size))
          have HL3 := Lib.hid (hL.next hb3)
          have HA3 := Lib.hid ((HLA.out.next hb2).next hb3)
          have ZX3 := Lib.hid zx
          have x0 := cell_of_row w3 w2.heap.size 0 _ 26 (0, 0) zx
          have x1 := cell_of_row w3 w2.heap.size 1 _ 26 (0, 0) zx
          have x2 := cell_of_row w3 w2.heap.size 2 _ 26 (0, 0) zx
          simp at x0 x1 x2
          clear hb2 zp2 hb3 zx hb12 hL
          go_wp2_with fail
          refine (refPlace_any A2 n c2 ls lo hi w3 HLN.out HNM.out HL3.out).mono ?_
          rintro e w4 ⟨rfl, hb4⟩
          rw [HP.out]
          have HB4 := Lib.hid (HB3.out.trans (hb4.mono HB3.out.size))
          have ZP4 := Lib.hid ((hb4.block _ (Array.getElem?_eq_some_iff.1 ZP3.out).1).trans ZP3.out)
          have ZX4 := Lib.hid ((hb4.block _ (Array.getElem?_eq_some_iff.1 ZX3.out).1).trans ZX3.out)
          have HL4 := Lib.hid (HL3.out.next hb4); have HA4 := Lib.hid (HA3.out.next hb4)
          have p0 := cell_of_row w4 w1.heap.size 0 _ 26 (0, 0) ZP4.out
          have p1 := cell_of_row w4 w1.heap.size 1 _ 26 (0, 0) ZP4.out
          have p2 := cell_of_row w4 w1.heap.size 2 _ 26 (0, 0) ZP4.out
          simp at p0 p1 p2
          clear hb4 hw3 x0 x1 x2
          go_wp2_with fail
          refine (print_any A n c ls lo hi w4 HLN.out HNM.out HC.out HA4.out (HT.out.next HB4.out)).mono ?_
          rintro e w5 ⟨rfl, hb5⟩
          have hr : printR ls lo hi = (printT ls lo hi, 0) := by simp [printR, HP.out]
          have hX : ByteArray.mk (printT ls lo hi).toArray = t := by rw [← HTT.out]
          rw [hr]
          simp only [hX]
          have HB5 := Lib.hid (HB4.out.trans (hb5.mono HB4.out.size))
          have zp5 := (hb5.block _ (Array.getElem?_eq_some_iff.1 ZP4.out).1).trans ZP4.out
          have zx5 := (hb5.block _ (Array.getElem?_eq_some_iff.1 ZX4.out).1).trans ZX4.out
          have HL5 := Lib.hid (HL4.out.next hb5); have HA5 := Lib.hid (HA4.out.next hb5)
          clear p0 p1 p2
          have p0 := cell_of_row w5 w1.heap.size 0 _ 26 (0, 0) zp5
          have p1 := cell_of_row w5 w1.heap.size 1 _ 26 (0, 0) zp5
          have p2 := cell_of_row w5 w1.heap.size 2 _ 26 (0, 0) zp5
          have x0 := cell_of_row w5 w2.heap.size 0 _ 26 (0, 0) zx5
          have x1 := cell_of_row w5 w2.heap.size 1 _ 26 (0, 0) zx5
          have x2 := cell_of_row w5 w2.heap.size 2 _ 26 (0, 0) zx5
          simp at p0 p1 p2 x0 x1 x2
          clear hb5 zp5 zx5 hr hX
          go_wp2_with fail
          refine (samePlace_ok A A2 n c c2 ls lo hi w5 HLN.out HNM.out HA5.out HL5.out).mono ?_
          rintro e w6 ⟨rfl, hb6⟩
          have HB6 := Lib.hid (HB5.out.trans (hb6.mono HB5.out.size))
          clear hb6 p0 p1 p2 x0 x1 x2
          go_wp2_with fail
          refine (known_any _ (HT.out.next HB6.out)).mono ?_
          rintro e w7 ⟨rfl, hb7⟩
          have HB7 := Lib.hid (HB6.out.trans (hb7.mono HB6.out.size))
          clear hb7
          go_wp2_with fail
          go_ret
          exact ⟨rfl, HB7.out⟩
        · have HD := Lib.hid hd; have HTT := Lib.hid htt; have HP := Lib.hid hp
          have zp := heap_alloc_new w1 (.cells #[.slice none 0 0, .int .i64 0, .int .i64 0] 26)
          have HB1 := Lib.hid (hb1.alloc hb1.size (.cells #[.slice none 0 0, .int .i64 0, .int .i64 0] 26))
          have ZP := Lib.hid zp
          clear hb1 zp hd htt hp hm hm1 HR1
          go_wp2_with fail
          refine (read2_any t H5.out.2 _).mono ?_
          rintro e w2 ⟨hb2, hpost⟩
          have hq : ∃ A n c, e = .returned (.tuple #[.agg #[.slice A n c, .int .i64 lo, .int .i64 hi], .bool true]) ∧ ls.length = n ∧ n ≤ c ∧ LaysAt w2 w2.heap.size A ls := by
            rcases hpost with ⟨ls', lo', hi', A, n, c, hd', ht', he, hl', hc', hL'⟩ | ⟨hno, _⟩
            · obtain ⟨rfl, rfl, rfl⟩ := printT_inj HD.out hd' (HTT.out.symm.trans ht')
              exact ⟨A, n, c, he, hl', hc', hL'⟩
            · exact absurd HTT.out (hno _ _ _ HD.out)
          obtain ⟨A, n, c, rfl, hl, hc, hL⟩ := hq
          clear hpost
          obtain ⟨w3, hw3⟩ : ∃ z, w2.alloc (.cells #[.slice A n c, .int .i64 lo, .int .i64 hi] 26) = z := ⟨_, rfl⟩
          have hb3 : Below w2.heap.size w2 w3 := by rw [← hw3]; exact (Below.refl _ _).alloc (Nat.le_refl _) _
          have zp2 := (hb2.block _ (Array.getElem?_eq_some_iff.1 ZP.out).1).trans ZP.out
          have ZP3 := Lib.hid ((hb3.block _ (Array.getElem?_eq_some_iff.1 zp2).1).trans zp2)
          have zx := heap_alloc_new w2 (.cells #[.slice A n c, .int .i64 lo, .int .i64 hi] 26)
          rw [hw3] at zx
          have hb12 := HB1.out.trans (hb2.mono HB1.out.size)
          have HB3 := Lib.hid (hb12.trans (hb3.mono hb12.size))
          have HL3 := Lib.hid (hL.next hb3)
          have x0 := cell_of_row w3 w2.heap.size 0 _ 26 (0, 0) zx
          have x1 := cell_of_row w3 w2.heap.size 1 _ 26 (0, 0) zx
          have x2 := cell_of_row w3 w2.heap.size 2 _ 26 (0, 0) zx
          simp at x0 x1 x2
          have hlen : ls.length ≤ maxLen := by have := HD.out.1.2; unfold maxLen; omega
          have hnm : n ≤ maxLen := hl ▸ hlen
          have HLN := Lib.hid hl; have HNM := Lib.hid hnm
          clear hb2 zp2 hb3 zx hb12 hL hlen hnm hl hc
          go_wp2_with fail
          refine (refPlace_any A n c ls lo hi w3 HLN.out HNM.out HL3.out).mono ?_
          rintro e w4 ⟨rfl, hb4⟩
          rw [HP.out]
          have HB4 := Lib.hid (HB3.out.trans (hb4.mono HB3.out.size))
          have zp4 := (hb4.block _ (Array.getElem?_eq_some_iff.1 ZP3.out).1).trans ZP3.out
          have p0 := cell_of_row w4 w1.heap.size 0 _ 26 (0, 0) zp4
          have p1 := cell_of_row w4 w1.heap.size 1 _ 26 (0, 0) zp4
          have p2 := cell_of_row w4 w1.heap.size 2 _ 26 (0, 0) zp4
          simp at p0 p1 p2
          clear hb4 zp4 hw3 x0 x1 x2
          go_wp2_with fail
          refine (samePlace_ok none none 0 0 0 [] 0 0 w4 rfl (Nat.zero_le _) (fun h => absurd rfl h) (fun h => absurd rfl h)).mono ?_
          rintro e w5 ⟨rfl, hb5⟩
          have HB5 := Lib.hid (HB4.out.trans (hb5.mono HB4.out.size))
          clear hb5 p0 p1 p2
          go_wp2_with fail
          refine (known_any _ (HT.out.next HB5.out)).mono ?_
          rintro e w6 ⟨rfl, hb6⟩
          have HB6 := Lib.hid (HB5.out.trans (hb6.mono HB5.out.size))
          clear hb6
          go_wp2_with fail
          go_ret
          exact ⟨rfl, HB6.out⟩
        · have HNO := Lib.hid hno
          have zp := heap_alloc_new w1 (.cells #[.slice none 0 0, .int .i64 0, .int .i64 0] 26)
          have HB1 := Lib.hid (hb1.alloc hb1.size (.cells #[.slice none 0 0, .int .i64 0, .int .i64 0] 26))
          have ZP := Lib.hid zp
          clear hb1 zp hno hm hm1 HR1
          go_wp2_with fail
          refine (read2_any t H5.out.2 _).mono ?_
          rintro e w2 ⟨hb2, hpost⟩
          have hq : ∃ A n c lo hi, e = .returned (.tuple #[.agg #[.slice A n c, .int .i64 lo, .int .i64 hi], .bool false]) := by
            rcases hpost with ⟨ls', lo', hi', A, n, c, hd', ht', _⟩ | ⟨_, A, n, c, lo, hi, he⟩
            · exact absurd ht' (HNO.out _ _ _ hd')
            · exact ⟨_, _, _, _, _, he⟩
          obtain ⟨A, n, c, lo, hi, rfl⟩ := hq
          obtain ⟨w3, hw3⟩ : ∃ z, w2.alloc (.cells #[.slice A n c, .int .i64 lo, .int .i64 hi] 26) = z := ⟨_, rfl⟩
          have hb3 : Below w2.heap.size w2 w3 := by rw [← hw3]; exact (Below.refl _ _).alloc (Nat.le_refl _) _
          have zp2 := (hb2.block _ (Array.getElem?_eq_some_iff.1 ZP.out).1).trans ZP.out
          have zp3 := (hb3.block _ (Array.getElem?_eq_some_iff.1 zp2).1).trans zp2
          have hb12 := HB1.out.trans (hb2.mono HB1.out.size)
          have HB3 := Lib.hid (hb12.trans (hb3.mono hb12.size))
          have p0 := cell_of_row w3 w1.heap.size 0 _ 26 (0, 0) zp3
          have p1 := cell_of_row w3 w1.heap.size 1 _ 26 (0, 0) zp3
          have p2 := cell_of_row w3 w1.heap.size 2 _ 26 (0, 0) zp3
          simp at p0 p1 p2
          clear hpost hb2 zp2 hb3 zp3 hb12
          go_wp2_with fail
          refine (samePlace_ok none none 0 0 0 [] 0 0 w3 rfl (Nat.zero_le _) (fun h => absurd rfl h) (fun h => absurd rfl h)).mono ?_
          rintro e w4 ⟨rfl, hb4⟩
          have HB4 := Lib.hid (HB3.out.trans (hb4.mono HB3.out.size))
          clear hb4 hw3 p0 p1 p2
          go_wp2_with fail
          refine (known_any _ (HT.out.next HB4.out)).mono ?_
          rintro e w5 ⟨rfl, hb5⟩
          have HB5 := Lib.hid (HB4.out.trans (hb5.mono HB4.out.size))
          clear hb5
          go_wp2_with fail
          go_ret
          exact ⟨rfl, HB5.out⟩
end Go.Proofs.YtccekbdhffccdaaDoor
