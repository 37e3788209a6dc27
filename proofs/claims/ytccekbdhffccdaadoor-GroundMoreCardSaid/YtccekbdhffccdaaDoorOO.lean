/- The specification's check of years. -/
import Derived.Test.YtccekbdhffccdaaDoorNN
namespace Go.Proofs.YtccekbdhffccdaaDoor
open Go.RowKit

set_option maxRecDepth 100000 in
set_option maxHeartbeats 1000000 in
theorem refYears_any (A : Option Addr) (n c : Nat) (ys : List Yr) (w : World) (hl : ys.length = n) (hn : n ≤ maxLen) (hY : YrsAt w w.heap.size A ys) :
    Calls Tryd.prog 60 #[.slice A n c] w fun e w' => e = .returned (.bool (ys.all yrB)) ∧ Below w.heap.size w w' := by
  unfold maxLen at hn
  have HL := Lib.hid hl; clear hl
  have HY := Lib.hid hY; clear hY
  go_enter Tryd.func60, Tryd.ntmps60
  go_wp2
  go_loopw [3] (fun i wr => ∃ k : Nat, k ≤ n ∧ i = .int .i64 k ∧ (ys.take k).all yrB = true ∧ Below w.heap.size w wr) (fun i _ => n - (intOf i).toNat)
  case atStart => exact ⟨0, Nat.zero_le _, rfl, by simp, Below.refl _ _⟩
  case round =>
    obtain ⟨k, hk, rfl, hall, hbr⟩ := hrel
    have HA := Lib.hid hall; clear hall
    have HBR := Lib.hid hbr
    by_cases hlt : k < n
    · obtain ⟨x, hx⟩ := get_of_lt (l := ys) (k := k) (by rw [HL.out]; exact hlt)
      obtain ⟨b, o, rfl, hb, hcs⟩ := HY.out (by intro h; rw [h] at hx; simp at hx)
      obtain ⟨c0, c1, c2, c3, c4, c5⟩ := hcs k x hx
      replace c0 := ((bcell hbr).1 _ _ hb).trans c0
      replace c1 := ((bcell hbr).1 _ _ hb).trans c1
      replace c2 := ((bcell hbr).1 _ _ hb).trans c2
      replace c3 := ((bcell hbr).1 _ _ hb).trans c3
      replace c4 := ((bcell hbr).1 _ _ hb).trans c4
      replace c5 := ((bcell hbr).1 _ _ hb).trans c5
      have hbw : b < wr.heap.size := Nat.lt_of_lt_of_le hb hbr.size
      have HX := Lib.hid hx
      clear hx hcs hbr
      go_wp2_with fail
      refine (Span_any _ _ _ _ _).mono ?_
      rintro e w2 ⟨rfl, hb2⟩
      have HB2 := Lib.hid (HBR.out.trans (hb2.mono HBR.out.size))
      replace c2 := ((bcell hb2).1 _ _ hbw).trans c2
      replace c3 := ((bcell hb2).1 _ _ hbw).trans c3
      replace c4 := ((bcell hb2).1 _ _ hbw).trans c4
      replace c5 := ((bcell hb2).1 _ _ hbw).trans c5
      have hbw2 := Nat.lt_of_lt_of_le hbw hb2.size
      clear hb2 hbw c0 c1
      cases g1 : withinB x.sl x.sh 0 1000000 with
      | false =>
        have HBD := Lib.hid (all_of_get HX.out (show yrB x = false by simp [yrB, g1]))
        clear g1
        go_wp2
        go_ret
        exact ⟨ret_bool (by simp [HBD.out]), HB2.out⟩
      | true =>
        have G1 := Lib.hid g1
        clear g1
        go_wp2_with fail
        refine (Span_any _ _ _ _ _).mono ?_
        rintro e w3 ⟨rfl, hb3⟩
        have HB3 := Lib.hid (HB2.out.trans (hb3.mono HB2.out.size))
        replace c4 := ((bcell hb3).1 _ _ hbw2).trans c4
        replace c5 := ((bcell hb3).1 _ _ hbw2).trans c5
        clear hb3 hbw2 c2 c3
        cases g2 : withinB x.wl x.wh 0 1000000 with
        | false =>
          have HBD := Lib.hid (all_of_get HX.out (show yrB x = false by simp [yrB, g2]))
          clear g2
          go_wp2
          go_ret
          exact ⟨ret_bool (by simp [HBD.out]), HB3.out⟩
        | true =>
          have G2 := Lib.hid g2
          clear g2
          go_wp2_with fail
          refine (Span_any _ _ _ _ _).mono ?_
          rintro e w4 ⟨rfl, hb4⟩
          have HB4 := Lib.hid (HB3.out.trans (hb4.mono HB3.out.size))
          clear hb4 c4 c5
          cases g3 : withinB x.nl x.nh 0 1000 with
          | false =>
            have HBD := Lib.hid (all_of_get HX.out (show yrB x = false by simp [yrB, g3]))
            clear g3
            go_wp2
            go_ret
            exact ⟨ret_bool (by simp [HBD.out]), HB4.out⟩
          | true =>
            have G3 := Lib.hid g3
            clear g3
            go_wp2
            exact ⟨⟨k + 1, by omega, by go_num, take_succ_all HX.out HA.out (by simp [yrB, G1.out, G2.out, G3.out]), HB4.out⟩, by simp [intOf]; omega⟩
    · have hA : ys.all yrB = true := by
        have := HA.out
        rwa [List.take_of_length_le (by have := HL.out; omega)] at this
      have HAA := Lib.hid hA
      clear hA
      go_wp2
      go_ret
      exact ⟨ret_bool HAA.out.symm, HBR.out⟩

/-- What 'wanted' tells. -/
def wantI (ls : List Lay) (lo hi : Int) (ys : List Yr) : Int := if 12 < ys.length then 3 else if placeB ls lo hi && ys.all yrB then 0 else 2
theorem wantI_is (ls : List Lay) (lo hi : Int) (ys : List Yr) : wantI ls lo hi ys = yearsI ls lo hi ys := rfl

set_option maxRecDepth 100000 in
set_option maxHeartbeats 1000000 in
theorem wanted_any (A A2 : Option Addr) (n c m c' : Nat) (ls : List Lay) (ys : List Yr) (lo hi : Int) (w : World) (hl : ls.length = n) (hn : n ≤ maxLen) (hL : LaysAt w w.heap.size A ls) (hm : ys.length = m) (hm2 : m ≤ maxLen) (hY : YrsAt w w.heap.size A2 ys) :
    Calls Tryd.prog 21 #[.agg #[.slice A n c, .int .i64 lo, .int .i64 hi], .slice A2 m c'] w fun e w' => e = .returned (.int .i64 (yearsI ls lo hi ys)) ∧ Below w.heap.size w w' := by
  have HL := Lib.hid hl; have HM := Lib.hid hm; have HN := Lib.hid hn; have HN2 := Lib.hid hm2
  have HLL := Lib.hid hL; have HYY := Lib.hid hY
  clear hl hm hn hm2 hL hY
  have hBW : Below w.heap.size w (w.alloc (.cells #[.slice A n c, .int .i64 lo, .int .i64 hi] 26)) := (Below.refl _ _).alloc (Nat.le_refl _) _
  have HBW := Lib.hid hBW
  clear hBW
  by_cases h12 : 12 < m
  · have hr : yearsI ls lo hi ys = 3 := yearsI_long (by rw [HM.out]; exact h12)
    have HR := Lib.hid hr
    clear hr
    have hb := HN2.out
    unfold maxLen at hb
    go_enter Tryd.func21, Tryd.ntmps21
    go_wp2
    go_ret
    exact ⟨ret_int HR.out.symm, by first | exact Below.refl _ _ | exact (Below.refl _ _).alloc (Nat.le_refl _) _⟩
  · have hb := HN2.out
    unfold maxLen at hb
    cases g1 : placeB ls lo hi with
    | false =>
      have hr : yearsI ls lo hi ys = 2 := yearsI_place (by rw [HM.out]; omega) g1
      have HR := Lib.hid hr; have G1 := Lib.hid g1
      clear hr g1
      go_enter Tryd.func21, Tryd.ntmps21
      go_wp2_with fail
      refine (refPlace_any A n c ls lo hi _ HL.out HN.out (HLL.out.next HBW.out)).mono ?_
      rintro e w2 ⟨rfl, hb2⟩
      rw [G1.out]
      have HB2 := Lib.hid (HBW.out.trans (hb2.mono HBW.out.size))
      clear hb2
      go_wp2
      go_ret
      exact ⟨ret_int HR.out.symm, HB2.out⟩
    | true =>
      have G1 := Lib.hid g1
      clear g1
      go_enter Tryd.func21, Tryd.ntmps21
      go_wp2_with fail
      refine (refPlace_any A n c ls lo hi _ HL.out HN.out (HLL.out.next HBW.out)).mono ?_
      rintro e w2 ⟨rfl, hb2⟩
      rw [G1.out]
      have HB2 := Lib.hid (HBW.out.trans (hb2.mono HBW.out.size))
      clear hb2
      go_wp2_with fail
      refine (refYears_any A2 m c' ys _ HM.out HN2.out (HYY.out.next HB2.out)).mono ?_
      rintro e w3 ⟨rfl, hb3⟩
      have HB3 := Lib.hid (HB2.out.trans (hb3.mono HB2.out.size))
      clear hb3
      cases g2 : ys.all yrB with
      | false =>
        have hr : yearsI ls lo hi ys = 2 := by simp [yearsI, G1.out, g2, HM.out]; omega
        have HR := Lib.hid hr
        clear hr g2
        go_wp2
        go_ret
        exact ⟨ret_int HR.out.symm, HB3.out⟩
      | true =>
        have hr : yearsI ls lo hi ys = 0 := yearsI_fine (by rw [HM.out]; omega) G1.out g2
        have HR := Lib.hid hr
        clear hr g2
        go_wp2
        go_ret
        exact ⟨ret_int HR.out.symm, HB3.out⟩
end Go.Proofs.YtccekbdhffccdaaDoor
