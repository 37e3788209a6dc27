/- Contracts of the checks of years and of depths. -/
import Derived.Test.YtccekbdhffccdaaDoorC
namespace Go.Proofs.YtccekbdhffccdaaDoor
open Go.RowKit

theorem Check_yes (A : Option Addr) (n c : Nat) (ls : List Lay) (lo hi : Int) (w : World) (hl : ls.length = n) (hn : n ≤ maxLen) (hL : LaysAt w w.heap.size A ls) (hp : placeB ls lo hi = true) :
    Calls Tryd.prog 18 #[.agg #[.slice A n c, .int .i64 lo, .int .i64 hi]] w fun e w' => e = .returned (.int .i64 0) ∧ Below w.heap.size w w' := by
  have h := Check_any A n c ls lo hi w hl hn hL
  rwa [show checkI ls lo hi = 0 from by simp [checkI, hp]] at h
theorem Check_no (A : Option Addr) (n c : Nat) (ls : List Lay) (lo hi : Int) (w : World) (hl : ls.length = n) (hn : n ≤ maxLen) (hL : LaysAt w w.heap.size A ls) (hp : placeB ls lo hi = false) :
    Calls Tryd.prog 18 #[.agg #[.slice A n c, .int .i64 lo, .int .i64 hi]] w fun e w' => e = .returned (.int .i64 2) ∧ Below w.heap.size w w' := by
  have h := Check_any A n c ls lo hi w hl hn hL
  rwa [show checkI ls lo hi = 2 from by simp [checkI, hp]] at h

set_option maxHeartbeats 2000000 in
theorem checkYears_any (A A2 : Option Addr) (n c m c' : Nat) (ls : List Lay) (ys : List Yr) (lo hi : Int) (w : World) (hl : ls.length = n) (hn : n ≤ maxLen) (hL : LaysAt w w.heap.size A ls)
    (hm : ys.length = m) (hm2 : m ≤ maxLen) (hY : YrsAt w w.heap.size A2 ys) :
    Calls Tryd.prog 52 #[.agg #[.slice A n c, .int .i64 lo, .int .i64 hi], .slice A2 m c'] w fun e w' => e = .returned (.int .i64 (yearsI ls lo hi ys)) ∧ Below w.heap.size w w' := by
  have HL := Lib.hid hl; clear hl
  have HM := Lib.hid hm; clear hm
  have HN := Lib.hid hn; clear hn
  unfold maxLen at hm2
  by_cases h12 : m ≤ 12
  · by_cases hp : placeB ls lo hi = true
    · have HP := Lib.hid hp; clear hp
      go_enter Tryd.func52, Tryd.ntmps52
      go_wp2_with (go_at_call 18; refine (Check_yes A n c ls lo hi _ HL.out HN.out (by exact hL.alloc _) HP.out).mono ?_; rintro e w1 ⟨rfl, hb1⟩; obtain ⟨hc1, hf1⟩ := bcell hb1)
      have hB0 : Below w.heap.size w w1 := ((Below.refl _ _).alloc (Nat.le_refl _) _).trans (hb1.mono (by simp))
      clear hc1 hf1 hb1
      go_loopw [15] (fun i wr => ∃ k : Nat, k ≤ m ∧ i = .int .i64 k ∧ (ys.take k).all yrB = true ∧ Below w.heap.size w wr) (fun i _ => m - (intOf i).toNat)
      case atStart => exact ⟨0, Nat.zero_le _, rfl, by simp, hB0⟩
      case round =>
        obtain ⟨k, hk, rfl, hall, hbr⟩ := hrel
        have HA := Lib.hid hall; clear hall
        have hz := hbr.size
        by_cases hlt : k < m
        · obtain ⟨x, hx⟩ := get_of_lt (l := ys) (k := k) (by rw [HM.out]; exact hlt)
          obtain ⟨b, o, rfl, hb, hcs⟩ := hY (by intro h; rw [h] at hx; simp at hx)
          obtain ⟨c0, c1, c2, c3, c4, c5⟩ := hcs k x hx
          replace c0 := ((bcell hbr).1 _ _ hb).trans c0
          replace c1 := ((bcell hbr).1 _ _ hb).trans c1
          replace c2 := ((bcell hbr).1 _ _ hb).trans c2
          replace c3 := ((bcell hbr).1 _ _ hb).trans c3
          replace c4 := ((bcell hbr).1 _ _ hb).trans c4
          replace c5 := ((bcell hbr).1 _ _ hb).trans c5
          clear hcs
          have HX := Lib.hid hx; clear hx
          by_cases g1 : withinB x.sl x.sh 0 1000000 = true
          · by_cases g2 : withinB x.wl x.wh 0 1000000 = true
            · by_cases g3 : withinB x.nl x.nh 0 1000 = true
              · go_wp2_with (go_at_call 51; refine (within_any _ _ _ _ _).mono ?_; rintro e w2 ⟨rfl, hb2⟩; obtain ⟨hc2, hf2⟩ := bcell hb2; have hz2 : wr.heap.size < w2.heap.size := (by have := hb2.size; (try simp at this); omega); first | replace hbr := Below.trans hbr (hb2.mono hbr.size) | replace hbr := Below.trans (Below.alloc hbr hbr.size _) (hb2.mono (by simp; exact Nat.le_succ_of_le hbr.size)))
                go_roundw
                case rel => exact ⟨k + 1, by omega, by go_num, take_succ_all HX.out HA.out (by simp [yrB, g1, g2, g3]), hbr⟩
                case measure => simp [intOf]; omega
              · have HB : Hid (yrB x = false) := Lib.hid (by simp [yrB, g3])
                go_wp2_with (go_at_call 51; refine (within_any _ _ _ _ _).mono ?_; rintro e w2 ⟨rfl, hb2⟩; obtain ⟨hc2, hf2⟩ := bcell hb2; have hz2 : wr.heap.size < w2.heap.size := (by have := hb2.size; (try simp at this); omega); first | replace hbr := Below.trans hbr (hb2.mono hbr.size) | replace hbr := Below.trans (Below.alloc hbr hbr.size _) (hb2.mono (by simp; exact Nat.le_succ_of_le hbr.size)))
                go_ret
                exact ⟨ret_int (yearsI_year (by have := HM.out; omega) HX.out HB.out).symm, hbr⟩
            · have HB : Hid (yrB x = false) := Lib.hid (by simp [yrB, g2])
              go_wp2_with (go_at_call 51; refine (within_any _ _ _ _ _).mono ?_; rintro e w2 ⟨rfl, hb2⟩; obtain ⟨hc2, hf2⟩ := bcell hb2; have hz2 : wr.heap.size < w2.heap.size := (by have := hb2.size; (try simp at this); omega); first | replace hbr := Below.trans hbr (hb2.mono hbr.size) | replace hbr := Below.trans (Below.alloc hbr hbr.size _) (hb2.mono (by simp; exact Nat.le_succ_of_le hbr.size)))
              go_ret
              exact ⟨ret_int (yearsI_year (by have := HM.out; omega) HX.out HB.out).symm, hbr⟩
          · have HB : Hid (yrB x = false) := Lib.hid (by simp [yrB, g1])
            go_wp2_with (go_at_call 51; refine (within_any _ _ _ _ _).mono ?_; rintro e w2 ⟨rfl, hb2⟩; obtain ⟨hc2, hf2⟩ := bcell hb2; have hz2 : wr.heap.size < w2.heap.size := (by have := hb2.size; (try simp at this); omega); first | replace hbr := Below.trans hbr (hb2.mono hbr.size) | replace hbr := Below.trans (Below.alloc hbr hbr.size _) (hb2.mono (by simp; exact Nat.le_succ_of_le hbr.size)))
            go_ret
            exact ⟨ret_int (yearsI_year (by have := HM.out; omega) HX.out HB.out).symm, hbr⟩
        · go_wp2
          go_ret
          exact ⟨ret_int (yearsI_fine (by have := HM.out; omega) HP.out (by
            have := HA.out
            rwa [List.take_of_length_le (by have := HM.out; omega)] at this)).symm, hbr⟩
    · have HP := Lib.hid (p := placeB ls lo hi = false) (by simpa using hp); clear hp
      go_enter Tryd.func52, Tryd.ntmps52
      go_wp2_with (go_at_call 18; refine (Check_no A n c ls lo hi _ HL.out HN.out (by exact hL.alloc _) HP.out).mono ?_; rintro e w1 ⟨rfl, hb1⟩; obtain ⟨hc1, hf1⟩ := bcell hb1)
      go_ret
      exact ⟨ret_int (yearsI_place (by have := HM.out; omega) HP.out).symm, ((Below.refl _ _).alloc (Nat.le_refl _) _).trans (hb1.mono (by simp))⟩
  · have h13 : 12 < m := by omega
    clear h12
    go_enter Tryd.func52, Tryd.ntmps52
    go_wp2_with fail
    go_ret
    exact ⟨ret_int (yearsI_long (by have := HM.out; omega)).symm, (Below.refl _ _).alloc (Nat.le_refl _) _⟩
end Go.Proofs.YtccekbdhffccdaaDoor
