/- Contracts of the checks of places and years. -/
import Derived.Test.YtccekbdhffccdaaDoorB
namespace Go.Proofs.YtccekbdhffccdaaDoor
open Go.RowKit

set_option maxHeartbeats 1000000 in
theorem Check_any (A : Option Addr) (n c : Nat) (ls : List Lay) (lo hi : Int) (w : World) (hl : ls.length = n) (hn : n ≤ maxLen) (hL : LaysAt w w.heap.size A ls) :
    Calls Tryd.prog 18 #[.agg #[.slice A n c, .int .i64 lo, .int .i64 hi]] w fun e w' => e = .returned (.int .i64 (checkI ls lo hi)) ∧ Below w.heap.size w w' := by
  unfold maxLen at hn
  have HL := Lib.hid hl; clear hl
  by_cases h12 : 1 ≤ n ∧ n ≤ 6
  · obtain ⟨h1, h2⟩ := h12
    by_cases h3 : withinB lo hi 0 1000000 = true
    · have H3 := Lib.hid h3
      obtain ⟨b, o, rfl, hb, hcs⟩ := hL (by intro h; rw [h] at HL; have := HL.out; simp at this; omega)
      have HC := Lib.hid hcs; clear hcs
      go_enter Tryd.func18, Tryd.ntmps18
      go_wp2_with (go_at_call 51; refine (within_any _ _ _ _ _).mono ?_; rintro e w1 ⟨rfl, hb1⟩; obtain ⟨hc1, hf1⟩ := bcell hb1)
      have hB0 : Below w.heap.size w w1 := ((Below.refl _ _).alloc (Nat.le_refl _) _).trans (hb1.mono (by simp))
      clear hc1 hf1 hb1
      go_loopw [24] (fun i wr => ∃ k : Nat, k ≤ n ∧ i = .int .i64 k ∧ (ls.take k).all layB = true ∧ Below w.heap.size w wr) (fun i _ => n - (intOf i).toNat)
      case atStart => exact ⟨0, Nat.zero_le _, rfl, by simp, hB0⟩
      case round =>
        obtain ⟨k, hk, rfl, hall, hbr⟩ := hrel
        have HA := Lib.hid hall; clear hall
        have hz := hbr.size
        by_cases hlt : k < n
        · obtain ⟨x, hx⟩ := get_of_lt (l := ls) (k := k) (by rw [HL.out]; exact hlt)
          obtain ⟨c0, c1, c2⟩ := HC.out k x hx
          replace c0 := ((bcell hbr).1 _ _ hb).trans c0
          replace c1 := ((bcell hbr).1 _ _ hb).trans c1
          replace c2 := ((bcell hbr).1 _ _ hb).trans c2
          have HX := Lib.hid hx; clear hx
          by_cases g1 : 1 ≤ x.t <;> by_cases g2 : x.t ≤ 20000 <;> by_cases g3 : withinB x.lo x.hi 1 1000 = true
          all_goals try (exfalso; omega)
          · go_wp2_with (go_at_call 51; refine (within_any _ _ _ _ _).mono ?_; rintro e w2 ⟨rfl, hb2⟩; obtain ⟨hc2, hf2⟩ := bcell hb2)
            go_roundw
            case rel => exact ⟨k + 1, by omega, by go_num, take_succ_all HX.out HA.out (by simp [layB, inB, g1, g2, g3]), hbr.trans (((Below.refl _ _).alloc (Nat.le_refl _) _).trans (hb2.mono (by simp)) |>.mono hz)⟩
            case measure => simp [intOf]; omega
          all_goals
            first
              | have hbad : layB x = false := by simp [layB, inB, g1]
              | have hbad : layB x = false := by simp [layB, inB, g2]
              | have hbad : layB x = false := by simp [layB, g3]
            have HB := Lib.hid hbad; clear hbad
            go_wp2_with (go_at_call 51; refine (within_any _ _ _ _ _).mono ?_; rintro e w2 ⟨rfl, hb2⟩; obtain ⟨hc2, hf2⟩ := bcell hb2)
            go_ret
            first
              | exact ⟨ret_int (checkI_lay HX.out HB.out).symm, hbr.alloc hz _⟩
              | exact ⟨ret_int (checkI_lay HX.out HB.out).symm, hbr.trans (((Below.refl _ _).alloc (Nat.le_refl _) _).trans (hb2.mono (by simp)) |>.mono hz)⟩
        · go_wp2
          go_ret
          exact ⟨ret_int (checkI_fine (by have := HL.out; omega) (by have := HL.out; omega) H3.out (by
            have := HA.out
            rwa [List.take_of_length_le (by have := HL.out; omega)] at this)).symm, hbr⟩
    · have H3 : Hid (withinB lo hi 0 1000000 = false) := Lib.hid (by simpa using h3)
      go_enter Tryd.func18, Tryd.ntmps18
      go_wp2_with (go_at_call 51; refine (within_any _ _ _ _ _).mono ?_; rintro e w1 ⟨rfl, hb1⟩; obtain ⟨hc1, hf1⟩ := bcell hb1)
      go_ret
      exact ⟨ret_int (checkI_warm H3.out).symm, ((Below.refl _ _).alloc (Nat.le_refl _) _).trans (hb1.mono (by simp))⟩
  · by_cases h1 : 1 ≤ n
    · have h2 : 6 < n := by omega
      clear h12
      go_enter Tryd.func18, Tryd.ntmps18
      go_wp2_with fail
      go_ret
      exact ⟨ret_int (checkI_len (by have := HL.out; omega)).symm, ((Below.refl _ _).alloc (Nat.le_refl _) _)⟩
    · have h2 : n ≤ 6 := by omega
      clear h12
      go_enter Tryd.func18, Tryd.ntmps18
      go_wp2_with fail
      go_ret
      exact ⟨ret_int (checkI_len (by have := HL.out; omega)).symm, ((Below.refl _ _).alloc (Nat.le_refl _) _)⟩
end Go.Proofs.YtccekbdhffccdaaDoor
