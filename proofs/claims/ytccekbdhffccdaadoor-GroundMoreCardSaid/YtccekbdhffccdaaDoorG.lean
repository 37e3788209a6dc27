/- Contracts of the checks of places and years. Contracts of the checks of years and of depths. Contracts of the check of depths, of the spans of a truth, and of the specification's checks. Contracts of the checks of a truth: one number for each thing, of the thing's span. -/
import Derived.Test.YtccekbdhffccdaaDoorB
namespace Go.Proofs.YtccekbdhffccdaaDoor
open Go.RowKit

set_option maxHeartbeats 1000000 in
theorem Check_any (A : Option Addr) (n c : Nat) (ls : List Lay) (lo hi : Int) (w : World) (hl : ls.length = n) (hn : n ≤ maxLen) (hL : LaysAt w w.heap.size A ls) :
    Calls Tryd.prog 18 #[.agg #[.slice A n c, .int .i64 lo, .int .i64 hi]] w fun e w' => e = .returned (.int .i64 (checkI ls lo hi)) ∧ Below w.heap.size w w' := by
  unfold maxLen at hn
  have HL := Lib.hid hl; clear hl
  by_cases h12 : 1 ≤ n ∧ n ≤ 6
  · obtain ⟨h1, h2⟩ := h12
    by_cases h3 : withinB lo hi 0 1000000 = true
    · have H3 := Lib.hid h3
      obtain ⟨b, o, rfl, hb, hcs⟩ := hL (by intro h; rw [h] at HL; have := HL.out; simp at this; omega)
      have HC := Lib.hid hcs; clear hcs
      go_enter Tryd.func18, Tryd.ntmps18
      go_wp2_with (go_at_call 51; refine (within_any _ _ _ _ _).mono ?_; rintro e w1 ⟨rfl, hb1⟩; obtain ⟨hc1, hf1⟩ := bcell hb1)
      have hB0 : Below w.heap.size w w1 := ((Below.refl _ _).alloc (Nat.le_refl _) _).trans (hb1.mono (by simp))
      clear hc1 hf1 hb1
      go_loopw [24] (fun i wr => ∃ k : Nat, k ≤ n ∧ i = .int .i64 k ∧ (ls.take k).all layB = true ∧ Below w.heap.size w wr) (fun i _ => n - (intOf i).toNat)
      case atStart => exact ⟨0, Nat.zero_le _, rfl, by simp, hB0⟩
      case round =>
        obtain ⟨k, hk, rfl, hall, hbr⟩ := hrel
        have HA := Lib.hid hall; clear hall
        have hz := hbr.size
        by_cases hlt : k < n
        · obtain ⟨x, hx⟩ := get_of_lt (l := ls) (k := k) (by rw [HL.out]; exact hlt)
          obtain ⟨c0, c1, c2⟩ := HC.out k x hx
          replace c0 := ((bcell hbr).1 _ _ hb).trans c0
          replace c1 := ((bcell hbr).1 _ _ hb).trans c1
          replace c2 := ((bcell hbr).1 _ _ hb).trans c2
          have HX := Lib.hid hx; clear hx
          by_cases g1 : 1 ≤ x.t <;> by_cases g2 : x.t ≤ 20000 <;> by_cases g3 : withinB x.lo x.hi 1 1000 = true
          all_goals try (exfalso; omega)
          · go_wp2_with (go_at_call 51; refine (within_any _ _ _ _ _).mono ?_; rintro e w2 ⟨rfl, hb2⟩; obtain ⟨hc2, hf2⟩ := bcell hb2)
            go_roundw
            case rel => exact ⟨k + 1, by omega, by go_num, take_succ_all HX.out HA.out (by simp [layB, inB, g1, g2, g3]), hbr.trans (((Below.refl _ _).alloc (Nat.le_refl _) _).trans (hb2.mono (by simp)) |>.mono hz)⟩
            case measure => simp [intOf]; omega
          all_goals
            first
              | have hbad : layB x = false := by simp [layB, inB, g1]
              | have hbad : layB x = false := by simp [layB, inB, g2]
              | have hbad : layB x = false := by simp [layB, g3]
            have HB := Lib.hid hbad; clear hbad
            go_wp2_with (go_at_call 51; refine (within_any _ _ _ _ _).mono ?_; rintro e w2 ⟨rfl, hb2⟩; obtain ⟨hc2, hf2⟩ := bcell hb2)
            go_ret
            first
              | exact ⟨ret_int (checkI_lay HX.out HB.out).symm, hbr.alloc hz _⟩
              | exact ⟨ret_int (checkI_lay HX.out HB.out).symm, hbr.trans (((Below.refl _ _).alloc (Nat.le_refl _) _).trans (hb2.mono (by simp)) |>.mono hz)⟩
        · go_wp2
          go_ret
          exact ⟨ret_int (checkI_fine (by have := HL.out; omega) (by have := HL.out; omega) H3.out (by
            have := HA.out
            rwa [List.take_of_length_le (by have := HL.out; omega)] at this)).symm, hbr⟩
    · have H3 : Hid (withinB lo hi 0 1000000 = false) := Lib.hid (by simpa using h3)
      go_enter Tryd.func18, Tryd.ntmps18
      go_wp2_with (go_at_call 51; refine (within_any _ _ _ _ _).mono ?_; rintro e w1 ⟨rfl, hb1⟩; obtain ⟨hc1, hf1⟩ := bcell hb1)
      go_ret
      exact ⟨ret_int (checkI_warm H3.out).symm, ((Below.refl _ _).alloc (Nat.le_refl _) _).trans (hb1.mono (by simp))⟩
  · by_cases h1 : 1 ≤ n
    · have h2 : 6 < n := by omega
      clear h12
      go_enter Tryd.func18, Tryd.ntmps18
      go_wp2_with fail
      go_ret
      exact ⟨ret_int (checkI_len (by have := HL.out; omega)).symm, ((Below.refl _ _).alloc (Nat.le_refl _) _)⟩
    · have h2 : n ≤ 6 := by omega
      clear h12
      go_enter Tryd.func18, Tryd.ntmps18
      go_wp2_with fail
      go_ret
      exact ⟨ret_int (checkI_len (by have := HL.out; omega)).symm, ((Below.refl _ _).alloc (Nat.le_refl _) _)⟩
end Go.Proofs.YtccekbdhffccdaaDoor

namespace Go.Proofs.YtccekbdhffccdaaDoor
open Go.RowKit

theorem Check_yes (A : Option Addr) (n c : Nat) (ls : List Lay) (lo hi : Int) (w : World) (hl : ls.length = n) (hn : n ≤ maxLen) (hL : LaysAt w w.heap.size A ls) (hp : placeB ls lo hi = true) :
    Calls Tryd.prog 18 #[.agg #[.slice A n c, .int .i64 lo, .int .i64 hi]] w fun e w' => e = .returned (.int .i64 0) ∧ Below w.heap.size w w' := by
  have h := Check_any A n c ls lo hi w hl hn hL
  rwa [show checkI ls lo hi = 0 from by simp [checkI, hp]] at h
theorem Check_no (A : Option Addr) (n c : Nat) (ls : List Lay) (lo hi : Int) (w : World) (hl : ls.length = n) (hn : n ≤ maxLen) (hL : LaysAt w w.heap.size A ls) (hp : placeB ls lo hi = false) :
    Calls Tryd.prog 18 #[.agg #[.slice A n c, .int .i64 lo, .int .i64 hi]] w fun e w' => e = .returned (.int .i64 2) ∧ Below w.heap.size w w' := by
  have h := Check_any A n c ls lo hi w hl hn hL
  rwa [show checkI ls lo hi = 2 from by simp [checkI, hp]] at h

set_option maxHeartbeats 2000000 in
theorem checkYears_any (A A2 : Option Addr) (n c m c' : Nat) (ls : List Lay) (ys : List Yr) (lo hi : Int) (w : World) (hl : ls.length = n) (hn : n ≤ maxLen) (hL : LaysAt w w.heap.size A ls)
    (hm : ys.length = m) (hm2 : m ≤ maxLen) (hY : YrsAt w w.heap.size A2 ys) :
    Calls Tryd.prog 52 #[.agg #[.slice A n c, .int .i64 lo, .int .i64 hi], .slice A2 m c'] w fun e w' => e = .returned (.int .i64 (yearsI ls lo hi ys)) ∧ Below w.heap.size w w' := by
  have HL := Lib.hid hl; clear hl
  have HM := Lib.hid hm; clear hm
  have HN := Lib.hid hn; clear hn
  unfold maxLen at hm2
  by_cases h12 : m ≤ 12
  · by_cases hp : placeB ls lo hi = true
    · have HP := Lib.hid hp; clear hp
      go_enter Tryd.func52, Tryd.ntmps52
      go_wp2_with (go_at_call 18; refine (Check_yes A n c ls lo hi _ HL.out HN.out (by exact hL.alloc _) HP.out).mono ?_; rintro e w1 ⟨rfl, hb1⟩; obtain ⟨hc1, hf1⟩ := bcell hb1)
      have hB0 : Below w.heap.size w w1 := ((Below.refl _ _).alloc (Nat.le_refl _) _).trans (hb1.mono (by simp))
      clear hc1 hf1 hb1
      go_loopw [15] (fun i wr => ∃ k : Nat, k ≤ m ∧ i = .int .i64 k ∧ (ys.take k).all yrB = true ∧ Below w.heap.size w wr) (fun i _ => m - (intOf i).toNat)
      case atStart => exact ⟨0, Nat.zero_le _, rfl, by simp, hB0⟩
      case round =>
        obtain ⟨k, hk, rfl, hall, hbr⟩ := hrel
        have HA := Lib.hid hall; clear hall
        have hz := hbr.size
        by_cases hlt : k < m
        · obtain ⟨x, hx⟩ := get_of_lt (l := ys) (k := k) (by rw [HM.out]; exact hlt)
          obtain ⟨b, o, rfl, hb, hcs⟩ := hY (by intro h; rw [h] at hx; simp at hx)
          obtain ⟨c0, c1, c2, c3, c4, c5⟩ := hcs k x hx
          replace c0 := ((bcell hbr).1 _ _ hb).trans c0
          replace c1 := ((bcell hbr).1 _ _ hb).trans c1
          replace c2 := ((bcell hbr).1 _ _ hb).trans c2
          replace c3 := ((bcell hbr).1 _ _ hb).trans c3
          replace c4 := ((bcell hbr).1 _ _ hb).trans c4
          replace c5 := ((bcell hbr).1 _ _ hb).trans c5
          clear hcs
          have HX := Lib.hid hx; clear hx
          by_cases g1 : withinB x.sl x.sh 0 1000000 = true
          · by_cases g2 : withinB x.wl x.wh 0 1000000 = true
            · by_cases g3 : withinB x.nl x.nh 0 1000 = true
              · go_wp2_with (go_at_call 51; refine (within_any _ _ _ _ _).mono ?_; rintro e w2 ⟨rfl, hb2⟩; obtain ⟨hc2, hf2⟩ := bcell hb2; have hz2 : wr.heap.size < w2.heap.size := (by have := hb2.size; (try simp at this); omega); first | replace hbr := Below.trans hbr (hb2.mono hbr.size) | replace hbr := Below.trans (Below.alloc hbr hbr.size _) (hb2.mono (by simp; exact Nat.le_succ_of_le hbr.size)))
                go_roundw
                case rel => exact ⟨k + 1, by omega, by go_num, take_succ_all HX.out HA.out (by simp [yrB, g1, g2, g3]), hbr⟩
                case measure => simp [intOf]; omega
              · have HB : Hid (yrB x = false) := Lib.hid (by simp [yrB, g3])
                go_wp2_with (go_at_call 51; refine (within_any _ _ _ _ _).mono ?_; rintro e w2 ⟨rfl, hb2⟩; obtain ⟨hc2, hf2⟩ := bcell hb2; have hz2 : wr.heap.size < w2.heap.size := (by have := hb2.size; (try simp at this); omega); first | replace hbr := Below.trans hbr (hb2.mono hbr.size) | replace hbr := Below.trans (Below.alloc hbr hbr.size _) (hb2.mono (by simp; exact Nat.le_succ_of_le hbr.size)))
                go_ret
                exact ⟨ret_int (yearsI_year (by have := HM.out; omega) HX.out HB.out).symm, hbr⟩
            · have HB : Hid (yrB x = false) := Lib.hid (by simp [yrB, g2])
              go_wp2_with (go_at_call 51; refine (within_any _ _ _ _ _).mono ?_; rintro e w2 ⟨rfl, hb2⟩; obtain ⟨hc2, hf2⟩ := bcell hb2; have hz2 : wr.heap.size < w2.heap.size := (by have := hb2.size; (try simp at this); omega); first | replace hbr := Below.trans hbr (hb2.mono hbr.size) | replace hbr := Below.trans (Below.alloc hbr hbr.size _) (hb2.mono (by simp; exact Nat.le_succ_of_le hbr.size)))
              go_ret
              exact ⟨ret_int (yearsI_year (by have := HM.out; omega) HX.out HB.out).symm, hbr⟩
          · have HB : Hid (yrB x = false) := Lib.hid (by simp [yrB, g1])
            go_wp2_with (go_at_call 51; refine (within_any _ _ _ _ _).mono ?_; rintro e w2 ⟨rfl, hb2⟩; obtain ⟨hc2, hf2⟩ := bcell hb2; have hz2 : wr.heap.size < w2.heap.size := (by have := hb2.size; (try simp at this); omega); first | replace hbr := Below.trans hbr (hb2.mono hbr.size) | replace hbr := Below.trans (Below.alloc hbr hbr.size _) (hb2.mono (by simp; exact Nat.le_succ_of_le hbr.size)))
            go_ret
            exact ⟨ret_int (yearsI_year (by have := HM.out; omega) HX.out HB.out).symm, hbr⟩
        · go_wp2
          go_ret
          exact ⟨ret_int (yearsI_fine (by have := HM.out; omega) HP.out (by
            have := HA.out
            rwa [List.take_of_length_le (by have := HM.out; omega)] at this)).symm, hbr⟩
    · have HP := Lib.hid (p := placeB ls lo hi = false) (by simpa using hp); clear hp
      go_enter Tryd.func52, Tryd.ntmps52
      go_wp2_with (go_at_call 18; refine (Check_no A n c ls lo hi _ HL.out HN.out (by exact hL.alloc _) HP.out).mono ?_; rintro e w1 ⟨rfl, hb1⟩; obtain ⟨hc1, hf1⟩ := bcell hb1)
      go_ret
      exact ⟨ret_int (yearsI_place (by have := HM.out; omega) HP.out).symm, ((Below.refl _ _).alloc (Nat.le_refl _) _).trans (hb1.mono (by simp))⟩
  · have h13 : 12 < m := by omega
    clear h12
    go_enter Tryd.func52, Tryd.ntmps52
    go_wp2_with fail
    go_ret
    exact ⟨ret_int (yearsI_long (by have := HM.out; omega)).symm, (Below.refl _ _).alloc (Nat.le_refl _) _⟩
end Go.Proofs.YtccekbdhffccdaaDoor

namespace Go.Proofs.YtccekbdhffccdaaDoor
open Go.RowKit

theorem yearsI_cases (ls : List Lay) (lo hi : Int) (ys : List Yr) : yearsI ls lo hi ys = 0 ∨ yearsI ls lo hi ys = 2 ∨ yearsI ls lo hi ys = 3 := by
  unfold yearsI
  split
  · exact .inr (.inr rfl)
  · split
    · exact .inl rfl
    · exact .inr (.inl rfl)

theorem checkYears_is (r : Int) (A A2 : Option Addr) (n c m c' : Nat) (ls : List Lay) (ys : List Yr) (lo hi : Int) (w : World) (hl : ls.length = n) (hn : n ≤ maxLen) (hL : LaysAt w w.heap.size A ls)
    (hm : ys.length = m) (hm2 : m ≤ maxLen) (hY : YrsAt w w.heap.size A2 ys) (hr : yearsI ls lo hi ys = r) :
    Calls Tryd.prog 52 #[.agg #[.slice A n c, .int .i64 lo, .int .i64 hi], .slice A2 m c'] w fun e w' => e = .returned (.int .i64 r) ∧ Below w.heap.size w w' := by
  have h := checkYears_any A A2 n c m c' ls ys lo hi w hl hn hL hm hm2 hY
  rwa [hr] at h

set_option maxHeartbeats 1000000 in
theorem checkDepth_any (A A2 : Option Addr) (n c m c' : Nat) (ls : List Lay) (ys : List Yr) (lo hi d : Int) (w : World) (hl : ls.length = n) (hn : n ≤ maxLen) (hL : LaysAt w w.heap.size A ls)
    (hm : ys.length = m) (hm2 : m ≤ maxLen) (hY : YrsAt w w.heap.size A2 ys) :
    Calls Tryd.prog 65 #[.agg #[.slice A n c, .int .i64 lo, .int .i64 hi], .slice A2 m c', .int .i64 d] w fun e w' => e = .returned (.int .i64 (depthI ls lo hi ys d)) ∧ Below w.heap.size w w' := by
  have HL := Lib.hid hl; clear hl
  have HM := Lib.hid hm; clear hm
  have HN := Lib.hid hn; clear hn
  have HN2 := Lib.hid hm2; clear hm2
  rcases yearsI_cases ls lo hi ys with hr | hr | hr
  · have HR := Lib.hid hr; clear hr
    by_cases d1 : 0 ≤ d <;> by_cases d2 : d ≤ 2000000
    all_goals try (exfalso; omega)
    all_goals
      go_enter Tryd.func65, Tryd.ntmps65
      go_wp2_with (go_at_call 52; refine (checkYears_is 0 A A2 n c m c' ls ys lo hi _ HL.out HN.out (by exact hL.alloc _) HM.out HN2.out (by exact hY.alloc _) HR.out).mono ?_; rintro e w1 ⟨rfl, hb1⟩; obtain ⟨hc1, hf1⟩ := bcell hb1)
      go_ret
      exact ⟨ret_int (by simp [depthI, HR.out, d1, d2]), ((Below.refl _ _).alloc (Nat.le_refl _) _).trans (hb1.mono (by simp))⟩
  all_goals
    have HR := Lib.hid hr; clear hr
    go_enter Tryd.func65, Tryd.ntmps65
    go_wp2_with (go_at_call 52; refine (checkYears_is _ A A2 n c m c' ls ys lo hi _ HL.out HN.out (by exact hL.alloc _) HM.out HN2.out (by exact hY.alloc _) HR.out).mono ?_; rintro e w1 ⟨rfl, hb1⟩; obtain ⟨hc1, hf1⟩ := bcell hb1)
    go_ret
    exact ⟨ret_int (by simp [depthI, HR.out]), ((Below.refl _ _).alloc (Nat.le_refl _) _).trans (hb1.mono (by simp))⟩

abbrev layV (l : Lay) : Value := .agg #[.int .i64 l.t, .int .i64 l.lo, .int .i64 l.hi]
abbrev yrV (y : Yr) : Value := .agg #[.int .i64 y.sl, .int .i64 y.sh, .int .i64 y.wl, .int .i64 y.wh, .int .i64 y.nl, .int .i64 y.nh]

set_option maxHeartbeats 400000 in
theorem p1_any (l : Lay) (w : World) :
    Calls Tryd.prog 89 #[layV l] w fun e w' => e = .returned (spanV l.lo l.hi) ∧ Below w.heap.size w w' := by
  go_enter Tryd.func89, Tryd.ntmps89
  go_wp2
  exact bodyPost_ret (v := spanV l.lo l.hi) (by simp [results, Tryd.results89, go_sem]) rfl ⟨rfl, ((Below.refl _ _).alloc (Nat.le_refl _) _).alloc (by simp) _⟩
set_option maxHeartbeats 400000 in
theorem p3_any (y : Yr) (w : World) :
    Calls Tryd.prog 92 #[yrV y] w fun e w' => e = .returned (spanV y.sl y.sh) ∧ Below w.heap.size w w' := by
  go_enter Tryd.func92, Tryd.ntmps92
  go_wp2
  exact bodyPost_ret (v := spanV y.sl y.sh) (by simp [results, Tryd.results92, go_sem]) rfl ⟨rfl, ((Below.refl _ _).alloc (Nat.le_refl _) _).alloc (by simp) _⟩
set_option maxHeartbeats 400000 in
theorem p4_any (y : Yr) (w : World) :
    Calls Tryd.prog 93 #[yrV y] w fun e w' => e = .returned (spanV y.wl y.wh) ∧ Below w.heap.size w w' := by
  go_enter Tryd.func93, Tryd.ntmps93
  go_wp2
  exact bodyPost_ret (v := spanV y.wl y.wh) (by simp [results, Tryd.results93, go_sem]) rfl ⟨rfl, ((Below.refl _ _).alloc (Nat.le_refl _) _).alloc (by simp) _⟩
set_option maxHeartbeats 400000 in
theorem p5_any (y : Yr) (w : World) :
    Calls Tryd.prog 94 #[yrV y] w fun e w' => e = .returned (spanV y.nl y.nh) ∧ Below w.heap.size w w' := by
  go_enter Tryd.func94, Tryd.ntmps94
  go_wp2
  exact bodyPost_ret (v := spanV y.nl y.nh) (by simp [results, Tryd.results94, go_sem]) rfl ⟨rfl, ((Below.refl _ _).alloc (Nat.le_refl _) _).alloc (by simp) _⟩
set_option maxHeartbeats 400000 in
theorem p2_any (y : Yr) (lo hi : Int) (g : Nat) (w : World) (hg : g < w.heap.size) (c1 : w.cell? ⟨g, 1, none⟩ = some (.int .i64 lo)) (c2 : w.cell? ⟨g, 2, none⟩ = some (.int .i64 hi)) :
    Calls Tryd.prog 91 #[yrV y, .pointer (some ⟨g, 0, none⟩)] w fun e w' => e = .returned (spanV lo hi) ∧ Below w.heap.size w w' := by
  have hg1 : g < w.heap.size + 1 := by omega
  go_enter Tryd.func91, Tryd.ntmps91
  go_wp2
  exact bodyPost_ret (v := spanV lo hi) (by simp [results, Tryd.results91, go_sem]) rfl ⟨rfl, ((Below.refl _ _).alloc (Nat.le_refl _) _).alloc (by simp) _⟩
end Go.Proofs.YtccekbdhffccdaaDoor

namespace Go.Proofs.YtccekbdhffccdaaDoor
open Go.RowKit

def okB (p : Int × (Int × Int)) : Bool := inB p.1 p.2.1 p.2.2
def allB (xs : List Int) (ss : List (Int × Int)) : Bool := decide (xs.length = ss.length) && (xs.zip ss).all okB
theorem allB_len {xs : List Int} {ss : List (Int × Int)} (h : xs.length ≠ ss.length) : allB xs ss = false := by simp [allB, h]
theorem allB_bad {xs : List Int} {ss : List (Int × Int)} {k : Nat} {x : Int} {s : Int × Int} (hx : xs[k]? = some x) (hs : ss[k]? = some s) (h : okB (x, s) = false) : allB xs ss = false := by
  have : (xs.zip ss)[k]? = some (x, s) := by rw [List.getElem?_zip_eq_some]; exact ⟨hx, hs⟩
  simp [allB, all_of_get this h]
theorem allB_fine {xs : List Int} {ss : List (Int × Int)} (h : xs.length = ss.length) (ha : (xs.zip ss).all okB = true) : allB xs ss = true := by simp [allB, h, ha]
theorem zip_take_succ {xs : List Int} {ss : List (Int × Int)} {k : Nat} {x : Int} {s : Int × Int} (hx : xs[k]? = some x) (hs : ss[k]? = some s) (hk : ((xs.zip ss).take k).all okB = true) (h : okB (x, s) = true) : ((xs.zip ss).take (k + 1)).all okB = true :=
  take_succ_all (by rw [List.getElem?_zip_eq_some]; exact ⟨hx, hs⟩) hk h

theorem bel2 {w wr w2 : World} {o : Obj} (hbr : Below w.heap.size w wr) (hb3 : Below (wr.alloc o).heap.size (wr.alloc o) w2) : Below w.heap.size w w2 :=
  (hbr.alloc hbr.size o).trans (hb3.mono (by have := hbr.size; simp; omega))
theorem belN {w wr : World} (h : Below w.heap.size w wr) (n : Nat) : Below w.heap.size w (wr.drewN n) := ⟨h.os, h.tape, h.output, h.size, h.block⟩
def laySpans (ls : List Lay) : List (Int × Int) := ls.map fun l => (l.lo, l.hi)

set_option maxHeartbeats 1000000 in
theorem allOf88 (AN A : Option Addr) (m cm n c : Nat) (xs : List Int) (ls : List Lay) (w : World) (hx : xs.length = m) (hm : m ≤ maxLen) (hX : IntsAt w w.heap.size AN xs) (hl : ls.length = n) (hn : n ≤ maxLen) (hL : LaysAt w w.heap.size A ls) :
    Calls Tryd.prog 88 #[.slice AN m cm, .slice A n c, .func (.func 89) #[] #[]] w fun e w' => e = .returned (.bool (allB xs (laySpans ls))) ∧ Below w.heap.size w w' := by
  unfold maxLen at hm hn
  have HX := Lib.hid hx; clear hx
  have HL := Lib.hid hl; clear hl
  have hls : (laySpans ls).length = n := by simp [laySpans, HL.out]
  have HS := Lib.hid hls; clear hls
  by_cases hmn : m = n
  · subst hmn
    go_enter Tryd.func88, Tryd.ntmps88
    go_wp2_with fail
    go_loopw [17] (fun i wr => ∃ k : Nat, k ≤ m ∧ i = .int .i64 k ∧ ((xs.zip (laySpans ls)).take k).all okB = true ∧ Below w.heap.size w wr) (fun i _ => m - (intOf i).toNat)
    case atStart => exact ⟨0, Nat.zero_le _, rfl, by simp, Below.refl _ _⟩
    case round =>
      obtain ⟨k, hk, rfl, hall, hbr⟩ := hrel
      have HA := Lib.hid hall; clear hall
      have hz := hbr.size
      by_cases hlt : k < m
      · obtain ⟨x, hx⟩ := get_of_lt (l := xs) (k := k) (by rw [HX.out]; exact hlt)
        obtain ⟨l, hl⟩ := get_of_lt (l := ls) (k := k) (by rw [HL.out]; exact hlt)
        obtain ⟨b1, o1, rfl, hb1, hcs1⟩ := hX (by intro h; rw [h] at hx; simp at hx)
        obtain ⟨b2, o2, rfl, hb2, hcs2⟩ := hL (by intro h; rw [h] at hl; simp at hl)
        have d0 := ((bcell hbr).1 _ _ hb1).trans (hcs1 k x hx)
        obtain ⟨c0, c1, c2⟩ := hcs2 k l hl
        replace c0 := ((bcell hbr).1 _ _ hb2).trans c0
        replace c1 := ((bcell hbr).1 _ _ hb2).trans c1
        replace c2 := ((bcell hbr).1 _ _ hb2).trans c2
        have hls : (laySpans ls)[k]? = some (l.lo, l.hi) := by simp [laySpans, hl]
        have HK := Lib.hid hx
        have HKS := Lib.hid hls
        clear hx hl hls hcs1 hcs2
        have hbw : b1 < wr.heap.size := by omega
        by_cases g : okB (x, (l.lo, l.hi)) = true
        · have G := Lib.hid g
          simp only [okB, inB, decide_eq_true_eq] at g
          obtain ⟨g1, g2⟩ := g
          go_wp2_with (go_at_call 89; refine (p1_any _ _).mono ?_; rintro e w2 ⟨rfl, hb3⟩; obtain ⟨hc3, hf3⟩ := bcell hb3; have hz3 : wr.heap.size < w2.heap.size := (by have := hb3.size; (try simp at this); omega); have hbw2 : b1 < w2.heap.size := (by omega))
          go_quiet (fail)
          go_wp2
          go_roundw
          case rel => exact ⟨k + 1, by omega, by go_num, zip_take_succ HK.out HKS.out HA.out G.out, belN ((bel2 hbr hb3).alloc (bel2 hbr hb3).size _) _⟩
          case measure => simp [intOf]; omega
        · have G : Hid (okB (x, (l.lo, l.hi)) = false) := Lib.hid (by simpa using g)
          have g' : ¬ (l.lo ≤ x ∧ x ≤ l.hi) := by simpa [okB, inB] using g
          clear g
          by_cases g1 : x < l.lo
          · clear g'
            go_wp2_with (go_at_call 89; refine (p1_any _ _).mono ?_; rintro e w2 ⟨rfl, hb3⟩; obtain ⟨hc3, hf3⟩ := bcell hb3; have hz3 : wr.heap.size < w2.heap.size := (by have := hb3.size; (try simp at this); omega); have hbw2 : b1 < w2.heap.size := (by omega))
            go_quiet (fail)
            go_wp2
            go_ret
            exact ⟨ret_bool (allB_bad HK.out HKS.out G.out).symm, belN ((bel2 hbr hb3).alloc (bel2 hbr hb3).size _) _⟩
          · have g2 : l.hi < x := by omega
            have g3 : l.lo ≤ x := by omega
            clear g' g1
            go_wp2_with (go_at_call 89; refine (p1_any _ _).mono ?_; rintro e w2 ⟨rfl, hb3⟩; obtain ⟨hc3, hf3⟩ := bcell hb3; have hz3 : wr.heap.size < w2.heap.size := (by have := hb3.size; (try simp at this); omega); have hbw2 : b1 < w2.heap.size := (by omega))
            go_quiet (fail)
            go_wp2
            go_ret
            exact ⟨ret_bool (allB_bad HK.out HKS.out G.out).symm, belN ((bel2 hbr hb3).alloc (bel2 hbr hb3).size _) _⟩
      · go_wp2
        go_ret
        exact ⟨ret_bool (allB_fine (by rw [HX.out, HS.out]) (by
          have := HA.out
          rwa [List.take_of_length_le (by simp [HX.out, HS.out]; omega)] at this)).symm, hbr⟩
  · have hne : ((m : Int) != n) = true := by rw [bne_iff_ne]; omega
    go_enter Tryd.func88, Tryd.ntmps88
    go_wp2
    go_ret
    exact ⟨ret_bool (allB_len (by rw [HX.out, HS.out]; exact hmn)).symm, Below.refl _ _⟩
end Go.Proofs.YtccekbdhffccdaaDoor
