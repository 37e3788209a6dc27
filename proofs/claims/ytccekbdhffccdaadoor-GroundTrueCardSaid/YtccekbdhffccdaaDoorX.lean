/- Exceeds, for every place, years and depth. -/
import Derived.Test.YtccekbdhffccdaaDoorW
namespace Go.Proofs.YtccekbdhffccdaaDoor
open Go.RowKit Go.Shelf

theorem depthI_cases (ls : List Lay) (lo hi : Int) (ys : List Yr) (d : Int) : depthI ls lo hi ys d = 0 ∨ depthI ls lo hi ys d = 2 ∨ depthI ls lo hi ys d = 3 := by
  unfold depthI
  rcases yearsI_cases ls lo hi ys with h | h | h <;> rw [h]
  · rw [if_pos rfl]
    split
    · exact .inl rfl
    · exact .inr (.inl rfl)
  · exact .inr (.inl rfl)
  · exact .inr (.inr rfl)
theorem yearsI_zero {ls : List Lay} {lo hi : Int} {ys : List Yr} (h : yearsI ls lo hi ys = 0) : ys.length ≤ 12 ∧ placeB ls lo hi = true ∧ ys.all yrB = true := by
  unfold yearsI at h
  split at h
  · cases h
  · split at h
    · rename_i h1 h2
      rw [Bool.and_eq_true] at h2
      exact ⟨by omega, h2.1, h2.2⟩
    · cases h
theorem depthI_zero {ls : List Lay} {lo hi : Int} {ys : List Yr} {d : Int} (h : depthI ls lo hi ys d = 0) : yearsI ls lo hi ys = 0 ∧ 0 ≤ d ∧ d ≤ 2000000 := by
  unfold depthI at h
  split at h
  · split at h
    · rename_i h1 h2; exact ⟨h1, h2⟩
    · cases h
  · rename_i h1; exact absurd h h1
theorem checkDepth_is (r : Int) (A A2 : Option Addr) (n c m c' : Nat) (ls : List Lay) (ys : List Yr) (lo hi d : Int) (w : World) (hl : ls.length = n) (hn : n ≤ maxLen) (hL : LaysAt w w.heap.size A ls)
    (hm : ys.length = m) (hm2 : m ≤ maxLen) (hY : YrsAt w w.heap.size A2 ys) (hr : depthI ls lo hi ys d = r) :
    Calls Tryd.prog 65 #[.agg #[.slice A n c, .int .i64 lo, .int .i64 hi], .slice A2 m c', .int .i64 d] w fun e w' => e = .returned (.int .i64 r) ∧ Below w.heap.size w w' := by
  have h := checkDepth_any A A2 n c m c' ls ys lo hi d w hl hn hL hm hm2 hY
  rwa [hr] at h

def excI (warm : Bool) (ls : List Lay) (lo hi : Int) (ys : List Yr) (d mo : Int) : Int := (firstI d (runS ls (extT warm ls lo hi ys) mo ys.length).th : Nat)

set_option maxRecDepth 100000 in
set_option maxHeartbeats 1000000 in
theorem exceeds_any (A A2 : Option Addr) (n c m c' : Nat) (ls : List Lay) (ys : List Yr) (lo hi d : Int) (w : World) (hl : ls.length = n) (hn : n ≤ maxLen) (hcap : n ≤ c) (hL : LaysAt w w.heap.size A ls)
    (hm : ys.length = m) (hm2 : m ≤ maxLen) (hY : YrsAt w w.heap.size A2 ys) :
    Calls Tryd.prog 34 #[.agg #[.slice A n c, .int .i64 lo, .int .i64 hi], .slice A2 m c', .int .i64 d] w fun e w' =>
      e = .returned (.tuple #[.int .i64 (if depthI ls lo hi ys d = 0 then excI true ls lo hi ys d 0 else 0), .int .i64 (if depthI ls lo hi ys d = 0 then excI false ls lo hi ys d 0 else 0), .int .i64 (depthI ls lo hi ys d)]) ∧ Below w.heap.size w w' := by
  have HL := Lib.hid hl; clear hl
  have HM := Lib.hid hm; clear hm
  have HN := Lib.hid hn; clear hn
  have HN2 := Lib.hid hm2; clear hm2
  have hB : Below w.heap.size w (((w.alloc (.cells #[.slice A n c, .int .i64 lo, .int .i64 hi] 26)).alloc (.cells #[.slice A2 m c'] 27)).alloc (.cells #[.int .i64 d] 3)) :=
    (((Below.refl _ _).alloc (Nat.le_refl _) _).alloc (by simp) _).alloc (by simp; omega) _
  have z0 := heap_alloc_new w (.cells #[.slice A n c, .int .i64 lo, .int .i64 hi] 26)
  have z1 := heap_alloc_new (w.alloc (.cells #[.slice A n c, .int .i64 lo, .int .i64 hi] 26)) (.cells #[.slice A2 m c'] 27)
  have z2 := heap_alloc_new ((w.alloc (.cells #[.slice A n c, .int .i64 lo, .int .i64 hi] 26)).alloc (.cells #[.slice A2 m c'] 27)) (.cells #[.int .i64 d] 3)
  simp only [World.size_alloc] at z1 z2
  have y0 := (Below.heap_alloc _ (.cells #[.int .i64 d] 3) _ (by simp; omega)).trans ((Below.heap_alloc _ (.cells #[.slice A2 m c'] 27) _ (by simp)).trans z0)
  have y1 := (Below.heap_alloc _ (.cells #[.int .i64 d] 3) _ (by simp)).trans z1
  have HB := Lib.hid hB
  have Y0 := Lib.hid y0
  have Y1 := Lib.hid y1
  have Y2 := Lib.hid z2
  clear hB z0 z1 z2 y0 y1
  rcases depthI_cases ls lo hi ys d with hr | hr | hr
  · obtain ⟨h1, h2, h3⟩ := depthI_zero hr
    obtain ⟨g1, g2, g3⟩ := yearsI_zero h1
    have hm12 : m ≤ 12 := by rw [HM.out] at g1; exact g1
    have HR := Lib.hid hr; have GP := Lib.hid g2; have GY := Lib.hid g3
    rw [HR.out, if_pos rfl, if_pos rfl]
    clear hr h1 g1 g2 g3
    go_enter Tryd.func34, Tryd.ntmps34
    go_wp2_with fail
    refine (checkDepth_is 0 A A2 n c m c' ls ys lo hi d _ HL.out HN.out (hL.next HB.out) HM.out HN2.out (hY.next HB.out) HR.out).mono ?_
    rintro e w2 ⟨rfl, hb⟩
    have B2 := Lib.hid (HB.out.trans (hb.mono HB.out.size))
    have X0 := Lib.hid ((hb.block _ (Array.getElem?_eq_some_iff.1 Y0.out).1).trans Y0.out)
    have X1 := Lib.hid ((hb.block _ (Array.getElem?_eq_some_iff.1 Y1.out).1).trans Y1.out)
    have X2 := Lib.hid ((hb.block _ (Array.getElem?_eq_some_iff.1 Y2.out).1).trans Y2.out)
    clear hb
    go_wp2_with fail
    refine (both_int w.heap.size (w.heap.size + 1) (w.heap.size + 1 + 1) A A2 n c m c' ls ys lo hi d w2 HL.out hcap (hL.next B2.out) HM.out hm12 (hY.next B2.out) GP.out GY.out (Array.getElem?_eq_some_iff.1 X0.out).1 (Array.getElem?_eq_some_iff.1 X1.out).1 (Array.getElem?_eq_some_iff.1 X2.out).1
      (cell_of_row _ _ 0 _ 26 (0, 0) X0.out) (cell_of_row _ _ 1 _ 26 (0, 0) X0.out) (cell_of_row _ _ 2 _ 26 (0, 0) X0.out) (cell_of_row _ _ 0 _ 27 (0, 0) X1.out) (cell_of_row _ _ 0 _ 3 (0, 0) X2.out)).mono ?_
    rintro e w3 ⟨rfl, hb⟩
    have B3 := Lib.hid (B2.out.trans (hb.mono B2.out.size))
    clear hb
    go_wp2_with fail
    go_ret3
    exact ⟨by simp [excI, HM.out], B3.out⟩
  all_goals
    have HR := Lib.hid hr
    rw [HR.out, if_neg (by decide), if_neg (by decide)]
    clear hr
    go_enter Tryd.func34, Tryd.ntmps34
    go_wp2_with fail
    refine (checkDepth_is _ A A2 n c m c' ls ys lo hi d _ HL.out HN.out (hL.next HB.out) HM.out HN2.out (hY.next HB.out) HR.out).mono ?_
    rintro e w2 ⟨rfl, hb⟩
    have B2 := Lib.hid (HB.out.trans (hb.mono HB.out.size))
    clear hb
    go_wp2_with fail
    go_ret3
    exact ⟨rfl, B2.out⟩
end Go.Proofs.YtccekbdhffccdaaDoor
