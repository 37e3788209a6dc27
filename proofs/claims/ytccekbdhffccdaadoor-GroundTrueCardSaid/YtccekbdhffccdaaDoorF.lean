/- Contracts of the check of depths, of the spans of a truth, and of the specification's checks. -/
import Derived.Test.YtccekbdhffccdaaDoorD
namespace Go.Proofs.YtccekbdhffccdaaDoor
open Go.RowKit

theorem yearsI_cases (ls : List Lay) (lo hi : Int) (ys : List Yr) : yearsI ls lo hi ys = 0 ∨ yearsI ls lo hi ys = 2 ∨ yearsI ls lo hi ys = 3 := by
  unfold yearsI
  split
  · exact .inr (.inr rfl)
  · split
    · exact .inl rfl
    · exact .inr (.inl rfl)

theorem checkYears_is (r : Int) (A A2 : Option Addr) (n c m c' : Nat) (ls : List Lay) (ys : List Yr) (lo hi : Int) (w : World) (hl : ls.length = n) (hn : n ≤ maxLen) (hL : LaysAt w w.heap.size A ls)
    (hm : ys.length = m) (hm2 : m ≤ maxLen) (hY : YrsAt w w.heap.size A2 ys) (hr : yearsI ls lo hi ys = r) :
    Calls Tryd.prog 52 #[.agg #[.slice A n c, .int .i64 lo, .int .i64 hi], .slice A2 m c'] w fun e w' => e = .returned (.int .i64 r) ∧ Below w.heap.size w w' := by
  have h := checkYears_any A A2 n c m c' ls ys lo hi w hl hn hL hm hm2 hY
  rwa [hr] at h

set_option maxHeartbeats 1000000 in
theorem checkDepth_any (A A2 : Option Addr) (n c m c' : Nat) (ls : List Lay) (ys : List Yr) (lo hi d : Int) (w : World) (hl : ls.length = n) (hn : n ≤ maxLen) (hL : LaysAt w w.heap.size A ls)
    (hm : ys.length = m) (hm2 : m ≤ maxLen) (hY : YrsAt w w.heap.size A2 ys) :
    Calls Tryd.prog 65 #[.agg #[.slice A n c, .int .i64 lo, .int .i64 hi], .slice A2 m c', .int .i64 d] w fun e w' => e = .returned (.int .i64 (depthI ls lo hi ys d)) ∧ Below w.heap.size w w' := by
  have HL := Lib.hid hl; clear hl
  have HM := Lib.hid hm; clear hm
  have HN := Lib.hid hn; clear hn
  have HN2 := Lib.hid hm2; clear hm2
  rcases yearsI_cases ls lo hi ys with hr | hr | hr
  · have HR := Lib.hid hr; clear hr
    by_cases d1 : 0 ≤ d <;> by_cases d2 : d ≤ 2000000
    all_goals try (exfalso; omega)
    all_goals
      go_enter Tryd.func65, Tryd.ntmps65
      go_wp2_with (go_at_call 52; refine (checkYears_is 0 A A2 n c m c' ls ys lo hi _ HL.out HN.out (by exact hL.alloc _) HM.out HN2.out (by exact hY.alloc _) HR.out).mono ?_; rintro e w1 ⟨rfl, hb1⟩; obtain ⟨hc1, hf1⟩ := bcell hb1)
      go_ret
      exact ⟨ret_int (by simp [depthI, HR.out, d1, d2]), ((Below.refl _ _).alloc (Nat.le_refl _) _).trans (hb1.mono (by simp))⟩
  all_goals
    have HR := Lib.hid hr; clear hr
    go_enter Tryd.func65, Tryd.ntmps65
    go_wp2_with (go_at_call 52; refine (checkYears_is _ A A2 n c m c' ls ys lo hi _ HL.out HN.out (by exact hL.alloc _) HM.out HN2.out (by exact hY.alloc _) HR.out).mono ?_; rintro e w1 ⟨rfl, hb1⟩; obtain ⟨hc1, hf1⟩ := bcell hb1)
    go_ret
    exact ⟨ret_int (by simp [depthI, HR.out]), ((Below.refl _ _).alloc (Nat.le_refl _) _).trans (hb1.mono (by simp))⟩

abbrev layV (l : Lay) : Value := .agg #[.int .i64 l.t, .int .i64 l.lo, .int .i64 l.hi]
abbrev yrV (y : Yr) : Value := .agg #[.int .i64 y.sl, .int .i64 y.sh, .int .i64 y.wl, .int .i64 y.wh, .int .i64 y.nl, .int .i64 y.nh]

set_option maxHeartbeats 400000 in
theorem p1_any (l : Lay) (w : World) :
    Calls Tryd.prog 89 #[layV l] w fun e w' => e = .returned (spanV l.lo l.hi) ∧ Below w.heap.size w w' := by
  go_enter Tryd.func89, Tryd.ntmps89
  go_wp2
  exact bodyPost_ret (v := spanV l.lo l.hi) (by simp [results, Tryd.results89, go_sem]) rfl ⟨rfl, ((Below.refl _ _).alloc (Nat.le_refl _) _).alloc (by simp) _⟩
set_option maxHeartbeats 400000 in
theorem p3_any (y : Yr) (w : World) :
    Calls Tryd.prog 92 #[yrV y] w fun e w' => e = .returned (spanV y.sl y.sh) ∧ Below w.heap.size w w' := by
  go_enter Tryd.func92, Tryd.ntmps92
  go_wp2
  exact bodyPost_ret (v := spanV y.sl y.sh) (by simp [results, Tryd.results92, go_sem]) rfl ⟨rfl, ((Below.refl _ _).alloc (Nat.le_refl _) _).alloc (by simp) _⟩
set_option maxHeartbeats 400000 in
theorem p4_any (y : Yr) (w : World) :
    Calls Tryd.prog 93 #[yrV y] w fun e w' => e = .returned (spanV y.wl y.wh) ∧ Below w.heap.size w w' := by
  go_enter Tryd.func93, Tryd.ntmps93
  go_wp2
  exact bodyPost_ret (v := spanV y.wl y.wh) (by simp [results, Tryd.results93, go_sem]) rfl ⟨rfl, ((Below.refl _ _).alloc (Nat.le_refl _) _).alloc (by simp) _⟩
set_option maxHeartbeats 400000 in
theorem p5_any (y : Yr) (w : World) :
    Calls Tryd.prog 94 #[yrV y] w fun e w' => e = .returned (spanV y.nl y.nh) ∧ Below w.heap.size w w' := by
  go_enter Tryd.func94, Tryd.ntmps94
  go_wp2
  exact bodyPost_ret (v := spanV y.nl y.nh) (by simp [results, Tryd.results94, go_sem]) rfl ⟨rfl, ((Below.refl _ _).alloc (Nat.le_refl _) _).alloc (by simp) _⟩
set_option maxHeartbeats 400000 in
theorem p2_any (y : Yr) (lo hi : Int) (g : Nat) (w : World) (hg : g < w.heap.size) (c1 : w.cell? ⟨g, 1, none⟩ = some (.int .i64 lo)) (c2 : w.cell? ⟨g, 2, none⟩ = some (.int .i64 hi)) :
    Calls Tryd.prog 91 #[yrV y, .pointer (some ⟨g, 0, none⟩)] w fun e w' => e = .returned (spanV lo hi) ∧ Below w.heap.size w w' := by
  have hg1 : g < w.heap.size + 1 := by omega
  go_enter Tryd.func91, Tryd.ntmps91
  go_wp2
  exact bodyPost_ret (v := spanV lo hi) (by simp [results, Tryd.results91, go_sem]) rfl ⟨rfl, ((Below.refl _ _).alloc (Nat.le_refl _) _).alloc (by simp) _⟩
end Go.Proofs.YtccekbdhffccdaaDoor
