/- Places compared that are the same. -/
import Derived.Test.YtccekbdhffccdaaDoorNN
import Derived.Test.YtccekbdhffccdaaDoorRB
import Derived.Laws.StructEq
namespace Go.Proofs.YtccekbdhffccdaaDoor
open Go.RowKit

theorem eqs24 (k : Nat) (a b : Int) (w : World) : (Op.equalIn (k + 2) 24 (.agg #[.int .i64 a, .int .i64 b]) (.agg #[.int .i64 a, .int .i64 b])).run Tryd.prog w = .ok true w := by
  have u3 := Tryd.underlying3
  have a3 := Tryd.isAgg3
  have z3 := Tryd.sizeOf3
  have hS : Tryd.prog.underlying 24 = some (.struct (Tryd.prog.fieldsOf 24)) := by kernel_rfl
  have hp : Tryd.prog.stoodInHeld 24 = false := by kernel_rfl
  rw [show k + 2 = (k + 1) + 1 from rfl, run_equalIn_agg w (k + 1) 24 _ _ hS hp]
  simp only [Program.fieldsOf, Tryd.underlying24]
  go_simp
theorem eqs86 (t a b : Int) (w : World) : (Op.equalIn 10000 86 (.agg #[.int .i64 t, .int .i64 a, .int .i64 b]) (.agg #[.int .i64 t, .int .i64 a, .int .i64 b])).run Tryd.prog w = .ok true w := by
  have u3 := Tryd.underlying3
  have a3 := Tryd.isAgg3
  have z3 := Tryd.sizeOf3
  have u24 := Tryd.underlying24
  have a24 := Tryd.isAgg24
  have z24 := Tryd.sizeOf24
  have hS : Tryd.prog.underlying 86 = some (.struct (Tryd.prog.fieldsOf 86)) := by kernel_rfl
  have hp : Tryd.prog.stoodInHeld 86 = false := by kernel_rfl
  have q24 := eqs24 9997
  rw [show (10000 : Nat) = 9999 + 1 from rfl, run_equalIn_agg w 9999 86 _ _ hS hp]
  simp only [Program.fieldsOf, Tryd.underlying86]
  go_simp
set_option maxRecDepth 100000 in
set_option maxHeartbeats 4000000 in
theorem samePlace_ok (A A2 : Option Addr) (n c c' : Nat) (ls : List Lay) (lo hi : Int) (w : World) (hl : ls.length = n) (hn : n ≤ maxLen) (hL : LaysAt w w.heap.size A ls) (hL2 : LaysAt w w.heap.size A2 ls) :
    Calls Tryd.prog 45 #[.agg #[.slice A n c, .int .i64 lo, .int .i64 hi], .agg #[.slice A2 n c', .int .i64 lo, .int .i64 hi]] w fun e w' => e = .returned (.bool true) ∧ Below w.heap.size w w' := by
  unfold maxLen at hn
  have HL := Lib.hid hl; clear hl
  obtain ⟨w1, hw1⟩ : ∃ z, w.alloc (.cells #[.slice A n c, .int .i64 lo, .int .i64 hi] 26) = z := ⟨_, rfl⟩
  obtain ⟨w2, hw2⟩ : ∃ z, w1.alloc (.cells #[.slice A2 n c', .int .i64 lo, .int .i64 hi] 26) = z := ⟨_, rfl⟩
  have z1 := heap_alloc_new w (.cells #[.slice A n c, .int .i64 lo, .int .i64 hi] 26)
  have z2 := heap_alloc_new w1 (.cells #[.slice A2 n c', .int .i64 lo, .int .i64 hi] 26)
  have b1 : Below w.heap.size w w1 := by rw [← hw1]; exact (Below.refl _ _).alloc (Nat.le_refl _) _
  have b2 : Below w1.heap.size w1 w2 := by rw [← hw2]; exact (Below.refl _ _).alloc (Nat.le_refl _) _
  have s1 : w1.heap.size = w.heap.size + 1 := by rw [← hw1]; simp
  rw [hw1] at z1
  rw [hw2, s1] at z2
  have z1' := (b2.block _ (by omega)).trans z1
  have HB := Lib.hid (b1.trans (b2.mono b1.size))
  have p0 := cell_of_row w2 w.heap.size 0 _ 26 (0, 0) z1'
  have p1 := cell_of_row w2 w.heap.size 1 _ 26 (0, 0) z1'
  have p2 := cell_of_row w2 w.heap.size 2 _ 26 (0, 0) z1'
  have q0 := cell_of_row w2 (w.heap.size + 1) 0 _ 26 (0, 0) z2
  have q1 := cell_of_row w2 (w.heap.size + 1) 1 _ 26 (0, 0) z2
  have q2 := cell_of_row w2 (w.heap.size + 1) 2 _ 26 (0, 0) z2
  simp at p0 p1 p2 q0 q1 q2
  have hg24 : Tryd.prog.eqGuardType Tryd.prog.depth 24 = false := by kernel_rfl
  have hg86 : Tryd.prog.eqGuardType Tryd.prog.depth 86 = false := by kernel_rfl
  have e24 : ∀ w, (Op.equalIn 10000 24 (.agg #[.int .i64 lo, .int .i64 hi]) (.agg #[.int .i64 lo, .int .i64 hi])).run Tryd.prog w = .ok true w := eqs24 9998 lo hi
  clear z1 z2 z1' b1 b2
  go_enter Tryd.func45, Tryd.ntmps45
  go_wp2_with fail
  clear hw1 hw2
  have HL1 := Lib.hid (hL.next HB.out); have HL2 := Lib.hid (hL2.next HB.out)
  have PP := Lib.hid (And.intro p0 q0)
  go_loopw [5] (fun i wr => wr.heap = w2.heap ∧ Below w.heap.size w wr ∧ ∃ k : Nat, k ≤ n ∧ i = .int .i64 k) (fun i _ => n - (intOf i).toNat)
  case atStart => exact ⟨rfl, HB.out, 0, Nat.zero_le _, rfl⟩
  case round =>
    obtain ⟨hh, hbw, k, hk, rfl⟩ := hrel
    have hcell : ∀ a, wr.cell? a = w2.cell? a := fun a => by simp [World.cell?, hh]
    have HBW := Lib.hid hbw; have HHH := Lib.hid hh
    clear p0 q0 p1 p2 q1 q2 hh hbw
    have p0 := (hcell _).trans PP.out.1
    have q0 := (hcell _).trans PP.out.2
    by_cases hlt : k < n
    · obtain ⟨x, hx⟩ := get_of_lt (l := ls) (k := k) (by rw [HL.out]; exact hlt)
      obtain ⟨b1, o1, rfl, hb1, hcs1⟩ := HL1.out (by intro h; rw [h] at hx; simp at hx)
      obtain ⟨b2, o2, rfl, hb2, hcs2⟩ := HL2.out (by intro h; rw [h] at hx; simp at hx)
      obtain ⟨c0, c1, c2⟩ := hcs1 k x hx
      obtain ⟨e0, e1, e2⟩ := hcs2 k x hx
      replace c0 := (hcell _).trans c0
      replace c1 := (hcell _).trans c1
      replace c2 := (hcell _).trans c2
      replace e0 := (hcell _).trans e0
      replace e1 := (hcell _).trans e1
      replace e2 := (hcell _).trans e2
      have e86 : ∀ w, (Op.equalIn 10000 86 (.agg #[.int .i64 x.t, .int .i64 x.lo, .int .i64 x.hi]) (.agg #[.int .i64 x.t, .int .i64 x.lo, .int .i64 x.hi])).run Tryd.prog w = .ok true w := eqs86 x.t x.lo x.hi
      have hk0 : (0 : Int) ≤ (k : Int) := by omega
      have hk1 : (k : Int) < (n : Int) := by omega
      clear hx hcs1 hcs2 hcell
      go_wp2_with fail
      go_quiet (fail)
      go_wp2_with fail
      exact ⟨⟨HHH.out, ⟨HBW.out.os, HBW.out.tape, HBW.out.output, HBW.out.size, HBW.out.block⟩, k + 1, by omega, by go_num⟩, by simp [intOf]; omega⟩
    · have hk1 : ¬ (k : Int) < (n : Int) := by omega
      clear hcell
      go_wp2_with fail
      go_ret
      exact ⟨rfl, HBW.out⟩
end Go.Proofs.YtccekbdhffccdaaDoor
