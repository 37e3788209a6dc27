/- The place and the years of the examples. -/
import Derived.Test.YtccekbdhffccdaaDoorG
namespace Go.Proofs.YtccekbdhffccdaaDoor
open Go.RowKit

def exP : List Lay := [⟨500, 100, 120⟩, ⟨1000, 200, 300⟩]
theorem exP_at {w : World} {b B T : Nat} (h : w.heap[b]? = some (.cells #[.int .i64 500, .int .i64 100, .int .i64 120, .int .i64 1000, .int .i64 200, .int .i64 300] T (0, 0))) (hb : b < B) : LaysAt w B (some ⟨b, 0, none⟩) exP := fun _ => by
  refine ⟨b, 0, rfl, hb, fun i x hx => ?_⟩
  have hi : i < 2 := (List.getElem?_eq_some_iff.1 hx).1
  simp only [cell_of_row w b _ _ T (0, 0) h]
  match i, hi with
  | 0, _ => cases hx; exact ⟨rfl, rfl, rfl⟩
  | 1, _ => cases hx; exact ⟨rfl, rfl, rfl⟩
set_option maxRecDepth 100000 in
set_option maxHeartbeats 1000000 in
theorem P_any (w : World) :
    Calls Tryd.prog 49 #[] w fun e w' => ∃ A, e = .returned (.agg #[.slice A 2 2, .int .i64 0, .int .i64 2000]) ∧ LaysAt w' w'.heap.size A exP ∧ Below w.heap.size w w' := by
  have z0 := heap_alloc_new w (.cells #[.slice none 0 0, .int .i64 0, .int .i64 0] 26)
  have hB : Below w.heap.size w (w.alloc (.cells #[.slice none 0 0, .int .i64 0, .int .i64 0] 26)) := (Below.refl _ _).alloc (Nat.le_refl _) _
  have HB := Lib.hid hB; have Z0 := Lib.hid z0
  clear hB z0
  go_enter Tryd.func49, Tryd.ntmps49
  go_wp2_with fail
  refine (span_any _ _ _).mono ?_
  rintro e w1 ⟨rfl, hb1⟩
  have B1 := Lib.hid (HB.out.trans (hb1.mono HB.out.size))
  have X1 := Lib.hid ((hb1.block _ (Array.getElem?_eq_some_iff.1 Z0.out).1).trans Z0.out)
  clear hb1
  go_wp2_with fail
  refine (span_any _ _ _).mono ?_
  rintro e w2 ⟨rfl, hb2⟩
  have B2 := Lib.hid (B1.out.trans (hb2.mono B1.out.size))
  have X2 := Lib.hid ((hb2.block _ (Array.getElem?_eq_some_iff.1 X1.out).1).trans X1.out)
  clear hb2
  go_wp2_with fail
  have z3 := heap_alloc_new w2 (.cells #[.int .i64 500, .int .i64 100, .int .i64 120, .int .i64 1000, .int .i64 200, .int .i64 300] 86)
  have hb : Below w2.heap.size w2 (w2.alloc (.cells #[.int .i64 500, .int .i64 100, .int .i64 120, .int .i64 1000, .int .i64 200, .int .i64 300] 86)) := (Below.refl _ _).alloc (Nat.le_refl _) _
  have Z3 := Lib.hid z3
  have BB := Lib.hid hb
  clear z3 hb
  refine (span_any _ _ _).mono ?_
  rintro e w3 ⟨rfl, hb3⟩
  have HB3 := Lib.hid hb3
  have X3 := Lib.hid ((hb3.block _ (Array.getElem?_eq_some_iff.1 Z3.out).1).trans Z3.out)
  have B3 := Lib.hid (B2.out.trans ((BB.out.trans (hb3.mono BB.out.size)).mono B2.out.size))
  have Y3 := Lib.hid ((hb3.block _ (Nat.lt_of_lt_of_le (Array.getElem?_eq_some_iff.1 X2.out).1 BB.out.size)).trans ((BB.out.block _ (Array.getElem?_eq_some_iff.1 X2.out).1).trans X2.out))
  clear hb3
  have p0 := cell_of_row w3 w.heap.size 0 _ 26 (0, 0) Y3.out
  have p1 := cell_of_row w3 w.heap.size 1 _ 26 (0, 0) Y3.out
  have p2 := cell_of_row w3 w.heap.size 2 _ 26 (0, 0) Y3.out
  simp at p0 p1 p2
  have f0 : w3.frozen? ⟨w.heap.size, 0, none⟩ = false := by simp [World.frozen?, Y3.out]
  have f1 : w3.frozen? ⟨w.heap.size, 1, none⟩ = false := by simp [World.frozen?, Y3.out]
  have f2 : w3.frozen? ⟨w.heap.size, 2, none⟩ = false := by simp [World.frozen?, Y3.out]
  go_wp2
  have hlt : w.heap.size < w2.heap.size := (Array.getElem?_eq_some_iff.1 X2.out).1
  have hlt3 : w2.heap.size < w3.heap.size := (Array.getElem?_eq_some_iff.1 X3.out).1
  have hX4 : ((((w3.setCell ⟨w.heap.size, 0, none⟩ (.slice (some ⟨w2.heap.size, 0, none⟩) 2 2)).setCell ⟨w.heap.size, 1, none⟩ (.int .i64 0)).setCell ⟨w.heap.size, 2, none⟩ (.int .i64 2000)).heap[w2.heap.size]?) = some (.cells #[.int .i64 500, .int .i64 100, .int .i64 120, .int .i64 1000, .int .i64 200, .int .i64 300] 86 (0, 0)) := by
    rw [Below.heap_setCell _ _ _ _ (by simp; omega), Below.heap_setCell _ _ _ _ (by simp; omega), Below.heap_setCell _ _ _ _ (by simp; omega)]
    exact X3.out
  have hb4 : Below w.heap.size w (((w3.setCell ⟨w.heap.size, 0, none⟩ (.slice (some ⟨w2.heap.size, 0, none⟩) 2 2)).setCell ⟨w.heap.size, 1, none⟩ (.int .i64 0)).setCell ⟨w.heap.size, 2, none⟩ (.int .i64 2000)) :=
    ((B3.out.setCell (Nat.le_refl _) _).setCell (Nat.le_refl _) _).setCell (Nat.le_refl _) _
  exact bodyPost_ret (v := .agg #[.slice (some ⟨w2.heap.size, 0, none⟩) 2 2, .int .i64 0, .int .i64 2000]) (by simp [results, Tryd.results49, go_sem, p0, p1, p2]) rfl ⟨_, rfl, exP_at hX4 (Array.getElem?_eq_some_iff.1 hX4).1, hb4⟩
end Go.Proofs.YtccekbdhffccdaaDoor
