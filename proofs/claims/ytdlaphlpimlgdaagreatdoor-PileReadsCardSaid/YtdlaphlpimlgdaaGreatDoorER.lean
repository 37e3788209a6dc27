/- A book, as the program reads it: what is panicked is caught. -/
import Derived.Test.YtdlaphlpimlgdaaGreatDoorEQ
import Derived.Recover
import Derived.Defers
import Derived.Laws.Pointers
namespace Go.Proofs.YtdlaphlpimlgdaaGreatDoor
open Go.RowKit Go.Shelf

theorem rd_set {w : World} {R : Nat} {cs : Array Value} {t : TypeId} (h : w.heap[R]? = some (.cells cs t (0, 0))) (j : Nat) (u : Value) : (w.setCell ⟨R, j, none⟩ u).heap[R]? = some (.cells (cs.setIfInBounds j u) t (0, 0)) := by
  simp [World.setCell, Array.getElem?_modify, h]
set_option maxRecDepth 100000 in
theorem hT142 (W : World) : Sem.run Tryz.prog (Instr.typeAssert (Value.iface 142 (Value.agg #[])) 20 142 true) W = .ok (.tuple #[.agg #[], .bool true]) W := by
  rfl
set_option maxRecDepth 100000 in
theorem hTnil (W : World) : Sem.run Tryz.prog (Instr.typeAssert Value.nilIface 20 142 true) W = .ok (.tuple #[.agg #[], .bool false]) W := by
  rfl
set_option maxRecDepth 100000 in
theorem catch_panicking (w : World) (A : Option Addr) (n c : Nat) (x : Int) (P0 : Nat)
    (h0 : w.heap[P0]? = some (.cells #[.slice A n c] 53 (0, 0))) (h1 : w.heap[P0 + 1]? = some (.cells #[.int .i64 x] 30 (0, 0))) :
    CallsD Tryz.prog 100 #[.pointer (some ⟨P0, 0, none⟩), .pointer (some ⟨P0 + 1, 0, none⟩)] (.panicking [noBook]) w fun e u' w' =>
      e = .returned (.tuple #[]) ∧ u' = .panicking [{ noBook with recovered := true }] ∧ w'.heap[P0]? = some (.cells #[.slice none 0 0] 53 (0, 0)) ∧ w'.heap[P0 + 1]? = some (.cells #[.int .i64 4] 30 (0, 0)) ∧ Below P0 w w' := by
  have l0 := heapsz h0; have l1 := heapsz h1
  have hbz := (Below.refl w.heap.size w).alloc (Nat.le_refl _) (.cells #[] 142)
  have g0 := (hbz.block _ l0).trans h0
  have g1 := (hbz.block _ l1).trans h1
  have c0 := cell_of_row _ P0 0 _ 53 (0, 0) g0
  have c3 := cell_of_row _ (P0 + 1) 0 _ 30 (0, 0) g1
  simp only [List.getElem?_toArray, List.getElem?_cons_zero] at c0 c3
  have f0 : ∀ a, (w.alloc (.cells #[] 142)).frozen? ⟨P0, a, none⟩ = false := fun a => by simp [World.frozen?, g0]
  have f3 : (w.alloc (.cells #[] 142)).frozen? ⟨P0 + 1, 0, none⟩ = false := by simp [World.frozen?, g1]
  refine callsD_of_wpS Tryz.func100 rfl fun c₀ cs hu => ?_
  apply wpS_seq
  apply wpS_region
  simp [wpOpsS, go_sem, recoverD, hu, Tryz.ntmps100, Exit.thenS, noBook, hT142]
  obtain ⟨wz, hwz⟩ : ∃ z, w.alloc (.cells #[] 142) = z := ⟨_, rfl⟩
  rw [hwz] at hbz g0 g1 c0 c3 f0 f3 ⊢
  apply wpS_seq
  apply wpS_region
  simp [wpOpsS, go_sem, Exit.thenS]
  refine wpS_cond (t := true) (by simp [Act.eval, Array.replicate]) ?_
  simp only [if_true]
  apply wpS_region
  simp [wpOpsS, go_sem, c0, c3, f0, f3, bodyPostS, results, Tryz.results100]
  refine ⟨?_, ?_, ?_⟩
  · exact (Below.heap_setCell _ _ _ _ (by show P0 ≠ P0 + 1; omega)).trans (rd_set g0 0 _)
  · exact rd_set (cs := #[.int .i64 x]) ((Below.heap_setCell _ _ _ _ (by show P0 + 1 ≠ P0; omega)).trans g1) 0 _
  · exact (((hbz.mono (Nat.le_of_lt l0)).setCell (p := ⟨P0, 0, none⟩) (Nat.le_refl _) _).setCell (p := ⟨P0 + 1, 0, none⟩) (by show P0 ≤ P0 + 1; omega) _)
set_option maxRecDepth 100000 in
theorem catch_idle (p q : Addr) (w : World) :
    CallsD Tryz.prog 100 #[.pointer (some p), .pointer (some q)] .returning w fun e u' w' => e = .returned (.tuple #[]) ∧ u' = .returning ∧ Below w.heap.size w w' := by
  have hbz := (Below.refl w.heap.size w).alloc (Nat.le_refl _) (.cells #[] 142)
  refine callsD_of_wpS Tryz.func100 rfl fun c₀ cs hu => ?_
  apply wpS_seq
  apply wpS_region
  simp [wpOpsS, go_sem, recoverD, hu, Tryz.ntmps100, Exit.thenS, hTnil]
  obtain ⟨wz, hwz⟩ : ∃ z, w.alloc (.cells #[] 142) = z := ⟨_, rfl⟩
  rw [hwz] at hbz ⊢
  apply wpS_seq
  apply wpS_region
  simp [wpOpsS, go_sem, Exit.thenS]
  refine wpS_cond (t := false) (by simp [Act.eval, Array.replicate]) ?_
  simp only [Bool.false_eq_true, if_false]
  refine wpS_of_wp (wp_skip ?_)
  cases c₀
  simp_all [bodyPostS, results, Tryz.results100]
end Go.Proofs.YtdlaphlpimlgdaaGreatDoor
