/- known. -/
import Derived.Test.YtccekbdhffccdaaDoorKK
namespace Go.Proofs.YtccekbdhffccdaaDoor
open Go.RowKit

theorem SnsAt.more_ {w : World} {B B' : Nat} {A : Option Addr} {xs : List Sn} (h : SnsAt w B A xs) (hB : B ≤ B') : SnsAt w B' A xs := fun hx => by
  obtain ⟨b, o, hA, hbB, hc⟩ := h hx
  exact ⟨b, o, hA, Nat.lt_of_lt_of_le hbB hB, hc⟩
theorem SnsAt.next_ {w w' : World} {A : Option Addr} {xs : List Sn} (h : SnsAt w w.heap.size A xs) (hb : Below w.heap.size w w') : SnsAt w' w'.heap.size A xs := (h.keep_ hb).more_ hb.size
theorem SlInts.next_ {w w' : World} {v : Value} {xs : List Int} (h : SlInts w v xs) (hb : Below w.heap.size w w') : SlInts w' v xs := by
  obtain ⟨A, c, hv, hc, hi⟩ := h
  exact ⟨A, c, hv, hc, hi.next hb⟩

/-- What Years tells of the examples, in a form that names no model. -/
theorem years_ex (A A2 : Option Addr) (c' : Nat) (w : World) (hL : LaysAt w w.heap.size A exP) (hY : YrsAt w w.heap.size A2 (List.replicate 2 exY)) :
    Calls Tryd.prog 19 #[.agg #[.slice A 2 2, .int .i64 0, .int .i64 2000], .slice A2 2 c'] w fun e w' => ∃ (A' : Option Addr) (c : Nat) (xs : List Sn), e = .returned (.tuple #[.slice A' 2 c, .int .i64 0]) ∧ xs.length = 2 ∧ xs.map snT = exW.map snT ∧ SnsAt w' w'.heap.size A' xs ∧ Below w.heap.size w w' := by
  refine (years_any A A2 2 2 2 c' exP (List.replicate 2 exY) 0 2000 w rfl (by decide) (by decide) hL rfl (by decide) hY).mono ?_
  rintro e w' ⟨A', c, rfl, hs, hb⟩
  have hl : (yearsR exP 0 2000 (List.replicate 2 exY)).1.length = 2 := by
    have := congrArg List.length k_years.1
    simpa [exW] using this
  refine ⟨A', c, _, ?_, hl, k_years.1, hs, hb⟩
  rw [hl, k_years.2]
theorem play_ex (A A2 : Option Addr) (c' : Nat) (v0 v1 v2 v3 v4 : Value) (w : World) (hL : LaysAt w w.heap.size A exP) (hY : YrsAt w w.heap.size A2 (List.replicate 2 exY)) (s0 : SlInts w v0 exT.ms) (s1 : SlInts w v1 exT.ws) (s2 : SlInts w v2 exT.ss) (s3 : SlInts w v3 exT.vs) (s4 : SlInts w v4 exT.ns) :
    Calls Tryd.prog 25 #[.agg #[.slice A 2 2, .int .i64 0, .int .i64 2000], .slice A2 2 c', .agg #[v0, v1, v2, v3, v4]] w fun e w' => ∃ v, e = .returned (.tuple #[v, .agg #[.int .i64 126000, .int .i64 120000, .int .i64 6000], .int .i64 0]) ∧ SlInts w' v [544, 592] ∧ Below w.heap.size w w' := by
  refine (play_any A A2 2 2 2 c' exP (List.replicate 2 exY) 0 2000 exT v0 v1 v2 v3 v4 w rfl (by decide) (by decide) hL rfl (by decide) hY s0 s1 s2 s3 s4 (by decide) (by decide) (by decide) (by decide) (by decide)).mono ?_
  rintro e w' ⟨v, rfl, hs, hb⟩
  rw [k_play] at hs ⊢
  exact ⟨v, rfl, hs, hb⟩
theorem exc_ex (A A2 : Option Addr) (c' : Nat) (w : World) (hL : LaysAt w w.heap.size A exP) (hY : YrsAt w w.heap.size A2 (List.replicate 2 exY)) :
    Calls Tryd.prog 34 #[.agg #[.slice A 2 2, .int .i64 0, .int .i64 2000], .slice A2 2 c', .int .i64 610] w fun e w' => e = .returned (.tuple #[.int .i64 1, .int .i64 2, .int .i64 0]) ∧ Below w.heap.size w w' := by
  refine (exceeds_any A A2 2 2 2 c' exP (List.replicate 2 exY) 0 2000 610 w rfl (by decide) (by decide) hL rfl (by decide) hY).mono ?_
  rintro e w' ⟨rfl, hb⟩
  rw [k_exc.1, if_pos rfl, if_pos rfl, k_exc.2.1, k_exc.2.2]
  exact ⟨rfl, hb⟩
theorem allow_ex (A A2 : Option Addr) (c' : Nat) (w : World) (hL : LaysAt w w.heap.size A exP) (hY : YrsAt w w.heap.size A2 (List.replicate 1 exY)) :
    Calls Tryd.prog 36 #[.agg #[.slice A 2 2, .int .i64 0, .int .i64 2000], .slice A2 1 c', .int .i64 700] w fun e w' => e = .returned (.tuple #[.int .i64 20199, .int .i64 0]) ∧ Below w.heap.size w w' := by
  refine (allow_any A A2 2 2 1 c' exP (List.replicate 1 exY) 0 2000 700 w rfl (by decide) (by decide) hL rfl (by decide) hY).mono ?_
  rintro e w' ⟨rfl, hb⟩
  rw [k_allow]
  exact ⟨rfl, hb⟩
theorem need_ex (A A2 : Option Addr) (c' : Nat) (w : World) (hL : LaysAt w w.heap.size A exP) (hY : YrsAt w w.heap.size A2 (List.replicate 2 exY)) :
    Calls Tryd.prog 37 #[.agg #[.slice A 2 2, .int .i64 0, .int .i64 2000], .slice A2 2 c', .int .i64 700] w fun e w' => e = .returned (.tuple #[.int .i64 18801, .int .i64 0]) ∧ Below w.heap.size w w' := by
  refine (need_any A A2 2 2 2 c' exP (List.replicate 2 exY) 0 2000 700 w rfl (by decide) (by decide) hL rfl (by decide) hY).mono ?_
  rintro e w' ⟨rfl, hb⟩
  rw [k_need]
  exact ⟨rfl, hb⟩
def logT : ByteArray := ⟨#[104, 111, 108, 101, 32, 50, 32, 48, 32, 50, 48, 48, 48, 10, 108, 97, 121, 101, 114, 32, 53, 48, 48, 32, 49, 48, 48, 32, 49, 50, 48, 10, 108, 97, 121, 101, 114, 32, 49, 48, 48, 48, 32, 50, 48, 48, 32, 51, 48, 48, 10, 101, 110, 100, 32, 49, 102, 10]⟩
theorem print_ex (A : Option Addr) (w : World) (hL : LaysAt w w.heap.size A exP) (ht : Tab w) :
    Calls Tryd.prog 42 #[.agg #[.slice A 2 2, .int .i64 0, .int .i64 2000]] w fun e w' => e = .returned (.tuple #[.string logT, .int .i64 0]) ∧ Below w.heap.size w w' := by
  refine (print_any A 2 2 exP 0 2000 w rfl (by decide) (by decide) hL ht).mono ?_
  rintro e w' ⟨rfl, hb⟩
  rw [k_print]
  exact ⟨rfl, hb⟩
theorem eq44 (a b c a' b' c' : Int) (w : World) : (Op.equalIn 10000 44 (.agg #[.int .i64 a, .int .i64 b, .int .i64 c]) (.agg #[.int .i64 a', .int .i64 b', .int .i64 c'])).run Tryd.prog w = .ok (a == a' && (b == b' && c == c')) w := by
  have u3 := Tryd.underlying3
  have a3 := Tryd.isAgg3
  have z3 := Tryd.sizeOf3
  have hS : Tryd.prog.underlying 44 = some (.struct (Tryd.prog.fieldsOf 44)) := by kernel_rfl
  have hp : Tryd.prog.stoodInHeld 44 = false := by kernel_rfl
  rw [show (10000 : Nat) = 9999 + 1 from rfl, run_equalIn_agg w 9999 44 _ _ hS hp]
  simp only [Program.fieldsOf, Tryd.underlying44]
  go_simp
  by_cases h1 : a = a' <;> by_cases h2 : b = b' <;> by_cases h3 : c = c' <;> simp [h1, h2, h3]
end Go.Proofs.YtccekbdhffccdaaDoor
