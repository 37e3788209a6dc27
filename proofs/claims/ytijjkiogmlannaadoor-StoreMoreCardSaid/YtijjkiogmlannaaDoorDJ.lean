/- Stores: rows of rows with one row more. -/
import Derived.Test.YtijjkiogmlannaaDoorDI
namespace Go.Proofs.YtijjkiogmlannaaDoor
open Go.RowKit

/-- The values that stand in the cells of rows of rows. -/
theorem rows_list {α : Type} {k : Nat} {R : α → List Value} {w : World} {B : Nat} {A : Option Addr} {ls : List (List α)} (h : GridAt k R w B A ls) (hne : ls ≠ []) :
    ∃ b o, A = some ⟨b, o, none⟩ ∧ b < B ∧ ∃ L : List Value, L.length = ls.length ∧ (∀ (i : Nat) (v : Value), L[i]? = some v → ∃ r A' c', ls[i]? = some r ∧ v = Value.slice A' r.length c' ∧ RowAt k R w B A' r ∧ r.length ≤ maxLen ∧ r.length ≤ c') ∧ ∀ (i : Nat) (v : Value), L[i]? = some v → w.cell? ⟨b, o + i, none⟩ = some v := by
  obtain ⟨b, o, rfl, hb, hc⟩ := h hne
  refine ⟨b, o, rfl, hb, ?_⟩
  obtain ⟨L, hL, hP⟩ := list_by (P := fun (i : Nat) (v : Value) => (∃ r A' c', ls[i]? = some r ∧ v = Value.slice A' r.length c' ∧ RowAt k R w B A' r ∧ r.length ≤ maxLen ∧ r.length ≤ c') ∧ w.cell? ⟨b, o + i, none⟩ = some v) (n := ls.length) fun i hi => by
    have hg := List.getElem?_eq_getElem hi
    obtain ⟨A', c', h1, h2, h3, h4⟩ := hc i _ hg
    exact ⟨_, ⟨_, A', c', hg, rfl, h2, h3, h4⟩, h1⟩
  exact ⟨L, hL, fun i v hv => (hP i v hv).1, fun i v hv => (hP i v hv).2⟩
theorem rows_one {α : Type} {k : Nat} {R : α → List Value} {w : World} {B : Nat} {ls : List (List α)} {L : List Value} (hr : ∀ (i : Nat) (v : Value), L[i]? = some v → ∃ r A' c', ls[i]? = some r ∧ v = Value.slice A' r.length c' ∧ RowAt k R w B A' r ∧ r.length ≤ maxLen ∧ r.length ≤ c') : ∀ u ∈ L, u.oneCell' = true := by
  intro u hu
  obtain ⟨i, hi⟩ := List.mem_iff_getElem?.1 hu
  obtain ⟨r, A', c', _, rfl, _⟩ := hr i u hi
  rfl
theorem grid_more {α : Type} {k : Nat} {R : α → List Value} {w w' : World} {ls : List (List α)} {row : List α} {L : List Value} {A2 : Option Addr} {c2 q : Nat} (hL : L.length = ls.length)
    (hr : ∀ (i : Nat) (v : Value), L[i]? = some v → ∃ r A' c', ls[i]? = some r ∧ v = Value.slice A' r.length c' ∧ RowAt k R w w.heap.size A' r ∧ r.length ≤ maxLen ∧ r.length ≤ c') (hb : Below w.heap.size w w') (hq : q < w'.heap.size)
    (hc : ∀ j u, (L ++ [Value.slice A2 row.length c2])[j]? = some u → w'.cell? ⟨q, j, none⟩ = some u) (hrow : RowAt k R w w.heap.size A2 row) (h1 : row.length ≤ maxLen) (h2 : row.length ≤ c2) : GridAt k R w' w'.heap.size (some ⟨q, 0, none⟩) (ls ++ [row]) := by
  refine fun _ => ⟨q, 0, rfl, hq, fun i x hx => ?_⟩
  by_cases hi : i < ls.length
  · rw [List.getElem?_append_left hi] at hx
    have hg := List.getElem?_eq_getElem (l := L) (i := i) (by omega)
    obtain ⟨r, A', c', e1, e2, e3, e4, e5⟩ := hr i _ hg
    obtain rfl := Option.some.inj (hx.symm.trans e1)
    have h3 := hc i (L[i]'(by omega)) (by rw [List.getElem?_append_left (by omega)]; exact hg)
    rw [e2] at h3
    exact ⟨A', c', by rw [Nat.zero_add]; exact h3, e3.next hb hb.size, e4, e5⟩
  · have hlt := (List.getElem?_eq_some_iff.1 hx).1
    simp only [List.length_append, List.length_cons, List.length_nil] at hlt
    have hil : i = ls.length := by omega
    rw [List.getElem?_append_right (by omega), hil, Nat.sub_self] at hx
    simp at hx
    subst hx
    have h3 := hc i (.slice A2 row.length c2) (by rw [List.getElem?_append_right (by omega), hL, hil, Nat.sub_self]; rfl)
    exact ⟨A2, c2, by rw [Nat.zero_add]; exact h3, hrow.next hb hb.size, h1, h2⟩
theorem row_info33 : (Tryd.prog.info? 33).map (fun i => (i.zero, i.size, i.bytes)) = some (some (.slice none 0 0), 1, 24) := by kernel_rfl
theorem row_info42 : (Tryd.prog.info? 42).map (fun i => (i.zero, i.size, i.bytes)) = some (some (.slice none 0 0), 1, 24) := by kernel_rfl
end Go.Proofs.YtijjkiogmlannaaDoor
