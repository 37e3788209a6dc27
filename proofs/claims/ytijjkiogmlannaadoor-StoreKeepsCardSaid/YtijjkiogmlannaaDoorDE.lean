/- Stores: the law of plans that suffice. -/
import Derived.Test.YtijjkiogmlannaaDoorDA
namespace Go.Proofs.YtijjkiogmlannaaDoor
open Go.RowKit

theorem lacks_len {S : Sto} {p : Nat} {ice : List Bool} {win : List Gd} : (S.run p ice win).lacks.length = S.weeks.toNat := by
  unfold Sto.run
  rw [(runN_lists S p ice win S.weeks.toNat).2]
  simp
theorem no_zero {S : Sto} {p : Nat} {ice : List Bool} {win : List Gd} {t : Nat} (ht : t < S.weeks.toNat) (h : noG ((S.run p ice win).lacks.getD t z3)) : (S.run p ice win).lacks[t]? = some z3 := by
  have e : (S.run p ice win).lacks[t]? = some (lacG (win.getD t z3) (S.aft p ice win t)) := by
    unfold Sto.run
    rw [(runN_lists S p ice win S.weeks.toNat).2]
    simp [List.getElem?_map, List.getElem?_range ht]
  rw [List.getD_eq_getElem?_getD, e, Option.getD_some] at h
  rw [e]
  congr 1
  obtain ⟨h1, h2, h3⟩ := h
  rw [lacG_max] at h1 h2 h3 ⊢
  refine Gd.eq ?_ ?_ ?_ <;> simp only [z3] at * <;> omega
theorem enough_none {S : Sto} {p i n t : Nat} (hi : i < S.ices.length) (hn : n < S.wins.length) (h : S.fault p = none) (ht : t < S.weeks.toNat) : (S.run p (S.ices.getD i []) (S.wins.getD n [])).lacks[t]? = some z3 := by
  refine no_zero ht ?_
  have h1 := lackL_none.1 ((fault_none.1 h) i n hi hn)
  rw [List.getD_eq_getElem?_getD]
  cases hg : (S.run p (S.ices.getD i []) (S.wins.getD n [])).lacks[t]? with
  | none => exact ⟨by simp [z3], by simp [z3], by simp [z3]⟩
  | some g => exact h1 g (List.mem_of_getElem? hg)
theorem enough_some {S : Sto} {p i n t : Nat} {f : Flt} (hi : i < S.ices.length) (hn : n < S.wins.length) (h : S.first p = some f) (hf : t < f.w) (ht : t < S.weeks.toNat) : (S.run p (S.ices.getD i []) (S.wins.getD n [])).lacks[t]? = some z3 := by
  refine no_zero ht ?_
  cases hl : S.lackO p i n with
  | none =>
    have h1 := lackL_none.1 hl
    rw [List.getD_eq_getElem?_getD]
    cases hg : (S.run p (S.ices.getD i []) (S.wins.getD n [])).lacks[t]? with
    | none => exact ⟨by simp [z3], by simp [z3], by simp [z3]⟩
    | some g => exact h1 g (List.mem_of_getElem? hg)
  | some x =>
    obtain ⟨v, k⟩ := x
    have h2 := (first_some h).2 ⟨i, n, v, k⟩ (flts_mem.2 ⟨hi, hn, hl⟩)
    simp only at h2
    exact (lackL_some hl).2.2 t (by omega)
theorem getD_get {l : List Gd} {k : Nat} (h : k < l.length) : l[k]? = some (l.getD k z3) := by
  rw [List.getD_eq_getElem?_getD, List.getElem?_eq_getElem h]; rfl
/-- What is told is lacking. -/
theorem flt_lacks {S : Sto} {p : Nat} {f : Flt} (h : f ∈ S.flts p) : f.i < S.ices.length ∧ f.n < S.wins.length ∧ f.w < S.weeks.toNat ∧ f.k < 3 ∧ ∃ g, (S.run p (S.ices.getD f.i []) (S.wins.getD f.n [])).lacks[f.w]? = some g ∧ 0 < g.at f.k := by
  obtain ⟨h1, h2, h3⟩ := flts_mem.1 h
  obtain ⟨h4, h5, _⟩ := lackL_some h3
  obtain ⟨h6, h7, _⟩ := lackG_some h5
  refine ⟨h1, h2, by rw [← lacks_len (S := S) (p := p)]; exact h4, h6, _, ?_, h7⟩
  exact getD_get h4
/-- A run of a store as defined. -/
theorem run_ok {X : SX} {w : World} (h : X.In w) {p i n : Nat} (hB : stoB X.S = true) (hC : planOk X.S (p : Int) = true) (hi : i < X.S.ices.length) (hn : n < X.S.wins.length) : Calls Tryd.prog 15 #[X.v, .int .i64 (p : Int), .int .i64 (i : Int), .int .i64 (n : Int)] w fun e w' => Below w.heap.size w w' ∧
    ∃ D A2 n2 c2 A3 c3, e = .returned (.tuple #[.agg #[.slice (some ⟨D, 0, none⟩) X.ns X.ns, .slice A2 n2 c2, .slice A3 X.S.weeks.toNat c3], .int .i64 0]) ∧ GdsAt w' w'.heap.size A3 (X.S.run p (X.S.ices.getD i []) (X.S.wins.getD n [])).lacks := by
  refine (Run_any h (p : Int) (i : Int) (n : Int)).mono fun e w' hh => ?_
  obtain ⟨hb, hh⟩ := hh
  have ha : askB X.S (p : Int) (i : Int) (n : Int) = true := by
    unfold askB
    rw [hB, hC, (inB_iff (a := 0)).2 (by omega), (inB_iff (a := 0)).2 (by omega)]
    rfl
  rcases hh with ⟨g, _⟩ | ⟨_, D, A2, c2, A3, c3, g1, _, _, g4⟩
  · rw [ha] at g; cases g
  · refine ⟨hb, D, A2, (X.S.run p (X.S.ices.getD i []) (X.S.wins.getD n [])).stocks.length, c2, A3, c3, ?_, g4⟩
    rw [g1, ← lacks_len (S := X.S) (p := p) (ice := X.S.ices.getD i []) (win := X.S.wins.getD n [])]
    rfl
end Go.Proofs.YtijjkiogmlannaaDoor
