/- Stores: what a run tells of each week and kind; a run of a store as defined, all of it. -/
import Derived.Test.YtijjkiogmlannaaDoorDE
namespace Go.Proofs.YtijjkiogmlannaaDoor
open Go.RowKit

theorem adds_at : ∀ {k : Nat}, k < 3 → Adds fun g => g.at k
  | 0, _ => adds_a
  | 1, _ => adds_b
  | 2, _ => adds_c
theorem leG_at {g h : Gd} (hl : leG g h) : ∀ {k : Nat}, k < 3 → g.at k ≤ h.at k
  | 0, _ => hl.1
  | 1, _ => hl.2.1
  | 2, _ => hl.2.2
theorem tak_at (N A : Gd) : ∀ {k : Nat}, k < 3 → (takG N A).at k = max 0 (A.at k - N.at k)
  | 0, _ => by rw [takG_max]; rfl
  | 1, _ => by rw [takG_max]; rfl
  | 2, _ => by rw [takG_max]; rfl
theorem lac_at (N A : Gd) : ∀ {k : Nat}, k < 3 → (lacG N A).at k = max 0 (N.at k - A.at k)
  | 0, _ => by rw [lacG_max]; rfl
  | 1, _ => by rw [lacG_max]; rfl
  | 2, _ => by rw [lacG_max]; rfl
theorem stocks_get {S : Sto} {p : Nat} {ice : List Bool} {win : List Gd} {t : Nat} (ht : t < S.weeks.toNat) : (S.run p ice win).stocks[t]? = some (takG (win.getD t z3) (S.aft p ice win t)) := by
  unfold Sto.run
  rw [(runN_lists S p ice win S.weeks.toNat).1]
  simp [List.getElem?_map, List.getElem?_range ht]
theorem lacks_get {S : Sto} {p : Nat} {ice : List Bool} {win : List Gd} {t : Nat} (ht : t < S.weeks.toNat) : (S.run p ice win).lacks[t]? = some (lacG (win.getD t z3) (S.aft p ice win t)) := by
  unfold Sto.run
  rw [(runN_lists S p ice win S.weeks.toNat).2]
  simp [List.getElem?_map, List.getElem?_range ht]
theorem stocks_len {S : Sto} {p : Nat} {ice : List Bool} {win : List Gd} : (S.run p ice win).stocks.length = S.weeks.toNat := by
  unfold Sto.run
  rw [(runN_lists S p ice win S.weeks.toNat).1]
  simp
/-- What is told of a week and a kind. -/
theorem keeps_week {S : Sto} (K : S.Ok) {p : Nat} {ice : List Bool} {win : List Gd} (hw : ∀ g ∈ win, amtB 1000 g = true) {t k : Nat} (ht : t < win.length) (hk : k < 3) :
    (0 ≤ (takG (win.getD t z3) (S.aft p ice win t)).at k ∧ (takG (win.getD t z3) (S.aft p ice win t)).at k ≤ S.yd.at k) ∧
    (0 ≤ (lacG (win.getD t z3) (S.aft p ice win t)).at k ∧ (lacG (win.getD t z3) (S.aft p ice win t)).at k ≤ (win.getD t z3).at k) ∧
    ((lacG (win.getD t z3) (S.aft p ice win t)).at k > 0 → (takG (win.getD t z3) (S.aft p ice win t)).at k = 0) ∧
    (0 ≤ (win.getD t z3).at k ∧ (win.getD t z3).at k ≤ 1000) ∧
    0 ≤ (takG (win.getD t z3) (S.aft p ice win t)).at k + (win.getD t z3).at k - (lacG (win.getD t z3) (S.aft p ice win t)).at k - (S.bef p ice win t).at k ∧
    (0 < (takG (win.getD t z3) (S.aft p ice win t)).at k + (win.getD t z3).at k - (lacG (win.getD t z3) (S.aft p ice win t)).at k - (S.bef p ice win t).at k → (t : Int) < S.land ∧ ice.getD t false = true) ∧
    (S.bef p ice win (t + 1)).at k = (takG (win.getD t z3) (S.aft p ice win t)).at k := by
  have hg : amtB 1000 (win.getD t z3) = true := by
    rw [List.getD_eq_getElem?_getD, List.getElem?_eq_getElem ht]
    exact hw _ (List.getElem_mem ht)
  have hn := inB_iff.1 (amtB_at.1 hg k hk)
  obtain ⟨a1, a2⟩ := aft_in K (plan := p) (ice := ice) hw t
  have a3 : 0 ≤ (S.aft p ice win t).at k := by
    match k, hk with
    | 0, _ => exact a1.1
    | 1, _ => exact a1.2.1
    | 2, _ => exact a1.2.2
  have a4 := leG_at a2 hk
  have a5 := leG_at (aft_up K (plan := p) (ice := ice) hw t) hk
  rw [tak_at _ _ hk, lac_at _ _ hk]
  refine ⟨by omega, by omega, by omega, hn, by omega, fun h => ?_, ?_⟩
  · by_cases ho : (t : Int) < S.land ∧ ice.getD t false = true
    · exact ho
    · rw [aft_shut ho] at h
      omega
  · rw [bef_succ, tak_at _ _ hk]
/-- A run of a store as defined, all of it. -/
theorem run_all {X : SX} {w : World} (h : X.In w) {p i n : Nat} (hB : stoB X.S = true) (hC : planOk X.S (p : Int) = true) (hi : i < X.S.ices.length) (hn : n < X.S.wins.length) : Calls Tryd.prog 15 #[X.v, .int .i64 (p : Int), .int .i64 (i : Int), .int .i64 (n : Int)] w fun e w' => Below w.heap.size w w' ∧
    ∃ D A2 c2 A3 c3, e = .returned (.tuple #[.agg #[.slice (some ⟨D, 0, none⟩) X.ns X.ns, .slice A2 X.S.weeks.toNat c2, .slice A3 X.S.weeks.toNat c3], .int .i64 0]) ∧ GdsAt w' w'.heap.size (some ⟨D, 0, none⟩) (X.S.run p (X.S.ices.getD i []) (X.S.wins.getD n [])).ld ∧
      GdsAt w' w'.heap.size A2 (X.S.run p (X.S.ices.getD i []) (X.S.wins.getD n [])).stocks ∧ GdsAt w' w'.heap.size A3 (X.S.run p (X.S.ices.getD i []) (X.S.wins.getD n [])).lacks := by
  refine (Run_any h (p : Int) (i : Int) (n : Int)).mono fun e w' hh => ?_
  obtain ⟨hb, hh⟩ := hh
  have ha : askB X.S (p : Int) (i : Int) (n : Int) = true := by
    unfold askB
    rw [hB, hC, (inB_iff (a := 0)).2 (by omega), (inB_iff (a := 0)).2 (by omega)]
    rfl
  rcases hh with ⟨g, _⟩ | ⟨_, D, A2, c2, A3, c3, g1, g2, g3, g4⟩
  · rw [ha] at g; cases g
  · have e2 := stocks_len (S := X.S) (p := p) (ice := X.S.ices.getD i []) (win := X.S.wins.getD n [])
    have e3 := lacks_len (S := X.S) (p := p) (ice := X.S.ices.getD i []) (win := X.S.wins.getD n [])
    refine ⟨hb, D, A2, c2, A3, c3, ?_, g2, g3, g4⟩
    rw [g1]
    show Ending.returned (.tuple #[.agg #[.slice (some ⟨D, 0, none⟩) X.ns X.ns, .slice A2 (X.S.run p (X.S.ices.getD i []) (X.S.wins.getD n [])).stocks.length c2, .slice A3 (X.S.run p (X.S.ices.getD i []) (X.S.wins.getD n [])).lacks.length c3], .int .i64 0]) = _
    rw [e2, e3]
end Go.Proofs.YtijjkiogmlannaaDoor
