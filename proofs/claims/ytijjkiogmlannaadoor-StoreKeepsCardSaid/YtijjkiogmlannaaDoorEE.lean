/- Stores: the sums of all weeks and ships, kind by kind. -/
import Derived.Test.YtijjkiogmlannaaDoorED
namespace Go.Proofs.YtijjkiogmlannaaDoor

def atK (k : Nat) (g : Gd) : Int := g.at k
theorem adds_k {k : Nat} (hk : k < 3) : Adds (atK k) := adds_at hk
/-- What the winter needs in the first weeks, and what was lacking in them. -/
def needS (win : List Gd) (k t : Nat) : Int := sumK (atK k) ((List.range t).map fun w => win.getD w z3)
def lackS (S : Sto) (p : Nat) (ice : List Bool) (win : List Gd) (k t : Nat) : Int := sumK (atK k) ((List.range t).map fun w => lacG (win.getD w z3) (S.aft p ice win w))
theorem sumK_one (f : Gd → Int) (g : Gd) : sumK f [g] = f g := by simp [sumK]
theorem needS_succ (win : List Gd) (k t : Nat) : needS win k (t + 1) = needS win k t + (win.getD t z3).at k := by
  unfold needS
  rw [List.range_succ, List.map_append, sumK_app, List.map_cons, List.map_nil, sumK_one]
  rfl
theorem lackS_succ (S : Sto) (p : Nat) (ice : List Bool) (win : List Gd) (k t : Nat) : lackS S p ice win k (t + 1) = lackS S p ice win k t + (lacG (win.getD t z3) (S.aft p ice win t)).at k := by
  unfold lackS
  rw [List.range_succ, List.map_append, sumK_app, List.map_cons, List.map_nil, sumK_one]
  rfl
theorem sums_in {S : Sto} (K : S.Ok) {p : Nat} {ice : List Bool} {win : List Gd} (hw : ∀ g ∈ win, amtB 1000 g = true) {k : Nat} (hk : k < 3) : ∀ t, t ≤ win.length → (0 ≤ needS win k t ∧ needS win k t ≤ 1000 * (t : Int)) ∧ 0 ≤ lackS S p ice win k t ∧ lackS S p ice win k t ≤ needS win k t
  | 0, _ => by simp [needS, lackS, sumK]
  | t + 1, ht => by
    obtain ⟨h1, h2⟩ := sums_in K (p := p) (ice := ice) hw hk t (by omega)
    obtain ⟨_, h3, _, h4, _⟩ := keeps_week K (p := p) (ice := ice) hw (t := t) (by omega) hk
    rw [needS_succ, lackS_succ]
    omega
/-- All that has been landed of a kind, of the first ships. -/
def ldS2 (l : List Gd) (k j : Nat) : Int := sumK (atK k) (l.take j)
theorem ldS2_succ {l : List Gd} {k j : Nat} {g : Gd} (h : l[j]? = some g) : ldS2 l k (j + 1) = ldS2 l k j + g.at k := by
  obtain ⟨hj, rfl⟩ := List.getElem?_eq_some_iff.1 h
  unfold ldS2
  rw [List.take_succ_eq_append_getElem hj, sumK_app, sumK_one]
  rfl
theorem ldS2_in {l : List Gd} {k : Nat} (h : ∀ g ∈ l, 0 ≤ g.at k ∧ g.at k ≤ 1000) : ∀ j, j ≤ l.length → 0 ≤ ldS2 l k j ∧ ldS2 l k j ≤ 1000 * (j : Int)
  | 0, _ => by simp [ldS2, sumK]
  | j + 1, hj => by
    have ih := ldS2_in h j (by omega)
    have hg := List.getElem?_eq_getElem (l := l) (i := j) (by omega)
    have hb := h _ (List.mem_of_getElem? hg)
    rw [ldS2_succ hg]
    omega
theorem ldS2_all {l : List Gd} {k : Nat} : ldS2 l k l.length = sumK (atK k) l := by unfold ldS2; rw [List.take_length]
theorem sum_three (l : List Gd) : sumK unI l = ldS2 l 0 l.length + ldS2 l 1 l.length + ldS2 l 2 l.length := by
  rw [ldS2_all, ldS2_all, ldS2_all]
  induction l with
  | nil => rfl
  | cons g l ih =>
    unfold sumK at *
    simp only [List.map_cons, List.sum_cons, ih]
    unfold unI atK Gd.at
    simp only
    omega
/-- What is there in the end. -/
theorem keeps_end {S : Sto} (K : S.Ok) {p : Nat} {ice : List Bool} {win : List Gd} (hw : ∀ g ∈ win, amtB 1000 g = true) {k : Nat} (hk : k < 3) : S.st.at k + ldS2 (S.run p ice win).ld k (S.run p ice win).ld.length - needS win k S.weeks.toNat + lackS S p ice win k S.weeks.toNat = (S.bef p ice win S.weeks.toNat).at k := by
  have h := runN_sum K (adds_k hk) (plan := p) (ice := ice) hw S.weeks.toNat
  rw [(runN_lists S p ice win S.weeks.toNat).2] at h
  rw [ldS2_all]
  show atK k S.st + sumK (atK k) (S.runN p ice win S.weeks.toNat).ld - needS win k S.weeks.toNat + lackS S p ice win k S.weeks.toNat = atK k (S.runN p ice win S.weeks.toNat).st
  unfold needS lackS
  omega
theorem open_short (ice : List Bool) : ∀ d, openN ice (ice.length + d) = openN ice ice.length
  | 0 => rfl
  | d + 1 => by
    rw [← Nat.add_assoc, openN_succ, open_short ice d, if_neg]
    · rfl
    · rw [List.getD_eq_getElem?_getD, List.getElem?_eq_none (by omega)]
      simp
theorem keeps_rate {S : Sto} (K : S.Ok) {p : Nat} {ice : List Bool} {win : List Gd} (hi : (ice.length : Int) = S.land) (hw : ∀ g ∈ win, amtB 1000 g = true) : ldS2 (S.run p ice win).ld 0 (S.run p ice win).ld.length + ldS2 (S.run p ice win).ld 1 (S.run p ice win).ld.length + ldS2 (S.run p ice win).ld 2 (S.run p ice win).ld.length ≤ (openN ice ice.length : Int) * S.rate := by
  have h := runN_rate K hi (plan := p) hw S.weeks.toNat
  obtain ⟨d, hd⟩ : ∃ d, S.weeks.toNat = ice.length + d := ⟨S.weeks.toNat - ice.length, by have := K.land; omega⟩
  rw [← sum_three]
  show sumK unI (S.runN p ice win S.weeks.toNat).ld ≤ _
  refine Int.le_trans h ?_
  rw [hd, open_short]
  exact Int.le_refl _
theorem keeps_ld {S : Sto} (K : S.Ok) {p : Nat} {ice : List Bool} {win : List Gd} (hw : ∀ g ∈ win, amtB 1000 g = true) : (S.run p ice win).ld.length = S.ships.length ∧ (∀ j g k, (S.run p ice win).ld[j]? = some g → k < 3 → 0 ≤ g.at k ∧ g.at k ≤ (S.cg j).at k) ∧
    ∀ j g, (S.run p ice win).ld[j]? = some g → (hasB p j = false ∨ arrI ice (S.ship j).w.toNat < 0) → g = z3 := by
  have h := (runN_ok K (plan := p) (ice := ice) hw S.weeks.toNat).ld
  have hl : (S.run p ice win).ld.length = S.ships.length := h.len
  refine ⟨hl, fun j g k hg hk => ?_, fun j g hg ho => ?_⟩
  · have hj := (List.getElem?_eq_some_iff.1 hg).1
    have h5 := h.ld0 j (by rw [← hl]; exact hj)
    have e : lnd ⟨(S.runN p ice win S.weeks.toNat).st, (S.runN p ice win S.weeks.toNat).ld, S.rate⟩ j = g := by
      unfold lnd
      show (S.run p ice win).ld.getD j z3 = g
      rw [List.getD_eq_getElem?_getD, hg]; rfl
    rw [e] at h5
    match k, hk with
    | 0, _ => exact h5.1
    | 1, _ => exact h5.2.1
    | 2, _ => exact h5.2.2
  · have hj := (List.getElem?_eq_some_iff.1 hg).1
    have h0 := lnd_out (S := S) (plan := p) (ice := ice) (win := win) (j := j) (by rw [← hl]; exact hj) ho S.weeks.toNat hl trivial
    have e : (S.run p ice win).ld.getD j z3 = g := by rw [List.getD_eq_getElem?_getD, hg]; rfl
    exact e.symm.trans h0
end Go.Proofs.YtijjkiogmlannaaDoor
