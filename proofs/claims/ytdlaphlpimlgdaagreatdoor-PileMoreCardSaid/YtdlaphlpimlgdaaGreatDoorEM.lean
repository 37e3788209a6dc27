/- Thaws that are known better, deeper ones, and one jacking more: the mathematics of PileMore. -/
import Derived.Test.YtdlaphlpimlgdaaGreatDoorFH
namespace Go.Proofs.YtdlaphlpimlgdaaGreatDoor
open Go.RowKit Go.Shelf

def Ctx.withT (X : Ctx) (A : Option Addr) (c : Nat) (ts : List (List Sp)) : Ctx := { X with A := A, c := c, ts := ts }
def mapT (g : Sp → Sp) (ts : List (List Sp)) : List (List Sp) := ts.map fun row => row.map g
theorem mapT_th {X : Ctx} (K : X.Ok) (g : Sp → Sp) (A : Option Addr) (c : Nat) {t i : Nat} (ht : t < X.n) (hi : i < X.np) : (X.withT A c (mapT g X.ts)).th t i = g (X.th t i) := by
  obtain ⟨row, h1, h2, h3, _⟩ := K.at_th ht hi
  show ((mapT g X.ts).getD t []).getD i (0, 0) = _
  unfold mapT
  simp only [List.getD_eq_getElem?_getD]
  rw [List.getElem?_map, h1, Option.map_some, Option.getD_some, List.getElem?_map, h3]
  rfl
theorem withT_ok {X : Ctx} (K : X.Ok) (g : Sp → Sp) (hg : ∀ y, spB y = true → spB (g y) = true) (A : Option Addr) (c : Nat) : (X.withT A c (mapT g X.ts)).Ok := by
  have h10 := K.n10
  have hl : (mapT g X.ts).length = X.n := by unfold mapT; rw [List.length_map, K.hl]
  refine ⟨K.hp, K.hq, K.hr, hl, ?_⟩
  show thawsI X.sit (mapT g X.ts) = 0
  unfold thawsI
  have hth : thawsB (X.sit.ps.length : Int) (mapT g X.ts) = true := by
    have h1 := (thawsI_0 K.ok).2
    unfold thawsB at h1 ⊢
    rw [List.all_eq_true] at h1 ⊢
    intro row hr
    unfold mapT at hr
    obtain ⟨r, hr2, rfl⟩ := List.mem_map.1 hr
    have h2 := h1 r hr2
    unfold rowB at h2 ⊢
    simp only [Bool.and_eq_true, decide_eq_true_eq, List.all_eq_true, List.length_map] at h2 ⊢
    refine ⟨h2.1, fun y hy => ?_⟩
    obtain ⟨z, hz, rfl⟩ := List.mem_map.1 hy
    exact hg z (h2.2 z hz)
  rw [if_neg (by omega), if_pos K.sitB, if_pos hth]
theorem withT_plan {X : Ctx} (g : Sp → Sp) {plan : List Int} (K : X.Ok) (hg : ∀ y, spB y = true → spB (g y) = true) (h : planI X.sit X.ts plan = 0) : planI X.sit (mapT g X.ts) plan = 0 := by
  obtain ⟨h1, h2, h3⟩ := planI_0 h
  have h10 := K.n10
  have hl : (mapT g X.ts).length = X.n := by unfold mapT; rw [List.length_map, K.hl]
  have hk : thawsI X.sit (mapT g X.ts) = 0 := (withT_ok K g hg none 0).ok
  rw [K.hl] at h2
  unfold planI
  rw [if_neg (by omega), if_pos hk, if_pos ⟨by rw [hl, h2], h3⟩]
def narT (lo hi : Int) (y : Sp) : Sp := (prtI y lo, prtI y hi)
theorem prt_mono {y : Sp} {p q : Int} (h : y.1 ≤ y.2) (hp : p ≤ q) : prtI y p ≤ prtI y q := by
  unfold prtI
  have h1 : (y.2 - y.1) * p ≤ (y.2 - y.1) * q := Int.mul_le_mul_of_nonneg_left hp (by omega)
  omega
theorem nar_in {lo hi : Int} (h : 0 ≤ lo ∧ lo ≤ hi ∧ hi ≤ 100) {y : Sp} (hy : spB y = true) : y.1 ≤ (narT lo hi y).1 ∧ (narT lo hi y).1 ≤ (narT lo hi y).2 ∧ (narT lo hi y).2 ≤ y.2 := by
  unfold spB at hy
  rw [withinB_iff] at hy
  exact ⟨(prt_in ⟨hy.1, hy.2.1⟩ ⟨h.1, by omega⟩).1, prt_mono hy.2.1 h.2.1, (prt_in ⟨hy.1, hy.2.1⟩ ⟨by omega, h.2.2⟩).2⟩
theorem nar_sp {lo hi : Int} (h : 0 ≤ lo ∧ lo ≤ hi ∧ hi ≤ 100) (y : Sp) (hy : spB y = true) : spB (narT lo hi y) = true := by
  have h1 := nar_in h hy
  unfold spB at hy ⊢
  rw [withinB_iff] at hy ⊢
  omega
def dpT (d : Int) (y : Sp) : Sp := (min 50000 (y.1 + d), min 50000 (y.2 + d))
theorem dp_in {d : Int} (h : 0 ≤ d) {y : Sp} (hy : spB y = true) : y.1 ≤ (dpT d y).1 ∧ y.2 ≤ (dpT d y).2 ∧ (dpT d y).1 ≤ (dpT d y).2 ∧ (dpT d y).2 ≤ 50000 := by
  unfold spB at hy
  rw [withinB_iff] at hy
  unfold dpT
  simp only
  omega
theorem dp_sp {d : Int} (h : 0 ≤ d) (y : Sp) (hy : spB y = true) : spB (dpT d y) = true := by
  have h1 := dp_in h hy
  unfold spB at hy ⊢
  rw [withinB_iff] at hy ⊢
  omega
section
variable {X : Ctx} (K : X.Ok) (A : Option Addr) (c : Nat)
include K
theorem nar_car {lo hi : Int} (h : 0 ≤ lo ∧ lo ≤ hi ∧ hi ≤ 100) {t i : Nat} (ht : t < X.n) (hi' : i < X.np) :
    X.leastC t i ≤ (X.withT A c (mapT (narT lo hi) X.ts)).leastC t i ∧ (X.withT A c (mapT (narT lo hi) X.ts)).mostC t i ≤ X.mostC t i := by
  have hB := (K.at_pile hi').2
  obtain ⟨_, _, _, _, hy⟩ := K.at_th ht hi'
  have h1 := nar_in h hy
  have e := mapT_th K (narT lo hi) A c ht hi'
  have e1 : (X.withT A c (mapT (narT lo hi) X.ts)).leastC t i = carI (X.pile i) (narT lo hi (X.th t i)).2 := by rw [← e]; rfl
  have e2 : (X.withT A c (mapT (narT lo hi) X.ts)).mostC t i = carI (X.pile i) (narT lo hi (X.th t i)).1 := by rw [← e]; rfl
  rw [e1, e2]
  exact ⟨car_mono hB h1.2.2, car_mono hB h1.1⟩
theorem dp_car {d : Int} (h : 0 ≤ d) {t i : Nat} (ht : t < X.n) (hi' : i < X.np) :
    (X.withT A c (mapT (dpT d) X.ts)).leastC t i ≤ X.leastC t i ∧ (X.withT A c (mapT (dpT d) X.ts)).mostC t i ≤ X.mostC t i := by
  have hB := (K.at_pile hi').2
  obtain ⟨_, _, _, _, hy⟩ := K.at_th ht hi'
  have h1 := dp_in h hy
  have e := mapT_th K (dpT d) A c ht hi'
  have e1 : (X.withT A c (mapT (dpT d) X.ts)).leastC t i = carI (X.pile i) (dpT d (X.th t i)).2 := by rw [← e]; rfl
  have e2 : (X.withT A c (mapT (dpT d) X.ts)).mostC t i = carI (X.pile i) (dpT d (X.th t i)).1 := by rw [← e]; rfl
  rw [e1, e2]
  exact ⟨car_mono hB h1.2.1, car_mono hB h1.1⟩
theorem nar_row {lo hi : Int} (h : 0 ≤ lo ∧ lo ≤ hi ∧ hi ≤ 100) {t i : Nat} (ht : t < X.n) (hi' : i < X.np) :
    (X.withT A c (mapT (narT lo hi) X.ts)).most t i ≤ X.most t i ∧ X.least t i ≤ (X.withT A c (mapT (narT lo hi) X.ts)).least t i := by
  have hB := (K.at_pile hi').2
  have hpl := (pilB_iff.1 hB).2.2.2.1
  obtain ⟨_, _, _, _, hy⟩ := K.at_th ht hi'
  have h1 := nar_in h hy
  have hs := nar_sp h _ hy
  have e := mapT_th K (narT lo hi) A c ht hi'
  have hl : 1 ≤ X.rs.length := by rw [K.hr]; exact K.parts.nr6.1
  have e1 : (X.withT A c (mapT (narT lo hi) X.ts)).most t i = (rowI X.rs (carI (X.pile i) (narT lo hi (X.th t i)).2) (X.pile i).h).1.hi := by rw [← e]; rfl
  have e2 : (X.withT A c (mapT (narT lo hi) X.ts)).least t i = (rowI X.rs (carI (X.pile i) (narT lo hi (X.th t i)).1) (X.pile i).l).1.lo := by rw [← e]; rfl
  unfold spB at hy hs
  rw [withinB_iff] at hy hs
  have c1 := carI_b hB (t := (X.th t i).2) (by omega)
  have c2 := carI_b hB (t := (narT lo hi (X.th t i)).1) (by omega)
  rw [e1, e2]
  exact ⟨(row_le K.parts.rs hl (C1 := carI (X.pile i) (X.th t i).2) (C2 := carI (X.pile i) (narT lo hi (X.th t i)).2) (l1 := (X.pile i).h) (l2 := (X.pile i).h) c1.1 (car_mono hB h1.2.2) (by omega) (Int.le_refl _)).2.1,
    (row_le K.parts.rs hl (C1 := carI (X.pile i) (narT lo hi (X.th t i)).1) (C2 := carI (X.pile i) (X.th t i).1) (l1 := (X.pile i).l) (l2 := (X.pile i).l) c2.1 (car_mono hB h1.1) (by omega) (Int.le_refl _)).1⟩
theorem nar_lv {lo hi : Int} (h : 0 ≤ lo ∧ lo ≤ hi ∧ hi ≤ 100) (plan : List Int) {t i : Nat} (ht : t < X.n) (hi' : i < X.np) :
    lvI X.most plan t i ≤ lvI (X.withT A c (mapT (narT lo hi) X.ts)).most plan t i ∧ lvI (X.withT A c (mapT (narT lo hi) X.ts)).least plan t i ≤ lvI X.least plan t i :=
  ⟨lv_le plan fun _ h' => (nar_row K A c h (show _ < X.n by omega) hi').1, lv_le plan fun _ h' => (nar_row K A c h (show _ < X.n by omega) hi').2⟩
end

/-! ### One jacking more -/

theorem hd_neg {f : Nat → Nat → Int} (hf : ∀ t i, 0 ≤ f t i) (plan : List Int) (i : Nat) : ∀ t, hdI f plan t i ≤ 0
  | 0 => Int.le_refl _
  | t + 1 => by
    have h1 := hd_neg hf plan i t
    have h2 := hf t i
    unfold hdI
    split <;> omega
theorem hd_more {f : Nat → Nat → Int} (hf : ∀ t i, 0 ≤ f t i) {p q : List Int} {i : Nat} (h : ∀ t, jackB (p.getD t 0) i = true → jackB (q.getD t 0) i = true) : ∀ t, hdI f p t i ≤ hdI f q t i
  | 0 => Int.le_refl _
  | t + 1 => by
    have h1 := hd_more hf h t
    have h2 := hd_neg hf p i t
    have h3 := hf t i
    have h4 := h t
    unfold hdI
    by_cases hp : jackB (p.getD t 0) i = true
    · rw [if_pos hp, if_pos (h4 hp)]
      exact Int.le_refl _
    · rw [if_neg hp]
      split <;> omega
theorem lv_more {f : Nat → Nat → Int} (hf : ∀ t i, 0 ≤ f t i) {p q : List Int} {t i : Nat} (h : ∀ t, jackB (p.getD t 0) i = true → jackB (q.getD t 0) i = true) : lvI f p t i ≤ lvI f q t i := by
  have := hd_more hf h t
  unfold lvI
  omega
theorem jack_fin : ∀ s : Fin 64, ∀ a : Fin 6, jackB (s.val : Int) a.val = false → (∀ i : Fin 6, jackB (s.val : Int) i.val = true → jackB (((s.val + 2 ^ a.val : Nat)) : Int) i.val = true) ∧ ∀ np : Fin 7, a.val < np.val → s.val < 2 ^ np.val → s.val + 2 ^ a.val < 2 ^ np.val := by decide +kernel
theorem plan_more {np : Nat} (hnp : np ≤ 6) {plan : List Int} (hB : planB np plan = true) {year a : Nat} {s : Int} (hs : plan[year]? = some s) (ha : a < np) (hj : jackB s a = false) :
    planB np (plan.set year (s + 2 ^ a)) = true ∧ ∀ t i, i < np → jackB (plan.getD t 0) i = true → jackB ((plan.set year (s + 2 ^ a)).getD t 0) i = true := by
  unfold planB at hB ⊢
  rw [List.all_eq_true] at hB
  have hsb := hB s (List.mem_of_getElem? hs)
  rw [inB_iff] at hsb
  have h64 : (2 : Nat) ^ np ≤ 2 ^ 6 := Nat.pow_le_pow_right (by decide) hnp
  have hcast : ((2 ^ np : Nat) : Int) = (2 : Int) ^ np := by simp
  have hcast2 : ((2 ^ a : Nat) : Int) = (2 : Int) ^ a := by simp
  have hpos : (0 : Int) < 2 ^ a := by rw [← hcast2]; have := Nat.two_pow_pos a; omega
  obtain ⟨n, rfl⟩ : ∃ n : Nat, s = (n : Int) := ⟨s.toNat, by omega⟩
  have hn : n < 2 ^ np := by omega
  obtain ⟨f1, f2⟩ := jack_fin ⟨n, by omega⟩ ⟨a, by omega⟩ hj
  have f3 := f2 ⟨np, by omega⟩ ha hn
  simp only at f3
  have e : ((n : Int) + 2 ^ a) = ((n + 2 ^ a : Nat) : Int) := by omega
  constructor
  · rw [List.all_eq_true]
    intro x hx
    rcases List.mem_or_eq_of_mem_set hx with h | rfl
    · exact hB x h
    · rw [inB_iff]
      omega
  · intro t i hi h
    by_cases ht : t = year
    · subst ht
      rw [List.getD_eq_getElem?_getD, hs, Option.getD_some] at h
      rw [List.getD_eq_getElem?_getD, List.getElem?_set_self (List.getElem?_eq_some_iff.1 hs).1, Option.getD_some, e]
      exact f1 ⟨i, by omega⟩ h
    · rw [List.getD_eq_getElem?_getD, List.getElem?_set_ne (fun h => ht h.symm), ← List.getD_eq_getElem?_getD]
      exact h
end Go.Proofs.YtdlaphlpimlgdaaGreatDoor
