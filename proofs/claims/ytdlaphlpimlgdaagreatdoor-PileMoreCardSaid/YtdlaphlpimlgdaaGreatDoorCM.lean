/- What follows of rows, levels and faults: the reckoning. -/
import Derived.Test.YtdlaphlpimlgdaaGreatDoorCF
namespace Go.Proofs.YtdlaphlpimlgdaaGreatDoor
open Go.RowKit

theorem rows_step {rs : List Rw} (h : rwsGo ⟨-1, 0, 0⟩ rs = true) {k : Nat} {x y : Rw} (hx : rs[k]? = some x) (hy : rs[k + 1]? = some y) : x.u < y.u ∧ x.lo ≤ y.lo ∧ x.hi ≤ y.hi := by
  have h1 := rwsGo_iff.1 h (k + 1) y hy
  rw [if_neg (by omega), Nat.add_sub_cancel, List.getD_eq_getElem?_getD, hx] at h1
  unfold rwB at h1
  simp only [Bool.and_eq_true, inB_iff, withinB_iff, decide_eq_true_eq, Option.getD_some] at h1
  omega
theorem rows_mono {rs : List Rw} (h : rwsGo ⟨-1, 0, 0⟩ rs = true) {j : Nat} {x : Rw} (hx : rs[j]? = some x) : ∀ (d : Nat) (y : Rw), rs[j + d]? = some y → x.u ≤ y.u ∧ x.lo ≤ y.lo ∧ x.hi ≤ y.hi
  | 0, y, hy => by rw [Nat.add_zero, hx] at hy; injection hy with hy; subst hy; omega
  | d + 1, y, hy => by
    have hk : j + d < rs.length := by have := (List.getElem?_eq_some_iff.1 hy).1; omega
    obtain ⟨z, hz⟩ := get_of_lt hk
    have h1 := rows_mono h hx d z hz
    have h2 := rows_step h hz hy
    omega
theorem rows_le {rs : List Rw} (h : rwsGo ⟨-1, 0, 0⟩ rs = true) {j k : Nat} {x y : Rw} (hjk : j ≤ k) (hx : rs[j]? = some x) (hy : rs[k]? = some y) : x.u ≤ y.u ∧ x.lo ≤ y.lo ∧ x.hi ≤ y.hi :=
  rows_mono h hx (k - j) y (by rw [show j + (k - j) = k by omega]; exact hy)
theorem find_le {α : Type} {p q : α → Bool} (hpq : ∀ x, p x = true → q x = true) : ∀ {rs : List α} {x : α}, rs.find? p = some x → ∃ (y : α) (j k : Nat), rs.find? q = some y ∧ j ≤ k ∧ rs[j]? = some y ∧ rs[k]? = some x
  | [], x, h => by simp at h
  | r :: rs, x, h => by
    rw [List.find?_cons] at h
    cases hp : p r with
    | true =>
      rw [hp] at h
      injection h with h
      subst h
      exact ⟨r, 0, 0, by rw [List.find?_cons, hpq _ hp], Nat.le_refl _, rfl, rfl⟩
    | false =>
      rw [hp] at h
      obtain ⟨k, hk⟩ : ∃ k, (r :: rs)[k]? = some x := List.mem_iff_getElem?.1 (List.mem_cons_of_mem _ (List.mem_of_find?_eq_some h))
      cases hq : q r with
      | true => exact ⟨r, 0, k, by rw [List.find?_cons, hq], Nat.zero_le _, rfl, hk⟩
      | false =>
        obtain ⟨y, j, k, h1, h2, h3, h4⟩ := find_le hpq h
        exact ⟨y, j + 1, k + 1, by rw [List.find?_cons, hq]; exact h1, by omega, by simpa using h3, by simpa using h4⟩
theorem last_at {rs : List Rw} (h1 : 1 ≤ rs.length) : rs[rs.length - 1]? = some (lastR rs) := by
  unfold lastR
  rw [List.getLastD_eq_getLast?, List.getLast?_eq_getElem?, List.getElem?_eq_getElem (by omega)]
  rfl
theorem use_mono {C1 C2 l1 l2 : Int} (h0 : 0 < C1) (h1 : C1 ≤ C2) (h2 : 0 ≤ l2) (h3 : l2 ≤ l1) : useI C2 l2 ≤ useI C1 l1 := by
  unfold useI
  obtain ⟨q, hq⟩ : ∃ q, (1000 * l1 + C1 - 1) / C1 = q := ⟨_, rfl⟩
  rw [hq]
  have a1 : 1000 * l1 + C1 - 1 < (q + 1) * C1 := by rw [← hq]; exact Int.lt_ediv_add_one_mul_self _ h0
  have q0 : 0 ≤ q := by rw [← hq]; exact Int.ediv_nonneg (by omega) (by omega)
  have a2 : q * C1 ≤ q * C2 := Int.mul_le_mul_of_nonneg_left h1 q0
  have a3 : (q + 1) * C1 = q * C1 + C1 := by rw [Int.add_mul, Int.one_mul]
  have a4 : (q + 1) * C2 = q * C2 + C2 := by rw [Int.add_mul, Int.one_mul]
  exact Int.lt_add_one_iff.1 (Int.ediv_lt_of_lt_mul (by omega) (by omega))
/-- Who carries less, or bears more, settles more. -/
theorem row_le {rs : List Rw} (h : rwsGo ⟨-1, 0, 0⟩ rs = true) (hl : 1 ≤ rs.length) {C1 C2 l1 l2 : Int} (h0 : 0 ≤ C1) (h1 : C1 ≤ C2) (h2 : 0 ≤ l2) (h3 : l2 ≤ l1) :
    (rowI rs C2 l2).1.lo ≤ (rowI rs C1 l1).1.lo ∧ (rowI rs C2 l2).1.hi ≤ (rowI rs C1 l1).1.hi ∧ ((rowI rs C2 l2).2 = true → (rowI rs C1 l1).2 = true) := by
  have hlast : ∀ (C l : Int), (rowI rs C l).1.lo ≤ (lastR rs).lo ∧ (rowI rs C l).1.hi ≤ (lastR rs).hi := fun C l => by
    unfold rowI
    split
    · exact ⟨Int.le_refl _, Int.le_refl _⟩
    · split
      · rename_i r hr
        obtain ⟨k, hk⟩ := List.mem_iff_getElem?.1 (List.mem_of_find?_eq_some hr)
        have hkl := (List.getElem?_eq_some_iff.1 hk).1
        have := rows_le h (show k ≤ rs.length - 1 by omega) hk (last_at hl)
        exact this.2
      · exact ⟨Int.le_refl _, Int.le_refl _⟩
  have e1 := hlast C2 l2
  by_cases c1 : C1 = 0
  · have hr : rowI rs C1 l1 = (lastR rs, true) := by unfold rowI; rw [if_pos c1]
    rw [hr]
    exact ⟨e1.1, e1.2, fun _ => rfl⟩
  · have hu := use_mono (C1 := C1) (C2 := C2) (l1 := l1) (l2 := l2) (by omega) h1 h2 h3
    cases hf : rs.find? (fun r => decide (useI C1 l1 ≤ r.u)) with
    | none =>
      have hr : rowI rs C1 l1 = (lastR rs, true) := by unfold rowI; rw [if_neg c1, hf]
      rw [hr]
      exact ⟨e1.1, e1.2, fun _ => rfl⟩
    | some x =>
      obtain ⟨y, j, k, g1, g2, g3, g4⟩ := find_le (q := fun r => decide (useI C2 l2 ≤ r.u)) (fun r hr => by simp only [decide_eq_true_eq] at hr ⊢; omega) hf
      have r1 : rowI rs C1 l1 = (x, false) := by unfold rowI; rw [if_neg c1, hf]
      have r2 : rowI rs C2 l2 = (y, false) := by unfold rowI; rw [if_neg (by omega), g1]
      have := rows_le h g2 g3 g4
      rw [r1, r2]
      exact ⟨this.2.1, this.2.2, fun e => by simp at e⟩
/-- Who settles more lies lower. -/
theorem hd_le {f g : Nat → Nat → Int} (plan : List Int) {i : Nat} : ∀ (t : Nat), (∀ t', t' < t → g t' i ≤ f t' i) → hdI f plan t i ≤ hdI g plan t i
  | 0, _ => Int.le_refl _
  | t + 1, h => by
    have h1 := hd_le plan t fun t' ht => h t' (by omega)
    have h2 := h t (by omega)
    unfold hdI
    split
    · exact Int.le_refl _
    · omega
theorem lv_le {f g : Nat → Nat → Int} (plan : List Int) {t i : Nat} (h : ∀ t', t' ≤ t → g t' i ≤ f t' i) : lvI f plan t i ≤ lvI g plan t i := by
  have h1 := hd_le plan t fun t' ht => h t' (by omega)
  have h2 := h t (Nat.le_refl _)
  unfold lvI
  omega
theorem hd_eq {f g : Nat → Nat → Int} (plan : List Int) {i : Nat} (t : Nat) (h : ∀ t', t' < t → g t' i = f t' i) : hdI f plan t i = hdI g plan t i :=
  Int.le_antisymm (hd_le plan t fun t' ht => Int.le_of_eq (h t' ht)) (hd_le plan t fun t' ht => Int.le_of_eq (h t' ht).symm)
theorem lv_eq {f g : Nat → Nat → Int} (plan : List Int) {t i : Nat} (h : ∀ t', t' ≤ t → g t' i = f t' i) : lvI f plan t i = lvI g plan t i :=
  Int.le_antisymm (lv_le plan fun t' ht => Int.le_of_eq (h t' ht)) (lv_le plan fun t' ht => Int.le_of_eq (h t' ht).symm)
theorem lvT_eq {f g : Nat → Nat → Int} {plan : List Int} {np : Nat} (h : ∀ t i, t < plan.length → i < np → g t i = f t i) : lvT f plan np = lvT g plan np := by
  unfold lvT lvL
  refine List.map_congr_left fun t ht => List.map_congr_left fun i hi => ?_
  rw [List.mem_range] at ht hi
  exact lv_eq plan fun t' ht' => h t' i (by omega) hi
end Go.Proofs.YtdlaphlpimlgdaaGreatDoor
