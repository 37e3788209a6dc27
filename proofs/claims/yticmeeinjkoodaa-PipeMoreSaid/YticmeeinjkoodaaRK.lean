/- Pipes: no order leaves more slack than the best one. -/
import Derived.Test.YticmeeinjkoodaaRJ
namespace Go.Proofs.Yticmeeinjkoodaa
open Go.RowKit Go.Shelf

/-- The slack of an order, from a place, at an hour. -/
def ordS (N : Nt) : Nat → Int → List Nat → Int
  | _, _, [] => N.fr.length
  | a, t, k :: r => min (N.due 0 k - N.arr a t k) (ordS N (k + 1) (N.arr a t k) r)
/-- An order repairs just the loops of a set. -/
def ordV : Nat → List Nat → Prop
  | s, [] => s = 0
  | s, k :: r => k < 5 ∧ s.testBit k = true ∧ ordV (s - 2 ^ k) r
theorem max_mem {l : List Int} : ∀ {x : Int}, x ∈ l → x ≤ maxL l := by
  have h : ∀ (l : List Int) (a : Int), a ≤ l.foldl max a ∧ ∀ x ∈ l, x ≤ l.foldl max a := by
    intro l
    induction l with
    | nil => exact fun a => ⟨Int.le_refl _, fun _ h => absurd h (by simp)⟩
    | cons y l ih =>
      intro a
      obtain ⟨h1, h2⟩ := ih (max a y)
      rw [List.foldl_cons]
      refine ⟨by omega, fun x hx => ?_⟩
      rcases List.mem_cons.1 hx with rfl | hx
      · omega
      · exact h2 x hx
  intro x hx
  exact (h l (-1)).2 x hx
theorem by_of {N : Nt} {s a k : Nat} {t e : Int} (h0 : 0 ≤ e) (h1 : e ≤ N.due 0 k - N.arr a t k) (h2 : e ≤ slk N 0 (s - 2 ^ k) (k + 1) (N.arr a t k)) : e ≤ byI N 0 (slk N 0) s a t k := by
  unfold byI
  rw [if_neg (by omega)]
  omega
theorem slk_by {N : Nt} {s a k : Nat} {t : Int} (hk : k < 5) (hb : s.testBit k = true) : byI N 0 (slk N 0) s a t k ≤ slk N 0 s a t := by
  have hs : s ≠ 0 := fun e => by rw [e, Nat.zero_testBit] at hb; cases hb
  rw [slk_pos hs]
  exact max_mem (List.mem_map.2 ⟨k, (mem_pil hk).2 hb, rfl⟩)
/-- No order leaves more. -/
theorem ord_le {N : Nt} : ∀ (l : List Nat) (s a : Nat) (t : Int), ordV s l → 0 ≤ ordS N a t l → ordS N a t l ≤ slk N 0 s a t
  | [], s, a, t, hv, _ => by
    obtain rfl : s = 0 := hv
    rw [slk_zero]
    exact Int.le_refl _
  | k :: r, s, a, t, ⟨hk, hb, hv⟩, h0 => by
    have h1 : ordS N a t (k :: r) = min (N.due 0 k - N.arr a t k) (ordS N (k + 1) (N.arr a t k) r) := rfl
    have h2 : 0 ≤ ordS N (k + 1) (N.arr a t k) r → ordS N (k + 1) (N.arr a t k) r ≤ slk N 0 (s - 2 ^ k) (k + 1) (N.arr a t k) := ord_le r (s - 2 ^ k) (k + 1) (N.arr a t k) hv
    rw [h1] at h0
    have h2 := h2 (by omega)
    rw [← h1] at h0
    have h3 := by_of (N := N) (s := s) (a := a) (k := k) (t := t) h0 (by omega) (by omega)
    have h4 := slk_by (N := N) (s := s) (a := a) (t := t) hk hb
    omega
/-- The order that is told repairs all, and leaves so much. -/
theorem ord_told {N : Nt} {e : Int} (h0 : 0 ≤ e) (he : e ≤ N.fr.length) : ∀ (n s a : Nat) (t : Int), s ≤ n → e ≤ slk N 0 s a t → ordV s (ordI N 0 e s a t) ∧ e ≤ ordS N a t (ordI N 0 e s a t)
  | 0, s, a, t, hs, _ => by
    obtain rfl : s = 0 := by omega
    exact ⟨rfl, he⟩
  | n + 1, s, a, t, hs, h => by
    by_cases hz : s = 0
    · subst hz
      exact ⟨rfl, he⟩
    · obtain ⟨k, hf, hk, h1, h2⟩ := ord_found h0 hz h
      have hb := pil_bit hk
      have hp := bit_le hb
      have h2k : 0 < 2 ^ k := Nat.two_pow_pos k
      obtain ⟨i1, i2⟩ := ord_told h0 he n (s - 2 ^ k) (k + 1) (N.arr a t k) (by omega) h2
      rw [ordI_some hf]
      have hby := List.find?_some hf
      have hby2 : e ≤ byI N 0 (slk N 0) s a t k := by simpa using hby
      unfold byI at hby2
      rw [if_neg (by omega)] at hby2
      refine ⟨⟨pil_lt5 hk, hb, i1⟩, ?_⟩
      show e ≤ min (N.due 0 k - N.arr a t k) (ordS N (k + 1) (N.arr a t k) _)
      omega
theorem pil_sorted : ∀ (f : Nat → Bool) (n : Nat) (s : Int) (k j : Nat), ((List.range n).filter fun k => jackB s k).find? f = some k → j ∈ (List.range n).filter (fun k => jackB s k) → f j = true → k ≤ j
  | f, 0, s, k, j, h, _, _ => by simp at h
  | f, n + 1, s, k, j, h, hj, hf => by
    rw [pil_take, List.find?_append] at h
    rw [pil_take, List.mem_append] at hj
    cases hq : ((List.range n).filter fun k => jackB s k).find? f with
    | some x =>
      rw [hq] at h
      simp only [Option.some_or, Option.some.injEq] at h
      subst h
      rcases hj with hj | hj
      · exact pil_sorted f n s x j hq hj hf
      · have hx := List.mem_of_find?_eq_some hq
        have := List.mem_range.1 (List.mem_filter.1 hx).1
        have : j = n := by
          split at hj
          · simpa using hj
          · simp at hj
        omega
    | none =>
      rw [hq] at h
      simp only [Option.none_or] at h
      rcases hj with hj | hj
      · have := List.find?_eq_none.1 hq j hj
        exact absurd hf this
      · have hjn : j = n := by
          split at hj
          · simpa using hj
          · simp at hj
        have hk := List.mem_of_find?_eq_some h
        split at hk
        · have : k = n := by simpa using hk
          omega
        · simp at hk
/-- No order with as much slack comes before it. -/
theorem ord_first {N : Nt} {e : Int} (h0 : 0 ≤ e) : ∀ (l : List Nat) (s a : Nat) (t : Int), ordV s l → e ≤ ordS N a t l → befB (l.map fun k : Nat => (k : Int)) ((ordI N 0 e s a t).map fun k : Nat => (k : Int)) = false
  | [], _, _, _, _, _ => by unfold befB; rfl
  | k :: r, s, a, t, ⟨hk, hb, hv⟩, he => by
    have h1 : ordS N a t (k :: r) = min (N.due 0 k - N.arr a t k) (ordS N (k + 1) (N.arr a t k) r) := rfl
    rw [h1] at he
    have he2 : e ≤ ordS N (k + 1) (N.arr a t k) r := by omega
    have h2 := ord_le r (s - 2 ^ k) (k + 1) (N.arr a t k) hv (Int.le_trans h0 he2)
    have h3 := by_of (N := N) (s := s) (a := a) (k := k) (t := t) h0 (by omega) (by omega)
    have hs : s ≠ 0 := fun e => by rw [e, Nat.zero_testBit] at hb; cases hb
    obtain ⟨j, hf, hj, _, _⟩ := ord_found (a := a) (t := t) h0 hs (Int.le_trans h3 (slk_by hk hb))
    rw [ordI_some hf]
    have hjk : j ≤ k := pil_sorted _ 5 (s : Int) j k hf ((mem_pil hk).2 hb) (by simpa using h3)
    show (if ((k : Nat) : Int) = (j : Int) then befB (r.map fun k : Nat => (k : Int)) ((ordI N 0 e (s - 2 ^ j) (j + 1) (N.arr a t j)).map fun k : Nat => (k : Int)) else decide (((k : Nat) : Int) < (j : Int))) = false
    by_cases hjk2 : k = j
    · subst hjk2
      rw [if_pos rfl]
      exact ord_first h0 r (s - 2 ^ k) (k + 1) (N.arr a t k) hv he2
    · rw [if_neg (by omega)]
      exact decide_eq_false (by omega)
/-! ### What the specification takes for an order -/
structure IsOrd (nl s : Nat) (os : List Int) : Prop where
  inn : ∀ o ∈ os, 0 ≤ o ∧ o < nl ∧ s.testBit o.toNat = true
  dis : os.Nodup
  len : os.length = (pilL (s : Int)).length
theorem pil_subB : ((List.range 32).all fun s => (List.range 5).all fun k => !s.testBit k || (decide ((pilL ((s - 2 ^ k : Nat) : Int)).length + 1 = (pilL (s : Int)).length) && (List.range 5).all fun j => (s - 2 ^ k).testBit j == (s.testBit j && decide (j ≠ k)))) = true := by decide +kernel
theorem pil_sub (s : Nat) (hs : s < 32) (k : Nat) (hk : k < 5) (hb : s.testBit k = true) : (pilL ((s - 2 ^ k : Nat) : Int)).length + 1 = (pilL (s : Int)).length ∧ ∀ j, j < 5 → ((s - 2 ^ k).testBit j = true ↔ (s.testBit j = true ∧ j ≠ k)) := by
  have h := List.all_eq_true.1 (List.all_eq_true.1 pil_subB s (List.mem_range.2 hs)) k (List.mem_range.2 hk)
  rw [hb, Bool.not_true, Bool.false_or, Bool.and_eq_true, decide_eq_true_eq, List.all_eq_true] at h
  refine ⟨h.1, fun j hj => ?_⟩
  have h2 := h.2 j (List.mem_range.2 hj)
  rw [beq_iff_eq] at h2
  rw [h2, Bool.and_eq_true, decide_eq_true_eq]
theorem pil_noneB : ((List.range 32).all fun s => decide (s = 0) || !decide ((pilL (s : Int)).length = 0)) = true := by decide +kernel
theorem pil_none (s : Nat) (hs : s < 32) (h0 : (pilL (s : Int)).length = 0) : s = 0 := by
  have h := List.all_eq_true.1 pil_noneB s (List.mem_range.2 hs)
  simpa [h0] using h
theorem ordV_of {nl : Nat} (hn : nl ≤ 5) : ∀ (os : List Int) (s : Nat), s < 32 → IsOrd nl s os → ordV s (os.map Int.toNat)
  | [], s, hs, h => pil_none s hs h.len.symm
  | o :: r, s, hs, h => by
    obtain ⟨h1, h2, h3⟩ := h.inn o (by simp)
    obtain ⟨p1, p2⟩ := pil_sub s hs o.toNat (by omega) h3
    refine ⟨by omega, h3, ordV_of hn r (s - 2 ^ o.toNat) (Nat.lt_of_le_of_lt (Nat.sub_le _ _) hs) ⟨fun x hx => ?_, (List.nodup_cons.1 h.dis).2, ?_⟩⟩
    · obtain ⟨q1, q2, q3⟩ := h.inn x (by simp [hx])
      refine ⟨q1, q2, (p2 x.toNat (by omega)).2 ⟨q3, fun e => ?_⟩⟩
      have : x = o := by omega
      exact (List.nodup_cons.1 h.dis).1 (this ▸ hx)
    · have := h.len
      rw [List.length_cons] at this
      omega
theorem ordV_bits : ∀ (l : List Nat) (s : Nat), s < 32 → ordV s l → (∀ k ∈ l, k < 5 ∧ s.testBit k = true) ∧ l.Nodup ∧ l.length = (pilL (s : Int)).length
  | [], s, _, h => by
    obtain rfl : s = 0 := h
    exact ⟨fun _ h => absurd h (by simp), List.nodup_nil, by decide⟩
  | k :: r, s, hs, ⟨hk, hb, hv⟩ => by
    obtain ⟨p1, p2⟩ := pil_sub s hs k hk hb
    obtain ⟨i1, i2, i3⟩ := ordV_bits r (s - 2 ^ k) (Nat.lt_of_le_of_lt (Nat.sub_le _ _) hs) hv
    refine ⟨fun x hx => ?_, List.nodup_cons.2 ⟨fun hx => ?_, i2⟩, ?_⟩
    · rcases List.mem_cons.1 hx with rfl | hx
      · exact ⟨hk, hb⟩
      · exact ⟨(i1 x hx).1, ((p2 x (i1 x hx).1).1 (i1 x hx).2).1⟩
    · exact ((p2 k hk).1 (i1 k hx).2).2 rfl
    · rw [List.length_cons]
      omega
theorem isOrd_of {nl s : Nat} (hs : s < 32) (hn : s < 2 ^ nl) {l : List Nat} (h : ordV s l) : IsOrd nl s (l.map fun k : Nat => (k : Int)) := by
  obtain ⟨h1, h2, h3⟩ := ordV_bits l s hs h
  refine ⟨fun o ho => ?_, ?_, by rw [List.length_map]; exact h3⟩
  · obtain ⟨k, hk, rfl⟩ := List.mem_map.1 ho
    refine ⟨by omega, ?_, by rw [Int.toNat_natCast]; exact (h1 k hk).2⟩
    have := bit_le (h1 k hk).2
    have : 2 ^ k < 2 ^ nl := by omega
    have := (Nat.pow_lt_pow_iff_right (by decide)).1 this
    omega
  · unfold List.Nodup at h2 ⊢
    rw [List.pairwise_map]
    exact h2.imp fun h => by omega
end Go.Proofs.Yticmeeinjkoodaa
