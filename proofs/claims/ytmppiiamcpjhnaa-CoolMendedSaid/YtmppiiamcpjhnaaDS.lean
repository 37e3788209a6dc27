/- Coolers: all sets of so many sites, as lists. -/
import Derived.Test.YtmppiiamcpjhnaaDC
namespace Go.Proofs.Ytmppiiamcpjhnaa
open Go.RowKit Go.Shelf

/-- All parts of a list with so many elements, in its order. -/
def subL {α : Type} : Nat → List α → List (List α)
  | 0, _ => [[]]
  | _ + 1, [] => []
  | m + 1, x :: r => ((subL m r).map fun o => x :: o) ++ subL (m + 1) r
theorem sub_mem {α : Type} : ∀ {m : Nat} {l o : List α}, o ∈ subL m l ↔ o.Sublist l ∧ o.length = m
  | 0, l, o => by
    simp only [subL, List.mem_singleton]
    constructor
    · rintro rfl
      exact ⟨List.nil_sublist _, rfl⟩
    · rintro ⟨_, h⟩
      exact List.eq_nil_of_length_eq_zero h
  | m + 1, [], o => by
    simp only [subL, List.not_mem_nil, false_iff]
    rintro ⟨h1, h2⟩
    rw [List.sublist_nil.1 h1] at h2
    simp at h2
  | m + 1, x :: r, o => by
    simp only [subL, List.mem_append, List.mem_map]
    constructor
    · rintro (⟨o', h, rfl⟩ | h)
      · obtain ⟨h1, h2⟩ := sub_mem.1 h
        exact ⟨h1.cons_cons x, by simp [h2]⟩
      · obtain ⟨h1, h2⟩ := sub_mem.1 h
        exact ⟨h1.cons x, h2⟩
    · rintro ⟨h1, h2⟩
      cases h1 with
      | cons _ h => exact .inr (sub_mem.2 ⟨h, h2⟩)
      | cons_cons _ h => exact .inl ⟨_, sub_mem.2 ⟨h, by simpa using h2⟩, rfl⟩
theorem flat_sub (m : Nat) : ∀ {l : List Nat}, l.Pairwise (· < ·) → (l.flatMap fun x => (subL m (l.filter fun y => decide (x < y))).map fun o => x :: o) = subL (m + 1) l
  | [], _ => rfl
  | y :: l, h => by
    obtain ⟨h1, h2⟩ := List.pairwise_cons.1 h
    have e1 : ((y :: l).filter fun z => decide (y < z)) = l := by
      rw [List.filter_cons_of_neg (by simp), List.filter_eq_self.2 fun z hz => by simpa using h1 z hz]
    have e2 : (l.flatMap fun x => (subL m ((y :: l).filter fun z => decide (x < z))).map fun o => x :: o) = subL (m + 1) l := by
      rw [← flat_sub m h2]
      unfold List.flatMap
      congr 1
      refine List.map_congr_left fun x hx => ?_
      have := h1 x hx
      rw [List.filter_cons_of_neg (by simp; omega)]
    rw [List.flatMap_cons, e1, e2]
    rfl
theorem sit_above {r x : Nat} : sitL ((aboveS r x : Nat) : Int) = (sitL (r : Int)).filter fun y => decide (x < y) := by
  unfold sitL
  rw [List.filter_filter]
  refine List.filter_congr fun k _ => ?_
  rw [jack_bit, jack_bit, above_bit, Bool.and_comm]
theorem sit_add {c x : Nat} (hx : x < 10) (hc : ∀ j, c.testBit j = true → j < x) : sitL ((c ||| 2 ^ x : Nat) : Int) = sitL (c : Int) ++ [x] := by
  refine List.Perm.eq_of_pairwise (le := fun a b : Nat => a < b) (fun a b _ _ h1 h2 => by omega) (sitL_pair _) ?_ ?_
  · refine List.pairwise_append.2 ⟨sitL_pair _, List.pairwise_singleton _ _, fun a ha b hb => ?_⟩
    rw [List.mem_singleton.1 hb]
    exact hc a (mem_sit.1 ha).2
  · refine (List.perm_ext_iff_of_nodup (sit_nodup _) ?_).2 fun j => ?_
    · refine List.nodup_append.2 ⟨sit_nodup _, by simp, fun a ha b hb => ?_⟩
      rw [List.mem_singleton.1 hb]
      have := hc a (mem_sit.1 ha).2
      omega
    · rw [List.mem_append, List.mem_singleton, mem_sit, mem_sit, Nat.testBit_or, Nat.testBit_two_pow]
      simp only [Bool.or_eq_true, decide_eq_true_eq]
      constructor
      · rintro ⟨h1, h2 | h2⟩
        · exact .inl ⟨h1, h2⟩
        · exact .inr h2.symm
      · rintro (⟨h1, h2⟩ | rfl)
        · exact ⟨h1, .inl h2⟩
        · exact ⟨hx, .inr rfl⟩
/-- The sets of so many sites are the parts of the list. -/
theorem sets_sub : ∀ (m : Nat) {c r : Nat}, (∀ i j, c.testBit i = true → r.testBit j = true → i < j) → ((setsI m c r).map fun s => sitL ((s : Nat) : Int)) = (subL m (sitL (r : Int))).map fun o => sitL (c : Int) ++ o
  | 0, c, r, _ => by simp [setsI, subL]
  | m + 1, c, r, h => by
    unfold setsI
    rw [← flat_sub m (sitL_pair _), List.map_flatMap, List.map_flatMap]
    unfold List.flatMap
    congr 1
    refine List.map_congr_left fun x hx => ?_
    have hx1 := mem_sit.1 hx
    have hcx : ∀ j, c.testBit j = true → j < x := fun j hj => h j x hj hx1.2
    rw [sets_sub m (c := c ||| 2 ^ x) (r := aboveS r x) (fun i j hi hj => by
      rw [above_bit, Bool.and_eq_true, decide_eq_true_eq] at hj
      rw [Nat.testBit_or, Nat.testBit_two_pow, Bool.or_eq_true, decide_eq_true_eq] at hi
      rcases hi with hi | hi
      · exact h i j hi hj.1
      · omega), sit_above, sit_add hx1.1 hcx, List.map_map]
    refine List.map_congr_left fun o _ => ?_
    simp
/-- They come in the order of lists. -/
theorem sub_order : ∀ (m : Nat) {l : List Int}, l.Pairwise (· < ·) → (subL m l).Pairwise fun a b => befB a b = true
  | 0, l, _ => by simp [subL]
  | m + 1, [], _ => by simp [subL]
  | m + 1, x :: l, h => by
    obtain ⟨h1, h2⟩ := List.pairwise_cons.1 h
    unfold subL
    refine List.pairwise_append.2 ⟨?_, sub_order (m + 1) h2, fun a ha b hb => ?_⟩
    · rw [List.pairwise_map]
      refine (sub_order m h2).imp fun {a b} hab => ?_
      unfold befB
      rw [if_pos rfl]
      exact hab
    · obtain ⟨a', ha', rfl⟩ := List.mem_map.1 ha
      obtain ⟨hb1, hb2⟩ := sub_mem.1 hb
      cases b with
      | nil => simp at hb2
      | cons y b =>
        have := h1 y (hb1.subset (by simp))
        unfold befB
        rw [if_neg (by omega)]
        simpa using this
end Go.Proofs.Ytmppiiamcpjhnaa
