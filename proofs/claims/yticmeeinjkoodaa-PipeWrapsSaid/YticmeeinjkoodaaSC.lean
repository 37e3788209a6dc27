/- Pipes: all orders, one after the other, and the first one with the most slack. -/
import Derived.Test.YticmeeinjkoodaaRN
namespace Go.Proofs.Yticmeeinjkoodaa
open Go.RowKit Go.Shelf

/-- One loop more behind each order. -/
def moreO (P : List Nat) (o : List Nat) : List (List Nat) := (P.filter fun l => !o.contains l).map fun l => o ++ [l]
def ordsK (P : List Nat) : Nat → List (List Nat)
  | 0 => [[]]
  | r + 1 => (ordsK P r).flatMap (moreO P)
theorem mem_ordsK {P : List Nat} : ∀ (r : Nat) (o : List Nat), o ∈ ordsK P r ↔ (o.Nodup ∧ (∀ l ∈ o, l ∈ P) ∧ o.length = r)
  | 0, o => by
    show o ∈ [[]] ↔ _
    rw [List.mem_singleton]
    constructor
    · rintro rfl
      exact ⟨List.nodup_nil, fun _ h => absurd h (by simp), rfl⟩
    · rintro ⟨_, _, h⟩
      exact List.length_eq_zero_iff.1 h
  | r + 1, o => by
    show o ∈ (ordsK P r).flatMap (moreO P) ↔ _
    rw [List.mem_flatMap]
    constructor
    · rintro ⟨q, hq, ho⟩
      obtain ⟨l, hl, rfl⟩ := List.mem_map.1 ho
      obtain ⟨h1, h2, h3⟩ := (mem_ordsK r q).1 hq
      obtain ⟨h4, h5⟩ := List.mem_filter.1 hl
      have h6 : l ∉ q := by simpa using h5
      refine ⟨?_, fun x hx => ?_, by simp [h3]⟩
      · rw [List.nodup_append]
        refine ⟨h1, by simp, fun a ha b hb => ?_⟩
        rw [List.mem_singleton] at hb
        subst hb
        exact fun e => h6 (e ▸ ha)
      · rcases List.mem_append.1 hx with hx | hx
        · exact h2 x hx
        · rw [List.mem_singleton] at hx
          exact hx ▸ h4
    · rintro ⟨h1, h2, h3⟩
      have hne : o ≠ [] := fun e => by rw [e] at h3; cases h3
      have hd := List.dropLast_concat_getLast hne
      obtain ⟨q, hq⟩ : ∃ q, o.dropLast = q := ⟨_, rfl⟩
      obtain ⟨l, hl⟩ : ∃ l, o.getLast hne = l := ⟨_, rfl⟩
      rw [hq, hl] at hd
      subst hd
      clear hq hl hne
      rw [List.nodup_append] at h1
      refine ⟨q, (mem_ordsK r q).2 ⟨h1.1, fun x hx => h2 x (List.mem_append_left _ hx), by simpa using h3⟩, List.mem_map.2 ⟨l, List.mem_filter.2 ⟨h2 l (by simp), ?_⟩, rfl⟩⟩
      have : l ∉ q := fun e => h1.2.2 l e l (by simp) rfl
      simpa using this
/-- Before, among lists of the same length. -/
def ltL : List Nat → List Nat → Prop
  | [], _ => False
  | _ :: _, [] => False
  | a :: r, b :: q => a < b ∨ (a = b ∧ ltL r q)
theorem ltL_app : ∀ (a b : List Nat) (x y : List Nat), a.length = b.length → ltL a b → ltL (a ++ x) (b ++ y)
  | [], [], _, _, _, h => absurd h (by simp [ltL])
  | [], _ :: _, _, _, h, _ => by simp at h
  | _ :: _, [], _, _, h, _ => by simp at h
  | a :: r, b :: q, x, y, hl, h => by
    rcases h with h | ⟨h, h2⟩
    · exact .inl h
    · exact .inr ⟨h, ltL_app r q x y (by simpa using hl) h2⟩
theorem ltL_last : ∀ (a : List Nat) (x y : Nat), x < y → ltL (a ++ [x]) (a ++ [y])
  | [], _, _, h => .inl h
  | _ :: r, x, y, h => .inr ⟨rfl, ltL_last r x y h⟩
theorem ordsK_sorted {P : List Nat} (hP : P.Pairwise (· < ·)) : ∀ r, (ordsK P r).Pairwise ltL
  | 0 => List.pairwise_singleton _ _
  | r + 1 => by
    show ((ordsK P r).flatMap (moreO P)).Pairwise ltL
    rw [List.pairwise_flatMap]
    refine ⟨fun o _ => ?_, ?_⟩
    · unfold moreO
      rw [List.pairwise_map]
      exact (hP.filter _).imp fun h => ltL_last o _ _ h
    · refine List.Pairwise.imp_of_mem ?_ (ordsK_sorted hP r)
      intro a b ha hb hab x hx y hy
      obtain ⟨l, _, rfl⟩ := List.mem_map.1 hx
      obtain ⟨m, _, rfl⟩ := List.mem_map.1 hy
      exact ltL_app a b _ _ (by rw [((mem_ordsK r a).1 ha).2.2, ((mem_ordsK r b).1 hb).2.2]) hab
theorem ltL_bef : ∀ (a b : List Nat), ltL a b → befB (a.map fun k : Nat => (k : Int)) (b.map fun k : Nat => (k : Int)) = true
  | [], _, h => absurd h (by simp [ltL])
  | _ :: _, [], h => absurd h (by simp [ltL])
  | a :: r, b :: q, h => by
    show (if (a : Int) = (b : Int) then befB (r.map fun k : Nat => (k : Int)) (q.map fun k : Nat => (k : Int)) else decide ((a : Int) < (b : Int))) = true
    rcases h with h | ⟨rfl, h⟩
    · rw [if_neg (by omega)]
      exact decide_eq_true (by omega)
    · rw [if_pos rfl]
      exact ltL_bef r q h
/-- The first of some orders with the most, none less than nothing. -/
def bestF (v : List Nat → Int) (x : List Nat × Int × Bool) (o : List Nat) : List Nat × Int × Bool := if decide (0 ≤ v o) && (!x.2.2 || decide (x.2.1 < v o)) then (o, v o, true) else x
def bestO (v : List Nat → Int) (l : List (List Nat)) : List Nat × Int × Bool := l.foldl (bestF v) ([], 0, false)
theorem bestO_succ (v : List Nat → Int) (l : List (List Nat)) (o : List Nat) : bestO v (l ++ [o]) = bestF v (bestO v l) o := by
  unfold bestO
  rw [List.foldl_append]
  rfl
theorem bestO_is (v : List Nat → Int) : ∀ (n : Nat) (l : List (List Nat)), l.length = n → ((bestO v l).2.2 = false → bestO v l = ([], 0, false) ∧ ∀ o ∈ l, v o < 0) ∧ ((bestO v l).2.2 = true → 0 ≤ (bestO v l).2.1 ∧ (bestO v l).2.1 = v (bestO v l).1 ∧ (∀ o ∈ l, v o ≤ (bestO v l).2.1) ∧ ∃ a b, l = a ++ (bestO v l).1 :: b ∧ ∀ o ∈ a, v o < (bestO v l).2.1)
  | 0, l, hl => by
    obtain rfl := List.length_eq_zero_iff.1 hl
    exact ⟨fun _ => ⟨rfl, fun _ h => absurd h (by simp)⟩, fun h => by cases h⟩
  | n + 1, l, hl => by
    have hne : l ≠ [] := fun e => by rw [e] at hl; cases hl
    have hd := List.dropLast_concat_getLast hne
    obtain ⟨q, hq⟩ : ∃ q, l.dropLast = q := ⟨_, rfl⟩
    obtain ⟨o, ho⟩ : ∃ o, l.getLast hne = o := ⟨_, rfl⟩
    rw [hq, ho] at hd
    subst hd
    clear hq ho hne
    obtain ⟨i1, i2⟩ := bestO_is v n q (by simpa using hl)
    rw [bestO_succ]
    obtain ⟨⟨x, c, b⟩, hx⟩ : ∃ y, bestO v q = y := ⟨_, rfl⟩
    rw [hx] at i1 i2 ⊢
    simp only at i1 i2
    by_cases h0 : 0 ≤ v o
    · cases b with
      | false =>
        have e : bestF v (x, c, false) o = (o, v o, true) := by
          unfold bestF
          rw [if_pos (by simp [h0])]
        rw [e]
        obtain ⟨_, i3⟩ := i1 rfl
        refine ⟨fun h => (by cases h), fun _ => ⟨h0, rfl, fun y hy => ?_, q, [], rfl, fun y hy => ?_⟩⟩
        · show v y ≤ v o
          rcases List.mem_append.1 hy with hy | hy
          · have := i3 y hy
            omega
          · rw [List.mem_singleton] at hy
            exact hy ▸ Int.le_refl _
        · show v y < v o
          have := i3 y hy
          omega
      | true =>
        obtain ⟨j1, j2, j3, a, bb, j4, j5⟩ := i2 rfl
        by_cases hc : c < v o
        · have e : bestF v (x, c, true) o = (o, v o, true) := by
            unfold bestF
            rw [if_pos (by simp [h0, hc])]
          rw [e]
          refine ⟨fun h => (by cases h), fun _ => ⟨h0, rfl, fun y hy => ?_, q, [], rfl, fun y hy => ?_⟩⟩
          · show v y ≤ v o
            rcases List.mem_append.1 hy with hy | hy
            · have := j3 y hy
              omega
            · rw [List.mem_singleton] at hy
              exact hy ▸ Int.le_refl _
          · show v y < v o
            have := j3 y hy
            omega
        · have e : bestF v (x, c, true) o = (x, c, true) := by
            unfold bestF
            rw [if_neg (by simp [hc])]
          rw [e]
          refine ⟨fun h => (by cases h), fun _ => ⟨j1, j2, fun y hy => ?_, a, bb ++ [o], by rw [j4]; simp, j5⟩⟩
          show v y ≤ c
          rcases List.mem_append.1 hy with hy | hy
          · exact j3 y hy
          · rw [List.mem_singleton] at hy
            rw [hy]
            omega
    · have e : bestF v (x, c, b) o = (x, c, b) := by
        unfold bestF
        rw [if_neg (by simp [h0])]
      rw [e]
      refine ⟨fun hb => ?_, fun hb => ?_⟩
      · obtain ⟨i3, i4⟩ := i1 hb
        refine ⟨i3, fun y hy => ?_⟩
        rcases List.mem_append.1 hy with hy | hy
        · exact i4 y hy
        · rw [List.mem_singleton] at hy
          rw [hy]
          omega
      · obtain ⟨j1, j2, j3, a, bb, j4, j5⟩ := i2 hb
        refine ⟨j1, j2, fun y hy => ?_, a, bb ++ [o], by rw [j4]; simp, j5⟩
        show v y ≤ c
        rcases List.mem_append.1 hy with hy | hy
        · exact j3 y hy
        · rw [List.mem_singleton] at hy
          rw [hy]
          omega
theorem pilL_sorted (s : Int) : (pilL s).Pairwise (· < ·) := by
  unfold pilL
  exact List.Pairwise.filter _ (by decide)
theorem ordV_mem {s : Nat} (hs : s < 32) {o : List Nat} : ordV s o ↔ o ∈ ordsK (pilL (s : Int)) (pilL (s : Int)).length := by
  rw [mem_ordsK]
  constructor
  · intro h
    obtain ⟨h1, h2, h3⟩ := ordV_bits o s hs h
    exact ⟨h2, fun l hl => (mem_pil (h1 l hl).1).2 (h1 l hl).2, h3⟩
  · rintro ⟨h1, h2, h3⟩
    have h := ordV_of (nl := 5) (Nat.le_refl _) (o.map fun k : Nat => (k : Int)) s hs ⟨fun x hx => ?_, ?_, by rw [List.length_map]; exact h3⟩
    · rw [List.map_map] at h
      have e : o.map (Int.toNat ∘ fun k : Nat => (k : Int)) = o := (List.map_congr_left (g := id) fun k _ => Int.toNat_natCast k).trans (List.map_id _)
      rwa [e] at h
    · obtain ⟨k, hk, rfl⟩ := List.mem_map.1 hx
      have := h2 k hk
      have := pil_lt5 this
      exact ⟨by omega, by omega, by rw [Int.toNat_natCast]; exact pil_bit (h2 k hk)⟩
    · unfold List.Nodup at h1 ⊢
      rw [List.pairwise_map]
      exact h1.imp fun h => by omega
/-- The first of all orders with the most slack is the one that is told. -/
theorem best_order {N : Nt} (K : NtOk N) {s a : Nat} (hs : s < 2 ^ N.lo.length) {sl : Int} (hsl : slk N 0 s a 0 = sl) :
    bestO (ordS N a 0) (ordsK (pilL (s : Int)) (pilL (s : Int)).length) = if sl = -1 then ([], 0, false) else (ordI N 0 sl s a 0, sl, true) := by
  have hs32 : s < 32 := Nat.lt_of_lt_of_le hs (Nat.pow_le_pow_right (show 0 < 2 by decide) K.n5.2)
  have hge := slk_ge N 0 s a 0
  have hle := slk_le (wayOk K) 0 s a (t := 0) (Int.le_refl _)
  rw [hsl] at hge hle
  obtain ⟨b1, b2⟩ := bestO_is (ordS N a 0) _ _ (rfl : (ordsK (pilL (s : Int)) (pilL (s : Int)).length).length = _)
  have hbest : ∀ o ∈ ordsK (pilL (s : Int)) (pilL (s : Int)).length, 0 ≤ ordS N a 0 o → ordS N a 0 o ≤ sl := fun o ho h => by
    have := ord_le (N := N) o s a 0 ((ordV_mem hs32).2 ho) h
    rwa [hsl] at this
  obtain ⟨⟨x, c, b⟩, hx⟩ : ∃ y, bestO (ordS N a 0) (ordsK (pilL (s : Int)) (pilL (s : Int)).length) = y := ⟨_, rfl⟩
  rw [hx] at b1 b2 ⊢
  simp only at b1 b2
  by_cases h1 : sl = -1
  · rw [if_pos h1]
    cases b with
    | false => exact (b1 rfl).1
    | true =>
      obtain ⟨c0, c1, _, p, q, hpq, _⟩ := b2 rfl
      have := hbest x (by rw [hpq]; simp) (by omega)
      omega
  · rw [if_neg h1]
    have h0 : 0 ≤ sl := by omega
    obtain ⟨t1, t2⟩ := ord_told (N := N) h0 hle s s a 0 (Nat.le_refl _) (by rw [hsl]; exact Int.le_refl _)
    have t3 := ord_le (N := N) (ordI N 0 sl s a 0) s a 0 t1 (by omega)
    rw [hsl] at t3
    have tm := (ordV_mem hs32).1 t1
    cases b with
    | false =>
      have := (b1 rfl).2 _ tm
      omega
    | true =>
      obtain ⟨c0, c1, c2, p, q, hpq, c3⟩ := b2 rfl
      have c4 := c2 _ tm
      have c5 := hbest x (by rw [hpq]; simp) (by omega)
      have hc : c = sl := by omega
      have hxo : x = ordI N 0 sl s a 0 := by
        rw [hpq] at tm
        rcases List.mem_append.1 tm with hm | hm
        · have := c3 _ hm
          omega
        · rcases List.mem_cons.1 hm with hm | hm
          · exact hm.symm
          · have hsort := ordsK_sorted (pilL_sorted (s : Int)) (pilL (s : Int)).length
            rw [hpq, List.pairwise_append] at hsort
            have hlt := (List.pairwise_cons.1 hsort.2.1).1 _ hm
            have hb := ltL_bef _ _ hlt
            have hf := ord_first (N := N) (e := sl) h0 x s a 0 ((ordV_mem hs32).2 (by rw [hpq]; simp)) (by omega)
            rw [hb] at hf
            cases hf
      rw [hxo, hc]
end Go.Proofs.Yticmeeinjkoodaa
