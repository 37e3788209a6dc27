/- Texts: numbers in decimal, the parts between single bytes, lines of a word and three numbers. Lists alone. -/
import Derived.Lib.ItoaMem
import Derived.Lib.SplitLaws
import Derived.Lib.CutLaws
namespace Go.Proofs.YtdlaphlpimlgdaaGreatDoor
open Go.Lib

/-! ### Numbers -/

def valL (w : List UInt8) : Nat := w.foldl (fun n c => 10 * n + (c.toNat - 48)) 0
theorem valL_snoc (w : List UInt8) (c : UInt8) : valL (w ++ [c]) = 10 * valL w + (c.toNat - 48) := by simp [valL]
def DigL (w : List UInt8) : Prop := ∀ c ∈ w, 48 ≤ c.toNat ∧ c.toNat ≤ 57
def NumL (w : List UInt8) : Prop := w ≠ [] ∧ w.length ≤ 9 ∧ (w[0]? = some 48 → w.length ≤ 1) ∧ DigL w

theorem dd_big {u : Nat} (h : ¬ u < 10) : decDigits u = decDigits (u / 10) ++ [UInt8.ofNat (48 + u % 10)] := by rw [decDigits, dif_neg h]
theorem of_digit {k : Nat} (h : k < 10) : (UInt8.ofNat (48 + k)).toNat = 48 + k := by
  rw [UInt8.toNat_ofNat']
  omega
theorem dd_dig (u : Nat) : DigL (decDigits u) := by
  induction u using Nat.strongRecOn with
  | _ u ih =>
    by_cases h : u < 10
    · rw [decDigits_one h]
      intro c hc
      simp only [List.mem_singleton] at hc
      subst hc
      rw [of_digit h]
      omega
    · rw [dd_big h]
      intro c hc
      rcases List.mem_append.1 hc with hc | hc
      · exact ih _ (by omega) c hc
      · simp only [List.mem_singleton] at hc
        subst hc
        rw [of_digit (Nat.mod_lt _ (by decide))]
        omega
theorem dd_val (u : Nat) : valL (decDigits u) = u := by
  induction u using Nat.strongRecOn with
  | _ u ih =>
    by_cases h : u < 10
    · rw [decDigits_one h, show [UInt8.ofNat (48 + u)] = [] ++ [UInt8.ofNat (48 + u)] from rfl, valL_snoc, of_digit h]
      simp [valL]
    · rw [dd_big h, valL_snoc, ih _ (by omega), of_digit (Nat.mod_lt _ (by decide))]
      omega
theorem dd_ne (u : Nat) : decDigits u ≠ [] := by
  by_cases h : u < 10
  · rw [decDigits_one h]; simp
  · rw [dd_big h]; simp
theorem dd_head {u : Nat} (h1 : 1 ≤ u) : (decDigits u)[0]? ≠ some 48 := by
  induction u using Nat.strongRecOn with
  | _ u ih =>
    by_cases h : u < 10
    · rw [decDigits_one h]
      intro hc
      have : UInt8.ofNat (48 + u) = 48 := by simpa using hc
      have := congrArg UInt8.toNat this
      rw [of_digit h] at this
      simp at this
      omega
    · rw [dd_big h]
      have hl : 0 < (decDigits (u / 10)).length := List.length_pos_iff.2 (dd_ne _)
      rw [List.getElem?_append_left hl]
      exact ih _ (by omega) (by omega)
theorem dd_len : ∀ (k u : Nat), u < 10 ^ (k + 1) → (decDigits u).length ≤ k + 1
  | 0, u, h => by rw [decDigits_one (by simpa using h)]; simp
  | k + 1, u, h => by
    by_cases h1 : u < 10
    · rw [decDigits_one h1]; simp
    · rw [dd_big h1]
      have := dd_len k (u / 10) (by rw [Nat.pow_succ] at h; omega)
      simp only [List.length_append, List.length_cons, List.length_nil]
      omega
theorem val_lt {w : List UInt8} (h : DigL w) : valL w < 10 ^ w.length := by
  obtain ⟨l, rfl⟩ : ∃ l : List UInt8, w = l.reverse := ⟨w.reverse, by simp⟩
  induction l with
  | nil => simp [valL]
  | cons c l ih =>
    rw [List.reverse_cons] at h ⊢
    have h1 := ih fun x hx => h x (by simp [List.mem_append] at hx ⊢; exact .inl hx)
    have h2 := h c (by simp)
    rw [valL_snoc, List.length_append, List.length_singleton, Nat.pow_succ]
    omega
theorem dd_of_dig {w : List UInt8} (h0 : w ≠ []) (h : DigL w) (hz : w[0]? = some 48 → w.length ≤ 1) : decDigits (valL w) = w := by
  obtain ⟨l, rfl⟩ : ∃ l : List UInt8, w = l.reverse := ⟨w.reverse, by simp⟩
  induction l with
  | nil => simp at h0
  | cons c l ih =>
    rw [List.reverse_cons] at h hz ⊢
    have hc := h c (by simp)
    have ec : UInt8.ofNat (48 + (c.toNat - 48)) = c := by
      rw [show 48 + (c.toNat - 48) = c.toNat by omega]
      simp
    rw [valL_snoc]
    by_cases hl : l = []
    · subst hl
      simp only [List.reverse_nil, List.nil_append]
      rw [show 10 * valL [] + (c.toNat - 48) = c.toNat - 48 by simp [valL], decDigits_one (by omega), ec]
    · have hr : l.reverse ≠ [] := by simpa using hl
      have hp : 0 < l.reverse.length := List.length_pos_iff.2 hr
      have hh : l.reverse[0]? ≠ some 48 := fun e => by
        have := hz (by rw [List.getElem?_append_left hp]; exact e)
        simp only [List.length_append, List.length_singleton] at this
        omega
      have h1 := ih hr (fun x hx => h x (List.mem_append.2 (.inl hx))) (fun e => absurd e hh)
      have h2 : 1 ≤ valL l.reverse := by
        rcases Nat.eq_zero_or_pos (valL l.reverse) with e | e
        · rw [e, decDigits_one (by decide)] at h1
          rw [← h1] at hh
          exact absurd rfl hh
        · exact e
      rw [dd_big (by omega), show (10 * valL l.reverse + (c.toNat - 48)) / 10 = valL l.reverse by omega, h1,
        show (10 * valL l.reverse + (c.toNat - 48)) % 10 = c.toNat - 48 by omega, ec]
theorem numL_dd {n : Nat} (h : n < 1000000000) : NumL (decDigits n) := by
  refine ⟨dd_ne n, dd_len 8 n (by omega), fun e => ?_, dd_dig n⟩
  by_cases h1 : 1 ≤ n
  · exact absurd e (dd_head h1)
  · rw [decDigits_one (by omega)]; simp
theorem numL_val {w : List UInt8} (h : NumL w) : valL w < 1000000000 ∧ decDigits (valL w) = w := by
  obtain ⟨h0, h9, hz, hd⟩ := h
  refine ⟨?_, dd_of_dig h0 hd hz⟩
  have h1 := val_lt hd
  have h2 : 10 ^ w.length ≤ 10 ^ 9 := Nat.pow_le_pow_right (by decide) h9
  omega

def OkN (n : Int) : Prop := 0 ≤ n ∧ n < 1000000000
theorem itoa_nat {n : Int} (h : 0 ≤ n) : itoa n = decDigits n.toNat := by
  unfold itoa
  rw [if_neg (by omega)]
theorem numL_iff (w : List UInt8) : NumL w ↔ ∃ n : Int, OkN n ∧ w = itoa n := by
  constructor
  · intro h
    have := numL_val h
    exact ⟨(valL w : Nat), ⟨by omega, by omega⟩, by rw [itoa_nat (by omega)]; simp [this.2]⟩
  · rintro ⟨n, ⟨h0, h1⟩, rfl⟩
    rw [itoa_nat h0]
    exact numL_dd (by omega)
theorem val_itoa {n : Int} (h : 0 ≤ n) : (valL (itoa n) : Int) = n := by
  rw [itoa_nat h, dd_val]
  omega
theorem itoa_inj {a b : Int} (ha : 0 ≤ a) (hb : 0 ≤ b) (h : itoa a = itoa b) : a = b := by
  rw [← val_itoa ha, ← val_itoa hb, h]
theorem itoa_no {n : Int} (h : 0 ≤ n) {c : UInt8} (hc : c.toNat < 48) : c ∉ itoa n := fun hm => by
  rw [itoa_nat h] at hm
  have := dd_dig _ c hm
  omega

/-! ### Parts between single bytes -/

def pieces (c : UInt8) : List UInt8 → List (List UInt8)
  | [] => [[]]
  | x :: l => if x = c then [] :: pieces c l else match pieces c l with
    | [] => [[x]]
    | p :: ps => (x :: p) :: ps
theorem pieces_ne (c : UInt8) (l : List UInt8) : pieces c l ≠ [] := by
  cases l with
  | nil => simp [pieces]
  | cons x l =>
    unfold pieces
    split
    · simp
    · split <;> simp
theorem pieces_none {c : UInt8} : ∀ {f : List UInt8}, c ∉ f → pieces c f = [f]
  | [], _ => rfl
  | x :: f, h => by
    have h1 : ¬ x = c := fun e => h (by simp [e])
    have h2 := pieces_none (c := c) (f := f) (fun e => h (by simp [e]))
    unfold pieces
    rw [if_neg h1, h2]
theorem pieces_cut {c : UInt8} : ∀ {f : List UInt8} (r : List UInt8), c ∉ f → pieces c (f ++ c :: r) = f :: pieces c r
  | [], r, _ => by simp [pieces]
  | x :: f, r, h => by
    have h1 : ¬ x = c := fun e => h (by simp [e])
    have h2 := pieces_cut (c := c) (f := f) r (fun e => h (by simp [e]))
    rw [List.cons_append, pieces, if_neg h1, h2]
theorem first_cut {c : UInt8} : ∀ {s : List UInt8}, c ∈ s → ∃ f r, s = f ++ c :: r ∧ c ∉ f
  | [], h => by simp at h
  | x :: s, h => by
    by_cases e : x = c
    · exact ⟨[], s, by simp [e], by simp⟩
    · have : c ∈ s := by
        rcases List.mem_cons.1 h with h | h
        · exact absurd h.symm e
        · exact h
      obtain ⟨f, r, rfl, hf⟩ := first_cut this
      exact ⟨x :: f, r, rfl, fun hm => by
        rcases List.mem_cons.1 hm with h | h
        · exact e h.symm
        · exact hf h⟩
theorem cut_uniq {c : UInt8} : ∀ {f f' r r' : List UInt8}, f ++ c :: r = f' ++ c :: r' → c ∉ f → c ∉ f' → f = f' ∧ r = r'
  | [], [], r, r', h, _, _ => by simpa using h
  | [], x :: f', r, r', h, _, h2 => by simp at h; exact absurd (by simp [h.1]) h2
  | x :: f, [], r, r', h, h1, _ => by simp at h; exact absurd (by simp [h.1]) h1
  | x :: f, y :: f', r, r', h, h1, h2 => by
    simp only [List.cons_append, List.cons.injEq] at h
    obtain ⟨rfl, h⟩ := h
    obtain ⟨rfl, rfl⟩ := cut_uniq h (fun e => h1 (by simp [e])) (fun e => h2 (by simp [e]))
    exact ⟨rfl, rfl⟩
theorem pieces_one {c : UInt8} {s p : List UInt8} (h : pieces c s = [p]) : s = p ∧ c ∉ s := by
  by_cases hc : c ∈ s
  · obtain ⟨f, r, rfl, hf⟩ := first_cut hc
    rw [pieces_cut r hf] at h
    simp only [List.cons.injEq] at h
    exact absurd h.2 (pieces_ne c r)
  · rw [pieces_none hc] at h
    simp only [List.cons.injEq, and_true] at h
    exact ⟨h, hc⟩
theorem pieces_two {c : UInt8} {s p q : List UInt8} {ps : List (List UInt8)} (h : pieces c s = p :: q :: ps) : ∃ r, s = p ++ c :: r ∧ c ∉ p ∧ pieces c r = q :: ps := by
  by_cases hc : c ∈ s
  · obtain ⟨f, r, rfl, hf⟩ := first_cut hc
    rw [pieces_cut r hf] at h
    simp only [List.cons.injEq] at h
    obtain ⟨rfl, h⟩ := h
    exact ⟨r, rfl, hf, h⟩
  · rw [pieces_none hc] at h
    simp at h

theorem index_hit {c : UInt8} : ∀ {f : List UInt8} (r : List UInt8), c ∉ f → index (f ++ c :: r) [c] = f.length
  | [], r, _ => by
    rw [List.nil_append]
    unfold index
    rw [if_pos (by simp)]
    rfl
  | x :: f, r, h => by
    have h1 : ¬ c = x := fun e => h (by simp [e])
    have h2 := index_hit (c := c) (f := f) r (fun e => h (by simp [e]))
    rw [List.cons_append]
    unfold index
    rw [if_neg (by simp [h1]), h2, if_neg (by simp)]
    simp
theorem index_miss {c : UInt8} : ∀ {f : List UInt8}, c ∉ f → index f [c] = -1
  | [], _ => by unfold index; simp
  | x :: f, h => by
    have h1 : ¬ c = x := fun e => h (by simp [e])
    have h2 := index_miss (c := c) (f := f) (fun e => h (by simp [e]))
    unfold index
    rw [if_neg (by simp [h1]), h2, if_pos (by simp)]
theorem cut_hit {c : UInt8} {f : List UInt8} (r : List UInt8) (h : c ∉ f) : Lib.cut (f ++ c :: r) [c] = (f, r, true) := by
  unfold Lib.cut
  rw [index_hit r h, if_pos (by omega)]
  simp
theorem cut_miss {c : UInt8} {f : List UInt8} (h : c ∉ f) : Lib.cut f [c] = (f, [], false) := by
  unfold Lib.cut
  rw [index_miss h, if_neg (by omega)]
theorem splitK_pieces {c : UInt8} : ∀ (k : Nat) (s : List UInt8), s.count c = k → Lib.splitK [c] 0 k s = pieces c s
  | 0, s, h => by
    rw [pieces_none (List.count_eq_zero.1 h)]
    rfl
  | k + 1, s, h => by
    have hc : c ∈ s := List.count_pos_iff.1 (by omega)
    obtain ⟨f, r, rfl, hf⟩ := first_cut hc
    have hk : r.count c = k := by
      rw [List.count_append, List.count_cons_self, List.count_eq_zero.2 hf] at h
      omega
    unfold Lib.splitK
    rw [index_hit r hf, if_neg (by simp), pieces_cut r hf, ← splitK_pieces k r hk]
    simp
theorem split_pieces (c : UInt8) (s : List UInt8) : Lib.split s [c] = pieces c s := by
  unfold Lib.split
  rw [Lib.count_one]
  exact splitK_pieces _ s rfl
theorem pieces_hit {c : UInt8} : ∀ (l : List UInt8), pieces c (l ++ [c]) = pieces c l ++ [[]]
  | [] => by simp [pieces]
  | x :: l => by
    have h := pieces_hit (c := c) l
    rw [List.cons_append]
    unfold pieces
    by_cases e : x = c
    · rw [if_pos e, if_pos e, h]; rfl
    · rw [if_neg e, if_neg e, h]
      cases hp : pieces c l with
      | nil => exact absurd hp (pieces_ne c l)
      | cons p ps => rfl
theorem pieces_miss {c x : UInt8} (hx : x ≠ c) : ∀ (l : List UInt8), ∃ ps p, pieces c l = ps ++ [p] ∧ pieces c (l ++ [x]) = ps ++ [p ++ [x]]
  | [] => ⟨[], [], rfl, by simp [pieces, hx]⟩
  | y :: l => by
    obtain ⟨ps, p, h1, h2⟩ := pieces_miss hx l
    rw [List.cons_append]
    unfold pieces
    by_cases e : y = c
    · rw [if_pos e, if_pos e, h1, h2]
      exact ⟨[] :: ps, p, rfl, rfl⟩
    · rw [if_neg e, if_neg e, h1, h2]
      cases ps with
      | nil => exact ⟨[], y :: p, rfl, rfl⟩
      | cons q qs => exact ⟨(y :: q) :: qs, p, rfl, rfl⟩
theorem pieces_len {c : UInt8} : ∀ (l : List UInt8), (pieces c l).length ≤ l.length + 1 ∧ ∀ p ∈ pieces c l, p.length ≤ l.length
  | [] => ⟨by simp [pieces], fun p hp => by simp [pieces] at hp; simp [hp]⟩
  | x :: l => by
    obtain ⟨h1, h2⟩ := pieces_len (c := c) l
    unfold pieces
    by_cases e : x = c
    · rw [if_pos e]
      refine ⟨by simp only [List.length_cons]; omega, fun p hp => ?_⟩
      rcases List.mem_cons.1 hp with rfl | hp
      · simp
      · have := h2 p hp; simp only [List.length_cons]; omega
    · rw [if_neg e]
      cases hp : pieces c l with
      | nil => exact absurd hp (pieces_ne c l)
      | cons p ps =>
        rw [hp] at h1 h2
        refine ⟨by simp only [List.length_cons] at h1 ⊢; omega, fun q hq => ?_⟩
        rcases List.mem_cons.1 hq with rfl | hq
        · have := h2 p (by simp); simp only [List.length_cons]; omega
        · have := h2 q (by simp [hq]); simp only [List.length_cons]; omega
end Go.Proofs.YtdlaphlpimlgdaaGreatDoor
