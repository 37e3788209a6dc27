/- A level book of which one digit was changed is no document. Lists alone. -/
import Derived.Test.YtdlaphlpimlgdaaGreatDoorEC
namespace Go.Proofs.YtdlaphlpimlgdaaGreatDoor
open Go.RowKit

theorem pieces_cons_ne {c x : UInt8} {l p : List UInt8} {ps : List (List UInt8)} (hx : x ≠ c) (h : pieces c l = p :: ps) : pieces c (x :: l) = (x :: p) :: ps := by
  rw [pieces, if_neg hx, h]
theorem pieces_set {c x y : UInt8} (hx : x ≠ c) (hy : y ≠ c) : ∀ {l : List UInt8} {i : Nat}, l[i]? = some x → ∃ j p i', (pieces c l)[j]? = some p ∧ p[i']? = some x ∧ pieces c (l.set i y) = (pieces c l).set j (p.set i' y)
  | [], i, h => by simp at h
  | z :: l, 0, h => by
    have hz : z = x := by simpa using h
    subst hz
    cases hp : pieces c l with
    | nil => exact absurd hp (pieces_ne c l)
    | cons p ps =>
      rw [pieces_cons_ne hx hp]
      refine ⟨0, z :: p, 0, rfl, rfl, ?_⟩
      rw [List.set_cons_zero, pieces_cons_ne hy hp]
      rfl
  | z :: l, i + 1, h => by
    obtain ⟨j, p, i', h1, h2, h3⟩ := pieces_set hx hy (l := l) (i := i) (by simpa using h)
    rw [List.set_cons_succ]
    by_cases hz : z = c
    · refine ⟨j + 1, p, i', ?_, h2, ?_⟩
      · rw [pieces, if_pos hz]
        simpa using h1
      · rw [pieces, if_pos hz, pieces, if_pos hz, h3, List.set_cons_succ]
    · cases hp : pieces c l with
      | nil => exact absurd hp (pieces_ne c l)
      | cons q qs =>
        rw [hp] at h1 h3
        rw [pieces_cons_ne hz hp]
        cases j with
        | zero =>
          have hq : q = p := by simpa using h1
          subst hq
          refine ⟨0, z :: q, i' + 1, rfl, by simpa using h2, ?_⟩
          rw [pieces_cons_ne hz (h3.trans (List.set_cons_zero ..)), List.set_cons_zero, List.set_cons_succ]
        | succ j =>
          refine ⟨j + 1, p, i', by simpa using h1, h2, ?_⟩
          rw [pieces_cons_ne hz (h3.trans (List.set_cons_succ ..)), List.set_cons_succ]
theorem set_ne {p : List UInt8} {i : Nat} {x y : UInt8} (h : p[i]? = some x) (e : p.set i y = p) : x = y := by
  obtain ⟨hi, h1⟩ := List.getElem?_eq_some_iff.1 h
  have h2 := congrArg (fun l => l[i]?) e
  simp only [List.getElem?_set_self hi, h] at h2
  exact (Option.some.inj h2).symm

/-! ### One digit of a number -/

theorem valL_set {x y : UInt8} (hx : 48 ≤ x.toNat ∧ x.toNat ≤ 57) (hy : 48 ≤ y.toNat ∧ y.toNat ≤ 57) {w : List UInt8} : ∀ {i : Nat}, w[i]? = some x → ∃ e, e < w.length ∧ (valL (w.set i y) : Int) = valL w + ((y.toNat : Int) - x.toNat) * 10 ^ e := by
  obtain ⟨l, rfl⟩ : ∃ l : List UInt8, w = l.reverse := ⟨w.reverse, by simp⟩
  induction l with
  | nil => intro i h; simp at h
  | cons c l ih =>
    intro i h
    rw [List.reverse_cons] at h ⊢
    by_cases hi : i < l.reverse.length
    · rw [List.getElem?_append_left hi] at h
      obtain ⟨e, he, h1⟩ := ih h
      refine ⟨e + 1, by simp only [List.length_append, List.length_singleton]; omega, ?_⟩
      rw [List.set_append_left _ _ hi, valL_snoc, valL_snoc, Int.pow_succ, ← Int.mul_assoc]
      omega
    · have hlen := (List.getElem?_eq_some_iff.1 h).1
      simp only [List.length_append, List.length_singleton] at hlen
      have hie : i = l.reverse.length := by omega
      subst hie
      rw [List.getElem?_append_right (Nat.le_refl _), Nat.sub_self] at h
      have hc : c = x := by simpa using h
      subst hc
      refine ⟨0, by simp, ?_⟩
      rw [List.set_append_right _ _ (Nat.le_refl _), Nat.sub_self, List.set_cons_zero, valL_snoc, valL_snoc, Int.pow_zero, Int.mul_one]
      omega
theorem itoa_set {a b : Int} {x y : UInt8} (hx : 48 ≤ x.toNat ∧ x.toNat ≤ 57) (hy : 48 ≤ y.toNat ∧ y.toNat ≤ 57) {i : Nat} (h : (Lib.itoa a)[i]? = some x) (e : Lib.itoa b = (Lib.itoa a).set i y) (ha : -100000 ≤ a ∧ a ≤ 100000) :
    ∃ k, k < 6 ∧ ckE b = ckE a + 2 * (((y.toNat : Int) - x.toNat) * 10 ^ k) := by
  have h45 : (45 : UInt8).toNat = 45 := rfl
  unfold ckE
  by_cases h0 : a < 0
  · rw [itoa_neg h0] at h e
    cases i with
    | zero =>
      have : x = 45 := by simpa using h.symm
      rw [this] at hx
      omega
    | succ i =>
      rw [List.set_cons_succ] at e
      have hb : b < 0 := by
        rcases Int.lt_or_le b 0 with hb | hb
        · exact hb
        · have hm : (45 : UInt8) ∈ Lib.itoa b := by rw [e]; simp
          rw [itoa_nat hb] at hm
          have := dd_dig _ _ hm
          omega
      rw [itoa_neg hb] at e
      simp only [List.cons.injEq, true_and] at e
      obtain ⟨k, hk, hv⟩ := valL_set hx hy (w := Lib.decDigits a.natAbs) (i := i) (by simpa using h)
      rw [← e, dd_val, dd_val] at hv
      have hl := dd_len 5 a.natAbs (by omega)
      refine ⟨k, by omega, ?_⟩
      rw [if_pos hb, if_pos h0]
      omega
  · rw [itoa_nat (n := a) (by omega)] at h e
    have hb : ¬ b < 0 := fun hb => by
      rw [itoa_neg hb] at e
      have hm : (45 : UInt8) ∈ (Lib.decDigits a.toNat).set i y := by rw [← e]; simp
      rcases List.mem_or_eq_of_mem_set hm with hm | hm
      · have := dd_dig _ _ hm
        omega
      · rw [← hm] at hy
        omega
    rw [itoa_nat (n := b) (by omega)] at e
    obtain ⟨k, hk, hv⟩ := valL_set hx hy (w := Lib.decDigits a.toNat) (i := i) h
    rw [← e, dd_val, dd_val] at hv
    have hl := dd_len 5 a.toNat (by omega)
    refine ⟨k, by omega, ?_⟩
    rw [if_neg hb, if_neg h0]
    omega

/-! ### The check -/

theorem ckIn_diff (t : Nat) (r r' : List Int) (S S' D : Int) (m : Nat) (h : ∀ i, i ≠ m → r'.getD i 0 = r.getD i 0) (hm : ckE (r'.getD m 0) = ckE (r.getD m 0) + D) : ∀ j, (ckIn t r' S' j - ckIn t r S j - (S' - S) - (if m < j then D * ((m : Int) + 1) * ((t : Int) + 1) else 0)) % 997 = 0
  | 0 => by
    rw [if_neg (by omega)]
    unfold ckIn
    simp only [List.range_zero, List.foldl_nil]
    omega
  | j + 1 => by
    have ih := ckIn_diff t r r' S S' D m h hm j
    rw [ckIn_succ, ckIn_succ]
    unfold ckS
    by_cases hj : j = m
    · subst hj
      rw [hm, Int.add_mul, Int.add_mul, if_pos (by omega)]
      rw [if_neg (by omega)] at ih
      omega
    · rw [h j hj]
      by_cases hjm : m < j
      · rw [if_pos (by omega)]
        rw [if_pos hjm] at ih
        omega
      · rw [if_neg (by omega)]
        rw [if_neg hjm] at ih
        omega
theorem ckIn_same (t : Nat) (r : List Int) (S S' : Int) (j : Nat) : (ckIn t r S' j - ckIn t r S j - (S' - S)) % 997 = 0 := by
  have h := ckIn_diff t r r S S' 0 0 (fun _ _ => rfl) (by omega) j
  simp only [Int.zero_mul, ite_self] at h
  omega
theorem ckAll_diff (ts us : List (List Int)) (t m : Nat) (D : Int) (h : ∀ j, j ≠ t → us.getD j [] = ts.getD j []) (hl : (us.getD t []).length = (ts.getD t []).length) (hml : m < (ts.getD t []).length)
    (hr : ∀ i, i ≠ m → (us.getD t []).getD i 0 = (ts.getD t []).getD i 0) (hm : ckE ((us.getD t []).getD m 0) = ckE ((ts.getD t []).getD m 0) + D) : ∀ k, (ckAll us k - ckAll ts k - (if t < k then D * ((m : Int) + 1) * ((t : Int) + 1) else 0)) % 997 = 0
  | 0 => by simp [ckAll]
  | k + 1 => by
    have ih := ckAll_diff ts us t m D h hl hml hr hm k
    rw [ckAll_succ, ckAll_succ]
    by_cases hk : k = t
    · subst hk
      have h1 := ckIn_diff k (ts.getD k []) (us.getD k []) (ckAll ts k) (ckAll us k) D m hr hm (ts.getD k []).length
      rw [hl, if_pos (by omega)]
      rw [if_pos hml] at h1
      rw [if_neg (by omega)] at ih
      omega
    · rw [h k hk]
      have h1 := ckIn_same k (ts.getD k []) (ckAll ts k) (ckAll us k) (ts.getD k []).length
      by_cases hkt : t < k
      · rw [if_pos (by omega)]
        rw [if_pos hkt] at ih
        omega
      · rw [if_neg (by omega)]
        rw [if_neg hkt] at ih
        omega
theorem itoa_thousand {S : Int} (h : 0 ≤ S ∧ S < 997) : ∃ d, Lib.itoa (1000 + S) = 49 :: d := by
  rw [itoa_nat (by omega)]
  obtain ⟨u, hu⟩ : ∃ u, (1000 + S).toNat = u := ⟨_, rfl⟩
  rw [hu, dd_big (by omega), dd_big (u := u / 10) (by omega), dd_big (u := u / 10 / 10) (by omega), show u / 10 / 10 / 10 = 1 by omega, Lib.decDigits_one (by decide)]
  exact ⟨_, rfl⟩
theorem ckT_inj {ts us : List (List Int)} (h : ckT us = ckT ts) : ckAll us us.length = ckAll ts ts.length := by
  have h1 := ckAll_b us us.length; have h2 := ckAll_b ts ts.length
  obtain ⟨d, hd⟩ := itoa_thousand h1
  obtain ⟨e, he⟩ := itoa_thousand h2
  unfold ckT at h
  rw [hd, he] at h
  simp only [List.drop_succ_cons, List.drop_zero] at h
  rw [h, ← he] at hd
  have := itoa_injZ hd
  omega
theorem no_zero : ∀ d : Fin 9, ∀ e : Fin 6, ∀ m : Fin 6, ∀ t : Fin 10, (2 * ((d.val + 1) * 10 ^ e.val) * (m.val + 1) * (t.val + 1)) % 997 ≠ 0 := by decide +kernel
theorem no_zeroI {d : Int} {e m t : Nat} (hd : d ≠ 0) (hd9 : -9 ≤ d ∧ d ≤ 9) (he : e < 6) (hm : m < 6) (ht : t < 10) : (2 * (d * 10 ^ e) * ((m : Int) + 1) * ((t : Int) + 1)) % 997 ≠ 0 := by
  have key : ∀ n : Nat, 1 ≤ n → n ≤ 9 → ((2 * ((n : Int) * 10 ^ e) * ((m : Int) + 1) * ((t : Int) + 1)) % 997 ≠ 0) := fun n h1 h9 => by
    have h := no_zero ⟨n - 1, by omega⟩ ⟨e, he⟩ ⟨m, hm⟩ ⟨t, ht⟩
    simp only [show n - 1 + 1 = n by omega] at h
    intro hz
    apply h
    have h3 : ((2 * (n * 10 ^ e) * (m + 1) * (t + 1) : Nat) : Int) = 2 * ((n : Int) * 10 ^ e) * ((m : Int) + 1) * ((t : Int) + 1) := by simp
    omega
  rcases Int.lt_or_le 0 d with h | h
  · have := key d.toNat (by omega) (by omega)
    rwa [show ((d.toNat : Nat) : Int) = d by omega] at this
  · have h1 := key (-d).toNat (by omega) (by omega)
    rw [show (((-d).toNat : Nat) : Int) = -d by omega] at h1
    rw [Int.neg_mul, Int.mul_neg, Int.neg_mul, Int.neg_mul] at h1
    omega

/-! ### The book -/

theorem doc_line (us : List (List Int)) (qs : Int) {t : Nat} (h : t < us.length) : (pieces 10 (docT us qs))[t + 1]? = some (yearP us t) := by
  rw [doc_pieces, List.getElem?_cons_succ]
  exact range_map_get h _
theorem doc_last (us : List (List Int)) (qs : Int) : (pieces 10 (docT us qs))[us.length + 1]? = some (endP us) ∧ (pieces 10 (docT us qs))[us.length + 2]? = some [] ∧ (pieces 10 (docT us qs)).length = us.length + 3 ∧ (pieces 10 (docT us qs))[0]? = some (headP us.length qs) := by
  rw [doc_pieces]
  refine ⟨?_, ?_, by simp, rfl⟩
  · rw [List.getElem?_cons_succ, List.getElem?_append_right (by simp)]
    simp
  · rw [List.getElem?_cons_succ, List.getElem?_append_right (by simp)]
    simp
theorem rows_eq {us ts : List (List Int)} (hl : us.length = ts.length) (h : ∀ t, t < ts.length → us.getD t [] = ts.getD t []) : us = ts := by
  apply List.ext_getElem hl
  intro t h1 h2
  have := h t h2
  rwa [List.getD_eq_getElem?_getD, List.getD_eq_getElem?_getD, List.getElem?_eq_getElem h1, List.getElem?_eq_getElem h2] at this
theorem spoilt_no {ts : List (List Int)} (hb : bookB ts = true) {i : Nat} {x y : UInt8} (hx : (bookT ts)[i]? = some x) (hxy : x ≠ y) (hxd : 48 ≤ x.toNat ∧ x.toNat ≤ 57) (hyd : 48 ≤ y.toNat ∧ y.toNat ≤ 57) : NoDoc ((bookT ts).set i y) := by
  obtain ⟨⟨b1, b2⟩, np, ⟨b3, b4⟩, b5, b6⟩ := book_spec hb
  have d0 := doc_of_book hb
  rw [docT_book] at hx ⊢
  rw [b5] at d0 hx ⊢
  intro us qs d e
  have ne : ∀ c : UInt8, c.toNat < 48 → x ≠ c ∧ y ≠ c := fun c hc => ⟨fun h => by rw [h] at hxd; omega, fun h => by rw [h] at hyd; omega⟩
  obtain ⟨j, p, i', h1, h2, h3⟩ := pieces_set (ne 10 (by decide)).1 (ne 10 (by decide)).2 hx
  rw [e] at h3
  obtain ⟨u1, u2, u3, u4⟩ := doc_last us qs
  obtain ⟨t1, t2, t3, t4⟩ := doc_last ts (np : Int)
  have hn : us.length = ts.length := by
    have := congrArg List.length h3
    rw [List.length_set, u3, t3] at this
    omega
  have hjl : j < ts.length + 3 := by rw [← t3]; exact (List.getElem?_eq_some_iff.1 h1).1
  -- the other lines are the same
  have other : ∀ k, k ≠ j → (pieces 10 (docT us qs))[k]? = (pieces 10 (docT ts (np : Int)))[k]? := fun k hk => by rw [h3, List.getElem?_set_ne (fun h => hk h.symm)]
  have this' : (pieces 10 (docT us qs))[j]? = some (p.set i' y) := by rw [h3, List.getElem?_set_self (by rw [t3]; exact hjl)]
  have yr : ∀ t, t < ts.length → t + 1 ≠ j → us.getD t [] = ts.getD t [] := fun t ht hne => by
    have h := other (t + 1) hne
    rw [doc_line us qs (by omega), doc_line ts np ht] at h
    exact yearP_inj (Option.some.inj h)
  rcases Nat.eq_zero_or_pos j with hj0 | hj0
  · -- the first line
    subst hj0
    have hus : us = ts := rows_eq hn fun t ht => yr t ht (by omega)
    subst hus
    obtain ⟨row, hrow⟩ : ∃ row, us[0]? = some row := ⟨_, List.getElem?_eq_getElem (by omega)⟩
    have q1 := (d.rows row (List.mem_of_getElem? hrow)).1
    have q2 := (b6 row (List.mem_of_getElem? hrow)).1
    have hq : qs = (np : Int) := by omega
    rw [u4, hq] at this'
    rw [t4] at h1
    obtain rfl := Option.some.inj h1
    exact hxy (set_ne h2 (Option.some.inj this').symm)
  · have hh := other 0 (by omega)
    rw [u4, t4] at hh
    obtain ⟨_, hq⟩ := headP_inj (Option.some.inj hh)
    rcases Nat.lt_or_ge ts.length j with hgt | hle
    · have hus : us = ts := rows_eq hn fun t ht => yr t ht (by omega)
      subst hus
      subst hq
      rw [h1] at this'
      exact hxy (set_ne h2 (Option.some.inj this').symm)
    · obtain ⟨t, rfl⟩ : ∃ t, j = t + 1 := ⟨j - 1, by omega⟩
      have htl : t < ts.length := by omega
      have he := other (ts.length + 1) (by omega)
      rw [t1, ← hn, u1] at he
      have hck : ckT us = ckT ts := by
        have h4 := congrArg (pieces 32) (Option.some.inj he)
        rw [endP_pieces, endP_pieces] at h4
        simpa using h4
      have hS := ckT_inj hck
      rw [hn] at hS
      rw [doc_line ts np htl] at h1
      obtain rfl := Option.some.inj h1
      rw [doc_line us qs (by omega)] at this'
      have hy2 := Option.some.inj this'
      obtain ⟨j2, p2, i2, g1, g2, g3⟩ := pieces_set (ne 32 (by decide)).1 (ne 32 (by decide)).2 h2
      rw [← hy2, year_pieces, year_pieces] at g3
      rw [year_pieces] at g1
      obtain ⟨R, hR⟩ : ∃ z, ts.getD t [] = z := ⟨_, rfl⟩
      obtain ⟨R', hR'⟩ : ∃ z, us.getD t [] = z := ⟨_, rfl⟩
      rw [hR] at g1 g3
      rw [hR'] at g3
      have hRm : R ∈ ts := by
        rw [← hR, List.getD_eq_getElem?_getD, List.getElem?_eq_getElem htl]
        exact List.getElem_mem htl
      have hRl := (b6 R hRm).1
      match j2, g1, g3 with
      | 0, g1, g3 =>
        have hp : wYear = p2 := by simpa using g1
        rw [List.set_cons_zero] at g3
        simp only [List.cons.injEq] at g3
        exact hxy (set_ne g2 (hp ▸ g3.1.symm))
      | 1, g1, g3 =>
        have hp : Lib.itoa (t : Int) = p2 := by simpa using g1
        rw [List.set_cons_succ, List.set_cons_zero] at g3
        simp only [List.cons.injEq, true_and] at g3
        exact hxy (set_ne g2 (hp ▸ g3.1.symm))
      | m + 2, g1, g3 =>
        simp only [List.getElem?_cons_succ, List.getElem?_map] at g1
        rw [List.set_cons_succ, List.set_cons_succ] at g3
        simp only [List.cons.injEq, true_and] at g3
        obtain ⟨a, ha, rfl⟩ := Option.map_eq_some_iff.1 g1
        have hml := (List.getElem?_eq_some_iff.1 ha).1
        have hlen : R'.length = R.length := by
          have := congrArg List.length g3
          simpa using this
        obtain ⟨b, hbb⟩ : ∃ b, R'[m]? = some b := ⟨_, List.getElem?_eq_getElem (by omega)⟩
        have hab : Lib.itoa b = (Lib.itoa a).set i2 y := by
          have h5 := congrArg (fun l => l[m]?) g3
          simp only [List.getElem?_map, hbb, Option.map_some] at h5
          rw [List.getElem?_set_self (by simpa using hml)] at h5
          exact Option.some.inj h5
        obtain ⟨k, hk, hd⟩ := itoa_set hxd hyd g2 hab ((b6 R hRm).2 a (List.mem_of_getElem? ha))
        have hrest : ∀ i, i ≠ m → R'.getD i 0 = R.getD i 0 := fun i hi => by
          have h5 := congrArg (fun l => l[i]?) g3
          simp only [List.getElem?_map] at h5
          rw [List.getElem?_set_ne (fun h => hi h.symm), List.getElem?_map] at h5
          rw [List.getD_eq_getElem?_getD, List.getD_eq_getElem?_getD]
          cases h6 : R'[i]? with
          | none =>
            rw [h6] at h5
            cases h7 : R[i]? with
            | none => rfl
            | some v => rw [h7] at h5; simp at h5
          | some u =>
            rw [h6] at h5
            cases h7 : R[i]? with
            | none => rw [h7] at h5; simp at h5
            | some v =>
              rw [h7] at h5
              simp only [Option.map_some, Option.some.injEq] at h5
              rw [itoa_injZ h5]
        have hdd := ckAll_diff ts us t m (2 * (((y.toNat : Int) - x.toNat) * 10 ^ k)) (fun j hj => by
            rcases Nat.lt_or_ge j ts.length with h6 | h6
            · exact yr j h6 (by omega)
            · rw [List.getD_eq_getElem?_getD, List.getD_eq_getElem?_getD, List.getElem?_eq_none h6, List.getElem?_eq_none (by omega)]) (by rw [hR, hR', hlen]) (by rw [hR]; exact hml) (by rw [hR, hR']; exact hrest)
            (by rw [hR, hR', List.getD_eq_getElem?_getD, List.getD_eq_getElem?_getD, ha, hbb]; exact hd) ts.length
        rw [if_pos htl, hS, Int.sub_self] at hdd
        refine no_zeroI (d := (y.toNat : Int) - x.toNat) (e := k) (m := m) (t := t) (fun h => hxy ?_) (by omega) hk (by omega) (by omega) (by omega)
        exact UInt8.toNat_inj.1 (by omega)
end Go.Proofs.YtdlaphlpimlgdaaGreatDoor
