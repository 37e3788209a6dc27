/- Coolers: repairs in time, in truth: the mathematics of CoolMended. -/
import Derived.Test.YtmppiiamcpjhnaaER
import Derived.Test.YtmppiiamcpjhnaaDM
namespace Go.Proofs.Ytmppiiamcpjhnaa
open Go.RowKit Go.Shelf

/-- Those of a list that are in another one. -/
def failL (bo ot : List Int) : List Int := bo.filter fun x => decide (x ∈ ot)
theorem fail_cool {T : Tn} {bo ot : List Int} (hC : coolB T bo = true) : coolB T (failL bo ot) = true := sub_cool' hC
where sub_cool' {T : Tn} {bo ot : List Int} (hC : coolB T bo = true) : coolB T (failL bo ot) = true := clB_of (fun x hx => by
    have := clB_mem hC x (List.mem_filter.1 hx).1
    exact this) ((clB_pair hC).sublist List.filter_sublist)
theorem cool_nodup {T : Tn} {bo : List Int} (hC : coolB T bo = true) : bo.Nodup := (clB_pair hC).imp fun h => by omega
theorem fail_perm {T : Tn} {bo ot : List Int} (hC : coolB T bo = true) (ho : ordB bo ot = true) : (failL bo ot).Perm ot := by
  refine (List.perm_ext_iff_of_nodup ((cool_nodup hC).sublist List.filter_sublist) (ord_nodup ho)).2 fun x => ?_
  rw [List.mem_filter, decide_eq_true_eq]
  exact ⟨fun h => h.2, fun h => ⟨(ord_mem hC ho x h).1, h⟩⟩
theorem fail_ordX {T : Tn} {bo ot : List Int} (hC : coolB T bo = true) (ho : ordB bo ot = true) (h6 : ot.length ≤ 6) : OrdX bo (failL bo ot) :=
  OrdX.perm ⟨fun x hx => (ord_mem hC ho x hx).1, ord_nodup ho, h6⟩ (fail_perm hC ho)
theorem ords_perm : ∀ {m r : Nat} {o : List Int}, r < 2 ^ 10 → (sitL (r : Int)).length ≤ m → o ∈ ordsF m r → o.Perm (sitZ (r : Int))
  | 0, r, o, hr, hm, h => by
    have hr0 := sit_empty hr (by omega)
    subst hr0
    rw [ords_zero, List.mem_singleton] at h
    rw [h]
    decide +kernel
  | m + 1, r, o, hr, hm, h => by
    by_cases hr0 : r = 0
    · subst hr0
      rw [ords_zero, List.mem_singleton] at h
      rw [h]
      decide +kernel
    · unfold ordsF at h
      rw [if_neg hr0] at h
      obtain ⟨x, hx, h⟩ := List.mem_flatMap.1 h
      obtain ⟨o', ho', rfl⟩ := List.mem_map.1 h
      have hxz : (x : Int) ∈ sitZ (r : Int) := List.mem_map.2 ⟨x, hx, rfl⟩
      obtain ⟨i, hi⟩ := List.getElem?_of_mem hxz
      obtain ⟨_, _, hp⟩ := sit_split hr hi []
      have ih := ords_perm (m := m) (dropS_lt hr) (by have := sit_drop hr hx; omega) ho'
      exact (ih.cons (x : Int)).trans hp
theorem ords_all : ∀ {m r : Nat} {o : List Int}, r < 2 ^ 10 → (sitL (r : Int)).length ≤ m → o.Perm (sitZ (r : Int)) → o ∈ ordsF m r
  | 0, r, o, hr, hm, h => by
    have hr0 := sit_empty hr (by omega)
    subst hr0
    rw [ords_zero, List.mem_singleton]
    have e : sitZ ((0 : Nat) : Int) = [] := by decide +kernel
    rw [e] at h
    exact h.eq_nil
  | m + 1, r, o, hr, hm, h => by
    by_cases hr0 : r = 0
    · subst hr0
      rw [ords_zero, List.mem_singleton]
      have e : sitZ ((0 : Nat) : Int) = [] := by decide +kernel
      rw [e] at h
      exact h.eq_nil
    · cases o with
      | nil =>
        exfalso
        have := h.length_eq
        rw [sitZ_len2] at this
        exact hr0 (sit_empty hr this.symm)
      | cons y o' =>
        have hy : y ∈ sitZ (r : Int) := h.mem_iff.1 (by simp)
        obtain ⟨x, hx, rfl⟩ := List.mem_map.1 hy
        obtain ⟨i, hi⟩ := List.getElem?_of_mem hy
        obtain ⟨_, _, hp⟩ := sit_split (x := x) hr hi []
        have hp2 : (Int.ofNat x :: o').Perm (Int.ofNat x :: sitZ ((dropS r (2 ^ x) : Nat) : Int)) := h.trans hp.symm
        have ih := ords_all (m := m) (dropS_lt hr) (by have := sit_drop hr hx; omega) (List.perm_cons _ |>.1 hp2)
        unfold ordsF
        rw [if_neg hr0]
        exact List.mem_flatMap.2 ⟨x, hx, List.mem_map.2 ⟨o', ih, rfl⟩⟩
theorem ords_order : ∀ {m r : Nat}, r < 2 ^ 10 → (ordsF m r).Pairwise fun a b => befB a b = true
  | 0, _, _ => by simp [ordsF]
  | m + 1, r, hr => by
    by_cases hr0 : r = 0
    · subst hr0
      rw [ords_zero]
      exact List.pairwise_singleton _ _
    · unfold ordsF
      rw [if_neg hr0, List.pairwise_flatMap]
      refine ⟨fun x _ => ?_, (sitL_pair _).imp fun {a b} hab => ?_⟩
      · rw [List.pairwise_map]
        refine (ords_order (m := m) (dropS_lt hr)).imp fun {a b} h => ?_
        unfold befB
        rw [if_pos rfl]
        exact h
      · intro u hu v hv
        obtain ⟨u', _, rfl⟩ := List.mem_map.1 hu
        obtain ⟨v', _, rfl⟩ := List.mem_map.1 hv
        have h1 : Int.ofNat a < Int.ofNat b := Int.ofNat_lt.2 hab
        unfold befB
        rw [if_neg (by omega)]
        simpa using h1
/-- What is told of the first good order, and of any other one. -/
theorem mend_none {T : Tn} {bo ot : List Int} (K : TnOk T) (hC : coolB T bo = true) (ho : ordB bo ot = true) (h : repO T bo (failL bo ot) = none) : goodB T (setI bo) ot = false := by
  have hF := fail_cool (ot := ot) hC
  have hr : setI (failL bo ot) < 2 ^ 10 := Nat.lt_of_lt_of_le (setI_lt hF) (Nat.pow_le_pow_right (by decide) (by have := K.s10; omega))
  have hm := ords_all (m := 10) (o := ot) hr (sit_len10 _) (by rw [cool_sit K hF]; exact (fail_perm hC ho).symm)
  have := List.find?_eq_none.1 (show (ordsF 10 (setI (failL bo ot))).find? _ = none from h) ot hm
  simpa using this
theorem mend_some {T : Tn} {bo ot l : List Int} (K : TnOk T) (hC : coolB T bo = true) (ho : ordB bo ot = true) (h6 : ot.length ≤ 6) (h : repO T bo (failL bo ot) = some l) :
    goodB T (setI bo) l = true ∧ l.Perm (failL bo ot) ∧ l.length = (failL bo ot).length ∧ ordB (failL bo ot) l = true ∧ ordB bo l = true ∧ (goodB T (setI bo) ot = true → befB ot l = false) := by
  have hF := fail_cool (ot := ot) hC
  have hr : setI (failL bo ot) < 2 ^ 10 := Nat.lt_of_lt_of_le (setI_lt hF) (Nat.pow_le_pow_right (by decide) (by have := K.s10; omega))
  have hfind : (ordsF 10 (setI (failL bo ot))).find? (goodB T (setI bo)) = some l := h
  have hgood := List.find?_some hfind
  have hp := ords_perm hr (sit_len10 _) (List.mem_of_find?_eq_some hfind)
  rw [cool_sit K hF] at hp
  have hX := (fail_ordX hC ho h6).perm hp
  refine ⟨hgood, hp, hp.length_eq, ord_of ⟨fun x hx => hp.mem_iff.1 hx, hX.nd, hX.l6⟩, ord_of hX, fun hg => ?_⟩
  have hm := ords_all (m := 10) (o := ot) hr (sit_len10 _) (by rw [cool_sit K hF]; exact (fail_perm hC ho).symm)
  obtain ⟨_, as1, bs1, he, hall⟩ := List.find?_eq_some_iff_append.1 hfind
  have hord := ords_order (m := 10) hr
  rw [he] at hm hord
  rcases List.mem_append.1 hm with h1 | h1
  · have := hall ot h1
    simp [hg] at this
  · rcases List.mem_cons.1 h1 with rfl | h1
    · exact befB_self _
    · exact befB_asym ((List.pairwise_cons.1 (List.pairwise_append.1 hord).2.1).1 ot h1)
/-! ### In truth -/
def workK (T : Tn) (g : Int) (l : List Int) : Nat → List Int
  | 0 => []
  | i + 1 => workK T g l i ++ (match l[i]? with | some x => if weekL T (l.take (i + 1)) ≤ g then [x] else [] | none => [])
theorem workK_succ {T : Tn} {g : Int} {l : List Int} {i : Nat} {x : Int} (h : l[i]? = some x) : workK T g l (i + 1) = workK T g l i ++ (if weekL T (l.take (i + 1)) ≤ g then [x] else []) := by
  show workK T g l i ++ _ = _
  rw [h]
theorem workK_end {T : Tn} {g : Int} {l : List Int} {i : Nat} (h : l[i]? = none) : workK T g l (i + 1) = workK T g l i := by
  show workK T g l i ++ _ = _
  rw [h]
  simp
theorem workK_len (T : Tn) (g : Int) (l : List Int) : ∀ i, (workK T g l i).length ≤ i
  | 0 => Nat.le_refl _
  | i + 1 => by
    have ih := workK_len T g l i
    show (workK T g l i ++ _).length ≤ _
    rw [List.length_append]
    split
    · split <;> simp <;> omega
    · simp; omega
theorem workK_mem {T : Tn} {g : Int} {l : List Int} : ∀ i, ∀ y ∈ workK T g l i, y ∈ l
  | 0, y, h => by simp [workK] at h
  | i + 1, y, h => by
    have h : y ∈ workK T g l i ++ (match l[i]? with | some x => if weekL T (l.take (i + 1)) ≤ g then [x] else [] | none => []) := h
    rcases List.mem_append.1 h with h | h
    · exact workK_mem i y h
    · cases hx : l[i]? with
      | none => rw [hx] at h; cases h
      | some x =>
        rw [hx] at h
        simp only at h
        split at h
        · rw [List.mem_singleton.1 h]
          exact List.mem_of_getElem? hx
        · cases h
theorem weekL_mono {T : Tn} (K : TnOk T) {l : List Int} : ∀ {k i : Nat}, i ≤ k → weekL T (l.take i) ≤ weekL T (l.take k)
  | 0, i, h => by
    have : i = 0 := by omega
    rw [this]
    exact Int.le_refl _
  | k + 1, i, h => by
    rcases Nat.lt_or_ge i (k + 1) with h1 | h1
    · have ih := weekL_mono K (l := l) (k := k) (i := i) (by omega)
      cases hx : l[k]? with
      | none =>
        have hl : l.length ≤ k := List.getElem?_eq_none_iff.1 hx
        rw [List.take_of_length_le (show l.length ≤ k + 1 by omega)]
        rw [List.take_of_length_le hl] at ih
        exact ih
      | some x =>
        rw [weekL_succ hx]
        have := week_in K x.toNat
        omega
    · have : i = k + 1 := by omega
      rw [this]
      exact Int.le_refl _
theorem work_prefix {T : Tn} (K : TnOk T) {g : Int} {l : List Int} {k : Nat} (hg : weekL T (l.take k) ≤ g) : ∀ i, i ≤ k → workK T g l i = l.take i
  | 0, _ => rfl
  | i + 1, h => by
    have ih := work_prefix K hg i (by omega)
    have hm := weekL_mono K (l := l) h
    cases hx : l[i]? with
    | none =>
      have hl : l.length ≤ i := List.getElem?_eq_none_iff.1 hx
      rw [workK_end hx, ih, List.take_of_length_le hl, List.take_of_length_le (by omega)]
    | some x =>
      rw [workK_succ hx, if_pos (Int.le_trans hm hg), ih, List.take_add_one, hx]
      rfl
theorem work_ext (T : Tn) (g : Int) (l : List Int) (k : Nat) : ∀ d, ∃ ex, workK T g l (k + d) = workK T g l k ++ ex ∧ ∀ y ∈ ex, y ∈ l
  | 0 => ⟨[], by simp, fun y h => by cases h⟩
  | d + 1 => by
    obtain ⟨ex, h1, h2⟩ := work_ext T g l k d
    cases hx : l[k + d]? with
    | none =>
      refine ⟨ex, ?_, h2⟩
      rw [show k + (d + 1) = k + d + 1 from rfl, workK_end hx, h1]
    | some x =>
      refine ⟨ex ++ (if weekL T (l.take (k + d + 1)) ≤ g then [x] else []), ?_, fun y hy => ?_⟩
      · show workK T g l (k + d + 1) = _
        rw [workK_succ hx, h1, List.append_assoc]
      · rcases List.mem_append.1 hy with hy | hy
        · exact h2 y hy
        · split at hy
          · rw [List.mem_singleton.1 hy]
            exact List.mem_of_getElem? hx
          · cases hy
theorem mend_true {T : Tn} {X : Tu} {bo fa l : List Int} {h : Nat} {x : Hs} (K : TnOk T) (O : TuOk T X) (hC : coolB T bo = true) (hp : l.Perm fa) (hol : ordB bo l = true) (hh : h < T.hs.length) (hx : T.hs[h]? = some x) (hg : goodB T (setI bo) l = true) : 0 ≤ ovV X (remL bo fa ++ workK T x.g l l.length) h := by
  have hw : waitB T h (agZ T bo l h) = true := by
    unfold goodB at hg
    exact List.all_eq_true.1 hg h (List.mem_range.2 hh)
  rw [wait_eq hx, ← agF_all K hC hol h] at hw
  have hw2 := inB_iff.1 hw
  have hfn : (List.range (l.length + 1)).find? (lvlB T bo l h) ≠ none := fun e => by
    have := (agF_neg K (T := T) (bo := bo) (or := l) (h := h) (i := l.length + 1)).2 e
    omega
  cases hf : (List.range (l.length + 1)).find? (lvlB T bo l h) with
  | none => exact absurd hf hfn
  | some k =>
    have hk : k ≤ l.length := by
      have := List.mem_range.1 (List.mem_of_find?_eq_some hf)
      omega
    have hlv := List.find?_some hf
    unfold lvlB at hlv
    rw [decide_eq_true_eq] at hlv
    have hwk : weekL T (l.take k) ≤ x.g := by
      unfold agF at hw2
      rw [hf] at hw2
      exact hw2.2
    have h1 := (worst_level K (rem_cool (fa := l.drop k) hC) hh).2 hlv
    have hmem := ord_mem hC hol
    rw [worst_ov (fun y hy => by have := clB_mem hC y (List.mem_filter.1 hy).1; omega) hh] at h1
    have hlnd := ord_nodup hol
    have hsplit : ∀ y, y ∈ l ↔ y ∈ l.take k ∨ y ∈ l.drop k := fun y => by
      conv => lhs; rw [← List.take_append_drop k l]
      exact List.mem_append
    have hdis : ∀ y, y ∈ l.take k → ¬ y ∈ l.drop k := fun y h1 h2 => by
      have hn := hlnd
      rw [← List.take_append_drop k l] at hn
      exact (List.nodup_append.1 hn).2.2 y h1 y h2 rfl
    have hrem : remL bo fa = remL bo l := by
      unfold remL
      refine List.filter_congr fun y _ => ?_
      rw [Bool.eq_iff_iff]
      simp [hp.mem_iff]
    have hperm : (remL bo l ++ l.take k).Perm (remL bo (l.drop k)) := by
      refine (List.perm_ext_iff_of_nodup ?_ ((cool_nodup hC).sublist List.filter_sublist)).2 fun y => ?_
      · refine List.nodup_append.2 ⟨(cool_nodup hC).sublist List.filter_sublist, hlnd.sublist (List.take_sublist _ _), fun a ha b hb e => ?_⟩
        subst e
        have := (List.mem_filter.1 ha).2
        simp [List.mem_of_mem_take hb] at this
      · unfold remL
        rw [List.mem_append, List.mem_filter, List.mem_filter]
        simp only [Bool.not_eq_true', decide_eq_false_iff_not]
        constructor
        · rintro (⟨ha, hb⟩ | ha)
          · exact ⟨ha, fun h => hb ((hsplit y).2 (.inr h))⟩
          · exact ⟨(hmem y (List.mem_of_mem_take ha)).1, hdis y ha⟩
        · rintro ⟨ha, hb⟩
          by_cases hc : y ∈ l.take k
          · exact .inr hc
          · exact .inl ⟨ha, fun h => by rcases (hsplit y).1 h with h | h <;> contradiction⟩
    have e1 := sum_perm (hperm.map (lowZ T h))
    obtain ⟨ex, h2, h3⟩ := work_ext T x.g l k (l.length - k)
    rw [show k + (l.length - k) = l.length by omega, work_prefix K hwk k (Nat.le_refl _)] at h2
    have hgl : ∀ y : Int, 0 ≤ y ∧ y < T.ss.length → lowZ T h y ≤ givA X h y.toNat ∧ 0 ≤ givA X h y.toNat := fun y hy => by
      have h5 := low_giv O (i := y.toNat) (h := h) (by omega) hh
      have h6 := (low_in K h y.toNat).1
      exact ⟨h5, Int.le_trans h6 h5⟩
    have hs1 : ((remL bo l ++ l.take k).map (lowZ T h)).sum ≤ ((remL bo l ++ l.take k).map fun y => givA X h y.toNat).sum := sum_cmp fun y hy => (hgl y (by
      rcases List.mem_append.1 hy with hy | hy
      · have := clB_mem hC y (List.mem_filter.1 hy).1; omega
      · exact (hmem y (List.mem_of_mem_take hy)).2)).1
    have hs2 : 0 ≤ (ex.map fun y => givA X h y.toNat).sum := sum_nonneg fun v hv => by
      obtain ⟨y, hy, rfl⟩ := List.mem_map.1 hv
      exact (hgl y (hmem y (h3 y hy)).2).2
    obtain ⟨n, q1, q2, _⟩ := need_get K O hh
    have q3 := O.nd h hh
    unfold needB at q3
    rw [hx, q1] at q3
    simp only at q3
    have q4 := inB_iff.1 q3
    have q5 : needI T h = x.nh := by unfold needI; rw [List.getD_eq_getElem?_getD, hx]; rfl
    unfold ovV
    rw [List.getD_eq_getElem?_getD, q1, Option.getD_some, hrem, h2]
    have e2 : sumA X (remL bo l ++ (l.take k ++ ex)) h = ((remL bo l ++ l.take k).map fun y => givA X h y.toNat).sum + (ex.map fun y => givA X h y.toNat).sum := by
      unfold sumA
      rw [← List.append_assoc, List.map_append (l₂ := ex), List.sum_append]
    rw [e2]
    omega
end Go.Proofs.Ytmppiiamcpjhnaa
