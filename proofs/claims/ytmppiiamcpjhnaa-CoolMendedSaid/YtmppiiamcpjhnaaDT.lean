/- Coolers: the break: so many of the strongest leave too little. -/
import Derived.Test.YtmppiiamcpjhnaaDS
import Derived.Test.YtmppiiamcpjhnaaDQ
namespace Go.Proofs.Ytmppiiamcpjhnaa
open Go.RowKit Go.Shelf

theorem sit_inj {a b : Nat} (ha : a < 2 ^ 10) (hb : b < 2 ^ 10) (h : sitL (a : Int) = sitL (b : Int)) : a = b := by
  refine Nat.eq_of_testBit_eq fun j => ?_
  have e : (j ∈ sitL (a : Int)) ↔ (j ∈ sitL (b : Int)) := by rw [h]
  rw [mem_sit, mem_sit] at e
  cases h1 : a.testBit j with
  | true => rw [h1] at e; exact (e.1 ⟨testBit_lt ha h1, rfl⟩).2.symm
  | false =>
    cases h2 : b.testBit j with
    | false => rfl
    | true =>
      rw [h1, h2] at e
      have := (e.2 ⟨testBit_lt hb h2, rfl⟩).2
      cases this
theorem sit_rem {s x : Nat} (hs : s < 2 ^ 10) (hx : x < 2 ^ 10) : sitL ((dropS s x : Nat) : Int) = (sitL (s : Int)).filter fun k => !x.testBit k := by
  unfold sitL
  rw [List.filter_filter]
  refine List.filter_congr fun k _ => ?_
  rw [jack_bit, jack_bit, dropS_bit (by omega) (by omega), Bool.and_comm]
/-- Sites from the strongest on. -/
theorem strong_ys (T : Tn) (h s : Nat) : ∃ ys : List Nat, ys.Perm (sitL (s : Int)) ∧ ys.map (lowI T h) = dsc (givL T h s) := by
  refine ⟨(sitL (s : Int)).mergeSort fun a b => decide (lowI T h b ≤ lowI T h a), List.mergeSort_perm _ _, dsc_unique ?_ ?_⟩
  · exact (List.mergeSort_perm _ _).map _
  · rw [List.pairwise_map]
    have h := List.pairwise_mergeSort (le := fun a b : Nat => decide (lowI T h b ≤ lowI T h a)) (fun a b c h1 h2 => by simp only [decide_eq_true_eq] at *; omega) (fun a b => by simp only [Bool.or_eq_true, decide_eq_true_eq]; omega) (sitL (s : Int))
    exact h.imp fun h => by simpa using h
theorem brk_is {T : Tn} (K : TnOk T) {s h : Nat} (hs : s < 2 ^ T.ss.length) (hb : bearsI T h s < 3) : ∃ x, brkO T s h = some x := by
  have h10 := K.s10
  have hs10 : s < 2 ^ 10 := Nat.lt_of_lt_of_le hs (Nat.pow_le_pow_right (by decide) (by omega))
  have hin := bearsV_in (needI T h) (givL T h s)
  change -1 ≤ bearsI T h s ∧ bearsI T h s ≤ 3 at hin
  obtain ⟨m, hm⟩ : ∃ m, (bearsI T h s + 1).toNat = m := ⟨_, rfl⟩
  have hmb : (m : Int) = bearsI T h s + 1 := by omega
  have hz : ∀ u, ∀ x ∈ givL T h u, 0 ≤ x := fun u x hx => by
    obtain ⟨k, _, rfl⟩ := List.mem_map.1 hx
    exact (low_in K h k).1
  obtain ⟨ys, hp, hd⟩ := strong_ys T h s
  have hlen : ys.length = (sitL (s : Int)).length := hp.length_eq
  have hno : ¬ (m : Int) ≤ bearsV (needI T h) (givL T h s) := by show ¬ (m : Int) ≤ bearsI T h s; omega
  rw [bearsV_drop (hz s) (by omega), ← hd, ← List.map_drop] at hno
  -- so many are bought
  have hml : m ≤ ys.length := by
    rcases Nat.lt_or_ge ys.length m with hlt | hge
    · exfalso
      have hyes : ((m - 1 : Nat) : Int) ≤ bearsV (needI T h) (givL T h s) := by show _ ≤ bearsI T h s; omega
      rw [bearsV_drop (hz s) (by omega), ← hd, ← List.map_drop, List.drop_eq_nil_of_le (by omega)] at hyes
      rw [List.drop_eq_nil_of_le (by omega)] at hno
      exact hno hyes
    · exact hge
  have hnd : ys.Nodup := hp.nodup_iff.2 (sit_nodup _)
  have hy10 : ∀ x ∈ ys, x < 10 ∧ s.testBit x = true := fun x hx => mem_sit.1 (hp.mem_iff.1 hx)
  obtain ⟨x, hx⟩ : ∃ x, setL (ys.take m) = x := ⟨_, rfl⟩
  have hx10 : x < 2 ^ 10 := by rw [← hx]; exact setL_lt2 fun k hk => (hy10 k (List.mem_of_mem_take hk)).1
  have hxb : ∀ j, x.testBit j = decide (j ∈ ys.take m) := fun j => by rw [← hx]; exact setL_bit
  have hsx := sit_set (cs := ys.take m) (hnd.sublist (List.take_sublist _ _)) (fun k hk => (hy10 k (List.mem_of_mem_take hk)).1)
  rw [hx] at hsx
  have hxl : (sitL (x : Int)).length = m := by rw [hsx.length_eq, List.length_take]; omega
  have hsub : (sitL (x : Int)).Sublist (sitL (s : Int)) := by
    have e : sitL (x : Int) = (sitL (s : Int)).filter fun k => jackB (x : Int) k := by
      unfold sitL
      rw [List.filter_filter]
      refine List.filter_congr fun k _ => ?_
      rw [jack_bit, jack_bit, hxb]
      by_cases hk : k ∈ ys.take m
      · simp [hk, (hy10 k (List.mem_of_mem_take hk)).2]
      · simp [hk]
    rw [e]
    exact List.filter_sublist
  -- what is left is too little
  have hrest : (sitL ((dropS s x : Nat) : Int)).Perm (ys.drop m) := by
    rw [sit_rem hs10 hx10]
    refine (List.perm_ext_iff_of_nodup ((sit_nodup _).sublist List.filter_sublist) (hnd.sublist (List.drop_sublist _ _))).2 fun j => ?_
    rw [List.mem_filter, hxb]
    have hj : j ∈ ys ↔ j ∈ sitL (s : Int) := hp.mem_iff
    have hsplit : j ∈ ys ↔ j ∈ ys.take m ∨ j ∈ ys.drop m := by
      conv => lhs; rw [← List.take_append_drop m ys]
      exact List.mem_append
    have hdis : j ∈ ys.take m → ¬ j ∈ ys.drop m := fun h1 h2 => by
      have := hnd
      rw [← List.take_append_drop m ys] at this
      exact (List.nodup_append.1 this).2.2 j h1 j h2 rfl
    simp only [Bool.not_eq_true', decide_eq_false_iff_not]
    rw [← hj, hsplit]
    constructor
    · rintro ⟨h1 | h1, h2⟩
      · exact absurd h1 h2
      · exact h1
    · intro h1
      exact ⟨.inr h1, fun h2 => hdis h2 h1⟩
  have hneg : bearsI T h (dropS s x) < 0 := by
    have h0 := bearsV_drop (need := needI T h) (hz (dropS s x)) (f := 0) (by decide)
    rw [List.drop_zero, sum_perm (dsc_perm _)] at h0
    have e : (givL T h (dropS s x)).sum = ((ys.drop m).map (lowI T h)).sum := sum_perm (hrest.map _)
    rw [e] at h0
    have h2 : ((0 : Nat) : Int) = 0 := rfl
    rw [h2] at h0
    unfold bearsI
    omega
  have hmem : sitL (x : Int) ∈ (setsI m 0 s).map fun u => sitL ((u : Nat) : Int) := by
    rw [sets_sub m (fun i j hi _ => by simp at hi)]
    refine List.mem_map.2 ⟨sitL (x : Int), sub_mem.2 ⟨hsub, hxl⟩, ?_⟩
    rw [sit_zero, List.nil_append]
  obtain ⟨x', hx', he⟩ := List.mem_map.1 hmem
  have hxe := sit_inj (sets_lt m 0 s (by decide) hs10 x' hx') hx10 he
  subst hxe
  unfold brkO
  rw [hm]
  cases hf : (setsI m 0 s).find? fun x => decide (bearsI T h (dropS s x) < 0) with
  | some y => exact ⟨y, rfl⟩
  | none =>
    rw [List.find?_eq_none] at hf
    have := hf x' hx'
    simp at this
    omega
end Go.Proofs.Ytmppiiamcpjhnaa
