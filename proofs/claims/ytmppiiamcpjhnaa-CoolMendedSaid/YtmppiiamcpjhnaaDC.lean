/- Coolers: the best ones, and the floor: the mathematics of CoolRivals. -/
import Derived.Test.YtmppiiamcpjhnaaDB
namespace Go.Proofs.Ytmppiiamcpjhnaa
open Go.RowKit Go.Shelf

/-! ### The order of sets -/
theorem cmpI_neg {x y : Int} : cmpI x y < 0 ↔ x < y := by
  unfold cmpI
  repeat' split
  all_goals omega
theorem cmpL_self : ∀ a : List Int, cmpL a a = 0
  | [] => rfl
  | x :: a => by rw [cmpL_cons, if_pos (cmpI_zero.2 rfl)]; exact cmpL_self a
theorem cmpL_trans : ∀ {a b c : List Int}, cmpL a b < 0 → cmpL b c < 0 → cmpL a c < 0
  | [], [], _, h, _ => by simp [cmpL] at h
  | [], _ :: _, [], _, h => by simp [cmpL] at h
  | [], _ :: _, _ :: _, _, _ => by simp [cmpL]
  | _ :: _, [], _, h, _ => by simp [cmpL] at h
  | _ :: _, _ :: _, [], _, h => by simp [cmpL] at h
  | x :: a, y :: b, z :: c, h, k => by
    rw [cmpL_cons] at h k ⊢
    split at h <;> split at k
    · rename_i h1 h2
      have h1 := cmpI_zero.1 h1
      have h2 := cmpI_zero.1 h2
      rw [if_pos (cmpI_zero.2 (h1.trans h2))]
      exact cmpL_trans h k
    · rename_i h1 h2
      have h1 := cmpI_zero.1 h1
      rw [if_neg (by rw [h1]; exact h2), h1]
      exact k
    · rename_i h1 h2
      have h2 := cmpI_zero.1 h2
      rw [if_neg (by rw [← h2]; exact h1), ← h2]
      exact h
    · have h3 := cmpI_neg.1 h
      have h4 := cmpI_neg.1 k
      have h5 : cmpI x z < 0 := cmpI_neg.2 (by omega)
      rw [if_neg (by omega)]
      exact h5
theorem bef_iff {T : Tn} {s x : Nat} : befS T s x = true ↔ costS T s < costS T x ∨ (costS T s = costS T x ∧ (((sitZ (s : Int)).length < (sitZ (x : Int)).length) ∨ ((sitZ (s : Int)).length = (sitZ (x : Int)).length ∧ cmpL (sitZ (s : Int)) (sitZ (x : Int)) < 0))) := by
  unfold befS
  split
  · rename_i h1
    have h1 := cmpI_zero.1 h1
    split
    · rename_i h2
      have h2 := cmpI_zero.1 h2
      unfold cC
      simp only [decide_eq_true_eq]
      omega
    · rename_i h2
      have h2 : ¬ ((sitZ (s : Int)).length : Int) = (sitZ (x : Int)).length := fun e => h2 (cmpI_zero.2 e)
      unfold bC
      rw [decide_eq_true_eq, cmpI_neg]
      omega
  · rename_i h1
    have h1 : ¬ costS T s = costS T x := fun e => h1 (cmpI_zero.2 e)
    unfold aC
    rw [decide_eq_true_eq, cmpI_neg]
    omega
theorem bef_trans {T : Tn} {s x y : Nat} (h : befS T s x = true) (k : befS T x y = true) : befS T s y = true := by
  rw [bef_iff] at *
  rcases h with h | ⟨h1, h | ⟨h2, h⟩⟩ <;> rcases k with k | ⟨k1, k | ⟨k2, k⟩⟩
  all_goals first
    | exact .inr ⟨by omega, .inr ⟨by omega, cmpL_trans h k⟩⟩
    | omega
theorem bef_self (T : Tn) (s : Nat) : befS T s s = false := by
  cases h : befS T s s with
  | false => rfl
  | true =>
    rw [bef_iff, cmpL_self] at h
    omega
theorem best_none {T : Tn} {f : Int} : ∀ {k : Nat}, bestK T f k = none → ∀ x, x < k → keepS T f x = false
  | 0, _, x, hx => by omega
  | k + 1, h, x, hx => by
    cases hk : keepS T f k with
    | false =>
      rw [bestK_un hk] at h
      rcases Nat.lt_succ_iff_lt_or_eq.1 hx with hx | rfl
      · exact best_none h x hx
      · exact hk
    | true =>
      cases e : bestK T f k with
      | none =>
        rw [bestK_yes hk fun b hb => by rw [e] at hb; cases hb] at h
        cases h
      | some b =>
        cases hb : befS T k b with
        | false => rw [bestK_no e hb] at h; cases h
        | true =>
          rw [bestK_yes hk fun b' hb' => by rw [e] at hb'; injection hb' with hb'; rw [← hb']; exact hb] at h
          cases h
theorem best_some {T : Tn} {f : Int} : ∀ {k b : Nat}, bestK T f k = some b → keepS T f b = true ∧ ∀ x, x < k → keepS T f x = true → befS T x b = false
  | 0, _, h => by cases h
  | k + 1, b, h => by
    cases hk : keepS T f k with
    | false =>
      rw [bestK_un hk] at h
      obtain ⟨h1, h2⟩ := best_some h
      refine ⟨h1, fun x hx hkx => ?_⟩
      rcases Nat.lt_succ_iff_lt_or_eq.1 hx with hx | rfl
      · exact h2 x hx hkx
      · rw [hk] at hkx; cases hkx
    | true =>
      cases e : bestK T f k with
      | none =>
        rw [bestK_yes hk fun b hb => by rw [e] at hb; cases hb] at h
        injection h with h
        subst h
        refine ⟨hk, fun x hx hkx => ?_⟩
        rcases Nat.lt_succ_iff_lt_or_eq.1 hx with hx | rfl
        · rw [best_none e x hx] at hkx; cases hkx
        · exact bef_self _ _
      | some b' =>
        obtain ⟨h1, h2⟩ := best_some e
        cases hb : befS T k b' with
        | false =>
          rw [bestK_no e hb] at h
          injection h with h
          subst h
          refine ⟨h1, fun x hx hkx => ?_⟩
          rcases Nat.lt_succ_iff_lt_or_eq.1 hx with hx | rfl
          · exact h2 x hx hkx
          · exact hb
        | true =>
          rw [bestK_yes hk fun b'' hb' => by rw [e] at hb'; injection hb' with hb'; rw [← hb']; exact hb] at h
          injection h with h
          subst h
          refine ⟨hk, fun x hx hkx => ?_⟩
          rcases Nat.lt_succ_iff_lt_or_eq.1 hx with hx | rfl
          · have h3 := h2 x hx hkx
            cases h4 : befS T x k with
            | false => rfl
            | true => rw [bef_trans h4 hb] at h3; cases h3
          · exact bef_self _ _
theorem befB_cmp : ∀ {a b : List Int}, a.length = b.length → befB a b = decide (cmpL a b < 0)
  | [], [], _ => rfl
  | x :: a, y :: b, h => by
    have h : a.length = b.length := by simpa using h
    rw [cmpL_cons]
    unfold befB
    by_cases e : x = y
    · rw [if_pos e, if_pos (cmpI_zero.2 e)]
      exact befB_cmp h
    · rw [if_neg e, if_neg (fun h => e (cmpI_zero.1 h))]
      simp only [cmpI_neg]
/-! ### A set and its list -/
theorem sitL_pair (s : Int) : (sitL s).Pairwise (· < ·) := List.Pairwise.filter _ List.pairwise_lt_range
theorem cool_sit {T : Tn} {cs : List Int} (K : TnOk T) (h : coolB T cs = true) : sitZ ((setI cs : Nat) : Int) = cs := by
  obtain ⟨h1, h2⟩ := cool_nat h
  have hp := clB_pair h
  have hm := clB_mem h
  have hp2 : (cs.map Int.toNat).Pairwise (· < ·) := by
    rw [List.pairwise_map]
    exact hp.imp_of_mem fun ha hb hab => by
      have := hm _ ha
      omega
  have hnd : (cs.map Int.toNat).Nodup := hp2.imp fun h => Nat.ne_of_lt h
  have h10 := K.s10
  have hperm := sit_set hnd (fun x hx => by have := h2 x hx; omega)
  have he : sitL ((setI cs : Nat) : Int) = cs.map Int.toNat := List.Perm.eq_of_pairwise (le := fun a b : Nat => a < b) (fun a b _ _ h1 h2 => by omega) (sitL_pair _) hp2 hperm
  unfold sitZ
  rw [he]
  exact h1
theorem cost_sit (T : Tn) (s : Nat) : costL T (sitZ (s : Int)) = costS T s := by
  unfold costL costS sitZ
  rw [List.map_map]
  rfl
theorem clB_of {n : Int} : ∀ {l : List Int} {b : Int}, (∀ x ∈ l, b < x ∧ x < n) → l.Pairwise (· < ·) → clB n b l = true
  | [], _, _, _ => rfl
  | y :: l, b, h, hp => by
    obtain ⟨h1, h2⟩ := List.pairwise_cons.1 hp
    unfold clB
    have := h y (by simp)
    rw [Bool.and_eq_true, inB_iff]
    exact ⟨by omega, clB_of (fun x hx => ⟨h1 x hx, (h x (by simp [hx])).2⟩) h2⟩
theorem cool_of {T : Tn} {s : Nat} (hs : s < 2 ^ T.ss.length) : coolB T (sitZ (s : Int)) = true := by
  refine clB_of (fun x hx => ?_) ?_
  · obtain ⟨k, hk, rfl⟩ := List.mem_map.1 hx
    have := testBit_lt hs (mem_sit.1 hk).2
    show (-1 : Int) < (k : Int) ∧ (k : Int) < _
    omega
  · unfold sitZ
    rw [List.pairwise_map]
    exact (sitL_pair _).imp fun h => by
      show (_ : Int) < _
      exact Int.ofNat_lt.2 h
/-! ### The floor -/
theorem sub_ins (x : Int) : ∀ l : List Int, l.Sublist (insD x l)
  | [] => List.nil_sublist _
  | y :: l => by
    unfold insD
    split
    · exact List.sublist_cons_self _ _
    · exact (sub_ins x l).cons_cons y
theorem ins_mono (x : Int) {l1 l2 : List Int} (h : l1.Sublist l2) : l2.Pairwise (fun a b => b ≤ a) → (insD x l1).Sublist (insD x l2) := by
  induction h with
  | slnil => exact fun _ => List.Sublist.refl _
  | @cons l1 l2 y h ih =>
    intro hp
    obtain ⟨h1, h2⟩ := List.pairwise_cons.1 hp
    have e : insD x (y :: l2) = if y ≤ x then x :: y :: l2 else y :: insD x l2 := rfl
    rw [e]
    split
    · rename_i hyx
      have e1 : insD x l1 = x :: l1 := by
        cases l1 with
        | nil => rfl
        | cons z l =>
          have := h1 z (h.subset (by simp))
          show (if z ≤ x then _ else _) = _
          rw [if_pos (by omega)]
      rw [e1]
      exact (h.cons y).cons_cons x
    · exact (ih h2).cons y
  | @cons_cons l1 l2 y h ih =>
    intro hp
    obtain ⟨h1, h2⟩ := List.pairwise_cons.1 hp
    show (if y ≤ x then x :: y :: l1 else y :: insD x l1).Sublist (if y ≤ x then x :: y :: l2 else y :: insD x l2)
    split
    · exact (h.cons_cons y).cons_cons x
    · exact (ih h2).cons_cons y
theorem dsc_sub {l1 l2 : List Int} (h : l1.Sublist l2) : (dsc l1).Sublist (dsc l2) := by
  induction h with
  | slnil => exact List.Sublist.refl _
  | cons y h ih => exact ih.trans (sub_ins y _)
  | cons_cons y h ih => exact ins_mono y ih (dsc_sorted _)
theorem sub_get {l1 l2 : List Int} (h : l1.Sublist l2) : l2.Pairwise (fun a b => b ≤ a) → ∀ (i : Nat) (x y : Int), l1[i]? = some x → l2[i]? = some y → x ≤ y := by
  induction h with
  | slnil => intro _ i x y h; simp at h
  | @cons l1 l2 z h ih =>
    intro hp i x y hx hy
    obtain ⟨h1, h2⟩ := List.pairwise_cons.1 hp
    cases i with
    | zero =>
      simp at hy
      subst hy
      exact h1 x (h.subset (List.mem_of_getElem? hx))
    | succ i =>
      rw [List.getElem?_cons_succ] at hy
      obtain ⟨u, hu⟩ := get_of_lt (l := l2) (k := i + 1) (by have := h.length_le; have := (List.getElem?_eq_some_iff.1 hx).1; omega)
      have h3 := ih h2 (i + 1) x u hx hu
      have h4 : u ≤ y := by
        obtain ⟨a1, a2⟩ := List.getElem?_eq_some_iff.1 hu
        obtain ⟨b1, b2⟩ := List.getElem?_eq_some_iff.1 hy
        rw [← a2, ← b2]
        exact List.pairwise_iff_getElem.1 h2 i (i + 1) b1 a1 (by omega)
      omega
  | @cons_cons l1 l2 z h ih =>
    intro hp i x y hx hy
    obtain ⟨h1, h2⟩ := List.pairwise_cons.1 hp
    cases i with
    | zero =>
      simp at hx hy
      omega
    | succ i =>
      rw [List.getElem?_cons_succ] at hx hy
      exact ih h2 i x y hx hy
theorem sum_le : ∀ {a b : List Int}, a.length = b.length → (∀ (i : Nat) (x y : Int), a[i]? = some x → b[i]? = some y → x ≤ y) → a.sum ≤ b.sum
  | [], [], _, _ => Int.le_refl _
  | x :: a, y :: b, hl, h => by
    have h1 := h 0 x y rfl rfl
    have h2 := sum_le (a := a) (b := b) (by simpa using hl) (fun i u v hu hv => h (i + 1) u v (by simpa using hu) (by simpa using hv))
    rw [List.sum_cons, List.sum_cons]
    omega
theorem keep_bears {T : Tn} {f : Int} {s h : Nat} (hk : keepS T f s = true) (hh : h < T.hs.length) : f ≤ bearsI T h s := by
  unfold keepS unevenI at hk
  rw [Option.isNone_iff_eq_none, List.find?_eq_none] at hk
  have := hk h (List.mem_range.2 hh)
  simpa using this
theorem sit_sub {n s : Nat} (hs : s < 2 ^ n) : (sitL (s : Int)).Sublist (sitL ((2 ^ n - 1 : Nat) : Int)) := by
  have e : sitL (s : Int) = (sitL ((2 ^ n - 1 : Nat) : Int)).filter fun k => jackB (s : Int) k := by
    unfold sitL
    rw [List.filter_filter]
    refine List.filter_congr fun k hk => ?_
    rw [jack_bit, jack_bit, Nat.testBit_two_pow_sub_one]
    cases hb : s.testBit k with
    | false => simp
    | true => simp [testBit_lt hs hb]
  rw [e]
  exact List.filter_sublist
theorem few_le {T : Tn} (K : TnOk T) {f : Int} (hf : 0 ≤ f ∧ f ≤ 3) {s h : Nat} (hs : s < 2 ^ T.ss.length) (hk : f ≤ bearsI T h s) : 0 ≤ fewI T h f ∧ fewI T h f ≤ (sitL (s : Int)).length := by
  have hsub : (givL T h s).Sublist (givL T h (2 ^ T.ss.length - 1)) := (sit_sub hs).map _
  have hd := dsc_sub hsub
  have hlen : (dsc (givL T h s)).length = (sitL (s : Int)).length := by rw [(dsc_perm _).length_eq]; unfold givL; rw [List.length_map]
  have hm : (sitL (s : Int)).length ≤ T.ss.length := by
    have h1 := (sit_sub hs).length_le
    rw [full_len (by have := K.s10; omega)] at h1
    exact h1
  have hz : ∀ u, ∀ x ∈ givL T h u, 0 ≤ x := fun u x hx => by
    obtain ⟨k, _, rfl⟩ := List.mem_map.1 hx
    exact (low_in K h k).1
  have hzt : ∀ x ∈ (allD T h).take (sitL (s : Int)).length, 0 ≤ x := fun x hx => hz _ x ((dsc_perm _).mem_iff.1 (List.mem_of_mem_take hx))
  have hfn : ((f.toNat : Nat) : Int) = f := by omega
  have hdt : dsc ((allD T h).take (sitL (s : Int)).length) = (allD T h).take (sitL (s : Int)).length := (dsc_unique (List.Perm.refl _) ((dsc_sorted _).sublist (List.take_sublist _ _))).symm
  have hx : f ≤ bearsV (needI T h) ((allD T h).take (sitL (s : Int)).length) := by
    rw [← hfn, bearsV_drop hzt (by omega), hdt]
    unfold bearsI at hk
    rw [← hfn, bearsV_drop (hz s) (by omega)] at hk
    refine Int.le_trans hk (sum_le ?_ fun i x y hx hy => ?_)
    · rw [List.length_drop, List.length_drop, List.length_take, hlen]
      have := hd.length_le
      rw [hlen] at this
      unfold allD
      omega
    · rw [List.getElem?_drop] at hx hy
      rw [List.getElem?_take] at hy
      split at hy
      · exact sub_get hd (dsc_sorted _) _ x y hx hy
      · cases hy
  have hleast : ∀ n, n ≤ (sitL (s : Int)).length → (∀ j, j < n → bearsV (needI T h) ((allD T h).take j) < f) ∨ ∃ m, m < n ∧ fewO T h f = some m := fun n => by
    induction n with
    | zero => exact fun _ => .inl fun j hj => by omega
    | succ n ih =>
      intro hn
      rcases ih (by omega) with h1 | ⟨m, h1, h2⟩
      · by_cases h3 : bearsV (needI T h) ((allD T h).take n) < f
        · exact .inl fun j hj => by
            rcases Nat.lt_succ_iff_lt_or_eq.1 hj with hj | rfl
            · exact h1 j hj
            · exact h3
        · exact .inr ⟨n, by omega, few_found (by omega) h1 (by omega)⟩
      · exact .inr ⟨m, by omega, h2⟩
  have hfe : ∃ m, m ≤ (sitL (s : Int)).length ∧ fewO T h f = some m := by
    rcases hleast _ (Nat.le_refl _) with h1 | ⟨m, h1, h2⟩
    · exact ⟨_, Nat.le_refl _, few_found hm h1 hx⟩
    · exact ⟨m, by omega, h2⟩
  obtain ⟨m, h1, h2⟩ := hfe
  unfold fewI
  rw [h2]
  exact ⟨by simp, by simpa using h1⟩
theorem floor_le {T : Tn} (K : TnOk T) {f : Int} (hf : 0 ≤ f ∧ f ≤ 3) {s : Nat} (hs : s < 2 ^ T.ss.length) (hk : keepS T f s = true) : ∃ n, floO T f = some n ∧ 0 ≤ n ∧ n ≤ (sitL (s : Int)).length := by
  have hall : ∀ k, k < T.hs.length → 0 ≤ fewI T k f ∧ fewI T k f ≤ (sitL (s : Int)).length := fun k hk2 => few_le K hf hs (keep_bears hk hk2)
  refine ⟨_, floO_yes fun k hk2 => (hall k hk2).1, ?_⟩
  have h : ∀ k, k ≤ T.hs.length → 0 ≤ floorK T f k ∧ floorK T f k ≤ (sitL (s : Int)).length := fun k => by
    induction k with
    | zero => exact fun _ => ⟨Int.le_refl _, by show (0 : Int) ≤ _; omega⟩
    | succ k ih =>
      intro hk2
      have h1 := ih (by omega)
      have h2 := hall k (by omega)
      show 0 ≤ max (floorK T f k) (fewI T k f) ∧ max (floorK T f k) (fewI T k f) ≤ _
      omega
  exact h _ (Nat.le_refl _)
end Go.Proofs.Ytmppiiamcpjhnaa
