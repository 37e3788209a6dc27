/- Coolers: the best coolers and the floor, by the specification: the mathematics. -/
import Derived.Test.YtmppiiamcpjhnaaEG
import Derived.Test.YtmppiiamcpjhnaaDO
namespace Go.Proofs.Ytmppiiamcpjhnaa
open Go.RowKit Go.Shelf

def leB (T : Tn) (a o : List Int) : Prop := costL T a < costL T o ∨ (costL T a = costL T o ∧ (a.length < o.length ∨ (a.length = o.length ∧ (befB a o = true ∨ a = o))))
def ordE (y x : List Int) : Prop := y.length < x.length ∨ (y.length = x.length ∧ befB y x = true)
theorem befB_trans : ∀ {a b c : List Int}, befB a b = true → befB b c = true → befB a c = true
  | [], _, _, h, _ => by simp [befB] at h
  | _ :: _, [], _, h, _ => by simp [befB] at h
  | _ :: _, _ :: _, [], _, k => by simp [befB] at k
  | x :: a, y :: b, z :: c, h, k => by
    unfold befB at h k ⊢
    by_cases e1 : x = y
    · subst e1
      rw [if_pos rfl] at h
      by_cases e2 : x = z
      · subst e2
        rw [if_pos rfl] at k ⊢
        exact befB_trans h k
      · rw [if_neg e2] at k ⊢
        exact k
    · rw [if_neg e1] at h
      simp only [decide_eq_true_eq] at h
      by_cases e2 : y = z
      · subst e2
        rw [if_neg (by omega)]
        simpa using h
      · rw [if_neg e2] at k
        simp only [decide_eq_true_eq] at k
        rw [if_neg (by omega)]
        simp only [decide_eq_true_eq]
        omega
theorem leB_trans {T : Tn} {a b c : List Int} (h : leB T a b) (k : leB T b c) : leB T a c := by
  unfold leB at *
  rcases h with h | ⟨h1, h2⟩
  · rcases k with k | ⟨k1, _⟩ <;> left <;> omega
  · rcases k with k | ⟨k1, k2⟩
    · left; omega
    · right
      refine ⟨by omega, ?_⟩
      rcases h2 with h2 | ⟨h2, h3⟩
      · rcases k2 with k2 | ⟨k2, _⟩ <;> left <;> omega
      · rcases k2 with k2 | ⟨k2, k3⟩
        · left; omega
        · right
          refine ⟨by omega, ?_⟩
          rcases h3 with h3 | rfl
          · rcases k3 with k3 | rfl
            · exact .inl (befB_trans h3 k3)
            · exact .inl h3
          · exact k3
/-- What was found of what was looked at. -/
structure BstI (T : Tn) (f : Int) (best : List Int) (fd : Bool) (Pr : List Int → Prop) : Prop where
  no : fd = false → best = [] ∧ ∀ o, Pr o → keepS T f (setI o) = false
  yes : fd = true → Pr best ∧ keepS T f (setI best) = true ∧ ∀ o, Pr o → keepS T f (setI o) = true → leB T best o
theorem leB_self (T : Tn) (a : List Int) : leB T a a := .inr ⟨rfl, .inr ⟨rfl, .inr rfl⟩⟩
theorem BstI.put {T : Tn} {f : Int} {best x : List Int} {fd : Bool} {Pr Pr' : List Int → Prop} (h : BstI T f best fd Pr) (hP : ∀ o, Pr' o ↔ Pr o ∨ o = x) (hx : keepS T f (setI x) = true) (hc : fd = true → costL T x < costL T best) : BstI T f x true Pr' := by
  refine ⟨fun e => (by cases e), fun _ => ⟨(hP x).2 (.inr rfl), hx, fun o ho hk => ?_⟩⟩
  rcases (hP o).1 ho with ho | rfl
  · cases hfd : fd with
    | false =>
      have := (h.no hfd).2 o ho
      rw [this] at hk
      cases hk
    | true => exact leB_trans (.inl (hc hfd)) ((h.yes hfd).2.2 o ho hk)
  · exact leB_self T o
theorem BstI.pass {T : Tn} {f : Int} {best x : List Int} {fd : Bool} {Pr Pr' : List Int → Prop} (h : BstI T f best fd Pr) (hP : ∀ o, Pr' o ↔ Pr o ∨ o = x) (hx : keepS T f (setI x) = false ∨ (fd = true ∧ costL T best ≤ costL T x ∧ ∀ y, Pr y → ordE y x)) : BstI T f best fd Pr' := by
  refine ⟨fun e => ⟨(h.no e).1, fun o ho => ?_⟩, fun e => ⟨(hP best).2 (.inl (h.yes e).1), (h.yes e).2.1, fun o ho hk => ?_⟩⟩
  · rcases (hP o).1 ho with ho | rfl
    · exact (h.no e).2 o ho
    · rcases hx with hx | ⟨hx, _⟩
      · exact hx
      · rw [e] at hx; cases hx
  · rcases (hP o).1 ho with ho | rfl
    · exact (h.yes e).2.2 o ho hk
    · rcases hx with hx | ⟨_, hx, hy⟩
      · rw [hx] at hk; cases hk
      · rcases Int.lt_or_eq_of_le hx with hlt | heq
        · exact .inl hlt
        · refine .inr ⟨heq, ?_⟩
          rcases hy best (h.yes e).1 with h1 | ⟨h1, h2⟩
          · exact .inl h1
          · exact .inr ⟨h1, .inl h2⟩
/-- What was looked at. -/
def ScB (L : List Int) (m i : Nat) (o : List Int) : Prop := (∃ m', m' < m ∧ o ∈ subL m' L) ∨ ∃ j, j < i ∧ (subL m L)[j]? = some o
theorem sc_step {L x : List Int} {m i : Nat} (hx : (subL m L)[i]? = some x) (o : List Int) : ScB L m (i + 1) o ↔ ScB L m i o ∨ o = x := by
  unfold ScB
  constructor
  · rintro (h | ⟨j, h1, h2⟩)
    · exact .inl (.inl h)
    · rcases Nat.lt_succ_iff_lt_or_eq.1 h1 with h1 | rfl
      · exact .inl (.inr ⟨j, h1, h2⟩)
      · rw [hx] at h2
        injection h2 with h2
        exact .inr h2.symm
  · rintro ((h | ⟨j, h1, h2⟩) | rfl)
    · exact .inl h
    · exact .inr ⟨j, by omega, h2⟩
    · exact .inr ⟨i, by omega, hx⟩
theorem sc_level {L : List Int} {m : Nat} (o : List Int) : ScB L (m + 1) 0 o ↔ ScB L m (subL m L).length o := by
  unfold ScB
  constructor
  · rintro (⟨m', h1, h2⟩ | ⟨j, h1, _⟩)
    · rcases Nat.lt_succ_iff_lt_or_eq.1 h1 with h1 | rfl
      · exact .inl ⟨m', h1, h2⟩
      · obtain ⟨j, hj⟩ := List.getElem?_of_mem h2
        exact .inr ⟨j, (List.getElem?_eq_some_iff.1 hj).1, hj⟩
    · omega
  · rintro (⟨m', h1, h2⟩ | ⟨j, _, h2⟩)
    · exact .inl ⟨m', by omega, h2⟩
    · exact .inl ⟨m, by omega, List.mem_of_getElem? h2⟩
theorem BstI.same {T : Tn} {f : Int} {best : List Int} {fd : Bool} {Pr Pr' : List Int → Prop} (h : BstI T f best fd Pr) (hP : ∀ o, Pr' o ↔ Pr o) : BstI T f best fd Pr' :=
  ⟨fun e => ⟨(h.no e).1, fun o ho => (h.no e).2 o ((hP o).1 ho)⟩, fun e => ⟨(hP best).2 (h.yes e).1, (h.yes e).2.1, fun o ho hk => (h.yes e).2.2 o ((hP o).1 ho) hk⟩⟩
theorem sc_ord {L x : List Int} {m i : Nat} (hL : L.Pairwise (· < ·)) (hx : (subL m L)[i]? = some x) : ∀ y, ScB L m i y → ordE y x := fun y hy => by
  have hxl := (sub_mem.1 (List.mem_of_getElem? hx)).2
  rcases hy with ⟨m', h1, h2⟩ | ⟨j, h1, h2⟩
  · have := (sub_mem.1 h2).2
    exact .inl (by omega)
  · have := (sub_mem.1 (List.mem_of_getElem? h2)).2
    refine .inr ⟨by omega, ?_⟩
    have hp := List.pairwise_iff_getElem.1 (sub_order m hL)
    obtain ⟨hj, ej⟩ := List.getElem?_eq_some_iff.1 h2
    obtain ⟨hi, ei⟩ := List.getElem?_eq_some_iff.1 hx
    have := hp j i hj hi h1
    rw [ej, ei] at this
    exact this
theorem bef_tri : ∀ {a b : List Int}, a.length = b.length → befB a b = false → befB b a = false → a = b
  | [], [], _, _, _ => rfl
  | [], _ :: _, h, _, _ => by simp at h
  | _ :: _, [], h, _, _ => by simp at h
  | x :: a, y :: b, h, h1, h2 => by
    unfold befB at h1 h2
    by_cases e : x = y
    · subst e
      rw [if_pos rfl] at h1 h2
      rw [bef_tri (by simpa using h) h1 h2]
    · rw [if_neg e] at h1
      rw [if_neg (fun h => e h.symm)] at h2
      simp only [decide_eq_false_iff_not] at h1 h2
      omega
theorem sitN_pair (n : Nat) : (sitN n).Pairwise (· < ·) := by
  unfold sitN
  rw [List.pairwise_map]
  exact List.pairwise_lt_range.imp fun h => Int.ofNat_lt.2 h
theorem sit_full {n s : Nat} (hs : s < 2 ^ n) (hn : n ≤ 10) : (sitZ (s : Int)).Sublist (sitN n) := by
  unfold sitZ sitN
  refine List.Sublist.map _ ?_
  have e : sitL (s : Int) = (List.range n).filter fun k => s.testBit k := by
    unfold sitL
    obtain ⟨d, hd⟩ : ∃ d, 10 = n + d := ⟨10 - n, by omega⟩
    rw [hd, List.range_add, List.filter_append]
    have e2 : ((List.range d).map (n + ·)).filter (fun k => jackB (s : Int) k) = [] := by
      rw [List.filter_eq_nil_iff]
      intro a ha
      obtain ⟨i, _, rfl⟩ := List.mem_map.1 ha
      rw [jack_bit, Nat.testBit_lt_two_pow (Nat.lt_of_lt_of_le hs (Nat.pow_le_pow_right (by decide) (Nat.le_add_right _ _)))]
      simp
    rw [e2, List.append_nil]
    exact List.filter_congr fun k _ => by rw [jack_bit]
  rw [e]
  exact List.filter_sublist
theorem sub_cool2 {T : Tn} {m : Nat} {o : List Int} (h : o ∈ subL m (sitN T.ss.length)) : coolB T o = true := by
  have hs := (sub_mem.1 h).1
  exact clB_of (fun y hy => by
    obtain ⟨k, hk, rfl⟩ := List.mem_map.1 (hs.subset hy)
    have := List.mem_range.1 hk
    have e : Int.ofNat k = (k : Int) := rfl
    omega) ((sitN_pair _).sublist hs)
theorem bst_all {T : Tn} {f : Int} {best : List Int} {fd : Bool} (K : TnOk T) (h : BstI T f best fd (ScB (sitN T.ss.length) (T.ss.length + 1) 0)) : fd = (besO T f).isSome ∧ best = (match besO T f with | some b => sitZ (b : Int) | none => []) := by
  have h10 := K.s10
  have hall : ∀ s : Nat, s < 2 ^ T.ss.length → ScB (sitN T.ss.length) (T.ss.length + 1) 0 (sitZ (s : Int)) := fun s hs => by
    have h1 := sit_full hs (by omega)
    have h2 := h1.length_le
    rw [sitN_len] at h2
    exact .inl ⟨_, by omega, sub_mem.2 ⟨h1, rfl⟩⟩
  have hp : (2 : Nat) ^ T.ss.length ≤ 2 ^ 10 := Nat.pow_le_pow_right (by decide) (by omega)
  have hse : ∀ s : Nat, s < 2 ^ T.ss.length → setI (sitZ (s : Int)) = s := fun s hs => set_sit (Nat.lt_of_lt_of_le hs hp)
  cases hb : besO T f with
  | none =>
    cases hfd : fd with
    | false => exact ⟨rfl, (h.no hfd).1⟩
    | true =>
      exfalso
      obtain ⟨h1, h2, _⟩ := h.yes hfd
      rcases h1 with ⟨m', _, hm⟩ | ⟨j, hj, _⟩
      · have h3 := best_none hb _ (setI_lt (sub_cool2 hm))
        rw [h3] at h2
        cases h2
      · omega
  | some b =>
    have hbl := bestK_lt hb
    obtain ⟨h1, h2⟩ := best_some hb
    cases hfd : fd with
    | false =>
      exfalso
      have := (h.no hfd).2 _ (hall b hbl)
      rw [hse b hbl, h1] at this
      cases this
    | true =>
      refine ⟨rfl, ?_⟩
      obtain ⟨h3, h4, h5⟩ := h.yes hfd
      have hcool : coolB T best = true := by
        rcases h3 with ⟨m', _, hm⟩ | ⟨j, hj, _⟩
        · exact sub_cool2 hm
        · omega
      have h6 := h5 _ (hall b hbl) (by rw [hse b hbl]; exact h1)
      have h7 := h2 _ (setI_lt hcool) h4
      have h8 : ¬ befS T (setI best) b = true := by rw [h7]; simp
      rw [bef_iff, cool_sit K hcool, ← cost_sit T (setI best), cool_sit K hcool, ← cost_sit T b] at h8
      show best = sitZ (b : Int)
      rcases h6 with h6 | ⟨h6, h9⟩
      · exact absurd (.inl h6) h8
      · rcases h9 with h9 | ⟨h9, h10⟩
        · exact absurd (.inr ⟨h6, .inl h9⟩) h8
        · rcases h10 with h10 | h10
          · rw [befB_cmp h9] at h10
            exact absurd (.inr ⟨h6, .inr ⟨h9, by simpa using h10⟩⟩) h8
          · exact h10
/-! ### The floor -/
def exL (T : Tn) (f : Int) (m h : Nat) : Bool := (subL m (sitN T.ss.length)).any fun o => decide (f ≤ bearsI T h (setI o))
theorem few_in {T : Tn} {h : Nat} {f : Int} : fewI T h f ≤ T.ss.length := by
  unfold fewI
  cases hb : fewO T h f with
  | none => show (-1 : Int) ≤ _; omega
  | some m =>
    unfold fewO at hb
    have := List.mem_range.1 (List.mem_of_find?_eq_some hb)
    show (m : Int) ≤ _
    omega
theorem ex_iff {T : Tn} (K : TnOk T) {f : Int} (hf : 0 ≤ f ∧ f ≤ 3) {m h : Nat} (hm : m ≤ T.ss.length) : exL T f m h = true ↔ 0 ≤ fewI T h f ∧ fewI T h f ≤ m := by
  have h10 := K.s10
  unfold exL
  rw [List.any_eq_true]
  constructor
  · rintro ⟨o, ho, hk⟩
    rw [decide_eq_true_eq] at hk
    have hc := sub_cool2 ho
    have := few_le K hf (setI_lt hc) hk
    have e : (sitL ((setI o : Nat) : Int)).length = m := by rw [← sitZ_len2, cool_sit K hc]; exact (sub_mem.1 ho).2
    rw [e] at this
    exact this
  · rintro ⟨h1, h2⟩
    obtain ⟨ys, hp, hd⟩ := strong_ys T h (2 ^ T.ss.length - 1)
    have hps : (2 ^ T.ss.length - 1 : Nat) < 2 ^ T.ss.length := by have := Nat.two_pow_pos T.ss.length; omega
    cases hfo : fewO T h f with
    | none => unfold fewI at h1; rw [hfo] at h1; exact absurd h1 (by decide)
    | some k =>
      unfold fewI at h2
      rw [hfo] at h2
      have hk := List.find?_some (show (List.range (T.ss.length + 1)).find? _ = some k from hfo)
      rw [decide_eq_true_eq] at hk
      have hkm : k ≤ m := by have h2' : (k : Int) ≤ m := h2; omega
      have hdl : Dsc (lowZ T h) (ys.map Int.ofNat) := by
        unfold Dsc
        rw [List.pairwise_map]
        have hs := dsc_sorted (givL T h (2 ^ T.ss.length - 1))
        rw [← hd, List.pairwise_map] at hs
        exact hs
      have hpZ : (ys.map Int.ofNat).Perm (sitZ ((2 ^ T.ss.length - 1 : Nat) : Int)) := hp.map _
      have hbe := few_bears (m := m) hpZ hdl
      have hmap : ((ys.map Int.ofNat).take m).map Int.toNat = ys.take m := by
        rw [← List.map_take, List.map_map, show (Int.toNat ∘ Int.ofNat) = id from rfl, List.map_id]
      rw [hmap] at hbe
      have hyn : ∀ x ∈ ys, x < T.ss.length := fun x hx => by
        have h1 := mem_sit.1 (hp.mem_iff.1 hx)
        exact testBit_lt hps h1.2
      have hnd : ys.Nodup := hp.nodup_iff.2 (sit_nodup _)
      have hlen : ys.length = T.ss.length := by rw [hp.length_eq, full_len h10.2]
      have hxl : setL (ys.take m) < 2 ^ T.ss.length := setL_lt2 fun x hx => hyn x (List.mem_of_mem_take hx)
      have hx10 : setL (ys.take m) < 2 ^ 10 := Nat.lt_of_lt_of_le hxl (Nat.pow_le_pow_right (by decide) (by omega))
      have hsx := sit_set (cs := ys.take m) (hnd.sublist (List.take_sublist _ _)) (fun x hx => by have := hyn x (List.mem_of_mem_take hx); omega)
      refine ⟨sitZ ((setL (ys.take m) : Nat) : Int), sub_mem.2 ⟨sit_full hxl (by omega), by rw [sitZ_len2, hsx.length_eq, List.length_take]; omega⟩, ?_⟩
      rw [decide_eq_true_eq, set_sit hx10, hbe]
      refine Int.le_trans hk ?_
      have hz : ∀ x ∈ (allD T h).take m, 0 ≤ x := fun x hx => by
        have h1 := List.mem_of_mem_take hx
        have h2 := (dsc_perm (givL T h (2 ^ T.ss.length - 1))).mem_iff.1 h1
        obtain ⟨k, _, rfl⟩ := List.mem_map.1 h2
        exact (low_in K h k).1
      exact bearsV_more (List.take_sublist_take_left hkm) hz (Int.le_refl _)
def rflo (T : Tn) (f : Int) : Int := match floO T f with | some m => m | none => -1
theorem floorK_le {T : Tn} {f : Int} {m : Int} (hm : 0 ≤ m) : ∀ k, floorK T f k ≤ m ↔ ∀ h, h < k → fewI T h f ≤ m
  | 0 => ⟨fun _ h hh => absurd hh (Nat.not_lt_zero _), fun _ => hm⟩
  | k + 1 => by
    have ih := floorK_le hm k (T := T) (f := f)
    unfold floorK
    constructor
    · intro h j hj
      rcases Nat.lt_succ_iff_lt_or_eq.1 hj with hj | rfl
      · exact ih.1 (by omega) j hj
      · omega
    · intro h
      have h1 := ih.2 fun j hj => h j (by omega)
      have h2 := h k (by omega)
      omega
theorem floorK_0 {T : Tn} {f : Int} : ∀ k, 0 ≤ floorK T f k
  | 0 => Int.le_refl _
  | k + 1 => by have := floorK_0 k (T := T) (f := f); unfold floorK; omega
theorem flo_all {T : Tn} (K : TnOk T) {f : Int} (hf : 0 ≤ f ∧ f ≤ 3) {m : Nat} (hm : m ≤ T.ss.length) : (∀ h, h < T.hs.length → exL T f m h = true) ↔ 0 ≤ rflo T f ∧ rflo T f ≤ m := by
  have h6 := K.h6
  unfold rflo
  by_cases hall : ∀ h, h < T.hs.length → 0 ≤ fewI T h f
  · rw [floO_yes hall]
    show _ ↔ 0 ≤ floorK T f T.hs.length ∧ floorK T f T.hs.length ≤ m
    rw [floorK_le (by omega)]
    refine ⟨fun h => ⟨floorK_0 _, fun j hj => ((ex_iff K hf hm).1 (h j hj)).2⟩, fun h j hj => (ex_iff K hf hm).2 ⟨hall j hj, h.2 j hj⟩⟩
  · obtain ⟨k, hk, hn⟩ : ∃ k, k < T.hs.length ∧ fewI T k f < 0 := by
      refine Classical.byContradiction fun hno => hall fun h hh => ?_
      refine Classical.byContradiction fun h2 => hno ⟨h, hh, by omega⟩
    rw [floO_no hk hn]
    refine ⟨fun h => ?_, fun h => ?_⟩
    · have := ((ex_iff K hf hm).1 (h k hk)).1
      omega
    · exact absurd h.1 (by decide)
theorem flo_found {T : Tn} (K : TnOk T) {f : Int} (hf : 0 ≤ f ∧ f ≤ 3) {m : Nat} (hm : m ≤ T.ss.length) (h1 : ∀ h, h < T.hs.length → exL T f m h = true) (h0 : ∀ m', m' < m → ¬ ∀ h, h < T.hs.length → exL T f m' h = true) : rflo T f = m := by
  obtain ⟨h2, h3⟩ := (flo_all K hf hm).1 h1
  rcases Int.lt_or_eq_of_le h3 with hlt | he
  · exfalso
    refine h0 (rflo T f).toNat (by omega) ?_
    exact (flo_all K hf (by omega)).2 ⟨h2, by omega⟩
  · exact he
theorem flo_none {T : Tn} (K : TnOk T) {f : Int} (hf : 0 ≤ f ∧ f ≤ 3) (h0 : ∀ m', m' < T.ss.length + 1 → ¬ ∀ h, h < T.hs.length → exL T f m' h = true) : rflo T f = -1 := by
  have h1 := h0 T.ss.length (by omega)
  rw [flo_all K hf (Nat.le_refl _)] at h1
  have hin : rflo T f ≤ T.ss.length ∧ -1 ≤ rflo T f := by
    unfold rflo
    by_cases hall : ∀ h, h < T.hs.length → 0 ≤ fewI T h f
    · rw [floO_yes hall]
      exact ⟨(floorK_le (by omega) _).2 fun h _ => few_in, by have := floorK_0 (T := T) (f := f) T.hs.length; show -1 ≤ floorK T f T.hs.length; omega⟩
    · obtain ⟨k, hk, hn⟩ : ∃ k, k < T.hs.length ∧ fewI T k f < 0 := by
        refine Classical.byContradiction fun hno => hall fun h hh => ?_
        refine Classical.byContradiction fun h2 => hno ⟨h, hh, by omega⟩
      rw [floO_no hk hn]
      exact ⟨by show (-1 : Int) ≤ _; omega, Int.le_refl _⟩
  omega
end Go.Proofs.Ytmppiiamcpjhnaa
