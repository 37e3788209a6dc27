/- Coolers: a cooler more, and a house that needs less: the mathematics of CoolMore. -/
import Derived.Test.YtmppiiamcpjhnaaDC
namespace Go.Proofs.Ytmppiiamcpjhnaa
open Go.RowKit Go.Shelf

theorem sum_more : ∀ {a b : List Int}, a.length ≤ b.length → (∀ x ∈ b, 0 ≤ x) → (∀ (i : Nat) (x y : Int), a[i]? = some x → b[i]? = some y → x ≤ y) → a.sum ≤ b.sum
  | [], b, _, h0, _ => by simpa using sum_nonneg h0
  | x :: a, [], hl, _, _ => by simp at hl
  | x :: a, y :: b, hl, h0, h => by
    have h1 := h 0 x y rfl rfl
    have h2 := sum_more (a := a) (b := b) (by simpa using hl) (fun z hz => h0 z (by simp [hz])) (fun i u v hu hv => h (i + 1) u v (by simpa using hu) (by simpa using hv))
    rw [List.sum_cons, List.sum_cons]
    omega
theorem drop_more {l1 l2 : List Int} (h : l1.Sublist l2) (h0 : ∀ x ∈ l2, 0 ≤ x) (f : Nat) : ((dsc l1).drop f).sum ≤ ((dsc l2).drop f).sum := by
  have hd := dsc_sub h
  refine sum_more ?_ (fun x hx => h0 x ((dsc_perm l2).mem_iff.1 (List.mem_of_mem_drop hx))) fun i x y hx hy => ?_
  · rw [List.length_drop, List.length_drop]
    have := hd.length_le
    omega
  · rw [List.getElem?_drop] at hx hy
    exact sub_get hd (dsc_sorted _) _ x y hx hy
/-- With more numbers, and for less, they bear no fewer failures. -/
theorem bearsV_more {n1 n2 : Int} {l1 l2 : List Int} (h : l1.Sublist l2) (h0 : ∀ x ∈ l2, 0 ≤ x) (hn : n2 ≤ n1) : bearsV n1 l1 ≤ bearsV n2 l2 := by
  have d0 := drop_more h h0 0
  have d1 := drop_more h h0 1
  have d2 := drop_more h h0 2
  have d3 := drop_more h h0 3
  rw [List.drop_zero, List.drop_zero] at d0
  unfold bearsV
  repeat' split
  all_goals omega
/-- A set beside a greater one. -/
theorem sit_more {s t : Nat} (h : ∀ j, s.testBit j = true → t.testBit j = true) : (sitL (s : Int)).Sublist (sitL (t : Int)) := by
  have e : sitL (s : Int) = (sitL (t : Int)).filter fun k => jackB (s : Int) k := by
    unfold sitL
    rw [List.filter_filter]
    refine List.filter_congr fun k _ => ?_
    rw [jack_bit, jack_bit]
    cases hb : s.testBit k with
    | false => simp
    | true => simp [h k hb]
  rw [e]
  exact List.filter_sublist
/-- A town whose houses need no more, and whose sites are the same, is kept by no fewer coolers. -/
theorem keep_more {T T' : Tn} (K : TnOk T) {f : Int} {s t : Nat} (hs : T'.ss = T.ss) (hl : T'.hs.length = T.hs.length) (hn : ∀ h, h < T.hs.length → needI T' h ≤ needI T h) (hst : ∀ j, s.testBit j = true → t.testBit j = true) (hk : keepS T f s = true) : keepS T' f t = true := by
  unfold keepS
  rw [uneven_none fun h hh => ?_]
  · rfl
  · have h1 := keep_bears hk (h := h) (by omega)
    have e : ∀ u, givL T' h u = givL T h u := fun u => by
      unfold givL lowI
      rw [hs]
    have h2 : bearsI T h s ≤ bearsI T' h t := by
      unfold bearsI
      rw [e]
      refine bearsV_more ((sit_more hst).map _) (fun x hx => ?_) (hn h (by omega))
      obtain ⟨k, _, rfl⟩ := List.mem_map.1 hx
      exact (low_in K h k).1
    omega
/-- The best coolers of a town that needs no more are no dearer. -/
theorem best_more {T T' : Tn} (K : TnOk T) {f : Int} (hs : T'.ss = T.ss) (hl : T'.hs.length = T.hs.length) (hn : ∀ h, h < T.hs.length → needI T' h ≤ needI T h) {b : Nat} (hb : besO T f = some b) : ∃ b', besO T' f = some b' ∧ costS T' b' ≤ costS T b := by
  obtain ⟨h1, _⟩ := best_some hb
  have hbl : b < 2 ^ T.ss.length := bestK_lt hb
  have h2 := keep_more (t := b) K hs hl hn (fun _ h => h) h1
  have hbl' : b < 2 ^ T'.ss.length := by rw [hs]; exact hbl
  have ec : ∀ u, costS T' u = costS T u := fun u => by
    unfold costS costI
    rw [hs]
  cases hb' : besO T' f with
  | none => rw [best_none hb' b hbl'] at h2; cases h2
  | some b' =>
    refine ⟨b', rfl, ?_⟩
    obtain ⟨_, h3⟩ := best_some hb'
    have h4 := h3 b hbl' h2
    rw [← ec b]
    have h5 : ¬ befS T' b b' = true := by rw [h4]; simp
    rw [bef_iff] at h5
    omega
end Go.Proofs.Ytmppiiamcpjhnaa
