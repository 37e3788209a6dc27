/- Coolers: a cooler more, and a house that needs less: what they are. -/
import Derived.Test.YtmppiiamcpjhnaaEC
import Derived.Test.YtmppiiamcpjhnaaDO
namespace Go.Proofs.Ytmppiiamcpjhnaa
open Go.RowKit Go.Shelf

/-- The coolers with one more. -/
def moreN (bo : List Int) (s k : Nat) : List Int := ((List.range k).filter fun i => decide (i = s) || decide ((i : Int) ∈ bo)).map Int.ofNat
theorem moreN_len (bo : List Int) (s k : Nat) : (moreN bo s k).length ≤ k := by
  unfold moreN
  rw [List.length_map]
  exact Nat.le_trans (List.length_filter_le _ _) (by simp)
theorem moreN_yes {bo : List Int} {s k : Nat} (h : k = s ∨ (k : Int) ∈ bo) : moreN bo s (k + 1) = moreN bo s k ++ [(k : Int)] := by
  unfold moreN
  rw [List.range_succ, List.filter_append, List.map_append]
  rcases h with h | h <;> simp [h]
theorem moreN_no {bo : List Int} {s k : Nat} (h1 : ¬ k = s) (h2 : ¬ (k : Int) ∈ bo) : moreN bo s (k + 1) = moreN bo s k := by
  unfold moreN
  rw [List.range_succ, List.filter_append, List.map_append]
  simp [h1, h2]
theorem moreN_cool (T : Tn) (bo : List Int) (s : Nat) : coolB T (moreN bo s T.ss.length) = true := by
  refine clB_of (fun y hy => ?_) ?_
  · obtain ⟨k, hk, rfl⟩ := List.mem_map.1 hy
    have := List.mem_range.1 (List.mem_filter.1 hk).1
    have e : Int.ofNat k = (k : Int) := rfl
    omega
  · unfold moreN
    rw [List.pairwise_map]
    exact (List.Pairwise.filter _ List.pairwise_lt_range).imp fun h => Int.ofNat_lt.2 h
theorem moreN_bits {T : Tn} {bo : List Int} {s : Nat} (hC : coolB T bo = true) : ∀ j, (setI bo).testBit j = true → (setI (moreN bo s T.ss.length)).testBit j = true := fun j hj => by
  unfold setI at hj ⊢
  rw [setL_bit, decide_eq_true_eq] at hj ⊢
  obtain ⟨x, hx, rfl⟩ := List.mem_map.1 hj
  have h := clB_mem hC x hx
  refine List.mem_map.2 ⟨x, ?_, rfl⟩
  unfold moreN
  refine List.mem_map.2 ⟨x.toNat, List.mem_filter.2 ⟨List.mem_range.2 (by omega), ?_⟩, by rw [Int.ofNat_eq_natCast]; omega⟩
  have e : ((x.toNat : Nat) : Int) = x := by omega
  simp [e, hx]
/-- A house that needs less. -/
def lessH (x : Hs) (d : Int) : Hs := ⟨x.nl, max x.nl (x.nh - d), x.g⟩
def lessT (T : Tn) (h : Nat) (d : Int) : Tn := ⟨T.hs.modify h fun x => lessH x d, T.ss⟩
theorem less_len (T : Tn) (h : Nat) (d : Int) : (lessT T h d).hs.length = T.hs.length := by unfold lessT; simp
theorem less_ok {T : Tn} (K : TnOk T) {h : Nat} {d : Int} (hd : 0 ≤ d) : TnOk (lessT T h d) := by
  refine ⟨by rw [less_len]; exact K.h6, K.s10, fun x hx => ?_, fun s hs => by rw [less_len]; exact K.ss s hs⟩
  obtain ⟨i, hi⟩ := List.getElem?_of_mem hx
  unfold lessT at hi
  rw [List.getElem?_modify] at hi
  cases hg : T.hs[i]? with
  | none => rw [hg] at hi; cases hi
  | some y =>
    have hy := K.hs y (List.mem_of_getElem? hg)
    rw [hg] at hi
    simp only [Option.map_eq_map, Option.map_some, Option.some.injEq] at hi
    by_cases e : h = i
    · rw [if_pos e] at hi
      subst hi
      have := hy.n
      exact ⟨by show 0 ≤ y.nl ∧ y.nl ≤ max y.nl (y.nh - d) ∧ max y.nl (y.nh - d) ≤ 1000000; omega, hy.g⟩
    · rw [if_neg e] at hi
      subst hi
      exact hy
theorem less_need {T : Tn} (K : TnOk T) {h : Nat} {d : Int} (hd : 0 ≤ d) : ∀ k, k < T.hs.length → needI (lessT T h d) k ≤ needI T k := fun k hk => by
  obtain ⟨y, hg⟩ := get_of_lt (l := T.hs) (k := k) hk
  have hy := K.hs y (List.mem_of_getElem? hg)
  unfold needI lessT
  rw [List.getD_eq_getElem?_getD, List.getD_eq_getElem?_getD, List.getElem?_modify, hg]
  simp only [Option.getD_some]
  have := hy.n
  split
  · show max y.nl (y.nh - d) ≤ y.nh
    omega
  · exact Int.le_refl _
theorem less_cool (T : Tn) (h : Nat) (d : Int) (bo : List Int) : coolB (lessT T h d) bo = coolB T bo := rfl
/-- What is told of them. -/
theorem more_all {T : Tn} {bo : List Int} {f d : Int} {s h : Nat} (K : TnOk T) (hC : coolB T bo = true) (hf : inB 0 f 3 = true) (hd : 0 ≤ d) :
    ∃ a b c : Bool, keepV T bo f = .tuple #[.bool a, .int .i64 0] ∧ keepV T (moreN bo s T.ss.length) f = .tuple #[.bool b, .int .i64 0] ∧ keepV (lessT T h d) bo f = .tuple #[.bool c, .int .i64 0] ∧ (a = true → b = true ∧ c = true) ∧
      ((besE T f = 5 ∧ (besE (lessT T h d) f = 0 ∨ besE (lessT T h d) f = 5)) ∨ (besE T f = 0 ∧ besE (lessT T h d) f = 0 ∧ besC (lessT T h d) f ≤ besC T f)) := by
  have K2 := less_ok (h := h) K hd
  have hl := less_len T h d
  have hn := less_need (h := h) K hd
  have h0 := fail_ok K (coolB_nil T) hf
  have h02 : failI (lessT T h d) [] f = 0 := fail_ok K2 (coolB_nil _) hf
  refine ⟨_, _, _, keepV_ok K hC hf, keepV_ok K (moreN_cool T bo s) hf, keepV_ok K2 (by rw [less_cool]; exact hC) hf, fun ha => ⟨?_, ?_⟩, ?_⟩
  · exact keep_more K rfl rfl (fun _ _ => Int.le_refl _) (moreN_bits hC) ha
  · exact keep_more K rfl hl hn (fun _ h => h) ha
  · cases hb : besO T f with
    | none =>
      refine .inl ⟨by unfold besE; rw [if_pos h0, hb], ?_⟩
      cases hb2 : besO (lessT T h d) f with
      | none => exact .inr (by unfold besE; rw [if_pos h02, hb2])
      | some b => exact .inl (by unfold besE; rw [if_pos h02, hb2])
    | some b =>
      obtain ⟨b', h1, h2⟩ := best_more (T' := lessT T h d) K rfl hl hn hb
      exact .inr ⟨by unfold besE; rw [if_pos h0, hb], by unfold besE; rw [if_pos h02, h1], by unfold besC; rw [if_pos h0, if_pos h02, hb, h1]; exact h2⟩
end Go.Proofs.Ytmppiiamcpjhnaa
namespace Go.Proofs.Ytmppiiamcpjhnaa
open Go.RowKit Go.Shelf

theorem hsR_len (x : Hs) : (hsR x).length = 3 := rfl
theorem flat_hs (l : List Hs) : (flatR hsR l).length = l.length * 3 := by
  induction l with
  | nil => rfl
  | cons x l ih =>
    show (hsR x ++ flatR hsR l).length = _
    rw [List.length_append, ih, List.length_cons, hsR_len]
    omega
theorem hs_cells {w : World} {b o : Nat} {l : List Hs} (h : ∀ (i : Nat) (x : Hs), l[i]? = some x → ∀ (j : Nat) v, (hsR x)[j]? = some v → w.cell? ⟨b, o + i * 3 + j, none⟩ = some v) : ∀ (q : Nat) v, (flatR hsR l)[q]? = some v → w.cell? ((⟨b, o, none⟩ : Addr).add q) = some v := fun q v hq => by
  have hlt := (List.getElem?_eq_some_iff.1 hq).1
  rw [flat_hs] at hlt
  obtain ⟨x, hx⟩ := get_of_lt (l := l) (k := q / 3) (by omega)
  have hm : q % 3 < 3 := Nat.mod_lt _ (by decide)
  have e := flat_get hsR_len l (q / 3) x (q % 3) hx hm
  have hqe : q / 3 * 3 + q % 3 = q := Nat.div_add_mod' q 3
  rw [hqe] at e
  have h1 := h (q / 3) x hx (q % 3) v (e.symm.trans hq)
  rw [addr_add, ← hqe, ← Nat.add_assoc]
  exact h1
theorem hs_one : ∀ (l : List Hs), ∀ u ∈ flatR hsR l, u.oneCell' = true := fun l u hu => by
  obtain ⟨r, hr, hu⟩ := List.mem_flatten.1 hu
  obtain ⟨x, _, rfl⟩ := List.mem_map.1 hr
  simp only [hsR, List.mem_cons, List.not_mem_nil, or_false] at hu
  rcases hu with rfl | rfl | rfl <;> rfl
/-- The houses of which one needs less, as they lie. -/
theorem less_row {w : World} {g h : Nat} {cs : Array Value} {l : List Hs} {x : Hs} {d m : Int} (hm : max x.nl (x.nh - d) = m) (hz : w.heap[g]? = some (.cells cs 74 (0, 0))) (hc : ∀ (i : Nat) v, (flatR hsR l)[i]? = some v → cs[i]? = some v) (hx : l[h]? = some x) :
    RowAt 3 hsR ((w.setCell ⟨g, h * 3, none⟩ (.int .i64 x.nl)).setCell ⟨g, h * 3 + 1, none⟩ (.int .i64 m)) ((w.setCell ⟨g, h * 3, none⟩ (.int .i64 x.nl)).setCell ⟨g, h * 3 + 1, none⟩ (.int .i64 m)).heap.size (some ⟨g, 0, none⟩) (l.modify h fun x => lessH x d) := fun _ => by
  have z2 := blk_set (blk_set hz (h * 3) (.int .i64 x.nl)) (h * 3 + 1) (.int .i64 m)
  have hget : ∀ (i : Nat) (y : Hs), l[i]? = some y → ∀ (j : Nat) v, (hsR y)[j]? = some v → cs[i * 3 + j]? = some v := fun i y hy j v hv => by
    have hj : j < 3 := by rw [← hsR_len y]; exact (List.getElem?_eq_some_iff.1 hv).1
    exact hc _ _ ((flat_get hsR_len l i y j hy hj).trans hv)
  refine ⟨g, 0, rfl, heapsz z2, fun i y hy j v hv => ?_⟩
  rw [Nat.zero_add, cell_of_row _ g _ _ 74 (0, 0) z2]
  rw [List.getElem?_modify] at hy
  cases hg : l[i]? with
  | none => rw [hg] at hy; cases hy
  | some y0 =>
    rw [hg] at hy
    simp only [Option.map_eq_map, Option.map_some, Option.some.injEq] at hy
    have hj : j < 3 := by rw [← hsR_len y]; exact (List.getElem?_eq_some_iff.1 hv).1
    have s0 : h * 3 < cs.size := by
      have := hget h x hx 0 _ rfl
      exact (Array.getElem?_eq_some_iff.1 this).1
    have s1 : h * 3 + 1 < cs.size := by
      have := hget h x hx 1 _ rfl
      exact (Array.getElem?_eq_some_iff.1 this).1
    by_cases e : h = i
    · subst e
      rw [if_pos rfl] at hy
      rw [hx] at hg
      injection hg with hg
      subst hg hy
      have : j = 0 ∨ j = 1 ∨ j = 2 := by omega
      rcases this with rfl | rfl | rfl
      · rw [Array.getElem?_setIfInBounds, if_neg (by omega), Array.getElem?_setIfInBounds, if_pos (by omega), if_pos s0]
        exact hv
      · rw [Array.getElem?_setIfInBounds, if_pos rfl, if_pos (by rw [Array.size_setIfInBounds]; exact s1), ← hm]
        exact hv
      · rw [Array.getElem?_setIfInBounds, if_neg (by omega), Array.getElem?_setIfInBounds, if_neg (by omega)]
        exact hget h x hx 2 v hv
    · rw [if_neg e] at hy
      subst hy
      rw [Array.getElem?_setIfInBounds, if_neg (by omega), Array.getElem?_setIfInBounds, if_neg (by omega)]
      exact hget i y0 hg j v hv
end Go.Proofs.Ytmppiiamcpjhnaa
