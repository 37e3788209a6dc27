/- Whatever is true lies between both ends: integers alone. -/
import Derived.Test.YtccekbdhffccdaaDoorBB
namespace Go.Proofs.YtccekbdhffccdaaDoor
open Go.RowKit

/-- The depth of some heat, layer by layer: thickness and ice. -/
def depthC : List (Int × Int) → Int → Int
  | [], _ => 0
  | [(_, m)], h => h / m
  | (t, m) :: p :: r, h => if h < t * m then h / m else t + depthC (p :: r) (h - t * m)
theorem depthC_zero : ∀ (l : List (Int × Int)), (∀ p ∈ l, 1 ≤ p.1 ∧ 1 ≤ p.2) → depthC l 0 = 0 := by
  intro l
  cases l with
  | nil => intro _; rfl
  | cons p r =>
    intro h
    obtain ⟨t, m⟩ := p
    have := h (t, m) (by simp)
    have hp : 0 < t * m := Int.mul_pos (by omega) (by omega)
    cases r with
    | nil => simp [depthC]
    | cons q r => simp [depthC, hp]
theorem depthC_nonneg : ∀ (l : List (Int × Int)) (h : Int), (∀ p ∈ l, 1 ≤ p.1 ∧ 1 ≤ p.2) → 0 ≤ h → 0 ≤ depthC l h := by
  intro l
  induction l with
  | nil => intro _ _ _; exact Int.le_refl _
  | cons p r ih =>
    intro h hp hh
    obtain ⟨t, m⟩ := p
    have h1 := hp (t, m) (by simp)
    cases r with
    | nil => exact Int.ediv_nonneg hh (by omega)
    | cons q r =>
      simp only [depthC]
      split
      · exact Int.ediv_nonneg hh (by omega)
      · have := ih (h - t * m) (fun x hx => hp x (by simp [hx])) (by omega)
        omega
theorem fold_zero (ms : List Int) : ∀ (l : List (Nat × Int)) (d : Int), (∀ p ∈ l, 0 ≤ p.2) → (l.foldl (dstep ms) (d, 0)).1 = d := by
  intro l
  induction l with
  | nil => intro d _; rfl
  | cons p r ih =>
    intro d hp
    have h1 := hp p (by simp)
    have : dstep ms (d, 0) p = (d, 0) := by simp [dstep, Int.min_eq_left h1]
    rw [List.foldl_cons, this]
    exact ih d (fun x hx => hp x (by simp [hx]))
def lpOf (ls : List Lay) (ms : List Int) : List (Int × Int) := (ls.map (·.t)).zip ms
theorem lpOf_get {ls : List Lay} {ms : List Int} {k : Nat} {x : Lay} {m : Int} (hx : ls[k]? = some x) (hm : ms[k]? = some m) : (lpOf ls ms)[k]? = some (x.t, m) := by
  unfold lpOf
  rw [List.getElem?_zip_eq_some]
  simp [hx, hm]
theorem fold_depthC {ls : List Lay} {ms : List Int} (hl : ms.length = ls.length) (ht : ∀ x ∈ ls, 1 ≤ x.t) (hm : ∀ x ∈ ms, 1 ≤ x) : ∀ n k d h, k + n + 1 = ls.length → 0 ≤ h → h ≤ 9223372036854775807 →
    (((List.range' k n).map (fun k => (k, heatOf ls ms k)) ++ [(ls.length - 1, 9223372036854775807)]).foldl (dstep ms) (d, h)).1 = d + depthC ((lpOf ls ms).drop k) h := by
  intro n
  induction n with
  | zero =>
    intro k d h hk h0 h1
    obtain ⟨x, hx⟩ := get_of_lt (l := ls) (k := k) (by omega)
    obtain ⟨m, hm'⟩ := get_of_lt (l := ms) (k := k) (by omega)
    have hlen : (lpOf ls ms).length = k + 1 := by simp [lpOf]; omega
    have hd : (lpOf ls ms).drop k = [(x.t, m)] := by
      have hg := lpOf_get hx hm'
      have hk' : k < (lpOf ls ms).length := by omega
      rw [List.drop_eq_getElem_cons hk', List.drop_of_length_le (by omega)]
      rw [List.getElem?_eq_getElem hk'] at hg
      injection hg with hg
      rw [hg]
    rw [hd]
    have hk2 : ls.length - 1 = k := by omega
    simp only [List.range'_zero, List.map_nil, List.nil_append, List.foldl_cons, List.foldl_nil, dstep, depthC, hk2, hm', Option.getD_some]
    rw [Int.min_eq_left h1]
  | succ n ih =>
    intro k d h hk h0 h1
    obtain ⟨x, hx⟩ := get_of_lt (l := ls) (k := k) (by omega)
    obtain ⟨m, hm'⟩ := get_of_lt (l := ms) (k := k) (by omega)
    have hlen : (lpOf ls ms).length = ls.length := by simp [lpOf]; omega
    have hk' : k < (lpOf ls ms).length := by omega
    have hk2 : k + 1 < (lpOf ls ms).length := by omega
    have hd : (lpOf ls ms).drop k = (x.t, m) :: (lpOf ls ms).drop (k + 1) := by
      have hg := lpOf_get hx hm'
      rw [List.drop_eq_getElem_cons hk']
      rw [List.getElem?_eq_getElem hk'] at hg
      injection hg with hg
      rw [hg]
    have tx := ht x (List.mem_of_getElem? hx)
    have mx := hm m (List.mem_of_getElem? hm')
    have hp : 1 ≤ x.t * m := Int.mul_pos (by omega) (by omega)
    have hC : depthC ((lpOf ls ms).drop k) h = if h < x.t * m then h / m else x.t + depthC ((lpOf ls ms).drop (k + 1)) (h - x.t * m) := by
      rw [hd, List.drop_eq_getElem_cons hk2]
      simp only [depthC]
    rw [hC, List.range'_succ, List.map_cons, List.cons_append, List.foldl_cons]
    have hs : dstep ms (d, h) (k, heatOf ls ms k) = (d + min h (x.t * m) / m, h - min h (x.t * m)) := by simp [dstep, heatOf, hx, hm']
    rw [hs]
    split
    · rename_i hlt
      rw [Int.min_eq_left (by omega), Int.sub_self]
      refine fold_zero ms _ _ (fun p hp => ?_)
      rw [List.mem_append, List.mem_map, List.mem_singleton] at hp
      rcases hp with ⟨i, hi, rfl⟩ | rfl
      · simp only [heatOf]
        rw [List.mem_range'_1] at hi
        obtain ⟨y, hy⟩ := get_of_lt (l := ls) (k := i) (by omega)
        obtain ⟨z, hz⟩ := get_of_lt (l := ms) (k := i) (by omega)
        have t1 := ht y (List.mem_of_getElem? hy)
        have t2 := hm z (List.mem_of_getElem? hz)
        simp only [hy, hz, Option.elim_some, Option.getD_some]
        exact Int.mul_nonneg (by omega) (by omega)
      · exact (by decide : (0 : Int) ≤ 9223372036854775807)
    · rename_i hlt
      rw [Int.min_eq_right (by omega), Int.mul_ediv_cancel _ (by omega), ih (k + 1) _ _ (by omega) (by omega) (by omega)]
      omega
theorem depthF_C {ls : List Lay} {ms : List Int} {h : Int} (hl : ms.length = ls.length) (h1 : 1 ≤ ls.length) (ht : ∀ x ∈ ls, 1 ≤ x.t) (hm : ∀ x ∈ ms, 1 ≤ x) (h0 : 0 ≤ h) (hb : h ≤ 1000000000) : depthF ls ms h = depthC (lpOf ls ms) h := by
  have := fold_depthC hl ht hm (ls.length - 1) 0 0 h (by omega) h0 (by omega)
  rw [List.drop_zero, Int.zero_add, ← List.range_eq_range'] at this
  exact this

def allLe : List Int → List Int → Prop
  | [], [] => True
  | a :: r, b :: s => a ≤ b ∧ allLe r s
  | _, _ => False
theorem allLe_map {α : Type} {f g : α → Int} : ∀ {l : List α}, (∀ x ∈ l, f x ≤ g x) → allLe (l.map f) (l.map g) := by
  intro l
  induction l with
  | nil => intro _; trivial
  | cons a r ih => intro h; exact ⟨h a (by simp), ih (fun x hx => h x (by simp [hx]))⟩
theorem allLe_at : ∀ {a b : List Int}, a.length = b.length → (∀ i, i < a.length → at0 a i ≤ at0 b i) → allLe a b := by
  intro a
  induction a with
  | nil => intro b hb _; cases b with | nil => trivial | cons _ _ => simp at hb
  | cons x r ih =>
    intro b hb h
    cases b with
    | nil => simp at hb
    | cons y s => exact ⟨by simpa [at0] using h 0 (by simp), ih (by simpa using hb) (fun i hi => by simpa [at0] using h (i + 1) (by simpa using hi))⟩
theorem div_mono {h h' m m' : Int} (h0 : 0 ≤ h) (hh : h ≤ h') (hm : 1 ≤ m') (hmm : m' ≤ m) : h / m ≤ h' / m' := by
  refine Int.le_trans (Int.ediv_le_ediv (by omega) hh) (Int.le_ediv_of_mul_le (by omega) ?_)
  have q0 : 0 ≤ h' / m := Int.ediv_nonneg (by omega) (by omega)
  exact Int.le_trans (Int.mul_le_mul_of_nonneg_left hmm q0) (Int.ediv_mul_le _ (by omega))
theorem depthC_mono : ∀ (ts ms ms' : List Int) (h h' : Int), ts.length = ms.length → (∀ t ∈ ts, 1 ≤ t) → (∀ m ∈ ms', 1 ≤ m) → allLe ms' ms → 0 ≤ h → h ≤ h' → depthC (ts.zip ms) h ≤ depthC (ts.zip ms') h' := by
  intro ts
  induction ts with
  | nil => intro ms ms' h h' _ _ _ _ _ _; simp [depthC]
  | cons t r ih =>
    intro ms ms' h h' hl ht hm hle h0 hh
    match ms, ms', hl, hle with
    | m :: s, m' :: s', hl, ⟨ha, hb⟩ =>
      have t1 := ht t (by simp)
      have m1 := hm m' (by simp)
      have hd := div_mono h0 hh m1 ha
      match r, s, s', hl, hb with
      | [], [], s', hl, hb =>
        simp only [List.zip_cons_cons, List.zip_nil_left, depthC]
        exact hd
      | t2 :: r, n :: s, n' :: s', hl, hb =>
        have hmm : t * m' ≤ t * m := Int.mul_le_mul_of_nonneg_left ha (by omega)
        have hp : 1 ≤ t * m' := Int.mul_pos (by omega) (by omega)
        have hi := fun a b => ih (n :: s) (n' :: s') a b (by simpa using hl) (fun x hx => ht x (List.mem_cons_of_mem _ hx)) (fun x hx => hm x (List.mem_cons_of_mem _ hx)) hb
        simp only [List.zip_cons_cons] at hi ⊢
        simp only [depthC]
        by_cases c1 : h < t * m
        · rw [if_pos c1]
          by_cases c2 : h' < t * m'
          · rw [if_pos c2]; exact hd
          · rw [if_neg c2]
            have hq : h / m ≤ t := Int.ediv_le_of_le_mul (by omega) (by omega)
            have hn : 0 ≤ depthC ((t2, n') :: r.zip s') (h' - t * m') := by
              refine depthC_nonneg _ _ (fun p hp => ?_) (by omega)
              have : p ∈ (t2 :: r).zip (n' :: s') := by simpa using hp
              obtain ⟨a1, a2⟩ := List.of_mem_zip this
              exact ⟨ht _ (List.mem_cons_of_mem _ a1), hm _ (List.mem_cons_of_mem _ a2)⟩
            omega
        · rw [if_neg c1, if_neg (by omega)]
          have := hi (h - t * m) (h' - t * m') (by omega) (by omega)
          omega

/-- One truth is as warm as another one, or warmer. -/
structure Warmer (t t' : Tru) (N : Nat) : Prop where
  ms : allLe t'.ms t.ms
  ws : ∀ i, i < N → at0 t.ws i ≤ at0 t'.ws i
  ss : ∀ i, i < N → at0 t.ss i ≤ at0 t'.ss i
  vs : ∀ i, i < N → at0 t'.vs i ≤ at0 t.vs i
  ns : ∀ i, i < N → at0 t.ns i ≤ at0 t'.ns i
theorem letsI_mono {w w' n n' mo mo' : Int} (hw : 0 ≤ w') (hww : w' ≤ w) (hn : n' ≤ 1000) (hnn : n ≤ n') (hmo : mo' ≤ mo) : letsI w' n' mo' ≤ letsI w n mo := by
  have h1 : w' * (1000 - n') ≤ w * (1000 - n) := Int.le_trans (Int.mul_le_mul_of_nonneg_left (by omega) hw) (Int.mul_le_mul_of_nonneg_right hww (by omega))
  unfold letsI
  omega
theorem at0_snoc (l : List Int) (x : Int) (i : Nat) : at0 (l ++ [x]) i = if i < l.length then at0 l i else if i = l.length then x else 0 := by
  unfold at0
  split
  · rw [List.getElem?_append_left (by assumption)]
  · rw [List.getElem?_append_right (by omega)]
    split
    · subst_vars; simp
    · rename_i h1 h2
      rw [List.getElem?_eq_none (by simp; omega)]; rfl
theorem runS_mono {ls ls' : List Lay} {t t' : Tru} {mo mo' : Int} {L N : Nat} (hL : ls.length = L) (hL' : ls.map (·.t) = ls'.map (·.t)) (h1 : 1 ≤ L) (ht : ∀ x ∈ ls, 1 ≤ x.t) (hT : TruOk t L N) (hT' : TruOk t' L N) (hN : N ≤ 12) (hm : 0 ≤ mo ∧ mo ≤ 1000000) (hm' : 0 ≤ mo' ∧ mo' ≤ 1000000) (hmo : mo' ≤ mo) (hW : Warmer t t' N) :
    ∀ k, k ≤ N → (runS ls t mo k).R ≤ (runS ls' t' mo' k).R ∧ (runS ls t mo k).Lf ≤ (runS ls' t' mo' k).Lf ∧ (∀ i, i < k → at0 (runS ls t mo k).th i ≤ at0 (runS ls' t' mo' k).th i ∧ at0 (runS ls t mo k).lf i ≤ at0 (runS ls' t' mo' k).lf i) := by
  intro k
  induction k with
  | zero => intro _; exact ⟨Int.le_refl _, Int.le_refl _, fun i hi => absurd hi (by omega)⟩
  | succ k ih =>
    intro hk
    obtain ⟨i1, i2, i3⟩ := ih (by omega)
    obtain ⟨⟨a1, a2⟩, ⟨b1, b2⟩, _, _, e1, e2, _⟩ := runS_b (ls := ls) hT hm k (by omega)
    obtain ⟨⟨c1, c2⟩, ⟨d1, d2⟩, _, _, f1, f2, _⟩ := runS_b (ls := ls') hT' hm' k (by omega)
    have w1 := hT.bw _ (at0_mem (l := t.ws) (k := k) (by rw [hT.lw]; omega)).2
    have s1 := hT.bS _ (at0_mem (l := t.ss) (k := k) (by rw [hT.lS]; omega)).2
    have w2 := hT'.bw _ (at0_mem (l := t'.ws) (k := k) (by rw [hT'.lw]; omega)).2
    have s2 := hT'.bS _ (at0_mem (l := t'.ss) (k := k) (by rw [hT'.lS]; omega)).2
    have v1 := hT.bv _ (at0_mem (l := t.vs) (k := k) (by rw [hT.lv]; omega)).2
    have n1 := hT.bn _ (at0_mem (l := t.ns) (k := k) (by rw [hT.ln]; omega)).2
    have v2 := hT'.bv _ (at0_mem (l := t'.vs) (k := k) (by rw [hT'.lv]; omega)).2
    have n2 := hT'.bn _ (at0_mem (l := t'.ns) (k := k) (by rw [hT'.ln]; omega)).2
    have hlets : letsI (at0 t'.vs k) (at0 t'.ns k) mo' ≤ letsI (at0 t.vs k) (at0 t.ns k) mo := letsI_mono v2.1 (hW.vs k (by omega)) n2.2 (hW.ns k (by omega)) hmo
    have hws := hW.ws k (by omega)
    have hss := hW.ss k (by omega)
    have l1 : ls'.length = L := by have := congrArg List.length hL'; simpa [hL] using this.symm
    have ht' : ∀ x ∈ ls', 1 ≤ x.t := fun x hx => by
      have : x.t ∈ ls.map (·.t) := by rw [hL']; exact List.mem_map.2 ⟨x, hx, rfl⟩
      obtain ⟨y, hy, e⟩ := List.mem_map.1 this
      rw [← e]; exact ht y hy
    have hdep : ∀ h h' : Int, 0 ≤ h → h ≤ h' → h' ≤ 1000000000 → depthF ls t.ms h ≤ depthF ls' t'.ms h' := fun h h' q1 q2 q3 => by
      rw [depthF_C (by rw [hT.lm, hL]) (by omega) ht (fun x hx => (hT.bm x hx).1) q1 (by omega), depthF_C (by rw [hT'.lm, l1]) (by omega) ht' (fun x hx => (hT'.bm x hx).1) (by omega) q3]
      unfold lpOf
      rw [← hL']
      refine depthC_mono _ _ _ _ _ (by simp [hT.lm, hL]) ?_ (fun x hx => (hT'.bm x hx).1) hW.ms q1 q2
      intro x hx
      obtain ⟨y, hy, e⟩ := List.mem_map.1 hx
      rw [← e]; exact ht y hy
    simp only [runS]
    generalize letsI (at0 t.vs k) (at0 t.ns k) mo = lt at *
    generalize letsI (at0 t'.vs k) (at0 t'.ns k) mo' = lt' at *
    generalize hq : at0 t.ws k + at0 t.ss k = heat
    generalize hq' : at0 t'.ws k + at0 t'.ss k = heat'
    generalize runS ls t mo k = s at *
    generalize runS ls' t' mo' k = s' at *
    have hX : 0 ≤ reachI s.R (s.Lf + heat) ∧ reachI s.R (s.Lf + heat) ≤ reachI s'.R (s'.Lf + heat') ∧ reachI s'.R (s'.Lf + heat') ≤ 1000000000 := by
      unfold reachI
      split <;> split <;> omega
    have hD := hdep _ _ hX.1 hX.2.1 hX.2.2
    refine ⟨?_, ?_, ?_⟩
    · unfold stepS
      split <;> split <;> simp only [] <;> omega
    · unfold stepS
      split <;> split <;> simp only [] <;> omega
    · intro i hi
      unfold stepS
      split <;> split <;> simp only [at0_snoc, e1, e2, f1, f2] <;> by_cases hik : i < k
      all_goals first
        | (rw [if_pos hik, if_pos hik, if_pos hik, if_pos hik]; exact i3 i hik)
        | (have : i = k := by omega
           subst this
           simp only [Nat.lt_irrefl, if_false, if_true]
           exact ⟨hD, by omega⟩)
theorem at0_map {α : Type} {f : α → Int} {l : List α} {i : Nat} {x : α} (h : l[i]? = some x) : at0 (l.map f) i = f x := by simp [at0, h]
theorem allB_at {xs : List Int} {ss : List (Int × Int)} (h : allB xs ss = true) {k : Nat} (hk : k < xs.length) : ∃ s, ss[k]? = some s ∧ s.1 ≤ at0 xs k ∧ at0 xs k ≤ s.2 := by
  simp only [allB, Bool.and_eq_true, decide_eq_true_eq, List.all_eq_true] at h
  obtain ⟨hx, _⟩ := at0_mem hk
  obtain ⟨s, hs⟩ := get_of_lt (l := ss) (k := k) (by rw [← h.1]; exact hk)
  have := h.2 (at0 xs k, s) (List.mem_of_getElem? (i := k) (by rw [List.getElem?_zip_eq_some]; exact ⟨hx, hs⟩))
  simp only [okB, inB_iff] at this
  exact ⟨s, hs, this.1, this.2⟩
theorem allB_map {α : Type} {xs : List Int} {l : List α} {f : α → Int × Int} (h : allB xs (l.map f) = true) {k : Nat} {y : α} (hy : l[k]? = some y) : (f y).1 ≤ at0 xs k ∧ at0 xs k ≤ (f y).2 := by
  have hl : xs.length = l.length := by
    simp only [allB, Bool.and_eq_true, decide_eq_true_eq, List.length_map] at h
    exact h.1
  obtain ⟨s, hs, h1, h2⟩ := allB_at h (k := k) (by rw [hl]; exact (List.getElem?_eq_some_iff.1 hy).1)
  rw [List.getElem?_map, hy] at hs
  injection hs with hs
  subst hs
  exact ⟨h1, h2⟩
theorem possT_at {ls : List Lay} {lo hi : Int} {ys : List Yr} {t : Tru} (h : possT ls lo hi ys t = true) :
    (t.ms.length = ls.length ∧ ∀ k x, ls[k]? = some x → x.lo ≤ at0 t.ms k ∧ at0 t.ms k ≤ x.hi) ∧
    ∀ k y, ys[k]? = some y → (lo ≤ at0 t.ws k ∧ at0 t.ws k ≤ hi) ∧ (y.sl ≤ at0 t.ss k ∧ at0 t.ss k ≤ y.sh) ∧ (y.wl ≤ at0 t.vs k ∧ at0 t.vs k ≤ y.wh) ∧ (y.nl ≤ at0 t.ns k ∧ at0 t.ns k ≤ y.nh) := by
  simp only [possT, possB, Bool.and_eq_true] at h
  obtain ⟨h1, h2, h3, h4, h5⟩ := h
  refine ⟨⟨?_, fun k x hx => allB_map (f := fun l : Lay => (l.lo, l.hi)) h1 hx⟩, fun k y hy => ⟨allB_map (f := fun _ : Yr => (lo, hi)) h2 hy, allB_map (f := fun y : Yr => (y.sl, y.sh)) h3 hy, allB_map (f := fun y : Yr => (y.wl, y.wh)) h4 hy, allB_map (f := fun y : Yr => (y.nl, y.nh)) h5 hy⟩⟩
  simp only [allB, Bool.and_eq_true, decide_eq_true_eq, laySpans, List.length_map] at h1
  exact h1.1
theorem warmer_cold {ls : List Lay} {lo hi : Int} {ys : List Yr} {t : Tru} (h : possT ls lo hi ys t = true) : Warmer (extT false ls lo hi ys) t ys.length := by
  obtain ⟨⟨hl, hm⟩, hy⟩ := possT_at h
  refine ⟨?_, ?_, ?_, ?_, ?_⟩
  · refine allLe_at (by simp [extT, hl]) fun i hi' => ?_
    obtain ⟨x, hx⟩ := get_of_lt (l := ls) (k := i) (by omega)
    rw [show (extT false ls lo hi ys).ms = ls.map (fun l => l.hi) by simp [extT], at0_map hx]
    exact (hm i x hx).2
  all_goals
    intro i hi'
    obtain ⟨y, hy'⟩ := get_of_lt (l := ys) (k := i) hi'
    obtain ⟨⟨a1, a2⟩, ⟨b1, b2⟩, ⟨c1, c2⟩, d1, d2⟩ := hy i y hy'
    simp only [extT, at0_map hy']
    simp
    assumption
theorem warmer_warm {ls : List Lay} {lo hi : Int} {ys : List Yr} {t : Tru} (h : possT ls lo hi ys t = true) : Warmer t (extT true ls lo hi ys) ys.length := by
  obtain ⟨⟨hl, hm⟩, hy⟩ := possT_at h
  refine ⟨?_, ?_, ?_, ?_, ?_⟩
  · refine allLe_at (by simp [extT, hl]) fun i hi' => ?_
    obtain ⟨x, hx⟩ := get_of_lt (l := ls) (k := i) (by simp [extT] at hi'; omega)
    rw [show (extT true ls lo hi ys).ms = ls.map (fun l => l.lo) by simp [extT], at0_map hx]
    exact (hm i x hx).1
  all_goals
    intro i hi'
    obtain ⟨y, hy'⟩ := get_of_lt (l := ys) (k := i) hi'
    obtain ⟨⟨a1, a2⟩, ⟨b1, b2⟩, ⟨c1, c2⟩, d1, d2⟩ := hy i y hy'
    simp only [extT, at0_map hy']
    simp
    assumption
/-- Whatever is true: thaw, and the heat that is left, lie between those of both ends. -/
theorem between {ls : List Lay} {lo hi : Int} {ys : List Yr} {t : Tru} (hp : placeB ls lo hi = true) (hy : ys.all yrB = true) (hn : ys.length ≤ 12) (h : possT ls lo hi ys t = true) :
    ∀ k, k ≤ ys.length → ((runS ls (extT false ls lo hi ys) 0 k).Lf ≤ (runS ls t 0 k).Lf ∧ (runS ls t 0 k).Lf ≤ (runS ls (extT true ls lo hi ys) 0 k).Lf) ∧
      ∀ i, i < k → (at0 (runS ls (extT false ls lo hi ys) 0 k).th i ≤ at0 (runS ls t 0 k).th i ∧ at0 (runS ls t 0 k).th i ≤ at0 (runS ls (extT true ls lo hi ys) 0 k).th i) := by
  intro k hk
  obtain ⟨⟨p1, p2⟩, _, hx⟩ := placeB_spec hp
  have T := possT_ok hp hy h
  have C := extT_ok (lo := lo) (hi := hi) false hp hy
  have M := extT_ok (lo := lo) (hi := hi) true hp hy
  obtain ⟨_, a2, a3⟩ := runS_mono (mo := 0) (mo' := 0) rfl rfl p1 (fun x hm => (hx x hm).1.1) C T hn ⟨by omega, by omega⟩ ⟨by omega, by omega⟩ (Int.le_refl _) (warmer_cold h) k hk
  obtain ⟨_, b2, b3⟩ := runS_mono (mo := 0) (mo' := 0) rfl rfl p1 (fun x hm => (hx x hm).1.1) T M hn ⟨by omega, by omega⟩ ⟨by omega, by omega⟩ (Int.le_refl _) (warmer_warm h) k hk
  exact ⟨⟨a2, b2⟩, fun i hi' => ⟨(a3 i hi').1, (b3 i hi').1⟩⟩
theorem run_len (ls : List Lay) (t : Tru) (mo : Int) : ∀ k, (runS ls t mo k).th.length = k ∧ (runS ls t mo k).lf.length = k := by
  intro k
  induction k with
  | zero => simp [runS, st0]
  | succ k ih =>
    simp only [runS, step_eq]
    simp [ih]
theorem lf_at (ls : List Lay) (t : Tru) (mo : Int) : ∀ k i, i < k → at0 (runS ls t mo k).lf i = (runS ls t mo (i + 1)).Lf ∧ at0 (runS ls t mo k).th i = at0 (runS ls t mo (i + 1)).th i := by
  intro k
  induction k with
  | zero => intro i hi; omega
  | succ k ih =>
    intro i hi
    by_cases hik : i = k
    · subst hik
      obtain ⟨l1, l2⟩ := run_len ls t mo i
      refine ⟨?_, rfl⟩
      simp only [runS, step_eq, at0_snoc, l2]
      simp
    · obtain ⟨h1, h2⟩ := ih i (by omega)
      obtain ⟨l1, l2⟩ := run_len ls t mo k
      rw [← h1, ← h2]
      simp only [runS, step_eq, at0_snoc, l1, l2]
      rw [if_pos (by omega), if_pos (by omega)]
      exact ⟨rfl, rfl⟩
/-- The first years of a truth alone. -/
def cutT (t : Tru) (n : Nat) : Tru := ⟨t.ms, t.ws.take n, t.ss.take n, t.vs.take n, t.ns.take n⟩
theorem at0_take {l : List Int} {n i : Nat} (h : i < n) : at0 (l.take n) i = at0 l i := by simp [at0, h]
theorem run_cut (ls : List Lay) (t : Tru) (mo : Int) (n : Nat) : ∀ k, k ≤ n → runS ls (cutT t n) mo k = runS ls t mo k := by
  intro k
  induction k with
  | zero => intro _; rfl
  | succ k ih =>
    intro hk
    have e := ih (by omega)
    simp only [runS]
    rw [e]
    simp only [cutT]
    rw [at0_take (by omega), at0_take (by omega), at0_take (by omega), at0_take (by omega)]
theorem allB_take {xs : List Int} {ss : List (Int × Int)} (h : allB xs ss = true) (n : Nat) : allB (xs.take n) (ss.take n) = true := by
  simp only [allB, Bool.and_eq_true, decide_eq_true_eq, List.all_eq_true] at h ⊢
  refine ⟨by simp [h.1], fun p hp => h.2 p ?_⟩
  rw [List.zip_eq_zipWith, ← List.take_zipWith, ← List.zip_eq_zipWith] at hp
  exact List.mem_of_mem_take hp
theorem possT_cut {ls : List Lay} {lo hi : Int} {ys : List Yr} {t : Tru} (h : possT ls lo hi ys t = true) (n : Nat) : possT ls lo hi (ys.take n) (cutT t n) = true := by
  simp only [possT, possB, Bool.and_eq_true, cutT, warmSpans, sumSpans, winSpans, snowSpans, List.map_take] at h ⊢
  obtain ⟨h1, h2, h3, h4, h5⟩ := h
  exact ⟨h1, allB_take h2 n, allB_take h3 n, allB_take h4 n, allB_take h5 n⟩
end Go.Proofs.YtccekbdhffccdaaDoor
