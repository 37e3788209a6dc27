/- Pipes: a net in which ways and repairs take longer, and loops freeze sooner, leaves no more slack. -/
import Derived.Test.YticmeeinjkoodaaRO
import Derived.Test.YticmeeinjkoodaaRS
namespace Go.Proofs.Yticmeeinjkoodaa
open Go.RowKit Go.Shelf

structure Worse (N N' : Nt) : Prop where
  fr : N'.fr.length = N.fr.length
  way : ∀ a k, N.way a k ≤ N'.way a k
  fix : ∀ k, N.fix k ≤ N'.fix k
  due : ∀ k, N'.due 0 k ≤ N.due 0 k
theorem maxL_mono : ∀ (l : List Nat) (f g : Nat → Int) (x y : Int), x ≤ y → (∀ k ∈ l, f k ≤ g k) → (l.map f).foldl max x ≤ (l.map g).foldl max y
  | [], _, _, _, _, h, _ => h
  | k :: l, f, g, x, y, h, hk => by
    show (l.map f).foldl max (max x (f k)) ≤ (l.map g).foldl max (max y (g k))
    have := hk k (by simp)
    exact maxL_mono l f g _ _ (by omega) fun j hj => hk j (List.mem_cons_of_mem _ hj)
theorem slk_worse {N N' : Nt} (h : Worse N N') : ∀ (n s : Nat), s ≤ n → ∀ (a : Nat) (t t' : Int), t ≤ t' → slk N' 0 s a t' ≤ slk N 0 s a t
  | 0, s, hs, a, t, t', _ => by
    obtain rfl : s = 0 := by omega
    rw [slk_zero, slk_zero, h.fr]
    exact Int.le_refl _
  | n + 1, s, hs, a, t, t', ht => by
    by_cases hz : s = 0
    · subst hz
      rw [slk_zero, slk_zero, h.fr]
      exact Int.le_refl _
    · rw [slk_pos hz, slk_pos hz]
      refine maxL_mono _ _ _ _ _ (Int.le_refl _) fun k hk => ?_
      have hb := pil_bit hk
      have hp := bit_le hb
      have h2k : 0 < 2 ^ k := Nat.two_pow_pos k
      have ha : N.arr a t k ≤ N'.arr a t' k := by
        have := h.way a (k + 1)
        have := h.fix k
        unfold Nt.arr
        omega
      have ih := slk_worse h n (s - 2 ^ k) (by omega) (k + 1) _ _ ha
      have hd := h.due k
      have hg := slk_ge N 0 (s - 2 ^ k) (k + 1) (N.arr a t k)
      unfold byI
      split
      · split <;> omega
      · rw [if_neg (by omega)]
        omega
/-- A loop that is wrapped stays as warm. -/
theorem wK_wrapped {N : Nt} (K : NtOk N) {l : Lp} (hl : l ∈ N.lo) (i : Nat) : ∀ k, k ≤ N.fr.length → wK l false N.fr i k ≤ wK l true N.fr i k
  | 0, _ => Int.le_refl _
  | k + 1, hk => by
    have ih := wK_wrapped K hl i k (by omega)
    obtain ⟨f, hf⟩ := get_of_lt (l := N.fr) (k := k) (by omega)
    have hd : N.fr.getD k (0, 0) = f := by rw [List.getD_eq_getElem?_getD, hf]; rfl
    have KL := K.lo l hl
    have hll := KL.l
    have hrr := KL.r
    have hrl := KL.rl
    have hrh := KL.rh
    have hff := K.fr f (List.mem_of_getElem? hf)
    have w0 := wK_in K hl false i k (by omega)
    have e : ∀ b, wK l b N.fr i (k + 1) = coolI l (wK l b N.fr i k) (sel i (leakI b l)) (sel i f) := fun b => by
      show coolI l (wK l b N.fr i k) (sel i (leakI b l)) (sel i (N.fr.getD k (0, 0))) = _
      rw [hd]
    rw [e, e]
    have e1 : sel i (leakI true l) = (if i = 0 then l.rh else l.rl) := rfl
    have e2 : sel i (leakI false l) = (if i = 0 then l.lh else l.ll) := rfl
    have e3 : sel i f = (if i = 0 then f.2 else f.1) := rfl
    rw [e1, e2, e3]
    by_cases hi : i = 0
    · rw [if_pos hi, if_pos hi, if_pos hi]
      exact cool_mono ⟨w0.1, ih⟩ ⟨by omega, by omega, by omega⟩ ⟨by omega, by omega⟩
    · rw [if_neg hi, if_neg hi, if_neg hi]
      exact cool_mono ⟨w0.1, ih⟩ ⟨by omega, by omega, by omega⟩ ⟨by omega, by omega⟩
theorem firstZ_mono {xs ys : List Int} (hlen : xs.length = ys.length) (h : ∀ (k : Nat) (x y : Int), xs[k]? = some x → ys[k]? = some y → y = 0 → x = 0) : firstZ ys = -1 ∨ (0 ≤ firstZ xs ∧ firstZ xs ≤ firstZ ys) := by
  unfold firstZ
  cases hy : ys.findIdx? (fun x => decide (x = 0)) with
  | none => exact .inl rfl
  | some i =>
    obtain ⟨hi, hyi, _⟩ := List.findIdx?_eq_some_iff_getElem.1 hy
    have hxi : xs[i]? = some xs[i] := List.getElem?_eq_getElem (by omega)
    have h0 := h i xs[i] ys[i] hxi (List.getElem?_eq_getElem hi) (by simpa using hyi)
    cases hx : xs.findIdx? (fun x => decide (x = 0)) with
    | none =>
      rw [List.findIdx?_eq_none_iff] at hx
      have := hx xs[i] (List.mem_of_getElem? hxi)
      simp [h0] at this
    | some j =>
      obtain ⟨hj, _, hjj⟩ := List.findIdx?_eq_some_iff_getElem.1 hx
      refine .inr ⟨by simp only; omega, ?_⟩
      by_cases hij : j ≤ i
      · simp only
        omega
      · have := hjj i (by omega)
        simp [h0] at this
/-- A loop that is wrapped never freezes sooner. -/
theorem frz_wrapped {N : Nt} (K : NtOk N) {l : Lp} (hl : l ∈ N.lo) (i : Nat) (b : Bool) : frzI l b N.fr i = -1 ∨ (0 ≤ frzI l false N.fr i ∧ frzI l false N.fr i ≤ frzI l b N.fr i) := by
  cases b with
  | false =>
    rcases frz_in l false N.fr i with h | h
    · exact .inl h
    · exact .inr ⟨by omega, Int.le_refl _⟩
  | true =>
    refine firstZ_mono (by rw [endL_len, endL_len]) fun k x y hx hy h0 => ?_
    have hk : k < N.fr.length := by
      have := (List.getElem?_eq_some_iff.1 hx).1
      rwa [endL_len] at this
    rw [endL_at hk] at hx hy
    injection hx with hx
    injection hy with hy
    have h1 := wK_wrapped K hl i (k + 1) (by omega)
    have h2 := wK_in K hl false i (k + 1) (by omega)
    omega
theorem due_wrapped {N : Nt} (K : NtOk N) {s : Nat} (k : Nat) : N.due 0 k ≤ N.due s k := by
  unfold Nt.due dueI
  rw [Nat.zero_testBit]
  by_cases hk : k < N.lo.length
  · obtain ⟨l, hl⟩ := get_of_lt hk
    have hm := List.mem_of_getElem? hl
    have e : N.lo.getD k lp0 = l := by rw [List.getD_eq_getElem?_getD, hl]; rfl
    rw [e]
    have h1 := frz_wrapped K hm 0 (s.testBit k)
    have h2 := frz_in l false N.fr 0
    have h3 := frz_in l (s.testBit k) N.fr 0
    split <;> split <;> omega
  · have e : N.lo.getD k lp0 = lp0 := by
      rw [List.getD_eq_getElem?_getD, List.getElem?_eq_none (by omega)]
      rfl
    rw [e]
    have ew : ∀ b i j, wK lp0 b N.fr i j = wK lp0 false N.fr i j := fun b i j => by
      induction j with
      | zero => rfl
      | succ j ih =>
        show coolI lp0 (wK lp0 b N.fr i j) (sel i (leakI b lp0)) _ = coolI lp0 (wK lp0 false N.fr i j) (sel i (leakI false lp0)) _
        rw [ih]
        cases b <;> rfl
    have ef : ∀ b, frzI lp0 b N.fr 0 = frzI lp0 false N.fr 0 := fun b => by
      unfold frzI endL
      rw [List.map_congr_left fun j _ => ew b 0 (j + 1)]
    rw [ef (s.testBit k)]
    exact Int.le_refl _
theorem slk_mask {N : Nt} (K : NtOk N) {m : Nat} : ∀ (n s : Nat), s ≤ n → ∀ (a : Nat) (t : Int), slk N 0 s a t ≤ slk N m s a t
  | 0, s, hs, a, t => by
    obtain rfl : s = 0 := by omega
    rw [slk_zero, slk_zero]
    exact Int.le_refl _
  | n + 1, s, hs, a, t => by
    by_cases hz : s = 0
    · subst hz
      rw [slk_zero, slk_zero]
      exact Int.le_refl _
    · rw [slk_pos hz, slk_pos hz]
      refine maxL_mono _ _ _ _ _ (Int.le_refl _) fun k hk => ?_
      have hb := pil_bit hk
      have hp := bit_le hb
      have h2k : 0 < 2 ^ k := Nat.two_pow_pos k
      have ih := slk_mask K (m := m) n (s - 2 ^ k) (by omega) (k + 1) (N.arr a t k)
      have hd := due_wrapped K (s := m) k
      have hg := slk_ge N m (s - 2 ^ k) (k + 1) (N.arr a t k)
      unfold byI
      split
      · split <;> omega
      · rw [if_neg (by omega)]
        omega
/-! ### A repair, and ways, that take longer -/
def morLp (m : Int) (l : Lp) : Lp := { l with fh := min 72 (l.fh + m) }
def morR (L : Nat) (m : Int) (row : List Int) : List Int := (List.range row.length).map fun i => if i = L then row.getD i 0 else min 72 (row.getD i 0 + m)
def Nt.more (N : Nt) (L : Nat) (m : Int) : Nt := ⟨N.lo.set L (morLp m (N.lo.getD L lp0)), N.fr, N.wa.set L (morR L m (N.wa.getD L []))⟩
theorem morR_len (L : Nat) (m : Int) (row : List Int) : (morR L m row).length = row.length := by simp [morR]
theorem morR_at {L : Nat} {m : Int} {row : List Int} {i : Nat} {x : Int} (h : row[i]? = some x) : (morR L m row)[i]? = some (if i = L then x else min 72 (x + m)) := by
  unfold morR
  rw [List.getElem?_map, List.getElem?_range (List.getElem?_eq_some_iff.1 h).1]
  simp only [Option.map_some, List.getD_eq_getElem?_getD, h, Option.getD_some]
theorem more_lo {N : Nt} {L i : Nat} {m : Int} {l : Lp} (h : N.lo[i]? = some l) : (N.more L m).lo[i]? = some (if i = L then morLp m l else l) := by
  have hi := (List.getElem?_eq_some_iff.1 h).1
  show (N.lo.set L (morLp m (N.lo.getD L lp0)))[i]? = _
  rw [List.getElem?_set]
  by_cases e : i = L
  · subst e
    rw [if_pos rfl, if_pos hi, if_pos rfl, List.getD_eq_getElem?_getD, h]
    rfl
  · rw [if_neg (fun q => e q.symm), if_neg e, h]
theorem more_wa {N : Nt} {L i : Nat} {m : Int} {r : List Int} (h : N.wa[i]? = some r) : (N.more L m).wa[i]? = some (if i = L then morR L m r else r) := by
  have hi := (List.getElem?_eq_some_iff.1 h).1
  show (N.wa.set L (morR L m (N.wa.getD L [])))[i]? = _
  rw [List.getElem?_set]
  by_cases e : i = L
  · subst e
    rw [if_pos rfl, if_pos hi, if_pos rfl, List.getD_eq_getElem?_getD, h]
    rfl
  · rw [if_neg (fun q => e q.symm), if_neg e, h]
theorem more_len (N : Nt) (L : Nat) (m : Int) : (N.more L m).lo.length = N.lo.length ∧ (N.more L m).wa.length = N.wa.length := ⟨List.length_set, List.length_set⟩
theorem more_ok {N : Nt} (K : NtOk N) {L : Nat} {m : Int} (hm : 0 ≤ m) : NtOk (N.more L m) := by
  obtain ⟨e1, e2⟩ := more_len N L m
  refine ⟨by rw [e1]; exact K.n5, K.h72, fun l hl => ?_, K.fr, by rw [e1, e2]; exact K.wl, fun i r hr => ?_⟩
  · obtain ⟨i, hi⟩ := List.getElem?_of_mem hl
    obtain ⟨q, hq⟩ := get_of_lt (l := N.lo) (k := i) (by rw [← e1]; exact (List.getElem?_eq_some_iff.1 hi).1)
    rw [more_lo hq] at hi
    injection hi with hi
    have Kq := K.lo q (List.mem_of_getElem? hq)
    split at hi
    · subst hi
      have hf := Kq.f
      exact ⟨Kq.w, Kq.l, Kq.r, Kq.rl, Kq.rh, Kq.co, Kq.ma, Kq.gr, Kq.fe, by show 0 ≤ q.fl ∧ q.fl ≤ min 72 (q.fh + m) ∧ min 72 (q.fh + m) ≤ 72; omega⟩
    · exact hi ▸ Kq
  · obtain ⟨q, hq⟩ := get_of_lt (l := N.wa) (k := i) (by rw [← e2]; exact (List.getElem?_eq_some_iff.1 hr).1)
    obtain ⟨k1, k2, k3⟩ := K.wa i q hq
    rw [more_wa hq] at hr
    injection hr with hr
    rw [e1]
    split at hr
    · rename_i hiL
      subst hr hiL
      refine ⟨by rw [morR_len]; exact k1, ?_, fun h hh => ?_⟩
      · by_cases hlt : i < q.length
        · obtain ⟨x, hx⟩ := get_of_lt hlt
          rw [List.getD_eq_getElem?_getD, hx] at k2
          rw [List.getD_eq_getElem?_getD, morR_at hx, if_pos rfl]
          exact k2
        · rw [List.getD_eq_getElem?_getD, List.getElem?_eq_none (by rw [morR_len]; omega)]
          rfl
      · obtain ⟨j, hj⟩ := List.getElem?_of_mem hh
        obtain ⟨x, hx⟩ := get_of_lt (l := q) (k := j) (by have := (List.getElem?_eq_some_iff.1 hj).1; rwa [morR_len] at this)
        have hx3 := k3 x (List.mem_of_getElem? hx)
        rw [morR_at hx] at hj
        injection hj with hj
        split at hj <;> omega
    · subst hr
      exact ⟨k1, k2, k3⟩
theorem more_worse {N : Nt} (K : NtOk N) {L : Nat} {m : Int} (hm : 0 ≤ m) : Worse N (N.more L m) := by
  obtain ⟨e1, e2⟩ := more_len N L m
  refine ⟨rfl, fun a k => ?_, fun k => ?_, fun k => ?_⟩
  · unfold Nt.way
    cases h : N.wa[a]? with
    | none =>
      have e3 : (N.more L m).wa[a]? = none := List.getElem?_eq_none (by rw [e2]; exact List.getElem?_eq_none_iff.1 h)
      rw [List.getD_eq_getElem?_getD, List.getD_eq_getElem?_getD, List.getD_eq_getElem?_getD, List.getD_eq_getElem?_getD, h, e3]
      exact Int.le_refl _
    | some r =>
      rw [List.getD_eq_getElem?_getD, List.getD_eq_getElem?_getD, List.getD_eq_getElem?_getD, List.getD_eq_getElem?_getD, h, more_wa h]
      simp only [Option.getD_some]
      by_cases ha : a = L
      · rw [if_pos ha]
        cases hx : r[k]? with
        | none =>
          rw [List.getElem?_eq_none (by rw [morR_len]; exact List.getElem?_eq_none_iff.1 hx)]
          exact Int.le_refl _
        | some x =>
          have hx3 := (K.wa a r h).2.2 x (List.mem_of_getElem? hx)
          rw [morR_at hx]
          simp only [Option.getD_some]
          split <;> omega
      · rw [if_neg ha]
        exact Int.le_refl _
  · unfold Nt.fix
    cases h : N.lo[k]? with
    | none =>
      have e3 : (N.more L m).lo[k]? = none := List.getElem?_eq_none (by rw [e1]; exact List.getElem?_eq_none_iff.1 h)
      rw [List.getD_eq_getElem?_getD, List.getD_eq_getElem?_getD, h, e3]
      exact Int.le_refl _
    | some l =>
      have hf := (K.lo l (List.mem_of_getElem? h)).f
      rw [List.getD_eq_getElem?_getD, List.getD_eq_getElem?_getD, h, more_lo h]
      simp only [Option.getD_some]
      split
      · show l.fh ≤ min 72 (l.fh + m)
        omega
      · exact Int.le_refl _
  · unfold Nt.due
    cases h : N.lo[k]? with
    | none =>
      have e3 : (N.more L m).lo[k]? = none := List.getElem?_eq_none (by rw [e1]; exact List.getElem?_eq_none_iff.1 h)
      rw [List.getD_eq_getElem?_getD, List.getD_eq_getElem?_getD, h, e3]
      exact Int.le_refl _
    | some l =>
      rw [List.getD_eq_getElem?_getD, List.getD_eq_getElem?_getD, h, more_lo h]
      simp only [Option.getD_some]
      split
      · have ew : ∀ b i j, wK (morLp m l) b N.fr i j = wK l b N.fr i j := fun b i j => by
          induction j with
          | zero => rfl
          | succ j ih =>
            show coolI (morLp m l) (wK (morLp m l) b N.fr i j) (sel i (leakI b (morLp m l))) _ = coolI l (wK l b N.fr i j) (sel i (leakI b l)) _
            rw [ih]
            rfl
        have ef : ∀ b i, frzI (morLp m l) b N.fr i = frzI l b N.fr i := fun b i => by
          unfold frzI endL
          rw [List.map_congr_left fun j _ => ew b i (j + 1)]
        show dueI (morLp m l) ((0 : Nat).testBit k) N.fr ≤ _
        unfold dueI
        rw [ef]
        exact Int.le_refl _
      · exact Int.le_refl _
end Go.Proofs.Yticmeeinjkoodaa
