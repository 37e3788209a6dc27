/- Pipes: the slack of what a crew has left, the first order with enough of it, the best place: as numbers. Pipes: what a net that is looked at keeps of slacks; a repair. Pipes: a repair. Pipes: the slack of the orders that begin with a loop, if that of all others is found. -/
import Derived.Test.YticmeeinjkoodaaBX
import Derived.Maps.Own
import Derived.DeepKeys4
import Derived.Recover
import Derived.Defers
import Derived.Laws.Pointers
namespace Go.Proofs.Yticmeeinjkoodaa
open Go.RowKit

/-! ### The slack of what a crew has left -/
def Nt.way (N : Nt) (a b : Nat) : Int := (N.wa.getD a []).getD b 0
def Nt.due (N : Nt) (m k : Nat) : Int := dueI (N.lo.getD k lp0) (m.testBit k) N.fr
def Nt.fix (N : Nt) (k : Nat) : Int := (N.lo.getD k lp0).fh
def Nt.arr (N : Nt) (a : Nat) (t : Int) (k : Nat) : Int := t + (N.way a (k + 1) + N.fix k)
def byI (N : Nt) (m : Nat) (S : Nat → Nat → Int → Int) (s a : Nat) (t : Int) (k : Nat) : Int :=
  if N.due m k < N.arr a t k then -1 else min (N.due m k - N.arr a t k) (S (s - 2 ^ k) (k + 1) (N.arr a t k))
def maxL (l : List Int) : Int := l.foldl max (-1)
def slkF (N : Nt) (m : Nat) : Nat → Nat → Nat → Int → Int
  | 0, _, _, _ => N.fr.length
  | f + 1, s, a, t => if s = 0 then N.fr.length else maxL ((pilL (s : Int)).map (byI N m (slkF N m f) s a t))
def slk (N : Nt) (m s a : Nat) (t : Int) : Int := slkF N m s s a t
theorem pil_lt5 {s : Int} {k : Nat} (h : k ∈ pilL s) : k < 5 := by
  unfold pilL at h
  exact List.mem_range.1 (List.mem_filter.1 h).1
theorem pil_zero : pilL ((0 : Nat) : Int) = [] := by decide
theorem pil_bit {s k : Nat} (h : k ∈ pilL (s : Int)) : s.testBit k = true := (mem_pil (pil_lt5 h)).1 h
theorem bit_le {s k : Nat} (h : s.testBit k = true) : 2 ^ k ≤ s := Nat.ge_two_pow_of_testBit h
theorem byI_congr {N : Nt} {m : Nat} {S T : Nat → Nat → Int → Int} {s a : Nat} {t : Int} {k : Nat} (h : ∀ a t, S (s - 2 ^ k) a t = T (s - 2 ^ k) a t) : byI N m S s a t k = byI N m T s a t k := by
  unfold byI
  rw [h]
theorem slkF_step (N : Nt) (m : Nat) : ∀ f s, s ≤ f → ∀ a t, slkF N m (f + 1) s a t = slkF N m f s a t
  | 0, s, hs, a, t => by
    obtain rfl : s = 0 := by omega
    simp [slkF]
  | f + 1, s, hs, a, t => by
    show (if s = 0 then _ else _) = (if s = 0 then _ else _)
    by_cases h0 : s = 0
    · rw [if_pos h0, if_pos h0]
    · rw [if_neg h0, if_neg h0]
      congr 1
      refine List.map_congr_left fun k hk => byI_congr fun a t => ?_
      have := Nat.two_pow_pos k
      have := bit_le (pil_bit hk)
      exact slkF_step N m f _ (by omega) a t
theorem slkF_ge (N : Nt) (m s : Nat) : ∀ d a t, slkF N m (s + d) s a t = slk N m s a t
  | 0, _, _ => rfl
  | d + 1, a, t => by
    show slkF N m (s + d + 1) s a t = _
    rw [slkF_step N m (s + d) s (by omega), slkF_ge N m s d]
theorem slkF_of {N : Nt} {m s f : Nat} (h : s ≤ f) (a : Nat) (t : Int) : slkF N m f s a t = slk N m s a t := by
  obtain ⟨d, rfl⟩ : ∃ d, f = s + d := ⟨f - s, by omega⟩
  exact slkF_ge N m s d a t
theorem slk_zero (N : Nt) (m a : Nat) (t : Int) : slk N m 0 a t = N.fr.length := rfl
theorem slk_pos {N : Nt} {m s : Nat} (hs : s ≠ 0) (a : Nat) (t : Int) : slk N m s a t = maxL ((pilL (s : Int)).map (byI N m (slk N m) s a t)) := by
  obtain ⟨f, rfl⟩ : ∃ f, s = f + 1 := ⟨s - 1, by omega⟩
  show (if f + 1 = 0 then (N.fr.length : Int) else maxL ((pilL ((f + 1 : Nat) : Int)).map (byI N m (slkF N m f) (f + 1) a t))) = _
  rw [if_neg (by omega)]
  congr 1
  refine List.map_congr_left fun k hk => byI_congr fun a t => ?_
  have := Nat.two_pow_pos k
  have := bit_le (pil_bit hk)
  exact slkF_of (by omega) a t
theorem foldl_max_in {lo hi : Int} : ∀ (l : List Int) (x : Int), lo ≤ x → x ≤ hi → (∀ y ∈ l, y ≤ hi) → lo ≤ l.foldl max x ∧ l.foldl max x ≤ hi
  | [], x, h1, h2, _ => ⟨h1, h2⟩
  | y :: l, x, h1, h2, h3 => foldl_max_in l (max x y) (by omega) (by have := h3 y (by simp); omega) fun z hz => h3 z (List.mem_cons_of_mem _ hz)
theorem maxL_in {l : List Int} {hi : Int} (h0 : -1 ≤ hi) (h : ∀ y ∈ l, y ≤ hi) : -1 ≤ maxL l ∧ maxL l ≤ hi := foldl_max_in l (-1) (by omega) h0 h
theorem due_N (N : Nt) (m k : Nat) : 0 ≤ N.due m k ∧ N.due m k ≤ N.fr.length := due_in _ _ _
theorem byI_in (N : Nt) (m : Nat) {S : Nat → Nat → Int → Int} {s a : Nat} {t : Int} {k : Nat} (_ht : 0 ≤ N.arr a t k) (hS : ∀ a t, -1 ≤ S (s - 2 ^ k) a t) : -1 ≤ byI N m S s a t k ∧ byI N m S s a t k ≤ N.fr.length := by
  have h := due_N N m k
  have := hS (k + 1) (N.arr a t k)
  unfold byI
  split <;> omega
theorem slk_ge (N : Nt) (m s a : Nat) (t : Int) : -1 ≤ slk N m s a t := by
  by_cases h : s = 0
  · subst h
    rw [slk_zero]
    omega
  · rw [slk_pos h]
    unfold maxL
    have : ∀ (l : List Int) (x : Int), -1 ≤ x → -1 ≤ l.foldl max x := fun l => by
      induction l with
      | nil => exact fun _ h => h
      | cons y l ih => exact fun x hx => ih _ (by omega)
    exact this _ _ (Int.le_refl _)
structure WayOk (N : Nt) : Prop where
  w : ∀ a k, 0 ≤ N.way a k ∧ N.way a k ≤ 72
  f : ∀ k, 0 ≤ N.fix k ∧ N.fix k ≤ 72
theorem arr_in {N : Nt} (K : WayOk N) {a : Nat} {t : Int} (_ht : 0 ≤ t) (k : Nat) : t ≤ N.arr a t k ∧ N.arr a t k ≤ t + 144 := by
  have := K.w a (k + 1)
  have := K.f k
  unfold Nt.arr
  omega
theorem slk_le {N : Nt} (K : WayOk N) (m s a : Nat) {t : Int} (ht : 0 ≤ t) : slk N m s a t ≤ N.fr.length := by
  by_cases h : s = 0
  · subst h
    rw [slk_zero]
    omega
  · rw [slk_pos h]
    refine (maxL_in (by omega) fun y hy => ?_).2
    obtain ⟨k, _, rfl⟩ := List.mem_map.1 hy
    exact (byI_in N m (by have := arr_in K (a := a) ht k; omega) fun a t => slk_ge N m _ a t).2
/-- The first of some things with the most, as the code follows it. -/
def grF (f : Nat → Int) (a : Nat × Int) (x : Nat) : Nat × Int := if a.2 < f x then (x, f x) else a
def grL (f : Nat → Int) (l : List Nat) : Nat × Int := l.foldl (grF f) (0, -1)
theorem grF_snd (f : Nat → Int) : ∀ (l : List Nat) (a : Nat × Int), (l.foldl (grF f) a).2 = (l.map f).foldl max a.2
  | [], _ => rfl
  | x :: l, a => by
    show (l.foldl (grF f) (grF f a x)).2 = (l.map f).foldl max (max a.2 (f x))
    have e : (grF f a x).2 = max a.2 (f x) := by
      unfold grF
      split
      · show f x = _; omega
      · omega
    rw [grF_snd f l, e]
theorem grL_snd (f : Nat → Int) (l : List Nat) : (grL f l).2 = maxL (l.map f) := grF_snd f l _
/-! ### The first order with enough slack; the best place; the best wrapping -/
def ordF (N : Nt) (m : Nat) (enough : Int) : Nat → Nat → Nat → Int → List Nat
  | 0, _, _, _ => []
  | f + 1, s, a, t => match (pilL (s : Int)).find? (fun k => decide (enough ≤ byI N m (slk N m) s a t k)) with
    | none => []
    | some k => k :: ordF N m enough f (s - 2 ^ k) (k + 1) (N.arr a t k)
def ordI (N : Nt) (m : Nat) (enough : Int) (s a : Nat) (t : Int) : List Nat := ordF N m enough s s a t
theorem ordF_step (N : Nt) (m : Nat) (e : Int) : ∀ f s, s ≤ f → ∀ a t, ordF N m e (f + 1) s a t = ordF N m e f s a t
  | 0, s, hs, a, t => by
    obtain rfl : s = 0 := by omega
    simp [ordF, show pilL 0 = [] by decide]
  | f + 1, s, hs, a, t => by
    unfold ordF
    cases hk : (pilL (s : Int)).find? (fun k => decide (e ≤ byI N m (slk N m) s a t k)) with
    | none => rfl
    | some k =>
      simp only
      congr 1
      have := Nat.two_pow_pos k
      have := bit_le (pil_bit (List.mem_of_find?_eq_some hk))
      exact ordF_step N m e f _ (by omega) _ _
theorem ordF_ge (N : Nt) (m : Nat) (e : Int) (s : Nat) : ∀ d a t, ordF N m e (s + d) s a t = ordI N m e s a t
  | 0, _, _ => rfl
  | d + 1, a, t => by
    show ordF N m e (s + d + 1) s a t = _
    rw [ordF_step N m e (s + d) s (by omega), ordF_ge N m e s d]
theorem ordI_none {N : Nt} {m : Nat} {e : Int} {s a : Nat} {t : Int} (h : (pilL (s : Int)).find? (fun k => decide (e ≤ byI N m (slk N m) s a t k)) = none) : ordI N m e s a t = [] := by
  unfold ordI
  cases s with
  | zero => rfl
  | succ f => unfold ordF; rw [h]
theorem ordI_some {N : Nt} {m : Nat} {e : Int} {s a k : Nat} {t : Int} (h : (pilL (s : Int)).find? (fun k => decide (e ≤ byI N m (slk N m) s a t k)) = some k) : ordI N m e s a t = k :: ordI N m e (s - 2 ^ k) (k + 1) (N.arr a t k) := by
  have h1 := Nat.two_pow_pos k
  have h2 := bit_le (pil_bit (List.mem_of_find?_eq_some h))
  obtain ⟨f, rfl⟩ : ∃ f, s = f + 1 := ⟨s - 1, by omega⟩
  show ordF N m e (f + 1) (f + 1) a t = _
  unfold ordF
  rw [h]
  simp only
  congr 1
  obtain ⟨d, hd⟩ : ∃ d, f = (f + 1 - 2 ^ k) + d := ⟨f - (f + 1 - 2 ^ k), by omega⟩
  have := ordF_ge N m e (f + 1 - 2 ^ k) d (k + 1) (N.arr a t k)
  rw [← hd] at this
  exact this
theorem maxL_get {l : List Int} {e : Int} (h0 : 0 ≤ e) (h : e ≤ maxL l) : ∃ x ∈ l, e ≤ x := by
  have : ∀ (l : List Int) (x : Int), e ≤ l.foldl max x → e ≤ x ∨ ∃ y ∈ l, e ≤ y := fun l => by
    induction l with
    | nil => exact fun x h => .inl h
    | cons y l ih =>
      intro x hx
      rcases ih (max x y) hx with h | ⟨z, hz, h⟩
      · by_cases hy : e ≤ y
        · exact .inr ⟨y, by simp, hy⟩
        · exact .inl (by omega)
      · exact .inr ⟨z, List.mem_cons_of_mem _ hz, h⟩
  rcases this l (-1) h with h | h
  · omega
  · exact h
theorem ord_found {N : Nt} {m s a : Nat} {t e : Int} (h0 : 0 ≤ e) (hs : s ≠ 0) (h : e ≤ slk N m s a t) : ∃ k, (pilL (s : Int)).find? (fun k => decide (e ≤ byI N m (slk N m) s a t k)) = some k ∧ k ∈ pilL (s : Int) ∧ N.arr a t k ≤ N.due m k ∧ e ≤ slk N m (s - 2 ^ k) (k + 1) (N.arr a t k) := by
  rw [slk_pos hs] at h
  obtain ⟨x, hx, hex⟩ := maxL_get h0 h
  obtain ⟨k0, hk0, rfl⟩ := List.mem_map.1 hx
  cases hf : (pilL (s : Int)).find? (fun k => decide (e ≤ byI N m (slk N m) s a t k)) with
  | none =>
    exact absurd (decide_eq_true hex) (by simpa using List.find?_eq_none.1 hf k0 hk0)
  | some k =>
    refine ⟨k, rfl, List.mem_of_find?_eq_some hf, ?_⟩
    have hb := List.find?_some hf
    simp only [decide_eq_true_eq] at hb
    unfold byI at hb
    split at hb <;> omega
def weakF (N : Nt) (m place : Nat) : List Int → Nat → Int
  | [], _ => -1
  | f :: fs, i => if slk N m f.toNat place 0 = -1 then (i : Int) else weakF N m place fs (i + 1)
def weakI (N : Nt) (m place : Nat) (fs : List Int) : Int := weakF N m place fs 0
def sofI (N : Nt) (m : Nat) (fs : List Int) (place : Nat) : Int := fs.foldl (fun a f => min a (slk N m f.toNat place 0)) N.fr.length
def postI (N : Nt) (fs : List Int) : Nat × Int := grL (sofI N 0 fs) (List.range N.wa.length)
def wrapF (N : Nt) (place : Nat) (fs : List Int) (x : Nat × Int × Bool) (w : Nat) : Nat × Int × Bool := if (!x.2.2 || decide (costK N w N.lo.length < x.2.1)) && decide (weakI N w place fs < 0) then (w, costK N w N.lo.length, true) else x
def wrapI (N : Nt) (place : Nat) (fs : List Int) (k : Nat) : Nat × Int × Bool := (List.range k).foldl (wrapF N place fs) (0, 0, false)
theorem wayOk {N : Nt} (K : NtOk N) : WayOk N := by
  refine ⟨fun a k => ?_, fun k => ?_⟩
  · unfold Nt.way
    cases h : N.wa[a]? with
    | none => simp [List.getD_eq_getElem?_getD, h]
    | some r =>
      have hr := K.wa a r h
      cases h2 : r[k]? with
      | none => simp [List.getD_eq_getElem?_getD, h, h2]
      | some x =>
        have := hr.2.2 x (List.mem_of_getElem? h2)
        simp only [List.getD_eq_getElem?_getD, h, h2, Option.getD_some]
        omega
  · unfold Nt.fix
    cases h : N.lo[k]? with
    | none => simp [List.getD_eq_getElem?_getD, h, lp0]
    | some l =>
      have := (K.lo l (List.mem_of_getElem? h)).f
      simp only [List.getD_eq_getElem?_getD, h, Option.getD_some]
      omega
end Go.Proofs.Yticmeeinjkoodaa

namespace Go.Proofs.Yticmeeinjkoodaa
open Go.RowKit Go.Shelf
open Go.Maps (Keyed)
open Go.ChangeMaps (setBlock heap_setBlock_same heap_setBlock_other)

abbrev keyV (s a : Nat) (t : Int) : Value := .agg #[.int .i64 (s : Int), .int .i64 (a : Int), .int .i64 t]
theorem keyV_inj {s a s' a' : Nat} {t t' : Int} (h : keyV s a t = keyV s' a' t') : s = s' ∧ a = a' ∧ t = t' := by
  simp at h
  omega
theorem laid_out : laidOutB Try.prog = true := by kernel_rfl
theorem key_row : 108 < Try.prog.types.size := of_decide_eq_true (by kernel_rfl)
theorem key_type : Try.prog.keyTypeAt 2 108 = true := by kernel_rfl
set_option maxRecDepth 100000 in
theorem key_law : Keyed Try.prog 108 := Keyed.of_law (deep_law_laid laid_out (m := 2) (by omega) key_row key_type (by rw [Try.underlying108]))
theorem key_keyType : Try.prog.keyType 108 = true := by kernel_rfl
theorem key_cells : Try.prog.cellsOf 108 = 3 := by kernel_rfl
theorem key_cells3 : Try.prog.cellsOf 3 = 1 := by kernel_rfl
structure KB (s a : Nat) (t : Int) : Prop where
  s : s < 32
  a : a ≤ 5
  t : 0 ≤ t ∧ t ≤ 72
theorem lit_wf {x : Int} (h : 0 ≤ x ∧ x < 1000) : (Lit.int .i64 x).wf = true := by
  have h1 : IntKind.i64.min = -9223372036854775808 := by decide
  have h2 : IntKind.i64.max = 9223372036854775807 := by decide
  simp only [Lit.wf, h1, h2, Bool.and_eq_true, decide_eq_true_eq]
  omega
set_option maxRecDepth 100000 in
theorem key_of {s a : Nat} {t : Int} (h : KB s a t) : ∃ l, keyOf Try.prog 108 (keyV s a t) = some l := by
  have w1 : (Lit.int .i64 (s : Int)).wf = true := lit_wf (by have := h.s; omega)
  have w2 : (Lit.int .i64 (a : Int)).wf = true := lit_wf (by have := h.a; omega)
  have w3 : (Lit.int .i64 t).wf = true := lit_wf (by have := h.t; omega)
  unfold keyOf
  rw [Try.underlying108]
  simp only [key_keyType, Value.formed, Try.underlying108, key_cells]
  obtain ⟨d, hd⟩ : ∃ d, Try.prog.types.size + 1 = d + 1 + 1 := ⟨Try.prog.types.size - 1, by have := key_row; omega⟩
  rw [hd]
  simp [Program.keyLits, Try.underlying108, Try.underlying3, key_cells, key_cells3, w1, w2, w3, Value.cells]
def MemoOk (N : Nt) (m : Nat) (es : Array MapEntry) : Prop := ∀ e ∈ es.toList, ∃ (s a : Nat) (t : Int), KB s a t ∧ e.key = keyV s a t ∧ e.val = .int .i64 (slk N m s a t)
theorem memo_key {N : Nt} {m : Nat} {es : Array MapEntry} (h : MemoOk N m es) : ∀ e ∈ es.toList, ∃ l, keyOf Try.prog 108 e.key = some l := fun e he => by
  obtain ⟨s, a, t, hb, hk, _⟩ := h e he
  rw [hk]
  exact key_of hb
theorem memo_val {N : Nt} {m : Nat} {es : Array MapEntry} (h : MemoOk N m es) {e : MapEntry} (he : e ∈ es.toList) {s a : Nat} {t : Int} (hk : e.key = keyV s a t) : e.val = .int .i64 (slk N m s a t) := by
  obtain ⟨s', a', t', _, hk', hv⟩ := h e he
  obtain ⟨rfl, rfl, rfl⟩ := keyV_inj (hk'.symm.trans hk)
  exact hv
/-- What is found under a key. -/
theorem memo_look {N : Nt} {m : Nat} {es : Array MapEntry} (ho : MemoOk N m es) {s a : Nat} {t : Int} (hb : KB s a t) (M c : Nat) :
    ∃ (v : Int) (b : Bool), (∀ W : World, W.heap[M]? = some (.map es c) → (Instr.lookup 123 (.map (some M)) (keyV s a t) true).run Try.prog W = .ok (.tuple #[.int .i64 v, .bool b]) W) ∧ (b = true → v = slk N m s a t) := by
  obtain ⟨kl, hkey⟩ := key_of hb
  by_cases hin : ∃ e ∈ es.toList, e.key = keyV s a t
  · refine ⟨_, true, fun W hW => ?_, fun _ => rfl⟩
    rcases key_law.find W hkey es.toList (memo_key ho) with ⟨h1, h2⟩ | ⟨j, e0, h1, h2, h3⟩
    · obtain ⟨e, he, hk⟩ := hin
      exact absurd hk (h2 e he)
    · have hv := memo_val ho (List.mem_of_getElem? h2) h3
      simp [Instr.lookup, run_underlying Try.underlying123, MapKept.run_getObj_map hW, key_law.check W _ hkey, h1, Result.andThen, hv]
  · refine ⟨0, false, fun W hW => ?_, fun h => by cases h⟩
    rcases key_law.find W hkey es.toList (memo_key ho) with ⟨h1, h2⟩ | ⟨j, e0, h1, h2, h3⟩
    · simp [Instr.lookup, run_underlying Try.underlying123, MapKept.run_getObj_map hW, key_law.check W _ hkey, h1, Result.andThen, go_sem]
    · exact absurd ⟨e0, List.mem_of_getElem? h2, h3⟩ hin
theorem memo_put {N : Nt} {m : Nat} {w : World} {M c : Nat} {es : Array MapEntry} (hm : w.heap[M]? = some (.map es c)) (ho : MemoOk N m es) {s a : Nat} {t : Int} (hb : KB s a t) :
    ∃ w2, (Instr.mapUpdate 123 (.map (some M)) (keyV s a t) (.int .i64 (slk N m s a t))).run Try.prog w = .ok () w2 ∧ w.grownBy w2 (some M) ∧ ∃ es' c', w2.heap[M]? = some (.map es' c') ∧ MemoOk N m es' := by
  obtain ⟨kl, hkey⟩ := key_of hb
  rcases key_law.find w hkey es.toList (memo_key ho) with ⟨h1, h2⟩ | ⟨j, e0, h1, h2, h3⟩
  · refine ⟨setBlock w M (.map (es.push ⟨keyV s a t, .int .i64 (slk N m s a t), c⟩) (c + 1)), ?_, ⟨rfl, rfl, rfl, by simp [setBlock], fun k _ hk => heap_setBlock_other hm _ (fun e => hk (by rw [e]))⟩, _, _, heap_setBlock_same hm _, fun e he => ?_⟩
    · simp [Instr.mapUpdate, run_underlying Try.underlying123, MapKept.run_getObj_map hm, key_law.check w false hkey, h1, MapKept.run_setObj_map _ hm, Result.andThen, setBlock]
    · simp only [Array.toList_push, List.mem_append, List.mem_singleton] at he
      rcases he with he | rfl
      · exact ho e he
      · exact ⟨s, a, t, hb, rfl, rfl⟩
  · have h2' : es[j]? = some e0 := by simpa using h2
    have hst := key_law.stays w hkey
    refine ⟨setBlock w M (.map (es.modify j fun e => { e with key := keyV s a t, val := .int .i64 (slk N m s a t) }) c), ?_, ⟨rfl, rfl, rfl, by simp [setBlock], fun k _ hk => heap_setBlock_other hm _ (fun e => hk (by rw [e]))⟩, _, _, heap_setBlock_same hm _, fun e he => ?_⟩
    · simp [Instr.mapUpdate, run_underlying Try.underlying123, MapKept.run_getObj_map hm, key_law.check w false hkey, h1, h2', h3, hst, MapKept.run_setObj_map _ hm, Result.andThen, setBlock]
    · obtain ⟨i, hi⟩ := List.getElem?_of_mem he
      simp only [Array.getElem?_toList, Array.getElem?_modify] at hi
      split at hi
      · rename_i hji
        subst hji
        rw [h2'] at hi
        injection hi with hi
        exact ⟨s, a, t, hb, by rw [← hi], by rw [← hi]⟩
      · exact ho e (List.mem_of_getElem? (by simpa using hi))
/-! ### Worlds between -/
theorem below_grown {w w' : World} (h : Below w.heap.size w w') (r : Option Nat) : w.grownBy w' r := ⟨h.os, h.tape, h.output, h.size, fun k hk _ => h.block k hk⟩
theorem grown_trans {a b c : World} {r : Option Nat} (h : a.grownBy b r) (k : b.grownBy c r) : a.grownBy c r :=
  ⟨k.os.trans h.os, k.tape.trans h.tape, k.output.trans h.output, Nat.le_trans h.size k.size, fun j hj hne => (k.block j (Nat.lt_of_lt_of_le hj h.size) hne).trans (h.block j hj hne)⟩
/-- From one world to another one: all is kept, but for the map of slacks. -/
structure Gw (N : Nt) (m M : Nat) (w A : World) : Prop where
  gr : w.grownBy A (some M)
  lt : M < w.heap.size
  map : ∃ es c, A.heap[M]? = some (.map es c) ∧ MemoOk N m es
section
variable {N : Nt} {m M n : Nat} {w A B : World}
theorem Gw.trans (h : Gw N m M w A) (k : Gw N m M A B) : Gw N m M w B := ⟨grown_trans h.gr k.gr, h.lt, k.map⟩
theorem Gw.up (h : Gw N m M w A) (hb : Below A.heap.size A B) : Gw N m M w B := by
  obtain ⟨es, c, h1, h2⟩ := h.map
  exact ⟨grown_trans h.gr (below_grown hb _), h.lt, es, c, (hb.block _ (Array.getElem?_eq_some_iff.1 h1).1).trans h1, h2⟩
theorem Gw.cell (h : Gw N m M w A) {b : Nat} {cs : Array Value} {T : TypeId} (hb : w.heap[b]? = some (.cells cs T (0, 0))) (hne : b ≠ M) : A.heap[b]? = some (.cells cs T (0, 0)) :=
  (h.gr.block b (heapsz hb) (fun e => hne (by injection e))).trans hb
theorem Gw.bel (h : Gw N m M w A) (hn : n ≤ M) : Below n w A := (Below.refl n w).grown h.gr (by have := h.lt; omega) (fun k e => by injection e with e; omega)
theorem Gw.own {n : Nat} {row : Option Nat} (h : Gw N m M w A) (hn : w.heap.size ≤ n) (hg : A.grownBy B row) (hr : ∀ r, row = some r → n ≤ r ∧ ∃ o : Obj, A.heap[r]? = some o ∧ o.isCells = false) : Gw N m M w B := by
  obtain ⟨es, c, h1, h2⟩ := h.map
  have hlt := h.lt
  exact ⟨⟨hg.os.trans h.gr.os, hg.tape.trans h.gr.tape, hg.output.trans h.gr.output, Nat.le_trans h.gr.size hg.size, fun k hk hne => (hg.block k (Nat.lt_of_lt_of_le hk h.gr.size) (fun e => by have := (hr k e.symm).1; omega)).trans (h.gr.block k hk hne)⟩, hlt, es, c, (hg.block M (Array.getElem?_eq_some_iff.1 h1).1 (fun e => by have := (hr M e.symm).1; omega)).trans h1, h2⟩
theorem Gw.put (h : Gw N m M w A) {b k : Nat} (v : Value) (hb : w.heap.size ≤ b) : Gw N m M w (A.setCell ⟨b, k, none⟩ v) := by
  obtain ⟨es, c, h1, h2⟩ := h.map
  have hlt := h.lt
  exact ⟨⟨h.gr.os, h.gr.tape, h.gr.output, by simpa [World.setCell] using h.gr.size, fun j hj hne => (Below.heap_setCell _ _ _ _ (show j ≠ b by omega)).trans (h.gr.block j hj hne)⟩, hlt, es, c, (Below.heap_setCell _ _ _ _ (show M ≠ b by omega)).trans h1, h2⟩
theorem Gw.low (h : Gw N m M w A) (hn : w.heap.size ≤ n) (hb : Below n A B) : Gw N m M w B := by
  obtain ⟨es, c, h1, h2⟩ := h.map
  have hlt := h.lt
  exact ⟨⟨hb.os.trans h.gr.os, hb.tape.trans h.gr.tape, hb.output.trans h.gr.output, Nat.le_trans h.gr.size hb.size, fun k hk hne => (hb.block k (by omega)).trans (h.gr.block k hk hne)⟩, hlt, es, c, (hb.block M (by omega)).trans h1, h2⟩
end
/-- A net that is looked at, with the slacks that were found. -/
structure Lw (w0 : World) (P M : Nat) (V : NV) (N : Nt) (m : Nat) (bv dv : Value) (w : World) : Prop where
  bel : Below w0.heap.size w0 w
  box : w.heap[P]? = some (.cells (lkC V bv dv M) 126 (0, 0))
  bo : RowIs boxR 132 w0.heap.size (bxI N m) bv w
  du : RowIs intR 3 w0.heap.size (dueL N m V.nl) dv w
  map : ∃ es c, w.heap[M]? = some (.map es c) ∧ MemoOk N m es
  lt : w0.heap.size ≤ P ∧ w0.heap.size ≤ M
  net : NtAt w0 w0.heap.size V N
  ok : NtOk N
section
variable {w0 w A B : World} {P M m : Nat} {V : NV} {N : Nt} {bv dv : Value}
theorem Lk.lw (h : Lk w0 P M V N m bv dv w) (hN : NtAt w0 w0.heap.size V N) (hok : NtOk N) : Lw w0 P M V N m bv dv w :=
  ⟨h.bel, h.box, h.bo, h.du, ⟨_, _, h.map, fun e he => by simp at he⟩, h.lt, hN, hok⟩
theorem Lw.mlt (h : Lw w0 P M V N m bv dv w) : M < w.heap.size := by
  obtain ⟨_, _, h1, _⟩ := h.map
  exact (Array.getElem?_eq_some_iff.1 h1).1
theorem Lw.gw0 (h : Lw w0 P M V N m bv dv w) : Gw N m M w w := ⟨⟨rfl, rfl, rfl, Nat.le_refl _, fun _ _ _ => rfl⟩, h.mlt, h.map⟩
theorem Lw.ne (h : Lw w0 P M V N m bv dv w) {b : Nat} {cs : Array Value} {T : TypeId} (hb : w.heap[b]? = some (.cells cs T (0, 0))) : b ≠ M := fun e => by
  obtain ⟨_, _, h1, _⟩ := h.map
  rw [e, h1] at hb
  cases hb
theorem Lw.go (h : Lw w0 P M V N m bv dv w) (g : Gw N m M w A) : Lw w0 P M V N m bv dv A :=
  ⟨h.bel.trans (g.bel h.lt.2), g.cell h.box (h.ne h.box), h.bo.keep fun _ _ _ hx => g.cell hx (h.ne hx), h.du.keep fun _ _ _ hx => g.cell hx (h.ne hx), g.map, h.lt, h.net, h.ok⟩
theorem Lw.up (h : Lw w0 P M V N m bv dv w) (hb : Below w.heap.size w A) : Lw w0 P M V N m bv dv A := h.go (h.gw0.up hb)
/-- What is read of it. -/
structure Lr (w : World) (P M : Nat) (V : NV) (N : Nt) (m : Nat) (AB AD : Option Addr) (cb cd : Nat) : Prop where
  c0 : w.cell? ⟨P, 0, none⟩ = some (.slice V.al V.nl V.cl)
  c1 : w.cell? ⟨P, 1, none⟩ = some (.slice V.af V.nf V.cf)
  c2 : w.cell? ⟨P, 2, none⟩ = some (.slice V.aw V.nw V.cw)
  c3 : w.cell? ⟨P, 3, none⟩ = some (.slice AB V.nl cb)
  c4 : w.cell? ⟨P, 4, none⟩ = some (.slice AD V.nl cd)
  c5 : w.cell? ⟨P, 5, none⟩ = some (.map (some M))
  net : NtAt w w.heap.size V N
  bx : RowAt 1 boxR w w.heap.size AB (bxI N m)
  du : IntsAt w w.heap.size AD (dueL N m V.nl)
  plt : P < w.heap.size
theorem dueL_len {N : Nt} {m k : Nat} : (dueL N m k).length = k := by simp [dueL]
theorem due_at {N : Nt} {m k n : Nat} (h : k < n) : (dueL N m n)[k]? = some (N.due m k) := by
  unfold dueL
  rw [List.getElem?_map, List.getElem?_range h]
  rfl
theorem Lw.rd (h : Lw w0 P M V N m bv dv w) : ∃ AB AD cb cd, (bv = .slice AB V.nl cb ∧ dv = .slice AD V.nl cd) ∧ Lr w P M V N m AB AD cb cd := by
  obtain ⟨A, c, e, hr, _⟩ := h.bo.at_ (k := 1) (fun _ => rfl)
  have hl : (bxI N m).length = V.nl := by rw [← h.net.nl]; simp [bxI]
  rw [hl] at e
  obtain ⟨A2, c2, e2, hr2, _⟩ := h.du.at_ (k := 1) (fun _ => rfl)
  rw [dueL_len] at e2
  have kP := h.box
  rw [e, e2] at kP
  have q := fun k => cell_of_row w P k _ 126 (0, 0) kP
  have q0 := q 0; have q1 := q 1; have q2 := q 2; have q3 := q 3; have q4 := q 4; have q5 := q 5
  simp at q0 q1 q2 q3 q4 q5
  exact ⟨A, A2, c, c2, ⟨e, e2⟩, q0, q1, q2, q3, q4, q5, h.net.next h.bel h.bel.size, hr, hr2, heapsz kP⟩
theorem Lw.lh (h : Lw w0 P M V N m bv dv w) : ∃ AB cb, LH w w.heap.size P V N m AB cb := by
  obtain ⟨AB, AD, cb, cd, _, r⟩ := h.rd
  exact ⟨AB, cb, r.plt, r.c0, r.c1, r.c2, r.c3, r.net, r.bx, h.ok⟩
end
end Go.Proofs.Yticmeeinjkoodaa

namespace Go.Proofs.Yticmeeinjkoodaa
open Go.RowKit Go.Shelf

theorem strip_bit : ∀ q : Nat, q < 32 → ∀ j : Nat, j < 5 → q.testBit j = true → bits .andNot .i64 (q : Int) (2 ^ j) = ((q - 2 ^ j : Nat) : Int) := by decide +kernel
theorem pow_wrap : ∀ k : Nat, k < 5 → IntKind.i64.wrap ((2 : Int) ^ k) = 2 ^ k := by decide +kernel
def lateP : PanicEntry := { v := .iface 145 (.agg #[]), recovered := false }
theorem way_get {N : Nt} (K : NtOk N) {a k : Nat} (ha : a ≤ N.lo.length) (hk : k ≤ N.lo.length) : ∃ row, N.wa[a]? = some row ∧ row[k]? = some (N.way a k) ∧ k < row.length := by
  obtain ⟨row, hr⟩ := get_of_lt (l := N.wa) (k := a) (by rw [K.wl]; omega)
  have h := K.wa a row hr
  obtain ⟨x, hx⟩ := get_of_lt (l := row) (k := k) (by rw [h.1]; omega)
  exact ⟨row, hr, by unfold Nt.way; simp [List.getD_eq_getElem?_getD, hr, hx], by rw [h.1]; omega⟩
def rpCv (P C R a k : Nat) (t : Int) (bw ow br ro bl ol nl cl nw cw m' c' : Nat) (wy fx : Int) : Tmp → Value
  | 0 => .pointer (some ⟨P, 0, none⟩)
  | 2 => .int .i64 k
  | 4 => .pointer (some ⟨C, 0, none⟩)
  | 6 => .pointer (some ⟨R, 0, none⟩)
  | 7 => .pointer (some ⟨C, 2, none⟩)
  | 8 => .int .i64 t
  | 9 => .pointer (some ⟨P, 0, none⟩)
  | 10 => .pointer (some ⟨P, 0, none⟩)
  | 11 => .pointer (some ⟨P, 0, none⟩)
  | 12 => .pointer (some ⟨P, 2, none⟩)
  | 13 => .slice (some ⟨bw, ow, none⟩) nw cw
  | 14 => .pointer (some ⟨C, 1, none⟩)
  | 15 => .int .i64 a
  | 16 => .pointer (some ⟨bw, ow + a, none⟩)
  | 17 => .slice (some ⟨br, ro, none⟩) m' c'
  | 18 => .int .i64 k
  | 19 => .int .i64 ((k : Int) + 1)
  | 20 => .pointer (some ⟨br, ro + (k + 1), none⟩)
  | 21 => .int .i64 wy
  | 22 => .pointer (some ⟨P, 0, none⟩)
  | 23 => .pointer (some ⟨P, 0, none⟩)
  | 24 => .pointer (some ⟨P, 0, none⟩)
  | 25 => .pointer (some ⟨P, 0, none⟩)
  | 26 => .slice (some ⟨bl, ol, none⟩) nl cl
  | 27 => .int .i64 k
  | 28 => .pointer (some ⟨bl, ol + k * 12, none⟩)
  | 29 => .pointer (some ⟨bl, ol + k * 12 + 10, none⟩)
  | 30 => .pointer (some ⟨bl, ol + k * 12 + 11, none⟩)
  | 31 => .int .i64 fx
  | 32 => .int .i64 (wy + fx)
  | 33 => .int .i64 (t + (wy + fx))
  | 34 => .pointer (some ⟨C, 2, none⟩)
  | _ => undef
def rqCv (P C R s k : Nat) : Tmp → Value
  | 0 => .pointer (some ⟨P, 0, none⟩)
  | 2 => .int .i64 k
  | 4 => .pointer (some ⟨C, 0, none⟩)
  | 6 => .pointer (some ⟨R, 0, none⟩)
  | 47 => .pointer (some ⟨C, 0, none⟩)
  | 48 => .int .i64 s
  | 49 => .int .i64 k
  | 50 => .int .i64 (2 ^ k)
  | 51 => .int .i64 ((s - 2 ^ k : Nat) : Int)
  | 52 => .pointer (some ⟨C, 0, none⟩)
  | _ => undef
attribute [local irreducible] QT
attribute [local go_sem] Oper.semAt_some
set_option maxRecDepth 100000 in
set_option maxHeartbeats 4000000 in
theorem repair_any {w0 w : World} {P M m : Nat} {V : NV} {N : Nt} {bv dv : Value} (h : Lw w0 P M V N m bv dv w) {s a k : Nat} {t : Int} (hs : s < 32) (hb : s.testBit k = true) (hk : k < N.lo.length) (ha : a ≤ N.lo.length) (ht : 0 ≤ t ∧ t ≤ 72) :
    Calls Try.prog 92 #[.pointer (some ⟨P, 0, none⟩), keyV s a t, .int .i64 k] w fun e w' => Below w.heap.size w w' ∧ ((N.due m k < N.arr a t k ∧ e = .panicked [lateP]) ∨ (N.arr a t k ≤ N.due m k ∧ e = .returned (keyV (s - 2 ^ k) (k + 1) (N.arr a t k)))) := by
  obtain ⟨AB, AD, cb, cd, _, r⟩ := h.rd
  have hnl := r.net.nl; have hn5 := h.ok.n5
  have hml := r.net.ml; have hmw := r.net.mw; have hnw := r.net.nw; have hwl := h.ok.wl
  unfold maxLen at hml hmw
  obtain ⟨row, hrow, hwy, hkr⟩ := way_get h.ok ha (k := k + 1) (by omega)
  obtain ⟨bw, ow, A', m', c', hAW, hbw, hm', cw, hrw, hmm⟩ := grid_row r.net.wa hrow
  unfold maxLen at hmm
  obtain ⟨br, ro, hAr, hbr, cy⟩ := ints_el hrw hwy
  subst hAr
  obtain ⟨l, hl⟩ := get_of_lt hk
  obtain ⟨bl, ol, hAL, hbl, _, _, _, _, _, cf⟩ := lp_el r.net.lo hl
  obtain ⟨bd, od, hAD, hbd, cdu⟩ := ints_el r.du (due_at (N := N) (m := m) (k := k) (n := V.nl) (by omega))
  have hfx : l.fh = N.fix k := by unfold Nt.fix; simp [List.getD_eq_getElem?_getD, hl]
  rw [hfx] at cf
  have hwi := (wayOk h.ok).w a (k + 1); have hfi := (wayOk h.ok).f k
  have hdi := due_N N m k
  have h72 := h.ok.h72
  have r0 := r.c0; have r2 := r.c2; have r4 := r.c4; have hplt := r.plt
  rw [hAL] at r0; rw [hAW] at r2; rw [hAD] at r4
  have HAR : Hid (N.arr a t k = t + (N.way a (k + 1) + N.fix k)) := Lib.hid rfl
  have hcl : (k : Int) < (V.nl : Int) := by omega
  have hcw : (a : Int) < (V.nw : Int) := by omega
  have hcr : (k : Int) + 1 < (m' : Int) := by omega
  have hk0 : (0 : Int) ≤ (k : Int) := by omega
  have ha0 : (0 : Int) ≤ (a : Int) := by omega
  have hnlw : V.nl ≤ 5 := by omega
  have hnww : V.nw ≤ 6 := by omega
  have hm6 : m' ≤ 1000000 := by
    have := (h.ok.wa a row hrow).1
    omega
  have HST := Lib.hid (strip_bit s hs k (by omega) hb)
  have hs31 : (s : Int) < 32 := by omega
  have hk4 : (k : Int) ≤ 4 := by omega
  obtain ⟨Y, hY⟩ : ∃ z, N.due m k = z := ⟨_, rfl⟩
  obtain ⟨wy, hwy'⟩ : ∃ z, N.way a (k + 1) = z := ⟨_, rfl⟩
  obtain ⟨fx, hfx'⟩ : ∃ z, N.fix k = z := ⟨_, rfl⟩
  rw [hY] at cdu hdi ⊢
  rw [hwy'] at cy hwi HAR
  rw [hfx'] at cf hfi HAR
  rw [HAR.out]
  obtain ⟨z0, z1, hbn⟩ := two_new w (.cells #[.int .i64 (s : Int), .int .i64 (a : Int), .int .i64 t] 108) (.cells #[.int .i64 0, .int .i64 0, .int .i64 0] 108)
  obtain ⟨w2, hw2⟩ : ∃ z, (w.alloc (.cells #[.int .i64 (s : Int), .int .i64 (a : Int), .int .i64 t] 108)).alloc (.cells #[.int .i64 0, .int .i64 0, .int .i64 0] 108) = z := ⟨_, rfl⟩
  rw [hw2] at z0 z1 hbn
  have HW2 := Lib.hid hw2; have HB2 := Lib.hid hbn
  have Z0 := Lib.hid z0; have Z1 := Lib.hid z1
  have HPL : Hid (P < w.heap.size ∧ w.cell? ⟨P, 4, none⟩ = some (.slice (some ⟨bd, od, none⟩) V.nl cd) ∧ bd < w.heap.size ∧ w.cell? ⟨bd, od + k, none⟩ = some (.int .i64 Y)) := Lib.hid ⟨hplt, r4, hbd, cdu⟩
  have HF : Hid (∀ u : World, Below w2.heap.size w2 u → (u.cell? ⟨P, 0, none⟩ = some (.slice (some ⟨bl, ol, none⟩) V.nl V.cl) ∧ u.cell? ⟨P, 2, none⟩ = some (.slice (some ⟨bw, ow, none⟩) V.nw V.cw) ∧ u.cell? ⟨P, 4, none⟩ = some (.slice (some ⟨bd, od, none⟩) V.nl cd)) ∧ (u.cell? ⟨bw, ow + a, none⟩ = some (.slice (some ⟨br, ro, none⟩) m' c') ∧ u.cell? ⟨br, ro + (k + 1), none⟩ = some (.int .i64 wy) ∧ u.cell? ⟨bl, ol + k * 12 + 11, none⟩ = some (.int .i64 fx) ∧ u.cell? ⟨bd, od + k, none⟩ = some (.int .i64 Y)) ∧
      (u.cell? ⟨w.heap.size, 0, none⟩ = some (.int .i64 (s : Int)) ∧ u.cell? ⟨w.heap.size, 1, none⟩ = some (.int .i64 (a : Int)) ∧ u.cell? ⟨w.heap.size, 2, none⟩ = some (.int .i64 t)) ∧ u.heap[w.heap.size]? = some (.cells #[.int .i64 (s : Int), .int .i64 (a : Int), .int .i64 t] 108 (0, 0)) ∧ u.heap[w.heap.size + 1]? = some (.cells #[.int .i64 0, .int .i64 0, .int .i64 0] 108 (0, 0))) := Lib.hid fun u hu => by
    have q := (bcell (HB2.out.trans (hu.mono HB2.out.size))).1
    have y0 := (hu.block _ (heapsz Z0.out)).trans Z0.out
    exact ⟨⟨(q _ _ hplt).trans r0, (q _ _ hplt).trans r2, (q _ _ hplt).trans r4⟩, ⟨(q _ _ hbw).trans cw, (q _ _ hbr).trans cy, (q _ _ hbl).trans cf, (q _ _ hbd).trans cdu⟩, box3_cells y0, y0, (hu.block _ (heapsz Z1.out)).trans Z1.out⟩
  clear z0 z1 hbn hw2 r0 r2 r4 cw cy cf cdu r h hrow hwy hkr hrw hl hAW hAL hAD hwl hY hwy' hfx hfx' hbw hbr hbl hbd hplt hnl hnw hm' hn5 hb
  have hwr : IntKind.i64.wrap (wy + fx) = wy + fx := IntWalk.i64_in _ (by omega)
  have hk2 : ¬ (k : Int) + 1 < 0 := by omega
  have hwr2 : IntKind.i64.wrap (t + (wy + fx)) = t + (wy + fx) := IntWalk.i64_in _ (by omega)
  have hwr3 : IntKind.i64.wrap ((k : Int) + 1) = (k : Int) + 1 := IntWalk.i64_in _ (by omega)
  go_enter Try.func92, Try.ntmps92
  go_wp2_with fail
  rw [show (w.alloc (.cells #[.int .i64 (s : Int), .int .i64 (a : Int), .int .i64 t] 108)).alloc (.cells #[.int .i64 0, .int .i64 0, .int .i64 0] 108) = w2 from HW2.out]
  apply tail_regionX
  case hs => exact (rfl : _ = [_, _, _, _, _, _, _, _, _, _, _, _, _, _, _, _, _, _, _, _, _, _, _, _, _, _, _, _] ++ [_])
  case hm => kernel_rfl
  case hT => kernel_rfl
  refine rel_any [0, 2, 4, 6] [] (rpCv P w.heap.size (w.heap.size + 1) a k t bw ow br ro bl ol V.nl V.cl V.nw V.cw m' c' wy fx) noF (by kernel_rfl) (by kernel_rfl) (by kernel_rfl) (by kernel_rfl) (by kernel_rfl) ?_ (fun _ _ _ _ _ _ => trivial) ?_ ?_
  · intro t ht
    simp only [List.mem_cons, List.not_mem_nil, or_false] at ht
    rcases ht with rfl | rfl | rfl | rfl <;> rfl
  · refine allOps_array ?_
    refine ⟨?_, ?_, ?_, ?_, ?_, ?_, ?_, ?_, ?_, ?_, ?_, ?_, ?_, ?_, ?_, ?_, ?_, ?_, ?_, ?_, ?_, ?_, ?_, ?_, ?_, ?_, ?_, ?_, trivial⟩ <;> intro g u hd_ <;> obtain ⟨⟨p0, p2, p4⟩, ⟨d0, d1, d2, d3⟩, ⟨x0, x1, x2⟩, _⟩ := HF.out u.w u.h
    · refine ⟨rfl, relQ 7 rfl trivial ?_⟩
      simp [go_sem, evalBy, rhoT, relOf, rpCv]
    · refine ⟨rfl, relQ 8 rfl trivial ?_⟩
      simp [go_sem, evalBy, rhoT, relOf, rpCv, x2]
    · refine ⟨rfl, relQ 9 rfl trivial ?_⟩
      simp [go_sem, evalBy, rhoT, relOf, rpCv]
    · refine ⟨rfl, relQ 10 rfl trivial ?_⟩
      simp [go_sem, evalBy, rhoT, relOf, rpCv]
    · refine ⟨rfl, relQ 11 rfl trivial ?_⟩
      simp [go_sem, evalBy, rhoT, relOf, rpCv]
    · refine ⟨rfl, relQ 12 rfl trivial ?_⟩
      simp [go_sem, evalBy, rhoT, relOf, rpCv]
    · refine ⟨rfl, relQ 13 rfl trivial ?_⟩
      simp [go_sem, evalBy, rhoT, relOf, rpCv, p2]
    · refine ⟨rfl, relQ 14 rfl trivial ?_⟩
      simp [go_sem, evalBy, rhoT, relOf, rpCv]
    · refine ⟨rfl, relQ 15 rfl trivial ?_⟩
      simp [go_sem, evalBy, rhoT, relOf, rpCv, x1]
    · refine ⟨rfl, relQ 16 rfl trivial ?_⟩
      simp [go_sem, evalBy, rhoT, relOf, rpCv, ha0, hcw]
    · refine ⟨rfl, relQ 17 rfl trivial ?_⟩
      simp [go_sem, evalBy, rhoT, relOf, rpCv, d0]
    · refine ⟨rfl, relQ 18 rfl trivial ?_⟩
      simp [go_sem, evalBy, rhoT, relOf, rpCv]
    · refine ⟨rfl, relQ 19 rfl trivial ?_⟩
      simp [go_sem, evalBy, rhoT, relOf, rpCv, hwr3]
    · refine ⟨rfl, relQ 20 rfl trivial ?_⟩
      simp [go_sem, evalBy, rhoT, relOf, rpCv, hcr, hk2]
    · refine ⟨rfl, relQ 21 rfl trivial ?_⟩
      simp [go_sem, evalBy, rhoT, relOf, rpCv, d1]
    · refine ⟨rfl, relQ 22 rfl trivial ?_⟩
      simp [go_sem, evalBy, rhoT, relOf, rpCv]
    · refine ⟨rfl, relQ 23 rfl trivial ?_⟩
      simp [go_sem, evalBy, rhoT, relOf, rpCv]
    · refine ⟨rfl, relQ 24 rfl trivial ?_⟩
      simp [go_sem, evalBy, rhoT, relOf, rpCv]
    · refine ⟨rfl, relQ 25 rfl trivial ?_⟩
      simp [go_sem, evalBy, rhoT, relOf, rpCv]
    · refine ⟨rfl, relQ 26 rfl trivial ?_⟩
      simp [go_sem, evalBy, rhoT, relOf, rpCv, p0]
    · refine ⟨rfl, relQ 27 rfl trivial ?_⟩
      simp [go_sem, evalBy, rhoT, relOf, rpCv]
    · refine ⟨rfl, relQ 28 rfl trivial ?_⟩
      simp [go_sem, evalBy, rhoT, relOf, rpCv, hk0, hcl]
    · refine ⟨rfl, relQ 29 rfl trivial ?_⟩
      simp [go_sem, evalBy, rhoT, relOf, rpCv]
    · refine ⟨rfl, relQ 30 rfl trivial ?_⟩
      simp [go_sem, evalBy, rhoT, relOf, rpCv]
    · refine ⟨rfl, relQ 31 rfl trivial ?_⟩
      simp [go_sem, evalBy, rhoT, relOf, rpCv, d2]
    · refine ⟨rfl, relQ 32 rfl trivial ?_⟩
      simp [go_sem, evalBy, rhoT, relOf, rpCv, hwr]
    · refine ⟨rfl, relQ 33 rfl trivial ?_⟩
      simp [go_sem, evalBy, rhoT, relOf, rpCv, hwr2]
    · refine ⟨rfl, relQ 34 rfl trivial ?_⟩
      simp [go_sem, evalBy, rhoT, relOf, rpCv]
  · intro g u hf
    obtain ⟨_, _, ⟨x0, x1, x2⟩, zc, zr⟩ := HF.out u.w u.h
    have fc : u.w.frozen? ⟨w.heap.size, 2, none⟩ = false := by simp [World.frozen?, zc]
    simp only [QT]
    unfold Oper.wp
    simp [go_sem, putAll, Act.put, rhoT, relOf, rpCv, x2, fc]
    have z3' : (u.w.setCell ⟨w.heap.size, 2, none⟩ (.int .i64 (t + (wy + fx)))).heap[w.heap.size]? = some (.cells #[.int .i64 (s : Int), .int .i64 (a : Int), .int .i64 (t + (wy + fx))] 108 (0, 0)) := blk_set zc 2 (.int .i64 (t + (wy + fx)))
    have hb3 := (HB2.out.trans (u.h.mono HB2.out.size)).setCell (p := ⟨w.heap.size, 2, none⟩) (Nat.le_refl _) (.int .i64 (t + (wy + fx)))
    have hr3 : (u.w.setCell ⟨w.heap.size, 2, none⟩ (.int .i64 (t + (wy + fx)))).heap[w.heap.size + 1]? = some (.cells #[.int .i64 0, .int .i64 0, .int .i64 0] 108 (0, 0)) := (Below.heap_setCell _ _ _ _ (show w.heap.size + 1 ≠ w.heap.size by omega)).trans zr
    obtain ⟨w3, hw3⟩ : ∃ z, u.w.setCell ⟨w.heap.size, 2, none⟩ (.int .i64 (t + (wy + fx))) = z := ⟨_, rfl⟩
    rw [hw3] at z3' hb3 hr3 ⊢
    have p4 := ((bcell hb3).1 P 4 HPL.out.1).trans HPL.out.2.1
    have pd := ((bcell hb3).1 bd (od + k) HPL.out.2.2.1).trans HPL.out.2.2.2
    have HB3 := Lib.hid hb3; have Z3 := Lib.hid z3'; have ZR := Lib.hid hr3
    obtain ⟨x0, x1, x2⟩ := box3_cells z3'
    obtain ⟨T, hT⟩ : ∃ z, t + (wy + fx) = z := ⟨_, rfl⟩
    have HT := Lib.hid hT
    rw [hT] at x2 Z3 HAR hwr2 ⊢
    have hTi : 0 ≤ T ∧ T ≤ 216 := by omega
    clear z3' hb3 hr3 hw3 zc zr fc hf HF hT
    go_wp2_with fail
    go_quiet (fail)
    by_cases hlt : Y < T
    · go_wp2_with fail
      exact ⟨rfl, belN HB3.out _, .inl ⟨by rw [HT.out]; exact hlt, rfl⟩⟩
    · have HB4 := Lib.hid (belN HB3.out nq)
      have Z4 : Hid ((w3.drewN nq).heap[w.heap.size]? = some (.cells #[.int .i64 (s : Int), .int .i64 (a : Int), .int .i64 T] 108 (0, 0))) := Lib.hid Z3.out
      have ZR4 : Hid ((w3.drewN nq).heap[w.heap.size + 1]? = some (.cells #[.int .i64 0, .int .i64 0, .int .i64 0] 108 (0, 0))) := Lib.hid ZR.out
      obtain ⟨w4, hw4⟩ : ∃ z, w3.drewN nq = z := ⟨_, rfl⟩
      rw [hw4] at HB4 Z4 ZR4
      have HW4 := Lib.hid hw4
      clear x0 x1 x2 p4 pd hw4
      go_wp2_with fail
      rw [HW4.out]
      have hsh := pow_wrap k (by omega)
      have hst := HST.out
      apply tail_regionX
      case hs => exact (rfl : _ = [_, _, _, _, _, _] ++ [_])
      case hm => kernel_rfl
      case hT => kernel_rfl
      refine rel_any [2, 4, 6] [] (rqCv P w.heap.size (w.heap.size + 1) s k) noF (by kernel_rfl) (by kernel_rfl) (by kernel_rfl) (by kernel_rfl) (by kernel_rfl) ?_ (fun _ _ _ _ _ _ => trivial) ?_ ?_
      · intro t ht
        simp only [List.mem_cons, List.not_mem_nil, or_false] at ht
        rcases ht with rfl | rfl | rfl <;> rfl
      · refine allOps_array ?_
        refine ⟨?_, ?_, ?_, ?_, ?_, ?_, trivial⟩ <;> intro g u hd_ <;> obtain ⟨x0, x1, x2⟩ := box3_cells ((u.h.block _ (heapsz Z4.out)).trans Z4.out)
        · refine ⟨rfl, relQ 47 rfl trivial ?_⟩
          simp [go_sem, evalBy, rhoT, relOf, rqCv]
        · refine ⟨rfl, relQ 48 rfl trivial ?_⟩
          simp [go_sem, evalBy, rhoT, relOf, rqCv, x0]
        · refine ⟨rfl, relQ 49 rfl trivial ?_⟩
          simp [go_sem, evalBy, rhoT, relOf, rqCv]
        · refine ⟨rfl, relQ 50 rfl trivial ?_⟩
          simp [go_sem, evalBy, rhoT, relOf, rqCv, hsh]
        · refine ⟨rfl, relQ 51 rfl trivial ?_⟩
          simp [go_sem, evalBy, rhoT, relOf, rqCv, hst]
        · refine ⟨rfl, relQ 52 rfl trivial ?_⟩
          simp [go_sem, evalBy, rhoT, relOf, rqCv]
      · intro g u hf
        have zc := (u.h.block _ (heapsz Z4.out)).trans Z4.out
        have fc : u.w.frozen? ⟨w.heap.size, 0, none⟩ = false := by simp [World.frozen?, zc]
        obtain ⟨x0, x1, x2⟩ := box3_cells zc
        simp only [QT]
        unfold Oper.wp
        simp [go_sem, putAll, Act.put, rhoT, relOf, rqCv, x0, fc]
        have z5 : (u.w.setCell ⟨w.heap.size, 0, none⟩ (.int .i64 ((s - 2 ^ k : Nat) : Int))).heap[w.heap.size]? = some (.cells #[.int .i64 ((s - 2 ^ k : Nat) : Int), .int .i64 (a : Int), .int .i64 T] 108 (0, 0)) := blk_set zc 0 (.int .i64 ((s - 2 ^ k : Nat) : Int))
        have hb5 := (HB4.out.trans (u.h.mono HB4.out.size)).setCell (p := ⟨w.heap.size, 0, none⟩) (Nat.le_refl _) (.int .i64 ((s - 2 ^ k : Nat) : Int))
        have hr5 : (u.w.setCell ⟨w.heap.size, 0, none⟩ (.int .i64 ((s - 2 ^ k : Nat) : Int))).heap[w.heap.size + 1]? = some (.cells #[.int .i64 0, .int .i64 0, .int .i64 0] 108 (0, 0)) := (Below.heap_setCell _ _ _ _ (show w.heap.size + 1 ≠ w.heap.size by omega)).trans ((u.h.block _ (heapsz ZR4.out)).trans ZR4.out)
        obtain ⟨w5, hw5⟩ : ∃ z, u.w.setCell ⟨w.heap.size, 0, none⟩ (.int .i64 ((s - 2 ^ k : Nat) : Int)) = z := ⟨_, rfl⟩
        rw [hw5] at z5 hb5 hr5
        obtain ⟨S, hS⟩ : ∃ z, s - 2 ^ k = z := ⟨_, rfl⟩
        have HS := Lib.hid hS
        have z6 : (w5.setCell ⟨w.heap.size, 1, none⟩ (.int .i64 ((k : Int) + 1))).heap[w.heap.size]? = some (.cells #[.int .i64 (S : Int), .int .i64 ((k : Int) + 1), .int .i64 T] 108 (0, 0)) := by rw [← hS]; exact blk_set z5 1 (.int .i64 ((k : Int) + 1))
        have hb6 := hb5.setCell (p := ⟨w.heap.size, 1, none⟩) (Nat.le_refl _) (.int .i64 ((k : Int) + 1))
        have hr6 : (w5.setCell ⟨w.heap.size, 1, none⟩ (.int .i64 ((k : Int) + 1))).heap[w.heap.size + 1]? = some (.cells #[.int .i64 0, .int .i64 0, .int .i64 0] 108 (0, 0)) := (Below.heap_setCell _ _ _ _ (show w.heap.size + 1 ≠ w.heap.size by omega)).trans hr5
        have c5 := (box3_cells z5).2.1
        have f5 : w5.frozen? ⟨w.heap.size, 1, none⟩ = false := by simp [World.frozen?, z5]
        obtain ⟨w6, hw6⟩ : ∃ z, w5.setCell ⟨w.heap.size, 1, none⟩ (.int .i64 ((k : Int) + 1)) = z := ⟨_, rfl⟩
        rw [hw6] at z6 hb6 hr6
        obtain ⟨y0, y1, y2⟩ := box3_cells z6
        obtain ⟨q0, q1, q2⟩ := box3_cells hr6
        have hfr : ∀ j, w6.frozen? ⟨w.heap.size + 1, j, none⟩ = false := fun j => by simp [World.frozen?, hr6]
        have f0 := hfr 0; have f1 := hfr 1; have f2 := hfr 2
        have HB6 := Lib.hid hb6; have ZR6 := Lib.hid hr6
        have HC : Hid (((k : Int) + 1) = ((k + 1 : Nat) : Int)) := Lib.hid (by omega)
        have HW5 := Lib.hid hw5
        clear z5 hb5 hr5 z6 hb6 hr6 hfr zc fc hf hw5 x0 x1 x2
        rw [HW5.out]
        go_wp2_with fail
        have zF : (((w6.setCell ⟨w.heap.size + 1, 0, none⟩ (.int .i64 (S : Int))).setCell ⟨w.heap.size + 1, 1, none⟩ (.int .i64 ((k : Int) + 1))).setCell ⟨w.heap.size + 1, 2, none⟩ (.int .i64 T)).heap[w.heap.size + 1]? = some (.cells #[.int .i64 (S : Int), .int .i64 ((k : Int) + 1), .int .i64 T] 108 (0, 0)) := blk_set (blk_set (blk_set ZR6.out 0 _) 1 _) 2 _
        obtain ⟨e0, e1, e2⟩ := box3_cells zF
        have hbF := ((HB6.out.setCell (p := ⟨w.heap.size + 1, 0, none⟩) (Nat.le_succ _) (.int .i64 (S : Int))).setCell (p := ⟨w.heap.size + 1, 1, none⟩) (Nat.le_succ _) (.int .i64 ((k : Int) + 1))).setCell (p := ⟨w.heap.size + 1, 2, none⟩) (Nat.le_succ _) (.int .i64 T)
        exact bodyPost_ret (v := .agg #[.int .i64 (S : Int), .int .i64 ((k : Int) + 1), .int .i64 T]) (by simp [results, Try.results92, go_sem, e0, e1, e2]) rfl ⟨hbF, .inr ⟨by rw [HT.out]; omega, by rw [HT.out, HS.out]; rfl⟩⟩
end Go.Proofs.Yticmeeinjkoodaa

namespace Go.Proofs.Yticmeeinjkoodaa
open Go.RowKit Go.Shelf

theorem cell_lt {w : World} {b o : Nat} {v : Value} (h : w.cell? ⟨b, o, none⟩ = some v) : b < w.heap.size := by
  rcases Nat.lt_or_ge b w.heap.size with hb | hb
  · exact hb
  · simp [World.cell?, Array.getElem?_eq_none hb] at h
section
variable {w0 w A B : World} {P M m : Nat} {V : NV} {N : Nt} {bv dv : Value}
theorem Lw.rc (h : Lw w0 P M V N m bv dv w) (g : Gw N m M w A) {b o : Nat} {v : Value} (hc : w.cell? ⟨b, o, none⟩ = some v) : A.cell? ⟨b, o, none⟩ = some v := by
  obtain ⟨es, c, h1, _⟩ := h.map
  have hne : b ≠ M := fun e => by
    subst e
    simp [World.cell?, h1] at hc
  exact (World.cell?_of_block (g.gr.block b (cell_lt hc) (fun e => hne (by injection e)))).trans hc
end
/-- Operations that read, and stores that leave what they find, and calls: the worlds of one kind T. -/
theorem sameQ {T : World → Prop} {ops : Array Oper} {cv : Tmp → Value} {o : Oper} {u : World} (hT : T u) (d : Tmp) (hd : o.dst = some d) (hg : Region.wanted o (yieldedBy ops cv) = true) (he : (execOp (evalBy cv) o).run Try.prog u = .ok (.value (cv d)) u) :
    Region.wanted o (yieldedBy ops cv) = true ∧ Yield Try.prog (fun v w' => ∃ _ : Unit, T w' ∧ (∀ d, o.dst = some d → cv d = v) ∧ ∀ t, o.dst ≠ some t → cv t = cv t) ((execOp (evalBy cv) o).run Try.prog u) := by
  refine ⟨hg, ?_⟩
  rw [he]
  exact ⟨(), hT, fun e hE => by rw [hd] at hE; injection hE with hE; subst hE; rfl, fun _ _ => rfl⟩
theorem sameS {T : World → Prop} {ops : Array Oper} {cv : Tmp → Value} {o : Oper} {u u' : World} (hT : T u') (hd : o.dst = none) (hg : Region.wanted o (yieldedBy ops cv) = true) (he : (execOp (evalBy cv) o).run Try.prog u = .ok .skip u') :
    Region.wanted o (yieldedBy ops cv) = true ∧ Yield Try.prog (fun v w' => ∃ _ : Unit, T w' ∧ (∀ d, o.dst = some d → cv d = v) ∧ ∀ t, o.dst ≠ some t → cv t = cv t) ((execOp (evalBy cv) o).run Try.prog u) := by
  refine ⟨hg, ?_⟩
  rw [he]
  exact ⟨(), hT, fun e hE => by rw [hd] at hE; exact absurd hE (by simp), fun _ _ => rfl⟩
theorem sameC {T : World → Prop} {ops : Array Oper} {cv : Tmp → Value} {o : Oper} {u : World} (d : Tmp) (hd : o.dst = some d) (hg : Region.wanted o (yieldedBy ops cv) = true) (f : FuncId) (args : Array Value) (he : (execOp (evalBy cv) o).run Try.prog u = .ok (.enter f args) u)
    (hc : Calls Try.prog f args u fun e w' => e = .returned (cv d) ∧ T w') :
    Region.wanted o (yieldedBy ops cv) = true ∧ Yield Try.prog (fun v w' => ∃ _ : Unit, T w' ∧ (∀ d, o.dst = some d → cv d = v) ∧ ∀ t, o.dst ≠ some t → cv t = cv t) ((execOp (evalBy cv) o).run Try.prog u) := by
  refine ⟨hg, ?_⟩
  rw [he]
  show Calls Try.prog f args u _
  refine hc.mono ?_
  rintro e w' ⟨rfl, hT⟩
  exact ⟨_, rfl, (), hT, fun e hE => by rw [hd] at hE; injection hE with hE; subst hE; rfl, fun _ _ => rfl⟩
/-! ### The catch -/
set_option maxRecDepth 100000 in
theorem hT145 (W : World) : Sem.run Try.prog (Instr.typeAssert (Value.iface 145 (Value.agg #[])) 20 145 true) W = .ok (.tuple #[.agg #[], .bool true]) W := by
  rfl
set_option maxRecDepth 100000 in
theorem hTnil (W : World) : Sem.run Try.prog (Instr.typeAssert Value.nilIface 20 145 true) W = .ok (.tuple #[.agg #[], .bool false]) W := by
  rfl
set_option maxRecDepth 100000 in
theorem catch_panicking (w : World) (x : Int) (R : Nat) (h0 : w.heap[R]? = some (.cells #[.int .i64 x] 3 (0, 0))) :
    CallsD Try.prog 99 #[.pointer (some ⟨R, 0, none⟩)] (.panicking [lateP]) w fun e u' w' =>
      e = .returned (.tuple #[]) ∧ u' = .panicking [{ lateP with recovered := true }] ∧ w'.heap[R]? = some (.cells #[.int .i64 (-1)] 3 (0, 0)) ∧ Below R w w' := by
  have l0 := heapsz h0
  have hbz := (Below.refl w.heap.size w).alloc (Nat.le_refl _) (.cells #[] 145)
  have g0 := (hbz.block _ l0).trans h0
  have c0 := cell_of_row _ R 0 _ 3 (0, 0) g0
  simp only [List.getElem?_toArray, List.getElem?_cons_zero] at c0
  have f0 : ∀ a, (w.alloc (.cells #[] 145)).frozen? ⟨R, a, none⟩ = false := fun a => by simp [World.frozen?, g0]
  refine callsD_of_wpS Try.func99 rfl fun c₀ cs hu => ?_
  apply wpS_seq
  apply wpS_region
  simp [wpOpsS, go_sem, recoverD, hu, Try.ntmps99, Exit.thenS, lateP, hT145]
  obtain ⟨wz, hwz⟩ : ∃ z, w.alloc (.cells #[] 145) = z := ⟨_, rfl⟩
  rw [hwz] at hbz g0 c0 f0 ⊢
  apply wpS_seq
  apply wpS_region
  simp [wpOpsS, go_sem, Exit.thenS]
  refine wpS_cond (t := true) (by simp [Act.eval, Array.replicate]) ?_
  simp only [if_true]
  apply wpS_region
  simp [wpOpsS, go_sem, c0, f0, bodyPostS, results, Try.results99]
  refine ⟨?_, ?_⟩
  · exact blk_set (cs := #[.int .i64 x]) g0 0 _
  · exact (hbz.mono (Nat.le_of_lt l0)).setCell (p := ⟨R, 0, none⟩) (Nat.le_refl _) _
set_option maxRecDepth 100000 in
theorem catch_idle (p : Addr) (w : World) :
    CallsD Try.prog 99 #[.pointer (some p)] .returning w fun e u' w' => e = .returned (.tuple #[]) ∧ u' = .returning ∧ Below w.heap.size w w' := by
  have hbz := (Below.refl w.heap.size w).alloc (Nat.le_refl _) (.cells #[] 145)
  refine callsD_of_wpS Try.func99 rfl fun c₀ cs hu => ?_
  apply wpS_seq
  apply wpS_region
  simp [wpOpsS, go_sem, recoverD, hu, Try.ntmps99, Exit.thenS, hTnil]
  obtain ⟨wz, hwz⟩ : ∃ z, w.alloc (.cells #[] 145) = z := ⟨_, rfl⟩
  rw [hwz] at hbz ⊢
  apply wpS_seq
  apply wpS_region
  simp [wpOpsS, go_sem, Exit.thenS]
  refine wpS_cond (t := false) (by simp [Act.eval, Array.replicate]) ?_
  simp only [Bool.false_eq_true, if_false]
  refine wpS_of_wp (wp_skip ?_)
  cases c₀
  simp_all [bodyPostS, results, Try.results99]
/-! ### The slack with a first loop -/
def sbCv (P C R Q k : Nat) (kv : Value) (bd od nl cd : Nat) (Y A S B : Int) : Tmp → Value
  | 0 => .pointer (some ⟨P, 0, none⟩)
  | 2 => .int .i64 k
  | 4 => .pointer (some ⟨C, 0, none⟩)
  | 6 => .pointer (some ⟨R, 0, none⟩)
  | 7 => .pointer (some ⟨Q, 0, none⟩)
  | 13 => .pointer (some ⟨P, 0, none⟩)
  | 14 => .pointer (some ⟨P, 0, none⟩)
  | 15 => .pointer (some ⟨P, 4, none⟩)
  | 16 => .slice (some ⟨bd, od, none⟩) nl cd
  | 17 => .int .i64 k
  | 18 => .pointer (some ⟨bd, od + k, none⟩)
  | 19 => .int .i64 Y
  | 20 => .pointer (some ⟨Q, 2, none⟩)
  | 21 => .int .i64 A
  | 22 => .int .i64 (Y - A)
  | 23 => .pointer (some ⟨P, 0, none⟩)
  | 24 => kv
  | 25 => .int .i64 S
  | 26 => .int .i64 B
  | _ => undef
attribute [local irreducible] QT
attribute [local go_sem] Oper.semAt_some
set_option maxRecDepth 100000 in
set_option maxHeartbeats 4000000 in
theorem slackBy_any {w0 w : World} {P M m : Nat} {V : NV} {N : Nt} {bv dv : Value} (h : Lw w0 P M V N m bv dv w) {s a k : Nat} {t : Int} (hs : s < 32) (hb : s.testBit k = true) (hk : k < N.lo.length) (ha : a ≤ N.lo.length) (ht : 0 ≤ t ∧ t ≤ 72)
    (hS : ∀ W a' t', Lw w0 P M V N m bv dv W → a' ≤ N.lo.length → 0 ≤ t' ∧ t' ≤ 72 → Calls Try.prog 71 #[.pointer (some ⟨P, 0, none⟩), keyV (s - 2 ^ k) a' t'] W fun e w' => e = .returned (.int .i64 (slk N m (s - 2 ^ k) a' t')) ∧ Gw N m M W w') :
    Calls Try.prog 90 #[.pointer (some ⟨P, 0, none⟩), keyV s a t, .int .i64 k] w fun e w' => e = .returned (.int .i64 (byI N m (slk N m) s a t k)) ∧ Gw N m M w w' := by
  have hmf : ∀ (fn : Fn) (first cap : Array Value) (w : World), (Instr.makeFunc fn first cap).run Try.prog w = .ok (.func fn first cap) w := fun _ _ _ _ => rfl
  obtain ⟨z0, z1, hbn⟩ := two_new w (.cells #[.int .i64 (s : Int), .int .i64 (a : Int), .int .i64 t] 108) (.cells #[.int .i64 0] 3)
  obtain ⟨w2, hw2⟩ : ∃ z, (w.alloc (.cells #[.int .i64 (s : Int), .int .i64 (a : Int), .int .i64 t] 108)).alloc (.cells #[.int .i64 0] 3) = z := ⟨_, rfl⟩
  rw [hw2] at z0 z1 hbn
  have HW2 := Lib.hid hw2; have HB2 := Lib.hid hbn; have Z1 := Lib.hid z1
  have HLW := Lib.hid h
  have HRP := Lib.hid (repair_any (h.up hbn) hs hb hk ha ht)
  obtain ⟨x0, x1, x2⟩ := box3_cells z0
  have HK := Lib.hid (And.intro hk (And.intro ha ht))
  have HSL := Lib.hid hS
  have HBY : Hid (byI N m (slk N m) s a t k = if N.due m k < N.arr a t k then -1 else min (N.due m k - N.arr a t k) (slk N m (s - 2 ^ k) (k + 1) (N.arr a t k))) := Lib.hid rfl
  have hap := (arr_in (wayOk h.ok) (a := a) ht.1 k).1
  have hdi := due_N N m k
  have h72 := h.ok.h72
  have hsl := slk_ge N m (s - 2 ^ k) (k + 1) (N.arr a t k)
  have hsl2 := slk_le (wayOk h.ok) m (s - 2 ^ k) (k + 1) (t := N.arr a t k) (by omega)
  obtain ⟨Y, hY⟩ : ∃ z, N.due m k = z := ⟨_, rfl⟩
  obtain ⟨A, hA⟩ : ∃ z, N.arr a t k = z := ⟨_, rfl⟩
  obtain ⟨q, hq⟩ : ∃ z, s - 2 ^ k = z := ⟨_, rfl⟩
  rw [hY, hA, hq] at HRP HBY
  rw [hA, hq] at hsl hsl2
  rw [hA] at hap
  rw [hY] at hdi
  rw [hq] at HSL
  have HYY := Lib.hid hY
  have HQ := Lib.hid hq
  clear z0 z1 hbn hw2 h hS hk ha hb hs hA hY hq
  go_enter_defers Try.func90, Try.ntmps90
  go_wp2_with fail
  rw [HW2.out]
  go_wp2_with fail
  refine HRP.out.mono ?_
  rintro e w3 ⟨hb3, hh⟩
  have zr3 := (hb3.block _ (heapsz Z1.out)).trans Z1.out
  have HB3 := Lib.hid (HB2.out.trans (hb3.mono HB2.out.size))
  rcases hh with ⟨hlt, rfl⟩ | ⟨hle, rfl⟩
  · refine leaves_cons (f := 99) (args := #[.pointer (some ⟨w.heap.size + 1, 0, none⟩)]) (by simp) (by simp [go_sem]) ?_
    refine (catch_panicking w3 0 (w.heap.size + 1) zr3).mono ?_
    rintro e u' w6 ⟨rfl, rfl, hP6, hb6⟩
    have c0 := cell_of_row w6 (w.heap.size + 1) 0 _ 3 (0, 0) hP6
    simp only [List.getElem?_toArray, List.getElem?_cons_zero] at c0
    simp [Leaves, settle, results, Try.results90, go_sem, c0]
    exact ⟨by rw [HBY.out, if_pos hlt], HLW.out.gw0.up (HB3.out.trans (hb6.mono (by omega)))⟩
  · have HLE := Lib.hid hle
    have zq := heap_alloc_new w3 (.cells #[.int .i64 (q : Int), .int .i64 ((k : Int) + 1), .int .i64 A] 108)
    have hbq := (Below.refl w3.heap.size w3).alloc (Nat.le_refl _) (.cells #[.int .i64 (q : Int), .int .i64 ((k : Int) + 1), .int .i64 A] 108)
    have hL4 := HLW.out.up (HB3.out.trans (hbq.mono HB3.out.size))
    have zr4 := (hbq.block _ (heapsz zr3)).trans zr3
    have HB4 := Lib.hid (HB3.out.trans (hbq.mono HB3.out.size))
    obtain ⟨w4, hw4⟩ : ∃ z, w3.alloc (.cells #[.int .i64 (q : Int), .int .i64 ((k : Int) + 1), .int .i64 A] 108) = z := ⟨_, rfl⟩
    rw [hw4] at zq hbq hL4 zr4 HB4
    have HW4 := Lib.hid hw4; have HL4 := Lib.hid hL4; have ZR4 := Lib.hid zr4
    obtain ⟨AB, AD, cb, cd, _, r⟩ := hL4.rd
    have hnl := r.net.nl; have hn5 := hL4.ok.n5
    obtain ⟨bd, od, hAD, hbd, cdu⟩ := ints_el r.du (due_at (N := N) (m := m) (k := k) (n := V.nl) (by have := HK.out; omega))
    rw [HYY.out] at cdu
    have r4 := r.c4
    rw [hAD] at r4
    have hneR : w.heap.size + 1 ≠ M := hL4.ne zr4
    have HF : Hid (∀ u : World, Gw N m M w4 u → u.cell? ⟨P, 4, none⟩ = some (.slice (some ⟨bd, od, none⟩) V.nl cd) ∧ u.cell? ⟨bd, od + k, none⟩ = some (.int .i64 Y) ∧ u.cell? ⟨w3.heap.size, 0, none⟩ = some (.int .i64 (q : Int)) ∧ u.cell? ⟨w3.heap.size, 1, none⟩ = some (.int .i64 ((k : Int) + 1)) ∧ u.cell? ⟨w3.heap.size, 2, none⟩ = some (.int .i64 A) ∧ u.heap[w.heap.size + 1]? = some (.cells #[.int .i64 0] 3 (0, 0))) := Lib.hid fun u hu => by
      obtain ⟨y0, y1, y2⟩ := box3_cells zq
      exact ⟨HL4.out.rc hu r4, HL4.out.rc hu cdu, HL4.out.rc hu y0, HL4.out.rc hu y1, HL4.out.rc hu y2, hu.cell zr4 hneR⟩
    have HBE : Hid (byI N m (slk N m) s a t k = min (Y - A) (slk N m q (k + 1) A)) := Lib.hid (by rw [HBY.out, if_neg (by omega)])
    have hk0 : (0 : Int) ≤ (k : Int) := by omega
    have hk1 : (k : Int) < (V.nl : Int) := by have := HK.out; omega
    have hnl5 : V.nl ≤ 5 := by omega
    obtain ⟨S, hS⟩ : ∃ z, slk N m q (k + 1) A = z := ⟨_, rfl⟩
    have HSS := Lib.hid hS
    rw [hS] at hsl hsl2 HBE
    obtain ⟨B, hB⟩ : ∃ z, min (Y - A) S = z := ⟨_, rfl⟩
    have HBB := Lib.hid hB
    rw [hB] at HBE
    have hwr : IntKind.i64.wrap (Y - A) = Y - A := IntWalk.i64_in _ (by omega)
    have HCL : Hid (∀ u, Gw N m M w4 u → Calls Try.prog 71 #[.pointer (some ⟨P, 0, none⟩), .agg #[.int .i64 (q : Int), .int .i64 ((k : Int) + 1), .int .i64 A]] u fun e w' => e = .returned (.int .i64 S) ∧ Gw N m M w4 w') := Lib.hid fun u hu => by
      refine (HSL.out u (k + 1) A (HL4.out.go hu) (by have := HK.out; omega) (by omega)).mono ?_
      rintro e w' ⟨rfl, hg⟩
      exact ⟨by rw [HSS.out], hu.trans hg⟩
    have HG0 := Lib.hid HL4.out.gw0
    clear hle hb3 zr3 zq hbq hL4 zr4 hw4 r hAD hbd cdu r4 hneR hS hB x0 x1 x2 hmf hn5 hnl
    go_wp2_with fail
    rw [HW4.out]
    apply tail_regionX
    case hs => exact (rfl : _ = [_, _, _, _, _, _, _, _, _, _, _, _, _, _] ++ [_])
    case hm => kernel_rfl
    case hT => kernel_rfl
    refine plan_guarded_any (γ := Unit) [0, 2, 6, 7] (fun _ => sbCv P w.heap.size (w.heap.size + 1) w3.heap.size k (.agg #[.int .i64 (q : Int), .int .i64 ((k : Int) + 1), .int .i64 A]) bd od V.nl cd Y A S B) (fun _ _ u => Gw N m M w4 u) () (by kernel_rfl) (by kernel_rfl) (by kernel_rfl) (by kernel_rfl) ?_ ?_ ?_ ?_
    · intro t ht
      simp only [List.mem_cons, List.not_mem_nil, or_false] at ht
      rcases ht with rfl | rfl | rfl | rfl <;> rfl
    · exact HG0.out.up ((Below.refl w4.heap.size w4).drew)
    · refine allOps_array ?_
      refine ⟨?_, ?_, ?_, ?_, ?_, ?_, ?_, ?_, ?_, ?_, ?_, ?_, ?_, ?_, trivial⟩ <;> intro done g u hS hu hdep _ <;> obtain ⟨p4, d0, y0, y1, y2, _⟩ := HF.out u hS
      · exact sameQ (T := fun u => Gw N m M w4 u) hS 13 rfl rfl (by simp [go_sem, evalBy, sbCv])
      · exact sameQ (T := fun u => Gw N m M w4 u) hS 14 rfl rfl (by simp [go_sem, evalBy, sbCv])
      · exact sameQ (T := fun u => Gw N m M w4 u) hS 15 rfl rfl (by simp [go_sem, evalBy, sbCv])
      · exact sameQ (T := fun u => Gw N m M w4 u) hS 16 rfl rfl (by simp [go_sem, evalBy, sbCv, p4])
      · exact sameQ (T := fun u => Gw N m M w4 u) hS 17 rfl rfl (by simp [go_sem, evalBy, sbCv])
      · exact sameQ (T := fun u => Gw N m M w4 u) hS 18 rfl rfl (by simp [go_sem, evalBy, sbCv, hk0, hk1])
      · exact sameQ (T := fun u => Gw N m M w4 u) hS 19 rfl rfl (by simp [go_sem, evalBy, sbCv, d0])
      · exact sameQ (T := fun u => Gw N m M w4 u) hS 20 rfl rfl (by simp [go_sem, evalBy, sbCv])
      · exact sameQ (T := fun u => Gw N m M w4 u) hS 21 rfl rfl (by simp [go_sem, evalBy, sbCv, y2])
      · exact sameQ (T := fun u => Gw N m M w4 u) hS 22 rfl rfl (by simp [go_sem, evalBy, sbCv, hwr])
      · exact sameQ (T := fun u => Gw N m M w4 u) hS 23 rfl rfl (by simp [go_sem, evalBy, sbCv])
      · exact sameQ (T := fun u => Gw N m M w4 u) hS 24 rfl rfl (by simp [go_sem, evalBy, sbCv, y0, y1, y2])
      · exact sameC (T := fun u => Gw N m M w4 u) 25 rfl rfl 71 #[.pointer (some ⟨P, 0, none⟩), .agg #[.int .i64 (q : Int), .int .i64 ((k : Int) + 1), .int .i64 A]] (by simp [go_sem, evalBy, sbCv]) (HCL.out u hS)
      · exact sameQ (T := fun u => Gw N m M w4 u) hS 26 rfl rfl (by simp [go_sem, evalBy, sbCv]; have := HBB.out; split <;> omega)
    · intro g u hS
      obtain ⟨_, _, _, _, _, zr⟩ := HF.out u hS
      have fr : u.frozen? ⟨w.heap.size + 1, 0, none⟩ = false := by simp [World.frozen?, zr]
      have c0 := cell_of_row u (w.heap.size + 1) 0 _ 3 (0, 0) zr
      simp at c0
      simp only [QT]
      unfold Oper.wp
      simp [go_sem, putAll, Act.put, sbCv, c0, fr]
      have zF : (u.setCell ⟨w.heap.size + 1, 0, none⟩ (.int .i64 B)).heap[w.heap.size + 1]? = some (.cells #[.int .i64 B] 3 (0, 0)) := blk_set zr 0 _
      have hgF : Gw N m M w (u.setCell ⟨w.heap.size + 1, 0, none⟩ (.int .i64 B)) := ((HLW.out.gw0.up HB4.out).trans hS).put _ (Nat.le_succ _)
      obtain ⟨wF, hwF⟩ : ∃ z, u.setCell ⟨w.heap.size + 1, 0, none⟩ (.int .i64 B) = z := ⟨_, rfl⟩
      rw [hwF] at zF hgF
      have ZF := Lib.hid zF; have HGF := Lib.hid hgF
      clear zr fr c0 hS zF hgF
      try rw [hwF]
      clear hwF
      go_wp2_with fail
      refine leaves_cons (f := 99) (args := #[.pointer (some ⟨w.heap.size + 1, 0, none⟩)]) (by simp) (by simp [go_sem]) ?_
      refine (catch_idle _ _).mono ?_
      rintro e u' w8 ⟨rfl, rfl, hb8⟩
      have c0 := cell_of_row w8 (w.heap.size + 1) 0 _ 3 (0, 0) ((hb8.block _ (heapsz ZF.out)).trans ZF.out)
      simp only [List.getElem?_toArray, List.getElem?_cons_zero] at c0
      simp [Leaves, settle, results, Try.results90, go_sem, c0]
      exact ⟨HBE.out.symm, HGF.out.up hb8⟩
end Go.Proofs.Yticmeeinjkoodaa
