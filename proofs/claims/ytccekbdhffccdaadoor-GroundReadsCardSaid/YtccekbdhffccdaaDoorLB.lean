/- Logs as texts: which texts are logs, and of which place; a log in which one character was changed is none. Lists alone. -/
import Derived.Test.YtccekbdhffccdaaDoorFF
import Derived.Test.YtccekbdhffccdaaDoorLA
namespace Go.Proofs.YtccekbdhffccdaaDoor
open Go.Lib

/-! ### A line of a word and three numbers -/

def wl (word : List UInt8) (a b c : Int) : List UInt8 := word ++ 32 :: (itoa a ++ 32 :: (itoa b ++ 32 :: itoa c))
theorem lineT3 (word : List UInt8) (a b c : Int) (r : List UInt8) : lineT word [a, b, c] ++ r = wl word a b c ++ 10 :: r := by
  simp [lineT, numT, wl]
def Line3 (word l : List UInt8) (a b c : Int) (r : List UInt8) : Prop := OkN a ∧ OkN b ∧ OkN c ∧ l = lineT word [a, b, c] ++ r
def NoLine (word l : List UInt8) : Prop := ∀ a b c r, ¬ Line3 word l a b c r
def WordL (word : List UInt8) : Prop := 10 ∉ word ∧ 32 ∉ word
theorem wl_no {word : List UInt8} (hw : WordL word) {a b c : Int} (ha : OkN a) (hb : OkN b) (hc : OkN c) : (10 : UInt8) ∉ wl word a b c := by
  have h1 := itoa_no ha.1 (c := 10) (by decide)
  have h2 := itoa_no hb.1 (c := 10) (by decide)
  have h3 := itoa_no hc.1 (c := 10) (by decide)
  unfold wl
  simp [h1, h2, h3, hw.1]
theorem wl_pieces {word : List UInt8} (hw : WordL word) {a b c : Int} (ha : OkN a) (hb : OkN b) (hc : OkN c) : pieces 32 (wl word a b c) = [word, itoa a, itoa b, itoa c] := by
  unfold wl
  rw [pieces_cut _ hw.2, pieces_cut _ (itoa_no ha.1 (by decide)), pieces_cut _ (itoa_no hb.1 (by decide)), pieces_none (itoa_no hc.1 (by decide))]
theorem wl_of_pieces {f word : List UInt8} {a b c : Int} (h : pieces 32 f = [word, itoa a, itoa b, itoa c]) : f = wl word a b c := by
  obtain ⟨r1, rfl, _, h1⟩ := pieces_two h
  obtain ⟨r2, rfl, _, h2⟩ := pieces_two h1
  obtain ⟨r3, rfl, _, h3⟩ := pieces_two h2
  obtain ⟨rfl, _⟩ := pieces_one h3
  rfl
theorem line3_iff {word f r : List UInt8} (hw : WordL word) (hf : (10 : UInt8) ∉ f) {a b c : Int} {r' : List UInt8} :
    Line3 word (f ++ 10 :: r) a b c r' ↔ r' = r ∧ OkN a ∧ OkN b ∧ OkN c ∧ pieces 32 f = [word, itoa a, itoa b, itoa c] := by
  constructor
  · rintro ⟨ha, hb, hc, h⟩
    rw [lineT3] at h
    obtain ⟨rfl, rfl⟩ := cut_uniq h hf (wl_no hw ha hb hc)
    exact ⟨rfl, ha, hb, hc, wl_pieces hw ha hb hc⟩
  · rintro ⟨rfl, ha, hb, hc, h⟩
    exact ⟨ha, hb, hc, by rw [lineT3, wl_of_pieces h]⟩
theorem noLine_cut {word l : List UInt8} (h : (10 : UInt8) ∉ l) : NoLine word l := by
  rintro a b c r ⟨_, _, _, rfl⟩
  rw [lineT3] at h
  exact h (by simp)
theorem Line3.uniq {word l : List UInt8} (hw : WordL word) {a b c a' b' c' : Int} {r r' : List UInt8} (h : Line3 word l a b c r) (h' : Line3 word l a' b' c' r') : a = a' ∧ b = b' ∧ c = c' ∧ r = r' := by
  obtain ⟨ha, hb, hc, rfl⟩ := h
  rw [lineT3] at h'
  obtain ⟨rfl, ha', hb', hc', h⟩ := (line3_iff hw (wl_no hw ha hb hc)).1 h'
  rw [wl_pieces hw ha hb hc] at h
  simp only [List.cons.injEq, and_true] at h
  exact ⟨itoa_inj ha.1 ha'.1 h.2.1, itoa_inj hb.1 hb'.1 h.2.2.1, itoa_inj hc.1 hc'.1 h.2.2.2, rfl⟩

/-! ### Logs -/

def OkLay (l : Lay) : Prop := OkN l.t ∧ OkN l.lo ∧ OkN l.hi
def OkDoc (ls : List Lay) (lo hi : Int) : Prop := OkN (ls.length : Int) ∧ OkN lo ∧ OkN hi ∧ ∀ l ∈ ls, OkLay l
def NoLog (text : List UInt8) : Prop := ∀ ls lo hi, OkDoc ls lo hi → text ≠ printT ls lo hi
def wHole : List UInt8 := [104, 111, 108, 101]
def wLayer : List UInt8 := [108, 97, 121, 101, 114]
theorem word_hole : WordL wHole := by unfold WordL wHole; decide
theorem word_layer : WordL wLayer := by unfold WordL wLayer; decide
def laysT (ls : List Lay) : List UInt8 := (ls.map layT).flatten
theorem printT_line {ls : List Lay} {lo hi : Int} (h : OkDoc ls lo hi) : Line3 wHole (printT ls lo hi) ls.length lo hi (laysT ls ++ endT (bodyT ls lo hi)) :=
  ⟨h.1, h.2.1, h.2.2.1, by simp [printT, bodyT, holeT, laysT, wHole]⟩
theorem layer_line {l : Lay} (h : OkLay l) (r : List UInt8) : Line3 wLayer (layT l ++ r) l.t l.lo l.hi r := ⟨h.1, h.2.1, h.2.2, rfl⟩
theorem laysT_cons (l : Lay) (ls : List Lay) : laysT (l :: ls) = layT l ++ laysT ls := by simp [laysT]
theorem laysT_snoc (l : Lay) (ls : List Lay) : laysT (ls ++ [l]) = laysT ls ++ layT l := by simp [laysT]
theorem lays_uniq : ∀ {ls ls' : List Lay} {r r' : List UInt8}, laysT ls ++ r = laysT ls' ++ r' → ls.length ≤ ls'.length → (∀ l ∈ ls, OkLay l) → (∀ l ∈ ls', OkLay l) →
    ls = ls'.take ls.length ∧ r = laysT (ls'.drop ls.length) ++ r'
  | [], ls', r, r', h, _, _, _ => ⟨by simp, by simpa [laysT] using h⟩
  | l :: ls, [], r, r', _, hl, _, _ => by simp at hl
  | l :: ls, l' :: ls', r, r', h, hl, h1, h2 => by
    rw [laysT_cons, laysT_cons, List.append_assoc, List.append_assoc] at h
    have p1 := layer_line (h1 l (by simp)) (laysT ls ++ r)
    have p2 := layer_line (h2 l' (by simp)) (laysT ls' ++ r')
    rw [← h] at p2
    obtain ⟨e1, e2, e3, e4⟩ := p1.uniq word_layer p2
    obtain ⟨e5, e6⟩ := lays_uniq e4 (by simpa using hl) (fun x hx => h1 x (by simp [hx])) (fun x hx => h2 x (by simp [hx]))
    refine ⟨?_, by simpa using e6⟩
    simp only [List.length_cons, List.take_succ_cons]
    rw [← e5]
    obtain ⟨t, a, b⟩ := l
    obtain ⟨t', a', b'⟩ := l'
    simp only at e1 e2 e3
    subst e1 e2 e3
    rfl
theorem noLog_hole {text : List UInt8} (h : NoLine wHole text) : NoLog text := by
  rintro ls lo hi hd rfl
  exact h _ _ _ _ (printT_line hd)
section
variable {text rest : List UInt8} {cnt lo hi : Int} {ls : List Lay}
/-- What is known when the reader has read the first line and some layers. -/
def ReadAt (text : List UInt8) (cnt lo hi : Int) (ls : List Lay) (rest : List UInt8) : Prop := Line3 wHole text cnt lo hi (laysT ls ++ rest) ∧ (∀ l ∈ ls, OkLay l)
theorem ReadAt.log (h : ReadAt text cnt lo hi ls rest) (hk : (ls.length : Int) ≤ cnt) {ls' : List Lay} {lo' hi' : Int} (hd : OkDoc ls' lo' hi') (e : text = printT ls' lo' hi') :
    cnt = ls'.length ∧ lo = lo' ∧ hi = hi' ∧ ls = ls'.take ls.length ∧ rest = laysT (ls'.drop ls.length) ++ endT (bodyT ls' lo' hi') := by
  subst e
  obtain ⟨e1, e2, e3, e4⟩ := h.1.uniq word_hole (printT_line hd)
  obtain ⟨e5, e6⟩ := lays_uniq e4 (by omega) h.2 hd.2.2.2
  exact ⟨e1, e2, e3, e5, e6⟩
theorem ReadAt.noLayer (h : ReadAt text cnt lo hi ls rest) (hk : (ls.length : Int) < cnt) (hn : NoLine wLayer rest) : NoLog text := fun ls' lo' hi' hd e => by
  obtain ⟨e1, e2, e3, e4, e5⟩ := h.log (by omega) hd e
  have hl : ls.length < ls'.length := by omega
  rw [List.drop_eq_getElem_cons hl, laysT_cons, List.append_assoc] at e5
  rw [e5] at hn
  exact hn _ _ _ _ (layer_line (hd.2.2.2 _ (List.getElem_mem hl)) _)
theorem ReadAt.next (h : ReadAt text cnt lo hi ls rest) {t a b : Int} {r : List UInt8} (hl : Line3 wLayer rest t a b r) : ReadAt text cnt lo hi (ls ++ [⟨t, a, b⟩]) r := by
  refine ⟨?_, fun l hm => ?_⟩
  · have := h.1
    rw [laysT_snoc, List.append_assoc]
    rw [hl.2.2.2] at this
    exact this
  · rcases List.mem_append.1 hm with hm | hm
    · exact h.2 l hm
    · simp only [List.mem_singleton] at hm
      subst hm
      exact ⟨hl.1, hl.2.1, hl.2.2.1⟩
theorem ReadAt.body (h : ReadAt text cnt lo hi ls rest) (hk : (ls.length : Int) = cnt) : text = bodyT ls lo hi ++ rest := by
  have := h.1.2.2.2
  rw [this, ← hk, bodyT, holeT, List.append_assoc]
  rfl
theorem ReadAt.before (h : ReadAt text cnt lo hi ls rest) (hk : (ls.length : Int) = cnt) : text.take (text.length - rest.length) = bodyT ls lo hi := by
  rw [h.body hk]
  simp
theorem ReadAt.doc (h : ReadAt text cnt lo hi ls rest) (hk : (ls.length : Int) = cnt) : OkDoc ls lo hi := ⟨hk ▸ h.1.1, h.1.2.1, h.1.2.2.1, h.2⟩
theorem ReadAt.noEnd (h : ReadAt text cnt lo hi ls rest) (hk : (ls.length : Int) = cnt) (hr : rest ≠ endT (bodyT ls lo hi)) : NoLog text := fun ls' lo' hi' hd e => by
  obtain ⟨e1, e2, e3, e4, e5⟩ := h.log (by omega) hd e
  have hl : ls.length = ls'.length := by omega
  rw [List.take_of_length_le (by omega)] at e4
  subst e4 e2 e3
  rw [List.drop_of_length_le (by omega)] at e5
  exact hr (by simpa [laysT] using e5)
theorem ReadAt.yes (h : ReadAt text cnt lo hi ls rest) (hk : (ls.length : Int) = cnt) (hr : rest = endT (bodyT ls lo hi)) : text = printT ls lo hi := by
  rw [h.body hk, hr, printT]
end
theorem printT_inj {ls ls' : List Lay} {lo hi lo' hi' : Int} (h : OkDoc ls lo hi) (h' : OkDoc ls' lo' hi') (e : printT ls lo hi = printT ls' lo' hi') : ls = ls' ∧ lo = lo' ∧ hi = hi' := by
  have hr : ReadAt (printT ls lo hi) ls.length lo hi ls (endT (bodyT ls lo hi)) := ⟨printT_line h, h.2.2.2⟩
  obtain ⟨e1, e2, e3, e4, _⟩ := hr.log (by omega) h' e
  exact ⟨by rw [e4]; exact List.take_of_length_le (by omega), e2, e3⟩

/-! ### One character changed -/

theorem hexD_inj {a b : Nat} (ha : a < 16) (hb : b < 16) (h : hexD a = hexD b) : a = b := by
  have : ∀ a b : Fin 16, hexD a.1 = hexD b.1 → a = b := by decide +kernel
  have := this ⟨a, ha⟩ ⟨b, hb⟩ h
  simpa using this
theorem endT_inj {x y : List UInt8} (h : endT x = endT y) : sumN x % 251 = sumN y % 251 := by
  simp only [endT, List.cons.injEq, true_and, and_true] at h
  have h1 := hexD_inj (by omega) (by omega) h.1
  have h2 := hexD_inj (by omega) (by omega) h.2
  omega
theorem sumN_set : ∀ {l : List UInt8} {i : Nat} {x : UInt8} (y : UInt8), l[i]? = some x → sumN (l.set i y) + x.toNat = sumN l + y.toNat
  | [], i, x, y, h => by simp at h
  | z :: l, 0, x, y, h => by
    simp only [List.getElem?_cons_zero, Option.some.injEq] at h
    subst h
    simp only [List.set_cons_zero, sumN, List.map_cons, List.sum_cons]
    omega
  | z :: l, i + 1, x, y, h => by
    have := sumN_set (l := l) (i := i) y (by simpa using h)
    simp only [List.set_cons_succ, sumN, List.map_cons, List.sum_cons] at this ⊢
    omega
def SoftL (l : List UInt8) : Prop := ∀ c ∈ l, 10 ≤ c.toNat ∧ c.toNat ≤ 126
theorem soft_app {a b : List UInt8} (ha : SoftL a) (hb : SoftL b) : SoftL (a ++ b) := fun c hc => (List.mem_append.1 hc).elim (ha c) (hb c)
theorem soft_itoa {n : Int} (h : OkN n) : SoftL (itoa n) := fun c hc => by
  rw [itoa_nat h.1] at hc
  have := dd_dig _ c hc
  omega
theorem soft_cons {x : UInt8} {l : List UInt8} (hx : 10 ≤ x.toNat ∧ x.toNat ≤ 126) (hl : SoftL l) : SoftL (x :: l) := fun c hc => by
  rcases List.mem_cons.1 hc with rfl | hc
  · exact hx
  · exact hl c hc
theorem soft_line {word : List UInt8} (hw : SoftL word) {a b c : Int} (ha : OkN a) (hb : OkN b) (hc : OkN c) : SoftL (lineT word [a, b, c]) := by
  have e := lineT3 word a b c []
  rw [List.append_nil] at e
  rw [e]
  unfold wl
  refine soft_app (soft_app hw ?_) (soft_cons (by decide) (fun c hc => by simp at hc))
  exact soft_cons (by decide) (soft_app (soft_itoa ha) (soft_cons (by decide) (soft_app (soft_itoa hb) (soft_cons (by decide) (soft_itoa hc)))))
theorem soft_lays : ∀ {ls : List Lay}, (∀ l ∈ ls, OkLay l) → SoftL (laysT ls)
  | [], _ => fun c hc => by simp [laysT] at hc
  | l :: ls, h => by
    have hl := h l (by simp)
    rw [laysT_cons]
    exact soft_app (soft_line (by unfold SoftL; decide) hl.1 hl.2.1 hl.2.2) (soft_lays fun x hx => h x (by simp [hx]))
theorem soft_body {ls : List Lay} {lo hi : Int} (h : OkDoc ls lo hi) : SoftL (bodyT ls lo hi) :=
  soft_app (soft_line (by unfold SoftL; decide) h.1 h.2.1 h.2.2.1) (soft_lays h.2.2.2)
theorem endT_len (l : List UInt8) : (endT l).length = 7 := by simp [endT]
theorem spoilt_no {ls : List Lay} {lo hi : Int} (h : OkDoc ls lo hi) {i : Nat} {x y : UInt8} (hx : (printT ls lo hi)[i]? = some x) (hxy : x ≠ y) (hy : 32 ≤ y.toNat ∧ y.toNat ≤ 126) : NoLog ((printT ls lo hi).set i y) := by
  intro ls' lo' hi' h' e
  obtain ⟨B, hB⟩ : ∃ B, bodyT ls lo hi = B := ⟨_, rfl⟩
  obtain ⟨C, hC⟩ : ∃ C, bodyT ls' lo' hi' = C := ⟨_, rfl⟩
  have hs := soft_body h
  unfold printT at e hx
  rw [hB] at e hx hs
  rw [hC] at e
  have hlen : B.length = C.length := by
    have := congrArg List.length e
    simp only [List.length_set, List.length_append, endT_len] at this
    omega
  by_cases hi_ : i < B.length
  · rw [List.set_append_left _ _ hi_] at e
    obtain ⟨e1, e2⟩ := List.append_inj e (by simpa using hlen)
    rw [List.getElem?_append_left hi_] at hx
    have h1 := sumN_set y hx
    rw [e1] at h1
    have h2 := endT_inj e2
    have h3 := hs x (List.mem_of_getElem? hx)
    have h4 : x.toNat ≠ y.toNat := fun e => hxy (UInt8.toNat_inj.1 e)
    omega
  · rw [List.set_append_right _ _ (by omega)] at e
    obtain ⟨e1, e2⟩ := List.append_inj e hlen
    rw [List.getElem?_append_right (by omega)] at hx
    rw [← e1] at e2
    have h1 : (endT B)[i - B.length]? = some y := by
      rw [← e2, List.getElem?_set_self]
      exact (List.getElem?_eq_some_iff.1 hx).1
    rw [hx] at h1
    exact hxy (by simpa using h1)
end Go.Proofs.YtccekbdhffccdaaDoor
