/- The specification's reader: a number, a line of a word and three numbers. -/
import Derived.Test.YtccekbdhffccdaaDoorIB
namespace Go.Proofs.YtccekbdhffccdaaDoor
open Go.RowKit Go.Shelf

theorem end_pieces (B : List UInt8) : ∃ E, pieces 10 (endT B) = [E, []] := by
  refine ⟨(endT B).take 6, ?_⟩
  have h1 : ∀ k, k < 16 → hexD k ≠ 10 := by
    have : ∀ k : Fin 16, hexD k.1 ≠ 10 := by decide +kernel
    exact fun k hk => this ⟨k, hk⟩
  have e : endT B = (endT B).take 6 ++ 10 :: [] := by simp [endT]
  have h2 : (10 : UInt8) ∉ (endT B).take 6 := by
    have a1 := h1 (sumN B % 251 / 16) (by omega)
    have a2 := h1 (sumN B % 251 % 16) (by omega)
    simp only [endT, List.take_succ_cons, List.take_zero, List.mem_cons, List.not_mem_nil, or_false, not_or]
    exact ⟨by decide, by decide, by decide, by decide, fun e => a1 e.symm, fun e => a2 e.symm⟩
  conv => lhs; rw [e, pieces_cut [] h2]
  simp [pieces]
theorem lays_pieces (r : List UInt8) : ∀ {ls : List Lay}, (∀ l ∈ ls, OkLay l) → pieces 10 (laysT ls ++ r) = ls.map (fun l => wl wLayer l.t l.lo l.hi) ++ pieces 10 r
  | [], _ => by simp [laysT]
  | l :: ls, h => by
    have hl := h l (by simp)
    have e : layT l ++ (laysT ls ++ r) = wl wLayer l.t l.lo l.hi ++ 10 :: (laysT ls ++ r) := lineT3 _ _ _ _ _
    rw [laysT_cons, List.append_assoc, e, pieces_cut _ (wl_no word_layer hl.1 hl.2.1 hl.2.2), lays_pieces r (fun x hx => h x (by simp [hx]))]
    rfl
theorem doc_pieces {ls : List Lay} {lo hi : Int} (h : OkDoc ls lo hi) : ∃ E, pieces 10 (printT ls lo hi) = wl wHole ls.length lo hi :: (ls.map (fun l => wl wLayer l.t l.lo l.hi) ++ [E, []]) := by
  obtain ⟨E, hE⟩ := end_pieces (bodyT ls lo hi)
  refine ⟨E, ?_⟩
  have e : printT ls lo hi = wl wHole ls.length lo hi ++ 10 :: (laysT ls ++ endT (bodyT ls lo hi)) := by
    have := (printT_line h).2.2.2
    rw [this, lineT3]
  rw [e, pieces_cut _ (wl_no word_hole h.1 h.2.1 h.2.2.1), lays_pieces _ h.2.2.2, hE]
/-- The line at a place says the word and three numbers. -/
def Three (word p : List UInt8) (a b c : Int) : Prop := OkN a ∧ OkN b ∧ OkN c ∧ pieces 32 p = [word, Lib.itoa a, Lib.itoa b, Lib.itoa c]
theorem Three.wl {word : List UInt8} (hw : WordL word) {a b c : Int} (ha : OkN a) (hb : OkN b) (hc : OkN c) : Three word (wl word a b c) a b c := ⟨ha, hb, hc, wl_pieces hw ha hb hc⟩
theorem Three.uniq {word p : List UInt8} {a b c a' b' c' : Int} (h : Three word p a b c) (h' : Three word p a' b' c') : a = a' ∧ b = b' ∧ c = c' := by
  obtain ⟨h1, h2, h3, h4⟩ := h
  obtain ⟨g1, g2, g3, g4⟩ := h'
  rw [h4] at g4
  simp only [List.cons.injEq, and_true] at g4
  exact ⟨itoa_inj h1.1 g1.1 g4.2.1, itoa_inj h2.1 g2.1 g4.2.2.1, itoa_inj h3.1 g3.1 g4.2.2.2⟩
/-- What the reader has seen of a text's lines. -/
def SeenL (L : List (List UInt8)) (n lo hi : Int) (ls : List Lay) : Prop := Three wHole (L[0]?.getD []) n lo hi ∧ ∀ k l, ls[k]? = some l → Three wLayer (L[k + 1]?.getD []) l.t l.lo l.hi
theorem doc_first {T : List UInt8} {ls : List Lay} {lo hi : Int} (h : OkDoc ls lo hi) (e : T = printT ls lo hi) :
    Three wHole ((pieces 10 T)[0]?.getD []) ls.length lo hi ∧ (pieces 10 T).length = ls.length + 3 ∧ (pieces 10 T)[(pieces 10 T).length - 1]?.getD [] = [] ∧
      ∀ k l, ls[k]? = some l → Three wLayer ((pieces 10 T)[k + 1]?.getD []) l.t l.lo l.hi := by
  subst e
  obtain ⟨E, hE⟩ := doc_pieces h
  rw [hE]
  refine ⟨?_, by simp, ?_, fun k l hk => ?_⟩
  · exact Three.wl word_hole h.1 h.2.1 h.2.2.1
  · have : (wl wHole ls.length lo hi :: (ls.map (fun l => wl wLayer l.t l.lo l.hi) ++ [E, []])).length - 1 = ls.length + 2 := by simp
    rw [this, List.getElem?_cons_succ, List.getElem?_append_right (by simp)]
    simp
  · have hl := h.2.2.2 l (List.mem_of_getElem? hk)
    have hlt := (List.getElem?_eq_some_iff.1 hk).1
    rw [List.getElem?_cons_succ, List.getElem?_append_left (by simpa using hlt), List.getElem?_map, hk]
    exact Three.wl word_layer hl.1 hl.2.1 hl.2.2
theorem lay_ext {x y : Lay} (h1 : x.t = y.t) (h2 : x.lo = y.lo) (h3 : x.hi = y.hi) : x = y := by cases x; cases y; simp_all
theorem doc_same {T : List UInt8} {ls ls' : List Lay} {n lo hi lo' hi' : Int} (hs : SeenL (pieces 10 T) n lo hi ls) (hn : (ls.length : Int) = n) (h : OkDoc ls' lo' hi') (e : T = printT ls' lo' hi') : ls' = ls ∧ lo' = lo ∧ hi' = hi := by
  obtain ⟨h1, _, _, h2⟩ := doc_first h e
  obtain ⟨e1, e2, e3⟩ := h1.uniq hs.1
  refine ⟨List.ext_getElem? fun k => ?_, e2, e3⟩
  by_cases hk : k < ls'.length
  · have hk2 : k < ls.length := by omega
    rw [List.getElem?_eq_getElem hk, List.getElem?_eq_getElem hk2]
    obtain ⟨f1, f2, f3⟩ := (h2 k _ (List.getElem?_eq_getElem hk)).uniq (hs.2 k _ (List.getElem?_eq_getElem hk2))
    rw [lay_ext f1 f2 f3]
  · rw [List.getElem?_eq_none (by omega), List.getElem?_eq_none (by omega)]
end Go.Proofs.YtccekbdhffccdaaDoor
