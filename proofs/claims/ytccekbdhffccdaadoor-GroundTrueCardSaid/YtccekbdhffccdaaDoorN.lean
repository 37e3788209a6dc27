/- What holds of memory while the program puts a truth together. -/
import Derived.Test.YtccekbdhffccdaaDoorM
namespace Go.Proofs.YtccekbdhffccdaaDoor
open Go.RowKit Go.Shelf

def nilV : Value := .slice none 0 0
/-- Block T is the five lists of a truth, each of which is the call's own. -/
structure EI (w wr : World) (pc : Array Value) (T : Nat) (vs : List Value) (xs : List (List Int)) : Prop where
  blk : wr.heap[T]? = some (.cells vs.toArray 41 (0, 0))
  own : ∀ (j : Nat) (v : Value) (l : List Int), vs[j]? = some v → xs[j]? = some l → wr.ownsRow w.heap.size 3 1 v l.length (ints l)
  ne : ∀ (i j : Nat) (v u : Value) (b : Nat), i ≠ j → vs[i]? = some v → vs[j]? = some u → v.ownBlock = some b → u.ownBlock ≠ some b
  bel : Below w.heap.size w wr
  hT : w.heap.size ≤ T
  len : vs.length = xs.length
  pb : wr.heap[w.heap.size]? = some (.cells pc 26 (0, 0))
  hTp : T ≠ w.heap.size
  rb : wr.heap[w.heap.size + 1]? = some (.cells #[nilV, nilV, nilV, nilV, nilV] 41 (0, 0))
  hTr : T ≠ w.heap.size + 1
theorem own41_ne {w : World} {T : Nat} {cs : Array Value} (h : w.heap[T]? = some (.cells cs 41 (0, 0))) {base size n : Nat} {v : Value} {xs : List Value} (ho : w.ownsRow base 3 size v n xs) : v.ownBlock ≠ some T := by
  rcases ho.2 with ⟨rfl, _⟩ | ⟨g', cap, cur, rfl, _, hh, _⟩
  · simp [Value.ownBlock]
  · intro he
    have : g' = T := by simpa [Value.ownBlock] using he
    subst this
    rw [hh] at h
    injection h with h
    injection h with _ ht
    exact absurd ht (by decide)
theorem own26_ne {w : World} {T : Nat} {cs : Array Value} (h : w.heap[T]? = some (.cells cs 26 (0, 0))) {base size n : Nat} {v : Value} {xs : List Value} (ho : w.ownsRow base 3 size v n xs) : v.ownBlock ≠ some T := by
  rcases ho.2 with ⟨rfl, _⟩ | ⟨g', cap, cur, rfl, _, hh, _⟩
  · simp [Value.ownBlock]
  · intro he
    have : g' = T := by simpa [Value.ownBlock] using he
    subst this
    rw [hh] at h
    injection h with h
    injection h with _ ht
    exact absurd ht (by decide)
theorem blk_set {w : World} {T : Nat} {vs : List Value} (h : w.heap[T]? = some (.cells vs.toArray 41 (0, 0))) (j : Nat) (u : Value) : (w.setCell ⟨T, j, none⟩ u).heap[T]? = some (.cells (vs.set j u).toArray 41 (0, 0)) := by
  simp [World.setCell, Array.getElem?_modify, h]
theorem EI.next {w wr w2 : World} {pc : Array Value} {T : Nat} {vs : List Value} {xs : List (List Int)} (h : EI w wr pc T vs xs) (hb : Below wr.heap.size wr w2) : EI w w2 pc T vs xs :=
  ⟨(hb.block T (Array.getElem?_eq_some_iff.1 h.blk).1).trans h.blk, fun j v l hv hl => own_next (h.own j v l hv hl) hb, h.ne, h.bel.trans (hb.mono h.bel.size), h.hT, h.len, (hb.block _ (Array.getElem?_eq_some_iff.1 h.pb).1).trans h.pb, h.hTp, (hb.block _ (Array.getElem?_eq_some_iff.1 h.rb).1).trans h.rb, h.hTr⟩
theorem EI.app {w wr w2 w3 : World} {pc : Array Value} {T : Nat} {vs : List Value} {xs : List (List Int)} (h : EI w wr pc T vs xs) {j gt cap : Nat} {v : Value} {l : List Int} {x : Int} {O : Obj} (hj : vs[j]? = some v) (hx : xs[j]? = some l)
    (hb : Below wr.heap.size wr w2) (hg : (w2.alloc O).grownBy w3 v.ownBlock) (ho : w3.ownsRow w.heap.size 3 1 (.slice (some ⟨gt, 0, none⟩) (l.length + 1) cap) (l.length + 1) (ints l ++ [.int .i64 x]))
    (hat : v.ownBlock = some gt ∨ gt = w2.heap.size + 1) :
    EI w (w3.setCell ⟨T, j, none⟩ (.slice (some ⟨gt, 0, none⟩) (l.length + 1) cap)) pc T (vs.set j (.slice (some ⟨gt, 0, none⟩) (l.length + 1) cap)) (xs.set j (l ++ [x])) := by
  have h2 := h.next hb
  have hT2 := (Array.getElem?_eq_some_iff.1 h2.blk).1
  have hb3 : w3.heap[T]? = some (.cells vs.toArray 41 (0, 0)) := (hg.block T (by simp; omega) (fun e => own41_ne h.blk (h.own j v l hj hx) e.symm)).trans ((Below.heap_alloc _ _ T hT2).trans h2.blk)
  have hjl : j < vs.length := (List.getElem?_eq_some_iff.1 hj).1
  have hjx : j < xs.length := (List.getElem?_eq_some_iff.1 hx).1
  have keep : ∀ {base n : Nat} {u : Value} {ys : List Value}, w3.ownsRow base 3 1 u n ys → (w3.setCell ⟨T, j, none⟩ (.slice (some ⟨gt, 0, none⟩) (l.length + 1) cap)).ownsRow base 3 1 u n ys := fun hu =>
    own_frm (row := some T) (g := T) hu (Frm.set_ _ j _) (own41_ne hb3 hu) (.inr (own41_ne hb3 hu))
  refine ⟨blk_set hb3 j _, ?_, ?_, ?_, h.hT, by simp [h.len], ?_, h.hTp, ?_, h.hTr⟩
  · intro i u m hu hm
    by_cases hij : i = j
    · subst hij
      rw [List.getElem?_set_self hjl] at hu
      rw [List.getElem?_set_self hjx] at hm
      injection hu with hu
      injection hm with hm
      subst hu hm
      rw [ints_snoc]
      simpa using keep ho
    · rw [List.getElem?_set_ne (by omega)] at hu hm
      refine keep (World.ownsRow.kept ((h2.own i u m hu hm).alloc O) hg ?_)
      cases hub : u.ownBlock with
      | none => exact .inl rfl
      | some b => exact .inr (fun e => h.ne i j u v b hij hu hj hub e.symm)
  · intro a b u u' c hab hu hu' hc
    by_cases ha : a = j
    · subst ha
      rw [List.getElem?_set_self hjl] at hu
      rw [List.getElem?_set_ne (by omega)] at hu'
      injection hu with hu
      subst hu
      have hc' : gt = c := by simpa [Value.ownBlock] using hc
      subst hc'
      intro e
      rcases hat with hat | hat
      · exact h.ne a b v u' _ hab hj hu' hat e
      · obtain ⟨lb, hlb⟩ := get_of_lt (l := xs) (k := b) (by rw [← h.len]; exact (List.getElem?_eq_some_iff.1 hu').1)
        have := ((h2.own b u' lb hu' hlb).lt _ e).2
        omega
    · rw [List.getElem?_set_ne (by omega)] at hu
      by_cases hb' : b = j
      · subst hb'
        rw [List.getElem?_set_self hjl] at hu'
        injection hu' with hu'
        subst hu'
        intro e
        have e' : gt = c := by simpa [Value.ownBlock] using e
        subst e'
        rcases hat with hat | hat
        · exact h.ne a b u v _ hab hu hj hc hat
        · obtain ⟨la, hla⟩ := get_of_lt (l := xs) (k := a) (by rw [← h.len]; exact (List.getElem?_eq_some_iff.1 hu).1)
          have := ((h2.own a u la hu hla).lt _ hc).2
          omega
      · rw [List.getElem?_set_ne (by omega)] at hu'
        exact h.ne a b u u' c hab hu hu' hc
  · have h5 : Below w.heap.size w (w2.alloc O) := h2.bel.alloc h2.bel.size O
    exact (h5.grown hg h5.size (fun k hk => ((h.own j v l hj hx).lt k hk).1)).setCell (p := ⟨T, j, none⟩) h.hT _
  · have hp2 := (Array.getElem?_eq_some_iff.1 h2.pb).1
    exact (Below.heap_setCell _ _ _ _ (by show w.heap.size ≠ T; exact fun e => h.hTp e.symm)).trans ((hg.block _ (by simp; omega) (fun e => own26_ne h.pb (h.own j v l hj hx) e.symm)).trans ((Below.heap_alloc _ _ _ hp2).trans h2.pb))
  · have hp2 := (Array.getElem?_eq_some_iff.1 h2.rb).1
    exact (Below.heap_setCell _ _ _ _ (by show w.heap.size + 1 ≠ T; exact fun e => h.hTr e.symm)).trans ((hg.block _ (by simp; omega) (fun e => own41_ne h.rb (h.own j v l hj hx) e.symm)).trans ((Below.heap_alloc _ _ _ hp2).trans h2.rb))
theorem own_slice {w : World} {base : Nat} {e : TypeId} {size n : Nat} {v : Value} {xs : List Value} (h : w.ownsRow base e size v n xs) : ∃ (a : Option Addr) (n c : Nat), v = .slice a n c := by
  rcases h.2 with ⟨rfl, _⟩ | ⟨g, cap, cur, rfl, _⟩
  · exact ⟨_, _, _, rfl⟩
  · exact ⟨_, _, _, rfl⟩
end Go.Proofs.YtccekbdhffccdaaDoor
