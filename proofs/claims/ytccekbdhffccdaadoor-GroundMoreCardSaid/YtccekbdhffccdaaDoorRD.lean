/- Memory while four lists grow in one statement, in whatever order: the rows of their own, the box of the truth, the new elements. -/
import Derived.Test.YtccekbdhffccdaaDoorN
import Derived.Test.YtccekbdhffccdaaDoorRC
namespace Go.Proofs.YtccekbdhffccdaaDoor
open Go.RowKit

/-- What does not hang on the order. -/
structure EnvE where
  w0 : World
  tb : Nat
  keep : List (Nat × Array Value × TypeId)
  h0 : Value
  n : Nat
  ms : List Int
  k : Nat
  v : Nat → Value
  xs : Nat → List Int
  x : Nat → Int
/-- What does. -/
structure GhE where
  c : Nat → Value
  b : Nat → Value
def updV (f : Nat → Value) (j : Nat) (v : Value) : Nat → Value := fun i => if i = j then v else f i
theorem updV_at (f : Nat → Value) (j : Nat) (v : Value) : updV f j v j = v := if_pos rfl
theorem updV_ne {f : Nat → Value} {i j : Nat} {v : Value} (h : i ≠ j) : updV f j v i = f i := if_neg h
theorem updB_at (f : Nat → Bool) (i : Nat) : updB f i i = true := if_pos rfl
theorem updB_ne {f : Nat → Bool} {i j : Nat} (h : j ≠ i) : updB f i j = f j := if_neg h
def curE (q : EnvE) (done : Nat → Bool) (g : GhE) (j : Nat) : Value := if done (10 * j + 6) = true then g.c j else q.v j
def selE (q : EnvE) (done : Nat → Bool) (g : GhE) (j : Nat) : Value := if done (38 + 2 * j) = true then g.c j else q.v j
def lenE (q : EnvE) (done : Nat → Bool) (j : Nat) : Nat := if done (10 * j + 6) = true then q.k + 1 else q.k
def rowE (q : EnvE) (done : Nat → Bool) (j : Nat) : List Value := if done (10 * j + 6) = true then ints (q.xs j) ++ [.int .i64 (q.x j)] else ints (q.xs j)
def hlE : Nat → Nat
  | 0 => 1
  | j + 1 => 10 * j + 8

structure SE (q : EnvE) (done : Nat → Bool) (g : GhE) (w : World) : Prop where
  bel : Below q.w0.heap.size q.w0 w
  pbk : ∀ p ∈ q.keep, w.heap[p.1]? = some (.cells p.2.1 p.2.2 (0, 0)) ∧ (3 : TypeId) ≠ p.2.2 ∧ p.1 ≠ q.tb
  box : w.heap[q.tb]? = some (.cells #[q.h0, selE q done g 0, selE q done g 1, selE q done g 2, selE q done g 3] 41 (0, 0))
  own : ∀ j, j < 4 → w.ownsRow q.w0.heap.size 3 1 (curE q done g j) (lenE q done j) (rowE q done j)
  mel : w.ownsRow q.w0.heap.size 3 1 q.h0 q.n (ints q.ms)
  sep : ∀ i j, i < 4 → j < 4 → i ≠ j → ∀ B, (curE q done g i).ownBlock = some B → (curE q done g j).ownBlock ≠ some B
  sepm : ∀ j, j < 4 → ∀ B, (curE q done g j).ownBlock = some B → q.h0.ownBlock ≠ some B
  news : ∀ j, j < 4 → done (10 * j + 5) = true → ∃ B, g.b j = .slice (some ⟨B, 0, none⟩) 1 1 ∧ w.heap[B]? = some (.cells #[.int .i64 (q.x j)] 3 (0, 0)) ∧ ∀ i, i < 4 → (curE q done g i).ownBlock ≠ some B
  ord : ∀ j, j < 4 → done (38 + 2 * j) = true → done (10 * j + 6) = true ∧ done (hlE j) = true
  tbq : q.w0.heap.size ≤ q.tb

theorem own_of_blocks {w w' : World} {base : Nat} {e : TypeId} {size n : Nat} {v : Value} {xs : List Value} (h : w.ownsRow base e size v n xs) (hk : ∀ B, v.ownBlock = some B → w'.heap[B]? = w.heap[B]?) : w'.ownsRow base e size v n xs := by
  refine ⟨h.1, ?_⟩
  rcases h.2 with h0 | ⟨k, cap, cur, rfl, hb, hh, hr⟩
  · exact .inl h0
  · exact .inr ⟨k, cap, cur, rfl, hb, (hk k rfl).trans hh, hr⟩
theorem own_cells {w : World} {base : Nat} {e : TypeId} {size n : Nat} {v : Value} {xs : List Value} (h : w.ownsRow base e size v n xs) {B : Nat} (hB : v.ownBlock = some B) : ∃ cur, w.heap[B]? = some (.cells cur e (0, 0)) := by
  rcases h.2 with ⟨rfl, _⟩ | ⟨k, cap, cur, rfl, hb, hh, hr⟩
  · simp [Value.ownBlock] at hB
  · have : k = B := by simpa [Value.ownBlock] using hB
    subst this
    exact ⟨cur, hh⟩
theorem own_not {w : World} {base : Nat} {e t : TypeId} {size n : Nat} {v : Value} {xs : List Value} (h : w.ownsRow base e size v n xs) {B : Nat} {cs : Array Value} (hB : w.heap[B]? = some (.cells cs t (0, 0))) (hne : e ≠ t) : v.ownBlock ≠ some B := fun ho => by
  obtain ⟨cur, hc⟩ := own_cells h ho
  rw [hc] at hB
  injection hB with hB
  injection hB with _ ht
  exact hne ht

theorem SE.quiet {q : EnvE} {done : Nat → Bool} {g : GhE} {w : World} (h : SE q done g w) {i : Nat} (hi : ∀ j, j < 4 → i ≠ 10 * j + 5 ∧ i ≠ 10 * j + 6 ∧ i ≠ 38 + 2 * j) : SE q (updB done i) g w := by
  have c1 : ∀ j, j < 4 → curE q (updB done i) g j = curE q done g j := fun j hj => by unfold curE; rw [updB_ne (Ne.symm (hi j hj).2.1)]
  have c2 : ∀ j, j < 4 → selE q (updB done i) g j = selE q done g j := fun j hj => by unfold selE; rw [updB_ne (Ne.symm (hi j hj).2.2)]
  have c3 : ∀ j, j < 4 → lenE q (updB done i) j = lenE q done j := fun j hj => by unfold lenE; rw [updB_ne (Ne.symm (hi j hj).2.1)]
  have c4 : ∀ j, j < 4 → rowE q (updB done i) j = rowE q done j := fun j hj => by unfold rowE; rw [updB_ne (Ne.symm (hi j hj).2.1)]
  refine ⟨h.bel, h.pbk, ?_, fun j hj => ?_, h.mel, fun a b ha hb => ?_, fun j hj => ?_, fun j hj hd => ?_, fun j hj hd => ?_, h.tbq⟩
  · rw [c2 0 (by decide), c2 1 (by decide), c2 2 (by decide), c2 3 (by decide)]
    exact h.box
  · rw [c1 j hj, c3 j hj, c4 j hj]
    exact h.own j hj
  · rw [c1 a ha, c1 b hb]
    exact h.sep a b ha hb
  · rw [c1 j hj]
    exact h.sepm j hj
  · rw [updB_ne (Ne.symm (hi j hj).1)] at hd
    obtain ⟨B, e1, e2, e3⟩ := h.news j hj hd
    exact ⟨B, e1, e2, fun a ha => by rw [c1 a ha]; exact e3 a ha⟩
  · rw [updB_ne (Ne.symm (hi j hj).2.2)] at hd
    obtain ⟨o1, o2⟩ := h.ord j hj hd
    refine ⟨?_, ?_⟩
    · unfold updB; split
      · rfl
      · exact o1
    · unfold updB; split
      · rfl
      · exact o2

theorem SE.build {q : EnvE} {done : Nat → Bool} {g : GhE} {w : World} (h : SE q done g w) {j : Nat} (hj : j < 4) :
    SE q (updB done (10 * j + 5)) { g with b := updV g.b j (.slice (some ⟨w.heap.size, 0, none⟩) 1 1) } (w.alloc (.cells #[.int .i64 (q.x j)] 3)) := by
  have c1 : ∀ i, i < 4 → curE q (updB done (10 * j + 5)) { g with b := updV g.b j (.slice (some ⟨w.heap.size, 0, none⟩) 1 1) } i = curE q done g i := fun i hi => by unfold curE; rw [updB_ne (by omega)]
  have c2 : ∀ i, i < 4 → selE q (updB done (10 * j + 5)) { g with b := updV g.b j (.slice (some ⟨w.heap.size, 0, none⟩) 1 1) } i = selE q done g i := fun i hi => by unfold selE; rw [updB_ne (by omega)]
  have c3 : ∀ i, i < 4 → lenE q (updB done (10 * j + 5)) i = lenE q done i := fun i hi => by unfold lenE; rw [updB_ne (by omega)]
  have c4 : ∀ i, i < 4 → rowE q (updB done (10 * j + 5)) i = rowE q done i := fun i hi => by unfold rowE; rw [updB_ne (by omega)]
  have hb := (Below.refl w.heap.size w).alloc (Nat.le_refl _) (.cells #[.int .i64 (q.x j)] 3)
  have hk : ∀ {B : Nat} {o : Obj}, w.heap[B]? = some o → (w.alloc (.cells #[.int .i64 (q.x j)] 3)).heap[B]? = some o := fun hB => (hb.block _ (Array.getElem?_eq_some_iff.1 hB).1).trans hB
  refine ⟨h.bel.trans (hb.mono h.bel.size), fun p hp => ⟨hk (h.pbk p hp).1, (h.pbk p hp).2⟩, ?_, fun i hi => ?_, own_next h.mel hb, fun a b ha hb => ?_, fun i hi => ?_, fun i hi hd => ?_, fun i hi hd => ?_, h.tbq⟩
  · rw [c2 0 (by decide), c2 1 (by decide), c2 2 (by decide), c2 3 (by decide)]
    exact hk h.box
  · rw [c1 i hi, c3 i hi, c4 i hi]
    exact own_next (h.own i hi) hb
  · rw [c1 a ha, c1 b hb]
    exact h.sep a b ha hb
  · rw [c1 i hi]
    exact h.sepm i hi
  · by_cases hij : i = j
    · subst hij
      refine ⟨w.heap.size, updV_at _ _ _, heap_alloc_new w _, fun a ha hB => ?_⟩
      rw [c1 a ha] at hB
      have := ((h.own a ha).lt _ hB).2
      omega
    · rw [updB_ne (by omega)] at hd
      obtain ⟨B, e1, e2, e3⟩ := h.news i hi hd
      exact ⟨B, (updV_ne hij).trans e1, hk e2, fun a ha => by rw [c1 a ha]; exact e3 a ha⟩
  · rw [updB_ne (by omega)] at hd
    obtain ⟨o1, o2⟩ := h.ord i hi hd
    refine ⟨?_, ?_⟩
    · unfold updB; split
      · rfl
      · exact o1
    · unfold updB; split
      · rfl
      · exact o2

theorem SE.append {q : EnvE} {done : Nat → Bool} {g : GhE} {w w' : World} (h : SE q done g w) {j : Nat} (hj : j < 4) (hu : done (10 * j + 6) = false) {v' : Value}
    (hv : w'.ownsRow q.w0.heap.size 3 1 v' (q.k + 1) (ints (q.xs j) ++ [.int .i64 (q.x j)])) (hg : w.grownBy w' (q.v j).ownBlock) (ho : v'.ownBlock = (q.v j).ownBlock ∨ v'.ownBlock = some w.heap.size) :
    SE q (updB done (10 * j + 6)) { g with c := updV g.c j v' } w' := by
  have cj : curE q done g j = q.v j := by unfold curE; rw [hu]; rfl
  have lj : lenE q done j = q.k := by unfold lenE; rw [hu]; rfl
  have cn : curE q (updB done (10 * j + 6)) { g with c := updV g.c j v' } j = v' := by unfold curE; rw [updB_at, if_pos rfl]; exact updV_at _ _ _
  have c1 : ∀ i, i ≠ j → curE q (updB done (10 * j + 6)) { g with c := updV g.c j v' } i = curE q done g i := fun i hi => by
    unfold curE; rw [updB_ne (by omega)]; show (if _ then updV g.c j v' i else _) = _; rw [updV_ne hi]
  have ns : done (38 + 2 * j) = false := by
    cases hd : done (38 + 2 * j) with
    | false => rfl
    | true => have := (h.ord j hj hd).1; rw [hu] at this; exact absurd this (by decide)
  have c2 : ∀ i, i < 4 → selE q (updB done (10 * j + 6)) { g with c := updV g.c j v' } i = selE q done g i := fun i hi => by
    unfold selE
    rw [updB_ne (by omega)]
    by_cases hij : i = j
    · subst hij
      rw [ns]; rfl
    · show (if _ then updV g.c j v' i else _) = _; rw [updV_ne hij]
  have oj := h.own j hj
  rw [cj, lj] at oj
  have hk : ∀ {B : Nat} {o : Obj}, w.heap[B]? = some o → (q.v j).ownBlock ≠ some B → w'.heap[B]? = some o := fun hB hne => (hg.block _ (Array.getElem?_eq_some_iff.1 hB).1 (fun e => hne e.symm)).trans hB
  have oi : ∀ i, i < 4 → i ≠ j → w'.ownsRow q.w0.heap.size 3 1 (curE q done g i) (lenE q done i) (rowE q done i) := fun i hi hij =>
    own_of_blocks (h.own i hi) fun B hB => hg.block B ((h.own i hi).lt _ hB).2 (fun e => by
      have := h.sep i j hi hj hij B hB
      rw [cj] at this
      exact this e.symm)
  -- the block that is grown is of no other row
  have hs : ∀ i, i < 4 → i ≠ j → ∀ B, (curE q done g i).ownBlock = some B → v'.ownBlock ≠ some B := fun i hi hij B hB hv' => by
    rcases ho with ho | ho
    · have := h.sep i j hi hj hij B hB
      rw [cj, ← ho] at this
      exact this hv'
    · rw [ho] at hv'
      have := ((h.own i hi).lt _ hB).2
      injection hv' with hv'
      omega
  refine ⟨h.bel.grown hg h.bel.size (fun B hB => (oj.lt _ hB).1), fun p hp => ⟨hk (h.pbk p hp).1 (own_not oj (h.pbk p hp).1 (h.pbk p hp).2.1), (h.pbk p hp).2⟩, ?_, fun i hi => ?_, ?_, fun a b ha hb hab => ?_, fun i hi => ?_, fun i hi hd => ?_, fun i hi hd => ?_, h.tbq⟩
  · rw [c2 0 (by decide), c2 1 (by decide), c2 2 (by decide), c2 3 (by decide)]
    exact hk h.box (own_not oj h.box (by decide))
  · by_cases hij : i = j
    · subst hij
      rw [cn]
      unfold lenE rowE
      rw [updB_at, if_pos rfl, if_pos rfl]
      exact hv
    · rw [c1 i hij]
      have e1 : lenE q (updB done (10 * j + 6)) i = lenE q done i := by unfold lenE; rw [updB_ne (by omega)]
      have e2 : rowE q (updB done (10 * j + 6)) i = rowE q done i := by unfold rowE; rw [updB_ne (by omega)]
      rw [e1, e2]
      exact oi i hi hij
  · exact own_of_blocks h.mel fun B hB => hg.block B (h.mel.lt _ hB).2 (fun e => by
      have := h.sepm j hj B (by rw [cj]; exact e.symm)
      exact this hB)
  · by_cases haj : a = j
    · subst haj
      rw [cn, c1 b (Ne.symm hab)]
      intro B hB hB'
      exact hs b hb (Ne.symm hab) B hB' hB
    · by_cases hbj : b = j
      · subst hbj
        rw [cn, c1 a haj]
        exact hs a ha haj
      · rw [c1 a haj, c1 b hbj]
        exact h.sep a b ha hb hab
  · by_cases hij : i = j
    · subst hij
      rw [cn]
      intro B hB hm
      rcases ho with ho | ho
      · exact h.sepm i hj B (by rw [cj, ← ho]; exact hB) hm
      · rw [ho] at hB
        have := (h.mel.lt _ hm).2
        injection hB with hB
        omega
    · rw [c1 i hij]
      exact h.sepm i hi
  · rw [updB_ne (by omega)] at hd
    obtain ⟨B, e1, e2, e3⟩ := h.news i hi hd
    have hBj : (q.v j).ownBlock ≠ some B := by have := e3 j hj; rw [cj] at this; exact this
    refine ⟨B, e1, hk e2 hBj, fun a ha => ?_⟩
    by_cases haj : a = j
    · subst haj
      rw [cn]
      rcases ho with ho | ho
      · rw [ho]; exact hBj
      · rw [ho]
        intro e
        injection e with e
        have := (Array.getElem?_eq_some_iff.1 e2).1
        omega
    · rw [c1 a haj]
      exact e3 a ha
  · rw [updB_ne (by omega)] at hd
    obtain ⟨o1, o2⟩ := h.ord i hi hd
    refine ⟨?_, ?_⟩
    · unfold updB; split
      · rfl
      · exact o1
    · unfold updB; split
      · rfl
      · exact o2

theorem SE.store {q : EnvE} {done : Nat → Bool} {g : GhE} {w : World} (h : SE q done g w) {j : Nat} (hj : j < 4) (ha : done (10 * j + 6) = true) (hh : done (hlE j) = true) :
    SE q (updB done (38 + 2 * j)) g (w.setCell ⟨q.tb, j + 1, none⟩ (g.c j)) := by
  have ne6 : ∀ i, i < 4 → 10 * i + 6 ≠ 38 + 2 * j := fun i hi => by omega
  have c1 : ∀ i, i < 4 → curE q (updB done (38 + 2 * j)) g i = curE q done g i := fun i hi => by unfold curE; rw [updB_ne (ne6 i hi)]
  have c3 : ∀ i, i < 4 → lenE q (updB done (38 + 2 * j)) i = lenE q done i := fun i hi => by unfold lenE; rw [updB_ne (ne6 i hi)]
  have c4 : ∀ i, i < 4 → rowE q (updB done (38 + 2 * j)) i = rowE q done i := fun i hi => by unfold rowE; rw [updB_ne (ne6 i hi)]
  have sj : selE q (updB done (38 + 2 * j)) g j = g.c j := by unfold selE; rw [updB_at, if_pos rfl]
  have c2 : ∀ i, i ≠ j → selE q (updB done (38 + 2 * j)) g i = selE q done g i := fun i hi => by unfold selE; rw [updB_ne (by omega)]
  have hk : ∀ {B : Nat} {o : Obj}, w.heap[B]? = some o → B ≠ q.tb → (w.setCell ⟨q.tb, j + 1, none⟩ (g.c j)).heap[B]? = some o := fun hB hne => (Below.heap_setCell _ _ _ _ hne).trans hB
  have hko : ∀ {v : Value} {n : Nat} {xs : List Value}, w.ownsRow q.w0.heap.size 3 1 v n xs → (w.setCell ⟨q.tb, j + 1, none⟩ (g.c j)).ownsRow q.w0.heap.size 3 1 v n xs := fun ho =>
    own_of_blocks ho fun B hB => Below.heap_setCell _ _ _ _ (fun e => own_not ho h.box (by decide) (by rw [hB, e]))
  refine ⟨h.bel.setCell (p := ⟨q.tb, j + 1, none⟩) h.tbq _, fun p hp => ⟨hk (h.pbk p hp).1 (h.pbk p hp).2.2, (h.pbk p hp).2⟩, ?_, fun i hi => ?_, hko h.mel, fun a b ha hb => ?_, fun i hi => ?_, fun i hi hd => ?_, fun i hi hd => ?_, h.tbq⟩
  · have hset : (w.setCell ⟨q.tb, j + 1, none⟩ (g.c j)).heap[q.tb]? = some (.cells (#[q.h0, selE q done g 0, selE q done g 1, selE q done g 2, selE q done g 3].setIfInBounds (j + 1) (g.c j)) 41 (0, 0)) := by
      simp [World.setCell, Array.getElem?_modify, h.box]
    rw [hset]
    match j, hj, sj, c2 with
    | 0, _, sj, c2 => rw [sj, c2 1 (by decide), c2 2 (by decide), c2 3 (by decide)]; rfl
    | 1, _, sj, c2 => rw [sj, c2 0 (by decide), c2 2 (by decide), c2 3 (by decide)]; rfl
    | 2, _, sj, c2 => rw [sj, c2 0 (by decide), c2 1 (by decide), c2 3 (by decide)]; rfl
    | 3, _, sj, c2 => rw [sj, c2 0 (by decide), c2 1 (by decide), c2 2 (by decide)]; rfl
  · rw [c1 i hi, c3 i hi, c4 i hi]
    exact hko (h.own i hi)
  · rw [c1 a ha, c1 b hb]
    exact h.sep a b ha hb
  · rw [c1 i hi]
    exact h.sepm i hi
  · rw [updB_ne (by omega)] at hd
    obtain ⟨B, e1, e2, e3⟩ := h.news i hi hd
    exact ⟨B, e1, hk e2 (fun e => by rw [e, h.box] at e2; injection e2 with e2; injection e2 with _ ht; exact absurd ht (by decide)), fun a ha => by rw [c1 a ha]; exact e3 a ha⟩
  · have up : ∀ m, done m = true → updB done (38 + 2 * j) m = true := fun m hm => by
      unfold updB
      split
      · rfl
      · exact hm
    by_cases hij : i = j
    · subst hij
      exact ⟨up _ ha, up _ hh⟩
    · rw [updB_ne (by omega)] at hd
      obtain ⟨o1, o2⟩ := h.ord i hi hd
      exact ⟨up _ o1, up _ o2⟩
theorem SE.drew {q : EnvE} {done : Nat → Bool} {g : GhE} {w : World} (h : SE q done g w) : SE q done g w.drew :=
  ⟨h.bel.drew, h.pbk, h.box, fun j hj => own_next (h.own j hj) (Below.refl _ w).drew, own_next h.mel (Below.refl _ w).drew, h.sep, h.sepm, h.news, h.ord, h.tbq⟩
end Go.Proofs.YtccekbdhffccdaaDoor
