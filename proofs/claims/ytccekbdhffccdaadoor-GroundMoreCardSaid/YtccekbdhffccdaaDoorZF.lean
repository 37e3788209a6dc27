/- The truth in which the ground is as cold as can be, or as warm as can be, as the specification makes it. -/
import Derived.Test.YtccekbdhffccdaaDoorRD
import Derived.Test.YtccekbdhffccdaaDoorO
import Derived.IntWalk
namespace Go.Proofs.YtccekbdhffccdaaDoor
open Go.RowKit Go.Shelf

/-- Between two rounds. -/
def RestE (w0 : World) (tb : Nat) (kp : List (Nat × Array Value × TypeId)) (n : Nat) (ms : List Int) (k : Nat) (xs : Nat → List Int) (w : World) : Prop :=
  ∃ (h0 : Value) (v : Nat → Value), SE ⟨w0, tb, kp, h0, n, ms, k, v, xs, fun _ => 0⟩ (fun _ => false) ⟨v, v⟩ w

theorem rest_start {w0 : World} {kp : List (Nat × Array Value × TypeId)} {tb : Nat} {w : World} (hb : Below w0.heap.size w0 w) (ht : w.heap[tb]? = some (.cells #[nilV, nilV, nilV, nilV, nilV] 41 (0, 0))) (hp : ∀ p ∈ kp, w.heap[p.1]? = some (.cells p.2.1 p.2.2 (0, 0)) ∧ (3 : TypeId) ≠ p.2.2 ∧ p.1 ≠ tb) (h : w0.heap.size ≤ tb) :
    RestE w0 tb kp 0 [] 0 (fun _ => []) w :=
  ⟨nilV, fun _ => nilV, hb, hp, ht, fun _ _ => World.ownsRow_nil _ _ _ _, World.ownsRow_nil _ _ _ _, fun _ _ _ _ _ _ hB => by simp [curE, nilV, Value.ownBlock] at hB, fun _ _ _ hB => by simp [curE, nilV, Value.ownBlock] at hB, fun _ _ hd => by simp at hd, fun _ _ hd => by simp at hd, h⟩

theorem blk41_set_ {w : World} {g : Nat} {a b c d e : Value} (h : w.heap[g]? = some (.cells #[a, b, c, d, e] 41 (0, 0))) (u : Value) : (w.setCell ⟨g, 0, none⟩ u).heap[g]? = some (.cells #[u, b, c, d, e] 41 (0, 0)) := by
  simp [World.setCell, Array.getElem?_modify, h]
/-- A melt more. -/
theorem rest_melt {w0 : World} {kp : List (Nat × Array Value × TypeId)} {tb n : Nat} {ms : List Int} {w w' : World} {h0 v' : Value} {v : Nat → Value} {x : Int} {o : Obj} (hv : ∀ j, j < 4 → v j = nilV) (h : SE ⟨w0, tb, kp, h0, n, ms, 0, v, fun _ => [], fun _ => 0⟩ (fun _ => false) ⟨v, v⟩ w)
    (ho : w'.ownsRow w0.heap.size 3 1 v' (n + 1) (ints ms ++ [.int .i64 x])) (hg : (w.alloc o).grownBy w' h0.ownBlock) :
    (∃ v, (∀ j, j < 4 → v j = nilV) ∧ SE ⟨w0, tb, kp, v', n + 1, ms ++ [x], 0, v, fun _ => [], fun _ => 0⟩ (fun _ => false) ⟨v, v⟩ (w'.setCell ⟨tb, 0, none⟩ v')) := by
  have hb := (Below.refl w.heap.size w).alloc (Nat.le_refl _) o
  have m1 := own_next h.mel hb
  have hk : ∀ {B : Nat} {cs : Array Value} {t : TypeId}, w.heap[B]? = some (.cells cs t (0, 0)) → (3 : TypeId) ≠ t → w'.heap[B]? = some (.cells cs t (0, 0)) := fun hB hne => by
    have hB' := (hb.block _ (Array.getElem?_eq_some_iff.1 hB).1).trans hB
    exact (hg.block _ (Array.getElem?_eq_some_iff.1 hB').1 (fun e => own_not m1 hB' hne e.symm)).trans hB'
  have hbox := hk h.box (by decide)
  refine ⟨v, hv, ?_, fun p hp => ⟨(Below.heap_setCell _ _ _ _ (h.pbk p hp).2.2).trans (hk (h.pbk p hp).1 (h.pbk p hp).2.1), (h.pbk p hp).2⟩, ?_, fun j hj => ?_, ?_, fun i j hi _ _ B hB => ?_, fun j hj B hB => ?_, fun _ _ hd => by simp at hd, fun _ _ hd => by simp at hd, h.tbq⟩
  · exact ((h.bel.trans (hb.mono h.bel.size)).grown hg (Nat.le_trans h.bel.size hb.size) (fun B hB => (m1.lt _ hB).1)).setCell (p := ⟨tb, 0, none⟩) h.tbq _
  · have e : (w'.setCell ⟨tb, 0, none⟩ v').heap[tb]? = _ := blk41_set_ hbox v'
    exact e
  · have e : curE ⟨w0, tb, kp, v', n + 1, ms ++ [x], 0, v, fun _ => [], fun _ => 0⟩ (fun _ => false) ⟨v, v⟩ j = nilV := hv j hj
    rw [e]
    exact World.ownsRow_nil _ _ _ _
  · rw [show ints (ms ++ [x]) = ints ms ++ [.int .i64 x] by simp [ints]]
    exact own_of_blocks ho fun B hB => Below.heap_setCell _ _ _ _ (fun e => own_not ho hbox (by decide) (by rw [hB, e]))
  · have e : curE ⟨w0, tb, kp, v', n + 1, ms ++ [x], 0, v, fun _ => [], fun _ => 0⟩ (fun _ => false) ⟨v, v⟩ i = nilV := hv i hi
    rw [e] at hB
    simp [nilV, Value.ownBlock] at hB
  · have e : curE ⟨w0, tb, kp, v', n + 1, ms ++ [x], 0, v, fun _ => [], fun _ => 0⟩ (fun _ => false) ⟨v, v⟩ j = nilV := hv j hj
    rw [e] at hB
    simp [nilV, Value.ownBlock] at hB

theorem melts_next {α : Type} {ls : List α} {k : Nat} {f : α → Int} {x : α} (h : ls[k]? = some x) : (ls.take (k + 1)).map f = (ls.take k).map f ++ [f x] := by
  obtain ⟨hk, e⟩ := List.getElem?_eq_some_iff.1 h
  rw [List.take_succ_eq_append_getElem hk, e]
  simp
def meltE (warm : Bool) (l : Lay) : Int := if warm then l.lo else l.hi
def colE (warm : Bool) (lo hi : Int) : Nat → Yr → Int
  | 0, _ => if warm then hi else lo
  | 1, y => if warm then y.sh else y.sl
  | 2, y => if warm then y.wl else y.wh
  | _, y => if warm then y.nh else y.nl
theorem SE.with_x {w0 : World} {tb : Nat} {kp : List (Nat × Array Value × TypeId)} {h0 : Value} {n : Nat} {ms : List Int} {k : Nat} {v : Nat → Value} {xs : Nat → List Int} {x : Nat → Int} {g : GhE} {w : World} (h : SE ⟨w0, tb, kp, h0, n, ms, k, v, xs, x⟩ (fun _ => false) g w) (x' : Nat → Int) :
    SE ⟨w0, tb, kp, h0, n, ms, k, v, xs, x'⟩ (fun _ => false) g w :=
  ⟨h.bel, h.pbk, h.box, h.own, h.mel, h.sep, h.sepm, fun _ _ hd => by simp at hd, h.ord, h.tbq⟩
theorem SE.head {q : EnvE} {done : Nat → Bool} {g : GhE} {w : World} (h : SE q done g w) {a : Nat} (ha : a < 4) (hd : done (hlE a) = false) : w.cell? ⟨q.tb, a + 1, none⟩ = some (q.v a) := by
  have hs : selE q done g a = q.v a := by
    unfold selE
    cases hx : done (38 + 2 * a) with
    | false => rfl
    | true => have := (h.ord a ha hx).2; rw [hd] at this; exact absurd this (by decide)
  have := cell_of_row w q.tb (a + 1) _ 41 (0, 0) h.box
  rw [this]
  match a, ha, hs with
  | 0, _, hs => simp [hs]
  | 1, _, hs => simp [hs]
  | 2, _, hs => simp [hs]
  | 3, _, hs => simp [hs]
/-- What the slots of the statement with four appends hold: 's' is the first of them; 'e..' whether it is the upper end. -/
def slotE (v : Nat → Value) (tb pb yb yo j m : Nat) (A2 : Option Addr) (c' : Nat) (x : Nat → Int) (e0 e1 e2 e3 : Nat) (g : GhE) : Nat → Value
  | 0 => .pointer (some ⟨tb, 1, none⟩)
  | 1 => v 0
  | 2 => .pointer (some ⟨pb, 1, none⟩)
  | 3 => .pointer (some ⟨pb, 1 + e0, none⟩)
  | 4 => .int .i64 (x 0)
  | 5 => g.b 0
  | 6 => g.c 0
  | 7 => .pointer (some ⟨tb, 2, none⟩)
  | 8 => v 1
  | 9 => .slice A2 m c'
  | 10 => .int .i64 (j : Int)
  | 11 => .pointer (some ⟨yb, yo + j * 6, none⟩)
  | 12 => .pointer (some ⟨yb, yo + j * 6, none⟩)
  | 13 => .pointer (some ⟨yb, yo + j * 6 + e1, none⟩)
  | 14 => .int .i64 (x 1)
  | 15 => g.b 1
  | 16 => g.c 1
  | 17 => .pointer (some ⟨tb, 3, none⟩)
  | 18 => v 2
  | 19 => .slice A2 m c'
  | 20 => .int .i64 (j : Int)
  | 21 => .pointer (some ⟨yb, yo + j * 6, none⟩)
  | 22 => .pointer (some ⟨yb, yo + j * 6 + 2, none⟩)
  | 23 => .pointer (some ⟨yb, yo + j * 6 + 2 + e2, none⟩)
  | 24 => .int .i64 (x 2)
  | 25 => g.b 2
  | 26 => g.c 2
  | 27 => .pointer (some ⟨tb, 4, none⟩)
  | 28 => v 3
  | 29 => .slice A2 m c'
  | 30 => .int .i64 (j : Int)
  | 31 => .pointer (some ⟨yb, yo + j * 6, none⟩)
  | 32 => .pointer (some ⟨yb, yo + j * 6 + 4, none⟩)
  | 33 => .pointer (some ⟨yb, yo + j * 6 + 4 + e3, none⟩)
  | 34 => .int .i64 (x 3)
  | 35 => g.b 3
  | 36 => g.c 3
  | 37 => .pointer (some ⟨tb, 1, none⟩)
  | 38 => .pointer (some ⟨tb, 2, none⟩)
  | 39 => .pointer (some ⟨tb, 3, none⟩)
  | 40 => .pointer (some ⟨tb, 4, none⟩)
  | _ => undef
def rhoE (s : Nat) (old : Tmp → Value) (f : GhE → Nat → Value) (g : GhE) (t : Tmp) : Value := if t < s then old t else f g (t - s)

theorem slotE_b {v : Nat → Value} {tb pb yb yo j m : Nat} {A2 : Option Addr} {c' : Nat} {x : Nat → Int} {e0 e1 e2 e3 : Nat} {g : GhE} {i : Nat} {f : Nat → Value} (h : ∀ a, a ≠ i → f a = g.b a) : ∀ k : Nat, k ≠ 10 * i + 5 →
    slotE v tb pb yb yo j m A2 c' x e0 e1 e2 e3 { g with b := f } k = slotE v tb pb yb yo j m A2 c' x e0 e1 e2 e3 g k
  | 0, _ => rfl
  | 1, _ => rfl
  | 2, _ => rfl
  | 3, _ => rfl
  | 4, _ => rfl
  | 5, hk => h 0 (by omega)
  | 6, _ => rfl
  | 7, _ => rfl
  | 8, _ => rfl
  | 9, _ => rfl
  | 10, _ => rfl
  | 11, _ => rfl
  | 12, _ => rfl
  | 13, _ => rfl
  | 14, _ => rfl
  | 15, hk => h 1 (by omega)
  | 16, _ => rfl
  | 17, _ => rfl
  | 18, _ => rfl
  | 19, _ => rfl
  | 20, _ => rfl
  | 21, _ => rfl
  | 22, _ => rfl
  | 23, _ => rfl
  | 24, _ => rfl
  | 25, hk => h 2 (by omega)
  | 26, _ => rfl
  | 27, _ => rfl
  | 28, _ => rfl
  | 29, _ => rfl
  | 30, _ => rfl
  | 31, _ => rfl
  | 32, _ => rfl
  | 33, _ => rfl
  | 34, _ => rfl
  | 35, hk => h 3 (by omega)
  | 36, _ => rfl
  | 37, _ => rfl
  | 38, _ => rfl
  | 39, _ => rfl
  | 40, _ => rfl
  | _ + 41, _ => rfl
theorem slotE_c {v : Nat → Value} {tb pb yb yo j m : Nat} {A2 : Option Addr} {c' : Nat} {x : Nat → Int} {e0 e1 e2 e3 : Nat} {g : GhE} {i : Nat} {f : Nat → Value} (h : ∀ a, a ≠ i → f a = g.c a) : ∀ k : Nat, k ≠ 10 * i + 6 →
    slotE v tb pb yb yo j m A2 c' x e0 e1 e2 e3 { g with c := f } k = slotE v tb pb yb yo j m A2 c' x e0 e1 e2 e3 g k
  | 0, _ => rfl
  | 1, _ => rfl
  | 2, _ => rfl
  | 3, _ => rfl
  | 4, _ => rfl
  | 5, _ => rfl
  | 6, hk => h 0 (by omega)
  | 7, _ => rfl
  | 8, _ => rfl
  | 9, _ => rfl
  | 10, _ => rfl
  | 11, _ => rfl
  | 12, _ => rfl
  | 13, _ => rfl
  | 14, _ => rfl
  | 15, _ => rfl
  | 16, hk => h 1 (by omega)
  | 17, _ => rfl
  | 18, _ => rfl
  | 19, _ => rfl
  | 20, _ => rfl
  | 21, _ => rfl
  | 22, _ => rfl
  | 23, _ => rfl
  | 24, _ => rfl
  | 25, _ => rfl
  | 26, hk => h 2 (by omega)
  | 27, _ => rfl
  | 28, _ => rfl
  | 29, _ => rfl
  | 30, _ => rfl
  | 31, _ => rfl
  | 32, _ => rfl
  | 33, _ => rfl
  | 34, _ => rfl
  | 35, _ => rfl
  | 36, hk => h 3 (by omega)
  | 37, _ => rfl
  | 38, _ => rfl
  | 39, _ => rfl
  | 40, _ => rfl
  | _ + 41, _ => rfl
theorem rhoE_of {s : Nat} {old : Tmp → Value} {f : GhE → Nat → Value} {g g' : GhE} {t d : Tmp} {i : Nat} (hd : d = s + i) (ht : t ≠ d) (h : ∀ k, k ≠ i → f g' k = f g k) : rhoE s old f g' t = rhoE s old f g t := by
  unfold rhoE
  by_cases hlt : t < s
  · rw [if_pos hlt, if_pos hlt]
  · rw [if_neg hlt, if_neg hlt]
    have h1 : ¬ (show Nat from t) < s := hlt
    exact h _ (fun e => ht (by
      subst hd
      show (show Nat from t) = s + i
      have e' : (show Nat from t) - s = i := e
      omega))
/-- Every operation of a list, by its number. -/
def AllOps (Φ : Nat → Oper → Prop) : Nat → List Oper → Prop
  | _, [] => True
  | k, o :: r => Φ k o ∧ AllOps Φ (k + 1) r
theorem allOps_at {Φ : Nat → Oper → Prop} : ∀ {l : List Oper} {k : Nat}, AllOps Φ k l → ∀ i o, l[i]? = some o → Φ (k + i) o
  | [], _, _, i, o, hi => by simp at hi
  | p :: r, k, h, 0, o, hi => by
    have : p = o := by simpa using hi
    subst this
    exact h.1
  | p :: r, k, h, i + 1, o, hi => by
    have := allOps_at h.2 i o (by simpa using hi)
    rw [show k + (i + 1) = k + 1 + i by omega]
    exact this
theorem allOps_array {Φ : Nat → Oper → Prop} {l : List Oper} (h : AllOps Φ 0 l) : ∀ i o, l.toArray[i]? = some o → Φ i o := fun i o hi => by
  have := allOps_at h i o (by simpa using hi)
  rwa [Nat.zero_add] at this
/-- Behind all of them. -/
theorem SE.after {w0 : World} {tb : Nat} {kp : List (Nat × Array Value × TypeId)} {h0 : Value} {n : Nat} {ms : List Int} {k : Nat} {v : Nat → Value} {xs : Nat → List Int} {x : Nat → Int} {g : GhE} {w : World} (h : SE ⟨w0, tb, kp, h0, n, ms, k, v, xs, x⟩ (fun i => decide (i < 45)) g w) :
    SE ⟨w0, tb, kp, h0, n, ms, k + 1, g.c, fun a => xs a ++ [x a], fun _ => 0⟩ (fun _ => false) ⟨g.c, g.c⟩ w := by
  have d6 : ∀ j, j < 4 → (fun i => decide (i < 45)) (10 * j + 6) = true := fun j hj => by simp; omega
  have c1 : ∀ j, j < 4 → curE ⟨w0, tb, kp, h0, n, ms, k, v, xs, x⟩ (fun i => decide (i < 45)) g j = g.c j := fun j hj => by unfold curE; rw [if_pos (d6 j hj)]
  refine ⟨h.bel, h.pbk, ?_, fun j hj => ?_, h.mel, fun a b ha hb hab => ?_, fun j hj => ?_, fun _ _ hd => by simp at hd, fun _ _ hd => by simp at hd, h.tbq⟩
  · exact h.box
  · have := h.own j hj
    rw [c1 j hj] at this
    unfold lenE rowE at this
    rw [if_pos (d6 j hj), if_pos (d6 j hj)] at this
    have e : rowE ⟨w0, tb, kp, h0, n, ms, k + 1, g.c, fun a => xs a ++ [x a], fun _ => 0⟩ (fun _ => false) j = ints (xs j) ++ [.int .i64 (x j)] := by
      show ints (xs j ++ [x j]) = _
      simp [ints]
    rw [e]
    exact this
  · have := h.sep a b ha hb hab
    rw [c1 a ha, c1 b hb] at this
    exact this
  · have := h.sepm j hj
    rw [c1 j hj] at this
    exact this
/-- What is asked of an operation. -/
abbrev AskE (q : EnvE) (ρ : GhE → Tmp → Value) (done : Nat → Bool) (g : GhE) (w : World) (i : Nat) (o : Oper) : Prop :=
  Yield Tryd.prog (fun v w' => ∃ g', SE q (updB done i) g' w' ∧ (∀ d, o.dst = some d → ρ g' d = v) ∧ ∀ t, o.dst ≠ some t → ρ g' t = ρ g t) ((execOp (evalBy (ρ g)) o).run Tryd.prog w)
theorem quietE {q : EnvE} {done : Nat → Bool} {g : GhE} {w : World} {ρ : GhE → Tmp → Value} {i : Nat} {o : Oper} (h : SE q done g w) (d : Tmp) (hd : o.dst = some d) (hi : ∀ j, j < 4 → i ≠ 10 * j + 5 ∧ i ≠ 10 * j + 6 ∧ i ≠ 38 + 2 * j)
    (he : (execOp (evalBy (ρ g)) o).run Tryd.prog w = .ok (.value (ρ g d)) w) : AskE q ρ done g w i o := by
  unfold AskE
  rw [he]
  exact ⟨g, h.quiet hi, fun e hE => by rw [hd] at hE; injection hE with hE; subst hE; rfl, fun _ _ => rfl⟩
set_option maxRecDepth 100000 in
theorem buildE {q : EnvE} {done : Nat → Bool} {g : GhE} {w : World} {ρ : GhE → Tmp → Value} {i : Nat} {o : Oper} (h : SE q done g w) (j : Nat) (hj : j < 4) (d : Tmp) (hd : o.dst = some d) (hi : i = 10 * j + 5)
    (he : (execOp (evalBy (ρ g)) o).run Tryd.prog w = .ok (.value (.slice (some ⟨w.heap.size, 0, none⟩) 1 1)) (w.alloc (.cells #[.int .i64 (q.x j)] 3)))
    (h1 : ∀ g' : GhE, ρ g' d = g'.b j) (h2 : ∀ (t : Tmp) (b' : Nat → Value), t ≠ d → (∀ a, a ≠ j → b' a = g.b a) → ρ { g with b := b' } t = ρ g t) : AskE q ρ done g w i o := by
  unfold AskE
  rw [he]
  subst hi
  exact ⟨_, h.build hj, fun e hE => by rw [hd] at hE; injection hE with hE; subst hE; rw [h1]; exact updV_at _ _ _, fun t ht => h2 t _ (fun e => ht (by rw [hd, e])) (fun a ha => updV_ne ha)⟩
set_option maxRecDepth 100000 in
theorem appendE {q : EnvE} {done : Nat → Bool} {g : GhE} {w : World} {ρ : GhE → Tmp → Value} {i : Nat} {o : Oper} (h : SE q done g w) (j : Nat) (hj : j < 4) (d : Tmp) (hd : o.dst = some d) (hi : i = 10 * j + 6) (hu : done i = false) (hb : done (10 * j + 5) = true) (hk : q.k + 1 ≤ 12)
    (s x : Tmp) (ho : o.op = .call { callee := .builtin .append, args := #[.tmp s, .tmp x], argTypes := #[39, 39] }) (hs : ρ g s = q.v j) (hx : ρ g x = g.b j)
    (h1 : ∀ g' : GhE, ρ g' d = g'.c j) (h2 : ∀ (t : Tmp) (c' : Nat → Value), t ≠ d → (∀ a, a ≠ j → c' a = g.c a) → ρ { g with c := c' } t = ρ g t) : AskE q ρ done g w i o := by
  subst hi
  obtain ⟨B, e1, e2, e3⟩ := h.news j hj hb
  obtain ⟨i0, hi0, hz0, hz1, hz2⟩ := info_parts int_info
  have oj := h.own j hj
  have cj : curE q done g j = q.v j := by unfold curE; rw [hu]; rfl
  have lj : lenE q done j = q.k := by unfold lenE; rw [hu]; rfl
  have rj : rowE q done j = ints (q.xs j) := by unfold rowE; rw [hu]; rfl
  rw [cj, lj, rj] at oj
  obtain ⟨v', w', hr, a1, a2, _, a4⟩ := run_append_own_at (P := Tryd.prog) w q.w0.heap.size 39 o.type 3 i0 _ 1 8 Tryd.underlying39 hi0 hz0 hz1 hz2 rfl (by decide) (q.v j) q.k (ints (q.xs j)) oj ⟨B, 0, none⟩ 1 1 [.int .i64 (q.x j)] rfl
    (fun a u hu => by
      match a, hu with
      | 0, hu =>
        have : Value.int .i64 (q.x j) = u := by simpa using hu
        subst this
        have := cell_of_row w B 0 _ 3 (0, 0) e2
        simpa [Addr.add] using this
      | a + 1, hu => simp at hu) (by simp [Value.oneCell']) (by unfold maxLen; omega) (by omega) h.bel.size
  have he : (execOp (evalBy (ρ g)) o).run Tryd.prog w = .ok (.value v') w' := by
    have e2' : evalBy (ρ g) (.tmp s) = q.v j := hs
    have e3' : evalBy (ρ g) (.tmp x) = .slice (some ⟨B, 0, none⟩) 1 1 := hx.trans e1
    unfold execOp
    simp only [ho, resolve, invoke, builtin, Sem.run_bind, Sem.run_pure, Result.andThen_ok, List.map_toArray, List.map_cons, List.map_nil, e2', e3', hr]
  unfold AskE
  rw [he]
  exact ⟨_, h.append hj hu a1 a2 a4, fun e hE => by rw [hd] at hE; injection hE with hE; subst hE; rw [h1]; exact updV_at _ _ _, fun t ht => h2 t _ (fun e => ht (by rw [hd, e])) (fun a ha => updV_ne ha)⟩
set_option maxRecDepth 100000 in
theorem storeE {q : EnvE} {done : Nat → Bool} {g : GhE} {w : World} {ρ : GhE → Tmp → Value} {i : Nat} {o : Oper} (h : SE q done g w) (j : Nat) (hj : j < 4) (hd : o.dst = none) (hi : i = 38 + 2 * j) (ha : done (10 * j + 6) = true) (hh : done (hlE j) = true)
    (he : ∀ A n c, g.c j = .slice A n c → w.frozen? ⟨q.tb, j + 1, none⟩ = false → w.cell? ⟨q.tb, j + 1, none⟩ = some (selE q done g j) → (execOp (evalBy (ρ g)) o).run Tryd.prog w = .ok .skip (w.setCell ⟨q.tb, j + 1, none⟩ (.slice A n c))) : AskE q ρ done g w i o := by
  subst hi
  have oj := h.own j hj
  have cj : curE q done g j = g.c j := by unfold curE; rw [ha]; rfl
  rw [cj] at oj
  obtain ⟨A, n, c, e⟩ : ∃ A n c, g.c j = .slice A n c := by
    rcases oj.2 with ⟨e, _⟩ | ⟨k, cap, cur, e, _⟩
    · exact ⟨_, _, _, e⟩
    · exact ⟨_, _, _, e⟩
  have hc : w.cell? ⟨q.tb, j + 1, none⟩ = some (selE q done g j) := by
    rw [cell_of_row w q.tb (j + 1) _ 41 (0, 0) h.box]
    match j, hj with
    | 0, _ => simp
    | 1, _ => simp
    | 2, _ => simp
    | 3, _ => simp
  unfold AskE
  rw [he A n c e (by simp [World.frozen?, h.box]) hc]
  have := h.store hj ha hh
  rw [e] at this
  exact ⟨g, this, fun d hD => by rw [hd] at hD; exact absurd hD (by simp), fun _ _ => rfl⟩
/-- The box of the truth behind an append to one of its lists. -/
theorem box_kept {w w4 : World} {tb n m : Nat} {base : Nat} {o : Obj} {h0 a b c d v' : Value} {xs ys : List Value} (hb : w.heap[tb]? = some (.cells #[h0, a, b, c, d] 41 (0, 0))) (ho : w.ownsRow base 3 1 h0 n xs) (hg : (w.alloc o).grownBy w4 h0.ownBlock) (hv : w4.ownsRow base 3 1 v' m ys) :
    (∃ ad cap, v' = .slice ad m cap) ∧ w4.frozen? ⟨tb, 0, none⟩ = false ∧ w4.cell? ⟨tb, 0, none⟩ = some h0 := by
  have hb' := ((Below.refl w.heap.size w).alloc (Nat.le_refl _) o)
  have h1 := (hb'.block _ (Array.getElem?_eq_some_iff.1 hb).1).trans hb
  have h2 := (hg.block _ (Array.getElem?_eq_some_iff.1 h1).1 (fun e => own_not (own_next ho hb') h1 (by decide) e.symm)).trans h1
  refine ⟨?_, by simp [World.frozen?, h2], ?_⟩
  · rcases hv.2 with ⟨rfl, rfl⟩ | ⟨g, cap, cur, rfl, _⟩
    · exact ⟨_, _, rfl⟩
    · exact ⟨_, _, rfl⟩
  · have := cell_of_row w4 tb 0 _ 41 (0, 0) h2
    simpa using this
theorem end_shut {w wr : World} {kp : List (Nat × Array Value × TypeId)} {h0 : Value} {n m : Nat} {v : Nat → Value} {ls : List Lay} {ys : List Yr} {lo hi : Int} {warm : Bool} {x : Nat → Int} {g : GhE} {x0 x1 x2 x3 x4 : Value} (hl : ls.length = n) (hm : ys.length = m) (hr : (w.heap.size + 1, #[nilV, nilV, nilV, nilV, nilV], 41) ∈ kp)
    (h : SE ⟨w, w.heap.size + 1 + 1, kp, h0, n, ls.map (meltE warm), m, v, fun a => (ys.take m).map (colE warm lo hi a), x⟩ (fun _ => false) g wr) :
    ExtPost w (extT warm ls lo hi ys) (.returned (.agg #[h0, v 0, v 1, v 2, v 3])) (((((wr.setCell ⟨w.heap.size + 1, 0, none⟩ x0).setCell ⟨w.heap.size + 1, 1, none⟩ x1).setCell ⟨w.heap.size + 1, 2, none⟩ x2).setCell ⟨w.heap.size + 1, 3, none⟩ x3).setCell ⟨w.heap.size + 1, 4, none⟩ x4) := by
  have ht : ys.take m = ys := by rw [← hm]; exact List.take_length
  have hf : ∀ row, Frm wr.heap.size (w.heap.size + 1) row wr (((((wr.setCell ⟨w.heap.size + 1, 0, none⟩ x0).setCell ⟨w.heap.size + 1, 1, none⟩ x1).setCell ⟨w.heap.size + 1, 2, none⟩ x2).setCell ⟨w.heap.size + 1, 3, none⟩ x3).setCell ⟨w.heap.size + 1, 4, none⟩ x4) := fun row =>
    ((((Frm.set_ _ 0 x0).trans (Frm.set_ _ 1 x1)).trans (Frm.set_ _ 2 x2)).trans (Frm.set_ _ 3 x3)).trans (Frm.set_ _ 4 x4)
  have rb := (h.pbk _ hr).1
  have keep : ∀ {n : Nat} {u : Value} {zs : List Value}, wr.ownsRow w.heap.size 3 1 u n zs → (((((wr.setCell ⟨w.heap.size + 1, 0, none⟩ x0).setCell ⟨w.heap.size + 1, 1, none⟩ x1).setCell ⟨w.heap.size + 1, 2, none⟩ x2).setCell ⟨w.heap.size + 1, 3, none⟩ x3).setCell ⟨w.heap.size + 1, 4, none⟩ x4).ownsRow w.heap.size 3 1 u n zs := fun hu =>
    own_frm (row := some (w.heap.size + 1)) (g := w.heap.size + 1) hu (hf _) (own41_ne rb hu) (.inr (own41_ne rb hu))
  have o0 := h.mel
  have o1 := h.own 0 (by decide)
  have o2 := h.own 1 (by decide)
  have o3 := h.own 2 (by decide)
  have o4 := h.own 3 (by decide)
  have hb := h.bel
  simp only [curE, lenE, rowE, ht, Bool.false_eq_true, if_false] at o0 o1 o2 o3 o4 hb
  have e0 : (extT warm ls lo hi ys).ms = ls.map (meltE warm) := rfl
  have e1 : (extT warm ls lo hi ys).ws = ys.map (colE warm lo hi 0) := rfl
  have e2 : (extT warm ls lo hi ys).ss = ys.map (colE warm lo hi 1) := rfl
  have e3 : (extT warm ls lo hi ys).vs = ys.map (colE warm lo hi 2) := rfl
  have e4 : (extT warm ls lo hi ys).ns = ys.map (colE warm lo hi 3) := rfl
  refine ⟨h0, v 0, v 1, v 2, v 3, rfl, ?_, ?_, ?_, ?_, ?_, hb.trans ((hf none).below hb.size (by omega) (by simp))⟩
  · rw [e0, List.length_map, hl]; exact keep o0
  · rw [e1, List.length_map, hm]; exact keep o1
  · rw [e2, List.length_map, hm]; exact keep o2
  · rw [e3, List.length_map, hm]; exact keep o3
  · rw [e4, List.length_map, hm]; exact keep o4
set_option maxRecDepth 100000 in
set_option maxHeartbeats 4000000 in
theorem endR_any (warm : Bool) (A A2 : Option Addr) (n c m c' : Nat) (ls : List Lay) (ys : List Yr) (lo hi : Int) (w : World) (hl : ls.length = n) (hn : n ≤ 6) (hL : LaysAt w w.heap.size A ls)
    (hm : ys.length = m) (hm2 : m ≤ 12) (hY : YrsAt w w.heap.size A2 ys) :
    Calls Tryd.prog 33 #[.agg #[.slice A n c, .int .i64 lo, .int .i64 hi], .slice A2 m c', .bool warm] w (ExtPost w (extT warm ls lo hi ys)) := by
  have HL := Lib.hid hl; clear hl
  have HM := Lib.hid hm; clear hm
  obtain ⟨i0, hi0, hz0, hz1, hz2⟩ := info_parts int_info
  have I0 := Lib.hid hi0; clear hi0
  have Z0 := Lib.hid hz0; clear hz0
  have Z1 := Lib.hid hz1; clear hz1
  have Z2 := Lib.hid hz2; clear hz2
  have hS : ∃ h0 v, (∀ j, j < 4 → v j = nilV) ∧ SE ⟨w, w.heap.size + 1 + 1, [(w.heap.size, #[.slice A n c, .int .i64 lo, .int .i64 hi], 26), (w.heap.size + 1, #[nilV, nilV, nilV, nilV, nilV], 41)], h0, 0, [], 0, v, fun _ => [], fun _ => 0⟩ (fun _ => false) ⟨v, v⟩
      (((w.alloc (.cells #[.slice A n c, .int .i64 lo, .int .i64 hi] 26)).alloc (.cells #[nilV, nilV, nilV, nilV, nilV] 41)).alloc (.cells #[nilV, nilV, nilV, nilV, nilV] 41)) := by
    have hb := heap_alloc_new ((w.alloc (.cells #[.slice A n c, .int .i64 lo, .int .i64 hi] 26)).alloc (.cells #[nilV, nilV, nilV, nilV, nilV] 41)) (.cells #[nilV, nilV, nilV, nilV, nilV] 41)
    have hr := heap_alloc_new (w.alloc (.cells #[.slice A n c, .int .i64 lo, .int .i64 hi] 26)) (.cells #[nilV, nilV, nilV, nilV, nilV] 41)
    have hp := heap_alloc_new w (.cells #[.slice A n c, .int .i64 lo, .int .i64 hi] 26)
    simp only [World.size_alloc] at hb hr
    refine ⟨nilV, fun _ => nilV, fun _ _ => rfl, (((Below.refl _ w).alloc (Nat.le_refl _) _).alloc (by simp) _).alloc (by simp; omega) _, ?_, hb, fun _ _ => World.ownsRow_nil _ _ _ _, World.ownsRow_nil _ _ _ _, fun _ _ _ _ _ _ hB => by simp [curE, nilV, Value.ownBlock] at hB, fun _ _ _ hB => by simp [curE, nilV, Value.ownBlock] at hB, fun _ _ hd => by simp at hd, fun _ _ hd => by simp at hd, by show w.heap.size ≤ w.heap.size + 1 + 1; omega⟩
    intro p hp'
    simp only [List.mem_cons, List.not_mem_nil, or_false] at hp'
    rcases hp' with rfl | rfl
    · exact ⟨(Below.heap_alloc _ _ _ (by simp; omega)).trans ((Below.heap_alloc _ _ _ (by simp)).trans hp), by show (3 : Nat) ≠ 26; decide, by show w.heap.size ≠ w.heap.size + 1 + 1; omega⟩
    · exact ⟨(Below.heap_alloc _ _ _ (by simp)).trans hr, by show (3 : Nat) ≠ 41; decide, by show w.heap.size + 1 ≠ w.heap.size + 1 + 1; omega⟩
  have S0 := Lib.hid hS
  clear hS
  have hn0 : (n : Int) ≤ 6 := by omega
  have hm0 : (m : Int) ≤ 12 := by omega
  obtain ⟨KP, hKP⟩ : ∃ KP, ([(w.heap.size, #[.slice A n c, .int .i64 lo, .int .i64 hi], 26), (w.heap.size + 1, #[nilV, nilV, nilV, nilV, nilV], 41)] : List (Nat × Array Value × TypeId)) = KP := ⟨_, rfl⟩
  rw [hKP] at S0
  have KPH := Lib.hid hKP
  clear hKP
  go_enter Tryd.func33, Tryd.ntmps33
  go_wp2
  go_loopw [8] (fun i wr => ∃ (k : Nat), k ≤ n ∧ i = .int .i64 k ∧ ∃ h0 v, (∀ j, j < 4 → v j = nilV) ∧ SE ⟨w, w.heap.size + 1 + 1, KP, h0, k, (ls.take k).map (meltE warm), 0, v, fun _ => [], fun _ => 0⟩ (fun _ => false) ⟨v, v⟩ wr) (fun i _ => n - (intOf i).toNat)
  case atStart => exact ⟨0, Nat.zero_le _, rfl, S0.out⟩
  case round =>
    obtain ⟨k, hk, rfl, h0, v, hv, hSE⟩ := hrel
    have SS_ := Lib.hid hSE
    have HV := Lib.hid hv
    have hpb := (hSE.pbk (w.heap.size, #[.slice A n c, .int .i64 lo, .int .i64 hi], 26) (by rw [← KPH.out]; simp)).1
    have p0 := cell_of_row wr w.heap.size 0 _ 26 (0, 0) hpb
    simp at p0
    clear hSE hv
    by_cases hlt : k < n
    · obtain ⟨x, hx⟩ := get_of_lt (l := ls) (k := k) (by rw [HL.out]; exact hlt)
      obtain ⟨b1, o1, rfl, hb1, hc1⟩ := hL (by intro h; rw [h] at hx; simp at hx)
      obtain ⟨_, c1, c2⟩ := hc1 k x hx
      replace c1 := ((bcell SS_.out.bel).1 _ _ hb1).trans c1
      replace c2 := ((bcell SS_.out.bel).1 _ _ hb1).trans c2
      have HX := Lib.hid hx
      have hk0 : (0 : Int) ≤ (k : Int) := by omega
      have hk1 : (k : Int) < (n : Int) := by omega
      have hkz : k + 1 ≤ 12 := by omega
      have l0 : wr.cell? ⟨w.heap.size + 1 + 1, 0, none⟩ = some h0 := by
        have := cell_of_row wr (w.heap.size + 1 + 1) 0 _ 41 (0, 0) SS_.out.box
        simpa using this
      obtain ⟨M, hM⟩ : ∃ M, (ls.take k).map (meltE warm) = M := ⟨_, rfl⟩
      rw [hM] at SS_
      have HMM := Lib.hid hM
      clear hM
      have hown0 : wr.ownsRow w.heap.size 3 1 h0 k (ints M) := SS_.out.mel
      have hown := Lib.hid hown0
      have hz : w.heap.size ≤ wr.heap.size := SS_.out.bel.size
      clear hown0
      clear hx hc1
      cases warm
      · go_wp2_with (first
          | (at_builtin
             refine wpList_append_own _ rfl _ _ 39 rfl w.heap.size 3 i0 _ 1 8 Tryd.underlying39 I0.out Z0.out Z1.out Z2.out rfl (by decide) _ _ _ rfl (hown.out.alloc _) ⟨wr.heap.size, 0, none⟩ 1 1 [.int .i64 x.hi] rfl rfl (Go.cell_one_new _ _ _) (by simp [Value.oneCell']) (by unfold maxLen; omega) (by omega) (by simp; omega) ?_
             intro v' w4 hown4 hgrow4 _
             obtain ⟨⟨ad, cap, rfl⟩, hfz4, hc4⟩ := box_kept SS_.out.box SS_.out.mel hgrow4 hown4
             have NX := Lib.hid (rest_melt HV.out SS_.out hown4 hgrow4))
          | fail)
        clear hc4 hfz4
        have em := melts_next (f := meltE false) HX.out
        refine ⟨⟨k + 1, by omega, by go_num, .slice ad (k + 1) cap, ?_⟩, by simp [intOf]; omega⟩
        rw [em, HMM.out]
        exact NX.out
      · go_wp2_with (first
          | (at_builtin
             refine wpList_append_own _ rfl _ _ 39 rfl w.heap.size 3 i0 _ 1 8 Tryd.underlying39 I0.out Z0.out Z1.out Z2.out rfl (by decide) _ _ _ rfl (hown.out.alloc _) ⟨wr.heap.size, 0, none⟩ 1 1 [.int .i64 x.lo] rfl rfl (Go.cell_one_new _ _ _) (by simp [Value.oneCell']) (by unfold maxLen; omega) (by omega) (by simp; omega) ?_
             intro v' w4 hown4 hgrow4 _
             obtain ⟨⟨ad, cap, rfl⟩, hfz4, hc4⟩ := box_kept SS_.out.box SS_.out.mel hgrow4 hown4
             have NX := Lib.hid (rest_melt HV.out SS_.out hown4 hgrow4))
          | fail)
        clear hc4 hfz4
        have em := melts_next (f := meltE true) HX.out
        refine ⟨⟨k + 1, by omega, by go_num, .slice ad (k + 1) cap, ?_⟩, by simp [intOf]; omega⟩
        rw [em, HMM.out]
        exact NX.out
    · obtain rfl : k = n := by omega
      have ht : ls.take k = ls := by rw [← HL.out]; exact List.take_length
      rw [ht] at SS_
      obtain ⟨M, hM⟩ : ∃ M, ls.map (meltE warm) = M := ⟨_, rfl⟩
      rw [hM] at SS_
      have HMM := Lib.hid hM
      have S1 : Hid (SE ⟨w, w.heap.size + 1 + 1, KP, h0, k, M, 0, v, fun _ => [], fun _ => 0⟩ (fun _ => false) ⟨v, v⟩ wr) := SS_
      clear hM ht SS_ HV S0 hpb
      go_wp2
      clear p0
      go_loopw [10] (fun i wq => ∃ (j : Nat), j ≤ m ∧ i = .int .i64 j ∧ ∃ v, SE ⟨w, w.heap.size + 1 + 1, KP, h0, k, M, j, v, fun a => (ys.take j).map (colE warm lo hi a), fun _ => 0⟩ (fun _ => false) ⟨v, v⟩ wq) (fun i _ => m - (intOf i).toNat)
      case atStart => exact ⟨0, Nat.zero_le _, rfl, v, S1.out⟩
      case round =>
        obtain ⟨j, hj, rfl, v, hSE⟩ := hrel
        have SS_ := Lib.hid hSE
        clear hSE S1
        by_cases hlt2 : j < m
        · obtain ⟨y, hy⟩ := get_of_lt (l := ys) (k := j) (by rw [HM.out]; exact hlt2)
          obtain ⟨yb, yo, rfl, hyb, hyc⟩ := hY (by intro h; rw [h] at hy; simp at hy)
          have Y := Lib.hid (hyc j y hy)
          have HYJ := Lib.hid hy
          have hj0 : (0 : Int) ≤ (j : Int) := by omega
          have hj1 : (j : Int) < (m : Int) := by omega
          clear hy hyc
          cases warm
          · go_wp2_with fail
            refine plan_region (γ := GhE) [1, 3, 7, 10] (rhoE 87 (fun t => match t with | 1 => .slice (some ⟨yb, yo, none⟩) m c' | 3 => .pointer (some ⟨w.heap.size, 0, none⟩) | 7 => .pointer (some ⟨w.heap.size + 1 + 1, 0, none⟩) | _ => .int .i64 (j : Int))
                (slotE v (w.heap.size + 1 + 1) w.heap.size yb yo j m (some ⟨yb, yo, none⟩) c' (fun a => colE false lo hi a y) 0 0 1 0)) (SE ⟨w, w.heap.size + 1 + 1, KP, h0, k, M, j, v, fun a => (ys.take j).map (colE false lo hi a), fun a => colE false lo hi a y⟩) ⟨v, v⟩ (by kernel_rfl) (by kernel_rfl) (by kernel_rfl) (by kernel_rfl) (by kernel_rfl) ?_ ?_ ?_ ?_
            · intro t ht
              simp only [List.mem_cons, List.not_mem_nil, or_false] at ht
              rcases ht with rfl | rfl | rfl | rfl <;> rfl
            · exact (SE.with_x SS_.out _).drew
            · refine allOps_array ?_
              have hk12 : j + 1 ≤ 12 := by omega
              have hbox : ∀ {done : Nat → Bool} {g : GhE} {w' : World} {a : Nat}, SE ⟨w, w.heap.size + 1 + 1, KP, h0, k, M, j, v, fun a => (ys.take j).map (colE false lo hi a), fun a => colE false lo hi a y⟩ done g w' → a < 4 → done (hlE a) = false → w'.cell? ⟨w.heap.size + 1 + 1, a + 1, none⟩ = some (v a) := fun hS ha hd => hS.head ha hd
              have hpc : ∀ {done : Nat → Bool} {g : GhE} {w' : World}, SE ⟨w, w.heap.size + 1 + 1, KP, h0, k, M, j, v, fun a => (ys.take j).map (colE false lo hi a), fun a => colE false lo hi a y⟩ done g w' → w'.cell? ⟨w.heap.size, 1, none⟩ = some (.int .i64 lo) := fun {done g w'} hS => by
                have := (hS.pbk (w.heap.size, #[.slice A k c, .int .i64 lo, .int .i64 hi], 26) (by rw [← KPH.out]; simp)).1
                have := cell_of_row w' w.heap.size 1 _ 26 (0, 0) this
                simpa using this
              have hyc1 : ∀ {done : Nat → Bool} {g : GhE} {w' : World}, SE ⟨w, w.heap.size + 1 + 1, KP, h0, k, M, j, v, fun a => (ys.take j).map (colE false lo hi a), fun a => colE false lo hi a y⟩ done g w' → w'.cell? ⟨yb, yo + j * 6, none⟩ = some (.int .i64 y.sl) := fun hS => ((bcell hS.bel).1 _ _ hyb).trans Y.out.1
              have hyc2 : ∀ {done : Nat → Bool} {g : GhE} {w' : World}, SE ⟨w, w.heap.size + 1 + 1, KP, h0, k, M, j, v, fun a => (ys.take j).map (colE false lo hi a), fun a => colE false lo hi a y⟩ done g w' → w'.cell? ⟨yb, yo + j * 6 + 3, none⟩ = some (.int .i64 y.wh) := fun hS => ((bcell hS.bel).1 _ _ hyb).trans Y.out.2.2.2.1
              have hyc3 : ∀ {done : Nat → Bool} {g : GhE} {w' : World}, SE ⟨w, w.heap.size + 1 + 1, KP, h0, k, M, j, v, fun a => (ys.take j).map (colE false lo hi a), fun a => colE false lo hi a y⟩ done g w' → w'.cell? ⟨yb, yo + j * 6 + 4, none⟩ = some (.int .i64 y.nl) := fun hS => ((bcell hS.bel).1 _ _ hyb).trans Y.out.2.2.2.2.1
              refine ⟨?_, ?_, ?_, ?_, ?_, ?_, ?_, ?_, ?_, ?_, ?_, ?_, ?_, ?_, ?_, ?_, ?_, ?_, ?_, ?_, ?_, ?_, ?_, ?_, ?_, ?_, ?_, ?_, ?_, ?_, ?_, ?_, ?_, ?_, ?_, ?_, ?_, ?_, ?_, ?_, ?_, ?_, ?_, ?_, ?_, trivial⟩
              · intro done g w' hS hu hdep _
                refine quietE hS 87 rfl (by decide) ?_
                simp [go_sem, evalBy, rhoE, slotE]
              · intro done g w' hS hu hdep _
                have h1 := hbox hS (a := 0) (by decide) hu
                refine quietE hS 88 rfl (by decide) ?_
                simp [go_sem, evalBy, rhoE, slotE, h1]
              · intro done g w' hS hu hdep _
                refine quietE hS 89 rfl (by decide) ?_
                simp [go_sem, evalBy, rhoE, slotE]
              · intro done g w' hS hu hdep _
                refine quietE hS 90 rfl (by decide) ?_
                simp [go_sem, evalBy, rhoE, slotE]
              · intro done g w' hS hu hdep _
                have h1 := hpc hS
                refine quietE hS 91 rfl (by decide) ?_
                simp [go_sem, evalBy, rhoE, slotE, h1, colE]
              · intro done g w' hS hu hdep _
                refine buildE hS 0 (by decide) 92 rfl rfl ?_ (fun _ => rfl) (fun t b' ht hb => rhoE_of (i := 5) rfl ht (slotE_b hb))
                simp [go_sem, evalBy, rhoE, slotE]
              · intro done g w' hS hu hdep _
                refine appendE hS 0 (by decide) 93 rfl rfl hu (hdep ⟨5, .data⟩ (by simp) rfl) hk12 88 92 rfl rfl rfl (fun _ => rfl) (fun t c' ht hc => rhoE_of (i := 6) rfl ht (slotE_c hc))
              · intro done g w' hS hu hdep _
                refine quietE hS 94 rfl (by decide) ?_
                simp [go_sem, evalBy, rhoE, slotE]
              · intro done g w' hS hu hdep _
                have h1 := hbox hS (a := 1) (by decide) hu
                refine quietE hS 95 rfl (by decide) ?_
                simp [go_sem, evalBy, rhoE, slotE, h1]
              · intro done g w' hS hu hdep _
                refine quietE hS 96 rfl (by decide) ?_
                simp [go_sem, evalBy, rhoE, slotE]
              · intro done g w' hS hu hdep _
                refine quietE hS 97 rfl (by decide) ?_
                simp [go_sem, evalBy, rhoE, slotE]
              · intro done g w' hS hu hdep _
                refine quietE hS 98 rfl (by decide) ?_
                simp [go_sem, evalBy, rhoE, slotE, hj0, hj1]
              · intro done g w' hS hu hdep _
                refine quietE hS 99 rfl (by decide) ?_
                simp [go_sem, evalBy, rhoE, slotE]
              · intro done g w' hS hu hdep _
                refine quietE hS 100 rfl (by decide) ?_
                simp [go_sem, evalBy, rhoE, slotE]
              · intro done g w' hS hu hdep _
                have h1 := hyc1 hS
                refine quietE hS 101 rfl (by decide) ?_
                simp [go_sem, evalBy, rhoE, slotE, h1, colE]
              · intro done g w' hS hu hdep _
                refine buildE hS 1 (by decide) 102 rfl rfl ?_ (fun _ => rfl) (fun t b' ht hb => rhoE_of (i := 15) rfl ht (slotE_b hb))
                simp [go_sem, evalBy, rhoE, slotE]
              · intro done g w' hS hu hdep _
                refine appendE hS 1 (by decide) 103 rfl rfl hu (hdep ⟨15, .data⟩ (by simp) rfl) hk12 95 102 rfl rfl rfl (fun _ => rfl) (fun t c' ht hc => rhoE_of (i := 16) rfl ht (slotE_c hc))
              · intro done g w' hS hu hdep _
                refine quietE hS 104 rfl (by decide) ?_
                simp [go_sem, evalBy, rhoE, slotE]
              · intro done g w' hS hu hdep _
                have h1 := hbox hS (a := 2) (by decide) hu
                refine quietE hS 105 rfl (by decide) ?_
                simp [go_sem, evalBy, rhoE, slotE, h1]
              · intro done g w' hS hu hdep _
                refine quietE hS 106 rfl (by decide) ?_
                simp [go_sem, evalBy, rhoE, slotE]
              · intro done g w' hS hu hdep _
                refine quietE hS 107 rfl (by decide) ?_
                simp [go_sem, evalBy, rhoE, slotE]
              · intro done g w' hS hu hdep _
                refine quietE hS 108 rfl (by decide) ?_
                simp [go_sem, evalBy, rhoE, slotE, hj0, hj1]
              · intro done g w' hS hu hdep _
                refine quietE hS 109 rfl (by decide) ?_
                simp [go_sem, evalBy, rhoE, slotE]
              · intro done g w' hS hu hdep _
                refine quietE hS 110 rfl (by decide) ?_
                simp [go_sem, evalBy, rhoE, slotE]
              · intro done g w' hS hu hdep _
                have h1 := hyc2 hS
                refine quietE hS 111 rfl (by decide) ?_
                simp [go_sem, evalBy, rhoE, slotE, h1, colE]
              · intro done g w' hS hu hdep _
                refine buildE hS 2 (by decide) 112 rfl rfl ?_ (fun _ => rfl) (fun t b' ht hb => rhoE_of (i := 25) rfl ht (slotE_b hb))
                simp [go_sem, evalBy, rhoE, slotE]
              · intro done g w' hS hu hdep _
                refine appendE hS 2 (by decide) 113 rfl rfl hu (hdep ⟨25, .data⟩ (by simp) rfl) hk12 105 112 rfl rfl rfl (fun _ => rfl) (fun t c' ht hc => rhoE_of (i := 26) rfl ht (slotE_c hc))
              · intro done g w' hS hu hdep _
                refine quietE hS 114 rfl (by decide) ?_
                simp [go_sem, evalBy, rhoE, slotE]
              · intro done g w' hS hu hdep _
                have h1 := hbox hS (a := 3) (by decide) hu
                refine quietE hS 115 rfl (by decide) ?_
                simp [go_sem, evalBy, rhoE, slotE, h1]
              · intro done g w' hS hu hdep _
                refine quietE hS 116 rfl (by decide) ?_
                simp [go_sem, evalBy, rhoE, slotE]
              · intro done g w' hS hu hdep _
                refine quietE hS 117 rfl (by decide) ?_
                simp [go_sem, evalBy, rhoE, slotE]
              · intro done g w' hS hu hdep _
                refine quietE hS 118 rfl (by decide) ?_
                simp [go_sem, evalBy, rhoE, slotE, hj0, hj1]
              · intro done g w' hS hu hdep _
                refine quietE hS 119 rfl (by decide) ?_
                simp [go_sem, evalBy, rhoE, slotE]
              · intro done g w' hS hu hdep _
                refine quietE hS 120 rfl (by decide) ?_
                simp [go_sem, evalBy, rhoE, slotE]
              · intro done g w' hS hu hdep _
                have h1 := hyc3 hS
                refine quietE hS 121 rfl (by decide) ?_
                simp [go_sem, evalBy, rhoE, slotE, h1, colE]
              · intro done g w' hS hu hdep _
                refine buildE hS 3 (by decide) 122 rfl rfl ?_ (fun _ => rfl) (fun t b' ht hb => rhoE_of (i := 35) rfl ht (slotE_b hb))
                simp [go_sem, evalBy, rhoE, slotE]
              · intro done g w' hS hu hdep _
                refine appendE hS 3 (by decide) 123 rfl rfl hu (hdep ⟨35, .data⟩ (by simp) rfl) hk12 115 122 rfl rfl rfl (fun _ => rfl) (fun t c' ht hc => rhoE_of (i := 36) rfl ht (slotE_c hc))
              · intro done g w' hS hu hdep _
                refine quietE hS 124 rfl (by decide) ?_
                simp [go_sem, evalBy, rhoE, slotE]
              · intro done g w' hS hu hdep _
                refine storeE hS 0 (by decide) rfl rfl (hdep ⟨6, .data⟩ (by simp) rfl) (hdep ⟨1, .phase⟩ (by simp) rfl) ?_
                intro A3 n3 c3 hc hf hl
                simp [go_sem, evalBy, rhoE, slotE, hc, hf, hl]
              · intro done g w' hS hu hdep _
                refine quietE hS 125 rfl (by decide) ?_
                simp [go_sem, evalBy, rhoE, slotE]
              · intro done g w' hS hu hdep _
                refine storeE hS 1 (by decide) rfl rfl (hdep ⟨16, .data⟩ (by simp) rfl) (hdep ⟨8, .phase⟩ (by simp) rfl) ?_
                intro A3 n3 c3 hc hf hl
                simp [go_sem, evalBy, rhoE, slotE, hc, hf, hl]
              · intro done g w' hS hu hdep _
                refine quietE hS 126 rfl (by decide) ?_
                simp [go_sem, evalBy, rhoE, slotE]
              · intro done g w' hS hu hdep _
                refine storeE hS 2 (by decide) rfl rfl (hdep ⟨26, .data⟩ (by simp) rfl) (hdep ⟨18, .phase⟩ (by simp) rfl) ?_
                intro A3 n3 c3 hc hf hl
                simp [go_sem, evalBy, rhoE, slotE, hc, hf, hl]
              · intro done g w' hS hu hdep _
                refine quietE hS 127 rfl (by decide) ?_
                simp [go_sem, evalBy, rhoE, slotE]
              · intro done g w' hS hu hdep _
                refine storeE hS 3 (by decide) rfl rfl (hdep ⟨36, .data⟩ (by simp) rfl) (hdep ⟨28, .phase⟩ (by simp) rfl) ?_
                intro A3 n3 c3 hc hf hl
                simp [go_sem, evalBy, rhoE, slotE, hc, hf, hl]
            · intro g wq hS
              have NX := Lib.hid hS.after
              clear hS
              simp [putAll, Act.put, rhoE, slotE]
              go_wp2_with fail
              refine ⟨⟨j + 1, by omega, by go_num, g.c, ?_⟩, by simp [intOf]; omega⟩
              have e : (fun a => (ys.take (j + 1)).map (colE false lo hi a)) = fun a => (ys.take j).map (colE false lo hi a) ++ [colE false lo hi a y] := funext fun a => melts_next HYJ.out
              rw [e]
              exact NX.out
          · go_wp2_with fail
            refine plan_region (γ := GhE) [1, 3, 7, 10] (rhoE 46 (fun t => match t with | 1 => .slice (some ⟨yb, yo, none⟩) m c' | 3 => .pointer (some ⟨w.heap.size, 0, none⟩) | 7 => .pointer (some ⟨w.heap.size + 1 + 1, 0, none⟩) | _ => .int .i64 (j : Int))
                (slotE v (w.heap.size + 1 + 1) w.heap.size yb yo j m (some ⟨yb, yo, none⟩) c' (fun a => colE true lo hi a y) 1 1 0 1)) (SE ⟨w, w.heap.size + 1 + 1, KP, h0, k, M, j, v, fun a => (ys.take j).map (colE true lo hi a), fun a => colE true lo hi a y⟩) ⟨v, v⟩ (by kernel_rfl) (by kernel_rfl) (by kernel_rfl) (by kernel_rfl) (by kernel_rfl) ?_ ?_ ?_ ?_
            · intro t ht
              simp only [List.mem_cons, List.not_mem_nil, or_false] at ht
              rcases ht with rfl | rfl | rfl | rfl <;> rfl
            · exact (SE.with_x SS_.out _).drew
            · refine allOps_array ?_
              have hk12 : j + 1 ≤ 12 := by omega
              have hbox : ∀ {done : Nat → Bool} {g : GhE} {w' : World} {a : Nat}, SE ⟨w, w.heap.size + 1 + 1, KP, h0, k, M, j, v, fun a => (ys.take j).map (colE true lo hi a), fun a => colE true lo hi a y⟩ done g w' → a < 4 → done (hlE a) = false → w'.cell? ⟨w.heap.size + 1 + 1, a + 1, none⟩ = some (v a) := fun hS ha hd => hS.head ha hd
              have hpc : ∀ {done : Nat → Bool} {g : GhE} {w' : World}, SE ⟨w, w.heap.size + 1 + 1, KP, h0, k, M, j, v, fun a => (ys.take j).map (colE true lo hi a), fun a => colE true lo hi a y⟩ done g w' → w'.cell? ⟨w.heap.size, 2, none⟩ = some (.int .i64 hi) := fun {done g w'} hS => by
                have := (hS.pbk (w.heap.size, #[.slice A k c, .int .i64 lo, .int .i64 hi], 26) (by rw [← KPH.out]; simp)).1
                have := cell_of_row w' w.heap.size 2 _ 26 (0, 0) this
                simpa using this
              have hyc1 : ∀ {done : Nat → Bool} {g : GhE} {w' : World}, SE ⟨w, w.heap.size + 1 + 1, KP, h0, k, M, j, v, fun a => (ys.take j).map (colE true lo hi a), fun a => colE true lo hi a y⟩ done g w' → w'.cell? ⟨yb, yo + j * 6 + 1, none⟩ = some (.int .i64 y.sh) := fun hS => ((bcell hS.bel).1 _ _ hyb).trans Y.out.2.1
              have hyc2 : ∀ {done : Nat → Bool} {g : GhE} {w' : World}, SE ⟨w, w.heap.size + 1 + 1, KP, h0, k, M, j, v, fun a => (ys.take j).map (colE true lo hi a), fun a => colE true lo hi a y⟩ done g w' → w'.cell? ⟨yb, yo + j * 6 + 2, none⟩ = some (.int .i64 y.wl) := fun hS => ((bcell hS.bel).1 _ _ hyb).trans Y.out.2.2.1
              have hyc3 : ∀ {done : Nat → Bool} {g : GhE} {w' : World}, SE ⟨w, w.heap.size + 1 + 1, KP, h0, k, M, j, v, fun a => (ys.take j).map (colE true lo hi a), fun a => colE true lo hi a y⟩ done g w' → w'.cell? ⟨yb, yo + j * 6 + 5, none⟩ = some (.int .i64 y.nh) := fun hS => ((bcell hS.bel).1 _ _ hyb).trans Y.out.2.2.2.2.2
              refine ⟨?_, ?_, ?_, ?_, ?_, ?_, ?_, ?_, ?_, ?_, ?_, ?_, ?_, ?_, ?_, ?_, ?_, ?_, ?_, ?_, ?_, ?_, ?_, ?_, ?_, ?_, ?_, ?_, ?_, ?_, ?_, ?_, ?_, ?_, ?_, ?_, ?_, ?_, ?_, ?_, ?_, ?_, ?_, ?_, ?_, trivial⟩
              · intro done g w' hS hu hdep _
                refine quietE hS 46 rfl (by decide) ?_
                simp [go_sem, evalBy, rhoE, slotE]
              · intro done g w' hS hu hdep _
                have h1 := hbox hS (a := 0) (by decide) hu
                refine quietE hS 47 rfl (by decide) ?_
                simp [go_sem, evalBy, rhoE, slotE, h1]
              · intro done g w' hS hu hdep _
                refine quietE hS 48 rfl (by decide) ?_
                simp [go_sem, evalBy, rhoE, slotE]
              · intro done g w' hS hu hdep _
                refine quietE hS 49 rfl (by decide) ?_
                simp [go_sem, evalBy, rhoE, slotE]
              · intro done g w' hS hu hdep _
                have h1 := hpc hS
                refine quietE hS 50 rfl (by decide) ?_
                simp [go_sem, evalBy, rhoE, slotE, h1, colE]
              · intro done g w' hS hu hdep _
                refine buildE hS 0 (by decide) 51 rfl rfl ?_ (fun _ => rfl) (fun t b' ht hb => rhoE_of (i := 5) rfl ht (slotE_b hb))
                simp [go_sem, evalBy, rhoE, slotE]
              · intro done g w' hS hu hdep _
                refine appendE hS 0 (by decide) 52 rfl rfl hu (hdep ⟨5, .data⟩ (by simp) rfl) hk12 47 51 rfl rfl rfl (fun _ => rfl) (fun t c' ht hc => rhoE_of (i := 6) rfl ht (slotE_c hc))
              · intro done g w' hS hu hdep _
                refine quietE hS 53 rfl (by decide) ?_
                simp [go_sem, evalBy, rhoE, slotE]
              · intro done g w' hS hu hdep _
                have h1 := hbox hS (a := 1) (by decide) hu
                refine quietE hS 54 rfl (by decide) ?_
                simp [go_sem, evalBy, rhoE, slotE, h1]
              · intro done g w' hS hu hdep _
                refine quietE hS 55 rfl (by decide) ?_
                simp [go_sem, evalBy, rhoE, slotE]
              · intro done g w' hS hu hdep _
                refine quietE hS 56 rfl (by decide) ?_
                simp [go_sem, evalBy, rhoE, slotE]
              · intro done g w' hS hu hdep _
                refine quietE hS 57 rfl (by decide) ?_
                simp [go_sem, evalBy, rhoE, slotE, hj0, hj1]
              · intro done g w' hS hu hdep _
                refine quietE hS 58 rfl (by decide) ?_
                simp [go_sem, evalBy, rhoE, slotE]
              · intro done g w' hS hu hdep _
                refine quietE hS 59 rfl (by decide) ?_
                simp [go_sem, evalBy, rhoE, slotE]
              · intro done g w' hS hu hdep _
                have h1 := hyc1 hS
                refine quietE hS 60 rfl (by decide) ?_
                simp [go_sem, evalBy, rhoE, slotE, h1, colE]
              · intro done g w' hS hu hdep _
                refine buildE hS 1 (by decide) 61 rfl rfl ?_ (fun _ => rfl) (fun t b' ht hb => rhoE_of (i := 15) rfl ht (slotE_b hb))
                simp [go_sem, evalBy, rhoE, slotE]
              · intro done g w' hS hu hdep _
                refine appendE hS 1 (by decide) 62 rfl rfl hu (hdep ⟨15, .data⟩ (by simp) rfl) hk12 54 61 rfl rfl rfl (fun _ => rfl) (fun t c' ht hc => rhoE_of (i := 16) rfl ht (slotE_c hc))
              · intro done g w' hS hu hdep _
                refine quietE hS 63 rfl (by decide) ?_
                simp [go_sem, evalBy, rhoE, slotE]
              · intro done g w' hS hu hdep _
                have h1 := hbox hS (a := 2) (by decide) hu
                refine quietE hS 64 rfl (by decide) ?_
                simp [go_sem, evalBy, rhoE, slotE, h1]
              · intro done g w' hS hu hdep _
                refine quietE hS 65 rfl (by decide) ?_
                simp [go_sem, evalBy, rhoE, slotE]
              · intro done g w' hS hu hdep _
                refine quietE hS 66 rfl (by decide) ?_
                simp [go_sem, evalBy, rhoE, slotE]
              · intro done g w' hS hu hdep _
                refine quietE hS 67 rfl (by decide) ?_
                simp [go_sem, evalBy, rhoE, slotE, hj0, hj1]
              · intro done g w' hS hu hdep _
                refine quietE hS 68 rfl (by decide) ?_
                simp [go_sem, evalBy, rhoE, slotE]
              · intro done g w' hS hu hdep _
                refine quietE hS 69 rfl (by decide) ?_
                simp [go_sem, evalBy, rhoE, slotE]
              · intro done g w' hS hu hdep _
                have h1 := hyc2 hS
                refine quietE hS 70 rfl (by decide) ?_
                simp [go_sem, evalBy, rhoE, slotE, h1, colE]
              · intro done g w' hS hu hdep _
                refine buildE hS 2 (by decide) 71 rfl rfl ?_ (fun _ => rfl) (fun t b' ht hb => rhoE_of (i := 25) rfl ht (slotE_b hb))
                simp [go_sem, evalBy, rhoE, slotE]
              · intro done g w' hS hu hdep _
                refine appendE hS 2 (by decide) 72 rfl rfl hu (hdep ⟨25, .data⟩ (by simp) rfl) hk12 64 71 rfl rfl rfl (fun _ => rfl) (fun t c' ht hc => rhoE_of (i := 26) rfl ht (slotE_c hc))
              · intro done g w' hS hu hdep _
                refine quietE hS 73 rfl (by decide) ?_
                simp [go_sem, evalBy, rhoE, slotE]
              · intro done g w' hS hu hdep _
                have h1 := hbox hS (a := 3) (by decide) hu
                refine quietE hS 74 rfl (by decide) ?_
                simp [go_sem, evalBy, rhoE, slotE, h1]
              · intro done g w' hS hu hdep _
                refine quietE hS 75 rfl (by decide) ?_
                simp [go_sem, evalBy, rhoE, slotE]
              · intro done g w' hS hu hdep _
                refine quietE hS 76 rfl (by decide) ?_
                simp [go_sem, evalBy, rhoE, slotE]
              · intro done g w' hS hu hdep _
                refine quietE hS 77 rfl (by decide) ?_
                simp [go_sem, evalBy, rhoE, slotE, hj0, hj1]
              · intro done g w' hS hu hdep _
                refine quietE hS 78 rfl (by decide) ?_
                simp [go_sem, evalBy, rhoE, slotE]
              · intro done g w' hS hu hdep _
                refine quietE hS 79 rfl (by decide) ?_
                simp [go_sem, evalBy, rhoE, slotE]
              · intro done g w' hS hu hdep _
                have h1 := hyc3 hS
                refine quietE hS 80 rfl (by decide) ?_
                simp [go_sem, evalBy, rhoE, slotE, h1, colE]
              · intro done g w' hS hu hdep _
                refine buildE hS 3 (by decide) 81 rfl rfl ?_ (fun _ => rfl) (fun t b' ht hb => rhoE_of (i := 35) rfl ht (slotE_b hb))
                simp [go_sem, evalBy, rhoE, slotE]
              · intro done g w' hS hu hdep _
                refine appendE hS 3 (by decide) 82 rfl rfl hu (hdep ⟨35, .data⟩ (by simp) rfl) hk12 74 81 rfl rfl rfl (fun _ => rfl) (fun t c' ht hc => rhoE_of (i := 36) rfl ht (slotE_c hc))
              · intro done g w' hS hu hdep _
                refine quietE hS 83 rfl (by decide) ?_
                simp [go_sem, evalBy, rhoE, slotE]
              · intro done g w' hS hu hdep _
                refine storeE hS 0 (by decide) rfl rfl (hdep ⟨6, .data⟩ (by simp) rfl) (hdep ⟨1, .phase⟩ (by simp) rfl) ?_
                intro A3 n3 c3 hc hf hl
                simp [go_sem, evalBy, rhoE, slotE, hc, hf, hl]
              · intro done g w' hS hu hdep _
                refine quietE hS 84 rfl (by decide) ?_
                simp [go_sem, evalBy, rhoE, slotE]
              · intro done g w' hS hu hdep _
                refine storeE hS 1 (by decide) rfl rfl (hdep ⟨16, .data⟩ (by simp) rfl) (hdep ⟨8, .phase⟩ (by simp) rfl) ?_
                intro A3 n3 c3 hc hf hl
                simp [go_sem, evalBy, rhoE, slotE, hc, hf, hl]
              · intro done g w' hS hu hdep _
                refine quietE hS 85 rfl (by decide) ?_
                simp [go_sem, evalBy, rhoE, slotE]
              · intro done g w' hS hu hdep _
                refine storeE hS 2 (by decide) rfl rfl (hdep ⟨26, .data⟩ (by simp) rfl) (hdep ⟨18, .phase⟩ (by simp) rfl) ?_
                intro A3 n3 c3 hc hf hl
                simp [go_sem, evalBy, rhoE, slotE, hc, hf, hl]
              · intro done g w' hS hu hdep _
                refine quietE hS 86 rfl (by decide) ?_
                simp [go_sem, evalBy, rhoE, slotE]
              · intro done g w' hS hu hdep _
                refine storeE hS 3 (by decide) rfl rfl (hdep ⟨36, .data⟩ (by simp) rfl) (hdep ⟨28, .phase⟩ (by simp) rfl) ?_
                intro A3 n3 c3 hc hf hl
                simp [go_sem, evalBy, rhoE, slotE, hc, hf, hl]
            · intro g wq hS
              have NX := Lib.hid hS.after
              clear hS
              simp [putAll, Act.put, rhoE, slotE]
              go_wp2_with fail
              refine ⟨⟨j + 1, by omega, by go_num, g.c, ?_⟩, by simp [intOf]; omega⟩
              have e : (fun a => (ys.take (j + 1)).map (colE true lo hi a)) = fun a => (ys.take j).map (colE true lo hi a) ++ [colE true lo hi a y] := funext fun a => melts_next HYJ.out
              rw [e]
              exact NX.out
        · obtain rfl : j = m := by omega
          have hrbm : (w.heap.size + 1, #[nilV, nilV, nilV, nilV, nilV], 41) ∈ KP := by rw [← KPH.out]; simp
          have RB := Lib.hid hrbm
          have rb := (SS_.out.pbk _ hrbm).1
          have cT := fun i => cell_of_row wr (w.heap.size + 1 + 1) i _ 41 (0, 0) SS_.out.box
          have cR := fun i => cell_of_row wr (w.heap.size + 1) i _ 41 (0, 0) rb
          have fR : ∀ i, wr.frozen? ⟨w.heap.size + 1, i, none⟩ = false := fun i => by simp [World.frozen?, rb]
          have t0 := cT 0
          have t1 := cT 1
          have t2 := cT 2
          have t3 := cT 3
          have t4 := cT 4
          have s0 := cR 0
          have s1 := cR 1
          have s2 := cR 2
          have s3 := cR 3
          have s4 := cR 4
          have f0 := fR 0
          have f1 := fR 1
          have f2 := fR 2
          have f3 := fR 3
          have f4 := fR 4
          simp [selE] at t0 t1 t2 t3 t4 s0 s1 s2 s3 s4
          clear cT cR fR hrbm rb
          obtain ⟨a0, n0, c0, rfl⟩ := own_slice SS_.out.mel
          obtain ⟨a1, n1, c1, w1⟩ := own_slice (SS_.out.own 0 (by decide))
          obtain ⟨a2, n2, c2, w2⟩ := own_slice (SS_.out.own 1 (by decide))
          obtain ⟨a3, n3, c3, w3⟩ := own_slice (SS_.out.own 2 (by decide))
          obtain ⟨a4, n4, c4, w4⟩ := own_slice (SS_.out.own 3 (by decide))
          replace w1 : v 0 = .slice a1 n1 c1 := w1
          replace w2 : v 1 = .slice a2 n2 c2 := w2
          replace w3 : v 2 = .slice a3 n3 c3 := w3
          replace w4 : v 3 = .slice a4 n4 c4 := w4
          rw [w1] at t1
          rw [w2] at t2
          rw [w3] at t3
          rw [w4] at t4
          have fin := end_shut (x0 := .slice a0 n0 c0) (x1 := .slice a1 n1 c1) (x2 := .slice a2 n2 c2) (x3 := .slice a3 n3 c3) (x4 := .slice a4 n4 c4) HL.out HM.out RB.out (by rw [HMM.out]; exact SS_.out)
          rw [w1, w2, w3, w4] at fin
          have FIN := Lib.hid fin
          clear fin w1 w2 w3 w4
          go_wp2
          exact bodyPost_ret (v := .agg #[.slice a0 n0 c0, .slice a1 n1 c1, .slice a2 n2 c2, .slice a3 n3 c3, .slice a4 n4 c4]) (by simp [results, Tryd.results33, go_sem, s0, s1, s2, s3, s4]) rfl FIN.out
end Go.Proofs.YtccekbdhffccdaaDoor
