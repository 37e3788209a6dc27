/- What a place that is followed holds in memory, and what a step keeps of it. -/
import Derived.Test.YtccekbdhffccdaaDoorB
import Derived.Laws.OwnMore
import Derived.Deep.AppendLies
import Derived.Deep.Draws
namespace Go.Proofs.YtccekbdhffccdaaDoor
open Go.RowKit

/-- Block g is the cells of a place that is followed. -/
def FB (w : World) (g : Nat) (cs : Array Value) : Prop := w.heap[g]? = some (.cells cs 103 (0, 0))
theorem FB.lt {w : World} {g : Nat} {cs : Array Value} (h : FB w g cs) : g < w.heap.size := (Array.getElem?_eq_some_iff.1 h).1
theorem FB.cell {w : World} {g : Nat} {cs : Array Value} (h : FB w g cs) (i : Nat) : w.cell? ⟨g, i, none⟩ = cs[i]? := cell_of_row w g i cs 103 (0, 0) h
theorem FB.frozen {w : World} {g : Nat} {cs : Array Value} (h : FB w g cs) (i : Nat) : w.frozen? ⟨g, i, none⟩ = false := by
  unfold FB at h
  simp [World.frozen?, h]
theorem FB.set_ {w : World} {g : Nat} {cs : Array Value} (h : FB w g cs) (i : Nat) (u : Value) : FB (w.setCell ⟨g, i, none⟩ u) g (cs.setIfInBounds i u) := by
  unfold FB at h ⊢
  simp [World.setCell, Array.getElem?_modify, h]
theorem FB.next {w w' : World} {g : Nat} {cs : Array Value} (h : FB w g cs) (hb : Below w.heap.size w w') : FB w' g cs := (hb.block g h.lt).trans h
theorem FB.ne_row {w : World} {g : Nat} {cs : Array Value} (h : FB w g cs) {base : Nat} {size n : Nat} {v : Value} {xs : List Value} (ho : w.ownsRow base 3 size v n xs) : v.ownBlock ≠ some g := by
  rcases ho.2 with ⟨rfl, _⟩ | ⟨g', cap, cur, rfl, _, hh, _⟩
  · simp [Value.ownBlock]
  · intro he
    have : g' = g := by simpa [Value.ownBlock] using he
    subst this
    unfold FB at h
    rw [hh] at h
    injection h with h
    injection h with _ ht
    exact absurd ht (by decide)

/-- What lay below n, but for block g and a row, lies as it lay. -/
structure Frm (n g : Nat) (row : Option Nat) (w w' : World) : Prop where
  os : w'.os = w.os
  tape : w'.tape = w.tape
  output : w'.output = w.output
  size : w.heap.size ≤ w'.heap.size
  block : ∀ b, b < n → b ≠ g → some b ≠ row → w'.heap[b]? = w.heap[b]?
theorem Frm.of_below {n g : Nat} {row : Option Nat} {w w' : World} (h : Below n w w') : Frm n g row w w' := ⟨h.os, h.tape, h.output, h.size, fun b hb _ _ => h.block b hb⟩
theorem Frm.trans {n g : Nat} {row : Option Nat} {a b c : World} (h : Frm n g row a b) (k : Frm n g row b c) : Frm n g row a c :=
  ⟨k.os.trans h.os, k.tape.trans h.tape, k.output.trans h.output, Nat.le_trans h.size k.size, fun x hx h1 h2 => (k.block x hx h1 h2).trans (h.block x hx h1 h2)⟩
theorem Frm.set_ {n g : Nat} {row : Option Nat} (w : World) (i : Nat) (u : Value) : Frm n g row w (w.setCell ⟨g, i, none⟩ u) :=
  ⟨rfl, rfl, rfl, by simp [World.setCell], fun b _ hb _ => Below.heap_setCell w ⟨g, i, none⟩ u b hb⟩
theorem Frm.grown {n g : Nat} {row : Option Nat} {w w' : World} (h : w.grownBy w' row) (hn : n ≤ w.heap.size) : Frm n g row w w' :=
  ⟨h.os, h.tape, h.output, h.size, fun b hb _ hr => h.block b (by omega) hr⟩
theorem Frm.mono {n m g : Nat} {row : Option Nat} {w w' : World} (h : Frm m g row w w') (hn : n ≤ m) : Frm n g row w w' := ⟨h.os, h.tape, h.output, h.size, fun b hb => h.block b (by omega)⟩
theorem Frm.below {n B g : Nat} {row : Option Nat} {w w' : World} (h : Frm n g row w w') (hn : B ≤ n) (hg : B ≤ g) (hr : ∀ k, row = some k → B ≤ k) : Below B w w' :=
  ⟨h.os, h.tape, h.output, h.size, fun b hb => h.block b (by omega) (by omega) (fun e => by have := hr b e.symm; omega)⟩
theorem own_next {w w' : World} {base : Nat} {e : TypeId} {size n : Nat} {v : Value} {xs : List Value} (h : w.ownsRow base e size v n xs) (hb : Below w.heap.size w w') : w'.ownsRow base e size v n xs :=
  h.kept (row := none) ⟨hb.os, hb.tape, hb.output, hb.size, fun b hb' _ => hb.block b hb'⟩ (by
    cases hv : v.ownBlock with
    | none => exact .inl rfl
    | some _ => exact .inr (by simp))
theorem own_frm {w w' : World} {base : Nat} {e : TypeId} {size n g : Nat} {row : Option Nat} {v : Value} {xs : List Value} (h : w.ownsRow base e size v n xs) (hf : Frm w.heap.size g row w w') (h1 : v.ownBlock ≠ some g) (h2 : v.ownBlock = none ∨ v.ownBlock ≠ row) : w'.ownsRow base e size v n xs := by
  refine ⟨h.1, ?_⟩
  rcases h.2 with h0 | ⟨k, cap, cur, rfl, hb, hh, hr⟩
  · exact .inl h0
  · have hlt := (Array.getElem?_eq_some_iff.1 hh).1
    refine .inr ⟨k, cap, cur, rfl, hb, (hf.block k hlt (fun e => h1 (by rw [e]; rfl)) (fun e => ?_)).trans hh, hr⟩
    rcases h2 with h2 | h2
    · simp [Value.ownBlock] at h2
    · exact h2 (by rw [← e]; rfl)
end Go.Proofs.YtccekbdhffccdaaDoor
