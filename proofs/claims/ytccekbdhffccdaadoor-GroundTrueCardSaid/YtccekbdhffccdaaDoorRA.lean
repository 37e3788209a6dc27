/- A region that draws its order, whose calls may make memory and hand back one value each: one walk in the order of the text, over the class of worlds that keep what was there. -/
import Derived.Test.YtccekbdhffccdaaDoorB
import Derived.BigQuiet
import Derived.Deep.Quiet
namespace Go
open Go.RowKit
/-- A world that keeps all that was there. -/
structure KeptW (w0 : World) where
  w : World
  h : Below w0.heap.size w0 w
instance KeptW.some_ (w0 : World) : Nonempty (KeptW w0) := ⟨⟨w0, Below.refl _ _⟩⟩
theorem rk_region {P : Program} {id : Nat} {Q : Exit → Act → World → Prop} {a : Act} {w : World} {l : List Oper} (hm : P.follows .mixedOrders = true) (hB : Region.lexB .any l.toArray = true)
    (h : wpQuiet P l.toArray (fun w' => ∃ u : KeptW w, w' = u.w) (fun a' => ∀ w', (∃ u : KeptW w, w' = u.w) → Q .normal a' w') l a) : (Code.region id l.toArray true).wp P Q a w :=
  wp_region_quiet (C := fun w' => ∃ u : KeptW w, w' = u.w) hm hB ⟨⟨w.drew, (Below.refl w.heap.size w).drew⟩, rfl⟩ (by simpa using h)
/-- A contract that keeps what was there, met in such a world. -/
theorem Calls.in_kept {P : Program} {f : FuncId} {args : Array Value} {w0 : World} {v : Value} (u : KeptW w0) (h : Calls P f args u.w fun e w' => e = .returned v ∧ Below u.w.heap.size u.w w') :
    Calls P f args u.w fun e w' => e = .returned v ∧ ∃ u' : KeptW w0, w' = u'.w :=
  h.mono fun _ w' hh => ⟨hh.1, ⟨w', u.h.trans (hh.2.mono u.h.size)⟩, rfl⟩
end Go
