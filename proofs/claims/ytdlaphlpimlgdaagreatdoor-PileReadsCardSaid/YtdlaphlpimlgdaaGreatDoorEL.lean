/- The words of a line, and what reads it: a map with the three methods. -/
import Derived.Test.YtdlaphlpimlgdaaGreatDoorEK
import Derived.Maps.Keyed
namespace Go.Proofs.YtdlaphlpimlgdaaGreatDoor
open Go.RowKit Go.Shelf
open Go.Maps (Keyed)
open Go.ChangeMaps (setBlock heap_setBlock_same heap_setBlock_other)

theorem str_law : Keyed Tryz.prog 9 := Go.Maps.string_keyed Tryz.underlying9
theorem str_key (s : ByteArray) (hs : s.size ≤ 100000) : ∃ l, keyOf Tryz.prog 9 (.string s) = some l := by
  unfold keyOf
  rw [Tryz.underlying9]
  simp only [mapKey, Tryz.underlying9]
  rw [if_pos (by unfold maxLen; omega)]
  exact ⟨_, rfl⟩
def rdEs (c : Nat) : Array MapEntry := #[⟨.string ⟨#[108, 101, 118, 101, 108, 115]⟩, .func (.func 123) #[] #[], c⟩, ⟨.string ⟨#[121, 101, 97, 114]⟩, .func (.func 124) #[] #[], c + 1⟩, ⟨.string ⟨#[101, 110, 100]⟩, .func (.func 125) #[] #[], c + 2⟩]
end Go.Proofs.YtdlaphlpimlgdaaGreatDoor
