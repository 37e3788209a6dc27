/- What the examples' rows ask, at the models. -/
import Derived.Test.YtccekbdhffccdaaDoorFF
import Derived.Test.YtccekbdhffccdaaDoorHH
import Derived.Test.YtccekbdhffccdaaDoorII
import Derived.Test.YtccekbdhffccdaaDoorJJ
import Derived.Test.YtccekbdhffccdaaDoorAA
import Derived.Test.YtccekbdhffccdaaDoorBB
namespace Go.Proofs.YtccekbdhffccdaaDoor
open Go.RowKit

def exT : Tru := ⟨[110, 250], [1000, 0], [65000, 60000], [60000, 80000], [200, 100]⟩
def exW : List Sn := [⟨500, 610, 0, 37000, 2⟩, ⟨500, 795, 0, 74000, 2⟩]
theorem k_years : (yearsR exP 0 2000 (List.replicate 2 exY)).1.map snT = exW.map snT ∧ (yearsR exP 0 2000 (List.replicate 2 exY)).2 = 0 := by decide +kernel
theorem k_play : playI exP 0 2000 (List.replicate 2 exY) exT = ([544, 592], (126000, 120000, 6000), 0) := by decide +kernel
theorem k_print : printR exP 0 2000 = ([104, 111, 108, 101, 32, 50, 32, 48, 32, 50, 48, 48, 48, 10, 108, 97, 121, 101, 114, 32, 53, 48, 48, 32, 49, 48, 48, 32, 49, 50, 48, 10, 108, 97, 121, 101, 114, 32, 49, 48, 48, 48, 32, 50, 48, 48, 32, 51, 48, 48, 10, 101, 110, 100, 32, 49, 102, 10], 0) := by decide +kernel
theorem k_exc : depthI exP 0 2000 (List.replicate 2 exY) 610 = 0 ∧ excI true exP 0 2000 (List.replicate 2 exY) 610 0 = 1 ∧ excI false exP 0 2000 (List.replicate 2 exY) 610 0 = 2 := by decide +kernel
theorem k_allow : allowI exP 0 2000 (List.replicate 1 exY) 700 = (20199, 0) := by decide +kernel
theorem k_need : needI exP 0 2000 (List.replicate 2 exY) 700 = (18801, 0) := by decide +kernel
end Go.Proofs.YtccekbdhffccdaaDoor
