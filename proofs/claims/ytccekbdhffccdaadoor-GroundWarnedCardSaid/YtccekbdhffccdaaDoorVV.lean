/- From a row's condition to the walks' facts: the table of the library's, and the world in which the witness begins. -/
import Derived.Test.YtccekbdhffccdaaDoorRows
import Derived.Test.YtccekbdhffccdaaDoorEE
import Derived.Test.YtccekbdhffccdaaDoorPP
import Derived.ProofKit
import Derived.LaidMore
import Derived.LaidLaws
import Derived.OpenShut
import Derived.Carry
import Derived.Stop.Joined
import Derived.Lib.LaidTab
import Derived.MakeChecks
namespace Go.Proofs.YtccekbdhffccdaaDoor
open Go.ChangeShapes Go.WideShapes Go.ChangeAt Go.RowKit

theorem own_knob : ownKnob Tryd.prog.godebug = none := by kernel_rfl
theorem laid_out : laidOutB Tryd.prog = true := by kernel_rfl
abbrev LaidL : List (String × DataW Unit) := [("math/bits.deBruijn32tab", Rows.laid_math_bits_deBruijn32tab), ("math/bits.deBruijn64tab", Rows.laid_math_bits_deBruijn64tab), ("internal/strconv.uint64pow10", Rows.laid_internal_strconv_uint64pow10)]
theorem g_pow : Tryd.prog.globalNamed "internal/strconv.uint64pow10" = some 0 := by kernel_rfl
theorem t_pow : (Tryd.prog.globals[0]?).map (·.type) = some 162 := by kernel_rfl
theorem c154 : Tryd.prog.cellsOf 154 = 1 := by kernel_rfl
theorem c162 : Tryd.prog.cellsOf 162 = 20 := by kernel_rfl
theorem door_met (os : Os) (args : Array Value) : laidMetH Tryd.prog LaidL ((World.doorLaid Tryd.prog 400 os).forCall (fun _ _ => 0) ⟨#[], args, []⟩).memory :=
  laidMetH_of_parts3 (fuel := 8) (laidMet_of_run' 8 (by kernel_rfl) (by kernel_rfl)) (by kernel_rfl) (by kernel_rfl)
theorem tab_of_laid {W : World} (h : laidMetH Tryd.prog LaidL W) : Tab W := by
  rw [MakeChecks.laidMetH_plain _ _ _ (by kernel_rfl)] at h
  obtain ⟨ps, ⟨g0, t0, cs0, f0, p0, q0, hg0, ht0, hv0, hd0, ⟨g1, t1, cs1, f1, p1, q1, hg1, ht1, hv1, hd1, ⟨g2, t2, cs2, f2, p2, q2, hg2, ht2, hv2, hd2, _, _⟩, _⟩, _⟩, _⟩ := h
  obtain rfl := Option.some.inj (g_pow.symm.trans hg2)
  obtain rfl := Option.some.inj (t_pow.symm.trans ht2)
  refine Lib.tabBelow_of_tabIs ?_
  unfold Lib.TabIs
  rw [hv2, ← Lib.cells_of_tab Tryd.underlying162 Tryd.underlying154 c154 c162 (show DataW.trod _ Tryd.prog W 0 _ false f2 162 _ = some (Lib.tabData .u64 Lib.pow10Tab, p2) from hd2)]
/-- What came in reads behind the call as it read before. -/
theorem stays {H : Type} {enc : TypeId × Value → H} {t : TypeId} (hr : Tryd.prog.readableRec t = true) (hrow : t < Tryd.prog.types.size) {W W' : World} {v : Value} {d : DataW H} {ps : List MemPlace}
    (h : DataW.Trod enc Tryd.prog W 0 (fun _ => true) true t v d ps) (hb : Below W.heap.size W W') : DataW.Trod enc Tryd.prog W' 0 (fun b => decide (b < W.heap.size)) true t v d ps :=
  Below.trod laid_out hr hrow h hb (by obtain ⟨m, hm⟩ := h; exact DataW.trod_lt m _ _ _ hm)
theorem r26 : Tryd.prog.readableRec 26 = true := by kernel_rfl
theorem r27 : Tryd.prog.readableRec 27 = true := by kernel_rfl
theorem r41 : Tryd.prog.readableRec 41 = true := by kernel_rfl
theorem r3 : Tryd.prog.readableRec 3 = true := by kernel_rfl
theorem r4 : Tryd.prog.readableRec 4 = true := by kernel_rfl
theorem r9 : Tryd.prog.readableRec 9 = true := by kernel_rfl
theorem tsz (t : Nat) (h : t < 60) : t < Tryd.prog.types.size := Nat.lt_trans h (of_decide_eq_true (by kernel_rfl))
end Go.Proofs.YtccekbdhffccdaaDoor
