/- Arguments opened to cells: a place, years, a truth. From a row's condition to the walks' facts: the table of the library's, and the world in which the witness begins. -/
import Derived.Test.YtccekbdhffccdaaDoorB
import Derived.Test.YtccekbdhffccdaaDoorRows
import Derived.Test.YtccekbdhffccdaaDoorEE
import Derived.Deep.Slices
import Derived.ChangeSame
import Derived.ChangeOld
import Derived.Lib.SmallJoins
import Derived.ProofKit
import Derived.LaidMore
import Derived.LaidLaws
import Derived.OpenShut
import Derived.Carry
import Derived.Stop.Joined
import Derived.Lib.LaidTab
import Derived.MakeChecks
namespace Go.Proofs.YtccekbdhffccdaaDoor
open Go.ChangeShapes Go.WideShapes Go.Deep Go.RowKit

theorem list_by {α : Type} {P : Nat → α → Prop} : ∀ {n : Nat}, (∀ i, i < n → ∃ x, P i x) → ∃ xs : List α, xs.length = n ∧ ∀ i x, xs[i]? = some x → P i x
  | 0, _ => ⟨[], rfl, fun i x h => by simp at h⟩
  | n + 1, h => by
    obtain ⟨xs, hl, hx⟩ := list_by (n := n) fun i hi => h i (by omega)
    obtain ⟨y, hy⟩ := h n (by omega)
    refine ⟨xs ++ [y], by simp [hl], fun i x hi => ?_⟩
    by_cases hn : i < n
    · rw [List.getElem?_append_left (by omega)] at hi
      exact hx i x hi
    · rw [List.getElem?_append_right (by omega)] at hi
      have : i - xs.length = 0 := by
        have := (List.getElem?_eq_some_iff.1 hi).1
        simp at this; omega
      rw [this] at hi
      have hin : i = n := by omega
      subst hin
      simp at hi
      subst hi
      exact hy

set_option maxRecDepth 100000
section
variable {H : Type} {enc : TypeId × Value → H} {w : World} {base : Nat} {spare : Nat → Bool} {held : Bool}
theorem size3 : Tryd.prog.cellsOf 3 = 1 := by kernel_rfl
theorem size24 : Tryd.prog.cellsOf 24 = 2 := by kernel_rfl
theorem size86 : Tryd.prog.cellsOf 86 = 3 := by kernel_rfl
theorem size88 : Tryd.prog.cellsOf 88 = 6 := by kernel_rfl
theorem size22 : Tryd.prog.cellsOf 22 = 1 := by kernel_rfl
theorem size26 : Tryd.prog.cellsOf 26 = 3 := by kernel_rfl
theorem size39 : Tryd.prog.cellsOf 39 = 1 := by kernel_rfl
theorem size41 : Tryd.prog.cellsOf 41 = 5 := by kernel_rfl
theorem open_span {fuel : Nat} {cs : List Value} {x : DataW H × List MemPlace} (h : DataW.trod enc Tryd.prog w base spare held fuel 24 cs = some x) : ∃ lo hi : Int, cs = [.int .i64 lo, .int .i64 hi] := by
  obtain ⟨y0, y1, n, _, hl, h0, h1⟩ := trod_struct2 Tryd.underlying24 h
  obtain ⟨lo, e0, _⟩ := DataW.trod_int Tryd.underlying3 h0
  obtain ⟨hi, e1, _⟩ := DataW.trod_int Tryd.underlying3 h1
  rw [size24] at hl
  simp only [size3] at e0 e1
  match cs, hl with
  | [a, b], _ =>
    simp at e0 e1
    exact ⟨lo, hi, by rw [e0, e1]⟩
/-- A slice of elements of several cells, as this program's contracts have it. -/
theorem open_row {t e : TypeId} {k : Nat} (hk : 0 < k) (ht : Tryd.prog.underlying t = some (.slice e)) (hs : Tryd.prog.cellsOf e = k) {α : Type} {R : α → List Value → Prop}
    (he : ∀ {fuel : Nat} {cs : List Value} {x : DataW H × List MemPlace}, DataW.trod enc Tryd.prog w base spare held fuel e cs = some x → ∃ y, R y cs)
    {fuel : Nat} {cs : List Value} {x : DataW H × List MemPlace} (h : DataW.trod enc Tryd.prog w base spare held fuel t cs = some x) :
    ∃ (A : Option Addr) (n c : Nat) (ls : List α), cs = [.slice A n c] ∧ n ≤ c ∧ n ≤ maxLen ∧ ls.length = n ∧
      (ls ≠ [] → ∃ b o, A = some ⟨b, o, none⟩ ∧ b < w.heap.size ∧ ∀ i y, ls[i]? = some y → ∃ us, R y us ∧ us.length = k ∧ ∀ j, j < k → w.cell? ⟨b, o + i * k + j, none⟩ = us[j]?) := by
  rcases open_slice ht h with ⟨rfl, _⟩ | ⟨a, len, cap, m, n, D, Pl, rfl, _, hl, hm, hmm, _, hi⟩
  · exact ⟨none, 0, 0, [], rfl, Nat.le_refl _, by unfold maxLen; omega, rfl, fun h => absurd rfl h⟩
  · rw [hs] at hi
    have hlm : len ≤ m := by rw [hmm]; split <;> omega
    by_cases h0 : len = 0
    · subst h0
      exact ⟨some a, 0, cap, [], rfl, hl, by unfold maxLen; omega, rfl, fun h => absurd rfl h⟩
    · obtain ⟨b, o, sp⟩ := a
      obtain ⟨cs0, hc0, _⟩ := hi 0 (by omega)
      obtain ⟨_, hl0, hat0⟩ := World.cells?_some hc0
      have hcell := hat0 0 hk
      have hv : cs0[0]? = some (cs0[0]'(by omega)) := List.getElem?_eq_getElem (by omega)
      rw [hv] at hcell
      have hsp : sp = none := by simpa [Addr.add] using World.cell?_spot hcell
      subst hsp
      have hblk : b < w.heap.size := by simpa [Addr.add] using World.cells?_block hc0 hk
      have hall : ∀ i, i < len → ∃ y, ∃ us, R y us ∧ us.length = k ∧ ∀ j, j < k → w.cell? ⟨b, o + i * k + j, none⟩ = us[j]? := fun i hil => by
        obtain ⟨cs', hc, ht'⟩ := hi i (by omega)
        obtain ⟨y, hy⟩ := he ht'
        obtain ⟨_, hcl, hat⟩ := World.cells?_some hc
        refine ⟨y, cs', hy, hcl, fun j hj => ?_⟩
        have := hat j hj
        rw [← this]
        congr 1
        simp only [Addr.add]
        split <;> split <;> simp <;> omega
      obtain ⟨ls, hll, hls⟩ := list_by hall
      exact ⟨_, len, cap, ls, rfl, hl, by omega, hll, fun _ => ⟨b, o, rfl, hblk, hls⟩⟩
theorem open_lay {fuel : Nat} {cs : List Value} {x : DataW H × List MemPlace} (h : DataW.trod enc Tryd.prog w base spare held fuel 86 cs = some x) : ∃ y : Lay, cs = [.int .i64 y.t, .int .i64 y.lo, .int .i64 y.hi] := by
  obtain ⟨y0, y1, n, _, hl, h0, h1⟩ := trod_struct2 Tryd.underlying86 h
  obtain ⟨t, e0, _⟩ := DataW.trod_int Tryd.underlying3 h0
  obtain ⟨lo, hi, e1⟩ := open_span h1
  rw [size86] at hl
  simp only [size3, size24] at e0 e1
  match cs, hl with
  | [a, b, c], _ =>
    simp at e0 e1
    exact ⟨⟨t, lo, hi⟩, by rw [e0, e1.1, e1.2]⟩
theorem open_yr {fuel : Nat} {cs : List Value} {x : DataW H × List MemPlace} (h : DataW.trod enc Tryd.prog w base spare held fuel 88 cs = some x) : ∃ y : Yr, cs = [.int .i64 y.sl, .int .i64 y.sh, .int .i64 y.wl, .int .i64 y.wh, .int .i64 y.nl, .int .i64 y.nh] := by
  obtain ⟨xs, n, _, _, hl, hlen, hf⟩ := DataW.trod_struct Tryd.underlying88 h
  match xs, hlen with
  | [y0, y1, y2], _ =>
    obtain ⟨a0, b0, e0⟩ := open_span (by simpa using hf 0 _ rfl)
    obtain ⟨a1, b1, e1⟩ := open_span (by simpa using hf 1 _ rfl)
    obtain ⟨a2, b2, e2⟩ := open_span (by simpa using hf 2 _ rfl)
    rw [size88] at hl
    simp only [size24] at e0 e1 e2
    match cs, hl with
    | [p, q, r, s, u, v], _ =>
      simp at e0 e1 e2
      exact ⟨⟨a0, b0, a1, b1, a2, b2⟩, by rw [e0.1, e0.2, e1.1, e1.2, e2.1, e2.2]⟩
theorem open_lays {fuel : Nat} {cs : List Value} {x : DataW H × List MemPlace} (h : DataW.trod enc Tryd.prog w base spare held fuel 22 cs = some x) :
    ∃ (A : Option Addr) (n c : Nat) (ls : List Lay), cs = [.slice A n c] ∧ n ≤ c ∧ n ≤ maxLen ∧ ls.length = n ∧ LaysAt w w.heap.size A ls := by
  obtain ⟨A, n, c, ls, h1, h2, h3, h4, h5⟩ := open_row (by decide) Tryd.underlying22 size86 (R := fun (y : Lay) cs => cs = [.int .i64 y.t, .int .i64 y.lo, .int .i64 y.hi]) open_lay h
  refine ⟨A, n, c, ls, h1, h2, h3, h4, fun hne => ?_⟩
  obtain ⟨b, o, e, hb, hat⟩ := h5 hne
  refine ⟨b, o, e, hb, fun i y hi => ?_⟩
  obtain ⟨us, rfl, _, hc⟩ := hat i y hi
  exact ⟨hc 0 (by omega), hc 1 (by omega), hc 2 (by omega)⟩
theorem open_yrs {fuel : Nat} {cs : List Value} {x : DataW H × List MemPlace} (h : DataW.trod enc Tryd.prog w base spare held fuel 27 cs = some x) :
    ∃ (A : Option Addr) (n c : Nat) (ys : List Yr), cs = [.slice A n c] ∧ n ≤ c ∧ n ≤ maxLen ∧ ys.length = n ∧ YrsAt w w.heap.size A ys := by
  obtain ⟨A, n, c, ls, h1, h2, h3, h4, h5⟩ := open_row (by decide) Tryd.underlying27 size88 (R := fun (y : Yr) cs => cs = [.int .i64 y.sl, .int .i64 y.sh, .int .i64 y.wl, .int .i64 y.wh, .int .i64 y.nl, .int .i64 y.nh]) open_yr h
  refine ⟨A, n, c, ls, h1, h2, h3, h4, fun hne => ?_⟩
  obtain ⟨b, o, e, hb, hat⟩ := h5 hne
  refine ⟨b, o, e, hb, fun i y hi => ?_⟩
  obtain ⟨us, rfl, _, hc⟩ := hat i y hi
  exact ⟨hc 0 (by omega), hc 1 (by omega), hc 2 (by omega), hc 3 (by omega), hc 4 (by omega), hc 5 (by omega)⟩
theorem open_nums {fuel : Nat} {cs : List Value} {x : DataW H × List MemPlace} (h : DataW.trod enc Tryd.prog w base spare held fuel 39 cs = some x) :
    ∃ (A : Option Addr) (n c : Nat) (xs : List Int), cs = [.slice A n c] ∧ n ≤ c ∧ n ≤ maxLen ∧ xs.length = n ∧ IntsAt w w.heap.size A xs := by
  obtain ⟨A, n, c, ls, h1, h2, h3, h4, h5⟩ := open_row (by decide) Tryd.underlying39 size3 (R := fun (y : Int) cs => cs = [.int .i64 y]) (fun h => by obtain ⟨k, e, _⟩ := DataW.trod_int Tryd.underlying3 h; exact ⟨k, e⟩) h
  refine ⟨A, n, c, ls, h1, h2, h3, h4, fun hne => ?_⟩
  obtain ⟨b, o, e, hb, hat⟩ := h5 hne
  refine ⟨b, o, e, hb, fun i y hi => ?_⟩
  obtain ⟨us, rfl, _, hc⟩ := hat i y hi
  simpa using hc 0 (by omega)
/-- A place, by value. -/
theorem open_place {r : Reach} {b0 : Nat} {v : Value} {d : DataW H} {p : List MemPlace} (hv : Value.okWide Tryd.prog w r b0 26 v) (h : DataW.Trod enc Tryd.prog w base spare held 26 v d p) :
    ∃ (A : Option Addr) (n c : Nat) (ls : List Lay) (lo hi : Int), v = .agg #[.slice A n c, .int .i64 lo, .int .i64 hi] ∧ n ≤ c ∧ n ≤ maxLen ∧ ls.length = n ∧ LaysAt w w.heap.size A ls := by
  obtain ⟨cs, rfl, hsz⟩ := okWide_struct Tryd.underlying26 hv
  obtain ⟨fuel, hf⟩ := h
  obtain ⟨y0, y1, n, _, hl, h0, h1⟩ := trod_struct2 Tryd.underlying26 hf
  obtain ⟨A, m, c, ls, e0, g1, g2, g3, g4⟩ := open_lays h0
  obtain ⟨lo, hi, e1⟩ := open_span h1
  rw [size26] at hsz
  obtain ⟨cs⟩ := cs
  match cs, hsz with
  | [a, b, c'], _ =>
    simp [Value.cells, size22, size24] at e0 e1
    exact ⟨A, m, c, ls, lo, hi, by rw [e0, e1.1, e1.2], g1, g2, g3, g4⟩
theorem open_years {r : Reach} {b0 : Nat} {v : Value} {d : DataW H} {p : List MemPlace} (hv : Value.okWide Tryd.prog w r b0 27 v) (h : DataW.Trod enc Tryd.prog w base spare held 27 v d p) :
    ∃ (A : Option Addr) (n c : Nat) (ys : List Yr), v = .slice A n c ∧ n ≤ c ∧ n ≤ maxLen ∧ ys.length = n ∧ YrsAt w w.heap.size A ys := by
  obtain ⟨a, len, cap, rfl⟩ := okWide_slice Tryd.underlying27 hv
  obtain ⟨fuel, hf⟩ := h
  obtain ⟨A, n, c, ys, e, g⟩ := open_yrs hf
  simp [Value.cells] at e
  obtain ⟨rfl, rfl, rfl⟩ := e
  exact ⟨_, _, _, ys, rfl, g⟩
/-- A slice of ints that lies below all that is new. -/
def SlAt (w : World) (v : Value) (xs : List Int) : Prop := ∃ (A : Option Addr) (c : Nat), v = .slice A xs.length c ∧ xs.length ≤ c ∧ xs.length ≤ maxLen ∧ IntsAt w w.heap.size A xs
/-- A truth, by value. -/
theorem open_truth {r : Reach} {b0 : Nat} {v : Value} {d : DataW H} {p : List MemPlace} (hv : Value.okWide Tryd.prog w r b0 41 v) (h : DataW.Trod enc Tryd.prog w base spare held 41 v d p) :
    ∃ (v0 v1 v2 v3 v4 : Value) (x0 x1 x2 x3 x4 : List Int), v = .agg #[v0, v1, v2, v3, v4] ∧ SlAt w v0 x0 ∧ SlAt w v1 x1 ∧ SlAt w v2 x2 ∧ SlAt w v3 x3 ∧ SlAt w v4 x4 := by
  obtain ⟨cs, rfl, hsz⟩ := okWide_struct Tryd.underlying41 hv
  obtain ⟨fuel, hf⟩ := h
  obtain ⟨xs, n, _, _, _, hlen, hg⟩ := DataW.trod_struct Tryd.underlying41 hf
  rw [size41] at hsz
  obtain ⟨cs⟩ := cs
  match cs, hsz with
  | [c0, c1, c2, c3, c4], _ =>
    match xs, hlen with
    | [y0, y1, y2, y3, y4], _ =>
      have go : ∀ {v : Value} {y : DataW H × List MemPlace}, DataW.trod enc Tryd.prog w base spare held n 39 [v] = some y → ∃ x, SlAt w v x := fun h => by
        obtain ⟨A, n, c, xs, e, g1, g2, g3, g4⟩ := open_nums h
        simp at e
        subst e
        exact ⟨xs, A, c, by rw [g3], by omega, by omega, g4⟩
      obtain ⟨x0, h0⟩ := go (v := c0) (y := y0) (by simpa [Value.cells, size39] using hg 0 _ rfl)
      obtain ⟨x1, h1⟩ := go (v := c1) (y := y1) (by simpa [Value.cells, size39] using hg 1 _ rfl)
      obtain ⟨x2, h2⟩ := go (v := c2) (y := y2) (by simpa [Value.cells, size39] using hg 2 _ rfl)
      obtain ⟨x3, h3⟩ := go (v := c3) (y := y3) (by simpa [Value.cells, size39] using hg 3 _ rfl)
      obtain ⟨x4, h4⟩ := go (v := c4) (y := y4) (by simpa [Value.cells, size39] using hg 4 _ rfl)
      exact ⟨c0, c1, c2, c3, c4, x0, x1, x2, x3, x4, rfl, h0, h1, h2, h3, h4⟩
end
end Go.Proofs.YtccekbdhffccdaaDoor

namespace Go.Proofs.YtccekbdhffccdaaDoor
open Go.ChangeShapes Go.WideShapes Go.ChangeAt Go.RowKit

theorem own_knob : ownKnob Tryd.prog.godebug = none := by kernel_rfl
theorem laid_out : laidOutB Tryd.prog = true := by kernel_rfl
abbrev LaidL : List (String × DataW Unit) := [("math/bits.deBruijn32tab", Rows.laid_math_bits_deBruijn32tab), ("math/bits.deBruijn64tab", Rows.laid_math_bits_deBruijn64tab), ("internal/strconv.uint64pow10", Rows.laid_internal_strconv_uint64pow10)]
theorem g_pow : Tryd.prog.globalNamed "internal/strconv.uint64pow10" = some 0 := by kernel_rfl
theorem t_pow : (Tryd.prog.globals[0]?).map (·.type) = some 162 := by kernel_rfl
theorem c154 : Tryd.prog.cellsOf 154 = 1 := by kernel_rfl
theorem c162 : Tryd.prog.cellsOf 162 = 20 := by kernel_rfl
theorem door_met (os : Os) (args : Array Value) : laidMetH Tryd.prog LaidL ((World.doorLaid Tryd.prog 400 os).forCall (fun _ _ => 0) ⟨#[], args, []⟩).memory :=
  laidMetH_of_parts3 (fuel := 8) (laidMet_of_run' 8 (by kernel_rfl) (by kernel_rfl)) (by kernel_rfl) (by kernel_rfl)
theorem tab_of_laid {W : World} (h : laidMetH Tryd.prog LaidL W) : Tab W := by
  rw [MakeChecks.laidMetH_plain _ _ _ (by kernel_rfl)] at h
  obtain ⟨ps, ⟨g0, t0, cs0, f0, p0, q0, hg0, ht0, hv0, hd0, ⟨g1, t1, cs1, f1, p1, q1, hg1, ht1, hv1, hd1, ⟨g2, t2, cs2, f2, p2, q2, hg2, ht2, hv2, hd2, _, _⟩, _⟩, _⟩, _⟩ := h
  obtain rfl := Option.some.inj (g_pow.symm.trans hg2)
  obtain rfl := Option.some.inj (t_pow.symm.trans ht2)
  refine Lib.tabBelow_of_tabIs ?_
  unfold Lib.TabIs
  rw [hv2, ← Lib.cells_of_tab Tryd.underlying162 Tryd.underlying154 c154 c162 (show DataW.trod _ Tryd.prog W 0 _ false f2 162 _ = some (Lib.tabData .u64 Lib.pow10Tab, p2) from hd2)]
/-- What came in reads behind the call as it read before. -/
theorem stays {H : Type} {enc : TypeId × Value → H} {t : TypeId} (hr : Tryd.prog.readableRec t = true) (hrow : t < Tryd.prog.types.size) {W W' : World} {v : Value} {d : DataW H} {ps : List MemPlace}
    (h : DataW.Trod enc Tryd.prog W 0 (fun _ => true) true t v d ps) (hb : Below W.heap.size W W') : DataW.Trod enc Tryd.prog W' 0 (fun b => decide (b < W.heap.size)) true t v d ps :=
  Below.trod laid_out hr hrow h hb (by obtain ⟨m, hm⟩ := h; exact DataW.trod_lt m _ _ _ hm)
theorem r26 : Tryd.prog.readableRec 26 = true := by kernel_rfl
theorem r27 : Tryd.prog.readableRec 27 = true := by kernel_rfl
theorem r41 : Tryd.prog.readableRec 41 = true := by kernel_rfl
theorem r3 : Tryd.prog.readableRec 3 = true := by kernel_rfl
theorem r4 : Tryd.prog.readableRec 4 = true := by kernel_rfl
theorem r9 : Tryd.prog.readableRec 9 = true := by kernel_rfl
theorem tsz (t : Nat) (h : t < 60) : t < Tryd.prog.types.size := Nat.lt_trans h (of_decide_eq_true (by kernel_rfl))
end Go.Proofs.YtccekbdhffccdaaDoor
