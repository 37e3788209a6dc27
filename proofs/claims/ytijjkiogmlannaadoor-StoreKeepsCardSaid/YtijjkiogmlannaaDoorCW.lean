/- Arguments opened to cells: a store, goods. From a row's condition to the walks' facts: the table of the library's, and the world in which the witness begins. -/
import Derived.Test.YtijjkiogmlannaaDoorWV
import Derived.Test.YtijjkiogmlannaaDoorRows
import Derived.Deep.Slices
import Derived.ChangeSame
import Derived.ChangeOld
import Derived.Lib.SmallJoins
import Derived.ProofKit
import Derived.LaidMore
import Derived.LaidLaws
import Derived.OpenShut
import Derived.Carry
import Derived.Stop.Joined
import Derived.Lib.LaidTab
import Derived.MakeChecks
namespace Go.Proofs.YtijjkiogmlannaaDoor
open Go.ChangeShapes Go.WideShapes Go.Deep Go.RowKit

theorem list_by {α : Type} {P : Nat → α → Prop} : ∀ {n : Nat}, (∀ i, i < n → ∃ x, P i x) → ∃ xs : List α, xs.length = n ∧ ∀ i x, xs[i]? = some x → P i x
  | 0, _ => ⟨[], rfl, fun i x h => by simp at h⟩
  | n + 1, h => by
    obtain ⟨xs, hl, hx⟩ := list_by (n := n) fun i hi => h i (by omega)
    obtain ⟨y, hy⟩ := h n (by omega)
    refine ⟨xs ++ [y], by simp [hl], fun i x hi => ?_⟩
    by_cases hn : i < n
    · rw [List.getElem?_append_left (by omega)] at hi
      exact hx i x hi
    · rw [List.getElem?_append_right (by omega)] at hi
      have : i - xs.length = 0 := by
        have := (List.getElem?_eq_some_iff.1 hi).1
        simp at this; omega
      rw [this] at hi
      have hin : i = n := by omega
      subst hin
      simp at hi
      subst hi
      exact hy

set_option maxRecDepth 100000
section
variable {H : Type} {enc : TypeId × Value → H} {w : World} {base : Nat} {spare : Nat → Bool} {held : Bool}
theorem okWide_array_own {P : Program} {r : Reach} {b0 : Nat} {t : TypeId} {v : Value} {n : Nat} {e : TypeId} (ht : P.underlying t = some (.array n e)) (h : Value.okWide P w r b0 t v) : ∃ cs, v = .agg cs ∧ cs.size = P.cellsOf t := by
  simp only [Value.okWide, ht] at h
  obtain ⟨cs, h1, h2, _⟩ := h
  exact ⟨cs, h1, h2⟩
theorem size3 : Tryd.prog.cellsOf 3 = 1 := by kernel_rfl
theorem size4 : Tryd.prog.cellsOf 4 = 1 := by kernel_rfl
theorem size23 : Tryd.prog.cellsOf 23 = 3 := by kernel_rfl
theorem size24 : Tryd.prog.cellsOf 24 = 1 := by kernel_rfl
theorem size25 : Tryd.prog.cellsOf 25 = 1 := by kernel_rfl
theorem size26 : Tryd.prog.cellsOf 26 = 1 := by kernel_rfl
theorem size28 : Tryd.prog.cellsOf 28 = 12 := by kernel_rfl
theorem size33 : Tryd.prog.cellsOf 33 = 1 := by kernel_rfl
theorem size42 : Tryd.prog.cellsOf 42 = 1 := by kernel_rfl
theorem size44 : Tryd.prog.cellsOf 44 = 5 := by kernel_rfl
theorem open_gd {fuel : Nat} {cs : List Value} {x : DataW H × List MemPlace} (h : DataW.trod enc Tryd.prog w base spare held fuel 23 cs = some x) : ∃ g : Gd, cs = gR g := by
  obtain ⟨xs, n, _, _, hl, hlen, hf⟩ := DataW.trod_array Tryd.underlying23 h
  match xs, hlen with
  | [y0, y1, y2], _ =>
    obtain ⟨a, e0, _⟩ := DataW.trod_int Tryd.underlying3 (by simpa using hf 0 (by decide))
    obtain ⟨b, e1, _⟩ := DataW.trod_int Tryd.underlying3 (by simpa using hf 1 (by decide))
    obtain ⟨c, e2, _⟩ := DataW.trod_int Tryd.underlying3 (by simpa using hf 2 (by decide))
    rw [size23] at hl
    simp only [size3] at e0 e1 e2
    match cs, hl with
    | [p, q, r], _ =>
      simp at e0 e1 e2
      exact ⟨⟨a, b, c⟩, by rw [e0, e1, e2]; rfl⟩
theorem open_shp {fuel : Nat} {cs : List Value} {x : DataW H × List MemPlace} (h : DataW.trod enc Tryd.prog w base spare held fuel 44 cs = some x) : ∃ s : Shp, cs = shR s := by
  obtain ⟨xs, n, _, _, hl, hlen, hf⟩ := DataW.trod_struct Tryd.underlying44 h
  match xs, hlen with
  | [y0, y1, y2], _ =>
    obtain ⟨a, e0, _⟩ := DataW.trod_int Tryd.underlying3 (by simpa using hf 0 _ rfl)
    obtain ⟨g, e1⟩ := open_gd (by simpa using hf 1 _ rfl)
    obtain ⟨c, e2, _⟩ := DataW.trod_int Tryd.underlying3 (by simpa using hf 2 _ rfl)
    rw [size44] at hl
    simp only [size3, size23] at e0 e1 e2
    match cs, hl with
    | [p, q, r, s, t], _ =>
      simp [gR] at e0 e1 e2
      exact ⟨⟨a, g, c⟩, by rw [e0, e1.1, e1.2.1, e1.2.2, e2]; rfl⟩
theorem open_bl {fuel : Nat} {cs : List Value} {x : DataW H × List MemPlace} (h : DataW.trod enc Tryd.prog w base spare held fuel 4 cs = some x) : ∃ b : Bool, cs = boolR b := by
  obtain ⟨b, e, _⟩ := DataW.trod_bool Tryd.underlying4 h
  exact ⟨b, e⟩
/-- A slice of elements of several cells, as this program's contracts have it. -/
theorem open_row {t e : TypeId} {k : Nat} (hk : 0 < k) (ht : Tryd.prog.underlying t = some (.slice e)) (hs : Tryd.prog.cellsOf e = k) {α : Type} {R : α → List Value → Prop}
    (he : ∀ {fuel : Nat} {cs : List Value} {x : DataW H × List MemPlace}, DataW.trod enc Tryd.prog w base spare held fuel e cs = some x → ∃ y, R y cs)
    {fuel : Nat} {cs : List Value} {x : DataW H × List MemPlace} (h : DataW.trod enc Tryd.prog w base spare held fuel t cs = some x) :
    ∃ (A : Option Addr) (n c : Nat) (ls : List α), cs = [.slice A n c] ∧ n ≤ c ∧ n ≤ maxLen ∧ ls.length = n ∧
      (ls ≠ [] → ∃ b o, A = some ⟨b, o, none⟩ ∧ b < w.heap.size ∧ ∀ i y, ls[i]? = some y → ∃ us, R y us ∧ us.length = k ∧ ∀ j, j < k → w.cell? ⟨b, o + i * k + j, none⟩ = us[j]?) := by
  rcases open_slice ht h with ⟨rfl, _⟩ | ⟨a, len, cap, m, n, D, Pl, rfl, _, hl, hm, hmm, _, hi⟩
  · exact ⟨none, 0, 0, [], rfl, Nat.le_refl _, by unfold maxLen; omega, rfl, fun h => absurd rfl h⟩
  · rw [hs] at hi
    have hlm : len ≤ m := by rw [hmm]; split <;> omega
    by_cases h0 : len = 0
    · subst h0
      exact ⟨some a, 0, cap, [], rfl, hl, by unfold maxLen; omega, rfl, fun h => absurd rfl h⟩
    · obtain ⟨b, o, sp⟩ := a
      obtain ⟨cs0, hc0, _⟩ := hi 0 (by omega)
      obtain ⟨_, hl0, hat0⟩ := World.cells?_some hc0
      have hcell := hat0 0 hk
      have hv : cs0[0]? = some (cs0[0]'(by omega)) := List.getElem?_eq_getElem (by omega)
      rw [hv] at hcell
      have hsp : sp = none := by simpa [Addr.add] using World.cell?_spot hcell
      subst hsp
      have hblk : b < w.heap.size := by simpa [Addr.add] using World.cells?_block hc0 hk
      have hall : ∀ i, i < len → ∃ y, ∃ us, R y us ∧ us.length = k ∧ ∀ j, j < k → w.cell? ⟨b, o + i * k + j, none⟩ = us[j]? := fun i hil => by
        obtain ⟨cs', hc, ht'⟩ := hi i (by omega)
        obtain ⟨y, hy⟩ := he ht'
        obtain ⟨_, hcl, hat⟩ := World.cells?_some hc
        refine ⟨y, cs', hy, hcl, fun j hj => ?_⟩
        have := hat j hj
        rw [← this]
        congr 1
        simp only [Addr.add]
        split <;> split <;> simp <;> omega
      obtain ⟨ls, hll, hls⟩ := list_by hall
      exact ⟨_, len, cap, ls, rfl, hl, by omega, hll, fun _ => ⟨b, o, rfl, hblk, hls⟩⟩
/-- The same, as rows of cells. -/
theorem open_rowAt {t e : TypeId} {k : Nat} (hk : 0 < k) (ht : Tryd.prog.underlying t = some (.slice e)) (hs : Tryd.prog.cellsOf e = k) {α : Type} {R : α → List Value}
    (he : ∀ {fuel : Nat} {cs : List Value} {x : DataW H × List MemPlace}, DataW.trod enc Tryd.prog w base spare held fuel e cs = some x → ∃ y, cs = R y)
    {fuel : Nat} {cs : List Value} {x : DataW H × List MemPlace} (h : DataW.trod enc Tryd.prog w base spare held fuel t cs = some x) :
    ∃ (A : Option Addr) (n c : Nat) (ls : List α), cs = [.slice A n c] ∧ n ≤ c ∧ n ≤ maxLen ∧ ls.length = n ∧ RowAt k R w w.heap.size A ls := by
  obtain ⟨A, n, c, ls, h1, h2, h3, h4, h5⟩ := open_row hk ht hs (R := fun y cs => cs = R y) he h
  refine ⟨A, n, c, ls, h1, h2, h3, h4, fun hne => ?_⟩
  obtain ⟨b, o, e, hb, hat⟩ := h5 hne
  refine ⟨b, o, e, hb, fun i y hi j v hv => ?_⟩
  obtain ⟨us, rfl, hl, hc⟩ := hat i y hi
  rw [hc j (by rw [← hl]; exact (List.getElem?_eq_some_iff.1 hv).1), hv]
/-- Rows of rows. -/
theorem open_grid {t s e : TypeId} {k : Nat} (hk : 0 < k) (ht : Tryd.prog.underlying t = some (.slice s)) (hs1 : Tryd.prog.cellsOf s = 1) (hs : Tryd.prog.underlying s = some (.slice e)) (hsz : Tryd.prog.cellsOf e = k) {α : Type} {R : α → List Value}
    (he : ∀ {fuel : Nat} {cs : List Value} {x : DataW H × List MemPlace}, DataW.trod enc Tryd.prog w base spare held fuel e cs = some x → ∃ y, cs = R y)
    {fuel : Nat} {cs : List Value} {x : DataW H × List MemPlace} (h : DataW.trod enc Tryd.prog w base spare held fuel t cs = some x) :
    ∃ (A : Option Addr) (n c : Nat) (ls : List (List α)), cs = [.slice A n c] ∧ n ≤ c ∧ n ≤ maxLen ∧ ls.length = n ∧ GridAt k R w w.heap.size A ls := by
  obtain ⟨A, n, c, ls, h1, h2, h3, h4, h5⟩ := open_row (by decide) ht hs1 (R := fun (y : List α) cs => ∃ A' c', cs = [.slice A' y.length c'] ∧ RowAt k R w w.heap.size A' y ∧ y.length ≤ maxLen ∧ y.length ≤ c') (fun h => by
    obtain ⟨A, n, c, ls, h1, h2, h3, h4, h5⟩ := open_rowAt hk hs hsz he h
    exact ⟨ls, A, c, by rw [h1, h4], h5, by omega, by omega⟩) h
  refine ⟨A, n, c, ls, h1, h2, h3, h4, fun hne => ?_⟩
  obtain ⟨b, o, e, hb, hat⟩ := h5 hne
  refine ⟨b, o, e, hb, fun i y hi => ?_⟩
  obtain ⟨us, ⟨A', c', rfl, g1, g2, g3⟩, _, hc⟩ := hat i y hi
  exact ⟨A', c', by simpa using hc 0 (by omega), g1, g2, g3⟩
theorem arg_slice {r : Reach} {b0 : Nat} {v : Value} {t e : TypeId} (hv : Value.okWide Tryd.prog w r b0 t v) (ht : Tryd.prog.underlying t = some (.slice e)) {A : Option Addr} {n c : Nat} (he : v.cells.toList = [.slice A n c]) : v = .slice A n c := by
  obtain ⟨a, len, cap, rfl⟩ := okWide_slice ht hv
  simpa [Value.cells] using he
/-- Goods, by value. -/
theorem open_goods {r : Reach} {b0 : Nat} {v : Value} {d : DataW H} {p : List MemPlace} (hv : Value.okWide Tryd.prog w r b0 23 v) (h : DataW.Trod enc Tryd.prog w base spare held 23 v d p) : ∃ g : Gd, v = gV g := by
  obtain ⟨cs, rfl, hsz⟩ := okWide_array_own Tryd.underlying23 hv
  obtain ⟨fuel, hf⟩ := h
  obtain ⟨g, e⟩ := open_gd hf
  refine ⟨g, ?_⟩
  have : cs.toList = gR g := by simpa [Value.cells] using e
  rw [show cs = (gR g).toArray by rw [← this]]
  rfl
/-- A store, by value. -/
theorem open_store {r : Reach} {b0 : Nat} {v : Value} {d : DataW H} {p : List MemPlace} (hv : Value.okWide Tryd.prog w r b0 28 v) (h : DataW.Trod enc Tryd.prog w base spare held 28 v d p) : ∃ X : SX, v = X.v ∧ X.In w := by
  obtain ⟨cs, rfl, hsz⟩ := okWide_struct Tryd.underlying28 hv
  obtain ⟨fuel, hf⟩ := h
  obtain ⟨xs, n, _, _, hl, hlen, hg⟩ := DataW.trod_struct Tryd.underlying28 hf
  rw [size28] at hsz
  obtain ⟨cs⟩ := cs
  match cs, hsz with
  | [c0, c1, c2, c3, c4, c5, c6, c7, c8, c9, c10, c11], _ =>
    match xs, hlen with
    | [y0, y1, y2, y3, y4, y5, y6, y7], _ =>
      obtain ⟨st, e0⟩ := open_gd (cs := [c0, c1, c2]) (x := y0) (by simpa [Value.cells, size23] using hg 0 _ rfl)
      obtain ⟨yd, e1⟩ := open_gd (cs := [c3, c4, c5]) (x := y1) (by simpa [Value.cells, size23] using hg 1 _ rfl)
      obtain ⟨rate, e2, _⟩ := DataW.trod_int Tryd.underlying3 (cs := [c6]) (x := y2) (by simpa [Value.cells, size3] using hg 2 _ rfl)
      obtain ⟨weeks, e3, _⟩ := DataW.trod_int Tryd.underlying3 (cs := [c7]) (x := y3) (by simpa [Value.cells, size3] using hg 3 _ rfl)
      obtain ⟨land, e4, _⟩ := DataW.trod_int Tryd.underlying3 (cs := [c8]) (x := y4) (by simpa [Value.cells, size3] using hg 4 _ rfl)
      obtain ⟨AS, ns, cs, ss, e5, _, s2, s3, s4⟩ := open_rowAt (by decide) Tryd.underlying24 size44 (R := shR) open_shp (cs := [c9]) (x := y5) (by simpa [Value.cells, size24] using hg 5 _ rfl)
      obtain ⟨AI, ni, ci, is, e6, _, i2, i3, i4⟩ := open_grid (by decide) Tryd.underlying25 size42 Tryd.underlying42 size4 (R := boolR) open_bl (cs := [c10]) (x := y6) (by simpa [Value.cells, size25] using hg 6 _ rfl)
      obtain ⟨AW, nw, cw, ws, e7, _, w2, w3, w4⟩ := open_grid (by decide) Tryd.underlying26 size33 Tryd.underlying33 size23 (R := gR) open_gd (cs := [c11]) (x := y7) (by simpa [Value.cells, size26] using hg 7 _ rfl)
      simp [gR] at e0 e1 e2 e3 e4 e5 e6 e7
      obtain ⟨rfl, rfl, rfl⟩ := e0
      obtain ⟨rfl, rfl, rfl⟩ := e1
      subst e2 e3 e4 e5 e6 e7
      exact ⟨⟨⟨st, yd, rate, weeks, land, ss, is, ws⟩, AS, ns, cs, AI, ni, ci, AW, nw, cw⟩, rfl, ⟨s3, i3, w3, s2, i2, w2, s4, i4, w4⟩⟩
end
end Go.Proofs.YtijjkiogmlannaaDoor

namespace Go.Proofs.YtijjkiogmlannaaDoor
open Go.ChangeShapes Go.WideShapes Go.ChangeAt Go.RowKit

theorem own_knob : ownKnob Tryd.prog.godebug = none := by kernel_rfl
abbrev LaidL : List (String × DataW Unit) := [("math/bits.deBruijn32tab", Rows.laid_math_bits_deBruijn32tab), ("math/bits.deBruijn64tab", Rows.laid_math_bits_deBruijn64tab), ("internal/strconv.uint64pow10", Rows.laid_internal_strconv_uint64pow10)]
theorem g_pow : Tryd.prog.globalNamed "internal/strconv.uint64pow10" = some 0 := by kernel_rfl
theorem t_pow : (Tryd.prog.globals[0]?).map (·.type) = some 141 := by kernel_rfl
theorem c134 : Tryd.prog.cellsOf 134 = 1 := by kernel_rfl
theorem c141 : Tryd.prog.cellsOf 141 = 20 := by kernel_rfl
theorem door_met (os : Os) (args : Array Value) : laidMetH Tryd.prog LaidL ((World.doorLaid Tryd.prog 400 os).forCall (fun _ _ => 0) ⟨#[], args, []⟩).memory :=
  laidMetH_of_parts3 (fuel := 8) (laidMet_of_run' 8 (by kernel_rfl) (by kernel_rfl)) (by kernel_rfl) (by kernel_rfl)
theorem tab_of_laid {W : World} (h : laidMetH Tryd.prog LaidL W) : Tab W := by
  rw [MakeChecks.laidMetH_plain _ _ _ (by kernel_rfl)] at h
  obtain ⟨ps, ⟨g0, t0, cs0, f0, p0, q0, hg0, ht0, hv0, hd0, ⟨g1, t1, cs1, f1, p1, q1, hg1, ht1, hv1, hd1, ⟨g2, t2, cs2, f2, p2, q2, hg2, ht2, hv2, hd2, _, _⟩, _⟩, _⟩, _⟩ := h
  obtain rfl := Option.some.inj (g_pow.symm.trans hg2)
  obtain rfl := Option.some.inj (t_pow.symm.trans ht2)
  refine Lib.tabBelow_of_tabIs ?_
  unfold Lib.TabIs
  rw [hv2, ← Lib.cells_of_tab Tryd.underlying141 Tryd.underlying134 c134 c141 (show DataW.trod _ Tryd.prog W 0 _ false f2 141 _ = some (Lib.tabData .u64 Lib.pow10Tab, p2) from hd2)]
/-- What came in reads behind the call as it read before. -/
theorem stays {H : Type} {enc : TypeId × Value → H} {t : TypeId} (hr : Tryd.prog.readableRec t = true) (hrow : t < Tryd.prog.types.size) {W W' : World} {v : Value} {d : DataW H} {ps : List MemPlace}
    (h : DataW.Trod enc Tryd.prog W 0 (fun _ => true) true t v d ps) (hb : Below W.heap.size W W') : DataW.Trod enc Tryd.prog W' 0 (fun b => decide (b < W.heap.size)) true t v d ps :=
  Below.trod laid_out hr hrow h hb (by obtain ⟨m, hm⟩ := h; exact DataW.trod_lt m _ _ _ hm)
theorem r28 : Tryd.prog.readableRec 28 = true := by kernel_rfl
theorem r23 : Tryd.prog.readableRec 23 = true := by kernel_rfl
theorem r3 : Tryd.prog.readableRec 3 = true := by kernel_rfl
theorem r4 : Tryd.prog.readableRec 4 = true := by kernel_rfl
theorem r9 : Tryd.prog.readableRec 9 = true := by kernel_rfl
theorem tsz (t : Nat) (h : t < 60) : t < Tryd.prog.types.size := Nat.lt_trans h (of_decide_eq_true (by kernel_rfl))
end Go.Proofs.YtijjkiogmlannaaDoor
