/- Arguments opened to cells: a site, thaws, a plan, a truth, a pile, a cure. From a row's condition to the walks' facts: the table of the library's, and the world in which the witness begins. -/
import Derived.Test.YtdlaphlpimlgdaaGreatDoorCF
import Derived.Test.YtdlaphlpimlgdaaGreatDoorRows
import Derived.Deep.Slices
import Derived.ChangeSame
import Derived.ChangeOld
import Derived.Lib.SmallJoins
import Derived.ProofKit
import Derived.LaidMore
import Derived.LaidLaws
import Derived.OpenShut
import Derived.Carry
import Derived.Stop.Joined
import Derived.Lib.LaidTab
import Derived.MakeChecks
namespace Go.Proofs.YtdlaphlpimlgdaaGreatDoor
open Go.ChangeShapes Go.WideShapes Go.Deep Go.RowKit

theorem list_by {α : Type} {P : Nat → α → Prop} : ∀ {n : Nat}, (∀ i, i < n → ∃ x, P i x) → ∃ xs : List α, xs.length = n ∧ ∀ i x, xs[i]? = some x → P i x
  | 0, _ => ⟨[], rfl, fun i x h => by simp at h⟩
  | n + 1, h => by
    obtain ⟨xs, hl, hx⟩ := list_by (n := n) fun i hi => h i (by omega)
    obtain ⟨y, hy⟩ := h n (by omega)
    refine ⟨xs ++ [y], by simp [hl], fun i x hi => ?_⟩
    by_cases hn : i < n
    · rw [List.getElem?_append_left (by omega)] at hi
      exact hx i x hi
    · rw [List.getElem?_append_right (by omega)] at hi
      have : i - xs.length = 0 := by
        have := (List.getElem?_eq_some_iff.1 hi).1
        simp at this; omega
      rw [this] at hi
      have hin : i = n := by omega
      subst hin
      simp at hi
      subst hi
      exact hy

set_option maxRecDepth 100000
section
variable {H : Type} {enc : TypeId × Value → H} {w : World} {base : Nat} {spare : Nat → Bool} {held : Bool}
theorem size3 : Tryz.prog.cellsOf 3 = 1 := by kernel_rfl
theorem size42 : Tryz.prog.cellsOf 42 = 2 := by kernel_rfl
theorem size45 : Tryz.prog.cellsOf 45 = 7 := by kernel_rfl
theorem size74 : Tryz.prog.cellsOf 74 = 2 := by kernel_rfl
theorem size119 : Tryz.prog.cellsOf 119 = 3 := by kernel_rfl
theorem size108 : Tryz.prog.cellsOf 108 = 2 := by kernel_rfl
theorem size68 : Tryz.prog.cellsOf 68 = 3 := by kernel_rfl
theorem size22 : Tryz.prog.cellsOf 22 = 1 := by kernel_rfl
theorem size23 : Tryz.prog.cellsOf 23 = 1 := by kernel_rfl
theorem size24 : Tryz.prog.cellsOf 24 = 1 := by kernel_rfl
theorem size26 : Tryz.prog.cellsOf 26 = 6 := by kernel_rfl
theorem size34 : Tryz.prog.cellsOf 34 = 1 := by kernel_rfl
theorem size40 : Tryz.prog.cellsOf 40 = 1 := by kernel_rfl
theorem size52 : Tryz.prog.cellsOf 52 = 1 := by kernel_rfl
/-- Two numbers. -/
theorem open_two {t : TypeId} {fuel : Nat} {cs : List Value} {x : DataW H × List MemPlace} {f g : Field} (ht : Tryz.prog.underlying t = some (.struct #[f, g])) (hs : Tryz.prog.cellsOf t = 2) (hf : f.type = 3 ∧ f.offset = 0) (hg : g.type = 3 ∧ g.offset = 1)
    (h : DataW.trod enc Tryz.prog w base spare held fuel t cs = some x) : ∃ y : Int × Int, cs = prR y := by
  obtain ⟨y0, y1, n, _, hl, h0, h1⟩ := trod_struct2 ht h
  rw [hf.1, hf.2] at h0
  rw [hg.1, hg.2] at h1
  obtain ⟨lo, e0, _⟩ := DataW.trod_int Tryz.underlying3 h0
  obtain ⟨hi, e1, _⟩ := DataW.trod_int Tryz.underlying3 h1
  rw [hs] at hl
  simp only [size3] at e0 e1
  match cs, hl with
  | [a, b], _ =>
    simp at e0 e1
    exact ⟨(lo, hi), by rw [e0, e1]; rfl⟩
theorem open_span {fuel : Nat} {cs : List Value} {x : DataW H × List MemPlace} (h : DataW.trod enc Tryz.prog w base spare held fuel 42 cs = some x) : ∃ y : Int × Int, cs = prR y := open_two Tryz.underlying42 size42 ⟨rfl, rfl⟩ ⟨rfl, rfl⟩ h
theorem open_pair {fuel : Nat} {cs : List Value} {x : DataW H × List MemPlace} (h : DataW.trod enc Tryz.prog w base spare held fuel 74 cs = some x) : ∃ y : Int × Int, cs = prR y := open_two Tryz.underlying74 size74 ⟨rfl, rfl⟩ ⟨rfl, rfl⟩ h
theorem open_cureEl {fuel : Nat} {cs : List Value} {x : DataW H × List MemPlace} (h : DataW.trod enc Tryz.prog w base spare held fuel 108 cs = some x) : ∃ y : Int × Int, cs = prR y := open_two Tryz.underlying108 size108 ⟨rfl, rfl⟩ ⟨rfl, rfl⟩ h
theorem open_rw {fuel : Nat} {cs : List Value} {x : DataW H × List MemPlace} (h : DataW.trod enc Tryz.prog w base spare held fuel 119 cs = some x) : ∃ y : Rw, cs = rwR y := by
  obtain ⟨y0, y1, n, _, hl, h0, h1⟩ := trod_struct2 Tryz.underlying119 h
  obtain ⟨u, e0, _⟩ := DataW.trod_int Tryz.underlying3 h0
  obtain ⟨⟨lo, hi⟩, e1⟩ := open_span h1
  rw [size119] at hl
  simp only [size3, size42] at e0 e1
  match cs, hl with
  | [a, b, c], _ =>
    simp [prR] at e0 e1
    exact ⟨⟨u, lo, hi⟩, by rw [e0, e1.1, e1.2]; rfl⟩
theorem open_tru {fuel : Nat} {cs : List Value} {x : DataW H × List MemPlace} (h : DataW.trod enc Tryz.prog w base spare held fuel 68 cs = some x) : ∃ y : Tru, cs = truR y := by
  obtain ⟨xs, n, _, _, hl, hlen, hf⟩ := DataW.trod_struct Tryz.underlying68 h
  match xs, hlen with
  | [y0, y1, y2], _ =>
    obtain ⟨a, e0, _⟩ := DataW.trod_int Tryz.underlying3 (by simpa using hf 0 _ rfl)
    obtain ⟨b, e1, _⟩ := DataW.trod_int Tryz.underlying3 (by simpa using hf 1 _ rfl)
    obtain ⟨c, e2, _⟩ := DataW.trod_int Tryz.underlying3 (by simpa using hf 2 _ rfl)
    rw [size68] at hl
    simp only [size3] at e0 e1 e2
    match cs, hl with
    | [p, q, r], _ =>
      simp at e0 e1 e2
      exact ⟨⟨a, b, c⟩, by rw [e0, e1, e2]; rfl⟩
theorem open_pil {fuel : Nat} {cs : List Value} {x : DataW H × List MemPlace} (h : DataW.trod enc Tryz.prog w base spare held fuel 45 cs = some x) : ∃ y : Pil, cs = pilR y := by
  obtain ⟨xs, n, _, _, hl, hlen, hf⟩ := DataW.trod_struct Tryz.underlying45 h
  match xs, hlen with
  | [y0, y1, y2, y3, y4, y5], _ =>
    obtain ⟨a, e0, _⟩ := DataW.trod_int Tryz.underlying3 (by simpa using hf 0 _ rfl)
    obtain ⟨b, e1, _⟩ := DataW.trod_int Tryz.underlying3 (by simpa using hf 1 _ rfl)
    obtain ⟨c, e2, _⟩ := DataW.trod_int Tryz.underlying3 (by simpa using hf 2 _ rfl)
    obtain ⟨⟨l, g⟩, e3⟩ := open_span (by simpa using hf 3 _ rfl)
    obtain ⟨d, e4, _⟩ := DataW.trod_int Tryz.underlying3 (by simpa using hf 4 _ rfl)
    obtain ⟨f, e5, _⟩ := DataW.trod_int Tryz.underlying3 (by simpa using hf 5 _ rfl)
    rw [size45] at hl
    simp only [size3, size42] at e0 e1 e2 e3 e4 e5
    match cs, hl with
    | [p, q, r, s, t, u, v], _ =>
      simp [prR] at e0 e1 e2 e3 e4 e5
      exact ⟨⟨a, b, c, l, g, d, f⟩, by rw [e0, e1, e2, e3.1, e3.2, e4, e5]; rfl⟩
/-- A slice of elements of several cells, as this program's contracts have it. -/
theorem open_row {t e : TypeId} {k : Nat} (hk : 0 < k) (ht : Tryz.prog.underlying t = some (.slice e)) (hs : Tryz.prog.cellsOf e = k) {α : Type} {R : α → List Value → Prop}
    (he : ∀ {fuel : Nat} {cs : List Value} {x : DataW H × List MemPlace}, DataW.trod enc Tryz.prog w base spare held fuel e cs = some x → ∃ y, R y cs)
    {fuel : Nat} {cs : List Value} {x : DataW H × List MemPlace} (h : DataW.trod enc Tryz.prog w base spare held fuel t cs = some x) :
    ∃ (A : Option Addr) (n c : Nat) (ls : List α), cs = [.slice A n c] ∧ n ≤ c ∧ n ≤ maxLen ∧ ls.length = n ∧
      (ls ≠ [] → ∃ b o, A = some ⟨b, o, none⟩ ∧ b < w.heap.size ∧ ∀ i y, ls[i]? = some y → ∃ us, R y us ∧ us.length = k ∧ ∀ j, j < k → w.cell? ⟨b, o + i * k + j, none⟩ = us[j]?) := by
  rcases open_slice ht h with ⟨rfl, _⟩ | ⟨a, len, cap, m, n, D, Pl, rfl, _, hl, hm, hmm, _, hi⟩
  · exact ⟨none, 0, 0, [], rfl, Nat.le_refl _, by unfold maxLen; omega, rfl, fun h => absurd rfl h⟩
  · rw [hs] at hi
    have hlm : len ≤ m := by rw [hmm]; split <;> omega
    by_cases h0 : len = 0
    · subst h0
      exact ⟨some a, 0, cap, [], rfl, hl, by unfold maxLen; omega, rfl, fun h => absurd rfl h⟩
    · obtain ⟨b, o, sp⟩ := a
      obtain ⟨cs0, hc0, _⟩ := hi 0 (by omega)
      obtain ⟨_, hl0, hat0⟩ := World.cells?_some hc0
      have hcell := hat0 0 hk
      have hv : cs0[0]? = some (cs0[0]'(by omega)) := List.getElem?_eq_getElem (by omega)
      rw [hv] at hcell
      have hsp : sp = none := by simpa [Addr.add] using World.cell?_spot hcell
      subst hsp
      have hblk : b < w.heap.size := by simpa [Addr.add] using World.cells?_block hc0 hk
      have hall : ∀ i, i < len → ∃ y, ∃ us, R y us ∧ us.length = k ∧ ∀ j, j < k → w.cell? ⟨b, o + i * k + j, none⟩ = us[j]? := fun i hil => by
        obtain ⟨cs', hc, ht'⟩ := hi i (by omega)
        obtain ⟨y, hy⟩ := he ht'
        obtain ⟨_, hcl, hat⟩ := World.cells?_some hc
        refine ⟨y, cs', hy, hcl, fun j hj => ?_⟩
        have := hat j hj
        rw [← this]
        congr 1
        simp only [Addr.add]
        split <;> split <;> simp <;> omega
      obtain ⟨ls, hll, hls⟩ := list_by hall
      exact ⟨_, len, cap, ls, rfl, hl, by omega, hll, fun _ => ⟨b, o, rfl, hblk, hls⟩⟩
/-- The same, as rows of cells. -/
theorem open_rowAt {t e : TypeId} {k : Nat} (hk : 0 < k) (ht : Tryz.prog.underlying t = some (.slice e)) (hs : Tryz.prog.cellsOf e = k) {α : Type} {R : α → List Value}
    (he : ∀ {fuel : Nat} {cs : List Value} {x : DataW H × List MemPlace}, DataW.trod enc Tryz.prog w base spare held fuel e cs = some x → ∃ y, cs = R y)
    {fuel : Nat} {cs : List Value} {x : DataW H × List MemPlace} (h : DataW.trod enc Tryz.prog w base spare held fuel t cs = some x) :
    ∃ (A : Option Addr) (n c : Nat) (ls : List α), cs = [.slice A n c] ∧ n ≤ c ∧ n ≤ maxLen ∧ ls.length = n ∧ RowAt k R w w.heap.size A ls := by
  obtain ⟨A, n, c, ls, h1, h2, h3, h4, h5⟩ := open_row hk ht hs (R := fun y cs => cs = R y) he h
  refine ⟨A, n, c, ls, h1, h2, h3, h4, fun hne => ?_⟩
  obtain ⟨b, o, e, hb, hat⟩ := h5 hne
  refine ⟨b, o, e, hb, fun i y hi j v hv => ?_⟩
  obtain ⟨us, rfl, hl, hc⟩ := hat i y hi
  rw [hc j (by rw [← hl]; exact (List.getElem?_eq_some_iff.1 hv).1), hv]
/-- Rows of rows. -/
theorem open_grid {t s e : TypeId} {k : Nat} (hk : 0 < k) (ht : Tryz.prog.underlying t = some (.slice s)) (hs1 : Tryz.prog.cellsOf s = 1) (hs : Tryz.prog.underlying s = some (.slice e)) (hsz : Tryz.prog.cellsOf e = k) {α : Type} {R : α → List Value}
    (he : ∀ {fuel : Nat} {cs : List Value} {x : DataW H × List MemPlace}, DataW.trod enc Tryz.prog w base spare held fuel e cs = some x → ∃ y, cs = R y)
    {fuel : Nat} {cs : List Value} {x : DataW H × List MemPlace} (h : DataW.trod enc Tryz.prog w base spare held fuel t cs = some x) :
    ∃ (A : Option Addr) (n c : Nat) (ls : List (List α)), cs = [.slice A n c] ∧ n ≤ c ∧ n ≤ maxLen ∧ ls.length = n ∧ GridAt k R w w.heap.size A ls := by
  obtain ⟨A, n, c, ls, h1, h2, h3, h4, h5⟩ := open_row (by decide) ht hs1 (R := fun (y : List α) cs => ∃ A' c', cs = [.slice A' y.length c'] ∧ RowAt k R w w.heap.size A' y ∧ y.length ≤ maxLen ∧ y.length ≤ c') (fun h => by
    obtain ⟨A, n, c, ls, h1, h2, h3, h4, h5⟩ := open_rowAt hk hs hsz he h
    exact ⟨ls, A, c, by rw [h1, h4], h5, by omega, by omega⟩) h
  refine ⟨A, n, c, ls, h1, h2, h3, h4, fun hne => ?_⟩
  obtain ⟨b, o, e, hb, hat⟩ := h5 hne
  refine ⟨b, o, e, hb, fun i y hi => ?_⟩
  obtain ⟨us, ⟨A', c', rfl, g1, g2, g3⟩, _, hc⟩ := hat i y hi
  exact ⟨A', c', by simpa using hc 0 (by omega), g1, g2, g3⟩
theorem arg_slice {r : Reach} {b0 : Nat} {v : Value} {t e : TypeId} (hv : Value.okWide Tryz.prog w r b0 t v) (ht : Tryz.prog.underlying t = some (.slice e)) {A : Option Addr} {n c : Nat} (he : v.cells.toList = [.slice A n c]) : v = .slice A n c := by
  obtain ⟨a, len, cap, rfl⟩ := okWide_slice ht hv
  simpa [Value.cells] using he
theorem open_ints {r : Reach} {b0 : Nat} {v : Value} {d : DataW H} {p : List MemPlace} (hv : Value.okWide Tryz.prog w r b0 34 v) (h : DataW.Trod enc Tryz.prog w base spare held 34 v d p) :
    ∃ (A : Option Addr) (n c : Nat) (xs : List Int), v = .slice A n c ∧ n ≤ c ∧ n ≤ maxLen ∧ xs.length = n ∧ IntsAt w w.heap.size A xs := by
  obtain ⟨fuel, hf⟩ := h
  obtain ⟨A, n, c, xs, e, g⟩ := open_rowAt (by decide) Tryz.underlying34 size3 (R := intR) (fun h => by obtain ⟨k, e, _⟩ := DataW.trod_int Tryz.underlying3 h; exact ⟨k, e⟩) hf
  exact ⟨A, n, c, xs, arg_slice hv Tryz.underlying34 e, g⟩
theorem open_cure {r : Reach} {b0 : Nat} {v : Value} {d : DataW H} {p : List MemPlace} (hv : Value.okWide Tryz.prog w r b0 85 v) (h : DataW.Trod enc Tryz.prog w base spare held 85 v d p) :
    ∃ (A : Option Addr) (n c : Nat) (xs : List (Int × Int)), v = .slice A n c ∧ n ≤ c ∧ n ≤ maxLen ∧ xs.length = n ∧ PrsAt w w.heap.size A xs := by
  obtain ⟨fuel, hf⟩ := h
  obtain ⟨A, n, c, xs, e, g⟩ := open_rowAt (by decide) Tryz.underlying85 size108 (R := prR) open_cureEl hf
  exact ⟨A, n, c, xs, arg_slice hv Tryz.underlying85 e, g⟩
theorem open_thaws {r : Reach} {b0 : Nat} {v : Value} {d : DataW H} {p : List MemPlace} (hv : Value.okWide Tryz.prog w r b0 27 v) (h : DataW.Trod enc Tryz.prog w base spare held 27 v d p) :
    ∃ (A : Option Addr) (n c : Nat) (xs : List (List Sp)), v = .slice A n c ∧ n ≤ c ∧ n ≤ maxLen ∧ xs.length = n ∧ SpsAt w w.heap.size A xs := by
  obtain ⟨fuel, hf⟩ := h
  obtain ⟨A, n, c, xs, e, g⟩ := open_grid (by decide) Tryz.underlying27 size40 Tryz.underlying40 size42 (R := prR) open_span hf
  exact ⟨A, n, c, xs, arg_slice hv Tryz.underlying27 e, g⟩
theorem open_truth {r : Reach} {b0 : Nat} {v : Value} {d : DataW H} {p : List MemPlace} (hv : Value.okWide Tryz.prog w r b0 51 v) (h : DataW.Trod enc Tryz.prog w base spare held 51 v d p) :
    ∃ (A : Option Addr) (n c : Nat) (xs : List (List Tru)), v = .slice A n c ∧ n ≤ c ∧ n ≤ maxLen ∧ xs.length = n ∧ GridAt 3 truR w w.heap.size A xs := by
  obtain ⟨fuel, hf⟩ := h
  obtain ⟨A, n, c, xs, e, g⟩ := open_grid (by decide) Tryz.underlying51 size52 Tryz.underlying52 size68 (R := truR) open_tru hf
  exact ⟨A, n, c, xs, arg_slice hv Tryz.underlying51 e, g⟩
theorem open_book {r : Reach} {b0 : Nat} {v : Value} {d : DataW H} {p : List MemPlace} (hv : Value.okWide Tryz.prog w r b0 53 v) (h : DataW.Trod enc Tryz.prog w base spare held 53 v d p) :
    ∃ (A : Option Addr) (n c : Nat) (xs : List (List Int)), v = .slice A n c ∧ n ≤ c ∧ n ≤ maxLen ∧ xs.length = n ∧ LvsAt w w.heap.size A xs := by
  obtain ⟨fuel, hf⟩ := h
  obtain ⟨A, n, c, xs, e, g⟩ := open_grid (by decide) Tryz.underlying53 size34 Tryz.underlying34 size3 (R := intR) (fun h => by obtain ⟨k, e, _⟩ := DataW.trod_int Tryz.underlying3 h; exact ⟨k, e⟩) hf
  exact ⟨A, n, c, xs, arg_slice hv Tryz.underlying53 e, g⟩
theorem open_spanV {r : Reach} {b0 : Nat} {v : Value} {d : DataW H} {p : List MemPlace} (hv : Value.okWide Tryz.prog w r b0 42 v) (h : DataW.Trod enc Tryz.prog w base spare held 42 v d p) : ∃ lo hi : Int, v = .agg #[.int .i64 lo, .int .i64 hi] := by
  obtain ⟨cs, rfl, hsz⟩ := okWide_struct Tryz.underlying42 hv
  obtain ⟨fuel, hf⟩ := h
  obtain ⟨⟨lo, hi⟩, e⟩ := open_span hf
  refine ⟨lo, hi, ?_⟩
  have : cs.toList = prR (lo, hi) := by simpa [Value.cells] using e
  rw [show cs = (prR (lo, hi)).toArray by rw [← this]]
  rfl
theorem open_pilV {r : Reach} {b0 : Nat} {v : Value} {d : DataW H} {p : List MemPlace} (hv : Value.okWide Tryz.prog w r b0 45 v) (h : DataW.Trod enc Tryz.prog w base spare held 45 v d p) : ∃ y : Pil, v = pilV y := by
  obtain ⟨cs, rfl, hsz⟩ := okWide_struct Tryz.underlying45 hv
  obtain ⟨fuel, hf⟩ := h
  obtain ⟨y, e⟩ := open_pil hf
  refine ⟨y, ?_⟩
  have : cs.toList = pilR y := by simpa [Value.cells] using e
  rw [show cs = (pilR y).toArray by rw [← this]]
  rfl
/-- A site, by value. -/
theorem open_site {r : Reach} {b0 : Nat} {v : Value} {d : DataW H} {p : List MemPlace} (hv : Value.okWide Tryz.prog w r b0 26 v) (h : DataW.Trod enc Tryz.prog w base spare held 26 v d p) :
    ∃ (AP AQ AR : Option Addr) (np cp nq cq nr cr : Nat) (ps : List Pil) (qs : List (Int × Int)) (rs : List Rw) (may sink tilt : Int), v = .agg #[.slice AP np cp, .slice AQ nq cq, .slice AR nr cr, .int .i64 may, .int .i64 sink, .int .i64 tilt] ∧
      (np ≤ maxLen ∧ ps.length = np ∧ PilsAt w w.heap.size AP ps) ∧ (nq ≤ maxLen ∧ qs.length = nq ∧ PrsAt w w.heap.size AQ qs) ∧ nr ≤ maxLen ∧ rs.length = nr ∧ RwsAt w w.heap.size AR rs := by
  obtain ⟨cs, rfl, hsz⟩ := okWide_struct Tryz.underlying26 hv
  obtain ⟨fuel, hf⟩ := h
  obtain ⟨xs, n, _, _, hl, hlen, hg⟩ := DataW.trod_struct Tryz.underlying26 hf
  rw [size26] at hsz
  obtain ⟨cs⟩ := cs
  match cs, hsz with
  | [c0, c1, c2, c3, c4, c5], _ =>
    match xs, hlen with
    | [y0, y1, y2, y3, y4, y5], _ =>
      obtain ⟨AP, np, cp, ps, e0, _, p2, p3, p4⟩ := open_rowAt (by decide) Tryz.underlying22 size45 (R := pilR) open_pil (cs := [c0]) (x := y0) (by simpa [Value.cells, size22] using hg 0 _ rfl)
      obtain ⟨AQ, nq, cq, qs, e1, _, q2, q3, q4⟩ := open_rowAt (by decide) Tryz.underlying23 size74 (R := prR) open_pair (cs := [c1]) (x := y1) (by simpa [Value.cells, size23] using hg 1 _ rfl)
      obtain ⟨AR, nr, cr, rs, e2, _, r2, r3, r4⟩ := open_rowAt (by decide) Tryz.underlying24 size119 (R := rwR) open_rw (cs := [c2]) (x := y2) (by simpa [Value.cells, size24] using hg 2 _ rfl)
      obtain ⟨may, e3, _⟩ := DataW.trod_int Tryz.underlying3 (cs := [c3]) (x := y3) (by simpa [Value.cells, size3] using hg 3 _ rfl)
      obtain ⟨sink, e4, _⟩ := DataW.trod_int Tryz.underlying3 (cs := [c4]) (x := y4) (by simpa [Value.cells, size3] using hg 4 _ rfl)
      obtain ⟨tilt, e5, _⟩ := DataW.trod_int Tryz.underlying3 (cs := [c5]) (x := y5) (by simpa [Value.cells, size3] using hg 5 _ rfl)
      simp at e0 e1 e2 e3 e4 e5
      subst e0 e1 e2 e3 e4 e5
      exact ⟨AP, AQ, AR, np, cp, nq, cq, nr, cr, ps, qs, rs, may, sink, tilt, rfl, ⟨p2, p3, p4⟩, ⟨q2, q3, q4⟩, r2, r3, r4⟩
end
end Go.Proofs.YtdlaphlpimlgdaaGreatDoor

namespace Go.Proofs.YtdlaphlpimlgdaaGreatDoor
open Go.ChangeShapes Go.WideShapes Go.ChangeAt Go.RowKit

theorem own_knob : ownKnob Tryz.prog.godebug = none := by kernel_rfl
abbrev LaidL : List (String × DataW Unit) := [("math/bits.deBruijn32tab", Rows.laid_math_bits_deBruijn32tab), ("math/bits.deBruijn64tab", Rows.laid_math_bits_deBruijn64tab), ("internal/strconv.uint64pow10", Rows.laid_internal_strconv_uint64pow10)]
theorem g_pow : Tryz.prog.globalNamed "internal/strconv.uint64pow10" = some 1 := by kernel_rfl
theorem t_pow : (Tryz.prog.globals[1]?).map (·.type) = some 243 := by kernel_rfl
theorem c222 : Tryz.prog.cellsOf 222 = 1 := by kernel_rfl
theorem c243 : Tryz.prog.cellsOf 243 = 20 := by kernel_rfl
theorem door_met (os : Os) (args : Array Value) : laidMetH Tryz.prog LaidL ((World.doorLaid Tryz.prog 400 os).forCall (fun _ _ => 0) ⟨#[], args, []⟩).memory :=
  laidMetH_of_parts3 (fuel := 8) (laidMet_of_run' 8 (by kernel_rfl) (by kernel_rfl)) (by kernel_rfl) (by kernel_rfl)
theorem tab_of_laid {W : World} (h : laidMetH Tryz.prog LaidL W) : Tab W := by
  rw [MakeChecks.laidMetH_plain _ _ _ (by kernel_rfl)] at h
  obtain ⟨ps, ⟨g0, t0, cs0, f0, p0, q0, hg0, ht0, hv0, hd0, ⟨g1, t1, cs1, f1, p1, q1, hg1, ht1, hv1, hd1, ⟨g2, t2, cs2, f2, p2, q2, hg2, ht2, hv2, hd2, _, _⟩, _⟩, _⟩, _⟩ := h
  obtain rfl := Option.some.inj (g_pow.symm.trans hg2)
  obtain rfl := Option.some.inj (t_pow.symm.trans ht2)
  refine Lib.tabBelow_of_tabIs ?_
  unfold Lib.TabIs
  rw [hv2, ← Lib.cells_of_tab Tryz.underlying243 Tryz.underlying222 c222 c243 (show DataW.trod _ Tryz.prog W 0 _ false f2 243 _ = some (Lib.tabData .u64 Lib.pow10Tab, p2) from hd2)]
/-- What came in reads behind the call as it read before. -/
theorem stays {H : Type} {enc : TypeId × Value → H} {t : TypeId} (hr : Tryz.prog.readableRec t = true) (hrow : t < Tryz.prog.types.size) {W W' : World} {v : Value} {d : DataW H} {ps : List MemPlace}
    (h : DataW.Trod enc Tryz.prog W 0 (fun _ => true) true t v d ps) (hb : Below W.heap.size W W') : DataW.Trod enc Tryz.prog W' 0 (fun b => decide (b < W.heap.size)) true t v d ps :=
  Below.trod laid_out hr hrow h hb (by obtain ⟨m, hm⟩ := h; exact DataW.trod_lt m _ _ _ hm)
theorem r26 : Tryz.prog.readableRec 26 = true := by kernel_rfl
theorem r27 : Tryz.prog.readableRec 27 = true := by kernel_rfl
theorem r34 : Tryz.prog.readableRec 34 = true := by kernel_rfl
theorem r42 : Tryz.prog.readableRec 42 = true := by kernel_rfl
theorem r45 : Tryz.prog.readableRec 45 = true := by kernel_rfl
theorem r51 : Tryz.prog.readableRec 51 = true := by kernel_rfl
theorem r53 : Tryz.prog.readableRec 53 = true := by kernel_rfl
theorem r85 : Tryz.prog.readableRec 85 = true := by kernel_rfl
theorem r3 : Tryz.prog.readableRec 3 = true := by kernel_rfl
theorem r4 : Tryz.prog.readableRec 4 = true := by kernel_rfl
theorem r9 : Tryz.prog.readableRec 9 = true := by kernel_rfl
theorem tsz (t : Nat) (h : t < 100) : t < Tryz.prog.types.size := Nat.lt_trans h (of_decide_eq_true (by kernel_rfl))
end Go.Proofs.YtdlaphlpimlgdaaGreatDoor

namespace Go.Proofs.YtdlaphlpimlgdaaGreatDoor
open Go.ChangeShapes Go.RowKit
section
variable {H : Type} {enc : TypeId × Value → H} {P : Program} {w : World} {base : Nat} {spare : Nat → Bool} {held : Bool}
theorem trodAll_six {t0 t1 t2 t3 t4 t5 : TypeId} {args : Array Value} {ds : List (DataW H)} {ps : List MemPlace} (h : DataW.TrodAll enc P w base spare held [t0, t1, t2, t3, t4, t5] args.toList ds ps) :
    ∃ v0 v1 v2 v3 v4 v5 d0 d1 d2 d3 d4 d5 p0 p1 p2 p3 p4 p5, args = #[v0, v1, v2, v3, v4, v5] ∧ ds = [d0, d1, d2, d3, d4, d5] ∧ ps = p0 ++ p1 ++ p2 ++ p3 ++ p4 ++ p5 ∧ DataW.Trod enc P w base spare held t0 v0 d0 p0 ∧ DataW.Trod enc P w base spare held t1 v1 d1 p1 ∧ DataW.Trod enc P w base spare held t2 v2 d2 p2 ∧ DataW.Trod enc P w base spare held t3 v3 d3 p3 ∧ DataW.Trod enc P w base spare held t4 v4 d4 p4 ∧ DataW.Trod enc P w base spare held t5 v5 d5 p5 := by
  obtain ⟨v0, vs0, d0, ds0, p0, q0, hargs, rfl, rfl, g0, k0⟩ := trodAll_cons h
  obtain ⟨v1, vs1, d1, ds1, p1, q1, rfl, rfl, rfl, g1, k1⟩ := trodAll_cons k0
  obtain ⟨v2, vs2, d2, ds2, p2, q2, rfl, rfl, rfl, g2, k2⟩ := trodAll_cons k1
  obtain ⟨v3, vs3, d3, ds3, p3, q3, rfl, rfl, rfl, g3, k3⟩ := trodAll_cons k2
  obtain ⟨v4, vs4, d4, ds4, p4, q4, rfl, rfl, rfl, g4, k4⟩ := trodAll_cons k3
  obtain ⟨v5, vs5, d5, ds5, p5, q5, rfl, rfl, rfl, g5, k5⟩ := trodAll_cons k4
  obtain ⟨rfl, rfl, rfl⟩ := trodAll_nil k5
  exact ⟨v0, v1, v2, v3, v4, v5, d0, d1, d2, d3, d4, d5, p0, p1, p2, p3, p4, p5, by cases args; simp_all, rfl, by simp, g0, g1, g2, g3, g4, g5⟩
theorem trodAll_seven {t0 t1 t2 t3 t4 t5 t6 : TypeId} {args : Array Value} {ds : List (DataW H)} {ps : List MemPlace} (h : DataW.TrodAll enc P w base spare held [t0, t1, t2, t3, t4, t5, t6] args.toList ds ps) :
    ∃ v0 v1 v2 v3 v4 v5 v6 d0 d1 d2 d3 d4 d5 d6 p0 p1 p2 p3 p4 p5 p6, args = #[v0, v1, v2, v3, v4, v5, v6] ∧ ds = [d0, d1, d2, d3, d4, d5, d6] ∧ ps = p0 ++ p1 ++ p2 ++ p3 ++ p4 ++ p5 ++ p6 ∧ DataW.Trod enc P w base spare held t0 v0 d0 p0 ∧ DataW.Trod enc P w base spare held t1 v1 d1 p1 ∧ DataW.Trod enc P w base spare held t2 v2 d2 p2 ∧ DataW.Trod enc P w base spare held t3 v3 d3 p3 ∧ DataW.Trod enc P w base spare held t4 v4 d4 p4 ∧ DataW.Trod enc P w base spare held t5 v5 d5 p5 ∧ DataW.Trod enc P w base spare held t6 v6 d6 p6 := by
  obtain ⟨v0, vs0, d0, ds0, p0, q0, hargs, rfl, rfl, g0, k0⟩ := trodAll_cons h
  obtain ⟨v1, vs1, d1, ds1, p1, q1, rfl, rfl, rfl, g1, k1⟩ := trodAll_cons k0
  obtain ⟨v2, vs2, d2, ds2, p2, q2, rfl, rfl, rfl, g2, k2⟩ := trodAll_cons k1
  obtain ⟨v3, vs3, d3, ds3, p3, q3, rfl, rfl, rfl, g3, k3⟩ := trodAll_cons k2
  obtain ⟨v4, vs4, d4, ds4, p4, q4, rfl, rfl, rfl, g4, k4⟩ := trodAll_cons k3
  obtain ⟨v5, vs5, d5, ds5, p5, q5, rfl, rfl, rfl, g5, k5⟩ := trodAll_cons k4
  obtain ⟨v6, vs6, d6, ds6, p6, q6, rfl, rfl, rfl, g6, k6⟩ := trodAll_cons k5
  obtain ⟨rfl, rfl, rfl⟩ := trodAll_nil k6
  exact ⟨v0, v1, v2, v3, v4, v5, v6, d0, d1, d2, d3, d4, d5, d6, p0, p1, p2, p3, p4, p5, p6, by cases args; simp_all, rfl, by simp, g0, g1, g2, g3, g4, g5, g6⟩
end
end Go.Proofs.YtdlaphlpimlgdaaGreatDoor
