/- Coolers: arguments opened to cells. -/
import Derived.Test.YtmppiiamcpjhnaaDB
import Derived.Test.YtmppiiamcpjhnaaRows
import Derived.Deep.Slices
import Derived.ChangeSame
import Derived.ChangeOld
import Derived.Lib.SmallJoins
import Derived.ProofKit
import Derived.OpenShut
import Derived.Carry
namespace Go.Proofs.Ytmppiiamcpjhnaa
open Go.ChangeShapes Go.WideShapes Go.Deep Go.RowKit Go.ChangeAt

theorem list_by {α : Type} {P : Nat → α → Prop} : ∀ {n : Nat}, (∀ i, i < n → ∃ x, P i x) → ∃ xs : List α, xs.length = n ∧ ∀ i x, xs[i]? = some x → P i x
  | 0, _ => ⟨[], rfl, fun i x h => by simp at h⟩
  | n + 1, h => by
    obtain ⟨xs, hl, hx⟩ := list_by (n := n) fun i hi => h i (by omega)
    obtain ⟨y, hy⟩ := h n (by omega)
    refine ⟨xs ++ [y], by simp [hl], fun i x hi => ?_⟩
    by_cases hn : i < n
    · rw [List.getElem?_append_left (by omega)] at hi
      exact hx i x hi
    · rw [List.getElem?_append_right (by omega)] at hi
      have : i - xs.length = 0 := by
        have := (List.getElem?_eq_some_iff.1 hi).1
        simp at this; omega
      rw [this] at hi
      have hin : i = n := by omega
      subst hin
      simp at hi
      subst hi
      exact hy


set_option maxRecDepth 100000
section
variable {H : Type} {enc : TypeId × Value → H} {w : World} {base : Nat} {spare : Nat → Bool} {held : Bool}
theorem size3 : Try.prog.cellsOf 3 = 1 := by kernel_rfl
theorem size22 : Try.prog.cellsOf 22 = 1 := by kernel_rfl
theorem size23 : Try.prog.cellsOf 23 = 1 := by kernel_rfl
theorem size25 : Try.prog.cellsOf 25 = 2 := by kernel_rfl
theorem size72 : Try.prog.cellsOf 72 = 2 := by kernel_rfl
theorem size74 : Try.prog.cellsOf 74 = 3 := by kernel_rfl
theorem size75 : Try.prog.cellsOf 75 = 1 := by kernel_rfl
theorem size77 : Try.prog.cellsOf 77 = 3 := by kernel_rfl
theorem open_pr {fuel : Nat} {cs : List Value} {x : DataW H × List MemPlace} (h : DataW.trod enc Try.prog w base spare held fuel 72 cs = some x) : ∃ s : Int × Int, cs = prR s := by
  obtain ⟨xs, n, _, _, hl, hlen, hf⟩ := DataW.trod_struct Try.underlying72 h
  match xs, hlen with
  | [y0, y1], _ =>
    obtain ⟨a, e0, _⟩ := DataW.trod_int Try.underlying3 (by simpa using hf 0 _ rfl)
    obtain ⟨b, e1, _⟩ := DataW.trod_int Try.underlying3 (by simpa using hf 1 _ rfl)
    rw [size72] at hl
    simp only [size3] at e0 e1
    match cs, hl with
    | [p, q], _ =>
      simp at e0 e1
      exact ⟨(a, b), by rw [e0, e1]; rfl⟩
theorem open_hs {fuel : Nat} {cs : List Value} {x : DataW H × List MemPlace} (h : DataW.trod enc Try.prog w base spare held fuel 74 cs = some x) : ∃ y : Hs, cs = hsR y := by
  obtain ⟨xs, n, _, _, hl, hlen, hf⟩ := DataW.trod_struct Try.underlying74 h
  rw [size74] at hl
  match cs, hl with
  | [c0, c1, c2], _ =>
    match xs, hlen with
    | [y0, y1], _ =>
      obtain ⟨a0, e0⟩ := open_pr (cs := [c0, c1]) (x := y0) (by simpa [size72] using hf 0 _ rfl)
      obtain ⟨a1, e1, _⟩ := DataW.trod_int Try.underlying3 (cs := [c2]) (x := y1) (by simpa [size3] using hf 1 _ rfl)
      simp [prR] at e0 e1
      exact ⟨⟨a0.1, a0.2, a1⟩, by rw [e0.1, e0.2, e1]; rfl⟩
theorem open_i {fuel : Nat} {cs : List Value} {x : DataW H × List MemPlace} (h : DataW.trod enc Try.prog w base spare held fuel 3 cs = some x) : ∃ b : Int, cs = intR b := by
  obtain ⟨b, e, _⟩ := DataW.trod_int Try.underlying3 h
  exact ⟨b, e⟩
/-- A slice of elements of several cells, as this program's contracts have it. -/
theorem open_row {t e : TypeId} {k : Nat} (hk : 0 < k) (ht : Try.prog.underlying t = some (.slice e)) (hs : Try.prog.cellsOf e = k) {α : Type} {R : α → List Value → Prop}
    (he : ∀ {fuel : Nat} {cs : List Value} {x : DataW H × List MemPlace}, DataW.trod enc Try.prog w base spare held fuel e cs = some x → ∃ y, R y cs)
    {fuel : Nat} {cs : List Value} {x : DataW H × List MemPlace} (h : DataW.trod enc Try.prog w base spare held fuel t cs = some x) :
    ∃ (A : Option Addr) (n c : Nat) (ls : List α), cs = [.slice A n c] ∧ n ≤ c ∧ n ≤ maxLen ∧ ls.length = n ∧
      (ls ≠ [] → ∃ b o, A = some ⟨b, o, none⟩ ∧ b < w.heap.size ∧ ∀ i y, ls[i]? = some y → ∃ us, R y us ∧ us.length = k ∧ ∀ j, j < k → w.cell? ⟨b, o + i * k + j, none⟩ = us[j]?) := by
  rcases open_slice ht h with ⟨rfl, _⟩ | ⟨a, len, cap, m, n, D, Pl, rfl, _, hl, hm, hmm, _, hi⟩
  · exact ⟨none, 0, 0, [], rfl, Nat.le_refl _, by unfold maxLen; omega, rfl, fun h => absurd rfl h⟩
  · rw [hs] at hi
    have hlm : len ≤ m := by rw [hmm]; split <;> omega
    by_cases h0 : len = 0
    · subst h0
      exact ⟨some a, 0, cap, [], rfl, hl, by unfold maxLen; omega, rfl, fun h => absurd rfl h⟩
    · obtain ⟨b, o, sp⟩ := a
      obtain ⟨cs0, hc0, _⟩ := hi 0 (by omega)
      obtain ⟨_, hl0, hat0⟩ := World.cells?_some hc0
      have hcell := hat0 0 hk
      have hv : cs0[0]? = some (cs0[0]'(by omega)) := List.getElem?_eq_getElem (by omega)
      rw [hv] at hcell
      have hsp : sp = none := by simpa [Addr.add] using World.cell?_spot hcell
      subst hsp
      have hblk : b < w.heap.size := by simpa [Addr.add] using World.cells?_block hc0 hk
      have hall : ∀ i, i < len → ∃ y, ∃ us, R y us ∧ us.length = k ∧ ∀ j, j < k → w.cell? ⟨b, o + i * k + j, none⟩ = us[j]? := fun i hil => by
        obtain ⟨cs', hc, ht'⟩ := hi i (by omega)
        obtain ⟨y, hy⟩ := he ht'
        obtain ⟨_, hcl, hat⟩ := World.cells?_some hc
        refine ⟨y, cs', hy, hcl, fun j hj => ?_⟩
        have := hat j hj
        rw [← this]
        congr 1
        simp only [Addr.add]
        split <;> split <;> simp <;> omega
      obtain ⟨ls, hll, hls⟩ := list_by hall
      exact ⟨_, len, cap, ls, rfl, hl, by omega, hll, fun _ => ⟨b, o, rfl, hblk, hls⟩⟩
/-- The same, as rows of cells. -/
theorem open_rowAt {t e : TypeId} {k : Nat} (hk : 0 < k) (ht : Try.prog.underlying t = some (.slice e)) (hs : Try.prog.cellsOf e = k) {α : Type} {R : α → List Value}
    (he : ∀ {fuel : Nat} {cs : List Value} {x : DataW H × List MemPlace}, DataW.trod enc Try.prog w base spare held fuel e cs = some x → ∃ y, cs = R y)
    {fuel : Nat} {cs : List Value} {x : DataW H × List MemPlace} (h : DataW.trod enc Try.prog w base spare held fuel t cs = some x) :
    ∃ (A : Option Addr) (n c : Nat) (ls : List α), cs = [.slice A n c] ∧ n ≤ c ∧ n ≤ maxLen ∧ ls.length = n ∧ RowAt k R w w.heap.size A ls := by
  obtain ⟨A, n, c, ls, h1, h2, h3, h4, h5⟩ := open_row hk ht hs (R := fun y cs => cs = R y) he h
  refine ⟨A, n, c, ls, h1, h2, h3, h4, fun hne => ?_⟩
  obtain ⟨b, o, e, hb, hat⟩ := h5 hne
  refine ⟨b, o, e, hb, fun i y hi j v hv => ?_⟩
  obtain ⟨us, rfl, hl, hc⟩ := hat i y hi
  rw [hc j (by rw [← hl]; exact (List.getElem?_eq_some_iff.1 hv).1), hv]
theorem arg_slice {r : Reach} {b0 : Nat} {v : Value} {t e : TypeId} (hv : Value.okWide Try.prog w r b0 t v) (ht : Try.prog.underlying t = some (.slice e)) {A : Option Addr} {n c : Nat} (he : v.cells.toList = [.slice A n c]) : v = .slice A n c := by
  obtain ⟨a, len, cap, rfl⟩ := okWide_slice ht hv
  simpa [Value.cells] using he
theorem open_si {fuel : Nat} {cs : List Value} {x : DataW H × List MemPlace} (h : DataW.trod enc Try.prog w base spare held fuel 77 cs = some x) :
    ∃ y : Si, ∃ A' c', cs = [.int .i64 y.co, .int .i64 y.we, .slice A' y.gv.length c'] ∧ PrsAt w w.heap.size A' y.gv ∧ y.gv.length ≤ maxLen ∧ y.gv.length ≤ c' := by
  obtain ⟨xs, n, _, _, hl, hlen, hf⟩ := DataW.trod_struct Try.underlying77 h
  rw [size77] at hl
  match cs, hl with
  | [c0, c1, c2], _ =>
    match xs, hlen with
    | [y0, y1, y2], _ =>
      obtain ⟨a0, e0, _⟩ := DataW.trod_int Try.underlying3 (cs := [c0]) (x := y0) (by simpa [size3] using hf 0 _ rfl)
      obtain ⟨a1, e1, _⟩ := DataW.trod_int Try.underlying3 (cs := [c1]) (x := y1) (by simpa [size3] using hf 1 _ rfl)
      obtain ⟨A, n, c, ls, e2, h2, h3, h4, h5⟩ := open_rowAt (by decide) Try.underlying75 size72 (R := prR) open_pr (cs := [c2]) (x := y2) (by simpa [size75] using hf 2 _ rfl)
      simp at e0 e1 e2
      subst e0 e1 e2
      exact ⟨⟨a0, a1, ls⟩, A, c, by rw [h4], h5, by rw [h4]; exact h3, by rw [h4]; exact h2⟩
/-- A town, by value. -/
theorem open_town {r : Reach} {b0 : Nat} {v : Value} {d : DataW H} {p : List MemPlace} (hv : Value.okWide Try.prog w r b0 25 v) (h : DataW.Trod enc Try.prog w base spare held 25 v d p) : ∃ (V : TV) (T : Tn), v = tvV V ∧ TnAt w w.heap.size V T := by
  obtain ⟨cs, rfl, hsz⟩ := okWide_struct Try.underlying25 hv
  obtain ⟨fuel, hf⟩ := h
  obtain ⟨xs, n, _, _, hl, hlen, hg⟩ := DataW.trod_struct Try.underlying25 hf
  rw [size25] at hsz
  obtain ⟨cs⟩ := cs
  match cs, hsz with
  | [c0, c1], _ =>
    match xs, hlen with
    | [y0, y1], _ =>
      obtain ⟨AH, nh, ch, hs, e0, _, i2, i3, i4⟩ := open_rowAt (by decide) Try.underlying22 size74 (R := hsR) open_hs (cs := [c0]) (x := y0) (by simpa [Value.cells, size22] using hg 0 _ rfl)
      obtain ⟨AS, ns, cs, ss, e1, _, s2, s3, s4⟩ := open_row (by decide) Try.underlying23 size77 open_si (cs := [c1]) (x := y1) (by simpa [Value.cells, size23] using hg 1 _ rfl)
      simp at e0 e1
      subst e0 e1
      refine ⟨⟨AH, nh, ch, AS, ns, cs⟩, ⟨hs, ss⟩, rfl, ⟨i4, fun hne => ?_, i3, s3, i2, s2⟩⟩
      obtain ⟨b, o, e, hb, hat⟩ := s4 hne
      refine ⟨b, o, e, hb, fun i y hi => ?_⟩
      obtain ⟨us, ⟨A', c', rfl, g1, g2, g3⟩, _, hc⟩ := hat i y hi
      exact ⟨A', c', ⟨by simpa using hc 0 (by omega), by simpa using hc 1 (by omega), by simpa using hc 2 (by omega)⟩, g1, g2, g3⟩
theorem open_ints {r : Reach} {b0 : Nat} {v : Value} {d : DataW H} {p : List MemPlace} (hv : Value.okWide Try.prog w r b0 26 v) (h : DataW.Trod enc Try.prog w base spare held 26 v d p) :
    ∃ (A : Option Addr) (n c : Nat) (xs : List Int), v = .slice A n c ∧ n ≤ c ∧ n ≤ maxLen ∧ xs.length = n ∧ IntsAt w w.heap.size A xs := by
  obtain ⟨fuel, hf⟩ := h
  obtain ⟨A, n, c, xs, e, g⟩ := open_rowAt (by decide) Try.underlying26 size3 (R := intR) open_i hf
  exact ⟨A, n, c, xs, arg_slice hv Try.underlying26 e, g⟩
end
theorem own_knob : ownKnob Try.prog.godebug = none := by kernel_rfl
/-- What came in reads behind the call as it read before. -/
theorem stays {H : Type} {enc : TypeId × Value → H} {t : TypeId} (hr : Try.prog.readableRec t = true) (hrow : t < Try.prog.types.size) {W W' : World} {v : Value} {d : DataW H} {ps : List MemPlace}
    (h : DataW.Trod enc Try.prog W 0 (fun _ => true) true t v d ps) (hb : Below W.heap.size W W') : DataW.Trod enc Try.prog W' 0 (fun b => decide (b < W.heap.size)) true t v d ps :=
  Below.trod laid_out hr hrow h hb (by obtain ⟨m, hm⟩ := h; exact DataW.trod_lt m _ _ _ hm)
theorem r25 : Try.prog.readableRec 25 = true := by kernel_rfl
theorem r26 : Try.prog.readableRec 26 = true := by kernel_rfl
theorem r3 : Try.prog.readableRec 3 = true := by kernel_rfl
theorem tsz (t : Nat) (h : t < 60) : t < Try.prog.types.size := Nat.lt_trans h (of_decide_eq_true (by kernel_rfl))
end Go.Proofs.Ytmppiiamcpjhnaa
