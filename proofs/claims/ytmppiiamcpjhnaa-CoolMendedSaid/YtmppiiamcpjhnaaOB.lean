/- Coolers: a truth opened to cells. -/
import Derived.Test.YtmppiiamcpjhnaaOA
import Derived.Test.YtmppiiamcpjhnaaDE
namespace Go.Proofs.Ytmppiiamcpjhnaa
open Go.ChangeShapes Go.WideShapes Go.Deep Go.RowKit Go.ChangeAt

set_option maxRecDepth 100000
section
variable {H : Type} {enc : TypeId × Value → H} {w : World} {base : Nat} {spare : Nat → Bool} {held : Bool}
theorem size26c : Try.prog.cellsOf 26 = 1 := by kernel_rfl
theorem size44 : Try.prog.cellsOf 44 = 1 := by kernel_rfl
theorem size46 : Try.prog.cellsOf 46 = 2 := by kernel_rfl
/-- Rows of rows. -/
theorem open_grid {t s e : TypeId} {k : Nat} (hk : 0 < k) (ht : Try.prog.underlying t = some (.slice s)) (hs1 : Try.prog.cellsOf s = 1) (hs : Try.prog.underlying s = some (.slice e)) (hsz : Try.prog.cellsOf e = k) {α : Type} {R : α → List Value}
    (he : ∀ {fuel : Nat} {cs : List Value} {x : DataW H × List MemPlace}, DataW.trod enc Try.prog w base spare held fuel e cs = some x → ∃ y, cs = R y)
    {fuel : Nat} {cs : List Value} {x : DataW H × List MemPlace} (h : DataW.trod enc Try.prog w base spare held fuel t cs = some x) :
    ∃ (A : Option Addr) (n c : Nat) (ls : List (List α)), cs = [.slice A n c] ∧ n ≤ c ∧ n ≤ maxLen ∧ ls.length = n ∧ GridAt k R w w.heap.size A ls := by
  obtain ⟨A, n, c, ls, h1, h2, h3, h4, h5⟩ := open_row (by decide) ht hs1 (R := fun (y : List α) cs => ∃ A' c', cs = [.slice A' y.length c'] ∧ RowAt k R w w.heap.size A' y ∧ y.length ≤ maxLen ∧ y.length ≤ c') (fun h => by
    obtain ⟨A, n, c, ls, h1, h2, h3, h4, h5⟩ := open_rowAt hk hs hsz he h
    exact ⟨ls, A, c, by rw [h1, h4], h5, by omega, by omega⟩) h
  refine ⟨A, n, c, ls, h1, h2, h3, h4, fun hne => ?_⟩
  obtain ⟨b, o, e, hb, hat⟩ := h5 hne
  refine ⟨b, o, e, hb, fun i y hi => ?_⟩
  obtain ⟨us, ⟨A', c', rfl, g1, g2, g3⟩, _, hc⟩ := hat i y hi
  exact ⟨A', c', by simpa using hc 0 (by omega), g1, g2, g3⟩
/-- A truth, by value. -/
theorem open_truth {r : Reach} {b0 : Nat} {v : Value} {d : DataW H} {p : List MemPlace} (hv : Value.okWide Try.prog w r b0 46 v) (h : DataW.Trod enc Try.prog w base spare held 46 v d p) : ∃ (U : UV) (X : Tu), v = uvV U ∧ TuAt w w.heap.size U X := by
  obtain ⟨cs, rfl, hsz⟩ := okWide_struct Try.underlying46 hv
  obtain ⟨fuel, hf⟩ := h
  obtain ⟨xs, n, _, _, hl, hlen, hg⟩ := DataW.trod_struct Try.underlying46 hf
  rw [size46] at hsz
  obtain ⟨cs⟩ := cs
  match cs, hsz with
  | [c0, c1], _ =>
    match xs, hlen with
    | [y0, y1], _ =>
      obtain ⟨AI, ni, ci, is, e1, _, i2, i3, i4⟩ := open_rowAt (by decide) Try.underlying26 size3 (R := intR) open_i (cs := [c0]) (x := y0) (by simpa [Value.cells, size26c] using hg 0 _ rfl)
      obtain ⟨AW, nw, cw, ws, e2, _, w2, w3, w4⟩ := open_grid (by decide) Try.underlying44 size26c Try.underlying26 size3 (R := intR) open_i (cs := [c1]) (x := y1) (by simpa [Value.cells, size44] using hg 1 _ rfl)
      simp at e1 e2
      subst e1 e2
      exact ⟨⟨AI, ni, ci, AW, nw, cw⟩, ⟨is, ws⟩, rfl, ⟨i4, w4, i3, w3, i2, w2⟩⟩
end
theorem r46 : Try.prog.readableRec 46 = true := by kernel_rfl
end Go.Proofs.Ytmppiiamcpjhnaa
