/- Pipes: arguments opened to cells. Pipes: short lists, by the statements; what can be true of some hours, by the specification. Pipes: how warm a loop is in truth, by the specification. -/
import Derived.Test.YticmeeinjkoodaaCO
import Derived.Test.YticmeeinjkoodaaRows
import Derived.Deep.Slices
import Derived.ChangeSame
import Derived.ChangeOld
import Derived.Lib.SmallJoins
import Derived.ProofKit
import Derived.OpenShut
import Derived.Carry
namespace Go.Proofs.Yticmeeinjkoodaa
open Go.ChangeShapes Go.WideShapes Go.Deep Go.RowKit Go.ChangeAt

theorem list_by {α : Type} {P : Nat → α → Prop} : ∀ {n : Nat}, (∀ i, i < n → ∃ x, P i x) → ∃ xs : List α, xs.length = n ∧ ∀ i x, xs[i]? = some x → P i x
  | 0, _ => ⟨[], rfl, fun i x h => by simp at h⟩
  | n + 1, h => by
    obtain ⟨xs, hl, hx⟩ := list_by (n := n) fun i hi => h i (by omega)
    obtain ⟨y, hy⟩ := h n (by omega)
    refine ⟨xs ++ [y], by simp [hl], fun i x hi => ?_⟩
    by_cases hn : i < n
    · rw [List.getElem?_append_left (by omega)] at hi
      exact hx i x hi
    · rw [List.getElem?_append_right (by omega)] at hi
      have : i - xs.length = 0 := by
        have := (List.getElem?_eq_some_iff.1 hi).1
        simp at this; omega
      rw [this] at hi
      have hin : i = n := by omega
      subst hin
      simp at hi
      subst hi
      exact hy


set_option maxRecDepth 100000
section
variable {H : Type} {enc : TypeId × Value → H} {w : World} {base : Nat} {spare : Nat → Bool} {held : Bool}
theorem size3 : Try.prog.cellsOf 3 = 1 := by kernel_rfl
theorem size22 : Try.prog.cellsOf 22 = 1 := by kernel_rfl
theorem size23 : Try.prog.cellsOf 23 = 1 := by kernel_rfl
theorem size24 : Try.prog.cellsOf 24 = 1 := by kernel_rfl
theorem size26 : Try.prog.cellsOf 26 = 3 := by kernel_rfl
theorem size4 : Try.prog.cellsOf 4 = 1 := by kernel_rfl
theorem size47 : Try.prog.cellsOf 47 = 2 := by kernel_rfl
theorem size49 : Try.prog.cellsOf 49 = 12 := by kernel_rfl
theorem size54 : Try.prog.cellsOf 54 = 3 := by kernel_rfl
theorem size57 : Try.prog.cellsOf 57 = 1 := by kernel_rfl
theorem open_pr {fuel : Nat} {cs : List Value} {x : DataW H × List MemPlace} (h : DataW.trod enc Try.prog w base spare held fuel 47 cs = some x) : ∃ s : Int × Int, cs = prR s := by
  obtain ⟨xs, n, _, _, hl, hlen, hf⟩ := DataW.trod_struct Try.underlying47 h
  match xs, hlen with
  | [y0, y1], _ =>
    obtain ⟨a, e0, _⟩ := DataW.trod_int Try.underlying3 (by simpa using hf 0 _ rfl)
    obtain ⟨b, e1, _⟩ := DataW.trod_int Try.underlying3 (by simpa using hf 1 _ rfl)
    rw [size47] at hl
    simp only [size3] at e0 e1
    match cs, hl with
    | [p, q], _ =>
      simp at e0 e1
      exact ⟨(a, b), by rw [e0, e1]; rfl⟩
theorem open_th {fuel : Nat} {cs : List Value} {x : DataW H × List MemPlace} (h : DataW.trod enc Try.prog w base spare held fuel 54 cs = some x) : ∃ t : Th, cs = thR t := by
  obtain ⟨xs, n, _, _, hl, hlen, hf⟩ := DataW.trod_struct Try.underlying54 h
  match xs, hlen with
  | [y0, y1, y2], _ =>
    obtain ⟨a, e0, _⟩ := DataW.trod_int Try.underlying3 (by simpa using hf 0 _ rfl)
    obtain ⟨b, e1, _⟩ := DataW.trod_int Try.underlying3 (by simpa using hf 1 _ rfl)
    obtain ⟨c, e2, _⟩ := DataW.trod_bool Try.underlying4 (by simpa using hf 2 _ rfl)
    rw [size54] at hl
    simp only [size3, size4] at e0 e1 e2
    match cs, hl with
    | [p, q, r], _ =>
      simp at e0 e1 e2
      exact ⟨⟨a, b, c⟩, by rw [e0, e1, e2]; rfl⟩
theorem open_lp {fuel : Nat} {cs : List Value} {x : DataW H × List MemPlace} (h : DataW.trod enc Try.prog w base spare held fuel 49 cs = some x) : ∃ l : Lp, cs = lpR l := by
  obtain ⟨xs, n, _, _, hl, hlen, hf⟩ := DataW.trod_struct Try.underlying49 h
  rw [size49] at hl
  match cs, hl with
  | [c0, c1, c2, c3, c4, c5, c6, c7, c8, c9, c10, c11], _ =>
    match xs, hlen with
    | [y0, y1, y2, y3, y4, y5, y6, y7], _ =>
      obtain ⟨a0, e0⟩ := open_pr (cs := [c0, c1]) (x := y0) (by simpa [size47] using hf 0 _ rfl)
      obtain ⟨a1, e1⟩ := open_pr (cs := [c2, c3]) (x := y1) (by simpa [size47] using hf 1 _ rfl)
      obtain ⟨a2, e2⟩ := open_pr (cs := [c4, c5]) (x := y2) (by simpa [size47] using hf 2 _ rfl)
      obtain ⟨a3, e3, _⟩ := DataW.trod_int Try.underlying3 (cs := [c6]) (x := y3) (by simpa [size3] using hf 3 _ rfl)
      obtain ⟨a4, e4, _⟩ := DataW.trod_int Try.underlying3 (cs := [c7]) (x := y4) (by simpa [size3] using hf 4 _ rfl)
      obtain ⟨a5, e5, _⟩ := DataW.trod_int Try.underlying3 (cs := [c8]) (x := y5) (by simpa [size3] using hf 5 _ rfl)
      obtain ⟨a6, e6, _⟩ := DataW.trod_int Try.underlying3 (cs := [c9]) (x := y6) (by simpa [size3] using hf 6 _ rfl)
      obtain ⟨a7, e7⟩ := open_pr (cs := [c10, c11]) (x := y7) (by simpa [size47] using hf 7 _ rfl)
      simp [prR] at e0 e1 e2 e3 e4 e5 e6 e7
      exact ⟨⟨a0.1, a0.2, a1.1, a1.2, a2.1, a2.2, a3, a4, a5, a6, a7.1, a7.2⟩, by rw [e0.1, e0.2, e1.1, e1.2, e2.1, e2.2, e3, e4, e5, e6, e7.1, e7.2]; rfl⟩
theorem open_i {fuel : Nat} {cs : List Value} {x : DataW H × List MemPlace} (h : DataW.trod enc Try.prog w base spare held fuel 3 cs = some x) : ∃ b : Int, cs = intR b := by
  obtain ⟨b, e, _⟩ := DataW.trod_int Try.underlying3 h
  exact ⟨b, e⟩
/-- A slice of elements of several cells, as this program's contracts have it. -/
theorem open_row {t e : TypeId} {k : Nat} (hk : 0 < k) (ht : Try.prog.underlying t = some (.slice e)) (hs : Try.prog.cellsOf e = k) {α : Type} {R : α → List Value → Prop}
    (he : ∀ {fuel : Nat} {cs : List Value} {x : DataW H × List MemPlace}, DataW.trod enc Try.prog w base spare held fuel e cs = some x → ∃ y, R y cs)
    {fuel : Nat} {cs : List Value} {x : DataW H × List MemPlace} (h : DataW.trod enc Try.prog w base spare held fuel t cs = some x) :
    ∃ (A : Option Addr) (n c : Nat) (ls : List α), cs = [.slice A n c] ∧ n ≤ c ∧ n ≤ maxLen ∧ ls.length = n ∧
      (ls ≠ [] → ∃ b o, A = some ⟨b, o, none⟩ ∧ b < w.heap.size ∧ ∀ i y, ls[i]? = some y → ∃ us, R y us ∧ us.length = k ∧ ∀ j, j < k → w.cell? ⟨b, o + i * k + j, none⟩ = us[j]?) := by
  rcases open_slice ht h with ⟨rfl, _⟩ | ⟨a, len, cap, m, n, D, Pl, rfl, _, hl, hm, hmm, _, hi⟩
  · exact ⟨none, 0, 0, [], rfl, Nat.le_refl _, by unfold maxLen; omega, rfl, fun h => absurd rfl h⟩
  · rw [hs] at hi
    have hlm : len ≤ m := by rw [hmm]; split <;> omega
    by_cases h0 : len = 0
    · subst h0
      exact ⟨some a, 0, cap, [], rfl, hl, by unfold maxLen; omega, rfl, fun h => absurd rfl h⟩
    · obtain ⟨b, o, sp⟩ := a
      obtain ⟨cs0, hc0, _⟩ := hi 0 (by omega)
      obtain ⟨_, hl0, hat0⟩ := World.cells?_some hc0
      have hcell := hat0 0 hk
      have hv : cs0[0]? = some (cs0[0]'(by omega)) := List.getElem?_eq_getElem (by omega)
      rw [hv] at hcell
      have hsp : sp = none := by simpa [Addr.add] using World.cell?_spot hcell
      subst hsp
      have hblk : b < w.heap.size := by simpa [Addr.add] using World.cells?_block hc0 hk
      have hall : ∀ i, i < len → ∃ y, ∃ us, R y us ∧ us.length = k ∧ ∀ j, j < k → w.cell? ⟨b, o + i * k + j, none⟩ = us[j]? := fun i hil => by
        obtain ⟨cs', hc, ht'⟩ := hi i (by omega)
        obtain ⟨y, hy⟩ := he ht'
        obtain ⟨_, hcl, hat⟩ := World.cells?_some hc
        refine ⟨y, cs', hy, hcl, fun j hj => ?_⟩
        have := hat j hj
        rw [← this]
        congr 1
        simp only [Addr.add]
        split <;> split <;> simp <;> omega
      obtain ⟨ls, hll, hls⟩ := list_by hall
      exact ⟨_, len, cap, ls, rfl, hl, by omega, hll, fun _ => ⟨b, o, rfl, hblk, hls⟩⟩
/-- The same, as rows of cells. -/
theorem open_rowAt {t e : TypeId} {k : Nat} (hk : 0 < k) (ht : Try.prog.underlying t = some (.slice e)) (hs : Try.prog.cellsOf e = k) {α : Type} {R : α → List Value}
    (he : ∀ {fuel : Nat} {cs : List Value} {x : DataW H × List MemPlace}, DataW.trod enc Try.prog w base spare held fuel e cs = some x → ∃ y, cs = R y)
    {fuel : Nat} {cs : List Value} {x : DataW H × List MemPlace} (h : DataW.trod enc Try.prog w base spare held fuel t cs = some x) :
    ∃ (A : Option Addr) (n c : Nat) (ls : List α), cs = [.slice A n c] ∧ n ≤ c ∧ n ≤ maxLen ∧ ls.length = n ∧ RowAt k R w w.heap.size A ls := by
  obtain ⟨A, n, c, ls, h1, h2, h3, h4, h5⟩ := open_row hk ht hs (R := fun y cs => cs = R y) he h
  refine ⟨A, n, c, ls, h1, h2, h3, h4, fun hne => ?_⟩
  obtain ⟨b, o, e, hb, hat⟩ := h5 hne
  refine ⟨b, o, e, hb, fun i y hi j v hv => ?_⟩
  obtain ⟨us, rfl, hl, hc⟩ := hat i y hi
  rw [hc j (by rw [← hl]; exact (List.getElem?_eq_some_iff.1 hv).1), hv]
/-- Rows of rows. -/
theorem open_grid {t s e : TypeId} {k : Nat} (hk : 0 < k) (ht : Try.prog.underlying t = some (.slice s)) (hs1 : Try.prog.cellsOf s = 1) (hs : Try.prog.underlying s = some (.slice e)) (hsz : Try.prog.cellsOf e = k) {α : Type} {R : α → List Value}
    (he : ∀ {fuel : Nat} {cs : List Value} {x : DataW H × List MemPlace}, DataW.trod enc Try.prog w base spare held fuel e cs = some x → ∃ y, cs = R y)
    {fuel : Nat} {cs : List Value} {x : DataW H × List MemPlace} (h : DataW.trod enc Try.prog w base spare held fuel t cs = some x) :
    ∃ (A : Option Addr) (n c : Nat) (ls : List (List α)), cs = [.slice A n c] ∧ n ≤ c ∧ n ≤ maxLen ∧ ls.length = n ∧ GridAt k R w w.heap.size A ls := by
  obtain ⟨A, n, c, ls, h1, h2, h3, h4, h5⟩ := open_row (by decide) ht hs1 (R := fun (y : List α) cs => ∃ A' c', cs = [.slice A' y.length c'] ∧ RowAt k R w w.heap.size A' y ∧ y.length ≤ maxLen ∧ y.length ≤ c') (fun h => by
    obtain ⟨A, n, c, ls, h1, h2, h3, h4, h5⟩ := open_rowAt hk hs hsz he h
    exact ⟨ls, A, c, by rw [h1, h4], h5, by omega, by omega⟩) h
  refine ⟨A, n, c, ls, h1, h2, h3, h4, fun hne => ?_⟩
  obtain ⟨b, o, e, hb, hat⟩ := h5 hne
  refine ⟨b, o, e, hb, fun i y hi => ?_⟩
  obtain ⟨us, ⟨A', c', rfl, g1, g2, g3⟩, _, hc⟩ := hat i y hi
  exact ⟨A', c', by simpa using hc 0 (by omega), g1, g2, g3⟩
theorem arg_slice {r : Reach} {b0 : Nat} {v : Value} {t e : TypeId} (hv : Value.okWide Try.prog w r b0 t v) (ht : Try.prog.underlying t = some (.slice e)) {A : Option Addr} {n c : Nat} (he : v.cells.toList = [.slice A n c]) : v = .slice A n c := by
  obtain ⟨a, len, cap, rfl⟩ := okWide_slice ht hv
  simpa [Value.cells] using he
/-- A net, by value. -/
theorem open_net {r : Reach} {b0 : Nat} {v : Value} {d : DataW H} {p : List MemPlace} (hv : Value.okWide Try.prog w r b0 26 v) (h : DataW.Trod enc Try.prog w base spare held 26 v d p) : ∃ (V : NV) (N : Nt), v = nvV V ∧ NtAt w w.heap.size V N := by
  obtain ⟨cs, rfl, hsz⟩ := okWide_struct Try.underlying26 hv
  obtain ⟨fuel, hf⟩ := h
  obtain ⟨xs, n, _, _, hl, hlen, hg⟩ := DataW.trod_struct Try.underlying26 hf
  rw [size26] at hsz
  obtain ⟨cs⟩ := cs
  match cs, hsz with
  | [c0, c1, c2], _ =>
    match xs, hlen with
    | [y0, y1, y2], _ =>
      obtain ⟨AS, ns, cs, ss, e0, _, s2, s3, s4⟩ := open_rowAt (by decide) Try.underlying22 size49 (R := lpR) open_lp (cs := [c0]) (x := y0) (by simpa [Value.cells, size22] using hg 0 _ rfl)
      obtain ⟨AI, ni, ci, is, e1, _, i2, i3, i4⟩ := open_rowAt (by decide) Try.underlying23 size47 (R := prR) open_pr (cs := [c1]) (x := y1) (by simpa [Value.cells, size23] using hg 1 _ rfl)
      obtain ⟨AW, nw, cw, ws, e2, _, w2, w3, w4⟩ := open_grid (by decide) Try.underlying24 size57 Try.underlying57 size3 (R := intR) open_i (cs := [c2]) (x := y2) (by simpa [Value.cells, size24] using hg 2 _ rfl)
      simp at e0 e1 e2
      subst e0 e1 e2
      exact ⟨⟨AS, ns, cs, AI, ni, ci, AW, nw, cw⟩, ⟨ss, is, ws⟩, rfl, ⟨s4, i4, w4, s3, i3, w3, s2, i2, w2⟩⟩
theorem open_ths {r : Reach} {b0 : Nat} {v : Value} {d : DataW H} {p : List MemPlace} (hv : Value.okWide Try.prog w r b0 41 v) (h : DataW.Trod enc Try.prog w base spare held 41 v d p) :
    ∃ (A : Option Addr) (n c : Nat) (xs : List Th), v = .slice A n c ∧ n ≤ c ∧ n ≤ maxLen ∧ xs.length = n ∧ ThsAt w w.heap.size A xs := by
  obtain ⟨fuel, hf⟩ := h
  obtain ⟨A, n, c, xs, e, g⟩ := open_rowAt (by decide) Try.underlying41 size54 (R := thR) open_th hf
  exact ⟨A, n, c, xs, arg_slice hv Try.underlying41 e, g⟩
theorem open_ints {r : Reach} {b0 : Nat} {v : Value} {d : DataW H} {p : List MemPlace} (hv : Value.okWide Try.prog w r b0 57 v) (h : DataW.Trod enc Try.prog w base spare held 57 v d p) :
    ∃ (A : Option Addr) (n c : Nat) (xs : List Int), v = .slice A n c ∧ n ≤ c ∧ n ≤ maxLen ∧ xs.length = n ∧ IntsAt w w.heap.size A xs := by
  obtain ⟨fuel, hf⟩ := h
  obtain ⟨A, n, c, xs, e, g⟩ := open_rowAt (by decide) Try.underlying57 size3 (R := intR) open_i hf
  exact ⟨A, n, c, xs, arg_slice hv Try.underlying57 e, g⟩
end
theorem own_knob : ownKnob Try.prog.godebug = none := by kernel_rfl
/-- What came in reads behind the call as it read before. -/
theorem stays {H : Type} {enc : TypeId × Value → H} {t : TypeId} (hr : Try.prog.readableRec t = true) (hrow : t < Try.prog.types.size) {W W' : World} {v : Value} {d : DataW H} {ps : List MemPlace}
    (h : DataW.Trod enc Try.prog W 0 (fun _ => true) true t v d ps) (hb : Below W.heap.size W W') : DataW.Trod enc Try.prog W' 0 (fun b => decide (b < W.heap.size)) true t v d ps :=
  Below.trod laid_out hr hrow h hb (by obtain ⟨m, hm⟩ := h; exact DataW.trod_lt m _ _ _ hm)
theorem r26 : Try.prog.readableRec 26 = true := by kernel_rfl
theorem r41 : Try.prog.readableRec 41 = true := by kernel_rfl
theorem r57 : Try.prog.readableRec 57 = true := by kernel_rfl
theorem r3 : Try.prog.readableRec 3 = true := by kernel_rfl
theorem tsz (t : Nat) (h : t < 60) : t < Try.prog.types.size := Nat.lt_trans h (of_decide_eq_true (by kernel_rfl))
section
variable {H : Type} {enc : TypeId × Value → H} {P : Program} {w : World} {base : Nat} {spare : Nat → Bool} {held : Bool}
theorem trodAll_five {t0 t1 t2 t3 t4 : TypeId} {args : Array Value} {ds : List (DataW H)} {ps : List MemPlace} (h : DataW.TrodAll enc P w base spare held [t0, t1, t2, t3, t4] args.toList ds ps) :
    ∃ v0 v1 v2 v3 v4 d0 d1 d2 d3 d4 p0 p1 p2 p3 p4, args = #[v0, v1, v2, v3, v4] ∧ ds = [d0, d1, d2, d3, d4] ∧ ps = p0 ++ p1 ++ p2 ++ p3 ++ p4 ∧ DataW.Trod enc P w base spare held t0 v0 d0 p0 ∧ DataW.Trod enc P w base spare held t1 v1 d1 p1 ∧ DataW.Trod enc P w base spare held t2 v2 d2 p2 ∧ DataW.Trod enc P w base spare held t3 v3 d3 p3 ∧ DataW.Trod enc P w base spare held t4 v4 d4 p4 := by
  obtain ⟨v0, vs0, d0, ds0, p0, q0, hargs, rfl, rfl, g0, k0⟩ := trodAll_cons h
  obtain ⟨v1, vs1, d1, ds1, p1, q1, rfl, rfl, rfl, g1, k1⟩ := trodAll_cons k0
  obtain ⟨v2, vs2, d2, ds2, p2, q2, rfl, rfl, rfl, g2, k2⟩ := trodAll_cons k1
  obtain ⟨v3, vs3, d3, ds3, p3, q3, rfl, rfl, rfl, g3, k3⟩ := trodAll_cons k2
  obtain ⟨v4, vs4, d4, ds4, p4, q4, rfl, rfl, rfl, g4, k4⟩ := trodAll_cons k3
  obtain ⟨rfl, rfl, rfl⟩ := trodAll_nil k4
  exact ⟨v0, v1, v2, v3, v4, d0, d1, d2, d3, d4, p0, p1, p2, p3, p4, by cases args; simp_all, rfl, by simp, g0, g1, g2, g3, g4⟩
theorem trodAll_six {t0 t1 t2 t3 t4 t5 : TypeId} {args : Array Value} {ds : List (DataW H)} {ps : List MemPlace} (h : DataW.TrodAll enc P w base spare held [t0, t1, t2, t3, t4, t5] args.toList ds ps) :
    ∃ v0 v1 v2 v3 v4 v5 d0 d1 d2 d3 d4 d5 p0 p1 p2 p3 p4 p5, args = #[v0, v1, v2, v3, v4, v5] ∧ ds = [d0, d1, d2, d3, d4, d5] ∧ ps = p0 ++ p1 ++ p2 ++ p3 ++ p4 ++ p5 ∧ DataW.Trod enc P w base spare held t0 v0 d0 p0 ∧ DataW.Trod enc P w base spare held t1 v1 d1 p1 ∧ DataW.Trod enc P w base spare held t2 v2 d2 p2 ∧ DataW.Trod enc P w base spare held t3 v3 d3 p3 ∧ DataW.Trod enc P w base spare held t4 v4 d4 p4 ∧ DataW.Trod enc P w base spare held t5 v5 d5 p5 := by
  obtain ⟨v0, vs0, d0, ds0, p0, q0, hargs, rfl, rfl, g0, k0⟩ := trodAll_cons h
  obtain ⟨v1, vs1, d1, ds1, p1, q1, rfl, rfl, rfl, g1, k1⟩ := trodAll_cons k0
  obtain ⟨v2, vs2, d2, ds2, p2, q2, rfl, rfl, rfl, g2, k2⟩ := trodAll_cons k1
  obtain ⟨v3, vs3, d3, ds3, p3, q3, rfl, rfl, rfl, g3, k3⟩ := trodAll_cons k2
  obtain ⟨v4, vs4, d4, ds4, p4, q4, rfl, rfl, rfl, g4, k4⟩ := trodAll_cons k3
  obtain ⟨v5, vs5, d5, ds5, p5, q5, rfl, rfl, rfl, g5, k5⟩ := trodAll_cons k4
  obtain ⟨rfl, rfl, rfl⟩ := trodAll_nil k5
  exact ⟨v0, v1, v2, v3, v4, v5, d0, d1, d2, d3, d4, d5, p0, p1, p2, p3, p4, p5, by cases args; simp_all, rfl, by simp, g0, g1, g2, g3, g4, g5⟩
end
end Go.Proofs.Yticmeeinjkoodaa

namespace Go.Proofs.Yticmeeinjkoodaa
open Go.RowKit Go.Shelf

def wsB (N : Nt) : Bool := (List.range (min N.wa.length 10)).all fun i => decide ((N.wa.getD i []).length ≤ 10)
def shortB (N : Nt) : Bool := wsB N && (decide (N.lo.length ≤ 8) && (decide (N.fr.length ≤ 77) && decide (N.wa.length ≤ 10)))
theorem wsB_no {N : Nt} {k : Nat} {r : List Int} (h : N.wa[k]? = some r) (hk : k < 10) (hr : ¬ r.length ≤ 10) : wsB N = false := by
  cases e : wsB N with
  | false => rfl
  | true =>
    exfalso
    unfold wsB at e
    rw [List.all_eq_true] at e
    have := e k (List.mem_range.2 (by have := (List.getElem?_eq_some_iff.1 h).1; omega))
    rw [List.getD_eq_getElem?_getD, h] at this
    exact hr (by simpa using this)
theorem wsB_yes {N : Nt} (h : ∀ (k : Nat) (r : List Int), k < 10 → N.wa[k]? = some r → r.length ≤ 10) : wsB N = true := by
  unfold wsB
  rw [List.all_eq_true]
  intro i hi
  have hi := List.mem_range.1 hi
  obtain ⟨r, hr⟩ := get_of_lt (l := N.wa) (k := i) (by omega)
  rw [List.getD_eq_getElem?_getD, hr]
  simpa using h i r (by omega) hr
set_option maxRecDepth 100000 in
set_option maxHeartbeats 4000000 in
theorem short_any (V : NV) (N : Nt) (w : World) (hN : NtAt w w.heap.size V N) :
    Calls Try.prog 16 #[nvV V] w fun e w' => e = .returned (.bool (shortB N)) ∧ Below w.heap.size w w' := by
  have z := heap_alloc_new w (.cells (nvC V) 26)
  have hb := (Below.refl w.heap.size w).alloc (Nat.le_refl _) (.cells (nvC V) 26)
  obtain ⟨w1, hw1⟩ : ∃ z, w.alloc (.cells (nvC V) 26) = z := ⟨_, rfl⟩
  rw [hw1] at z hb
  have HW := Lib.hid hw1
  have HN := Lib.hid (hN.up hb)
  obtain ⟨al, nl, cl, af, nf, cf, aw, nw, cw⟩ := V
  obtain ⟨v0, v1, v2⟩ := box3_cells z
  have hml := hN.ml; have hmf := hN.mf; have hmw := hN.mw
  unfold maxLen at hml hmf hmw
  simp only at hml hmf hmw v0 v1 v2
  have HB := Lib.hid hb; have Z := Lib.hid z
  have HNL := Lib.hid hN.nl; have HNF := Lib.hid hN.nf; have HNW := Lib.hid hN.nw
  clear z hb hw1 hN
  go_enter Try.func16, Try.ntmps16
  go_wp2_with fail
  rw [show w.alloc (.cells #[.slice al nl cl, .slice af nf cf, .slice aw nw cw] 26) = w1 from HW.out]
  go_loopw [3] (fun ii wr => ∃ k : Nat, k ≤ nw ∧ k ≤ 10 ∧ ii = .int .i64 k ∧ w1 = wr ∧ ∀ (j : Nat) (r : List Int), j < k → N.wa[j]? = some r → r.length ≤ 10) (fun ii _ => nw - (intOf ii).toNat)
  case atStart => exact ⟨0, by omega, by omega, rfl, rfl, fun _ _ h => absurd h (Nat.not_lt_zero _)⟩
  case round =>
    obtain ⟨k, hk, hk10, rfl, rfl, hal⟩ := hrel
    have HAL := Lib.hid hal
    clear hal
    by_cases hlt : k < nw
    · have k3 : (0 : Int) ≤ (k : Int) := by omega
      have k4 : (k : Int) < (nw : Int) := by omega
      by_cases h10 : k < 10
      · have k5 : (k : Int) < 10 := by omega
        obtain ⟨r, hr⟩ := get_of_lt (l := N.wa) (k := k) (by rw [HNW.out]; exact hlt)
        obtain ⟨b, o, A', p, c', rfl, hbb, hp, c0, hrow, hpm⟩ := grid_row HN.out.wa hr
        unfold maxLen at hpm
        have HR := Lib.hid hr; have HP := Lib.hid hp
        clear hr hrow hp hbb
        by_cases hpn : 10 < (p : Int)
        · go_wp2_with fail
          go_ret
          exact ⟨by unfold shortB; rw [wsB_no HR.out h10 (by have := HP.out; omega)]; rfl, HB.out⟩
        · go_wp2_with fail
          refine ⟨⟨k + 1, by omega, by omega, rfl, (by first | rfl | trivial), fun j r hj hr => ?_⟩, by simp [intOf]; omega⟩
          by_cases hjk : j < k
          · exact HAL.out j r hjk hr
          · obtain rfl : j = k := by omega
            have h2 := HR.out
            rw [h2] at hr
            injection hr with hr
            rw [← hr, ← HP.out]
            omega
      · have k5 : ¬ (k : Int) < 10 := by omega
        have hws : wsB N = true := wsB_yes fun j r hj hr => HAL.out j r (by omega) hr
        have HWS : Hid (shortB N = (decide (nl ≤ 8) && (decide (nf ≤ 77) && decide (nw ≤ 10)))) := Lib.hid (by unfold shortB; rw [hws, HNL.out, HNF.out, HNW.out]; rfl)
        clear hws
        go_wp2_with fail
        all_goals
          go_ret
          refine ⟨?_, HB.out⟩
          rw [HWS.out]
          simp [*]
          try (first | omega | (intros; omega) | (rw [Bool.eq_iff_iff]; simp; omega) | (rw [Bool.eq_iff_iff]; simp; intros; omega))
    · obtain rfl : nw = k := by omega
      have k4 : ¬ (nw : Int) < (nw : Int) := by omega
      have hws : wsB N = true := wsB_yes fun j r hj hr => HAL.out j r (by have := (List.getElem?_eq_some_iff.1 hr).1; have := HNW.out; omega) hr
      have HWS : Hid (shortB N = (decide (nl ≤ 8) && (decide (nf ≤ 77) && decide (nw ≤ 10)))) := Lib.hid (by unfold shortB; rw [hws, HNL.out, HNF.out, HNW.out]; rfl)
      clear hws
      go_wp2_with fail
      all_goals
        go_ret
        refine ⟨?_, HB.out⟩
        rw [HWS.out]
        simp [*]
        try (first | omega | (intros; omega) | (rw [Bool.eq_iff_iff]; simp; omega) | (rw [Bool.eq_iff_iff]; simp; intros; omega))
theorem in_kept {W : World} (u : KeptW W) (x lo hi : Int) : Calls Try.prog 64 #[.int .i64 x, .int .i64 lo, .int .i64 hi] u.w fun e w' => e = .returned (.bool (inB lo x hi)) ∧ ∃ u' : KeptW W, w' = u'.w :=
  Calls.in_kept u ((rin_any x lo hi u.w).mono fun _ _ h => ⟨h.1, by rw [← h.2]; exact Below.refl _ _⟩)
set_option maxRecDepth 100000 in
set_option maxHeartbeats 4000000 in
theorem rtruth_any (V : NV) (N : Nt) {L : Nat} {l : Lp} {A : Option Addr} {n c : Nat} {ts : List Th} (w : World) (hN : NtAt w w.heap.size V N) (hL : N.lo[L]? = some l) (hl : ts.length = n) (hn : n ≤ N.fr.length) (hA : ThsAt w w.heap.size A ts) :
    Calls Try.prog 27 #[nvV V, .int .i64 L, .slice A n c] w fun e w' => e = .returned (.bool (thsB l N.fr ts)) ∧ Below w.heap.size w w' := by
  have HA := Lib.hid (RowAt.up hA ((Below.refl w.heap.size w).alloc (Nat.le_refl _) (.cells (nvC V) 26))); have HLT := Lib.hid hl; have HL := Lib.hid hL; have HNF9 := Lib.hid hn
  have z := heap_alloc_new w (.cells (nvC V) 26)
  have hb := (Below.refl w.heap.size w).alloc (Nat.le_refl _) (.cells (nvC V) 26)
  obtain ⟨w1, hw1⟩ : ∃ z, w.alloc (.cells (nvC V) 26) = z := ⟨_, rfl⟩
  rw [hw1] at z hb
  have HW := Lib.hid hw1
  have HN := Lib.hid (hN.up hb)
  obtain ⟨al, nl, cl, af, nf, cf, aw, nw, cw⟩ := V
  obtain ⟨v0, v1, v2⟩ := box3_cells z
  have hml := hN.ml; have hmf := hN.mf; have hmw := hN.mw
  unfold maxLen at hml hmf hmw
  simp only at hml hmf hmw v0 v1 v2
  have HB := Lib.hid hb; have Z := Lib.hid z
  have HNL := Lib.hid hN.nl; have HNF := Lib.hid hN.nf; have HNW := Lib.hid hN.nw
  clear z hb hw1 hN
  clear hA hl hn hL
  rw [show w.alloc (.cells (nvC ⟨al, nl, cl, af, nf, cf, aw, nw, cw⟩) 26) = w1 from HW.out] at HA
  obtain ⟨b1, o1, hal1, hb1, ⟨_, _⟩, ⟨e2, e3⟩, _⟩ := lp_el HN.out.lo HL.out
  have hLn : L < nl := by have h1 := HNL.out; have h2 := (List.getElem?_eq_some_iff.1 HL.out).1; simp only at h1; omega
  have L0 : (0 : Int) ≤ (L : Int) := by omega
  have L1 : (L : Int) < (nl : Int) := by omega
  have hnf' : n ≤ nf := by have h1 := HNF.out; have h2 := HNF9.out; simp only at h1; omega
  have hal2 : al = some ⟨b1, o1, none⟩ := hal1
  subst hal2
  have H1 := Lib.hid hb1
  clear hal1 hb1 v2
  go_enter Try.func27, Try.ntmps27
  go_wp2_with fail
  rw [show w.alloc (.cells #[.slice (some ⟨b1, o1, none⟩) nl cl, .slice af nf cf, .slice aw nw cw] 26) = w1 from HW.out]
  go_loopw [7] (fun ii wr => ∃ k : Nat, k ≤ n ∧ ii = .int .i64 k ∧ Below w1.heap.size w1 wr ∧ ∀ (h : Nat) (t : Th), h < k → ts[h]? = some t → thOkB l N.fr h t = true) (fun ii _ => n - (intOf ii).toNat)
  case atStart => exact ⟨0, by omega, rfl, Below.refl _ _, fun _ _ h => absurd h (Nat.not_lt_zero _)⟩
  case round =>
    obtain ⟨k, hk, rfl, hbr, hal⟩ := hrel
    have HAL := Lib.hid hal; have HBR := Lib.hid hbr
    clear hal
    by_cases hlt : k < n
    · have k3 : (0 : Int) ≤ (k : Int) := by omega
      have k4 : (k : Int) < (n : Int) := by omega
      have k5 : (k : Int) < (nf : Int) := by omega
      obtain ⟨t, ht⟩ := get_of_lt (l := ts) (k := k) (by rw [HLT.out]; exact hlt)
      obtain ⟨f, hf⟩ := get_of_lt (l := N.fr) (k := k) (by rw [HNF.out]; omega)
      obtain ⟨b2, o2, rfl, hb2, t0, t1, _⟩ := th_el (RowAt.up HA.out hbr) ht
      obtain ⟨b3, o3, rfl, hb3, g0, g1⟩ := pr_el (HN.out.fr.up hbr) hf
      have HOK : Hid (thOkB l N.fr k t = (inB l.ll t.lk l.lh && inB f.1 t.fr f.2)) := Lib.hid (by unfold thOkB; rw [List.getD_eq_getElem?_getD, hf]; rfl)
      have HT := Lib.hid ht
      have hq := fun u : KeptW wr => (bcell (hbr.trans (u.h.mono hbr.size))).1
      have hr := fun u : KeptW wr => (bcell u.h).1
      have p0 : ∀ u : KeptW wr, u.w.cell? ⟨w.heap.size, 0, none⟩ = some (.slice (some ⟨b1, o1, none⟩) nl cl) := fun u => (hq u _ _ (heapsz Z.out)).trans v0
      have p1 : ∀ u : KeptW wr, u.w.cell? ⟨w.heap.size, 1, none⟩ = some (.slice (some ⟨b3, o3, none⟩) nf cf) := fun u => (hq u _ _ (heapsz Z.out)).trans v1
      have q2 : ∀ u : KeptW wr, u.w.cell? ⟨b1, o1 + L * 12 + 2, none⟩ = some (.int .i64 l.ll) := fun u => (hq u _ _ H1.out).trans e2
      have q3 : ∀ u : KeptW wr, u.w.cell? ⟨b1, o1 + L * 12 + 3, none⟩ = some (.int .i64 l.lh) := fun u => (hq u _ _ H1.out).trans e3
      have s0 : ∀ u : KeptW wr, u.w.cell? ⟨b2, o2 + k * 3, none⟩ = some (.int .i64 t.lk) := fun u => (hr u _ _ hb2).trans t0
      have s1 : ∀ u : KeptW wr, u.w.cell? ⟨b2, o2 + k * 3 + 1, none⟩ = some (.int .i64 t.fr) := fun u => (hr u _ _ hb2).trans t1
      have x0 : ∀ u : KeptW wr, u.w.cell? ⟨b3, o3 + k * 2, none⟩ = some (.int .i64 f.1) := fun u => (hr u _ _ hb3).trans g0
      have x1 : ∀ u : KeptW wr, u.w.cell? ⟨b3, o3 + k * 2 + 1, none⟩ = some (.int .i64 f.2) := fun u => (hr u _ _ hb3).trans g1
      have HC1 := Lib.hid (fun u : KeptW wr => in_kept u t.lk l.ll l.lh)
      have HC2 := Lib.hid (fun u : KeptW wr => in_kept u t.fr f.1 f.2)
      obtain ⟨B1, hB1⟩ : ∃ z, inB l.ll t.lk l.lh = z := ⟨_, rfl⟩
      obtain ⟨B2, hB2⟩ : ∃ z, inB f.1 t.fr f.2 = z := ⟨_, rfl⟩
      rw [hB1] at HC1 HOK
      rw [hB2] at HC2 HOK
      clear ht hf t0 t1 g0 g1 hb2 hb3 hq hr hbr hB1 hB2
      cases B1 <;> cases B2
      all_goals
        go_wp2_with fail
        have k6 : ¬ (nf : Int) ≤ (k : Int) := by omega
        refine rk_region (by kernel_rfl) (by kernel_rfl) ?_
        repeat (go_big_quiet_step (first | (with_reducible exact HC1.out _) | (with_reducible exact HC2.out _) | fail))
        refine wpQuiet_nil ?_
        rintro _ ⟨⟨wz, hbz⟩, rfl⟩
        have HBZ := Lib.hid (HBR.out.trans (hbz.mono HBR.out.size))
        clear hbz p0 p1 q2 q3 s0 s1 x0 x1
        go_wp2_with fail
        first
          | (go_ret
             exact ⟨by rw [thsB_no HT.out HOK.out]; rfl, HB.out.trans (HBZ.out.mono HB.out.size)⟩)
          | (refine ⟨⟨k + 1, by omega, rfl, HBZ.out, fun h x hh hx => ?_⟩, by simp [intOf]; omega⟩
             by_cases hjk : h < k
             · exact HAL.out h x hjk hx
             · obtain rfl : h = k := by omega
               have h2 := HT.out
               rw [h2] at hx
               injection hx with hx
               rw [← hx, HOK.out]
               rfl)
    · obtain rfl : n = k := by omega
      have k4 : ¬ (n : Int) < (n : Int) := by omega
      have HTB : Hid (thsB l N.fr ts = true) := Lib.hid (thsB_iff.2 fun h t ht => HAL.out h t (by have := (List.getElem?_eq_some_iff.1 ht).1; have := HLT.out; omega) ht)
      clear hbr
      go_wp2_with fail
      go_ret
      exact ⟨by rw [HTB.out]; rfl, HB.out.trans (HBR.out.mono HB.out.size)⟩
end Go.Proofs.Yticmeeinjkoodaa

namespace Go.Proofs.Yticmeeinjkoodaa
open Go.RowKit Go.Shelf

theorem box4 {w : World} {B : Nat} {a b c d : Value} {t : TypeId} (h : w.heap[B]? = some (.cells #[a, b, c, d] t (0, 0))) : (w.cell? ⟨B, 0, none⟩ = some a ∧ w.cell? ⟨B, 1, none⟩ = some b ∧ w.cell? ⟨B, 2, none⟩ = some c ∧ w.cell? ⟨B, 3, none⟩ = some d) ∧ (w.frozen? ⟨B, 0, none⟩ = false ∧ w.frozen? ⟨B, 1, none⟩ = false ∧ w.frozen? ⟨B, 2, none⟩ = false ∧ w.frozen? ⟨B, 3, none⟩ = false) := by
  have c := fun k => cell_of_row w B k _ t (0, 0) h
  have f : ∀ k, w.frozen? ⟨B, k, none⟩ = false := fun k => by simp [World.frozen?, h]
  exact ⟨⟨c 0, c 1, c 2, c 3⟩, f 0, f 1, f 2, f 3⟩
theorem fill4 {w : World} {B : Nat} {a b c d : Value} {t : TypeId} (h : w.heap[B]? = some (.cells #[a, b, c, d] t (0, 0))) (v0 v1 v2 v3 : Value) :
    ((((w.setCell ⟨B, 0, none⟩ v0).setCell ⟨B, 1, none⟩ v1).setCell ⟨B, 2, none⟩ v2).setCell ⟨B, 3, none⟩ v3).heap[B]? = some (.cells #[v0, v1, v2, v3] t (0, 0)) ∧
    (∀ j, j ≠ B → ((((w.setCell ⟨B, 0, none⟩ v0).setCell ⟨B, 1, none⟩ v1).setCell ⟨B, 2, none⟩ v2).setCell ⟨B, 3, none⟩ v3).heap[j]? = w.heap[j]?) ∧
    ∀ n, n ≤ B → Below n w ((((w.setCell ⟨B, 0, none⟩ v0).setCell ⟨B, 1, none⟩ v1).setCell ⟨B, 2, none⟩ v2).setCell ⟨B, 3, none⟩ v3) := by
  refine ⟨by simpa using blk_set (blk_set (blk_set (blk_set h 0 v0) 1 v1) 2 v2) 3 v3, fun j hj => ?_, fun n hn => ?_⟩
  · exact (Below.heap_setCell _ _ _ _ hj).trans ((Below.heap_setCell _ _ _ _ hj).trans ((Below.heap_setCell _ _ _ _ hj).trans (Below.heap_setCell _ _ _ _ hj)))
  · exact ((((Below.refl n w).setCell (p := ⟨B, 0, none⟩) hn _).setCell (p := ⟨B, 1, none⟩) hn _).setCell (p := ⟨B, 2, none⟩) hn _).setCell (p := ⟨B, 3, none⟩) hn _
/-- The memory of the specification's Play. -/
structure PL4 (w : World) (l : Lp) (S : Ht) (wr : World) : Prop where
  bel : Below w.heap.size w wr
  z3 : wr.heap[w.heap.size]? = some (.cells (lpC l) 49 (0, 0))
  z6 : wr.heap[w.heap.size + 1]? = some (.cells (htC z4) 43 (0, 0))
  z7 : wr.heap[w.heap.size + 1 + 1]? = some (.cells (htC S) 43 (0, 0))
theorem PL4.up {w wr wq : World} {l : Lp} {S : Ht} (h : PL4 w l S wr) (hb : Below wr.heap.size wr wq) : PL4 w l S wq :=
  ⟨h.bel.trans (hb.mono h.bel.size), (hb.block _ (heapsz h.z3)).trans h.z3, (hb.block _ (heapsz h.z6)).trans h.z6, (hb.block _ (heapsz h.z7)).trans h.z7⟩
theorem PL4.fill {w wz : World} {l : Lp} {S : Ht} (h : PL4 w l S wz) (S' : Ht) : PL4 w l S' ((((wz.setCell ⟨w.heap.size + 1 + 1, 0, none⟩ (.int .i64 S'.w)).setCell ⟨w.heap.size + 1 + 1, 1, none⟩ (.int .i64 S'.b)).setCell ⟨w.heap.size + 1 + 1, 2, none⟩ (.int .i64 S'.g)).setCell ⟨w.heap.size + 1 + 1, 3, none⟩ (.int .i64 S'.s)) := by
  obtain ⟨f1, f2, f3⟩ := fill4 h.z7 (.int .i64 S'.w) (.int .i64 S'.b) (.int .i64 S'.g) (.int .i64 S'.s)
  exact ⟨h.bel.trans (f3 _ (by omega)), (f2 _ (by omega)).trans h.z3, (f2 _ (by omega)).trans h.z6, f1⟩
theorem hour_num {S : Ht} {k : Nat} {l : Lp} (K : LpOk l) {t : Th} (Kt : ThOk t) (hS : PlayIn k S) (hk : k ≤ 72) {L gn : Int} (hL : lossI l S.w t = L) (hg : gainI l t = gn) :
    IntKind.i64.wrap (l.ma * L) = l.ma * L ∧ IntKind.i64.wrap (l.ma * L * l.gr) = l.ma * L * l.gr ∧ (l.ma * L * l.gr).tdiv 1000 = grndI l S.w t ∧ IntKind.i64.wrap (grndI l S.w t) = grndI l S.w t ∧ IntKind.i64.wrap (S.w + gn) = S.w + gn ∧ IntKind.i64.wrap (S.w + gn - L) = (addH S (hourI l S.w t)).w ∧ IntKind.i64.wrap (l.ma * gn) = l.ma * gn ∧ IntKind.i64.wrap (S.b + l.ma * gn) = (addH S (hourI l S.w t)).b ∧
    IntKind.i64.wrap (S.g + grndI l S.w t) = (addH S (hourI l S.w t)).g ∧ IntKind.i64.wrap (S.s + l.ma * L) = S.s + l.ma * L ∧ IntKind.i64.wrap (S.s + l.ma * L - grndI l S.w t) = (addH S (hourI l S.w t)).s := by
  have hW : 0 ≤ S.w ∧ S.w ≤ 100000 := by have := hS.w; omega
  have hl := loss_in K Kt hW
  have hd := grnd_in K Kt hW
  have hgn := gain_in K t
  have hm := mul_in hgn (y := l.ma) (b := 10000) (by have := K.ma; omega)
  obtain ⟨s1, s2, s3, s4⟩ := hS
  have e1 : l.ma * L = lossI l S.w t * l.ma := by rw [hL, Int.mul_comm]
  have e2 : l.ma * gn = gainI l t * l.ma := by rw [hg, Int.mul_comm]
  have ew : (addH S (hourI l S.w t)).w = S.w + (gainI l t - lossI l S.w t) := rfl
  have eb : (addH S (hourI l S.w t)).b = S.b + gainI l t * l.ma := rfl
  have eg : (addH S (hourI l S.w t)).g = S.g + grndI l S.w t := rfl
  have es : (addH S (hourI l S.w t)).s = S.s + (lossI l S.w t * l.ma - grndI l S.w t) := rfl
  rw [e1, e2, ew, eb, eg, es, hL, hg]
  rw [hL] at hl hd
  rw [hg] at hl hgn hm
  have hdv : (L * l.ma * l.gr).tdiv 1000 = grndI l S.w t := by
    rw [Int.tdiv_eq_ediv_of_nonneg hd.2.2.2.1]
    unfold grndI
    rw [hL]
  obtain ⟨d1, d2, d3, d4⟩ := hd
  exact ⟨IntWalk.i64_in _ (by omega), IntWalk.i64_in _ (by omega), hdv, IntWalk.i64_in _ (by omega), IntWalk.i64_in _ (by omega), by rw [IntWalk.i64_in _ (by omega)]; omega, IntWalk.i64_in _ (by omega), IntWalk.i64_in _ (by omega), IntWalk.i64_in _ (by omega), IntWalk.i64_in _ (by omega), by rw [IntWalk.i64_in _ (by omega)]; omega⟩
set_option maxRecDepth 100000 in
set_option maxHeartbeats 4000000 in
theorem rplay_any {l : Lp} (K : LpOk l) {x : Int} (hx : 0 ≤ x ∧ x ≤ 1000) {A : Option Addr} {n c : Nat} {ts : List Th} (w : World) (hl : ts.length = n) (hn : n ≤ 72) (hts : ∀ t ∈ ts, ThOk t) (hA : ThsAt w w.heap.size A ts) :
    Calls Try.prog 28 #[lpV l, .int .i64 x, .slice A n c] w fun e w' => e = .returned (htV (playI l x ts)) ∧ Below w.heap.size w w' := by
  obtain ⟨y3, y6, y7, hb⟩ := three_new w (.cells (lpC l) 49) (.cells (htC z4) 43) (.cells (htC ⟨x, 0, 0, 0⟩) 43)
  obtain ⟨w3, hw3⟩ : ∃ z, ((w.alloc (.cells (lpC l) 49)).alloc (.cells (htC z4) 43)).alloc (.cells (htC ⟨x, 0, 0, 0⟩) 43) = z := ⟨_, rfl⟩
  rw [hw3] at y3 y6 y7 hb
  have HW := Lib.hid hw3
  have HP : Hid (PL4 w l (playI l x (ts.take 0)) w3) := Lib.hid ⟨hb, y3, y6, by simpa [playI] using y7⟩
  have HA := Lib.hid hA; have HL := Lib.hid hl; have HTS := Lib.hid hts; have HK := Lib.hid K; have HX := Lib.hid hx
  have HIN := Lib.hid (play_in K hx hts (by omega))
  clear y3 y6 y7 hb hw3 hA hl hts K hx
  go_enter Try.func28, Try.ntmps28
  go_wp2_with fail
  rw [show ((w.alloc (.cells #[.int .i64 l.wl, .int .i64 l.wh, .int .i64 l.ll, .int .i64 l.lh, .int .i64 l.rl, .int .i64 l.rh, .int .i64 l.co, .int .i64 l.ma, .int .i64 l.gr, .int .i64 l.fe, .int .i64 l.fl, .int .i64 l.fh] 49)).alloc (.cells #[.int .i64 0, .int .i64 0, .int .i64 0, .int .i64 0] 43)).alloc (.cells #[.int .i64 x, .int .i64 0, .int .i64 0, .int .i64 0] 43) = w3 from HW.out]
  go_loopw [8, 9, 10, 11] (fun ii x9 x10 x11 wr => ∃ k : Nat, k ≤ n ∧ ii = .int .i64 k ∧ PL4 w l (playI l x (ts.take k)) wr) (fun ii _ _ _ _ => n - (intOf ii).toNat)
  case atStart => exact ⟨0, by omega, rfl, HP.out⟩
  case round =>
    obtain ⟨k, hk, rfl, hp⟩ := hrel
    have HPR := Lib.hid hp
    clear hp
    by_cases hlt : k < n
    · have k3 : (0 : Int) ≤ (k : Int) := by omega
      have k4 : (k : Int) < (n : Int) := by omega
      obtain ⟨t, ht⟩ := get_of_lt (l := ts) (k := k) (by rw [HL.out]; exact hlt)
      have HT := Lib.hid ht
      have HTO := Lib.hid (HTS.out t (List.mem_of_getElem? ht))
      obtain ⟨b, o, hA9, hbb, t0, t1, t2⟩ := th_el (HA.out.next HPR.out.bel HPR.out.bel.size) ht
      have HNX := Lib.hid (playI_take (l := l) (w := x) ht)
      have HSI := Lib.hid (HIN.out k (by rw [HL.out]; exact hk))
      obtain ⟨S, hS⟩ : ∃ z, playI l x (ts.take k) = z := ⟨_, rfl⟩
      rw [hS] at HNX HSI HPR
      have hW : 0 ≤ S.w ∧ S.w ≤ 100000 := by have := HSI.out.w; omega
      have HLS := Lib.hid (fun u : KeptW wr => Calls.in_kept u (rloss_any HK.out HTO.out hW u.w))
      obtain ⟨L, hL⟩ : ∃ z, lossI l S.w t = z := ⟨_, rfl⟩
      have HLL := Lib.hid hL
      rw [hL] at HLS
      have HAA := Lib.hid hA9
      rw [hA9]
      have hz3 := fun u : KeptW wr => lp_cells ((HPR.out.up u.h).z3)
      have hz7 := fun u : KeptW wr => (box4 (HPR.out.up u.h).z7).1.1
      have hq := fun u : KeptW wr => (bcell u.h).1
      have p0 : ∀ u : KeptW wr, u.w.cell? ⟨w.heap.size, 0, none⟩ = some (.int .i64 l.wl) := fun u => (hz3 u).1.1
      have p1 : ∀ u : KeptW wr, u.w.cell? ⟨w.heap.size, 1, none⟩ = some (.int .i64 l.wh) := fun u => (hz3 u).1.2
      have p2 : ∀ u : KeptW wr, u.w.cell? ⟨w.heap.size, 2, none⟩ = some (.int .i64 l.ll) := fun u => (hz3 u).2.1.1
      have p3 : ∀ u : KeptW wr, u.w.cell? ⟨w.heap.size, 3, none⟩ = some (.int .i64 l.lh) := fun u => (hz3 u).2.1.2
      have p4 : ∀ u : KeptW wr, u.w.cell? ⟨w.heap.size, 4, none⟩ = some (.int .i64 l.rl) := fun u => (hz3 u).2.2.1.1
      have p5 : ∀ u : KeptW wr, u.w.cell? ⟨w.heap.size, 5, none⟩ = some (.int .i64 l.rh) := fun u => (hz3 u).2.2.1.2
      have p6 : ∀ u : KeptW wr, u.w.cell? ⟨w.heap.size, 6, none⟩ = some (.int .i64 l.co) := fun u => (hz3 u).2.2.2.1.1
      have p7 : ∀ u : KeptW wr, u.w.cell? ⟨w.heap.size, 7, none⟩ = some (.int .i64 l.ma) := fun u => (hz3 u).2.2.2.1.2.1
      have p8 : ∀ u : KeptW wr, u.w.cell? ⟨w.heap.size, 8, none⟩ = some (.int .i64 l.gr) := fun u => (hz3 u).2.2.2.1.2.2.1
      have p9 : ∀ u : KeptW wr, u.w.cell? ⟨w.heap.size, 9, none⟩ = some (.int .i64 l.fe) := fun u => (hz3 u).2.2.2.1.2.2.2
      have p10 : ∀ u : KeptW wr, u.w.cell? ⟨w.heap.size, 10, none⟩ = some (.int .i64 l.fl) := fun u => (hz3 u).2.2.2.2.1
      have p11 : ∀ u : KeptW wr, u.w.cell? ⟨w.heap.size, 11, none⟩ = some (.int .i64 l.fh) := fun u => (hz3 u).2.2.2.2.2
      have q0 : ∀ u : KeptW wr, u.w.cell? ⟨b, o + k * 3, none⟩ = some (.int .i64 t.lk) := fun u => (hq u _ _ hbb).trans t0
      have q1 : ∀ u : KeptW wr, u.w.cell? ⟨b, o + k * 3 + 1, none⟩ = some (.int .i64 t.fr) := fun u => (hq u _ _ hbb).trans t1
      have q2 : ∀ u : KeptW wr, u.w.cell? ⟨b, o + k * 3 + 2, none⟩ = some (.bool t.fed) := fun u => (hq u _ _ hbb).trans t2
      have HQ2 := Lib.hid (And.intro hbb t2)
      have HK72 : Hid (k ≤ 72) := Lib.hid (by omega)
      clear ht hA9 hbb t0 t1 t2 hS hz3 hq hL
      go_wp2_with fail
      refine rk_region (by kernel_rfl) (by kernel_rfl) ?_
      repeat (go_big_quiet_step (first | (with_reducible exact HLS.out _) | fail))
      refine wpQuiet_nil ?_
      rintro wz ⟨⟨_, hbz⟩, rfl⟩
      have HPZ := Lib.hid (HPR.out.up hbz)
      have t2 := ((bcell hbz).1 _ _ HQ2.out.1).trans HQ2.out.2
      clear hbz p0 p1 p2 p3 p4 p5 p6 p7 p8 p9 p10 p11 q0 q1 q2 hz7
      obtain ⟨_, _, _, ⟨_, m7, m8, m9⟩, _⟩ := lp_cells HPZ.out.z3
      obtain ⟨⟨s0, s1, s2, s3⟩, f0, f1, f2, f3⟩ := box4 HPZ.out.z7
      obtain ⟨gn, hgn⟩ : ∃ z, gainI l t = z := ⟨_, rfl⟩
      obtain ⟨n1, n2, n3, n4, n5, n6, n7, n8, n9, n10, n11⟩ := hour_num HK.out HTO.out HSI.out HK72.out HLL.out hgn
      have HGN := Lib.hid hgn
      obtain ⟨G, hG⟩ : ∃ z, grndI l S.w t = z := ⟨_, rfl⟩
      obtain ⟨S', hS'⟩ : ∃ z, addH S (hourI l S.w t) = z := ⟨_, rfl⟩
      rw [hG] at n3 n4 n9 n11
      rw [hS'] at n6 n8 n9 n11
      rw [hS'] at HNX
      clear hG hS' hgn
      have HRND := Lib.hid (HPZ.out.fill S')
      have HNUM := Lib.hid (And.intro n3 n4)
      obtain ⟨lk, fr, fed⟩ := t
      simp only at t2
      cases fed with
      | true =>
        obtain rfl : l.fe = gn := HGN.out
        have h34 : IntKind.i64.wrap ((l.ma * L * l.gr).tdiv 1000) = G := by rw [n3]; exact n4
        clear n3 n4 HNUM
        go_wp2_with fail
        clear n1 n2 n5 n6 n7 n8 n9 n10 n11 h34
        exact ⟨⟨k + 1, by omega, rfl, by rw [HNX.out]; exact HRND.out⟩, by simp [intOf]; omega⟩
      | false =>
        obtain rfl : (0 : Int) = gn := HGN.out
        simp only [Int.add_zero, Int.mul_zero] at n5 n6 n7 n8
        have h34 : IntKind.i64.wrap ((l.ma * L * l.gr).tdiv 1000) = G := by rw [n3]; exact n4
        clear n3 n4 HNUM
        go_wp2_with fail
        clear n1 n2 n5 n6 n7 n8 n9 n10 n11 h34
        exact ⟨⟨k + 1, by omega, rfl, by rw [HNX.out]; exact HRND.out⟩, by simp [intOf]; omega⟩
    · obtain rfl : n = k := by omega
      have k4 : ¬ (n : Int) < (n : Int) := by omega
      have hte : ts.take n = ts := by rw [← HL.out, List.take_length]
      rw [hte] at HPR
      obtain ⟨⟨s0, s1, s2, s3⟩, _⟩ := box4 HPR.out.z7
      obtain ⟨_, f0, f1, f2, f3⟩ := box4 HPR.out.z6
      obtain ⟨S, hS⟩ : ∃ z, playI l x ts = z := ⟨_, rfl⟩
      have HSS := Lib.hid hS
      rw [hS] at HPR s0 s1 s2 s3
      obtain ⟨g1, g2, g3⟩ := fill4 HPR.out.z6 (.int .i64 S.w) (.int .i64 S.b) (.int .i64 S.g) (.int .i64 S.s)
      have HBF := Lib.hid (HPR.out.bel.trans (g3 w.heap.size (Nat.le_succ _)))
      obtain ⟨⟨e0, e1, e2, e3⟩, _⟩ := box4 g1
      have HE := Lib.hid (And.intro e0 (And.intro e1 (And.intro e2 e3)))
      clear g1 g2 g3 e0 e1 e2 e3 hS
      go_wp2_with fail
      obtain ⟨e0, e1, e2, e3⟩ := HE.out
      exact bodyPost_ret (v := .agg #[.int .i64 S.w, .int .i64 S.b, .int .i64 S.g, .int .i64 S.s]) (by simp [results, Try.results28, go_sem, e0, e1, e2, e3]) rfl ⟨by rw [HSS.out], HBF.out⟩
end Go.Proofs.Yticmeeinjkoodaa
