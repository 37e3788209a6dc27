/- Pipes: blocks that stay while a function is ranged over. Pipes: a net is looked at. -/
import Derived.Test.YticmeeinjkoodaaBP
namespace Go
section
variable {P : Program}
theorem tail_startX {ops : List Oper} (l : List Oper) (o : Oper) (hs : ops = l ++ [o]) {Q : Exit → Act → World → Prop} {a : Act} {w : World} (hT : tailXB l o = true)
    (h : wpAny P .any l.toArray (QT P o Q) l.toArray.size (Array.replicate l.toArray.size false) a { w with drawn := w.drawn + 1 }) : wpAny P .any ops.toArray Q ops.toArray.size (Array.replicate ops.toArray.size false) a { w with drawn := w.drawn + 1 } := by
  subst hs
  have h2 := tail_anyX (rkt_tail_okX hT) l.toArray.size (Array.replicate l.toArray.size false) a { w with drawn := w.drawn + 1 } (by simp) (by rw [show l.toArray.size = l.length by simp]; exact cl_start l) h
  have e1 : (l ++ [o]).toArray.size = l.toArray.size + 1 := by simp
  rw [e1, Array.replicate_succ]
  exact h2
end
end Go
namespace Go.Proofs.Yticmeeinjkoodaa
open Go.RowKit Go.Shelf

/-! ### Marks of ranges over functions -/
def markD (D : Nat) : Deferred := { target := .collected D, args := #[] }
def Marks (w : World) (B : Nat) (Ds : List Nat) : Prop := Ds.Nodup ∧ ∀ D ∈ Ds, B ≤ D ∧ w.heap[D]? = some (.deferred (some []))
/-- Cells are kept, and all below. -/
def CellsK (B : Nat) (w w' : World) : Prop := Below B w w' ∧ ∀ (b : Nat) (cs : Array Value) (t : TypeId) (z : Nat × Nat), w.heap[b]? = some (.cells cs t z) → w'.heap[b]? = some (.cells cs t z)
theorem CellsK.refl (B : Nat) (w : World) : CellsK B w w := ⟨Below.refl _ _, fun _ _ _ _ h => h⟩
theorem CellsK.trans {B : Nat} {a b c : World} (h : CellsK B a b) (k : CellsK B b c) : CellsK B a c := ⟨h.1.trans k.1, fun b cs t z hb => k.2 b cs t z (h.2 b cs t z hb)⟩
theorem cellsK_put {B : Nat} {w : World} {D : Nat} {o : Obj} (o' : Obj) (h : w.heap[D]? = some o) (ho : o.isCells = false) (hB : B ≤ D) : CellsK B w (w.putObj D o') := by
  refine ⟨(Below.refl B w).grown (grownBy_putObj' w D o') (by have := (Array.getElem?_eq_some_iff.1 h).1; omega) (fun k e => by cases e; omega), fun b cs t z hb => ?_⟩
  have hne : b ≠ D := fun e => by
    subst e
    rw [h] at hb
    cases hb
    simp [Obj.isCells] at ho
  exact (World.putObj_heap_other hne).trans hb
theorem leaves_marks {F : Fence} {n : Nat} {fn : Func} {tmps : Array Value} {R : Ending → World → Prop} {B : Nat} : ∀ (Ds : List Nat) (w : World), Marks w B Ds →
    (∀ w', CellsK B w w' → LeavesIn F n Try.prog fn tmps R [] .returning w') → LeavesInM F n Try.prog fn tmps R (Ds.map markD) .returning w
  | [], w, _, h => h w (CellsK.refl _ _)
  | D :: Ds, w, hm, h => by
    obtain ⟨hnd, hall⟩ := hm
    obtain ⟨hB, hD⟩ := hall D List.mem_cons_self
    have hk := cellsK_put (B := B) (.deferred none) hD rfl hB
    refine ⟨by simp, .inl ⟨D, _, rfl, run_takeDeferred hD, ?_⟩⟩
    refine leaves_marks Ds _ ⟨(List.nodup_cons.1 hnd).2, fun E hE => ⟨(hall E (List.mem_cons_of_mem _ hE)).1, ?_⟩⟩ (fun w' hw => h w' (hk.trans hw))
    have hne : E ≠ D := fun e => (List.nodup_cons.1 hnd).1 (e ▸ hE)
    exact (World.putObj_heap_other hne).trans (hall E (List.mem_cons_of_mem _ hE)).2
def noF : Nat → Value → World → Prop := fun _ _ _ => True
theorem ko_below {W W' : World} (h : Below W.heap.size W W') : KeepsOthers W W' := ⟨h.size, fun k _ hk _ => (h.block k (Array.getElem?_eq_some_iff.1 hk).1).trans hk⟩
structure FI (n0 : Nat) (w : World) (fs : List (Nat × Array Value × TypeId)) (W : World) : Prop where
  bel : Below n0 w W
  fix : ∀ x ∈ fs, W.heap[x.1]? = some (.cells x.2.1 x.2.2 (0, 0))
theorem FI.own {n0 N : Nat} {w A B : World} {fs : List (Nat × Array Value × TypeId)} {row : Option Nat} (hN : n0 ≤ N) (h : FI n0 w fs A) (hA : n0 ≤ A.heap.size) (hg : A.grownBy B row) (hr : ∀ r, row = some r → N ≤ r ∧ ∃ o : Obj, A.heap[r]? = some o ∧ o.isCells = false) : FI n0 w fs B :=
  ⟨h.bel.grown hg hA (fun k e => by have := (hr k e).1; omega), fun x hx => by
    have hb := h.fix x hx
    refine (hg.block x.1 (Array.getElem?_eq_some_iff.1 hb).1 (fun e => ?_)).trans hb
    obtain ⟨_, o, h2, h3⟩ := hr x.1 e.symm
    rw [hb] at h2
    injection h2 with h2
    rw [← h2] at h3
    cases h3⟩
theorem FI.up {n0 : Nat} {w W W' : World} {fs : List (Nat × Array Value × TypeId)} (h : FI n0 w fs W) (hn : n0 ≤ W.heap.size) (hb : Below W.heap.size W W') : FI n0 w fs W' :=
  ⟨h.bel.trans (hb.mono hn), fun x hx => (hb.block _ (Array.getElem?_eq_some_iff.1 (h.fix x hx)).1).trans (h.fix x hx)⟩
theorem FI.put {n0 : Nat} {w W : World} {fs fs' : List (Nat × Array Value × TypeId)} {b k : Nat} {v : Value} {cs : Array Value} {t : TypeId} (h : FI n0 w fs W) (hb : (b, cs, t) ∈ fs) (hn : n0 ≤ b) (hf : ∀ x ∈ fs', x = (b, cs.setIfInBounds k v, t) ∨ (x ∈ fs ∧ x.1 ≠ b)) : FI n0 w fs' (W.setCell ⟨b, k, none⟩ v) :=
  ⟨h.bel.setCell (p := ⟨b, k, none⟩) hn v, fun x hx => by
    rcases hf x hx with rfl | ⟨hm, hne⟩
    · exact blk_set (h.fix _ hb) k v
    · exact (Below.heap_setCell _ _ _ _ hne).trans (h.fix x hm)⟩
theorem FI.cellsK {n0 : Nat} {w W W' : World} {fs : List (Nat × Array Value × TypeId)} {B : Nat} (h : FI n0 w fs W) (hB : n0 ≤ B) (hk : CellsK B W W') : FI n0 w fs W' :=
  ⟨h.bel.trans (hk.1.mono hB), fun x hx => hk.2 _ _ _ _ (h.fix x hx)⟩
/-- Some blocks, as they are, and a map that is empty. -/
structure FM (n0 : Nat) (w : World) (M : Nat) (fs : List (Nat × Array Value × TypeId)) (W : World) : Prop where
  fi : FI n0 w fs W
  map : W.heap[M]? = some (.map #[] 0)
theorem FM.own {n0 N M : Nat} {w A B : World} {fs : List (Nat × Array Value × TypeId)} {row : Option Nat} (hN : n0 ≤ N) (hM : M < N) (h : FM n0 w M fs A) (hA : n0 ≤ A.heap.size) (hg : A.grownBy B row) (hr : ∀ r, row = some r → N ≤ r ∧ ∃ o : Obj, A.heap[r]? = some o ∧ o.isCells = false) : FM n0 w M fs B :=
  ⟨h.fi.own hN hA hg hr, (hg.block M (Array.getElem?_eq_some_iff.1 h.map).1 (fun e => by have := (hr M e.symm).1; omega)).trans h.map⟩
theorem FM.up {n0 M : Nat} {w W W' : World} {fs : List (Nat × Array Value × TypeId)} (h : FM n0 w M fs W) (hn : n0 ≤ W.heap.size) (hb : Below W.heap.size W W') : FM n0 w M fs W' :=
  ⟨h.fi.up hn hb, (hb.block _ (Array.getElem?_eq_some_iff.1 h.map).1).trans h.map⟩
theorem FM.put {n0 M : Nat} {w W : World} {fs fs' : List (Nat × Array Value × TypeId)} {b k : Nat} {v : Value} {cs : Array Value} {t : TypeId} (h : FM n0 w M fs W) (hb : (b, cs, t) ∈ fs) (hn : n0 ≤ b) (hne : M ≠ b) (hf : ∀ x ∈ fs', x = (b, cs.setIfInBounds k v, t) ∨ (x ∈ fs ∧ x.1 ≠ b)) : FM n0 w M fs' (W.setCell ⟨b, k, none⟩ v) :=
  ⟨h.fi.put hb hn hf, (Below.heap_setCell _ _ _ _ hne).trans h.map⟩
end Go.Proofs.Yticmeeinjkoodaa

namespace Go.Proofs.Yticmeeinjkoodaa
open Go.RowKit Go.Shelf

abbrev lkC (V : NV) (bv dv : Value) (M : Nat) : Array Value := #[.slice V.al V.nl V.cl, .slice V.af V.nf V.cf, .slice V.aw V.nw V.cw, bv, dv, .map (some M)]
/-- A net that is being looked at. -/
structure LB (w0 wb : World) (base B0 P M S5 : Nat) (V : NV) (bv dv : Value) (bs : List (Bool × Lp)) (ds : List Int) (wr : World) : Prop where
  bel : Below w0.heap.size w0 wr
  sz : base ≤ wr.heap.size
  nb : wr.heap[B0]? = some (.cells (nvC V) 26 (0, 0))
  box : wr.heap[P]? = some (.cells (lkC V bv dv M) 126 (0, 0))
  var : wr.heap[S5]? = some (.cells #[.pointer (some ⟨P, 0, none⟩)] 94 (0, 0))
  map : wr.heap[M]? = some (.map #[] 0)
  bo : wr.ownsRow base 132 1 bv bs.length (flatR boxR bs)
  do_ : wr.ownsRow base 3 1 dv ds.length (flatR intR ds)
  lt : w0.heap.size ≤ B0 ∧ w0.heap.size ≤ P ∧ w0.heap.size ≤ M ∧ w0.heap.size ≤ S5 ∧ B0 < base ∧ P < base ∧ M < base ∧ S5 < base
theorem LB.below {w0 wb : World} {base B0 P M S5 : Nat} {V : NV} {bv dv : Value} {bs : List (Bool × Lp)} {ds : List Int} {wr wq : World} (h : LB w0 wb base B0 P M S5 V bv dv bs ds wr) (hb : Below wr.heap.size wr wq) : LB w0 wb base B0 P M S5 V bv dv bs ds wq :=
  ⟨h.bel.trans (hb.mono h.bel.size), Nat.le_trans h.sz hb.size, (hb.block _ (heapsz h.nb)).trans h.nb, (hb.block _ (heapsz h.box)).trans h.box, (hb.block _ (heapsz h.var)).trans h.var, (hb.block _ (Array.getElem?_eq_some_iff.1 h.map).1).trans h.map, own_next h.bo hb, own_next h.do_ hb, h.lt⟩
theorem cells_ne {w : World} {b c : Nat} {cs ds : Array Value} {T U : TypeId} (h1 : w.heap[b]? = some (.cells cs T (0, 0))) (h2 : w.heap[c]? = some (.cells ds U (0, 0))) (hne : T ≠ U) : b ≠ c := fun e => by
  subst e
  rw [h1] at h2
  injection h2 with h2
  injection h2 with _ h2
  exact hne h2
theorem map_ne {w : World} {b c : Nat} {cs : Array Value} {T : TypeId} {es : Array MapEntry} {k : Nat} (h1 : w.heap[b]? = some (.cells cs T (0, 0))) (h2 : w.heap[c]? = some (.map es k)) : b ≠ c := fun e => by
  subst e
  rw [h1] at h2
  injection h2 with h2
  cases h2
/-- A box is appended, and the list stored. -/
theorem LB.pushB {w0 wb : World} {base B0 P M S5 : Nat} {V : NV} {bv dv v' : Value} {bs : List (Bool × Lp)} {ds : List Int} {wr wC : World} {y : Bool × Lp} (h : LB w0 wb base B0 P M S5 V bv dv bs ds wr) (hg : wr.grownBy wC bv.ownBlock) (ho : wC.ownsRow base 132 1 v' (bs.length + 1) (flatR boxR bs ++ boxR y)) :
    LB w0 wb base B0 P M S5 V v' dv (bs ++ [y]) ds (wC.setCell ⟨P, 3, none⟩ v') := by
  have hk : ∀ {b : Nat} {o : Obj}, wr.heap[b]? = some o → bv.ownBlock ≠ some b → wC.heap[b]? = some o := fun hb hne => (hg.block _ (Array.getElem?_eq_some_iff.1 hb).1 (fun e => hne e.symm)).trans hb
  have hM : bv.ownBlock ≠ some M := fun e => by
    obtain ⟨_, cur, hc⟩ := own_at h.bo e
    exact map_ne hc h.map rfl
  have kN := hk h.nb (own_ne_type h.bo h.nb (by decide))
  have kP := hk h.box (own_ne_type h.bo h.box (by decide))
  have kV := hk h.var (own_ne_type h.bo h.var (by decide))
  have kM := hk h.map hM
  have hbw : Below w0.heap.size w0 wC := by
    refine ⟨hg.os.trans h.bel.os, hg.tape.trans h.bel.tape, hg.output.trans h.bel.output, Nat.le_trans h.bel.size hg.size, fun b hb => ?_⟩
    refine (hg.block _ (Nat.lt_of_lt_of_le hb h.bel.size) (fun e => ?_)).trans (h.bel.block b hb)
    have := (own_at h.bo e.symm).1
    have := h.lt
    omega
  have hd : wC.ownsRow base 3 1 dv ds.length (flatR intR ds) := own_of_blocks h.do_ fun B hB => by
    obtain ⟨_, cur, hc⟩ := own_at h.do_ hB
    exact hg.block _ (heapsz hc) (fun e => own_ne_type h.bo hc (by decide) e.symm)
  refine ⟨hbw.setCell (p := ⟨P, 3, none⟩) h.lt.2.1 v', by simpa using Nat.le_trans h.sz hg.size, (Below.heap_setCell _ _ _ _ (cells_ne kN kP (by decide))).trans kN, (blk_set kP 3 v').trans rfl, (Below.heap_setCell _ _ _ _ (cells_ne kV kP (by decide))).trans kV, (Below.heap_setCell _ _ _ _ (Ne.symm (map_ne kP kM))).trans kM, ?_, own_of_blocks hd fun B hB => Below.heap_setCell _ _ _ _ (fun e => own_ne_type hd kP (by decide) (by rw [hB, e])), h.lt⟩
  rw [flatR_snoc, List.length_append]
  exact own_of_blocks ho fun B hB => Below.heap_setCell _ _ _ _ (fun e => own_ne_type ho kP (by decide) (by rw [hB, e]))
/-- A due is appended, and the list stored. -/
theorem LB.pushD {w0 wb : World} {base B0 P M S5 : Nat} {V : NV} {bv dv v' : Value} {bs : List (Bool × Lp)} {ds : List Int} {wr wC : World} {y : Int} (h : LB w0 wb base B0 P M S5 V bv dv bs ds wr) (hg : wr.grownBy wC dv.ownBlock) (ho : wC.ownsRow base 3 1 v' (ds.length + 1) (flatR intR ds ++ intR y)) :
    LB w0 wb base B0 P M S5 V bv v' bs (ds ++ [y]) (wC.setCell ⟨P, 4, none⟩ v') := by
  have hk : ∀ {b : Nat} {o : Obj}, wr.heap[b]? = some o → dv.ownBlock ≠ some b → wC.heap[b]? = some o := fun hb hne => (hg.block _ (Array.getElem?_eq_some_iff.1 hb).1 (fun e => hne e.symm)).trans hb
  have hM : dv.ownBlock ≠ some M := fun e => by
    obtain ⟨_, cur, hc⟩ := own_at h.do_ e
    exact map_ne hc h.map rfl
  have kN := hk h.nb (own_ne_type h.do_ h.nb (by decide))
  have kP := hk h.box (own_ne_type h.do_ h.box (by decide))
  have kV := hk h.var (own_ne_type h.do_ h.var (by decide))
  have kM := hk h.map hM
  have hbw : Below w0.heap.size w0 wC := by
    refine ⟨hg.os.trans h.bel.os, hg.tape.trans h.bel.tape, hg.output.trans h.bel.output, Nat.le_trans h.bel.size hg.size, fun b hb => ?_⟩
    refine (hg.block _ (Nat.lt_of_lt_of_le hb h.bel.size) (fun e => ?_)).trans (h.bel.block b hb)
    have := (own_at h.do_ e.symm).1
    have := h.lt
    omega
  have hd : wC.ownsRow base 132 1 bv bs.length (flatR boxR bs) := own_of_blocks h.bo fun B hB => by
    obtain ⟨_, cur, hc⟩ := own_at h.bo hB
    exact hg.block _ (heapsz hc) (fun e => own_ne_type h.do_ hc (by decide) e.symm)
  refine ⟨hbw.setCell (p := ⟨P, 4, none⟩) h.lt.2.1 v', by simpa using Nat.le_trans h.sz hg.size, (Below.heap_setCell _ _ _ _ (cells_ne kN kP (by decide))).trans kN, (blk_set kP 4 v').trans rfl, (Below.heap_setCell _ _ _ _ (cells_ne kV kP (by decide))).trans kV, (Below.heap_setCell _ _ _ _ (Ne.symm (map_ne kP kM))).trans kM, own_of_blocks hd fun B hB => Below.heap_setCell _ _ _ _ (fun e => own_ne_type hd kP (by decide) (by rw [hB, e])), ?_, h.lt⟩
  rw [flatR_snoc, List.length_append]
  exact own_of_blocks ho fun B hB => Below.heap_setCell _ _ _ _ (fun e => own_ne_type ho kP (by decide) (by rw [hB, e]))
theorem LB.lh {w0 wb : World} {base B0 P M S5 m cb : Nat} {V : NV} {N : Nt} {AB : Option Addr} {dv : Value} {ds : List Int} {wr u : World} (h : LB w0 wb base B0 P M S5 V (.slice AB V.nl cb) dv (bxI N m) ds wr) (hN : NtAt w0 w0.heap.size V N) (hok : NtOk N) (hg : wr.grownBy u dv.ownBlock) : LH u u.heap.size P V N m AB cb := by
  have kP : u.heap[P]? = _ := (hg.block _ (heapsz h.box) (fun e => own_ne_type h.do_ h.box (by decide) e.symm)).trans h.box
  have hbw : Below w0.heap.size w0 u := by
    refine ⟨hg.os.trans h.bel.os, hg.tape.trans h.bel.tape, hg.output.trans h.bel.output, Nat.le_trans h.bel.size hg.size, fun b hb => ?_⟩
    refine (hg.block _ (Nat.lt_of_lt_of_le hb h.bel.size) (fun e => ?_)).trans (h.bel.block b hb)
    have := (own_at h.do_ e.symm).1
    have := h.lt
    omega
  have hd : u.ownsRow base 132 1 (.slice AB V.nl cb) (bxI N m).length (flatR boxR (bxI N m)) := own_of_blocks h.bo fun B hB => by
    obtain ⟨_, cur, hc⟩ := own_at h.bo hB
    exact hg.block _ (heapsz hc) (fun e => own_ne_type h.do_ hc (by decide) e.symm)
  obtain ⟨A, c, e, hr, _⟩ := (RowIs.of_own hd).at_ (k := 1) (fun _ => rfl)
  injection e with e1 e2 e3
  subst e1
  have q := fun k => cell_of_row u P k _ 126 (0, 0) kP
  have q0 := q 0; have q1 := q 1; have q2 := q 2; have q3 := q 3
  simp at q0 q1 q2 q3
  exact ⟨heapsz kP, q0, q1, q2, q3, hN.next hbw hbw.size, hr, hok⟩
def dueL (N : Nt) (m k : Nat) : List Int := (List.range k).map fun i => dueI (N.lo.getD i lp0) (m.testBit i) N.fr
theorem dueL_succ {N : Nt} {m k : Nat} {l : Lp} (h : N.lo[k]? = some l) : dueL N m (k + 1) = dueL N m k ++ [dueI l (m.testBit k) N.fr] := by
  unfold dueL
  rw [List.range_succ, List.map_append]
  have e : N.lo.getD k lp0 = l := by rw [List.getD_eq_getElem?_getD, h]; rfl
  simp only [List.map_cons, List.map_nil, e]
def ldCv (S5 P k : Nat) (dv : Value) (y : Int) : Tmp → Value
  | 5 => .pointer (some ⟨S5, 0, none⟩)
  | 9 => .int .i64 k
  | 56 => .pointer (some ⟨P, 0, none⟩)
  | 57 => .pointer (some ⟨P, 0, none⟩)
  | 58 => .pointer (some ⟨P, 0, none⟩)
  | 59 => .pointer (some ⟨P, 4, none⟩)
  | 60 => dv
  | 61 => .pointer (some ⟨P, 0, none⟩)
  | 62 => .int .i64 k
  | 63 => .int .i64 y
  | 66 => .pointer (some ⟨P, 0, none⟩)
  | 67 => .pointer (some ⟨P, 4, none⟩)
  | _ => undef
/-- A net that was looked at. -/
structure Lk (w0 : World) (P M : Nat) (V : NV) (N : Nt) (m : Nat) (bv dv : Value) (w : World) : Prop where
  bel : Below w0.heap.size w0 w
  box : w.heap[P]? = some (.cells (lkC V bv dv M) 126 (0, 0))
  bo : RowIs boxR 132 w0.heap.size (bxI N m) bv w
  du : RowIs intR 3 w0.heap.size (dueL N m V.nl) dv w
  map : w.heap[M]? = some (.map #[] 0)
  lt : w0.heap.size ≤ P ∧ w0.heap.size ≤ M
theorem box_info : (Try.prog.info? 132).map (fun i => (i.zero, i.size, i.bytes)) = some (some .nilIface, 1, 16) := by kernel_rfl
def bxF (N : Nt) (k : Nat) : List (Bool × Lp) := (N.lo.take k).map fun l => (false, l)
theorem bxF_succ {N : Nt} {k : Nat} {l : Lp} (h : N.lo[k]? = some l) : bxF N (k + 1) = bxF N k ++ [(false, l)] := by
  unfold bxF
  rw [List.take_add_one, h, List.map_append]
  rfl
theorem bxF_len {N : Nt} {k : Nat} (h : k ≤ N.lo.length) : (bxF N k).length = k := by simp [bxF, h]
/-- The row of boxes, when some of the loops are wrapped. -/
def csW (N : Nt) (cs : Array Value) (pre : List Nat) : Array Value := pre.foldl (fun c x => c.setIfInBounds x (boxV true (N.lo.getD x lp0))) cs
theorem csW_size (N : Nt) : ∀ (pre : List Nat) (cs : Array Value), (csW N cs pre).size = cs.size
  | [], _ => rfl
  | x :: pre, cs => by
    show (csW N (cs.setIfInBounds x _) pre).size = _
    rw [csW_size N pre]
    simp
theorem csW_snoc (N : Nt) (cs : Array Value) (pre : List Nat) (x : Nat) : csW N cs (pre ++ [x]) = (csW N cs pre).setIfInBounds x (boxV true (N.lo.getD x lp0)) := by
  unfold csW
  rw [List.foldl_append]
  rfl
theorem csW_get (N : Nt) : ∀ (pre : List Nat) (cs : Array Value) (i : Nat), i < cs.size → (csW N cs pre)[i]? = if i ∈ pre then some (boxV true (N.lo.getD i lp0)) else cs[i]?
  | [], cs, i, _ => by simp [csW]
  | x :: pre, cs, i, hi => by
    show (csW N (cs.setIfInBounds x _) pre)[i]? = _
    rw [csW_get N pre _ i (by simpa using hi)]
    by_cases h1 : i ∈ pre
    · rw [if_pos h1, if_pos (List.mem_cons_of_mem _ h1)]
    · rw [if_neg h1]
      by_cases h2 : x = i
      · subst h2
        rw [if_pos List.mem_cons_self, Array.getElem?_setIfInBounds_self_of_lt hi]
      · rw [Array.getElem?_setIfInBounds_ne h2, if_neg (by simp [h1, Ne.symm h2])]
theorem flat_box (l : List (Bool × Lp)) : flatR boxR l = l.map fun x => boxV x.1 x.2 := by
  induction l with
  | nil => rfl
  | cons a l ih =>
    show boxR a ++ flatR boxR l = _
    rw [ih]
    rfl
theorem mem_pil {m i : Nat} (hi : i < 5) : i ∈ pilL (m : Int) ↔ m.testBit i = true := by
  unfold pilL
  rw [List.mem_filter, List.mem_range, jack_bit]
  exact ⟨fun h => h.2, fun h => ⟨hi, h⟩⟩
theorem csW_take {N : Nt} {m : Nat} {cs : Array Value} (h5 : N.lo.length ≤ 5) (hs : N.lo.length ≤ cs.size) (h : cs.toList.take N.lo.length = flatR boxR (bxI N 0)) : (csW N cs (pilL (m : Int))).toList.take N.lo.length = flatR boxR (bxI N m) := by
  rw [flat_box] at h ⊢
  refine List.ext_getElem? fun i => ?_
  have hi0 := congrArg (fun l => l[i]?) h
  simp only [List.getElem?_take, Array.getElem?_toList, List.getElem?_map] at hi0 ⊢
  by_cases hi : i < N.lo.length
  · rw [if_pos hi] at hi0 ⊢
    obtain ⟨l, hl⟩ := get_of_lt hi
    rw [bxI_at hl] at hi0 ⊢
    rw [csW_get N _ cs i (by omega), hi0]
    have e : N.lo.getD i lp0 = l := by rw [List.getD_eq_getElem?_getD, hl]; rfl
    rw [e]
    by_cases hb : m.testBit i = true
    · rw [if_pos ((mem_pil (by omega)).2 hb), hb]
      rfl
    · rw [if_neg (fun hm => hb ((mem_pil (by omega)).1 hm))]
      have : m.testBit i = false := by simpa using hb
      rw [this]
      simp
  · rw [if_neg hi]
    have : (bxI N m)[i]? = none := List.getElem?_eq_none (by simp [bxI]; omega)
    rw [this]
    rfl
abbrev l2 (Bn m B0 P S5 bb M : Nat) (V : NV) (bv : Value) (cs : Array Value) : List (Nat × Array Value × TypeId) := [(Bn, #[.int .i64 (m : Int)], 3), (B0, nvC V, 26), (P, lkC V bv (.slice none 0 0) M, 126), (S5, #[.pointer (some ⟨P, 0, none⟩)], 94), (bb, cs, 132)]
def lwCv (S5 P B0 bb o n cb b off nl cl x : Nat) (l : Lp) : Tmp → Value
  | 2 => .pointer (some ⟨B0, 0, none⟩)
  | 5 => .pointer (some ⟨S5, 0, none⟩)
  | 8 => .int .i64 x
  | 37 => .pointer (some ⟨P, 0, none⟩)
  | 38 => .pointer (some ⟨P, 0, none⟩)
  | 39 => .pointer (some ⟨P, 3, none⟩)
  | 40 => .slice (some ⟨bb, o, none⟩) n cb
  | 41 => .int .i64 x
  | 42 => .pointer (some ⟨B0, 0, none⟩)
  | 43 => .slice (some ⟨b, off, none⟩) nl cl
  | 44 => .int .i64 x
  | 45 => .pointer (some ⟨b, off + x * 12, none⟩)
  | 46 => lpV l
  | 47 => lpV l
  | 48 => .iface 130 (lpV l)
  | 49 => .pointer (some ⟨bb, x, none⟩)
  | _ => undef
def lkCv (S5 T7 P : Nat) (bv : Value) (x : Lp) : Tmp → Value
  | 5 => .pointer (some ⟨S5, 0, none⟩)
  | 7 => .pointer (some ⟨T7, 0, none⟩)
  | 21 => .pointer (some ⟨P, 0, none⟩)
  | 22 => .pointer (some ⟨P, 0, none⟩)
  | 23 => .pointer (some ⟨P, 0, none⟩)
  | 24 => .pointer (some ⟨P, 3, none⟩)
  | 25 => bv
  | 26 => lpV x
  | 27 => lpV x
  | 28 => .iface 128 (lpV x)
  | 31 => .pointer (some ⟨P, 0, none⟩)
  | 32 => .pointer (some ⟨P, 3, none⟩)
  | _ => undef
attribute [local irreducible] QT
attribute [local go_sem] Oper.semAt_some
set_option maxRecDepth 100000 in
set_option maxHeartbeats 4000000 in
theorem look_any {w : World} {V : NV} {N : Nt} (hN : NtAt w w.heap.size V N) (hok : NtOk N) (m : Nat) (hm : m < 2 ^ N.lo.length) :
    Calls Try.prog 58 #[nvV V, .int .i64 m] w fun e w' => ∃ P M bv dv, e = .returned (.pointer (some ⟨P, 0, none⟩)) ∧ Lk w P M V N m bv dv w' := by
  have hmm := fun W : World => run_makeMap (P := Try.prog) 123 W
  have z := heap_alloc_new w (.cells (nvC V) 26)
  have hb1 := (Below.refl w.heap.size w).alloc (Nat.le_refl _) (.cells (nvC V) 26)
  obtain ⟨v0, v1, v2⟩ := box3_cells z
  obtain ⟨y1, y2, hb2⟩ := two_new (w.alloc (.cells (nvC V) 26)) (.map #[] 0) (.cells (lkC V (.slice none 0 0) (.slice none 0 0) (w.heap.size + 1)) 126)
  have y3 := heap_alloc_new (((w.alloc (.cells (nvC V) 26)).alloc (.map #[] 0)).alloc (.cells (lkC V (.slice none 0 0) (.slice none 0 0) (w.heap.size + 1)) 126)) (.cells #[.pointer (some ⟨w.heap.size + 1 + 1, 0, none⟩)] 94)
  have hb3 := (Below.refl _ (((w.alloc (.cells (nvC V) 26)).alloc (.map #[] 0)).alloc (.cells (lkC V (.slice none 0 0) (.slice none 0 0) (w.heap.size + 1)) 126))).alloc (Nat.le_refl _) (.cells #[.pointer (some ⟨w.heap.size + 1 + 1, 0, none⟩)] 94)
  have e1 : (w.alloc (.cells (nvC V) 26)).heap.size = w.heap.size + 1 := by simp
  have e3 : (((w.alloc (.cells (nvC V) 26)).alloc (.map #[] 0)).alloc (.cells (lkC V (.slice none 0 0) (.slice none 0 0) (w.heap.size + 1)) 126)).heap.size = w.heap.size + 3 := by simp
  rw [e3] at y3 hb3
  rw [e1] at y1 y2 hb2
  obtain ⟨w4, hw4⟩ : ∃ z, ((((w.alloc (.cells (nvC V) 26)).alloc (.map #[] 0)).alloc (.cells (lkC V (.slice none 0 0) (.slice none 0 0) (w.heap.size + 1)) 126)).alloc (.cells #[.pointer (some ⟨w.heap.size + 1 + 1, 0, none⟩)] 94)) = z := ⟨_, rfl⟩
  rw [hw4] at y3 hb3
  have hsz : w4.heap.size = w.heap.size + 4 := by rw [← hw4]; simp
  have k2 := (hb3.block (w.heap.size + 1 + 1) (by omega)).trans y2
  have k1 := (hb3.block (w.heap.size + 1) (by omega)).trans y1
  have k0 := (hb3.block w.heap.size (by omega)).trans ((hb2.block w.heap.size (by omega)).trans z)
  have hbw : Below w.heap.size w w4 := (hb1.trans (hb2.mono (by omega))).trans (hb3.mono (by omega))
  have hLB : LB w w4 w4.heap.size w.heap.size (w.heap.size + 1 + 1) (w.heap.size + 1) (w.heap.size + 3) V (.slice none 0 0) (.slice none 0 0) [] [] w4 :=
    ⟨hbw, Nat.le_refl _, k0, k2, y3, k1, World.ownsRow_nil _ _ _ _, World.ownsRow_nil _ _ _ _, by omega⟩
  have HLB := Lib.hid hLB; have HW4 := Lib.hid hw4; have HN := Lib.hid hN; have HOK := Lib.hid hok
  have HSZ := Lib.hid hsz
  have HNL := Lib.hid hN.nl
  have hml := hN.ml
  unfold maxLen at hml
  have HN5 := Lib.hid hok.n5
  obtain ⟨i0, hi0, hz0, hz1, hz2⟩ := info_parts box_info
  clear z hb1 y1 y2 hb2 y3 hb3 e1 e3 k0 k1 k2 hbw hLB hw4 hsz hN hok
  refine callsIn_wide.1 (callsIn_of_wp_marks (n := 5) Try.func58 rfl trivial (wpIn_wide.2 ?_) rfl)
  simp only [Try.ntmps58, List.size_toArray, List.length_cons, List.length_nil, Nat.reduceAdd, Nat.reduceSub, Array.replicate_succ, Array.replicate_zero, List.push_toArray, List.append_toArray, List.nil_append, List.cons_append]
  go_wp2_with fail
  rw [show ((((w.alloc (.cells #[.slice V.al V.nl V.cl, .slice V.af V.nf V.cf, .slice V.aw V.nw V.cw] 26)).alloc (.map #[] 0)).alloc (.cells #[.slice V.al V.nl V.cl, .slice V.af V.nf V.cf, .slice V.aw V.nw V.cw, .slice none 0 0, .slice none 0 0, .map (some (w.heap.size + 1))] 126)).alloc (.cells #[.pointer (some ⟨w.heap.size + 1 + 1, 0, none⟩)] 94)) = w4 from HW4.out]
  clear v0 v1 v2
  go_loopw [17] (fun ii wr => ∃ k : Nat, k ≤ V.nl ∧ ii = .int .i64 k ∧ ∃ bv, LB w w4 w4.heap.size w.heap.size (w.heap.size + 1 + 1) (w.heap.size + 1) (w.heap.size + 3) V bv (.slice none 0 0) (bxF N k) [] wr) (fun ii _ => V.nl - (intOf ii).toNat)
  case atStart => exact ⟨0, by omega, rfl, _, HLB.out⟩
  case round =>
    obtain ⟨k, hk, rfl, bv, hL⟩ := hrel
    have HL := Lib.hid hL
    clear hL
    by_cases hlt : k < V.nl
    · have k3 : (0 : Int) ≤ (k : Int) := by omega
      have k4 : (k : Int) < (V.nl : Int) := by omega
      obtain ⟨x, hx⟩ := get_of_lt (l := N.lo) (k := k) (by rw [HNL.out]; exact hlt)
      obtain ⟨b, o, hA, hbb, ⟨c0, c1⟩, ⟨c2, c3⟩, ⟨c4, c5⟩, ⟨c6, c7, c8, c9⟩, c10, c11⟩ := lp_el (HN.out.lo.next HL.out.bel HL.out.bel.size) hx
      have HX := Lib.hid hx
      have hAV : V.al = some ⟨b, o, none⟩ := hA
      clear hx hbb hA
      rw [hAV]
      have zn := heap_alloc_new wr (.cells (lpC x) 49)
      have hbn := (Below.refl wr.heap.size wr).alloc (Nat.le_refl _) (.cells (lpC x) 49)
      obtain ⟨wa, hwa⟩ : ∃ z, wr.alloc (.cells (lpC x) 49) = z := ⟨_, rfl⟩
      rw [hwa] at zn hbn
      have HWA := Lib.hid hwa; have HZN := Lib.hid zn; have HLa := Lib.hid (HL.out.below hbn)
      clear zn hbn hwa HL
      go_wp2_with fail
      rw [show wr.alloc (.cells #[.int .i64 x.wl, .int .i64 x.wh, .int .i64 x.ll, .int .i64 x.lh, .int .i64 x.rl, .int .i64 x.rh, .int .i64 x.co, .int .i64 x.ma, .int .i64 x.gr, .int .i64 x.fe, .int .i64 x.fl, .int .i64 x.fh] 49) = wa from HWA.out]
      clear c0 c1 c2 c3 c4 c5 c6 c7 c8 c9 c10 c11
      have hbo := HLa.out.bo
      have hlow := HLa.out.sz
      have q5 := cell_of_row wa _ 0 _ 94 (0, 0) HLa.out.var
      have q3 := cell_of_row wa _ 3 _ 126 (0, 0) HLa.out.box
      simp at q5 q3
      obtain ⟨⟨z0, z1⟩, ⟨z2, z3⟩, ⟨z4, z5⟩, ⟨z6, z7, z8, z9⟩, z10, z11⟩ := lp_cells HZN.out
      have L5 := heapsz HLa.out.var; have LP := heapsz HLa.out.box; have L7 := heapsz HZN.out
      have n5 : some (w.heap.size + 3) ≠ bv.ownBlock := fun e => own_ne_type hbo HLa.out.var (by decide) e.symm
      have nP : some (w.heap.size + 1 + 1) ≠ bv.ownBlock := fun e => own_ne_type hbo HLa.out.box (by decide) e.symm
      have n7 : some wr.heap.size ≠ bv.ownBlock := fun e => own_ne_type hbo HZN.out (by decide) e.symm
      have hlen : (bxF N k).length ≤ 5 := by rw [bxF_len (by rw [HNL.out]; omega)]; have := HN5.out; have := HNL.out; omega
      have HLEN := Lib.hid hlen
      clear hlen
      apply tail_regionX
      case hs => exact (rfl : _ = [_, _, _, _, _, _, _, _, _, _, _, _] ++ [_])
      case hm => kernel_rfl
      case hT => kernel_rfl
      refine plan_guarded_any (γ := GhE) [5, 7] (rhoO 29 30 (lkCv (w.heap.size + 3) wr.heap.size (w.heap.size + 1 + 1) bv x)) (SL ⟨wa, w4.heap.size, 132, 1, (bxF N k).length, bv, flatR boxR (bxF N k), boxR (false, x), 8, 9⟩) ⟨fun _ => undef, fun _ => undef⟩ (by kernel_rfl) (by kernel_rfl) (by kernel_rfl) (by kernel_rfl) ?_ (SL.start hbo hlow (by decide)) ?_ ?_
      · intro t ht
        simp only [List.mem_cons, List.not_mem_nil, or_false] at ht
        rcases ht with rfl | rfl <;> rfl
      · refine allOps_array ?_
        refine ⟨?_, ?_, ?_, ?_, ?_, ?_, ?_, ?_, ?_, ?_, ?_, ?_, trivial⟩ <;> intro done g wS hS hu hdep _ <;> have s5 := (hS.cell L5 n5 (o := 0)).trans q5 <;> have p3 := (hS.cell LP nP (o := 3)).trans q3 <;> have yy := (fun o => hS.cell L7 n7 (o := o)) <;> have y0 := (yy 0).trans z0 <;> have y1 := (yy 1).trans z1 <;> have y2 := (yy 2).trans z2 <;> have y3 := (yy 3).trans z3 <;> have y4 := (yy 4).trans z4 <;> have y5 := (yy 5).trans z5 <;> have y6 := (yy 6).trans z6 <;> have y7 := (yy 7).trans z7 <;> have y8 := (yy 8).trans z8 <;> have y9 := (yy 9).trans z9 <;> have y10 := (yy 10).trans z10 <;> have y11 := (yy 11).trans z11 <;> clear yy
        · refine quietL hS 21 rfl (by simp) (by simp) rfl ?_
          simp [go_sem, evalBy, rhoO, lkCv, s5]
        · refine quietL hS 22 rfl (by simp) (by simp) rfl ?_
          simp [go_sem, evalBy, rhoO, lkCv, s5]
        · refine quietL hS 23 rfl (by simp) (by simp) rfl ?_
          simp [go_sem, evalBy, rhoO, lkCv]
        · refine quietL hS 24 rfl (by simp) (by simp) rfl ?_
          simp [go_sem, evalBy, rhoO, lkCv]
        · refine quietL hS 25 rfl (by simp) (by simp) rfl ?_
          simp [go_sem, evalBy, rhoO, lkCv, p3]
        · refine quietL hS 26 rfl (by simp) (by simp) rfl ?_
          simp [go_sem, evalBy, rhoO, lkCv, y0, y1, y2, y3, y4, y5, y6, y7, y8, y9, y10, y11]
        · refine quietL hS 27 rfl (by simp) (by simp) rfl ?_
          simp [go_sem, evalBy, rhoO, lkCv]
        · refine quietL hS 28 rfl (by simp) (by simp) rfl ?_
          simp [go_sem, evalBy, rhoO, lkCv]
        · refine buildL hS 29 rfl rfl rfl ?_ (fun _ => rfl) (fun t b' ht => rhoO_b t b' ht)
          simp [go_sem, evalBy, rhoO, lkCv, boxR, boxV]
        · exact appendL hS 30 rfl rfl hu (hdep ⟨8, .data⟩ (by simp) rfl) rfl 25 29 124 rfl rfl rfl i0 _ 16 Try.underlying124 hi0 hz0 hz1 hz2 rfl (by show 0 < 1; decide) rfl (by simp [Value.oneCell', boxR, boxV]) (by unfold maxLen; show (bxF N k).length + 1 ≤ _; have := HLEN.out; omega) (by show ((bxF N k).length + 1) * 16 ≤ _; have := HLEN.out; omega) (fun _ => rfl) (fun t c' ht => rhoO_c t c' ht)
        · refine quietL hS 31 rfl (by simp) (by simp) rfl ?_
          simp [go_sem, evalBy, rhoO, lkCv]
        · refine quietL hS 32 rfl (by simp) (by simp) rfl ?_
          simp [go_sem, evalBy, rhoO, lkCv]
      · intro g wC hS
        have hA := SL.after hS (show 9 < _ by decide)
        obtain ⟨gb, cg, ev, _⟩ := hA.2.1.form (by omega)
        have hp := HLa.out.pushB hA.1 hA.2.1
        have zP := (hA.1.block _ LP nP).trans HLa.out.box
        have fP := cs_frz (k := 3) zP
        have p3 := cell_of_row wC _ 3 _ 126 (0, 0) zP
        simp at p3
        rw [ev] at hp
        have HP := Lib.hid hp
        clear hA hS hp zP q5 q3 z0 z1 z2 z3 z4 z5 z6 z7 z8 z9 z10 z11
        simp only [QT]
        unfold Oper.wp
        simp [go_sem, putAll, Act.put, rhoO, lkCv, fP, p3, ev]
        generalize wC.setCell ⟨w.heap.size + 1 + 1, 3, none⟩ (.slice (some ⟨gb, 0, none⟩) ((bxF N k).length + 1) cg) = w7 at HP ⊢
        clear fP p3 ev
        go_wp2_with fail
        exact ⟨⟨k + 1, by omega, rfl, _, by rw [bxF_succ HX.out]; exact HP.out⟩, by simp [intOf]; omega⟩
    · obtain rfl : k = V.nl := by omega
      have k4 : ¬ (V.nl : Int) < (V.nl : Int) := by omega
      have hbF : bxF N V.nl = bxI N 0 := by
        unfold bxF bxI
        rw [← HNL.out, List.take_length]
        refine List.ext_getElem (by simp) fun i h1 h2 => ?_
        simp [List.getD_eq_getElem?_getD, List.getElem?_eq_getElem (show i < N.lo.length by simpa using h1)]
      rw [hbF] at HL
      have hsize := HL.out.sz
      clear hbF
      go_wp2_with fail
      refine (loopsOf_any _ _).mono ?_
      rintro e w' ⟨rfl, rfl⟩
      have hbs := (Below.refl wr.heap.size wr).alloc (Nat.le_refl _) (.cells #[.int .i64 (m : Int)] 3)
      have zs := heap_alloc_new wr (.cells #[.int .i64 (m : Int)] 3)
      obtain ⟨ws, hws⟩ : ∃ z, wr.alloc (.cells #[.int .i64 (m : Int)] 3) = z := ⟨_, rfl⟩
      rw [hws] at hbs zs ⊢
      have HLs := Lib.hid (HL.out.below hbs)
      have HZs := Lib.hid zs
      clear hbs zs hws
      go_wp2_with fail
      have hlenI : (bxI N 0).length = V.nl := by rw [← HNL.out]; simp [bxI]
      obtain ⟨bb, cb, cs, hbv, hbb, hzb, hcb, hmx, hcsz, htk⟩ := HLs.out.bo.2.resolve_left (fun h => by
        have h2 := HN5.out; have h3 := HNL.out; have h4 := h.2
        omega)
      rw [hlenI, Nat.mul_one] at htk
      have hcs : ∀ (i : Nat) (y : Value), (flatR boxR (bxI N 0))[i]? = some y → cs[i]? = some y := fun i y hy => by
        rw [← htk, List.getElem?_take] at hy
        split at hy
        · simpa using hy
        · simp at hy
      have HTK := Lib.hid htk; have HSZ9 := Lib.hid (And.intro hcb (And.intro hmx hcsz))
      clear htk hmx hcsz
      rw [hlenI] at hbv
      have HCS := Lib.hid hcs; have HBB := Lib.hid hbb
      have hFM : FM w.heap.size w (w.heap.size + 1) (l2 wr.heap.size m w.heap.size (w.heap.size + 1 + 1) (w.heap.size + 3) bb (w.heap.size + 1) V bv cs) ws := ⟨⟨HLs.out.bel, fun x hx => by
        simp only [l2, List.mem_cons, List.not_mem_nil, or_false] at hx
        rcases hx with rfl | rfl | rfl | rfl | rfl
        · exact HZs.out
        · exact HLs.out.nb
        · exact HLs.out.box
        · exact HLs.out.var
        · exact hzb⟩, HLs.out.map⟩
      have HFM := Lib.hid hFM
      have HNE : Hid (wr.heap.size ≠ bb ∧ w.heap.size ≠ bb ∧ w.heap.size + 1 + 1 ≠ bb ∧ w.heap.size + 3 ≠ bb ∧ w.heap.size + 1 ≠ bb) := Lib.hid ⟨cells_ne HZs.out hzb (by decide), cells_ne HLs.out.nb hzb (by decide), cells_ne HLs.out.box hzb (by decide), cells_ne HLs.out.var hzb (by decide), Ne.symm (map_ne hzb HLs.out.map)⟩
      have HBW : Hid (w.heap.size ≤ bb) := Lib.hid (by have := HLs.out.lt; omega)
      have hc0 := cell_of_row ws wr.heap.size 0 _ 3 (0, 0) HZs.out
      simp at hc0
      have hlz := heapsz HZs.out
      have hlt4 := HLs.out.lt
      have hsz2 := HLs.out.sz
      have HBV := Lib.hid hbv
      have hlenI' := hlenI
      clear hbv hcs hzb hFM hbb hcb hlenI
      refine (wpIn_wide (n := 3)).1 ?_
      refine wpIn_rangeFunc_ownF rfl (by decide) (gf := 96) (lb := #[.pointer (some ⟨wr.heap.size, 0, none⟩)]) rfl trivial (enters_of Try.func96 (by kernel_rfl) rfl)
        (plan_stops (3 - 1) (by decide) wr.heap.size w.heap.size (m : Int) ws hlz hc0)
        kpB_t (kpB_b HLs.out.bel.size hlz) (Below.refl _ _) (fun _ => rfl)
        (fun pre Wt => FM w.heap.size w (w.heap.size + 1) (l2 wr.heap.size m w.heap.size (w.heap.size + 1 + 1) (w.heap.size + 3) bb (w.heap.size + 1) V bv (csW N cs (pre.map Subtype.val))) Wt)
        (fun _ _ _ => False)
        (fun pre A B row hs hg hr => hs.own (N := ws.heap.size) HLs.out.bel.size (by omega) hs.fi.bel.size hg hr)
        (fun _ _ _ _ _ hs _ _ => hs)
        (show FM _ _ _ _ _ from HFM.out)
        (fun x => { tmps := List.toArray ((nvV V) :: (Value.int .i64 (m : Int)) :: (Value.pointer (some ⟨w.heap.size, 0, none⟩)) :: (undef) :: (Value.pointer none) :: (Value.pointer (some ⟨w.heap.size + 1 + 1 + 1, 0, none⟩)) :: (undef) :: (u7) :: (Value.int .i64 (x.1 : Int)) :: (undef) :: (Value.agg #[.slice V.al V.nl V.cl, .slice V.af V.nf V.cf, .slice V.aw V.nw V.cw]) :: (Value.map (some (w.heap.size + 1))) :: (Value.agg #[.slice V.al V.nl V.cl, .slice V.af V.nf V.cf, .slice V.aw V.nw V.cw, .slice none 0 0, .slice none 0 0, .map (some (w.heap.size + 1))]) :: (Value.pointer (some ⟨w.heap.size + 1 + 1, 0, none⟩)) :: (Value.pointer (some ⟨w.heap.size, 0, none⟩)) :: (Value.slice V.al V.nl V.cl) :: (Value.int .i64 (V.nl : Int)) :: (Value.int .i64 (V.nl : Int)) :: (Value.bool false) :: (u19) :: (u20) :: (u21) :: (u22) :: (u23) :: (u24) :: (u25) :: (u26) :: (u27) :: (u28) :: (u29) :: (u30) :: (u31) :: (u32) :: (u33) :: (Value.int .i64 (m : Int)) :: (Value.func (.func 96) #[] #[.pointer (some ⟨wr.heap.size, 0, none⟩)]) :: (Value.int .i64 (x.1 : Int)) :: (undef) :: (undef) :: (undef) :: (undef) :: (undef) :: (undef) :: (undef) :: (undef) :: (undef) :: (undef) :: (undef) :: (undef) :: (undef) :: (undef) :: (undef) :: (undef) :: (undef) :: (undef) :: (undef) :: (undef) :: (undef) :: (undef) :: (undef) :: (undef) :: (undef) :: (undef) :: (undef) :: (undef) :: (undef) :: (undef) :: (undef) :: (undef) :: (undef) :: []), defers := [] }) ?assign ?body ?done ?stop
      case assign =>
        intro l x Wt Kk hK
        gi_wp2
        exact hK
      case body =>
        rintro l pre ⟨x, hx5, hxj⟩ Wt hI hlen
        have HI := Lib.hid hI
        have hxn : x < V.nl := by
          have hj2 := hxj
          rw [jack_bit] at hj2
          rcases Nat.lt_or_ge x V.nl with h | h
          · exact h
          · exfalso
            rw [Nat.testBit_lt_two_pow (Nat.lt_of_lt_of_le hm (Nat.pow_le_pow_right (by decide) (by rw [HNL.out]; exact h)))] at hj2
            exact absurd hj2 (by decide)
        have hx0 : (0 : Int) ≤ (x : Int) := by omega
        have hx1 : (x : Int) < (V.nl : Int) := by omega
        obtain ⟨l, hl⟩ := get_of_lt (l := N.lo) (k := x) (by rw [HNL.out]; exact hxn)
        obtain ⟨b, o, hA, hbb9, ⟨c0, c1⟩, ⟨c2, c3⟩, ⟨c4, c5⟩, ⟨c6, c7, c8, c9⟩, c10, c11⟩ := lp_el (HN.out.lo.next hI.fi.bel hI.fi.bel.size) hl
        have HLX := Lib.hid hl
        have fol : Try.prog.follows .mixedOrders = true := by kernel_rfl
        obtain ⟨cq, hcq⟩ : ∃ z, csW N cs (pre.map Subtype.val) = z := ⟨_, rfl⟩
        have HCQ := Lib.hid hcq
        rw [hcq] at HI hI
        have g1 := hI.fi.fix (w.heap.size, nvC V, 26) (by simp [l2])
        have g2 := hI.fi.fix (w.heap.size + 1 + 1, lkC V bv (.slice none 0 0) (w.heap.size + 1), 126) (by simp [l2])
        have g3 := hI.fi.fix (w.heap.size + 3, #[.pointer (some ⟨w.heap.size + 1 + 1, 0, none⟩)], 94) (by simp [l2])
        simp only at g1 g2 g3
        have p1 := cell_of_row Wt _ 0 _ 26 (0, 0) g1
        have p2 := cell_of_row Wt _ 3 _ 126 (0, 0) g2
        have p3 := cell_of_row Wt _ 0 _ 94 (0, 0) g3
        simp at p1 p2 p3
        rw [HBV.out] at p2
        rw [hA] at p1
        have l1 := heapsz g1; have l22 := heapsz g2; have l3 := heapsz g3
        clear hI hl hcq g1 g2 g3 hlen
        dsimp only
        gi_wp2
        refine wpIn_region_any fol (wpAnyIn_round_of_wpAny (by kernel_rfl) (by rintro ⟨_, _, hq⟩; exact hq) _ _ _ _ ?_)
        refine tail_startX [_, _, _, _, _, _, _, _, _, _, _, _, _] _ rfl (by kernel_rfl) ?_
        refine rel_any [2, 5, 8] [] (lwCv (w.heap.size + 3) (w.heap.size + 1 + 1) w.heap.size bb 0 V.nl cb b o V.nl V.cl x l) noF (by kernel_rfl) (by kernel_rfl) (by kernel_rfl) (by kernel_rfl) (by kernel_rfl) ?_ (fun _ _ _ _ _ _ => trivial) ?_ ?_
        · intro t ht
          simp only [List.mem_cons, List.not_mem_nil, or_false] at ht
          rcases ht with rfl | rfl | rfl <;> rfl
        · refine allOps_array ?_
          refine ⟨?_, ?_, ?_, ?_, ?_, ?_, ?_, ?_, ?_, ?_, ?_, ?_, ?_, trivial⟩ <;> intro g u hd_ <;> have q := (bcell u.h).1
          · refine ⟨rfl, relQ 37 rfl trivial ?_⟩
            simp [go_sem, evalBy, rhoT, relOf, lwCv, (q _ _ l3).trans p3]
          · refine ⟨rfl, relQ 38 rfl trivial ?_⟩
            simp [go_sem, evalBy, rhoT, relOf, lwCv]
          · refine ⟨rfl, relQ 39 rfl trivial ?_⟩
            simp [go_sem, evalBy, rhoT, relOf, lwCv]
          · refine ⟨rfl, relQ 40 rfl trivial ?_⟩
            simp [go_sem, evalBy, rhoT, relOf, lwCv, (q _ _ l22).trans p2]
          · refine ⟨rfl, relQ 41 rfl trivial ?_⟩
            simp [go_sem, evalBy, rhoT, relOf, lwCv]
          · refine ⟨rfl, relQ 42 rfl trivial ?_⟩
            simp [go_sem, evalBy, rhoT, relOf, lwCv]
          · refine ⟨rfl, relQ 43 rfl trivial ?_⟩
            simp [go_sem, evalBy, rhoT, relOf, lwCv, (q _ _ l1).trans p1]
          · refine ⟨rfl, relQ 44 rfl trivial ?_⟩
            simp [go_sem, evalBy, rhoT, relOf, lwCv]
          · refine ⟨rfl, relQ 45 rfl trivial ?_⟩
            simp [go_sem, evalBy, rhoT, relOf, lwCv, hx0, hx1]
          · refine ⟨rfl, relQ 46 rfl trivial ?_⟩
            simp [go_sem, evalBy, rhoT, relOf, lwCv, (q _ _ hbb9).trans c0, (q _ _ hbb9).trans c1, (q _ _ hbb9).trans c2, (q _ _ hbb9).trans c3, (q _ _ hbb9).trans c4, (q _ _ hbb9).trans c5, (q _ _ hbb9).trans c6, (q _ _ hbb9).trans c7, (q _ _ hbb9).trans c8, (q _ _ hbb9).trans c9, (q _ _ hbb9).trans c10, (q _ _ hbb9).trans c11]
          · refine ⟨rfl, relQ 47 rfl trivial ?_⟩
            simp [go_sem, evalBy, rhoT, relOf, lwCv]
          · refine ⟨rfl, relQ 48 rfl trivial ?_⟩
            simp [go_sem, evalBy, rhoT, relOf, lwCv]
          · refine ⟨rfl, relQ 49 rfl trivial ?_⟩
            simp [go_sem, evalBy, rhoT, relOf, lwCv, hx0, hx1]
        · intro g u hf
          have HU := HI.out.up HI.out.fi.bel.size u.h
          have g4 := HU.fi.fix (bb, cq, 132) (by simp [l2])
          have g5 := HU.fi.fix (wr.heap.size, #[.int .i64 (m : Int)], 3) (by simp [l2])
          have g6 := HI.out.fi.fix (wr.heap.size, #[.int .i64 (m : Int)], 3) (by simp [l2])
          simp only at g4 g5 g6
          have f4 := cs_frz (k := x) g4
          have hxs : x < cq.size := by
            rw [← HCQ.out, csW_size]
            have h1 := HCS.out x (boxV false l) (by
              have h2 := flat_get (k := 1) (R := boxR) (fun _ => rfl) (bxI N 0) x (false, l) 0 (by have := bxI_at (m := 0) HLX.out; simpa using this) (by decide)
              simpa [boxR, flatR] using h2)
            exact (Array.getElem?_eq_some_iff.1 h1).1
          have p4 := cell_of_row u.w bb x _ 132 (0, 0) g4
          rw [Array.getElem?_eq_getElem hxs] at p4
          have hcell := (cell_of_row u.w _ 0 _ 3 (0, 0) g5).trans (cell_of_row Wt _ 0 _ 3 (0, 0) g6).symm
          have hub := u.h
          have hbx : boxV true (N.lo.getD x lp0) = .iface 130 (lpV l) := by rw [List.getD_eq_getElem?_getD, HLX.out]; rfl
          simp only [QT]
          unfold Oper.wp
          simp [go_sem, putAll, Act.put, rhoT, relOf, lwCv, p4, f4, Exit.inBlock]
          refine ⟨(ko_below hub).trans (KeepsOthers.setCell _ _ _), ⟨(hub.mono HI.out.fi.bel.size).setCell (p := ⟨bb, x, none⟩) HBW.out _, ?_⟩, ?_⟩
          · exact (World.cell?_setCell_other _ _ _ _ (fun e => by injection e with e; exact HNE.out.1 e.symm)).trans hcell
          · have hcw : csW N cs ((pre ++ [(⟨x, hx5, hxj⟩ : PX (m : Int))]).map Subtype.val) = cq.setIfInBounds x (.iface 130 (lpV l)) := by
              rw [List.map_append]
              show csW N cs (pre.map Subtype.val ++ [x]) = _
              rw [csW_snoc, HCQ.out, hbx]
            show FM w.heap.size w (w.heap.size + 1) (l2 wr.heap.size m w.heap.size (w.heap.size + 1 + 1) (w.heap.size + 3) bb (w.heap.size + 1) V bv (csW N cs ((pre ++ [(⟨x, hx5, hxj⟩ : PX (m : Int))]).map Subtype.val))) _
            rw [hcw]
            refine HU.put (cs := cq) (t := 132) (by simp [l2]) HBW.out HNE.out.2.2.2.2 (fun y hy => ?_)
            obtain ⟨e1, e2, e3, e4, _⟩ := HNE.out
            simp only [l2, List.mem_cons, List.not_mem_nil, or_false] at hy ⊢
            rcases hy with rfl | rfl | rfl | rfl | rfl
            · exact .inr ⟨by simp, e1⟩
            · exact .inr ⟨by simp, e2⟩
            · exact .inr ⟨by simp, e3⟩
            · exact .inr ⟨by simp, e4⟩
            · exact .inl rfl
      case done =>
        rintro D ys Wt hD hys hI hK
        rw [hys] at hI
        have hE : LB w w4 w4.heap.size w.heap.size (w.heap.size + 1 + 1) (w.heap.size + 1) (w.heap.size + 3) V bv (.slice none 0 0) (bxI N m) [] Wt := by
          have g1 := hI.fi.fix (w.heap.size, nvC V, 26) (by simp [l2])
          have g2 := hI.fi.fix (w.heap.size + 1 + 1, lkC V bv (.slice none 0 0) (w.heap.size + 1), 126) (by simp [l2])
          have g3 := hI.fi.fix (w.heap.size + 3, #[.pointer (some ⟨w.heap.size + 1 + 1, 0, none⟩)], 94) (by simp [l2])
          have g4 := hI.fi.fix (bb, csW N cs (pilL (m : Int)), 132) (by simp [l2])
          have g5 := hI.fi.fix (wr.heap.size, #[.int .i64 (m : Int)], 3) (by simp [l2])
          have hszW : w4.heap.size ≤ Wt.heap.size := by have := heapsz g5; have := HLs.out.sz; have := hsize; omega
          obtain ⟨a1, a2, a3⟩ := HSZ9.out
          have hlm : (bxI N m).length = V.nl := by rw [← HNL.out]; simp [bxI]
          refine ⟨hI.fi.bel, hszW, g1, g2, g3, hI.map, ⟨?_, .inr ⟨bb, cb, _, by rw [hlm]; exact HBV.out, HBB.out, g4, by rw [hlm]; rw [hlenI'] at a1; exact a1, a2, by rw [csW_size]; exact a3, ?_⟩⟩, World.ownsRow_nil _ _ _ _, HLs.out.lt⟩
          · rw [flat_box]; simp
          · rw [hlm, Nat.mul_one, ← HNL.out]
            exact csW_take HN5.out.2 (by rw [HNL.out]; rw [hlenI'] at a1; omega) (by rw [HNL.out]; exact HTK.out)
        have HE := Lib.hid hE
        have hDD : w4.heap.size ≤ D := by have := HLs.out.sz; omega
        have HDK := Lib.hid (And.intro hDD (And.intro hD hK))
        clear hE hI hys hK hDD
        simp only [Exit.inBlock, Exit.then]
        obtain ⟨v0, v1, v2⟩ := box3_cells HE.out.nb
        go_wp2_with fail
        obtain ⟨j0, hj0, jz0, jz1, jz2⟩ := info_parts int_info
        go_loopw [53] (fun ii w3 => ∃ k : Nat, k ≤ V.nl ∧ ii = .int .i64 k ∧ (∃ dv, LB w w4 w4.heap.size w.heap.size (w.heap.size + 1 + 1) (w.heap.size + 1) (w.heap.size + 3) V bv dv (bxI N m) (dueL N m k) w3) ∧ w3.heap[D]? = some (.deferred (some []))) (fun ii _ => V.nl - (intOf ii).toNat)
        case atStart => exact ⟨0, by omega, rfl, ⟨_, HE.out⟩, HDK.out.2.2⟩
        case round =>
          obtain ⟨k, hk, rfl, ⟨dv, hL3⟩, hD3⟩ := hrel
          have HL3 := Lib.hid hL3; have HD3 := Lib.hid hD3
          clear hL3 hD3
          by_cases hlt : k < V.nl
          · have k3 : (0 : Int) ≤ (k : Int) := by omega
            have k4 : (k : Int) < (V.nl : Int) := by omega
            obtain ⟨x, hx⟩ := get_of_lt (l := N.lo) (k := k) (by rw [HNL.out]; exact hlt)
            have HX := Lib.hid hx
            obtain ⟨y, hy⟩ : ∃ z, dueI x (m.testBit k) N.fr = z := ⟨_, rfl⟩
            have HY := Lib.hid hy
            rw [HBV.out] at HL3
            have hdo := HL3.out.do_
            have hlow := HL3.out.sz
            have q5 := cell_of_row wr _ 0 _ 94 (0, 0) HL3.out.var
            have q4 := cell_of_row wr _ 4 _ 126 (0, 0) HL3.out.box
            simp at q5 q4
            have L5 := heapsz HL3.out.var; have LP := heapsz HL3.out.box
            have n5 : some (w.heap.size + 3) ≠ dv.ownBlock := fun e => own_ne_type hdo HL3.out.var (by decide) e.symm
            have nP : some (w.heap.size + 1 + 1) ≠ dv.ownBlock := fun e => own_ne_type hdo HL3.out.box (by decide) e.symm
            have nD : some D ≠ dv.ownBlock := fun e => by
              obtain ⟨_, cur, hc⟩ := own_at hdo e.symm
              rw [HD3.out] at hc
              injection hc with hc
              cases hc
            have hlen : (dueL N m k).length ≤ 5 := by have h1 : (dueL N m k).length = k := by simp [dueL]
                                                      have := HN5.out; have := HNL.out; omega
            have HLEN := Lib.hid hlen
            clear hx hy hlen v0 v1 v2
            go_wp2_with fail
            apply tail_regionX
            case hs => exact (rfl : _ = [_, _, _, _, _, _, _, _, _, _, _, _] ++ [_])
            case hm => kernel_rfl
            case hT => kernel_rfl
            refine plan_guarded_any (γ := GhE) [5, 9] (rhoO 64 65 (ldCv (w.heap.size + 3) (w.heap.size + 1 + 1) k dv y)) (SL ⟨wr, w4.heap.size, 3, 1, (dueL N m k).length, dv, flatR intR (dueL N m k), intR y, 8, 9⟩) ⟨fun _ => undef, fun _ => undef⟩ (by kernel_rfl) (by kernel_rfl) (by kernel_rfl) (by kernel_rfl) ?_ (SL.start hdo hlow (by decide)) ?_ ?_
            · intro t ht
              simp only [List.mem_cons, List.not_mem_nil, or_false] at ht
              rcases ht with rfl | rfl <;> rfl
            · refine allOps_array ?_
              refine ⟨?_, ?_, ?_, ?_, ?_, ?_, ?_, ?_, ?_, ?_, ?_, ?_, trivial⟩ <;> intro done g wS hS hu hdep _ <;> have s5 := (hS.cell L5 n5 (o := 0)).trans q5 <;> have p4 := (hS.cell LP nP (o := 4)).trans q4
              · refine quietL hS 56 rfl (by simp) (by simp) rfl ?_
                simp [go_sem, evalBy, rhoO, ldCv, s5]
              · refine quietL hS 57 rfl (by simp) (by simp) rfl ?_
                simp [go_sem, evalBy, rhoO, ldCv, s5]
              · refine quietL hS 58 rfl (by simp) (by simp) rfl ?_
                simp [go_sem, evalBy, rhoO, ldCv]
              · refine quietL hS 59 rfl (by simp) (by simp) rfl ?_
                simp [go_sem, evalBy, rhoO, ldCv]
              · refine quietL hS 60 rfl (by simp) (by simp) rfl ?_
                simp [go_sem, evalBy, rhoO, ldCv, p4]
              · refine quietL hS 61 rfl (by simp) (by simp) rfl ?_
                simp [go_sem, evalBy, rhoO, ldCv, s5]
              · refine quietL hS 62 rfl (by simp) (by simp) rfl ?_
                simp [go_sem, evalBy, rhoO, ldCv]
              · refine callL hS 63 rfl (by simp) (by simp) rfl 86 #[.pointer (some ⟨w.heap.size + 1 + 1, 0, none⟩), .int .i64 (k : Int)] (by simp [go_sem, evalBy, rhoO, ldCv]) ?_
                have hcall := dueAfter_any (HL3.out.lh HN.out HOK.out hS.grown) HX.out
                rw [HY.out] at hcall
                exact hcall
              · refine buildL hS 64 rfl rfl rfl ?_ (fun _ => rfl) (fun t b' ht => rhoO_b t b' ht)
                simp [go_sem, evalBy, rhoO, ldCv, intR]
              · exact appendL hS 65 rfl rfl hu (hdep ⟨8, .data⟩ (by simp) rfl) rfl 60 64 57 rfl rfl rfl j0 _ 8 Try.underlying57 hj0 jz0 jz1 jz2 rfl (by show 0 < 1; decide) rfl (by simp [Value.oneCell', intR]) (by unfold maxLen; show (dueL N m k).length + 1 ≤ _; have := HLEN.out; omega) (by show ((dueL N m k).length + 1) * 8 ≤ _; have := HLEN.out; omega) (fun _ => rfl) (fun t c' ht => rhoO_c t c' ht)
              · refine quietL hS 66 rfl (by simp) (by simp) rfl ?_
                simp [go_sem, evalBy, rhoO, ldCv]
              · refine quietL hS 67 rfl (by simp) (by simp) rfl ?_
                simp [go_sem, evalBy, rhoO, ldCv]
            · intro g wC hS
              have hA := SL.after hS (show 9 < _ by decide)
              obtain ⟨gb, cg, ev, _⟩ := hA.2.1.form (by omega)
              have hp := HL3.out.pushD hA.1 hA.2.1
              have zP := (hA.1.block _ LP nP).trans HL3.out.box
              have zD := (hA.1.block _ (Array.getElem?_eq_some_iff.1 HD3.out).1 nD).trans HD3.out
              have fP := cs_frz (k := 4) zP
              have p4 := cell_of_row wC _ 4 _ 126 (0, 0) zP
              simp at p4
              rw [ev] at hp
              have hDP : D ≠ w.heap.size + 1 + 1 := fun e => by
                rw [e, zP] at zD
                injection zD with zD
                cases zD
              have HP := Lib.hid hp
              have hzd : (wC.setCell ⟨w.heap.size + 1 + 1, 4, none⟩ (.slice (some ⟨gb, 0, none⟩) ((dueL N m k).length + 1) cg)).heap[D]? = some (.deferred (some [])) := (Below.heap_setCell _ _ _ _ hDP).trans zD
              have HZD := Lib.hid hzd
              clear hA hS hp zP q5 q4 zD hzd
              simp only [QT]
              unfold Oper.wp
              simp [go_sem, putAll, Act.put, rhoO, ldCv, fP, p4, ev]
              generalize wC.setCell ⟨w.heap.size + 1 + 1, 4, none⟩ (.slice (some ⟨gb, 0, none⟩) ((dueL N m k).length + 1) cg) = w7 at HP HZD ⊢
              clear fP p4 ev
              go_wp2_with fail
              exact ⟨⟨k + 1, by omega, rfl, ⟨_, by rw [dueL_succ HX.out, HY.out, HBV.out]; exact HP.out⟩, HZD.out⟩, by simp [intOf]; omega⟩
          · obtain rfl : k = V.nl := by omega
            have k4 : ¬ (V.nl : Int) < (V.nl : Int) := by omega
            have q5 := cell_of_row wr _ 0 _ 94 (0, 0) HL3.out.var
            simp at q5
            have hM : Marks wr w4.heap.size [D] := ⟨by simp, fun E hE => by rw [List.mem_singleton.1 hE]; exact ⟨HDK.out.1, HD3.out⟩⟩
            have HM := Lib.hid hM
            clear hM
            go_wp2_with fail
            refine leaves_marks [D] _ HM.out (fun w' hk => ?_)
            refine ⟨.pointer (some ⟨w.heap.size + 1 + 1, 0, none⟩), by simp [results, Try.results58, go_sem], ?_⟩
            have hlt := HL3.out.lt
            have hkk : ∀ {cs : Array Value} {T : TypeId} (b : Nat), w.heap.size ≤ b → wr.heap[b]? = some (.cells cs T (0, 0)) → w'.heap[b]? = some (.cells cs T (0, 0)) := fun b _ hx => hk.2 _ _ _ _ hx
            refine ⟨_, rfl, w.heap.size + 1, bv, dv, HL3.out.bel.trans (hk.1.mono (by omega)), hk.2 _ _ _ _ HL3.out.box, ?_, ?_, (hk.1.block _ (by omega)).trans HL3.out.map, ⟨by omega, by omega⟩⟩
            · exact ((RowIs.of_own HL3.out.bo).low (by omega)).keep fun b cs hb hx => hkk b hb hx
            · exact ((RowIs.of_own HL3.out.do_).low (by omega)).keep fun b cs hb hx => hkk b hb hx
      case stop =>
        rintro D c pre W _ _ h _
        exact h.elim
end Go.Proofs.Yticmeeinjkoodaa
