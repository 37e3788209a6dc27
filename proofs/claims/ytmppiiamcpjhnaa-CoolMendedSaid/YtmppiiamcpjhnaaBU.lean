/- Coolers: blocks that stay while a function is ranged over. Coolers: the sites of a set as a list. Coolers: the coolers as a list; a number of each of them. Coolers: what the coolers cost; how long it takes to repair them. -/
import Derived.Test.YtmppiiamcpjhnaaBQ
namespace Go
section
variable {P : Program}
theorem tail_startX {ops : List Oper} (l : List Oper) (o : Oper) (hs : ops = l ++ [o]) {Q : Exit → Act → World → Prop} {a : Act} {w : World} (hT : tailXB l o = true)
    (h : wpAny P .any l.toArray (QT P o Q) l.toArray.size (Array.replicate l.toArray.size false) a { w with drawn := w.drawn + 1 }) : wpAny P .any ops.toArray Q ops.toArray.size (Array.replicate ops.toArray.size false) a { w with drawn := w.drawn + 1 } := by
  subst hs
  have h2 := tail_anyX (rkt_tail_okX hT) l.toArray.size (Array.replicate l.toArray.size false) a { w with drawn := w.drawn + 1 } (by simp) (by rw [show l.toArray.size = l.length by simp]; exact cl_start l) h
  have e1 : (l ++ [o]).toArray.size = l.toArray.size + 1 := by simp
  rw [e1, Array.replicate_succ]
  exact h2
end
end Go
namespace Go.Proofs.Ytmppiiamcpjhnaa
open Go.RowKit Go.Shelf

/-! ### Marks of ranges over functions -/
def markD (D : Nat) : Deferred := { target := .collected D, args := #[] }
def Marks (w : World) (B : Nat) (Ds : List Nat) : Prop := Ds.Nodup ∧ ∀ D ∈ Ds, B ≤ D ∧ w.heap[D]? = some (.deferred (some []))
/-- Cells are kept, and all below. -/
def CellsK (B : Nat) (w w' : World) : Prop := Below B w w' ∧ ∀ (b : Nat) (cs : Array Value) (t : TypeId) (z : Nat × Nat), w.heap[b]? = some (.cells cs t z) → w'.heap[b]? = some (.cells cs t z)
theorem CellsK.refl (B : Nat) (w : World) : CellsK B w w := ⟨Below.refl _ _, fun _ _ _ _ h => h⟩
theorem CellsK.trans {B : Nat} {a b c : World} (h : CellsK B a b) (k : CellsK B b c) : CellsK B a c := ⟨h.1.trans k.1, fun b cs t z hb => k.2 b cs t z (h.2 b cs t z hb)⟩
theorem cellsK_put {B : Nat} {w : World} {D : Nat} {o : Obj} (o' : Obj) (h : w.heap[D]? = some o) (ho : o.isCells = false) (hB : B ≤ D) : CellsK B w (w.putObj D o') := by
  refine ⟨(Below.refl B w).grown (grownBy_putObj' w D o') (by have := (Array.getElem?_eq_some_iff.1 h).1; omega) (fun k e => by cases e; omega), fun b cs t z hb => ?_⟩
  have hne : b ≠ D := fun e => by
    subst e
    rw [h] at hb
    cases hb
    simp [Obj.isCells] at ho
  exact (World.putObj_heap_other hne).trans hb
theorem leaves_marks {F : Fence} {n : Nat} {fn : Func} {tmps : Array Value} {R : Ending → World → Prop} {B : Nat} : ∀ (Ds : List Nat) (w : World), Marks w B Ds →
    (∀ w', CellsK B w w' → LeavesIn F n Try.prog fn tmps R [] .returning w') → LeavesInM F n Try.prog fn tmps R (Ds.map markD) .returning w
  | [], w, _, h => h w (CellsK.refl _ _)
  | D :: Ds, w, hm, h => by
    obtain ⟨hnd, hall⟩ := hm
    obtain ⟨hB, hD⟩ := hall D List.mem_cons_self
    have hk := cellsK_put (B := B) (.deferred none) hD rfl hB
    refine ⟨by simp, .inl ⟨D, _, rfl, run_takeDeferred hD, ?_⟩⟩
    refine leaves_marks Ds _ ⟨(List.nodup_cons.1 hnd).2, fun E hE => ⟨(hall E (List.mem_cons_of_mem _ hE)).1, ?_⟩⟩ (fun w' hw => h w' (hk.trans hw))
    have hne : E ≠ D := fun e => (List.nodup_cons.1 hnd).1 (e ▸ hE)
    exact (World.putObj_heap_other hne).trans (hall E (List.mem_cons_of_mem _ hE)).2
def noF : Nat → Value → World → Prop := fun _ _ _ => True
theorem ko_below {W W' : World} (h : Below W.heap.size W W') : KeepsOthers W W' := ⟨h.size, fun k _ hk _ => (h.block k (Array.getElem?_eq_some_iff.1 hk).1).trans hk⟩
structure FI (n0 : Nat) (w : World) (fs : List (Nat × Array Value × TypeId)) (W : World) : Prop where
  bel : Below n0 w W
  fix : ∀ x ∈ fs, W.heap[x.1]? = some (.cells x.2.1 x.2.2 (0, 0))
theorem FI.own {n0 N : Nat} {w A B : World} {fs : List (Nat × Array Value × TypeId)} {row : Option Nat} (hN : n0 ≤ N) (h : FI n0 w fs A) (hA : n0 ≤ A.heap.size) (hg : A.grownBy B row) (hr : ∀ r, row = some r → N ≤ r ∧ ∃ o : Obj, A.heap[r]? = some o ∧ o.isCells = false) : FI n0 w fs B :=
  ⟨h.bel.grown hg hA (fun k e => by have := (hr k e).1; omega), fun x hx => by
    have hb := h.fix x hx
    refine (hg.block x.1 (Array.getElem?_eq_some_iff.1 hb).1 (fun e => ?_)).trans hb
    obtain ⟨_, o, h2, h3⟩ := hr x.1 e.symm
    rw [hb] at h2
    injection h2 with h2
    rw [← h2] at h3
    cases h3⟩
theorem FI.up {n0 : Nat} {w W W' : World} {fs : List (Nat × Array Value × TypeId)} (h : FI n0 w fs W) (hn : n0 ≤ W.heap.size) (hb : Below W.heap.size W W') : FI n0 w fs W' :=
  ⟨h.bel.trans (hb.mono hn), fun x hx => (hb.block _ (Array.getElem?_eq_some_iff.1 (h.fix x hx)).1).trans (h.fix x hx)⟩
theorem FI.put {n0 : Nat} {w W : World} {fs fs' : List (Nat × Array Value × TypeId)} {b k : Nat} {v : Value} {cs : Array Value} {t : TypeId} (h : FI n0 w fs W) (hb : (b, cs, t) ∈ fs) (hn : n0 ≤ b) (hf : ∀ x ∈ fs', x = (b, cs.setIfInBounds k v, t) ∨ (x ∈ fs ∧ x.1 ≠ b)) : FI n0 w fs' (W.setCell ⟨b, k, none⟩ v) :=
  ⟨h.bel.setCell (p := ⟨b, k, none⟩) hn v, fun x hx => by
    rcases hf x hx with rfl | ⟨hm, hne⟩
    · exact blk_set (h.fix _ hb) k v
    · exact (Below.heap_setCell _ _ _ _ hne).trans (h.fix x hm)⟩
theorem FI.cellsK {n0 : Nat} {w W W' : World} {fs : List (Nat × Array Value × TypeId)} {B : Nat} (h : FI n0 w fs W) (hB : n0 ≤ B) (hk : CellsK B W W') : FI n0 w fs W' :=
  ⟨h.bel.trans (hk.1.mono hB), fun x hx => hk.2 _ _ _ _ (h.fix x hx)⟩
/-- Some blocks, as they are, and a map that is empty. -/
structure FM (n0 : Nat) (w : World) (M : Nat) (fs : List (Nat × Array Value × TypeId)) (W : World) : Prop where
  fi : FI n0 w fs W
  map : W.heap[M]? = some (.map #[] 0)
theorem FM.own {n0 N M : Nat} {w A B : World} {fs : List (Nat × Array Value × TypeId)} {row : Option Nat} (hN : n0 ≤ N) (hM : M < N) (h : FM n0 w M fs A) (hA : n0 ≤ A.heap.size) (hg : A.grownBy B row) (hr : ∀ r, row = some r → N ≤ r ∧ ∃ o : Obj, A.heap[r]? = some o ∧ o.isCells = false) : FM n0 w M fs B :=
  ⟨h.fi.own hN hA hg hr, (hg.block M (Array.getElem?_eq_some_iff.1 h.map).1 (fun e => by have := (hr M e.symm).1; omega)).trans h.map⟩
theorem FM.up {n0 M : Nat} {w W W' : World} {fs : List (Nat × Array Value × TypeId)} (h : FM n0 w M fs W) (hn : n0 ≤ W.heap.size) (hb : Below W.heap.size W W') : FM n0 w M fs W' :=
  ⟨h.fi.up hn hb, (hb.block _ (Array.getElem?_eq_some_iff.1 h.map).1).trans h.map⟩
theorem FM.put {n0 M : Nat} {w W : World} {fs fs' : List (Nat × Array Value × TypeId)} {b k : Nat} {v : Value} {cs : Array Value} {t : TypeId} (h : FM n0 w M fs W) (hb : (b, cs, t) ∈ fs) (hn : n0 ≤ b) (hne : M ≠ b) (hf : ∀ x ∈ fs', x = (b, cs.setIfInBounds k v, t) ∨ (x ∈ fs ∧ x.1 ≠ b)) : FM n0 w M fs' (W.setCell ⟨b, k, none⟩ v) :=
  ⟨h.fi.put hb hn hf, (Below.heap_setCell _ _ _ _ hne).trans h.map⟩
end Go.Proofs.Ytmppiiamcpjhnaa

namespace Go.Proofs.Ytmppiiamcpjhnaa
open Go.RowKit Go.Shelf
attribute [local go_sem] Oper.semAt_some

theorem own_cells {w w' : World} {base : Nat} {e : TypeId} {size n : Nat} {v : Value} {xs : List Value} (h : w.ownsRow base e size v n xs) (hk : ∀ (b : Nat) (cs : Array Value), w.heap[b]? = some (Obj.cells cs e (0, 0)) → w'.heap[b]? = some (Obj.cells cs e (0, 0))) : w'.ownsRow base e size v n xs :=
  own_of_blocks h fun B hB => by
    obtain ⟨_, cur, hc⟩ := own_at h hB
    exact (hk B cur hc).trans hc.symm
theorem cells_keep {A B : World} {n b : Nat} {row : Option Nat} {cs : Array Value} {t : TypeId} (hb : A.heap[b]? = some (.cells cs t (0, 0))) (hg : A.grownBy B row) (hr : ∀ r, row = some r → n ≤ r ∧ ∃ o : Obj, A.heap[r]? = some o ∧ o.isCells = false) : B.heap[b]? = some (.cells cs t (0, 0)) := by
  refine (hg.block b (heapsz hb) (fun e => ?_)).trans hb
  obtain ⟨_, o, h2, h3⟩ := hr b e.symm
  rw [hb] at h2
  injection h2 with h2
  rw [← h2] at h3
  cases h3
/-- A list of numbers that grows in a box (b3), beside blocks that stay. -/
structure GL (wB : World) (fs : List (Nat × Array Value × TypeId)) (base b3 : Nat) (pre : List Int) (W : World) : Prop where
  fi : FI wB.heap.size wB fs W
  od : ∃ v, W.heap[b3]? = some (.cells #[v] 26 (0, 0)) ∧ W.ownsRow base 3 1 v pre.length (flatR intR pre)
  sz : base ≤ W.heap.size
theorem GL.own {n base b3 : Nat} {wB A B : World} {fs : List (Nat × Array Value × TypeId)} {pre : List Int} {row : Option Nat} (h : GL wB fs base b3 pre A) (hn : wB.heap.size ≤ n) (hg : A.grownBy B row) (hr : ∀ r, row = some r → n ≤ r ∧ ∃ o : Obj, A.heap[r]? = some o ∧ o.isCells = false) : GL wB fs base b3 pre B := by
  obtain ⟨v, h1, h2⟩ := h.od
  exact ⟨h.fi.own hn h.fi.bel.size hg hr, ⟨v, cells_keep h1 hg hr, own_cells h2 fun b cs hb => cells_keep hb hg hr⟩, Nat.le_trans h.sz hg.size⟩
theorem GL.cellsK {n base b3 : Nat} {wB A B : World} {fs : List (Nat × Array Value × TypeId)} {pre : List Int} (h : GL wB fs base b3 pre A) (hn : wB.heap.size ≤ n) (hk : CellsK n A B) : GL wB fs base b3 pre B := by
  obtain ⟨v, h1, h2⟩ := h.od
  exact ⟨h.fi.cellsK hn hk, ⟨v, hk.2 _ _ _ _ h1, own_cells h2 fun b cs hb => hk.2 _ _ _ _ hb⟩, Nat.le_trans h.sz hk.1.size⟩
theorem GL.up {base b3 : Nat} {wB A B : World} {fs : List (Nat × Array Value × TypeId)} {pre : List Int} (h : GL wB fs base b3 pre A) (hb : Below A.heap.size A B) : GL wB fs base b3 pre B := by
  obtain ⟨v, h1, h2⟩ := h.od
  exact ⟨h.fi.up h.fi.bel.size hb, ⟨v, (hb.block _ (heapsz h1)).trans h1, own_next h2 hb⟩, Nat.le_trans h.sz hb.size⟩
/-- A number is appended, and the list stored. -/
theorem gl_push {wB u wA w4 : World} {fs : List (Nat × Array Value × TypeId)} {base b3 : Nat} {v v' : Value} {pre : List Int} {x : Int} (hF : GL wB fs base b3 pre u) (z3 : u.heap[b3]? = some (.cells #[v] 26 (0, 0))) (ho : u.ownsRow base 3 1 v pre.length (flatR intR pre)) (hlt : wB.heap.size ≤ b3 ∧ b3 < base) (hfs : ∀ y ∈ fs, y.1 < base ∧ y.1 ≠ b3)
    (hbA : Below u.heap.size u wA) (hg : wA.grownBy w4 v.ownBlock) (ho4 : w4.ownsRow base 3 1 v' (pre.length + 1) (flatR intR pre ++ [.int .i64 x])) :
    (w4.cell? ⟨b3, 0, none⟩ = some v ∧ w4.frozen? ⟨b3, 0, none⟩ = false) ∧ GL wB fs base b3 (pre ++ [x]) (w4.setCell ⟨b3, 0, none⟩ v') ∧ KeepsOthers u (w4.setCell ⟨b3, 0, none⟩ v') := by
  have hrow : ∀ q, v.ownBlock = some q → base ≤ q := fun q e => (own_at ho e).1
  have keep : ∀ (b : Nat) (cs : Array Value) (T : TypeId), u.heap[b]? = some (.cells cs T (0, 0)) → some b ≠ v.ownBlock → w4.heap[b]? = some (.cells cs T (0, 0)) := fun b cs T hb hne =>
    (hg.block b (by have := heapsz hb; have := hbA.size; omega) hne).trans ((hbA.block _ (heapsz hb)).trans hb)
  have low : ∀ b, b < base → some b ≠ v.ownBlock := fun b hb e => by have := hrow b e.symm; omega
  have k3 := keep _ _ _ z3 (low _ hlt.2)
  have hb4 : Below wB.heap.size u w4 := (hbA.mono hF.fi.bel.size).grown hg (by have := hF.fi.bel.size; have := hbA.size; omega) (fun q e => by have := hrow q e; omega)
  have n3 : ∀ {b : Nat} {cs : Array Value} {T : TypeId}, w4.heap[b]? = some (.cells cs T (0, 0)) → b ≠ b3 → (w4.setCell ⟨b3, 0, none⟩ v').heap[b]? = some (.cells cs T (0, 0)) := fun hb hT => (Below.heap_setCell _ _ _ _ hT).trans hb
  refine ⟨⟨by simpa using cell_of_row w4 b3 0 _ 26 (0, 0) k3, by simp [World.frozen?, k3]⟩, ⟨⟨(hF.fi.bel.trans hb4).setCell (p := ⟨b3, 0, none⟩) hlt.1 v', fun y hy => ?_⟩, ⟨v', blk_set k3 0 v', ?_⟩, ?_⟩, ?_⟩
  · exact n3 (keep _ _ _ (hF.fi.fix y hy) (low _ (hfs y hy).1)) (hfs y hy).2
  · have : (flatR intR (pre ++ [x])) = flatR intR pre ++ [.int .i64 x] := flatR_snoc _ _ _
    rw [this, List.length_append]
    exact own_of_blocks ho4 fun B hB => Below.heap_setCell _ _ _ _ (by have := (own_at ho4 hB).1; show B ≠ b3; omega)
  · have := hg.size
    have := hbA.size
    have := hF.sz
    simp [World.setCell]
    omega
  · refine ((ko_below hbA).trans (KeepsOthers.of_grownBy hg fun j o ej hj => ?_)).trans (KeepsOthers.setCell _ _ _)
    obtain ⟨_, cur, hc⟩ := own_at ho ej
    rw [(hbA.block j (heapsz hc)).trans hc] at hj
    cases hj
    rfl
def sitZ (s : Int) : List Int := (sitL s).map Int.ofNat
theorem sitZ_len (s : Int) : (sitZ s).length ≤ 10 := by
  unfold sitZ sitL
  rw [List.length_map]
  have := List.length_filter_le (fun k => jackB s k) (List.range 10)
  simpa using this
theorem px_map {s : Int} {ys : List (PX s)} (h : ys.map Subtype.val = sitL s) : ys.map (fun x => (x.1 : Int)) = sitZ s := by
  unfold sitZ
  rw [← h, List.map_map]
  rfl
set_option maxRecDepth 100000 in
set_option maxHeartbeats 4000000 in
theorem appendSeq_any (s : Int) (Bn : Nat) (w : World) (z : w.heap[Bn]? = some (.cells #[.int .i64 s] 3 (0, 0))) :
    Calls Try.prog 105 #[.slice none 0 0, .func (.func 101) #[] #[.pointer (some ⟨Bn, 0, none⟩)]] w fun e w' => ∃ v, e = .returned v ∧ Below w.heap.size w w' ∧ w'.ownsRow w.heap.size 3 1 v (sitZ s).length (flatR intR (sitZ s)) := by
  have z1 := heap_alloc_new w (.cells #[.slice none 0 0] 26)
  have hb1 := (Below.refl w.heap.size w).alloc (Nat.le_refl _) (.cells #[.slice none 0 0] 26)
  obtain ⟨w1, hw1⟩ : ∃ z, w.alloc (.cells #[.slice none 0 0] 26) = z := ⟨_, rfl⟩
  have hs1 : w1.heap.size = w.heap.size + 1 := by rw [← hw1]; simp
  rw [hw1] at z1 hb1
  have zb := (hb1.block _ (heapsz z)).trans z
  have hGL : GL w [(Bn, #[.int .i64 s], 3)] w1.heap.size w.heap.size [] w1 := ⟨⟨hb1, fun x hx => by rw [List.mem_singleton.1 hx]; exact zb⟩, ⟨_, z1, World.ownsRow_nil _ _ _ _⟩, Nat.le_refl _⟩
  have hc0 := cell_of_row w1 Bn 0 _ 3 (0, 0) zb
  simp at hc0
  have HGL := Lib.hid hGL; have HW1 := Lib.hid hw1; have HSZ := Lib.hid (And.intro hs1 (heapsz z)); have HZB := Lib.hid zb
  have HSEQ := Lib.hid (sit_stops (3 - 1) (by decide) Bn w.heap.size s w1 (heapsz zb) hc0)
  have fol : Try.prog.follows .mixedOrders = true := by kernel_rfl
  obtain ⟨i0, hi0, hz0, hz1, hz2⟩ := info_parts int_info
  clear z1 hb1 hw1 zb hGL z hs1 hc0
  refine callsIn_wide.1 (callsIn_of_wp_marks (n := 5) Try.func105 rfl trivial (wpIn_wide.2 ?_) rfl)
  simp only [Try.ntmps105, List.size_toArray, List.length_cons, List.length_nil, Nat.reduceAdd, Nat.reduceSub, Array.replicate_succ, Array.replicate_zero, List.push_toArray, List.append_toArray, List.nil_append, List.cons_append]
  go_wp2_with fail
  rw [HW1.out]
  refine (wpIn_wide (n := 3)).1 ?_
  refine wpIn_rangeFunc_ownF rfl (by decide) (gf := 101) (lb := #[.pointer (some ⟨Bn, 0, none⟩)]) rfl trivial (enters_of Try.func101 (by kernel_rfl) rfl)
    HSEQ.out kpB_t (kpB_b (by have := HSZ.out; omega) (heapsz HZB.out)) (Below.refl _ _) (fun _ => rfl)
    (fun pre Wt => GL w [(Bn, #[.int .i64 s], 3)] w1.heap.size w.heap.size (pre.map fun x : PX s => (x.1 : Int)) Wt)
    (fun _ _ _ => False)
    (fun pre A B row hs hg hr => hs.own (n := w1.heap.size) (by have := HSZ.out; omega) hg hr)
    (fun _ _ _ _ _ hs _ _ => hs)
    (show GL _ _ _ _ [] _ from HGL.out)
    (fun x => { tmps := List.toArray ((Value.slice none 0 0) :: (Value.func (.func 101) #[] #[.pointer (some ⟨Bn, 0, none⟩)]) :: (Value.pointer (some ⟨w.heap.size, 0, none⟩)) :: undef :: (Value.slice none 0 0) :: (Value.int .i64 (x.1 : Int)) :: (Value.func (.func 101) #[] #[.pointer (some ⟨Bn, 0, none⟩)]) :: (Value.int .i64 (x.1 : Int)) :: undef :: undef :: undef :: undef :: undef :: []), defers := [] }) ?assign ?body ?done ?stop
  case assign =>
    intro l x Wt Kk hK
    gi_wp2
    exact hK
  case body =>
    rintro l pre x Wt hI hlen
    obtain ⟨v, z3, hv⟩ := hI.od
    have HI := Lib.hid hI; have HOW := Lib.hid hv; have HZ3 := Lib.hid z3
    have hl : (pre.map fun x => (x.1 : Int)).length ≤ 10 := by rw [List.length_map]; omega
    have HL := Lib.hid hl
    have c3 := cell_of_row Wt _ 0 _ 26 (0, 0) z3
    simp at c3
    have HUZ : Hid (w1.heap.size ≤ Wt.heap.size) := Lib.hid hI.sz
    have HLT : Hid (w.heap.size ≤ w.heap.size ∧ w.heap.size < w1.heap.size) := Lib.hid (by have := HSZ.out; omega)
    have HFS : Hid (∀ y ∈ [(Bn, (#[.int .i64 s] : Array Value), (3 : TypeId))], y.1 < w1.heap.size ∧ y.1 ≠ w.heap.size) := Lib.hid fun y hy => by rw [List.mem_singleton.1 hy]; have := HSZ.out; show Bn < _ ∧ Bn ≠ _; omega
    clear hI z3 hv hl hlen
    gi_wp2_with (first
      | (gi_at_builtin
         refine wpListIn_append_own _ rfl _ _ 26 rfl w1.heap.size 3 i0 _ 1 8 Try.underlying26 hi0 hz0 hz1 hz2 rfl (by decide) _ _ _ rfl (own_next HOW.out ((Below.refl _ Wt).alloc (Nat.le_refl _) _)) ⟨Wt.heap.size, 0, none⟩ 1 1 [.int .i64 (x.1 : Int)] rfl rfl (cells_new Wt [.int .i64 (x.1 : Int)] 3) (by simp [Value.oneCell']) (by have := HL.out; unfold maxLen; omega) (by have := HL.out; omega) (by have := HUZ.out; simp; omega) ?_
         intro v' w4 hown4 hgr4 _
         have HP := Lib.hid (gl_push HI.out HZ3.out HOW.out HLT.out HFS.out ((Below.refl _ Wt).alloc (Nat.le_refl _) _) hgr4 hown4)
         have v1 := HP.out.1.1
         have f1 := HP.out.1.2
         obtain ⟨g, cap, rfl⟩ := ownsRow_succ hown4
         clear hown4 hgr4)
      | fail)
    obtain ⟨_, h1, h2⟩ := HP.out
    rw [List.length_map] at h1 h2
    refine ⟨h2, ⟨?_, ?_⟩, ?_⟩
    · exact ⟨h1.fi.bel.os.trans HI.out.fi.bel.os.symm, h1.fi.bel.tape.trans HI.out.fi.bel.tape.symm, h1.fi.bel.output.trans HI.out.fi.bel.output.symm, h2.size, fun k hk => (h1.fi.bel.block k hk).trans (HI.out.fi.bel.block k hk).symm⟩
    · exact World.cell?_of_block (a := ⟨Bn, 0, none⟩) ((h1.fi.fix (Bn, #[.int .i64 s], 3) (by simp)).trans (HI.out.fi.fix (Bn, #[.int .i64 s], 3) (by simp)).symm)
    · show GL _ _ _ _ ((pre ++ [x]).map fun x : PX s => (x.1 : Int)) _
      rw [List.map_append]
      exact h1
  case done =>
    rintro D ys Wt hD hys hI hK
    have HM : Hid (Marks Wt w1.heap.size [D]) := Lib.hid ⟨by simp, fun E hE => by rw [List.mem_singleton.1 hE]; exact ⟨hD, hK⟩⟩
    rw [px_map hys] at hI
    obtain ⟨v, z3, hv⟩ := hI.od
    have c3 := cell_of_row Wt _ 0 _ 26 (0, 0) z3
    simp at c3
    have HI := Lib.hid hI; have HV := Lib.hid hv
    clear hI hK hys z3 hv
    simp only [Exit.inBlock, Exit.then]
    go_wp2_with fail
    refine leaves_marks [D] Wt HM.out (fun w' hk => ?_)
    exact ⟨v, by simp [results, Try.results105, go_sem], v, rfl, HI.out.fi.bel.trans (hk.1.mono (by have := HSZ.out; omega)), own_mono (own_cells HV.out fun b cs hb => hk.2 _ _ _ _ hb) (by have := HSZ.out; omega)⟩
  case stop =>
    rintro D c p Wt hD _ hI hK
    exact hI.elim
theorem collect_any (s : Int) (Bn : Nat) (w : World) (z : w.heap[Bn]? = some (.cells #[.int .i64 s] 3 (0, 0))) :
    Calls Try.prog 89 #[.func (.func 101) #[] #[.pointer (some ⟨Bn, 0, none⟩)]] w fun e w' => ∃ v, e = .returned v ∧ Below w.heap.size w w' ∧ w'.ownsRow w.heap.size 3 1 v (sitZ s).length (flatR intR (sitZ s)) := by
  have HZ := Lib.hid z
  clear z
  go_enter Try.func89, Try.ntmps89
  go_wp2_with fail
  refine (appendSeq_any s Bn _ HZ.out).mono ?_
  rintro e w' ⟨v, rfl, hb, hv⟩
  have HB := Lib.hid (And.intro hb hv)
  clear hb hv
  go_wp2_with fail
  go_ret
  exact ⟨v, rfl, HB.out⟩
end Go.Proofs.Ytmppiiamcpjhnaa

namespace Go.Proofs.Ytmppiiamcpjhnaa
open Go.RowKit Go.Shelf
attribute [local go_sem] Oper.semAt_some

theorem three_new (w : World) (o0 o1 o2 : Obj) : (((w.alloc o0).alloc o1).alloc o2).heap[w.heap.size]? = some o0 ∧ (((w.alloc o0).alloc o1).alloc o2).heap[w.heap.size + 1]? = some o1 ∧ (((w.alloc o0).alloc o1).alloc o2).heap[w.heap.size + 1 + 1]? = some o2 ∧ Below w.heap.size w (((w.alloc o0).alloc o1).alloc o2) := by
  obtain ⟨z0, z1, hb⟩ := two_new w o0 o1
  have z2 := heap_alloc_new ((w.alloc o0).alloc o1) o2
  simp only [World.size_alloc] at z2
  have h2 := (Below.refl ((w.alloc o0).alloc o1).heap.size ((w.alloc o0).alloc o1)).alloc (Nat.le_refl _) o2
  exact ⟨(h2.block _ (Array.getElem?_eq_some_iff.1 z0).1).trans z0, (h2.block _ (Array.getElem?_eq_some_iff.1 z1).1).trans z1, z2, hb.trans (h2.mono hb.size)⟩
set_option maxRecDepth 100000 in
set_option maxHeartbeats 4000000 in
theorem list_any (V : TV) (s M : Nat) (w : World) :
    Calls Try.prog 65 #[coV V s M] w fun e w' => ∃ v, e = .returned v ∧ Below w.heap.size w w' ∧ w'.ownsRow w.heap.size 3 1 v (sitZ s).length (flatR intR (sitZ s)) := by
  obtain ⟨ah, nh, ch, az, ns, cz⟩ := V
  have z := heap_alloc_new w (.cells #[.slice ah nh ch, .slice az ns cz, .int .i64 (s : Int), .map (some M)] 89)
  have hb := (Below.refl w.heap.size w).alloc (Nat.le_refl _) (.cells #[.slice ah nh ch, .slice az ns cz, .int .i64 (s : Int), .map (some M)] 89)
  obtain ⟨w1, hw1⟩ : ∃ z, w.alloc (.cells #[.slice ah nh ch, .slice az ns cz, .int .i64 (s : Int), .map (some M)] 89) = z := ⟨_, rfl⟩
  rw [hw1] at z hb
  obtain ⟨⟨v0, v1, v2, v3⟩, _⟩ := box4 z
  have HW := Lib.hid hw1; have HB := Lib.hid hb
  clear z hb hw1
  go_enter Try.func65, Try.ntmps65
  go_wp2_with fail
  rw [HW.out]
  go_wp2_with fail
  refine (sitesOf_any _ _).mono ?_
  rintro e w2 ⟨rfl, hw2⟩
  have hb2 : Below w1.heap.size w1 w2 := by rw [← hw2]; exact (Below.refl _ w1).alloc (Nat.le_refl _) _
  have z2 : w2.heap[w1.heap.size]? = some (.cells #[.int .i64 (s : Int)] 3 (0, 0)) := by rw [← hw2]; exact heap_alloc_new _ _
  have HZ2 := Lib.hid z2; have HB2 := Lib.hid (HB.out.trans (hb2.mono HB.out.size))
  clear hw2 hb2 z2 v0 v1 v2 v3
  go_wp2_with fail
  refine (collect_any (s : Int) _ _ HZ2.out).mono ?_
  rintro e w3 ⟨v, rfl, hb3, hv⟩
  have HE := Lib.hid (And.intro (HB2.out.trans (hb3.mono HB2.out.size)) (own_mono hv HB2.out.size))
  clear hb3 hv
  go_wp2_with fail
  go_ret
  exact ⟨v, rfl, HE.out⟩
abbrev eaF (B s Bn g : Nat) (cap : Array Value) : List (Nat × Array Value × TypeId) := [(Bn, #[.int .i64 (s : Int)], 3), (B + 1, #[.func (.func g) #[] cap], 94)]
def eaCv (B x g : Nat) (cap : Array Value) (v : Value) (y : Int) : Tmp → Value
  | 3 => .pointer (some ⟨B + 1, 0, none⟩)
  | 5 => .pointer (some ⟨B + 1 + 1, 0, none⟩)
  | 6 => .int .i64 (x : Int)
  | 11 => v
  | 12 => .func (.func g) #[] cap
  | 13 => .int .i64 (x : Int)
  | 14 => .int .i64 y
  | _ => undef
section
attribute [local irreducible] QT
set_option maxRecDepth 100000 in
set_option maxHeartbeats 4000000 in
theorem each_any (V : TV) (s M g : Nat) (cap : Array Value) (f : Nat → Int) (w : World) (eg : ∀ args w, (callFunc g args).run Try.prog w = .ok (.enter g args) w)
    (hF : ∀ x : Nat, x < 10 → jackB (s : Int) x = true → ∀ u, Below w.heap.size w u → Calls Try.prog g (#[.int .i64 (x : Int)] ++ cap) u fun e u' => e = .returned (.int .i64 (f x)) ∧ Below u.heap.size u u') :
    Calls Try.prog 61 #[coV V s M, .func (.func g) #[] cap] w fun e w' => ∃ v, e = .returned v ∧ Below w.heap.size w w' ∧ w'.ownsRow w.heap.size 3 1 v (sitL s).length (flatR intR ((sitL s).map f)) := by
  obtain ⟨ah, nh, ch, az, ns, cz⟩ := V
  obtain ⟨z0, z1, z2, hb⟩ := three_new w (.cells #[.slice ah nh ch, .slice az ns cz, .int .i64 (s : Int), .map (some M)] 89) (.cells #[.func (.func g) #[] cap] 94) (.cells #[.slice none 0 0] 26)
  obtain ⟨w3, hw3⟩ : ∃ z, ((w.alloc (.cells #[.slice ah nh ch, .slice az ns cz, .int .i64 (s : Int), .map (some M)] 89)).alloc (.cells #[.func (.func g) #[] cap] 94)).alloc (.cells #[.slice none 0 0] 26) = z := ⟨_, rfl⟩
  have hs3 : w3.heap.size = w.heap.size + 3 := by rw [← hw3]; simp
  rw [hw3] at z0 z1 z2 hb
  obtain ⟨⟨v0, v1, v2, v3⟩, _⟩ := box4 z0
  have HW := Lib.hid hw3; have HB := Lib.hid hb; have HZ1 := Lib.hid z1; have HZ2 := Lib.hid z2; have HS3 := Lib.hid hs3; have HEG := Lib.hid eg; have HF := Lib.hid hF
  clear z0 z1 z2 hb hw3 hs3 eg hF
  refine callsIn_wide.1 (callsIn_of_wp_marks (n := 5) Try.func61 rfl trivial (wpIn_wide.2 ?_) rfl)
  simp only [Try.ntmps61, List.size_toArray, List.length_cons, List.length_nil, Nat.reduceAdd, Nat.reduceSub, Array.replicate_succ, Array.replicate_zero, List.push_toArray, List.append_toArray, List.nil_append, List.cons_append]
  go_wp2_with fail
  rw [HW.out]
  go_wp2_with fail
  refine (sitesOf_any _ _).mono ?_
  rintro e w4 ⟨rfl, hw4⟩
  have hb4 : Below w3.heap.size w3 w4 := by rw [← hw4]; exact (Below.refl _ w3).alloc (Nat.le_refl _) _
  have z4 : w4.heap[w3.heap.size]? = some (.cells #[.int .i64 (s : Int)] 3 (0, 0)) := by rw [← hw4]; exact heap_alloc_new _ _
  have hs4 : w4.heap.size = w.heap.size + 4 := by rw [← hw4]; have := HS3.out; simp; omega
  have hc0 := cell_of_row w4 w3.heap.size 0 _ 3 (0, 0) z4
  simp at hc0
  have hGL : GL w (eaF w.heap.size s w3.heap.size g cap) w4.heap.size (w.heap.size + 1 + 1) [] w4 := ⟨⟨HB.out.trans (hb4.mono HB.out.size), fun x hx => by
    simp only [eaF, List.mem_cons, List.not_mem_nil, or_false] at hx
    rcases hx with rfl | rfl
    · exact z4
    · exact (hb4.block _ (heapsz HZ1.out)).trans HZ1.out⟩, ⟨_, (hb4.block _ (heapsz HZ2.out)).trans HZ2.out, World.ownsRow_nil _ _ _ _⟩, Nat.le_refl _⟩
  have HGL := Lib.hid hGL; have HZ4 := Lib.hid z4; have HS4 := Lib.hid hs4
  have HSEQ := Lib.hid (sit_stops (3 - 1) (by decide) w3.heap.size w.heap.size (s : Int) w4 (heapsz z4) hc0)
  have fol : Try.prog.follows .mixedOrders = true := by kernel_rfl
  obtain ⟨i0, hi0, hz0, hz1, hz2⟩ := info_parts int_info
  clear hw4 hb4 z4 hs4 hc0 hGL v0 v1 v2 v3
  go_wp2_with fail
  refine (wpIn_wide (n := 3)).1 ?_
  refine wpIn_rangeFunc_ownF rfl (by decide) (gf := 101) (lb := #[.pointer (some ⟨w3.heap.size, 0, none⟩)]) rfl trivial (enters_of Try.func101 (by kernel_rfl) rfl)
    HSEQ.out kpB_t (kpB_b (by have := HS4.out; omega) (heapsz HZ4.out)) (Below.refl _ _) (fun _ => rfl)
    (fun pre Wt => GL w (eaF w.heap.size s w3.heap.size g cap) w4.heap.size (w.heap.size + 1 + 1) (pre.map fun x : PX (s : Int) => f x.1) Wt)
    (fun _ _ _ => False)
    (fun pre A B row hs hg hr => hs.own (n := w4.heap.size) (by have := HS4.out; omega) hg hr)
    (fun _ _ _ _ _ hs _ _ => hs)
    (show GL _ _ _ _ [] _ from HGL.out)
    (fun x => { tmps := List.toArray ((coV ⟨ah, nh, ch, az, ns, cz⟩ s M) :: (Value.func (.func g) #[] cap) :: (Value.pointer (some ⟨w.heap.size, 0, none⟩)) :: (Value.pointer (some ⟨w.heap.size + 1, 0, none⟩)) :: (Value.slice none 0 0) :: (Value.pointer (some ⟨w.heap.size + 1 + 1, 0, none⟩)) :: (Value.int .i64 (x.1 : Int)) :: (Value.pointer (some ⟨w.heap.size, 2, none⟩)) :: (Value.int .i64 (s : Int)) :: (Value.func (.func 101) #[] #[.pointer (some ⟨w3.heap.size, 0, none⟩)]) :: (Value.int .i64 (x.1 : Int)) :: undef :: undef :: undef :: undef :: undef :: undef :: undef :: []), defers := [] }) ?assign ?body ?done ?stop
  case assign =>
    intro l x Wt Kk hK
    gi_wp2
    exact hK
  case body =>
    rintro l pre x Wt hI hlen
    obtain ⟨v, z3, hv⟩ := hI.od
    have y1 := hI.fi.fix (w.heap.size + 1, #[.func (.func g) #[] cap], 94) (by simp [eaF])
    simp only at y1
    have hl : (pre.map fun x : PX (s : Int) => f x.1).length ≤ 10 := by rw [List.length_map]; omega
    have q5 := cell_of_row Wt _ 0 _ 26 (0, 0) z3
    have q3 := cell_of_row Wt _ 0 _ 94 (0, 0) y1
    simp at q5 q3
    have L5 := heapsz z3; have L3 := heapsz y1
    have n5 : some (w.heap.size + 1 + 1) ≠ v.ownBlock := fun e => by have := (own_at hv e.symm).1; have := HS4.out; omega
    have n3 : some (w.heap.size + 1) ≠ v.ownBlock := fun e => by have := (own_at hv e.symm).1; have := HS4.out; omega
    have hsz := hI.sz
    have HI := Lib.hid hI; have HOW := Lib.hid hv; have HZ3 := Lib.hid z3; have HL := Lib.hid hl
    have HLT : Hid (w.heap.size ≤ w.heap.size + 1 + 1 ∧ w.heap.size + 1 + 1 < w4.heap.size) := Lib.hid (by have := HS4.out; omega)
    have HFS : Hid (∀ y ∈ eaF w.heap.size s w3.heap.size g cap, y.1 < w4.heap.size ∧ y.1 ≠ w.heap.size + 1 + 1) := Lib.hid fun y hy => by
      have := HS4.out
      have := HS3.out
      simp only [eaF, List.mem_cons, List.not_mem_nil, or_false] at hy
      rcases hy with rfl | rfl
      · show w3.heap.size < _ ∧ w3.heap.size ≠ _; omega
      · show w.heap.size + 1 < _ ∧ w.heap.size + 1 ≠ _; omega
    clear hI z3 y1 hl hlen
    gi_wp2
    refine wpIn_region_any fol (wpAnyIn_round_of_wpAny (by kernel_rfl) (by rintro ⟨_, _, hq⟩; exact hq) _ _ _ _ ?_)
    refine tail_startX [_, _, _, _, _, _] _ rfl (by kernel_rfl) ?_
    refine plan_guarded_any (γ := GhE) [3, 5, 6] (rhoO 15 16 (eaCv w.heap.size x.1 g cap v (f x.1))) (SL ⟨Wt, w4.heap.size, 3, 1, (pre.map fun x : PX (s : Int) => f x.1).length, v, flatR intR (pre.map fun x : PX (s : Int) => f x.1), intR (f x.1), 4, 5⟩) ⟨fun _ => undef, fun _ => undef⟩ (by kernel_rfl) (by kernel_rfl) (by kernel_rfl) (by kernel_rfl) ?_ (SL.start hv hsz (by decide)) ?_ ?_
    · intro t ht
      simp only [List.mem_cons, List.not_mem_nil, or_false] at ht
      rcases ht with rfl | rfl | rfl <;> rfl
    · refine allOps_array ?_
      refine ⟨?_, ?_, ?_, ?_, ?_, ?_, trivial⟩ <;> intro done gh wS hS hu hdep _ <;> have s5 := (hS.cell L5 n5 (o := 0)).trans q5 <;> have s3 := (hS.cell L3 n3 (o := 0)).trans q3
      · refine quietL hS 11 rfl (by simp) (by simp) rfl ?_
        simp [go_sem, evalBy, rhoO, eaCv, s5]
      · refine quietL hS 12 rfl (by simp) (by simp) rfl ?_
        simp [go_sem, evalBy, rhoO, eaCv, s3]
      · refine quietL hS 13 rfl (by simp) (by simp) rfl ?_
        simp [go_sem, evalBy, rhoO, eaCv]
      · refine callL hS 14 rfl (by simp) (by simp) rfl g (#[.int .i64 (x.1 : Int)] ++ cap) (by simp [go_sem, evalBy, rhoO, eaCv, HEG.out]) ?_
        refine HF.out x.1 x.2.1 x.2.2 wS ?_
        exact (HI.out.fi.bel).trans ((Below.refl w.heap.size Wt).grown hS.grown HI.out.fi.bel.size (fun q e => by have := (own_at HOW.out e).1; have := HS4.out; omega))
      · refine buildL hS 15 rfl rfl rfl ?_ (fun _ => rfl) (fun t b' ht => rhoO_b t b' ht)
        simp [go_sem, evalBy, rhoO, eaCv, intR]
      · exact appendL hS 16 rfl rfl hu (hdep ⟨4, .data⟩ (by simp) rfl) rfl 11 15 26 rfl rfl rfl i0 _ 8 Try.underlying26 hi0 hz0 hz1 hz2 rfl (by show 0 < 1; decide) rfl (by simp [Value.oneCell', intR]) (by unfold maxLen; show (pre.map fun x : PX (s : Int) => f x.1).length + 1 ≤ _; have := HL.out; omega) (by show ((pre.map fun x : PX (s : Int) => f x.1).length + 1) * 8 ≤ _; have := HL.out; omega) (fun _ => rfl) (fun t c' ht => rhoO_c t c' ht)
    · intro gh wC hS
      have hA := SL.after hS (show 5 < _ by decide)
      have hA2 := hA.2.1
      obtain ⟨gb, cg, ev, _⟩ := hA2.form (by omega)
      have hp := gl_push HI.out HZ3.out HOW.out HLT.out HFS.out (Below.refl _ Wt) hA.1 (by rw [ev] at hA2; exact hA2)
      have p5 := hp.1.1
      have f5 := hp.1.2
      have HP := Lib.hid hp.2
      clear hA hS hp hA2 q5 q3
      simp only [QT]
      unfold Oper.wp
      simp [go_sem, putAll, Act.put, rhoO, eaCv, p5, f5, ev, Exit.inBlock]
      obtain ⟨h1, h2⟩ := HP.out
      rw [List.length_map] at h1 h2
      refine ⟨h2, ⟨?_, ?_⟩, ?_⟩
      · exact ⟨h1.fi.bel.os.trans HI.out.fi.bel.os.symm, h1.fi.bel.tape.trans HI.out.fi.bel.tape.symm, h1.fi.bel.output.trans HI.out.fi.bel.output.symm, h2.size, fun k hk => (h1.fi.bel.block k hk).trans (HI.out.fi.bel.block k hk).symm⟩
      · exact World.cell?_of_block (a := ⟨w3.heap.size, 0, none⟩) ((h1.fi.fix (w3.heap.size, #[.int .i64 (s : Int)], 3) (by simp [eaF])).trans (HI.out.fi.fix (w3.heap.size, #[.int .i64 (s : Int)], 3) (by simp [eaF])).symm)
      · show GL _ _ _ _ ((pre ++ [x]).map fun x : PX (s : Int) => f x.1) _
        rw [List.map_append]
        exact h1
  case done =>
    rintro D ys Wt hD hys hI hK
    have HM : Hid (Marks Wt w4.heap.size [D]) := Lib.hid ⟨by simp, fun E hE => by rw [List.mem_singleton.1 hE]; exact ⟨hD, hK⟩⟩
    rw [show (ys.map fun x : PX (s : Int) => f x.1) = (sitL s).map f by rw [← hys, List.map_map]; rfl] at hI
    obtain ⟨v, z3, hv⟩ := hI.od
    have c3 := cell_of_row Wt _ 0 _ 26 (0, 0) z3
    simp at c3
    rw [List.length_map] at hv
    have HI := Lib.hid hI; have HV := Lib.hid hv
    clear hI hK hys z3 hv
    simp only [Exit.inBlock, Exit.then]
    go_wp2_with fail
    refine leaves_marks [D] Wt HM.out (fun w' hk => ?_)
    exact ⟨v, by simp [results, Try.results61, go_sem], v, rfl, HI.out.fi.bel.trans (hk.1.mono (by have := HS4.out; omega)), own_mono (own_cells HV.out fun b cs hb => hk.2 _ _ _ _ hb) (by have := HS4.out; omega)⟩
  case stop =>
    rintro D c p Wt hD _ hI hK
    exact hI.elim
end
end Go.Proofs.Ytmppiiamcpjhnaa

namespace Go.Proofs.Ytmppiiamcpjhnaa
open Go.RowKit Go.Shelf

theorem sit_10 {s : Int} {x : Nat} (h : x ∈ sitL s) : x < 10 ∧ jackB s x = true := by
  unfold sitL at h
  obtain ⟨h1, h2⟩ := List.mem_filter.1 h
  exact ⟨List.mem_range.1 h1, h2⟩
theorem sit_len10 (s : Int) : (sitL s).length ≤ 10 := by
  unfold sitL
  have := List.length_filter_le (fun k => jackB s k) (List.range 10)
  simpa using this
theorem testBit_lt {s k n : Nat} (hs : s < 2 ^ n) (hb : s.testBit k = true) : k < n := by
  rcases Nat.lt_or_ge k n with h | h
  · exact h
  · exfalso
    rw [Nat.testBit_lt_two_pow (Nat.lt_of_lt_of_le hs (Nat.pow_le_pow_right (by decide) h))] at hb
    exact absurd hb (by decide)
theorem sit_ns {s n x : Nat} (hs : s < 2 ^ n) (h : jackB (s : Int) x = true) : x < n := by
  rw [jack_bit] at h
  exact testBit_lt hs h
theorem week_in {T : Tn} (K : TnOk T) (x : Nat) : 0 ≤ weekI T x ∧ weekI T x ≤ 100 := by
  unfold weekI
  rw [List.getD_eq_getElem?_getD]
  cases h : T.ss[x]? with
  | none => decide
  | some s => have := (K.ss s (List.mem_of_getElem? h)).we; simp only [Option.getD_some]; omega
def costS (T : Tn) (s : Nat) : Int := ((sitL (s : Int)).map fun x => costI T x).sum
def weekS (T : Tn) (s : Nat) : Int := ((sitL (s : Int)).map fun x => weekI T x).sum
theorem ints_of_own {w : World} {base n : Nat} {v : Value} {xs : List Int} (h : w.ownsRow base 3 1 v n (flatR intR xs)) (hn : xs.length = n) : ∃ A c, v = .slice A n c ∧ IntsAt w w.heap.size A xs := by
  subst hn
  obtain ⟨A, c, e, hA, _⟩ := (RowIs.of_own (R := intR) h).at_ (k := 1) (fun _ => rfl)
  exact ⟨A, c, e, hA⟩
set_option maxRecDepth 100000 in
set_option maxHeartbeats 4000000 in
theorem cost_any (V : TV) (T : Tn) (s M : Nat) (w : World) (hN : TnAt w w.heap.size V T) (hK : TnOk T) (hs : s < 2 ^ V.ns) :
    Calls Try.prog 66 #[coV V s M] w fun e w' => e = .returned (.int .i64 (costS T s)) ∧ Below w.heap.size w w' := by
  have hmf : ∀ (fn : Fn) (first cap : Array Value) (w : World), (Instr.makeFunc fn first cap).run Try.prog w = .ok (.func fn first cap) w := fun _ _ _ _ => rfl
  have z := heap_alloc_new w (.cells (coC V s M) 89)
  have hb := (Below.refl w.heap.size w).alloc (Nat.le_refl _) (.cells (coC V s M) 89)
  obtain ⟨w1, hw1⟩ : ∃ z, w.alloc (.cells (coC V s M) 89) = z := ⟨_, rfl⟩
  rw [hw1] at z hb
  have HE : Hid (Calls Try.prog 61 #[coV V s M, .func (.func 90) #[] #[.pointer (some ⟨w.heap.size, 0, none⟩)]] w1 fun e w' => ∃ v, e = .returned v ∧ Below w1.heap.size w1 w' ∧ w'.ownsRow w1.heap.size 3 1 v (sitL (s : Int)).length (flatR intR ((sitL (s : Int)).map fun x => costI T x))) := Lib.hid
    (each_any V s M 90 #[.pointer (some ⟨w.heap.size, 0, none⟩)] (fun x => costI T x) w1 (fun _ _ => rfl) fun x _ hxj u hu => by
      refine (costs_any V T s M x w.heap.size u ((hu.block _ (heapsz z)).trans z) ((hN.up hb).next hu hu.size) (sit_ns hs hxj)).mono ?_
      rintro e w' ⟨rfl, rfl⟩
      exact ⟨rfl, Below.refl _ _⟩)
  have hin : ∀ x, 0 ≤ costI T x ∧ costI T x ≤ 1000000 := cost_in hK
  have HIN := Lib.hid hin
  obtain ⟨ah, nh, ch, az, ns, cz⟩ := V
  obtain ⟨⟨v0, v1, v2, v3⟩, _⟩ := box4 z
  have HW := Lib.hid hw1; have HB := Lib.hid hb
  clear z hb hw1 hN hK hin hs
  go_enter Try.func66, Try.ntmps66
  go_wp2_with fail
  rw [HW.out]
  go_wp2_with fail
  refine HE.out.mono ?_
  rintro e w2 ⟨v, rfl, hb2, hv⟩
  obtain ⟨A, c, rfl, hA⟩ := ints_of_own hv (by rw [List.length_map])
  have HB2 := Lib.hid (HB.out.trans (hb2.mono HB.out.size)); have HA := Lib.hid hA
  clear hb2 hv hA v0 v1 v2 v3
  go_wp2_with fail
  refine (sum_any A _ c _ w2 (by rw [List.length_map]) (by have := sit_len10 (s : Int); omega) HA.out (fun x hx => by
    obtain ⟨y, _, rfl⟩ := List.mem_map.1 hx
    exact HIN.out y)).mono ?_
  rintro e w' ⟨rfl, rfl⟩
  go_wp2_with fail
  go_ret
  exact ⟨rfl, HB2.out⟩
set_option maxRecDepth 100000 in
set_option maxHeartbeats 4000000 in
theorem weeks_any (V : TV) (T : Tn) (s M : Nat) (w : World) (hN : TnAt w w.heap.size V T) (hK : TnOk T) (hs : s < 2 ^ V.ns) :
    Calls Try.prog 93 #[coV V s M] w fun e w' => e = .returned (.int .i64 (weekS T s)) ∧ Below w.heap.size w w' := by
  have hmf : ∀ (fn : Fn) (first cap : Array Value) (w : World), (Instr.makeFunc fn first cap).run Try.prog w = .ok (.func fn first cap) w := fun _ _ _ _ => rfl
  have z := heap_alloc_new w (.cells (coC V s M) 89)
  have hb := (Below.refl w.heap.size w).alloc (Nat.le_refl _) (.cells (coC V s M) 89)
  obtain ⟨w1, hw1⟩ : ∃ z, w.alloc (.cells (coC V s M) 89) = z := ⟨_, rfl⟩
  rw [hw1] at z hb
  have HE : Hid (Calls Try.prog 61 #[coV V s M, .func (.func 107) #[] #[.pointer (some ⟨w.heap.size, 0, none⟩)]] w1 fun e w' => ∃ v, e = .returned v ∧ Below w1.heap.size w1 w' ∧ w'.ownsRow w1.heap.size 3 1 v (sitL (s : Int)).length (flatR intR ((sitL (s : Int)).map fun x => weekI T x))) := Lib.hid
    (each_any V s M 107 #[.pointer (some ⟨w.heap.size, 0, none⟩)] (fun x => weekI T x) w1 (fun _ _ => rfl) fun x _ hxj u hu => by
      refine (weekss_any V T s M x w.heap.size u ((hu.block _ (heapsz z)).trans z) ((hN.up hb).next hu hu.size) (sit_ns hs hxj)).mono ?_
      rintro e w' ⟨rfl, rfl⟩
      exact ⟨rfl, Below.refl _ _⟩)
  have hin : ∀ x, 0 ≤ weekI T x ∧ weekI T x ≤ 1000000 := (fun x => ⟨(week_in hK x).1, Int.le_trans (week_in hK x).2 (by decide)⟩)
  have HIN := Lib.hid hin
  obtain ⟨ah, nh, ch, az, ns, cz⟩ := V
  obtain ⟨⟨v0, v1, v2, v3⟩, _⟩ := box4 z
  have HW := Lib.hid hw1; have HB := Lib.hid hb
  clear z hb hw1 hN hK hin hs
  go_enter Try.func93, Try.ntmps93
  go_wp2_with fail
  rw [HW.out]
  go_wp2_with fail
  refine HE.out.mono ?_
  rintro e w2 ⟨v, rfl, hb2, hv⟩
  obtain ⟨A, c, rfl, hA⟩ := ints_of_own hv (by rw [List.length_map])
  have HB2 := Lib.hid (HB.out.trans (hb2.mono HB.out.size)); have HA := Lib.hid hA
  clear hb2 hv hA v0 v1 v2 v3
  go_wp2_with fail
  refine (sum_any A _ c _ w2 (by rw [List.length_map]) (by have := sit_len10 (s : Int); omega) HA.out (fun x hx => by
    obtain ⟨y, _, rfl⟩ := List.mem_map.1 hx
    exact HIN.out y)).mono ?_
  rintro e w' ⟨rfl, rfl⟩
  go_wp2_with fail
  go_ret
  exact ⟨rfl, HB2.out⟩
end Go.Proofs.Ytmppiiamcpjhnaa
