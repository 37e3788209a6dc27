/- A statement whose order is left open, in which one list grows, with calls that keep what was there: all other blocks are as they were. -/
import Derived.Test.YtdlaphlpimlgdaaGreatDoorCC
namespace Go.Proofs.YtdlaphlpimlgdaaGreatDoor
open Go.RowKit

/-- What does. -/
structure GhE where
  c : Nat → Value
  b : Nat → Value
def updV (f : Nat → Value) (j : Nat) (v : Value) : Nat → Value := fun i => if i = j then v else f i
theorem updV_at (f : Nat → Value) (j : Nat) (v : Value) : updV f j v j = v := if_pos rfl
theorem updV_ne {f : Nat → Value} {i j : Nat} {v : Value} (h : i ≠ j) : updV f j v i = f i := if_neg h
theorem updB_at (f : Nat → Bool) (i : Nat) : updB f i i = true := if_pos rfl
theorem updB_ne {f : Nat → Bool} {i j : Nat} (h : j ≠ i) : updB f i j = f j := if_neg h
structure EnvL where
  wS : World
  base : Nat
  T : TypeId
  sz : Nat
  k : Nat
  v : Value
  xs : List Value
  ns : List Value
  ib : Nat
  ia : Nat
def curL (q : EnvL) (done : Nat → Bool) (g : GhE) : Value := if done q.ia = true then g.c 0 else q.v
def lenL (q : EnvL) (done : Nat → Bool) : Nat := if done q.ia = true then q.k + 1 else q.k
def rowL (q : EnvL) (done : Nat → Bool) : List Value := if done q.ia = true then q.xs ++ q.ns else q.xs
structure SL (q : EnvL) (done : Nat → Bool) (g : GhE) (w : World) : Prop where
  grown : q.wS.grownBy w q.v.ownBlock
  own : w.ownsRow q.base q.T q.sz (curL q done g) (lenL q done) (rowL q done)
  news : done q.ib = true → ∃ B, g.b 0 = .slice (some ⟨B, 0, none⟩) 1 1 ∧ w.heap[B]? = some (.cells q.ns.toArray q.T (0, 0)) ∧ (curL q done g).ownBlock ≠ some B
  fresh : (curL q done g).ownBlock = q.v.ownBlock ∨ ∃ B, (curL q done g).ownBlock = some B ∧ q.wS.heap.size ≤ B
  two : q.ib ≠ q.ia
  low : q.base ≤ q.wS.heap.size
theorem grownBy_trans {a b c : World} {row : Option Nat} (h : a.grownBy b row) (k : Below b.heap.size b c) : a.grownBy c row :=
  ⟨k.os.trans h.os, k.tape.trans h.tape, k.output.trans h.output, Nat.le_trans h.size k.size, fun i hi hr => (k.block i (Nat.lt_of_lt_of_le hi h.size)).trans (h.block i hi hr)⟩
theorem SL.below {q : EnvL} {done : Nat → Bool} {g : GhE} {w w' : World} (h : SL q done g w) (hb : Below w.heap.size w w') : SL q done g w' :=
  ⟨grownBy_trans h.grown hb, own_next h.own hb, fun hd => by
    obtain ⟨B, e1, e2, e3⟩ := h.news hd
    exact ⟨B, e1, (hb.block _ (Array.getElem?_eq_some_iff.1 e2).1).trans e2, e3⟩, h.fresh, h.two, h.low⟩
theorem SL.quiet {q : EnvL} {done : Nat → Bool} {g : GhE} {w : World} (h : SL q done g w) {i : Nat} (h1 : i ≠ q.ib) (h2 : i ≠ q.ia) : SL q (updB done i) g w := by
  have c1 : curL q (updB done i) g = curL q done g := by unfold curL; rw [updB_ne (Ne.symm h2)]
  have c2 : lenL q (updB done i) = lenL q done := by unfold lenL; rw [updB_ne (Ne.symm h2)]
  have c3 : rowL q (updB done i) = rowL q done := by unfold rowL; rw [updB_ne (Ne.symm h2)]
  refine ⟨h.grown, by rw [c1, c2, c3]; exact h.own, fun hd => ?_, by rw [c1]; exact h.fresh, h.two, h.low⟩
  rw [updB_ne (Ne.symm h1)] at hd
  rw [c1]
  exact h.news hd
theorem SL.build {q : EnvL} {done : Nat → Bool} {g : GhE} {w : World} (h : SL q done g w) : SL q (updB done q.ib) { g with b := updV g.b 0 (.slice (some ⟨w.heap.size, 0, none⟩) 1 1) } (w.alloc (.cells q.ns.toArray q.T)) := by
  have hb := (Below.refl w.heap.size w).alloc (Nat.le_refl _) (.cells q.ns.toArray q.T)
  have c1 : curL q (updB done q.ib) { g with b := updV g.b 0 (.slice (some ⟨w.heap.size, 0, none⟩) 1 1) } = curL q done g := by unfold curL; rw [updB_ne (Ne.symm h.two)]
  have c2 : lenL q (updB done q.ib) = lenL q done := by unfold lenL; rw [updB_ne (Ne.symm h.two)]
  have c3 : rowL q (updB done q.ib) = rowL q done := by unfold rowL; rw [updB_ne (Ne.symm h.two)]
  refine ⟨grownBy_trans h.grown hb, by rw [c1, c2, c3]; exact own_next h.own hb, fun _ => ⟨w.heap.size, by simp [updV], heap_alloc_new w _, fun hB => ?_⟩, by rw [c1]; exact h.fresh, h.two, h.low⟩
  rw [c1] at hB
  have := (h.own.lt _ hB).2
  omega
theorem SL.append {q : EnvL} {done : Nat → Bool} {g : GhE} {w w' : World} (h : SL q done g w) (hu : done q.ia = false) {v' : Value} (hv : w'.ownsRow q.base q.T q.sz v' (q.k + 1) (q.xs ++ q.ns)) (hg : w.grownBy w' q.v.ownBlock) (ho : v'.ownBlock = q.v.ownBlock ∨ v'.ownBlock = some w.heap.size) :
    SL q (updB done q.ia) { g with c := updV g.c 0 v' } w' := by
  have cj : curL q done g = q.v := by unfold curL; rw [hu]; rfl
  have cn : curL q (updB done q.ia) { g with c := updV g.c 0 v' } = v' := by unfold curL; rw [updB_at, if_pos rfl]; simp [updV]
  refine ⟨⟨hg.os.trans h.grown.os, hg.tape.trans h.grown.tape, hg.output.trans h.grown.output, Nat.le_trans h.grown.size hg.size, fun i hi hr => (hg.block i (Nat.lt_of_lt_of_le hi h.grown.size) hr).trans (h.grown.block i hi hr)⟩, ?_, fun hd => ?_, ?_, h.two, h.low⟩
  · rw [cn]
    unfold lenL rowL
    rw [updB_at, if_pos rfl, if_pos rfl]
    exact hv
  · rw [updB_ne h.two] at hd
    obtain ⟨B, e1, e2, e3⟩ := h.news hd
    rw [cj] at e3
    refine ⟨B, e1, (hg.block _ (Array.getElem?_eq_some_iff.1 e2).1 (fun e => e3 e.symm)).trans e2, ?_⟩
    rw [cn]
    rcases ho with ho | ho
    · rw [ho]; exact e3
    · rw [ho]
      intro e
      injection e with e
      have := (Array.getElem?_eq_some_iff.1 e2).1
      omega
  · rw [cn]
    rcases ho with ho | ho
    · exact .inl ho
    · exact .inr ⟨_, ho, h.grown.size⟩
theorem SL.start {w : World} {base : Nat} {T : TypeId} {sz k : Nat} {v : Value} {xs ns : List Value} {ib ia : Nat} {g : GhE} (ho : w.ownsRow base T sz v k xs) (hl : base ≤ w.heap.size) (hne : ib ≠ ia) : SL ⟨w, base, T, sz, k, v, xs, ns, ib, ia⟩ (fun _ => false) g { w with drawn := w.drawn + 1 } :=
  ⟨⟨rfl, rfl, rfl, Nat.le_refl _, fun _ _ _ => rfl⟩, own_next ho (Below.refl _ w).drew, fun hd => by simp at hd, .inl rfl, hne, hl⟩
/-- Behind all of them. -/
theorem SL.after {w1 w : World} {base : Nat} {T : TypeId} {sz k N : Nat} {v : Value} {xs ns : List Value} {ib ia : Nat} {g : GhE} (h : SL ⟨w1, base, T, sz, k, v, xs, ns, ib, ia⟩ (fun i => decide (i < N)) g w) (hia : ia < N) :
    w1.grownBy w v.ownBlock ∧ w.ownsRow base T sz (g.c 0) (k + 1) (xs ++ ns) ∧ ((g.c 0).ownBlock = v.ownBlock ∨ ∃ B, (g.c 0).ownBlock = some B ∧ w1.heap.size ≤ B) := by
  have hd : (fun i => decide (i < N)) ia = true := by simpa using hia
  have ho := h.own
  have hf := h.fresh
  unfold curL lenL rowL at ho
  unfold curL at hf
  simp only [hd, if_true] at ho hf
  exact ⟨h.grown, ho, hf⟩
/-- What is asked of an operation. -/
abbrev AskL (q : EnvL) (ops : Array Oper) (ρ : GhE → Tmp → Value) (done : Nat → Bool) (g : GhE) (w : World) (i : Nat) (o : Oper) : Prop :=
  Region.wanted o (yieldedBy ops (ρ g)) = true ∧ Yield Tryz.prog (fun v w' => ∃ g', SL q (updB done i) g' w' ∧ (∀ d, o.dst = some d → ρ g' d = v) ∧ ∀ t, o.dst ≠ some t → ρ g' t = ρ g t) ((execOp (evalBy (ρ g)) o).run Tryz.prog w)
theorem quietL {q : EnvL} {ops : Array Oper} {done : Nat → Bool} {g : GhE} {w : World} {ρ : GhE → Tmp → Value} {i : Nat} {o : Oper} (h : SL q done g w) (d : Tmp) (hd : o.dst = some d) (h1 : i ≠ q.ib) (h2 : i ≠ q.ia) (hg : Region.wanted o (yieldedBy ops (ρ g)) = true)
    (he : (execOp (evalBy (ρ g)) o).run Tryz.prog w = .ok (.value (ρ g d)) w) : AskL q ops ρ done g w i o := by
  refine ⟨hg, ?_⟩
  rw [he]
  exact ⟨g, h.quiet h1 h2, fun e hE => by rw [hd] at hE; injection hE with hE; subst hE; rfl, fun _ _ => rfl⟩
theorem callL {q : EnvL} {ops : Array Oper} {done : Nat → Bool} {g : GhE} {w : World} {ρ : GhE → Tmp → Value} {i : Nat} {o : Oper} (h : SL q done g w) (d : Tmp) (hd : o.dst = some d) (h1 : i ≠ q.ib) (h2 : i ≠ q.ia) (hg : Region.wanted o (yieldedBy ops (ρ g)) = true) (f : FuncId) (args : Array Value)
    (he : (execOp (evalBy (ρ g)) o).run Tryz.prog w = .ok (.enter f args) w) (hc : Calls Tryz.prog f args w fun e w' => e = .returned (ρ g d) ∧ Below w.heap.size w w') : AskL q ops ρ done g w i o := by
  refine ⟨hg, ?_⟩
  rw [he]
  show Calls Tryz.prog f args w _
  refine hc.mono ?_
  rintro e w' ⟨rfl, hb⟩
  exact ⟨_, rfl, g, (h.below hb).quiet h1 h2, fun e hE => by rw [hd] at hE; injection hE with hE; subst hE; rfl, fun _ _ => rfl⟩
set_option maxRecDepth 100000 in
theorem buildL {q : EnvL} {ops : Array Oper} {done : Nat → Bool} {g : GhE} {w : World} {ρ : GhE → Tmp → Value} {i : Nat} {o : Oper} (h : SL q done g w) (d : Tmp) (hd : o.dst = some d) (hi : i = q.ib) (hg : Region.wanted o (yieldedBy ops (ρ g)) = true)
    (he : (execOp (evalBy (ρ g)) o).run Tryz.prog w = .ok (.value (.slice (some ⟨w.heap.size, 0, none⟩) 1 1)) (w.alloc (.cells q.ns.toArray q.T)))
    (h1 : ∀ g' : GhE, ρ g' d = g'.b 0) (h2 : ∀ (t : Tmp) (b' : Nat → Value), t ≠ d → ρ { g with b := b' } t = ρ g t) : AskL q ops ρ done g w i o := by
  subst hi
  refine ⟨hg, ?_⟩
  rw [he]
  exact ⟨_, h.build, fun e hE => by rw [hd] at hE; injection hE with hE; subst hE; rw [h1]; simp [updV], fun t ht => h2 t _ (fun e => ht (by rw [hd, e]))⟩
set_option maxRecDepth 100000 in
theorem appendL {q : EnvL} {ops : Array Oper} {done : Nat → Bool} {g : GhE} {w : World} {ρ : GhE → Tmp → Value} {i : Nat} {o : Oper} (h : SL q done g w) (d : Tmp) (hd : o.dst = some d) (hi : i = q.ia) (hu : done i = false) (hb : done q.ib = true) (hg : Region.wanted o (yieldedBy ops (ρ g)) = true)
    (s x : Tmp) (ST : TypeId) (ho : o.op = .call { callee := .builtin .append, args := #[.tmp s, .tmp x], argTypes := #[ST, ST] }) (hs : ρ g s = q.v) (hx : ρ g x = g.b 0)
    (i0 : TypeInfo) (z : Value) (bytes : Nat) (ht : Tryz.prog.underlying ST = some (.slice q.T)) (hi0 : Tryz.prog.info? q.T = some i0) (hz : i0.zero = some z) (hsz : i0.size = q.sz) (hby : i0.bytes = bytes) (hzs : z.cells.size = q.sz) (hs0 : 0 < q.sz) (hl : q.ns.length = q.sz) (hone : ∀ u ∈ q.ns, u.oneCell' = true) (hk : q.k + 1 ≤ maxLen) (hbb : (q.k + 1) * bytes ≤ 140737488355328)
    (h1 : ∀ g' : GhE, ρ g' d = g'.c 0) (h2 : ∀ (t : Tmp) (c' : Nat → Value), t ≠ d → ρ { g with c := c' } t = ρ g t) : AskL q ops ρ done g w i o := by
  subst hi
  obtain ⟨B, e1, e2, e3⟩ := h.news hb
  have oj := h.own
  have cj : curL q done g = q.v := by unfold curL; rw [hu]; rfl
  have lj : lenL q done = q.k := by unfold lenL; rw [hu]; rfl
  have rj : rowL q done = q.xs := by unfold rowL; rw [hu]; rfl
  rw [cj, lj, rj] at oj
  obtain ⟨v', w', hr, a1, a2, _, a4⟩ := run_append_own_at (P := Tryz.prog) w q.base ST o.type q.T i0 z q.sz bytes ht hi0 hz hsz hby hzs hs0 q.v q.k q.xs oj ⟨B, 0, none⟩ 1 1 q.ns (by rw [hl]; omega)
    (fun a u hu' => by
      have := cell_of_row w B a _ q.T (0, 0) e2
      rw [show (⟨B, 0, none⟩ : Addr).add a = ⟨B, a, none⟩ by unfold Addr.add; split <;> simp_all, this]
      simpa using hu') hone hk hbb (Nat.le_trans h.low h.grown.size)
  have he : (execOp (evalBy (ρ g)) o).run Tryz.prog w = .ok (.value v') w' := by
    have e2' : evalBy (ρ g) (.tmp s) = q.v := hs
    have e3' : evalBy (ρ g) (.tmp x) = .slice (some ⟨B, 0, none⟩) 1 1 := hx.trans e1
    unfold execOp
    simp only [ho, resolve, invoke, builtin, Sem.run_bind, Sem.run_pure, Result.andThen_ok, List.map_toArray, List.map_cons, List.map_nil, e2', e3', hr]
  refine ⟨hg, ?_⟩
  rw [he]
  exact ⟨_, h.append hu a1 a2 a4, fun e hE => by rw [hd] at hE; injection hE with hE; subst hE; rw [h1]; simp [updV], fun t ht => h2 t _ (fun e => ht (by rw [hd, e]))⟩
/-- A cell of another block. -/
theorem SL.cell {q : EnvL} {done : Nat → Bool} {g : GhE} {w : World} (h : SL q done g w) {b o : Nat} (hb : b < q.wS.heap.size) (hne : some b ≠ q.v.ownBlock) : w.cell? ⟨b, o, none⟩ = q.wS.cell? ⟨b, o, none⟩ :=
  World.cell?_of_block (h.grown.block b hb hne)
/-- The slots: one holds the new element, one the longer list. -/
def rhoO (sb sa : Tmp) (cv : Tmp → Value) (g : GhE) (t : Tmp) : Value := if t = sb then g.b 0 else if t = sa then g.c 0 else cv t
theorem rhoO_b {sb sa : Tmp} {cv : Tmp → Value} {g : GhE} (t : Tmp) (b' : Nat → Value) (h : t ≠ sb) : rhoO sb sa cv { g with b := b' } t = rhoO sb sa cv g t := by
  unfold rhoO
  rw [if_neg h, if_neg h]
theorem rhoO_c {sb sa : Tmp} {cv : Tmp → Value} {g : GhE} (t : Tmp) (c' : Nat → Value) (h : t ≠ sa) : rhoO sb sa cv { g with c := c' } t = rhoO sb sa cv g t := by
  unfold rhoO
  by_cases h1 : t = sb
  · rw [if_pos h1, if_pos h1]
  · rw [if_neg h1, if_neg h1, if_neg h, if_neg h]
end Go.Proofs.YtdlaphlpimlgdaaGreatDoor
