/- Stores: statements whose order is left open, in which a block is made beside calls, or one list grows. Stores: what is there while a store is run: the stock is told anew, a ship is unloaded. Stores: statements whose order is left open, whose last operation waits for all others, for some of them by way of others. -/
import Derived.Test.YtijjkiogmlannaaDoorRE
import Derived.Test.YtijjkiogmlannaaDoorU
namespace Go.Proofs.YtijjkiogmlannaaDoor
open Go.RowKit

def AllOps (Φ : Nat → Oper → Prop) : Nat → List Oper → Prop
  | _, [] => True
  | k, o :: r => Φ k o ∧ AllOps Φ (k + 1) r
theorem allOps_at {Φ : Nat → Oper → Prop} : ∀ {l : List Oper} {k : Nat}, AllOps Φ k l → ∀ i o, l[i]? = some o → Φ (k + i) o
  | [], _, _, i, o, hi => by simp at hi
  | p :: r, k, h, 0, o, hi => by
    have : p = o := by simpa using hi
    subst this
    exact h.1
  | p :: r, k, h, i + 1, o, hi => by
    have := allOps_at h.2 i o (by simpa using hi)
    rw [show k + (i + 1) = k + 1 + i by omega]
    exact this
theorem allOps_array {Φ : Nat → Oper → Prop} {l : List Oper} (h : AllOps Φ 0 l) : ∀ i o, l.toArray[i]? = some o → Φ i o := fun i o hi => by
  have := allOps_at h i o (by simpa using hi)
  rwa [Nat.zero_add] at this
theorem upd_true {done : Nat → Bool} {i j : Nat} (h : done j = true) : updB done i j = true := by
  unfold updB
  split
  · rfl
  · exact h
theorem heapszO {w : World} {B : Nat} {x : Obj} (h : w.heap[B]? = some x) : B < w.heap.size := (Array.getElem?_eq_some_iff.1 h).1
/-- An operation that leaves a fixed value, and the world as it is. -/
theorem relQ {P : Program} {w : World} {rels : List (Tmp × Nat)} {cv : Tmp → Value} {F : Nat → Value → World → Prop} {i : Nat} {o : Oper} {g : Nat → Value} {u : KeptW w} (d : Tmp) (hd : o.dst = some d) (hF : F i (cv d) u.w)
    (he : (execOp (evalBy (rhoT rels cv g)) o).run P u.w = .ok (.value (cv d)) u.w) :
    Yield P (fun v w' => Below u.w.heap.size u.w w' ∧ F i v w' ∧ ∀ d, o.dst = some d → relOf rels d = none → v = cv d) ((execOp (evalBy (rhoT rels cv g)) o).run P u.w) := by
  rw [he]
  exact ⟨Below.refl _ _, hF, fun e he' _ => by rw [hd] at he'; injection he' with he'; subst he'; rfl⟩
/-- A call. -/
theorem relC {P : Program} {w : World} {rels : List (Tmp × Nat)} {cv : Tmp → Value} {F : Nat → Value → World → Prop} {i : Nat} {o : Oper} {g : Nat → Value} {u : KeptW w} (f : FuncId) (args : Array Value)
    (he : (execOp (evalBy (rhoT rels cv g)) o).run P u.w = .ok (.enter f args) u.w)
    (hc : Calls P f args u.w fun e w' => ∃ v, e = .returned v ∧ Below u.w.heap.size u.w w' ∧ F i v w' ∧ ∀ d, o.dst = some d → relOf rels d = none → v = cv d) :
    Yield P (fun v w' => Below u.w.heap.size u.w w' ∧ F i v w' ∧ ∀ d, o.dst = some d → relOf rels d = none → v = cv d) ((execOp (evalBy (rhoT rels cv g)) o).run P u.w) := by
  rw [he]
  exact hc
/-- An operation that hands on what another one has left. -/
theorem relM {P : Program} {w : World} {rels : List (Tmp × Nat)} {cv : Tmp → Value} {F : Nat → Value → World → Prop} {i : Nat} {o : Oper} {g : Nat → Value} {u : KeptW w} (v : Value) (hF : F i v u.w) (hd : ∀ d, o.dst = some d → relOf rels d = none → v = cv d)
    (he : (execOp (evalBy (rhoT rels cv g)) o).run P u.w = .ok (.value v) u.w) :
    Yield P (fun v w' => Below u.w.heap.size u.w w' ∧ F i v w' ∧ ∀ d, o.dst = some d → relOf rels d = none → v = cv d) ((execOp (evalBy (rhoT rels cv g)) o).run P u.w) := by
  rw [he]
  exact ⟨Below.refl _ _, hF, hd⟩
/-- An operation that makes a block. -/
theorem relA {P : Program} {w : World} {rels : List (Tmp × Nat)} {cv : Tmp → Value} {F : Nat → Value → World → Prop} {i : Nat} {o : Oper} {g : Nat → Value} {u : KeptW w} (v : Value) (ob : Obj) (hr : ∀ d, o.dst = some d → relOf rels d ≠ none)
    (he : (execOp (evalBy (rhoT rels cv g)) o).run P u.w = .ok (.value v) (u.w.alloc ob)) (hF : F i v (u.w.alloc ob)) :
    Yield P (fun v w' => Below u.w.heap.size u.w w' ∧ F i v w' ∧ ∀ d, o.dst = some d → relOf rels d = none → v = cv d) ((execOp (evalBy (rhoT rels cv g)) o).run P u.w) := by
  rw [he]
  exact ⟨(Below.refl _ _).alloc (Nat.le_refl _) _, hF, fun d hd hn => absurd hn (hr d hd)⟩
/-- A call that leaves a fixed value. -/
theorem relK {P : Program} {w : World} {rels : List (Tmp × Nat)} {cv : Tmp → Value} {F : Nat → Value → World → Prop} {i : Nat} {o : Oper} {g : Nat → Value} {u : KeptW w} (d : Tmp) (hd : o.dst = some d) (hF : ∀ w', F i (cv d) w') (f : FuncId) (args : Array Value)
    (he : (execOp (evalBy (rhoT rels cv g)) o).run P u.w = .ok (.enter f args) u.w) (hc : Calls P f args u.w fun e w' => e = .returned (cv d) ∧ Below u.w.heap.size u.w w') :
    Yield P (fun v w' => Below u.w.heap.size u.w w' ∧ F i v w' ∧ ∀ d, o.dst = some d → relOf rels d = none → v = cv d) ((execOp (evalBy (rhoT rels cv g)) o).run P u.w) :=
  relC f args he (hc.mono fun e w' h => ⟨_, h.1, h.2, hF w', fun e hE _ => by rw [hd] at hE; injection hE with hE; subst hE; rfl⟩)
/-- One operation makes a block; what is known of it. -/
def mkF (j B : Nat) (f : Nat → Value) (T : TypeId) (cs : Array Value) : Nat → Value → World → Prop := fun i v w => i = j → ∃ g, v = f g ∧ B ≤ g ∧ w.heap[g]? = some (.cells cs T (0, 0))
theorem mkF_keep (j B : Nat) (f : Nat → Value) (T : TypeId) (cs : Array Value) (i : Nat) (v : Value) (w1 w2 : World) (h : mkF j B f T cs i v w1) (hb : Below w1.heap.size w1 w2) : mkF j B f T cs i v w2 := fun e => by
  obtain ⟨g, h1, h2, h3⟩ := h e
  exact ⟨g, h1, h2, (hb.block _ (heapsz h3)).trans h3⟩
theorem mkF_other {j B : Nat} {f : Nat → Value} {T : TypeId} {cs : Array Value} {i : Nat} {v : Value} {w : World} (h : i ≠ j) : mkF j B f T cs i v w := fun e => absurd e h
theorem mkF_new {j B : Nat} {f : Nat → Value} {T : TypeId} {cs : Array Value} {w : World} (h : B ≤ w.heap.size) : mkF j B f T cs j (f w.heap.size) (w.alloc (.cells cs T)) := fun _ => ⟨_, rfl, h, heap_alloc_new w _⟩

/-! ### One list grows -/

/-- What does. -/
structure GhE where
  c : Nat → Value
  b : Nat → Value
def updV (f : Nat → Value) (j : Nat) (v : Value) : Nat → Value := fun i => if i = j then v else f i
theorem updV_at (f : Nat → Value) (j : Nat) (v : Value) : updV f j v j = v := if_pos rfl
theorem updV_ne {f : Nat → Value} {i j : Nat} {v : Value} (h : i ≠ j) : updV f j v i = f i := if_neg h
theorem updB_at (f : Nat → Bool) (i : Nat) : updB f i i = true := if_pos rfl
theorem updB_ne {f : Nat → Bool} {i j : Nat} (h : j ≠ i) : updB f i j = f j := if_neg h
structure EnvL where
  wS : World
  base : Nat
  T : TypeId
  sz : Nat
  k : Nat
  v : Value
  xs : List Value
  ns : List Value
  ib : Nat
  ia : Nat
def curL (q : EnvL) (done : Nat → Bool) (g : GhE) : Value := if done q.ia = true then g.c 0 else q.v
def lenL (q : EnvL) (done : Nat → Bool) : Nat := if done q.ia = true then q.k + 1 else q.k
def rowL (q : EnvL) (done : Nat → Bool) : List Value := if done q.ia = true then q.xs ++ q.ns else q.xs
structure SL (q : EnvL) (done : Nat → Bool) (g : GhE) (w : World) : Prop where
  grown : q.wS.grownBy w q.v.ownBlock
  own : w.ownsRow q.base q.T q.sz (curL q done g) (lenL q done) (rowL q done)
  news : done q.ib = true → ∃ B, g.b 0 = .slice (some ⟨B, 0, none⟩) 1 1 ∧ w.heap[B]? = some (.cells q.ns.toArray q.T (0, 0)) ∧ (curL q done g).ownBlock ≠ some B
  fresh : (curL q done g).ownBlock = q.v.ownBlock ∨ ∃ B, (curL q done g).ownBlock = some B ∧ q.wS.heap.size ≤ B
  two : q.ib ≠ q.ia
  low : q.base ≤ q.wS.heap.size
theorem grownBy_trans {a b c : World} {row : Option Nat} (h : a.grownBy b row) (k : Below b.heap.size b c) : a.grownBy c row :=
  ⟨k.os.trans h.os, k.tape.trans h.tape, k.output.trans h.output, Nat.le_trans h.size k.size, fun i hi hr => (k.block i (Nat.lt_of_lt_of_le hi h.size)).trans (h.block i hi hr)⟩
theorem SL.below {q : EnvL} {done : Nat → Bool} {g : GhE} {w w' : World} (h : SL q done g w) (hb : Below w.heap.size w w') : SL q done g w' :=
  ⟨grownBy_trans h.grown hb, own_next h.own hb, fun hd => by
    obtain ⟨B, e1, e2, e3⟩ := h.news hd
    exact ⟨B, e1, (hb.block _ (Array.getElem?_eq_some_iff.1 e2).1).trans e2, e3⟩, h.fresh, h.two, h.low⟩
theorem SL.quiet {q : EnvL} {done : Nat → Bool} {g : GhE} {w : World} (h : SL q done g w) {i : Nat} (h1 : i ≠ q.ib) (h2 : i ≠ q.ia) : SL q (updB done i) g w := by
  have c1 : curL q (updB done i) g = curL q done g := by unfold curL; rw [updB_ne (Ne.symm h2)]
  have c2 : lenL q (updB done i) = lenL q done := by unfold lenL; rw [updB_ne (Ne.symm h2)]
  have c3 : rowL q (updB done i) = rowL q done := by unfold rowL; rw [updB_ne (Ne.symm h2)]
  refine ⟨h.grown, by rw [c1, c2, c3]; exact h.own, fun hd => ?_, by rw [c1]; exact h.fresh, h.two, h.low⟩
  rw [updB_ne (Ne.symm h1)] at hd
  rw [c1]
  exact h.news hd
theorem SL.build {q : EnvL} {done : Nat → Bool} {g : GhE} {w : World} (h : SL q done g w) : SL q (updB done q.ib) { g with b := updV g.b 0 (.slice (some ⟨w.heap.size, 0, none⟩) 1 1) } (w.alloc (.cells q.ns.toArray q.T)) := by
  have hb := (Below.refl w.heap.size w).alloc (Nat.le_refl _) (.cells q.ns.toArray q.T)
  have c1 : curL q (updB done q.ib) { g with b := updV g.b 0 (.slice (some ⟨w.heap.size, 0, none⟩) 1 1) } = curL q done g := by unfold curL; rw [updB_ne (Ne.symm h.two)]
  have c2 : lenL q (updB done q.ib) = lenL q done := by unfold lenL; rw [updB_ne (Ne.symm h.two)]
  have c3 : rowL q (updB done q.ib) = rowL q done := by unfold rowL; rw [updB_ne (Ne.symm h.two)]
  refine ⟨grownBy_trans h.grown hb, by rw [c1, c2, c3]; exact own_next h.own hb, fun _ => ⟨w.heap.size, by simp [updV], heap_alloc_new w _, fun hB => ?_⟩, by rw [c1]; exact h.fresh, h.two, h.low⟩
  rw [c1] at hB
  have := (h.own.lt _ hB).2
  omega
theorem SL.append {q : EnvL} {done : Nat → Bool} {g : GhE} {w w' : World} (h : SL q done g w) (hu : done q.ia = false) {v' : Value} (hv : w'.ownsRow q.base q.T q.sz v' (q.k + 1) (q.xs ++ q.ns)) (hg : w.grownBy w' q.v.ownBlock) (ho : v'.ownBlock = q.v.ownBlock ∨ v'.ownBlock = some w.heap.size) :
    SL q (updB done q.ia) { g with c := updV g.c 0 v' } w' := by
  have cj : curL q done g = q.v := by unfold curL; rw [hu]; rfl
  have cn : curL q (updB done q.ia) { g with c := updV g.c 0 v' } = v' := by unfold curL; rw [updB_at, if_pos rfl]; simp [updV]
  refine ⟨⟨hg.os.trans h.grown.os, hg.tape.trans h.grown.tape, hg.output.trans h.grown.output, Nat.le_trans h.grown.size hg.size, fun i hi hr => (hg.block i (Nat.lt_of_lt_of_le hi h.grown.size) hr).trans (h.grown.block i hi hr)⟩, ?_, fun hd => ?_, ?_, h.two, h.low⟩
  · rw [cn]
    unfold lenL rowL
    rw [updB_at, if_pos rfl, if_pos rfl]
    exact hv
  · rw [updB_ne h.two] at hd
    obtain ⟨B, e1, e2, e3⟩ := h.news hd
    rw [cj] at e3
    refine ⟨B, e1, (hg.block _ (Array.getElem?_eq_some_iff.1 e2).1 (fun e => e3 e.symm)).trans e2, ?_⟩
    rw [cn]
    rcases ho with ho | ho
    · rw [ho]; exact e3
    · rw [ho]
      intro e
      injection e with e
      have := (Array.getElem?_eq_some_iff.1 e2).1
      omega
  · rw [cn]
    rcases ho with ho | ho
    · exact .inl ho
    · exact .inr ⟨_, ho, h.grown.size⟩
theorem SL.start {w : World} {base : Nat} {T : TypeId} {sz k : Nat} {v : Value} {xs ns : List Value} {ib ia : Nat} {g : GhE} (ho : w.ownsRow base T sz v k xs) (hl : base ≤ w.heap.size) (hne : ib ≠ ia) : SL ⟨w, base, T, sz, k, v, xs, ns, ib, ia⟩ (fun _ => false) g { w with drawn := w.drawn + 1 } :=
  ⟨⟨rfl, rfl, rfl, Nat.le_refl _, fun _ _ _ => rfl⟩, own_next ho (Below.refl _ w).drew, fun hd => by simp at hd, .inl rfl, hne, hl⟩
/-- Behind all of them. -/
theorem SL.after {w1 w : World} {base : Nat} {T : TypeId} {sz k N : Nat} {v : Value} {xs ns : List Value} {ib ia : Nat} {g : GhE} (h : SL ⟨w1, base, T, sz, k, v, xs, ns, ib, ia⟩ (fun i => decide (i < N)) g w) (hia : ia < N) :
    w1.grownBy w v.ownBlock ∧ w.ownsRow base T sz (g.c 0) (k + 1) (xs ++ ns) ∧ ((g.c 0).ownBlock = v.ownBlock ∨ ∃ B, (g.c 0).ownBlock = some B ∧ w1.heap.size ≤ B) := by
  have hd : (fun i => decide (i < N)) ia = true := by simpa using hia
  have ho := h.own
  have hf := h.fresh
  unfold curL lenL rowL at ho
  unfold curL at hf
  simp only [hd, if_true] at ho hf
  exact ⟨h.grown, ho, hf⟩
/-- What is asked of an operation. -/
abbrev AskL (q : EnvL) (ops : Array Oper) (ρ : GhE → Tmp → Value) (done : Nat → Bool) (g : GhE) (w : World) (i : Nat) (o : Oper) : Prop :=
  Region.wanted o (yieldedBy ops (ρ g)) = true ∧ Yield Tryd.prog (fun v w' => ∃ g', SL q (updB done i) g' w' ∧ (∀ d, o.dst = some d → ρ g' d = v) ∧ ∀ t, o.dst ≠ some t → ρ g' t = ρ g t) ((execOp (evalBy (ρ g)) o).run Tryd.prog w)
theorem quietL {q : EnvL} {ops : Array Oper} {done : Nat → Bool} {g : GhE} {w : World} {ρ : GhE → Tmp → Value} {i : Nat} {o : Oper} (h : SL q done g w) (d : Tmp) (hd : o.dst = some d) (h1 : i ≠ q.ib) (h2 : i ≠ q.ia) (hg : Region.wanted o (yieldedBy ops (ρ g)) = true)
    (he : (execOp (evalBy (ρ g)) o).run Tryd.prog w = .ok (.value (ρ g d)) w) : AskL q ops ρ done g w i o := by
  refine ⟨hg, ?_⟩
  rw [he]
  exact ⟨g, h.quiet h1 h2, fun e hE => by rw [hd] at hE; injection hE with hE; subst hE; rfl, fun _ _ => rfl⟩
theorem callL {q : EnvL} {ops : Array Oper} {done : Nat → Bool} {g : GhE} {w : World} {ρ : GhE → Tmp → Value} {i : Nat} {o : Oper} (h : SL q done g w) (d : Tmp) (hd : o.dst = some d) (h1 : i ≠ q.ib) (h2 : i ≠ q.ia) (hg : Region.wanted o (yieldedBy ops (ρ g)) = true) (f : FuncId) (args : Array Value)
    (he : (execOp (evalBy (ρ g)) o).run Tryd.prog w = .ok (.enter f args) w) (hc : Calls Tryd.prog f args w fun e w' => e = .returned (ρ g d) ∧ Below w.heap.size w w') : AskL q ops ρ done g w i o := by
  refine ⟨hg, ?_⟩
  rw [he]
  show Calls Tryd.prog f args w _
  refine hc.mono ?_
  rintro e w' ⟨rfl, hb⟩
  exact ⟨_, rfl, g, (h.below hb).quiet h1 h2, fun e hE => by rw [hd] at hE; injection hE with hE; subst hE; rfl, fun _ _ => rfl⟩
set_option maxRecDepth 100000 in
theorem buildL {q : EnvL} {ops : Array Oper} {done : Nat → Bool} {g : GhE} {w : World} {ρ : GhE → Tmp → Value} {i : Nat} {o : Oper} (h : SL q done g w) (d : Tmp) (hd : o.dst = some d) (hi : i = q.ib) (hg : Region.wanted o (yieldedBy ops (ρ g)) = true)
    (he : (execOp (evalBy (ρ g)) o).run Tryd.prog w = .ok (.value (.slice (some ⟨w.heap.size, 0, none⟩) 1 1)) (w.alloc (.cells q.ns.toArray q.T)))
    (h1 : ∀ g' : GhE, ρ g' d = g'.b 0) (h2 : ∀ (t : Tmp) (b' : Nat → Value), t ≠ d → ρ { g with b := b' } t = ρ g t) : AskL q ops ρ done g w i o := by
  subst hi
  refine ⟨hg, ?_⟩
  rw [he]
  exact ⟨_, h.build, fun e hE => by rw [hd] at hE; injection hE with hE; subst hE; rw [h1]; simp [updV], fun t ht => h2 t _ (fun e => ht (by rw [hd, e]))⟩
set_option maxRecDepth 100000 in
theorem appendL {q : EnvL} {ops : Array Oper} {done : Nat → Bool} {g : GhE} {w : World} {ρ : GhE → Tmp → Value} {i : Nat} {o : Oper} (h : SL q done g w) (d : Tmp) (hd : o.dst = some d) (hi : i = q.ia) (hu : done i = false) (hb : done q.ib = true) (hg : Region.wanted o (yieldedBy ops (ρ g)) = true)
    (s x : Tmp) (ST : TypeId) (ho : o.op = .call { callee := .builtin .append, args := #[.tmp s, .tmp x], argTypes := #[ST, ST] }) (hs : ρ g s = q.v) (hx : ρ g x = g.b 0)
    (i0 : TypeInfo) (z : Value) (bytes : Nat) (ht : Tryd.prog.underlying ST = some (.slice q.T)) (hi0 : Tryd.prog.info? q.T = some i0) (hz : i0.zero = some z) (hsz : i0.size = q.sz) (hby : i0.bytes = bytes) (hzs : z.cells.size = q.sz) (hs0 : 0 < q.sz) (hl : q.ns.length = q.sz) (hone : ∀ u ∈ q.ns, u.oneCell' = true) (hk : q.k + 1 ≤ maxLen) (hbb : (q.k + 1) * bytes ≤ 140737488355328)
    (h1 : ∀ g' : GhE, ρ g' d = g'.c 0) (h2 : ∀ (t : Tmp) (c' : Nat → Value), t ≠ d → ρ { g with c := c' } t = ρ g t) : AskL q ops ρ done g w i o := by
  subst hi
  obtain ⟨B, e1, e2, e3⟩ := h.news hb
  have oj := h.own
  have cj : curL q done g = q.v := by unfold curL; rw [hu]; rfl
  have lj : lenL q done = q.k := by unfold lenL; rw [hu]; rfl
  have rj : rowL q done = q.xs := by unfold rowL; rw [hu]; rfl
  rw [cj, lj, rj] at oj
  obtain ⟨v', w', hr, a1, a2, _, a4⟩ := run_append_own_at (P := Tryd.prog) w q.base ST o.type q.T i0 z q.sz bytes ht hi0 hz hsz hby hzs hs0 q.v q.k q.xs oj ⟨B, 0, none⟩ 1 1 q.ns (by rw [hl]; omega)
    (fun a u hu' => by
      have := cell_of_row w B a _ q.T (0, 0) e2
      rw [show (⟨B, 0, none⟩ : Addr).add a = ⟨B, a, none⟩ by unfold Addr.add; split <;> simp_all, this]
      simpa using hu') hone hk hbb (Nat.le_trans h.low h.grown.size)
  have he : (execOp (evalBy (ρ g)) o).run Tryd.prog w = .ok (.value v') w' := by
    have e2' : evalBy (ρ g) (.tmp s) = q.v := hs
    have e3' : evalBy (ρ g) (.tmp x) = .slice (some ⟨B, 0, none⟩) 1 1 := hx.trans e1
    unfold execOp
    simp only [ho, resolve, invoke, builtin, Sem.run_bind, Sem.run_pure, Result.andThen_ok, List.map_toArray, List.map_cons, List.map_nil, e2', e3', hr]
  refine ⟨hg, ?_⟩
  rw [he]
  exact ⟨_, h.append hu a1 a2 a4, fun e hE => by rw [hd] at hE; injection hE with hE; subst hE; rw [h1]; simp [updV], fun t ht => h2 t _ (fun e => ht (by rw [hd, e]))⟩
/-- A cell of another block. -/
theorem SL.cell {q : EnvL} {done : Nat → Bool} {g : GhE} {w : World} (h : SL q done g w) {b o : Nat} (hb : b < q.wS.heap.size) (hne : some b ≠ q.v.ownBlock) : w.cell? ⟨b, o, none⟩ = q.wS.cell? ⟨b, o, none⟩ :=
  World.cell?_of_block (h.grown.block b hb hne)
/-- The slots: one holds the new element, one the longer list. -/
def rhoO (sb sa : Tmp) (cv : Tmp → Value) (g : GhE) (t : Tmp) : Value := if t = sb then g.b 0 else if t = sa then g.c 0 else cv t
theorem rhoO_b {sb sa : Tmp} {cv : Tmp → Value} {g : GhE} (t : Tmp) (b' : Nat → Value) (h : t ≠ sb) : rhoO sb sa cv { g with b := b' } t = rhoO sb sa cv g t := by
  unfold rhoO
  rw [if_neg h, if_neg h]
theorem rhoO_c {sb sa : Tmp} {cv : Tmp → Value} {g : GhE} (t : Tmp) (c' : Nat → Value) (h : t ≠ sa) : rhoO sb sa cv { g with c := c' } t = rhoO sb sa cv g t := by
  unfold rhoO
  by_cases h1 : t = sb
  · rw [if_pos h1, if_pos h1]
  · rw [if_neg h1, if_neg h1, if_neg h, if_neg h]
end Go.Proofs.YtijjkiogmlannaaDoor

namespace Go.Proofs.YtijjkiogmlannaaDoor
open Go.RowKit

variable {C : RC} {st st' : Gd} {ld : List Gd} {W : List Nat} {ss ls : List Gd} {qv sv lv : Value} {w : World}
/-- Another memory, in which only cells of one block are told anew. -/
theorem RunAt.only {w' : World} {B : Nat} {ld' : List Gd} {st' : Gd} (h : RunAt C st ld W ss ls qv sv lv w) (hB : C.w0.heap.size ≤ B) (ho : w'.os = w.os ∧ w'.tape = w.tape ∧ w'.output = w.output ∧ w'.heap.size = w.heap.size) (hk : ∀ b, b ≠ B → w'.heap[b]? = w.heap[b]?)
    (hq : ∀ cs, w.heap[B]? ≠ some (.cells cs 3 (0, 0))) (hs : sv.ownBlock ≠ some B) (hl : lv.ownBlock ≠ some B) (hbox : w'.heap[C.R]? = some (.cells (C.cells st' qv sv lv) 99 (0, 0))) (hlnd : w'.heap[C.D]? = some (.cells (flatR gR ld').toArray 23 (0, 0))) (hld : ld'.length = C.X.ns) (hx : ∀ x ∈ C.fx, x.1 ≠ B) :
    RunAt C st' ld' W ss ls qv sv lv w' :=
  ⟨⟨ho.1.trans h.bel.os, ho.2.1.trans h.bel.tape, ho.2.2.1.trans h.bel.output, by rw [ho.2.2.2]; exact h.bel.size, fun k hk' => (hk k (by omega)).trans (h.bel.block k hk')⟩, hbox, hlnd, hld,
   h.q.keep fun b cs _ hc _ => hk b fun e => hq cs (by rw [← e]; exact hc), own_of_blocks h.so fun b hb => hk b fun e => hs (by rw [hb, e]), own_of_blocks h.lo fun b hb => hk b fun e => hl (by rw [hb, e]), h.sd, h.lD, h.sl, fun x hm => (hk x.1 (hx x hm)).trans (h.fix x hm)⟩
theorem run_types (h : RunAt C st ld W ss ls qv sv lv w) : C.R ≠ C.D ∧ sv.ownBlock ≠ some C.R ∧ lv.ownBlock ≠ some C.R := by
  refine ⟨fun e => ?_, fun e => ?_, fun e => ?_⟩
  · have h2 := h.lnd
    rw [← e, h.box] at h2
    injection h2 with h2
    injection h2 with _ h2 _
    exact absurd h2 (by decide)
  · obtain ⟨_, cur, hc⟩ := own_at h.so e
    rw [h.box] at hc
    injection hc with hc
    injection hc with _ hc _
    exact absurd hc (by decide)
  · obtain ⟨_, cur, hc⟩ := own_at h.lo e
    rw [h.box] at hc
    injection hc with hc
    injection hc with _ hc _
    exact absurd hc (by decide)
theorem fix_ne (K : C.Ok) (h : RunAt C st ld W ss ls qv sv lv w) {x : Nat × Array Value × TypeId} (hx : x ∈ C.fx) : x.1 ≠ C.R ∧ x.1 ≠ C.D := by
  have h2 := h.fix x hx
  refine ⟨fun e => ?_, fun e => ?_⟩
  · rw [e, h.box] at h2
    injection h2 with h2
    injection h2 with _ h2 _
    exact (K.fx x hx).2.2 h2.symm
  · rw [e, h.lnd] at h2
    injection h2 with h2
    injection h2 with _ h2 _
    exact (K.fx x hx).2.1 h2.symm
theorem set3_only (w : World) (B k : Nat) (x y z : Value) : let w' := ((w.setCell ⟨B, k, none⟩ x).setCell ⟨B, k + 1, none⟩ y).setCell ⟨B, k + 2, none⟩ z
    (w'.os = w.os ∧ w'.tape = w.tape ∧ w'.output = w.output ∧ w'.heap.size = w.heap.size) ∧ ∀ b, b ≠ B → w'.heap[b]? = w.heap[b]? := by
  refine ⟨⟨rfl, rfl, rfl, by simp [World.setCell]⟩, fun b hb => ?_⟩
  exact (Below.heap_setCell _ _ _ _ hb).trans ((Below.heap_setCell _ _ _ _ hb).trans (Below.heap_setCell _ _ _ _ hb))
theorem RunAt.stock (K : C.Ok) (h : RunAt C st ld W ss ls qv sv lv w) (st' : Gd) :
    RunAt C st' ld W ss ls qv sv lv (((w.setCell ⟨C.R, 0, none⟩ (.int .i64 st'.a)).setCell ⟨C.R, 1, none⟩ (.int .i64 st'.b)).setCell ⟨C.R, 2, none⟩ (.int .i64 st'.c)) := by
  obtain ⟨t1, t2, t3⟩ := run_types h
  obtain ⟨o1, o2⟩ := set3_only w C.R 0 (.int .i64 st'.a) (.int .i64 st'.b) (.int .i64 st'.c)
  refine h.only K.R o1 o2 (fun cs e => ?_) t2 t3 (blk_set (blk_set (blk_set h.box 0 _) 1 _) 2 _) ((o2 _ (Ne.symm t1)).trans h.lnd) h.ldl (fun x hx => (fix_ne K h hx).1)
  rw [h.box] at e
  injection e with e
  injection e with _ e _
  exact absurd e (by decide)
theorem flat_set (g : Gd) : ∀ (ld : List Gd) (j : Nat), flatR gR (ld.set j g) = (((flatR gR ld).set (j * 3) (.int .i64 g.a)).set (j * 3 + 1) (.int .i64 g.b)).set (j * 3 + 2) (.int .i64 g.c) ∨ ld.length ≤ j
  | [], _ => .inr (Nat.zero_le _)
  | x :: l, 0 => .inl rfl
  | x :: l, j + 1 => by
    rcases flat_set g l j with h | h
    · left
      have e : ∀ l' : List Gd, flatR gR (x :: l') = .int .i64 x.a :: .int .i64 x.b :: .int .i64 x.c :: flatR gR l' := fun _ => rfl
      rw [List.set_cons_succ, e, e, h, show (j + 1) * 3 = j * 3 + 3 by omega]
      rfl
    · exact .inr (by simpa using h)
theorem RunAt.land (K : C.Ok) (h : RunAt C st ld W ss ls qv sv lv w) {j : Nat} (hj : j < C.X.ns) (g : Gd) :
    RunAt C st (ld.set j g) W ss ls qv sv lv (((w.setCell ⟨C.D, j * 3, none⟩ (.int .i64 g.a)).setCell ⟨C.D, j * 3 + 1, none⟩ (.int .i64 g.b)).setCell ⟨C.D, j * 3 + 2, none⟩ (.int .i64 g.c)) := by
  obtain ⟨t1, t2, t3⟩ := run_types h
  obtain ⟨o1, o2⟩ := set3_only w C.D (j * 3) (.int .i64 g.a) (.int .i64 g.b) (.int .i64 g.c)
  refine h.only K.D o1 o2 (fun cs e => ?_) h.sd h.lD ((o2 _ t1).trans h.box) ?_ (by rw [List.length_set]; exact h.ldl) (fun x hx => (fix_ne K h hx).2)
  · rw [h.lnd] at e
    injection e with e
    injection e with _ e _
    exact absurd e (by decide)
  · rw [blk_set (blk_set (blk_set h.lnd (j * 3) _) (j * 3 + 1) _) (j * 3 + 2) _]
    rcases flat_set g ld j with e | e
    · rw [e]
      congr 2
      apply Array.ext'
      simp
    · rw [h.ldl] at e
      omega
end Go.Proofs.YtijjkiogmlannaaDoor

namespace Go
open Go.RowKit
section
variable {P : Program} {C : World → Prop} {l : List Oper} {o : Oper}

/-- Whether the last operation waits for one, by way of so many others at most. -/
def needsB (l : List Oper) (o : Oper) : Nat → Nat → Bool
  | 0, i => o.after.any fun e => Region.binds .any e && e.on == i
  | n + 1, i => needsB l o n i || (List.range l.length).any fun k => needsB l o n k && (l[k]?).any fun p => p.after.any fun e => Region.binds .any e && e.on == i
def tailXB (l : List Oper) (o : Oper) : Bool :=
  o.guard.isNone && ((List.range l.length).all fun i => needsB l o 3 i) && (o.after.all fun e => !Region.binds .any e || decide (e.on < l.length)) &&
  ((List.range l.length).all fun i => (l[i]?).all fun p => (p.after.all fun e => !Region.binds .any e || decide (e.on < i)) && (p.guard.all fun g => decide (g.1 < i)))
structure TailX (l : List Oper) (o : Oper) : Prop where
  noGuard : o.guard = none
  waits : ∀ i, i < l.length → needsB l o 3 i = true
  below : ∀ e ∈ o.after, Region.binds .any e = true → e.on < l.length
  early : ∀ i p, l[i]? = some p → (∀ e ∈ p.after, Region.binds .any e = true → e.on < i) ∧ ∀ g, p.guard = some g → g.1 < i
theorem rkt_tail_okX (h : tailXB l o = true) : TailX l o := by
  simp only [tailXB, Bool.and_eq_true] at h
  obtain ⟨⟨⟨h1, h2⟩, h3⟩, h4⟩ := h
  refine ⟨by simpa using h1, fun i hi => List.all_eq_true.1 h2 i (List.mem_range.2 hi), fun e he hb => ?_, fun i p hp => ?_⟩
  · have := Array.all_eq_true'.1 h3 e he
    rw [hb] at this
    simpa using this
  · have hi : i < l.length := (List.getElem?_eq_some_iff.1 hp).1
    have := List.all_eq_true.1 h4 i (List.mem_range.2 hi)
    rw [hp, Option.all_some, Bool.and_eq_true] at this
    obtain ⟨t1, t2⟩ := this
    refine ⟨fun e he hb => ?_, fun g hg => ?_⟩
    · have := Array.all_eq_true'.1 t1 e he
      rw [hb] at this
      simpa using this
    · rw [hg] at t2
      simpa using t2
/-- What is listed comes with all that it waits for. -/
def ClA (l : List Oper) (A : Array Bool) : Prop := ∀ i p, l[i]? = some p → A.getD i false = true → ∀ e ∈ p.after, Region.binds .any e = true → A.getD e.on false = true
theorem cl_start (l : List Oper) : ClA l (Array.replicate l.length false) := fun i p hp h => by
  have hi : i < l.length := (List.getElem?_eq_some_iff.1 hp).1
  simp [Array.getD_eq_getD_getElem?, hi] at h
theorem cl_set {A : Array Bool} (hA : A.size = l.length) (h : ClA l A) {i : Nat} (hi : i ∈ Region.ready .any l.toArray A) : ClA l (A.setIfInBounds i true) := by
  have up : ∀ k, A.getD k false = true → (A.setIfInBounds i true).getD k false = true := fun k hk => by
    simp only [Array.getD_eq_getD_getElem?, Array.getElem?_setIfInBounds] at hk ⊢
    by_cases e : i = k
    · subst e
      by_cases hs : i < A.size
      · simp [hs]
      · simp [hs]
        rw [Array.getElem?_eq_none (by omega)] at hk
        simp at hk
    · rw [if_neg e]
      exact hk
  obtain ⟨_, _, q, hq, h3⟩ := rkt_ready_mem.1 hi
  intro k p hp hk e he hb
  by_cases e1 : i = k
  · subst e1
    have : q = p := by
      have h5 : l[i]? = some q := by simpa using hq
      rw [hp] at h5
      exact (Option.some.inj h5).symm
    subst this
    exact up _ (h3 e he hb)
  · refine up _ (h k p hp ?_ e he hb)
    simp only [Array.getD_eq_getD_getElem?, Array.getElem?_setIfInBounds] at hk ⊢
    rw [if_neg e1] at hk
    exact hk
theorem needs_in {A : Array Bool} (hcl : ClA l A) (hd : ∀ e ∈ o.after, Region.binds .any e = true → A.getD e.on false = true) : ∀ n i, needsB l o n i = true → A.getD i false = true
  | 0, i, h => by
    obtain ⟨e, he, hb⟩ := Array.any_eq_true'.1 h
    rw [Bool.and_eq_true] at hb
    have h2 : e.on = i := by simpa using hb.2
    rw [← h2]
    exact hd e he hb.1
  | n + 1, i, h => by
    unfold needsB at h
    rw [Bool.or_eq_true] at h
    rcases h with h | h
    · exact needs_in hcl hd n i h
    · obtain ⟨k, _, hk⟩ := List.any_eq_true.1 h
      rw [Bool.and_eq_true] at hk
      have hA := needs_in hcl hd n k hk.1
      cases hp : l[k]? with
      | none => rw [hp] at hk; exact absurd hk.2 (by simp)
      | some p =>
        rw [hp, Option.any_some] at hk
        obtain ⟨e, he, hb⟩ := Array.any_eq_true'.1 hk.2
        rw [Bool.and_eq_true] at hb
        have h2 : e.on = i := by simpa using hb.2
        rw [← h2]
        exact hcl k p hp hA e he hb.1

theorem rkt_ready_lowX (T : TailX l o) {A : Array Bool} (hA : A.size = l.length) (b : Bool) {i : Nat} (hi : i < l.length) : i ∈ Region.ready .any (l ++ [o]).toArray (A.push b) ↔ i ∈ Region.ready .any l.toArray A := by
  rw [rkt_ready_mem, rkt_ready_mem, rkt_ops_at hi, rkt_push_getD hA b true hi]
  refine and_congr (by simp; omega) (and_congr Iff.rfl ⟨?_, ?_⟩)
  · rintro ⟨p, hp, h⟩
    refine ⟨p, hp, fun e he hb => ?_⟩
    have := (T.early i p (by simpa using hp)).1 e he hb
    rw [← rkt_push_getD hA b false (by omega : e.on < l.length)]
    exact h e he hb
  · rintro ⟨p, hp, h⟩
    refine ⟨p, hp, fun e he hb => ?_⟩
    have := (T.early i p (by simpa using hp)).1 e he hb
    rw [rkt_push_getD hA b false (by omega : e.on < l.length)]
    exact h e he hb

theorem rkt_allIn_of_lastX (T : TailX l o) {A : Array Bool} (hA : A.size = l.length) (hcl : ClA l A) {b : Bool} (h : l.length ∈ Region.ready .any (l ++ [o]).toArray (A.push b)) : AllIn l A := by
  intro i hi
  obtain ⟨_, _, p, hp, h3⟩ := rkt_ready_mem.1 h
  rw [rkt_ops_last] at hp
  injection hp with hp
  subst hp
  exact needs_in hcl (fun e he hb => by rw [← rkt_push_getD hA b false (T.below e he hb)]; exact h3 e he hb) 3 i (T.waits i hi)
theorem rkt_ready_nil_iffX (T : TailX l o) {A : Array Bool} (hA : A.size = l.length) : Region.ready .any l.toArray A = [] ↔ AllIn l A := by
  constructor
  · intro h i
    induction i using Nat.strongRecOn with
    | ind i ih =>
      intro hi
      cases hb : A.getD i false with
      | true => rfl
      | false =>
        exfalso
        have hm : i ∈ Region.ready .any l.toArray A := by
          obtain ⟨p, hp⟩ : ∃ p, l[i]? = some p := ⟨_, List.getElem?_eq_getElem hi⟩
          refine rkt_ready_mem.2 ⟨by simpa using hi, by rw [rkt_getD_both hA hi true false]; exact hb, p, by simpa using hp, fun e he hbb => ?_⟩
          have := (T.early i p hp).1 e he hbb
          exact ih _ this (by omega)
        rw [h] at hm
        simp at hm
  · intro h
    cases hr : Region.ready .any l.toArray A with
    | nil => rfl
    | cons i rs =>
      exfalso
      have hm : i ∈ Region.ready .any l.toArray A := by rw [hr]; simp
      obtain ⟨h1, h2, _⟩ := rkt_ready_mem.1 hm
      have hi : i < l.length := by simpa using h1
      rw [rkt_getD_both hA hi true false, h i hi] at h2
      exact absurd h2 (by decide)
theorem rkt_last_readyX (T : TailX l o) {A : Array Bool} (hA : A.size = l.length) (h : AllIn l A) : l.length ∈ Region.ready .any (l ++ [o]).toArray (A.push false) := by
  refine rkt_ready_mem.2 ⟨by simp, rkt_push_getD_at hA false true, o, rkt_ops_last, fun e he hb => ?_⟩
  have := T.below e he hb
  rw [rkt_push_getD hA false false this]
  exact h _ this
theorem rkt_ready_doneX (_T : TailX l o) {A : Array Bool} (hA : A.size = l.length) (h : AllIn l A) : Region.ready .any (l ++ [o]).toArray (A.push true) = [] := by
  cases hr : Region.ready .any (l ++ [o]).toArray (A.push true) with
  | nil => rfl
  | cons i rs =>
    exfalso
    have hm : i ∈ Region.ready .any (l ++ [o]).toArray (A.push true) := by rw [hr]; simp
    obtain ⟨h1, h2, _⟩ := rkt_ready_mem.1 hm
    have hi : i < l.length + 1 := by simpa using h1
    by_cases hl : i < l.length
    · rw [rkt_push_getD hA true true hl, rkt_getD_both hA hl true false, h i hl] at h2
      exact absurd h2 (by decide)
    · have : i = l.length := by omega
      subst this
      rw [rkt_push_getD_at hA] at h2
      exact absurd h2 (by decide)
theorem rkt_wanted_atX (T : TailX l o) {tmps : Array Value} {i : Nat} {p : Oper} (hp : l[i]? = some p) : Region.wanted p (yielded (l ++ [o]).toArray tmps) = Region.wanted p (yielded l.toArray tmps) := by
  have hi : i < l.length := (List.getElem?_eq_some_iff.1 hp).1
  unfold Region.wanted
  cases hg : p.guard with
  | none => rfl
  | some g =>
    obtain ⟨j, b⟩ := g
    have := (T.early i p hp).2 _ hg
    simp only
    rw [rkt_yielded_at (by omega : j < l.length)]
theorem rkt_wpOp_lowX (T : TailX l o) {Q : Exit → Act → World → Prop} {i : Nat} (hi : i < l.length) {K : Act → World → Prop} {a : Act} {w : World} (h : wpOp P l.toArray Q i K a w) : wpOp P (l ++ [o]).toArray Q i K a w := by
  obtain ⟨p, hp⟩ : ∃ p, l[i]? = some p := ⟨_, List.getElem?_eq_getElem hi⟩
  have hp' : (l.toArray)[i]? = some p := by simpa using hp
  unfold wpOp at *
  rw [rkt_ops_at hi]
  simp only [hp'] at h ⊢
  rw [rkt_wanted_atX T hp]
  exact h

theorem rkt_wp_lastX (T : TailX l o) {Q : Exit → Act → World → Prop} {A : Array Bool} (hA : A.size = l.length) (h : AllIn l A) (n : Nat) {a : Act} {w : World} (hw : C w) (hl : LastOk P C o Q a) :
    wpOp P (l ++ [o]).toArray Q l.length (wpAny P .any (l ++ [o]).toArray Q n ((A.push false).setIfInBounds l.length true)) a w := by
  unfold wpOp
  simp only [rkt_ops_last]
  have hwant : Region.wanted o (yielded (l ++ [o]).toArray a.tmps) = true := by unfold Region.wanted; rw [T.noGuard]
  rw [hwant, if_pos rfl, rkt_push_set_at hA]
  refine .inl (Oper.wp_mono (fun a' w' hq => ?_) (hl w hw))
  have hd := rkt_ready_doneX T hA h
  cases n with
  | zero => exact ⟨hd, hq⟩
  | succ n => exact ⟨fun _ => hq, fun i hi => by rw [hd] at hi; simp at hi⟩

theorem rkt_wpAny_tailX (T : TailX l o) {Q : Exit → Act → World → Prop} : ∀ (fuel : Nat) (A : Array Bool) (a : Act) (w : World), A.size = l.length → ClA l A → C w →
    wpAnyQ P .any l.toArray C (LastOk P C o Q) fuel A a → wpAny P .any (l ++ [o]).toArray Q (fuel + 1) (A.push false) a w
  | 0, A, a, w, hA, hcl, hw, h => by
    have hall := (rkt_ready_nil_iffX T hA).1 h.1
    refine ⟨fun h0 => ?_, fun i hi => ?_⟩
    · have := rkt_last_readyX T hA hall
      rw [h0] at this
      simp at this
    · by_cases hl : i < l.length
      · have := (rkt_ready_lowX T hA false hl).1 hi
        rw [h.1] at this
        simp at this
      · have hs : i < l.length + 1 := by simpa using (rkt_ready_mem.1 hi).1
        have : i = l.length := by omega
        subst this
        exact rkt_wp_lastX T hA hall 0 hw h.2
  | fuel + 1, A, a, w, hA, hcl, hw, h => by
    refine ⟨fun h0 => ?_, fun i hi => ?_⟩
    · have hn : Region.ready .any l.toArray A = [] := by
        cases hr : Region.ready .any l.toArray A with
        | nil => rfl
        | cons i rs =>
          exfalso
          have hm : i ∈ Region.ready .any l.toArray A := by rw [hr]; simp
          have := (rkt_ready_lowX T hA false (by simpa using (rkt_ready_mem.1 hm).1)).2 hm
          rw [h0] at this
          simp at this
      have := rkt_last_readyX T hA ((rkt_ready_nil_iffX T hA).1 hn)
      rw [h0] at this
      simp at this
    · by_cases hl : i < l.length
      · refine rkt_wpOp_lowX T hl ?_
        rw [rkt_push_set hA false true hl]
        exact wpOp_of_qOp hw (fun a' w' hw' => rkt_wpAny_tailX T fuel _ a' w' (by simpa using hA) (cl_set hA hcl ((rkt_ready_lowX T hA false hl).1 hi)) hw') (h.2 i ((rkt_ready_lowX T hA false hl).1 hi))
      · have hs : i < l.length + 1 := by simpa using (rkt_ready_mem.1 hi).1
        have : i = l.length := by omega
        subst this
        have hall := rkt_allIn_of_lastX T hA hcl hi
        exact rkt_wp_lastX T hA hall _ hw (h.1 ((rkt_ready_nil_iffX T hA).2 hall))

/-- **One walk over the others, and the last one behind it, serves every order.** -/
theorem rk_tailX {id : Nat} {ops : List Oper} (l : List Oper) (o : Oper) (hs : ops = l ++ [o]) {Q : Exit → Act → World → Prop} {a : Act} {w : World} (hm : P.follows .mixedOrders = true) (hB : Region.lexB .any l.toArray = true) (hT : tailXB l o = true)
    (hC : C { w with drawn := w.drawn + 1 }) (h : wpQuiet P l.toArray C (LastOk P C o Q) l a) : (Code.region id ops.toArray true).wp P Q a w := by
  subst hs
  simp only [Region.lexB, Bool.and_eq_true] at hB
  have h1 := wpAnyQ_lex (P := P) (C := C) (md := .any) (ops := l.toArray) hB.1 l 0 (Array.replicate l.length false) a (by simp) (by simpa using hB.2) h
  have h2 := rkt_wpAny_tailX (rkt_tail_okX hT) l.length (Array.replicate l.length false) a { w with drawn := w.drawn + 1 } (by simp) (cl_start l) hC h1
  refine wp_region_any hm ?_
  have e1 : (l ++ [o]).toArray.size = l.length + 1 := by simp
  rw [e1, Array.replicate_succ]
  exact h2
/-- The last operation waits for all others: the others in any order, and the last one behind them. -/
theorem tail_anyX {l : List Oper} {o : Oper} (T : TailX l o) {Q : Exit → Act → World → Prop} : ∀ (fuel : Nat) (A : Array Bool) (a : Act) (w : World), A.size = l.length → ClA l A →
    wpAny P .any l.toArray (QT P o Q) fuel A a w → wpAny P .any (l ++ [o]).toArray Q (fuel + 1) (A.push false) a w
  | 0, A, a, w, hA, hcl, h => by
    have hall := (rkt_ready_nil_iffX T hA).1 h.1
    refine ⟨fun h0 => ?_, fun i hi => ?_⟩
    · have := rkt_last_readyX T hA hall
      rw [h0] at this
      simp at this
    · by_cases hl : i < l.length
      · have := (rkt_ready_lowX T hA false hl).1 hi
        rw [h.1] at this
        simp at this
      · have hs : i < l.length + 1 := by simpa using (rkt_ready_mem.1 hi).1
        have : i = l.length := by omega
        subst this
        exact rkt_wp_lastX (C := fun w' => w' = w) T hA hall 0 rfl (fun w' e => by subst e; exact h.2)
  | fuel + 1, A, a, w, hA, hcl, h => by
    refine ⟨fun h0 => ?_, fun i hi => ?_⟩
    · have hn : Region.ready .any l.toArray A = [] := by
        cases hr : Region.ready .any l.toArray A with
        | nil => rfl
        | cons i rs =>
          exfalso
          have hm : i ∈ Region.ready .any l.toArray A := by rw [hr]; simp
          have := (rkt_ready_lowX T hA false (by simpa using (rkt_ready_mem.1 hm).1)).2 hm
          rw [h0] at this
          simp at this
      have := rkt_last_readyX T hA ((rkt_ready_nil_iffX T hA).1 hn)
      rw [h0] at this
      simp at this
    · by_cases hl : i < l.length
      · refine rkt_wpOp_lowX T hl ?_
        rw [rkt_push_set hA false true hl]
        exact wpOp_mono (fun a' w' hh => tail_anyX T fuel _ a' w' (by simpa using hA) (cl_set hA hcl ((rkt_ready_lowX T hA false hl).1 hi)) hh) (QT_op (h.2 i ((rkt_ready_lowX T hA false hl).1 hi)))
      · have hs : i < l.length + 1 := by simpa using (rkt_ready_mem.1 hi).1
        have : i = l.length := by omega
        subst this
        have hall := rkt_allIn_of_lastX T hA hcl hi
        exact rkt_wp_lastX (C := fun w' => w' = w) T hA hall _ rfl (fun w' e => by subst e; exact h.1 ((rkt_ready_nil_iffX T hA).2 hall))
theorem tail_regionX {id : Nat} {ops : List Oper} (l : List Oper) (o : Oper) (hs : ops = l ++ [o]) {Q : Exit → Act → World → Prop} {a : Act} {w : World} (hm : P.follows .mixedOrders = true) (hT : tailXB l o = true)
    (h : wpAny P .any l.toArray (QT P o Q) l.toArray.size (Array.replicate l.toArray.size false) a { w with drawn := w.drawn + 1 }) : (Code.region id ops.toArray true).wp P Q a w := by
  subst hs
  have h2 := tail_anyX (rkt_tail_okX hT) l.toArray.size (Array.replicate l.toArray.size false) a { w with drawn := w.drawn + 1 } (by simp) (by rw [show l.toArray.size = l.length by simp]; exact cl_start l) h
  refine wp_region_any hm ?_
  have e1 : (l ++ [o]).toArray.size = l.toArray.size + 1 := by simp
  rw [e1, Array.replicate_succ]
  exact h2
end
end Go
