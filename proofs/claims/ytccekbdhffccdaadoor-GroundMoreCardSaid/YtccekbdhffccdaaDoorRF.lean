/- Memory while one list grows in a statement whose order is left open. -/
import Derived.Test.YtccekbdhffccdaaDoorRD
import Derived.Test.YtccekbdhffccdaaDoorRE
namespace Go.Proofs.YtccekbdhffccdaaDoor
open Go.RowKit

/-- What does not hang on the order: the world at the start, the type of an element, its size, the list, the new element; which operations lay the new element, and append it. -/
structure EnvO where
  w1 : World
  T : TypeId
  sz : Nat
  k : Nat
  v : Value
  xs : List Value
  ns : List Value
  ib : Nat
  ia : Nat
def curO (q : EnvO) (done : Nat → Bool) (g : GhE) : Value := if done q.ia = true then g.c 0 else q.v
def lenO (q : EnvO) (done : Nat → Bool) : Nat := if done q.ia = true then q.k + 1 else q.k
def rowO (q : EnvO) (done : Nat → Bool) : List Value := if done q.ia = true then q.xs ++ q.ns else q.xs
structure SO (q : EnvO) (done : Nat → Bool) (g : GhE) (w : World) : Prop where
  bel : Below q.w1.heap.size q.w1 w
  own : w.ownsRow q.w1.heap.size q.T q.sz (curO q done g) (lenO q done) (rowO q done)
  news : done q.ib = true → ∃ B, g.b 0 = .slice (some ⟨B, 0, none⟩) 1 1 ∧ w.heap[B]? = some (.cells q.ns.toArray q.T (0, 0)) ∧ (curO q done g).ownBlock ≠ some B
  two : q.ib ≠ q.ia
theorem SO.quiet {q : EnvO} {done : Nat → Bool} {g : GhE} {w : World} (h : SO q done g w) {i : Nat} (h1 : i ≠ q.ib) (h2 : i ≠ q.ia) : SO q (updB done i) g w := by
  have c1 : curO q (updB done i) g = curO q done g := by unfold curO; rw [updB_ne (Ne.symm h2)]
  have c2 : lenO q (updB done i) = lenO q done := by unfold lenO; rw [updB_ne (Ne.symm h2)]
  have c3 : rowO q (updB done i) = rowO q done := by unfold rowO; rw [updB_ne (Ne.symm h2)]
  refine ⟨h.bel, by rw [c1, c2, c3]; exact h.own, fun hd => ?_, h.two⟩
  rw [updB_ne (Ne.symm h1)] at hd
  rw [c1]
  exact h.news hd
theorem SO.build {q : EnvO} {done : Nat → Bool} {g : GhE} {w : World} (h : SO q done g w) : SO q (updB done q.ib) { g with b := updV g.b 0 (.slice (some ⟨w.heap.size, 0, none⟩) 1 1) } (w.alloc (.cells q.ns.toArray q.T)) := by
  have c1 : curO q (updB done q.ib) { g with b := updV g.b 0 (.slice (some ⟨w.heap.size, 0, none⟩) 1 1) } = curO q done g := by unfold curO; rw [updB_ne (Ne.symm h.two)]
  have c2 : lenO q (updB done q.ib) = lenO q done := by unfold lenO; rw [updB_ne (Ne.symm h.two)]
  have c3 : rowO q (updB done q.ib) = rowO q done := by unfold rowO; rw [updB_ne (Ne.symm h.two)]
  have hb := (Below.refl w.heap.size w).alloc (Nat.le_refl _) (.cells q.ns.toArray q.T)
  refine ⟨h.bel.trans (hb.mono h.bel.size), by rw [c1, c2, c3]; exact own_next h.own hb, fun _ => ⟨w.heap.size, by simp [updV], heap_alloc_new w _, fun hB => ?_⟩, h.two⟩
  rw [c1] at hB
  have := (h.own.lt _ hB).2
  omega
theorem SO.append {q : EnvO} {done : Nat → Bool} {g : GhE} {w w' : World} (h : SO q done g w) (hu : done q.ia = false) {v' : Value} (hv : w'.ownsRow q.w1.heap.size q.T q.sz v' (q.k + 1) (q.xs ++ q.ns)) (hg : w.grownBy w' q.v.ownBlock) (ho : v'.ownBlock = q.v.ownBlock ∨ v'.ownBlock = some w.heap.size) :
    SO q (updB done q.ia) { g with c := updV g.c 0 v' } w' := by
  have cj : curO q done g = q.v := by unfold curO; rw [hu]; rfl
  have lj : lenO q done = q.k := by unfold lenO; rw [hu]; rfl
  have cn : curO q (updB done q.ia) { g with c := updV g.c 0 v' } = v' := by unfold curO; rw [updB_at, if_pos rfl]; simp [updV]
  have oj := h.own
  rw [cj, lj] at oj
  refine ⟨h.bel.grown hg h.bel.size (fun B hB => (oj.lt _ hB).1), ?_, fun hd => ?_, h.two⟩
  · rw [cn]
    unfold lenO rowO
    rw [updB_at, if_pos rfl, if_pos rfl]
    exact hv
  · rw [updB_ne h.two] at hd
    obtain ⟨B, e1, e2, e3⟩ := h.news hd
    rw [cj] at e3
    refine ⟨B, e1, (hg.block _ (Array.getElem?_eq_some_iff.1 e2).1 (fun e => e3 e.symm)).trans e2, ?_⟩
    rw [cn]
    rcases ho with ho | ho
    · rw [ho]; exact e3
    · rw [ho]
      intro e
      injection e with e
      have := (Array.getElem?_eq_some_iff.1 e2).1
      omega
theorem SO.start {w1 w : World} {T : TypeId} {sz k : Nat} {v : Value} {xs ns : List Value} {ib ia : Nat} {g : GhE} (hb : Below w1.heap.size w1 w) (ho : w.ownsRow w1.heap.size T sz v k xs) (hne : ib ≠ ia) : SO ⟨w1, T, sz, k, v, xs, ns, ib, ia⟩ (fun _ => false) g w :=
  ⟨hb, ho, fun hd => by simp at hd, hne⟩
theorem SO.drew {q : EnvO} {done : Nat → Bool} {g : GhE} {w : World} (h : SO q done g w) : SO q done g w.drew := ⟨h.bel.drew, own_next h.own (Below.refl _ w).drew, h.news, h.two⟩
/-- Behind all of them. -/
theorem SO.after {w1 w : World} {T : TypeId} {sz k N : Nat} {v : Value} {xs ns : List Value} {ib ia : Nat} {g : GhE} (h : SO ⟨w1, T, sz, k, v, xs, ns, ib, ia⟩ (fun i => decide (i < N)) g w) (hia : ia < N) : Below w1.heap.size w1 w ∧ w.ownsRow w1.heap.size T sz (g.c 0) (k + 1) (xs ++ ns) := by
  have hd : (fun i => decide (i < N)) ia = true := by simpa using hia
  have ho := h.own
  unfold curO lenO rowO at ho
  simp only [hd, if_true] at ho
  exact ⟨h.bel, ho⟩

/-- What is asked of an operation. -/
abbrev AskO (q : EnvO) (ops : Array Oper) (ρ : GhE → Tmp → Value) (done : Nat → Bool) (g : GhE) (w : World) (i : Nat) (o : Oper) : Prop :=
  Region.wanted o (yieldedBy ops (ρ g)) = true ∧ Yield Tryd.prog (fun v w' => ∃ g', SO q (updB done i) g' w' ∧ (∀ d, o.dst = some d → ρ g' d = v) ∧ ∀ t, o.dst ≠ some t → ρ g' t = ρ g t) ((execOp (evalBy (ρ g)) o).run Tryd.prog w)
theorem quietO {q : EnvO} {ops : Array Oper} {done : Nat → Bool} {g : GhE} {w : World} {ρ : GhE → Tmp → Value} {i : Nat} {o : Oper} (h : SO q done g w) (d : Tmp) (hd : o.dst = some d) (h1 : i ≠ q.ib) (h2 : i ≠ q.ia) (hg : Region.wanted o (yieldedBy ops (ρ g)) = true)
    (he : (execOp (evalBy (ρ g)) o).run Tryd.prog w = .ok (.value (ρ g d)) w) : AskO q ops ρ done g w i o := by
  refine ⟨hg, ?_⟩
  rw [he]
  exact ⟨g, h.quiet h1 h2, fun e hE => by rw [hd] at hE; injection hE with hE; subst hE; rfl, fun _ _ => rfl⟩
set_option maxRecDepth 100000 in
theorem buildO {q : EnvO} {ops : Array Oper} {done : Nat → Bool} {g : GhE} {w : World} {ρ : GhE → Tmp → Value} {i : Nat} {o : Oper} (h : SO q done g w) (d : Tmp) (hd : o.dst = some d) (hi : i = q.ib) (hg : Region.wanted o (yieldedBy ops (ρ g)) = true)
    (he : (execOp (evalBy (ρ g)) o).run Tryd.prog w = .ok (.value (.slice (some ⟨w.heap.size, 0, none⟩) 1 1)) (w.alloc (.cells q.ns.toArray q.T)))
    (h1 : ∀ g' : GhE, ρ g' d = g'.b 0) (h2 : ∀ (t : Tmp) (b' : Nat → Value), t ≠ d → ρ { g with b := b' } t = ρ g t) : AskO q ops ρ done g w i o := by
  subst hi
  refine ⟨hg, ?_⟩
  rw [he]
  exact ⟨_, h.build, fun e hE => by rw [hd] at hE; injection hE with hE; subst hE; rw [h1]; simp [updV], fun t ht => h2 t _ (fun e => ht (by rw [hd, e]))⟩
set_option maxRecDepth 100000 in
theorem appendO {q : EnvO} {ops : Array Oper} {done : Nat → Bool} {g : GhE} {w : World} {ρ : GhE → Tmp → Value} {i : Nat} {o : Oper} (h : SO q done g w) (d : Tmp) (hd : o.dst = some d) (hi : i = q.ia) (hu : done i = false) (hb : done q.ib = true) (hg : Region.wanted o (yieldedBy ops (ρ g)) = true)
    (s x : Tmp) (ST : TypeId) (ho : o.op = .call { callee := .builtin .append, args := #[.tmp s, .tmp x], argTypes := #[ST, ST] }) (hs : ρ g s = q.v) (hx : ρ g x = g.b 0)
    (i0 : TypeInfo) (z : Value) (bytes : Nat) (ht : Tryd.prog.underlying ST = some (.slice q.T)) (hi0 : Tryd.prog.info? q.T = some i0) (hz : i0.zero = some z) (hsz : i0.size = q.sz) (hby : i0.bytes = bytes) (hzs : z.cells.size = q.sz) (hs0 : 0 < q.sz) (hl : q.ns.length = q.sz) (hone : ∀ u ∈ q.ns, u.oneCell' = true) (hk : q.k + 1 ≤ maxLen) (hbb : (q.k + 1) * bytes ≤ 140737488355328)
    (h1 : ∀ g' : GhE, ρ g' d = g'.c 0) (h2 : ∀ (t : Tmp) (c' : Nat → Value), t ≠ d → ρ { g with c := c' } t = ρ g t) : AskO q ops ρ done g w i o := by
  subst hi
  obtain ⟨B, e1, e2, e3⟩ := h.news hb
  have oj := h.own
  have cj : curO q done g = q.v := by unfold curO; rw [hu]; rfl
  have lj : lenO q done = q.k := by unfold lenO; rw [hu]; rfl
  have rj : rowO q done = q.xs := by unfold rowO; rw [hu]; rfl
  rw [cj, lj, rj] at oj
  obtain ⟨v', w', hr, a1, a2, _, a4⟩ := run_append_own_at (P := Tryd.prog) w q.w1.heap.size ST o.type q.T i0 z q.sz bytes ht hi0 hz hsz hby hzs hs0 q.v q.k q.xs oj ⟨B, 0, none⟩ 1 1 q.ns (by rw [hl]; omega)
    (fun a u hu' => by
      have := cell_of_row w B a _ q.T (0, 0) e2
      rw [show (⟨B, 0, none⟩ : Addr).add a = ⟨B, a, none⟩ by unfold Addr.add; split <;> simp_all, this]
      simpa using hu') hone hk hbb h.bel.size
  have he : (execOp (evalBy (ρ g)) o).run Tryd.prog w = .ok (.value v') w' := by
    have e2' : evalBy (ρ g) (.tmp s) = q.v := hs
    have e3' : evalBy (ρ g) (.tmp x) = .slice (some ⟨B, 0, none⟩) 1 1 := hx.trans e1
    unfold execOp
    simp only [ho, resolve, invoke, builtin, Sem.run_bind, Sem.run_pure, Result.andThen_ok, List.map_toArray, List.map_cons, List.map_nil, e2', e3', hr]
  refine ⟨hg, ?_⟩
  rw [he]
  exact ⟨_, h.append hu a1 a2 a4, fun e hE => by rw [hd] at hE; injection hE with hE; subst hE; rw [h1]; simp [updV], fun t ht => h2 t _ (fun e => ht (by rw [hd, e]))⟩
/-- The slots: one holds the new element, one the longer list. -/
def rhoO (sb sa : Tmp) (cv : Tmp → Value) (g : GhE) (t : Tmp) : Value := if t = sb then g.b 0 else if t = sa then g.c 0 else cv t
theorem rhoO_b {sb sa : Tmp} {cv : Tmp → Value} {g : GhE} (t : Tmp) (b' : Nat → Value) (h : t ≠ sb) : rhoO sb sa cv { g with b := b' } t = rhoO sb sa cv g t := by
  unfold rhoO
  rw [if_neg h, if_neg h]
theorem rhoO_c {sb sa : Tmp} {cv : Tmp → Value} {g : GhE} (t : Tmp) (c' : Nat → Value) (h : t ≠ sa) : rhoO sb sa cv { g with c := c' } t = rhoO sb sa cv g t := by
  unfold rhoO
  by_cases h1 : t = sb
  · rw [if_pos h1, if_pos h1]
  · rw [if_neg h1, if_neg h1, if_neg h, if_neg h]
end Go.Proofs.YtccekbdhffccdaaDoor
