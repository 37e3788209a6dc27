/- Stores: the line of ships that wait, where it lies, and what is appended to it. Stores: the line of ships that wait: pushed, popped, counted. Stores: what is aboard of a ship, by the code. -/
import Derived.Test.YtijjkiogmlannaaDoorQ
import Derived.ArgAppend
import Derived.Maps.AppendAt
namespace Go.Proofs.YtijjkiogmlannaaDoor
open Go.RowKit

def natsV (W : List Nat) : List Value := W.map fun x : Nat => Value.int .i64 (x : Int)
theorem natsV_len (W : List Nat) : (natsV W).length = W.length := by simp [natsV]
theorem natsV_get {W : List Nat} {i : Nat} {u : Value} (h : (natsV W)[i]? = some u) : ∃ x, W[i]? = some x ∧ u = .int .i64 (x : Int) := by
  unfold natsV at h
  rw [List.getElem?_map] at h
  cases hx : W[i]? with
  | none => rw [hx] at h; cases h
  | some x => rw [hx] at h; cases h; exact ⟨x, rfl, rfl⟩
/-- A line that the call owns: from some place of its block on. -/
def QAt (w : World) (base : Nat) (v : Value) (W : List Nat) : Prop :=
  (v = .slice none 0 0 ∧ W = []) ∨ ∃ g off cap cs, v = .slice (some ⟨g, off, none⟩) W.length cap ∧ base ≤ g ∧ w.heap[g]? = some (.cells cs 3 (0, 0)) ∧ W.length ≤ cap ∧ cap ≤ maxLen ∧ off + cap ≤ cs.size ∧ ∀ (i x : Nat), W[i]? = some x → cs[off + i]? = some (.int .i64 (x : Int))
theorem QAt.nil (w : World) (base : Nat) : QAt w base (.slice none 0 0) [] := .inl ⟨rfl, rfl⟩
theorem QAt.keep {w w' : World} {base : Nat} {v : Value} {W : List Nat} (h : QAt w base v W) (hk : ∀ b cs, base ≤ b → w.heap[b]? = some (.cells cs 3 (0, 0)) → v.ownBlock = some b → w'.heap[b]? = w.heap[b]?) : QAt w' base v W := by
  rcases h with h | ⟨g, off, cap, cs, rfl, h1, h2, h3, h4, h5, h6⟩
  · exact .inl h
  · exact .inr ⟨g, off, cap, cs, rfl, h1, (hk g cs h1 h2 rfl).trans h2, h3, h4, h5, h6⟩
theorem QAt.below {w w' : World} {base : Nat} {v : Value} {W : List Nat} (h : QAt w base v W) (hb : Below w.heap.size w w') : QAt w' base v W :=
  h.keep fun b _ _ hc _ => hb.block b (heapsz hc)
theorem QAt.of_own {w : World} {base : Nat} {v : Value} {n : Nat} {W : List Nat} (h : w.ownsRow base 3 1 v n (natsV W)) : QAt w base v W := by
  obtain ⟨h0, h⟩ := h
  rw [natsV_len, Nat.mul_one] at h0
  subst h0
  rcases h with ⟨rfl, h2⟩ | ⟨g, cap, cur, rfl, h1, h2, h3, h4, h5, h6⟩
  · exact .inl ⟨rfl, List.eq_nil_of_length_eq_zero h2⟩
  · refine .inr ⟨g, 0, cap, cur, rfl, h1, h2, h3, h4, by omega, fun i x hx => ?_⟩
    have hi := (List.getElem?_eq_some_iff.1 hx).1
    have h7 : (natsV W)[i]? = some (.int .i64 (x : Int)) := by unfold natsV; rw [List.getElem?_map, hx]; rfl
    rw [← h6, List.getElem?_take, if_pos (by omega)] at h7
    rw [Nat.zero_add]
    simpa using h7
theorem int_info : (Tryd.prog.info? 3).map (fun i => (i.zero, i.size, i.bytes)) = some (some (.int .i64 0), 1, 8) := by kernel_rfl
theorem run_push (w : World) {base : Nat} {v : Value} {W : List Nat} {ty : TypeId} (hq : QAt w base v W) {B y : Nat} (hc : w.cell? ⟨B, 0, none⟩ = some (.int .i64 (y : Int))) (hl : W.length < 1000) (hbase : base ≤ w.heap.size) :
    ∃ v' w', (Builtin.append_ #[77, 77] ty #[v, .slice (some ⟨B, 0, none⟩) 1 1]).run Tryd.prog w = .ok v' w' ∧ QAt w' base v' (W ++ [y]) ∧ w.grownBy w' v.ownBlock := by
  obtain ⟨i0, hi0, hz⟩ := Option.map_eq_some_iff.1 int_info
  have hz0 : i0.zero = some (.int .i64 0) := congrArg (·.1) hz
  have hz1 : i0.size = 1 := congrArg (·.2.1) hz
  have hz2 : i0.bytes = 8 := congrArg (·.2.2) hz
  have hn : ∀ j u, [Value.int .i64 (y : Int)][j]? = some u → w.cell? ((⟨B, 0, none⟩ : Addr).add j) = some u := fun j u hj => by
    match j, hj with
    | 0, hj => simp at hj; subst hj; simpa [Addr.add] using hc
  have ho : ∀ u ∈ [Value.int .i64 (y : Int)], u.oneCell' = true := by simp [Value.oneCell']
  have happ : natsV W ++ [Value.int .i64 (y : Int)] = natsV (W ++ [y]) := by simp [natsV]
  rcases hq with ⟨rfl, rfl⟩ | ⟨g, off, cap, cs, rfl, h1, h2, h3, h4, h5, h6⟩
  · obtain ⟨v', w', hr, r1, r2, _, _⟩ := run_append_own_at (P := Tryd.prog) w base 77 ty 3 i0 (.int .i64 0) 1 8 Tryd.underlying77 hi0 hz0 hz1 hz2 rfl (by decide) (.slice none 0 0) 0 [] (World.ownsRow_nil w _ 3 1) ⟨B, 0, none⟩ 1 1 [.int .i64 (y : Int)] rfl hn ho (by unfold maxLen; omega) (by omega) hbase
    refine ⟨v', w', hr, QAt.of_own (n := 0 + 1) ?_, r2⟩
    exact r1
  · by_cases hr : W.length + 1 ≤ cap
    · have hcell : w.cell? ⟨g, off + W.length, none⟩ = cs[off + W.length]? := by rw [cell_of_row w g _ _ 3 (0, 0) h2]
      have hlt : off + W.length < cs.size := by omega
      have hrun := run_append_room_cells (P := Tryd.prog) w 77 ty 3 i0 Tryd.underlying77 hi0 g off W.length cap ⟨B, 0, none⟩ 1 1 [.int .i64 (y : Int)] (by rw [hz1]; rfl) hn ho hr
        (fun j hj => by
          have : j = 0 := by simpa using hj
          subst this
          rw [hz1, Nat.mul_one, Nat.add_zero, hcell, Array.getElem?_eq_getElem hlt]
          rfl)
        (fun j hj => by simp [World.frozen?, h2])
      refine ⟨_, _, hrun, .inr ⟨g, off, cap, cs.setIfInBounds (off + W.length) (.int .i64 (y : Int)), by simp, h1, ?_, by simpa using hr, h4, by simpa using h5, ?_⟩, ?_⟩
      · show (w.setCell ⟨g, off + W.length * i0.size, none⟩ _).heap[g]? = _
        rw [hz1, Nat.mul_one]
        exact blk_set h2 _ _
      · intro i x hx
        by_cases hi : i = W.length
        · subst hi
          simp at hx
          subst hx
          simp [hlt]
        · have hlt2 := (List.getElem?_eq_some_iff.1 hx).1
          simp at hlt2
          rw [Array.getElem?_setIfInBounds_ne (by omega)]
          exact h6 i x (by rw [List.getElem?_append_left (by omega)] at hx; exact hx)
      · show w.grownBy (w.setCell ⟨g, off + W.length * i0.size, none⟩ _) _
        exact ⟨rfl, rfl, rfl, by simp [World.setCell], fun k hk hne => Below.heap_setCell _ _ _ _ (fun e => hne (by subst e; rfl))⟩
    · obtain ⟨v', w', hrun, r1, r2⟩ := run_append_arg_grows (P := Tryd.prog) w 77 ty 3 i0 (.int .i64 0) 1 8 Tryd.underlying77 hi0 hz0 hz1 hz2 rfl (by decide) ⟨g, off, none⟩ W.length cap (natsV W) (by rw [natsV_len, Nat.mul_one])
        (fun j u hj => by
          obtain ⟨x, hx, rfl⟩ := natsV_get hj
          have e1 : (⟨g, off, none⟩ : Addr).add j = ⟨g, off + j, none⟩ := by unfold Addr.add; split <;> simp_all
          rw [e1, cell_of_row w g _ _ 3 (0, 0) h2]
          exact h6 j x hx) ⟨B, 0, none⟩ 1 1 [.int .i64 (y : Int)] rfl hn (by omega) (by unfold maxLen; omega) (by omega)
      rw [happ] at r1
      refine ⟨v', w', hrun, ?_, ⟨r2.os, r2.tape, r2.output, r2.size, fun k hk _ => r2.block k hk (by simp)⟩⟩
      · have := QAt.of_own r1
        rcases this with h | ⟨g', off', cap', cs', e1, e2, e3⟩
        · exact .inl h
        · exact .inr ⟨g', off', cap', cs', e1, by omega, e3⟩
theorem wpList_push {w : World} {ops : Array Oper} {rest : List Oper} {o : Oper} {a : Act} {Q : Exit → Act → World → Prop} (hgd : o.guard = none) (s x : Operand)
    (ho : o.op = .call { callee := .builtin .append, args := #[s, x], argTypes := #[77, 77] }) {base : Nat} {v : Value} {W : List Nat} {B y : Nat} (hs : a.eval s = v) (hx : a.eval x = .slice (some ⟨B, 0, none⟩) 1 1)
    (hq : QAt w base v W) (hc : w.cell? ⟨B, 0, none⟩ = some (.int .i64 (y : Int))) (hl : W.length < 1000) (hbase : base ≤ w.heap.size)
    (h : ∀ v' w', QAt w' base v' (W ++ [y]) → w.grownBy w' v.ownBlock → wpList Tryd.prog ops Q rest (a.put o.dst v') w') :
    wpList Tryd.prog ops Q (o :: rest) a w := by
  refine wpList_plain hgd fun K hK => ?_
  obtain ⟨v', w', hr, h2, h3⟩ := run_push w (ty := o.type) hq hc hl hbase
  unfold Oper.wp execOp
  simp only [ho, resolve, invoke, builtin, Sem.run_bind, Sem.run_pure, Result.andThen_ok, List.map_toArray, List.map_cons, List.map_nil, hs, hx, hr]
  exact hK _ _ (h v' w' h2 h3)

/-! ### What is run, in memory -/

/-- What stays while a store is run: where it lies, the plan, the ice, the winter. -/
structure RC where
  X : SX
  plan : Nat
  ice : List Bool
  win : List Gd
  Ai : Option Addr
  mi : Nat
  ci : Nat
  Aw : Option Addr
  mw : Nat
  cw : Nat
  R : Nat
  D : Nat
  w0 : World
  fx : List (Nat × Array Value × TypeId)
/-- The cells of what is run. -/
abbrev RC.cells (C : RC) (st : Gd) (qv sv lv : Value) : Array Value := #[.int .i64 st.a, .int .i64 st.b, .int .i64 st.c, .int .i64 C.X.S.yd.a, .int .i64 C.X.S.yd.b, .int .i64 C.X.S.yd.c, .int .i64 C.X.S.rate, .int .i64 C.X.S.weeks, .int .i64 C.X.S.land, .slice C.X.AS C.X.ns C.X.cs, .slice C.X.AI C.X.ni C.X.ci, .slice C.X.AW C.X.nw C.X.cw, .int .i64 (C.plan : Int), .slice C.Ai C.mi C.ci, .slice C.Aw C.mw C.cw, qv, .slice (some ⟨C.D, 0, none⟩) C.X.ns C.X.ns, sv, lv]
structure RC.Ok (C : RC) : Prop where
  X : C.X.In C.w0
  K : C.X.S.Ok
  ice : BlsAt C.w0 C.w0.heap.size C.Ai C.ice
  icel : C.ice.length = C.mi
  icen : (C.mi : Int) = C.X.S.land
  win : GdsAt C.w0 C.w0.heap.size C.Aw C.win
  winl : C.win.length = C.mw
  winn : (C.mw : Int) = C.X.S.weeks
  wina : ∀ g ∈ C.win, amtB 1000 g = true
  plan : C.plan < 64
  R : C.w0.heap.size ≤ C.R
  D : C.w0.heap.size ≤ C.D
  fx : ∀ x ∈ C.fx, x.2.2 ≠ 3 ∧ x.2.2 ≠ 23 ∧ x.2.2 ≠ 99
/-- What is there at some time. -/
structure RunAt (C : RC) (st : Gd) (ld : List Gd) (W : List Nat) (ss ls : List Gd) (qv sv lv : Value) (w : World) : Prop where
  bel : Below C.w0.heap.size C.w0 w
  box : w.heap[C.R]? = some (.cells (C.cells st qv sv lv) 99 (0, 0))
  lnd : w.heap[C.D]? = some (.cells (flatR gR ld).toArray 23 (0, 0))
  ldl : ld.length = C.X.ns
  q : QAt w C.w0.heap.size qv W
  so : w.ownsRow C.w0.heap.size 23 3 sv ss.length (flatR gR ss)
  lo : w.ownsRow C.w0.heap.size 23 3 lv ls.length (flatR gR ls)
  sd : sv.ownBlock ≠ some C.D
  lD : lv.ownBlock ≠ some C.D
  sl : ∀ b, sv.ownBlock = some b → lv.ownBlock ≠ some b
  fix : ∀ x ∈ C.fx, w.heap[x.1]? = some (.cells x.2.1 x.2.2 (0, 0))
theorem RunAt.below {C : RC} {st : Gd} {ld : List Gd} {W : List Nat} {ss ls : List Gd} {qv sv lv : Value} {w w' : World} (h : RunAt C st ld W ss ls qv sv lv w) (hb : Below w.heap.size w w') : RunAt C st ld W ss ls qv sv lv w' :=
  ⟨h.bel.trans (hb.mono h.bel.size), (hb.block _ (heapsz h.box)).trans h.box, (hb.block _ (heapsz h.lnd)).trans h.lnd, h.ldl, h.q.below hb,
   own_of_blocks h.so fun B hB => hb.block _ (by obtain ⟨_, cur, hc⟩ := own_at h.so hB; exact heapsz hc), own_of_blocks h.lo fun B hB => hb.block _ (by obtain ⟨_, cur, hc⟩ := own_at h.lo hB; exact heapsz hc), h.sd, h.lD, h.sl, fun x hx => (hb.block _ (heapsz (h.fix x hx))).trans (h.fix x hx)⟩
theorem run_cells {C : RC} {st : Gd} {ld : List Gd} {W : List Nat} {ss ls : List Gd} {qv sv lv : Value} {w : World} (h : RunAt C st ld W ss ls qv sv lv w) :
    (w.cell? ⟨C.R, 0, none⟩ = some (.int .i64 st.a) ∧ w.cell? ⟨C.R, 1, none⟩ = some (.int .i64 st.b) ∧ w.cell? ⟨C.R, 2, none⟩ = some (.int .i64 st.c)) ∧ (w.cell? ⟨C.R, 3, none⟩ = some (.int .i64 C.X.S.yd.a) ∧ w.cell? ⟨C.R, 4, none⟩ = some (.int .i64 C.X.S.yd.b) ∧ w.cell? ⟨C.R, 5, none⟩ = some (.int .i64 C.X.S.yd.c)) ∧
    (w.cell? ⟨C.R, 6, none⟩ = some (.int .i64 C.X.S.rate) ∧ w.cell? ⟨C.R, 7, none⟩ = some (.int .i64 C.X.S.weeks) ∧ w.cell? ⟨C.R, 8, none⟩ = some (.int .i64 C.X.S.land)) ∧ w.cell? ⟨C.R, 9, none⟩ = some (.slice C.X.AS C.X.ns C.X.cs) ∧ w.cell? ⟨C.R, 12, none⟩ = some (.int .i64 (C.plan : Int)) ∧ w.cell? ⟨C.R, 13, none⟩ = some (.slice C.Ai C.mi C.ci) ∧ w.cell? ⟨C.R, 14, none⟩ = some (.slice C.Aw C.mw C.cw) ∧
    w.cell? ⟨C.R, 15, none⟩ = some qv ∧ w.cell? ⟨C.R, 16, none⟩ = some (.slice (some ⟨C.D, 0, none⟩) C.X.ns C.X.ns) ∧ w.cell? ⟨C.R, 17, none⟩ = some sv ∧ w.cell? ⟨C.R, 18, none⟩ = some lv := by
  have p := fun k => cell_of_row w C.R k _ 99 (0, 0) h.box
  exact ⟨⟨p 0, p 1, p 2⟩, ⟨p 3, p 4, p 5⟩, ⟨p 6, p 7, p 8⟩, p 9, p 12, p 13, p 14, p 15, p 16, p 17, p 18⟩
theorem run_frz {C : RC} {st : Gd} {ld : List Gd} {W : List Nat} {ss ls : List Gd} {qv sv lv : Value} {w : World} (h : RunAt C st ld W ss ls qv sv lv w) (k : Nat) : w.frozen? ⟨C.R, k, none⟩ = false := by simp [World.frozen?, h.box]
/-- Another line is told. -/
theorem RunAt.line {C : RC} {st : Gd} {ld : List Gd} {W W' : List Nat} {ss ls : List Gd} {qv qv' sv lv : Value} {w w1 : World} (h : RunAt C st ld W ss ls qv sv lv w) (K : C.Ok) (hg : w.grownBy w1 qv.ownBlock) (hq : QAt w1 C.w0.heap.size qv' W') :
    RunAt C st ld W' ss ls qv' sv lv (w1.setCell ⟨C.R, 15, none⟩ qv') := by
  have hne : ∀ b o, w.heap[b]? = some o → (∀ cs, o ≠ Obj.cells cs 3 (0, 0)) → w1.heap[b]? = some o := fun b o hb hn => (hg.block b (Array.getElem?_eq_some_iff.1 hb).1 (fun e => by
    rcases h.q with ⟨rfl, _⟩ | ⟨g, off, cap, cs, rfl, _, h2, _⟩
    · cases e
    · cases e
      rw [h2] at hb
      cases hb
      exact hn cs rfl)).trans hb
  have hset : ∀ b, b ≠ C.R → (w1.setCell ⟨C.R, 15, none⟩ qv').heap[b]? = w1.heap[b]? := fun b hb => Below.heap_setCell _ _ _ _ hb
  have hbox := hne _ _ h.box (by intro cs e; cases e)
  refine ⟨?_, blk_set hbox 15 qv', (hset _ fun e => ?_).trans (hne _ _ h.lnd (by intro cs e; cases e)), h.ldl, ?_, ?_, ?_, h.sd, h.lD, h.sl, fun x hx => (hset x.1 fun e => ?_).trans (hne _ _ (h.fix x hx) (fun cs e => by injection e with _ e _; exact (K.fx x hx).1 e))⟩
  · refine (h.bel.grown hg h.bel.size fun k e => ?_).setCell (p := ⟨C.R, 15, none⟩) K.R _
    rcases h.q with ⟨rfl, _⟩ | ⟨g, off, cap, cs, rfl, h1, _⟩
    · cases e
    · cases e
      exact h1
  · have h2 := h.lnd
    rw [e, h.box] at h2
    injection h2 with h2
    injection h2 with _ h2 _
    exact absurd h2 (by decide)
  · exact hq.keep fun b cs _ hc _ => (hset b fun e => by rw [e, hbox] at hc; cases hc).trans rfl
  · refine own_of_blocks h.so fun B hB => ?_
    obtain ⟨_, cur, hc⟩ := own_at h.so hB
    refine (hset B fun e => ?_).trans ((hne _ _ hc (by intro cs e; cases e)).trans hc.symm)
    rw [e, h.box] at hc
    cases hc
  · refine own_of_blocks h.lo fun B hB => ?_
    obtain ⟨_, cur, hc⟩ := own_at h.lo hB
    refine (hset B fun e => ?_).trans ((hne _ _ hc (by intro cs e; cases e)).trans hc.symm)
    rw [e, h.box] at hc
    cases hc
  · have h2 := h.fix x hx
    rw [e, h.box] at h2
    injection h2 with h2
    injection h2 with _ h2 _
    exact (K.fx x hx).2.2 h2.symm
end Go.Proofs.YtijjkiogmlannaaDoor

namespace Go.Proofs.YtijjkiogmlannaaDoor
open Go.RowKit

theorem QAt.form {w : World} {base : Nat} {v : Value} {W : List Nat} (h : QAt w base v W) : ∃ A c, v = .slice A W.length c := by
  rcases h with ⟨rfl, rfl⟩ | ⟨g, off, cap, cs, rfl, _⟩
  · exact ⟨none, 0, rfl⟩
  · exact ⟨_, _, rfl⟩
variable {C : RC} {st : Gd} {ld : List Gd} {W : List Nat} {ss ls : List Gd} {qv sv lv : Value} {w : World}
set_option maxRecDepth 100000 in
set_option maxHeartbeats 2000000 in
theorem size_any (h : RunAt C st ld W ss ls qv sv lv w) : Calls Tryd.prog 83 #[.pointer (some ⟨C.R, 15, none⟩)] w fun e w' => e = .returned (.int .i64 (W.length : Int)) ∧ w = w' := by
  obtain ⟨_, _, _, _, _, _, _, r15, _⟩ := run_cells h
  rcases h.q with ⟨rfl, rfl⟩ | ⟨g, off, cap, cs, rfl, _⟩
  · clear h
    go_enter Tryd.func83, Tryd.ntmps83
    go_wp2_with fail
    go_ret
    exact ⟨rfl, rfl⟩
  · clear h
    go_enter Tryd.func83, Tryd.ntmps83
    go_wp2_with fail
    go_ret
    exact ⟨rfl, rfl⟩
set_option maxRecDepth 100000 in
set_option maxHeartbeats 4000000 in
theorem push_any (K : C.Ok) (h : RunAt C st ld W ss ls qv sv lv w) (y : Nat) (hl : W.length < 1000) : Calls Tryd.prog 82 #[.pointer (some ⟨C.R, 15, none⟩), .int .i64 (y : Int)] w fun e w' => e = .returned (.tuple #[]) ∧ ∃ qv', RunAt C st ld (W ++ [y]) ss ls qv' sv lv w' := by
  obtain ⟨_, _, _, _, _, _, _, r15, _⟩ := run_cells h
  have hb1 := (Below.refl w.heap.size w).alloc (Nat.le_refl _) (.cells #[.int .i64 (y : Int)] 3)
  have z1 := heap_alloc_new w (.cells #[.int .i64 (y : Int)] 3)
  have hc1 := cell_of_row _ w.heap.size 0 _ 3 (0, 0) z1
  have H := Lib.hid (h.below hb1)
  have HK := Lib.hid K
  have HN : Hid (∀ v' w', QAt w' C.w0.heap.size v' (W ++ [y]) → (w.alloc (.cells #[.int .i64 (y : Int)] 3)).grownBy w' qv.ownBlock → RunAt C st ld (W ++ [y]) ss ls v' sv lv (w'.setCell ⟨C.R, 15, none⟩ v') ∧ w'.frozen? ⟨C.R, 15, none⟩ = false ∧ w'.cell? ⟨C.R, 15, none⟩ = some qv) := Lib.hid fun v' w' h1 h2 => by
    have h3 := H.out.line HK.out h2 h1
    have hb := H.out.box
    have hb2 := (h2.block C.R (heapsz hb) (fun e => by
      rcases H.out.q with ⟨rfl, _⟩ | ⟨g, off, cap, cs, rfl, _, hh, _⟩
      · cases e
      · cases e
        rw [hb] at hh
        injection hh with hh
        injection hh with _ hh _
        exact absurd hh (by decide))).trans hb
    exact ⟨h3, by simp [World.frozen?, hb2], cell_of_row w' C.R 15 _ 99 (0, 0) hb2⟩
  clear K h z1 hb1
  go_enter Tryd.func82, Tryd.ntmps82
  go_wp2_with (first
    | (at_builtin
       refine wpList_push (base := C.w0.heap.size) (v := qv) (W := W) (B := w.heap.size) (y := y) rfl _ _ rfl rfl rfl H.out.q hc1 hl (by have := H.out.bel.size; omega) ?_
       intro v' w' h1 h2
       obtain ⟨A', c', rfl⟩ := h1.form
       obtain ⟨h3, f0, x0⟩ := HN.out _ w' h1 h2
       have H3 := Lib.hid h3
       clear h1 h2 h3)
    | fail)
  exact bodyPost_end (v := .tuple #[]) (by simp [results, Tryd.results82, go_sem]) rfl ⟨rfl, _, by simpa using H3.out⟩
theorem grown_refl (w : World) (r : Option Nat) : w.grownBy w r := ⟨rfl, rfl, rfl, Nat.le_refl _, fun _ _ _ => rfl⟩
set_option maxRecDepth 100000 in
set_option maxHeartbeats 4000000 in
theorem pop_any {j : Nat} (K : C.Ok) (h : RunAt C st ld (j :: W) ss ls qv sv lv w) : Calls Tryd.prog 84 #[.pointer (some ⟨C.R, 15, none⟩)] w fun e w' => e = .returned (.int .i64 (j : Int)) ∧ ∃ qv', RunAt C st ld W ss ls qv' sv lv w' := by
  obtain ⟨_, _, _, _, _, _, _, r15, _⟩ := run_cells h
  have f0 := run_frz h 15
  rcases h.q with ⟨_, hw⟩ | ⟨g, off, cap, cs, rfl, h1, h2, h3, h4, h5, h6⟩
  · cases hw
  have c0 : w.cell? ⟨g, off, none⟩ = some (.int .i64 (j : Int)) := by
    rw [cell_of_row w g _ _ 3 (0, 0) h2]
    exact h6 0 j rfl
  simp only [List.length_cons] at h3 r15
  obtain ⟨cp, rfl⟩ : ∃ cp, cap = cp + 1 := ⟨cap - 1, by omega⟩
  by_cases hz : cp = 0
  · subst hz
    have hw0 : W.length = 0 := by omega
    obtain rfl : W = [] := List.eq_nil_of_length_eq_zero hw0
    have hq : QAt w C.w0.heap.size (.slice (some ⟨g, off, none⟩) 0 0) [] := .inr ⟨g, off, 0, cs, rfl, h1, h2, by simp, by simp, by omega, fun i x hx => by simp at hx⟩
    have H3 := Lib.hid (h.line K (grown_refl w _) hq)
    clear h K h6 hq h1 h2
    unfold maxLen at h4
    go_enter Tryd.func84, Tryd.ntmps84
    go_wp2_with fail
    go_ret
    exact ⟨rfl, _, H3.out⟩
  · have hq : QAt w C.w0.heap.size (.slice (some ⟨g, off + 1, none⟩) W.length cp) W := .inr ⟨g, off + 1, cp, cs, rfl, h1, h2, by omega, by omega, by omega, fun i x hx => by
      rw [show off + 1 + i = off + (i + 1) by omega]
      exact h6 (i + 1) x hx⟩
    have H3 := Lib.hid (h.line K (grown_refl w _) hq)
    clear h K h6 hq h1 h2
    unfold maxLen at h4
    go_enter Tryd.func84, Tryd.ntmps84
    go_wp2_with fail
    go_ret
    exact ⟨rfl, _, H3.out⟩
end Go.Proofs.YtijjkiogmlannaaDoor

namespace Go.Proofs.YtijjkiogmlannaaDoor
open Go.RowKit

variable {C : RC} {st : Gd} {ld : List Gd} {W : List Nat} {ss ls : List Gd} {qv sv lv : Value} {w : World}
theorem gR_len (g : Gd) : (gR g).length = 3 := rfl
/-- What has been landed of a ship, in memory. -/
theorem lnd_cells (h : RunAt C st ld W ss ls qv sv lv w) {j : Nat} {g : Gd} (hg : ld[j]? = some g) : w.cell? ⟨C.D, j * 3, none⟩ = some (.int .i64 g.a) ∧ w.cell? ⟨C.D, j * 3 + 1, none⟩ = some (.int .i64 g.b) ∧ w.cell? ⟨C.D, j * 3 + 2, none⟩ = some (.int .i64 g.c) := by
  have p := fun k => cell_of_row w C.D (j * 3 + k) _ 23 (0, 0) h.lnd
  have f := fun k (hk : k < 3) => flat_get gR_len ld j g k hg hk
  refine ⟨(p 0).trans ?_, (p 1).trans ?_, (p 2).trans ?_⟩
  · simpa [flatR, gR] using f 0 (by decide)
  · simpa [flatR, gR] using f 1 (by decide)
  · simpa [flatR, gR] using f 2 (by decide)
theorem ship_of {S : Sto} {j : Nat} {s : Shp} (h : S.ships[j]? = some s) : S.cg j = s.g := by
  unfold Sto.cg Sto.ship
  rw [List.getD_eq_getElem?_getD, h]
  rfl
set_option maxRecDepth 100000 in
set_option maxHeartbeats 4000000 in
theorem aboard_any (K : C.Ok) (h : RunAt C st ld W ss ls qv sv lv w) {lf : Int} (hL : LdOk C.X.S.yd C.X.S.cg C.X.ns ⟨st, ld, lf⟩) {j : Nat} (hj : j < C.X.ns) :
    Calls Tryd.prog 86 #[.pointer (some ⟨C.R, 0, none⟩), .int .i64 (j : Int)] w fun e w' => e = .returned (gV (subG (C.X.S.cg j) (ld.getD j z3))) ∧ Below w.heap.size w w' := by
  obtain ⟨s, hs⟩ := get_of_lt (l := C.X.S.ships) (k := j) (by rw [K.X.hs]; exact hj)
  obtain ⟨g, hg⟩ := get_of_lt (l := ld) (k := j) (by rw [h.ldl]; exact hj)
  have e1 := ship_of hs
  have e2 : ld.getD j z3 = g := by rw [List.getD_eq_getElem?_getD, hg]; rfl
  have hb := hL.ld0 j hj
  unfold lnd at hb
  simp only at hb
  rw [e1, e2] at hb ⊢
  have hcg := amtB_iff.1 (K.K.cgB (j := j) (by rw [K.X.hs]; exact hj))
  rw [e1] at hcg
  have z0 := heap_alloc_new w (.cells #[.int .i64 0, .int .i64 0, .int .i64 0] 23)
  have hb0 := (Below.refl w.heap.size w).alloc (Nat.le_refl _) (.cells #[.int .i64 0, .int .i64 0, .int .i64 0] 23)
  have h1 := h.below hb0
  obtain ⟨w1, hw1⟩ : ∃ z, w.alloc (.cells #[.int .i64 0, .int .i64 0, .int .i64 0] 23) = z := ⟨_, rfl⟩
  rw [hw1] at z0 hb0 h1
  obtain ⟨b, o, hA, hbb, c0, c1, c2, c3, c4⟩ := sh_el (RowAt.next (k := 5) (R := shR) K.X.P h1.bel h1.bel.size) hs
  obtain ⟨d0, d1, d2⟩ := lnd_cells h1 hg
  obtain ⟨_, _, _, r9, _, _, _, _, r16, _⟩ := run_cells h1
  rw [hA] at r9
  have KL : Hid (∀ u, Calls Tryd.prog 78 #[gV s.g, gV g] u fun e w' => e = .returned (gV (subG s.g g)) ∧ Below u.heap.size u w') := Lib.hid fun u => less_any _ _ u fun k hk => by
    match k, hk with
    | 0, _ => show _ ≤ s.g.a - g.a ∧ s.g.a - g.a ≤ _; omega
    | 1, _ => show _ ≤ s.g.b - g.b ∧ s.g.b - g.b ≤ _; omega
    | 2, _ => show _ ≤ s.g.c - g.c ∧ s.g.c - g.c ≤ _; omega
  obtain ⟨M, hM⟩ : ∃ z, subG s.g g = z := ⟨_, rfl⟩
  rw [hM] at KL ⊢
  have Z0 := Lib.hid z0; have HB0 := Lib.hid hb0
  have LR := heapsz h1.box; have LD := heapsz h1.lnd; have LZ := heapsz z0
  have j0 : (0 : Int) ≤ (j : Int) := by omega
  have j1 : (j : Int) < (C.X.ns : Int) := by omega
  have v0 : ∀ u : KeptW w1, u.w.cell? ⟨C.R, 9, none⟩ = some (.slice (some ⟨b, o, none⟩) C.X.ns C.X.cs) := fun u => ((bcell u.h).1 _ _ LR).trans r9
  have v1 : ∀ u : KeptW w1, u.w.cell? ⟨C.R, 16, none⟩ = some (.slice (some ⟨C.D, 0, none⟩) C.X.ns C.X.ns) := fun u => ((bcell u.h).1 _ _ LR).trans r16
  have v2 : ∀ u : KeptW w1, u.w.cell? ⟨C.D, j * 3, none⟩ = some (.int .i64 g.a) := fun u => ((bcell u.h).1 _ _ LD).trans d0
  have v3 : ∀ u : KeptW w1, u.w.cell? ⟨C.D, j * 3 + 1, none⟩ = some (.int .i64 g.b) := fun u => ((bcell u.h).1 _ _ LD).trans d1
  have v4 : ∀ u : KeptW w1, u.w.cell? ⟨C.D, j * 3 + 2, none⟩ = some (.int .i64 g.c) := fun u => ((bcell u.h).1 _ _ LD).trans d2
  have v5 : ∀ u : KeptW w1, u.w.cell? ⟨b, o + j * 5 + 1, none⟩ = some (.int .i64 s.g.a) := fun u => ((bcell u.h).1 _ _ hbb).trans c1
  have v6 : ∀ u : KeptW w1, u.w.cell? ⟨b, o + j * 5 + 2, none⟩ = some (.int .i64 s.g.b) := fun u => ((bcell u.h).1 _ _ hbb).trans c2
  have v7 : ∀ u : KeptW w1, u.w.cell? ⟨b, o + j * 5 + 3, none⟩ = some (.int .i64 s.g.c) := fun u => ((bcell u.h).1 _ _ hbb).trans c3
  have HC := Lib.hid (fun u : KeptW w1 => Calls.in_kept u (KL.out u.w))
  clear h h1 hs hg e1 e2 hb hcg z0 hb0 hA hbb c0 c1 c2 c3 c4 d0 d1 d2 r9 r16 hM hL
  go_enter Tryd.func86, Tryd.ntmps86
  go_wp2_with fail
  try rw [hw1]
  clear hw1
  apply rk_tail (C := fun w' => ∃ u : KeptW w1, w' = u.w)
  case hs => exact (rfl : _ = [_, _, _, _, _, _, _, _, _, _, _, _, _, _, _, _, _, _] ++ [_])
  case hm => kernel_rfl
  case hB => kernel_rfl
  case hT => kernel_rfl
  case hC => exact ⟨⟨w1.drew, (Below.refl w1.heap.size w1).drew⟩, rfl⟩
  repeat (go_big_quiet_step (first | (with_reducible exact HC.out _) | fail))
  refine wpQuiet_nil ?_
  rintro _ ⟨u, rfl⟩
  have X1 := Lib.hid ((u.h.block _ LZ).trans Z0.out)
  have HBX := Lib.hid (HB0.out.trans (u.h.mono HB0.out.size))
  obtain ⟨x0, x1, x2⟩ := g_cells (g := z3) X1.out
  have f0 := g_frz (g := z3) (k := 0) X1.out; have f1 := g_frz (g := z3) (k := 1) X1.out; have f2 := g_frz (g := z3) (k := 2) X1.out
  have HV := Lib.hid (g_fill (g := z3) M X1.out); have HBF := Lib.hid (bel_fill (b := w.heap.size) (x := .int .i64 M.a) (y := .int .i64 M.b) (z := .int .i64 M.c) HBX.out (Nat.le_refl _))
  clear v0 v1 v2 v3 v4 v5 v6 v7 HC
  unfold Oper.wp
  simp [go_sem, f0, f1, f2, x0, x1, x2]
  go_wp2_with fail
  obtain ⟨c0, c1, c2⟩ := g_cells HV.out
  exact bodyPost_ret (v := gV M) (by simp [results, Tryd.results86, go_sem, c0, c1, c2]) rfl ⟨rfl, HBF.out⟩
end Go.Proofs.YtijjkiogmlannaaDoor
