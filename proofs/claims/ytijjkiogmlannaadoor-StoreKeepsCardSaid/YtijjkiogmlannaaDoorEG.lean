/- Stores: the memory of the statements' own run, and two lists that grow in one statement. -/
import Derived.Test.YtijjkiogmlannaaDoorEC
namespace Go.Proofs.YtijjkiogmlannaaDoor
open Go.RowKit

structure RQ where
  X : SX
  zb : Nat
  ob : Nat
  kb : Nat
  D : Nat
  w0 : World
  q : List Nat
structure RQ.Ok (C : RQ) : Prop where
  ob : C.w0.heap.size ≤ C.ob
  kb : C.w0.heap.size ≤ C.kb
  D : C.w0.heap.size ≤ C.D
/-- What there is in memory while the statements' package runs a store. -/
structure RR (C : RQ) (st : Gd) (ld ss ls : List Gd) (qv sv lv : Value) (w : World) : Prop where
  bel : Below C.w0.heap.size C.w0 w
  box : w.heap[C.zb]? = some (.cells C.X.cells 28 (0, 0))
  out : w.heap[C.ob]? = some (.cells #[.slice (some ⟨C.D, 0, none⟩) C.X.ns C.X.ns, sv, lv] 35 (0, 0))
  stk : w.heap[C.kb]? = some (.cells (gC st) 23 (0, 0))
  lnd : w.heap[C.D]? = some (.cells (flatR gR ld).toArray 23 (0, 0))
  ldl : ld.length = C.X.ns
  qo : w.ownsRow C.w0.heap.size 3 1 qv C.q.length (qsL C.q)
  so : w.ownsRow C.w0.heap.size 23 3 sv ss.length (flatR gR ss)
  lo : w.ownsRow C.w0.heap.size 23 3 lv ls.length (flatR gR ls)
  sD : sv.ownBlock ≠ some C.D
  lD : lv.ownBlock ≠ some C.D
  sk : sv.ownBlock ≠ some C.kb
  lk : lv.ownBlock ≠ some C.kb
  sl : ∀ b, sv.ownBlock = some b → lv.ownBlock ≠ some b
  kD : C.kb ≠ C.D
theorem ne_type {w : World} {a b : Nat} {cs ds : Array Value} {S T : TypeId} (h : w.heap[a]? = some (.cells cs S (0, 0))) (k : w.heap[b]? = some (.cells ds T (0, 0))) (hne : S ≠ T) : a ≠ b := fun e => by
  subst e
  rw [h] at k
  injection k with k
  injection k with _ k _
  exact hne k
theorem own_ne_type {w : World} {base : Nat} {e T : TypeId} {sz n b : Nat} {v : Value} {xs : List Value} {cs : Array Value} (h : w.ownsRow base e sz v n xs) (k : w.heap[b]? = some (.cells cs T (0, 0))) (hne : e ≠ T) : v.ownBlock ≠ some b := fun ho => by
  obtain ⟨_, cur, hc⟩ := own_at h ho
  exact ne_type hc k hne rfl
variable {C : RQ} {st : Gd} {ld ss ls : List Gd} {qv sv lv : Value} {w : World}
theorem RR.below {w' : World} (h : RR C st ld ss ls qv sv lv w) (hb : Below w.heap.size w w') : RR C st ld ss ls qv sv lv w' :=
  ⟨h.bel.trans (hb.mono h.bel.size), (hb.block _ (heapsz h.box)).trans h.box, (hb.block _ (heapsz h.out)).trans h.out, (hb.block _ (heapsz h.stk)).trans h.stk, (hb.block _ (heapsz h.lnd)).trans h.lnd, h.ldl,
   own_next h.qo hb, own_next h.so hb, own_next h.lo hb, h.sD, h.lD, h.sk, h.lk, h.sl, h.kD⟩
theorem RR.only {w' : World} {B : Nat} {ld' : List Gd} {st' : Gd} (h : RR C st ld ss ls qv sv lv w) (hB : C.w0.heap.size ≤ B) (ho : w'.os = w.os ∧ w'.tape = w.tape ∧ w'.output = w.output ∧ w'.heap.size = w.heap.size) (hk : ∀ b, b ≠ B → w'.heap[b]? = w.heap[b]?)
    {cs : Array Value} (hT : w.heap[B]? = some (.cells cs 23 (0, 0))) (hs : sv.ownBlock ≠ some B) (hl : lv.ownBlock ≠ some B) (hstk : w'.heap[C.kb]? = some (.cells (gC st') 23 (0, 0))) (hlnd : w'.heap[C.D]? = some (.cells (flatR gR ld').toArray 23 (0, 0))) (hld : ld'.length = C.X.ns) :
    RR C st' ld' ss ls qv sv lv w' :=
  ⟨⟨ho.1.trans h.bel.os, ho.2.1.trans h.bel.tape, ho.2.2.1.trans h.bel.output, by rw [ho.2.2.2]; exact h.bel.size, fun k hk' => (hk k (by omega)).trans (h.bel.block k hk')⟩,
   (hk _ (ne_type h.box hT (by decide))).trans h.box, (hk _ (ne_type h.out hT (by decide))).trans h.out, hstk, hlnd, hld,
   own_of_blocks h.qo fun b hb => hk b fun e => own_ne_type h.qo hT (by decide) (by rw [hb, e]), own_of_blocks h.so fun b hb => hk b fun e => hs (by rw [hb, e]), own_of_blocks h.lo fun b hb => hk b fun e => hl (by rw [hb, e]), h.sD, h.lD, h.sk, h.lk, h.sl, h.kD⟩
theorem RR.stk_put (K : C.Ok) (h : RR C st ld ss ls qv sv lv w) {k : Nat} (hk : k < 3) (x : Int) : RR C (st.put k x) ld ss ls qv sv lv (w.setCell ⟨C.kb, k, none⟩ (.int .i64 x)) :=
  h.only K.kb ⟨rfl, rfl, rfl, by simp [World.setCell]⟩ (fun _ hb => Below.heap_setCell _ _ _ _ hb) h.stk h.sk h.lk (g_put h.stk hk x) ((Below.heap_setCell _ _ _ _ (Ne.symm h.kD)).trans h.lnd) h.ldl
theorem flat_put {k : Nat} (hk : k < 3) (x : Int) : ∀ (ld : List Gd) (j : Nat) (g : Gd), ld[j]? = some g → flatR gR (ld.set j (g.put k x)) = (flatR gR ld).set (j * 3 + k) (.int .i64 x)
  | [], _, _, h => by simp at h
  | y :: l, 0, g, h => by
    have e : y = g := by simpa using h
    subst e
    match k, hk with
    | 0, _ => rfl
    | 1, _ => rfl
    | 2, _ => rfl
  | y :: l, j + 1, g, h => by
    have e : ∀ (z : Gd) (l' : List Gd), flatR gR (z :: l') = .int .i64 z.a :: .int .i64 z.b :: .int .i64 z.c :: flatR gR l' := fun _ _ => rfl
    rw [List.set_cons_succ, e, e, flat_put hk x l j g (by simpa using h), show (j + 1) * 3 + k = j * 3 + k + 3 by omega]
    rfl
theorem flat_cell3 {k : Nat} (hk : k < 3) : ∀ (ld : List Gd) (j : Nat) (g : Gd), ld[j]? = some g → (flatR gR ld)[j * 3 + k]? = some (.int .i64 (g.at k))
  | [], _, _, h => by simp at h
  | y :: l, 0, g, h => by
    have e : y = g := by simpa using h
    subst e
    match k, hk with
    | 0, _ => rfl
    | 1, _ => rfl
    | 2, _ => rfl
  | y :: l, j + 1, g, h => by
    have e : ∀ (z : Gd) (l' : List Gd), flatR gR (z :: l') = .int .i64 z.a :: .int .i64 z.b :: .int .i64 z.c :: flatR gR l' := fun _ _ => rfl
    rw [e, show (j + 1) * 3 + k = j * 3 + k + 3 by omega]
    exact flat_cell3 hk l j g (by simpa using h)
theorem RR.ld_put (K : C.Ok) (h : RR C st ld ss ls qv sv lv w) {k : Nat} (hk : k < 3) {j : Nat} {g : Gd} (hg : ld[j]? = some g) (x : Int) : RR C st (ld.set j (g.put k x)) ss ls qv sv lv (w.setCell ⟨C.D, j * 3 + k, none⟩ (.int .i64 x)) := by
  refine h.only K.D ⟨rfl, rfl, rfl, by simp [World.setCell]⟩ (fun _ hb => Below.heap_setCell _ _ _ _ hb) h.lnd h.sD h.lD ((Below.heap_setCell _ _ _ _ h.kD).trans h.stk) ?_ (by rw [List.length_set]; exact h.ldl)
  rw [blk_set h.lnd (j * 3 + k) _, flat_put hk x ld j g hg]
  congr 2
  apply Array.ext'
  simp
theorem RR.ld_cell (h : RR C st ld ss ls qv sv lv w) {k : Nat} (hk : k < 3) {j : Nat} {g : Gd} (hg : ld[j]? = some g) : w.cell? ⟨C.D, j * 3 + k, none⟩ = some (.int .i64 (g.at k)) := by
  rw [cell_of_row w C.D (j * 3 + k) _ 23 (0, 0) h.lnd, List.getElem?_toArray]
  exact flat_cell3 hk ld j g hg

/-! ### Two lists of goods that grow in one statement -/

structure E2 where
  wS : World
  base : Nat
  tb : Nat
  h0 : Value
  k : Nat
  v : Nat → Value
  xs : Nat → List Value
  n : Nat → Gd
def c2E (q : E2) (done : Nat → Bool) (g : GhE) (j : Nat) : Value := if done (5 * j + 4) = true then g.c j else q.v j
def s2E (q : E2) (done : Nat → Bool) (g : GhE) (j : Nat) : Value := if done (11 + 2 * j) = true then g.c j else q.v j
def l2E (q : E2) (done : Nat → Bool) (j : Nat) : Nat := if done (5 * j + 4) = true then q.k + 1 else q.k
def r2E (q : E2) (done : Nat → Bool) (j : Nat) : List Value := if done (5 * j + 4) = true then q.xs j ++ gR (q.n j) else q.xs j
structure S2E (q : E2) (done : Nat → Bool) (g : GhE) (w : World) : Prop where
  out : w.os = q.wS.os ∧ w.tape = q.wS.tape ∧ w.output = q.wS.output ∧ q.wS.heap.size ≤ w.heap.size
  keep : ∀ b, b < q.wS.heap.size → b ≠ q.tb → (∀ j, j < 2 → (q.v j).ownBlock ≠ some b) → w.heap[b]? = q.wS.heap[b]?
  box : w.heap[q.tb]? = some (.cells #[q.h0, s2E q done g 0, s2E q done g 1] 35 (0, 0))
  own : ∀ j, j < 2 → w.ownsRow q.base 23 3 (c2E q done g j) (l2E q done j) (r2E q done j)
  sep : ∀ i j, i < 2 → j < 2 → i ≠ j → ∀ B, (c2E q done g i).ownBlock = some B → (c2E q done g j).ownBlock ≠ some B
  news : ∀ j, j < 2 → done (5 * j + 3) = true → ∃ B, g.b j = .slice (some ⟨B, 0, none⟩) 1 1 ∧ w.heap[B]? = some (.cells (gC (q.n j)) 23 (0, 0)) ∧ ∀ i, i < 2 → (c2E q done g i).ownBlock ≠ some B
  ord : ∀ j, j < 2 → done (11 + 2 * j) = true → done (5 * j + 4) = true ∧ done 1 = true ∧ done 6 = true
  frs : ∀ j, j < 2 → (c2E q done g j).ownBlock = (q.v j).ownBlock ∨ ∃ B, (c2E q done g j).ownBlock = some B ∧ q.wS.heap.size ≤ B
  low : q.base ≤ q.wS.heap.size
  tbl : q.tb < q.wS.heap.size
theorem ord_up {done : Nat → Bool} {i a : Nat} (h : done a = true) : updB done i a = true := by
  unfold updB
  split
  · rfl
  · exact h
theorem ord_up3 {done : Nat → Bool} {i a b c : Nat} (h : done a = true ∧ done b = true ∧ done c = true) : updB done i a = true ∧ updB done i b = true ∧ updB done i c = true := ⟨ord_up h.1, ord_up h.2.1, ord_up h.2.2⟩
theorem S2E.quiet {q : E2} {done : Nat → Bool} {g : GhE} {w : World} (h : S2E q done g w) {i : Nat} (hi : ∀ j, j < 2 → i ≠ 5 * j + 3 ∧ i ≠ 5 * j + 4 ∧ i ≠ 11 + 2 * j) : S2E q (updB done i) g w := by
  have c1 : ∀ j, j < 2 → c2E q (updB done i) g j = c2E q done g j := fun j hj => by unfold c2E; rw [updB_ne (Ne.symm (hi j hj).2.1)]
  have c2 : ∀ j, j < 2 → s2E q (updB done i) g j = s2E q done g j := fun j hj => by unfold s2E; rw [updB_ne (Ne.symm (hi j hj).2.2)]
  have c3 : ∀ j, j < 2 → l2E q (updB done i) j = l2E q done j := fun j hj => by unfold l2E; rw [updB_ne (Ne.symm (hi j hj).2.1)]
  have c4 : ∀ j, j < 2 → r2E q (updB done i) j = r2E q done j := fun j hj => by unfold r2E; rw [updB_ne (Ne.symm (hi j hj).2.1)]
  refine ⟨h.out, h.keep, ?_, fun j hj => ?_, fun a b ha hb => ?_, fun j hj hd => ?_, fun j hj hd => ?_, fun j hj => ?_, h.low, h.tbl⟩
  · rw [c2 0 (by decide), c2 1 (by decide)]
    exact h.box
  · rw [c1 j hj, c3 j hj, c4 j hj]
    exact h.own j hj
  · rw [c1 a ha, c1 b hb]
    exact h.sep a b ha hb
  · rw [updB_ne (Ne.symm (hi j hj).1)] at hd
    obtain ⟨B, e1, e2, e3⟩ := h.news j hj hd
    exact ⟨B, e1, e2, fun a ha => by rw [c1 a ha]; exact e3 a ha⟩
  · rw [updB_ne (Ne.symm (hi j hj).2.2)] at hd
    exact ord_up3 (h.ord j hj hd)
  · rw [c1 j hj]
    exact h.frs j hj
theorem S2E.build {q : E2} {done : Nat → Bool} {g : GhE} {w : World} (h : S2E q done g w) {j : Nat} (hj : j < 2) :
    S2E q (updB done (5 * j + 3)) { g with b := updV g.b j (.slice (some ⟨w.heap.size, 0, none⟩) 1 1) } (w.alloc (.cells (gC (q.n j)) 23)) := by
  have c1 : ∀ i, i < 2 → c2E q (updB done (5 * j + 3)) { g with b := updV g.b j (.slice (some ⟨w.heap.size, 0, none⟩) 1 1) } i = c2E q done g i := fun i hi => by unfold c2E; rw [updB_ne (by omega)]
  have c2 : ∀ i, i < 2 → s2E q (updB done (5 * j + 3)) { g with b := updV g.b j (.slice (some ⟨w.heap.size, 0, none⟩) 1 1) } i = s2E q done g i := fun i hi => by unfold s2E; rw [updB_ne (by omega)]
  have c3 : ∀ i, i < 2 → l2E q (updB done (5 * j + 3)) i = l2E q done i := fun i hi => by unfold l2E; rw [updB_ne (by omega)]
  have c4 : ∀ i, i < 2 → r2E q (updB done (5 * j + 3)) i = r2E q done i := fun i hi => by unfold r2E; rw [updB_ne (by omega)]
  have hb := (Below.refl w.heap.size w).alloc (Nat.le_refl _) (.cells (gC (q.n j)) 23)
  have hk : ∀ {B : Nat} {o : Obj}, w.heap[B]? = some o → (w.alloc (.cells (gC (q.n j)) 23)).heap[B]? = some o := fun hB => (hb.block _ (Array.getElem?_eq_some_iff.1 hB).1).trans hB
  refine ⟨⟨hb.os.trans h.out.1, hb.tape.trans h.out.2.1, hb.output.trans h.out.2.2.1, Nat.le_trans h.out.2.2.2 hb.size⟩, fun b h1 h2 h3 => (hb.block b (Nat.lt_of_lt_of_le h1 h.out.2.2.2)).trans (h.keep b h1 h2 h3), ?_, fun i hi => ?_, fun a b ha hb => ?_, fun i hi hd => ?_, fun i hi hd => ?_, fun i hi => ?_, h.low, h.tbl⟩
  · rw [c2 0 (by decide), c2 1 (by decide)]
    exact hk h.box
  · rw [c1 i hi, c3 i hi, c4 i hi]
    exact own_next (h.own i hi) hb
  · rw [c1 a ha, c1 b hb]
    exact h.sep a b ha hb
  · by_cases hij : i = j
    · subst hij
      refine ⟨w.heap.size, by simp [updV], heap_alloc_new w _, fun a ha hB => ?_⟩
      rw [c1 a ha] at hB
      have := (own_size (h.own a ha) hB).2
      omega
    · rw [updB_ne (by omega)] at hd
      obtain ⟨B, e1, e2, e3⟩ := h.news i hi hd
      exact ⟨B, by simp only [updV, if_neg hij]; exact e1, hk e2, fun a ha => by rw [c1 a ha]; exact e3 a ha⟩
  · rw [updB_ne (by omega)] at hd
    exact ord_up3 (h.ord i hi hd)
  · rw [c1 i hi]
    exact h.frs i hi
theorem S2E.append {q : E2} {done : Nat → Bool} {g : GhE} {w w' : World} (h : S2E q done g w) {j : Nat} (hj : j < 2) (hu : done (5 * j + 4) = false) {v' : Value}
    (hv : w'.ownsRow q.base 23 3 v' (q.k + 1) (q.xs j ++ gR (q.n j))) (hg : w.grownBy w' (q.v j).ownBlock) (ho : v'.ownBlock = (q.v j).ownBlock ∨ v'.ownBlock = some w.heap.size) :
    S2E q (updB done (5 * j + 4)) { g with c := updV g.c j v' } w' := by
  have cj : c2E q done g j = q.v j := by unfold c2E; rw [hu]; rfl
  have cn : c2E q (updB done (5 * j + 4)) { g with c := updV g.c j v' } j = v' := by unfold c2E; rw [updB_at, if_pos rfl]; simp [updV]
  have c1 : ∀ i, i ≠ j → c2E q (updB done (5 * j + 4)) { g with c := updV g.c j v' } i = c2E q done g i := fun i hi => by
    unfold c2E; rw [updB_ne (by omega)]; show (if _ then updV g.c j v' i else _) = _; rw [show updV g.c j v' i = g.c i by simp only [updV, if_neg hi]]
  have ns : done (11 + 2 * j) = false := by
    cases hd : done (11 + 2 * j) with
    | false => rfl
    | true => have := (h.ord j hj hd).1; rw [hu] at this; exact absurd this (by decide)
  have c2 : ∀ i, i < 2 → s2E q (updB done (5 * j + 4)) { g with c := updV g.c j v' } i = s2E q done g i := fun i hi => by
    unfold s2E
    rw [updB_ne (by omega)]
    by_cases hij : i = j
    · subst hij
      rw [ns]; rfl
    · show (if _ then updV g.c j v' i else _) = _; rw [show updV g.c j v' i = g.c i by simp only [updV, if_neg hij]]
  have oj := h.own j hj
  rw [cj] at oj
  have hk : ∀ {B : Nat} {o : Obj}, w.heap[B]? = some o → (q.v j).ownBlock ≠ some B → w'.heap[B]? = some o := fun hB hne => (hg.block _ (Array.getElem?_eq_some_iff.1 hB).1 (fun e => hne e.symm)).trans hB
  have oi : ∀ i, i < 2 → i ≠ j → w'.ownsRow q.base 23 3 (c2E q done g i) (l2E q done i) (r2E q done i) := fun i hi hij =>
    own_of_blocks (h.own i hi) fun B hB => hg.block B (own_size (h.own i hi) hB).2 (fun e => by
      have := h.sep i j hi hj hij B hB
      rw [cj] at this
      exact this e.symm)
  have hs : ∀ i, i < 2 → i ≠ j → ∀ B, (c2E q done g i).ownBlock = some B → v'.ownBlock ≠ some B := fun i hi hij B hB hv' => by
    rcases ho with ho | ho
    · have := h.sep i j hi hj hij B hB
      rw [cj, ← ho] at this
      exact this hv'
    · rw [ho] at hv'
      have := (own_size (h.own i hi) hB).2
      injection hv' with hv'
      omega
  refine ⟨⟨hg.os.trans h.out.1, hg.tape.trans h.out.2.1, hg.output.trans h.out.2.2.1, Nat.le_trans h.out.2.2.2 hg.size⟩, fun b h1 h2 h3 => (hg.block b (Nat.lt_of_lt_of_le h1 h.out.2.2.2) (fun e => h3 j hj e.symm)).trans (h.keep b h1 h2 h3), ?_, fun i hi => ?_, fun a b ha hb hab => ?_, fun i hi hd => ?_, fun i hi hd => ?_, fun i hi => ?_, h.low, h.tbl⟩
  · rw [c2 0 (by decide), c2 1 (by decide)]
    exact hk h.box (own_ne_type oj h.box (by decide))
  · by_cases hij : i = j
    · subst hij
      rw [cn]
      unfold l2E r2E
      rw [updB_at, if_pos rfl, if_pos rfl]
      exact hv
    · rw [c1 i hij]
      have e1 : l2E q (updB done (5 * j + 4)) i = l2E q done i := by unfold l2E; rw [updB_ne (by omega)]
      have e2 : r2E q (updB done (5 * j + 4)) i = r2E q done i := by unfold r2E; rw [updB_ne (by omega)]
      rw [e1, e2]
      exact oi i hi hij
  · by_cases haj : a = j
    · subst haj
      rw [cn, c1 b (Ne.symm hab)]
      intro B hB hB'
      exact hs b hb (Ne.symm hab) B hB' hB
    · by_cases hbj : b = j
      · subst hbj
        rw [cn, c1 a haj]
        exact hs a ha haj
      · rw [c1 a haj, c1 b hbj]
        exact h.sep a b ha hb hab
  · rw [updB_ne (by omega)] at hd
    obtain ⟨B, e1, e2, e3⟩ := h.news i hi hd
    have hBj : (q.v j).ownBlock ≠ some B := by have := e3 j hj; rw [cj] at this; exact this
    refine ⟨B, e1, hk e2 hBj, fun a ha => ?_⟩
    by_cases haj : a = j
    · subst haj
      rw [cn]
      rcases ho with ho | ho
      · rw [ho]; exact hBj
      · rw [ho]
        intro e
        injection e with e
        have := (Array.getElem?_eq_some_iff.1 e2).1
        omega
    · rw [c1 a haj]
      exact e3 a ha
  · rw [updB_ne (by omega)] at hd
    exact ord_up3 (h.ord i hi hd)
  · by_cases hij : i = j
    · subst hij
      rw [cn]
      rcases ho with ho | ho
      · exact .inl ho
      · exact .inr ⟨_, ho, h.out.2.2.2⟩
    · rw [c1 i hij]
      exact h.frs i hi
theorem S2E.store {q : E2} {done : Nat → Bool} {g : GhE} {w : World} (h : S2E q done g w) {j : Nat} (hj : j < 2) (ha : done (5 * j + 4) = true ∧ done 1 = true ∧ done 6 = true) :
    S2E q (updB done (11 + 2 * j)) g (w.setCell ⟨q.tb, j + 1, none⟩ (g.c j)) := by
  have ne6 : ∀ i, i < 2 → 5 * i + 4 ≠ 11 + 2 * j := fun i hi => by omega
  have c1 : ∀ i, i < 2 → c2E q (updB done (11 + 2 * j)) g i = c2E q done g i := fun i hi => by unfold c2E; rw [updB_ne (ne6 i hi)]
  have c3 : ∀ i, i < 2 → l2E q (updB done (11 + 2 * j)) i = l2E q done i := fun i hi => by unfold l2E; rw [updB_ne (ne6 i hi)]
  have c4 : ∀ i, i < 2 → r2E q (updB done (11 + 2 * j)) i = r2E q done i := fun i hi => by unfold r2E; rw [updB_ne (ne6 i hi)]
  have sj : s2E q (updB done (11 + 2 * j)) g j = g.c j := by unfold s2E; rw [updB_at, if_pos rfl]
  have c2 : ∀ i, i ≠ j → s2E q (updB done (11 + 2 * j)) g i = s2E q done g i := fun i hi => by unfold s2E; rw [updB_ne (by omega)]
  have hk : ∀ {B : Nat} {o : Obj}, w.heap[B]? = some o → B ≠ q.tb → (w.setCell ⟨q.tb, j + 1, none⟩ (g.c j)).heap[B]? = some o := fun hB hne => (Below.heap_setCell _ _ _ _ hne).trans hB
  have hko : ∀ {v : Value} {n : Nat} {xs : List Value}, w.ownsRow q.base 23 3 v n xs → (w.setCell ⟨q.tb, j + 1, none⟩ (g.c j)).ownsRow q.base 23 3 v n xs := fun ho =>
    own_of_blocks ho fun B hB => Below.heap_setCell _ _ _ _ (fun e => own_ne_type ho h.box (by decide) (by rw [hB, e]))
  refine ⟨⟨h.out.1, h.out.2.1, h.out.2.2.1, by simpa [World.setCell] using h.out.2.2.2⟩, fun b h1 h2 h3 => (Below.heap_setCell _ _ _ _ h2).trans (h.keep b h1 h2 h3), ?_, fun i hi => ?_, fun a b ha hb => ?_, fun i hi hd => ?_, fun i hi hd => ?_, fun i hi => ?_, h.low, h.tbl⟩
  · rw [blk_set h.box (j + 1) _]
    match j, hj, sj, c2 with
    | 0, _, sj, c2 => rw [sj, c2 1 (by decide)]; rfl
    | 1, _, sj, c2 => rw [sj, c2 0 (by decide)]; rfl
  · rw [c1 i hi, c3 i hi, c4 i hi]
    exact hko (h.own i hi)
  · rw [c1 a ha, c1 b hb]
    exact h.sep a b ha hb
  · rw [updB_ne (by omega)] at hd
    obtain ⟨B, e1, e2, e3⟩ := h.news i hi hd
    exact ⟨B, e1, hk e2 (fun e => ne_type e2 h.box (by decide) e), fun a ha => by rw [c1 a ha]; exact e3 a ha⟩
  · by_cases hij : i = j
    · subst hij
      exact ord_up3 ha
    · rw [updB_ne (by omega)] at hd
      exact ord_up3 (h.ord i hi hd)
  · rw [c1 i hi]
    exact h.frs i hi
/-- What is asked of an operation. -/
abbrev Ask2 (q : E2) (ops : Array Oper) (ρ : GhE → Tmp → Value) (done : Nat → Bool) (g : GhE) (w : World) (i : Nat) (o : Oper) : Prop :=
  Region.wanted o (yieldedBy ops (ρ g)) = true ∧ Yield Tryd.prog (fun v w' => ∃ g', S2E q (updB done i) g' w' ∧ (∀ d, o.dst = some d → ρ g' d = v) ∧ ∀ t, o.dst ≠ some t → ρ g' t = ρ g t) ((execOp (evalBy (ρ g)) o).run Tryd.prog w)
theorem quiet2 {q : E2} {ops : Array Oper} {done : Nat → Bool} {g : GhE} {w : World} {ρ : GhE → Tmp → Value} {i : Nat} {o : Oper} (h : S2E q done g w) (d : Tmp) (hd : o.dst = some d) (hi : ∀ j, j < 2 → i ≠ 5 * j + 3 ∧ i ≠ 5 * j + 4 ∧ i ≠ 11 + 2 * j) (hg : Region.wanted o (yieldedBy ops (ρ g)) = true)
    (he : (execOp (evalBy (ρ g)) o).run Tryd.prog w = .ok (.value (ρ g d)) w) : Ask2 q ops ρ done g w i o := by
  refine ⟨hg, ?_⟩
  rw [he]
  exact ⟨g, h.quiet hi, fun e hE => by rw [hd] at hE; injection hE with hE; subst hE; rfl, fun _ _ => rfl⟩
theorem store2 {q : E2} {ops : Array Oper} {done : Nat → Bool} {g : GhE} {w : World} {ρ : GhE → Tmp → Value} {i : Nat} {o : Oper} (h : S2E q done g w) {j : Nat} (hj : j < 2) (hi : i = 11 + 2 * j) (ha : done (5 * j + 4) = true ∧ done 1 = true ∧ done 6 = true) (hd : o.dst = none) (hg : Region.wanted o (yieldedBy ops (ρ g)) = true)
    (he : (execOp (evalBy (ρ g)) o).run Tryd.prog w = .ok .skip (w.setCell ⟨q.tb, j + 1, none⟩ (g.c j))) : Ask2 q ops ρ done g w i o := by
  subst hi
  refine ⟨hg, ?_⟩
  rw [he]
  exact ⟨g, h.store hj ha, (fun e hE => by rw [hd] at hE; cases hE), fun _ _ => rfl⟩
set_option maxRecDepth 100000 in
theorem build2 {q : E2} {ops : Array Oper} {done : Nat → Bool} {g : GhE} {w : World} {ρ : GhE → Tmp → Value} {i : Nat} {o : Oper} (h : S2E q done g w) {j : Nat} (hj : j < 2) (d : Tmp) (hd : o.dst = some d) (hi : i = 5 * j + 3) (hg : Region.wanted o (yieldedBy ops (ρ g)) = true)
    (he : (execOp (evalBy (ρ g)) o).run Tryd.prog w = .ok (.value (.slice (some ⟨w.heap.size, 0, none⟩) 1 1)) (w.alloc (.cells (gC (q.n j)) 23)))
    (h1 : ∀ g' : GhE, ρ g' d = g'.b j) (h2 : ∀ (t : Tmp) (b' : Value), t ≠ d → ρ { g with b := updV g.b j b' } t = ρ g t) : Ask2 q ops ρ done g w i o := by
  subst hi
  refine ⟨hg, ?_⟩
  rw [he]
  exact ⟨_, h.build hj, fun e hE => by rw [hd] at hE; injection hE with hE; subst hE; rw [h1]; simp [updV], fun t ht => h2 t _ (fun e => ht (by rw [hd, e]))⟩
set_option maxRecDepth 100000 in
theorem append2 {q : E2} {ops : Array Oper} {done : Nat → Bool} {g : GhE} {w : World} {ρ : GhE → Tmp → Value} {i : Nat} {o : Oper} (h : S2E q done g w) {j : Nat} (hj : j < 2) (d : Tmp) (hd : o.dst = some d) (hi : i = 5 * j + 4) (hu : done i = false) (hb : done (5 * j + 3) = true) (hg : Region.wanted o (yieldedBy ops (ρ g)) = true)
    (s x : Tmp) (ho : o.op = .call { callee := .builtin .append, args := #[.tmp s, .tmp x], argTypes := #[33, 33] }) (hs : ρ g s = q.v j) (hx : ρ g x = g.b j) (hk : q.k + 1 ≤ 1000)
    (h1 : ∀ g' : GhE, ρ g' d = g'.c j) (h2 : ∀ (t : Tmp) (c' : Value), t ≠ d → ρ { g with c := updV g.c j c' } t = ρ g t) : Ask2 q ops ρ done g w i o := by
  subst hi
  obtain ⟨i0, hi0, hz0, hz1, hz2⟩ := info_parts goods_info
  obtain ⟨B, e1, e2, e3⟩ := h.news j hj hb
  have oj := h.own j hj
  have cj : c2E q done g j = q.v j := by unfold c2E; rw [hu]; rfl
  have lj : l2E q done j = q.k := by unfold l2E; rw [hu]; rfl
  have rj : r2E q done j = q.xs j := by unfold r2E; rw [hu]; rfl
  rw [cj, lj, rj] at oj
  obtain ⟨v', w', hr, a1, a2, _, a4⟩ := run_append_own_at (P := Tryd.prog) w q.base 33 o.type 23 i0 _ 3 24 Tryd.underlying33 hi0 hz0 hz1 hz2 (by decide) (by decide) (q.v j) q.k (q.xs j) oj ⟨B, 0, none⟩ 1 1 (gR (q.n j)) rfl
    (fun a u hu' => by
      have := cell_of_row w B a _ 23 (0, 0) e2
      rw [show (⟨B, 0, none⟩ : Addr).add a = ⟨B, a, none⟩ by unfold Addr.add; split <;> simp_all, this]
      simpa [gR] using hu') (by simp [gR, Value.oneCell']) (by unfold maxLen; omega) (by omega) (Nat.le_trans h.low h.out.2.2.2)
  have he : (execOp (evalBy (ρ g)) o).run Tryd.prog w = .ok (.value v') w' := by
    have e2' : evalBy (ρ g) (.tmp s) = q.v j := hs
    have e3' : evalBy (ρ g) (.tmp x) = .slice (some ⟨B, 0, none⟩) 1 1 := hx.trans e1
    unfold execOp
    simp only [ho, resolve, invoke, builtin, Sem.run_bind, Sem.run_pure, Result.andThen_ok, List.map_toArray, List.map_cons, List.map_nil, e2', e3', hr]
  refine ⟨hg, ?_⟩
  rw [he]
  exact ⟨_, h.append hj hu a1 a2 a4, fun e hE => by rw [hd] at hE; injection hE with hE; subst hE; rw [h1]; simp [updV], fun t ht => h2 t _ (fun e => ht (by rw [hd, e]))⟩
/-- Before all of them, and behind all of them. -/
theorem S2E.start {q : E2} {g : GhE} (hb : q.wS.heap[q.tb]? = some (.cells #[q.h0, q.v 0, q.v 1] 35 (0, 0))) (ho : ∀ j, j < 2 → q.wS.ownsRow q.base 23 3 (q.v j) q.k (q.xs j)) (hs : ∀ B, (q.v 0).ownBlock = some B → (q.v 1).ownBlock ≠ some B) (hl : q.base ≤ q.wS.heap.size) : S2E q (fun _ => false) g { q.wS with drawn := q.wS.drawn + 1 } :=
  ⟨⟨rfl, rfl, rfl, Nat.le_refl _⟩, fun _ _ _ _ => rfl, hb, fun j hj => own_next (ho j hj) (Below.refl _ q.wS).drew, fun i j hi hj hne B h1 h2 => by
    rcases (show (i = 0 ∧ j = 1) ∨ (i = 1 ∧ j = 0) by omega) with ⟨rfl, rfl⟩ | ⟨rfl, rfl⟩
    · exact hs B h1 h2
    · exact hs B h2 h1, fun j hj hd => by simp at hd, fun j hj hd => by simp at hd, fun j hj => .inl rfl, hl, heapsz hb⟩
theorem S2E.cell {q : E2} {done : Nat → Bool} {g : GhE} {w : World} (h : S2E q done g w) {b o : Nat} (hb : b < q.wS.heap.size) (ht : b ≠ q.tb) (hn : ∀ j, j < 2 → (q.v j).ownBlock ≠ some b) : w.cell? ⟨b, o, none⟩ = q.wS.cell? ⟨b, o, none⟩ := World.cell?_of_block (h.keep b hb ht hn)
def two2 {α : Type} (a b : α) : Nat → α
  | 0 => a
  | _ => b
/-- Behind the statement in which both lists grow. -/
theorem RR.grow {T L : Gd} {g : GhE} {u : World} (K : C.Ok) (h : RR C st ld ss ls qv sv lv w) (hl : ls.length = ss.length)
    (hS : S2E ⟨w, C.w0.heap.size, C.ob, .slice (some ⟨C.D, 0, none⟩) C.X.ns C.X.ns, ss.length, two2 sv lv, two2 (flatR gR ss) (flatR gR ls), two2 T L⟩ (fun i => decide (i < 14)) g u) :
    RR C st ld (ss ++ [T]) (ls ++ [L]) qv (g.c 0) (g.c 1) u := by
  have ko := hS.own
  have ks := hS.keep
  have kb := hS.box
  have kf := hS.frs
  have kp := hS.sep 0 1 (by decide) (by decide) (by decide)
  simp only [c2E, l2E, r2E, s2E] at ko kb kf kp
  have o0 := ko 0 (by decide); have o1 := ko 1 (by decide); have f0 := kf 0 (by decide); have f1 := kf 1 (by decide)
  simp only [two2] at o0 o1 f0 f1
  simp at o0 o1 f0 f1 kp kb
  have hown : ∀ {b : Nat} {cs : Array Value} {T' : TypeId}, w.heap[b]? = some (.cells cs T' (0, 0)) → (23 : TypeId) ≠ T' → ∀ j, j < 2 → (two2 sv lv j).ownBlock ≠ some b := fun hb hT j hj => by
    match j, hj with
    | 0, _ => exact own_ne_type h.so hb hT
    | 1, _ => exact own_ne_type h.lo hb hT
  have hno : ∀ {b : Nat}, sv.ownBlock ≠ some b → lv.ownBlock ≠ some b → ∀ j, j < 2 → (two2 sv lv j).ownBlock ≠ some b := fun h1 h2 j hj => by
    match j, hj with
    | 0, _ => exact h1
    | 1, _ => exact h2
  have kk : ∀ {b : Nat} {cs : Array Value} {T' : TypeId}, w.heap[b]? = some (.cells cs T' (0, 0)) → b ≠ C.ob → (∀ j, j < 2 → (two2 sv lv j).ownBlock ≠ some b) → u.heap[b]? = some (.cells cs T' (0, 0)) := fun hb h1 h2 => (ks _ (heapsz hb) h1 h2).trans hb
  have fr : ∀ {v v' : Value} {b : Nat} {cs : Array Value} {T' : TypeId}, w.heap[b]? = some (.cells cs T' (0, 0)) → v.ownBlock ≠ some b → (v'.ownBlock = v.ownBlock ∨ ∃ B, v'.ownBlock = some B ∧ w.heap.size ≤ B) → v'.ownBlock ≠ some b := fun hb hv hf e => by
    rcases hf with hf | ⟨B, hf, hB⟩
    · exact hv (hf ▸ e)
    · rw [hf] at e
      injection e with e
      have := heapsz hb
      omega
  refine ⟨⟨hS.out.1.trans h.bel.os, hS.out.2.1.trans h.bel.tape, hS.out.2.2.1.trans h.bel.output, Nat.le_trans h.bel.size hS.out.2.2.2, fun b hb => (ks b (Nat.lt_of_lt_of_le hb h.bel.size) (fun (e : b = C.ob) => by have := K.ob; omega) (hno (fun e => by have := (own_size h.so e).1; omega) (fun e => by have := (own_size h.lo e).1; omega))).trans (h.bel.block b hb)⟩,
    kk h.box (ne_type h.box h.out (by decide)) (hown h.box (by decide)), kb, kk h.stk (ne_type h.stk h.out (by decide)) (hno h.sk h.lk), kk h.lnd (ne_type h.lnd h.out (by decide)) (hno h.sD h.lD), h.ldl,
    own_of_blocks h.qo fun b hb => by
      obtain ⟨_, cur, hc⟩ := own_at h.qo hb
      exact ks b (heapsz hc) (ne_type hc h.out (by decide)) (hown hc (by decide)), ?_, ?_, fr h.lnd h.sD f0, fr h.lnd h.lD f1, fr h.stk h.sk f0, fr h.stk h.lk f1, kp, h.kD⟩
  · rw [List.length_append, flatR_snoc]
    exact o0
  · rw [List.length_append, flatR_snoc, hl]
    exact o1
end Go.Proofs.YtijjkiogmlannaaDoor
