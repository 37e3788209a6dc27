/- How heads sink: the code's walk over a plan. -/
import Derived.Laws.EntriesVeiled
import Derived.Laws.Cover3
import Derived.Test.YtdlaphlpimlgdaaGreatDoorAB
import Derived.LoopN
namespace Go.Proofs.YtdlaphlpimlgdaaGreatDoor
open Go.RowKit Go.Shelf
attribute [local go_sem] Oper.semAt_some

/-- The head of a pile at the beginning of a year, and its level at the year's end. -/
def hdI (f : Nat → Nat → Int) (plan : List Int) : Nat → Nat → Int
  | 0, _ => 0
  | t + 1, i => if jackB (plan.getD t 0) i then 0 else hdI f plan t i - f t i
def lvI (f : Nat → Nat → Int) (plan : List Int) (t i : Nat) : Int := hdI f plan t i - f t i
def hdL (f : Nat → Nat → Int) (plan : List Int) (np t : Nat) : List Int := (List.range np).map (hdI f plan t)
def lvL (f : Nat → Nat → Int) (plan : List Int) (np t : Nat) : List Int := (List.range np).map (lvI f plan t)

theorem int_info : (Tryz.prog.info? 3).map (fun i => (i.zero, i.size, i.bytes)) = some (some (.int .i64 0), 1, 8) := by kernel_rfl
theorem ints_info : (Tryz.prog.info? 34).map (fun i => (i.zero, i.size, i.bytes)) = some (some (.slice none 0 0), 1, 24) := by kernel_rfl
/-! ### Marks of ranges over functions -/
def markD (D : Nat) : Deferred := { target := .collected D, args := #[] }
def Marks (w : World) (B : Nat) (Ds : List Nat) : Prop := Ds.Nodup ∧ ∀ D ∈ Ds, B ≤ D ∧ w.heap[D]? = some (.deferred (some []))
/-- Cells are kept, and all below. -/
def CellsK (B : Nat) (w w' : World) : Prop := Below B w w' ∧ ∀ (b : Nat) (cs : Array Value) (t : TypeId) (z : Nat × Nat), w.heap[b]? = some (.cells cs t z) → w'.heap[b]? = some (.cells cs t z)
theorem CellsK.refl (B : Nat) (w : World) : CellsK B w w := ⟨Below.refl _ _, fun _ _ _ _ h => h⟩
theorem CellsK.trans {B : Nat} {a b c : World} (h : CellsK B a b) (k : CellsK B b c) : CellsK B a c := ⟨h.1.trans k.1, fun b cs t z hb => k.2 b cs t z (h.2 b cs t z hb)⟩
theorem cellsK_put {B : Nat} {w : World} {D : Nat} {o : Obj} (o' : Obj) (h : w.heap[D]? = some o) (ho : o.isCells = false) (hB : B ≤ D) : CellsK B w (w.putObj D o') := by
  refine ⟨(Below.refl B w).grown (grownBy_putObj' w D o') (by have := (Array.getElem?_eq_some_iff.1 h).1; omega) (fun k e => by cases e; omega), fun b cs t z hb => ?_⟩
  have hne : b ≠ D := fun e => by
    subst e
    rw [h] at hb
    cases hb
    simp [Obj.isCells] at ho
  exact (World.putObj_heap_other hne).trans hb
theorem leaves_marks {F : Fence} {n : Nat} {fn : Func} {tmps : Array Value} {R : Ending → World → Prop} {B : Nat} : ∀ (Ds : List Nat) (w : World), Marks w B Ds →
    (∀ w', CellsK B w w' → LeavesIn F n Tryz.prog fn tmps R [] .returning w') → LeavesInM F n Tryz.prog fn tmps R (Ds.map markD) .returning w
  | [], w, _, h => h w (CellsK.refl _ _)
  | D :: Ds, w, hm, h => by
    obtain ⟨hnd, hall⟩ := hm
    obtain ⟨hB, hD⟩ := hall D List.mem_cons_self
    have hk := cellsK_put (B := B) (.deferred none) hD rfl hB
    refine ⟨by simp, .inl ⟨D, _, rfl, run_takeDeferred hD, ?_⟩⟩
    refine leaves_marks Ds _ ⟨(List.nodup_cons.1 hnd).2, fun E hE => ⟨(hall E (List.mem_cons_of_mem _ hE)).1, ?_⟩⟩ (fun w' hw => h w' (hk.trans hw))
    have hne : E ≠ D := fun e => (List.nodup_cons.1 hnd).1 (e ▸ hE)
    exact (World.putObj_heap_other hne).trans (hall E (List.mem_cons_of_mem _ hE)).2
/-- Numbers as values. -/
def iV (xs : List Int) : Array Value := (xs.map fun x => Value.int .i64 x).toArray
theorem iV_get {xs : List Int} {i : Nat} {x : Int} (h : xs[i]? = some x) : (iV xs)[i]? = some (.int .i64 x) := by simp [iV, h]
/-- Rows that were made: each in a block of its own. -/
def RowsOk (B : Nat) (rows : List Value) (LL : List (List Int)) (wr : World) : Prop :=
  rows.length = LL.length ∧ ∀ (j : Nat) (row : List Int), LL[j]? = some row → ∃ b c, rows[j]? = some (.slice (some ⟨b, 0, none⟩) row.length c) ∧ B ≤ b ∧ row.length ≤ c ∧ ∃ cs, wr.heap[b]? = some (.cells cs 3 (0, 0)) ∧ ∀ (i : Nat) (x : Int), row[i]? = some x → cs[i]? = some (.int .i64 x)
structure SinkI (w : World) (np : Nat) (hs : List Int) (LL : List (List Int)) (t : Nat) (lv : Value) (rows : List Value) (Ds : List Nat) (wr : World) : Prop where
  bel : Below w.heap.size w wr
  hd : wr.heap[w.heap.size]? = some (.cells (iV hs) 3 (0, 0))
  bx : wr.heap[w.heap.size + 1]? = some (.cells #[.slice (some ⟨w.heap.size, 0, none⟩) np np] 34 (0, 0))
  own : wr.ownsRow (w.heap.size + 1 + 1) 34 1 lv t rows
  rws : RowsOk (w.heap.size + 1 + 1) rows LL wr
  mks : Marks wr (w.heap.size + 1 + 1) Ds
theorem one_ints {xs : List Int} : ∀ u ∈ xs.map (fun x => Value.int .i64 x), u.oneCell' = true := by
  intro u hu
  obtain ⟨x, _, rfl⟩ := List.mem_map.1 hu
  rfl
/-- A row of its own, as what its block holds. -/
theorem own_block {w : World} {base : Nat} {e : TypeId} {n g c : Nat} {xs : List Value} (h : w.ownsRow base e 1 (.slice (some ⟨g, 0, none⟩) n c) n xs) : base ≤ g ∧ n ≤ c ∧ ∃ cs, w.heap[g]? = some (.cells cs e (0, 0)) ∧ ∀ (i : Nat) (x : Value), xs[i]? = some x → cs[i]? = some x := by
  rcases h.2 with h0 | ⟨g', cap, cur, h1, h2, h3, h4, _, _, h6⟩
  · exact absurd h0.1 (by simp)
  · injection h1 with e1 e2 e3
    injection e1 with e1
    injection e1 with e1
    subst e1 e3
    refine ⟨h2, h4, cur, h3, fun i x hx => ?_⟩
    rw [← h6, List.getElem?_take] at hx
    split at hx
    · simpa using hx
    · simp at hx
theorem own_next {w w' : World} {base : Nat} {e : TypeId} {size n : Nat} {v : Value} {xs : List Value} (h : w.ownsRow base e size v n xs) (hb : Below w.heap.size w w') : w'.ownsRow base e size v n xs :=
  h.kept (row := none) ⟨hb.os, hb.tape, hb.output, hb.size, fun b hb' _ => hb.block b hb'⟩ (by
    cases hv : v.ownBlock with
    | none => exact .inl rfl
    | some _ => exact .inr (by simp))
theorem own_of_blocks {w w' : World} {base : Nat} {e : TypeId} {size n : Nat} {v : Value} {xs : List Value} (h : w.ownsRow base e size v n xs) (hk : ∀ B, v.ownBlock = some B → w'.heap[B]? = w.heap[B]?) : w'.ownsRow base e size v n xs := by
  refine ⟨h.1, ?_⟩
  rcases h.2 with h0 | ⟨k, cap, cur, rfl, hb, hh, hr⟩
  · exact .inl h0
  · exact .inr ⟨k, cap, cur, rfl, hb, (hk k rfl).trans hh, hr⟩
theorem own_at {w : World} {base : Nat} {e : TypeId} {size n : Nat} {v : Value} {xs : List Value} (h : w.ownsRow base e size v n xs) {B : Nat} (hB : v.ownBlock = some B) : base ≤ B ∧ ∃ cur, w.heap[B]? = some (.cells cur e (0, 0)) := by
  rcases h.2 with h0 | ⟨k, cap, cur, rfl, hb, hh, hr⟩
  · rw [h0.1] at hB
    simp [Value.ownBlock] at hB
  · simp [Value.ownBlock] at hB
    subst hB
    exact ⟨hb, cur, hh⟩
/-- Whatever keeps the blocks that matter. -/
theorem SinkI.keep {w wr wq : World} {np t : Nat} {hs : List Int} {LL : List (List Int)} {lv : Value} {rows : List Value} {Ds : List Nat} (h : SinkI w np hs LL t lv rows Ds wr)
    (hb : Below w.heap.size w wq) (hk : ∀ b o, w.heap.size ≤ b → o.isCells = true ∨ b ∈ Ds → wr.heap[b]? = some o → wq.heap[b]? = some o) : SinkI w np hs LL t lv rows Ds wq :=
  ⟨hb, hk _ _ (Nat.le_refl _) (.inl rfl) h.hd, hk _ _ (by omega) (.inl rfl) h.bx, own_of_blocks h.own (fun B hB => by
    obtain ⟨h1, cur, h2⟩ := own_at h.own hB
    rw [hk B _ (by omega) (.inl rfl) h2, h2]), ⟨h.rws.1, fun j row hj => by
    obtain ⟨b, c, h1, h2, h3, cs, h4, h5⟩ := h.rws.2 j row hj
    exact ⟨b, c, h1, h2, h3, cs, hk _ _ (by omega) (.inl rfl) h4, h5⟩⟩, ⟨h.mks.1, fun D hD => ⟨(h.mks.2 D hD).1, hk _ _ (by have := (h.mks.2 D hD).1; omega) (.inr hD) (h.mks.2 D hD).2⟩⟩⟩
theorem SinkI.below {w wr wq : World} {np t : Nat} {hs : List Int} {LL : List (List Int)} {lv : Value} {rows : List Value} {Ds : List Nat} (h : SinkI w np hs LL t lv rows Ds wr) (hb : Below wr.heap.size wr wq) : SinkI w np hs LL t lv rows Ds wq :=
  h.keep (h.bel.trans (hb.mono h.bel.size)) (fun b _ _ _ ho => (hb.block b (Array.getElem?_eq_some_iff.1 ho).1).trans ho)
/-- One head more is set. -/
theorem SinkI.set {w wr : World} {np t i : Nat} {hs : List Int} {LL : List (List Int)} {lv : Value} {rows : List Value} {Ds : List Nat} (h : SinkI w np hs LL t lv rows Ds wr) (v : Int) :
    SinkI w np (hs.set i v) LL t lv rows Ds (wr.setCell ⟨w.heap.size, i, none⟩ (.int .i64 v)) := by
  have hset : (wr.setCell ⟨w.heap.size, i, none⟩ (.int .i64 v)).heap[w.heap.size]? = some (.cells (iV (hs.set i v)) 3 (0, 0)) := by
    rw [blk_set h.hd]
    congr 2
    unfold iV
    rw [List.map_set]
    simp
  have hk : ∀ b o, b ≠ w.heap.size → wr.heap[b]? = some o → (wr.setCell ⟨w.heap.size, i, none⟩ (.int .i64 v)).heap[b]? = some o := fun b o hne ho => (Below.heap_setCell _ _ _ _ hne).trans ho
  refine ⟨h.bel.setCell (p := ⟨w.heap.size, i, none⟩) (Nat.le_refl _) _, hset, hk _ _ (by omega) h.bx, own_of_blocks h.own (fun B hB => by
    obtain ⟨h1, cur, h2⟩ := own_at h.own hB
    rw [hk B _ (by omega) h2, h2]), ⟨h.rws.1, fun j row hj => by
    obtain ⟨b, c, h1, h2, h3, cs, h4, h5⟩ := h.rws.2 j row hj
    exact ⟨b, c, h1, h2, h3, cs, hk _ _ (by omega) h4, h5⟩⟩, ⟨h.mks.1, fun D hD => ⟨(h.mks.2 D hD).1, hk _ _ (by have := (h.mks.2 D hD).1; omega) (h.mks.2 D hD).2⟩⟩⟩
theorem own_mono {w : World} {base base' : Nat} {e : TypeId} {size n : Nat} {v : Value} {xs : List Value} (h : w.ownsRow base e size v n xs) (hb : base' ≤ base) : w.ownsRow base' e size v n xs := by
  refine ⟨h.1, ?_⟩
  rcases h.2 with h0 | ⟨k, cap, cur, h1, h2, h3⟩
  · exact .inl h0
  · exact .inr ⟨k, cap, cur, h1, Nat.le_trans hb h2, h3⟩
theorem own_ne {w : World} {base : Nat} {e : TypeId} {size n : Nat} {v : Value} {xs : List Value} (h : w.ownsRow base e size v n xs) {b : Nat} {o : Obj} (hb : w.heap[b]? = some o) (ho : b < base ∨ ∀ cur, o ≠ .cells cur e (0, 0)) : some b ≠ v.ownBlock := fun hv => by
  obtain ⟨h1, cur, h2⟩ := own_at h hv.symm
  rcases ho with ho | ho
  · omega
  · rw [h2] at hb
    injection hb with hb
    exact ho cur hb.symm
theorem SinkI.append {w wr wq : World} {np t g c' : Nat} {hs row : List Int} {LL : List (List Int)} {lv v' : Value} {rows : List Value} {Ds : List Nat} {o : Obj} (h : SinkI w np hs LL t lv rows Ds wr)
    (hg : wr.ownsRow (w.heap.size + 1 + 1) 3 1 (.slice (some ⟨g, 0, none⟩) row.length c') row.length (row.map fun x => Value.int .i64 x))
    (ho : wq.ownsRow (w.heap.size + 1 + 1) 34 1 v' (t + 1) (rows ++ [.slice (some ⟨g, 0, none⟩) row.length c'])) (hq : (wr.alloc o).grownBy wq lv.ownBlock) :
    SinkI w np hs (LL ++ [row]) (t + 1) v' (rows ++ [.slice (some ⟨g, 0, none⟩) row.length c']) Ds wq := by
  have hb0 := (Below.refl wr.heap.size wr).alloc (Nat.le_refl _) o
  have hk : ∀ b x, wr.heap[b]? = some x → some b ≠ lv.ownBlock → wq.heap[b]? = some x := fun b x hx hne => by
    have hlt := (Array.getElem?_eq_some_iff.1 hx).1
    exact (hq.block b (by simp; omega) hne).trans ((hb0.block b hlt).trans hx)
  obtain ⟨e1, e2, cs, e3, e4⟩ := own_block hg
  refine ⟨(h.bel.trans (hb0.mono h.bel.size)).grown hq (Nat.le_trans h.bel.size hb0.size) (fun B hB => by have := (own_at h.own hB).1; omega), hk _ _ h.hd (own_ne h.own h.hd (.inl (by omega))), hk _ _ h.bx (own_ne h.own h.bx (.inl (by omega))), ho, ⟨by rw [List.length_append, List.length_append, h.rws.1]; rfl, fun j r hj => ?_⟩, ⟨h.mks.1, fun D hD => ⟨(h.mks.2 D hD).1, hk _ _ (h.mks.2 D hD).2 (own_ne h.own (h.mks.2 D hD).2 (.inr (fun _ e => by cases e)))⟩⟩⟩
  by_cases hjl : j < LL.length
  · rw [List.getElem?_append_left hjl] at hj
    obtain ⟨b, c, h1, h2, h3, cs, h4, h5⟩ := h.rws.2 j r hj
    exact ⟨b, c, by rw [List.getElem?_append_left (by rw [h.rws.1]; exact hjl)]; exact h1, h2, h3, cs, hk _ _ h4 (own_ne h.own h4 (.inr (fun _ e => by injection e with _ e; cases e))), h5⟩
  · have : j = LL.length := by
      have := (List.getElem?_eq_some_iff.1 hj).1
      simp at this
      omega
    subst this
    rw [List.getElem?_append_right (Nat.le_refl _), Nat.sub_self] at hj
    simp at hj
    subst hj
    refine ⟨g, c', by rw [← h.rws.1, List.getElem?_append_right (Nat.le_refl _), Nat.sub_self]; rfl, e1, e2, cs, hk _ _ e3 (own_ne h.own e3 (.inr (fun _ e => by injection e with _ e; cases e))), fun i x hx => e4 i _ (by rw [List.getElem?_map, hx]; rfl)⟩
theorem made_zero {f : Nat → Nat → Int} {plan : List Int} {np : Nat} : iV (hdL f plan np 0) = madeCells #[Value.int .i64 0] np := by
  apply Array.ext_getElem?
  intro i
  unfold iV hdL madeCells
  by_cases h : i < np
  · simp [h, hdI, Nat.mod_one]
  · simp [h]
/-- Rows of numbers in new memory. -/
def LvsIn (w : World) (lo : Nat) (A : Option Addr) (LL : List (List Int)) : Prop :=
  LL ≠ [] → ∃ b o, A = some ⟨b, o, none⟩ ∧ lo ≤ b ∧ b < w.heap.size ∧ ∀ (i : Nat) (x : List Int), LL[i]? = some x → ∃ A' c', w.cell? ⟨b, o + i, none⟩ = some (.slice A' x.length c') ∧ x.length ≤ maxLen ∧ x.length ≤ c' ∧
    (x ≠ [] → ∃ b' o', A' = some ⟨b', o', none⟩ ∧ lo ≤ b' ∧ b' < w.heap.size ∧ ∀ (k : Nat) (y : Int), x[k]? = some y → w.cell? ⟨b', o' + k, none⟩ = some (.int .i64 y))
theorem LvsIn.at_ {w : World} {lo : Nat} {A : Option Addr} {LL : List (List Int)} (h : LvsIn w lo A LL) : LvsAt w w.heap.size A LL := fun hne => by
  obtain ⟨b, o, rfl, _, h2, h3⟩ := h hne
  refine ⟨b, o, rfl, h2, fun i x hx => ?_⟩
  obtain ⟨A', c', e1, e2, e3, e4⟩ := h3 i x hx
  refine ⟨A', c', e1, fun hx0 => ?_, e2, e3⟩
  obtain ⟨b', o', rfl, _, e6, e7⟩ := e4 hx0
  refine ⟨b', o', rfl, e6, fun k y hy j v hv => ?_⟩
  cases j with
  | succ j => simp [intR] at hv
  | zero =>
    simp [intR] at hv
    subst hv
    simpa using e7 k y hy
theorem LvsIn.keep {w w' : World} {lo : Nat} {A : Option Addr} {LL : List (List Int)} (h : LvsIn w lo A LL) (hs : w.heap.size ≤ w'.heap.size) (hk : ∀ b o, lo ≤ b → b < w.heap.size → w'.cell? ⟨b, o, none⟩ = w.cell? ⟨b, o, none⟩) : LvsIn w' lo A LL := fun hne => by
  obtain ⟨b, o, rfl, h1, h2, h3⟩ := h hne
  refine ⟨b, o, rfl, h1, by omega, fun i x hx => ?_⟩
  obtain ⟨A', c', e1, e2, e3, e4⟩ := h3 i x hx
  refine ⟨A', c', (hk _ _ h1 h2).trans e1, e2, e3, fun hx0 => ?_⟩
  obtain ⟨b', o', rfl, e5, e6, e7⟩ := e4 hx0
  exact ⟨b', o', rfl, e5, by omega, fun k y hy => (hk _ _ e5 e6).trans (e7 k y hy)⟩
theorem LvsIn.up {w w' : World} {lo : Nat} {A : Option Addr} {LL : List (List Int)} (h : LvsIn w lo A LL) (hb : Below w.heap.size w w') : LvsIn w' lo A LL := h.keep hb.size (fun _ _ _ h2 => (bcell hb).1 _ _ h2)
/-- What was made, as rows of numbers. -/
theorem SinkI.lvs {w wr w' : World} {np t : Nat} {hs : List Int} {LL : List (List Int)} {lv : Value} {rows : List Value} {Ds : List Nat} (h : SinkI w np hs LL t lv rows Ds wr) (hk : CellsK (w.heap.size + 1 + 1) wr w') (hl : LL.length = t) (h10 : ∀ row ∈ LL, row.length ≤ maxLen) :
    ∃ A3 c3, lv = .slice A3 t c3 ∧ LvsIn w' w.heap.size A3 LL ∧ t ≤ c3 ∧ Below w.heap.size w w' := by
  have hb : Below w.heap.size w w' := h.bel.trans (hk.1.mono (by omega))
  rcases h.own.2 with ⟨rfl, rfl⟩ | ⟨g, cap, cur, rfl, h2, h3, h4, h5, h6, h7⟩
  · refine ⟨none, 0, rfl, fun hne => ?_, Nat.le_refl _, hb⟩
    cases LL with
    | nil => exact absurd rfl hne
    | cons a l => simp at hl
  · refine ⟨_, cap, rfl, fun _ => ⟨g, 0, rfl, by omega, (Array.getElem?_eq_some_iff.1 (hk.2 _ _ _ _ h3)).1, fun i x hx => ?_⟩, h4, hb⟩
    obtain ⟨b, c, e1, e2, e3, cs, e4, e5⟩ := h.rws.2 i x hx
    refine ⟨some ⟨b, 0, none⟩, c, ?_, h10 x (List.mem_of_getElem? hx), e3, fun _ => ⟨b, 0, rfl, by omega, (Array.getElem?_eq_some_iff.1 (hk.2 _ _ _ _ e4)).1, fun k y hy => ?_⟩⟩
    · rw [Nat.zero_add, cell_of_row w' g i _ 34 (0, 0) (hk.2 _ _ _ _ h3)]
      rw [← h7, List.getElem?_take] at e1
      split at e1
      · simpa using e1
      · simp at e1
    · rw [Nat.zero_add, cell_of_row w' b k _ 3 (0, 0) (hk.2 _ _ _ _ e4), e5 k y hy]
/-- One mark more. -/
theorem SinkI.mark {w wr : World} {np t D : Nat} {hs : List Int} {LL : List (List Int)} {lv : Value} {rows : List Value} {Ds : List Nat} (h : SinkI w np hs LL t lv rows Ds wr) {N : Nat} (hN : ∀ E ∈ Ds, E < N) (hD : N ≤ D) (hB : w.heap.size + 1 + 1 ≤ N) (hk : wr.heap[D]? = some (.deferred (some []))) :
    SinkI w np hs LL t lv rows (D :: Ds) wr :=
  ⟨h.bel, h.hd, h.bx, h.own, h.rws, ⟨List.nodup_cons.2 ⟨fun hm => by have := hN D hm; omega, h.mks.1⟩, fun E hE => by
    rcases List.mem_cons.1 hE with rfl | hE
    · exact ⟨by omega, hk⟩
    · exact h.mks.2 E hE⟩⟩
theorem jack_lt {s : Int} {k np : Nat} (h0 : 0 ≤ s) (h1 : s ≤ (2 ^ np : Int) - 1) (h : jackB s k = true) : k < np := by
  unfold jackB at h
  rw [half_pow] at h
  have h2 : s / 2 ^ k % 2 = 1 := by simpa using h
  rcases Nat.lt_or_ge k np with h3 | h3
  · exact h3
  · exfalso
    have h4 : (2 ^ np : Int) ≤ 2 ^ k := by
      have := Nat.pow_le_pow_right (show 0 < 2 by decide) h3
      exact_mod_cast this
    have h5 : s / 2 ^ k = 0 := Int.ediv_eq_zero_of_lt h0 (by omega)
    rw [h5] at h2
    omega
/-- Heads of some piles at 0. -/
def zeroL (xs : List Nat) (hs : List Int) : List Int := xs.foldl (fun h i => h.set i 0) hs
theorem zeroL_snoc (xs : List Nat) (x : Nat) (hs : List Int) : zeroL (xs ++ [x]) hs = (zeroL xs hs).set x 0 := by simp [zeroL]
theorem zeroL_len (xs : List Nat) : ∀ hs : List Int, (zeroL xs hs).length = hs.length := by
  induction xs with
  | nil => exact fun _ => rfl
  | cons x xs ih =>
    intro hs
    show (zeroL xs (hs.set x 0)).length = _
    rw [ih, List.length_set]
theorem zeroL_at (xs : List Nat) : ∀ (hs : List Int) (i : Nat), (zeroL xs hs)[i]? = (hs[i]?).map fun h => if i ∈ xs then 0 else h := by
  induction xs with
  | nil => intro hs i; simp [zeroL]
  | cons x xs ih =>
    intro hs i
    show (zeroL xs (hs.set x 0))[i]? = _
    rw [ih, List.getElem?_set]
    by_cases h : x = i
    · subst h
      rw [if_pos rfl]
      by_cases h2 : x < hs.length
      · rw [if_pos h2, List.getElem?_eq_getElem h2]
        simp
      · rw [if_neg h2, List.getElem?_eq_none (by omega)]
        simp
    · rw [if_neg h]
      have : (i ∈ x :: xs) = (i ∈ xs) := by simp [Ne.symm h]
      simp [this]
theorem zero_hd {f : Nat → Nat → Int} {plan : List Int} {np t : Nat} {J : Int} (hJ : plan[t]? = some J) (h6 : np ≤ 6) : zeroL (pilL J) (lvL f plan np t) = hdL f plan np (t + 1) := by
  apply List.ext_getElem?
  intro i
  rw [zeroL_at]
  unfold lvL hdL
  rw [List.getElem?_map, List.getElem?_map]
  by_cases hi : i < np
  · rw [List.getElem?_range hi]
    simp only [Option.map_some]
    congr 1
    show _ = if jackB (plan.getD t 0) i then 0 else hdI f plan t i - f t i
    rw [List.getD_eq_getElem?_getD, hJ]
    simp only [Option.getD_some, lvI]
    have : i ∈ pilL J ↔ jackB J i = true := by
      unfold pilL
      rw [List.mem_filter, List.mem_range]
      exact ⟨fun h => h.2, fun h => ⟨by omega, h⟩⟩
    by_cases hj : jackB J i = true
    · rw [if_pos (this.2 hj), if_pos hj]
    · rw [if_neg (fun h => hj (this.1 h)), if_neg hj]
  · rw [List.getElem?_eq_none (by simp; omega)]
    rfl
def mixL (f : Nat → Nat → Int) (plan : List Int) (np t k : Nat) : List Int := (List.range np).map fun i => if i < k then lvI f plan t i else hdI f plan t i
theorem mix_0 (f : Nat → Nat → Int) (plan : List Int) (np t : Nat) : mixL f plan np t 0 = hdL f plan np t := by simp [mixL, hdL]
theorem mix_np (f : Nat → Nat → Int) (plan : List Int) (np t : Nat) : mixL f plan np t np = lvL f plan np t := by
  unfold mixL lvL
  refine List.map_congr_left fun i hi => ?_
  rw [if_pos (List.mem_range.1 hi)]
theorem mix_set (f : Nat → Nat → Int) (plan : List Int) (np t k : Nat) : (mixL f plan np t k).set k (lvI f plan t k) = mixL f plan np t (k + 1) := by
  apply List.ext_getElem?
  intro j
  unfold mixL
  rw [List.getElem?_set, List.getElem?_map, List.getElem?_map]
  simp only [List.length_map, List.length_range]
  by_cases h : k = j
  · subst h
    by_cases h2 : k < np
    · simp [h2]
    · simp [h2]
  · rw [if_neg h]
    by_cases h2 : j < np
    · rw [List.getElem?_range h2]
      simp only [Option.map_some]
      by_cases h3 : j < k
      · rw [if_pos h3, if_pos (by omega)]
      · rw [if_neg h3, if_neg (by omega)]
    · rw [List.getElem?_eq_none (by simp; omega)]
      rfl
theorem mix_at {f : Nat → Nat → Int} {plan : List Int} {np t k : Nat} (h : k < np) : (mixL f plan np t k)[k]? = some (hdI f plan t k) := by
  unfold mixL
  rw [List.getElem?_map, List.getElem?_range h]
  simp
theorem hdI_in {f : Nat → Nat → Int} (hf : ∀ t i, 0 ≤ f t i ∧ f t i ≤ 1000) (plan : List Int) : ∀ (t i : Nat), -1000 * (t : Int) ≤ hdI f plan t i ∧ hdI f plan t i ≤ 0
  | 0, i => by simp [hdI]
  | t + 1, i => by
    have := hdI_in hf plan t i
    have h2 := hf t i
    unfold hdI
    split <;> omega
theorem eql_nil (a : Addr) (n c : Nat) (w : World) : Sem.run Tryz.prog (binOp .eql 34 (.slice (some a) n c) (.slice none 0 0)) w = .ok (.bool false) w := by
  simp [binOp, run_equal_slice_nil w 34 3 (some a) n c Tryz.underlying34]
set_option maxRecDepth 100000 in
set_option maxHeartbeats 1000000 in
theorem clone_any (b o n c : Nat) (xs : List Int) (w : World) (hl : xs.length = n) (h1 : 1 ≤ n) (hn : n ≤ 1000) (hA : ∀ i x, xs[i]? = some x → w.cell? ⟨b, o + i, none⟩ = some (.int .i64 x)) :
    Calls Tryz.prog 113 #[.slice (some ⟨b, o, none⟩) n c] w fun e w' => ∃ g c', e = .returned (.slice (some ⟨g, 0, none⟩) n c') ∧ w'.ownsRow w.heap.size 3 1 (.slice (some ⟨g, 0, none⟩) n c') n (xs.map fun x => Value.int .i64 x) ∧ Below w.heap.size w w' := by
  obtain ⟨i0, hi0, hz0, hz1, hz2⟩ := info_parts int_info
  have HL := Lib.hid hl
  have HA : Hid (∀ j u, (xs.map fun x => Value.int .i64 x)[j]? = some u → (w.alloc (.cells #[] 3)).cell? ((⟨b, o, none⟩ : Addr).add j) = some u) := Lib.hid fun j u hu => by
    rw [List.getElem?_map] at hu
    cases hx : xs[j]? with
    | none => rw [hx] at hu; simp at hu
    | some x =>
      rw [hx] at hu
      simp at hu
      subst hu
      have h2 := hA j x hx
      have hlt : b < w.heap.size := by
        obtain ⟨o', h3, _⟩ := cells_of_cell h2
        exact (Array.getElem?_eq_some_iff.1 h3).1
      have e1 : (⟨b, o, none⟩ : Addr).add j = ⟨b, o + j, none⟩ := by unfold Addr.add; split <;> simp_all
      rw [e1]
      exact (World.cell?_alloc_lt w _ ⟨b, o + j, none⟩ hlt).trans h2
  have own0 : (w.alloc (.cells #[] 3)).ownsRow w.heap.size 3 1 (.slice (some ⟨w.heap.size, 0, none⟩) 0 0) 0 [] := ⟨rfl, .inr ⟨w.heap.size, 0, #[], rfl, Nat.le_refl _, heap_alloc_new w _, Nat.le_refl _, Nat.zero_le _, rfl, rfl⟩⟩
  have HB := Lib.hid ((Below.refl w.heap.size w).alloc (Nat.le_refl _) (.cells #[] 3))
  have hq := eql_nil ⟨b, o, none⟩ n c w
  clear hA hl
  go_enter Tryz.func113, Tryz.ntmps113
  go_wp2_with (first
    | (at_builtin
       refine wpList_append_own _ rfl _ _ 34 rfl w.heap.size 3 i0 _ 1 8 Tryz.underlying34 hi0 hz0 hz1 hz2 rfl (by decide) _ _ _ rfl own0 ⟨b, o, none⟩ n c (xs.map fun x => Value.int .i64 x) rfl (by rw [List.length_map, HL.out, Nat.mul_one]) HA.out one_ints (by unfold maxLen; omega) (by omega) (by simp) ?_
       intro v' w4 hown4 hgrow4 hnil4)
    | fail)
  go_ret
  have hne : 0 < 0 + n := by omega
  obtain ⟨g, c', rfl, _⟩ := hown4.form hne
  rw [Nat.zero_add] at hown4
  refine ⟨g, c', by rw [Nat.zero_add]; rfl, by simpa using hown4, ?_⟩
  exact HB.out.grown hgrow4 HB.out.size (fun k e => by cases e; exact Nat.le_refl _)
set_option maxRecDepth 100000 in
set_option maxHeartbeats 2000000 in
theorem sink_any {X : Ctx} (K : X.Ok) (fid : Nat) (fs cs : Array Value) (f : Nat → Nat → Int) (A2 : Option Addr) (m c2 : Nat) (plan : List Int) (w : World) (hX : X.At w) (hm : plan.length = m) (hmn : m ≤ X.n) (hL : IntsAt w w.heap.size A2 plan) (hP : planB X.np plan = true)
    (hf : ∀ t i, 0 ≤ f t i ∧ f t i ≤ 1000)
    (hE : ∀ args w, (callFunc fid args).run Tryz.prog w = .ok (.enter fid args) w)
    (hC : ∀ u, Below w.heap.size w u → ∀ t i : Nat, t < X.n → i < X.np → Calls Tryz.prog fid (fs ++ (#[.int .i64 (t : Int), .int .i64 (i : Int)] ++ cs)) u fun e w' => e = .returned (.int .i64 (f t i)) ∧ Below u.heap.size u w') :
    Calls Tryz.prog 81 #[.pointer (some ⟨X.G, 0, none⟩), .slice A2 m c2, .func (.func fid) fs cs] w fun e w' => ∃ A3 c3, e = .returned (.slice A3 m c3) ∧ LvsIn w' w.heap.size A3 ((List.range m).map (lvL f plan X.np)) ∧ m ≤ c3 ∧ Below w.heap.size w w' := by
  have HX := Lib.hid hX
  have HL := Lib.hid hL
  have HM := Lib.hid hm
  obtain ⟨g0, _, _, _, _, _, _⟩ := look_cells hX.g
  have np6 := K.np6
  have n10 := K.n10
  clear hX hL hm
  obtain ⟨i0, hi0, hz0, hz1, hz2⟩ := info_parts int_info
  have hmk := fun W : World => run_make (P := Tryz.prog) 34 3 i0 _ Tryz.underlying34 hi0 hz0 .i64 .i64 (X.np : Int) (X.np : Int) (by omega) (by omega) (by rw [hz2]; omega) (by omega) (w := W)
  simp only [Int.toNat_natCast, hz1, Nat.mul_one] at hmk
  refine callsIn_wide.1 (callsIn_of_wp_marks (n := 5) Tryz.func81 rfl trivial (wpIn_wide.2 ?_) rfl)
  simp only [Tryz.ntmps81, List.size_toArray, List.length_cons, List.length_nil, Nat.reduceAdd, Nat.reduceSub, Array.replicate_succ, Array.replicate_zero, List.push_toArray, List.append_toArray, List.nil_append, List.cons_append]
  go_wp2_with fail
  refine wp_loop (fun a' wr => ∃ (t : Nat) (lv : Value) (rows : List Value) (Ds : List Nat) (u9 u10 u11 u12 u23 u24 u25 u26 u27 u28 u29 u30 u31 u32 u33 u34 u35 u36 u37 u38 u39 u40 u41 u42 u43 u44 u45 u46 u47 u48 u49 u50 u51 u52 u53 u54 : Value), t ≤ m ∧ SinkI w X.np (hdL f plan X.np t) ((List.range t).map (lvL f plan X.np)) t lv rows Ds wr ∧ a' = { tmps := #[.pointer (some ⟨X.G, 0, none⟩), .slice A2 m c2, .func (.func fid) fs cs, undef, undef, undef, .slice none 0 0, .pointer (some ⟨w.heap.size + 1, 0, none⟩), lv, u9, u10, u11, u12, .pointer (some ⟨X.G, 0, none⟩), .pointer (some ⟨X.G, 0, none⟩), .pointer (some ⟨X.G, 0, none⟩), .pointer (some ⟨X.G, 0, none⟩), .slice X.AP X.np X.cp, .int .i64 (X.np : Int), .slice (some ⟨w.heap.size, 0, none⟩) X.np X.np, .slice A2 m c2, .int .i64 (m : Int), .int .i64 (t : Int), u23, u24, u25, u26, u27, u28, u29, u30, u31, u32, u33, u34, u35, u36, u37, u38, u39, u40, u41, u42, u43, u44, u45, u46, u47, u48, u49, u50, u51, u52, u53, u54, undef], defers := Ds.map markD }) (fun a' _ => m - (intOf (a'.tmps.getD 22 undef)).toNat) ?start ?round
  case start =>
    refine ⟨0, _, [], [], _, _, _, _, _, _, _, _, _, _, _, _, _, _, _, _, _, _, _, _, _, _, _, _, _, _, _, _, _, _, _, _, _, _, _, _, Nat.zero_le _, ?_, rfl⟩
    refine ⟨Below.refl _ _ |>.alloc (Nat.le_refl _) _ |>.alloc (by simp) _, ?_, ?_, World.ownsRow_nil _ _ _ _, ⟨rfl, fun j row hj => by simp at hj⟩, ⟨List.nodup_nil, fun D hD => by simp at hD⟩⟩
    · rw [made_zero]
      exact (Below.heap_alloc _ _ _ (by simp)).trans (World.alloc_heap_new w _)
    · have := World.alloc_heap_new (w.alloc (.cells (madeCells #[.int .i64 0] X.np) 3)) (.cells #[.slice (some ⟨w.heap.size, 0, none⟩) X.np X.np] 34)
      rwa [World.size_alloc] at this
  case round =>
    rintro _ wr ⟨t, lv, rows, Ds, u9, u10, u11, u12, u23, u24, u25, u26, u27, u28, u29, u30, u31, u32, u33, u34, u35, u36, u37, u38, u39, u40, u41, u42, u43, u44, u45, u46, u47, u48, u49, u50, u51, u52, u53, u54, ht, hI, rfl⟩
    have HI := Lib.hid hI
    clear hI hmk
    by_cases hlt : t < m
    · obtain ⟨J, hJ⟩ := get_of_lt (l := plan) (k := t) (by rw [HM.out]; exact hlt)
      obtain ⟨b2, o2, rfl, hb2, hcs2⟩ := int_cells HL.out (by intro h; rw [h] at hJ; simp at hJ)
      have d0 := ((bcell HI.out.bel).1 _ _ hb2).trans (hcs2 t J hJ)
      have HJ := Lib.hid hJ
      have ht0 : (0 : Int) ≤ (t : Int) := by omega
      have ht1 : (t : Int) < (m : Int) := by omega
      clear hcs2 hJ
      have bx0 := cell_of_row wr (w.heap.size + 1) 0 _ 34 (0, 0) HI.out.bx
      simp at bx0
      go_wp2_with fail
      clear bx0 d0
      go_loopw [29] (fun i wq => ∃ k : Nat, k ≤ X.np ∧ i = .int .i64 k ∧ SinkI w X.np (mixL f plan X.np t k) ((List.range t).map (lvL f plan X.np)) t lv rows Ds wq) (fun i _ => X.np - (intOf i).toNat)
      case atStart => exact ⟨0, Nat.zero_le _, rfl, by rw [mix_0]; exact HI.out⟩
      case round =>
        clear HI
        obtain ⟨k, hk, rfl, hI⟩ := hrel
        have HI := Lib.hid hI
        clear hI
        by_cases hkt : k < X.np
        · have hk0 : (0 : Int) ≤ (k : Int) := by omega
          have hk1 : (k : Int) < (X.np : Int) := by omega
          have hbd := hdI_in hf plan t k
          have hfb := hf t k
          have HV : Hid (lvI f plan t k = hdI f plan t k - f t k) := Lib.hid rfl
          have HC := Lib.hid (fun u : KeptW wr => Calls.in_kept u (hC u.w (HI.out.bel.trans (u.h.mono HI.out.bel.size)) t k (by omega) hkt))
          have bxu : ∀ u : KeptW wr, u.w.cell? ⟨w.heap.size + 1, 0, none⟩ = some (.slice (some ⟨w.heap.size, 0, none⟩) X.np X.np) := fun u => by
            have h1 := cell_of_row u.w (w.heap.size + 1) 0 _ 34 (0, 0) ((HI.out.below u.h).bx)
            simpa using h1
          have hdu : ∀ u : KeptW wr, u.w.cell? ⟨w.heap.size, k, none⟩ = some (.int .i64 (hdI f plan t k)) := fun u => by
            have h1 := cell_of_row u.w w.heap.size k _ 3 (0, 0) ((HI.out.below u.h).hd)
            rw [h1, iV_get (mix_at hkt)]
          have zfu : ∀ (u : KeptW wr) (j : Nat), u.w.frozen? ⟨w.heap.size, j, none⟩ = false := fun u j => by simp [World.frozen?, (HI.out.below u.h).hd]
          obtain ⟨V, hV⟩ : ∃ z, hdI f plan t k = z := ⟨_, rfl⟩
          obtain ⟨Y, hY⟩ : ∃ z, f t k = z := ⟨_, rfl⟩
          rw [hV] at hbd HV hdu
          rw [hY] at hfb HV HC
          clear hV hY hC hf
          go_wp2_with fail
          have hsub : Value.int .i64 (wrap64 (V - Y)) = Value.int .i64 (V - Y) := by congr 1; exact w64 (by omega)
          apply rk_tail (C := fun w' => ∃ u : KeptW wr, w' = u.w)
          case hs => exact (rfl : _ = [_, _, _, _, _, _, _, _, _, _] ++ [_])
          case hm => kernel_rfl
          case hB => kernel_rfl
          case hT => kernel_rfl
          case hC => exact ⟨⟨wr.drew, (Below.refl wr.heap.size wr).drew⟩, rfl⟩
          repeat (go_big_quiet_step (first | (with_reducible exact HC.out _) | fail))
          refine wpQuiet_nil ?_
          rintro _ ⟨u, rfl⟩
          have z0 := zfu u k
          have q0 := hdu u
          have HN := Lib.hid ((HI.out.below u.h).set (i := k) (V - Y))
          unfold Oper.wp
          simp [go_sem, z0, q0]
          clear z0 q0 bxu hdu zfu HC HI
          generalize u.w.setCell ⟨w.heap.size, k, none⟩ (Value.int .i64 (V - Y)) = wb at HN ⊢
          go_wp2_with fail
          refine ⟨⟨k + 1, by omega, by go_num, ?_⟩, by simp [intOf]; omega⟩
          rw [← mix_set, HV.out]
          exact HN.out
        · have hke : k = X.np := by omega
          have hk1 : ¬ (k : Int) < (X.np : Int) := by omega
          subst hke
          rw [mix_np] at HI
          have bx0 := cell_of_row wr (w.heap.size + 1) 0 _ 34 (0, 0) HI.out.bx
          simp at bx0
          have hcl := clone_any w.heap.size 0 X.np X.np (lvL f plan X.np t) wr (by simp [lvL]) np6.1 (by omega) (fun i x hx => by
            rw [Nat.zero_add, cell_of_row wr w.heap.size i _ 3 (0, 0) HI.out.hd, iV_get hx])
          have HCL := Lib.hid hcl
          have HB20 : Hid (w.heap.size + 1 + 1 ≤ wr.heap.size) := Lib.hid (by have := (Array.getElem?_eq_some_iff.1 HI.out.bx).1; omega)
          clear hcl
          go_wp2_with fail
          refine HCL.out.mono ?_
          rintro e w2 ⟨g, c', rfl, hown2, hb2'⟩
          have HI2 := Lib.hid (HI.out.below hb2')
          have HG := Lib.hid hown2
          clear hown2 hb2' bx0 HI HCL
          obtain ⟨j0, hj0, jz0, jz1, jz2⟩ := info_parts ints_info
          have hownL := HI2.out.own
          have HLEN : Hid ((lvL f plan X.np t).length = X.np) := Lib.hid (by simp [lvL])
          go_wp2_with (first
            | (at_builtin
               refine wpList_append_own _ rfl _ _ 53 rfl (w.heap.size + 1 + 1) 34 j0 _ 1 24 Tryz.underlying53 hj0 jz0 jz1 jz2 rfl (by decide) _ _ _ rfl (own_next hownL ((Below.refl _ w2).alloc (Nat.le_refl _) _)) ⟨w2.heap.size, 0, none⟩ 1 1 [.slice (some ⟨g, 0, none⟩) X.np c'] rfl rfl (cell_one_new _ _ _) (by simp [Value.oneCell']) (by unfold maxLen; omega) (by omega) (by have := (Array.getElem?_eq_some_iff.1 HI2.out.bx).1; simp; omega) ?_
               intro v' w4 hown4 hgrow4 _)
            | (go_at_call 114; refine (pilesOf_any _ _).mono ?_; rintro e w' ⟨rfl, rfl⟩)
            | fail)
          have HSZ0 : Hid (w.heap.size + 1 + 1 ≤ wr.heap.size) := Lib.hid HB20.out
          have hI4 := HI2.out.append (row := lvL f plan X.np t) (g := g) (c' := c') (by rw [HLEN.out]; exact own_mono HG.out HSZ0.out) (by rw [HLEN.out]; exact hown4) hgrow4
          rw [HLEN.out] at hI4
          have HI4 := Lib.hid (hI4.below ((Below.refl w4.heap.size w4).alloc (Nat.le_refl _) (.cells #[.int .i64 J] 3)))
          have HDS : Hid (∀ E ∈ Ds, E < (w4.alloc (.cells #[.int .i64 J] 3)).heap.size) := Lib.hid fun E hE => (Array.getElem?_eq_some_iff.1 (HI4.out.mks.2 E hE).2).1
          have HCB : Hid ((w4.alloc (.cells #[.int .i64 J] 3)).cell? ⟨w4.heap.size, 0, none⟩ = some (.int .i64 J)) := Lib.hid (by simp)
          have HSZ : Hid (w4.heap.size < (w4.alloc (.cells #[.int .i64 J] 3)).heap.size) := Lib.hid (by simp)
          have HB4 : Hid (w.heap.size + 1 + 1 ≤ w4.heap.size) := Lib.hid (by have := (Array.getElem?_eq_some_iff.1 hI4.bx).1; omega)
          have HB2 : Hid (w.heap.size + 1 + 1 ≤ (w4.alloc (.cells #[.int .i64 J] 3)).heap.size) := Lib.hid (by have := (Array.getElem?_eq_some_iff.1 HI4.out.bx).1; omega)
          have hJ2 := List.all_eq_true.1 hP J (List.mem_of_getElem? HJ.out)
          obtain ⟨hJ0, hJ1⟩ := inB_iff.1 hJ2
          clear hI4 hown4 hgrow4 hownL hj0 jz0 jz1 jz2 HI2 HG hJ2
          generalize w4.alloc (.cells #[.int .i64 J] 3) = w5 at HI4 HDS HCB HSZ HB2 ⊢
          refine (wpIn_wide (n := 3)).1 ?_
          refine wpIn_rangeFunc_ownF rfl (by decide) (gf := 129) (lb := #[.pointer (some ⟨w4.heap.size, 0, none⟩)]) rfl trivial (enters_of Tryz.func129 (by kernel_rfl) rfl)
            (piles_stops (3 - 1) (by decide) w4.heap.size w.heap.size J w5 HSZ.out HCB.out)
            kpB_t (kpB_b (by have := HB2.out; omega) HSZ.out) (Below.refl _ _) (fun _ => rfl)
            (fun pre W => SinkI w X.np (zeroL (pre.map Subtype.val) (lvL f plan X.np t)) ((List.range t).map (lvL f plan X.np) ++ [lvL f plan X.np t]) (t + 1) v' (rows ++ [Value.slice (some ⟨g, 0, none⟩) X.np c']) Ds W)
            (fun _ _ _ => False)
            (fun pre A B row hs hg hr => hs.keep (hs.bel.grown hg hs.bel.size (fun k e => by have := (hr k e).1; have := HB2.out; omega)) (fun b o _ hor ho => by
              refine (hg.block b (Array.getElem?_eq_some_iff.1 ho).1 (fun e => ?_)).trans ho
              obtain ⟨h1, o', h2, h3⟩ := hr b e.symm
              rcases hor with hor | hor
              · rw [ho] at h2; injection h2 with h2; rw [h2, h3] at hor; cases hor
              · have := HDS.out b hor; omega))
            (fun _ _ _ _ _ hs _ _ => hs)
            (show SinkI _ _ (lvL f plan X.np t) _ _ _ _ _ _ from HI4.out)
            (fun x => { tmps := List.toArray ((Value.pointer (some ⟨X.G, 0, none⟩)) :: (Value.slice (some ⟨b2, o2, none⟩) m c2) :: (Value.func (.func fid) fs cs) :: undef :: undef :: undef :: (Value.slice none 0 0) :: (Value.pointer (some ⟨w.heap.size + 1, 0, none⟩)) :: v' :: (Value.int .i64 (t : Int)) :: (Value.int .i64 J) :: u11 :: (Value.int .i64 (x.1 : Int)) :: (Value.pointer (some ⟨X.G, 0, none⟩)) :: (Value.pointer (some ⟨X.G, 0, none⟩)) :: (Value.pointer (some ⟨X.G, 0, none⟩)) :: (Value.pointer (some ⟨X.G, 0, none⟩)) :: (Value.slice X.AP X.np X.cp) :: (Value.int .i64 (X.np : Int)) :: (Value.slice (some ⟨w.heap.size, 0, none⟩) X.np X.np) :: (Value.slice (some ⟨b2, o2, none⟩) m c2) :: (Value.int .i64 (m : Int)) :: (Value.int .i64 (t : Int)) :: (Value.bool true) :: (Value.int .i64 (t : Int)) :: (Value.pointer (some ⟨b2, o2 + t, none⟩)) :: (Value.int .i64 J) :: (Value.slice (some ⟨w.heap.size, 0, none⟩) X.np X.np) :: (Value.int .i64 (X.np : Int)) :: (Value.int .i64 (X.np : Int)) :: (Value.bool false) :: u31 :: u32 :: u33 :: u34 :: u35 :: u36 :: u37 :: u38 :: u39 :: u40 :: u41 :: u42 :: lv :: (Value.slice (some ⟨w.heap.size, 0, none⟩) X.np X.np) :: (Value.slice (some ⟨g, 0, none⟩) X.np c') :: (Value.slice (some ⟨w2.heap.size, 0, none⟩) 1 1) :: v' :: (Value.int .i64 J) :: (Value.func (.func 129) #[] #[.pointer (some ⟨w4.heap.size, 0, none⟩)]) :: (Value.int .i64 (x.1 : Int)) :: u51 :: u52 :: u53 :: u54 :: undef :: []), defers := [] }) ?assign ?body ?done ?stop
          case assign =>
            intro l x W K hK
            gi_wp2
            exact hK
          case body =>
            rintro l pre ⟨x, hx6, hxj⟩ W hI hlen
            have HI5 := Lib.hid hI
            have hxn := jack_lt hJ0 (by omega) hxj
            have hx0 : (0 : Int) ≤ (x : Int) := by omega
            have hx1 : (x : Int) < (X.np : Int) := by omega
            have bx0 := cell_of_row W (w.heap.size + 1) 0 _ 34 (0, 0) hI.bx
            simp at bx0
            have HLN : Hid ((zeroL (pre.map Subtype.val) (lvL f plan X.np t)).length = X.np) := Lib.hid (by rw [zeroL_len]; simp [lvL])
            obtain ⟨y, hy⟩ := get_of_lt (l := zeroL (pre.map Subtype.val) (lvL f plan X.np t)) (k := x) (by rw [HLN.out]; exact hxn)
            have d1 := cell_of_row W w.heap.size x _ 3 (0, 0) hI.hd
            rw [iV_get hy] at d1
            have z1 : W.frozen? ⟨w.heap.size, x, none⟩ = false := by simp [World.frozen?, hI.hd]
            clear hI hy
            dsimp only
            gi_wp2
            have HN := HI5.out.set (i := x) 0
            have hmp : (pre ++ [(⟨x, hx6, hxj⟩ : PX J)]).map Subtype.val = pre.map Subtype.val ++ [x] := by rw [List.map_append]; rfl
            exact ⟨KeepsOthers.setCell _ _ _, ⟨(Below.refl _ _).setCell (p := ⟨w.heap.size, x, none⟩) (Nat.le_refl _) _, World.cell?_setCell_other W _ _ _ (fun e => by injection e with e; have := HB4.out; omega)⟩, by show SinkI _ _ (zeroL ((pre ++ [(⟨x, hx6, hxj⟩ : PX J)]).map Subtype.val) _) _ _ _ _ _ _; rw [hmp, zeroL_snoc]; exact HN⟩
          case done =>
            rintro D ys W hD hys hI hK
            rw [hys, zero_hd HJ.out np6.2] at hI
            have HI6 := Lib.hid (hI.mark (D := D) HDS.out hD HB2.out hK)
            clear hI hK hys hD
            simp only [Exit.inBlock, Exit.then]
            go_wp2_with fail
            refine ⟨⟨t + 1, v', rows ++ [Value.slice (some ⟨g, 0, none⟩) X.np c'], D :: Ds, _, _, _, _, _, _, _, _, _, _, _, _, _, _, _, _, _, _, _, _, _, _, _, _, _, _, _, _, _, _, _, _, _, _, _, _, by omega, ?_, rfl⟩, by simp [intOf]; omega⟩
            have hLL : (List.range (t + 1)).map (lvL f plan X.np) = (List.range t).map (lvL f plan X.np) ++ [lvL f plan X.np t] := by rw [List.range_succ, List.map_append]; rfl
            rw [hLL]
            exact HI6.out
          case stop =>
            rintro D c pre W _ _ h _
            exact h.elim
    · have htm : t = m := by omega
      subst htm
      have ht1 : ¬ (t : Int) < (t : Int) := by omega
      go_wp2_with fail
      refine leaves_marks Ds wr HI.out.mks (fun w' hk => ⟨_, results_tmp rfl _ _ _, ?_⟩)
      obtain ⟨A3, c3, rfl, h1, h2, h3⟩ := HI.out.lvs hk (by simp) (fun row hr => by
        obtain ⟨j, _, rfl⟩ := List.mem_map.1 hr
        simp [lvL]
        unfold maxLen
        omega)
      exact ⟨A3, c3, rfl, h1, h2, h3⟩
end Go.Proofs.YtdlaphlpimlgdaaGreatDoor
/- Low ends put together with high ends. -/
namespace Go.Proofs.YtdlaphlpimlgdaaGreatDoor
open Go.RowKit

theorem span_info : (Tryz.prog.info? 42).map (fun i => (i.zero, i.size, i.bytes)) = some (some (.agg #[.int .i64 0, .int .i64 0]), 2, 16) := by kernel_rfl
theorem spans_info : (Tryz.prog.info? 40).map (fun i => (i.zero, i.size, i.bytes)) = some (some (.slice none 0 0), 1, 24) := by kernel_rfl
def prF (row : List Sp) : List Value := row.flatMap prR
theorem prF_len (row : List Sp) : (prF row).length = row.length * 2 := by
  induction row with
  | nil => rfl
  | cons x xs ih =>
    show ([_, _] ++ prF xs).length = _
    rw [List.length_append, ih, List.length_cons]
    simp
    omega
theorem prF_at : ∀ {row : List Sp} {i : Nat} {x : Sp}, row[i]? = some x → (prF row)[i * 2]? = some (.int .i64 x.1) ∧ (prF row)[i * 2 + 1]? = some (.int .i64 x.2)
  | [], i, x, h => by simp at h
  | y :: ys, 0, x, h => by
    simp at h
    subst h
    exact ⟨rfl, rfl⟩
  | y :: ys, i + 1, x, h => by
    have := prF_at (row := ys) (i := i) (x := x) (by simpa using h)
    show ([_, _] ++ prF ys)[_]? = _ ∧ ([_, _] ++ prF ys)[_]? = _
    refine ⟨?_, ?_⟩
    · rw [List.getElem?_append_right (by simp; omega)]
      rw [show (i + 1) * 2 - [Value.int IntKind.i64 y.1, Value.int IntKind.i64 y.2].length = i * 2 by simp; omega]
      exact this.1
    · rw [List.getElem?_append_right (by simp; omega)]
      rw [show (i + 1) * 2 + 1 - [Value.int IntKind.i64 y.1, Value.int IntKind.i64 y.2].length = i * 2 + 1 by simp; omega]
      exact this.2
theorem prF_snoc (row : List Sp) (x : Sp) : prF (row ++ [x]) = prF row ++ [.int .i64 x.1, .int .i64 x.2] := by simp [prF, prR]
theorem own_block2 {w : World} {base : Nat} {e : TypeId} {n g c : Nat} {xs : List Value} (h : w.ownsRow base e 2 (.slice (some ⟨g, 0, none⟩) n c) n xs) : base ≤ g ∧ n ≤ c ∧ ∃ cs, w.heap[g]? = some (.cells cs e (0, 0)) ∧ ∀ (i : Nat) (x : Value), xs[i]? = some x → cs[i]? = some x := by
  rcases h.2 with h0 | ⟨g', cap, cur, h1, h2, h3, h4, _, _, h6⟩
  · exact absurd h0.1 (by simp)
  · injection h1 with e1 e2 e3
    injection e1 with e1
    injection e1 with e1
    subst e1 e3
    refine ⟨h2, h4, cur, h3, fun i x hx => ?_⟩
    rw [← h6, List.getElem?_take] at hx
    split at hx
    · simpa using hx
    · simp at hx
theorem two_new (w : World) (a b : Value) (t : TypeId) : ∀ j u, [a, b][j]? = some u → (w.alloc (.cells #[a, b] t)).cell? ((⟨w.heap.size, 0, none⟩ : Addr).add j) = some u := by
  intro j u hj
  match j, hj with
  | 0, hj => simp at hj; subst hj; simp [Addr.add]
  | 1, hj => simp at hj; subst hj; simp [Addr.add]
  | j + 2, hj => simp at hj
/-- Rows of spans that were made. -/
def RowsS (B : Nat) (rows : List Value) (LL : List (List Sp)) (wr : World) : Prop :=
  rows.length = LL.length ∧ ∀ (j : Nat) (row : List Sp), LL[j]? = some row → ∃ b c, rows[j]? = some (.slice (some ⟨b, 0, none⟩) row.length c) ∧ B ≤ b ∧ row.length ≤ c ∧ ∃ cs, wr.heap[b]? = some (.cells cs 42 (0, 0)) ∧ ∀ (i : Nat) (x : Value), (prF row)[i]? = some x → cs[i]? = some x
structure SpaI (w : World) (v0 v1 : Value) (LL : List (List Sp)) (t : Nat) (lv : Value) (rows : List Value) (wr : World) : Prop where
  bel : Below w.heap.size w wr
  bx : wr.heap[w.heap.size]? = some (.cells #[v0, v1] 153 (0, 0))
  own : wr.ownsRow (w.heap.size + 1) 40 1 lv t rows
  rws : RowsS (w.heap.size + 1) rows LL wr
theorem SpaI.below {w wr wq : World} {v0 v1 : Value} {t : Nat} {LL : List (List Sp)} {lv : Value} {rows : List Value} (h : SpaI w v0 v1 LL t lv rows wr) (hb : Below wr.heap.size wr wq) : SpaI w v0 v1 LL t lv rows wq :=
  ⟨h.bel.trans (hb.mono h.bel.size), (hb.block _ (Array.getElem?_eq_some_iff.1 h.bx).1).trans h.bx, Go.Proofs.YtdlaphlpimlgdaaGreatDoor.own_next h.own hb, ⟨h.rws.1, fun j row hj => by
    obtain ⟨b, c, h1, h2, h3, cs, h4, h5⟩ := h.rws.2 j row hj
    exact ⟨b, c, h1, h2, h3, cs, (hb.block _ (Array.getElem?_eq_some_iff.1 h4).1).trans h4, h5⟩⟩⟩
theorem SpaI.append {w wr wq : World} {v0 v1 : Value} {t g c' : Nat} {row : List Sp} {LL : List (List Sp)} {lv v' : Value} {rows : List Value} {o : Obj} {base : Nat} (h : SpaI w v0 v1 LL t lv rows wr) (hbase : w.heap.size + 1 ≤ base)
    (hg : wr.ownsRow base 42 2 (.slice (some ⟨g, 0, none⟩) row.length c') row.length (prF row))
    (ho : wq.ownsRow (w.heap.size + 1) 40 1 v' (t + 1) (rows ++ [.slice (some ⟨g, 0, none⟩) row.length c'])) (hq : (wr.alloc o).grownBy wq lv.ownBlock) :
    SpaI w v0 v1 (LL ++ [row]) (t + 1) v' (rows ++ [.slice (some ⟨g, 0, none⟩) row.length c']) wq := by
  have hb0 := (Below.refl wr.heap.size wr).alloc (Nat.le_refl _) o
  have hk : ∀ b x, wr.heap[b]? = some x → some b ≠ lv.ownBlock → wq.heap[b]? = some x := fun b x hx hne => by
    have hlt := (Array.getElem?_eq_some_iff.1 hx).1
    exact (hq.block b (by simp; omega) hne).trans ((hb0.block b hlt).trans hx)
  obtain ⟨e1, e2, cs, e3, e4⟩ := own_block2 hg
  refine ⟨(h.bel.trans (hb0.mono h.bel.size)).grown hq (Nat.le_trans h.bel.size hb0.size) (fun B hB => by have := (own_at h.own hB).1; omega), hk _ _ h.bx (own_ne h.own h.bx (.inl (by omega))), ho, ⟨by rw [List.length_append, List.length_append, h.rws.1]; rfl, fun j r hj => ?_⟩⟩
  by_cases hjl : j < LL.length
  · rw [List.getElem?_append_left hjl] at hj
    obtain ⟨b, c, h1, h2, h3, cs, h4, h5⟩ := h.rws.2 j r hj
    exact ⟨b, c, by rw [List.getElem?_append_left (by rw [h.rws.1]; exact hjl)]; exact h1, h2, h3, cs, hk _ _ h4 (own_ne h.own h4 (.inr (fun _ e => by injection e with _ e; cases e))), h5⟩
  · have : j = LL.length := by
      have := (List.getElem?_eq_some_iff.1 hj).1
      simp at this
      omega
    subst this
    rw [List.getElem?_append_right (Nat.le_refl _), Nat.sub_self] at hj
    simp at hj
    subst hj
    exact ⟨g, c', by rw [← h.rws.1, List.getElem?_append_right (Nat.le_refl _), Nat.sub_self]; rfl, by omega, e2, cs, hk _ _ e3 (own_ne h.own e3 (.inr (fun _ e => by injection e with _ e; cases e))), e4⟩
/-- What was made, as rows of spans. -/
theorem SpaI.sps {w wr : World} {v0 v1 : Value} {t : Nat} {LL : List (List Sp)} {lv : Value} {rows : List Value} (h : SpaI w v0 v1 LL t lv rows wr) (hl : LL.length = t) (h10 : ∀ row ∈ LL, row.length ≤ maxLen) :
    ∃ A3 c3, lv = .slice A3 t c3 ∧ SpsAt wr wr.heap.size A3 LL ∧ t ≤ c3 ∧ Below w.heap.size w wr := by
  rcases h.own.2 with ⟨rfl, rfl⟩ | ⟨g, cap, cur, rfl, h2, h3, h4, h5, h6, h7⟩
  · refine ⟨none, 0, rfl, fun hne => ?_, Nat.le_refl _, h.bel⟩
    cases LL with
    | nil => exact absurd rfl hne
    | cons a l => simp at hl
  · refine ⟨_, cap, rfl, fun _ => ⟨g, 0, rfl, (Array.getElem?_eq_some_iff.1 h3).1, fun i x hx => ?_⟩, h4, h.bel⟩
    obtain ⟨b, c, e1, e2, e3, cs, e4, e5⟩ := h.rws.2 i x hx
    refine ⟨some ⟨b, 0, none⟩, c, ?_, fun _ => ⟨b, 0, rfl, (Array.getElem?_eq_some_iff.1 e4).1, fun k y hy j v hv => ?_⟩, h10 x (List.mem_of_getElem? hx), e3⟩
    · rw [Nat.zero_add, cell_of_row wr g i _ 40 (0, 0) h3]
      rw [← h7, List.getElem?_take] at e1
      split at e1
      · simpa using e1
      · simp at e1
    · obtain ⟨p1, p2⟩ := prF_at hy
      rw [Nat.zero_add]
      match j, hv with
      | 0, hv => simp [prR] at hv; subst hv; rw [Nat.add_zero, cell_of_row wr b _ _ 42 (0, 0) e4]; exact e5 _ _ p1
      | 1, hv => simp [prR] at hv; subst hv; rw [cell_of_row wr b _ _ 42 (0, 0) e4]; exact e5 _ _ p2
      | j + 2, hv => simp [prR] at hv
def zipL (LA LB : List (List Int)) : List (List Sp) := List.zipWith (fun a b => a.zip b) LA LB
set_option maxRecDepth 100000 in
set_option maxHeartbeats 2000000 in
theorem spans_any (A B : Option Addr) (m ca cb np : Nat) (LA LB : List (List Int)) (w : World) (hm : m ≤ 1000) (hnp : 1 ≤ np) (hnp2 : np ≤ 1000) (hla : LA.length = m) (hlb : LB.length = m) (hra : ∀ r ∈ LA, r.length = np) (hrb : ∀ r ∈ LB, r.length = np)
    (hA : LvsAt w w.heap.size A LA) (hB : LvsAt w w.heap.size B LB) :
    Calls Tryz.prog 108 #[.agg #[.slice A m ca, .slice B m cb]] w fun e w' => ∃ A3 c3, e = .returned (.slice A3 m c3) ∧ SpsAt w' w'.heap.size A3 (zipL LA LB) ∧ m ≤ c3 ∧ Below w.heap.size w w' := by
  have HLA := Lib.hid hla; have HLB := Lib.hid hlb; have HRA := Lib.hid hra; have HRB := Lib.hid hrb; have HA := Lib.hid hA; have HB := Lib.hid hB
  clear hla hlb hra hrb hA hB
  have h0 : SpaI w (.slice A m ca) (.slice B m cb) [] 0 (.slice none 0 0) [] (w.alloc (.cells #[.slice A m ca, .slice B m cb] 153)) := ⟨(Below.refl _ _).alloc (Nat.le_refl _) _, heap_alloc_new w _, World.ownsRow_nil _ _ _ _, ⟨rfl, fun j r hj => by simp at hj⟩⟩
  have H0 := Lib.hid h0
  have c0 := cell_of_row _ w.heap.size 0 _ 153 (0, 0) h0.bx
  have c1 := cell_of_row _ w.heap.size 1 _ 153 (0, 0) h0.bx
  simp at c0 c1
  clear h0
  go_enter Tryz.func108, Tryz.ntmps108
  go_wp2_with fail
  clear c0 c1
  go_loopw [3, 12] (fun v i wr => ∃ (t : Nat) (rows : List Value), t ≤ m ∧ i = .int .i64 t ∧ SpaI w (.slice A m ca) (.slice B m cb) ((zipL LA LB).take t) t v rows wr) (fun _ i _ => m - (intOf i).toNat)
  case atStart => exact ⟨0, [], Nat.zero_le _, rfl, H0.out⟩
  case round =>
    obtain ⟨t, rows, ht, rfl, hI⟩ := hrel
    have HI := Lib.hid hI
    clear hI H0
    by_cases hlt : t < m
    · have ht0 : (0 : Int) ≤ (t : Int) := by omega
      have ht1 : (t : Int) < (m : Int) := by omega
      obtain ⟨ra, hra⟩ := get_of_lt (l := LA) (k := t) (by rw [HLA.out]; exact hlt)
      obtain ⟨rb, hrb⟩ := get_of_lt (l := LB) (k := t) (by rw [HLB.out]; exact hlt)
      obtain ⟨ba, oa, rfl, hba, hca⟩ := HA.out (by intro e; rw [e] at hra; simp at hra)
      obtain ⟨bb, ob, rfl, hbb, hcb⟩ := HB.out (by intro e; rw [e] at hrb; simp at hrb)
      obtain ⟨A', c', d1, d2, d3, d4⟩ := hca t ra hra
      obtain ⟨B', c'', e1, e2, e3, e4⟩ := hcb t rb hrb
      have la := HRA.out ra (List.mem_of_getElem? hra)
      have lb := HRB.out rb (List.mem_of_getElem? hrb)
      rw [la] at d1; rw [lb] at e1
      have HZ : Hid ((zipL LA LB)[t]? = some (ra.zip rb)) := Lib.hid (by unfold zipL; rw [List.getElem?_zipWith, hra, hrb])
      have HD2 := Lib.hid d2; have HE2 := Lib.hid e2; have LAx := Lib.hid la; have LBx := Lib.hid lb
      have HBA := Lib.hid hba; have HBB := Lib.hid hbb; have HD1 := Lib.hid d1; have HE1 := Lib.hid e1
      have f1 := ((bcell HI.out.bel).1 _ _ hba).trans d1
      clear hca hcb d2 e2 la lb hra hrb d1 e1 hba hbb d3 e3
      go_wp2_with fail
      clear f1
      obtain ⟨i0, hi0, hz0, hz1, hz2⟩ := info_parts span_info
      obtain ⟨j0, hj0, jz0, jz1, jz2⟩ := info_parts spans_info
      have HP : Hid ((ra.zip rb).length = np) := Lib.hid (by rw [List.length_zip, LAx.out, LBx.out, Nat.min_self])
      rename World => wo
      go_loopw [6, 19] (fun v i wq => ∃ k : Nat, k ≤ np ∧ i = .int .i64 k ∧ Below wo.heap.size wo wq ∧ wq.ownsRow wo.heap.size 42 2 v k (prF ((ra.zip rb).take k))) (fun _ i _ => np - (intOf i).toNat)
      case atStart => exact ⟨0, Nat.zero_le _, rfl, Below.refl _ _, World.ownsRow_nil _ _ _ _⟩
      case round =>
        obtain ⟨k, hk, rfl, hbw, hown⟩ := hrel
        have HBW := Lib.hid hbw; have HOWN := Lib.hid hown
        clear hown
        by_cases hkt : k < np
        · have hk0 : (0 : Int) ≤ (k : Int) := by omega
          have hk1 : (k : Int) < (np : Int) := by omega
          obtain ⟨x, hx⟩ := get_of_lt (l := ra) (k := k) (by rw [LAx.out]; exact hkt)
          obtain ⟨y, hy⟩ := get_of_lt (l := rb) (k := k) (by rw [LBx.out]; exact hkt)
          obtain ⟨b3, o3, rfl, hb3, hc3⟩ := int_cells HD2.out (by intro e; rw [e] at hx; simp at hx)
          obtain ⟨b4, o4, rfl, hb4, hc4⟩ := int_cells HE2.out (by intro e; rw [e] at hy; simp at hy)
          have hbq : Below w.heap.size w wr := HI.out.bel.trans (hbw.mono HI.out.bel.size)
          have g1 := ((bcell hbq).1 _ _ hb3).trans (hc3 k x hx)
          have g2 := ((bcell hbq).1 _ _ hb4).trans (hc4 k y hy)
          have g3 := ((bcell hbq).1 _ _ HBB.out).trans HE1.out
          have g4 := cell_of_row wr w.heap.size 1 _ 153 (0, 0) (HI.out.below hbw).bx
          simp at g4
          have HX : Hid ((ra.zip rb)[k]? = some (x, y)) := Lib.hid (by rw [List.getElem?_zip_eq_some]; exact ⟨hx, hy⟩)
          clear hx hy hc3 hc4 hb3 hb4 hbw hbq
          go_wp2_with (first
            | (at_builtin
               refine wpList_append_own _ rfl _ _ 40 rfl wo.heap.size 42 i0 _ 2 16 Tryz.underlying40 hi0 hz0 hz1 hz2 rfl (by decide) _ _ _ rfl (Go.Proofs.YtdlaphlpimlgdaaGreatDoor.own_next HOWN.out ((Below.refl _ wr).alloc (Nat.le_refl _) _)) ⟨wr.heap.size, 0, none⟩ 1 1 [.int .i64 x, .int .i64 y] rfl rfl (two_new _ _ _ _) (by simp [Value.oneCell']) (by unfold maxLen; omega) (by omega) (by have := HBW.out.size; simp; omega) ?_
               intro v' w4 hown4 hgrow4 _)
            | fail)
          refine ⟨⟨k + 1, by omega, by go_num, ?_, ?_⟩, by simp [intOf]; omega⟩
          · have hb0 := (Below.refl wr.heap.size wr).alloc (Nat.le_refl _) (.cells #[.int .i64 x, .int .i64 y] 42)
            exact (HBW.out.trans (hb0.mono HBW.out.size)).grown hgrow4 (Nat.le_trans HBW.out.size hb0.size) (fun B hB => (own_at HOWN.out hB).1)
          · rw [List.take_add_one, HX.out]
            show World.ownsRow _ _ _ _ _ _ (prF (_ ++ [(x, y)]))
            rw [prF_snoc]
            exact hown4
        · have hke : k = np := by omega
          have hk1 : ¬ (k : Int) < (np : Int) := by omega
          subst hke
          have hfull : (ra.zip rb).take k = ra.zip rb := List.take_of_length_le (by rw [HP.out]; exact Nat.le_refl _)
          rw [hfull] at HOWN
          obtain ⟨g, cg, rfl, _⟩ := HOWN.out.form (by omega)
          have HI2 := Lib.hid (HI.out.below hbw)
          clear hbw
          go_wp2_with (first
            | (at_builtin
               refine wpList_append_own _ rfl _ _ 27 rfl (w.heap.size + 1) 40 j0 _ 1 24 Tryz.underlying27 hj0 jz0 jz1 jz2 rfl (by decide) _ _ _ rfl (Go.Proofs.YtdlaphlpimlgdaaGreatDoor.own_next HI2.out.own ((Below.refl _ wr).alloc (Nat.le_refl _) _)) ⟨wr.heap.size, 0, none⟩ 1 1 [.slice (some ⟨g, 0, none⟩) k cg] rfl rfl (cell_one_new _ _ _) (by simp [Value.oneCell']) (by unfold maxLen; omega) (by omega) (by have := (Array.getElem?_eq_some_iff.1 HI2.out.bx).1; simp; omega) ?_
               intro v' w4 hown4 hgrow4 _)
            | fail)
          have hA := HI2.out.append (row := ra.zip rb) (g := g) (c' := cg) (base := wo.heap.size) (by have := (Array.getElem?_eq_some_iff.1 HI.out.bx).1; omega) (by rw [HP.out]; exact HOWN.out) (by rw [HP.out]; exact hown4) hgrow4
          refine ⟨⟨t + 1, rows ++ [Value.slice (some ⟨g, 0, none⟩) k cg], by omega, by go_num, ?_⟩, by simp [intOf]; omega⟩
          rw [List.take_add_one, HZ.out]
          rw [HP.out] at hA
          exact hA
    · have htm : t = m := by omega
      have hk1 : ¬ (t : Int) < (m : Int) := by omega
      have HZL : Hid ((zipL LA LB).take t = zipL LA LB) := Lib.hid (List.take_of_length_le (by unfold zipL; rw [List.length_zipWith, HLA.out, HLB.out]; omega))
      rw [HZL.out] at HI
      have HLZ : Hid ((zipL LA LB).length = t) := Lib.hid (by unfold zipL; rw [List.length_zipWith, HLA.out, HLB.out]; omega)
      subst htm
      go_wp2_with fail
      go_ret
      obtain ⟨A3, c3, rfl, h1, h2, h3⟩ := HI.out.sps HLZ.out (fun row hr => by
        unfold zipL at hr
        rw [List.mem_iff_getElem?] at hr
        obtain ⟨j, hj⟩ := hr
        rw [List.getElem?_zipWith] at hj
        cases ha : LA[j]? with
        | none => rw [ha] at hj; simp at hj
        | some x =>
          cases hb : LB[j]? with
          | none => rw [ha, hb] at hj; simp at hj
          | some y =>
            rw [ha, hb] at hj
            simp at hj
            subst hj
            rw [List.length_zip]
            have := HRA.out x (List.mem_of_getElem? ha)
            unfold maxLen
            omega)
      exact ⟨A3, c3, rfl, h1, h2, h3⟩
end Go.Proofs.YtdlaphlpimlgdaaGreatDoor
/- The levels of a plan: the code's. -/
namespace Go.Proofs.YtdlaphlpimlgdaaGreatDoor
open Go.RowKit

def mostF (ps : List Pil) (rs : List Rw) (ts : List (List Sp)) (t i : Nat) : Int := (rowI rs (carI (ps.getD i zP) ((ts.getD t []).getD i (0, 0)).2) (ps.getD i zP).h).1.hi
def leastF (ps : List Pil) (rs : List Rw) (ts : List (List Sp)) (t i : Nat) : Int := (rowI rs (carI (ps.getD i zP) ((ts.getD t []).getD i (0, 0)).1) (ps.getD i zP).l).1.lo
theorem most_eq (X : Ctx) : X.most = mostF X.ps X.rs X.ts := rfl
theorem least_eq (X : Ctx) : X.least = leastF X.ps X.rs X.ts := rfl
def lvT (f : Nat → Nat → Int) (plan : List Int) (np : Nat) : List (List Int) := (List.range plan.length).map (lvL f plan np)
/-- The levels of a plan, low and high. -/
def spanL (ps : List Pil) (rs : List Rw) (ts : List (List Sp)) (plan : List Int) : List (List Sp) := zipL (lvT (mostF ps rs ts) plan ps.length) (lvT (leastF ps rs ts) plan ps.length)
theorem lvT_rows {f : Nat → Nat → Int} {plan : List Int} {np : Nat} : ∀ r ∈ lvT f plan np, r.length = np := by
  intro r hr
  obtain ⟨j, _, rfl⟩ := List.mem_map.1 hr
  simp [lvL]
theorem fn_size : (Tryz.prog.info? 123).map (fun i => i.size) = some 1 := by kernel_rfl
theorem idx_0 (a b : Value) (w : World) : (Instr.index 152 (.agg #[a, b]) (.int .i64 0)).run Tryz.prog w = .ok a w := by
  obtain ⟨i, hi, hs⟩ := Option.map_eq_some_iff.1 fn_size
  simp [Instr.index, asIntOf, go_sem, part, isAgg, sizeOf, typeInfo, hi, hs]
theorem idx_1 (a b : Value) (w : World) : (Instr.index 152 (.agg #[a, b]) (.int .i64 1)).run Tryz.prog w = .ok b w := by
  obtain ⟨i, hi, hs⟩ := Option.map_eq_some_iff.1 fn_size
  simp [Instr.index, asIntOf, go_sem, part, isAgg, sizeOf, typeInfo, hi, hs]
set_option maxRecDepth 100000 in
set_option maxHeartbeats 2000000 in
theorem levels_any {X : Ctx} (K : X.Ok) (A2 : Option Addr) (m c2 : Nat) (plan : List Int) (w : World) (hX : X.At w) (hm : plan.length = m) (hmn : m ≤ X.n) (hL : IntsAt w w.heap.size A2 plan) (hP : planB X.np plan = true) :
    Calls Tryz.prog 77 #[.pointer (some ⟨X.G, 0, none⟩), .slice A2 m c2] w fun e w' => ∃ A3 c3, e = .returned (.slice A3 m c3) ∧ SpsAt w' w'.heap.size A3 (spanL X.ps X.rs X.ts plan) ∧ m ≤ c3 ∧ Below w.heap.size w w' := by
  have n10 := K.n10
  have np6 := K.np6
  have E1 := enters_of Tryz.func109 (by kernel_rfl) rfl
  have E2 := enters_of Tryz.func110 (by kernel_rfl) rfl
  have S1 : Hid (∀ u, Below w.heap.size w u → Calls Tryz.prog 81 #[.pointer (some ⟨X.G, 0, none⟩), .slice A2 m c2, .func (.func 109) #[.pointer (some ⟨X.G, 0, none⟩)] #[]] u fun e w' => ∃ A3 c3, e = .returned (.slice A3 m c3) ∧ LvsIn w' u.heap.size A3 (lvT X.most plan X.np) ∧ m ≤ c3 ∧ Below u.heap.size u w') :=
    Lib.hid fun u hu => (sink_any K 109 #[.pointer (some ⟨X.G, 0, none⟩)] #[] X.most A2 m c2 plan u (hX.up hu) hm hmn (hL.up hu) hP K.most_in E1 (fun v hv t i ht hi => most_X K ((hX.up hu).up hv) ht hi)).mono (by
      rintro e w' ⟨A3, c3, h1, h2, h3, h4⟩
      refine ⟨A3, c3, h1, ?_, h3, h4⟩
      unfold lvT
      rw [hm]
      exact h2)
  have S2 : Hid (∀ u, Below w.heap.size w u → Calls Tryz.prog 81 #[.pointer (some ⟨X.G, 0, none⟩), .slice A2 m c2, .func (.func 110) #[.pointer (some ⟨X.G, 0, none⟩)] #[]] u fun e w' => ∃ A3 c3, e = .returned (.slice A3 m c3) ∧ LvsIn w' u.heap.size A3 (lvT X.least plan X.np) ∧ m ≤ c3 ∧ Below u.heap.size u w') :=
    Lib.hid fun u hu => (sink_any K 110 #[.pointer (some ⟨X.G, 0, none⟩)] #[] X.least A2 m c2 plan u (hX.up hu) hm hmn (hL.up hu) hP K.least_in E2 (fun v hv t i ht hi => least_X K ((hX.up hu).up hv) ht hi)).mono (by
      rintro e w' ⟨A3, c3, h1, h2, h3, h4⟩
      refine ⟨A3, c3, h1, ?_, h3, h4⟩
      unfold lvT
      rw [hm]
      exact h2)
  have HM := Lib.hid hm
  have HPS := Lib.hid K.hp
  clear E1 E2 hX hL hP hm K
  have I0 := fun W : World => idx_0 (.func (.func 109) #[.pointer (some ⟨X.G, 0, none⟩)] #[]) (.func (.func 110) #[.pointer (some ⟨X.G, 0, none⟩)] #[]) W
  have I1 := fun W : World => idx_1 (.func (.func 109) #[.pointer (some ⟨X.G, 0, none⟩)] #[]) (.func (.func 110) #[.pointer (some ⟨X.G, 0, none⟩)] #[]) W
  go_enter Tryz.func77, Tryz.ntmps77
  go_wp2_with fail
  obtain ⟨z0, z1, hb0⟩ := two_boxes w (.cells #[.func (.func 109) #[.pointer (some ⟨X.G, 0, none⟩)] #[], .func (.func 110) #[.pointer (some ⟨X.G, 0, none⟩)] #[]] 152) (.cells #[.slice none 0 0, .slice none 0 0] 153)
  have Z1 := Lib.hid z1; have HB0 := Lib.hid hb0
  clear z0 z1 hb0
  refine wp_loop_rounds 3 ?_
  rw [rounds_succ]
  go_wp2_with fail
  refine (S1.out _ HB0.out).mono ?_
  rintro e w1 ⟨A3, c3, rfl, hl3, _, hb1⟩
  have HL3 := Lib.hid hl3
  have z1 := (hb1.block _ (heapsz Z1.out)).trans Z1.out
  have HB1 := Lib.hid (HB0.out.trans (hb1.mono HB0.out.size))
  have ZB := Lib.hid z1
  have c1 := cell_of_row w1 (w.heap.size + 1) 0 _ 153 (0, 0) z1
  have f1 : ∀ j, w1.frozen? ⟨w.heap.size + 1, j, none⟩ = false := fun j => by simp [World.frozen?, z1]
  have f10 := f1 0
  simp at c1
  clear hl3 hb1 z1 f1 Z1
  go_wp2_with fail
  have zs := blk_set ZB.out 0 (.slice A3 m c3)
  simp at zs
  have ZS := Lib.hid zs
  have HBS := Lib.hid (HB1.out.setCell (p := ⟨w.heap.size + 1, 0, none⟩) (by show _ ≤ w.heap.size + 1; omega) (.slice A3 m c3))
  have hl5 := HL3.out.keep (w' := w1.setCell ⟨w.heap.size + 1, 0, none⟩ (.slice A3 m c3)) (by simp) (fun b o h1 _ => World.cell?_setCell_other w1 _ _ _ (fun e => by injection e with e; simp at h1; omega))
  have HL5 := Lib.hid hl5
  clear c1 f10 zs ZB hl5 HL3
  generalize w1.setCell ⟨w.heap.size + 1, 0, none⟩ (.slice A3 m c3) = w2 at HL5 ZS HBS ⊢
  rw [rounds_succ]
  go_wp2_with fail
  refine (S2.out _ HBS.out).mono ?_
  rintro e w3 ⟨A4, c4, rfl, hl4, _, hb3⟩
  have hl6 := HL5.out.up hb3
  have HL4 := Lib.hid hl4; have HL6 := Lib.hid hl6
  have z1 := (hb3.block _ (heapsz ZS.out)).trans ZS.out
  have HB3 := Lib.hid (HBS.out.trans (hb3.mono HBS.out.size))
  have HSZ : Hid (w.heap.size + 1 < w2.heap.size) := Lib.hid (heapsz ZS.out)
  have ZB := Lib.hid z1
  have c1 := cell_of_row w3 (w.heap.size + 1) 1 _ 153 (0, 0) z1
  have f1 : ∀ j, w3.frozen? ⟨w.heap.size + 1, j, none⟩ = false := fun j => by simp [World.frozen?, z1]
  have f11 := f1 1
  simp at c1
  clear hl4 hb3 z1 f1 ZS hl6 HL5
  go_wp2_with fail
  have zs := blk_set ZB.out 1 (.slice A4 m c4)
  simp at zs
  have HB4 := Lib.hid (HB3.out.setCell (p := ⟨w.heap.size + 1, 1, none⟩) (by show _ ≤ w.heap.size + 1; omega) (.slice A4 m c4))
  have h7 := HL4.out.keep (w' := w3.setCell ⟨w.heap.size + 1, 1, none⟩ (.slice A4 m c4)) (by simp) (fun b o h1 _ => World.cell?_setCell_other w3 _ _ _ (fun e => by injection e with e; have := HSZ.out; omega))
  have h8 := HL6.out.keep (w' := w3.setCell ⟨w.heap.size + 1, 1, none⟩ (.slice A4 m c4)) (by simp) (fun b o h1 _ => World.cell?_setCell_other w3 _ _ _ (fun e => by injection e with e; simp at h1; omega))
  have H7 := Lib.hid h7.at_; have H8 := Lib.hid h8.at_
  clear c1 f11 HL4 HL6 h7 h8 ZB
  generalize w3.setCell ⟨w.heap.size + 1, 1, none⟩ (.slice A4 m c4) = w4 at H7 H8 zs HB4 ⊢
  have c0 := cell_of_row w4 (w.heap.size + 1) 0 _ 153 (0, 0) zs
  have c1 := cell_of_row w4 (w.heap.size + 1) 1 _ 153 (0, 0) zs
  simp at c0 c1
  clear zs
  rw [rounds_succ]
  go_wp2_with fail
  refine (spans_any A3 A4 m c3 c4 X.np (lvT X.most plan X.np) (lvT X.least plan X.np) _ (by omega) np6.1 (by omega) (by simp [lvT, HM.out]) (by simp [lvT, HM.out]) lvT_rows lvT_rows H8.out H7.out).mono ?_
  rintro e w5 ⟨A5, c5, rfl, h1, h2, h3⟩
  have HE := Lib.hid h1
  have HB5 := Lib.hid (HB4.out.trans (h3.mono HB4.out.size))
  clear h1 h3
  go_wp2_with fail
  go_ret
  refine ⟨A5, c5, rfl, ?_, h2, HB5.out⟩
  unfold spanL
  rw [HPS.out]
  exact HE.out
end Go.Proofs.YtdlaphlpimlgdaaGreatDoor
/- Levels: the exported function. -/
namespace Go.Proofs.YtdlaphlpimlgdaaGreatDoor
open Go.RowKit

/-- A site and thaws that came in. -/
structure Ctx.In (X : Ctx) (w : World) : Prop where
  hp : X.ps.length = X.np
  hq : X.qs.length = X.nq
  hr : X.rs.length = X.nr
  hl : X.ts.length = X.n
  p2 : X.np ≤ maxLen
  q2 : X.nq ≤ maxLen
  r2 : X.nr ≤ maxLen
  n2 : X.n ≤ maxLen
  P : PilsAt w w.heap.size X.AP X.ps
  Q : PrsAt w w.heap.size X.AQ X.qs
  R : RwsAt w w.heap.size X.AR X.rs
  T : SpsAt w w.heap.size X.A X.ts
theorem Ctx.In.up {X : Ctx} {w w' : World} (h : X.In w) (hb : Below w.heap.size w w') : X.In w' :=
  ⟨h.hp, h.hq, h.hr, h.hl, h.p2, h.q2, h.r2, h.n2, h.P.up hb, h.Q.up hb, h.R.up hb, h.T.up hb⟩
abbrev Ctx.cells (X : Ctx) : Array Value := #[.slice X.AP X.np X.cp, .slice X.AQ X.nq X.cq, .slice X.AR X.nr X.cr, .int .i64 X.may, .int .i64 X.sink, .int .i64 X.tilt]
abbrev Ctx.sv (X : Ctx) : Value := .agg #[.slice X.AP X.np X.cp, .slice X.AQ X.nq X.cq, .slice X.AR X.nr X.cr, .int .i64 X.may, .int .i64 X.sink, .int .i64 X.tilt]
abbrev Ctx.tv (X : Ctx) : Value := .slice X.A X.n X.c
def Ctx.up (X : Ctx) (G : Nat) : Ctx := { X with G := G }
theorem Ctx.In.ok {X : Ctx} {w : World} (h : X.In w) (h0 : thawsI X.sit X.ts = 0) (G : Nat) : (X.up G).Ok := ⟨h.hp, h.hq, h.hr, h.hl, h0⟩
theorem Ctx.In.at_ {X : Ctx} {w : World} (h : X.In w) {G : Nat} (hG : LookAt w G X.AP X.AQ X.AR X.A X.np X.cp X.nq X.cq X.nr X.cr X.n X.c X.may X.sink X.tilt) : (X.up G).At w := ⟨hG, h.P, h.Q, h.R, h.T⟩
theorem checkThaws_X {X : Ctx} {w : World} (h : X.In w) : Calls Tryz.prog 68 #[X.sv, X.tv] w fun e w' => e = .returned (.int .i64 (thawsI X.sit X.ts)) ∧ Below w.heap.size w w' :=
  checkThaws_any X.AP X.AQ X.AR X.A X.np X.cp X.nq X.cq X.nr X.cr X.n X.c X.ps X.qs X.rs X.may X.sink X.tilt X.ts w h.hp h.p2 h.P h.hq h.q2 h.Q h.hr h.r2 h.R h.hl h.n2 h.T
theorem checkPlan_X {X : Ctx} {w : World} (h : X.In w) (A2 : Option Addr) (m c2 : Nat) (plan : List Int) (hm : plan.length = m) (hm2 : m ≤ maxLen) (hL : IntsAt w w.heap.size A2 plan) :
    Calls Tryz.prog 76 #[X.sv, X.tv, .slice A2 m c2] w fun e w' => e = .returned (.int .i64 (planI X.sit X.ts plan)) ∧ Below w.heap.size w w' :=
  checkPlan_any X.AP X.AQ X.AR X.A A2 X.np X.cp X.nq X.cq X.nr X.cr X.n X.c m c2 X.ps X.qs X.rs X.may X.sink X.tilt X.ts plan w h.hp h.p2 h.P h.hq h.q2 h.Q h.hr h.r2 h.R h.hl h.n2 h.T hm hm2 hL
theorem look_X {X : Ctx} {w : World} (h : X.In w) : Calls Tryz.prog 69 #[X.sv, X.tv] w fun e w' => ∃ G, e = .returned (.pointer (some ⟨G, 0, none⟩)) ∧ (X.up G).At w' ∧ Below w.heap.size w w' :=
  (look_any X.AP X.AQ X.AR X.A X.np X.cp X.nq X.cq X.nr X.cr X.n X.c X.may X.sink X.tilt w).mono (by
    rintro e w' ⟨G, rfl, h1, h2⟩
    exact ⟨G, rfl, (h.up h2).at_ h1, h2⟩)
theorem planI_0 {S : Sit} {ts : List (List Sp)} {plan : List Int} (h : planI S ts plan = 0) : thawsI S ts = 0 ∧ plan.length = ts.length ∧ planB S.ps.length plan = true := by
  unfold planI at h
  by_cases h1 : 10 < (ts.length : Int) ∨ 10 < (plan.length : Int)
  · rw [if_pos h1] at h
    exact absurd h (by decide)
  · rw [if_neg h1] at h
    by_cases h2 : thawsI S ts = 0
    · rw [if_pos h2] at h
      by_cases h3 : plan.length = ts.length ∧ planB S.ps.length plan = true
      · exact ⟨h2, h3.1, h3.2⟩
      · rw [if_neg h3] at h
        exact absurd h (by decide)
    · rw [if_neg h2] at h
      exact absurd h h2
/-- A site's box. -/
theorem site_new (X : Ctx) (w : World) : (w.alloc (.cells X.cells 26)).heap[w.heap.size]? = some (.cells X.cells 26 (0, 0)) ∧ Below w.heap.size w (w.alloc (.cells X.cells 26)) :=
  ⟨heap_alloc_new w _, (Below.refl _ _).alloc (Nat.le_refl _) _⟩
def LevPost (X : Ctx) (plan : List Int) (m : Nat) (w : World) (I : Int) (e : Ending) (w' : World) : Prop :=
  ∃ A3 n3 c3, e = .returned (.tuple #[.slice A3 n3 c3, .int .i64 I]) ∧ (I = 0 → n3 = m ∧ SpsAt w' w'.heap.size A3 (spanL X.ps X.rs X.ts plan) ∧ m ≤ c3) ∧ (I ≠ 0 → A3 = none ∧ n3 = 0 ∧ c3 = 0) ∧ Below w.heap.size w w'
set_option maxRecDepth 100000 in
set_option maxHeartbeats 2000000 in
theorem Levels_any {X : Ctx} {w : World} (h : X.In w) (A2 : Option Addr) (m c2 : Nat) (plan : List Int) (hm : plan.length = m) (hm2 : m ≤ maxLen) (hL : IntsAt w w.heap.size A2 plan) :
    Calls Tryz.prog 27 #[X.sv, X.tv, .slice A2 m c2] w (LevPost X plan m w (planI X.sit X.ts plan)) := by
  obtain ⟨z0, hb0⟩ := site_new X w
  have HI := Lib.hid (h.up hb0); have HB := Lib.hid hb0
  have HM := Lib.hid hm; have HL := Lib.hid (RowAt.up (k := 1) (R := intR) hL hb0)
  have Z0 := Lib.hid z0
  obtain ⟨s0, s1, s2, s3, s4, s5⟩ := site_box z0
  clear h hL hm z0 hb0
  obtain ⟨I, hI⟩ : ∃ z, planI X.sit X.ts plan = z := ⟨_, rfl⟩
  have HPI := Lib.hid hI
  rw [hI]
  clear hI
  go_enter Tryz.func27, Tryz.ntmps27
  go_wp2_with fail
  refine (checkPlan_X HI.out A2 m c2 plan HM.out hm2 HL.out).mono ?_
  rintro e w1 ⟨rfl, hb1⟩
  rw [HPI.out]
  have HB1 := Lib.hid (HB.out.trans (hb1.mono HB.out.size))
  have HI1 := Lib.hid (HI.out.up hb1); have HL1 := Lib.hid (RowAt.up (k := 1) (R := intR) HL.out hb1)
  have z1 := (hb1.block _ (heapsz Z0.out)).trans Z0.out
  clear s0 s1 s2 s3 s4 s5 hb1 HI HL Z0 HB
  obtain ⟨s0, s1, s2, s3, s4, s5⟩ := site_box z1
  clear z1
  by_cases h0 : I = 0
  · subst h0
    have HZ := Lib.hid (planI_0 HPI.out)
    go_wp2_with fail
    refine (look_X HI1.out).mono ?_
    rintro e w2 ⟨G, rfl, hX, hb2⟩
    have HB2 := Lib.hid (HB1.out.trans (hb2.mono HB1.out.size))
    have HX := Lib.hid hX; have HL2 := Lib.hid (RowAt.up (k := 1) (R := intR) HL1.out hb2)
    have HMN : Hid (m ≤ X.n) := Lib.hid (by rw [← HM.out, HZ.out.2.1, HI1.out.hl]; exact Nat.le_refl _)
    have HPB : Hid (planB X.np plan = true) := Lib.hid (by rw [← HI1.out.hp]; exact HZ.out.2.2)
    clear hX hb2 s0 s1 s2 s3 s4 s5
    go_wp2_with fail
    refine (levels_any (X := X.up G) (HI1.out.ok HZ.out.1 G) A2 m c2 plan w2 HX.out HM.out HMN.out HL2.out HPB.out).mono ?_
    rintro e w3 ⟨A3, c3, rfl, h1, h2, h3⟩
    have HE := Lib.hid h1
    have HB3 := Lib.hid (HB2.out.trans (h3.mono HB2.out.size))
    clear h1 h3
    go_wp2_with fail
    exact bodyPost_ret (v := .tuple #[.slice A3 m c3, .int .i64 0]) (by simp [results, Tryz.results27, go_sem]) rfl ⟨A3, m, c3, rfl, fun _ => ⟨rfl, HE.out, h2⟩, fun hne => absurd rfl hne, HB3.out⟩
  · go_wp2_with fail
    exact bodyPost_ret (v := .tuple #[.slice none 0 0, .int .i64 I]) (by simp [results, Tryz.results27, go_sem]) rfl ⟨none, 0, 0, rfl, fun e => absurd e h0, fun _ => ⟨rfl, rfl, rfl⟩, HB1.out⟩
end Go.Proofs.YtdlaphlpimlgdaaGreatDoor
