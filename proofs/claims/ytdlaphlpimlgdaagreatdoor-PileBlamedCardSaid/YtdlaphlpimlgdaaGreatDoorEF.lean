/- Boxes that are made and filled in any order in a statement; cells of one's own that are set; whether a pair tilts. -/
import Derived.Test.YtdlaphlpimlgdaaGreatDoorEA
namespace Go.Proofs.YtdlaphlpimlgdaaGreatDoor
open Go.RowKit Go.Shelf

/-! ### Boxes that are made, and filled -/

/-- Which operations make the boxes, which fill them; what is in them before, and after. -/
structure EnvB where
  w : World
  n : Nat
  ai : Nat → Nat
  si : Nat → Nat
  T : Nat → TypeId
  o : Nat → Array Value
  v : Nat → Array Value
structure SB (q : EnvB) (done : Nat → Bool) (g : Nat → Nat) (w : World) : Prop where
  bel : Below q.w.heap.size q.w w
  box : ∀ j, j < q.n → done (q.ai j) = true → q.w.heap.size ≤ g j ∧ w.heap[g j]? = some (.cells (if done (q.si j) = true then q.v j else q.o j) (q.T j) (0, 0))
  sep : ∀ i j, i < q.n → j < q.n → i ≠ j → done (q.ai i) = true → done (q.ai j) = true → g i ≠ g j
  ord : ∀ j, j < q.n → done (q.si j) = true → done (q.ai j) = true
  inj : ∀ i j, i < q.n → j < q.n → i ≠ j → q.ai i ≠ q.ai j ∧ q.si i ≠ q.si j
  two : ∀ i j, i < q.n → j < q.n → q.ai i ≠ q.si j
section
variable {q : EnvB} {done : Nat → Bool} {g : Nat → Nat} {w w' : World}
theorem SB.next (h : SB q done g w) (hb : Below w.heap.size w w') : SB q done g w' :=
  ⟨h.bel.trans (hb.mono h.bel.size), fun j hj hd => by
    obtain ⟨b1, b2⟩ := h.box j hj hd
    exact ⟨b1, (hb.block _ (Array.getElem?_eq_some_iff.1 b2).1).trans b2⟩, h.sep, h.ord, h.inj, h.two⟩
theorem SB.quiet (h : SB q done g w) {i : Nat} (hi : ∀ j, j < q.n → i ≠ q.ai j ∧ i ≠ q.si j) : SB q (updB done i) g w := by
  have e1 : ∀ j, j < q.n → updB done i (q.ai j) = done (q.ai j) := fun j hj => updB_ne (Ne.symm (hi j hj).1)
  have e2 : ∀ j, j < q.n → updB done i (q.si j) = done (q.si j) := fun j hj => updB_ne (Ne.symm (hi j hj).2)
  refine ⟨h.bel, fun j hj hd => ?_, fun a b ha hb hab da db => ?_, fun j hj hd => ?_, h.inj, h.two⟩
  · rw [e1 j hj] at hd
    rw [e2 j hj]
    exact h.box j hj hd
  · rw [e1 a ha] at da
    rw [e1 b hb] at db
    exact h.sep a b ha hb hab da db
  · rw [e2 j hj] at hd
    rw [e1 j hj]
    exact h.ord j hj hd
theorem SB.make (h : SB q done g w) {j : Nat} (hj : j < q.n) (hu : done (q.ai j) = false) : SB q (updB done (q.ai j)) (updN g j w.heap.size) (w.alloc (.cells (q.o j) (q.T j))) := by
  have hb := (Below.refl w.heap.size w).alloc (Nat.le_refl _) (.cells (q.o j) (q.T j))
  have e6 : ∀ a, a < q.n → updB done (q.ai j) (q.si a) = done (q.si a) := fun a ha => updB_ne (Ne.symm (h.two j a hj ha))
  have ns : done (q.si j) = false := by
    cases hd : done (q.si j) with
    | false => rfl
    | true => have := h.ord j hj hd; rw [hu] at this; exact absurd this (by decide)
  refine ⟨h.bel.trans (hb.mono h.bel.size), fun a ha hd => ?_, fun a b ha hb' hab da db => ?_, fun a ha hd => ?_, h.inj, h.two⟩
  · rw [e6 a ha]
    by_cases haj : a = j
    · subst haj
      rw [updN_at, ns]
      exact ⟨h.bel.size, heap_alloc_new w _⟩
    · rw [updB_ne (h.inj a j ha hj haj).1] at hd
      obtain ⟨b1, b2⟩ := h.box a ha hd
      rw [updN_ne haj]
      exact ⟨b1, (hb.block _ (Array.getElem?_eq_some_iff.1 b2).1).trans b2⟩
  · by_cases haj : a = j
    · subst haj
      rw [updB_ne (h.inj b a hb' ha (Ne.symm hab)).1] at db
      rw [updN_at, updN_ne (Ne.symm hab)]
      have := (Array.getElem?_eq_some_iff.1 (h.box b hb' db).2).1
      omega
    · rw [updB_ne (h.inj a j ha hj haj).1] at da
      rw [updN_ne haj]
      by_cases hbj : b = j
      · subst hbj
        rw [updN_at]
        have := (Array.getElem?_eq_some_iff.1 (h.box a ha da).2).1
        omega
      · rw [updB_ne (h.inj b j hb' hj hbj).1] at db
        rw [updN_ne hbj]
        exact h.sep a b ha hb' hab da db
  · rw [e6 a ha] at hd
    have := h.ord a ha hd
    unfold updB
    split
    · rfl
    · exact this
theorem SB.fill (h : SB q done g w) {j : Nat} (hj : j < q.n) (hd : done (q.ai j) = true) (hk : ∀ k, k ≠ g j → w'.heap[k]? = w.heap[k]?) (hs : w'.os = w.os ∧ w'.tape = w.tape ∧ w'.output = w.output ∧ w'.heap.size = w.heap.size) (hv : w'.heap[g j]? = some (.cells (q.v j) (q.T j) (0, 0))) :
    SB q (updB done (q.si j)) g w' := by
  obtain ⟨b1, _⟩ := h.box j hj hd
  have e3 : ∀ a, a < q.n → updB done (q.si j) (q.ai a) = done (q.ai a) := fun a ha => updB_ne (h.two a j ha hj)
  refine ⟨⟨hs.1.trans h.bel.os, hs.2.1.trans h.bel.tape, hs.2.2.1.trans h.bel.output, by rw [hs.2.2.2]; exact h.bel.size, fun k hk' => (hk k (by omega)).trans (h.bel.block k hk')⟩, fun a ha hd' => ?_, fun a b ha hb' hab da db => ?_, fun a ha hd' => ?_, h.inj, h.two⟩
  · rw [e3 a ha] at hd'
    obtain ⟨c1, c2⟩ := h.box a ha hd'
    by_cases haj : a = j
    · subst haj
      rw [updB_at, if_pos rfl]
      exact ⟨c1, hv⟩
    · rw [updB_ne (h.inj a j ha hj haj).2]
      exact ⟨c1, (hk _ (h.sep a j ha hj haj hd' hd)).trans c2⟩
  · rw [e3 a ha] at da
    rw [e3 b hb'] at db
    exact h.sep a b ha hb' hab da db
  · rw [e3 a ha]
    by_cases haj : a = j
    · subst haj; exact hd
    · rw [updB_ne (h.inj a j ha hj haj).2] at hd'
      exact h.ord a ha hd'
end
section
variable {P : Program} {q : EnvB} {ops : Array Oper} {ρ : (Nat → Nat) → Tmp → Value} {done : Nat → Bool} {g : Nat → Nat} {w : World} {i : Nat} {o : Oper}
abbrev AskB (P : Program) (q : EnvB) (ops : Array Oper) (ρ : (Nat → Nat) → Tmp → Value) (done : Nat → Bool) (g : Nat → Nat) (w : World) (i : Nat) (o : Oper) : Prop :=
  Region.wanted o (yieldedBy ops (ρ g)) = true ∧ Yield P (fun v w' => ∃ g', SB q (updB done i) g' w' ∧ (∀ d, o.dst = some d → ρ g' d = v) ∧ ∀ t, o.dst ≠ some t → ρ g' t = ρ g t) ((execOp (evalBy (ρ g)) o).run P w)
theorem quietB (h : SB q done g w) (d : Tmp) (hd : o.dst = some d) (hi : ∀ j, j < q.n → i ≠ q.ai j ∧ i ≠ q.si j) (hg : Region.wanted o (yieldedBy ops (ρ g)) = true)
    (he : (execOp (evalBy (ρ g)) o).run P w = .ok (.value (ρ g d)) w) : AskB P q ops ρ done g w i o := by
  refine ⟨hg, ?_⟩
  rw [he]
  exact ⟨g, h.quiet hi, fun e hE => by rw [hd] at hE; injection hE with hE; subst hE; rfl, fun _ _ => rfl⟩
theorem makeB (h : SB q done g w) (j : Nat) (hj : j < q.n) (d : Tmp) (hd : o.dst = some d) (hi : i = q.ai j) (hu : done i = false) (hg : Region.wanted o (yieldedBy ops (ρ g)) = true)
    (he : (execOp (evalBy (ρ g)) o).run P w = .ok (.value (.pointer (some ⟨w.heap.size, 0, none⟩))) (w.alloc (.cells (q.o j) (q.T j))))
    (h1 : ∀ g' : Nat → Nat, ρ g' d = .pointer (some ⟨g' j, 0, none⟩)) (h2 : ∀ (t : Tmp) (v : Nat), t ≠ d → ρ (updN g j v) t = ρ g t) : AskB P q ops ρ done g w i o := by
  subst hi
  refine ⟨hg, ?_⟩
  rw [he]
  exact ⟨_, h.make hj hu, fun e hE => by rw [hd] at hE; injection hE with hE; subst hE; rw [h1, updN_at], fun t ht => h2 t _ (fun e => ht (by rw [hd, e]))⟩
/-- Cells are stored, one after the other. -/
def setsC (w : World) (b : Nat) : Nat → List Value → World
  | _, [] => w
  | k, v :: vs => setsC (w.setCell ⟨b, k, none⟩ v) b (k + 1) vs
theorem setsC_keep (b : Nat) : ∀ (vs : List Value) (k : Nat) (w : World), (∀ i, i ≠ b → (setsC w b k vs).heap[i]? = w.heap[i]?) ∧ (setsC w b k vs).os = w.os ∧ (setsC w b k vs).tape = w.tape ∧ (setsC w b k vs).output = w.output ∧ (setsC w b k vs).heap.size = w.heap.size
  | [], k, w => ⟨fun _ _ => rfl, rfl, rfl, rfl, rfl⟩
  | v :: vs, k, w => by
    obtain ⟨h1, h2, h3, h4, h5⟩ := setsC_keep b vs (k + 1) (w.setCell ⟨b, k, none⟩ v)
    exact ⟨fun i hi => (h1 i hi).trans (Below.heap_setCell _ _ _ _ hi), h2, h3, h4, h5.trans (by simp [World.setCell])⟩
theorem setsC_blk (b : Nat) {T : TypeId} : ∀ (vs : List Value) (k : Nat) (w : World) (cs : Array Value), w.heap[b]? = some (.cells cs T (0, 0)) → cs.size = k + vs.length → (setsC w b k vs).heap[b]? = some (.cells (cs.toList.take k ++ vs).toArray T (0, 0))
  | [], k, w, cs, h, hs => by
    simp only [List.length_nil, Nat.add_zero] at hs
    rw [List.take_of_length_le (by simp [hs]), List.append_nil]
    exact h
  | v :: vs, k, w, cs, h, hs => by
    simp only [List.length_cons] at hs
    have h1 := setsC_blk b vs (k + 1) (w.setCell ⟨b, k, none⟩ v) (cs.setIfInBounds k v) (blk_set h k v) (by simp; omega)
    have e : (cs.setIfInBounds k v).toList.take (k + 1) = cs.toList.take k ++ [v] := by
      rw [Array.toList_setIfInBounds, List.take_set, List.take_add_one, List.set_append_right _ _ (by simp; omega)]
      simp only [List.length_take, Array.length_toList]
      rw [show k - min k cs.size = 0 by omega]
      rw [List.getElem?_eq_getElem (by simp; omega)]
      rfl
    rw [e] at h1
    have h2 : setsC w b k (v :: vs) = setsC (w.setCell ⟨b, k, none⟩ v) b (k + 1) vs := rfl
    rw [h2]
    simpa using h1
theorem fillB (h : SB q done g w) (j : Nat) (hj : j < q.n) (hd : o.dst = none) (hi : i = q.si j) (hu : done i = false) (hb : done (q.ai j) = true) (hg : Region.wanted o (yieldedBy ops (ρ g)) = true) (hz : (q.o j).size = (q.v j).size)
    (he : (∀ a, w.frozen? ⟨g j, a, none⟩ = false) → (∀ a v, (q.o j)[a]? = some v → w.cell? ⟨g j, a, none⟩ = some v) → (execOp (evalBy (ρ g)) o).run P w = .ok .skip (setsC w (g j) 0 (q.v j).toList)) : AskB P q ops ρ done g w i o := by
  subst hi
  obtain ⟨_, b2⟩ := h.box j hj hb
  rw [hu] at b2
  simp only [Bool.false_eq_true, if_false] at b2
  refine ⟨hg, ?_⟩
  rw [he (fun a => by simp [World.frozen?, b2]) (fun a v hv => by rw [cell_of_row w (g j) a _ _ (0, 0) b2]; exact hv)]
  have h2 := setsC_keep (g j) (q.v j).toList 0 w
  have h3 := setsC_blk (g j) (q.v j).toList 0 w _ b2 (by rw [hz]; simp)
  refine ⟨g, h.fill hj hb h2.1 h2.2 (by simpa using h3), fun d hD => by rw [hd] at hD; exact absurd hD (by simp), fun _ _ => rfl⟩
end

/-! ### Cells of one's own -/

theorem own_set {w : World} {base : Nat} {T : TypeId} {k g n cap : Nat} {xs : List Value} {j : Nat} {z : Value} (h : w.ownsRow base T k (.slice (some ⟨g, 0, none⟩) n cap) n xs) (hj : j < xs.length) :
    base ≤ g ∧ g < w.heap.size ∧ (w.cell? ⟨g, j, none⟩ = xs[j]?) ∧ w.frozen? ⟨g, j, none⟩ = false ∧ (w.setCell ⟨g, j, none⟩ z).ownsRow base T k (.slice (some ⟨g, 0, none⟩) n cap) n (xs.set j z) := by
  obtain ⟨hl, hh⟩ := h
  rcases hh with ⟨hv, _⟩ | ⟨g', cap', cur, hv, hb, hg, hn, hc, hs, ht⟩
  · exact absurd hv (by simp)
  · simp only [Value.slice.injEq, Option.some.injEq, Addr.mk.injEq, and_true, true_and] at hv
    obtain ⟨rfl, rfl⟩ := hv
    have hjn : j < n * k := by rw [← hl]; exact hj
    have hz : cur[j]? = xs[j]? := by
      rw [← ht, List.getElem?_take_of_lt hjn, ← Array.getElem?_toList]
    refine ⟨hb, (Array.getElem?_eq_some_iff.1 hg).1, ?_, by simp [World.frozen?, hg], ?_, .inr ⟨g, cap, cur.setIfInBounds j z, rfl, hb, ?_, hn, hc, by simpa using hs, ?_⟩⟩
    · rw [cell_of_row w g j cur T (0, 0) hg, hz]
    · simpa using hl
    · exact blk_set hg j z
    · rw [Array.toList_setIfInBounds, List.take_set, ht]
theorem truR_set (x : Tru) : ∀ (row : List Tru) (p : Nat), p < row.length → (((flatR truR row).set (p * 3) (.int .i64 x.t)).set (p * 3 + 1) (.int .i64 x.l)).set (p * 3 + 2) (.int .i64 x.s) = flatR truR (row.set p x)
  | [], p, h => by simp at h
  | y :: row, 0, _ => rfl
  | y :: row, p + 1, h => by
    have ih := truR_set x row p (by simpa using h)
    have e : flatR truR (y :: row) = truR y ++ flatR truR row := rfl
    have e2 : flatR truR ((y :: row).set (p + 1) x) = truR y ++ flatR truR (row.set p x) := rfl
    rw [e, e2, ← ih, show (p + 1) * 3 = 3 + p * 3 by omega]
    have h3 : (truR y).length = 3 := rfl
    rw [List.set_append_right _ _ (by omega), h3, List.set_append_right _ _ (by omega), h3, List.set_append_right _ _ (by omega), h3]
    congr 2
    · congr 1
      · congr 1
        omega
      · omega
    · omega

theorem RowIs.mono {α : Type} {R : α → List Value} {eT : TypeId} {B B' : Nat} {row : List α} {v : Value} {w : World} (h : RowIs R eT B row v w) (hB : B' ≤ B) : RowIs R eT B' row v w := by
  rcases h with h | ⟨b, c, h1, h2, h3⟩
  · exact .inl h
  · exact .inr ⟨b, c, h1, Nat.le_trans hB h2, h3⟩
theorem flat_div {α : Type} {R : α → List Value} {k : Nat} (hk : 0 < k) (hR : ∀ x, (R x).length = k) {row : List α} {i : Nat} {v : Value} (h : (flatR R row)[i]? = some v) : ∃ x, row[i / k]? = some x ∧ (R x)[i % k]? = some v := by
  have hi := (List.getElem?_eq_some_iff.1 h).1
  rw [flatR_len hR] at hi
  have hd : i / k < row.length := Nat.div_lt_of_lt_mul (by rw [Nat.mul_comm]; exact hi)
  obtain ⟨x, hx⟩ := get_of_lt hd
  refine ⟨x, hx, ?_⟩
  have h1 := flat_get hR row (i / k) x (i % k) hx (Nat.mod_lt _ hk)
  rw [show i / k * k + i % k = i by rw [Nat.mul_comm]; exact Nat.div_add_mod i k] at h1
  unfold flatR at h
  rw [← h1]
  exact h
/-- The cells of a row, one after the other. -/
theorem row_flat {α : Type} {R : α → List Value} {k : Nat} (hk : 0 < k) (hR : ∀ x, (R x).length = k) {w : World} {b o : Nat} {row : List α} (h : ∀ (i : Nat) (x : α), row[i]? = some x → ∀ (j : Nat) (v : Value), (R x)[j]? = some v → w.cell? ⟨b, o + i * k + j, none⟩ = some v) (i : Nat) (v : Value) (hv : (flatR R row)[i]? = some v) : w.cell? ((⟨b, o, none⟩ : Addr).add i) = some v := by
  obtain ⟨x, h1, h2⟩ := flat_div hk hR hv
  have h3 := h _ x h1 _ v h2
  have e1 : (⟨b, o, none⟩ : Addr).add i = ⟨b, o + i, none⟩ := by unfold Addr.add; split <;> simp_all
  rw [e1]
  rw [Nat.add_assoc, show i / k * k + i % k = i by rw [Nat.mul_comm]; exact Nat.div_add_mod i k] at h3
  exact h3
theorem one_tru {RL : List Tru} : ∀ v ∈ flatR truR RL, v.oneCell' = true := by
  intro v hv
  unfold flatR at hv
  obtain ⟨l, hl, hv⟩ := List.mem_flatten.1 hv
  obtain ⟨x, _, rfl⟩ := List.mem_map.1 hl
  simp only [truR, List.mem_cons, List.not_mem_nil, or_false] at hv
  rcases hv with rfl | rfl | rfl <;> rfl
theorem mix_row (X : Ctx) (p t : Nat) : (List.range X.np).map (X.mixT p t) = ((List.range X.np).map (X.endT false t)).set p (X.endT true t p) := by
  apply List.ext_getElem?
  intro i
  rw [List.getElem?_set]
  simp only [List.getElem?_map, List.length_map, List.length_range]
  by_cases hip : p = i
  · subst hip
    by_cases hlt : p < X.np
    · rw [List.getElem?_range hlt, if_pos rfl, if_pos hlt]
      simp [Ctx.mixT]
    · rw [List.getElem?_eq_none (by simp; omega), if_pos rfl, if_neg hlt]
      rfl
  · rw [if_neg hip]
    by_cases hlt : i < X.np
    · rw [List.getElem?_range hlt]
      have hd : decide (i = p) = false := decide_eq_false fun h => hip h.symm
      simp [Ctx.mixT, hd]
    · rw [List.getElem?_eq_none (by simp; omega)]
      rfl
/-- A row was copied, and one of its elements is set. -/
theorem mix_step {wr w4 : World} {np p : Nat} {RL : List Tru} {v4 : Value} (Y : Tru) (hl : RL.length = np) (hp : p < np) (ho : w4.ownsRow wr.heap.size 68 3 v4 (0 + np) ([] ++ flatR truR RL)) (hg : wr.grownBy w4 (Value.slice none 0 0).ownBlock) :
    ∃ g cg, v4 = .slice (some ⟨g, 0, none⟩) np cg ∧ Below wr.heap.size wr w4 ∧ ((w4.frozen? ⟨g, p * 3, none⟩ = false ∧ w4.frozen? ⟨g, p * 3 + 1, none⟩ = false ∧ w4.frozen? ⟨g, p * 3 + 2, none⟩ = false) ∧ ∃ x0 x1 x2 : Int, w4.cell? ⟨g, p * 3, none⟩ = some (.int .i64 x0) ∧ w4.cell? ⟨g, p * 3 + 1, none⟩ = some (.int .i64 x1) ∧ w4.cell? ⟨g, p * 3 + 2, none⟩ = some (.int .i64 x2)) ∧
      Below wr.heap.size wr (((w4.setCell ⟨g, p * 3, none⟩ (.int .i64 Y.t)).setCell ⟨g, p * 3 + 1, none⟩ (.int .i64 Y.l)).setCell ⟨g, p * 3 + 2, none⟩ (.int .i64 Y.s)) ∧
      RowIs truR 68 wr.heap.size (RL.set p Y) (.slice (some ⟨g, 0, none⟩) np cg) (((w4.setCell ⟨g, p * 3, none⟩ (.int .i64 Y.t)).setCell ⟨g, p * 3 + 1, none⟩ (.int .i64 Y.l)).setCell ⟨g, p * 3 + 2, none⟩ (.int .i64 Y.s)) := by
  rw [Nat.zero_add, List.nil_append] at ho
  obtain ⟨g, cg, rfl, _⟩ := ho.form (by omega)
  have hlen : (flatR truR RL).length = np * 3 := by rw [flatR_len truR_len, hl]
  obtain ⟨a1, a2, a3, a4, a5⟩ := own_set (j := p * 3) (z := .int .i64 Y.t) ho (by omega)
  obtain ⟨_, _, b3, b4, _⟩ := own_set (j := p * 3 + 1) (z := .int .i64 Y.l) ho (by omega)
  obtain ⟨_, _, c3, c4, _⟩ := own_set (j := p * 3 + 2) (z := .int .i64 Y.s) ho (by omega)
  obtain ⟨_, _, _, _, d5⟩ := own_set (j := p * 3 + 1) (z := .int .i64 Y.l) a5 (by rw [List.length_set]; omega)
  obtain ⟨_, _, _, _, e5⟩ := own_set (j := p * 3 + 2) (z := .int .i64 Y.s) d5 (by rw [List.length_set, List.length_set]; omega)
  rw [truR_set Y RL p (by omega)] at e5
  have hb4 : Below wr.heap.size wr w4 := ⟨hg.os, hg.tape, hg.output, hg.size, fun k hk => hg.block k hk (by simp [Value.ownBlock])⟩
  obtain ⟨x, hx⟩ := get_of_lt (l := RL) (k := p) (by omega)
  have hc := fun j v hv => (flat_get truR_len RL p x j hx (show j < 3 by simpa [truR] using (List.getElem?_eq_some_iff.1 (show (truR x)[j]? = some v from hv)).1)).trans hv
  have h0 := hc 0 _ rfl; have h1 := hc 1 _ rfl; have h2 := hc 2 _ rfl
  refine ⟨g, cg, rfl, hb4, ⟨⟨a4, b4, c4⟩, x.t, x.l, x.s, a3.trans h0, b3.trans h1, c3.trans h2⟩, ?_, ?_⟩
  · exact ((hb4.setCell (p := ⟨g, p * 3, none⟩) a1 _).setCell (p := ⟨g, p * 3 + 1, none⟩) a1 _).setCell (p := ⟨g, p * 3 + 2, none⟩) a1 _
  · have hl2 : (RL.set p Y).length = np := by rw [List.length_set, hl]
    refine RowIs.of_own (k := 3) ?_
    rw [hl2]
    exact e5

/-! ### A pair -/

set_option maxRecDepth 100000 in
set_option maxHeartbeats 4000000 in
theorem tilts_yes {X : Ctx} {w : World} (h : X.In w) (A : Option Addr) (c : Nat) (lv : List Int) (hA : IntsAt w w.heap.size A lv) (k a b : Nat) (x y : Int) (_np6 : X.np ≤ 6) (hk : k < X.nq) (_hnq : X.nq ≤ 10) (ha : a < X.np) (hb : b < X.np) (hq : X.qs[k]? = some ((a : Int), (b : Int))) (hx : lv[a]? = some x) (hy : lv[b]? = some y)
    (hb1 : -1000000 ≤ x ∧ x ≤ 1000000) (hb2 : -1000000 ≤ y ∧ y ≤ 1000000) (h1 : X.tilt < x - y ∨ X.tilt < -(x - y)) :
    Calls Tryz.prog 41 #[X.sv, .int .i64 (k : Int), .slice A X.np c] w fun e w' => e = .returned (.bool true) ∧ Below w.heap.size w w' := by
  obtain ⟨z0, hb0⟩ := site_new X w
  obtain ⟨w1, hw1⟩ : ∃ z, w.alloc (.cells X.cells 26) = z := ⟨_, rfl⟩
  rw [hw1] at z0 hb0
  have HB := Lib.hid hb0
  obtain ⟨bq, oq, eQ, hbq, c0, c1⟩ := prs_el h.Q hq
  obtain ⟨bl, ol, rfl, hbl, hcl⟩ := hA (by intro h; rw [h] at hx; simp at hx)
  have d0 := hcl a x hx 0 (.int .i64 x) rfl
  have d1 := hcl b y hy 0 (.int .i64 y) rfl
  simp only [Nat.mul_one, Nat.add_zero] at d0 d1
  replace c0 := ((bcell hb0).1 _ _ hbq).trans c0
  replace c1 := ((bcell hb0).1 _ _ hbq).trans c1
  replace d0 := ((bcell hb0).1 _ _ hbl).trans d0
  replace d1 := ((bcell hb0).1 _ _ hbl).trans d1
  obtain ⟨s0, s1, s2, s3, s4, s5⟩ := site_box z0
  rw [eQ] at s1
  have hk0 : (0 : Int) ≤ (k : Int) := by omega
  have hk1 : (k : Int) < (X.nq : Int) := by omega
  have ha0 : (0 : Int) ≤ (a : Int) := by omega
  have ha1 : (a : Int) < (X.np : Int) := by omega
  have hc0 : (0 : Int) ≤ (b : Int) := by omega
  have hc1 : (b : Int) < (X.np : Int) := by omega
  by_cases hd : X.tilt < x - y
  · have n1 : X.tilt < wrap64 (x - y) := by rw [w64 (n := x - y) (by omega)]; omega
    have HR : Hid ((decide (X.tilt < wrap64 (x - y)) || decide (X.tilt < wrap64 (-wrap64 (x - y)))) = true) := Lib.hid (by rw [decide_eq_true n1]; rfl)
    clear h hA hcl hx hy hq hbq hbl hb0 z0 eQ h1 hb1 hb2 hd
    go_enter Tryz.func41, Tryz.ntmps41
    go_wp2_with fail
    go_quiet (fail)
    go_wp2_with fail
    go_ret
    first | exact ⟨rfl, belN HB.out _⟩ | exact ⟨congrArg (fun b => Ending.returned (Value.bool b)) HR.out, belN HB.out _⟩
  · have h2 : X.tilt < -(x - y) := by omega
    have n1 : ¬ X.tilt < wrap64 (x - y) := by rw [w64 (n := x - y) (by omega)]; omega
    have n2 : X.tilt < wrap64 (-wrap64 (x - y)) := by rw [w64 (n := x - y) (by omega), w64 (n := -(x - y)) (by omega)]; omega
    have HR : Hid ((decide (X.tilt < wrap64 (x - y)) || decide (X.tilt < wrap64 (-wrap64 (x - y)))) = true) := Lib.hid (by rw [decide_eq_true n2, Bool.or_true])
    clear h hA hcl hx hy hq hbq hbl hb0 z0 eQ h1 hb1 hb2 hd h2
    go_enter Tryz.func41, Tryz.ntmps41
    go_wp2_with fail
    go_quiet (fail)
    go_wp2_with fail
    go_ret
    first | exact ⟨rfl, belN HB.out _⟩ | exact ⟨congrArg (fun b => Ending.returned (Value.bool b)) HR.out, belN HB.out _⟩
set_option maxRecDepth 100000 in
set_option maxHeartbeats 4000000 in
theorem tilts_not {X : Ctx} {w : World} (h : X.In w) (A : Option Addr) (c : Nat) (lv : List Int) (hA : IntsAt w w.heap.size A lv) (k a b : Nat) (x y : Int) (_np6 : X.np ≤ 6) (hk : k < X.nq) (_hnq : X.nq ≤ 10) (ha : a < X.np) (hb : b < X.np) (hq : X.qs[k]? = some ((a : Int), (b : Int))) (hx : lv[a]? = some x) (hy : lv[b]? = some y)
    (hb1 : -1000000 ≤ x ∧ x ≤ 1000000) (hb2 : -1000000 ≤ y ∧ y ≤ 1000000) (h1 : x - y ≤ X.tilt) (h2 : -(x - y) ≤ X.tilt) :
    Calls Tryz.prog 41 #[X.sv, .int .i64 (k : Int), .slice A X.np c] w fun e w' => e = .returned (.bool false) ∧ Below w.heap.size w w' := by
  obtain ⟨z0, hb0⟩ := site_new X w
  obtain ⟨w1, hw1⟩ : ∃ z, w.alloc (.cells X.cells 26) = z := ⟨_, rfl⟩
  rw [hw1] at z0 hb0
  have HB := Lib.hid hb0
  obtain ⟨bq, oq, eQ, hbq, c0, c1⟩ := prs_el h.Q hq
  obtain ⟨bl, ol, rfl, hbl, hcl⟩ := hA (by intro h; rw [h] at hx; simp at hx)
  have d0 := hcl a x hx 0 (.int .i64 x) rfl
  have d1 := hcl b y hy 0 (.int .i64 y) rfl
  simp only [Nat.mul_one, Nat.add_zero] at d0 d1
  replace c0 := ((bcell hb0).1 _ _ hbq).trans c0
  replace c1 := ((bcell hb0).1 _ _ hbq).trans c1
  replace d0 := ((bcell hb0).1 _ _ hbl).trans d0
  replace d1 := ((bcell hb0).1 _ _ hbl).trans d1
  obtain ⟨s0, s1, s2, s3, s4, s5⟩ := site_box z0
  rw [eQ] at s1
  have hk0 : (0 : Int) ≤ (k : Int) := by omega
  have hk1 : (k : Int) < (X.nq : Int) := by omega
  have ha0 : (0 : Int) ≤ (a : Int) := by omega
  have ha1 : (a : Int) < (X.np : Int) := by omega
  have hc0 : (0 : Int) ≤ (b : Int) := by omega
  have hc1 : (b : Int) < (X.np : Int) := by omega
  have HR : Hid ((decide (X.tilt < wrap64 (x - y)) || decide (X.tilt < wrap64 (-wrap64 (x - y)))) = false) := Lib.hid (by
    rw [w64 (n := x - y) (by omega), w64 (n := -(x - y)) (by omega), decide_eq_false (by omega), decide_eq_false (by omega)]
    rfl)
  have n1 : ¬ X.tilt < wrap64 (x - y) := by rw [w64 (n := x - y) (by omega)]; omega
  have n2 : ¬ X.tilt < wrap64 (-wrap64 (x - y)) := by rw [w64 (n := x - y) (by omega), w64 (n := -(x - y)) (by omega)]; omega
  clear h hA hcl hx hy hq hbq hbl hb0 z0 eQ h1 h2 hb1 hb2
  go_enter Tryz.func41, Tryz.ntmps41
  go_wp2_with fail
  go_quiet (fail)
  go_wp2_with fail
  go_ret
  first | exact ⟨rfl, belN HB.out _⟩ | exact ⟨congrArg (fun b => Ending.returned (Value.bool b)) HR.out, belN HB.out _⟩
theorem spanG_at {X : Ctx} (K : X.Ok) (plan : List Int) (hpl : plan.length = X.n) {t : Nat} (ht : t < X.n) : (spanL X.ps X.rs X.ts plan).getD t [] = (lvL X.most plan X.np t).zip (lvL X.least plan X.np t) := by
  unfold spanL zipL lvT
  rw [List.getD_eq_getElem?_getD, List.getElem?_zipWith, List.getElem?_map, List.getElem?_map, List.getElem?_range (by omega), K.hp]
  rfl
theorem zipR_at (f g : Nat → Int) {np i : Nat} (h : i < np) : (((List.range np).map f).zip ((List.range np).map g)).getD i (0, 0) = (f i, g i) := by
  rw [List.getD_eq_getElem?_getD, List.zip_eq_zipWith, List.getElem?_zipWith, rowL_at _ h, rowL_at _ h]
  rfl
end Go.Proofs.YtdlaphlpimlgdaaGreatDoor
