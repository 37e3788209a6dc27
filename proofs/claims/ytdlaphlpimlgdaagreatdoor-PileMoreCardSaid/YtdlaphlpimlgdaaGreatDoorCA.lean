/- Rows of rows that were made, for elements of any kind. -/
import Derived.Test.YtdlaphlpimlgdaaGreatDoorCB
namespace Go.Proofs.YtdlaphlpimlgdaaGreatDoor
open Go.RowKit

def GridAt {α : Type} (k : Nat) (R : α → List Value) (w : World) (B : Nat) (A : Option Addr) (ts : List (List α)) : Prop :=
  ts ≠ [] → ∃ b o, A = some ⟨b, o, none⟩ ∧ b < B ∧ ∀ i x, ts[i]? = some x → ∃ A' c', w.cell? ⟨b, o + i, none⟩ = some (.slice A' x.length c') ∧ RowAt k R w B A' x ∧ x.length ≤ maxLen ∧ x.length ≤ c'
theorem GridAt.next {α : Type} {k : Nat} {R : α → List Value} {w w' : World} {B B' : Nat} {A : Option Addr} {ts : List (List α)} (h : GridAt k R w B A ts) (hb : Below B w w') (hB : B ≤ B') : GridAt k R w' B' A ts := fun hne => by
  obtain ⟨b, o, rfl, hlt, hc⟩ := h hne
  refine ⟨b, o, rfl, by omega, fun i x hx => ?_⟩
  obtain ⟨A', c', h1, h2, h3⟩ := hc i x hx
  exact ⟨A', c', ((bcell hb).1 _ _ hlt).trans h1, h2.next hb hB, h3⟩
theorem GridAt.up {α : Type} {k : Nat} {R : α → List Value} {w w' : World} {A : Option Addr} {ts : List (List α)} (h : GridAt k R w w.heap.size A ts) (hb : Below w.heap.size w w') : GridAt k R w' w'.heap.size A ts := h.next hb hb.size
theorem SpsAt.grid {w : World} {B : Nat} {A : Option Addr} {ts : List (List Sp)} (h : SpsAt w B A ts) : GridAt 2 prR w B A ts := h
theorem LvsAt.grid {w : World} {B : Nat} {A : Option Addr} {ts : List (List Int)} (h : LvsAt w B A ts) : GridAt 1 intR w B A ts := h
theorem grid_row {α : Type} {k : Nat} {R : α → List Value} {w : World} {B : Nat} {A : Option Addr} {ts : List (List α)} {t : Nat} {row : List α} (h : GridAt k R w B A ts) (ht : ts[t]? = some row) :
    ∃ b o A' m c', A = some ⟨b, o, none⟩ ∧ b < B ∧ m = row.length ∧ w.cell? ⟨b, o + t, none⟩ = some (.slice A' m c') ∧ RowAt k R w B A' row ∧ m ≤ maxLen := by
  obtain ⟨b, o, rfl, h1, h2⟩ := h (by intro e; rw [e] at ht; simp at ht)
  obtain ⟨A', c', e1, e2, e3, _⟩ := h2 t row ht
  exact ⟨b, o, A', _, c', rfl, h1, rfl, e1, e2, e3⟩

def flatR {α : Type} (R : α → List Value) (row : List α) : List Value := (row.map R).flatten
theorem flatR_snoc {α : Type} (R : α → List Value) (row : List α) (x : α) : flatR R (row ++ [x]) = flatR R row ++ R x := by simp [flatR]
theorem flatR_take {α : Type} {R : α → List Value} {row : List α} {j : Nat} {x : α} (h : row[j]? = some x) : flatR R (row.take (j + 1)) = flatR R (row.take j) ++ R x := by
  rw [List.take_add_one, h]
  exact flatR_snoc _ _ _
/-- A row that was made. -/
def RowIs {α : Type} (R : α → List Value) (eT : TypeId) (B : Nat) (row : List α) (v : Value) (w : World) : Prop :=
  (row = [] ∧ v = .slice none 0 0) ∨ ∃ b c, v = .slice (some ⟨b, 0, none⟩) row.length c ∧ B ≤ b ∧ row.length ≤ c ∧ ∃ cs, w.heap[b]? = some (.cells cs eT (0, 0)) ∧ ∀ (i : Nat) (x : Value), (flatR R row)[i]? = some x → cs[i]? = some x
theorem RowIs.of_own {α : Type} {R : α → List Value} {eT : TypeId} {B k : Nat} {row : List α} {v : Value} {w : World} (h : w.ownsRow B eT k v row.length (flatR R row)) : RowIs R eT B row v w := by
  rcases h.2 with ⟨h1, h2⟩ | ⟨g, cap, cur, h1, h2, h3, h4, _, _, h6⟩
  · exact .inl ⟨List.eq_nil_of_length_eq_zero h2, h1⟩
  · refine .inr ⟨g, cap, h1, h2, h4, cur, h3, fun i x hx => ?_⟩
    rw [← h6, List.getElem?_take] at hx
    split at hx
    · simpa using hx
    · simp at hx
theorem RowIs.keep {α : Type} {R : α → List Value} {eT : TypeId} {B : Nat} {row : List α} {v : Value} {w w' : World} (h : RowIs R eT B row v w) (hk : ∀ b cs, B ≤ b → w.heap[b]? = some (.cells cs eT (0, 0)) → w'.heap[b]? = some (.cells cs eT (0, 0))) : RowIs R eT B row v w' := by
  rcases h with h | ⟨b, c, h1, h2, h3, cs, h4, h5⟩
  · exact .inl h
  · exact .inr ⟨b, c, h1, h2, h3, cs, hk b cs h2 h4, h5⟩
theorem RowIs.at_ {α : Type} {k : Nat} {R : α → List Value} {eT : TypeId} {B : Nat} {row : List α} {v : Value} {w : World} (h : RowIs R eT B row v w) (hR : ∀ x, (R x).length = k) :
    ∃ A c, v = .slice A row.length c ∧ RowAt k R w w.heap.size A row ∧ row.length ≤ c := by
  rcases h with ⟨rfl, rfl⟩ | ⟨b, c, rfl, h2, h3, cs, h4, h5⟩
  · exact ⟨none, 0, rfl, fun h => absurd rfl h, Nat.le_refl _⟩
  · refine ⟨_, c, rfl, fun _ => ⟨b, 0, rfl, heapsz h4, fun i x hx j v hv => ?_⟩, h3⟩
    have hj : j < k := by rw [← hR x]; exact (List.getElem?_eq_some_iff.1 hv).1
    rw [Nat.zero_add, cell_of_row w b _ _ eT (0, 0) h4]
    refine h5 _ _ ?_
    unfold flatR
    rw [flat_get hR row i x j hx hj, hv]

/-- A list of rows that grows. -/
structure GrdI {α : Type} (R : α → List Value) (eT sT : TypeId) (w : World) (base : Nat) (LL : List (List α)) (lv : Value) (rows : List Value) (wr : World) : Prop where
  bel : Below w.heap.size w wr
  own : wr.ownsRow base sT 1 lv LL.length rows
  rws : rows.length = LL.length ∧ ∀ (j : Nat) (row : List α), LL[j]? = some row → ∃ v, rows[j]? = some v ∧ RowIs R eT base row v wr
  low : w.heap.size ≤ base
section
variable {α : Type} {R : α → List Value} {eT sT : TypeId} {w wr wq : World} {base : Nat} {LL : List (List α)} {lv : Value} {rows : List Value}
theorem GrdI.nil (hb : Below w.heap.size w wr) (hl : w.heap.size ≤ base) : GrdI R eT sT w base ([] : List (List α)) (.slice none 0 0) [] wr :=
  ⟨hb, World.ownsRow_nil _ _ _ _, ⟨rfl, fun j r hj => by simp at hj⟩, hl⟩
theorem GrdI.keep (h : GrdI R eT sT w base LL lv rows wr) (hb : Below w.heap.size w wq) (hk : ∀ b, base ≤ b → b < wr.heap.size → wq.heap[b]? = wr.heap[b]?) : GrdI R eT sT w base LL lv rows wq :=
  ⟨hb, Go.Proofs.YtdlaphlpimlgdaaGreatDoor.own_of_blocks h.own fun B hB => hk B (own_at h.own hB).1 (by obtain ⟨_, cur, hc⟩ := own_at h.own hB; exact (Array.getElem?_eq_some_iff.1 hc).1), ⟨h.rws.1, fun j row hj => by
    obtain ⟨v, h1, h2⟩ := h.rws.2 j row hj
    exact ⟨v, h1, h2.keep fun b cs hB hc => (hk b hB (Array.getElem?_eq_some_iff.1 hc).1).trans hc⟩⟩, h.low⟩
theorem GrdI.below (h : GrdI R eT sT w base LL lv rows wr) (hb : Below wr.heap.size wr wq) : GrdI R eT sT w base LL lv rows wq :=
  h.keep (h.bel.trans (hb.mono h.bel.size)) fun b _ hlt => hb.block b hlt
/-- Another row, which was made, is appended. -/
theorem GrdI.append {v v' : Value} {row : List α} {o : Obj} (h : GrdI R eT sT w base LL lv rows wr) (hne : eT ≠ sT) (hr : RowIs R eT base row v wr)
    (ho : wq.ownsRow base sT 1 v' (LL.length + 1) (rows ++ [v])) (hq : (wr.alloc o).grownBy wq lv.ownBlock) :
    GrdI R eT sT w base (LL ++ [row]) v' (rows ++ [v]) wq := by
  have hb0 := (Below.refl wr.heap.size wr).alloc (Nat.le_refl _) o
  have hk : ∀ b cs, base ≤ b → wr.heap[b]? = some (.cells cs eT (0, 0)) → wq.heap[b]? = some (.cells cs eT (0, 0)) := fun b cs _ hx => by
    have hlt := (Array.getElem?_eq_some_iff.1 hx).1
    exact (hq.block b (by simp; omega) (own_ne h.own hx (.inr fun _ e => by injection e with _ e; exact hne e))).trans ((hb0.block b hlt).trans hx)
  refine ⟨(h.bel.trans (hb0.mono h.bel.size)).grown hq (Nat.le_trans h.bel.size hb0.size) (fun B hB => Nat.le_trans h.low (own_at h.own hB).1), by rw [List.length_append]; exact ho, ⟨by rw [List.length_append, List.length_append, h.rws.1]; rfl, fun j r hj => ?_⟩, h.low⟩
  by_cases hjl : j < LL.length
  · rw [List.getElem?_append_left hjl] at hj
    obtain ⟨u, h1, h2⟩ := h.rws.2 j r hj
    exact ⟨u, by rw [List.getElem?_append_left (by rw [h.rws.1]; exact hjl)]; exact h1, h2.keep hk⟩
  · have : j = LL.length := by
      have := (List.getElem?_eq_some_iff.1 hj).1
      simp at this
      omega
    subst this
    rw [List.getElem?_append_right (Nat.le_refl _), Nat.sub_self] at hj
    simp at hj
    subst hj
    exact ⟨v, by rw [← h.rws.1, List.getElem?_append_right (Nat.le_refl _), Nat.sub_self]; rfl, hr.keep hk⟩
/-- What was made, as rows of rows. -/
theorem GrdI.grid {k : Nat} (h : GrdI R eT sT w base LL lv rows wr) (hR : ∀ x, (R x).length = k) (h10 : ∀ row ∈ LL, row.length ≤ maxLen) :
    ∃ A3 c3, lv = .slice A3 LL.length c3 ∧ GridAt k R wr wr.heap.size A3 LL ∧ LL.length ≤ c3 ∧ Below w.heap.size w wr := by
  rcases h.own.2 with ⟨h1, h2⟩ | ⟨g, cap, cur, h1, h2, h3, h4, h5, h6, h7⟩
  · have hl : LL = [] := List.eq_nil_of_length_eq_zero h2
    subst hl
    exact ⟨none, 0, h1, fun hne => absurd rfl hne, Nat.le_refl _, h.bel⟩
  · refine ⟨_, cap, h1, fun _ => ⟨g, 0, rfl, (Array.getElem?_eq_some_iff.1 h3).1, fun i x hx => ?_⟩, h4, h.bel⟩
    obtain ⟨v, e1, e2⟩ := h.rws.2 i x hx
    obtain ⟨A, c, rfl, e3, e4⟩ := e2.at_ hR
    refine ⟨A, c, ?_, e3, h10 x (List.mem_of_getElem? hx), e4⟩
    rw [Nat.zero_add, cell_of_row wr g i _ sT (0, 0) h3]
    rw [← h7, List.getElem?_take] at e1
    split at e1
    · simpa using e1
    · simp at e1
end
end Go.Proofs.YtdlaphlpimlgdaaGreatDoor
