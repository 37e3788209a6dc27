/- Pipes: a net in which a repair, and ways, take longer, in memory. -/
import Derived.Test.YticmeeinjkoodaaSP
namespace Go.Proofs.Yticmeeinjkoodaa
open Go.RowKit Go.Shelf

theorem grid_vals {α : Type} {k : Nat} {R : α → List Value} {w : World} {B : Nat} {A : Option Addr} {ts : List (List α)} (h : GridAt k R w B A ts) (hne : ts ≠ []) :
    ∃ (b o : Nat) (ws : List Value), A = some ⟨b, o, none⟩ ∧ b < B ∧ ws.length = ts.length ∧ (∀ (i : Nat) (u : Value), ws[i]? = some u → w.cell? ⟨b, o + i, none⟩ = some u ∧ u.oneCell' = true) ∧ ∀ (i : Nat) (x : List α), ts[i]? = some x → ∃ A' c', ws[i]? = some (Value.slice A' x.length c') ∧ RowAt k R w B A' x ∧ x.length ≤ maxLen ∧ x.length ≤ c' := by
  obtain ⟨b, o, rfl, hlt, hc⟩ := h hne
  have hget : ∀ i x, ts[i]? = some x → ((List.range ts.length).map fun i => (w.cell? ⟨b, o + i, none⟩).getD undef)[i]? = some ((w.cell? ⟨b, o + i, none⟩).getD undef) := fun i x hx => by
    rw [List.getElem?_map, List.getElem?_range (List.getElem?_eq_some_iff.1 hx).1]
    rfl
  refine ⟨b, o, (List.range ts.length).map fun i => (w.cell? ⟨b, o + i, none⟩).getD undef, rfl, hlt, by simp, fun i u hu => ?_, fun i x hx => ?_⟩
  · have hi : i < ts.length := by
      have := (List.getElem?_eq_some_iff.1 hu).1
      simpa using this
    obtain ⟨x, hx⟩ := get_of_lt hi
    obtain ⟨A', c', e, _⟩ := hc i x hx
    rw [hget i x hx, e] at hu
    simp only [Option.getD_some, Option.some.injEq] at hu
    subst hu
    exact ⟨e, rfl⟩
  · obtain ⟨A', c', e, h1, h2, h3⟩ := hc i x hx
    exact ⟨A', c', by rw [hget i x hx, e]; rfl, h1, h2, h3⟩
/-- The loops of a block, when one of them takes longer to repair. -/
def loM (N : Nt) (cur : Array Value) : Prop := ∀ (i : Nat) (l : Lp), N.lo[i]? = some l → ∀ (j : Nat) (v : Value), (lpR l)[j]? = some v → cur[i * 12 + j]? = some v
theorem lp_fh (l : Lp) (m : Int) : ∀ j, j ≠ 11 → (lpR (morLp m l))[j]? = (lpR l)[j]?
  | 0, _ | 1, _ | 2, _ | 3, _ | 4, _ | 5, _ | 6, _ | 7, _ | 8, _ | 9, _ | 10, _ => rfl
  | 11, h => absurd rfl h
  | _ + 12, _ => rfl
theorem loM_put {N : Nt} {L : Nat} {m : Int} {cur : Array Value} (h : loM N cur) {l : Lp} (hl : N.lo[L]? = some l) {y : Int} (hy : min 72 (l.fh + m) = y) : loM (N.more L m) (cur.setIfInBounds (L * 12 + 10 + 1) (.int .i64 y)) := fun i q hq j v hv => by
  have hi : i < N.lo.length := by
    have := (List.getElem?_eq_some_iff.1 hq).1
    rwa [(more_len N L m).1] at this
  obtain ⟨p, hp⟩ := get_of_lt hi
  rw [more_lo hp] at hq
  injection hq with hq
  have hj := lpR_lt hv
  have hsz : L * 12 + 11 < cur.size := (Array.getElem?_eq_some_iff.1 (h L l hl 11 _ rfl)).1
  rw [Array.getElem?_setIfInBounds]
  by_cases hiL : i = L
  · subst hiL
    rw [hl] at hp
    injection hp with hp
    subst hp
    rw [if_pos rfl] at hq
    subst hq
    by_cases h11 : j = 11
    · subst h11
      rw [if_pos rfl, if_pos (by omega)]
      have e : (lpR (morLp m l))[11]? = some (.int .i64 (min 72 (l.fh + m))) := rfl
      rw [e, hy] at hv
      exact hv
    · rw [if_neg (by omega)]
      rw [lp_fh l m j h11] at hv
      exact h i l hl j v hv
  · rw [if_neg (by omega)]
    rw [if_neg hiL] at hq
    subst hq
    exact h i p hp j v hv
theorem own_loM {N : Nt} {n : Nat} {cur : Array Value} (h : List.take (n * 12) cur.toList = flatR lpR N.lo) : loM N cur := fun i l hi j v hv => by
  have hj := lpR_lt hv
  have hin := (List.getElem?_eq_some_iff.1 hi).1
  have e := flat_get (k := 12) (R := lpR) (fun _ => rfl) N.lo i l j hi hj
  have e2 : (flatR lpR N.lo)[i * 12 + j]? = some v := e.trans hv
  rw [← h, List.getElem?_take] at e2
  split at e2
  · simpa using e2
  · simp at e2
theorem own_rowM {row : List Int} {n L : Nat} {m : Int} {cur : Array Value} (h : List.take (n * 1) cur.toList = flatR intR row) : rowM L m row 0 cur := fun i x hx => by
  have e := flat_get (k := 1) (R := intR) (fun _ => rfl) row i x 0 hx (by omega)
  have e2 : (flatR intR row)[i * 1 + 0]? = some (.int .i64 x) := e
  rw [← h, List.getElem?_take, Nat.mul_one, Nat.add_zero] at e2
  rw [if_neg (fun q => by omega)]
  split at e2
  · simpa using e2
  · simp at e2
theorem more_nt {w wE : World} {V : NV} {N : Nt} {B : Nat} (hN : NtAt w B V N) (hb : Below B w wE) (K : NtOk N) {L : Nat} {m : Int} {g1 g2 g3 c1 c2 c3 : Nat} {cur1 cur2 cur3 : Array Value} {row : List Int}
    (z1 : wE.heap[g1]? = some (.cells cur1 49 (0, 0))) (r1 : loM (N.more L m) cur1)
    (z2 : wE.heap[g2]? = some (.cells cur2 57 (0, 0))) (r2 : ∀ i x, i ≠ L → N.wa[i]? = some x → ∃ A' c', cur2[i]? = some (.slice A' x.length c') ∧ RowAt 1 intR wE wE.heap.size A' x ∧ x.length ≤ maxLen ∧ x.length ≤ c')
    (hrow : N.wa[L]? = some row) (r2L : cur2[L]? = some (.slice (some ⟨g3, 0, none⟩) row.length c3)) (hc3 : row.length ≤ c3)
    (z3 : wE.heap[g3]? = some (.cells cur3 3 (0, 0))) (r3 : rowM L m row row.length cur3) (hBs : B ≤ wE.heap.size) :
    NtAt wE wE.heap.size ⟨some ⟨g1, 0, none⟩, V.nl, c1, V.af, V.nf, V.cf, some ⟨g2, 0, none⟩, V.nw, c2⟩ (N.more L m) := by
  have hn := hN.next hb hBs
  obtain ⟨e1, e2⟩ := more_len N L m
  refine ⟨fun _ => ⟨g1, 0, rfl, heapsz z1, fun i l hi j v hv => ?_⟩, hn.fr, fun _ => ⟨g2, 0, rfl, heapsz z2, fun i x hx => ?_⟩, by rw [e1]; exact hn.nl, hn.nf, by rw [e2]; exact hn.nw, hn.ml, hn.mf, hn.mw⟩
  · rw [Nat.zero_add, cell_of_row wE g1 _ _ 49 (0, 0) z1]
    exact r1 i l hi j v hv
  · rw [Nat.zero_add, cell_of_row wE g2 _ _ 57 (0, 0) z2]
    obtain ⟨q, hq⟩ := get_of_lt (l := N.wa) (k := i) (by rw [← e2]; exact (List.getElem?_eq_some_iff.1 hx).1)
    rw [more_wa hq] at hx
    injection hx with hx
    by_cases hiL : i = L
    · subst hiL
      rw [hrow] at hq
      injection hq with hq
      subst hq
      rw [if_pos rfl] at hx
      subst hx
      have h5 := (K.wa i row hrow).1
      have h6 := K.n5
      refine ⟨some ⟨g3, 0, none⟩, c3, by rw [morR_len]; exact r2L, fun _ => ⟨g3, 0, rfl, heapsz z3, fun k y hy j v hv => ?_⟩, by rw [morR_len]; unfold maxLen; omega, by rw [morR_len]; exact hc3⟩
      have hk : k < row.length := by
        have := (List.getElem?_eq_some_iff.1 hy).1
        rwa [morR_len] at this
      obtain ⟨x, hx⟩ := get_of_lt hk
      rw [morR_at hx] at hy
      injection hy with hy
      have hj : j = 0 := by
        have := (List.getElem?_eq_some_iff.1 hv).1
        simpa [intR] using this
      subst hj
      have e : v = .int .i64 y := by simpa [intR] using hv.symm
      rw [Nat.zero_add, Nat.mul_one, Nat.add_zero, cell_of_row wE g3 _ _ 3 (0, 0) z3, r3 k x hx, e, ← hy]
      congr 2
      by_cases hkL : k = i
      · rw [if_neg (fun q => q.2 hkL), if_pos hkL]
      · rw [if_pos ⟨hk, hkL⟩, if_neg hkL]
    · rw [if_neg hiL] at hx
      subst hx
      exact r2 i q hiL hq
/-- Slack with longer ways, and with a wrapping. -/
theorem more_slack {N : Nt} (K : NtOk N) {L set s a : Nat} {m : Int} (hm : 0 ≤ m) (hs : s < 2 ^ N.lo.length) : slk (N.more L m) 0 s a 0 ≤ slk N 0 s a 0 ∧ slk N 0 s a 0 ≤ slk (N.wrap set) 0 s a 0 ∧ -1 ≤ slk (N.more L m) 0 s a 0 := by
  refine ⟨slk_worse (more_worse K hm) s s (Nat.le_refl _) a 0 0 (Int.le_refl _), ?_, slk_ge _ _ _ _ _⟩
  rw [slk_wrap N set s s (Nat.le_refl _) hs]
  exact slk_mask K s s (Nat.le_refl _) a 0
end Go.Proofs.Yticmeeinjkoodaa
