/- Pipes: a net that is wrapped, by the specification. -/
import Derived.Test.YticmeeinjkoodaaRO
namespace Go
section
variable {P : Program}
theorem exec_store_off {o : Oper} {ev : Operand → Value} {w : World} (ty : TypeId) (x y : Operand) (ho : o.op = .store ty x y) (b off : Nat) (cells : Array Value) (hx : ev x = .pointer (some ⟨b, off, none⟩)) (hy : ev y = .agg cells)
    (ht : w.there b off cells.size) (hi : (P.info? ty).map (·.size) = some cells.size) (h1 : cells.all (·.oneCell') = true) : (execOp ev o).run P w = .ok .skip (w.setCells b off cells.toList) := by
  unfold execOp
  simp only [ho, hx, hy, Instr.storeAt, Instr.sureAddr, Sem.run_bind, Sem.run_pure, Result.andThen_ok, run_storeVar_mid w b off ty cells ht hi h1]
end
end Go
namespace Go.Proofs.Yticmeeinjkoodaa
open Go.RowKit Go.Shelf

theorem fillO {w : World} {B o : Nat} {cur : Array Value} {t : TypeId} (h : w.heap[B]? = some (.cells cur t (0, 0))) (ho : o + 2 ≤ cur.size) (v0 v1 : Value) :
    ∃ w', w.setCells B o (#[v0, v1] : Array Value).toList = w' ∧ w.there B o (#[v0, v1] : Array Value).size ∧ w'.heap[B]? = some (.cells ((cur.setIfInBounds o v0).setIfInBounds (o + 1) v1) t (0, 0)) ∧ (∀ n, n ≤ B → Below n w w') := by
  have f : ((w.setCell ⟨B, o, none⟩ v0).setCell ⟨B, o + 1, none⟩ v1).heap[B]? = some (.cells ((cur.setIfInBounds o v0).setIfInBounds (o + 1) v1) t (0, 0)) := by simpa using blk_set (blk_set h o v0) (o + 1) v1
  refine ⟨_, rfl, ?_, f, fun n hn => ((Below.refl n w).setCell (p := ⟨B, o, none⟩) hn _).setCell (p := ⟨B, o + 1, none⟩) hn _⟩
  intro j hj
  have hj2 : j < 2 := hj
  have hc := cell_of_row w B (o + j) _ t (0, 0) h
  have hf : w.frozen? ⟨B, o + j, none⟩ = false := by simp [World.frozen?, h]
  rw [hc, hf]
  exact ⟨by rw [Array.getElem?_eq_getElem (by omega)]; rfl, rfl⟩
theorem lp_other (l : Lp) : ∀ j, j ≠ 2 → j ≠ 3 → (lpR (wr1 true l))[j]? = (lpR l)[j]?
  | 0, _, _ | 1, _, _ | 4, _, _ | 5, _, _ | 6, _, _ | 7, _, _ | 8, _, _ | 9, _, _ | 10, _, _ | 11, _, _ => rfl
  | 2, h, _ => absurd rfl h
  | 3, _, h => absurd rfl h
  | _ + 12, _, _ => rfl
/-- Loops in a block, of which the first ones are wrapped. -/
def RowW (N : Nt) (s k : Nat) (cur : Array Value) : Prop := ∀ (i : Nat) (l : Lp), N.lo[i]? = some l → ∀ (j : Nat) (v : Value), (lpR (if i < k then wr1 (s.testBit i) l else l))[j]? = some v → cur[i * 12 + j]? = some v
theorem lpR_lt {l : Lp} {j : Nat} {v : Value} (h : (lpR l)[j]? = some v) : j < 12 := (List.getElem?_eq_some_iff.1 h).1
theorem RowW.skip {N : Nt} {s k : Nat} {cur : Array Value} (h : RowW N s k cur) (hb : s.testBit k = false) : RowW N s (k + 1) cur := fun i l hl j v hv => h i l hl j v (by
  by_cases hik : i < k
  · rw [if_pos hik]
    rwa [if_pos (by omega)] at hv
  · rw [if_neg hik]
    by_cases hik2 : i < k + 1
    · rw [if_pos hik2] at hv
      obtain rfl : i = k := by omega
      rw [hb] at hv
      exact hv
    · rwa [if_neg hik2] at hv)
theorem RowW.put {N : Nt} {s k : Nat} {cur : Array Value} (h : RowW N s k cur) (hb : s.testBit k = true) {l : Lp} (hl : N.lo[k]? = some l) (hsz : k * 12 + 12 ≤ cur.size) : RowW N s (k + 1) ((cur.setIfInBounds (k * 12 + 2) (.int .i64 l.rl)).setIfInBounds (k * 12 + 2 + 1) (.int .i64 l.rh)) := fun i q hq j v hv => by
  have hj := lpR_lt hv
  rw [Array.getElem?_setIfInBounds, Array.getElem?_setIfInBounds]
  simp only [Array.size_setIfInBounds]
  by_cases hik : i = k
  · subst hik
    rw [hl] at hq
    injection hq with hq
    subst hq
    rw [if_pos (by omega), hb] at hv
    by_cases h3 : j = 3
    · subst h3
      rw [if_pos (by omega), if_pos (by omega)]
      exact hv
    · rw [if_neg (by omega)]
      by_cases h2 : j = 2
      · subst h2
        rw [if_pos rfl, if_pos (by omega)]
        exact hv
      · rw [if_neg (by omega)]
        rw [lp_other l j h2 h3] at hv
        exact h i l hl j v (by rw [if_neg (by omega)]; exact hv)
  · rw [if_neg (by omega), if_neg (by omega)]
    refine h i q hq j v ?_
    by_cases h1 : i < k
    · rw [if_pos h1]
      rwa [if_pos (by omega)] at hv
    · rw [if_neg h1]
      rwa [if_neg (by omega)] at hv
theorem RowW.size {N : Nt} {s k i : Nat} {cur : Array Value} (h : RowW N s k cur) {l : Lp} (hl : N.lo[i]? = some l) : i * 12 + 12 ≤ cur.size := by
  have := h i l hl 11 _ (by split <;> first | rfl | (cases s.testBit i <;> rfl))
  have := (Array.getElem?_eq_some_iff.1 this).1
  omega
theorem RowW.row {N : Nt} {s k g : Nat} {cur : Array Value} {w : World} (h : RowW N s k cur) (hk : N.lo.length ≤ k) (hg : w.heap[g]? = some (.cells cur 49 (0, 0))) : RowAt 12 lpR w w.heap.size (some ⟨g, 0, none⟩) (N.wrap s).lo := fun _ => ⟨g, 0, rfl, heapsz hg, fun i x hx j v hv => by
  rw [cell_of_row w g _ _ 49 (0, 0) hg]
  have hx2 : (wrL s N.lo)[i]? = some x := hx
  have hi : i < N.lo.length := by
    have := (List.getElem?_eq_some_iff.1 hx2).1
    rwa [wrL_len] at this
  obtain ⟨l, hl⟩ := get_of_lt hi
  rw [wrL_at hl] at hx2
  injection hx2 with hx2
  rw [Nat.zero_add]
  exact h i l hl j v (by rw [if_pos (by omega), hx2]; exact hv)⟩
def wdCv (Z g k : Nat) (nl cap : Nat) (a b : Int) (_ : Unit) : Tmp → Value
  | 5 => .pointer (some ⟨Z + 1 + 1, 0, none⟩)
  | 6 => .int .i64 k
  | 22 => .pointer (some ⟨Z + 1 + 1, 0, none⟩)
  | 23 => .slice (some ⟨g, 0, none⟩) nl cap
  | 24 => .int .i64 k
  | 25 => .pointer (some ⟨Z + 1 + 1, 0, none⟩)
  | 26 => .slice (some ⟨g, 0, none⟩) nl cap
  | 27 => .int .i64 k
  | 28 => .pointer (some ⟨g, k * 12, none⟩)
  | 29 => .pointer (some ⟨g, k * 12 + 4, none⟩)
  | 30 => .agg #[.int .i64 a, .int .i64 b]
  | 31 => .pointer (some ⟨g, k * 12, none⟩)
  | 32 => .pointer (some ⟨g, k * 12 + 2, none⟩)
  | _ => default
theorem lp_info2 : (Try.prog.info? 49).map (fun i => (i.zero, i.size, i.bytes)) = some (some (.agg #[.int .i64 0, .int .i64 0, .int .i64 0, .int .i64 0, .int .i64 0, .int .i64 0, .int .i64 0, .int .i64 0, .int .i64 0, .int .i64 0, .int .i64 0, .int .i64 0]), 12, 96) := by kernel_rfl
theorem flat_len {α : Type} {k : Nat} {R : α → List Value} (hR : ∀ x, (R x).length = k) : ∀ row : List α, (flatR R row).length = row.length * k
  | [] => by simp [flatR]
  | x :: r => by
    have := flat_len hR r
    show (R x ++ flatR R r).length = _
    rw [List.length_append, hR, this, List.length_cons, Nat.add_mul, Nat.one_mul, Nat.add_comm]
theorem flat_in {α : Type} {k : Nat} {R : α → List Value} (hR : ∀ x, (R x).length = k) : ∀ (row : List α) (j : Nat) (u : Value), (flatR R row)[j]? = some u → ∃ i r x, j = i * k + r ∧ row[i]? = some x ∧ (R x)[r]? = some u
  | [], j, u, h => by simp [flatR] at h
  | x :: r, j, u, h => by
    have e : flatR R (x :: r) = R x ++ flatR R r := rfl
    rw [e] at h
    by_cases hj : j < k
    · rw [List.getElem?_append_left (by rw [hR]; exact hj)] at h
      exact ⟨0, j, x, by omega, rfl, h⟩
    · rw [List.getElem?_append_right (by rw [hR]; omega), hR] at h
      obtain ⟨i, q, y, h1, h2, h3⟩ := flat_in hR r (j - k) u h
      exact ⟨i + 1, q, y, by rw [Nat.add_mul]; omega, h2, h3⟩
structure WR (w : World) (V : NV) (N : Nt) (s k g cap : Nat) (wr : World) : Prop where
  bel : Below w.heap.size w wr
  lt : w.heap.size + 1 + 1 < g
  z4 : wr.heap[w.heap.size + 1]? = some (.cells #[.slice none 0 0, .slice none 0 0, .slice none 0 0] 26 (0, 0))
  z5 : wr.heap[w.heap.size + 1 + 1]? = some (.cells #[.slice (some ⟨g, 0, none⟩) V.nl cap, .slice V.af V.nf V.cf, .slice V.aw V.nw V.cw] 26 (0, 0))
  row : ∃ cur, wr.heap[g]? = some (.cells cur 49 (0, 0)) ∧ RowW N s k cur
set_option maxRecDepth 100000 in
set_option maxHeartbeats 8000000 in
theorem wrapped_any (V : NV) (N : Nt) {s : Nat} (hs : s < 32) (w : World) (hN : NtAt w w.heap.size V N) (hK : NtOk N) :
    Calls Try.prog 52 #[nvV V, .int .i64 s] w fun e w' => ∃ V', e = .returned (nvV V') ∧ Below w.heap.size w w' ∧ NtAt w' w'.heap.size V' (N.wrap s) ∧ V'.nl = V.nl := by
  have HK := Lib.hid hK
  obtain ⟨z, z4, z5, hb⟩ := three_new w (.cells (nvC V) 26) (.cells #[.slice none 0 0, .slice none 0 0, .slice none 0 0] 26) (.cells (nvC V) 26)
  have hs3 : (((w.alloc (.cells (nvC V) 26)).alloc (.cells #[.slice none 0 0, .slice none 0 0, .slice none 0 0] 26)).alloc (.cells (nvC V) 26)).heap.size = w.heap.size + 3 := by simp
  obtain ⟨w3, hw3⟩ : ∃ z, ((w.alloc (.cells (nvC V) 26)).alloc (.cells #[.slice none 0 0, .slice none 0 0, .slice none 0 0] 26)).alloc (.cells (nvC V) 26) = z := ⟨_, rfl⟩
  rw [hw3] at z z4 z5 hb hs3
  have HW := Lib.hid hw3
  have HN := Lib.hid hN; have HN3 := Lib.hid (hN.up hb)
  obtain ⟨al, nl, cl, af, nf, cf, aw, nw, cw⟩ := V
  have HNL := Lib.hid hN.nl
  have hnl5 : 1 ≤ nl ∧ nl ≤ 5 := by have h1 := HNL.out; have h2 := HK.out.n5; first | omega | (simp only at h1; omega)
  obtain ⟨l0, hl0⟩ := get_of_lt (l := N.lo) (k := 0) (by have := HK.out.n5; omega)
  obtain ⟨b1, o1, hal1, hb1, _⟩ := lp_el HN3.out.lo hl0
  have hal2 : al = some ⟨b1, o1, none⟩ := hal1
  subst hal2
  have HNEWS : Hid (∀ (j : Nat) (u : Value), (flatR lpR N.lo)[j]? = some u → w3.cell? ((⟨b1, o1, none⟩ : Addr).add j) = some u) := Lib.hid fun j u hu => by
    obtain ⟨i, r, x, rfl, h2, h3⟩ := flat_in (k := 12) (fun _ => rfl) N.lo j u hu
    obtain ⟨b, o, e1, _, e2⟩ := HN3.out.lo (fun e => by rw [e] at h2; simp at h2)
    injection e1 with e1
    injection e1 with e1 e3
    subst e1 e3
    have := e2 i x h2 r u h3
    rw [addr_add, ← Nat.add_assoc]
    exact this
  have HONE : Hid (∀ u ∈ flatR lpR N.lo, u.oneCell' = true) := Lib.hid fun u hu => by
    unfold flatR at hu
    obtain ⟨r, hr, hur⟩ := List.mem_flatten.1 hu
    obtain ⟨x, _, rfl⟩ := List.mem_map.1 hr
    simp only [lpR, List.mem_cons, List.not_mem_nil, or_false] at hur
    rcases hur with rfl | rfl | rfl | rfl | rfl | rfl | rfl | rfl | rfl | rfl | rfl | rfl <;> rfl
  have HLEN : Hid ((flatR lpR N.lo).length = nl * 12) := Lib.hid (by rw [flat_len (k := 12) (fun _ => rfl), HNL.out])
  obtain ⟨v0, v1, v2⟩ := box3_cells z
  simp only at v0 v1 v2
  have HB := Lib.hid hb; have Z4 := Lib.hid z4; have Z5 := Lib.hid z5; have HS3 := Lib.hid hs3
  obtain ⟨i0, hi0, hz0, hz1, hz2⟩ := info_parts lp_info2
  clear z z4 z5 hb hw3 hN hK hl0 hal1 hb1 hs3
  rw [← HW.out] at v0 v1 v2
  go_enter Try.func52, Try.ntmps52
  go_wp2_with (first
    | (at_builtin
       rw [show ((w.alloc (.cells #[.slice (some ⟨b1, o1, none⟩) nl cl, .slice af nf cf, .slice aw nw cw] 26)).alloc (.cells #[.slice none 0 0, .slice none 0 0, .slice none 0 0] 26)).alloc (.cells #[.slice (some ⟨b1, o1, none⟩) nl cl, .slice af nf cf, .slice aw nw cw] 26) = w3 from HW.out]
       refine wpList_append_own _ rfl _ _ 22 rfl w3.heap.size 49 i0 _ 12 96 Try.underlying22 hi0 hz0 hz1 hz2 rfl (by decide) (.slice none 0 0) 0 [] rfl (World.ownsRow_nil _ _ _ _) ⟨b1, o1, none⟩ nl cl (flatR lpR N.lo) rfl HLEN.out HNEWS.out HONE.out (by unfold maxLen; omega) (by omega) (Nat.le_refl _) ?_
       intro v' w6 hown6 hgr6 _
       rw [Nat.zero_add, List.nil_append] at hown6
       have hri : RowIs lpR 49 w3.heap.size N.lo v' w6 := RowIs.of_own (by rw [HNL.out]; exact hown6)
       have HRI := Lib.hid hri
       clear hri
       obtain ⟨_, ⟨_, h0⟩ | ⟨g, cap, cur, rfl, hge, hg, _⟩⟩ := hown6
       · omega
       have HGG := Lib.hid hg; have HGE := Lib.hid hge
       have hz5 := (hgr6.block (w.heap.size + 1 + 1) (by rw [HS3.out]; omega) (fun e => by cases e)).trans Z5.out
       have hz4 := (hgr6.block (w.heap.size + 1) (by rw [HS3.out]; omega) (fun e => by cases e)).trans Z4.out
       have HG4 := Lib.hid hz4; have HG5 := Lib.hid hz5
       obtain ⟨y0, y1, y2⟩ := box3_cells hz5
       have f0 : w6.frozen? ⟨w.heap.size + 1 + 1, 0, none⟩ = false := by simp [World.frozen?, hz5]
       have HB6 := Lib.hid (HB.out.grown hgr6 HB.out.size (fun q e => by cases e))
       clear hgr6 hz4 hz5 hg hge)
    | fail)
  have hz5 := HG5.out
  have hgl : w.heap.size + 1 + 1 < g := by have := HGE.out; have := HS3.out; omega
  have HWR : Hid (WR w ⟨some ⟨b1, o1, none⟩, nl, cl, af, nf, cf, aw, nw, cw⟩ N s 0 g cap (w6.setCell ⟨w.heap.size + 1 + 1, 0, none⟩ (.slice (some ⟨g, 0, none⟩) nl cap))) := Lib.hid ⟨HB6.out.setCell (p := ⟨w.heap.size + 1 + 1, 0, none⟩) (by show w.heap.size ≤ w.heap.size + 1 + 1; omega) _, hgl, (Below.heap_setCell _ _ _ _ (by show w.heap.size + 1 ≠ w.heap.size + 1 + 1; omega)).trans HG4.out, by simpa using blk_set hz5 0 (.slice (some ⟨g, 0, none⟩) nl cap), cur, (Below.heap_setCell _ _ _ _ (by show g ≠ w.heap.size + 1 + 1; omega)).trans HGG.out, fun i l hl j v hv => by
    obtain ⟨A, c, e1, e2, _⟩ := HRI.out.at_ (k := 12) (fun _ => rfl)
    injection e1 with e1 e3 e4
    subst e1
    obtain ⟨b, o, e5, _, e6⟩ := e2 (fun e => by rw [e] at hl; simp at hl)
    injection e5 with e5
    injection e5 with e5 e7
    subst e5 e7
    have := e6 i l hl j v (by rwa [if_neg (by omega)] at hv)
    rw [cell_of_row w6 _ _ _ 49 (0, 0) HGG.out, Nat.zero_add] at this
    exact this⟩
  obtain ⟨w7, hw7⟩ : ∃ z, w6.setCell ⟨w.heap.size + 1 + 1, 0, none⟩ (.slice (some ⟨g, 0, none⟩) nl cap) = z := ⟨_, rfl⟩
  rw [hw7] at HWR ⊢
  clear hz5 hw7 y0 y1 y2 f0
  go_loopw [6] (fun ii wr => ∃ k : Nat, k ≤ nl ∧ ii = .int .i64 k ∧ WR w ⟨some ⟨b1, o1, none⟩, nl, cl, af, nf, cf, aw, nw, cw⟩ N s k g cap wr) (fun ii _ => nl - (intOf ii).toNat)
  case atStart => exact ⟨0, by omega, rfl, HWR.out⟩
  case round =>
    obtain ⟨k, hk, rfl, hwr⟩ := hrel
    have HR := Lib.hid hwr
    obtain ⟨q0, q1, q2⟩ := box3_cells hwr.z5
    simp only at q0 q1 q2
    clear hwr
    by_cases hlt : k < nl
    · have k3 : (0 : Int) ≤ (k : Int) := by omega
      have k4 : (k : Int) < (nl : Int) := by omega
      obtain ⟨l, hl⟩ := get_of_lt (l := N.lo) (k := k) (by have h1 := HNL.out; first | omega | (simp only at h1; omega))
      have HL := Lib.hid hl
      clear hl
      go_wp2_with fail
      refine (has_any hs (by omega) _).mono ?_
      rintro e w' ⟨rfl, rfl⟩
      cases hb : s.testBit k
      · obtain ⟨cu, h1, h2⟩ := HR.out.row
        have HR2 : Hid (WR w ⟨some ⟨b1, o1, none⟩, nl, cl, af, nf, cf, aw, nw, cw⟩ N s (k + 1) g cap wr) := Lib.hid ⟨HR.out.bel, HR.out.lt, HR.out.z4, HR.out.z5, cu, h1, h2.skip hb⟩
        clear hb h1 h2
        go_wp2_with fail
        exact ⟨⟨k + 1, by omega, rfl, HR2.out⟩, by simp [intOf]; omega⟩
      · obtain ⟨cu, hcu, hrw⟩ := HR.out.row
        have hsz := hrw.size HL.out
        have hpt := hrw.put hb HL.out hsz
        have r4 : cu[k * 12 + 4]? = some (.int .i64 l.rl) := hrw k l HL.out 4 _ (by rw [if_neg (by omega)]; rfl)
        have r5 : cu[k * 12 + 5]? = some (.int .i64 l.rh) := hrw k l HL.out 5 _ (by rw [if_neg (by omega)]; rfl)
        obtain ⟨cn, hcn⟩ : ∃ z, (cu.setIfInBounds (k * 12 + 2) (.int .i64 l.rl)).setIfInBounds (k * 12 + 2 + 1) (.int .i64 l.rh) = z := ⟨_, rfl⟩
        have n4 : cn[k * 12 + 4]? = some (.int .i64 l.rl) := by rw [← hcn, Array.getElem?_setIfInBounds, if_neg (by omega), Array.getElem?_setIfInBounds, if_neg (by omega)]; exact r4
        have n5 : cn[k * 12 + 5]? = some (.int .i64 l.rh) := by rw [← hcn, Array.getElem?_setIfInBounds, if_neg (by omega), Array.getElem?_setIfInBounds, if_neg (by omega)]; exact r5
        have HCE : Hid (∀ (u : World) (d : Bool), u.heap[g]? = some (.cells (if d then cn else cu) 49 (0, 0)) → u.cell? ⟨g, k * 12 + 4, none⟩ = some (.int .i64 l.rl) ∧ u.cell? ⟨g, k * 12 + 5, none⟩ = some (.int .i64 l.rh)) := Lib.hid fun u d hu => by
          rw [cell_of_row u g _ _ 49 (0, 0) hu, cell_of_row u g _ _ 49 (0, 0) hu]
          cases d
          · exact ⟨r4, r5⟩
          · exact ⟨n4, n5⟩
        have HZ5 : Hid (∀ u : World, Below g wr u → u.cell? ⟨w.heap.size + 1 + 1, 0, none⟩ = some (.slice (some ⟨g, 0, none⟩) nl cap)) := Lib.hid fun u hu => by
          have h1 := (hu.block _ HR.out.lt).trans HR.out.z5
          exact (box3_cells h1).1
        rw [hcn] at hpt
        have HPT := Lib.hid hpt; have HCU := Lib.hid hcu; have HCN := Lib.hid hcn; have HSZ := Lib.hid hsz
        clear hb hcu hrw hsz hpt r4 r5 hcn n4 n5 q0 q1 q2
        go_wp2_with fail
        refine wp_region_any (by kernel_rfl) (plan_guarded_any (γ := Unit) [5, 6] (wdCv w.heap.size g k nl cap l.rl l.rh) (fun done _ w' => PutB wr 11 g 49 cu cn g done w') () (by kernel_rfl) (by kernel_rfl) (by kernel_rfl) (by kernel_rfl) ?_ ?_ ?_ ?_)
        · intro t ht
          simp only [List.mem_cons, List.not_mem_nil, or_false] at ht
          rcases ht with rfl | rfl <;> rfl
        · exact ⟨(Below.refl g wr).drew, Nat.le_refl _, HCU.out⟩
        · refine allOps_array ?_
          refine ⟨?_, ?_, ?_, ?_, ?_, ?_, ?_, ?_, ?_, ?_, ?_, ?_, trivial⟩
          · intro done q u hS hu hdep _
            have p0 := HZ5.out u hS.keep
            obtain ⟨p1, p2⟩ := HCE.out u _ hS.box
            refine quietP hS 22 rfl (by decide) rfl ?_
            simp [go_sem, evalBy, wdCv]
          · intro done q u hS hu hdep _
            have p0 := HZ5.out u hS.keep
            obtain ⟨p1, p2⟩ := HCE.out u _ hS.box
            refine quietP hS 23 rfl (by decide) rfl ?_
            simp [go_sem, evalBy, wdCv, p0]
          · intro done q u hS hu hdep _
            have p0 := HZ5.out u hS.keep
            obtain ⟨p1, p2⟩ := HCE.out u _ hS.box
            refine quietP hS 24 rfl (by decide) rfl ?_
            simp [go_sem, evalBy, wdCv]
          · intro done q u hS hu hdep _
            have p0 := HZ5.out u hS.keep
            obtain ⟨p1, p2⟩ := HCE.out u _ hS.box
            refine quietP hS 25 rfl (by decide) rfl ?_
            simp [go_sem, evalBy, wdCv]
          · intro done q u hS hu hdep _
            have p0 := HZ5.out u hS.keep
            obtain ⟨p1, p2⟩ := HCE.out u _ hS.box
            refine quietP hS 26 rfl (by decide) rfl ?_
            simp [go_sem, evalBy, wdCv, p0]
          · intro done q u hS hu hdep _
            have p0 := HZ5.out u hS.keep
            obtain ⟨p1, p2⟩ := HCE.out u _ hS.box
            refine quietP hS 27 rfl (by decide) rfl ?_
            simp [go_sem, evalBy, wdCv]
          · intro done q u hS hu hdep _
            have p0 := HZ5.out u hS.keep
            obtain ⟨p1, p2⟩ := HCE.out u _ hS.box
            refine quietP hS 28 rfl (by decide) rfl ?_
            simp [go_sem, evalBy, wdCv, k3, k4]
          · intro done q u hS hu hdep _
            have p0 := HZ5.out u hS.keep
            obtain ⟨p1, p2⟩ := HCE.out u _ hS.box
            refine quietP hS 29 rfl (by decide) rfl ?_
            simp [go_sem, evalBy, wdCv]
          · intro done q u hS hu hdep _
            have p0 := HZ5.out u hS.keep
            obtain ⟨p1, p2⟩ := HCE.out u _ hS.box
            refine quietP hS 30 rfl (by decide) rfl ?_
            simp [go_sem, evalBy, wdCv, p1, p2]
          · intro done q u hS hu hdep _
            have p0 := HZ5.out u hS.keep
            obtain ⟨p1, p2⟩ := HCE.out u _ hS.box
            refine quietP hS 31 rfl (by decide) rfl ?_
            simp [go_sem, evalBy, wdCv, k3, k4]
          · intro done q u hS hu hdep _
            have p0 := HZ5.out u hS.keep
            obtain ⟨p1, p2⟩ := HCE.out u _ hS.box
            refine quietP hS 32 rfl (by decide) rfl ?_
            simp [go_sem, evalBy, wdCv]
          · intro done q u hS hu hdep _
            refine storeP hS rfl hu rfl (fun hb => ?_)
            obtain ⟨w2, h1, h2, h3, h5⟩ := fillO hb (o := k * 12 + 2) (by have := HSZ.out; omega) (.int .i64 l.rl) (.int .i64 l.rh)
            exact ⟨w2, by rw [← h1]; exact exec_store_off 47 _ _ rfl g (k * 12 + 2) #[.int .i64 l.rl, .int .i64 l.rh] rfl (by simp [evalBy, wdCv]) h2 sp_info (one2 ⟨rfl, rfl⟩), h5, by rw [← HCN.out]; exact h3⟩
        · intro q wz hS
          have hz := hS.box
          rw [if_pos (by decide)] at hz
          have hR := HR.out
          have HR2 : Hid (WR w ⟨some ⟨b1, o1, none⟩, nl, cl, af, nf, cf, aw, nw, cw⟩ N s (k + 1) g cap wz) := Lib.hid ⟨hR.bel.trans (hS.keep.mono (by have := hR.lt; omega)), hR.lt, (hS.keep.block _ (by have := hR.lt; omega)).trans hR.z4, (hS.keep.block _ hR.lt).trans hR.z5, cn, hz, HPT.out⟩
          clear hS hz hR
          simp [putAll, Act.put, wdCv]
          go_wp2_with fail
          exact ⟨⟨k + 1, by omega, rfl, HR2.out⟩, by simp [intOf]; omega⟩
    · obtain rfl : nl = k := by omega
      have k4 : ¬ (nl : Int) < (nl : Int) := by omega
      obtain ⟨r0, r1, r2⟩ := box3_cells HR.out.z4
      have hfr : ∀ j, wr.frozen? ⟨w.heap.size + 1, j, none⟩ = false := fun j => by simp [World.frozen?, HR.out.z4]
      have f0 := hfr 0; have f1 := hfr 1; have f2 := hfr 2
      clear hfr
      go_wp2_with fail
      have hoth : ∀ b, b ≠ w.heap.size + 1 → (((wr.setCell ⟨w.heap.size + 1, 0, none⟩ (.slice (some ⟨g, 0, none⟩) nl cap)).setCell ⟨w.heap.size + 1, 1, none⟩ (.slice af nf cf)).setCell ⟨w.heap.size + 1, 2, none⟩ (.slice aw nw cw)).heap[b]? = wr.heap[b]? := fun b hb => (Below.heap_setCell _ _ _ _ hb).trans ((Below.heap_setCell _ _ _ _ hb).trans (Below.heap_setCell _ _ _ _ hb))
      have zF : (((wr.setCell ⟨w.heap.size + 1, 0, none⟩ (.slice (some ⟨g, 0, none⟩) nl cap)).setCell ⟨w.heap.size + 1, 1, none⟩ (.slice af nf cf)).setCell ⟨w.heap.size + 1, 2, none⟩ (.slice aw nw cw)).heap[w.heap.size + 1]? = some (.cells #[.slice (some ⟨g, 0, none⟩) nl cap, .slice af nf cf, .slice aw nw cw] 26 (0, 0)) := by simpa using blk_set (blk_set (blk_set HR.out.z4 0 (.slice (some ⟨g, 0, none⟩) nl cap)) 1 (.slice af nf cf)) 2 (.slice aw nw cw)
      have hbF := ((HR.out.bel.setCell (p := ⟨w.heap.size + 1, 0, none⟩) (by show w.heap.size ≤ w.heap.size + 1; omega) (.slice (some ⟨g, 0, none⟩) nl cap)).setCell (p := ⟨w.heap.size + 1, 1, none⟩) (by show w.heap.size ≤ w.heap.size + 1; omega) (.slice af nf cf)).setCell (p := ⟨w.heap.size + 1, 2, none⟩) (by show w.heap.size ≤ w.heap.size + 1; omega) (.slice aw nw cw)
      obtain ⟨wF, hwF⟩ : ∃ z, ((wr.setCell ⟨w.heap.size + 1, 0, none⟩ (.slice (some ⟨g, 0, none⟩) nl cap)).setCell ⟨w.heap.size + 1, 1, none⟩ (.slice af nf cf)).setCell ⟨w.heap.size + 1, 2, none⟩ (.slice aw nw cw) = z := ⟨_, rfl⟩
      rw [hwF] at hoth zF hbF
      obtain ⟨cu, hcu, hrw⟩ := HR.out.row
      have hlt := HR.out.lt
      have hnt : NtAt wF wF.heap.size ⟨some ⟨g, 0, none⟩, nl, cap, af, nf, cf, aw, nw, cw⟩ (N.wrap s) := by
        have h := HN.out.next hbF hbF.size
        exact ⟨hrw.row (by rw [HNL.out]; exact Nat.le_refl _) ((hoth g (by omega)).trans hcu), h.fr, h.wa, by show (wrL s N.lo).length = nl; rw [wrL_len]; exact HNL.out, h.nf, h.nw, h.ml, h.mf, h.mw⟩
      obtain ⟨e0, e1, e2⟩ := box3_cells zF
      rw [hwF]
      exact bodyPost_ret (v := .agg #[.slice (some ⟨g, 0, none⟩) nl cap, .slice af nf cf, .slice aw nw cw]) (by simp [results, Try.results52, go_sem, e0, e1, e2]) rfl ⟨⟨some ⟨g, 0, none⟩, nl, cap, af, nf, cf, aw, nw, cw⟩, rfl, hbF, hnt, rfl⟩
end Go.Proofs.Yticmeeinjkoodaa
