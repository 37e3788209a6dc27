/- Pipes: Freezes. Pipes: what a wrapping costs. Pipes: Warmth. Pipes: which loops are as defined, by the statements' own package. Pipes: the heat that a loop loses, by the statements' own package. Pipes: which nets are as defined, by the statements' own package. -/
import Derived.Test.YticmeeinjkoodaaBQ
namespace Go.Proofs.Yticmeeinjkoodaa
open Go.RowKit

theorem Lk.lh {w0 w : World} {P M m : Nat} {V : NV} {N : Nt} {bv dv : Value} (h : Lk w0 P M V N m bv dv w) (hN : NtAt w0 w0.heap.size V N) (hok : NtOk N) : ∃ AB cb, LH w w.heap.size P V N m AB cb := by
  obtain ⟨A, c, e, hr, _⟩ := h.bo.at_ (k := 1) (fun _ => rfl)
  have hl : (bxI N m).length = V.nl := by rw [← hN.nl]; simp [bxI]
  rw [hl] at e
  have kP := h.box
  rw [e] at kP
  have q := fun k => cell_of_row w P k _ 126 (0, 0) kP
  have q0 := q 0; have q1 := q 1; have q2 := q 2; have q3 := q 3
  simp at q0 q1 q2 q3
  exact ⟨A, c, heapsz kP, q0, q1, q2, q3, hN.next h.bel h.bel.size, hr, hok⟩
def frzA (N : Nt) (loop : Int) : Int := if loopB N loop then frzI (N.at loop) false N.fr 0 else 0
def frzB (N : Nt) (loop : Int) : Int := if loopB N loop then frzI (N.at loop) false N.fr 1 else 0
set_option maxRecDepth 100000 in
set_option maxHeartbeats 4000000 in
theorem Freezes_any (V : NV) (N : Nt) (loop : Int) (w : World) (hN : NtAt w w.heap.size V N) :
    Calls Try.prog 20 #[nvV V, .int .i64 loop] w fun e w' => e = .returned (.tuple #[.int .i64 (frzA N loop), .int .i64 (frzB N loop), .int .i64 (loopI N loop)]) ∧ Below w.heap.size w w' := by
  have z := heap_alloc_new w (.cells (nvC V) 26)
  have hb := (Below.refl w.heap.size w).alloc (Nat.le_refl _) (.cells (nvC V) 26)
  obtain ⟨w1, hw1⟩ : ∃ z, w.alloc (.cells (nvC V) 26) = z := ⟨_, rfl⟩
  rw [hw1] at z hb
  have HW := Lib.hid hw1
  have HN := Lib.hid (hN.up hb)
  obtain ⟨al, nl, cl, af, nf, cf, aw, nw, cw⟩ := V
  obtain ⟨v0, v1, v2⟩ := box3_cells z
  have hml := hN.ml; have hmf := hN.mf; have hmw := hN.mw
  unfold maxLen at hml hmf hmw
  simp only at hml hmf hmw v0 v1 v2
  have HB := Lib.hid hb; have Z := Lib.hid z
  have HNL := Lib.hid hN.nl; have HNF := Lib.hid hN.nf; have HNW := Lib.hid hN.nw
  clear z hb hw1 hN
  go_enter Try.func20, Try.ntmps20
  go_wp2_with fail
  rw [show w.alloc (.cells #[.slice al nl cl, .slice af nf cf, .slice aw nw cw] 26) = w1 from HW.out]
  refine (checkLoop_any _ N loop _ HN.out).mono ?_
  rintro e w2 ⟨rfl, hb2⟩
  have HZ2 := Lib.hid ((hb2.block _ (heapsz Z.out)).trans Z.out)
  replace v0 := ((bcell hb2).1 _ _ (heapsz Z.out)).trans v0
  replace v1 := ((bcell hb2).1 _ _ (heapsz Z.out)).trans v1
  replace v2 := ((bcell hb2).1 _ _ (heapsz Z.out)).trans v2
  have HB2 := Lib.hid (HB.out.trans (hb2.mono HB.out.size))
  have HN2 := Lib.hid (HN.out.up hb2)
  have HR : Hid (loopI N loop = if loopB N loop then 0 else 2) := Lib.hid rfl
  have HRA : Hid (frzA N loop = if loopB N loop then frzI (N.at loop) false N.fr 0 else 0) := Lib.hid rfl
  have HRB : Hid (frzB N loop = if loopB N loop then frzI (N.at loop) false N.fr 1 else 0) := Lib.hid rfl
  obtain ⟨R, hR⟩ : ∃ z, loopI N loop = z := ⟨_, rfl⟩
  have HRR := Lib.hid hR
  rw [hR] at HR ⊢
  clear hb2 hR
  cases h1 : loopB N loop
  · rw [h1] at HR HRA HRB
    obtain rfl : R = 2 := HR.out
    go_wp2_with fail
    exact bodyPost_ret (v := .tuple #[.int .i64 0, .int .i64 0, .int .i64 2]) (by simp [results, Try.results20, go_sem]) rfl ⟨by rw [HRA.out, HRB.out, HRR.out]; rfl, HB2.out⟩
  rw [h1] at HR HRA HRB
  obtain rfl : R = 0 := HR.out
  have K : NtOk N := ntB_iff.1 (by unfold loopB at h1; rw [Bool.and_eq_true] at h1; exact h1.1)
  obtain ⟨L, rfl, hL1, hL2⟩ := loopB_get h1
  have HL2 := Lib.hid hL2; have HK := Lib.hid K
  clear h1 K hL2
  go_wp2_with fail
  refine (look_any (V := ⟨al, nl, cl, af, nf, cf, aw, nw, cw⟩) HN2.out HK.out 0 (Nat.pow_pos (by decide))).mono ?_
  rintro e w3 ⟨P, M, bv, dv, rfl, hlk⟩
  have HLK := Lib.hid hlk
  obtain ⟨AB, cb, hlh⟩ := hlk.lh HN2.out HK.out
  have HLH := Lib.hid hlh
  clear hlk hlh v0 v1 v2
  go_wp2_with fail
  refine (frozen_any HLH.out HL2.out).mono ?_
  rintro e w4 ⟨rfl, hb4⟩
  have HB4 := Lib.hid (HB2.out.trans ((HLK.out.bel.trans (hb4.mono HLK.out.bel.size)).mono HB2.out.size))
  rw [Nat.zero_testBit]
  clear hb4
  obtain ⟨x, hx⟩ : ∃ z, frzI (N.at L) false N.fr 0 = z := ⟨_, rfl⟩
  obtain ⟨y, hy⟩ : ∃ z, frzI (N.at L) false N.fr 1 = z := ⟨_, rfl⟩
  rw [hx] at HRA ⊢
  rw [hy] at HRB ⊢
  have zn := heap_alloc_new w4 (.cells #[.int .i64 x, .int .i64 y] 98)
  have hbn := (Below.refl w4.heap.size w4).alloc (Nat.le_refl _) (.cells #[.int .i64 x, .int .i64 y] 98)
  obtain ⟨w5, hw5⟩ : ∃ z, w4.alloc (.cells #[.int .i64 x, .int .i64 y] 98) = z := ⟨_, rfl⟩
  rw [hw5] at zn hbn
  have HW5 := Lib.hid hw5; have HB5 := Lib.hid (HB4.out.trans (hbn.mono HB4.out.size))
  obtain ⟨c0, c1⟩ := two_cells zn
  clear hw5 hbn zn hx hy
  go_wp2_with fail
  rw [HW5.out]
  go_quiet (fail)
  go_wp2_with fail
  exact bodyPost_ret (v := .tuple #[.int .i64 x, .int .i64 y, .int .i64 0]) (by simp [results, Try.results20, go_sem]) rfl ⟨by rw [HRA.out, HRB.out, HRR.out]; rfl, belN HB5.out _⟩
end Go.Proofs.Yticmeeinjkoodaa

namespace Go.Proofs.Yticmeeinjkoodaa
open Go.RowKit

def costK (N : Nt) (m : Nat) : Nat → Int
  | 0 => 0
  | k + 1 => costK N m k + (if m.testBit k then (N.lo.getD k lp0).co else 0)
theorem costK_in {N : Nt} (K : NtOk N) (m : Nat) : ∀ k, k ≤ N.lo.length → 0 ≤ costK N m k ∧ costK N m k ≤ 1000000 * (k : Int)
  | 0, _ => by simp [costK]
  | k + 1, hk => by
    have h := costK_in K m k (by omega)
    obtain ⟨l, hl⟩ := get_of_lt (l := N.lo) (k := k) (by omega)
    have hc := (K.lo l (List.mem_of_getElem? hl)).co
    have e : N.lo.getD k lp0 = l := by rw [List.getD_eq_getElem?_getD, hl]; rfl
    unfold costK
    rw [e]
    split <;> omega
set_option maxRecDepth 100000 in
set_option maxHeartbeats 4000000 in
theorem cost_any {w : World} {P m cb : Nat} {V : NV} {N : Nt} {AB : Option Addr} (h : LH w w.heap.size P V N m AB cb) :
    Calls Try.prog 95 #[.pointer (some ⟨P, 0, none⟩)] w fun e w' => e = .returned (.int .i64 (costK N m N.lo.length)) ∧ Below w.heap.size w w' := by
  have HH := Lib.hid h
  have c3 := h.c3
  have hnl := h.net.nl
  have HNL := Lib.hid hnl
  have hml := h.net.ml
  unfold maxLen at hml
  have HN5 := Lib.hid h.ok.n5
  clear h hnl
  go_enter Try.func95, Try.ntmps95
  go_wp2_with fail
  go_loopw [3, 11] (fun ss ii wr => ∃ k : Nat, k ≤ V.nl ∧ ii = .int .i64 k ∧ ss = .int .i64 (costK N m k) ∧ Below w.heap.size w wr) (fun _ ii _ => V.nl - (intOf ii).toNat)
  case atStart => exact ⟨0, by omega, rfl, rfl, Below.refl _ _⟩
  case round =>
    obtain ⟨k, hk, rfl, rfl, hb⟩ := hrel
    have HB := Lib.hid hb
    clear hb
    by_cases hlt : k < V.nl
    · have k3 : (0 : Int) ≤ (k : Int) := by omega
      have k4 : (k : Int) < (V.nl : Int) := by omega
      obtain ⟨l, hl⟩ := get_of_lt (l := N.lo) (k := k) (by rw [HNL.out]; exact hlt)
      obtain ⟨b, o, hA, hbb, d0⟩ := bx_el (HH.out.up HB.out).bx (bxI_at hl)
      have hin := costK_in HH.out.ok m (k + 1) (by rw [HNL.out]; omega)
      have e : N.lo.getD k lp0 = l := by rw [List.getD_eq_getElem?_getD, hl]; rfl
      have HS : Hid (costK N m (k + 1) = costK N m k + (if m.testBit k then l.co else 0)) := Lib.hid (by show costK N m k + (if m.testBit k then (N.lo.getD k lp0).co else 0) = _; rw [e])
      rw [HS.out] at hin
      have HIN := Lib.hid hin
      obtain ⟨S, hS⟩ : ∃ z, costK N m k = z := ⟨_, rfl⟩
      rw [hS] at HS HIN ⊢
      obtain ⟨bt, hbt⟩ : ∃ z, m.testBit k = z := ⟨_, rfl⟩
      rw [hbt] at HS HIN d0
      simp only at d0
      subst hA
      clear hl hbb hin e hS hbt
      cases bt
      · simp only [boxV, Bool.false_eq_true, if_false] at d0 HS HIN
        go_wp2_with fail
        refine (bcost_any l _).mono ?_
        rintro e w' ⟨rfl, hb⟩
        have HB2 := Lib.hid (HB.out.trans (hb.mono HB.out.size))
        have hw : wrap64 (S + 0) = S + 0 := w64 (by have := HIN.out; have := HN5.out; have := HNL.out; omega)
        have hw2 : wrap64 S = S := w64 (by have := HIN.out; have := HN5.out; have := HNL.out; omega)
        clear hb
        go_wp2_with fail
        exact ⟨⟨k + 1, by omega, rfl, by rw [hw2, HS.out]; simp, HB2.out⟩, by simp [intOf]; omega⟩
      · simp only [boxV, if_true] at d0 HS HIN
        go_wp2_with fail
        refine (wcost_any l _).mono ?_
        rintro e w' ⟨rfl, hb⟩
        have HB2 := Lib.hid (HB.out.trans (hb.mono HB.out.size))
        have hw : wrap64 (S + l.co) = S + l.co := w64 (by have := HIN.out; have := HN5.out; have := HNL.out; omega)
        clear hb
        go_wp2_with fail
        exact ⟨⟨k + 1, by omega, rfl, by rw [hw, HS.out], HB2.out⟩, by simp [intOf]; omega⟩
    · obtain rfl : V.nl = k := by omega
      have k4 : ¬ (V.nl : Int) < (V.nl : Int) := by omega
      go_wp2_with fail
      go_ret
      exact ⟨by rw [HNL.out]; rfl, HB.out⟩
end Go.Proofs.Yticmeeinjkoodaa

namespace Go.Proofs.Yticmeeinjkoodaa
open Go.RowKit

/-- What Warmth tells: a row of spans a loop. -/
def warL (N : Nt) (k : Nat) : List (List (Int × Int)) := (N.lo.take k).map fun l => spansL l false N.fr
theorem warL_succ {N : Nt} {k : Nat} {l : Lp} (h : N.lo[k]? = some l) : warL N (k + 1) = warL N k ++ [spansL l false N.fr] := by
  unfold warL
  rw [List.take_add_one, h, List.map_append]
  rfl
theorem row_info : (Try.prog.info? 23).map (fun i => (i.zero, i.size, i.bytes)) = some (some (.slice none 0 0), 1, 24) := by kernel_rfl
set_option maxRecDepth 100000 in
set_option maxHeartbeats 4000000 in
theorem Warmth_any (V : NV) (N : Nt) (w : World) (hN : NtAt w w.heap.size V N) :
    Calls Try.prog 19 #[nvV V] w fun e w' => Below w.heap.size w w' ∧ ((ntB N = false ∧ e = .returned (.tuple #[.slice none 0 0, .int .i64 2])) ∨ (ntB N = true ∧ ∃ lv rows w0, e = .returned (.tuple #[lv, .int .i64 0]) ∧ GrdI prR 47 23 w0 w0.heap.size (warL N N.lo.length) lv rows w' ∧ w.heap.size ≤ w0.heap.size)) := by
  have z := heap_alloc_new w (.cells (nvC V) 26)
  have hb := (Below.refl w.heap.size w).alloc (Nat.le_refl _) (.cells (nvC V) 26)
  obtain ⟨w1, hw1⟩ : ∃ z, w.alloc (.cells (nvC V) 26) = z := ⟨_, rfl⟩
  rw [hw1] at z hb
  have HW := Lib.hid hw1
  have HN := Lib.hid (hN.up hb)
  obtain ⟨al, nl, cl, af, nf, cf, aw, nw, cw⟩ := V
  obtain ⟨v0, v1, v2⟩ := box3_cells z
  have hml := hN.ml; have hmf := hN.mf; have hmw := hN.mw
  unfold maxLen at hml hmf hmw
  simp only at hml hmf hmw v0 v1 v2
  have HB := Lib.hid hb; have Z := Lib.hid z
  have HNL := Lib.hid hN.nl; have HNF := Lib.hid hN.nf; have HNW := Lib.hid hN.nw
  clear z hb hw1 hN
  obtain ⟨i0, hi0, hz0, hz1, hz2⟩ := info_parts row_info
  go_enter Try.func19, Try.ntmps19
  go_wp2_with fail
  rw [show w.alloc (.cells #[.slice al nl cl, .slice af nf cf, .slice aw nw cw] 26) = w1 from HW.out]
  refine (Check_any _ N _ HN.out).mono ?_
  rintro e w2 ⟨rfl, hb2⟩
  have HZ2 := Lib.hid ((hb2.block _ (heapsz Z.out)).trans Z.out)
  replace v0 := ((bcell hb2).1 _ _ (heapsz Z.out)).trans v0
  replace v1 := ((bcell hb2).1 _ _ (heapsz Z.out)).trans v1
  replace v2 := ((bcell hb2).1 _ _ (heapsz Z.out)).trans v2
  have HB2 := Lib.hid (HB.out.trans (hb2.mono HB.out.size))
  have HN2 := Lib.hid (HN.out.up hb2)
  clear hb2
  have HC : Hid (checkI N = if ntB N then 0 else 2) := Lib.hid rfl
  obtain ⟨R, hR⟩ : ∃ z, checkI N = z := ⟨_, rfl⟩
  rw [hR] at HC ⊢
  clear hR
  cases h1 : ntB N
  · rw [h1] at HC
    obtain rfl : R = 2 := HC.out
    go_wp2_with fail
    exact bodyPost_ret (v := .tuple #[.slice none 0 0, .int .i64 2]) (by simp [results, Try.results19, go_sem]) rfl ⟨HB2.out, .inl ⟨h1, rfl⟩⟩
  rw [h1] at HC
  obtain rfl : R = 0 := HC.out
  have K : NtOk N := ntB_iff.1 h1
  have HK := Lib.hid K; have H1 := Lib.hid h1
  clear h1 K
  go_wp2_with fail
  refine (look_any (V := ⟨al, nl, cl, af, nf, cf, aw, nw, cw⟩) HN2.out HK.out 0 (Nat.pow_pos (by decide))).mono ?_
  rintro e w3 ⟨P, M, bv, dv, rfl, hlk⟩
  have HLK := Lib.hid hlk
  obtain ⟨AB, cb, hlh⟩ := hlk.lh HN2.out HK.out
  have HLH := Lib.hid hlh
  have u0 := ((bcell hlk.bel).1 _ _ (heapsz HZ2.out)).trans v0
  have u1 := ((bcell hlk.bel).1 _ _ (heapsz HZ2.out)).trans v1
  have u2 := ((bcell hlk.bel).1 _ _ (heapsz HZ2.out)).trans v2
  have HB3 := Lib.hid (HB2.out.trans (hlk.bel.mono HB2.out.size))
  clear hlk hlh v0 v1 v2
  go_wp2_with fail
  go_loopw [6, 18] (fun vv ii wr => ∃ k : Nat, k ≤ nl ∧ ii = .int .i64 k ∧ ∃ rows, GrdI prR 47 23 w3 w3.heap.size (warL N k) vv rows wr) (fun _ ii _ => nl - (intOf ii).toNat)
  case atStart => exact ⟨0, by omega, rfl, [], GrdI.nil (Below.refl _ _) (Nat.le_refl _)⟩
  case round =>
    obtain ⟨k, hk, rfl, rows, hG⟩ := hrel
    have HG := Lib.hid hG
    clear hG
    by_cases hlt : k < nl
    · have k3 : (0 : Int) ≤ (k : Int) := by omega
      have k4 : (k : Int) < (nl : Int) := by omega
      obtain ⟨l, hl⟩ := get_of_lt (l := N.lo) (k := k) (by rw [HNL.out]; exact hlt)
      have HL := Lib.hid hl
      clear hl
      go_wp2_with fail
      refine (warmth_any (HLH.out.up HG.out.bel) HL.out).mono ?_
      rintro e w4 ⟨v, rfl, hb4, hrow⟩
      rw [Nat.zero_testBit] at hrow
      have HG4 := Lib.hid (HG.out.below hb4)
      have HRW := Lib.hid (hrow.low HG.out.bel.size)
      have hlow : w3.heap.size ≤ w4.heap.size := Nat.le_trans HG.out.bel.size hb4.size
      have hlen : (warL N k).length = k := by simp [warL]; rw [HNL.out]; omega
      have hown := HG4.out.own
      rw [hlen] at hown
      have HOWN := Lib.hid hown
      obtain ⟨A, c, rfl, _, _⟩ := hrow.at_ (k := 2) (fun _ => rfl)
      have h5 : nl ≤ 5 := by have := HK.out.n5; rw [HNL.out] at this; omega
      have HLN := Lib.hid hlen
      clear hb4 hrow hown hlen
      go_wp2_with (first
        | (at_builtin
           refine wpList_append_own_at _ rfl _ _ 31 rfl w3.heap.size 23 i0 _ 1 24 Try.underlying31 hi0 hz0 hz1 hz2 rfl (by decide) _ _ _ rfl (HOWN.out.alloc _) ⟨w4.heap.size, 0, none⟩ 1 1 [.slice A (spansL l false N.fr).length c] rfl rfl (Go.cell_one_new _ _ _) (by simp [Value.oneCell']) (by unfold maxLen; omega) (by omega) (by simp; omega) ?_
           intro v' w6 hown6 hgr6 hnil6 hat6)
        | fail)
      refine ⟨⟨k + 1, by omega, rfl, rows ++ [.slice A (spansL l false N.fr).length c], ?_⟩, by simp [intOf]; omega⟩
      rw [warL_succ HL.out]
      exact HG4.out.append (by decide) HRW.out (by rw [HLN.out]; exact hown6) hgr6
    · obtain rfl : nl = k := by omega
      have k4 : ¬ (nl : Int) < (nl : Int) := by omega
      go_wp2_with fail
      have hb5 := HB3.out.trans (HG.out.bel.mono HB3.out.size)
      exact bodyPost_ret (v := .tuple #[u6, .int .i64 0]) (by simp [results, Try.results19, go_sem]) rfl ⟨hb5, .inr ⟨H1.out, _, rfl, _, w3, by rw [HNL.out]; exact HG.out, HB3.out.size⟩⟩
end Go.Proofs.Yticmeeinjkoodaa

namespace Go.Proofs.Yticmeeinjkoodaa
open Go.RowKit

theorem rin_any (x lo hi : Int) (w : World) :
    Calls Try.prog 64 #[.int .i64 x, .int .i64 lo, .int .i64 hi] w fun e w' => e = .returned (.bool (inB lo x hi)) ∧ w = w' := by
  by_cases h1 : lo ≤ x <;> by_cases h3 : x ≤ hi
  all_goals
    have h2 : (x ≥ lo) = (lo ≤ x) := rfl
    go_enter Try.func64, Try.ntmps64
    go_wp2
    go_ret
    exact ⟨by simp [inB, h1, h3], rfl⟩
set_option maxHeartbeats 1000000 in
theorem rspan_any (lo hi a b : Int) (w : World) :
    Calls Try.prog 63 #[.agg #[.int .i64 lo, .int .i64 hi], .int .i64 a, .int .i64 b] w fun e w' => e = .returned (.bool (withinB a lo hi b)) ∧ Below w.heap.size w w' := by
  have z := heap_alloc_new w (.cells #[.int .i64 lo, .int .i64 hi] 47)
  have p := fun k => cell_of_row (w.alloc (.cells #[.int .i64 lo, .int .i64 hi] 47)) w.heap.size k _ 47 (0, 0) z
  have p0 := p 0; have p1 := p 1
  simp at p0 p1
  have HB := Lib.hid ((Below.refl w.heap.size w).alloc (Nat.le_refl _) (.cells #[.int .i64 lo, .int .i64 hi] 47))
  clear p z
  by_cases h1 : a ≤ lo <;> by_cases h2 : lo ≤ hi <;> by_cases h3 : hi ≤ b
  all_goals
    go_enter Try.func63, Try.ntmps63
    go_wp2
    go_ret
    exact ⟨by simp [withinB, h1, h2, h3], HB.out⟩
set_option maxRecDepth 100000 in
set_option maxHeartbeats 8000000 in
theorem rloop_any (l : Lp) (w : World) :
    Calls Try.prog 62 #[lpV l] w fun e w' => e = .returned (.bool (lpB l)) ∧ Below w.heap.size w w' := by
  have z := heap_alloc_new w (.cells (lpC l) 49)
  have hb := (Below.refl w.heap.size w).alloc (Nat.le_refl _) (.cells (lpC l) 49)
  obtain ⟨w1, hw1⟩ : ∃ z, w.alloc (.cells (lpC l) 49) = z := ⟨_, rfl⟩
  rw [hw1] at z hb
  have HW := Lib.hid hw1
  obtain ⟨⟨v0, v1⟩, ⟨v2, v3⟩, ⟨v4, v5⟩, ⟨v6, v7, v8, v9⟩, v10, v11⟩ := lp_cells z
  have LW : w.heap.size < w1.heap.size := heapsz z
  have HB := Lib.hid hb
  clear z hb hw1
  go_enter Try.func62, Try.ntmps62
  go_wp2_with fail
  rw [show w.alloc (.cells #[.int .i64 l.wl, .int .i64 l.wh, .int .i64 l.ll, .int .i64 l.lh, .int .i64 l.rl, .int .i64 l.rh, .int .i64 l.co, .int .i64 l.ma, .int .i64 l.gr, .int .i64 l.fe, .int .i64 l.fl, .int .i64 l.fh] 49) = w1 from HW.out]
  refine (rspan_any _ _ _ _ _).mono ?_
  rintro e x0 ⟨rfl, hb0⟩
  replace v0 := ((bcell hb0).1 _ _ LW).trans v0
  replace v1 := ((bcell hb0).1 _ _ LW).trans v1
  replace v2 := ((bcell hb0).1 _ _ LW).trans v2
  replace v3 := ((bcell hb0).1 _ _ LW).trans v3
  replace v4 := ((bcell hb0).1 _ _ LW).trans v4
  replace v5 := ((bcell hb0).1 _ _ LW).trans v5
  replace v6 := ((bcell hb0).1 _ _ LW).trans v6
  replace v7 := ((bcell hb0).1 _ _ LW).trans v7
  replace v8 := ((bcell hb0).1 _ _ LW).trans v8
  replace v9 := ((bcell hb0).1 _ _ LW).trans v9
  replace v10 := ((bcell hb0).1 _ _ LW).trans v10
  replace v11 := ((bcell hb0).1 _ _ LW).trans v11
  replace HB := Lib.hid (HB.out.trans (hb0.mono HB.out.size))
  replace LW := Nat.lt_of_lt_of_le LW hb0.size
  clear hb0
  cases h0 : withinB 1 l.wl l.wh 1000
  · go_wp2_with fail
    go_ret
    exact ⟨by simp [lpB, h0], HB.out⟩
  go_wp2_with fail
  refine (rspan_any _ _ _ _ _).mono ?_
  rintro e x1 ⟨rfl, hb1⟩
  replace v0 := ((bcell hb1).1 _ _ LW).trans v0
  replace v1 := ((bcell hb1).1 _ _ LW).trans v1
  replace v2 := ((bcell hb1).1 _ _ LW).trans v2
  replace v3 := ((bcell hb1).1 _ _ LW).trans v3
  replace v4 := ((bcell hb1).1 _ _ LW).trans v4
  replace v5 := ((bcell hb1).1 _ _ LW).trans v5
  replace v6 := ((bcell hb1).1 _ _ LW).trans v6
  replace v7 := ((bcell hb1).1 _ _ LW).trans v7
  replace v8 := ((bcell hb1).1 _ _ LW).trans v8
  replace v9 := ((bcell hb1).1 _ _ LW).trans v9
  replace v10 := ((bcell hb1).1 _ _ LW).trans v10
  replace v11 := ((bcell hb1).1 _ _ LW).trans v11
  replace HB := Lib.hid (HB.out.trans (hb1.mono HB.out.size))
  replace LW := Nat.lt_of_lt_of_le LW hb1.size
  clear hb1
  cases h1 : withinB 0 l.ll l.lh 1000
  · go_wp2_with fail
    go_ret
    exact ⟨by simp [lpB, h0, h1], HB.out⟩
  go_wp2_with fail
  refine (rspan_any _ _ _ _ _).mono ?_
  rintro e x2 ⟨rfl, hb2⟩
  replace v0 := ((bcell hb2).1 _ _ LW).trans v0
  replace v1 := ((bcell hb2).1 _ _ LW).trans v1
  replace v2 := ((bcell hb2).1 _ _ LW).trans v2
  replace v3 := ((bcell hb2).1 _ _ LW).trans v3
  replace v4 := ((bcell hb2).1 _ _ LW).trans v4
  replace v5 := ((bcell hb2).1 _ _ LW).trans v5
  replace v6 := ((bcell hb2).1 _ _ LW).trans v6
  replace v7 := ((bcell hb2).1 _ _ LW).trans v7
  replace v8 := ((bcell hb2).1 _ _ LW).trans v8
  replace v9 := ((bcell hb2).1 _ _ LW).trans v9
  replace v10 := ((bcell hb2).1 _ _ LW).trans v10
  replace v11 := ((bcell hb2).1 _ _ LW).trans v11
  replace HB := Lib.hid (HB.out.trans (hb2.mono HB.out.size))
  replace LW := Nat.lt_of_lt_of_le LW hb2.size
  clear hb2
  cases h2 : withinB 0 l.rl l.rh 1000
  · go_wp2_with fail
    go_ret
    exact ⟨by simp [lpB, h0, h1, h2], HB.out⟩
  by_cases h3 : l.rl ≤ l.ll
  rotate_left
  · go_wp2_with fail
    go_ret
    exact ⟨by simp [lpB, h0, h1, h2, show ¬ l.rl ≤ l.ll by omega], HB.out⟩
  by_cases h4 : l.rh ≤ l.lh
  rotate_left
  · go_wp2_with fail
    go_ret
    exact ⟨by simp [lpB, h0, h1, h2, h3, show ¬ l.rh ≤ l.lh by omega], HB.out⟩
  go_wp2_with fail
  refine (rin_any _ _ _ _).mono ?_
  rintro e x5 ⟨rfl, rfl⟩
  cases h5 : inB 0 l.co 1000000
  · go_wp2_with fail
    go_ret
    exact ⟨by simp [lpB, h0, h1, h2, h3, h4, h5], HB.out⟩
  go_wp2_with fail
  refine (rin_any _ _ _ _).mono ?_
  rintro e x6 ⟨rfl, rfl⟩
  cases h6 : inB 1 l.ma 10000
  · go_wp2_with fail
    go_ret
    exact ⟨by simp [lpB, h0, h1, h2, h3, h4, h5, h6], HB.out⟩
  go_wp2_with fail
  refine (rin_any _ _ _ _).mono ?_
  rintro e x7 ⟨rfl, rfl⟩
  cases h7 : inB 0 l.gr 1000
  · go_wp2_with fail
    go_ret
    exact ⟨by simp [lpB, h0, h1, h2, h3, h4, h5, h6, h7], HB.out⟩
  go_wp2_with fail
  refine (rin_any _ _ _ _).mono ?_
  rintro e x8 ⟨rfl, rfl⟩
  cases h8 : inB 0 l.fe 1000
  · go_wp2_with fail
    go_ret
    exact ⟨by simp [lpB, h0, h1, h2, h3, h4, h5, h6, h7, h8], HB.out⟩
  go_wp2_with fail
  refine (rspan_any _ _ _ _ _).mono ?_
  rintro e x9 ⟨rfl, hb9⟩
  replace v0 := ((bcell hb9).1 _ _ LW).trans v0
  replace v1 := ((bcell hb9).1 _ _ LW).trans v1
  replace v2 := ((bcell hb9).1 _ _ LW).trans v2
  replace v3 := ((bcell hb9).1 _ _ LW).trans v3
  replace v4 := ((bcell hb9).1 _ _ LW).trans v4
  replace v5 := ((bcell hb9).1 _ _ LW).trans v5
  replace v6 := ((bcell hb9).1 _ _ LW).trans v6
  replace v7 := ((bcell hb9).1 _ _ LW).trans v7
  replace v8 := ((bcell hb9).1 _ _ LW).trans v8
  replace v9 := ((bcell hb9).1 _ _ LW).trans v9
  replace v10 := ((bcell hb9).1 _ _ LW).trans v10
  replace v11 := ((bcell hb9).1 _ _ LW).trans v11
  replace HB := Lib.hid (HB.out.trans (hb9.mono HB.out.size))
  replace LW := Nat.lt_of_lt_of_le LW hb9.size
  clear hb9
  cases h9 : withinB 0 l.fl l.fh 72
  · go_wp2_with fail
    go_ret
    exact ⟨by simp [lpB, h0, h1, h2, h3, h4, h5, h6, h7, h8, h9], HB.out⟩
  go_wp2_with fail
  go_ret
  exact ⟨by simp [lpB, h0, h1, h2, h3, h4, h5, h6, h7, h8, h9], HB.out⟩
theorem risLoop_any (V : NV) (N : Nt) (loop : Int) (w : World) (hN : NtAt w w.heap.size V N) :
    Calls Try.prog 24 #[nvV V, .int .i64 loop] w fun e w' => e = .returned (.bool (inB 0 loop (N.lo.length - 1))) ∧ Below w.heap.size w w' := by
  have z := heap_alloc_new w (.cells (nvC V) 26)
  have HB := Lib.hid ((Below.refl w.heap.size w).alloc (Nat.le_refl _) (.cells (nvC V) 26))
  obtain ⟨v0, v1, v2⟩ := box3_cells z
  have hml := hN.ml
  have HNL := Lib.hid hN.nl
  unfold maxLen at hml
  have hw : wrap64 ((V.nl : Int) - 1) = (V.nl : Int) - 1 := w64 (by omega)
  clear z hN
  go_enter Try.func24, Try.ntmps24
  go_wp2_with fail
  try rw [hw]
  refine (rin_any _ _ _ _).mono ?_
  rintro e w' ⟨rfl, rfl⟩
  go_wp2_with fail
  go_ret
  exact ⟨by rw [HNL.out]; rfl, HB.out⟩
end Go.Proofs.Yticmeeinjkoodaa

namespace Go.Proofs.Yticmeeinjkoodaa
open Go.RowKit

theorem loss_eq {l : Lp} {t : Th} {x : Int} (h : 0 ≤ t.lk * (x + t.fr)) : lossI l x t = min (x + gainI l t) ((t.lk * (x + t.fr)).tdiv 1000) := by
  unfold lossI
  rw [Int.tdiv_eq_ediv_of_nonneg h]
  omega
set_option maxRecDepth 100000 in
set_option maxHeartbeats 4000000 in
theorem rloss_any {l : Lp} (K : LpOk l) {t : Th} (Kt : ThOk t) {x : Int} (hx : 0 ≤ x ∧ x ≤ 100000) (w : World) :
    Calls Try.prog 69 #[lpV l, .int .i64 x, thV t] w fun e w' => e = .returned (.int .i64 (lossI l x t)) ∧ Below w.heap.size w w' := by
  obtain ⟨z0, z1, hb⟩ := two_new w (.cells (lpC l) 49) (.cells (thC t) 54)
  have HB0 := Lib.hid hb
  obtain ⟨w2, hw2⟩ : ∃ z, (w.alloc (.cells (lpC l) 49)).alloc (.cells (thC t) 54) = z := ⟨_, rfl⟩
  rw [hw2] at z0 z1 hb
  obtain ⟨_, _, _, ⟨c6, c7, c8, c9⟩, _⟩ := lp_cells z0
  obtain ⟨t0, t1, t2⟩ := th_cells z1
  have hg := gain_in K t
  have hls := loss_in K Kt hx
  have hfr := Kt.fr
  have hm := mul_in Kt.lk (y := x + t.fr) (b := 101000) (by omega)
  have HE := Lib.hid (loss_eq (l := l) hm.1)
  have w1 : wrap64 (x + t.fr) = x + t.fr := w64 (by omega)
  have w3 : wrap64 (t.lk * (x + t.fr)) = t.lk * (x + t.fr) := w64 (by omega)
  have W4 : Hid (wrap64 ((t.lk * (x + t.fr)).tdiv 1000) = t.lk * (x + t.fr) / 1000) := Lib.hid (by rw [Int.tdiv_eq_ediv_of_nonneg hm.1]; exact w64 (by omega))
  have HM := Lib.hid hm; have HG := Lib.hid hg; have HFR := Lib.hid hfr
  have hfe := K.fe
  obtain ⟨lk, fr, fed⟩ := t
  simp only at t0 t1 t2 w1 w3 hfr
  clear hb hw2 z0 z1 K Kt hls hm hg HE
  cases fed
  all_goals
    go_enter Try.func69, Try.ntmps69
    go_wp2_with fail
    all_goals
      have e4 := W4.out
      try simp only at e4
      have hm := HM.out
      try simp only at hm
      refine bodyPost_ret (results_tmp rfl _ _ _) rfl ⟨?_, HB0.out⟩
      refine congrArg (fun z => Ending.returned (.int .i64 z)) ?_
      simp only [lossI, gainI, if_true, Bool.false_eq_true, if_false]
      omega
end Go.Proofs.Yticmeeinjkoodaa

namespace Go.Proofs.Yticmeeinjkoodaa
open Go.RowKit

theorem ntB_lo {N : Nt} (h : N.lo.all lpB = false) : ntB N = false := by unfold ntB; rw [h]; simp
theorem ntB_fr {N : Nt} (h : N.fr.all frB = false) : ntB N = false := by unfold ntB; rw [h]; simp
theorem ntB_wa {N : Nt} {i : Nat} {r : List Int} (hr : N.wa[i]? = some r) (h : wrowB ((N.lo.length + 1 : Nat) : Int) i r = false) : ntB N = false := by
  have h2 := waysB_no hr h
  unfold ntB
  rw [show ((N.lo.length : Int) + 1) = ((N.lo.length + 1 : Nat) : Int) by omega, h2]
  simp
set_option maxRecDepth 100000 in
set_option maxHeartbeats 4000000 in
theorem rnet_any (V : NV) (N : Nt) (w : World) (hN : NtAt w w.heap.size V N) (h1000 : V.nl ≤ 1000) :
    Calls Try.prog 21 #[nvV V] w fun e w' => e = .returned (.bool (ntB N)) ∧ Below w.heap.size w w' := by
  have z := heap_alloc_new w (.cells (nvC V) 26)
  have hb := (Below.refl w.heap.size w).alloc (Nat.le_refl _) (.cells (nvC V) 26)
  obtain ⟨w1, hw1⟩ : ∃ z, w.alloc (.cells (nvC V) 26) = z := ⟨_, rfl⟩
  rw [hw1] at z hb
  have HW := Lib.hid hw1
  have HN := Lib.hid (hN.up hb)
  obtain ⟨al, nl, cl, af, nf, cf, aw, nw, cw⟩ := V
  obtain ⟨v0, v1, v2⟩ := box3_cells z
  have hml := hN.ml; have hmf := hN.mf; have hmw := hN.mw
  unfold maxLen at hml hmf hmw
  simp only at hml hmf hmw v0 v1 v2 h1000
  have HB := Lib.hid hb; have Z := Lib.hid z
  have HNL := Lib.hid hN.nl; have HNF := Lib.hid hN.nf; have HNW := Lib.hid hN.nw
  clear z hb hw1 hN
  have LZ := Lib.hid (heapsz Z.out)
  have HV := Lib.hid (And.intro v0 (And.intro v1 v2))
  clear v0 v1 v2
  go_enter Try.func21, Try.ntmps21
  go_wp2_with fail
  rw [show w.alloc (.cells #[.slice al nl cl, .slice af nf cf, .slice aw nw cw] 26) = w1 from HW.out]
  go_loopw [3] (fun i wr => ∃ k : Nat, k ≤ nl ∧ i = .int .i64 k ∧ (∀ j x, j < k → N.lo[j]? = some x → lpB x = true) ∧ Below w1.heap.size w1 wr) (fun i _ => nl - (intOf i).toNat)
  case atStart => exact ⟨0, Nat.zero_le _, rfl, fun j _ hj => absurd hj (Nat.not_lt_zero _), Below.refl _ _⟩
  case round =>
    obtain ⟨k, hk, rfl, hall, hbr⟩ := hrel
    have HAL := Lib.hid hall; have HBR := Lib.hid hbr
    have v0 := ((bcell hbr).1 _ _ LZ.out).trans HV.out.1
    clear hall hbr
    by_cases hlt : k < nl
    · have k0 : (0 : Int) ≤ (k : Int) := by omega
      have k1 : (k : Int) < (nl : Int) := by omega
      obtain ⟨x, hx⟩ := get_of_lt (l := N.lo) (k := k) (by rw [HNL.out]; exact hlt)
      obtain ⟨b, o, rfl, hbb, ⟨c0, c1⟩, ⟨c2, c3⟩, ⟨c4, c5⟩, ⟨c6, c7, c8, c9⟩, c10, c11⟩ := lp_el (HN.out.lo.up HBR.out) hx
      have HX := Lib.hid hx
      clear hx hbb
      go_wp2_with fail
      refine (rloop_any x _).mono ?_
      rintro e w' ⟨rfl, hb9⟩
      have HB9 := Lib.hid (HBR.out.trans (hb9.mono HBR.out.size))
      clear hb9
      cases hin : lpB x
      · go_wp2_with fail
        go_ret
        exact ⟨by rw [ntB_lo (allB_no HX.out hin)]; rfl, HB.out.trans (HB9.out.mono HB.out.size)⟩
      · go_wp2_with fail
        refine ⟨⟨k + 1, by omega, rfl, fun j z hj hz => ?_, HB9.out⟩, by simp [intOf]; omega⟩
        by_cases hjq : j < k
        · exact HAL.out j z hjq hz
        · obtain rfl : j = k := by omega
          have hyz := HX.out
          rw [hz] at hyz
          injection hyz with hyz
          rw [hyz]
          exact hin
    · obtain rfl : nl = k := by omega
      have k1 : ¬ (nl : Int) < (nl : Int) := by omega
      have HLO : Hid (N.lo.all lpB = true) := Lib.hid (allB_yes fun j x hx => HAL.out j x (by have := HNL.out; have := (List.getElem?_eq_some_iff.1 hx).1; omega) hx)
      have HB1 := HBR
      clear HAL HBR hlt hk
      go_wp2_with fail
      clear v0
      go_loopw [4] (fun i wq => ∃ k : Nat, k ≤ nf ∧ i = .int .i64 k ∧ (∀ j x, j < k → N.fr[j]? = some x → frB x = true) ∧ Below w1.heap.size w1 wq) (fun i _ => nf - (intOf i).toNat)
      case atStart => exact ⟨0, Nat.zero_le _, rfl, fun j _ hj => absurd hj (Nat.not_lt_zero _), HB1.out⟩
      case round =>
        obtain ⟨k, hk, rfl, hall, hbr⟩ := hrel
        have HAL := Lib.hid hall; have HBR := Lib.hid hbr
        have v1 := ((bcell hbr).1 _ _ LZ.out).trans HV.out.2.1
        clear hall hbr
        by_cases hlt : k < nf
        · have k0 : (0 : Int) ≤ (k : Int) := by omega
          have k1 : (k : Int) < (nf : Int) := by omega
          obtain ⟨x, hx⟩ := get_of_lt (l := N.fr) (k := k) (by rw [HNF.out]; exact hlt)
          obtain ⟨b, o, rfl, hbb, c0, c1⟩ := pr_el (HN.out.fr.up HBR.out) hx
          have HX := Lib.hid hx
          clear hx hbb
          go_wp2_with fail
          refine (rspan_any x.1 x.2 0 1000 _).mono ?_
          rintro e w' ⟨rfl, hb9⟩
          have HB9 := Lib.hid (HBR.out.trans (hb9.mono HBR.out.size))
          clear hb9
          cases hin : withinB 0 x.1 x.2 1000
          · go_wp2_with fail
            go_ret
            exact ⟨by rw [ntB_fr (allB_no (p := frB) HX.out hin)]; rfl, HB.out.trans (HB9.out.mono HB.out.size)⟩
          · go_wp2_with fail
            refine ⟨⟨k + 1, by omega, rfl, fun j z hj hz => ?_, HB9.out⟩, by simp [intOf]; omega⟩
            by_cases hjq : j < k
            · exact HAL.out j z hjq hz
            · obtain rfl : j = k := by omega
              have hyz := HX.out
              rw [hz] at hyz
              injection hyz with hyz
              rw [hyz]
              exact hin
        · obtain rfl : nf = k := by omega
          have k1 : ¬ (nf : Int) < (nf : Int) := by omega
          have HFR : Hid (N.fr.all frB = true) := Lib.hid (allB_yes fun j x hx => HAL.out j x (by have := HNF.out; have := (List.getElem?_eq_some_iff.1 hx).1; omega) hx)
          have HB2 := HBR
          clear HAL HBR hlt hk
          go_wp2_with fail
          clear v1
          have hw : wrap64 ((nl : Int) + 1) = (nl : Int) + 1 := w64 (by omega)
          go_loopw [5] (fun i wq => ∃ k : Nat, k ≤ nw ∧ i = .int .i64 k ∧ (∀ j r, j < k → N.wa[j]? = some r → wrowB ((N.lo.length + 1 : Nat) : Int) j r = true) ∧ Below w1.heap.size w1 wq) (fun i _ => nw - (intOf i).toNat)
          case atStart => exact ⟨0, Nat.zero_le _, rfl, fun j _ hj => absurd hj (Nat.not_lt_zero _), HB2.out⟩
          case round =>
            obtain ⟨k, hk, rfl, hall, hbr⟩ := hrel
            have HAL := Lib.hid hall; have HBR := Lib.hid hbr
            have v0 := ((bcell hbr).1 _ _ LZ.out).trans HV.out.1
            have v2 := ((bcell hbr).1 _ _ LZ.out).trans HV.out.2.2
            clear hall hbr
            by_cases hlt : k < nw
            · have k0 : (0 : Int) ≤ (k : Int) := by omega
              have k1 : (k : Int) < (nw : Int) := by omega
              obtain ⟨r, hr⟩ := get_of_lt (l := N.wa) (k := k) (by rw [HNW.out]; exact hlt)
              obtain ⟨b, o, A', p, c', rfl, hbb, hp, c0, hrow, hpm⟩ := grid_row (HN.out.wa.up HBR.out) hr
              unfold maxLen at hpm
              have HR := Lib.hid hr; have HRW := Lib.hid hrow; have HP := Lib.hid hp
              clear hr hrow hp hbb
              by_cases hpn : (p : Int) = (nl : Int) + 1
              rotate_left
              · go_wp2_with fail
                go_quiet (fail)
                go_wp2_with fail
                go_ret
                exact ⟨by rw [ntB_wa HR.out (wrow_len (by have := HP.out; have := HNL.out; omega))]; rfl, HB.out.trans ((belN HBR.out _).mono HB.out.size)⟩
              go_wp2_with fail
              go_quiet (fail)
              go_wp2_with fail
              have HBD := Lib.hid (belN HBR.out nq)
              obtain ⟨W, hW⟩ : ∃ z, wr.drewN nq = z := ⟨_, rfl⟩
              have d0 : W.cell? ⟨w.heap.size, 0, none⟩ = some (.slice al nl cl) := by rw [← hW]; exact v0
              have d2 : W.cell? ⟨w.heap.size, 2, none⟩ = some (.slice (some ⟨b, o, none⟩) nw cw) := by rw [← hW]; exact v2
              have dc : W.cell? ⟨b, o + k, none⟩ = some (.slice A' p c') := by rw [← hW]; exact c0
              have HRD : Hid (RowAt 1 intR W W.heap.size A' r) := Lib.hid (by rw [← hW]; exact HRW.out)
              rw [hW] at HBD ⊢
              clear v0 v2 c0 hW
              go_loopw [6] (fun i wq => ∃ q : Nat, q ≤ p ∧ i = .int .i64 q ∧ wq = W ∧ ∀ j y, j < q → r[j]? = some y → inB 0 y 72 = true ∧ (j = k → y = 0)) (fun i _ => p - (intOf i).toNat)
              case atStart => exact ⟨0, Nat.zero_le _, rfl, rfl, fun j _ hj => absurd hj (Nat.not_lt_zero _)⟩
              case round =>
                obtain ⟨q, hq, rfl, rfl, hal2⟩ := hrel
                have HAL2 := Lib.hid hal2
                clear hal2
                by_cases hlt2 : q < p
                · have k4 : (q : Int) < (p : Int) := by omega
                  have k5 : (0 : Int) ≤ (q : Int) := by omega
                  obtain ⟨y, hy⟩ := get_of_lt (l := r) (k := q) (by have := HP.out; omega)
                  obtain ⟨b2, o2, hbo, hb2, c2⟩ := ints_el HRD.out hy
                  have HY := Lib.hid hy
                  subst hbo
                  clear hy hb2
                  have hrowno : ∀ (hn : ¬ (inB 0 y 72 = true ∧ (q = k → y = 0))), wrowB ((N.lo.length + 1 : Nat) : Int) k r = false := fun hn => by
                    by_cases hin : inB 0 y 72 = true
                    · have hqk : q = k ∧ ¬ y = 0 := by
                        by_cases e : q = k
                        · exact ⟨e, fun hz => hn ⟨hin, fun _ => hz⟩⟩
                        · exact absurd ⟨hin, fun e' => absurd e' e⟩ hn
                      obtain ⟨rfl, hyz⟩ := hqk
                      exact wrow_zero HY.out hyz
                    · exact wrow_in HY.out (by simpa using hin)
                  have HNO := Lib.hid hrowno
                  clear hrowno
                  go_wp2_with fail
                  refine (rin_any y 0 72 _).mono ?_
                  rintro e w' ⟨rfl, rfl⟩
                  cases hin : inB 0 y 72
                  · go_wp2_with fail
                    go_ret
                    exact ⟨by rw [ntB_wa HR.out (HNO.out (by simp [hin]))]; rfl, HB.out.trans (HBD.out.mono HB.out.size)⟩
                  · by_cases hkq : (k : Int) = (q : Int)
                    · obtain rfl : k = q := by omega
                      clear hkq
                      by_cases hy0 : y = 0
                      · go_wp2_with fail
                        refine ⟨⟨k + 1, by omega, rfl, by first | rfl | trivial, fun j z hj hz => ?_⟩, by simp [intOf]; omega⟩
                        by_cases hjq : j < k
                        · exact HAL2.out j z hjq hz
                        · obtain rfl : j = k := by omega
                          have hyz := HY.out
                          rw [hz] at hyz
                          injection hyz with hyz
                          rw [hyz]
                          exact ⟨hin, fun _ => hy0⟩
                      · go_wp2_with fail
                        go_ret
                        exact ⟨by rw [ntB_wa HR.out (HNO.out (fun h => hy0 (h.2 (by first | rfl | trivial))))]; rfl, HB.out.trans (HBD.out.mono HB.out.size)⟩
                    · go_wp2_with fail
                      refine ⟨⟨q + 1, by omega, rfl, by first | rfl | trivial, fun j z hj hz => ?_⟩, by simp [intOf]; omega⟩
                      by_cases hjq : j < q
                      · exact HAL2.out j z hjq hz
                      · obtain rfl : j = q := by omega
                        have hyz := HY.out
                        rw [hz] at hyz
                        injection hyz with hyz
                        rw [hyz]
                        exact ⟨hin, fun e => absurd e (by omega)⟩
                · obtain rfl : p = q := by omega
                  have k4 : ¬ (p : Int) < (p : Int) := by omega
                  go_wp2_with fail
                  refine ⟨⟨k + 1, by omega, rfl, fun j z hj hz => ?_, HBD.out⟩, by simp [intOf]; omega⟩
                  by_cases hjq : j < k
                  · exact HAL.out j z hjq hz
                  · obtain rfl : j = k := by omega
                    have hrz := HR.out
                    rw [hz] at hrz
                    injection hrz with hrz
                    subst hrz
                    unfold wrowB
                    simp only [Bool.and_eq_true, decide_eq_true_eq, List.all_eq_true]
                    refine ⟨by have := HP.out; have := HNL.out; omega, ?_, fun y hy => ?_⟩
                    · rw [List.getD_eq_getElem?_getD]
                      cases hx : z[j]? with
                      | none => rfl
                      | some x => exact (HAL2.out j x (by have := HP.out; have := (List.getElem?_eq_some_iff.1 hx).1; omega) hx).2 rfl
                    · obtain ⟨i, hi⟩ := List.getElem?_of_mem hy
                      exact (HAL2.out i y (by have := HP.out; have := (List.getElem?_eq_some_iff.1 hi).1; omega) hi).1
            · obtain rfl : nw = k := by omega
              have k1 : ¬ (nw : Int) < (nw : Int) := by omega
              have v1 := ((bcell HBR.out).1 _ _ LZ.out).trans HV.out.2.1
              go_wp2_with fail
              refine (rin_any _ _ _ _).mono ?_
              rintro e w' ⟨rfl, rfl⟩
              have HBF := Lib.hid (HB.out.trans (HBR.out.mono HB.out.size))
              have HNT : Hid (ntB N = (inB 1 nl 5 && (inB 1 nf 72 && decide (nw = nl + 1)))) := Lib.hid (by
                unfold ntB
                rw [HLO.out, HFR.out, HNL.out, HNF.out]
                have e : waysB N.wa ((nl : Int) + 1) = decide (nw = nl + 1) := by
                  rw [show ((nl : Int) + 1) = ((nl + 1 : Nat) : Int) by omega]
                  by_cases h : nw = nl + 1
                  · rw [decide_eq_true h]
                    exact waysB_yes (by rw [HNW.out]; exact h) fun j r hr => by have h2 := HAL.out j r (by have := HNW.out; have := (List.getElem?_eq_some_iff.1 hr).1; omega) hr; rw [HNL.out] at h2; exact h2
                  · rw [decide_eq_false h]
                    exact waysB_len (by rw [HNW.out]; exact h)
                rw [e]
                simp)
              cases h1 : inB 1 nl 5
              · go_wp2_with fail
                go_ret
                exact ⟨by rw [HNT.out, h1]; rfl, HBF.out⟩
              go_wp2_with fail
              refine (rin_any _ _ _ _).mono ?_
              rintro e w' ⟨rfl, rfl⟩
              cases h2 : inB 1 nf 72
              · go_wp2_with fail
                go_ret
                exact ⟨by rw [HNT.out, h1, h2]; rfl, HBF.out⟩
              by_cases h3 : (nw : Int) = (nl : Int) + 1
              · go_wp2_with fail
                go_ret
                exact ⟨by rw [HNT.out, h1, h2, decide_eq_true (show nw = nl + 1 by omega)]; rfl, HBF.out⟩
              · have h4 : ((nw : Int) == (nl : Int) + 1) = false := beq_eq_false_iff_ne.2 h3
                go_wp2_with fail
                go_ret
                exact ⟨by rw [HNT.out, h1, h2, decide_eq_false (show ¬ nw = nl + 1 by omega)]; simp [], HBF.out⟩
end Go.Proofs.Yticmeeinjkoodaa
