/- Pipes: the law PipePlays. -/
import Derived.Test.YticmeeinjkoodaaQB
namespace Go.Proofs.Yticmeeinjkoodaa
open Go.RowKit Go.Shelf

theorem eq43z : (∀ w, (Op.equalIn 10000 43 (.agg #[.int .i64 0, .int .i64 0, .int .i64 0, .int .i64 0]) (.agg #[.int .i64 0, .int .i64 0, .int .i64 0, .int .i64 0])).run Try.prog w = .ok true w) ∧ Try.prog.eqGuardType Try.prog.depth 43 = false := ⟨fun w => by rw [eq43]; simp, by kernel_rfl⟩
theorem eq43s (S : Ht) : (∀ w, (Op.equalIn 10000 43 (.agg #[.int .i64 S.w, .int .i64 S.b, .int .i64 S.g, .int .i64 S.s]) (.agg #[.int .i64 S.w, .int .i64 S.b, .int .i64 S.g, .int .i64 S.s])).run Try.prog w = .ok true w) ∧ Try.prog.eqGuardType Try.prog.depth 43 = false := ⟨fun w => by rw [eq43]; simp, by kernel_rfl⟩
theorem ths_ok {N : Nt} (K : NtOk N) {l : Lp} (hl : l ∈ N.lo) {ts : List Th} (h : thsB l N.fr ts = true) (hn : ts.length ≤ N.fr.length) : ∀ t ∈ ts, ThOk t := fun t ht => by
  obtain ⟨k, hk⟩ := List.getElem?_of_mem ht
  have h1 := thsB_iff.1 h k t hk
  have hkn := (List.getElem?_eq_some_iff.1 hk).1
  obtain ⟨f, hf⟩ := get_of_lt (l := N.fr) (k := k) (by omega)
  unfold thOkB at h1
  rw [List.getD_eq_getElem?_getD, hf, Bool.and_eq_true, inB_iff, inB_iff] at h1
  simp only [Option.getD_some] at h1
  have h2 := (K.lo l hl).l
  have h3 := K.fr f (List.mem_of_getElem? hf)
  exact ⟨by omega, by omega⟩
set_option maxRecDepth 100000 in
set_option maxHeartbeats 8000000 in
theorem plays_law (V : NV) (N : Nt) (loop warm : Int) (A : Option Addr) (n c : Nat) (ts : List Th) (w : World) (hN : NtAt w w.heap.size V N) (hl : ts.length = n) (hn : n ≤ maxLen) (hA : ThsAt w w.heap.size A ts) :
    Calls Try.prog 4 #[nvV V, .int .i64 loop, .int .i64 warm, .slice A n c] w fun e w' => e = .returned (.bool true) ∧ Below w.heap.size w w' := by
  have HA := Lib.hid (RowAt.up hA ((Below.refl w.heap.size w).alloc (Nat.le_refl _) (.cells (nvC V) 26))); have HLT := Lib.hid hl; have HNN := Lib.hid hn
  have z := heap_alloc_new w (.cells (nvC V) 26)
  have hb := (Below.refl w.heap.size w).alloc (Nat.le_refl _) (.cells (nvC V) 26)
  obtain ⟨w1, hw1⟩ : ∃ z, w.alloc (.cells (nvC V) 26) = z := ⟨_, rfl⟩
  rw [hw1] at z hb
  have HW := Lib.hid hw1
  have HN := Lib.hid (hN.up hb)
  obtain ⟨al, nl, cl, af, nf, cf, aw, nw, cw⟩ := V
  obtain ⟨v0, v1, v2⟩ := box3_cells z
  have hml := hN.ml; have hmf := hN.mf; have hmw := hN.mw
  unfold maxLen at hml hmf hmw
  simp only at hml hmf hmw v0 v1 v2
  have HB := Lib.hid hb; have Z := Lib.hid z
  have HNL := Lib.hid hN.nl; have HNF := Lib.hid hN.nf; have HNW := Lib.hid hN.nw
  clear z hb hw1 hN
  unfold maxLen at hn
  clear hA hl
  rw [show w.alloc (.cells (nvC ⟨al, nl, cl, af, nf, cf, aw, nw, cw⟩) 26) = w1 from HW.out] at HA
  go_enter Try.func4, Try.ntmps4
  go_wp2_with fail
  rw [show w.alloc (.cells #[.slice al nl cl, .slice af nf cf, .slice aw nw cw] 26) = w1 from HW.out]
  refine (short_any _ N _ HN.out).mono ?_
  rintro e w2 ⟨rfl, hb2⟩
  have HZ2 := Lib.hid ((hb2.block _ (heapsz Z.out)).trans Z.out)
  replace v0 := ((bcell hb2).1 _ _ (heapsz Z.out)).trans v0
  replace v1 := ((bcell hb2).1 _ _ (heapsz Z.out)).trans v1
  replace v2 := ((bcell hb2).1 _ _ (heapsz Z.out)).trans v2
  have HB2 := Lib.hid (HB.out.trans (hb2.mono HB.out.size))
  have HN2 := Lib.hid (HN.out.up hb2)
  have HA2 := Lib.hid (RowAt.up HA.out hb2)
  clear hb2
  cases hsh : shortB N
  · clear v0 v1 v2 hsh
    go_wp2_with fail
    refine (known_any _).mono ?_
    rintro e wk ⟨rfl, hbk⟩
    have HBK := Lib.hid (HB2.out.trans (hbk.mono HB2.out.size))
    clear hbk
    go_wp2_with fail
    go_ret
    exact ⟨rfl, HBK.out⟩
  have h8 : nl ≤ 8 := by
    unfold shortB at hsh
    simp only [Bool.and_eq_true, decide_eq_true_eq] at hsh
    have := hsh.2.1
    have h1 := HNL.out
    try simp only at h1
    omega
  clear hsh
  by_cases h82 : 82 < (n : Int)
  · clear v0 v1 v2
    go_wp2_with fail
    refine (known_any _).mono ?_
    rintro e wk ⟨rfl, hbk⟩
    have HBK := Lib.hid (HB2.out.trans (hbk.mono HB2.out.size))
    clear hbk
    go_wp2_with fail
    go_ret
    exact ⟨rfl, HBK.out⟩
  have HPY := Lib.hid (Play_any ⟨al, nl, cl, af, nf, cf, aw, nw, cw⟩ N loop warm A n c ts w2 HN2.out HLT.out HNN.out HA2.out)
  obtain ⟨X, hX⟩ : ∃ z, plaI N loop warm ts = z := ⟨_, rfl⟩
  obtain ⟨E, hE⟩ : ∃ z, truthI N loop warm ts = z := ⟨_, rfl⟩
  rw [hX, hE] at HPY
  have HX := Lib.hid hX; have HE := Lib.hid hE
  clear hX hE
  go_wp2_with fail
  refine HPY.out.mono ?_
  rintro e w3 ⟨rfl, hb3⟩
  have zx := heap_alloc_new w3 (.cells (htC X) 43)
  have hbx := (Below.refl w3.heap.size w3).alloc (Nat.le_refl _) (.cells (htC X) 43)
  obtain ⟨w4, hw4⟩ : ∃ z, w3.alloc (.cells (htC X) 43) = z := ⟨_, rfl⟩
  rw [hw4] at zx hbx
  have hb4 := hb3.trans (hbx.mono hb3.size)
  have HW4 := Lib.hid hw4
  have ZX := Lib.hid zx
  have HZ4 := Lib.hid ((hb4.block _ (heapsz HZ2.out)).trans HZ2.out)
  have HB4 := Lib.hid (HB2.out.trans (hb4.mono HB2.out.size))
  have HN4 := Lib.hid (HN2.out.up hb4)
  have HA4 := Lib.hid (RowAt.up HA2.out hb4)
  clear v0 v1 v2 zx hbx hw4 hb4 hb3 HPY
  obtain ⟨v0, v1, v2⟩ := box3_cells HZ4.out
  obtain ⟨⟨g0, g1, g2, g3⟩, _⟩ := box4 ZX.out
  rw [← HW4.out] at v0 v1 v2 g0 g1 g2 g3
  by_cases hlong : (nf : Int) < (n : Int)
  · -- too long
    have hE3 : E = 3 := by rw [← HE.out]; unfold truthI; rw [if_pos (by have h1 := HNF.out; have h2 := HLT.out; first | omega | (simp only at h1; omega))]
    have hX0 : X = z4 := by rw [← HX.out]; unfold plaI; rw [HE.out, hE3]; rfl
    subst hE3 hX0
    simp only [z4, htC] at g0 g1 g2 g3
    have hq := eq43z.1; have hgg := eq43z.2
    clear v0 v2
    go_wp2_with fail
    rw [show w3.alloc (.cells #[.int .i64 0, .int .i64 0, .int .i64 0, .int .i64 0] 43) = w4 from HW4.out]
    refine (known_any _).mono ?_
    rintro e wk ⟨rfl, hbk⟩
    have HBK := Lib.hid (HB4.out.trans (hbk.mono HB4.out.size))
    clear hbk
    go_wp2_with fail
    go_ret
    exact ⟨rfl, HBK.out⟩
  have HTI : Hid (E = if loopB N loop && (inB (N.at loop).wl warm (N.at loop).wh && thsB (N.at loop) N.fr ts) then 0 else 2) := Lib.hid (by rw [← HE.out]; unfold truthI; rw [if_neg (by have h1 := HNF.out; have h2 := HLT.out; first | omega | (simp only at h1; omega))])
  have HXZ : Hid (E ≠ 0 → X = z4) := Lib.hid fun h => by rw [← HX.out]; unfold plaI; rw [HE.out, if_neg h]
  go_wp2_with fail
  rw [HW4.out]
  refine (rnet_any _ N _ HN4.out (by simp only; omega)).mono ?_
  rintro e w5 ⟨rfl, hb5⟩
  have HZ5 := Lib.hid ((hb5.block _ (heapsz HZ4.out)).trans HZ4.out)
  have ZX5 := Lib.hid ((hb5.block _ (heapsz ZX.out)).trans ZX.out)
  have HB5 := Lib.hid (HB4.out.trans (hb5.mono HB4.out.size))
  have HN5 := Lib.hid (HN4.out.up hb5)
  have HA5 := Lib.hid (RowAt.up HA4.out hb5)
  clear v0 v1 v2 g0 g1 g2 g3 hb5
  obtain ⟨v0, v1, v2⟩ := box3_cells HZ5.out
  obtain ⟨⟨g0, g1, g2, g3⟩, _⟩ := box4 ZX5.out
  cases hnt : ntB N
  · have hE2 : E = 2 := by rw [HTI.out]; unfold loopB; rw [hnt]; rfl
    have hX0 : X = z4 := HXZ.out (by omega)
    subst hE2 hX0
    simp only [z4] at g0 g1 g2 g3
    have hq := eq43z.1; have hgg := eq43z.2
    clear v0 v1 v2 hnt
    go_wp2_with fail
    refine (known_any _).mono ?_
    rintro e wk ⟨rfl, hbk⟩
    have HBK := Lib.hid (HB5.out.trans (hbk.mono HB5.out.size))
    clear hbk
    go_wp2_with fail
    go_ret
    exact ⟨rfl, HBK.out⟩
  have HOK := Lib.hid (ntB_iff.1 hnt)
  have HNT := Lib.hid hnt
  clear hnt
  go_wp2_with fail
  refine (risLoop_any _ N loop _ HN5.out).mono ?_
  rintro e w6 ⟨rfl, hb6⟩
  have HZ6 := Lib.hid ((hb6.block _ (heapsz HZ5.out)).trans HZ5.out)
  have ZX6 := Lib.hid ((hb6.block _ (heapsz ZX5.out)).trans ZX5.out)
  have HB6 := Lib.hid (HB5.out.trans (hb6.mono HB5.out.size))
  have HN6 := Lib.hid (HN5.out.up hb6)
  have HA6 := Lib.hid (RowAt.up HA5.out hb6)
  clear v0 v1 v2 g0 g1 g2 g3 hb6
  obtain ⟨v0, v1, v2⟩ := box3_cells HZ6.out
  obtain ⟨⟨g0, g1, g2, g3⟩, _⟩ := box4 ZX6.out
  cases hil : inB 0 loop (N.lo.length - 1)
  · have hE2 : E = 2 := by rw [HTI.out]; unfold loopB; rw [HNT.out, hil]; rfl
    have hX0 : X = z4 := HXZ.out (by omega)
    subst hE2 hX0
    simp only [z4] at g0 g1 g2 g3
    have hq := eq43z.1; have hgg := eq43z.2
    clear v0 v1 v2 hil
    go_wp2_with fail
    refine (known_any _).mono ?_
    rintro e wk ⟨rfl, hbk⟩
    have HBK := Lib.hid (HB6.out.trans (hbk.mono HB6.out.size))
    clear hbk
    go_wp2_with fail
    go_ret
    exact ⟨rfl, HBK.out⟩
  have hlb : loopB N loop = true := by unfold loopB; rw [HNT.out, hil]; rfl
  obtain ⟨L, rfl, hL1, hL2⟩ := loopB_get hlb
  obtain ⟨l, hll⟩ : ∃ z, N.at (L : Int) = z := ⟨_, rfl⟩
  rw [hll] at hL2
  rw [hlb, hll] at HTI
  have HLA := Lib.hid hll
  have HL2 := Lib.hid hL2
  obtain ⟨b1, o1, hal1, hb1, ⟨c0, c1⟩, ⟨c2, c3⟩, ⟨c4, c5⟩, ⟨c6, c7, c8, c9⟩, c10, c11⟩ := lp_el HN6.out.lo hL2
  have hal2 : al = some ⟨b1, o1, none⟩ := hal1
  subst hal2
  have HB1 := Lib.hid hb1
  have hLn : L < nl := by have h1 := HNL.out; first | omega | (simp only at h1; omega)
  have L0 : (0 : Int) ≤ (L : Int) := by omega
  have L1 : (L : Int) < (nl : Int) := by omega
  clear hal1 hb1 hlb hll hil hL1 hL2 c2 c3 c4 c5 c6 c7 c8 c9 c10 c11
  by_cases hw1 : warm < l.wl
  · have hE2 : E = 2 := by rw [HTI.out, show inB l.wl warm l.wh = false from decide_eq_false (by omega)]; rfl
    have hX0 : X = z4 := HXZ.out (by omega)
    subst hE2 hX0
    simp only [z4] at g0 g1 g2 g3
    have hq := eq43z.1; have hgg := eq43z.2
    clear v1 v2 c1
    go_wp2_with fail
    refine (known_any _).mono ?_
    rintro e wk ⟨rfl, hbk⟩
    have HBK := Lib.hid (HB6.out.trans (hbk.mono HB6.out.size))
    clear hbk
    go_wp2_with fail
    go_ret
    exact ⟨rfl, HBK.out⟩
  by_cases hw2 : l.wh < warm
  · have hE2 : E = 2 := by rw [HTI.out, show inB l.wl warm l.wh = false from decide_eq_false (by omega)]; rfl
    have hX0 : X = z4 := HXZ.out (by omega)
    subst hE2 hX0
    simp only [z4] at g0 g1 g2 g3
    have hq := eq43z.1; have hgg := eq43z.2
    clear v1 v2
    go_wp2_with fail
    refine (known_any _).mono ?_
    rintro e wk ⟨rfl, hbk⟩
    have HBK := Lib.hid (HB6.out.trans (hbk.mono HB6.out.size))
    clear hbk
    go_wp2_with fail
    go_ret
    exact ⟨rfl, HBK.out⟩
  have HWI : Hid (inB l.wl warm l.wh = true) := Lib.hid (inB_iff.2 (by omega))
  have HWB : Hid (0 ≤ warm ∧ warm ≤ 1000) := Lib.hid (by have := (HOK.out.lo l (List.mem_of_getElem? HL2.out)).w; omega)
  have HRT := Lib.hid (rtruth_any _ N (c := c) w6 HN6.out HL2.out HLT.out (by have h1 := HNF.out; first | omega | (simp only at h1; omega)) HA6.out)
  have HN72 : Hid (ts.length ≤ N.fr.length ∧ n ≤ 72) := Lib.hid (by have h1 := HNF.out; have h2 := HLT.out; have h3 := HOK.out.h72; first | omega | (simp only at h1; omega))
  go_wp2_with fail
  refine HRT.out.mono ?_
  rintro e w7 ⟨rfl, hb7⟩
  have HZ7 := Lib.hid ((hb7.block _ (heapsz HZ6.out)).trans HZ6.out)
  have ZX7 := Lib.hid ((hb7.block _ (heapsz ZX6.out)).trans ZX6.out)
  have HB7 := Lib.hid (HB6.out.trans (hb7.mono HB6.out.size))
  have HN7 := Lib.hid (HN6.out.up hb7)
  have HA7 := Lib.hid (RowAt.up HA6.out hb7)
  clear v0 v1 v2 g0 g1 g2 g3 c0 c1 HRT hb7
  obtain ⟨v0, v1, v2⟩ := box3_cells HZ7.out
  obtain ⟨⟨g0, g1, g2, g3⟩, _⟩ := box4 ZX7.out
  cases hts : thsB l N.fr ts
  · have hE2 : E = 2 := by rw [HTI.out, HWI.out, hts]; rfl
    have hX0 : X = z4 := HXZ.out (by omega)
    subst hE2 hX0
    simp only [z4] at g0 g1 g2 g3
    have hq := eq43z.1; have hgg := eq43z.2
    clear v0 v1 v2 hts
    go_wp2_with fail
    refine (known_any _).mono ?_
    rintro e wk ⟨rfl, hbk⟩
    have HBK := Lib.hid (HB7.out.trans (hbk.mono HB7.out.size))
    clear hbk
    go_wp2_with fail
    go_ret
    exact ⟨rfl, HBK.out⟩
  have hE0 : E = 0 := by rw [HTI.out, HWI.out, hts]; rfl
  subst hE0
  have HTS := Lib.hid (ths_ok HOK.out (List.mem_of_getElem? HL2.out) hts HN72.out.1)
  have hXP : playI l warm ts = X := by rw [← HX.out]; unfold plaI; rw [HE.out, if_pos rfl, HLA.out]
  obtain ⟨b9, o9, hal9, hb9, ⟨c0, c1⟩, ⟨c2, c3⟩, ⟨c4, c5⟩, ⟨c6, c7, c8, c9⟩, c10, c11⟩ := lp_el HN7.out.lo HL2.out
  injection hal9 with hal9
  injection hal9 with hbe hoe
  subst hbe hoe
  have hq := fun u : KeptW w7 => (bcell u.h).1
  have k0 : ∀ u : KeptW w7, u.w.cell? ⟨b1, o1 + L * 12, none⟩ = some (.int .i64 l.wl) := fun u => (hq u _ _ hb9).trans c0
  have k1 : ∀ u : KeptW w7, u.w.cell? ⟨b1, o1 + L * 12 + 1, none⟩ = some (.int .i64 l.wh) := fun u => (hq u _ _ hb9).trans c1
  have k2 : ∀ u : KeptW w7, u.w.cell? ⟨b1, o1 + L * 12 + 2, none⟩ = some (.int .i64 l.ll) := fun u => (hq u _ _ hb9).trans c2
  have k3 : ∀ u : KeptW w7, u.w.cell? ⟨b1, o1 + L * 12 + 3, none⟩ = some (.int .i64 l.lh) := fun u => (hq u _ _ hb9).trans c3
  have k4 : ∀ u : KeptW w7, u.w.cell? ⟨b1, o1 + L * 12 + 4, none⟩ = some (.int .i64 l.rl) := fun u => (hq u _ _ hb9).trans c4
  have k5 : ∀ u : KeptW w7, u.w.cell? ⟨b1, o1 + L * 12 + 5, none⟩ = some (.int .i64 l.rh) := fun u => (hq u _ _ hb9).trans c5
  have k6 : ∀ u : KeptW w7, u.w.cell? ⟨b1, o1 + L * 12 + 6, none⟩ = some (.int .i64 l.co) := fun u => (hq u _ _ hb9).trans c6
  have k7 : ∀ u : KeptW w7, u.w.cell? ⟨b1, o1 + L * 12 + 7, none⟩ = some (.int .i64 l.ma) := fun u => (hq u _ _ hb9).trans c7
  have k8 : ∀ u : KeptW w7, u.w.cell? ⟨b1, o1 + L * 12 + 8, none⟩ = some (.int .i64 l.gr) := fun u => (hq u _ _ hb9).trans c8
  have k9 : ∀ u : KeptW w7, u.w.cell? ⟨b1, o1 + L * 12 + 9, none⟩ = some (.int .i64 l.fe) := fun u => (hq u _ _ hb9).trans c9
  have k10 : ∀ u : KeptW w7, u.w.cell? ⟨b1, o1 + L * 12 + 10, none⟩ = some (.int .i64 l.fl) := fun u => (hq u _ _ hb9).trans c10
  have k11 : ∀ u : KeptW w7, u.w.cell? ⟨b1, o1 + L * 12 + 11, none⟩ = some (.int .i64 l.fh) := fun u => (hq u _ _ hb9).trans c11
  have m0 : ∀ u : KeptW w7, u.w.cell? ⟨w.heap.size, 0, none⟩ = some (.slice (some ⟨b1, o1, none⟩) nl cl) := fun u => (hq u _ _ (heapsz HZ7.out)).trans v0
  have x0 : ∀ u : KeptW w7, u.w.cell? ⟨w3.heap.size, 0, none⟩ = some (.int .i64 X.w) := fun u => (hq u _ _ (heapsz ZX7.out)).trans g0
  have x1 : ∀ u : KeptW w7, u.w.cell? ⟨w3.heap.size, 1, none⟩ = some (.int .i64 X.b) := fun u => (hq u _ _ (heapsz ZX7.out)).trans g1
  have x2 : ∀ u : KeptW w7, u.w.cell? ⟨w3.heap.size, 2, none⟩ = some (.int .i64 X.g) := fun u => (hq u _ _ (heapsz ZX7.out)).trans g2
  have x3 : ∀ u : KeptW w7, u.w.cell? ⟨w3.heap.size, 3, none⟩ = some (.int .i64 X.s) := fun u => (hq u _ _ (heapsz ZX7.out)).trans g3
  have HPL := Lib.hid (fun u : KeptW w7 => Calls.in_kept u (rplay_any (HOK.out.lo l (List.mem_of_getElem? HL2.out)) HWB.out (c := c) u.w HLT.out HN72.out.2 HTS.out (HA7.out.next u.h u.h.size)))
  rw [hXP] at HPL
  have HKN := Lib.hid (fun u : KeptW w7 => Calls.in_kept u (known_any u.w))
  have heq : ∀ u : KeptW w7, (Op.equalIn 10000 43 (.agg #[.int .i64 X.w, .int .i64 X.b, .int .i64 X.g, .int .i64 X.s]) (.agg #[.int .i64 X.w, .int .i64 X.b, .int .i64 X.g, .int .i64 X.s])).run Try.prog u.w = .ok true u.w := fun u => (eq43s X).1 u.w
  have hgg := (eq43s X).2
  clear v0 v1 v2 g0 g1 g2 g3 c0 c1 c2 c3 c4 c5 c6 c7 c8 c9 c10 c11 hq hb9 hts hXP
  go_wp2_with fail
  refine rk_region (by kernel_rfl) (by kernel_rfl) ?_
  repeat (go_big_quiet_step (first | (with_reducible exact HPL.out _) | (with_reducible exact HKN.out _) | fail))
  refine wpQuiet_nil ?_
  rintro _ ⟨⟨wz, hbz⟩, rfl⟩
  have HBZ := Lib.hid (HB7.out.trans (hbz.mono HB7.out.size))
  clear hbz heq m0 x0 x1 x2 x3 k0 k1 k2 k3 k4 k5 k6 k7 k8 k9 k10 k11
  go_wp2_with fail
  go_ret
  exact ⟨rfl, HBZ.out⟩
end Go.Proofs.Yticmeeinjkoodaa
