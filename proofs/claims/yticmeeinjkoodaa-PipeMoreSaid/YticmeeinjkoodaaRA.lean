/- Pipes: places and faults, by the specification. -/
import Derived.Test.YticmeeinjkoodaaQF
namespace Go.Proofs.Yticmeeinjkoodaa
open Go.RowKit Go.Shelf

set_option maxRecDepth 100000 in
set_option maxHeartbeats 4000000 in
theorem rplace_any (V : NV) (N : Nt) (p : Int) (w : World) (hN : NtAt w w.heap.size V N) :
    Calls Try.prog 35 #[nvV V, .int .i64 p] w fun e w' => e = .returned (.bool (inB 0 p N.lo.length)) ∧ Below w.heap.size w w' := by
  have z := heap_alloc_new w (.cells (nvC V) 26)
  have hb := (Below.refl w.heap.size w).alloc (Nat.le_refl _) (.cells (nvC V) 26)
  obtain ⟨w1, hw1⟩ : ∃ z, w.alloc (.cells (nvC V) 26) = z := ⟨_, rfl⟩
  rw [hw1] at z hb
  have HW := Lib.hid hw1
  have HN := Lib.hid (hN.up hb)
  obtain ⟨al, nl, cl, af, nf, cf, aw, nw, cw⟩ := V
  obtain ⟨v0, v1, v2⟩ := box3_cells z
  have hml := hN.ml; have hmf := hN.mf; have hmw := hN.mw
  unfold maxLen at hml hmf hmw
  simp only at hml hmf hmw v0 v1 v2
  have HB := Lib.hid hb; have Z := Lib.hid z
  have HNL := Lib.hid hN.nl; have HNF := Lib.hid hN.nf; have HNW := Lib.hid hN.nw
  clear z hb hw1 hN
  go_enter Try.func35, Try.ntmps35
  go_wp2_with fail
  rw [show w.alloc (.cells #[.slice al nl cl, .slice af nf cf, .slice aw nw cw] 26) = w1 from HW.out]
  refine (rin_any _ _ _ _).mono ?_
  rintro e w' ⟨rfl, rfl⟩
  go_wp2_with fail
  go_ret
  exact ⟨by rw [HNL.out]; rfl, HB.out⟩
set_option maxRecDepth 100000 in
set_option maxHeartbeats 4000000 in
theorem rsets_any (V : NV) (N : Nt) (w : World) (hN : NtAt w w.heap.size V N) (h5 : N.lo.length ≤ 5) :
    Calls Try.prog 73 #[nvV V] w fun e w' => e = .returned (.int .i64 (2 ^ N.lo.length)) ∧ Below w.heap.size w w' := by
  have z := heap_alloc_new w (.cells (nvC V) 26)
  have hb := (Below.refl w.heap.size w).alloc (Nat.le_refl _) (.cells (nvC V) 26)
  obtain ⟨w1, hw1⟩ : ∃ z, w.alloc (.cells (nvC V) 26) = z := ⟨_, rfl⟩
  rw [hw1] at z hb
  have HW := Lib.hid hw1
  have HN := Lib.hid (hN.up hb)
  obtain ⟨al, nl, cl, af, nf, cf, aw, nw, cw⟩ := V
  obtain ⟨v0, v1, v2⟩ := box3_cells z
  have hml := hN.ml; have hmf := hN.mf; have hmw := hN.mw
  unfold maxLen at hml hmf hmw
  simp only at hml hmf hmw v0 v1 v2
  have HB := Lib.hid hb; have Z := Lib.hid z
  have HNL := Lib.hid hN.nl; have HNF := Lib.hid hN.nf; have HNW := Lib.hid hN.nw
  clear z hb hw1 hN
  have hn5 : nl ≤ 5 := by have h1 := HNL.out; first | omega | (simp only at h1; omega)
  go_enter Try.func73, Try.ntmps73
  go_wp2_with fail
  rw [show w.alloc (.cells #[.slice al nl cl, .slice af nf cf, .slice aw nw cw] 26) = w1 from HW.out]
  go_loopw [3, 4] (fun oo ii wr => ∃ k : Nat, k ≤ nl ∧ oo = .int .i64 (2 ^ k) ∧ ii = .int .i64 k ∧ w1 = wr) (fun _ ii _ => nl - (intOf ii).toNat)
  case atStart => exact ⟨0, by omega, rfl, rfl, rfl⟩
  case round =>
    obtain ⟨k, hk, rfl, rfl, rfl⟩ := hrel
    by_cases hlt : k < nl
    · have k3 : (k : Int) < (nl : Int) := by omega
      have hle : (2 : Int) ^ k ≤ 2 ^ 5 := by
        obtain h | h | h | h | h : k = 0 ∨ k = 1 ∨ k = 2 ∨ k = 3 ∨ k = 4 := by omega
        all_goals subst h; decide
      have hge : (0 : Int) ≤ (2 : Int) ^ k := by
        obtain h | h | h | h | h : k = 0 ∨ k = 1 ∨ k = 2 ∨ k = 3 ∨ k = 4 := by omega
        all_goals subst h; decide
      have hw : wrap64 (2 * (2 : Int) ^ k) = 2 ^ (k + 1) := by rw [Int.pow_succ, Int.mul_comm]; exact w64 (by omega)
      obtain ⟨y, hy⟩ : ∃ y, (2 : Int) ^ (k + 1) = y := ⟨_, rfl⟩
      obtain ⟨x, hx⟩ : ∃ y, (2 : Int) ^ k = y := ⟨_, rfl⟩
      rw [hx, hy] at hw
      rw [hx] at hge hle ⊢
      have HY := Lib.hid hy
      clear hx hy hge hle
      go_wp2_with fail
      exact ⟨⟨k + 1, by omega, (by first | rfl | (rw [hw, HY.out])), (by first | rfl | trivial), (by first | rfl | trivial)⟩, by simp [intOf]; omega⟩
    · obtain rfl : nl = k := by omega
      have k4 : ¬ (nl : Int) < (nl : Int) := by omega
      go_wp2_with fail
      go_ret
      exact ⟨by rw [HNL.out]; rfl, HB.out⟩
set_option maxRecDepth 100000 in
set_option maxHeartbeats 4000000 in
theorem rfault_any (V : NV) (N : Nt) (f : Int) (w : World) (hN : NtAt w w.heap.size V N) (h5 : N.lo.length ≤ 5) :
    Calls Try.prog 36 #[nvV V, .int .i64 f] w fun e w' => e = .returned (.bool (faultB N.lo.length f)) ∧ Below w.heap.size w w' := by
  have H5 := Lib.hid h5
  have z := heap_alloc_new w (.cells (nvC V) 26)
  have hb := (Below.refl w.heap.size w).alloc (Nat.le_refl _) (.cells (nvC V) 26)
  obtain ⟨w1, hw1⟩ : ∃ z, w.alloc (.cells (nvC V) 26) = z := ⟨_, rfl⟩
  rw [hw1] at z hb
  have HW := Lib.hid hw1
  have HN := Lib.hid (hN.up hb)
  obtain ⟨al, nl, cl, af, nf, cf, aw, nw, cw⟩ := V
  obtain ⟨v0, v1, v2⟩ := box3_cells z
  have hml := hN.ml; have hmf := hN.mf; have hmw := hN.mw
  unfold maxLen at hml hmf hmw
  simp only at hml hmf hmw v0 v1 v2
  have HB := Lib.hid hb; have Z := Lib.hid z
  have HNL := Lib.hid hN.nl; have HNF := Lib.hid hN.nf; have HNW := Lib.hid hN.nw
  clear z hb hw1 hN
  go_enter Try.func36, Try.ntmps36
  go_wp2_with fail
  rw [show w.alloc (.cells #[.slice al nl cl, .slice af nf cf, .slice aw nw cw] 26) = w1 from HW.out]
  refine (rsets_any _ N _ HN.out H5.out).mono ?_
  rintro e w2 ⟨rfl, hb2⟩
  have HB2 := Lib.hid (HB.out.trans (hb2.mono HB.out.size))
  have hp5 : (1 : Int) ≤ 2 ^ N.lo.length ∧ (2 : Int) ^ N.lo.length ≤ 32 := by
    have := H5.out
    obtain ⟨q, hq⟩ : ∃ q, N.lo.length = q := ⟨_, rfl⟩
    rw [hq] at this ⊢
    obtain h | h | h | h | h | h : q = 0 ∨ q = 1 ∨ q = 2 ∨ q = 3 ∨ q = 4 ∨ q = 5 := by omega
    all_goals subst h; decide
  have HX : Hid (∀ B, inB 0 f ((2 : Int) ^ N.lo.length - 1) = B → faultB N.lo.length f = B) := Lib.hid fun B h => h
  obtain ⟨x, hx⟩ : ∃ y, (2 : Int) ^ N.lo.length = y := ⟨_, rfl⟩
  rw [hx] at hp5 HX ⊢
  obtain ⟨p1, p2⟩ := hp5
  clear v0 v1 v2 hx hb2
  go_wp2_with fail
  refine (rin_any _ _ _ _).mono ?_
  rintro e w' ⟨rfl, rfl⟩
  go_wp2_with fail
  go_ret
  exact ⟨by rw [HX.out _ rfl]; rfl, HB2.out⟩
set_option maxRecDepth 100000 in
set_option maxHeartbeats 4000000 in
theorem rfaults_any (V : NV) (N : Nt) (A : Option Addr) (n c : Nat) (fs : List Int) (w : World) (hN : NtAt w w.heap.size V N) (h5 : N.lo.length ≤ 5) (hl : fs.length = n) (hn : n ≤ maxLen) (hA : IntsAt w w.heap.size A fs) :
    Calls Try.prog 82 #[nvV V, .slice A n c] w fun e w' => e = .returned (.bool (fs.all (faultB N.lo.length))) ∧ Below w.heap.size w w' := by
  have HA := Lib.hid (RowAt.up hA ((Below.refl w.heap.size w).alloc (Nat.le_refl _) (.cells (nvC V) 26))); have HL := Lib.hid hl; have H5 := Lib.hid h5
  have z := heap_alloc_new w (.cells (nvC V) 26)
  have hb := (Below.refl w.heap.size w).alloc (Nat.le_refl _) (.cells (nvC V) 26)
  obtain ⟨w1, hw1⟩ : ∃ z, w.alloc (.cells (nvC V) 26) = z := ⟨_, rfl⟩
  rw [hw1] at z hb
  have HW := Lib.hid hw1
  have HN := Lib.hid (hN.up hb)
  obtain ⟨al, nl, cl, af, nf, cf, aw, nw, cw⟩ := V
  obtain ⟨v0, v1, v2⟩ := box3_cells z
  have hml := hN.ml; have hmf := hN.mf; have hmw := hN.mw
  unfold maxLen at hml hmf hmw
  simp only at hml hmf hmw v0 v1 v2
  have HB := Lib.hid hb; have Z := Lib.hid z
  have HNL := Lib.hid hN.nl; have HNF := Lib.hid hN.nf; have HNW := Lib.hid hN.nw
  clear z hb hw1 hN
  unfold maxLen at hn
  clear hA hl h5
  rw [show w.alloc (.cells (nvC ⟨al, nl, cl, af, nf, cf, aw, nw, cw⟩) 26) = w1 from HW.out] at HA
  go_enter Try.func82, Try.ntmps82
  go_wp2_with fail
  rw [show w.alloc (.cells #[.slice al nl cl, .slice af nf cf, .slice aw nw cw] 26) = w1 from HW.out]
  go_loopw [5] (fun ii wr => ∃ k : Nat, k ≤ n ∧ ii = .int .i64 k ∧ Below w1.heap.size w1 wr ∧ ∀ (h : Nat) (t : Int), h < k → fs[h]? = some t → faultB N.lo.length t = true) (fun ii _ => n - (intOf ii).toNat)
  case atStart => exact ⟨0, by omega, rfl, Below.refl _ _, fun _ _ h => absurd h (Nat.not_lt_zero _)⟩
  case round =>
    obtain ⟨k, hk, rfl, hbr, hal⟩ := hrel
    have HAL := Lib.hid hal; have HBR := Lib.hid hbr
    clear hal
    by_cases hlt : k < n
    · have k3 : (0 : Int) ≤ (k : Int) := by omega
      have k4 : (k : Int) < (n : Int) := by omega
      obtain ⟨t, ht⟩ := get_of_lt (l := fs) (k := k) (by rw [HL.out]; exact hlt)
      obtain ⟨b2, o2, rfl, hb2, t0⟩ := ints_el (RowAt.up HA.out hbr) ht
      have HT := Lib.hid ht
      have HZr := Lib.hid ((hbr.block _ (heapsz Z.out)).trans Z.out)
      have s0 : ∀ u : KeptW wr, u.w.cell? ⟨b2, o2 + k, none⟩ = some (.int .i64 t) := fun u => (bcell u.h).1 _ _ hb2 |>.trans t0
      have HC := Lib.hid (fun u : KeptW wr => Calls.in_kept u (rfault_any ⟨al, nl, cl, af, nf, cf, aw, nw, cw⟩ N t u.w (HN.out.next (hbr.trans (u.h.mono hbr.size)) (by have := hbr.size; have := u.h.size; omega)) H5.out))
      have hq := fun u : KeptW wr => (bcell (hbr.trans (u.h.mono hbr.size))).1
      have p0 : ∀ u : KeptW wr, u.w.cell? ⟨w.heap.size, 0, none⟩ = some (.slice al nl cl) := fun u => (hq u _ _ (heapsz Z.out)).trans v0
      have p1 : ∀ u : KeptW wr, u.w.cell? ⟨w.heap.size, 1, none⟩ = some (.slice af nf cf) := fun u => (hq u _ _ (heapsz Z.out)).trans v1
      have p2 : ∀ u : KeptW wr, u.w.cell? ⟨w.heap.size, 2, none⟩ = some (.slice aw nw cw) := fun u => (hq u _ _ (heapsz Z.out)).trans v2
      obtain ⟨B1, hB1⟩ : ∃ z, faultB N.lo.length t = z := ⟨_, rfl⟩
      have HB1 := Lib.hid hB1
      rw [hB1] at HC
      clear ht t0 hb2 hq hbr hB1
      cases B1
      all_goals
        go_wp2_with fail
        refine rk_region (by kernel_rfl) (by kernel_rfl) ?_
        repeat (go_big_quiet_step (first | (with_reducible exact HC.out _) | fail))
        refine wpQuiet_nil ?_
        rintro _ ⟨⟨wz, hbz⟩, rfl⟩
        have HBZ := Lib.hid (HBR.out.trans (hbz.mono HBR.out.size))
        clear hbz p0 p1 p2 s0
        go_wp2_with fail
        first
          | (go_ret
             exact ⟨by rw [allB_no HT.out HB1.out]; rfl, HB.out.trans (HBZ.out.mono HB.out.size)⟩)
          | (refine ⟨⟨k + 1, by omega, rfl, HBZ.out, fun h x hh hx => ?_⟩, by simp [intOf]; omega⟩
             by_cases hjk : h < k
             · exact HAL.out h x hjk hx
             · obtain rfl : h = k := by omega
               have h2 := HT.out
               rw [h2] at hx
               injection hx with hx
               rw [← hx, HB1.out])
    · obtain rfl : n = k := by omega
      have k4 : ¬ (n : Int) < (n : Int) := by omega
      have HTB : Hid (fs.all (faultB N.lo.length) = true) := Lib.hid (allB_yes fun h t ht => HAL.out h t (by have := (List.getElem?_eq_some_iff.1 ht).1; have := HL.out; omega) ht)
      clear hbr
      go_wp2_with fail
      go_ret
      exact ⟨by rw [HTB.out]; rfl, HB.out.trans (HBR.out.mono HB.out.size)⟩
set_option maxRecDepth 100000 in
set_option maxHeartbeats 4000000 in
theorem faulted_any (V : NV) (N : Nt) (p : Int) (A : Option Addr) (n c : Nat) (fs : List Int) (w : World) (hN : NtAt w w.heap.size V N) (h8 : V.nl ≤ 8) (hl : fs.length = n) (hn : n ≤ maxLen) (hA : IntsAt w w.heap.size A fs) :
    Calls Try.prog 45 #[nvV V, .int .i64 p, .slice A n c] w fun e w' => e = .returned (.int .i64 (faultsI N p fs)) ∧ Below w.heap.size w w' := by
  have HA := Lib.hid (RowAt.up hA ((Below.refl w.heap.size w).alloc (Nat.le_refl _) (.cells (nvC V) 26))); have HL := Lib.hid hl; have H8 := Lib.hid h8; have HNN := Lib.hid hn
  have z := heap_alloc_new w (.cells (nvC V) 26)
  have hb := (Below.refl w.heap.size w).alloc (Nat.le_refl _) (.cells (nvC V) 26)
  obtain ⟨w1, hw1⟩ : ∃ z, w.alloc (.cells (nvC V) 26) = z := ⟨_, rfl⟩
  rw [hw1] at z hb
  have HW := Lib.hid hw1
  have HN := Lib.hid (hN.up hb)
  obtain ⟨al, nl, cl, af, nf, cf, aw, nw, cw⟩ := V
  obtain ⟨v0, v1, v2⟩ := box3_cells z
  have hml := hN.ml; have hmf := hN.mf; have hmw := hN.mw
  unfold maxLen at hml hmf hmw
  simp only at hml hmf hmw v0 v1 v2
  have HB := Lib.hid hb; have Z := Lib.hid z
  have HNL := Lib.hid hN.nl; have HNF := Lib.hid hN.nf; have HNW := Lib.hid hN.nw
  clear z hb hw1 hN
  unfold maxLen at hn
  clear hA hl h8
  rw [show w.alloc (.cells (nvC ⟨al, nl, cl, af, nf, cf, aw, nw, cw⟩) 26) = w1 from HW.out] at HA
  go_enter Try.func45, Try.ntmps45
  by_cases h12 : (12 : Int) < (n : Int)
  · go_wp2_with fail
    rw [show w.alloc (.cells #[.slice al nl cl, .slice af nf cf, .slice aw nw cw] 26) = w1 from HW.out]
    go_ret
    exact ⟨by unfold faultsI; rw [HL.out, if_pos (by omega)]; rfl, HB.out⟩
  have HI : Hid (faultsI N p fs = if ntB N && (inB 0 p N.lo.length && fs.all (faultB N.lo.length)) then 0 else 2) := Lib.hid (by unfold faultsI; rw [HL.out, if_neg (by omega)])
  go_wp2_with fail
  rw [show w.alloc (.cells #[.slice al nl cl, .slice af nf cf, .slice aw nw cw] 26) = w1 from HW.out]
  go_wp2_with fail
  refine (rnet_any _ N _ HN.out (by have := H8.out; first | omega | (simp only at this; simp only; omega) | (simp only; omega))).mono ?_
  rintro e w2 ⟨rfl, hb2⟩
  have HZ2 := Lib.hid ((hb2.block _ (heapsz Z.out)).trans Z.out)
  have HB2 := Lib.hid (HB.out.trans (hb2.mono HB.out.size))
  have HN2 := Lib.hid (HN.out.up hb2)
  have HA2 := Lib.hid (RowAt.up HA.out hb2)
  clear v0 v1 v2 hb2
  cases hnt : ntB N
  · have HR : Hid (faultsI N p fs = 2) := Lib.hid (by rw [HI.out, hnt]; rfl)
    clear hnt
    go_wp2_with fail
    go_ret
    exact ⟨by rw [HR.out]; rfl, HB2.out⟩
  have HOK := Lib.hid (ntB_iff.1 hnt)
  have HNT := Lib.hid hnt
  clear hnt
  obtain ⟨v0, v1, v2⟩ := box3_cells HZ2.out
  go_wp2_with fail
  refine (rplace_any _ N p _ HN2.out).mono ?_
  rintro e w3 ⟨rfl, hb3⟩
  have HZ3 := Lib.hid ((hb3.block _ (heapsz HZ2.out)).trans HZ2.out)
  have HB3 := Lib.hid (HB2.out.trans (hb3.mono HB2.out.size))
  have HN3 := Lib.hid (HN2.out.up hb3)
  have HA3 := Lib.hid (RowAt.up HA2.out hb3)
  clear v0 v1 v2 hb3
  cases hpl : inB 0 p N.lo.length
  · have HR : Hid (faultsI N p fs = 2) := Lib.hid (by rw [HI.out, HNT.out, hpl]; rfl)
    clear hpl
    go_wp2_with fail
    go_ret
    exact ⟨by rw [HR.out]; rfl, HB3.out⟩
  have HPL := Lib.hid hpl
  clear hpl
  obtain ⟨v0, v1, v2⟩ := box3_cells HZ3.out
  go_wp2_with fail
  refine (rfaults_any _ N A n c fs _ HN3.out HOK.out.n5.2 HL.out HNN.out HA3.out).mono ?_
  rintro e w4 ⟨rfl, hb4⟩
  have HB4 := Lib.hid (HB3.out.trans (hb4.mono HB3.out.size))
  clear v0 v1 v2 hb4
  cases hfa : fs.all (faultB N.lo.length)
  · have HR : Hid (faultsI N p fs = 2) := Lib.hid (by rw [HI.out, HNT.out, HPL.out, hfa]; rfl)
    clear hfa
    go_wp2_with fail
    go_ret
    exact ⟨by rw [HR.out]; rfl, HB4.out⟩
  · have HR : Hid (faultsI N p fs = 0) := Lib.hid (by rw [HI.out, HNT.out, HPL.out, hfa]; rfl)
    clear hfa
    go_wp2_with fail
    go_ret
    exact ⟨by rw [HR.out]; rfl, HB4.out⟩
end Go.Proofs.Yticmeeinjkoodaa
