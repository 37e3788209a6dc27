/- Pipes: the best wrapping. Pipes: the first weak fault, and the best wrapping, of any net. Pipes: the best order, and the best place, of any net. Pipes: the best place of any net. -/
import Derived.Test.YticmeeinjkoodaaCH
namespace Go.Proofs.Yticmeeinjkoodaa
open Go.RowKit Go.Shelf

theorem shl_n {n : Nat} (h : 1 ≤ n ∧ n ≤ 5) : wrap64 ((2 : Int) ^ min n 64) = ((2 ^ n : Nat) : Int) := by
  have : n = 1 ∨ n = 2 ∨ n = 3 ∨ n = 4 ∨ n = 5 := by omega
  rcases this with rfl | rfl | rfl | rfl | rfl <;> (unfold wrap64; decide +kernel)
theorem wrap_succ (N : Nt) (place : Nat) (fs : List Int) (k : Nat) : wrapI N place fs (k + 1) = wrapF N place fs (wrapI N place fs k) k := by
  unfold wrapI
  rw [List.range_succ, List.foldl_append]
  rfl
theorem Gw.below {N : Nt} {m M n : Nat} {w A : World} (h : Gw N m M w A) (hn : n ≤ M) : Below n w A := h.bel hn
set_option maxRecDepth 100000 in
set_option maxHeartbeats 4000000 in
theorem bestWrap_any (V : NV) {N : Nt} {place : Nat} {A : Option Addr} {n c : Nat} {fs : List Int} (w : World) (hN : NtAt w w.heap.size V N) (hok : NtOk N) (hp : place ≤ N.lo.length) (hl : fs.length = n) (hn : n ≤ maxLen) (hA : IntsAt w w.heap.size A fs) (hf : ∀ f ∈ fs, 0 ≤ f ∧ f < 2 ^ N.lo.length) :
    Calls Try.prog 84 #[nvV V, .int .i64 place, .slice A n c] w fun e w' => e = .returned (.tuple #[.int .i64 ((wrapI N place fs (2 ^ N.lo.length)).1 : Int), .int .i64 (wrapI N place fs (2 ^ N.lo.length)).2.1, .bool (wrapI N place fs (2 ^ N.lo.length)).2.2]) ∧ Below w.heap.size w w' := by
  have HA := Lib.hid hA; have HLF := Lib.hid hl; have HNF9 := Lib.hid hn; have HP := Lib.hid hp; have HFS := Lib.hid hf; have HOK := Lib.hid hok; have HN0 := Lib.hid hN
  have z := heap_alloc_new w (.cells (nvC V) 26)
  have hb := (Below.refl w.heap.size w).alloc (Nat.le_refl _) (.cells (nvC V) 26)
  obtain ⟨w1, hw1⟩ : ∃ z, w.alloc (.cells (nvC V) 26) = z := ⟨_, rfl⟩
  rw [hw1] at z hb
  have HW := Lib.hid hw1
  have HN := Lib.hid (hN.up hb)
  obtain ⟨al, nl, cl, af, nf, cf, aw, nw, cw⟩ := V
  obtain ⟨v0, v1, v2⟩ := box3_cells z
  have hml := hN.ml; have hmf := hN.mf; have hmw := hN.mw
  unfold maxLen at hml hmf hmw
  simp only at hml hmf hmw v0 v1 v2
  have HB := Lib.hid hb; have Z := Lib.hid z
  have HNL := Lib.hid hN.nl; have HNF := Lib.hid hN.nf; have HNW := Lib.hid hN.nw
  clear z hb hw1 hN
  have h5 := HOK.out.n5
  rw [HNL.out] at h5
  have HSH := Lib.hid (shl_n h5)
  have HTW : Hid ((2 ^ N.lo.length : Nat) = 2 ^ nl ∧ 1 ≤ 2 ^ nl ∧ 2 ^ nl ≤ 32) := Lib.hid ⟨by rw [HNL.out], Nat.two_pow_pos _, Nat.le_trans (Nat.pow_le_pow_right (by decide) h5.2) (by decide)⟩
  obtain ⟨K, hK⟩ : ∃ z, 2 ^ nl = z := ⟨_, rfl⟩
  rw [hK] at HSH HTW
  have hK32 : K ≤ 32 := HTW.out.2.2
  rw [HTW.out.1]
  clear hl hn hA hp hf hok h5 hK
  have hsh := HSH.out
  go_enter Try.func84, Try.ntmps84
  go_wp2_with fail
  rw [show w.alloc (.cells #[.slice al nl cl, .slice af nf cf, .slice aw nw cw] 26) = w1 from HW.out]
  go_loopw [6, 7, 8, 9, 10, 11, 16] (fun bb ll ff x9 x10 x11 ii wr => ∃ k : Nat, k ≤ K ∧ ii = .int .i64 k ∧ bb = .int .i64 ((wrapI N place fs k).1 : Int) ∧ ll = .int .i64 (wrapI N place fs k).2.1 ∧ ff = .bool (wrapI N place fs k).2.2 ∧ Below w1.heap.size w1 wr) (fun _ _ _ _ _ _ ii _ => K - (intOf ii).toNat)
  case atStart => exact ⟨0, by omega, rfl, rfl, rfl, rfl, Below.refl _ _⟩
  case round =>
    obtain ⟨k, hk, rfl, rfl, rfl, rfl, hbr⟩ := hrel
    have HBR := Lib.hid hbr
    have c0 := ((bcell hbr).1 _ _ (heapsz Z.out)).trans v0
    have c1 := ((bcell hbr).1 _ _ (heapsz Z.out)).trans v1
    have c2 := ((bcell hbr).1 _ _ (heapsz Z.out)).trans v2
    clear hbr v0 v1 v2
    by_cases hlt : k < K
    · have k3 : (0 : Int) ≤ (k : Int) := by omega
      have k4 : (k : Int) < (K : Int) := by omega
      have HWS := Lib.hid (wrap_succ N place fs k)
      obtain ⟨⟨b, lst, fnd⟩, hX⟩ : ∃ z, wrapI N place fs k = z := ⟨_, rfl⟩
      rw [hX] at HWS ⊢
      simp only
      clear hX
      have hNr := HN.out.up HBR.out
      have hIr := HA.out.next (HB.out.trans (HBR.out.mono HB.out.size)) (HB.out.trans (HBR.out.mono HB.out.size)).size
      have HNR := Lib.hid hNr; have HIR := Lib.hid hIr
      have HLK := Lib.hid (look_any (V := ⟨al, nl, cl, af, nf, cf, aw, nw, cw⟩) hNr HOK.out k (by rw [HTW.out.1]; exact hlt))
      clear hNr hIr
      go_wp2_with fail
      refine HLK.out.mono ?_
      rintro e w3 ⟨P, M, bv, dv, rfl, hlk⟩
      have hlw := hlk.lw HNR.out HOK.out
      have HLW := Lib.hid hlw
      obtain ⟨AB, cb, hlh⟩ := hlw.lh
      have HLH := Lib.hid hlh
      clear hlk hlw hlh HLK c0 c1 c2
      go_wp2_with fail
      refine (cost_any HLH.out).mono ?_
      rintro e w4 ⟨rfl, hb4⟩
      have HLW4 := Lib.hid (HLW.out.up hb4)
      have HIM : Hid (IntsAt w4 M A fs) := Lib.hid (HIR.out.next HLW4.out.bel HLW4.out.lt.2)
      have HWK := Lib.hid (weak_any HLW4.out HP.out (c := c) HLF.out HNF9.out HIM.out HFS.out)
      obtain ⟨cst, hcst⟩ : ∃ z, costK N k N.lo.length = z := ⟨_, rfl⟩
      have HCS := Lib.hid hcst
      rw [hcst]
      have HBS : Hid (∀ u, Gw N k M w4 u → Below w1.heap.size w1 u) := Lib.hid fun u hu => HBR.out.trans ((HLW4.out.bel.trans (hu.bel HLW4.out.lt.2)).mono HBR.out.size)
      have HB4 : Hid (Below w1.heap.size w1 w4) := Lib.hid (HBR.out.trans (HLW4.out.bel.mono HBR.out.size))
      clear hb4 hcst
      have HWF : Hid (wrapI N place fs (k + 1) = if (!fnd || decide (cst < lst)) && decide (weakI N k place fs < 0) then (k, cst, true) else (b, lst, fnd)) := Lib.hid (by rw [HWS.out]; unfold wrapF; rw [HCS.out])
      obtain ⟨wk, hwk⟩ : ∃ z, weakI N k place fs = z := ⟨_, rfl⟩
      rw [hwk] at HWF HWK
      clear hwk
      cases fnd with
      | false =>
        go_wp2_with fail
        refine HWK.out.mono ?_
        rintro e w5 ⟨rfl, hg⟩
        have HB5 := Lib.hid (HBS.out _ hg)
        clear hg
        by_cases hw0 : wk < 0
        · have HV : Hid (wrapI N place fs (k + 1) = (k, cst, true)) := Lib.hid (by rw [HWF.out]; simp [hw0])
          go_wp2_with fail
          exact ⟨⟨k + 1, by omega, rfl, by rw [HV.out], by rw [HV.out], by rw [HV.out], HB5.out⟩, by simp [intOf]; omega⟩
        · have HV : Hid (wrapI N place fs (k + 1) = (b, lst, false)) := Lib.hid (by rw [HWF.out]; simp [hw0])
          go_wp2_with fail
          exact ⟨⟨k + 1, by omega, rfl, by rw [HV.out], by rw [HV.out], by rw [HV.out], HB5.out⟩, by simp [intOf]; omega⟩
      | true =>
        by_cases hcl : cst < lst
        · go_wp2_with fail
          refine HWK.out.mono ?_
          rintro e w5 ⟨rfl, hg⟩
          have HB5 := Lib.hid (HBS.out _ hg)
          clear hg
          by_cases hw0 : wk < 0
          · have HV : Hid (wrapI N place fs (k + 1) = (k, cst, true)) := Lib.hid (by rw [HWF.out]; simp [hw0, hcl])
            go_wp2_with fail
            exact ⟨⟨k + 1, by omega, rfl, by rw [HV.out], by rw [HV.out], by rw [HV.out], HB5.out⟩, by simp [intOf]; omega⟩
          · have HV : Hid (wrapI N place fs (k + 1) = (b, lst, true)) := Lib.hid (by rw [HWF.out]; simp [hw0])
            go_wp2_with fail
            exact ⟨⟨k + 1, by omega, rfl, by rw [HV.out], by rw [HV.out], by rw [HV.out], HB5.out⟩, by simp [intOf]; omega⟩
        · have HV : Hid (wrapI N place fs (k + 1) = (b, lst, true)) := Lib.hid (by rw [HWF.out]; simp [hcl])
          go_wp2_with fail
          exact ⟨⟨k + 1, by omega, rfl, by rw [HV.out], by rw [HV.out], by rw [HV.out], HB4.out⟩, by simp [intOf]; omega⟩
    · obtain rfl : K = k := by omega
      have k4 : ¬ (K : Int) < (K : Int) := by omega
      obtain ⟨⟨b, lst, fnd⟩, hX⟩ : ∃ z, wrapI N place fs K = z := ⟨_, rfl⟩
      rw [hX]
      simp only
      have HBF := Lib.hid (HB.out.trans (HBR.out.mono HB.out.size))
      have HX := Lib.hid hX
      clear hX c0 c1 c2
      go_wp2_with fail
      exact bodyPost_ret (v := .tuple #[.int .i64 (b : Int), .int .i64 lst, .bool fnd]) (by simp [results, Try.results84, go_sem]) rfl ⟨by rw [HX.out], HBF.out⟩
end Go.Proofs.Yticmeeinjkoodaa

namespace Go.Proofs.Yticmeeinjkoodaa
open Go.RowKit Go.Shelf

structure FsOk (N : Nt) (place : Int) (fs : List Int) : Prop where
  len : fs.length ≤ 12
  ok : NtOk N
  pl : 0 ≤ place ∧ place ≤ N.lo.length
  fs : ∀ f ∈ fs, 0 ≤ f ∧ f < 2 ^ N.lo.length
theorem faults_zero {N : Nt} {place : Int} {fs : List Int} : faultsI N place fs = 0 ↔ FsOk N place fs := by
  unfold faultsI
  have e : ∀ f : Int, faultB N.lo.length f = true ↔ 0 ≤ f ∧ f < 2 ^ N.lo.length := fun f => by
    unfold faultB
    rw [inB_iff]
    omega
  constructor
  · intro h
    split at h
    · omega
    · split at h
      · rename_i h1 h2
        rw [Bool.and_eq_true, Bool.and_eq_true, ntB_iff, inB_iff, List.all_eq_true] at h2
        exact ⟨by omega, h2.1, h2.2.1, fun f hf => (e f).1 (h2.2.2 f hf)⟩
      · omega
  · intro h
    rw [if_neg (by have := h.len; omega), if_pos]
    rw [Bool.and_eq_true, Bool.and_eq_true, ntB_iff, inB_iff, List.all_eq_true]
    exact ⟨h.ok, h.pl, fun f hf => (e f).2 (h.fs f hf)⟩
def weakR (N : Nt) (place : Int) (fs : List Int) : Int := if faultsI N place fs = 0 then weakI N 0 place.toNat fs else 0
set_option maxRecDepth 100000 in
set_option maxHeartbeats 4000000 in
theorem Weak_any (V : NV) (N : Nt) (place : Int) (A : Option Addr) (n c : Nat) (fs : List Int) (w : World) (hN : NtAt w w.heap.size V N) (hl : fs.length = n) (hn : n ≤ maxLen) (hA : IntsAt w w.heap.size A fs) :
    Calls Try.prog 43 #[nvV V, .int .i64 place, .slice A n c] w fun e w' => e = .returned (.tuple #[.int .i64 (weakR N place fs), .int .i64 (faultsI N place fs)]) ∧ Below w.heap.size w w' := by
  have HA := Lib.hid (RowAt.up hA ((Below.refl w.heap.size w).alloc (Nat.le_refl _) (.cells (nvC V) 26))); have HL := Lib.hid hl; have HNN := Lib.hid hn
  have z := heap_alloc_new w (.cells (nvC V) 26)
  have hb := (Below.refl w.heap.size w).alloc (Nat.le_refl _) (.cells (nvC V) 26)
  obtain ⟨w1, hw1⟩ : ∃ z, w.alloc (.cells (nvC V) 26) = z := ⟨_, rfl⟩
  rw [hw1] at z hb
  have HW := Lib.hid hw1
  have HN := Lib.hid (hN.up hb)
  obtain ⟨al, nl, cl, af, nf, cf, aw, nw, cw⟩ := V
  obtain ⟨v0, v1, v2⟩ := box3_cells z
  have hml := hN.ml; have hmf := hN.mf; have hmw := hN.mw
  unfold maxLen at hml hmf hmw
  simp only at hml hmf hmw v0 v1 v2
  have HB := Lib.hid hb; have Z := Lib.hid z
  have HNL := Lib.hid hN.nl; have HNF := Lib.hid hN.nf; have HNW := Lib.hid hN.nw
  clear z hb hw1 hN
  clear hA hl hn
  rw [show w.alloc (.cells (nvC ⟨al, nl, cl, af, nf, cf, aw, nw, cw⟩) 26) = w1 from HW.out] at HA
  have HR : Hid (weakR N place fs = if faultsI N place fs = 0 then weakI N 0 place.toNat fs else 0) := Lib.hid rfl
  go_enter Try.func43, Try.ntmps43
  go_wp2_with fail
  rw [show w.alloc (.cells #[.slice al nl cl, .slice af nf cf, .slice aw nw cw] 26) = w1 from HW.out]
  refine (checkFaults_any _ N place A n c fs _ HN.out HL.out HNN.out HA.out).mono ?_
  rintro e w2 ⟨rfl, hb2⟩
  have HZ2 := Lib.hid ((hb2.block _ (heapsz Z.out)).trans Z.out)
  replace v0 := ((bcell hb2).1 _ _ (heapsz Z.out)).trans v0
  replace v1 := ((bcell hb2).1 _ _ (heapsz Z.out)).trans v1
  replace v2 := ((bcell hb2).1 _ _ (heapsz Z.out)).trans v2
  have HB2 := Lib.hid (HB.out.trans (hb2.mono HB.out.size))
  have HN2 := Lib.hid (HN.out.up hb2)
  have HA2 := Lib.hid (RowAt.up HA.out hb2)
  clear hb2
  obtain ⟨E, hE⟩ : ∃ z, faultsI N place fs = z := ⟨_, rfl⟩
  have HE := Lib.hid hE
  rw [hE] at HR ⊢
  clear hE
  by_cases h0 : E = 0
  · subst h0
    have hfk := faults_zero.1 HE.out
    obtain ⟨p, rfl⟩ : ∃ p : Nat, place = p := ⟨place.toNat, by have := hfk.pl; omega⟩
    have HFK := Lib.hid hfk
    clear hfk
    go_wp2_with fail
    refine (look_any (V := ⟨al, nl, cl, af, nf, cf, aw, nw, cw⟩) HN2.out HFK.out.ok 0 (Nat.two_pow_pos _)).mono ?_
    rintro e w3 ⟨P, M, bv, dv, rfl, hlk⟩
    have HLW := Lib.hid (hlk.lw HN2.out HFK.out.ok)
    clear hlk v0 v1 v2
    go_wp2_with fail
    refine (weak_any HLW.out (by have := HFK.out.pl; omega) HL.out HNN.out (HA2.out.next HLW.out.bel HLW.out.lt.2) HFK.out.fs).mono ?_
    rintro e w4 ⟨rfl, hg⟩
    have HB4 := Lib.hid (HB2.out.trans ((HLW.out.bel.trans (hg.bel HLW.out.lt.2)).mono HB2.out.size))
    clear hg
    obtain ⟨z, hz⟩ : ∃ z, weakI N 0 p fs = z := ⟨_, rfl⟩
    have HZZ := Lib.hid hz
    rw [hz]
    clear hz
    go_wp2_with fail
    exact bodyPost_ret (v := .tuple #[.int .i64 z, .int .i64 0]) (by simp [results, Try.results43, go_sem]) rfl ⟨by rw [HR.out, Int.toNat_natCast, HZZ.out, HE.out]; rfl, HB4.out⟩
  · clear v0 v1 v2
    go_wp2_with fail
    exact bodyPost_ret (v := .tuple #[.int .i64 0, .int .i64 E]) (by simp [results, Try.results43, go_sem]) rfl ⟨by rw [HR.out, if_neg h0, HE.out], HB2.out⟩
def wrapR (N : Nt) (place : Int) (fs : List Int) : Int × Int × Int :=
  if faultsI N place fs = 0 then (if (wrapI N place.toNat fs (2 ^ N.lo.length)).2.2 then (((wrapI N place.toNat fs (2 ^ N.lo.length)).1 : Int), (wrapI N place.toNat fs (2 ^ N.lo.length)).2.1, 0) else (0, 0, 5)) else (0, 0, faultsI N place fs)
set_option maxRecDepth 100000 in
set_option maxHeartbeats 4000000 in
theorem Wrap_any (V : NV) (N : Nt) (place : Int) (A : Option Addr) (n c : Nat) (fs : List Int) (w : World) (hN : NtAt w w.heap.size V N) (hl : fs.length = n) (hn : n ≤ maxLen) (hA : IntsAt w w.heap.size A fs) :
    Calls Try.prog 49 #[nvV V, .int .i64 place, .slice A n c] w fun e w' => e = .returned (.tuple #[.int .i64 (wrapR N place fs).1, .int .i64 (wrapR N place fs).2.1, .int .i64 (wrapR N place fs).2.2]) ∧ Below w.heap.size w w' := by
  have HA := Lib.hid (RowAt.up hA ((Below.refl w.heap.size w).alloc (Nat.le_refl _) (.cells (nvC V) 26))); have HL := Lib.hid hl; have HNN := Lib.hid hn
  have z := heap_alloc_new w (.cells (nvC V) 26)
  have hb := (Below.refl w.heap.size w).alloc (Nat.le_refl _) (.cells (nvC V) 26)
  obtain ⟨w1, hw1⟩ : ∃ z, w.alloc (.cells (nvC V) 26) = z := ⟨_, rfl⟩
  rw [hw1] at z hb
  have HW := Lib.hid hw1
  have HN := Lib.hid (hN.up hb)
  obtain ⟨al, nl, cl, af, nf, cf, aw, nw, cw⟩ := V
  obtain ⟨v0, v1, v2⟩ := box3_cells z
  have hml := hN.ml; have hmf := hN.mf; have hmw := hN.mw
  unfold maxLen at hml hmf hmw
  simp only at hml hmf hmw v0 v1 v2
  have HB := Lib.hid hb; have Z := Lib.hid z
  have HNL := Lib.hid hN.nl; have HNF := Lib.hid hN.nf; have HNW := Lib.hid hN.nw
  clear z hb hw1 hN
  clear hA hl hn
  rw [show w.alloc (.cells (nvC ⟨al, nl, cl, af, nf, cf, aw, nw, cw⟩) 26) = w1 from HW.out] at HA
  have HR : Hid (wrapR N place fs = if faultsI N place fs = 0 then (if (wrapI N place.toNat fs (2 ^ N.lo.length)).2.2 then (((wrapI N place.toNat fs (2 ^ N.lo.length)).1 : Int), (wrapI N place.toNat fs (2 ^ N.lo.length)).2.1, 0) else (0, 0, 5)) else (0, 0, faultsI N place fs)) := Lib.hid rfl
  go_enter Try.func49, Try.ntmps49
  go_wp2_with fail
  rw [show w.alloc (.cells #[.slice al nl cl, .slice af nf cf, .slice aw nw cw] 26) = w1 from HW.out]
  refine (checkFaults_any _ N place A n c fs _ HN.out HL.out HNN.out HA.out).mono ?_
  rintro e w2 ⟨rfl, hb2⟩
  have HZ2 := Lib.hid ((hb2.block _ (heapsz Z.out)).trans Z.out)
  replace v0 := ((bcell hb2).1 _ _ (heapsz Z.out)).trans v0
  replace v1 := ((bcell hb2).1 _ _ (heapsz Z.out)).trans v1
  replace v2 := ((bcell hb2).1 _ _ (heapsz Z.out)).trans v2
  have HB2 := Lib.hid (HB.out.trans (hb2.mono HB.out.size))
  have HN2 := Lib.hid (HN.out.up hb2)
  have HA2 := Lib.hid (RowAt.up HA.out hb2)
  clear hb2
  obtain ⟨E, hE⟩ : ∃ z, faultsI N place fs = z := ⟨_, rfl⟩
  have HE := Lib.hid hE
  rw [hE] at HR ⊢
  clear hE
  by_cases h0 : E = 0
  · subst h0
    have hfk := faults_zero.1 HE.out
    obtain ⟨p, rfl⟩ : ∃ p : Nat, place = p := ⟨place.toNat, by have := hfk.pl; omega⟩
    have HFK := Lib.hid hfk
    have HBW := Lib.hid (bestWrap_any ⟨al, nl, cl, af, nf, cf, aw, nw, cw⟩ (place := p) (c := c) w2 HN2.out hfk.ok (by have := hfk.pl; omega) HL.out HNN.out HA2.out hfk.fs)
    rw [Int.toNat_natCast] at HR
    obtain ⟨⟨b, lst, fnd⟩, hX⟩ : ∃ z, wrapI N p fs (2 ^ N.lo.length) = z := ⟨_, rfl⟩
    rw [hX] at HR HBW
    clear hfk hX
    go_wp2_with fail
    refine HBW.out.mono ?_
    rintro e w3 ⟨rfl, hb3⟩
    have HB3 := Lib.hid (HB2.out.trans (hb3.mono HB2.out.size))
    clear hb3 v0 v1 v2 HBW
    cases fnd with
    | false =>
      go_wp2_with fail
      exact bodyPost_ret (v := .tuple #[.int .i64 0, .int .i64 0, .int .i64 5]) (by simp [results, Try.results49, go_sem]) rfl ⟨by rw [HR.out]; rfl, HB3.out⟩
    | true =>
      go_wp2_with fail
      exact bodyPost_ret (v := .tuple #[.int .i64 (b : Int), .int .i64 lst, .int .i64 0]) (by simp [results, Try.results49, go_sem]) rfl ⟨by rw [HR.out]; rfl, HB3.out⟩
  · clear v0 v1 v2
    go_wp2_with fail
    exact bodyPost_ret (v := .tuple #[.int .i64 0, .int .i64 0, .int .i64 E]) (by simp [results, Try.results49, go_sem]) rfl ⟨by rw [HR.out, if_neg h0], HB2.out⟩
end Go.Proofs.Yticmeeinjkoodaa

namespace Go.Proofs.Yticmeeinjkoodaa
open Go.RowKit Go.Shelf

def orderE (N : Nt) (place f : Int) : Int := if faultsI N place [f] = 0 then (if slk N 0 f.toNat place.toNat 0 = -1 then 5 else 0) else faultsI N place [f]
def orderS (N : Nt) (place f : Int) : Int := if faultsI N place [f] = 0 then (if slk N 0 f.toNat place.toNat 0 = -1 then 0 else slk N 0 f.toNat place.toNat 0) else 0
def orderL (N : Nt) (place f : Int) : List Int := if faultsI N place [f] = 0 then (if slk N 0 f.toNat place.toNat 0 = -1 then [] else ordN N 0 (slk N 0 f.toNat place.toNat 0) f.toNat place.toNat 0) else []
set_option maxRecDepth 100000 in
set_option maxHeartbeats 4000000 in
theorem Order_any (V : NV) (N : Nt) (place f : Int) (w : World) (hN : NtAt w w.heap.size V N) :
    Calls Try.prog 34 #[nvV V, .int .i64 place, .int .i64 f] w fun e w' => ∃ v, e = .returned (.tuple #[v, .int .i64 (orderS N place f), .int .i64 (orderE N place f)]) ∧ Below w.heap.size w w' ∧ RowIs intR 3 w.heap.size (orderL N place f) v w' := by
  have z := heap_alloc_new w (.cells (nvC V) 26)
  have hb := (Below.refl w.heap.size w).alloc (Nat.le_refl _) (.cells (nvC V) 26)
  obtain ⟨w0, hw0⟩ : ∃ z, w.alloc (.cells (nvC V) 26) = z := ⟨_, rfl⟩
  have hs0 : w0.heap.size = w.heap.size + 1 := by rw [← hw0]; simp
  rw [hw0] at z hb
  have zf := heap_alloc_new w0 (.cells #[.int .i64 f] 3)
  have hbf := (Below.refl w0.heap.size w0).alloc (Nat.le_refl _) (.cells #[.int .i64 f] 3)
  obtain ⟨w1, hw1⟩ : ∃ z, w0.alloc (.cells #[.int .i64 f] 3) = z := ⟨_, rfl⟩
  rw [hw1] at zf hbf
  have HW0 := Lib.hid hw0; have HW1 := Lib.hid hw1
  have hb1 := hb.trans (hbf.mono hb.size)
  have HN := Lib.hid (hN.up hb1)
  obtain ⟨al, nl, cl, af, nf, cf, aw, nw, cw⟩ := V
  obtain ⟨v0, v1, v2⟩ := box3_cells z
  have HB := Lib.hid hb1; have Z := Lib.hid ((hbf.block _ (heapsz z)).trans z)
  have HA : Hid (IntsAt w1 w1.heap.size (some ⟨w0.heap.size, 0, none⟩) [f]) := Lib.hid fun _ => ⟨w0.heap.size, 0, rfl, heapsz zf, fun i x hx j v hv => by
    have hi : i = 0 := by
      have := (List.getElem?_eq_some_iff.1 hx).1
      simp at this
      exact this
    subst hi
    simp at hx
    subst hx
    have hj : j = 0 := by
      have := (List.getElem?_eq_some_iff.1 hv).1
      simp [intR] at this
      exact this
    subst hj
    simp [intR] at hv
    subst hv
    simpa using cell_of_row w1 w0.heap.size 0 _ 3 (0, 0) zf⟩
  clear z hb hw0 zf hbf hw1 hb1 hN
  rw [hs0] at HA
  go_enter Try.func34, Try.ntmps34
  go_wp2_with fail
  rw [show w.alloc (.cells #[.slice al nl cl, .slice af nf cf, .slice aw nw cw] 26) = w0 from HW0.out, HW1.out]
  refine (checkFaults_any _ N place _ 1 1 [f] _ HN.out rfl (by unfold maxLen; omega) HA.out).mono ?_
  rintro e w2 ⟨rfl, hb2⟩
  have HZ2 := Lib.hid ((hb2.block _ (heapsz Z.out)).trans Z.out)
  clear v0 v1 v2
  obtain ⟨v0, v1, v2⟩ := box3_cells HZ2.out
  have HB2 := Lib.hid (HB.out.trans (hb2.mono HB.out.size))
  have HN2 := Lib.hid (HN.out.up hb2)
  clear hb2
  obtain ⟨E, hE⟩ : ∃ z, faultsI N place [f] = z := ⟨_, rfl⟩
  have HE := Lib.hid hE
  rw [hE]
  clear hE
  by_cases h0 : E = 0
  · subst h0
    have hfk := faults_zero.1 HE.out
    obtain ⟨p, rfl⟩ : ∃ p : Nat, place = p := ⟨place.toNat, by have := hfk.pl; omega⟩
    have hff := hfk.fs f (by simp)
    obtain ⟨s, rfl⟩ : ∃ s : Nat, f = s := ⟨f.toNat, by omega⟩
    have HPS : Hid (p ≤ N.lo.length ∧ s < 2 ^ N.lo.length) := Lib.hid (by
      have := hfk.pl
      have e2 : ((2 : Int) ^ N.lo.length) = ((2 ^ N.lo.length : Nat) : Int) := by simp
      rw [e2] at hff
      omega)
    have HOK := Lib.hid hfk.ok
    clear hfk hff
    have HS : Hid (orderS N p s = if slk N 0 s p 0 = -1 then 0 else slk N 0 s p 0) := Lib.hid (by unfold orderS; rw [HE.out]; rfl)
    have HE' : Hid (orderE N p s = if slk N 0 s p 0 = -1 then 5 else 0) := Lib.hid (by unfold orderE; rw [HE.out]; rfl)
    have HL' : Hid (orderL N p s = if slk N 0 s p 0 = -1 then [] else ordN N 0 (slk N 0 s p 0) s p 0) := Lib.hid (by unfold orderL; rw [HE.out]; rfl)
    go_wp2_with fail
    refine (look_any (V := ⟨al, nl, cl, af, nf, cf, aw, nw, cw⟩) HN2.out HOK.out 0 (Nat.two_pow_pos _)).mono ?_
    rintro e w3 ⟨P, M, bv, dv, rfl, hlk⟩
    have hlw := hlk.lw HN2.out HOK.out
    have zc := heap_alloc_new w3 (.cells #[.int .i64 (s : Int), .int .i64 (p : Int), .int .i64 0] 108)
    have hbc := (Below.refl w3.heap.size w3).alloc (Nat.le_refl _) (.cells #[.int .i64 (s : Int), .int .i64 (p : Int), .int .i64 0] 108)
    obtain ⟨w4, hw4⟩ : ∃ z, w3.alloc (.cells #[.int .i64 (s : Int), .int .i64 (p : Int), .int .i64 0] 108) = z := ⟨_, rfl⟩
    rw [hw4] at zc hbc
    have HLW := Lib.hid (hlw.up hbc); have HZC := Lib.hid zc; have HW4 := Lib.hid hw4
    have hneM : w3.heap.size ≠ M := (hlw.up hbc).ne zc
    have HNM := Lib.hid hneM
    obtain ⟨x0, x1, x2⟩ := box3_cells zc
    clear hlk hlw zc hbc hw4 v0 v1 v2 hneM
    go_wp2_with fail
    rw [HW4.out]
    refine (slack_any s HPS.out.2 _ p 0 HLW.out HPS.out.1 (by omega)).mono ?_
    rintro e w5 ⟨rfl, hg⟩
    have HG := Lib.hid hg
    have HLW5 := Lib.hid (HLW.out.go hg)
    have hsl := slk_ge N 0 s p 0
    obtain ⟨S, hS⟩ : ∃ z, slk N 0 s p 0 = z := ⟨_, rfl⟩
    have HSS := Lib.hid hS
    rw [hS] at HS HE' HL' hsl ⊢
    obtain ⟨y0, y1, y2⟩ := box3_cells (hg.cell HZC.out HNM.out)
    have HB5 := Lib.hid (HB2.out.trans (HLW5.out.bel.mono HB2.out.size))
    clear hg hS x0 x1 x2
    by_cases hS1 : S = -1
    · clear y0 y1 y2
      subst hS1
      go_wp2_with fail
      exact bodyPost_ret (v := .tuple #[.slice none 0 0, .int .i64 0, .int .i64 5]) (by simp [results, Try.results34, go_sem]) rfl ⟨.slice none 0 0, by rw [HS.out, HE'.out]; rfl, HB5.out, by rw [HL'.out]; exact .inl ⟨rfl, rfl⟩⟩
    · have hFO := firstOrder_any HLW5.out HPS.out.2 HPS.out.1 (t := 0) (by omega) (en := S) (by omega) (by rw [HSS.out]; exact Int.le_refl _)
      have HFO := Lib.hid hFO
      clear hFO
      go_wp2_with fail
      refine HFO.out.mono ?_
      rintro e w6 ⟨v, rfl, hg6, hr⟩
      have HB6 := Lib.hid (HB2.out.trans ((HLW5.out.bel.trans (hg6.bel HLW5.out.lt.2)).mono HB2.out.size))
      have HR := Lib.hid (RowIs.low hr HB5.out.size)
      clear hg6 hr y0 y1 y2
      obtain ⟨A9, c9, rfl, _, _⟩ := HR.out.at_ (k := 1) (fun _ => rfl)
      go_wp2_with fail
      exact bodyPost_ret (v := .tuple #[.slice A9 (ordN N 0 S s p 0).length c9, .int .i64 S, .int .i64 0]) (by simp [results, Try.results34, go_sem]) rfl ⟨_, by rw [HS.out, HE'.out, if_neg hS1, if_neg hS1], HB6.out, by rw [HL'.out, if_neg hS1]; exact HR.out⟩
  · have HS : Hid (orderS N place f = 0) := Lib.hid (by unfold orderS; rw [HE.out, if_neg h0])
    have HE' : Hid (orderE N place f = E) := Lib.hid (by unfold orderE; rw [HE.out, if_neg h0])
    have HL' : Hid (orderL N place f = []) := Lib.hid (by unfold orderL; rw [HE.out, if_neg h0])
    clear v0 v1 v2
    go_wp2_with fail
    exact bodyPost_ret (v := .tuple #[.slice none 0 0, .int .i64 0, .int .i64 E]) (by simp [results, Try.results34, go_sem]) rfl ⟨.slice none 0 0, by rw [HS.out, HE'.out], HB2.out, by rw [HL'.out]; exact .inl ⟨rfl, rfl⟩⟩
end Go.Proofs.Yticmeeinjkoodaa

namespace Go.Proofs.Yticmeeinjkoodaa
open Go.RowKit Go.Shelf

def postR (N : Nt) (fs : List Int) : Int × Int × Int := if faultsI N 0 fs = 0 then (if (postI N fs).2 = -1 then (0, 0, 5) else (((postI N fs).1 : Int), (postI N fs).2, 0)) else (0, 0, faultsI N 0 fs)
set_option maxRecDepth 100000 in
set_option maxHeartbeats 4000000 in
theorem Post_any (V : NV) (N : Nt) (A : Option Addr) (n c : Nat) (fs : List Int) (w : World) (hN : NtAt w w.heap.size V N) (hl : fs.length = n) (hn : n ≤ maxLen) (hA : IntsAt w w.heap.size A fs) :
    Calls Try.prog 44 #[nvV V, .slice A n c] w fun e w' => e = .returned (.tuple #[.int .i64 (postR N fs).1, .int .i64 (postR N fs).2.1, .int .i64 (postR N fs).2.2]) ∧ Below w.heap.size w w' := by
  have hmf : ∀ (fn : Fn) (first cap : Array Value) (w : World), (Instr.makeFunc fn first cap).run Try.prog w = .ok (.func fn first cap) w := fun _ _ _ _ => rfl
  obtain ⟨z, zf, hb⟩ := two_new w (.cells (nvC V) 26) (.cells #[.slice A n c] 57)
  obtain ⟨w1, hw1⟩ : ∃ z, (w.alloc (.cells (nvC V) 26)).alloc (.cells #[.slice A n c] 57) = z := ⟨_, rfl⟩
  rw [hw1] at z zf hb
  have HW := Lib.hid hw1
  have HN := Lib.hid (hN.up hb)
  obtain ⟨al, nl, cl, af, nf, cf, aw, nw, cw⟩ := V
  obtain ⟨v0, v1, v2⟩ := box3_cells z
  have f0 := cell_of_row w1 (w.heap.size + 1) 0 _ 57 (0, 0) zf
  simp at f0
  have HB := Lib.hid hb; have Z := Lib.hid z; have ZF := Lib.hid zf
  have HA := Lib.hid (RowAt.up hA hb); have HL := Lib.hid hl; have HNN := Lib.hid hn
  clear z zf hb hw1 hN hA hl hn
  have HR : Hid (postR N fs = if faultsI N 0 fs = 0 then (if (postI N fs).2 = -1 then (0, 0, 5) else (((postI N fs).1 : Int), (postI N fs).2, 0)) else (0, 0, faultsI N 0 fs)) := Lib.hid rfl
  go_enter Try.func44, Try.ntmps44
  go_wp2_with fail
  rw [show (w.alloc (.cells #[.slice al nl cl, .slice af nf cf, .slice aw nw cw] 26)).alloc (.cells #[.slice A n c] 57) = w1 from HW.out]
  refine (checkFaults_any _ N 0 A n c fs _ HN.out HL.out HNN.out HA.out).mono ?_
  rintro e w2 ⟨rfl, hb2⟩
  have HZ2 := Lib.hid ((hb2.block _ (heapsz Z.out)).trans Z.out)
  have HZF2 := Lib.hid ((hb2.block _ (heapsz ZF.out)).trans ZF.out)
  clear v0 v1 v2 f0
  obtain ⟨v0, v1, v2⟩ := box3_cells HZ2.out
  have f0 := cell_of_row w2 (w.heap.size + 1) 0 _ 57 (0, 0) HZF2.out
  simp at f0
  have HB2 := Lib.hid (HB.out.trans (hb2.mono HB.out.size))
  have HN2 := Lib.hid (HN.out.up hb2)
  have HA2 := Lib.hid (RowAt.up HA.out hb2)
  clear hb2
  obtain ⟨E, hE⟩ : ∃ z, faultsI N 0 fs = z := ⟨_, rfl⟩
  have HE := Lib.hid hE
  rw [hE] at HR ⊢
  clear hE
  by_cases h0 : E = 0
  · subst h0
    have HFK := Lib.hid (faults_zero.1 HE.out)
    rw [if_pos rfl] at HR
    go_wp2_with fail
    refine (look_any (V := ⟨al, nl, cl, af, nf, cf, aw, nw, cw⟩) HN2.out HFK.out.ok 0 (Nat.two_pow_pos _)).mono ?_
    rintro e w3 ⟨P, M, bv, dv, rfl, hlk⟩
    have hlw := hlk.lw HN2.out HFK.out.ok
    have hz3 := (hlw.bel.block _ (heapsz HZF2.out)).trans HZF2.out
    have zc := heap_alloc_new w3 (.cells #[.pointer (some ⟨P, 0, none⟩)] 94)
    have hbc := (Below.refl w3.heap.size w3).alloc (Nat.le_refl _) (.cells #[.pointer (some ⟨P, 0, none⟩)] 94)
    obtain ⟨w4, hw4⟩ : ∃ z, w3.alloc (.cells #[.pointer (some ⟨P, 0, none⟩)] 94) = z := ⟨_, rfl⟩
    rw [hw4] at zc hbc
    have hlw4 := hlw.up hbc
    have c4 := cell_of_row w4 w3.heap.size 0 _ 94 (0, 0) zc
    simp at c4
    have HLW := Lib.hid hlw4; have HZC := Lib.hid zc; have HW4 := Lib.hid hw4; have HZF4 := Lib.hid ((hbc.block _ (heapsz hz3)).trans hz3)
    clear hlk hlw zc hbc hw4 v0 v1 v2 hlw4 hz3 f0
    go_wp2_with fail
    rw [HW4.out]
    go_wp2_with fail
    refine (places_any _ _).mono ?_
    rintro e w' ⟨rfl, rfl⟩
    have zs := heap_alloc_new w4 (.cells #[.pointer (some ⟨P, 0, none⟩)] 94)
    have hbs := (Below.refl w4.heap.size w4).alloc (Nat.le_refl _) (.cells #[.pointer (some ⟨P, 0, none⟩)] 94)
    obtain ⟨w5, hw5⟩ : ∃ z, w4.alloc (.cells #[.pointer (some ⟨P, 0, none⟩)] 94) = z := ⟨_, rfl⟩
    rw [hw5] at zs hbs ⊢
    have HL5 := Lib.hid (HLW.out.up hbs)
    have hfs : ∀ x ∈ [(w4.heap.size, #[Value.pointer (some ⟨P, 0, none⟩)], 94), (w3.heap.size, #[Value.pointer (some ⟨P, 0, none⟩)], 94), (w.heap.size + 1, #[Value.slice A n c], 57)], w5.heap[x.1]? = some (.cells x.2.1 x.2.2 (0, 0)) := fun x hx => by
      simp only [List.mem_cons, List.not_mem_nil, or_false] at hx
      rcases hx with rfl | rfl | rfl
      · exact zs
      · exact (hbs.block _ (heapsz HZC.out)).trans HZC.out
      · exact (hbs.block _ (heapsz HZF4.out)).trans HZF4.out
    have hnw := HN2.out.nw; have hmw := HN2.out.mw; have hwl := HFK.out.ok.wl
    simp only at hnw hmw
    have HGR := Lib.hid (greatest_any (α := PL nw) (vl := Subtype.val) HL5.out (gf := 94) (g1 := w4.heap.size) (sf := 80) (s1 := w3.heap.size) (s2 := w.heap.size + 1) (gm := nw) hfs (gc := #[.pointer (some ⟨P, 0, none⟩)]) (gt := 94) (by simp) (enters_of Try.func94 (by kernel_rfl) rfl) (enters_of Try.func80 (by kernel_rfl) rfl) (List.range nw) (sofI N 0 fs)
      (fun W hW hF => by
        obtain ⟨AB, AD, cb, cd, _, r⟩ := (HL5.out.go hF.gw).rd
        exact places_stops 2 (by decide) w4.heap.size w2.heap.size P nw cw aw hmw W (by have := heapsz zs; omega) r.plt (by have := cell_of_row W w4.heap.size 0 _ 94 (0, 0) (hF.fix (w4.heap.size, #[.pointer (some ⟨P, 0, none⟩)], 94) (by simp)); simpa using this) r.c2)
      (fun x W hF => by
        have hL := HL5.out.go hF.gw
        exact post1_any hL (by have := x.2; omega) HL.out HNN.out (HA2.out.next hL.bel hL.lt.2) HFK.out.fs (hF.fix (w3.heap.size, #[Value.pointer (some ⟨P, 0, none⟩)], 94) (by simp)) (hF.fix (w.heap.size + 1, #[Value.slice A n c], 57) (by simp))))
    have hpe : grL (sofI N 0 fs) (List.range nw) = postI N fs := by unfold postI; rw [hnw]
    rw [hpe] at HGR
    obtain ⟨⟨b, s⟩, hX⟩ : ∃ z, postI N fs = z := ⟨_, rfl⟩
    rw [hX] at HR HGR
    clear zs hbs hw5 hfs hnw hmw hwl hpe hX c4
    go_wp2_with fail
    refine HGR.out.mono ?_
    rintro e w6 ⟨rfl, hg⟩
    have HB6 := Lib.hid (HB2.out.trans ((HL5.out.bel.trans (hg.bel HL5.out.lt.2)).mono HB2.out.size))
    clear hg HGR
    simp only at HR ⊢
    by_cases hs : s = -1
    · subst hs
      go_wp2_with fail
      exact bodyPost_ret (v := .tuple #[.int .i64 0, .int .i64 0, .int .i64 5]) (by simp [results, Try.results44, go_sem]) rfl ⟨by rw [HR.out]; rfl, HB6.out⟩
    · go_wp2_with fail
      exact bodyPost_ret (v := .tuple #[.int .i64 (b : Int), .int .i64 s, .int .i64 0]) (by simp [results, Try.results44, go_sem]) rfl ⟨by rw [HR.out, if_neg hs], HB6.out⟩
  · rw [if_neg h0] at HR
    clear v0 v1 v2 f0
    go_wp2_with fail
    exact bodyPost_ret (v := .tuple #[.int .i64 0, .int .i64 0, .int .i64 E]) (by simp [results, Try.results44, go_sem]) rfl ⟨by rw [HR.out], HB2.out⟩
end Go.Proofs.Yticmeeinjkoodaa
