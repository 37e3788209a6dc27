/- Pipes: the law PipeRivals. -/
import Derived.Test.YticmeeinjkoodaaRM
namespace Go.Proofs.Yticmeeinjkoodaa
open Go.RowKit Go.Shelf

theorem cast_back {os : List Int} (h : ∀ o ∈ os, 0 ≤ o) : (os.map Int.toNat).map (fun k : Nat => (k : Int)) = os := by
  rw [List.map_map]
  refine (List.map_congr_left fun o ho => ?_).trans (List.map_id _)
  show ((o.toNat : Nat) : Int) = o
  have := h o ho
  omega
/-- The best order, beside another one. -/
theorem rivals {N : Nt} {p f : Int} (K : FsOk N p [f]) {os : List Int} (ho : IsOrd N.lo.length f.toNat os) {sl : Int} (hsl : slk N 0 f.toNat p.toNat 0 = sl) {m : Int} (hm : ordS N p.toNat 0 (os.map Int.toNat) = m) :
    (sl = -1 → orderE N p f = 5 ∧ orderL N p f = [] ∧ m < 0) ∧
    (sl ≠ -1 → orderE N p f = 0 ∧ orderS N p f = sl ∧ 0 ≤ sl ∧ m ≤ sl ∧ (m = sl → befB os (orderL N p f) = false) ∧ ∃ js : List Nat, orderL N p f = js.map (fun k : Nat => (k : Int)) ∧ IsOrd N.lo.length f.toNat (orderL N p f) ∧ ordS N p.toNat 0 js = sl ∧ (∀ j ∈ js, j < N.lo.length) ∧ js.length ≤ 8) := by
  have hff := K.fs f (by simp)
  have h5 := K.ok.n5
  have hpow : (2 : Int) ^ N.lo.length = ((2 ^ N.lo.length : Nat) : Int) := by simp
  have hs : f.toNat < 2 ^ N.lo.length := by omega
  have hs32 : f.toNat < 32 := Nat.lt_of_lt_of_le hs (Nat.pow_le_pow_right (show 0 < 2 by decide) h5.2)
  have hv := ordV_of h5.2 os f.toNat hs32 ho
  have h0 : faultsI N p [f] = 0 := faults_zero.2 K
  have hge := slk_ge N 0 f.toNat p.toNat 0
  have hle := slk_le (wayOk K.ok) 0 f.toNat p.toNat (t := 0) (Int.le_refl _)
  rw [hsl] at hge hle
  have hbest : 0 ≤ m → m ≤ sl := fun h => by
    have := ord_le (N := N) (os.map Int.toNat) f.toNat p.toNat 0 hv (by rw [hm]; exact h)
    rw [hm, hsl] at this
    exact this
  refine ⟨fun h1 => ?_, fun h1 => ?_⟩
  · unfold orderE orderL
    rw [if_pos h0, if_pos h0, hsl, if_pos h1, if_pos h1]
    refine ⟨rfl, rfl, ?_⟩
    by_cases h : 0 ≤ m
    · have := hbest h
      omega
    · omega
  · have hsl0 : 0 ≤ sl := by omega
    unfold orderE orderS orderL
    rw [if_pos h0, if_pos h0, if_pos h0, hsl, if_neg h1, if_neg h1, if_neg h1]
    obtain ⟨t1, t2⟩ := ord_told (N := N) hsl0 hle f.toNat f.toNat p.toNat 0 (Nat.le_refl _) (by rw [hsl]; exact Int.le_refl _)
    have t3 := ord_le (N := N) (ordI N 0 sl f.toNat p.toNat 0) f.toNat p.toNat 0 t1 (by omega)
    rw [hsl] at t3
    have t4 := isOrd_of hs32 hs t1
    have t5 := ordV_bits _ _ hs32 t1
    refine ⟨rfl, rfl, hsl0, ?_, fun he => ?_, ordI N 0 sl f.toNat p.toNat 0, rfl, t4, by omega, fun j hj => ?_, ?_⟩
    · by_cases h : 0 ≤ m
      · exact hbest h
      · omega
    · have h := ord_first hsl0 (os.map Int.toNat) f.toNat p.toNat 0 hv (by rw [hm, he]; exact Int.le_refl _)
      rw [cast_back (fun o h => (ho.inn o h).1)] at h
      exact h
    · have := (t4.inn (j : Int) (List.mem_map.2 ⟨j, hj, rfl⟩)).2.1
      omega
    · rw [t5.2.2]
      exact Nat.le_trans (pil_len (s := (f.toNat : Int)) (k := 5)) (by decide)
set_option maxRecDepth 100000 in
set_option maxHeartbeats 16000000 in
theorem rivals_law (V : NV) (N : Nt) (p f : Int) (A : Option Addr) (n c : Nat) (os : List Int) (w : World) (hN : NtAt w w.heap.size V N) (hl : os.length = n) (hn : n ≤ maxLen) (hA : IntsAt w w.heap.size A os) :
    Calls Try.prog 9 #[nvV V, .int .i64 p, .int .i64 f, .slice A n c] w fun e w' => e = .returned (.bool true) ∧ Below w.heap.size w w' := by
  have HA1 := Lib.hid (RowAt.up hA ((Below.refl w.heap.size w).alloc (Nat.le_refl _) (.cells (nvC V) 26))); have HL := Lib.hid hl; have HNN := Lib.hid hn
  have z := heap_alloc_new w (.cells (nvC V) 26)
  have hb := (Below.refl w.heap.size w).alloc (Nat.le_refl _) (.cells (nvC V) 26)
  obtain ⟨w1, hw1⟩ : ∃ z, w.alloc (.cells (nvC V) 26) = z := ⟨_, rfl⟩
  rw [hw1] at z hb
  have HW := Lib.hid hw1
  have HN := Lib.hid (hN.up hb)
  obtain ⟨al, nl, cl, af, nf, cf, aw, nw, cw⟩ := V
  obtain ⟨v0, v1, v2⟩ := box3_cells z
  have hml := hN.ml; have hmf := hN.mf; have hmw := hN.mw
  unfold maxLen at hml hmf hmw
  simp only at hml hmf hmw v0 v1 v2
  have HB := Lib.hid hb; have Z := Lib.hid z
  have HNL := Lib.hid hN.nl; have HNF := Lib.hid hN.nf; have HNW := Lib.hid hN.nw
  clear z hb hw1 hN
  have HZ1 := Z; have HB1 := HB; have HN1 := HN
  clear Z HB HN
  unfold maxLen at hn
  clear hA hl
  rw [show w.alloc (.cells (nvC ⟨al, nl, cl, af, nf, cf, aw, nw, cw⟩) 26) = w1 from HW.out] at HA1
  go_enter Try.func9, Try.ntmps9
  go_wp2_with fail
  rw [show w.alloc (.cells #[.slice al nl cl, .slice af nf cf, .slice aw nw cw] 26) = w1 from HW.out]
  refine (short_any _ N _ HN1.out).mono ?_
  rintro e w2 ⟨rfl, hb⟩
  have HZ2 := Lib.hid ((hb.block _ (heapsz HZ1.out)).trans HZ1.out)
  have HB2 := Lib.hid (HB1.out.trans (hb.mono HB1.out.size))
  have HN2 := Lib.hid (HN1.out.up hb)
  have HA2 := Lib.hid (RowAt.up HA1.out hb)
  clear hb
  clear v0 v1 v2
  obtain ⟨v0, v1, v2⟩ := box3_cells HZ2.out
  cases hsh : shortB N
  · clear v0 v1 v2 hsh
    go_wp2_with fail
    refine (known_any _).mono ?_
    rintro e wk ⟨rfl, hbk⟩
    have HBK := Lib.hid (HB2.out.trans (hbk.mono HB2.out.size))
    clear hbk
    go_wp2_with fail
    go_ret
    exact ⟨rfl, HBK.out⟩
  have h8 : nl ≤ 8 := by
    unfold shortB at hsh
    simp only [Bool.and_eq_true, decide_eq_true_eq] at hsh
    have := hsh.2.1
    have h1 := HNL.out
    first | omega | (simp only at h1; omega)
  clear hsh
  go_wp2_with fail
  refine (rnet_any _ N _ HN2.out (by simp only; omega)).mono ?_
  rintro e w3 ⟨rfl, hb⟩
  have HZ3 := Lib.hid ((hb.block _ (heapsz HZ2.out)).trans HZ2.out)
  have HB3 := Lib.hid (HB2.out.trans (hb.mono HB2.out.size))
  have HN3 := Lib.hid (HN2.out.up hb)
  have HA3 := Lib.hid (RowAt.up HA2.out hb)
  clear hb
  clear v0 v1 v2
  obtain ⟨v0, v1, v2⟩ := box3_cells HZ3.out
  cases hnt : ntB N
  · clear v0 v1 v2 hnt
    go_wp2_with fail
    refine (known_any _).mono ?_
    rintro e wk ⟨rfl, hbk⟩
    have HBK := Lib.hid (HB3.out.trans (hbk.mono HB3.out.size))
    clear hbk
    go_wp2_with fail
    go_ret
    exact ⟨rfl, HBK.out⟩
  have HOK := Lib.hid (ntB_iff.1 hnt)
  clear hnt
  go_wp2_with fail
  refine (rplace_any _ N p _ HN3.out).mono ?_
  rintro e w4 ⟨rfl, hb⟩
  have HZ4 := Lib.hid ((hb.block _ (heapsz HZ3.out)).trans HZ3.out)
  have HB4 := Lib.hid (HB3.out.trans (hb.mono HB3.out.size))
  have HN4 := Lib.hid (HN3.out.up hb)
  have HA4 := Lib.hid (RowAt.up HA3.out hb)
  clear hb
  clear v0 v1 v2
  obtain ⟨v0, v1, v2⟩ := box3_cells HZ4.out
  cases hpl : inB 0 p N.lo.length
  · clear v0 v1 v2 hpl
    go_wp2_with fail
    refine (known_any _).mono ?_
    rintro e wk ⟨rfl, hbk⟩
    have HBK := Lib.hid (HB4.out.trans (hbk.mono HB4.out.size))
    clear hbk
    go_wp2_with fail
    go_ret
    exact ⟨rfl, HBK.out⟩
  have HPL := Lib.hid (inB_iff.1 hpl)
  clear hpl
  go_wp2_with fail
  refine (rfault_any _ N f _ HN4.out HOK.out.n5.2).mono ?_
  rintro e w5 ⟨rfl, hb⟩
  have HZ5 := Lib.hid ((hb.block _ (heapsz HZ4.out)).trans HZ4.out)
  have HB5 := Lib.hid (HB4.out.trans (hb.mono HB4.out.size))
  have HN5 := Lib.hid (HN4.out.up hb)
  have HA5 := Lib.hid (RowAt.up HA4.out hb)
  clear hb
  clear v0 v1 v2
  obtain ⟨v0, v1, v2⟩ := box3_cells HZ5.out
  cases hfb : faultB N.lo.length f
  · clear v0 v1 v2 hfb
    go_wp2_with fail
    refine (known_any _).mono ?_
    rintro e wk ⟨rfl, hbk⟩
    have HBK := Lib.hid (HB5.out.trans (hbk.mono HB5.out.size))
    clear hbk
    go_wp2_with fail
    go_ret
    exact ⟨rfl, HBK.out⟩
  have HFB : Hid (0 ≤ f ∧ f < 2 ^ N.lo.length) := Lib.hid (by
    unfold faultB at hfb
    rw [inB_iff] at hfb
    omega)
  have HFS : Hid (FsOk N p [f]) := Lib.hid ⟨by simp, HOK.out, HPL.out, fun g hg => by
    rw [List.mem_singleton] at hg
    rw [hg]
    exact HFB.out⟩
  have HS : Hid (f.toNat < 2 ^ N.lo.length) := Lib.hid (by
    have h1 := HFB.out
    have hpow : (2 : Int) ^ N.lo.length = ((2 ^ N.lo.length : Nat) : Int) := by simp
    omega)
  obtain ⟨s, rfl⟩ : ∃ s : Nat, f = s := ⟨f.toNat, by have := HFB.out; omega⟩
  obtain ⟨a, rfl⟩ : ∃ a : Nat, p = a := ⟨p.toNat, by have := HPL.out; omega⟩
  clear hfb
  by_cases hn8 : (8 : Int) < (n : Int)
  · go_wp2_with fail
    refine (known_any _).mono ?_
    rintro e wk ⟨rfl, hbk⟩
    have HBK := Lib.hid (HB5.out.trans (hbk.mono HB5.out.size))
    clear hbk
    go_wp2_with fail
    go_ret
    exact ⟨rfl, HBK.out⟩
  go_wp2_with fail
  refine (isorder_any _ N s A n c os _ HN5.out HOK.out (by have := HS.out; rwa [Int.toNat_natCast] at this) HL.out (by omega) HA5.out).mono ?_
  rintro e w6 ⟨b, rfl, hb, hio⟩
  have HZ6 := Lib.hid ((hb.block _ (heapsz HZ5.out)).trans HZ5.out)
  have HB6 := Lib.hid (HB5.out.trans (hb.mono HB5.out.size))
  have HN6 := Lib.hid (HN5.out.up hb)
  have HA6 := Lib.hid (RowAt.up HA5.out hb)
  clear hb
  clear v0 v1 v2
  obtain ⟨v0, v1, v2⟩ := box3_cells HZ6.out
  cases b
  · clear v0 v1 v2 hio
    go_wp2_with fail
    refine (known_any _).mono ?_
    rintro e wk ⟨rfl, hbk⟩
    have HBK := Lib.hid (HB6.out.trans (hbk.mono HB6.out.size))
    clear hbk
    go_wp2_with fail
    go_ret
    exact ⟨rfl, HBK.out⟩
  have hio2 : IsOrd N.lo.length s os := hio.1 rfl
  have HIO := Lib.hid hio2
  have HRV := Lib.hid (rivals HFS.out (os := os) (by rw [Int.toNat_natCast]; exact hio2) rfl rfl)
  have HCB := Lib.hid (cast_back (fun o h => (hio2.inn o h).1))
  clear hio hio2
  go_wp2_with fail
  refine (dues_any _ N _ HN6.out HOK.out).mono ?_
  rintro e w7 ⟨v, rfl, hb, hrd⟩
  have HZ7 := Lib.hid ((hb.block _ (heapsz HZ6.out)).trans HZ6.out)
  have HB7 := Lib.hid (HB6.out.trans (hb.mono HB6.out.size))
  have HN7 := Lib.hid (HN6.out.up hb)
  have HA7 := Lib.hid (RowAt.up HA6.out hb)
  obtain ⟨D, dc, rfl, hD, _⟩ := hrd.at_ (k := 1) (fun _ => rfl)
  obtain ⟨dn, hdn⟩ : ∃ z, (dueN N N.lo.length).length = z := ⟨_, rfl⟩
  rw [hdn]
  have HDN : Hid (dn = N.lo.length) := Lib.hid (by rw [← hdn]; simp [dueN])
  have HD7 := Lib.hid hD
  clear hb hrd hD hdn
  clear v0 v1 v2
  obtain ⟨v0, v1, v2⟩ := box3_cells HZ7.out
  go_wp2_with fail
  refine (Order_any _ N a s _ HN7.out).mono ?_
  rintro e w8 ⟨v, rfl, hb, hro⟩
  have HZ8 := Lib.hid ((hb.block _ (heapsz HZ7.out)).trans HZ7.out)
  have HB8 := Lib.hid (HB7.out.trans (hb.mono HB7.out.size))
  have HN8 := Lib.hid (HN7.out.up hb)
  have HA8 := Lib.hid (RowAt.up HA7.out hb)
  have HD8 := Lib.hid (RowAt.up HD7.out hb)
  obtain ⟨O, oc, rfl, hO, _⟩ := hro.at_ (k := 1) (fun _ => rfl)
  obtain ⟨on, hon⟩ : ∃ z, (orderL N a s).length = z := ⟨_, rfl⟩
  rw [hon]
  have HON := Lib.hid hon
  have HO8 := Lib.hid hO
  clear hb hro hO hon
  clear v0 v1 v2
  obtain ⟨v0, v1, v2⟩ := box3_cells HZ8.out
  obtain ⟨E, hE⟩ : ∃ z, orderE N a s = z := ⟨_, rfl⟩
  obtain ⟨S, hS⟩ : ∃ z, orderS N a s = z := ⟨_, rfl⟩
  have HE := Lib.hid hE; have HSS := Lib.hid hS
  rw [hE, hS]
  clear hE hS
  go_wp2_with fail
  refine (rslack_any _ N a _ _ dn dc n c (os.map Int.toNat) _ HN8.out HOK.out (by have := HPL.out; omega) HDN.out HD8.out (by rw [List.length_map]; exact HL.out) (by omega) (fun j hj => by
    obtain ⟨o, ho, rfl⟩ := List.mem_map.1 hj
    have := HIO.out.inn o ho
    omega) (by rw [HCB.out]; exact HA8.out)).mono ?_
  rintro e w9 ⟨rfl, hb⟩
  have HZ9 := Lib.hid ((hb.block _ (heapsz HZ8.out)).trans HZ8.out)
  have HB9 := Lib.hid (HB8.out.trans (hb.mono HB8.out.size))
  have HN9 := Lib.hid (HN8.out.up hb)
  have HA9 := Lib.hid (RowAt.up HA8.out hb)
  have HD9 := Lib.hid (RowAt.up HD8.out hb)
  have HO9 := Lib.hid (RowAt.up HO8.out hb)
  clear hb
  clear v0 v1 v2
  obtain ⟨v0, v1, v2⟩ := box3_cells HZ9.out
  have hrv := HRV.out
  rw [Int.toNat_natCast, Int.toNat_natCast, HE.out, HSS.out] at hrv
  obtain ⟨m, hm⟩ : ∃ z, ordS N a 0 (os.map Int.toNat) = z := ⟨_, rfl⟩
  obtain ⟨sl, hsl⟩ : ∃ z, slk N 0 s a 0 = z := ⟨_, rfl⟩
  rw [hm, hsl] at hrv
  rw [hm]
  clear hm hsl
  by_cases hs1 : sl = -1
  · obtain ⟨rfl, _, hm0⟩ := hrv.1 hs1
    clear hrv hs1 v0 v1 v2
    go_wp2_with fail
    refine (known_any _).mono ?_
    rintro e wk ⟨rfl, hbk⟩
    have HBK := Lib.hid (HB9.out.trans (hbk.mono HB9.out.size))
    clear hbk
    go_wp2_with fail
    go_ret
    exact ⟨rfl, HBK.out⟩
  obtain ⟨rfl, rfl, hs0, hms, hbf, js, hjs, hiso, hos, hjl, hj8⟩ := hrv.2 hs1
  have hon8 : on ≤ 8 := by rw [← HON.out, hjs, List.length_map]; exact hj8
  have hon9 : (on : Int) ≤ 8 := by omega
  have HJS := Lib.hid hjs; have HISO := Lib.hid hiso; have HOS := Lib.hid hos; have HJL := Lib.hid hjl; have HBF := Lib.hid hbf
  clear hrv hs1 hjs hiso hos hjl hbf hj8
  go_wp2_with fail
  refine (isorder_any _ N s O on oc (orderL N a s) _ HN9.out HOK.out (by have := HS.out; rwa [Int.toNat_natCast] at this) HON.out (by omega) HO9.out).mono ?_
  rintro e w10 ⟨b, rfl, hb, hio⟩
  obtain rfl : b = true := hio.2 HISO.out
  have HZ10 := Lib.hid ((hb.block _ (heapsz HZ9.out)).trans HZ9.out)
  have HB10 := Lib.hid (HB9.out.trans (hb.mono HB9.out.size))
  have HN10 := Lib.hid (HN9.out.up hb)
  have HA10 := Lib.hid (RowAt.up HA9.out hb)
  have HD10 := Lib.hid (RowAt.up HD9.out hb)
  have HO10 := Lib.hid (RowAt.up HO9.out hb)
  clear hb hio
  clear v0 v1 v2
  obtain ⟨v0, v1, v2⟩ := box3_cells HZ10.out
  go_wp2_with fail
  refine (rslack_any _ N a _ _ dn dc on oc js _ HN10.out HOK.out (by have := HPL.out; omega) HDN.out HD10.out (by rw [← HON.out, HJS.out, List.length_map]) (by omega) HJL.out (by rw [← HJS.out]; exact HO10.out)).mono ?_
  rintro e w11 ⟨rfl, hb⟩
  have HZ11 := Lib.hid ((hb.block _ (heapsz HZ10.out)).trans HZ10.out)
  have HB11 := Lib.hid (HB10.out.trans (hb.mono HB10.out.size))
  have HN11 := Lib.hid (HN10.out.up hb)
  have HA11 := Lib.hid (RowAt.up HA10.out hb)
  have HD11 := Lib.hid (RowAt.up HD10.out hb)
  have HO11 := Lib.hid (RowAt.up HO10.out hb)
  clear hb
  clear v0 v1 v2
  obtain ⟨v0, v1, v2⟩ := box3_cells HZ11.out
  rw [HOS.out]
  by_cases hlt : m < S
  · clear v0 v1 v2
    go_wp2_with fail
    refine (known_any _).mono ?_
    rintro e wk ⟨rfl, hbk⟩
    have HBK := Lib.hid (HB11.out.trans (hbk.mono HB11.out.size))
    clear hbk
    go_wp2_with fail
    go_ret
    exact ⟨rfl, HBK.out⟩
  obtain rfl : m = S := by omega
  have HB0 := Lib.hid (HBF.out rfl)
  clear v0 v1 v2
  go_wp2_with fail
  refine (before_any os (orderL N a s) _ _ n c on oc _ HL.out HON.out (by omega) HA11.out HO11.out).mono ?_
  rintro e w12 ⟨rfl, hb⟩
  have HZ12 := Lib.hid ((hb.block _ (heapsz HZ11.out)).trans HZ11.out)
  have HB12 := Lib.hid (HB11.out.trans (hb.mono HB11.out.size))
  have HN12 := Lib.hid (HN11.out.up hb)
  have HA12 := Lib.hid (RowAt.up HA11.out hb)
  have HD12 := Lib.hid (RowAt.up HD11.out hb)
  have HO12 := Lib.hid (RowAt.up HO11.out hb)
  clear hb
  rw [HB0.out]
  go_wp2_with fail
  refine (known_any _).mono ?_
  rintro e wk ⟨rfl, hbk⟩
  have HBK := Lib.hid (HB12.out.trans (hbk.mono HB12.out.size))
  clear hbk
  go_wp2_with fail
  go_ret
  exact ⟨rfl, HBK.out⟩
end Go.Proofs.Yticmeeinjkoodaa
