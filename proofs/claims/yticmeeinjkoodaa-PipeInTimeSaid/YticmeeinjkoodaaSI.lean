/- Pipes: the law PipeInTime. -/
import Derived.Test.YticmeeinjkoodaaSD
namespace Go.Proofs.Yticmeeinjkoodaa
open Go.RowKit Go.Shelf
set_option maxRecDepth 100000 in
set_option maxHeartbeats 16000000 in
theorem intime_law (V : NV) (N : Nt) (p f : Int) (A : Option Addr) (n c : Nat) (fs : List Int) (B : Option Addr) (nb cb : Nat) (wh : List Int) (w : World) (hN : NtAt w w.heap.size V N) (hl : fs.length = n) (hn : n ≤ maxLen) (hA : IntsAt w w.heap.size A fs) (hlb : wh.length = nb) (hnb : nb ≤ maxLen) (hB : IntsAt w w.heap.size B wh) :
    Calls Try.prog 10 #[nvV V, .int .i64 p, .int .i64 f, .slice A n c, .slice B nb cb] w fun e w' => e = .returned (.bool true) ∧ Below w.heap.size w w' := by
  have HA1 := Lib.hid (RowAt.up hA ((Below.refl w.heap.size w).alloc (Nat.le_refl _) (.cells (nvC V) 26))); have HL := Lib.hid hl; have HNN := Lib.hid hn
  have HC1 := Lib.hid (RowAt.up hB ((Below.refl w.heap.size w).alloc (Nat.le_refl _) (.cells (nvC V) 26))); have HLB := Lib.hid hlb; have HNB := Lib.hid hnb
  have z := heap_alloc_new w (.cells (nvC V) 26)
  have hb := (Below.refl w.heap.size w).alloc (Nat.le_refl _) (.cells (nvC V) 26)
  obtain ⟨w1, hw1⟩ : ∃ z, w.alloc (.cells (nvC V) 26) = z := ⟨_, rfl⟩
  rw [hw1] at z hb
  have HW := Lib.hid hw1
  have HN := Lib.hid (hN.up hb)
  obtain ⟨al, nl, cl, af, nf, cf, aw, nw, cw⟩ := V
  obtain ⟨v0, v1, v2⟩ := box3_cells z
  have hml := hN.ml; have hmf := hN.mf; have hmw := hN.mw
  unfold maxLen at hml hmf hmw
  simp only at hml hmf hmw v0 v1 v2
  have HB := Lib.hid hb; have Z := Lib.hid z
  have HNL := Lib.hid hN.nl; have HNF := Lib.hid hN.nf; have HNW := Lib.hid hN.nw
  clear z hb hw1 hN
  have HZ1 := Z; have HB1 := HB; have HN1 := HN
  clear Z HB HN
  unfold maxLen at hn hnb
  clear hA hl hB hlb
  rw [show w.alloc (.cells (nvC ⟨al, nl, cl, af, nf, cf, aw, nw, cw⟩) 26) = w1 from HW.out] at HA1 HC1
  go_enter Try.func10, Try.ntmps10
  go_wp2_with fail
  rw [show w.alloc (.cells #[.slice al nl cl, .slice af nf cf, .slice aw nw cw] 26) = w1 from HW.out]
  refine (short_any _ N _ HN1.out).mono ?_
  rintro e w2 ⟨rfl, hb⟩
  have HZ2 := Lib.hid ((hb.block _ (heapsz HZ1.out)).trans HZ1.out)
  have HB2 := Lib.hid (HB1.out.trans (hb.mono HB1.out.size))
  have HN2 := Lib.hid (HN1.out.up hb)
  have HA2 := Lib.hid (RowAt.up HA1.out hb)
  have HC2 := Lib.hid (RowAt.up HC1.out hb)
  clear hb
  clear v0 v1 v2
  obtain ⟨v0, v1, v2⟩ := box3_cells HZ2.out
  cases hsh : shortB N
  · clear v0 v1 v2 hsh
    go_wp2_with fail
    refine (known_any _).mono ?_
    rintro e wk ⟨rfl, hbk⟩
    have HBK := Lib.hid (HB2.out.trans (hbk.mono HB2.out.size))
    clear hbk
    go_wp2_with fail
    go_ret
    exact ⟨rfl, HBK.out⟩
  have h8 : nl ≤ 8 := by
    unfold shortB at hsh
    simp only [Bool.and_eq_true, decide_eq_true_eq] at hsh
    have := hsh.2.1
    have h1 := HNL.out
    first | omega | (simp only at h1; omega)
  clear hsh
  go_wp2_with fail
  refine (rnet_any _ N _ HN2.out (by simp only; omega)).mono ?_
  rintro e w3 ⟨rfl, hb⟩
  have HZ3 := Lib.hid ((hb.block _ (heapsz HZ2.out)).trans HZ2.out)
  have HB3 := Lib.hid (HB2.out.trans (hb.mono HB2.out.size))
  have HN3 := Lib.hid (HN2.out.up hb)
  have HA3 := Lib.hid (RowAt.up HA2.out hb)
  have HC3 := Lib.hid (RowAt.up HC2.out hb)
  clear hb
  clear v0 v1 v2
  obtain ⟨v0, v1, v2⟩ := box3_cells HZ3.out
  cases hnt : ntB N
  · clear v0 v1 v2 hnt
    go_wp2_with fail
    refine (known_any _).mono ?_
    rintro e wk ⟨rfl, hbk⟩
    have HBK := Lib.hid (HB3.out.trans (hbk.mono HB3.out.size))
    clear hbk
    go_wp2_with fail
    go_ret
    exact ⟨rfl, HBK.out⟩
  have HOK := Lib.hid (ntB_iff.1 hnt)
  clear hnt
  go_wp2_with fail
  refine (rplace_any _ N p _ HN3.out).mono ?_
  rintro e w4 ⟨rfl, hb⟩
  have HZ4 := Lib.hid ((hb.block _ (heapsz HZ3.out)).trans HZ3.out)
  have HB4 := Lib.hid (HB3.out.trans (hb.mono HB3.out.size))
  have HN4 := Lib.hid (HN3.out.up hb)
  have HA4 := Lib.hid (RowAt.up HA3.out hb)
  have HC4 := Lib.hid (RowAt.up HC3.out hb)
  clear hb
  clear v0 v1 v2
  obtain ⟨v0, v1, v2⟩ := box3_cells HZ4.out
  cases hpl : inB 0 p N.lo.length
  · clear v0 v1 v2 hpl
    go_wp2_with fail
    refine (known_any _).mono ?_
    rintro e wk ⟨rfl, hbk⟩
    have HBK := Lib.hid (HB4.out.trans (hbk.mono HB4.out.size))
    clear hbk
    go_wp2_with fail
    go_ret
    exact ⟨rfl, HBK.out⟩
  have HPL := Lib.hid (inB_iff.1 hpl)
  clear hpl
  go_wp2_with fail
  refine (rfault_any _ N f _ HN4.out HOK.out.n5.2).mono ?_
  rintro e w5 ⟨rfl, hb⟩
  have HZ5 := Lib.hid ((hb.block _ (heapsz HZ4.out)).trans HZ4.out)
  have HB5 := Lib.hid (HB4.out.trans (hb.mono HB4.out.size))
  have HN5 := Lib.hid (HN4.out.up hb)
  have HA5 := Lib.hid (RowAt.up HA4.out hb)
  have HC5 := Lib.hid (RowAt.up HC4.out hb)
  clear hb
  clear v0 v1 v2
  obtain ⟨v0, v1, v2⟩ := box3_cells HZ5.out
  cases hfb : faultB N.lo.length f
  · clear v0 v1 v2 hfb
    go_wp2_with fail
    refine (known_any _).mono ?_
    rintro e wk ⟨rfl, hbk⟩
    have HBK := Lib.hid (HB5.out.trans (hbk.mono HB5.out.size))
    clear hbk
    go_wp2_with fail
    go_ret
    exact ⟨rfl, HBK.out⟩
  have HFB : Hid (0 ≤ f ∧ f < 2 ^ N.lo.length) := Lib.hid (by
    unfold faultB at hfb
    rw [inB_iff] at hfb
    omega)
  have HFS : Hid (FsOk N p [f]) := Lib.hid ⟨by simp, HOK.out, HPL.out, fun g hg => by
    rw [List.mem_singleton] at hg
    rw [hg]
    exact HFB.out⟩
  have HS : Hid (f.toNat < 2 ^ N.lo.length) := Lib.hid (by
    have h1 := HFB.out
    have hpow : (2 : Int) ^ N.lo.length = ((2 ^ N.lo.length : Nat) : Int) := by simp
    omega)
  obtain ⟨s, rfl⟩ : ∃ s : Nat, f = s := ⟨f.toNat, by have := HFB.out; omega⟩
  obtain ⟨a, rfl⟩ : ∃ a : Nat, p = a := ⟨p.toNat, by have := HPL.out; omega⟩
  clear hfb
  go_wp2_with fail
  refine (percents_any fs _ n c _ HL.out HNN.out HA5.out).mono ?_
  rintro e w6 ⟨rfl, hb⟩
  have HZ6 := Lib.hid ((hb.block _ (heapsz HZ5.out)).trans HZ5.out)
  have HB6 := Lib.hid (HB5.out.trans (hb.mono HB5.out.size))
  have HN6 := Lib.hid (HN5.out.up hb)
  have HA6 := Lib.hid (RowAt.up HA5.out hb)
  have HC6 := Lib.hid (RowAt.up HC5.out hb)
  clear hb
  clear v0 v1 v2
  obtain ⟨v0, v1, v2⟩ := box3_cells HZ6.out
  cases hpc : pctB fs
  · clear v0 v1 v2 hpc
    go_wp2_with fail
    refine (known_any _).mono ?_
    rintro e wk ⟨rfl, hbk⟩
    have HBK := Lib.hid (HB6.out.trans (hbk.mono HB6.out.size))
    clear hbk
    go_wp2_with fail
    go_ret
    exact ⟨rfl, HBK.out⟩
  have HPF := Lib.hid (pct_ok HL.out hpc)
  clear hpc
  go_wp2_with fail
  refine (percents_any wh _ nb cb _ HLB.out HNB.out HC6.out).mono ?_
  rintro e w7 ⟨rfl, hb⟩
  have HZ7 := Lib.hid ((hb.block _ (heapsz HZ6.out)).trans HZ6.out)
  have HB7 := Lib.hid (HB6.out.trans (hb.mono HB6.out.size))
  have HN7 := Lib.hid (HN6.out.up hb)
  have HA7 := Lib.hid (RowAt.up HA6.out hb)
  have HC7 := Lib.hid (RowAt.up HC6.out hb)
  clear hb
  clear v0 v1 v2
  obtain ⟨v0, v1, v2⟩ := box3_cells HZ7.out
  cases hpc : pctB wh
  · clear v0 v1 v2 hpc
    go_wp2_with fail
    refine (known_any _).mono ?_
    rintro e wk ⟨rfl, hbk⟩
    have HBK := Lib.hid (HB7.out.trans (hbk.mono HB7.out.size))
    clear hbk
    go_wp2_with fail
    go_ret
    exact ⟨rfl, HBK.out⟩
  have HPC := Lib.hid (pct_ok HLB.out hpc)
  clear hpc
  have HTO := Lib.hid (told_order HFS.out rfl)
  go_wp2_with fail
  refine (Order_any _ N a s _ HN7.out).mono ?_
  rintro e w8 ⟨v, rfl, hb, hro⟩
  have HZ8 := Lib.hid ((hb.block _ (heapsz HZ7.out)).trans HZ7.out)
  have HB8 := Lib.hid (HB7.out.trans (hb.mono HB7.out.size))
  have HN8 := Lib.hid (HN7.out.up hb)
  have HA8 := Lib.hid (RowAt.up HA7.out hb)
  have HC8 := Lib.hid (RowAt.up HC7.out hb)
  obtain ⟨O, oc, rfl, hO, _⟩ := hro.at_ (k := 1) (fun _ => rfl)
  obtain ⟨on, hon⟩ : ∃ z, (orderL N a s).length = z := ⟨_, rfl⟩
  rw [hon]
  have HON := Lib.hid hon
  have HO8 := Lib.hid hO
  clear hb hro hO hon
  clear v0 v1 v2
  obtain ⟨v0, v1, v2⟩ := box3_cells HZ8.out
  obtain ⟨E, hE⟩ : ∃ z, orderE N a s = z := ⟨_, rfl⟩
  obtain ⟨S, hS⟩ : ∃ z, orderS N a s = z := ⟨_, rfl⟩
  rw [hE, hS]
  have hto := HTO.out
  rw [Int.toNat_natCast, Int.toNat_natCast, hE] at hto
  obtain ⟨sl, hsl⟩ : ∃ z, slk N 0 s a 0 = z := ⟨_, rfl⟩
  rw [hsl] at hto
  clear hE hS hsl HTO
  by_cases hs1 : sl = -1
  · obtain rfl := hto.1 hs1
    clear hto hs1 v0 v1 v2
    go_wp2_with fail
    refine (known_any _).mono ?_
    rintro e wk ⟨rfl, hbk⟩
    have HBK := Lib.hid (HB8.out.trans (hbk.mono HB8.out.size))
    clear hbk
    go_wp2_with fail
    go_ret
    exact ⟨rfl, HBK.out⟩
  obtain ⟨rfl, js, hjs, hiso, hos, hjl, hj5⟩ := hto.2 hs1
  have hon8 : on ≤ 5 := by rw [← HON.out, hjs, List.length_map]; exact hj5
  have hon9 : (on : Int) ≤ 8 := by omega
  have HJS := Lib.hid hjs; have HISO := Lib.hid hiso; have HOS := Lib.hid hos; have HJL := Lib.hid hjl
  have HJN : Hid (js.length = on) := Lib.hid (by rw [← HON.out, hjs, List.length_map])
  clear hto hs1 hjs hiso hos hjl hj5
  go_wp2_with fail
  refine (isorder_any _ N s O on oc (orderL N a s) _ HN8.out HOK.out (by have := HS.out; rwa [Int.toNat_natCast] at this) HON.out (by omega) HO8.out).mono ?_
  rintro e w9 ⟨b, rfl, hb, hio⟩
  obtain rfl : b = true := hio.2 HISO.out
  have HZ9 := Lib.hid ((hb.block _ (heapsz HZ8.out)).trans HZ8.out)
  have HB9 := Lib.hid (HB8.out.trans (hb.mono HB8.out.size))
  have HN9 := Lib.hid (HN8.out.up hb)
  have HA9 := Lib.hid (RowAt.up HA8.out hb)
  have HC9 := Lib.hid (RowAt.up HC8.out hb)
  have HO9 := Lib.hid (RowAt.up HO8.out hb)
  clear hb hio
  clear v0 v1 v2
  obtain ⟨v0, v1, v2⟩ := box3_cells HZ9.out
  have HRA9 := Lib.hid (show IntsAt w9 w9.heap.size O (js.map fun k : Nat => (k : Int)) by rw [← HJS.out]; exact HO9.out)
  go_wp2_with fail
  refine (fun (h : ∀ C : Code, C = bodyIT → Code.wp Try.prog (Code.loop C) _ _ _) => h _ (by kernel_rfl)) ?_
  rintro _ rfl
  refine loopIT ⟨al, nl, cl, af, nf, cf, aw, nw, cw⟩ N w.heap.size a js fs wh A n c B nb cb O on oc w9 HN9.out HZ9.out HOK.out (by have h1 := HPL.out; omega) HL.out HA9.out HPF.out HLB.out HC9.out HPC.out HJL.out HJN.out (by omega) HRA9.out HOS.out ?_
  intro w10
  intros
  rename_i hb
  have HZ10 := Lib.hid ((hb.block _ (heapsz HZ9.out)).trans HZ9.out)
  have HB10 := Lib.hid (HB9.out.trans (hb.mono HB9.out.size))
  have HN10 := Lib.hid (HN9.out.up hb)
  clear hb v0 v1 v2
  go_wp2_with fail
  refine (known_any _).mono ?_
  rintro e wk ⟨rfl, hbk⟩
  have HBK := Lib.hid (HB10.out.trans (hbk.mono HB10.out.size))
  clear hbk
  go_wp2_with fail
  go_ret
  exact ⟨rfl, HBK.out⟩
end Go.Proofs.Yticmeeinjkoodaa
