/- Pipes: the law PipeWrapped. -/
import Derived.Test.YticmeeinjkoodaaRP
namespace Go.Proofs.Yticmeeinjkoodaa
open Go.RowKit Go.Shelf

theorem FsOk.wrap {N : Nt} {p : Int} {fs : List Int} (K : FsOk N p fs) (s : Nat) : FsOk (N.wrap s) p fs :=
  ⟨K.len, wrap_ok K.ok s, by show 0 ≤ p ∧ p ≤ ((wrL s N.lo).length : Nat); rw [wrL_len]; exact K.pl, fun f hf => by show 0 ≤ f ∧ f < 2 ^ (wrL s N.lo).length; rw [wrL_len]; exact K.fs f hf⟩
theorem weakR_wrap {N : Nt} {p : Int} {fs : List Int} (K : FsOk N p fs) (s : Nat) : weakR (N.wrap s) p fs = weakI N s p.toNat fs ∧ faultsI (N.wrap s) p fs = 0 := by
  have h0 := faults_zero.2 (K.wrap s)
  refine ⟨?_, h0⟩
  unfold weakR weakI
  rw [if_pos h0]
  exact weak_wrap fs 0 K.fs
/-- The best wrapping, beside another one. -/
theorem wraps {N : Nt} {p : Int} {fs : List Int} (K : FsOk N p fs) {o : Nat} (ho : o < 2 ^ N.lo.length) {x c : Int} {e : Int} (hr : wrapR N p fs = (x, c, e)) :
    (e = 5 ∧ x = 0 ∧ c = 0 ∧ 0 ≤ weakI N o p.toNat fs) ∨ (e = 0 ∧ ∃ w : Nat, x = w ∧ w < 2 ^ N.lo.length ∧ c = costK N w N.lo.length ∧ weakI N w p.toNat fs = -1 ∧ (weakI N o p.toNat fs < 0 → c < costK N o N.lo.length ∨ (c = costK N o N.lo.length ∧ w ≤ o))) := by
  unfold wrapR at hr
  rw [if_pos (faults_zero.2 K)] at hr
  obtain ⟨h1, h2⟩ := wrap_least N p.toNat fs (2 ^ N.lo.length)
  have hs : ∀ j, weakI N j p.toNat fs = -1 ∨ 0 ≤ weakI N j p.toNat fs := fun j => weak_sign N j p.toNat fs 0
  cases hb : (wrapI N p.toNat fs (2 ^ N.lo.length)).2.2 with
  | false =>
    rw [hb] at hr
    simp only [Bool.false_eq_true, if_false, Prod.mk.injEq] at hr
    obtain ⟨e1, e2, e3⟩ := hr
    refine .inl ⟨e3.symm, e1.symm, e2.symm, ?_⟩
    have := h2 hb o ho
    omega
  | true =>
    rw [hb] at hr
    simp only [if_true, Prod.mk.injEq] at hr
    obtain ⟨e1, e2, e3⟩ := hr
    obtain ⟨q1, q2, q3, q4⟩ := h1 hb
    refine .inr ⟨e3.symm, _, e1.symm, q1, by rw [← e2]; exact q3, ?_, fun h => ?_⟩
    · have := hs (wrapI N p.toNat fs (2 ^ N.lo.length)).1
      omega
    · have := q4 o ho h
      rw [e2] at this
      exact this
set_option maxRecDepth 100000 in
set_option maxHeartbeats 16000000 in
theorem wrapped_law (V : NV) (N : Nt) (p : Int) (A : Option Addr) (n c : Nat) (fs : List Int) (o : Int) (w : World) (hN : NtAt w w.heap.size V N) (hl : fs.length = n) (hn : n ≤ maxLen) (hA : IntsAt w w.heap.size A fs) :
    Calls Try.prog 14 #[nvV V, .int .i64 p, .slice A n c, .int .i64 o] w fun e w' => e = .returned (.bool true) ∧ Below w.heap.size w w' := by
  have HA1 := Lib.hid (RowAt.up hA ((Below.refl w.heap.size w).alloc (Nat.le_refl _) (.cells (nvC V) 26))); have HL := Lib.hid hl; have HNN := Lib.hid hn
  have z := heap_alloc_new w (.cells (nvC V) 26)
  have hb := (Below.refl w.heap.size w).alloc (Nat.le_refl _) (.cells (nvC V) 26)
  obtain ⟨w1, hw1⟩ : ∃ z, w.alloc (.cells (nvC V) 26) = z := ⟨_, rfl⟩
  rw [hw1] at z hb
  have HW := Lib.hid hw1
  have HN := Lib.hid (hN.up hb)
  obtain ⟨al, nl, cl, af, nf, cf, aw, nw, cw⟩ := V
  obtain ⟨v0, v1, v2⟩ := box3_cells z
  have hml := hN.ml; have hmf := hN.mf; have hmw := hN.mw
  unfold maxLen at hml hmf hmw
  simp only at hml hmf hmw v0 v1 v2
  have HB := Lib.hid hb; have Z := Lib.hid z
  have HNL := Lib.hid hN.nl; have HNF := Lib.hid hN.nf; have HNW := Lib.hid hN.nw
  clear z hb hw1 hN
  have HZ1 := Z; have HB1 := HB; have HN1 := HN
  clear Z HB HN
  unfold maxLen at hn
  clear hA hl
  rw [show w.alloc (.cells (nvC ⟨al, nl, cl, af, nf, cf, aw, nw, cw⟩) 26) = w1 from HW.out] at HA1
  go_enter Try.func14, Try.ntmps14
  go_wp2_with fail
  rw [show w.alloc (.cells #[.slice al nl cl, .slice af nf cf, .slice aw nw cw] 26) = w1 from HW.out]
  refine (short_any _ N _ HN1.out).mono ?_
  rintro e w2 ⟨rfl, hb⟩
  have HZ2 := Lib.hid ((hb.block _ (heapsz HZ1.out)).trans HZ1.out)
  have HB2 := Lib.hid (HB1.out.trans (hb.mono HB1.out.size))
  have HN2 := Lib.hid (HN1.out.up hb)
  have HA2 := Lib.hid (RowAt.up HA1.out hb)
  clear hb
  clear v0 v1 v2
  obtain ⟨v0, v1, v2⟩ := box3_cells HZ2.out
  cases hsh : shortB N
  · clear v0 v1 v2 hsh
    go_wp2_with fail
    refine (known_any _).mono ?_
    rintro e wk ⟨rfl, hbk⟩
    have HBK := Lib.hid (HB2.out.trans (hbk.mono HB2.out.size))
    clear hbk
    go_wp2_with fail
    go_ret
    exact ⟨rfl, HBK.out⟩
  have h8 : nl ≤ 8 := by
    unfold shortB at hsh
    simp only [Bool.and_eq_true, decide_eq_true_eq] at hsh
    have := hsh.2.1
    have h1 := HNL.out
    first | omega | (simp only at h1; omega)
  clear hsh
  by_cases h4 : (4 : Int) < (nl : Int)
  · go_wp2_with fail
    refine (known_any _).mono ?_
    rintro e wk ⟨rfl, hbk⟩
    have HBK := Lib.hid (HB2.out.trans (hbk.mono HB2.out.size))
    clear hbk
    go_wp2_with fail
    go_ret
    exact ⟨rfl, HBK.out⟩
  go_wp2_with fail
  refine (faulted_any _ N p A n c fs _ HN2.out h8 HL.out HNN.out HA2.out).mono ?_
  rintro e w3 ⟨rfl, hb⟩
  have HZ3 := Lib.hid ((hb.block _ (heapsz HZ2.out)).trans HZ2.out)
  have HB3 := Lib.hid (HB2.out.trans (hb.mono HB2.out.size))
  have HN3 := Lib.hid (HN2.out.up hb)
  have HA3 := Lib.hid (RowAt.up HA2.out hb)
  clear hb
  clear v0 v1 v2
  obtain ⟨v0, v1, v2⟩ := box3_cells HZ3.out
  obtain ⟨E0, hE0⟩ : ∃ z, faultsI N p fs = z := ⟨_, rfl⟩
  rw [hE0]
  have hE3 : E0 = 3 ∨ E0 = 2 ∨ E0 = 0 := by
    rw [← hE0]
    unfold faultsI
    split
    · exact .inl rfl
    · split
      · exact .inr (.inr rfl)
      · exact .inr (.inl rfl)
  rcases hE3 with h0 | h0 | h0
  · clear v0 v1 v2 hE0
    subst h0
    go_wp2_with fail
    refine (known_any _).mono ?_
    rintro e wk ⟨rfl, hbk⟩
    have HBK := Lib.hid (HB3.out.trans (hbk.mono HB3.out.size))
    clear hbk
    go_wp2_with fail
    go_ret
    exact ⟨rfl, HBK.out⟩
  · clear v0 v1 v2 hE0
    subst h0
    go_wp2_with fail
    refine (known_any _).mono ?_
    rintro e wk ⟨rfl, hbk⟩
    have HBK := Lib.hid (HB3.out.trans (hbk.mono HB3.out.size))
    clear hbk
    go_wp2_with fail
    go_ret
    exact ⟨rfl, HBK.out⟩
  subst h0
  have HK := Lib.hid (faults_zero.1 hE0)
  clear hE0
  go_wp2_with fail
  refine (rfault_any _ N o _ HN3.out HK.out.ok.n5.2).mono ?_
  rintro e w4 ⟨rfl, hb⟩
  have HZ4 := Lib.hid ((hb.block _ (heapsz HZ3.out)).trans HZ3.out)
  have HB4 := Lib.hid (HB3.out.trans (hb.mono HB3.out.size))
  have HN4 := Lib.hid (HN3.out.up hb)
  have HA4 := Lib.hid (RowAt.up HA3.out hb)
  clear hb
  clear v0 v1 v2
  obtain ⟨v0, v1, v2⟩ := box3_cells HZ4.out
  cases hfb : faultB N.lo.length o
  · clear v0 v1 v2 hfb
    go_wp2_with fail
    refine (known_any _).mono ?_
    rintro e wk ⟨rfl, hbk⟩
    have HBK := Lib.hid (HB4.out.trans (hbk.mono HB4.out.size))
    clear hbk
    go_wp2_with fail
    go_ret
    exact ⟨rfl, HBK.out⟩
  have hfb2 : 0 ≤ o ∧ o < 2 ^ N.lo.length := by
    unfold faultB at hfb
    rw [inB_iff] at hfb
    omega
  have hpow : (2 : Int) ^ N.lo.length = ((2 ^ N.lo.length : Nat) : Int) := by simp
  obtain ⟨s, rfl⟩ : ∃ s : Nat, o = s := ⟨o.toNat, by omega⟩
  have hs : s < 2 ^ N.lo.length := by omega
  have h32 : 2 ^ N.lo.length ≤ 32 := Nat.pow_le_pow_right (show 0 < 2 by decide) HK.out.ok.n5.2
  have hs32 : s < 32 := by omega
  have HPB := Lib.hid (fun (x cc e : Int) (hr : wrapR N p fs = (x, cc, e)) => wraps HK.out hs hr)
  have HWO := Lib.hid (weakR_wrap HK.out s)
  have HP32 := Lib.hid h32
  obtain ⟨kk, hkk⟩ : ∃ z, weakI N s p.toNat fs = z := ⟨_, rfl⟩
  obtain ⟨mm, hmm⟩ : ∃ z, costK N s N.lo.length = z := ⟨_, rfl⟩
  rw [hkk, hmm] at HPB
  rw [hkk] at HWO
  have HMM := Lib.hid hmm
  clear hfb hfb2 hpow hs h32 hkk hmm
  go_wp2_with fail
  refine (Wrap_any _ N p A n c fs _ HN4.out HL.out HNN.out HA4.out).mono ?_
  rintro e w5 ⟨rfl, hb⟩
  have HZ5 := Lib.hid ((hb.block _ (heapsz HZ4.out)).trans HZ4.out)
  have HB5 := Lib.hid (HB4.out.trans (hb.mono HB4.out.size))
  have HN5 := Lib.hid (HN4.out.up hb)
  have HA5 := Lib.hid (RowAt.up HA4.out hb)
  clear hb
  clear v0 v1 v2
  obtain ⟨v0, v1, v2⟩ := box3_cells HZ5.out
  obtain ⟨⟨x, cc, e⟩, hr⟩ : ∃ z, wrapR N p fs = z := ⟨_, rfl⟩
  rw [hr]
  have hpb := HPB.out x cc e hr
  have HPBB := Lib.hid hpb
  simp only
  clear hr hpb HPB
  go_wp2_with fail
  refine (wrapped_any _ N (s := s) hs32 _ HN5.out HK.out.ok).mono ?_
  rintro e w6 ⟨Va, rfl, hb, hnwa, hvla⟩
  have HZ6 := Lib.hid ((hb.block _ (heapsz HZ5.out)).trans HZ5.out)
  have HB6 := Lib.hid (HB5.out.trans (hb.mono HB5.out.size))
  have HN6 := Lib.hid (HN5.out.up hb)
  have HA6 := Lib.hid (RowAt.up HA5.out hb)
  clear hb
  clear v0 v1 v2
  obtain ⟨v0, v1, v2⟩ := box3_cells HZ6.out
  have HNWa := Lib.hid hnwa
  clear hnwa hvla
  obtain ⟨ala, nla, cla, afa, nfa, cfa, awa, nwa, cwa⟩ := Va
  go_wp2_with fail
  refine (Weak_any _ (N.wrap s) p A n c fs _ HNWa.out HL.out HNN.out HA6.out).mono ?_
  rintro e w7 ⟨rfl, hb⟩
  have HZ7 := Lib.hid ((hb.block _ (heapsz HZ6.out)).trans HZ6.out)
  have HB7 := Lib.hid (HB6.out.trans (hb.mono HB6.out.size))
  have HN7 := Lib.hid (HN6.out.up hb)
  have HA7 := Lib.hid (RowAt.up HA6.out hb)
  clear hb
  clear v0 v1 v2
  obtain ⟨v0, v1, v2⟩ := box3_cells HZ7.out
  rw [HWO.out.1, HWO.out.2]
  rcases HPBB.out with ⟨rfl, rfl, rfl, hk0⟩ | ⟨rfl, v, rfl, hv, hcc, hvw, hvb⟩
  · clear v0 v1 v2
    go_wp2_with fail
    refine (known_any _).mono ?_
    rintro e wk ⟨rfl, hbk⟩
    have HBK := Lib.hid (HB7.out.trans (hbk.mono HB7.out.size))
    clear hbk
    go_wp2_with fail
    go_ret
    exact ⟨rfl, HBK.out⟩
  have hv32 : v < 32 := by have := HP32.out; omega
  have HWV := Lib.hid (weakR_wrap HK.out v)
  rw [hvw] at HWV
  have HFV : Hid (faultB N.lo.length (v : Int) = true) := Lib.hid (by
    have hpow : (2 : Int) ^ N.lo.length = ((2 ^ N.lo.length : Nat) : Int) := by simp
    unfold faultB
    rw [inB_iff]
    omega)
  have HCC := Lib.hid hcc; have HVB := Lib.hid hvb
  clear hv hcc hvw hvb HPBB
  go_wp2_with fail
  refine (rfault_any _ N (v : Int) _ HN7.out HK.out.ok.n5.2).mono ?_
  rintro e w8 ⟨rfl, hb⟩
  have HZ8 := Lib.hid ((hb.block _ (heapsz HZ7.out)).trans HZ7.out)
  have HB8 := Lib.hid (HB7.out.trans (hb.mono HB7.out.size))
  have HN8 := Lib.hid (HN7.out.up hb)
  have HA8 := Lib.hid (RowAt.up HA7.out hb)
  clear hb
  clear v0 v1 v2
  obtain ⟨v0, v1, v2⟩ := box3_cells HZ8.out
  rw [HFV.out]
  go_wp2_with fail
  refine (rcost_any _ N hv32 _ HN8.out HK.out.ok).mono ?_
  rintro e w9 ⟨rfl, hb⟩
  have HZ9 := Lib.hid ((hb.block _ (heapsz HZ8.out)).trans HZ8.out)
  have HB9 := Lib.hid (HB8.out.trans (hb.mono HB8.out.size))
  have HN9 := Lib.hid (HN8.out.up hb)
  have HA9 := Lib.hid (RowAt.up HA8.out hb)
  clear hb
  clear v0 v1 v2
  obtain ⟨v0, v1, v2⟩ := box3_cells HZ9.out
  rw [← HCC.out]
  go_wp2_with fail
  refine (wrapped_any _ N (s := v) hv32 _ HN9.out HK.out.ok).mono ?_
  rintro e w10 ⟨Vb, rfl, hb, hnwb, hvlb⟩
  have HZ10 := Lib.hid ((hb.block _ (heapsz HZ9.out)).trans HZ9.out)
  have HB10 := Lib.hid (HB9.out.trans (hb.mono HB9.out.size))
  have HN10 := Lib.hid (HN9.out.up hb)
  have HA10 := Lib.hid (RowAt.up HA9.out hb)
  clear hb
  clear v0 v1 v2
  obtain ⟨v0, v1, v2⟩ := box3_cells HZ10.out
  have HNWb := Lib.hid hnwb
  clear hnwb hvlb
  obtain ⟨alb, nlb, clb, afb, nfb, cfb, awb, nwb, cwb⟩ := Vb
  go_wp2_with fail
  refine (Weak_any _ (N.wrap v) p A n c fs _ HNWb.out HL.out HNN.out HA10.out).mono ?_
  rintro e w11 ⟨rfl, hb⟩
  have HZ11 := Lib.hid ((hb.block _ (heapsz HZ10.out)).trans HZ10.out)
  have HB11 := Lib.hid (HB10.out.trans (hb.mono HB10.out.size))
  have HN11 := Lib.hid (HN10.out.up hb)
  have HA11 := Lib.hid (RowAt.up HA10.out hb)
  clear hb
  clear v0 v1 v2
  obtain ⟨v0, v1, v2⟩ := box3_cells HZ11.out
  rw [HWV.out.1, HWV.out.2]
  go_wp2_with fail
  refine (rcost_any _ N hs32 _ HN11.out HK.out.ok).mono ?_
  rintro e w12 ⟨rfl, hb⟩
  have HZ12 := Lib.hid ((hb.block _ (heapsz HZ11.out)).trans HZ11.out)
  have HB12 := Lib.hid (HB11.out.trans (hb.mono HB11.out.size))
  have HN12 := Lib.hid (HN11.out.up hb)
  have HA12 := Lib.hid (RowAt.up HA11.out hb)
  clear hb
  rw [HMM.out]
  clear v0 v1 v2
  by_cases hk0 : 0 ≤ kk
  · go_wp2_with fail
    refine (known_any _).mono ?_
    rintro e wk ⟨rfl, hbk⟩
    have HBK := Lib.hid (HB12.out.trans (hbk.mono HB12.out.size))
    clear hbk
    go_wp2_with fail
    go_ret
    exact ⟨rfl, HBK.out⟩
  have hvb := HVB.out (by omega)
  by_cases hlt : cc < mm
  · go_wp2_with fail
    refine (known_any _).mono ?_
    rintro e wk ⟨rfl, hbk⟩
    have HBK := Lib.hid (HB12.out.trans (hbk.mono HB12.out.size))
    clear hbk
    go_wp2_with fail
    go_ret
    exact ⟨rfl, HBK.out⟩
  have hce : cc = mm ∧ v ≤ s := by omega
  obtain ⟨rfl, hvs⟩ := hce
  have hvs2 : (v : Int) ≤ (s : Int) := by omega
  go_wp2_with fail
  refine (known_any _).mono ?_
  rintro e wk ⟨rfl, hbk⟩
  have HBK := Lib.hid (HB12.out.trans (hbk.mono HB12.out.size))
  clear hbk
  go_wp2_with fail
  go_ret
  exact ⟨rfl, HBK.out⟩
end Go.Proofs.Yticmeeinjkoodaa
