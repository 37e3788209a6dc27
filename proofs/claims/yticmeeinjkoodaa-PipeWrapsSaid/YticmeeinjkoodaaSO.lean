/- Pipes: the law PipeWraps. -/
import Derived.Test.YticmeeinjkoodaaSN
namespace Go.Proofs.Yticmeeinjkoodaa
open Go.RowKit Go.Shelf
set_option maxRecDepth 100000 in
set_option maxHeartbeats 16000000 in
theorem wraps_law (V : NV) (N : Nt) (p : Int) (A : Option Addr) (n c : Nat) (fs : List Int) (w : World) (hN : NtAt w w.heap.size V N) (hl : fs.length = n) (hn : n ≤ maxLen) (hA : IntsAt w w.heap.size A fs) :
    Calls Try.prog 13 #[nvV V, .int .i64 p, .slice A n c] w fun e w' => e = .returned (.bool true) ∧ Below w.heap.size w w' := by
  have HA1 := Lib.hid (RowAt.up hA ((Below.refl w.heap.size w).alloc (Nat.le_refl _) (.cells (nvC V) 26))); have HL := Lib.hid hl; have HNN := Lib.hid hn
  obtain ⟨E1, hE1⟩ : ∃ z, faultsI N p fs = z := ⟨_, rfl⟩
  obtain ⟨r, hr⟩ : ∃ z, wrapR N p fs = z := ⟨_, rfl⟩
  obtain ⟨X, hX⟩ : ∃ z, wrapI N p.toNat fs (2 ^ N.lo.length) = z := ⟨_, rfl⟩
  have HR : Hid (r = if E1 = 0 then (if X.2.2 then ((X.1 : Int), X.2.1, 0) else (0, 0, 5)) else (0, 0, E1)) := Lib.hid (by rw [← hr, ← hE1, ← hX]; rfl)
  have HWL := Lib.hid (wrap_least N p.toNat fs (2 ^ N.lo.length)).1
  rw [hX] at HWL
  have HE1 := Lib.hid hE1; have HRR := Lib.hid hr; have HXX := Lib.hid hX
  clear hE1 hr hX
  have z := heap_alloc_new w (.cells (nvC V) 26)
  have hb := (Below.refl w.heap.size w).alloc (Nat.le_refl _) (.cells (nvC V) 26)
  obtain ⟨w1, hw1⟩ : ∃ z, w.alloc (.cells (nvC V) 26) = z := ⟨_, rfl⟩
  rw [hw1] at z hb
  have HW := Lib.hid hw1
  have HN := Lib.hid (hN.up hb)
  obtain ⟨al, nl, cl, af, nf, cf, aw, nw, cw⟩ := V
  obtain ⟨v0, v1, v2⟩ := box3_cells z
  have hml := hN.ml; have hmf := hN.mf; have hmw := hN.mw
  unfold maxLen at hml hmf hmw
  simp only at hml hmf hmw v0 v1 v2
  have HB := Lib.hid hb; have Z := Lib.hid z
  have HNL := Lib.hid hN.nl; have HNF := Lib.hid hN.nf; have HNW := Lib.hid hN.nw
  clear z hb hw1 hN
  have HZ1 := Z; have HB1 := HB; have HN1 := HN
  clear Z HB HN
  unfold maxLen at hn
  clear hA hl
  rw [show w.alloc (.cells (nvC ⟨al, nl, cl, af, nf, cf, aw, nw, cw⟩) 26) = w1 from HW.out] at HA1
  go_enter Try.func13, Try.ntmps13
  go_wp2_with fail
  rw [show w.alloc (.cells #[.slice al nl cl, .slice af nf cf, .slice aw nw cw] 26) = w1 from HW.out]
  refine (short_any _ N _ HN1.out).mono ?_
  rintro e w2 ⟨rfl, hb⟩
  have HZ2 := Lib.hid ((hb.block _ (heapsz HZ1.out)).trans HZ1.out)
  have HB2 := Lib.hid (HB1.out.trans (hb.mono HB1.out.size))
  have HN2 := Lib.hid (HN1.out.up hb)
  have HA2 := Lib.hid (RowAt.up HA1.out hb)
  clear hb
  clear v0 v1 v2
  obtain ⟨v0, v1, v2⟩ := box3_cells HZ2.out
  cases hsh : shortB N
  · clear v0 v1 v2 hsh
    go_wp2_with fail
    refine (known_any _).mono ?_
    rintro e wk ⟨rfl, hbk⟩
    have HBK := Lib.hid (HB2.out.trans (hbk.mono HB2.out.size))
    clear hbk
    go_wp2_with fail
    go_ret
    exact ⟨rfl, HBK.out⟩
  have h8 : nl ≤ 8 := by
    unfold shortB at hsh
    simp only [Bool.and_eq_true, decide_eq_true_eq] at hsh
    have := hsh.2.1
    have h1 := HNL.out
    first | omega | (simp only at h1; omega)
  clear hsh
  go_wp2_with fail
  refine (rnet_any _ N _ HN2.out (by simp only; omega)).mono ?_
  rintro e w3 ⟨rfl, hb⟩
  have HZ3 := Lib.hid ((hb.block _ (heapsz HZ2.out)).trans HZ2.out)
  have HB3 := Lib.hid (HB2.out.trans (hb.mono HB2.out.size))
  have HN3 := Lib.hid (HN2.out.up hb)
  have HA3 := Lib.hid (RowAt.up HA2.out hb)
  clear hb
  clear v0 v1 v2
  obtain ⟨v0, v1, v2⟩ := box3_cells HZ3.out
  cases hnt : ntB N
  · by_cases h17 : (17 : Int) < (n : Int)
    · clear hnt
      go_wp2_with fail
      refine (known_any _).mono ?_
      rintro e wk ⟨rfl, hbk⟩
      have HBK := Lib.hid (HB3.out.trans (hbk.mono HB3.out.size))
      clear hbk
      go_wp2_with fail
      go_ret
      exact ⟨rfl, HBK.out⟩
    clear hnt
    go_wp2_with fail
    refine (Wrap_any _ N p A n c fs _ HN3.out HL.out HNN.out HA3.out).mono ?_
    rintro e w4 ⟨rfl, hb⟩
    have HZ4 := Lib.hid ((hb.block _ (heapsz HZ3.out)).trans HZ3.out)
    have HB4 := Lib.hid (HB3.out.trans (hb.mono HB3.out.size))
    have HN4 := Lib.hid (HN3.out.up hb)
    have HA4 := Lib.hid (RowAt.up HA3.out hb)
    clear hb
    clear v0 v1 v2
    obtain ⟨v0, v1, v2⟩ := box3_cells HZ4.out
    rw [HRR.out]
    by_cases h1 : E1 = 0
    · subst h1
      have HFP := Lib.hid (faults_zero.1 HE1.out)
      obtain ⟨a, rfl⟩ : ∃ a : Nat, p = a := ⟨p.toNat, by have := HFP.out.pl; omega⟩
      have hr := HR.out
      first | rw [if_pos rfl] at hr | rw [if_pos trivial] at hr
      obtain ⟨x, y, f⟩ := X
      simp only at hr
      have HX2 : Hid (wrapI N a fs (2 ^ N.lo.length) = (x, y, f)) := Lib.hid (by have h := HXX.out; rwa [Int.toNat_natCast] at h)
      clear HR HXX
      cases f
      · rw [if_neg Bool.false_ne_true] at hr
        subst hr
        clear HWL
        go_wp2_with fail
        refine (faulted_any _ N _ A n c fs _ HN4.out h8 HL.out HNN.out HA4.out).mono ?_
        rintro e w5 ⟨rfl, hb⟩
        have HZ5 := Lib.hid ((hb.block _ (heapsz HZ4.out)).trans HZ4.out)
        have HB5 := Lib.hid (HB4.out.trans (hb.mono HB4.out.size))
        have HN5 := Lib.hid (HN4.out.up hb)
        have HA5 := Lib.hid (RowAt.up HA4.out hb)
        clear hb
        clear v0 v1 v2
        obtain ⟨v0, v1, v2⟩ := box3_cells HZ5.out
        rw [HE1.out]
        go_wp2_with fail
        refine (rwrap_any _ N A n c fs _ HN5.out HL.out HNN.out HA5.out HFP.out).mono ?_
        rintro e w6 ⟨rfl, hb⟩
        have HZ6 := Lib.hid ((hb.block _ (heapsz HZ5.out)).trans HZ5.out)
        have HB6 := Lib.hid (HB5.out.trans (hb.mono HB5.out.size))
        have HN6 := Lib.hid (HN5.out.up hb)
        have HA6 := Lib.hid (RowAt.up HA5.out hb)
        clear hb
        clear v0 v1 v2
        obtain ⟨v0, v1, v2⟩ := box3_cells HZ6.out
        rw [HX2.out]
        simp only
        try rw [if_neg Bool.false_ne_true]
        go_wp2_with fail
        refine (known_any _).mono ?_
        rintro e wk ⟨rfl, hbk⟩
        have HBK := Lib.hid (HB6.out.trans (hbk.mono HB6.out.size))
        clear hbk
        go_wp2_with fail
        go_ret
        exact ⟨rfl, HBK.out⟩
      rw [if_pos rfl] at hr
      subst hr
      have hwl := HWL.out rfl
      simp only at hwl
      have hx32 : x < 32 := Nat.lt_of_lt_of_le hwl.1 (Nat.pow_le_pow_right (show 0 < 2 by decide) HFP.out.ok.n5.2)
      have HCO : Hid (costK N x N.lo.length = y) := Lib.hid hwl.2.2.1.symm
      have hxn : ¬ (x : Int) < 0 := by omega
      clear hwl HWL
      go_wp2_with fail
      refine (faulted_any _ N _ A n c fs _ HN4.out h8 HL.out HNN.out HA4.out).mono ?_
      rintro e w5 ⟨rfl, hb⟩
      have HZ5 := Lib.hid ((hb.block _ (heapsz HZ4.out)).trans HZ4.out)
      have HB5 := Lib.hid (HB4.out.trans (hb.mono HB4.out.size))
      have HN5 := Lib.hid (HN4.out.up hb)
      have HA5 := Lib.hid (RowAt.up HA4.out hb)
      clear hb
      clear v0 v1 v2
      obtain ⟨v0, v1, v2⟩ := box3_cells HZ5.out
      rw [HE1.out]
      go_wp2_with fail
      refine (rwrap_any _ N A n c fs _ HN5.out HL.out HNN.out HA5.out HFP.out).mono ?_
      rintro e w6 ⟨rfl, hb⟩
      have HZ6 := Lib.hid ((hb.block _ (heapsz HZ5.out)).trans HZ5.out)
      have HB6 := Lib.hid (HB5.out.trans (hb.mono HB5.out.size))
      have HN6 := Lib.hid (HN5.out.up hb)
      have HA6 := Lib.hid (RowAt.up HA5.out hb)
      clear hb
      clear v0 v1 v2
      obtain ⟨v0, v1, v2⟩ := box3_cells HZ6.out
      rw [HX2.out]
      simp only
      try rw [if_pos rfl]
      go_wp2_with fail
      refine (rcost_any _ N hx32 _ HN6.out HFP.out.ok).mono ?_
      rintro e w7 ⟨rfl, hb⟩
      have HZ7 := Lib.hid ((hb.block _ (heapsz HZ6.out)).trans HZ6.out)
      have HB7 := Lib.hid (HB6.out.trans (hb.mono HB6.out.size))
      have HN7 := Lib.hid (HN6.out.up hb)
      have HA7 := Lib.hid (RowAt.up HA6.out hb)
      clear hb
      clear v0 v1 v2
      obtain ⟨v0, v1, v2⟩ := box3_cells HZ7.out
      rw [HCO.out]
      go_wp2_with fail
      refine (known_any _).mono ?_
      rintro e wk ⟨rfl, hbk⟩
      have HBK := Lib.hid (HB7.out.trans (hbk.mono HB7.out.size))
      clear hbk
      go_wp2_with fail
      go_ret
      exact ⟨rfl, HBK.out⟩
    have hr := HR.out
    rw [if_neg h1] at hr
    subst hr
    clear HR HWL HXX
    go_wp2_with fail
    refine (faulted_any _ N _ A n c fs _ HN4.out h8 HL.out HNN.out HA4.out).mono ?_
    rintro e w5 ⟨rfl, hb⟩
    have HZ5 := Lib.hid ((hb.block _ (heapsz HZ4.out)).trans HZ4.out)
    have HB5 := Lib.hid (HB4.out.trans (hb.mono HB4.out.size))
    have HN5 := Lib.hid (HN4.out.up hb)
    have HA5 := Lib.hid (RowAt.up HA4.out hb)
    clear hb
    clear v0 v1 v2
    obtain ⟨v0, v1, v2⟩ := box3_cells HZ5.out
    rw [HE1.out]
    go_wp2_with fail
    refine (known_any _).mono ?_
    rintro e wk ⟨rfl, hbk⟩
    have HBK := Lib.hid (HB5.out.trans (hbk.mono HB5.out.size))
    clear hbk
    go_wp2_with fail
    go_ret
    exact ⟨rfl, HBK.out⟩
  by_cases h3 : (3 : Int) < (nl : Int)
  · clear hnt
    go_wp2_with fail
    refine (known_any _).mono ?_
    rintro e wk ⟨rfl, hbk⟩
    have HBK := Lib.hid (HB3.out.trans (hbk.mono HB3.out.size))
    clear hbk
    go_wp2_with fail
    go_ret
    exact ⟨rfl, HBK.out⟩
  by_cases h17 : (17 : Int) < (n : Int)
  · clear hnt
    go_wp2_with fail
    refine (known_any _).mono ?_
    rintro e wk ⟨rfl, hbk⟩
    have HBK := Lib.hid (HB3.out.trans (hbk.mono HB3.out.size))
    clear hbk
    go_wp2_with fail
    go_ret
    exact ⟨rfl, HBK.out⟩
  clear hnt
  go_wp2_with fail
  refine (Wrap_any _ N p A n c fs _ HN3.out HL.out HNN.out HA3.out).mono ?_
  rintro e w4 ⟨rfl, hb⟩
  have HZ4 := Lib.hid ((hb.block _ (heapsz HZ3.out)).trans HZ3.out)
  have HB4 := Lib.hid (HB3.out.trans (hb.mono HB3.out.size))
  have HN4 := Lib.hid (HN3.out.up hb)
  have HA4 := Lib.hid (RowAt.up HA3.out hb)
  clear hb
  clear v0 v1 v2
  obtain ⟨v0, v1, v2⟩ := box3_cells HZ4.out
  rw [HRR.out]
  by_cases h1 : E1 = 0
  · subst h1
    have HFP := Lib.hid (faults_zero.1 HE1.out)
    obtain ⟨a, rfl⟩ : ∃ a : Nat, p = a := ⟨p.toNat, by have := HFP.out.pl; omega⟩
    have hr := HR.out
    first | rw [if_pos rfl] at hr | rw [if_pos trivial] at hr
    obtain ⟨x, y, f⟩ := X
    simp only at hr
    have HX2 : Hid (wrapI N a fs (2 ^ N.lo.length) = (x, y, f)) := Lib.hid (by have h := HXX.out; rwa [Int.toNat_natCast] at h)
    clear HR HXX
    cases f
    · rw [if_neg Bool.false_ne_true] at hr
      subst hr
      clear HWL
      go_wp2_with fail
      refine (faulted_any _ N _ A n c fs _ HN4.out h8 HL.out HNN.out HA4.out).mono ?_
      rintro e w5 ⟨rfl, hb⟩
      have HZ5 := Lib.hid ((hb.block _ (heapsz HZ4.out)).trans HZ4.out)
      have HB5 := Lib.hid (HB4.out.trans (hb.mono HB4.out.size))
      have HN5 := Lib.hid (HN4.out.up hb)
      have HA5 := Lib.hid (RowAt.up HA4.out hb)
      clear hb
      clear v0 v1 v2
      obtain ⟨v0, v1, v2⟩ := box3_cells HZ5.out
      rw [HE1.out]
      go_wp2_with fail
      refine (rwrap_any _ N A n c fs _ HN5.out HL.out HNN.out HA5.out HFP.out).mono ?_
      rintro e w6 ⟨rfl, hb⟩
      have HZ6 := Lib.hid ((hb.block _ (heapsz HZ5.out)).trans HZ5.out)
      have HB6 := Lib.hid (HB5.out.trans (hb.mono HB5.out.size))
      have HN6 := Lib.hid (HN5.out.up hb)
      have HA6 := Lib.hid (RowAt.up HA5.out hb)
      clear hb
      clear v0 v1 v2
      obtain ⟨v0, v1, v2⟩ := box3_cells HZ6.out
      rw [HX2.out]
      simp only
      try rw [if_neg Bool.false_ne_true]
      go_wp2_with fail
      refine (known_any _).mono ?_
      rintro e wk ⟨rfl, hbk⟩
      have HBK := Lib.hid (HB6.out.trans (hbk.mono HB6.out.size))
      clear hbk
      go_wp2_with fail
      go_ret
      exact ⟨rfl, HBK.out⟩
    rw [if_pos rfl] at hr
    subst hr
    have hwl := HWL.out rfl
    simp only at hwl
    have hx32 : x < 32 := Nat.lt_of_lt_of_le hwl.1 (Nat.pow_le_pow_right (show 0 < 2 by decide) HFP.out.ok.n5.2)
    have HCO : Hid (costK N x N.lo.length = y) := Lib.hid hwl.2.2.1.symm
    have hxn : ¬ (x : Int) < 0 := by omega
    clear hwl HWL
    go_wp2_with fail
    refine (faulted_any _ N _ A n c fs _ HN4.out h8 HL.out HNN.out HA4.out).mono ?_
    rintro e w5 ⟨rfl, hb⟩
    have HZ5 := Lib.hid ((hb.block _ (heapsz HZ4.out)).trans HZ4.out)
    have HB5 := Lib.hid (HB4.out.trans (hb.mono HB4.out.size))
    have HN5 := Lib.hid (HN4.out.up hb)
    have HA5 := Lib.hid (RowAt.up HA4.out hb)
    clear hb
    clear v0 v1 v2
    obtain ⟨v0, v1, v2⟩ := box3_cells HZ5.out
    rw [HE1.out]
    go_wp2_with fail
    refine (rwrap_any _ N A n c fs _ HN5.out HL.out HNN.out HA5.out HFP.out).mono ?_
    rintro e w6 ⟨rfl, hb⟩
    have HZ6 := Lib.hid ((hb.block _ (heapsz HZ5.out)).trans HZ5.out)
    have HB6 := Lib.hid (HB5.out.trans (hb.mono HB5.out.size))
    have HN6 := Lib.hid (HN5.out.up hb)
    have HA6 := Lib.hid (RowAt.up HA5.out hb)
    clear hb
    clear v0 v1 v2
    obtain ⟨v0, v1, v2⟩ := box3_cells HZ6.out
    rw [HX2.out]
    simp only
    try rw [if_pos rfl]
    go_wp2_with fail
    refine (rcost_any _ N hx32 _ HN6.out HFP.out.ok).mono ?_
    rintro e w7 ⟨rfl, hb⟩
    have HZ7 := Lib.hid ((hb.block _ (heapsz HZ6.out)).trans HZ6.out)
    have HB7 := Lib.hid (HB6.out.trans (hb.mono HB6.out.size))
    have HN7 := Lib.hid (HN6.out.up hb)
    have HA7 := Lib.hid (RowAt.up HA6.out hb)
    clear hb
    clear v0 v1 v2
    obtain ⟨v0, v1, v2⟩ := box3_cells HZ7.out
    rw [HCO.out]
    go_wp2_with fail
    refine (known_any _).mono ?_
    rintro e wk ⟨rfl, hbk⟩
    have HBK := Lib.hid (HB7.out.trans (hbk.mono HB7.out.size))
    clear hbk
    go_wp2_with fail
    go_ret
    exact ⟨rfl, HBK.out⟩
  have hr := HR.out
  rw [if_neg h1] at hr
  subst hr
  clear HR HWL HXX
  go_wp2_with fail
  refine (faulted_any _ N _ A n c fs _ HN4.out h8 HL.out HNN.out HA4.out).mono ?_
  rintro e w5 ⟨rfl, hb⟩
  have HZ5 := Lib.hid ((hb.block _ (heapsz HZ4.out)).trans HZ4.out)
  have HB5 := Lib.hid (HB4.out.trans (hb.mono HB4.out.size))
  have HN5 := Lib.hid (HN4.out.up hb)
  have HA5 := Lib.hid (RowAt.up HA4.out hb)
  clear hb
  clear v0 v1 v2
  obtain ⟨v0, v1, v2⟩ := box3_cells HZ5.out
  rw [HE1.out]
  go_wp2_with fail
  refine (known_any _).mono ?_
  rintro e wk ⟨rfl, hbk⟩
  have HBK := Lib.hid (HB5.out.trans (hbk.mono HB5.out.size))
  clear hbk
  go_wp2_with fail
  go_ret
  exact ⟨rfl, HBK.out⟩
end Go.Proofs.Yticmeeinjkoodaa
