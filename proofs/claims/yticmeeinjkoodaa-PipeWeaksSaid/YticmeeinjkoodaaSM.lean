/- Pipes: the law PipeWeaks. -/
import Derived.Test.YticmeeinjkoodaaSL
namespace Go.Proofs.Yticmeeinjkoodaa
open Go.RowKit Go.Shelf
set_option maxRecDepth 100000 in
set_option maxHeartbeats 16000000 in
theorem weaks_law (V : NV) (N : Nt) (p : Int) (A : Option Addr) (n c : Nat) (fs : List Int) (w : World) (hN : NtAt w w.heap.size V N) (hl : fs.length = n) (hn : n ≤ maxLen) (hA : IntsAt w w.heap.size A fs) :
    Calls Try.prog 11 #[nvV V, .int .i64 p, .slice A n c] w fun e w' => e = .returned (.bool true) ∧ Below w.heap.size w w' := by
  have HA1 := Lib.hid (RowAt.up hA ((Below.refl w.heap.size w).alloc (Nat.le_refl _) (.cells (nvC V) 26))); have HL := Lib.hid hl; have HNN := Lib.hid hn
  obtain ⟨E1, hE1⟩ : ∃ z, faultsI N p fs = z := ⟨_, rfl⟩
  obtain ⟨E2, hE2⟩ : ∃ z, faultsI N 0 fs = z := ⟨_, rfl⟩
  obtain ⟨K, hK⟩ : ∃ z, weakR N p fs = z := ⟨_, rfl⟩
  obtain ⟨r, hr⟩ : ∃ z, postR N fs = z := ⟨_, rfl⟩
  have HK : Hid (K = if E1 = 0 then weakI N 0 p.toNat fs else 0) := Lib.hid (by rw [← hK, ← hE1]; rfl)
  have HR : Hid (r = if E2 = 0 then (if (postI N fs).2 = -1 then (0, 0, 5) else (((postI N fs).1 : Int), (postI N fs).2, 0)) else (0, 0, E2)) := Lib.hid (by rw [← hr, ← hE2]; rfl)
  have HE1 := Lib.hid hE1; have HE2 := Lib.hid hE2; have HKK := Lib.hid hK; have HRR := Lib.hid hr
  clear hE1 hE2 hK hr
  have z := heap_alloc_new w (.cells (nvC V) 26)
  have hb := (Below.refl w.heap.size w).alloc (Nat.le_refl _) (.cells (nvC V) 26)
  obtain ⟨w1, hw1⟩ : ∃ z, w.alloc (.cells (nvC V) 26) = z := ⟨_, rfl⟩
  rw [hw1] at z hb
  have HW := Lib.hid hw1
  have HN := Lib.hid (hN.up hb)
  obtain ⟨al, nl, cl, af, nf, cf, aw, nw, cw⟩ := V
  obtain ⟨v0, v1, v2⟩ := box3_cells z
  have hml := hN.ml; have hmf := hN.mf; have hmw := hN.mw
  unfold maxLen at hml hmf hmw
  simp only at hml hmf hmw v0 v1 v2
  have HB := Lib.hid hb; have Z := Lib.hid z
  have HNL := Lib.hid hN.nl; have HNF := Lib.hid hN.nf; have HNW := Lib.hid hN.nw
  clear z hb hw1 hN
  have HZ1 := Z; have HB1 := HB; have HN1 := HN
  clear Z HB HN
  unfold maxLen at hn
  clear hA hl
  rw [show w.alloc (.cells (nvC ⟨al, nl, cl, af, nf, cf, aw, nw, cw⟩) 26) = w1 from HW.out] at HA1
  go_enter Try.func11, Try.ntmps11
  go_wp2_with fail
  rw [show w.alloc (.cells #[.slice al nl cl, .slice af nf cf, .slice aw nw cw] 26) = w1 from HW.out]
  refine (short_any _ N _ HN1.out).mono ?_
  rintro e w2 ⟨rfl, hb⟩
  have HZ2 := Lib.hid ((hb.block _ (heapsz HZ1.out)).trans HZ1.out)
  have HB2 := Lib.hid (HB1.out.trans (hb.mono HB1.out.size))
  have HN2 := Lib.hid (HN1.out.up hb)
  have HA2 := Lib.hid (RowAt.up HA1.out hb)
  clear hb
  clear v0 v1 v2
  obtain ⟨v0, v1, v2⟩ := box3_cells HZ2.out
  cases hsh : shortB N
  · clear v0 v1 v2 hsh
    go_wp2_with fail
    refine (known_any _).mono ?_
    rintro e wk ⟨rfl, hbk⟩
    have HBK := Lib.hid (HB2.out.trans (hbk.mono HB2.out.size))
    clear hbk
    go_wp2_with fail
    go_ret
    exact ⟨rfl, HBK.out⟩
  have h8 : nl ≤ 8 := by
    unfold shortB at hsh
    simp only [Bool.and_eq_true, decide_eq_true_eq] at hsh
    have := hsh.2.1
    have h1 := HNL.out
    first | omega | (simp only at h1; omega)
  clear hsh
  go_wp2_with fail
  refine (rnet_any _ N _ HN2.out (by simp only; omega)).mono ?_
  rintro e w3 ⟨rfl, hb⟩
  have HZ3 := Lib.hid ((hb.block _ (heapsz HZ2.out)).trans HZ2.out)
  have HB3 := Lib.hid (HB2.out.trans (hb.mono HB2.out.size))
  have HN3 := Lib.hid (HN2.out.up hb)
  have HA3 := Lib.hid (RowAt.up HA2.out hb)
  clear hb
  clear v0 v1 v2
  obtain ⟨v0, v1, v2⟩ := box3_cells HZ3.out
  cases hnt : ntB N
  · by_cases h17 : (17 : Int) < (n : Int)
    · clear hnt
      go_wp2_with fail
      refine (known_any _).mono ?_
      rintro e wk ⟨rfl, hbk⟩
      have HBK := Lib.hid (HB3.out.trans (hbk.mono HB3.out.size))
      clear hbk
      go_wp2_with fail
      go_ret
      exact ⟨rfl, HBK.out⟩
    clear hnt
    go_wp2_with fail
    refine (Weak_any _ N p A n c fs _ HN3.out HL.out HNN.out HA3.out).mono ?_
    rintro e w4 ⟨rfl, hb⟩
    have HZ4 := Lib.hid ((hb.block _ (heapsz HZ3.out)).trans HZ3.out)
    have HB4 := Lib.hid (HB3.out.trans (hb.mono HB3.out.size))
    have HN4 := Lib.hid (HN3.out.up hb)
    have HA4 := Lib.hid (RowAt.up HA3.out hb)
    clear hb
    clear v0 v1 v2
    obtain ⟨v0, v1, v2⟩ := box3_cells HZ4.out
    rw [HKK.out, HE1.out]
    go_wp2_with fail
    refine (Post_any _ N A n c fs _ HN4.out HL.out HNN.out HA4.out).mono ?_
    rintro e w5 ⟨rfl, hb⟩
    have HZ5 := Lib.hid ((hb.block _ (heapsz HZ4.out)).trans HZ4.out)
    have HB5 := Lib.hid (HB4.out.trans (hb.mono HB4.out.size))
    have HN5 := Lib.hid (HN4.out.up hb)
    have HA5 := Lib.hid (RowAt.up HA4.out hb)
    clear hb
    clear v0 v1 v2
    obtain ⟨v0, v1, v2⟩ := box3_cells HZ5.out
    rw [HRR.out]
    go_wp2_with fail
    refine (faulted_any _ N p A n c fs _ HN5.out h8 HL.out HNN.out HA5.out).mono ?_
    rintro e w6 ⟨rfl, hb⟩
    have HZ6 := Lib.hid ((hb.block _ (heapsz HZ5.out)).trans HZ5.out)
    have HB6 := Lib.hid (HB5.out.trans (hb.mono HB5.out.size))
    have HN6 := Lib.hid (HN5.out.up hb)
    have HA6 := Lib.hid (RowAt.up HA5.out hb)
    clear hb
    clear v0 v1 v2
    obtain ⟨v0, v1, v2⟩ := box3_cells HZ6.out
    rw [HE1.out]
    by_cases h1 : E1 = 0
    · subst h1
      have HFP := Lib.hid (faults_zero.1 HE1.out)
      have h2 : E2 = 0 := by rw [← HE2.out]; exact faults_zero.2 (HFP.out.at ⟨Int.le_refl _, by omega⟩)
      subst h2
      obtain ⟨a, rfl⟩ : ∃ a : Nat, p = a := ⟨p.toNat, by have := HFP.out.pl; omega⟩
      have hk := HK.out
      first | rw [if_pos rfl, Int.toNat_natCast] at hk | rw [if_pos trivial, Int.toNat_natCast] at hk
      go_wp2_with fail
      refine (rweak_any _ N A n c fs _ HN6.out HL.out HNN.out HA6.out HFP.out).mono ?_
      rintro e w7 ⟨rfl, hb⟩
      have HZ7 := Lib.hid ((hb.block _ (heapsz HZ6.out)).trans HZ6.out)
      have HB7 := Lib.hid (HB6.out.trans (hb.mono HB6.out.size))
      have HN7 := Lib.hid (HN6.out.up hb)
      have HA7 := Lib.hid (RowAt.up HA6.out hb)
      clear hb
      clear v0 v1 v2
      obtain ⟨v0, v1, v2⟩ := box3_cells HZ7.out
      rw [← hk]
      go_wp2_with fail
      refine (faulted_any _ N 0 A n c fs _ HN7.out h8 HL.out HNN.out HA7.out).mono ?_
      rintro e w8 ⟨rfl, hb⟩
      have HZ8 := Lib.hid ((hb.block _ (heapsz HZ7.out)).trans HZ7.out)
      have HB8 := Lib.hid (HB7.out.trans (hb.mono HB7.out.size))
      have HN8 := Lib.hid (HN7.out.up hb)
      have HA8 := Lib.hid (RowAt.up HA7.out hb)
      clear hb
      clear v0 v1 v2
      obtain ⟨v0, v1, v2⟩ := box3_cells HZ8.out
      rw [HE2.out]
      have HF0 := Lib.hid (faults_zero.1 HE2.out)
      obtain ⟨X, hX⟩ : ∃ z, postI N fs = z := ⟨_, rfl⟩
      rw [hX] at HR
      have HXX := Lib.hid hX
      clear hX
      have hr := HR.out
      first | rw [if_pos rfl] at hr | rw [if_pos trivial] at hr
      obtain ⟨x, y⟩ := X
      simp only at hr
      by_cases hy1 : y = -1
      · rw [if_pos hy1] at hr
        subst hr
        go_wp2_with fail
        refine (rpost_any _ N A n c fs _ HN8.out HL.out HNN.out HA8.out HF0.out).mono ?_
        rintro e w9 ⟨rfl, hb⟩
        have HZ9 := Lib.hid ((hb.block _ (heapsz HZ8.out)).trans HZ8.out)
        have HB9 := Lib.hid (HB8.out.trans (hb.mono HB8.out.size))
        have HN9 := Lib.hid (HN8.out.up hb)
        have HA9 := Lib.hid (RowAt.up HA8.out hb)
        clear hb
        clear v0 v1 v2
        obtain ⟨v0, v1, v2⟩ := box3_cells HZ9.out
        rw [HXX.out]
        simp only
        rw [if_pos hy1, if_pos hy1, show decide (y ≠ -1) = false from decide_eq_false (by omega)]
        go_wp2_with fail
        refine (known_any _).mono ?_
        rintro e wk ⟨rfl, hbk⟩
        have HBK := Lib.hid (HB9.out.trans (hbk.mono HB9.out.size))
        clear hbk
        go_wp2_with fail
        go_ret
        exact ⟨rfl, HBK.out⟩
      rw [if_neg hy1] at hr
      subst hr
      go_wp2_with fail
      refine (rpost_any _ N A n c fs _ HN8.out HL.out HNN.out HA8.out HF0.out).mono ?_
      rintro e w9 ⟨rfl, hb⟩
      have HZ9 := Lib.hid ((hb.block _ (heapsz HZ8.out)).trans HZ8.out)
      have HB9 := Lib.hid (HB8.out.trans (hb.mono HB8.out.size))
      have HN9 := Lib.hid (HN8.out.up hb)
      have HA9 := Lib.hid (RowAt.up HA8.out hb)
      clear hb
      clear v0 v1 v2
      obtain ⟨v0, v1, v2⟩ := box3_cells HZ9.out
      rw [HXX.out]
      simp only
      rw [if_neg hy1, if_neg hy1, show decide (y ≠ -1) = true from decide_eq_true hy1]
      go_wp2_with fail
      refine (known_any _).mono ?_
      rintro e wk ⟨rfl, hbk⟩
      have HBK := Lib.hid (HB9.out.trans (hbk.mono HB9.out.size))
      clear hbk
      go_wp2_with fail
      go_ret
      exact ⟨rfl, HBK.out⟩
    have hk := HK.out
    rw [if_neg h1] at hk
    subst hk
    go_wp2_with fail
    refine (faulted_any _ N 0 A n c fs _ HN6.out h8 HL.out HNN.out HA6.out).mono ?_
    rintro e w7 ⟨rfl, hb⟩
    have HZ7 := Lib.hid ((hb.block _ (heapsz HZ6.out)).trans HZ6.out)
    have HB7 := Lib.hid (HB6.out.trans (hb.mono HB6.out.size))
    have HN7 := Lib.hid (HN6.out.up hb)
    have HA7 := Lib.hid (RowAt.up HA6.out hb)
    clear hb
    clear v0 v1 v2
    obtain ⟨v0, v1, v2⟩ := box3_cells HZ7.out
    rw [HE2.out]
    by_cases h2 : E2 = 0
    · subst h2
      have HF0 := Lib.hid (faults_zero.1 HE2.out)
      obtain ⟨X, hX⟩ : ∃ z, postI N fs = z := ⟨_, rfl⟩
      rw [hX] at HR
      have HXX := Lib.hid hX
      clear hX
      have hr := HR.out
      first | rw [if_pos rfl] at hr | rw [if_pos trivial] at hr
      obtain ⟨x, y⟩ := X
      simp only at hr
      by_cases hy1 : y = -1
      · rw [if_pos hy1] at hr
        subst hr
        go_wp2_with fail
        refine (rpost_any _ N A n c fs _ HN7.out HL.out HNN.out HA7.out HF0.out).mono ?_
        rintro e w8 ⟨rfl, hb⟩
        have HZ8 := Lib.hid ((hb.block _ (heapsz HZ7.out)).trans HZ7.out)
        have HB8 := Lib.hid (HB7.out.trans (hb.mono HB7.out.size))
        have HN8 := Lib.hid (HN7.out.up hb)
        have HA8 := Lib.hid (RowAt.up HA7.out hb)
        clear hb
        clear v0 v1 v2
        obtain ⟨v0, v1, v2⟩ := box3_cells HZ8.out
        rw [HXX.out]
        simp only
        rw [if_pos hy1, if_pos hy1, show decide (y ≠ -1) = false from decide_eq_false (by omega)]
        go_wp2_with fail
        refine (known_any _).mono ?_
        rintro e wk ⟨rfl, hbk⟩
        have HBK := Lib.hid (HB8.out.trans (hbk.mono HB8.out.size))
        clear hbk
        go_wp2_with fail
        go_ret
        exact ⟨rfl, HBK.out⟩
      rw [if_neg hy1] at hr
      subst hr
      go_wp2_with fail
      refine (rpost_any _ N A n c fs _ HN7.out HL.out HNN.out HA7.out HF0.out).mono ?_
      rintro e w8 ⟨rfl, hb⟩
      have HZ8 := Lib.hid ((hb.block _ (heapsz HZ7.out)).trans HZ7.out)
      have HB8 := Lib.hid (HB7.out.trans (hb.mono HB7.out.size))
      have HN8 := Lib.hid (HN7.out.up hb)
      have HA8 := Lib.hid (RowAt.up HA7.out hb)
      clear hb
      clear v0 v1 v2
      obtain ⟨v0, v1, v2⟩ := box3_cells HZ8.out
      rw [HXX.out]
      simp only
      rw [if_neg hy1, if_neg hy1, show decide (y ≠ -1) = true from decide_eq_true hy1]
      go_wp2_with fail
      refine (known_any _).mono ?_
      rintro e wk ⟨rfl, hbk⟩
      have HBK := Lib.hid (HB8.out.trans (hbk.mono HB8.out.size))
      clear hbk
      go_wp2_with fail
      go_ret
      exact ⟨rfl, HBK.out⟩
    have hr := HR.out
    rw [if_neg h2] at hr
    subst hr
    go_wp2_with fail
    refine (known_any _).mono ?_
    rintro e wk ⟨rfl, hbk⟩
    have HBK := Lib.hid (HB7.out.trans (hbk.mono HB7.out.size))
    clear hbk
    go_wp2_with fail
    go_ret
    exact ⟨rfl, HBK.out⟩
  by_cases h3 : (3 : Int) < (nl : Int)
  · clear hnt
    go_wp2_with fail
    refine (known_any _).mono ?_
    rintro e wk ⟨rfl, hbk⟩
    have HBK := Lib.hid (HB3.out.trans (hbk.mono HB3.out.size))
    clear hbk
    go_wp2_with fail
    go_ret
    exact ⟨rfl, HBK.out⟩
  by_cases h17 : (17 : Int) < (n : Int)
  · clear hnt
    go_wp2_with fail
    refine (known_any _).mono ?_
    rintro e wk ⟨rfl, hbk⟩
    have HBK := Lib.hid (HB3.out.trans (hbk.mono HB3.out.size))
    clear hbk
    go_wp2_with fail
    go_ret
    exact ⟨rfl, HBK.out⟩
  clear hnt
  go_wp2_with fail
  refine (Weak_any _ N p A n c fs _ HN3.out HL.out HNN.out HA3.out).mono ?_
  rintro e w4 ⟨rfl, hb⟩
  have HZ4 := Lib.hid ((hb.block _ (heapsz HZ3.out)).trans HZ3.out)
  have HB4 := Lib.hid (HB3.out.trans (hb.mono HB3.out.size))
  have HN4 := Lib.hid (HN3.out.up hb)
  have HA4 := Lib.hid (RowAt.up HA3.out hb)
  clear hb
  clear v0 v1 v2
  obtain ⟨v0, v1, v2⟩ := box3_cells HZ4.out
  rw [HKK.out, HE1.out]
  go_wp2_with fail
  refine (Post_any _ N A n c fs _ HN4.out HL.out HNN.out HA4.out).mono ?_
  rintro e w5 ⟨rfl, hb⟩
  have HZ5 := Lib.hid ((hb.block _ (heapsz HZ4.out)).trans HZ4.out)
  have HB5 := Lib.hid (HB4.out.trans (hb.mono HB4.out.size))
  have HN5 := Lib.hid (HN4.out.up hb)
  have HA5 := Lib.hid (RowAt.up HA4.out hb)
  clear hb
  clear v0 v1 v2
  obtain ⟨v0, v1, v2⟩ := box3_cells HZ5.out
  rw [HRR.out]
  go_wp2_with fail
  refine (faulted_any _ N p A n c fs _ HN5.out h8 HL.out HNN.out HA5.out).mono ?_
  rintro e w6 ⟨rfl, hb⟩
  have HZ6 := Lib.hid ((hb.block _ (heapsz HZ5.out)).trans HZ5.out)
  have HB6 := Lib.hid (HB5.out.trans (hb.mono HB5.out.size))
  have HN6 := Lib.hid (HN5.out.up hb)
  have HA6 := Lib.hid (RowAt.up HA5.out hb)
  clear hb
  clear v0 v1 v2
  obtain ⟨v0, v1, v2⟩ := box3_cells HZ6.out
  rw [HE1.out]
  by_cases h1 : E1 = 0
  · subst h1
    have HFP := Lib.hid (faults_zero.1 HE1.out)
    have h2 : E2 = 0 := by rw [← HE2.out]; exact faults_zero.2 (HFP.out.at ⟨Int.le_refl _, by omega⟩)
    subst h2
    obtain ⟨a, rfl⟩ : ∃ a : Nat, p = a := ⟨p.toNat, by have := HFP.out.pl; omega⟩
    have hk := HK.out
    first | rw [if_pos rfl, Int.toNat_natCast] at hk | rw [if_pos trivial, Int.toNat_natCast] at hk
    go_wp2_with fail
    refine (rweak_any _ N A n c fs _ HN6.out HL.out HNN.out HA6.out HFP.out).mono ?_
    rintro e w7 ⟨rfl, hb⟩
    have HZ7 := Lib.hid ((hb.block _ (heapsz HZ6.out)).trans HZ6.out)
    have HB7 := Lib.hid (HB6.out.trans (hb.mono HB6.out.size))
    have HN7 := Lib.hid (HN6.out.up hb)
    have HA7 := Lib.hid (RowAt.up HA6.out hb)
    clear hb
    clear v0 v1 v2
    obtain ⟨v0, v1, v2⟩ := box3_cells HZ7.out
    rw [← hk]
    go_wp2_with fail
    refine (faulted_any _ N 0 A n c fs _ HN7.out h8 HL.out HNN.out HA7.out).mono ?_
    rintro e w8 ⟨rfl, hb⟩
    have HZ8 := Lib.hid ((hb.block _ (heapsz HZ7.out)).trans HZ7.out)
    have HB8 := Lib.hid (HB7.out.trans (hb.mono HB7.out.size))
    have HN8 := Lib.hid (HN7.out.up hb)
    have HA8 := Lib.hid (RowAt.up HA7.out hb)
    clear hb
    clear v0 v1 v2
    obtain ⟨v0, v1, v2⟩ := box3_cells HZ8.out
    rw [HE2.out]
    have HF0 := Lib.hid (faults_zero.1 HE2.out)
    obtain ⟨X, hX⟩ : ∃ z, postI N fs = z := ⟨_, rfl⟩
    rw [hX] at HR
    have HXX := Lib.hid hX
    clear hX
    have hr := HR.out
    first | rw [if_pos rfl] at hr | rw [if_pos trivial] at hr
    obtain ⟨x, y⟩ := X
    simp only at hr
    by_cases hy1 : y = -1
    · rw [if_pos hy1] at hr
      subst hr
      go_wp2_with fail
      refine (rpost_any _ N A n c fs _ HN8.out HL.out HNN.out HA8.out HF0.out).mono ?_
      rintro e w9 ⟨rfl, hb⟩
      have HZ9 := Lib.hid ((hb.block _ (heapsz HZ8.out)).trans HZ8.out)
      have HB9 := Lib.hid (HB8.out.trans (hb.mono HB8.out.size))
      have HN9 := Lib.hid (HN8.out.up hb)
      have HA9 := Lib.hid (RowAt.up HA8.out hb)
      clear hb
      clear v0 v1 v2
      obtain ⟨v0, v1, v2⟩ := box3_cells HZ9.out
      rw [HXX.out]
      simp only
      rw [if_pos hy1, if_pos hy1, show decide (y ≠ -1) = false from decide_eq_false (by omega)]
      go_wp2_with fail
      refine (known_any _).mono ?_
      rintro e wk ⟨rfl, hbk⟩
      have HBK := Lib.hid (HB9.out.trans (hbk.mono HB9.out.size))
      clear hbk
      go_wp2_with fail
      go_ret
      exact ⟨rfl, HBK.out⟩
    rw [if_neg hy1] at hr
    subst hr
    go_wp2_with fail
    refine (rpost_any _ N A n c fs _ HN8.out HL.out HNN.out HA8.out HF0.out).mono ?_
    rintro e w9 ⟨rfl, hb⟩
    have HZ9 := Lib.hid ((hb.block _ (heapsz HZ8.out)).trans HZ8.out)
    have HB9 := Lib.hid (HB8.out.trans (hb.mono HB8.out.size))
    have HN9 := Lib.hid (HN8.out.up hb)
    have HA9 := Lib.hid (RowAt.up HA8.out hb)
    clear hb
    clear v0 v1 v2
    obtain ⟨v0, v1, v2⟩ := box3_cells HZ9.out
    rw [HXX.out]
    simp only
    rw [if_neg hy1, if_neg hy1, show decide (y ≠ -1) = true from decide_eq_true hy1]
    go_wp2_with fail
    refine (known_any _).mono ?_
    rintro e wk ⟨rfl, hbk⟩
    have HBK := Lib.hid (HB9.out.trans (hbk.mono HB9.out.size))
    clear hbk
    go_wp2_with fail
    go_ret
    exact ⟨rfl, HBK.out⟩
  have hk := HK.out
  rw [if_neg h1] at hk
  subst hk
  go_wp2_with fail
  refine (faulted_any _ N 0 A n c fs _ HN6.out h8 HL.out HNN.out HA6.out).mono ?_
  rintro e w7 ⟨rfl, hb⟩
  have HZ7 := Lib.hid ((hb.block _ (heapsz HZ6.out)).trans HZ6.out)
  have HB7 := Lib.hid (HB6.out.trans (hb.mono HB6.out.size))
  have HN7 := Lib.hid (HN6.out.up hb)
  have HA7 := Lib.hid (RowAt.up HA6.out hb)
  clear hb
  clear v0 v1 v2
  obtain ⟨v0, v1, v2⟩ := box3_cells HZ7.out
  rw [HE2.out]
  by_cases h2 : E2 = 0
  · subst h2
    have HF0 := Lib.hid (faults_zero.1 HE2.out)
    obtain ⟨X, hX⟩ : ∃ z, postI N fs = z := ⟨_, rfl⟩
    rw [hX] at HR
    have HXX := Lib.hid hX
    clear hX
    have hr := HR.out
    first | rw [if_pos rfl] at hr | rw [if_pos trivial] at hr
    obtain ⟨x, y⟩ := X
    simp only at hr
    by_cases hy1 : y = -1
    · rw [if_pos hy1] at hr
      subst hr
      go_wp2_with fail
      refine (rpost_any _ N A n c fs _ HN7.out HL.out HNN.out HA7.out HF0.out).mono ?_
      rintro e w8 ⟨rfl, hb⟩
      have HZ8 := Lib.hid ((hb.block _ (heapsz HZ7.out)).trans HZ7.out)
      have HB8 := Lib.hid (HB7.out.trans (hb.mono HB7.out.size))
      have HN8 := Lib.hid (HN7.out.up hb)
      have HA8 := Lib.hid (RowAt.up HA7.out hb)
      clear hb
      clear v0 v1 v2
      obtain ⟨v0, v1, v2⟩ := box3_cells HZ8.out
      rw [HXX.out]
      simp only
      rw [if_pos hy1, if_pos hy1, show decide (y ≠ -1) = false from decide_eq_false (by omega)]
      go_wp2_with fail
      refine (known_any _).mono ?_
      rintro e wk ⟨rfl, hbk⟩
      have HBK := Lib.hid (HB8.out.trans (hbk.mono HB8.out.size))
      clear hbk
      go_wp2_with fail
      go_ret
      exact ⟨rfl, HBK.out⟩
    rw [if_neg hy1] at hr
    subst hr
    go_wp2_with fail
    refine (rpost_any _ N A n c fs _ HN7.out HL.out HNN.out HA7.out HF0.out).mono ?_
    rintro e w8 ⟨rfl, hb⟩
    have HZ8 := Lib.hid ((hb.block _ (heapsz HZ7.out)).trans HZ7.out)
    have HB8 := Lib.hid (HB7.out.trans (hb.mono HB7.out.size))
    have HN8 := Lib.hid (HN7.out.up hb)
    have HA8 := Lib.hid (RowAt.up HA7.out hb)
    clear hb
    clear v0 v1 v2
    obtain ⟨v0, v1, v2⟩ := box3_cells HZ8.out
    rw [HXX.out]
    simp only
    rw [if_neg hy1, if_neg hy1, show decide (y ≠ -1) = true from decide_eq_true hy1]
    go_wp2_with fail
    refine (known_any _).mono ?_
    rintro e wk ⟨rfl, hbk⟩
    have HBK := Lib.hid (HB8.out.trans (hbk.mono HB8.out.size))
    clear hbk
    go_wp2_with fail
    go_ret
    exact ⟨rfl, HBK.out⟩
  have hr := HR.out
  rw [if_neg h2] at hr
  subst hr
  go_wp2_with fail
  refine (known_any _).mono ?_
  rintro e wk ⟨rfl, hbk⟩
  have HBK := Lib.hid (HB7.out.trans (hbk.mono HB7.out.size))
  clear hbk
  go_wp2_with fail
  go_ret
  exact ⟨rfl, HBK.out⟩
end Go.Proofs.Yticmeeinjkoodaa
