/- Pipes: the law PipePosted. -/
import Derived.Test.YticmeeinjkoodaaRB
namespace Go.Proofs.Yticmeeinjkoodaa
open Go.RowKit Go.Shelf

theorem FsOk.at {N : Nt} {p q : Int} {fs : List Int} (K : FsOk N p fs) (h : 0 ≤ q ∧ q ≤ N.lo.length) : FsOk N q fs := ⟨K.len, K.ok, h, K.fs⟩
/-- The best place, beside another one. -/
theorem post_best {N : Nt} {o : Int} {fs : List Int} (K : FsOk N o fs) : faultsI N 0 fs = 0 ∧ ((postI N fs).2 = -1 → sofI N 0 fs o.toNat = -1) ∧
    ((postI N fs).2 ≠ -1 → 0 ≤ (postI N fs).2 ∧ (postI N fs).1 ≤ N.lo.length ∧ sofI N 0 fs (postI N fs).1 = (postI N fs).2 ∧ sofI N 0 fs o.toNat ≤ (postI N fs).2 ∧ (sofI N 0 fs o.toNat = (postI N fs).2 → (((postI N fs).1 : Nat) : Int) ≤ o)) := by
  have hwl := K.ok.wl
  obtain ⟨h1, h2, h3, h4⟩ := grL_range (sofI N 0 fs) (fun k => (sof_in K.ok 0 k fs).1) N.wa.length
  have ho := (sof_in K.ok 0 o.toNat fs).1
  have hpl := K.pl
  have h5 := h3 o.toNat (by omega)
  refine ⟨faults_zero.2 (K.at ⟨Int.le_refl _, by omega⟩), fun h => ?_, fun h => ?_⟩
  · unfold postI at h
    omega
  · unfold postI at h ⊢
    rcases h2 with h2 | ⟨h2, h2'⟩
    · exact absurd h2.1 h
    · refine ⟨by omega, by omega, h2', h5, fun he => ?_⟩
      by_cases hlt : o.toNat < (grL (sofI N 0 fs) (List.range N.wa.length)).1
      · have := h4 o.toNat hlt (by omega)
        omega
      · omega
set_option maxRecDepth 100000 in
set_option maxHeartbeats 8000000 in
theorem posted_law (V : NV) (N : Nt) (A : Option Addr) (n c : Nat) (fs : List Int) (o : Int) (w : World) (hN : NtAt w w.heap.size V N) (hl : fs.length = n) (hn : n ≤ maxLen) (hA : IntsAt w w.heap.size A fs) :
    Calls Try.prog 12 #[nvV V, .slice A n c, .int .i64 o] w fun e w' => e = .returned (.bool true) ∧ Below w.heap.size w w' := by
  have HA1 := Lib.hid (RowAt.up hA ((Below.refl w.heap.size w).alloc (Nat.le_refl _) (.cells (nvC V) 26))); have HL := Lib.hid hl; have HNN := Lib.hid hn
  have z := heap_alloc_new w (.cells (nvC V) 26)
  have hb := (Below.refl w.heap.size w).alloc (Nat.le_refl _) (.cells (nvC V) 26)
  obtain ⟨w1, hw1⟩ : ∃ z, w.alloc (.cells (nvC V) 26) = z := ⟨_, rfl⟩
  rw [hw1] at z hb
  have HW := Lib.hid hw1
  have HN := Lib.hid (hN.up hb)
  obtain ⟨al, nl, cl, af, nf, cf, aw, nw, cw⟩ := V
  obtain ⟨v0, v1, v2⟩ := box3_cells z
  have hml := hN.ml; have hmf := hN.mf; have hmw := hN.mw
  unfold maxLen at hml hmf hmw
  simp only at hml hmf hmw v0 v1 v2
  have HB := Lib.hid hb; have Z := Lib.hid z
  have HNL := Lib.hid hN.nl; have HNF := Lib.hid hN.nf; have HNW := Lib.hid hN.nw
  clear z hb hw1 hN
  have HZ1 := Z; have HB1 := HB; have HN1 := HN
  clear Z HB HN
  unfold maxLen at hn
  clear hA hl
  rw [show w.alloc (.cells (nvC ⟨al, nl, cl, af, nf, cf, aw, nw, cw⟩) 26) = w1 from HW.out] at HA1
  go_enter Try.func12, Try.ntmps12
  go_wp2_with fail
  rw [show w.alloc (.cells #[.slice al nl cl, .slice af nf cf, .slice aw nw cw] 26) = w1 from HW.out]
  refine (short_any _ N _ HN1.out).mono ?_
  rintro e w2 ⟨rfl, hb⟩
  have HZ2 := Lib.hid ((hb.block _ (heapsz HZ1.out)).trans HZ1.out)
  have HB2 := Lib.hid (HB1.out.trans (hb.mono HB1.out.size))
  have HN2 := Lib.hid (HN1.out.up hb)
  have HA2 := Lib.hid (RowAt.up HA1.out hb)
  clear hb
  clear v0 v1 v2
  obtain ⟨v0, v1, v2⟩ := box3_cells HZ2.out
  cases hsh : shortB N
  · clear v0 v1 v2 hsh
    go_wp2_with fail
    refine (known_any _).mono ?_
    rintro e wk ⟨rfl, hbk⟩
    have HBK := Lib.hid (HB2.out.trans (hbk.mono HB2.out.size))
    clear hbk
    go_wp2_with fail
    go_ret
    exact ⟨rfl, HBK.out⟩
  have h8 : nl ≤ 8 := by
    unfold shortB at hsh
    simp only [Bool.and_eq_true, decide_eq_true_eq] at hsh
    have := hsh.2.1
    have h1 := HNL.out
    first | omega | (simp only at h1; omega)
  clear hsh
  by_cases h4 : (4 : Int) < (nl : Int)
  · go_wp2_with fail
    refine (known_any _).mono ?_
    rintro e wk ⟨rfl, hbk⟩
    have HBK := Lib.hid (HB2.out.trans (hbk.mono HB2.out.size))
    clear hbk
    go_wp2_with fail
    go_ret
    exact ⟨rfl, HBK.out⟩
  go_wp2_with fail
  refine (faulted_any _ N o A n c fs _ HN2.out h8 HL.out HNN.out HA2.out).mono ?_
  rintro e w3 ⟨rfl, hb⟩
  have HZ3 := Lib.hid ((hb.block _ (heapsz HZ2.out)).trans HZ2.out)
  have HB3 := Lib.hid (HB2.out.trans (hb.mono HB2.out.size))
  have HN3 := Lib.hid (HN2.out.up hb)
  have HA3 := Lib.hid (RowAt.up HA2.out hb)
  clear hb
  clear v0 v1 v2
  obtain ⟨v0, v1, v2⟩ := box3_cells HZ3.out
  obtain ⟨E0, hE0⟩ : ∃ z, faultsI N o fs = z := ⟨_, rfl⟩
  rw [hE0]
  have hE3 : E0 = 3 ∨ E0 = 2 ∨ E0 = 0 := by
    rw [← hE0]
    unfold faultsI
    split
    · exact .inl rfl
    · split
      · exact .inr (.inr rfl)
      · exact .inr (.inl rfl)
  rcases hE3 with h0 | h0 | h0
  · clear v0 v1 v2 hE0
    subst h0
    go_wp2_with fail
    refine (known_any _).mono ?_
    rintro e wk ⟨rfl, hbk⟩
    have HBK := Lib.hid (HB3.out.trans (hbk.mono HB3.out.size))
    clear hbk
    go_wp2_with fail
    go_ret
    exact ⟨rfl, HBK.out⟩
  · clear v0 v1 v2 hE0
    subst h0
    go_wp2_with fail
    refine (known_any _).mono ?_
    rintro e wk ⟨rfl, hbk⟩
    have HBK := Lib.hid (HB3.out.trans (hbk.mono HB3.out.size))
    clear hbk
    go_wp2_with fail
    go_ret
    exact ⟨rfl, HBK.out⟩
  subst h0
  have HK := Lib.hid (faults_zero.1 hE0)
  clear hE0
  have HPB := Lib.hid (post_best HK.out)
  go_wp2_with fail
  refine (Post_any _ N A n c fs _ HN3.out HL.out HNN.out HA3.out).mono ?_
  rintro e w4 ⟨rfl, hb⟩
  have HZ4 := Lib.hid ((hb.block _ (heapsz HZ3.out)).trans HZ3.out)
  have HB4 := Lib.hid (HB3.out.trans (hb.mono HB3.out.size))
  have HN4 := Lib.hid (HN3.out.up hb)
  have HA4 := Lib.hid (RowAt.up HA3.out hb)
  clear hb
  clear v0 v1 v2
  obtain ⟨v0, v1, v2⟩ := box3_cells HZ4.out
  have HPR : Hid (postR N fs = if (postI N fs).2 = -1 then (0, 0, 5) else (((postI N fs).1 : Int), (postI N fs).2, 0)) := Lib.hid (by unfold postR; rw [if_pos HPB.out.1])
  obtain ⟨p, hp⟩ : ∃ z, (postI N fs).1 = z := ⟨_, rfl⟩
  obtain ⟨s, hs⟩ : ∃ z, (postI N fs).2 = z := ⟨_, rfl⟩
  obtain ⟨r, hr⟩ : ∃ z, postR N fs = z := ⟨_, rfl⟩
  rw [hr] at HPR ⊢
  rw [hp, hs] at HPR HPB
  have HR := Lib.hid hr
  clear hp hs hr
  obtain ⟨r0, r1, r2⟩ := r
  simp only
  go_wp2_with fail
  refine (rleast_any _ N o A n c fs _ HN4.out HL.out HNN.out HA4.out HK.out).mono ?_
  rintro e w5 ⟨rfl, hb⟩
  have HZ5 := Lib.hid ((hb.block _ (heapsz HZ4.out)).trans HZ4.out)
  have HB5 := Lib.hid (HB4.out.trans (hb.mono HB4.out.size))
  have HN5 := Lib.hid (HN4.out.up hb)
  have HA5 := Lib.hid (RowAt.up HA4.out hb)
  clear hb
  clear v0 v1 v2
  obtain ⟨v0, v1, v2⟩ := box3_cells HZ5.out
  obtain ⟨m, hm⟩ : ∃ z, sofI N 0 fs o.toNat = z := ⟨_, rfl⟩
  have HM := Lib.hid hm
  rw [hm] at HPB
  rw [hm]
  clear hm
  by_cases h5 : s = -1
  · have hm1 : m = -1 := HPB.out.2.1 h5
    obtain ⟨rfl, rfl, rfl⟩ : r0 = 0 ∧ r1 = 0 ∧ r2 = 5 := by
      have := HPR.out
      rw [if_pos h5] at this
      simpa using this
    subst hm1
    clear v0 v1 v2
    go_wp2_with fail
    refine (known_any _).mono ?_
    rintro e wk ⟨rfl, hbk⟩
    have HBK := Lib.hid (HB5.out.trans (hbk.mono HB5.out.size))
    clear hbk
    go_wp2_with fail
    go_ret
    exact ⟨rfl, HBK.out⟩
  obtain ⟨rfl, rfl, rfl⟩ : r0 = (p : Int) ∧ r1 = s ∧ r2 = 0 := by
    have := HPR.out
    rw [if_neg h5] at this
    simpa using this
  obtain ⟨hs0, hpl, hsp, hms, hmo⟩ := HPB.out.2.2 h5
  have HKP := Lib.hid (HK.out.at (q := (p : Int)) ⟨by omega, by omega⟩)
  have HPL : Hid (inB 0 (p : Int) N.lo.length = true) := Lib.hid (inB_iff.2 ⟨by omega, by omega⟩)
  have HSP := Lib.hid hsp
  have HSP2 : Hid (sofI N 0 fs ((p : Int)).toNat = r1) := Lib.hid (by rw [Int.toNat_natCast]; exact hsp)
  clear hsp hpl
  go_wp2_with fail
  refine (rleast_any _ N (p : Int) A n c fs _ HN5.out HL.out HNN.out HA5.out HKP.out).mono ?_
  rintro e w6 ⟨rfl, hb⟩
  have HZ6 := Lib.hid ((hb.block _ (heapsz HZ5.out)).trans HZ5.out)
  have HB6 := Lib.hid (HB5.out.trans (hb.mono HB5.out.size))
  have HN6 := Lib.hid (HN5.out.up hb)
  have HA6 := Lib.hid (RowAt.up HA5.out hb)
  clear hb
  clear v0 v1 v2
  obtain ⟨v0, v1, v2⟩ := box3_cells HZ6.out
  rw [HSP2.out]
  go_wp2_with fail
  refine (rplace_any _ N (p : Int) _ HN6.out).mono ?_
  rintro e w7 ⟨rfl, hb⟩
  have HZ7 := Lib.hid ((hb.block _ (heapsz HZ6.out)).trans HZ6.out)
  have HB7 := Lib.hid (HB6.out.trans (hb.mono HB6.out.size))
  have HN7 := Lib.hid (HN6.out.up hb)
  have HA7 := Lib.hid (RowAt.up HA6.out hb)
  clear hb
  clear v0 v1 v2
  obtain ⟨v0, v1, v2⟩ := box3_cells HZ7.out
  rw [HPL.out]
  clear v0 v1 v2
  by_cases hlt : m < r1
  · go_wp2_with fail
    refine (known_any _).mono ?_
    rintro e wk ⟨rfl, hbk⟩
    have HBK := Lib.hid (HB7.out.trans (hbk.mono HB7.out.size))
    clear hbk
    go_wp2_with fail
    go_ret
    exact ⟨rfl, HBK.out⟩
  by_cases heq : m = r1
  · have hop : (p : Int) ≤ o := hmo heq
    subst heq
    go_wp2_with fail
    refine (known_any _).mono ?_
    rintro e wk ⟨rfl, hbk⟩
    have HBK := Lib.hid (HB7.out.trans (hbk.mono HB7.out.size))
    clear hbk
    go_wp2_with fail
    go_ret
    exact ⟨rfl, HBK.out⟩
  exact absurd hms (by omega)
end Go.Proofs.Yticmeeinjkoodaa
