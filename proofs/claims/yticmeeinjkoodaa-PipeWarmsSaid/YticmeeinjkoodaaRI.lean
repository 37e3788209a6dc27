/- Pipes: the law PipeWarms. -/
import Derived.Test.YticmeeinjkoodaaRH
namespace Go.Proofs.Yticmeeinjkoodaa
open Go.RowKit Go.Shelf

set_option maxRecDepth 100000 in
set_option maxHeartbeats 8000000 in
theorem warms_law (V : NV) (N : Nt) (loop : Int) (w : World) (hN : NtAt w w.heap.size V N) :
    Calls Try.prog 3 #[nvV V, .int .i64 loop] w fun e w' => e = .returned (.bool true) ∧ Below w.heap.size w w' := by
  have z := heap_alloc_new w (.cells (nvC V) 26)
  have hb := (Below.refl w.heap.size w).alloc (Nat.le_refl _) (.cells (nvC V) 26)
  obtain ⟨w1, hw1⟩ : ∃ z, w.alloc (.cells (nvC V) 26) = z := ⟨_, rfl⟩
  rw [hw1] at z hb
  have HW := Lib.hid hw1
  have HN := Lib.hid (hN.up hb)
  obtain ⟨al, nl, cl, af, nf, cf, aw, nw, cw⟩ := V
  obtain ⟨v0, v1, v2⟩ := box3_cells z
  have hml := hN.ml; have hmf := hN.mf; have hmw := hN.mw
  unfold maxLen at hml hmf hmw
  simp only at hml hmf hmw v0 v1 v2
  have HB := Lib.hid hb; have Z := Lib.hid z
  have HNL := Lib.hid hN.nl; have HNF := Lib.hid hN.nf; have HNW := Lib.hid hN.nw
  clear z hb hw1 hN
  have HZ1 := Z; have HB1 := HB; have HN1 := HN
  clear Z HB HN
  go_enter Try.func3, Try.ntmps3
  go_wp2_with fail
  rw [show w.alloc (.cells #[.slice al nl cl, .slice af nf cf, .slice aw nw cw] 26) = w1 from HW.out]
  refine (short_any _ N _ HN1.out).mono ?_
  rintro e w2 ⟨rfl, hb⟩
  have HZ2 := Lib.hid ((hb.block _ (heapsz HZ1.out)).trans HZ1.out)
  have HB2 := Lib.hid (HB1.out.trans (hb.mono HB1.out.size))
  have HN2 := Lib.hid (HN1.out.up hb)
  clear hb
  clear v0 v1 v2
  obtain ⟨v0, v1, v2⟩ := box3_cells HZ2.out
  cases hsh : shortB N
  · clear v0 v1 v2 hsh
    go_wp2_with fail
    refine (known_any _).mono ?_
    rintro e wk ⟨rfl, hbk⟩
    have HBK := Lib.hid (HB2.out.trans (hbk.mono HB2.out.size))
    clear hbk
    go_wp2_with fail
    go_ret
    exact ⟨rfl, HBK.out⟩
  have h8 : nl ≤ 8 := by
    unfold shortB at hsh
    simp only [Bool.and_eq_true, decide_eq_true_eq] at hsh
    have := hsh.2.1
    have h1 := HNL.out
    first | omega | (simp only at h1; omega)
  clear hsh
  go_wp2_with fail
  refine (Check_any _ N _ HN2.out).mono ?_
  rintro e w3 ⟨rfl, hb⟩
  have HZ3 := Lib.hid ((hb.block _ (heapsz HZ2.out)).trans HZ2.out)
  have HB3 := Lib.hid (HB2.out.trans (hb.mono HB2.out.size))
  have HN3 := Lib.hid (HN2.out.up hb)
  clear hb
  clear v0 v1 v2
  obtain ⟨v0, v1, v2⟩ := box3_cells HZ3.out
  cases hnt : ntB N
  · have hci : checkI N = 2 := by unfold checkI; rw [hnt]; rfl
    have hlb : loopB N loop = false := by unfold loopB; rw [hnt]; rfl
    have hli : loopI N loop = 2 := by unfold loopI; rw [hlb]; rfl
    have hfa : frzA N loop = 0 := by unfold frzA; rw [hlb]; rfl
    have hfb : frzB N loop = 0 := by unfold frzB; rw [hlb]; rfl
    have HNT := Lib.hid hnt
    have HFR : Hid (frzA N loop = 0 ∧ frzB N loop = 0 ∧ loopI N loop = 2) := Lib.hid ⟨hfa, hfb, hli⟩
    rw [hci]
    clear hnt hci hlb hli hfa hfb
    go_wp2_with fail
    refine (Warmth_any _ N _ HN3.out).mono ?_
    rintro e w4 ⟨hb, ⟨_, rfl⟩ | ⟨hf, _⟩⟩
    rotate_left
    · rw [HNT.out] at hf
      cases hf
    have HZ4 := Lib.hid ((hb.block _ (heapsz HZ3.out)).trans HZ3.out)
    have HB4 := Lib.hid (HB3.out.trans (hb.mono HB3.out.size))
    have HN4 := Lib.hid (HN3.out.up hb)
    clear hb
    clear v0 v1 v2
    obtain ⟨v0, v1, v2⟩ := box3_cells HZ4.out
    go_wp2_with fail
    refine (Freezes_any _ N loop _ HN4.out).mono ?_
    rintro e w5 ⟨rfl, hb⟩
    have HZ5 := Lib.hid ((hb.block _ (heapsz HZ4.out)).trans HZ4.out)
    have HB5 := Lib.hid (HB4.out.trans (hb.mono HB4.out.size))
    have HN5 := Lib.hid (HN4.out.up hb)
    clear hb
    clear v0 v1 v2
    obtain ⟨v0, v1, v2⟩ := box3_cells HZ5.out
    rw [HFR.out.1, HFR.out.2.1, HFR.out.2.2]
    go_wp2_with fail
    refine (rnet_any _ N _ HN5.out (by simp only; omega)).mono ?_
    rintro e w6 ⟨rfl, hb⟩
    have HZ6 := Lib.hid ((hb.block _ (heapsz HZ5.out)).trans HZ5.out)
    have HB6 := Lib.hid (HB5.out.trans (hb.mono HB5.out.size))
    have HN6 := Lib.hid (HN5.out.up hb)
    clear hb
    clear v0 v1 v2
    obtain ⟨v0, v1, v2⟩ := box3_cells HZ6.out
    rw [HNT.out]
    clear v0 v1 v2
    go_wp2_with fail
    refine (known_any _).mono ?_
    rintro e wk ⟨rfl, hbk⟩
    have HBK := Lib.hid (HB6.out.trans (hbk.mono HB6.out.size))
    clear hbk
    go_wp2_with fail
    go_ret
    exact ⟨rfl, HBK.out⟩
  have hci : checkI N = 0 := by unfold checkI; rw [hnt]; rfl
  have HOK := Lib.hid (ntB_iff.1 hnt)
  have HNT := Lib.hid hnt
  rw [hci]
  clear hnt hci
  go_wp2_with fail
  refine (Warmth_any _ N _ HN3.out).mono ?_
  rintro e w4 ⟨hb, ⟨hf, _⟩ | ⟨_, lv, rows, w0, rfl, hg, _⟩⟩
  · rw [HNT.out] at hf
    cases hf
  have HZ4 := Lib.hid ((hb.block _ (heapsz HZ3.out)).trans HZ3.out)
  have HB4 := Lib.hid (HB3.out.trans (hb.mono HB3.out.size))
  have HN4 := Lib.hid (HN3.out.up hb)
  have HSH := Lib.hid (fun row (hr : row ∈ warL N N.lo.length) => (by
    unfold warL at hr
    obtain ⟨q, hq, rfl⟩ := List.mem_map.1 hr
    have := HOK.out.h72
    rw [spansL_len]
    omega : row.length ≤ 1000))
  have HWL : Hid ((warL N N.lo.length).length = nl) := Lib.hid (by unfold warL; rw [List.length_map, List.take_length]; exact HNL.out)
  obtain ⟨A3, c3, rfl, hgr, _, _⟩ := hg.grid (k := 2) (fun _ => rfl) (fun row hr => by have := HSH.out row hr; unfold maxLen; omega)
  rw [HWL.out]
  have HGR4 := Lib.hid hgr
  clear hb hg hgr
  clear v0 v1 v2
  obtain ⟨v0, v1, v2⟩ := box3_cells HZ4.out
  go_wp2_with fail
  refine (Freezes_any _ N loop _ HN4.out).mono ?_
  rintro e w5 ⟨rfl, hb⟩
  have HZ5 := Lib.hid ((hb.block _ (heapsz HZ4.out)).trans HZ4.out)
  have HB5 := Lib.hid (HB4.out.trans (hb.mono HB4.out.size))
  have HN5 := Lib.hid (HN4.out.up hb)
  have HGR5 := Lib.hid (GridAt.up HGR4.out hb)
  clear hb
  clear v0 v1 v2
  obtain ⟨v0, v1, v2⟩ := box3_cells HZ5.out
  obtain ⟨fa, hfa⟩ : ∃ z, frzA N loop = z := ⟨_, rfl⟩
  obtain ⟨fb, hfb⟩ : ∃ z, frzB N loop = z := ⟨_, rfl⟩
  obtain ⟨li, hli⟩ : ∃ z, loopI N loop = z := ⟨_, rfl⟩
  have HFA := Lib.hid hfa; have HFB := Lib.hid hfb; have HLI := Lib.hid hli
  rw [hfa, hfb, hli]
  clear hfa hfb hli
  go_wp2_with fail
  refine (rnet_any _ N _ HN5.out (by simp only; omega)).mono ?_
  rintro e w6 ⟨rfl, hb⟩
  have HZ6 := Lib.hid ((hb.block _ (heapsz HZ5.out)).trans HZ5.out)
  have HB6 := Lib.hid (HB5.out.trans (hb.mono HB5.out.size))
  have HN6 := Lib.hid (HN5.out.up hb)
  have HGR6 := Lib.hid (GridAt.up HGR5.out hb)
  clear hb
  clear v0 v1 v2
  obtain ⟨v0, v1, v2⟩ := box3_cells HZ6.out
  rw [HNT.out]
  go_wp2_with fail
  refine (rwarmth_any _ N _ HN6.out HOK.out).mono ?_
  rintro e w7 ⟨lv, rows, w9, rfl, hb, hg, _⟩
  have HZ7 := Lib.hid ((hb.block _ (heapsz HZ6.out)).trans HZ6.out)
  have HB7 := Lib.hid (HB6.out.trans (hb.mono HB6.out.size))
  have HN7 := Lib.hid (HN6.out.up hb)
  have HGR7 := Lib.hid (GridAt.up HGR6.out hb)
  obtain ⟨A4, c4, rfl, hgr, _, _⟩ := hg.grid (k := 2) (fun _ => rfl) (fun row hr => by have := HSH.out row hr; unfold maxLen; omega)
  rw [HWL.out]
  have HGS7 := Lib.hid hgr
  clear hb hg hgr
  clear v0 v1 v2
  obtain ⟨v0, v1, v2⟩ := box3_cells HZ7.out
  go_wp2_with fail
  refine (sspans_any _ A3 A4 _ c3 c4 _ HWL.out (by omega) HSH.out HGR7.out HGS7.out).mono ?_
  rintro e w8 ⟨rfl, hb⟩
  have HZ8 := Lib.hid ((hb.block _ (heapsz HZ7.out)).trans HZ7.out)
  have HB8 := Lib.hid (HB7.out.trans (hb.mono HB7.out.size))
  have HN8 := Lib.hid (HN7.out.up hb)
  have HGR8 := Lib.hid (GridAt.up HGR7.out hb)
  clear hb
  clear v0 v1 v2
  obtain ⟨v0, v1, v2⟩ := box3_cells HZ8.out
  go_wp2_with fail
  refine (risLoop_any _ N loop _ HN8.out).mono ?_
  rintro e w9 ⟨rfl, hb⟩
  have HZ9 := Lib.hid ((hb.block _ (heapsz HZ8.out)).trans HZ8.out)
  have HB9 := Lib.hid (HB8.out.trans (hb.mono HB8.out.size))
  have HN9 := Lib.hid (HN8.out.up hb)
  have HGR9 := Lib.hid (GridAt.up HGR8.out hb)
  clear hb
  clear v0 v1 v2
  obtain ⟨v0, v1, v2⟩ := box3_cells HZ9.out
  cases hil : inB 0 loop (N.lo.length - 1)
  · have hlb : loopB N loop = false := by unfold loopB; rw [hil, Bool.and_false]
    obtain rfl : li = 2 := by rw [← HLI.out]; unfold loopI; rw [hlb]; rfl
    obtain rfl : fa = 0 := by rw [← HFA.out]; unfold frzA; rw [hlb]; rfl
    obtain rfl : fb = 0 := by rw [← HFB.out]; unfold frzB; rw [hlb]; rfl
    clear hlb hil v0 v1 v2
    go_wp2_with fail
    refine (known_any _).mono ?_
    rintro e wk ⟨rfl, hbk⟩
    have HBK := Lib.hid (HB9.out.trans (hbk.mono HB9.out.size))
    clear hbk
    go_wp2_with fail
    go_ret
    exact ⟨rfl, HBK.out⟩
  have hlb : loopB N loop = true := by unfold loopB; rw [ntB_iff.2 HOK.out, hil]; rfl
  obtain rfl : li = 0 := by rw [← HLI.out]; unfold loopI; rw [hlb]; rfl
  have hfa : fa = frzI (N.at loop) false N.fr 0 := by rw [← HFA.out]; unfold frzA; rw [hlb]; rfl
  have hfb : fb = frzI (N.at loop) false N.fr 1 := by rw [← HFB.out]; unfold frzB; rw [hlb]; rfl
  obtain ⟨L, rfl, hL1, hL2⟩ := loopB_get hlb
  obtain ⟨l, hll⟩ : ∃ z, N.at (L : Int) = z := ⟨_, rfl⟩
  rw [hll] at hL2 hfa hfb
  have HL2 := Lib.hid hL2
  have HFF : Hid (frzI l false N.fr 0 = fa ∧ frzI l false N.fr 1 = fb) := Lib.hid ⟨hfa.symm, hfb.symm⟩
  clear hlb hil hL1 hL2 hll hfa hfb
  go_wp2_with fail
  refine (rfreezes_any _ N _ HN9.out HOK.out HL2.out).mono ?_
  rintro e w10 ⟨rfl, hb⟩
  have HZ10 := Lib.hid ((hb.block _ (heapsz HZ9.out)).trans HZ9.out)
  have HB10 := Lib.hid (HB9.out.trans (hb.mono HB9.out.size))
  have HN10 := Lib.hid (HN9.out.up hb)
  have HGR10 := Lib.hid (GridAt.up HGR9.out hb)
  clear hb
  rw [HFF.out.1, HFF.out.2]
  clear v0 v1 v2
  go_wp2_with fail
  refine (known_any _).mono ?_
  rintro e wk ⟨rfl, hbk⟩
  have HBK := Lib.hid (HB10.out.trans (hbk.mono HB10.out.size))
  clear hbk
  go_wp2_with fail
  go_ret
  exact ⟨rfl, HBK.out⟩
end Go.Proofs.Yticmeeinjkoodaa
