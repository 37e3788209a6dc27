/- PileBlamed, its function: a pair that is blamed; the whole. -/
import Derived.Test.YtdlaphlpimlgdaaGreatDoorEG
namespace Go.Proofs.YtdlaphlpimlgdaaGreatDoor
open Go.RowKit Go.Shelf

section
attribute [local irreducible] QT
set_option maxRecDepth 100000 in
set_option maxHeartbeats 16000000 in
theorem blamed_pair {X : Ctx} {w : World} (h : X.In w) (ht : Tab w) (A2 : Option Addr) (m c2 : Nat) (plan : List Int) (hm : plan.length = m) (hm2 : m ≤ maxLen) (hL : IntsAt w w.heap.size A2 plan) (hS : shortB X.np X.nq X.nr X.ts = true) (h0 : planI X.sit X.ts plan = 0) (t o a b : Nat) (htn : t < X.n) (hoq : o < X.nq) (ha : a < X.np) (hb : b < X.np) (hF : fauI (fauF X (spanL X.ps X.rs X.ts plan)) = ((t : Int), 5, (o : Int))) (hQ : X.qs[o]? = some ((a : Int), (b : Int)))
    (hbl : X.tilt < lvI (setF (X.mixL a)) plan t b - lvI (setF (X.mixL a)) plan t a ∨ X.tilt < lvI (setF (X.mixL b)) plan t a - lvI (setF (X.mixL b)) plan t b) :
    Calls Tryz.prog 9 #[X.sv, X.tv, .slice A2 m c2] w fun e w' => e = .returned (.bool true) ∧ Below w.heap.size w w' := by
  obtain ⟨z0, hb0⟩ := site_new X w
  have HM := Lib.hid hm; have HM2 := Lib.hid hm2; have HT := Lib.hid ht
  obtain ⟨w1, hw1⟩ : ∃ z, w.alloc (.cells X.cells 26) = z := ⟨_, rfl⟩
  rw [hw1] at z0 hb0
  have HI := Lib.hid (h.up hb0); have HB := Lib.hid hb0; have HL := Lib.hid (RowAt.up (k := 1) (R := intR) hL hb0)
  have Z0 := Lib.hid z0
  obtain ⟨s0, s1, s2, s3, s4, s5⟩ := site_box z0
  have htv : X.tv = .slice X.A X.n X.c := rfl
  rw [htv]
  clear h ht z0 hb0 hm hm2 hL htv
  have HSH := Lib.hid (short_X HI.out)
  rw [hS] at HSH
  have HKN : Hid (∀ u, Below w.heap.size w u → Calls Tryz.prog 19 #[] u fun e w' => e = .returned (.bool true) ∧ Below u.heap.size u w') := Lib.hid fun u hu => known_any u (HT.out.next hu)
  clear hS
  have HF := Lib.hid hF; have HQ := Lib.hid hQ; have HPa := Lib.hid ha; have HPb := Lib.hid hb; have HBL := Lib.hid hbl
  have t0 : (0 : Int) ≤ (t : Int) := by omega
  have t1 : (t : Int) < (X.n : Int) := by omega
  have o0 : (0 : Int) ≤ (o : Int) := by omega
  have o1 : (o : Int) < (X.nq : Int) := by omega
  have a0 : (0 : Int) ≤ (a : Int) := by omega
  have a1 : (a : Int) < (X.np : Int) := by omega
  have b0 : (0 : Int) ≤ (b : Int) := by omega
  have b1 : (b : Int) < (X.np : Int) := by omega
  clear hF hQ hbl
  have H0 := Lib.hid h0; clear h0
  go_enter Tryz.func9, Tryz.ntmps9
  go_wp2_with fail
  refine HSH.out.mono ?_
  rintro e w2 ⟨rfl, hb⟩
  have HB2 := Lib.hid (HB.out.trans (hb.mono HB.out.size)); have HI2 := Lib.hid (HI.out.up hb); have HL2 := Lib.hid (RowAt.up (k := 1) (R := intR) HL.out hb)
  have Z2 := Lib.hid ((hb.block _ (heapsz Z0.out)).trans Z0.out)
  clear hb s0 s1 s2 s3 s4 s5 HSH
  obtain ⟨s0, s1, s2, s3, s4, s5⟩ := site_box Z2.out
  have hPL := planned_X (c2 := c2) HI2.out A2 m plan HM.out HM2.out HL2.out
  rw [H0.out] at hPL
  have HPL := Lib.hid hPL
  have HZ := Lib.hid (planI_0 H0.out)
  have HTH := Lib.hid HZ.out.1
  obtain rfl : m = X.n := (by rw [← HM.out, HZ.out.2.1, HI2.out.hl])
  have HK : Hid X.Ok := Lib.hid ⟨HI2.out.hp, HI2.out.hq, HI2.out.hr, HI2.out.hl, HZ.out.1⟩
  have np6 := HK.out.np6; have n10 := HK.out.n10
  have hni : ((X.n : Int) == (X.n : Int)) = true := beq_self_eq_true _
  have hnpi : ((X.np : Int) == (X.np : Int)) = true := beq_self_eq_true _
  clear hPL
  go_wp2_with fail
  refine HPL.out.mono ?_
  rintro e w3 ⟨rfl, hb⟩
  have HB3 := Lib.hid (HB2.out.trans (hb.mono HB2.out.size)); have HI3 := Lib.hid (HI2.out.up hb); have HL3 := Lib.hid (RowAt.up (k := 1) (R := intR) HL2.out hb)
  have Z3 := Lib.hid ((hb.block _ (heapsz Z2.out)).trans Z2.out)
  clear hb s0 s1 s2 s3 s4 s5 HPL HB2 HI2 HL2 Z2
  obtain ⟨s0, s1, s2, s3, s4, s5⟩ := site_box Z3.out
  have hFA := Fault_any HI3.out A2 X.n c2 plan HM.out HM2.out HL3.out
  rw [H0.out] at hFA
  unfold FauPost at hFA
  simp only [HF.out, fauV, if_pos] at hFA
  have HFA := Lib.hid hFA
  clear hFA
  go_wp2_with fail
  refine HFA.out.mono ?_
  rintro e w4 ⟨rfl, hb⟩
  have HB4 := Lib.hid (HB3.out.trans (hb.mono HB3.out.size)); have HI4 := Lib.hid (HI3.out.up hb); have HL4 := Lib.hid (RowAt.up (k := 1) (R := intR) HL3.out hb)
  have Z4 := Lib.hid ((hb.block _ (heapsz Z3.out)).trans Z3.out)
  clear hb s0 s1 s2 s3 s4 s5 HFA HB3 HI3 HL3 Z3
  have hbz := (Below.refl w4.heap.size w4).alloc (Nat.le_refl _) (.cells #[.int .i64 (t : Int), .int .i64 5, .int .i64 (o : Int)] 64)
  have zf := heap_alloc_new w4 (.cells #[.int .i64 (t : Int), .int .i64 5, .int .i64 (o : Int)] 64)
  obtain ⟨wf, hwf⟩ : ∃ z, w4.alloc (.cells #[.int .i64 (t : Int), .int .i64 5, .int .i64 (o : Int)] 64) = z := ⟨_, rfl⟩
  rw [hwf] at hbz zf
  have HBF := Lib.hid (HB4.out.trans (hbz.mono HB4.out.size)); have HIF := Lib.hid (HI4.out.up hbz); have HLF := Lib.hid (RowAt.up (k := 1) (R := intR) HL4.out hbz)
  have ZX := Lib.hid ((hbz.block _ (heapsz Z4.out)).trans Z4.out); have ZF := Lib.hid zf
  clear hbz zf HB4 HI4 HL4 Z4
  obtain ⟨f0, f1, f2⟩ := box3_cells ZF.out
  obtain ⟨s0, s1, s2, s3, s4, s5⟩ := site_box ZX.out
  go_wp2_with fail
  try rw [hwf]
  obtain ⟨bf, hbf⟩ : ∃ z, w4.heap.size = z := ⟨_, rfl⟩
  rw [hbf] at ZF
  try rw [hbf]
  clear hwf hbf f0 f1 f2 s0 s1 s2 s3 s4 s5
  refine rel_region [3, 1] [(75, 2), (78, 5), (9, 6), (10, 7)] (blCv X.sv X.tv w.heap.size) (blF X.n (X.endsL true) (X.endsL false)) (by kernel_rfl) (by kernel_rfl) (by kernel_rfl) (by kernel_rfl) (by kernel_rfl) (by kernel_rfl) ?_ (blF_keep X.n (X.endsL true) (X.endsL false)) ?_ ?_
  · intro t ht
    simp only [List.mem_cons, List.not_mem_nil, or_false] at ht
    rcases ht with rfl | rfl <;> rfl
  · refine allOps_array ?_
    have hp : ∀ u : KeptW wf, _ := fun u => site_box ((u.h.block _ (heapsz ZX.out)).trans ZX.out)
    refine ⟨?_, ?_, ?_, ?_, ?_, ?_, ?_, ?_, trivial⟩ <;> intro g u hd_ <;> obtain ⟨q0, q1, q2, q3, q4, q5⟩ := hp u
    · refine ⟨rfl, relQ 73 rfl trivial ?_⟩
      simp [go_sem, evalBy, rhoT, relOf, blCv, q0, q1, q2, q3, q4, q5]
    · refine ⟨rfl, relQ 74 rfl trivial ?_⟩
      simp [go_sem, evalBy, rhoT, relOf, blCv]
    · refine ⟨rfl, relC 39 #[X.sv, X.tv, .bool true] (by simp [go_sem, evalBy, rhoT, relOf, blCv]) ?_⟩
      refine (refEnds_any (HIF.out.up u.h) HTH.out true).mono ?_
      rintro e w' ⟨A3, c3, rfl, g1, _, hb⟩
      exact ⟨_, rfl, hb, ⟨A3, c3, rfl, g1⟩, fun e he hn => by injection he with he; subst he; exact absurd hn (by simp [relOf])⟩
    · refine ⟨rfl, relQ 76 rfl trivial ?_⟩
      simp [go_sem, evalBy, rhoT, relOf, blCv, q0, q1, q2, q3, q4, q5]
    · refine ⟨rfl, relQ 77 rfl trivial ?_⟩
      simp [go_sem, evalBy, rhoT, relOf, blCv]
    · refine ⟨rfl, relC 39 #[X.sv, X.tv, .bool false] (by simp [go_sem, evalBy, rhoT, relOf, blCv]) ?_⟩
      refine (refEnds_any (HIF.out.up u.h) HTH.out false).mono ?_
      rintro e w' ⟨A3, c3, rfl, g1, _, hb⟩
      exact ⟨_, rfl, hb, ⟨A3, c3, rfl, g1⟩, fun e he hn => by injection he with he; subst he; exact absurd hn (by simp [relOf])⟩
    · have hv := hd_ ⟨2, .data⟩ (by simp) rfl
      refine ⟨rfl, relM (g 2) hv (fun e he hn => by injection he with he; subst he; exact absurd hn (by simp [relOf])) ?_⟩
      simp [go_sem, evalBy, rhoT, relOf]
    · have hv := hd_ ⟨5, .data⟩ (by simp) rfl
      refine ⟨rfl, relM (g 5) hv (fun e he hn => by injection he with he; subst he; exact absurd hn (by simp [relOf])) ?_⟩
      simp [go_sem, evalBy, rhoT, relOf]
  · intro g u hf
    obtain ⟨Am, cm, em, hgm⟩ : TruG X.n (X.endsL true) (g 6) u.w := hf 6 (by decide)
    obtain ⟨Al, cl, el, hgl⟩ : TruG X.n (X.endsL false) (g 7) u.w := hf 7 (by decide)
    simp [putAll, Act.put, rhoT, relOf, blCv, em, el]
    have hub := u.h
    obtain ⟨w5, hwo⟩ : ∃ x, u.w = x := ⟨_, rfl⟩
    obtain ⟨k2, hk2⟩ : ∃ x, g 2 = x := ⟨_, rfl⟩
    obtain ⟨k5, hk5⟩ : ∃ x, g 5 = x := ⟨_, rfl⟩
    rw [hwo] at hgm hgl hub ⊢
    try rw [hk2]
    try rw [hk5]
    clear hf em el hwo hk2 hk5
    have HB5 := Lib.hid (HBF.out.trans (hub.mono HBF.out.size)); have HI5 := Lib.hid (HIF.out.up hub); have HL5 := Lib.hid (RowAt.up (k := 1) (R := intR) HLF.out hub)
    have HGM := Lib.hid hgm; have HGL := Lib.hid hgl
    have ZX5 := Lib.hid ((hub.block _ (heapsz ZX.out)).trans ZX.out); have ZF5 := Lib.hid ((hub.block _ (heapsz ZF.out)).trans ZF.out)
    clear hub hgm hgl HBF HIF HLF ZX ZF u g
    have q10 := HK.out.parts.q10
    have HGM5 := HGM; have HGL5 := HGL
    clear HGM HGL
    obtain ⟨bq, oq, eQ, hbq, q0, q1⟩ := prs_el HI5.out.Q HQ.out
    obtain ⟨f0, f1, f2⟩ := box3_cells ZF5.out
    obtain ⟨s0, s1, s2, s3, s4, s5⟩ := site_box ZX5.out
    rw [eQ] at s1
    clear hbq eQ
    go_wp2_with fail
    refine wp_loop_rounds 2 ?_
    rw [rounds_succ]
    go_wp2_with fail
    obtain ⟨i0, hi0, hz0, hz1, hz2⟩ := info_parts tru_info
    obtain ⟨j0, hj0, jz0, jz1, jz2⟩ := info_parts trus_info
    clear s0 s1 s2 s3 s4 s5 f0 f1 f2 q0 q1
    go_loopw [13, 14] (fun v i wr => ∃ (j : Nat) (rows : List Value), j ≤ X.n ∧ i = .int .i64 j ∧ Below w5.heap.size w5 wr ∧ GrdI truR 68 52 w w5.heap.size ((X.mixL a).take j) v rows wr) (fun _ i _ => X.n - (intOf i).toNat)
    case atStart => exact ⟨0, [], Nat.zero_le _, rfl, Below.refl _ _, GrdI.nil HB5.out HB5.out.size⟩
    case round =>
      obtain ⟨j, rows, hj, rfl, hbr, hG⟩ := hrel
      have HBR := Lib.hid hbr; have HG := Lib.hid hG
      clear hG hbr
      by_cases hlt : j < X.n
      · have j0' : (0 : Int) ≤ (j : Int) := by omega
        have j1' : (j : Int) < (X.n : Int) := by omega
        obtain ⟨bm, om, A9, m9, c9, rfl, hbm, hm9, dm, pm, _⟩ := grid_row HGM5.out (ends_row true hlt)
        obtain ⟨bl, ol, A7, m7, c7, rfl, hbl, hm7, dl, pl, _⟩ := grid_row HGL5.out (ends_row false hlt)
        have n9 : m9 = X.np := by rw [hm9]; simp
        have n7 : m7 = X.np := by rw [hm7]; simp
        rw [n9] at dm
        rw [n7] at dl
        obtain ⟨b9, o9, rfl, hb9, u0, u1, u2⟩ := tru_el pm (rowL_at (X.endT true j) HPa.out)
        obtain ⟨RL, hRL⟩ : ∃ z, (List.range X.np).map (X.endT false j) = z := ⟨_, rfl⟩
        have hrl : RL.length = X.np := by rw [← hRL]; simp
        have HRL := Lib.hid hrl
        rw [hRL] at pl
        obtain ⟨b7, o7, rfl, hb7, hc7⟩ := pl (by intro h; rw [h] at hrl; simp at hrl; omega)
        have HSR : Hid (∀ (k : Nat) (v : Value), (flatR truR RL)[k]? = some v → wr.cell? ((⟨b7, o7, none⟩ : Addr).add k) = some v) := Lib.hid fun k v hv => row_flat (k := 3) (by decide) truR_len (fun i x hx j' v' hv' => ((bcell HBR.out).1 _ _ hb7).trans (hc7 i x hx j' v' hv')) k v hv
        have HZ : Hid ((X.mixL a).take (j + 1) = (X.mixL a).take j ++ [RL.set a (X.endT true j a)]) := Lib.hid (by
          rw [List.take_add_one]
          unfold Ctx.mixL
          rw [gridL_at _ hlt, mix_row, hRL]
          rfl)
        have HLT : Hid (((X.mixL a).take j).length = j) := Lib.hid (by rw [List.length_take, mixL_len]; omega)
        have HFL : Hid ((flatR truR RL).length = X.np * 3) := Lib.hid (by rw [flatR_len truR_len, hrl])
        obtain ⟨Y, hY⟩ : ∃ z, X.endT true j a = z := ⟨_, rfl⟩
        rw [hY] at HZ u0 u1 u2
        have hlow : w5.heap.size ≤ wr.heap.size := HBR.out.size
        have HFM : Hid (∀ u, Below wr.heap.size wr u → u.cell? ⟨bm, om + j, none⟩ = some (.slice (some ⟨b9, o9, none⟩) X.np c9) ∧ u.cell? ⟨b9, o9 + a * 3, none⟩ = some (.int .i64 Y.t) ∧ u.cell? ⟨b9, o9 + a * 3 + 1, none⟩ = some (.int .i64 Y.l) ∧ u.cell? ⟨b9, o9 + a * 3 + 2, none⟩ = some (.int .i64 Y.s)) := Lib.hid fun u hu => by
          have hk := (bcell (HBR.out.trans (hu.mono HBR.out.size))).1
          exact ⟨(hk _ _ hbm).trans dm, (hk _ _ hb9).trans u0, (hk _ _ hb9).trans u1, (hk _ _ hb9).trans u2⟩
        have dl' := ((bcell HBR.out).1 _ _ hbl).trans dl
        clear hbm hm9 dm pm n9 hbl hm7 dl pl n7 hb9 u0 u1 u2 hRL hrl hb7 hc7 hY
        go_wp2_with (first | (at_builtin; refine Hid.out ?_) | fail)
        refine Lib.hid ?_
        refine wpList_append_own _ rfl _ _ 52 rfl wr.heap.size 68 i0 _ 3 24 Tryz.underlying52 hi0 hz0 hz1 hz2 rfl (by decide) _ _ _ rfl (World.ownsRow_nil _ _ _ _) ⟨b7, o7, none⟩ X.np c7 (flatR truR RL) rfl HFL.out HSR.out one_tru (by unfold maxLen; omega) (by omega) (by simp) ?_
        intro v4 w4 hown4 hgrow4 _
        obtain ⟨g4, cg4, rfl, hb4, ⟨⟨fz0, fz1, fz2⟩, x0, x1, x2, cz0, cz1, cz2⟩, hbB, hri⟩ := mix_step Y HRL.out HPa.out hown4 hgrow4
        have HBB := Lib.hid hbB; have HRI := Lib.hid hri
        obtain ⟨dm, u0, u1, u2⟩ := HFM.out w4 hb4
        clear hb4 hbB hri hown4 hgrow4 dl'
        go_wp2_with (first | (at_builtin; refine Hid.out ?_) | fail)
        refine Lib.hid ?_
        have hsz : (((w4.setCell ⟨g4, a * 3, none⟩ (.int .i64 Y.t)).setCell ⟨g4, a * 3 + 1, none⟩ (.int .i64 Y.l)).setCell ⟨g4, a * 3 + 2, none⟩ (.int .i64 Y.s)).heap.size = w4.heap.size := by simp
        generalize (((w4.setCell ⟨g4, a * 3, none⟩ (.int .i64 Y.t)).setCell ⟨g4, a * 3 + 1, none⟩ (.int .i64 Y.l)).setCell ⟨g4, a * 3 + 2, none⟩ (.int .i64 Y.s)) = WB at HBB HRI hsz ⊢
        try rw [← hsz]
        clear cz0 cz1 cz2 fz0 fz1 fz2 dm u0 u1 u2
        have HGB := Lib.hid (HG.out.below HBB.out)
        have hwb := HBB.out.size
        refine wpList_append_own _ rfl _ _ 51 rfl w5.heap.size 52 j0 _ 1 24 Tryz.underlying51 hj0 jz0 jz1 jz2 rfl (by decide) _ _ _ rfl (Go.Proofs.YtdlaphlpimlgdaaGreatDoor.own_next HGB.out.own ((Below.refl _ WB).alloc (Nat.le_refl _) _)) ⟨WB.heap.size, 0, none⟩ 1 1 [.slice (some ⟨g4, 0, none⟩) X.np cg4] rfl rfl (cell_one_new _ _ _) (by simp [Value.oneCell']) (by rw [HLT.out]; unfold maxLen; omega) (by rw [HLT.out]; omega) (by simp; omega) ?_
        intro v6 w6 hown6 hgrow6 _
        go_wp2_with fail
        have hA := HGB.out.append (by decide) (HRI.out.mono hlow) hown6 hgrow6
        rw [← HZ.out] at hA
        refine ⟨⟨j + 1, _, by omega, by go_num, ?_, hA⟩, by simp [intOf]; omega⟩
        have hbB := HBR.out.trans (HBB.out.mono HBR.out.size)
        have hb1 := (Below.refl WB.heap.size WB).alloc (Nat.le_refl _) (.cells #[.slice (some ⟨g4, 0, none⟩) X.np cg4] 52)
        exact (hbB.trans (hb1.mono hbB.size)).grown hgrow6 (Nat.le_trans hbB.size hb1.size) (fun B hB => (own_at HGB.out.own hB).1)
      · have hje : j = X.n := by omega
        have j1' : ¬ (j : Int) < (X.n : Int) := by omega
        have hfull : (X.mixL a).take j = X.mixL a := List.take_of_length_le (by rw [mixL_len]; omega)
        rw [hfull] at HG
        have hgr := HG.out.grid truR_len (fun row hr => by
          have := gridL_in (X.mixT a) row hr
          unfold maxLen
          omega)
        rw [mixL_len] at hgr
        obtain ⟨A3, c3, rfl, hg3, _, _⟩ := hgr
        have HB5x := Lib.hid (HB5.out.trans (HBR.out.mono HB5.out.size)); have HI5x := Lib.hid (HI5.out.up HBR.out); have HL5x := Lib.hid (RowAt.up (k := 1) (R := intR) HL5.out HBR.out)
        have HGM5x := Lib.hid (HGM5.out.up HBR.out); have HGL5x := Lib.hid (HGL5.out.up HBR.out)
        have ZX5x := Lib.hid ((HBR.out.block _ (heapsz ZX5.out)).trans ZX5.out); have ZF5x := Lib.hid ((HBR.out.block _ (heapsz ZF5.out)).trans ZF5.out)
        have hPT := playT_any HI5x.out A2 c2 plan HM.out HL5x.out H0.out HK.out.n10 (X.mixL a) (mixL_len X a) (poss_mix HK.out a) _ ⟨A3, c3, rfl, hg3⟩
        have HPT := Lib.hid hPT
        obtain ⟨s0, s1, s2, s3, s4, s5⟩ := site_box ZX5x.out
        clear hPT hg3 hfull hje HG HBR
        go_wp2_with fail
        refine HPT.out.mono ?_
        rintro e w8 ⟨v, rfl, hb, A8, c8, rfl, hc⟩
        have HC8 := Lib.hid hc
        have HB8 := Lib.hid (HB5x.out.trans (hb.mono HB5x.out.size)); have HI8 := Lib.hid (HI5x.out.up hb); have HL8 := Lib.hid (RowAt.up (k := 1) (R := intR) HL5x.out hb)
        have HGM8 := Lib.hid (HGM5x.out.up hb); have HGL8 := Lib.hid (HGL5x.out.up hb)
        have ZX8 := Lib.hid ((hb.block _ (heapsz ZX5x.out)).trans ZX5x.out); have ZF8 := Lib.hid ((hb.block _ (heapsz ZF5x.out)).trans ZF5x.out)
        clear hb hc s0 s1 s2 s3 s4 s5 HPT HB5x HI5x HL5x HGM5x HGL5x ZX5x ZF5x
        go_wp2_with fail
        have hrp : (lvT (setF (X.mixL a)) plan X.np)[t]? = some (lvL (setF (X.mixL a)) plan X.np t) := by
          unfold lvT
          rw [List.getElem?_map, List.getElem?_range (by rw [HM.out]; exact htn)]
          rfl
        obtain ⟨b8, o8, R8, m8, d8, rfl, hb8, hm8, e8, q8, _⟩ := lvs_row HC8.out hrp
        have n8 : m8 = X.np := by rw [hm8]; unfold lvL; simp
        rw [n8] at e8
        have Q8 := Lib.hid q8
        have FD : Hid (∀ u, Below w8.heap.size w8 u → u.cell? ⟨b8, o8 + t, none⟩ = some (.slice R8 X.np d8) ∧ (u.cell? ⟨bf, 0, none⟩ = some (.int .i64 (t : Int)) ∧ u.cell? ⟨bf, 1, none⟩ = some (.int .i64 5) ∧ u.cell? ⟨bf, 2, none⟩ = some (.int .i64 (o : Int))) ∧ (u.cell? ⟨w.heap.size, 0, none⟩ = some (.slice X.AP X.np X.cp) ∧ u.cell? ⟨w.heap.size, 1, none⟩ = some (.slice X.AQ X.nq X.cq) ∧ u.cell? ⟨w.heap.size, 2, none⟩ = some (.slice X.AR X.nr X.cr) ∧ u.cell? ⟨w.heap.size, 3, none⟩ = some (.int .i64 X.may) ∧ u.cell? ⟨w.heap.size, 4, none⟩ = some (.int .i64 X.sink) ∧ u.cell? ⟨w.heap.size, 5, none⟩ = some (.int .i64 X.tilt))) :=
          Lib.hid fun u hu => ⟨((bcell hu).1 _ _ hb8).trans e8, box3_cells ((hu.block _ (heapsz ZF8.out)).trans ZF8.out), site_box ((hu.block _ (heapsz ZX8.out)).trans ZX8.out)⟩
        clear hrp hb8 hm8 e8 q8 n8 HC8
        have fu := fun u : KeptW w8 => FD.out u.w u.h
        have r8 := fun u => (fu u).1; have y0 := fun u => (fu u).2.1.1; have x0 := fun u => (fu u).2.2.1
        clear fu
        refine rk_region (by kernel_rfl) (by kernel_rfl) ?_
        repeat (go_big_quiet_step (fail))
        refine wpQuiet_nil ?_
        rintro _ ⟨u, rfl⟩
        have hub := u.h
        obtain ⟨wv8, hwv⟩ : ∃ x, u.w = x := ⟨_, rfl⟩
        rw [hwv] at hub ⊢
        have HBV := Lib.hid hub
        clear r8 y0 x0 hub hwv u
        go_wp2_with fail
        have hset := setF_in (poss_set HK.out (poss_mix HK.out a))
        have k1 := hdI_in hset plan t a; have k2 := hset t a; have k3 := hdI_in hset plan t b; have k4 := hset t b
        have lva : (lvL (setF (X.mixL a)) plan X.np t)[a]? = some (lvI (setF (X.mixL a)) plan t a) := by unfold lvL; exact rowL_at _ HPa.out
        have lvb : (lvL (setF (X.mixL a)) plan X.np t)[b]? = some (lvI (setF (X.mixL a)) plan t b) := by unfold lvL; exact rowL_at _ HPb.out
        have ba : -1000000 ≤ lvI (setF (X.mixL a)) plan t a ∧ lvI (setF (X.mixL a)) plan t a ≤ 1000000 := by unfold lvI; omega
        have bb : -1000000 ≤ lvI (setF (X.mixL a)) plan t b ∧ lvI (setF (X.mixL a)) plan t b ≤ 1000000 := by unfold lvI; omega
        have HTY : Hid (∀ u, Below wv8.heap.size wv8 u → (X.tilt < lvI (setF (X.mixL a)) plan t a - lvI (setF (X.mixL a)) plan t b ∨ X.tilt < -(lvI (setF (X.mixL a)) plan t a - lvI (setF (X.mixL a)) plan t b)) → Calls Tryz.prog 41 #[X.sv, .int .i64 (o : Int), .slice R8 X.np d8] u fun e w' => e = .returned (.bool true) ∧ Below u.heap.size u w') := Lib.hid fun u hu hd =>
          tilts_yes ((HI8.out.up HBV.out).up hu) R8 d8 _ (RowAt.up (k := 1) (R := intR) (RowAt.up (k := 1) (R := intR) Q8.out HBV.out) hu) o a b _ _ np6.2 hoq q10 HPa.out HPb.out HQ.out lva lvb ba bb hd
        have HTN : Hid (∀ u, Below wv8.heap.size wv8 u → ¬ (X.tilt < lvI (setF (X.mixL a)) plan t a - lvI (setF (X.mixL a)) plan t b ∨ X.tilt < -(lvI (setF (X.mixL a)) plan t a - lvI (setF (X.mixL a)) plan t b)) → Calls Tryz.prog 41 #[X.sv, .int .i64 (o : Int), .slice R8 X.np d8] u fun e w' => e = .returned (.bool false) ∧ Below u.heap.size u w') := Lib.hid fun u hu hd =>
          tilts_not ((HI8.out.up HBV.out).up hu) R8 d8 _ (RowAt.up (k := 1) (R := intR) (RowAt.up (k := 1) (R := intR) Q8.out HBV.out) hu) o a b _ _ np6.2 hoq q10 HPa.out HPb.out HQ.out lva lvb ba bb (by omega) (by omega)
        clear hset k1 k2 k3 k4 lva lvb ba bb
        have fu := fun u : KeptW wv8 => FD.out u.w (HBV.out.trans (u.h.mono HBV.out.size))
        have r8 := fun u => (fu u).1; have y0 := fun u => (fu u).2.1.1; have y2 := fun u => (fu u).2.1.2.2
        have x0 := fun u => (fu u).2.2.1; have x1 := fun u => (fu u).2.2.2.1; have x2 := fun u => (fu u).2.2.2.2.1; have x3 := fun u => (fu u).2.2.2.2.2.1; have x4 := fun u => (fu u).2.2.2.2.2.2.1; have x5 := fun u => (fu u).2.2.2.2.2.2.2
        clear fu
        by_cases hd : X.tilt < lvI (setF (X.mixL a)) plan t a - lvI (setF (X.mixL a)) plan t b ∨ X.tilt < -(lvI (setF (X.mixL a)) plan t a - lvI (setF (X.mixL a)) plan t b)
        · have HC := Lib.hid fun u : KeptW wv8 => Calls.in_kept u (HTY.out u.w u.h hd)
          clear HTY HTN hd
          refine rk_region (by kernel_rfl) (by kernel_rfl) ?_
          repeat (go_big_quiet_step (first | (with_reducible exact HC.out _) | fail))
          refine wpQuiet_nil ?_
          rintro _ ⟨u, rfl⟩
          have HBX := Lib.hid (HB8.out.trans ((HBV.out.trans (u.h.mono HBV.out.size)).mono HB8.out.size))
          clear r8 y0 y2 x0 x1 x2 x3 x4 x5 HC
          go_wp2_with fail
          refine (HKN.out _ HBX.out).mono ?_
          rintro e wy ⟨rfl, hb⟩
          have HBY := Lib.hid (HBX.out.trans (hb.mono HBX.out.size)); clear hb
          go_wp2_with fail
          go_ret
          exact ⟨rfl, HBY.out⟩
        · have HC := Lib.hid fun u : KeptW wv8 => Calls.in_kept u (HTN.out u.w u.h hd)
          have HBL2 : Hid (X.tilt < lvI (setF (X.mixL b)) plan t a - lvI (setF (X.mixL b)) plan t b) := Lib.hid (by
            rcases HBL.out with h | h
            · exact absurd (.inr (by omega)) hd
            · exact h)
          clear HTY HTN hd
          refine rk_region (by kernel_rfl) (by kernel_rfl) ?_
          repeat (go_big_quiet_step (first | (with_reducible exact HC.out _) | fail))
          refine wpQuiet_nil ?_
          rintro _ ⟨u, rfl⟩
          have hub : Below w8.heap.size w8 u.w := HBV.out.trans (u.h.mono HBV.out.size)
          obtain ⟨wn, hwn⟩ : ∃ x, u.w = x := ⟨_, rfl⟩
          rw [hwn] at hub ⊢
          have HBn := Lib.hid (HB8.out.trans (hub.mono HB8.out.size)); have HIn := Lib.hid (HI8.out.up hub); have HLn := Lib.hid (RowAt.up (k := 1) (R := intR) HL8.out hub)
          have HGMn := Lib.hid (HGM8.out.up hub); have HGLn := Lib.hid (HGL8.out.up hub)
          have ZXn := Lib.hid ((hub.block _ (heapsz ZX8.out)).trans ZX8.out); have ZFn := Lib.hid ((hub.block _ (heapsz ZF8.out)).trans ZF8.out)
          clear r8 y0 y2 x0 x1 x2 x3 x4 x5 HC hub hwn u HBV FD Q8 HB8 HI8 HL8 HGM8 HGL8 ZX8 ZF8
          obtain ⟨bq, oq, eQ, hbq, q0, q1⟩ := prs_el HIn.out.Q HQ.out
          obtain ⟨f0, f1, f2⟩ := box3_cells ZFn.out
          obtain ⟨s0, s1, s2, s3, s4, s5⟩ := site_box ZXn.out
          rw [eQ] at s1
          clear hbq eQ
          go_wp2_with fail
          rw [rounds_succ]
          go_wp2_with fail
          obtain ⟨i0, hi0, hz0, hz1, hz2⟩ := info_parts tru_info
          obtain ⟨j0, hj0, jz0, jz1, jz2⟩ := info_parts trus_info
          clear s0 s1 s2 s3 s4 s5 f0 f1 f2 q0 q1
          go_loopw [13, 14] (fun v i wr => ∃ (j : Nat) (rows : List Value), j ≤ X.n ∧ i = .int .i64 j ∧ Below wn.heap.size wn wr ∧ GrdI truR 68 52 w wn.heap.size ((X.mixL b).take j) v rows wr) (fun _ i _ => X.n - (intOf i).toNat)
          case atStart => exact ⟨0, [], Nat.zero_le _, rfl, Below.refl _ _, GrdI.nil HBn.out HBn.out.size⟩
          case round =>
            obtain ⟨j, rows, hj, rfl, hbr, hG⟩ := hrel
            have HBR := Lib.hid hbr; have HG := Lib.hid hG
            clear hG hbr
            by_cases hlt : j < X.n
            · have j0' : (0 : Int) ≤ (j : Int) := by omega
              have j1' : (j : Int) < (X.n : Int) := by omega
              obtain ⟨bm, om, A9, m9, c9, rfl, hbm, hm9, dm, pm, _⟩ := grid_row HGMn.out (ends_row true hlt)
              obtain ⟨bl, ol, A7, m7, c7, rfl, hbl, hm7, dl, pl, _⟩ := grid_row HGLn.out (ends_row false hlt)
              have n9 : m9 = X.np := by rw [hm9]; simp
              have n7 : m7 = X.np := by rw [hm7]; simp
              rw [n9] at dm
              rw [n7] at dl
              obtain ⟨b9, o9, rfl, hb9, u0, u1, u2⟩ := tru_el pm (rowL_at (X.endT true j) HPb.out)
              obtain ⟨RL, hRL⟩ : ∃ z, (List.range X.np).map (X.endT false j) = z := ⟨_, rfl⟩
              have hrl : RL.length = X.np := by rw [← hRL]; simp
              have HRL := Lib.hid hrl
              rw [hRL] at pl
              obtain ⟨b7, o7, rfl, hb7, hc7⟩ := pl (by intro h; rw [h] at hrl; simp at hrl; omega)
              have HSR : Hid (∀ (k : Nat) (v : Value), (flatR truR RL)[k]? = some v → wr.cell? ((⟨b7, o7, none⟩ : Addr).add k) = some v) := Lib.hid fun k v hv => row_flat (k := 3) (by decide) truR_len (fun i x hx j' v' hv' => ((bcell HBR.out).1 _ _ hb7).trans (hc7 i x hx j' v' hv')) k v hv
              have HZ : Hid ((X.mixL b).take (j + 1) = (X.mixL b).take j ++ [RL.set b (X.endT true j b)]) := Lib.hid (by
                rw [List.take_add_one]
                unfold Ctx.mixL
                rw [gridL_at _ hlt, mix_row, hRL]
                rfl)
              have HLT : Hid (((X.mixL b).take j).length = j) := Lib.hid (by rw [List.length_take, mixL_len]; omega)
              have HFL : Hid ((flatR truR RL).length = X.np * 3) := Lib.hid (by rw [flatR_len truR_len, hrl])
              obtain ⟨Y, hY⟩ : ∃ z, X.endT true j b = z := ⟨_, rfl⟩
              rw [hY] at HZ u0 u1 u2
              have hlow : wn.heap.size ≤ wr.heap.size := HBR.out.size
              have HFM : Hid (∀ u, Below wr.heap.size wr u → u.cell? ⟨bm, om + j, none⟩ = some (.slice (some ⟨b9, o9, none⟩) X.np c9) ∧ u.cell? ⟨b9, o9 + b * 3, none⟩ = some (.int .i64 Y.t) ∧ u.cell? ⟨b9, o9 + b * 3 + 1, none⟩ = some (.int .i64 Y.l) ∧ u.cell? ⟨b9, o9 + b * 3 + 2, none⟩ = some (.int .i64 Y.s)) := Lib.hid fun u hu => by
                have hk := (bcell (HBR.out.trans (hu.mono HBR.out.size))).1
                exact ⟨(hk _ _ hbm).trans dm, (hk _ _ hb9).trans u0, (hk _ _ hb9).trans u1, (hk _ _ hb9).trans u2⟩
              have dl' := ((bcell HBR.out).1 _ _ hbl).trans dl
              clear hbm hm9 dm pm n9 hbl hm7 dl pl n7 hb9 u0 u1 u2 hRL hrl hb7 hc7 hY
              go_wp2_with (first | (at_builtin; refine Hid.out ?_) | fail)
              refine Lib.hid ?_
              refine wpList_append_own _ rfl _ _ 52 rfl wr.heap.size 68 i0 _ 3 24 Tryz.underlying52 hi0 hz0 hz1 hz2 rfl (by decide) _ _ _ rfl (World.ownsRow_nil _ _ _ _) ⟨b7, o7, none⟩ X.np c7 (flatR truR RL) rfl HFL.out HSR.out one_tru (by unfold maxLen; omega) (by omega) (by simp) ?_
              intro v4 w4 hown4 hgrow4 _
              obtain ⟨g4, cg4, rfl, hb4, ⟨⟨fz0, fz1, fz2⟩, x0, x1, x2, cz0, cz1, cz2⟩, hbB, hri⟩ := mix_step Y HRL.out HPb.out hown4 hgrow4
              have HBB := Lib.hid hbB; have HRI := Lib.hid hri
              obtain ⟨dm, u0, u1, u2⟩ := HFM.out w4 hb4
              clear hb4 hbB hri hown4 hgrow4 dl'
              go_wp2_with (first | (at_builtin; refine Hid.out ?_) | fail)
              refine Lib.hid ?_
              have hsz : (((w4.setCell ⟨g4, b * 3, none⟩ (.int .i64 Y.t)).setCell ⟨g4, b * 3 + 1, none⟩ (.int .i64 Y.l)).setCell ⟨g4, b * 3 + 2, none⟩ (.int .i64 Y.s)).heap.size = w4.heap.size := by simp
              generalize (((w4.setCell ⟨g4, b * 3, none⟩ (.int .i64 Y.t)).setCell ⟨g4, b * 3 + 1, none⟩ (.int .i64 Y.l)).setCell ⟨g4, b * 3 + 2, none⟩ (.int .i64 Y.s)) = WB at HBB HRI hsz ⊢
              try rw [← hsz]
              clear cz0 cz1 cz2 fz0 fz1 fz2 dm u0 u1 u2
              have HGB := Lib.hid (HG.out.below HBB.out)
              have hwb := HBB.out.size
              refine wpList_append_own _ rfl _ _ 51 rfl wn.heap.size 52 j0 _ 1 24 Tryz.underlying51 hj0 jz0 jz1 jz2 rfl (by decide) _ _ _ rfl (Go.Proofs.YtdlaphlpimlgdaaGreatDoor.own_next HGB.out.own ((Below.refl _ WB).alloc (Nat.le_refl _) _)) ⟨WB.heap.size, 0, none⟩ 1 1 [.slice (some ⟨g4, 0, none⟩) X.np cg4] rfl rfl (cell_one_new _ _ _) (by simp [Value.oneCell']) (by rw [HLT.out]; unfold maxLen; omega) (by rw [HLT.out]; omega) (by simp; omega) ?_
              intro v6 w6 hown6 hgrow6 _
              go_wp2_with fail
              have hA := HGB.out.append (by decide) (HRI.out.mono hlow) hown6 hgrow6
              rw [← HZ.out] at hA
              refine ⟨⟨j + 1, _, by omega, by go_num, ?_, hA⟩, by simp [intOf]; omega⟩
              have hbB := HBR.out.trans (HBB.out.mono HBR.out.size)
              have hb1 := (Below.refl WB.heap.size WB).alloc (Nat.le_refl _) (.cells #[.slice (some ⟨g4, 0, none⟩) X.np cg4] 52)
              exact (hbB.trans (hb1.mono hbB.size)).grown hgrow6 (Nat.le_trans hbB.size hb1.size) (fun B hB => (own_at HGB.out.own hB).1)
            · have hje : j = X.n := by omega
              have j1' : ¬ (j : Int) < (X.n : Int) := by omega
              have hfull : (X.mixL b).take j = X.mixL b := List.take_of_length_le (by rw [mixL_len]; omega)
              rw [hfull] at HG
              have hgr := HG.out.grid truR_len (fun row hr => by
                have := gridL_in (X.mixT b) row hr
                unfold maxLen
                omega)
              rw [mixL_len] at hgr
              obtain ⟨A3, c3, rfl, hg3, _, _⟩ := hgr
              have HBnx := Lib.hid (HBn.out.trans (HBR.out.mono HBn.out.size)); have HInx := Lib.hid (HIn.out.up HBR.out); have HLnx := Lib.hid (RowAt.up (k := 1) (R := intR) HLn.out HBR.out)
              have HGMnx := Lib.hid (HGMn.out.up HBR.out); have HGLnx := Lib.hid (HGLn.out.up HBR.out)
              have ZXnx := Lib.hid ((HBR.out.block _ (heapsz ZXn.out)).trans ZXn.out); have ZFnx := Lib.hid ((HBR.out.block _ (heapsz ZFn.out)).trans ZFn.out)
              have hPT := playT_any HInx.out A2 c2 plan HM.out HLnx.out H0.out HK.out.n10 (X.mixL b) (mixL_len X b) (poss_mix HK.out b) _ ⟨A3, c3, rfl, hg3⟩
              have HPT := Lib.hid hPT
              obtain ⟨s0, s1, s2, s3, s4, s5⟩ := site_box ZXnx.out
              clear hPT hg3 hfull hje HG HBR
              go_wp2_with fail
              refine HPT.out.mono ?_
              rintro e w9 ⟨v, rfl, hb, A8, c8, rfl, hc⟩
              have HC8 := Lib.hid hc
              have HB9 := Lib.hid (HBnx.out.trans (hb.mono HBnx.out.size)); have HI9 := Lib.hid (HInx.out.up hb); have HL9 := Lib.hid (RowAt.up (k := 1) (R := intR) HLnx.out hb)
              have HGM9 := Lib.hid (HGMnx.out.up hb); have HGL9 := Lib.hid (HGLnx.out.up hb)
              have ZX9 := Lib.hid ((hb.block _ (heapsz ZXnx.out)).trans ZXnx.out); have ZF9 := Lib.hid ((hb.block _ (heapsz ZFnx.out)).trans ZFnx.out)
              clear hb hc s0 s1 s2 s3 s4 s5 HPT HBnx HInx HLnx HGMnx HGLnx ZXnx ZFnx
              go_wp2_with fail
              have hrp : (lvT (setF (X.mixL b)) plan X.np)[t]? = some (lvL (setF (X.mixL b)) plan X.np t) := by
                unfold lvT
                rw [List.getElem?_map, List.getElem?_range (by rw [HM.out]; exact htn)]
                rfl
              obtain ⟨b8, o8, R8, m8, d8, rfl, hb8, hm8, e8, q8, _⟩ := lvs_row HC8.out hrp
              have n8 : m8 = X.np := by rw [hm8]; unfold lvL; simp
              rw [n8] at e8
              have Q8 := Lib.hid q8
              have FD : Hid (∀ u, Below w9.heap.size w9 u → u.cell? ⟨b8, o8 + t, none⟩ = some (.slice R8 X.np d8) ∧ (u.cell? ⟨bf, 0, none⟩ = some (.int .i64 (t : Int)) ∧ u.cell? ⟨bf, 1, none⟩ = some (.int .i64 5) ∧ u.cell? ⟨bf, 2, none⟩ = some (.int .i64 (o : Int))) ∧ (u.cell? ⟨w.heap.size, 0, none⟩ = some (.slice X.AP X.np X.cp) ∧ u.cell? ⟨w.heap.size, 1, none⟩ = some (.slice X.AQ X.nq X.cq) ∧ u.cell? ⟨w.heap.size, 2, none⟩ = some (.slice X.AR X.nr X.cr) ∧ u.cell? ⟨w.heap.size, 3, none⟩ = some (.int .i64 X.may) ∧ u.cell? ⟨w.heap.size, 4, none⟩ = some (.int .i64 X.sink) ∧ u.cell? ⟨w.heap.size, 5, none⟩ = some (.int .i64 X.tilt))) :=
                Lib.hid fun u hu => ⟨((bcell hu).1 _ _ hb8).trans e8, box3_cells ((hu.block _ (heapsz ZF9.out)).trans ZF9.out), site_box ((hu.block _ (heapsz ZX9.out)).trans ZX9.out)⟩
              clear hrp hb8 hm8 e8 q8 n8 HC8
              have fu := fun u : KeptW w9 => FD.out u.w u.h
              have r8 := fun u => (fu u).1; have y0 := fun u => (fu u).2.1.1; have x0 := fun u => (fu u).2.2.1
              clear fu
              refine rk_region (by kernel_rfl) (by kernel_rfl) ?_
              repeat (go_big_quiet_step (fail))
              refine wpQuiet_nil ?_
              rintro _ ⟨u, rfl⟩
              have hub := u.h
              obtain ⟨wv9, hwv⟩ : ∃ x, u.w = x := ⟨_, rfl⟩
              rw [hwv] at hub ⊢
              have HBV := Lib.hid hub
              clear r8 y0 x0 hub hwv u
              go_wp2_with fail
              have hset := setF_in (poss_set HK.out (poss_mix HK.out b))
              have k1 := hdI_in hset plan t a; have k2 := hset t a; have k3 := hdI_in hset plan t b; have k4 := hset t b
              have lva : (lvL (setF (X.mixL b)) plan X.np t)[a]? = some (lvI (setF (X.mixL b)) plan t a) := by unfold lvL; exact rowL_at _ HPa.out
              have lvb : (lvL (setF (X.mixL b)) plan X.np t)[b]? = some (lvI (setF (X.mixL b)) plan t b) := by unfold lvL; exact rowL_at _ HPb.out
              have ba : -1000000 ≤ lvI (setF (X.mixL b)) plan t a ∧ lvI (setF (X.mixL b)) plan t a ≤ 1000000 := by unfold lvI; omega
              have bb : -1000000 ≤ lvI (setF (X.mixL b)) plan t b ∧ lvI (setF (X.mixL b)) plan t b ≤ 1000000 := by unfold lvI; omega
              have HTY : Hid (∀ u, Below wv9.heap.size wv9 u → (X.tilt < lvI (setF (X.mixL b)) plan t a - lvI (setF (X.mixL b)) plan t b ∨ X.tilt < -(lvI (setF (X.mixL b)) plan t a - lvI (setF (X.mixL b)) plan t b)) → Calls Tryz.prog 41 #[X.sv, .int .i64 (o : Int), .slice R8 X.np d8] u fun e w' => e = .returned (.bool true) ∧ Below u.heap.size u w') := Lib.hid fun u hu hd =>
                tilts_yes ((HI9.out.up HBV.out).up hu) R8 d8 _ (RowAt.up (k := 1) (R := intR) (RowAt.up (k := 1) (R := intR) Q8.out HBV.out) hu) o a b _ _ np6.2 hoq q10 HPa.out HPb.out HQ.out lva lvb ba bb hd
              have HTN : Hid (∀ u, Below wv9.heap.size wv9 u → ¬ (X.tilt < lvI (setF (X.mixL b)) plan t a - lvI (setF (X.mixL b)) plan t b ∨ X.tilt < -(lvI (setF (X.mixL b)) plan t a - lvI (setF (X.mixL b)) plan t b)) → Calls Tryz.prog 41 #[X.sv, .int .i64 (o : Int), .slice R8 X.np d8] u fun e w' => e = .returned (.bool false) ∧ Below u.heap.size u w') := Lib.hid fun u hu hd =>
                tilts_not ((HI9.out.up HBV.out).up hu) R8 d8 _ (RowAt.up (k := 1) (R := intR) (RowAt.up (k := 1) (R := intR) Q8.out HBV.out) hu) o a b _ _ np6.2 hoq q10 HPa.out HPb.out HQ.out lva lvb ba bb (by omega) (by omega)
              clear hset k1 k2 k3 k4 lva lvb ba bb
              have fu := fun u : KeptW wv9 => FD.out u.w (HBV.out.trans (u.h.mono HBV.out.size))
              have r8 := fun u => (fu u).1; have y0 := fun u => (fu u).2.1.1; have y2 := fun u => (fu u).2.1.2.2
              have x0 := fun u => (fu u).2.2.1; have x1 := fun u => (fu u).2.2.2.1; have x2 := fun u => (fu u).2.2.2.2.1; have x3 := fun u => (fu u).2.2.2.2.2.1; have x4 := fun u => (fu u).2.2.2.2.2.2.1; have x5 := fun u => (fu u).2.2.2.2.2.2.2
              clear fu
              have hd : X.tilt < lvI (setF (X.mixL b)) plan t a - lvI (setF (X.mixL b)) plan t b ∨ X.tilt < -(lvI (setF (X.mixL b)) plan t a - lvI (setF (X.mixL b)) plan t b) := .inl HBL2.out
              have HC := Lib.hid fun u : KeptW wv9 => Calls.in_kept u (HTY.out u.w u.h hd)
              clear HTY HTN hd
              refine rk_region (by kernel_rfl) (by kernel_rfl) ?_
              repeat (go_big_quiet_step (first | (with_reducible exact HC.out _) | fail))
              refine wpQuiet_nil ?_
              rintro _ ⟨u, rfl⟩
              have HBX := Lib.hid (HB9.out.trans ((HBV.out.trans (u.h.mono HBV.out.size)).mono HB9.out.size))
              clear r8 y0 y2 x0 x1 x2 x3 x4 x5 HC
              go_wp2_with fail
              refine (HKN.out _ HBX.out).mono ?_
              rintro e wy ⟨rfl, hb⟩
              have HBY := Lib.hid (HBX.out.trans (hb.mono HBX.out.size)); clear hb
              go_wp2_with fail
              go_ret
              exact ⟨rfl, HBY.out⟩
end
theorem blamed_law {X : Ctx} {w : World} (h : X.In w) (ht : Tab w) (A2 : Option Addr) (m c2 : Nat) (plan : List Int) (hm : plan.length = m) (hm2 : m ≤ maxLen) (hL : IntsAt w w.heap.size A2 plan) :
    Calls Tryz.prog 9 #[X.sv, X.tv, .slice A2 m c2] w fun e w' => e = .returned (.bool true) ∧ Below w.heap.size w w' := by
  cases hS : shortB X.np X.nq X.nr X.ts with
  | false => exact blamed_short h ht A2 m c2 plan hm hm2 hL hS
  | true =>
    by_cases h0 : planI X.sit X.ts plan = 0
    · obtain ⟨hth, hpl, _⟩ := planI_0 h0
      have K : X.Ok := ⟨h.hp, h.hq, h.hr, h.hl, hth⟩
      have hpn : plan.length = X.n := by rw [hpl, h.hl]
      cases hf : fauF X (spanL X.ps X.rs X.ts plan) with
      | none => exact blamed_fine h ht A2 m c2 plan hm hm2 hL hS h0 0 1 0 ⟨rfl, rfl, rfl⟩ (by rw [hf]; rfl)
      | some q =>
        obtain ⟨t, r, o⟩ := q
        obtain ⟨htn, hr, ho, hw⟩ := blame_some hf
        rw [spanG_at K plan hpn htn] at hw
        have hfi : fauI (fauF X (spanL X.ps X.rs X.ts plan)) = ((t : Int), (r : Int), (o : Int)) := by rw [hf]; rfl
        rcases hr with rfl | rfl | rfl | rfl
        · have hop : o < X.np := ho
          rw [wro_2] at hw
          exact blamed_pile h ht A2 m c2 plan hm hm2 hL hS h0 t o 2 (.inl rfl) htn hop hfi (fun _ => hw) (fun e => absurd e (by decide)) (fun e => absurd e (by decide))
        · have hop : o < X.np := ho
          rw [wro_3] at hw
          exact blamed_pile h ht A2 m c2 plan hm hm2 hL hS h0 t o 3 (.inr (.inl rfl)) htn hop hfi (fun e => absurd e (by decide)) (fun _ => hw) (fun e => absurd e (by decide))
        · have hop : o < X.np := ho
          rw [wro_4, decide_eq_true_eq] at hw
          unfold lvL at hw
          rw [zipR_at _ _ hop] at hw
          exact blamed_pile h ht A2 m c2 plan hm hm2 hL hS h0 t o 4 (.inr (.inr rfl)) htn hop hfi (fun e => absurd e (by decide)) (fun e => absurd e (by decide)) (fun _ => hw)
        · have hoq : o < X.nq := ho
          obtain ⟨q, hq⟩ := get_of_lt (l := X.qs) (k := o) (by rw [K.hq]; exact hoq)
          obtain ⟨h1, h2, hne⟩ := K.parts.qs o q hq
          obtain ⟨a, ha⟩ : ∃ a : Nat, q.1 = (a : Int) := ⟨q.1.toNat, by omega⟩
          obtain ⟨b, hb⟩ : ∃ b : Nat, q.2 = (b : Int) := ⟨q.2.toNat, by omega⟩
          have hqq : X.qs[o]? = some ((a : Int), (b : Int)) := by rw [hq, ← ha, ← hb]
          have hap : a < X.np := by omega
          have hbp : b < X.np := by omega
          rw [wro_5] at hw
          rw [List.getD_eq_getElem?_getD (l := X.qs), hqq, Option.getD_some] at hw
          simp only [Int.toNat_natCast] at hw
          unfold lvL at hw
          simp only [zipR_at _ _ hap, zipR_at _ _ hbp] at hw
          exact blamed_pair h ht A2 m c2 plan hm hm2 hL hS h0 t o a b htn hoq hap hbp hfi hqq (blame_tilts plan htn hap hbp (by omega) hw)
    · exact blamed_bad h ht A2 m c2 plan hm hm2 hL hS h0
end Go.Proofs.YtdlaphlpimlgdaaGreatDoor
