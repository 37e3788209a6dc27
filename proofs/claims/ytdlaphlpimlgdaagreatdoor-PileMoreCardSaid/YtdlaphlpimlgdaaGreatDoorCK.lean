/- The first fault of a plan, as the specification has it; PileFaults, its function. -/
import Derived.Test.YtdlaphlpimlgdaaGreatDoorCJ
namespace Go.Proofs.YtdlaphlpimlgdaaGreatDoor
open Go.RowKit

set_option maxRecDepth 100000 in
set_option maxHeartbeats 8000000 in
theorem refFault_any {X : Ctx} {w : World} (h : X.In w) (A2 : Option Addr) (m c2 : Nat) (plan : List Int) (hm : plan.length = m) (hL : IntsAt w w.heap.size A2 plan) (h0 : planI X.sit X.ts plan = 0) :
    Calls Tryz.prog 40 #[X.sv, X.tv, .slice A2 m c2] w fun e w' => e = .returned (fauV (fauI (fauF X (spanL X.ps X.rs X.ts plan)))) ∧ Below w.heap.size w w' := by
  obtain ⟨z0, z1, hb0⟩ := two_boxes w (.cells X.cells 26) (.cells #[.int .i64 0, .int .i64 0, .int .i64 0] 64)
  obtain ⟨hth, hpl, hpb0⟩ := planI_0 h0
  have K : X.Ok := ⟨h.hp, h.hq, h.hr, h.hl, hth⟩
  have hmn : m = X.n := by rw [← hm, hpl, h.hl]
  subst hmn
  have HK := Lib.hid K; have HM := Lib.hid hm; have H0 := Lib.hid h0
  have np6 := K.np6; have n10 := K.n10
  have hrows := fun t (ht : t < X.n) => K.rows hm ht
  have hts : ∀ t, t < X.n → ∃ th, X.ts[t]? = some th ∧ th.length = X.np := fun t ht => by
    obtain ⟨th, h1, h2, _⟩ := K.at_th ht (i := 0) (by omega)
    exact ⟨th, h1, h2⟩
  have HTS := Lib.hid hts
  obtain ⟨w1, hw1⟩ : ∃ z, (w.alloc (.cells X.cells 26)).alloc (.cells #[.int .i64 0, .int .i64 0, .int .i64 0] 64) = z := ⟨_, rfl⟩
  rw [hw1] at z0 z1 hb0
  have HI := Lib.hid (h.up hb0); have HB := Lib.hid hb0; have HL := Lib.hid (RowAt.up (k := 1) (R := intR) hL hb0)
  have Z0 := Lib.hid z0; have Z1 := Lib.hid z1; have HRW := Lib.hid hrows
  obtain ⟨s0, s1, s2, s3, s4, s5⟩ := site_box z0
  clear h z0 z1 hb0 K hth hpl hpb0 hm hL hrows h0 hts
  have hrl := refLevels_any HI.out A2 X.n c2 plan HM.out HL.out H0.out
  obtain ⟨LL, hLL⟩ : ∃ z, spanL X.ps X.rs X.ts plan = z := ⟨_, rfl⟩
  rw [hLL] at HRW hrl ⊢
  have HRL := Lib.hid hrl
  clear hrl hLL
  go_enter Tryz.func40, Tryz.ntmps40
  go_wp2_with fail
  refine HRL.out.mono ?_
  rintro e w2 ⟨A3, c3, rfl, hs, _, hb⟩
  have HB2 := Lib.hid (HB.out.trans (hb.mono HB.out.size)); have HI2 := Lib.hid (HI.out.up hb)
  have Y0 := Lib.hid ((hb.block _ (heapsz Z0.out)).trans Z0.out); have Y1 := Lib.hid ((hb.block _ (heapsz Z1.out)).trans Z1.out)
  have HS := Lib.hid hs
  clear hb hs HRL s0 s1 s2 s3 s4 s5 hw1
  go_wp2_with fail
  go_loopw [8] (fun i wr => ∃ k : Nat, k ≤ X.n ∧ i = .int .i64 k ∧ (∀ j, j < k → ruleF X j (LL.getD j []) = none) ∧ Below w2.heap.size w2 wr) (fun i _ => X.n - (intOf i).toNat)
  case atStart => exact ⟨0, Nat.zero_le _, rfl, fun j hj => absurd hj (Nat.not_lt_zero _), Below.refl _ _⟩
  case round =>
    obtain ⟨k, hk, rfl, hall, hbr⟩ := hrel
    have HALL := Lib.hid hall; have HBR := Lib.hid hbr
    have HZ := Lib.hid ((hbr.block _ (heapsz Y0.out)).trans Y0.out); have HO := Lib.hid ((hbr.block _ (heapsz Y1.out)).trans Y1.out)
    obtain ⟨s0, s1, s2, s3, s4, s5⟩ := site_box HZ.out
    clear hall hbr
    by_cases hkt : k < X.n
    · have hk0 : (0 : Int) ≤ (k : Int) := by omega
      have hk1 : (k : Int) < (X.n : Int) := by omega
      obtain ⟨th, hth, htl⟩ := HTS.out k hkt
      obtain ⟨row, hrow, hrl, hin⟩ := HRW.out k hkt
      obtain ⟨ba, oa, A', n1, c1, eA, hba, hn1, d1, p1, _⟩ := sps_row HI2.out.T hth
      obtain ⟨bb, ob, B', n2, c2', rfl, hbb, hn2, d2, p2, _⟩ := sps_row HS.out hrow
      rw [htl] at hn1
      rw [hrl] at hn2
      rw [hn1] at d1
      rw [hn2] at d2
      have eT : X.tv = Value.slice (some ⟨ba, oa, none⟩) X.n X.c := by
        show Value.slice X.A X.n X.c = _
        rw [eA]
      have hgd : LL.getD k [] = row := by rw [List.getD_eq_getElem?_getD, hrow]; rfl
      have HGD := Lib.hid hgd
      have HC := Lib.hid fun u : KeptW wr => Calls.in_kept u (refWrong_any (HI2.out.up (HBR.out.trans (u.h.mono HBR.out.size))) HK.out hkt A' B' c1 c2' th row hth (p1.up (HBR.out.trans (u.h.mono HBR.out.size))) hrl (p2.up (HBR.out.trans (u.h.mono HBR.out.size))) hin)
      have fs := fun u : KeptW wr => site_box ((u.h.block _ (heapsz HZ.out)).trans HZ.out)
      have g0 := fun u => (fs u).1; have g1 := fun u => (fs u).2.1; have g2 := fun u => (fs u).2.2.1; have g3 := fun u => (fs u).2.2.2.1; have g4 := fun u => (fs u).2.2.2.2.1; have g5 := fun u => (fs u).2.2.2.2.2
      have hk := fun u : KeptW wr => (bcell (HBR.out.trans (u.h.mono HBR.out.size))).1
      have D1 := fun u => (hk u _ _ hba).trans d1; have D2 := fun u => (hk u _ _ hbb).trans d2
      clear hth htl hrow hrl hin hba hn1 d1 p1 hbb hn2 d2 p2 hgd fs hk
      cases hR : ruleF X k row with
      | some p =>
        obtain ⟨r, o⟩ := p
        have hr2 : 2 ≤ r := by
          unfold ruleF at hR
          obtain ⟨x, hx, hf⟩ := List.exists_of_findSome?_eq_some hR
          cases ho : ofF X row k x with
          | none => rw [ho] at hf; simp at hf
          | some v =>
            rw [ho] at hf
            simp at hf
            simp at hx
            omega
        simp only [hR, wrI] at HC
        have HF : Hid (fauI (fauF X LL) = ((k : Int), (r : Int), (o : Int))) := Lib.hid (by rw [fau_some hkt (by rw [HGD.out]; exact hR) HALL.out]; rfl)
        have hrn : ((r : Int) == 1) = false := beq_eq_false_iff_ne.2 (by omega)
        have hrn2 : ¬ (r : Int) = 1 := by omega
        clear hR
        go_wp2_with fail
        refine rk_region (by kernel_rfl) (by kernel_rfl) ?_
        repeat (go_big_quiet_step (first | (with_reducible exact HC.out _) | fail))
        refine wpQuiet_nil ?_
        rintro _ ⟨u, rfl⟩
        have hzo := (u.h.block _ (heapsz HO.out)).trans HO.out
        have HBZ := Lib.hid (HB2.out.trans ((HBR.out.trans (u.h.mono HBR.out.size)).mono HB2.out.size))
        obtain ⟨R0, R1, R2⟩ := box3_cells hzo
        have fR0 := box3_frozen hzo 0; have fR1 := box3_frozen hzo 1; have fR2 := box3_frozen hzo 2
        obtain ⟨E0, E1, E2⟩ := set3 hzo (.int .i64 k) (.int .i64 r) (.int .i64 o)
        clear g0 g1 g2 g3 g4 g5 D1 D2 HC hzo
        go_wp2_with fail
        exact bodyPost_ret (v := fauV ((k : Int), (r : Int), (o : Int))) (by simp [results, Tryz.results40, go_sem, E0, E1, E2, fauV]) rfl ⟨by rw [HF.out], ((HBZ.out.setCell (p := ⟨w.heap.size + 1, 0, none⟩) (by simp) _).setCell (p := ⟨w.heap.size + 1, 1, none⟩) (by simp) _).setCell (p := ⟨w.heap.size + 1, 2, none⟩) (by simp) _⟩
      | none =>
        simp only [hR, wrI] at HC
        have HF : Hid (ruleF X k (LL.getD k []) = none) := Lib.hid (by rw [HGD.out]; exact hR)
        clear hR
        go_wp2_with fail
        refine rk_region (by kernel_rfl) (by kernel_rfl) ?_
        repeat (go_big_quiet_step (first | (with_reducible exact HC.out _) | fail))
        refine wpQuiet_nil ?_
        rintro _ ⟨u, rfl⟩
        clear g0 g1 g2 g3 g4 g5 D1 D2 HC
        go_wp2_with fail
        refine ⟨⟨k + 1, by omega, by go_num, fun j hj => ?_, HBR.out.trans (u.h.mono HBR.out.size)⟩, by simp [intOf]; omega⟩
        by_cases hjk : j < k
        · exact HALL.out j hjk
        · have : j = k := by omega
          subst this
          exact HF.out
    · have hke : k = X.n := by omega
      have hk1 : ¬ (k : Int) < (X.n : Int) := by omega
      subst hke
      have HF : Hid (fauI (fauF X LL) = (0, 1, 0)) := Lib.hid (by rw [fau_none HALL.out]; rfl)
      have HBZ := Lib.hid (HB2.out.trans (HBR.out.mono HB2.out.size))
      obtain ⟨R0, R1, R2⟩ := box3_cells HO.out
      have fR0 := box3_frozen HO.out 0; have fR1 := box3_frozen HO.out 1; have fR2 := box3_frozen HO.out 2
      obtain ⟨E0, E1, E2⟩ := set3 HO.out (.int .i64 0) (.int .i64 1) (.int .i64 0)
      clear HALL
      go_wp2_with fail
      exact bodyPost_ret (v := fauV (0, 1, 0)) (by simp [results, Tryz.results40, go_sem, E0, E1, E2, fauV]) rfl ⟨by rw [HF.out], ((HBZ.out.setCell (p := ⟨w.heap.size + 1, 0, none⟩) (by simp) _).setCell (p := ⟨w.heap.size + 1, 1, none⟩) (by simp) _).setCell (p := ⟨w.heap.size + 1, 2, none⟩) (by simp) _⟩
end Go.Proofs.YtdlaphlpimlgdaaGreatDoor
