/- What can be true, for the reference; lists of lists that are equal. -/
import Derived.Test.YtdlaphlpimlgdaaGreatDoorCO
namespace Go.Proofs.YtdlaphlpimlgdaaGreatDoor
open Go.RowKit

set_option maxRecDepth 100000 in
set_option maxHeartbeats 2000000 in
theorem sameRows_eq (A A2 : Option Addr) (n c c' : Nat) (L : List (List Int)) (w : World) (hl : L.length = n) (hn : n ≤ maxLen) (hX : LvsAt w w.heap.size A L) (hY : LvsAt w w.heap.size A2 L) :
    Calls Tryz.prog 33 #[.slice A n c, .slice A2 n c'] w fun e w' => e = .returned (.bool true) ∧ Below w.heap.size w w' := by
  unfold maxLen at hn
  have HL := Lib.hid hl; have HX := Lib.hid hX; have HY := Lib.hid hY
  clear hl hX hY
  go_enter Tryz.func33, Tryz.ntmps33
  go_wp2_with fail
  go_loopw [5] (fun i wr => ∃ k : Nat, k ≤ n ∧ i = .int .i64 k ∧ Below w.heap.size w wr) (fun i _ => n - (intOf i).toNat)
  case atStart => exact ⟨0, Nat.zero_le _, rfl, Below.refl _ _⟩
  case round =>
    obtain ⟨k, hk, rfl, hbr⟩ := hrel
    have HBR := Lib.hid hbr
    by_cases hlt : k < n
    · have k0 : (0 : Int) ≤ (k : Int) := by omega
      have k1 : (k : Int) < (n : Int) := by omega
      obtain ⟨row, hrow⟩ := get_of_lt (l := L) (k := k) (by rw [HL.out]; exact hlt)
      obtain ⟨b1, o1, B1, m1, c1, rfl, hb1, hm1, d1, p1, hx1⟩ := lvs_row HX.out hrow
      obtain ⟨b2, o2, B2, m2, c2, rfl, hb2, hm2, d2, p2, hx2⟩ := lvs_row HY.out hrow
      have HC := Lib.hid fun u : KeptW wr => Calls.in_kept u (by
        have h1 := same_any B1 B2 m1 m2 c1 c2 row row u.w hm1.symm hm2.symm hx1 hx2 (RowAt.up (k := 1) (R := intR) p1 (hbr.trans (u.h.mono hbr.size))) (RowAt.up (k := 1) (R := intR) p2 (hbr.trans (u.h.mono hbr.size)))
        rw [decide_eq_true rfl] at h1
        exact h1)
      have e1 := fun u : KeptW wr => ((bcell (hbr.trans (u.h.mono hbr.size))).1 _ _ hb1).trans d1
      have e2 := fun u : KeptW wr => ((bcell (hbr.trans (u.h.mono hbr.size))).1 _ _ hb2).trans d2
      clear hrow hb1 hb2 hm1 hm2 d1 d2 p1 p2 hx1 hx2 hbr
      go_wp2_with fail
      refine rk_region (by kernel_rfl) (by kernel_rfl) ?_
      repeat (go_big_quiet_step (first | (with_reducible exact HC.out _) | fail))
      refine wpQuiet_nil ?_
      rintro _ ⟨u, rfl⟩
      clear e1 e2 HC
      go_wp2_with fail
      go_roundw
      case rel => exact ⟨k + 1, by omega, by go_num, HBR.out.trans (u.h.mono HBR.out.size)⟩
      case measure => simp [intOf]; omega
    · have hk1 : ¬ (k : Int) < (n : Int) := by omega
      go_wp2_with fail
      go_ret
      exact ⟨rfl, HBR.out⟩
def truI (rs : List Rw) (p : Pil) (y : Sp) (x : Tru) : Bool :=
  inB y.1 x.t y.2 && (inB p.l x.l p.h && inB (rowI rs (carI p x.t) x.l).1.lo x.s (rowI rs (carI p x.t) x.l).1.hi)
set_option maxRecDepth 100000 in
set_option maxHeartbeats 4000000 in
theorem refTruth_any (AP AQ AR : Option Addr) (np cp nq cq nr cr : Nat) (rs : List Rw) (may sink tilt : Int) (p : Pil) (lo hi : Int) (x : Tru) (w : World)
    (hr : rs.length = nr) (hr0 : 1 ≤ nr) (hr2 : nr ≤ maxLen) (hR : RwsAt w w.heap.size AR rs) (hB : pilB p = true) (ht : 0 ≤ lo ∧ lo ≤ hi ∧ hi ≤ 50000) :
    Calls Tryz.prog 82 #[.agg #[.slice AP np cp, .slice AQ nq cq, .slice AR nr cr, .int .i64 may, .int .i64 sink, .int .i64 tilt], pilV p, .agg #[.int .i64 lo, .int .i64 hi], .agg #[.int .i64 x.t, .int .i64 x.l, .int .i64 x.s]] w fun e w' => e = .returned (.bool (truI rs p (lo, hi) x)) ∧ Below w.heap.size w w' := by
  obtain ⟨z0, z1, z2, z3, hb0⟩ := four_boxes w (.cells #[.slice AP np cp, .slice AQ nq cq, .slice AR nr cr, .int .i64 may, .int .i64 sink, .int .i64 tilt] 26) (.cells #[.int .i64 p.d, .int .i64 p.p, .int .i64 p.s, .int .i64 p.l, .int .i64 p.h, .int .i64 p.g, .int .i64 p.c] 45) (.cells #[.int .i64 lo, .int .i64 hi] 42) (.cells #[.int .i64 x.t, .int .i64 x.l, .int .i64 x.s] 68)
  obtain ⟨w1, hw1⟩ : ∃ z, (((w.alloc (.cells #[.slice AP np cp, .slice AQ nq cq, .slice AR nr cr, .int .i64 may, .int .i64 sink, .int .i64 tilt] 26)).alloc (.cells #[.int .i64 p.d, .int .i64 p.p, .int .i64 p.s, .int .i64 p.l, .int .i64 p.h, .int .i64 p.g, .int .i64 p.c] 45)).alloc (.cells #[.int .i64 lo, .int .i64 hi] 42)).alloc (.cells #[.int .i64 x.t, .int .i64 x.l, .int .i64 x.s] 68) = z := ⟨_, rfl⟩
  rw [hw1] at z0 z1 z2 z3 hb0
  have Z3 := Lib.hid z3; have HB1 := Lib.hid hb0
  have hpl := (pilB_iff.1 hB).2.2.2.1
  obtain ⟨s0, s1, s2, s3, s4, s5⟩ := site_box z0
  obtain ⟨p0, p1, p2, p3, p4, p5, p6⟩ := pil_box z1
  obtain ⟨t0, t1⟩ := span_box z2
  obtain ⟨x0, x1, x2⟩ := box3_cells z3
  have HE : Hid (truI rs p (lo, hi) x = (inB lo x.t hi && (inB p.l x.l p.h && inB (rowI rs (carI p x.t) x.l).1.lo x.s (rowI rs (carI p x.t) x.l).1.hi))) := Lib.hid rfl
  have C1 := in_any x.t lo hi; have C2 := in_any x.l p.l p.h
  cases hb1 : inB lo x.t hi with
  | false =>
    rw [hb1] at C1 HE
    have HC1 := Lib.hid C1
    clear C1 C2 hb1 z0 z1 z2 z3 hb0 hr hr0 hr2 hR hB ht hpl Z3
    obtain ⟨pd, pp, ps, pl, ph, pg, pc⟩ := p
    simp only at HE p0 p1 p2 p3 p4 p5 p6 hw1
    go_enter Tryz.func82, Tryz.ntmps82
    go_wp2_with fail
    refine (HC1.out _).mono ?_
    rintro e w' ⟨rfl, rfl⟩
    go_wp2_with fail
    go_ret
    exact ⟨by rw [HE.out]; rfl, HB1.out⟩
  | true =>
    rw [hb1] at C1 HE
    have HC1 := Lib.hid C1
    cases hb2 : inB p.l x.l p.h with
    | false =>
      rw [hb2] at C2 HE
      have HC2 := Lib.hid C2
      clear C1 C2 hb1 hb2 z0 z1 z2 z3 hb0 hr hr0 hr2 hR hB ht hpl Z3
      obtain ⟨pd, pp, ps, pl, ph, pg, pc⟩ := p
      simp only at HE HC2 p0 p1 p2 p3 p4 p5 p6 hw1
      go_enter Tryz.func82, Tryz.ntmps82
      go_wp2_with fail
      refine (HC1.out _).mono ?_
      rintro e w' ⟨rfl, rfl⟩
      go_wp2_with fail
      refine (HC2.out _).mono ?_
      rintro e w' ⟨rfl, rfl⟩
      go_wp2_with fail
      go_ret
      exact ⟨by rw [HE.out]; rfl, HB1.out⟩
    | true =>
      rw [hb2] at C2 HE
      have HC2 := Lib.hid C2
      have h1 := inB_iff.1 hb1; have h2 := inB_iff.1 hb2
      have HC3 := Lib.hid (refRow_any AP AQ AR np cp nq cq nr cr rs may sink tilt p x.t x.l w1 hr hr0 hr2 (hR.up hb0) hB (by omega) (by omega))
      obtain ⟨R, hRw⟩ : ∃ z, (rowI rs (carI p x.t) x.l).1 = z := ⟨_, rfl⟩
      rw [hRw] at HC3 HE
      have C4 := in_any x.s R.lo R.hi
      obtain ⟨F, hF⟩ : ∃ z, inB R.lo x.s R.hi = z := ⟨_, rfl⟩
      rw [hF] at HE
      simp only [hF] at C4
      have HC4 := Lib.hid C4
      clear C1 C2 C4 hF hRw hb1 hb2 h1 h2 z0 z1 z2 z3 hb0 hr hr0 hr2 hR hB ht hpl
      obtain ⟨pd, pp, ps, pl, ph, pg, pc⟩ := p
      simp only at HE HC2 HC3 p0 p1 p2 p3 p4 p5 p6 hw1
      go_enter Tryz.func82, Tryz.ntmps82
      go_wp2_with fail
      refine (HC1.out _).mono ?_
      rintro e w' ⟨rfl, rfl⟩
      go_wp2_with fail
      refine (HC2.out _).mono ?_
      rintro e w' ⟨rfl, rfl⟩
      go_wp2_with fail
      refine HC3.out.mono ?_
      rintro e w2 ⟨rfl, hb⟩
      have hbz := (Below.refl w2.heap.size w2).alloc (Nat.le_refl _) (.cells #[.int .i64 R.u, .int .i64 R.lo, .int .i64 R.hi] 119)
      have zb := heap_alloc_new w2 (.cells #[.int .i64 R.u, .int .i64 R.lo, .int .i64 R.hi] 119)
      have HB2 := Lib.hid (HB1.out.trans ((hb.trans (hbz.mono hb.size)).mono HB1.out.size))
      obtain ⟨w3, hw3⟩ : ∃ z, w2.alloc (.cells #[.int .i64 R.u, .int .i64 R.lo, .int .i64 R.hi] 119) = z := ⟨_, rfl⟩
      obtain ⟨_, _, x2⟩ := box3_cells ((hbz.block _ (heapsz ((hb.block _ (heapsz Z3.out)).trans Z3.out))).trans ((hb.block _ (heapsz Z3.out)).trans Z3.out))
      obtain ⟨r0, r1, r2⟩ := box3_cells zb
      rw [hw3] at HB2 x2 r0 r1 r2
      clear hb hbz zb s0 s1 s2 s3 s4 s5 p0 p1 p2 p3 p4 p5 p6 t0 t1 x0 x1
      go_wp2_with fail
      refine (HC4.out _).mono ?_
      rintro e w' ⟨rfl, rfl⟩
      go_wp2_with fail
      go_ret
      exact ⟨by rw [HE.out]; rfl, HB2.out⟩
theorem truB_eq (X : Ctx) (t i : Nat) (x : Tru) : truB X t i x = truI X.rs (X.pile i) ((X.th t i).1, (X.th t i).2) x := rfl
set_option maxRecDepth 100000 in
set_option maxHeartbeats 8000000 in
theorem refTruths_any {X : Ctx} {w : World} (h : X.In w) (K : X.Ok) (A : Option Addr) (m c : Nat) (L : List (List Tru)) (hl : L.length = m) (hm : m ≤ maxLen) (hA : GridAt 3 truR w w.heap.size A L) :
    Calls Tryz.prog 32 #[X.sv, X.tv, .slice A m c] w fun e w' => e = .returned (.bool (possB X L)) ∧ Below w.heap.size w w' := by
  obtain ⟨z0, hb0⟩ := site_new X w
  have HK := Lib.hid K; have HL := Lib.hid hl
  have np6 := K.np6; have n10 := K.n10
  have hmb : (m : Int) ≤ 9223372036854775807 := by unfold maxLen at hm; omega
  obtain ⟨w1, hw1⟩ : ∃ z, w.alloc (.cells X.cells 26) = z := ⟨_, rfl⟩
  rw [hw1] at z0 hb0
  have HI := Lib.hid (h.up hb0); have HB := Lib.hid hb0; have HA := Lib.hid (hA.up hb0)
  have Z0 := Lib.hid z0
  have htv : X.tv = .slice X.A X.n X.c := rfl
  obtain ⟨AA, hAA⟩ : ∃ z, X.A = z := ⟨_, rfl⟩
  have HAA := Lib.hid hAA
  rw [htv, hAA]
  clear K h hl hm hA z0 hb0 hAA htv
  by_cases hmn : m = X.n
  · have hmi : ((m : Int) == (X.n : Int)) = true := by rw [hmn]; exact beq_self_eq_true _
    subst hmn
    go_enter Tryz.func32, Tryz.ntmps32
    go_wp2_with fail
    go_loopw [7] (fun i wr => ∃ k : Nat, k ≤ X.n ∧ i = .int .i64 k ∧ (∀ j, j < k → truRowB X j (L.getD j []) = true) ∧ Below w1.heap.size w1 wr) (fun i _ => X.n - (intOf i).toNat)
    case atStart => exact ⟨0, Nat.zero_le _, rfl, fun j hj => absurd hj (Nat.not_lt_zero _), Below.refl _ _⟩
    case round =>
      obtain ⟨k, hk, rfl, hall, hbr⟩ := hrel
      have HALL := Lib.hid hall; have HBR := Lib.hid hbr
      have c0 := (site_box ((hbr.block _ (heapsz Z0.out)).trans Z0.out)).1
      clear hall
      by_cases hkt : k < X.n
      · have hk0 : (0 : Int) ≤ (k : Int) := by omega
        have hk1 : (k : Int) < (X.n : Int) := by omega
        obtain ⟨row, hrow⟩ := get_of_lt (l := L) (k := k) (by rw [HL.out]; exact hkt)
        obtain ⟨ba, oa, A', nr, c', rfl, hba, hnr, d1, p1, hrx⟩ := grid_row HA.out hrow
        have f1 := ((bcell hbr).1 _ _ hba).trans d1
        have HGD : Hid (L.getD k [] = row) := Lib.hid (by rw [List.getD_eq_getElem?_getD, hrow]; rfl)
        have HP1 := Lib.hid p1; have HNR := Lib.hid hnr; have HD := Lib.hid d1; have HBA := Lib.hid hba
        unfold maxLen at hrx
        clear hrow hba d1 p1 hbr hnr
        by_cases hnn : nr = X.np
        · subst hnn
          go_wp2_with fail
          go_quiet (fail)
          go_wp2_with fail
          rename World => wo
          have HBO := HBR
          clear f1 HBR c0
          go_loopw [8] (fun i wr => ∃ j : Nat, j ≤ X.np ∧ i = .int .i64 j ∧ (∀ i, i < j → truB X k i (row.getD i zT) = true) ∧ Below w1.heap.size w1 wr) (fun i _ => X.np - (intOf i).toNat)
          case atStart => exact ⟨0, Nat.zero_le _, rfl, fun j hj => absurd hj (Nat.not_lt_zero _), belN HBO.out _⟩
          case round =>
            obtain ⟨j, hj, rfl, hall, hbr⟩ := hrel
            have HALJ := Lib.hid hall; have HBR := Lib.hid hbr
            have f1 := ((bcell hbr).1 _ _ HBA.out).trans HD.out
            clear hall
            by_cases hjt : j < X.np
            · have hj0 : (0 : Int) ≤ (j : Int) := by omega
              have hj1 : (j : Int) < (X.np : Int) := by omega
              obtain ⟨x, hx⟩ := get_of_lt (l := row) (k := j) (by rw [← HNR.out]; exact hjt)
              obtain ⟨b', o', rfl, hb', q0, q1, q2⟩ := tru_el HP1.out hx
              have HGJ : Hid (row.getD j zT = x) := Lib.hid (by rw [List.getD_eq_getElem?_getD, hx]; rfl)
              obtain ⟨bp, op, eAP, hbp, y0, y1, y2, y3, y4, y5, y6⟩ := HI.out.cells_p HK.out hjt
              obtain ⟨bt, ot, b2, o2, c2, eA, hbt, hb2, t0, t1, t2⟩ := HI.out.cells_t HK.out hkt hjt
              obtain rfl : AA = some ⟨bt, ot, none⟩ := HAA.out.symm.trans eA
              have hpB := (HK.out.at_pile hjt).2
              have hyB : 0 ≤ (X.th k j).1 ∧ (X.th k j).1 ≤ (X.th k j).2 ∧ (X.th k j).2 ≤ 50000 := by
                obtain ⟨_, _, _, _, h5⟩ := HK.out.at_th hkt hjt
                exact withinB_iff.1 h5
              have nr6 := HK.out.parts.nr6
              have hku := fun u : KeptW wr => (bcell (HBR.out.trans (u.h.mono HBR.out.size))).1
              have ss := fun u : KeptW wr => site_box (((HBR.out.trans (u.h.mono HBR.out.size)).block _ (heapsz Z0.out)).trans Z0.out)
              have S0 := fun u => (ss u).1; have S1 := fun u => (ss u).2.1; have S2 := fun u => (ss u).2.2.1; have S3 := fun u => (ss u).2.2.2.1; have S4 := fun u => (ss u).2.2.2.2.1; have S5 := fun u => (ss u).2.2.2.2.2
              have Y0 := fun u => (hku u _ _ hbp).trans y0; have Y1 := fun u => (hku u _ _ hbp).trans y1; have Y2 := fun u => (hku u _ _ hbp).trans y2; have Y3 := fun u => (hku u _ _ hbp).trans y3; have Y4 := fun u => (hku u _ _ hbp).trans y4; have Y5 := fun u => (hku u _ _ hbp).trans y5; have Y6 := fun u => (hku u _ _ hbp).trans y6
              have T0 := fun u => (hku u _ _ hbt).trans t0; have T1 := fun u => (hku u _ _ hb2).trans t1; have T2 := fun u => (hku u _ _ hb2).trans t2
              have F1 := fun u => (hku u _ _ HBA.out).trans HD.out
              have Q0 := fun u => (hku u _ _ hb').trans q0; have Q1 := fun u => (hku u _ _ hb').trans q1; have Q2 := fun u => (hku u _ _ hb').trans q2
              obtain ⟨F, hF⟩ : ∃ z, truB X k j x = z := ⟨_, rfl⟩
              have HC := Lib.hid fun u : KeptW wr => Calls.in_kept u (by
                have h1 := refTruth_any X.AP X.AQ X.AR X.np X.cp X.nq X.cq X.nr X.cr X.rs X.may X.sink X.tilt (X.pile j) (X.th k j).1 (X.th k j).2 x u.w HK.out.hr nr6.1 (by unfold maxLen; omega) (HI.out.R.up (HBR.out.trans (u.h.mono HBR.out.size))) hpB hyB
                rw [← truB_eq, hF, eAP] at h1
                exact h1)
              simp only [eAP] at S0
              have HF := Lib.hid hF
              have HNO : Hid (F = false → possB X L = false) := Lib.hid fun hf => by
                unfold possB
                rw [rng_no hkt, Bool.and_false]
                unfold truRowB
                rw [HGD.out, rng_no hjt, Bool.and_false]
                rw [HGJ.out, hF]
                exact hf
              obtain ⟨P, hP⟩ : ∃ z, X.pile j = z := ⟨_, rfl⟩
              obtain ⟨Yy, hY⟩ : ∃ z, X.th k j = z := ⟨_, rfl⟩
              simp only [hP, hY] at HC Y0 Y1 Y2 Y3 Y4 Y5 Y6 T1 T2
              unfold pilV at HC
              clear y0 y1 y2 y3 y4 y5 y6 t0 t1 t2 q0 q1 q2 hbp hbt hb2 hb' hpB hyB hku ss hx hbr eAP eA hF hP hY nr6
              go_wp2_with fail
              clear f1
              refine rk_region (by kernel_rfl) (by kernel_rfl) ?_
              repeat (go_big_quiet_step (first | (with_reducible exact HC.out _) | fail))
              refine wpQuiet_nil ?_
              rintro _ ⟨u, rfl⟩
              have HBU := Lib.hid (HB.out.trans ((HBR.out.trans (u.h.mono HBR.out.size)).mono HB.out.size))
              have HBV := Lib.hid (HBR.out.trans (u.h.mono HBR.out.size))
              clear S0 S1 S2 S3 S4 S5 Y0 Y1 Y2 Y3 Y4 Y5 Y6 T0 T1 T2 F1 Q0 Q1 Q2 HC
              cases F with
              | false =>
                have HF2 := Lib.hid (HNO.out rfl)
                go_wp2_with fail
                go_ret
                exact ⟨by rw [HF2.out]; rfl, HBU.out⟩
              | true =>
                go_wp2_with fail
                go_roundw
                case rel =>
                  refine ⟨j + 1, by omega, by go_num, fun i hi => ?_, HBV.out⟩
                  by_cases hij : i < j
                  · exact HALJ.out i hij
                  · have : i = j := by omega
                    subst this
                    rw [HGJ.out, HF.out]
                case measure => simp [intOf]; omega
            · have hje : j = X.np := by omega
              have hj1 : ¬ (j : Int) < (X.np : Int) := by omega
              subst hje
              have HTR : Hid (truRowB X k (L.getD k []) = true) := Lib.hid (by
                unfold truRowB
                rw [HGD.out, rng_yes HALJ.out, decide_eq_true HNR.out.symm]
                rfl)
              go_wp2_with fail
              go_roundw
              case rel =>
                refine ⟨k + 1, by omega, by go_num, fun i hi => ?_, HBR.out⟩
                by_cases hij : i < k
                · exact HALL.out i hij
                · have : i = k := by omega
                  subst this
                  exact HTR.out
              case measure => simp [intOf]; omega
        · have HF : Hid (possB X L = false) := Lib.hid (by
            unfold possB
            rw [rng_no hkt, Bool.and_false]
            unfold truRowB
            rw [HGD.out, decide_eq_false (by rw [← HNR.out]; exact hnn)]
            rfl)
          have hni : ((nr : Int) == (X.np : Int)) = false := beq_eq_false_iff_ne.2 (by omega)
          have hni2 : ¬ (nr : Int) = (X.np : Int) := by omega
          go_wp2_with fail
          go_quiet (fail)
          go_wp2_with fail
          go_ret
          exact ⟨by rw [HF.out]; rfl, HB.out.trans ((belN HBR.out _).mono HB.out.size)⟩
      · have hke : k = X.n := by omega
        have hk1 : ¬ (k : Int) < (X.n : Int) := by omega
        subst hke
        have HF : Hid (possB X L = true) := Lib.hid (by
          unfold possB
          rw [rng_yes HALL.out, decide_eq_true HL.out]
          rfl)
        go_wp2_with fail
        go_ret
        exact ⟨by rw [HF.out]; rfl, HB.out.trans (HBR.out.mono HB.out.size)⟩
  · have HF : Hid (possB X L = false) := Lib.hid (by
      unfold possB
      rw [decide_eq_false (by rw [HL.out]; exact hmn)]
      rfl)
    have hni : ((m : Int) == (X.n : Int)) = false := beq_eq_false_iff_ne.2 (by omega)
    have hni2 : ¬ (m : Int) = (X.n : Int) := by omega
    go_enter Tryz.func32, Tryz.ntmps32
    go_wp2_with fail
    go_ret
    exact ⟨by rw [HF.out]; rfl, HB.out⟩
end Go.Proofs.YtdlaphlpimlgdaaGreatDoor
