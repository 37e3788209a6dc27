/- The law of levels that are no wider than they must be. -/
import Derived.Test.YtdlaphlpimlgdaaGreatDoorCR
namespace Go.Proofs.YtdlaphlpimlgdaaGreatDoor
open Go.RowKit Go.Shelf

section
attribute [local irreducible] QT
set_option maxRecDepth 100000 in
set_option maxHeartbeats 16000000 in
theorem sharp_law {X : Ctx} {w : World} (h : X.In w) (ht : Tab w) (A2 : Option Addr) (m c2 : Nat) (plan : List Int) (hm : plan.length = m) (hm2 : m ≤ maxLen) (hL : IntsAt w w.heap.size A2 plan) :
    Calls Tryz.prog 7 #[X.sv, X.tv, .slice A2 m c2] w fun e w' => e = .returned (.bool true) ∧ Below w.heap.size w w' := by
  obtain ⟨z0, hb0⟩ := site_new X w
  have HM := Lib.hid hm; have HM2 := Lib.hid hm2; have HT := Lib.hid ht
  obtain ⟨w1, hw1⟩ : ∃ z, w.alloc (.cells X.cells 26) = z := ⟨_, rfl⟩
  rw [hw1] at z0 hb0
  have HI := Lib.hid (h.up hb0); have HB := Lib.hid hb0; have HL := Lib.hid (RowAt.up (k := 1) (R := intR) hL hb0)
  have Z0 := Lib.hid z0
  obtain ⟨s0, s1, s2, s3, s4, s5⟩ := site_box z0
  have htv : X.tv = .slice X.A X.n X.c := rfl
  rw [htv]
  clear h ht z0 hb0 hm hm2 hL htv
  have HSH := Lib.hid (short_X HI.out)
  have HKN : Hid (∀ u, Below w.heap.size w u → Calls Tryz.prog 19 #[] u fun e w' => e = .returned (.bool true) ∧ Below u.heap.size u w') := Lib.hid fun u hu => known_any u (HT.out.next hu)
  obtain ⟨S, hS⟩ : ∃ z, shortB X.np X.nq X.nr X.ts = z := ⟨_, rfl⟩
  rw [hS] at HSH
  clear hS
  cases S with
  | false =>
    go_enter Tryz.func7, Tryz.ntmps7
    go_wp2_with fail
    refine HSH.out.mono ?_
    rintro e w2 ⟨rfl, hb⟩
    have HBX := Lib.hid (HB.out.trans (hb.mono HB.out.size)); clear hb
    go_wp2_with fail
    refine (HKN.out _ HBX.out).mono ?_
    rintro e wy ⟨rfl, hb⟩
    have HBY := Lib.hid (HBX.out.trans (hb.mono HBX.out.size)); clear hb
    go_wp2_with fail
    go_ret
    exact ⟨rfl, HBY.out⟩
  | true =>
    go_enter Tryz.func7, Tryz.ntmps7
    go_wp2_with fail
    refine HSH.out.mono ?_
    rintro e w2 ⟨rfl, hb⟩
    have HB2 := Lib.hid (HB.out.trans (hb.mono HB.out.size)); have HI2 := Lib.hid (HI.out.up hb); have HL2 := Lib.hid (RowAt.up (k := 1) (R := intR) HL.out hb)
    have Z2 := Lib.hid ((hb.block _ (heapsz Z0.out)).trans Z0.out)
    clear hb s0 s1 s2 s3 s4 s5 HSH
    obtain ⟨s0, s1, s2, s3, s4, s5⟩ := site_box Z2.out
    obtain ⟨I, hI⟩ : ∃ z, planI X.sit X.ts plan = z := ⟨_, rfl⟩
    have HPI := Lib.hid hI
    have hv := planI_v X.sit X.ts plan
    have hPL := planned_X (c2 := c2) HI2.out A2 m plan HM.out HM2.out HL2.out
    rw [hI] at hv hPL
    have HPL := Lib.hid hPL
    clear hI hPL
    go_wp2_with fail
    refine HPL.out.mono ?_
    rintro e wp ⟨rfl, hb⟩
    have HBP := Lib.hid (HB2.out.trans (hb.mono HB2.out.size)); have HIP := Lib.hid (HI2.out.up hb); have HLP := Lib.hid (RowAt.up (k := 1) (R := intR) HL2.out hb)
    have ZP := Lib.hid ((hb.block _ (heapsz Z2.out)).trans Z2.out)
    clear hb s0 s1 s2 s3 s4 s5 HPL HB2 HI2 HL2 Z2
    by_cases h0 : I = 0
    · subst h0
      have HZ := Lib.hid (planI_0 HPI.out)
      have HTH := Lib.hid HZ.out.1
      obtain rfl : m = X.n := (by rw [← HM.out, HZ.out.2.1, HIP.out.hl])
      have HK : Hid X.Ok := Lib.hid ⟨HIP.out.hp, HIP.out.hq, HIP.out.hr, HIP.out.hl, HZ.out.1⟩
      have hLE := Levels_any HIP.out A2 X.n c2 plan HM.out HM2.out HLP.out
      rw [HPI.out] at hLE
      unfold LevPost at hLE
      have HLE := Lib.hid hLE
      clear hLE hv
      obtain ⟨s0, s1, s2, s3, s4, s5⟩ := site_box ZP.out
      go_wp2_with fail
      refine HLE.out.mono ?_
      rintro e w3 ⟨A3, n3, c3, rfl, g1, _, hb⟩
      obtain ⟨rfl, hsp, _⟩ := g1 (by simp)
      have HB3 := Lib.hid (HBP.out.trans (hb.mono HBP.out.size)); have HI3 := Lib.hid (HIP.out.up hb); have HL3 := Lib.hid (RowAt.up (k := 1) (R := intR) HLP.out hb)
      have Z3 := Lib.hid ((hb.block _ (heapsz ZP.out)).trans ZP.out)
      have hss : spanL X.ps X.rs X.ts plan = zipL (lvT (mostF X.ps X.rs X.ts) plan X.ps.length) (lvT (leastF X.ps X.rs X.ts) plan X.ps.length) := rfl
      rw [hss] at hsp
      obtain ⟨G1_, G2_⟩ := ends_lv HK.out HM.out
      have hlenA : ∀ f : Nat → Nat → Int, (lvT f plan X.ps.length).length = X.n ∧ ∀ r ∈ lvT f plan X.ps.length, r.length = X.np := fun f => ⟨by unfold lvT; rw [List.length_map, List.length_range]; exact HM.out, fun r hr => by rw [← HI3.out.hp]; exact lvT_rows r hr⟩
      have LA1 := Lib.hid (hlenA (mostF X.ps X.rs X.ts)); have LA2 := Lib.hid (hlenA (leastF X.ps X.rs X.ts))
      obtain ⟨LA, hLA⟩ : ∃ z, lvT (mostF X.ps X.rs X.ts) plan X.ps.length = z := ⟨_, rfl⟩
      obtain ⟨LB, hLB⟩ : ∃ z, lvT (leastF X.ps X.rs X.ts) plan X.ps.length = z := ⟨_, rfl⟩
      rw [hLA] at G1_ LA1 hsp
      rw [hLB] at G2_ LA2 hsp
      have G1 := Lib.hid G1_; have G2 := Lib.hid G2_
      have HS3 := Lib.hid hsp
      clear hb s0 s1 s2 s3 s4 s5 HLE g1 hsp hss G1_ G2_ hlenA hLA hLB HBP HIP HLP ZP
      have hni : ((X.n : Int) == (X.n : Int)) = true := beq_self_eq_true _
      have hnpi : ((X.np : Int) == (X.np : Int)) = true := beq_self_eq_true _
      have np6 := HK.out.np6; have n10 := HK.out.n10
      have hg : Tryz.prog.eqGuardType Tryz.prog.depth 42 = false := by kernel_rfl
      go_wp2_with fail
      refine rel_region [3, 2, 1] [(40, 5), (41, 6), (34, 7), (42, 8), (9, 10)] (shCv X.sv X.tv (.slice A2 X.n c2) w.heap.size) (shF X.n (X.endsL true) LA) (by kernel_rfl) (by kernel_rfl) (by kernel_rfl) (by kernel_rfl) (by kernel_rfl) (by kernel_rfl) ?_ (shF_keep X.n (X.endsL true) LA) ?_ ?_
      · intro t ht
        simp only [List.mem_cons, List.not_mem_nil, or_false] at ht
        rcases ht with rfl | rfl | rfl <;> rfl
      · refine allOps_array ?_
        have hp : ∀ u : KeptW w3, _ := fun u => site_box ((u.h.block _ (heapsz Z3.out)).trans Z3.out)
        refine ⟨?_, ?_, ?_, ?_, ?_, ?_, ?_, ?_, ?_, ?_, ?_, ?_, trivial⟩ <;> intro g u hd_ <;> obtain ⟨q0, q1, q2, q3, q4, q5⟩ := hp u
        · refine ⟨rfl, relQ 35 rfl trivial ?_⟩
          simp [go_sem, evalBy, rhoT, relOf, shCv, q0, q1, q2, q3, q4, q5]
        · refine ⟨rfl, relQ 36 rfl trivial ?_⟩
          simp [go_sem, evalBy, rhoT, relOf, shCv]
        · refine ⟨rfl, relQ 37 rfl trivial ?_⟩
          simp [go_sem, evalBy, rhoT, relOf, shCv]
        · refine ⟨rfl, relQ 38 rfl trivial ?_⟩
          simp [go_sem, evalBy, rhoT, relOf, shCv, q0, q1, q2, q3, q4, q5]
        · refine ⟨rfl, relQ 39 rfl trivial ?_⟩
          simp [go_sem, evalBy, rhoT, relOf, shCv]
        · refine ⟨rfl, relC 39 #[X.sv, X.tv, .bool true] (by simp [go_sem, evalBy, rhoT, relOf, shCv]) ?_⟩
          refine (refEnds_any (HI3.out.up u.h) HTH.out true).mono ?_
          rintro e w' ⟨A3, c3, rfl, g1, _, hb⟩
          exact ⟨_, rfl, hb, ⟨A3, c3, rfl, g1⟩, fun e he hn => by injection he with he; subst he; exact absurd hn (by simp [relOf])⟩
        · refine ⟨rfl, relC 31 #[X.sv, X.tv, .slice A2 X.n c2, g 5] (by simp [go_sem, evalBy, rhoT, relOf, shCv]) ?_⟩
          have hpt := playT_any (HI3.out.up u.h) A2 c2 plan HM.out (RowAt.up (k := 1) (R := intR) HL3.out u.h) HPI.out HK.out.n10 (X.endsL true) (ends_len X true) (poss_ends HK.out true) (g 5) (hd_ ⟨5, .data⟩ (by simp) rfl)
          rw [G1.out] at hpt
          refine hpt.mono ?_
          rintro e w' ⟨v, rfl, hb, hv⟩
          exact ⟨v, rfl, hb, hv, fun e he hn => by injection he with he; subst he; exact absurd hn (by simp [relOf])⟩
        · have hv := hd_ ⟨6, .data⟩ (by simp) rfl
          refine ⟨rfl, relM (g 6) hv (fun e he hn => by injection he with he; subst he; exact absurd hn (by simp [relOf])) ?_⟩
          simp [go_sem, evalBy, rhoT, relOf]
        · obtain ⟨A3, c3, e7, hv⟩ : TupV X.n LA (g 7) u.w := hd_ ⟨7, .data⟩ (by simp) rfl
          refine ⟨rfl, relM (.slice A3 X.n c3) ⟨A3, c3, rfl, hv⟩ (fun e he hn => by injection he with he; subst he; exact absurd hn (by simp [relOf])) ?_⟩
          simp [go_sem, evalBy, rhoT, relOf, e7]
        · obtain ⟨A3, c3, e7, hv⟩ : TupV X.n LA (g 7) u.w := hd_ ⟨7, .data⟩ (by simp) rfl
          refine ⟨rfl, relQ 43 rfl trivial ?_⟩
          simp [go_sem, evalBy, rhoT, relOf, shCv, e7]
        · have hv := hd_ ⟨8, .data⟩ (by simp) rfl
          refine ⟨rfl, relM (g 8) hv (fun e he hn => by injection he with he; subst he; exact absurd hn (by simp [relOf])) ?_⟩
          simp [go_sem, evalBy, rhoT, relOf]
        · refine ⟨rfl, relQ 10 rfl trivial ?_⟩
          simp [go_sem, evalBy, rhoT, relOf, shCv]
      · intro g u hf
        obtain ⟨AA, AAc, eg, hsl⟩ : LvsV X.n LA (g 10) u.w := hf 10 (by decide)
        simp [putAll, Act.put, rhoT, relOf, shCv, eg]
        have hub := u.h
        obtain ⟨w4, hwo⟩ : ∃ x, u.w = x := ⟨_, rfl⟩
        obtain ⟨k5, hk5⟩ : ∃ x, g 5 = x := ⟨_, rfl⟩
        obtain ⟨k6, hk6⟩ : ∃ x, g 6 = x := ⟨_, rfl⟩
        obtain ⟨k7, hk7⟩ : ∃ x, g 7 = x := ⟨_, rfl⟩
        obtain ⟨k8, hk8⟩ : ∃ x, g 8 = x := ⟨_, rfl⟩
        rw [hwo] at hsl hub ⊢
        try rw [hk5]
        try rw [hk6]
        try rw [hk7]
        try rw [hk8]
        clear hf eg hwo hk5 hk6 hk7 hk8
        have HB4 := Lib.hid (HB3.out.trans (hub.mono HB3.out.size)); have HI4 := Lib.hid (HI3.out.up hub); have HL4 := Lib.hid (RowAt.up (k := 1) (R := intR) HL3.out hub)
        have HS4 := Lib.hid (HS3.out.up hub); have HA4 := Lib.hid hsl
        have Z4 := Lib.hid ((hub.block _ (heapsz Z3.out)).trans Z3.out)
        clear hub hsl HB3 HI3 HL3 HS3 Z3 u g
        go_wp2_with fail
        refine rel_region [3, 2, 1] [(50, 5), (51, 6), (44, 7), (52, 8), (11, 10)] (shCv X.sv X.tv (.slice A2 X.n c2) w.heap.size) (shF X.n (X.endsL false) LB) (by kernel_rfl) (by kernel_rfl) (by kernel_rfl) (by kernel_rfl) (by kernel_rfl) (by kernel_rfl) ?_ (shF_keep X.n (X.endsL false) LB) ?_ ?_
        · intro t ht
          simp only [List.mem_cons, List.not_mem_nil, or_false] at ht
          rcases ht with rfl | rfl | rfl <;> rfl
        · refine allOps_array ?_
          have hp : ∀ u : KeptW w4, _ := fun u => site_box ((u.h.block _ (heapsz Z4.out)).trans Z4.out)
          refine ⟨?_, ?_, ?_, ?_, ?_, ?_, ?_, ?_, ?_, ?_, ?_, ?_, trivial⟩ <;> intro g u hd_ <;> obtain ⟨q0, q1, q2, q3, q4, q5⟩ := hp u
          · refine ⟨rfl, relQ 45 rfl trivial ?_⟩
            simp [go_sem, evalBy, rhoT, relOf, shCv, q0, q1, q2, q3, q4, q5]
          · refine ⟨rfl, relQ 46 rfl trivial ?_⟩
            simp [go_sem, evalBy, rhoT, relOf, shCv]
          · refine ⟨rfl, relQ 47 rfl trivial ?_⟩
            simp [go_sem, evalBy, rhoT, relOf, shCv]
          · refine ⟨rfl, relQ 48 rfl trivial ?_⟩
            simp [go_sem, evalBy, rhoT, relOf, shCv, q0, q1, q2, q3, q4, q5]
          · refine ⟨rfl, relQ 49 rfl trivial ?_⟩
            simp [go_sem, evalBy, rhoT, relOf, shCv]
          · refine ⟨rfl, relC 39 #[X.sv, X.tv, .bool false] (by simp [go_sem, evalBy, rhoT, relOf, shCv]) ?_⟩
            refine (refEnds_any (HI4.out.up u.h) HTH.out false).mono ?_
            rintro e w' ⟨A3, c3, rfl, g1, _, hb⟩
            exact ⟨_, rfl, hb, ⟨A3, c3, rfl, g1⟩, fun e he hn => by injection he with he; subst he; exact absurd hn (by simp [relOf])⟩
          · refine ⟨rfl, relC 31 #[X.sv, X.tv, .slice A2 X.n c2, g 5] (by simp [go_sem, evalBy, rhoT, relOf, shCv]) ?_⟩
            have hpt := playT_any (HI4.out.up u.h) A2 c2 plan HM.out (RowAt.up (k := 1) (R := intR) HL4.out u.h) HPI.out HK.out.n10 (X.endsL false) (ends_len X false) (poss_ends HK.out false) (g 5) (hd_ ⟨5, .data⟩ (by simp) rfl)
            rw [G2.out] at hpt
            refine hpt.mono ?_
            rintro e w' ⟨v, rfl, hb, hv⟩
            exact ⟨v, rfl, hb, hv, fun e he hn => by injection he with he; subst he; exact absurd hn (by simp [relOf])⟩
          · have hv := hd_ ⟨6, .data⟩ (by simp) rfl
            refine ⟨rfl, relM (g 6) hv (fun e he hn => by injection he with he; subst he; exact absurd hn (by simp [relOf])) ?_⟩
            simp [go_sem, evalBy, rhoT, relOf]
          · obtain ⟨A3, c3, e7, hv⟩ : TupV X.n LB (g 7) u.w := hd_ ⟨7, .data⟩ (by simp) rfl
            refine ⟨rfl, relM (.slice A3 X.n c3) ⟨A3, c3, rfl, hv⟩ (fun e he hn => by injection he with he; subst he; exact absurd hn (by simp [relOf])) ?_⟩
            simp [go_sem, evalBy, rhoT, relOf, e7]
          · obtain ⟨A3, c3, e7, hv⟩ : TupV X.n LB (g 7) u.w := hd_ ⟨7, .data⟩ (by simp) rfl
            refine ⟨rfl, relQ 53 rfl trivial ?_⟩
            simp [go_sem, evalBy, rhoT, relOf, shCv, e7]
          · have hv := hd_ ⟨8, .data⟩ (by simp) rfl
            refine ⟨rfl, relM (g 8) hv (fun e he hn => by injection he with he; subst he; exact absurd hn (by simp [relOf])) ?_⟩
            simp [go_sem, evalBy, rhoT, relOf]
          · refine ⟨rfl, relQ 12 rfl trivial ?_⟩
            simp [go_sem, evalBy, rhoT, relOf, shCv]
        · intro g u hf
          obtain ⟨AB, ABc, eg, hsl⟩ : LvsV X.n LB (g 10) u.w := hf 10 (by decide)
          simp [putAll, Act.put, rhoT, relOf, shCv, eg]
          have hub := u.h
          obtain ⟨w5, hwo⟩ : ∃ x, u.w = x := ⟨_, rfl⟩
          obtain ⟨k5, hk5⟩ : ∃ x, g 5 = x := ⟨_, rfl⟩
          obtain ⟨k6, hk6⟩ : ∃ x, g 6 = x := ⟨_, rfl⟩
          obtain ⟨k7, hk7⟩ : ∃ x, g 7 = x := ⟨_, rfl⟩
          obtain ⟨k8, hk8⟩ : ∃ x, g 8 = x := ⟨_, rfl⟩
          rw [hwo] at hsl hub ⊢
          try rw [hk5]
          try rw [hk6]
          try rw [hk7]
          try rw [hk8]
          clear hf eg hwo hk5 hk6 hk7 hk8
          have HB5 := Lib.hid (HB4.out.trans (hub.mono HB4.out.size)); have HS5 := Lib.hid (HS4.out.up hub); have HA5 := Lib.hid (LvsAt.up HA4.out hub); have HC5 := Lib.hid hsl
          have Z5 := Lib.hid ((hub.block _ (heapsz Z4.out)).trans Z4.out)
          clear hub hsl HB4 HS4 HA4 Z4 u g
          go_wp2_with fail
          go_loopw [13] (fun i wr => ∃ t : Nat, t ≤ X.n ∧ i = .int .i64 t ∧ Below w5.heap.size w5 wr) (fun i _ => X.n - (intOf i).toNat)
          case atStart => exact ⟨0, Nat.zero_le _, rfl, Below.refl _ _⟩
          case round =>
            obtain ⟨t, ht, rfl, hbr⟩ := hrel
            have HBR := Lib.hid hbr
            by_cases hlt : t < X.n
            · have ht0 : (0 : Int) ≤ (t : Int) := by omega
              have ht1 : (t : Int) < (X.n : Int) := by omega
              obtain ⟨ra, hra⟩ := get_of_lt (l := LA) (k := t) (by rw [LA1.out.1]; exact hlt)
              obtain ⟨rb, hrb⟩ := get_of_lt (l := LB) (k := t) (by rw [LA2.out.1]; exact hlt)
              have hrz : (zipL LA LB)[t]? = some (ra.zip rb) := by unfold zipL; rw [List.getElem?_zipWith, hra, hrb]
              have l1 := LA1.out.2 ra (List.mem_of_getElem? hra)
              have l2 := LA2.out.2 rb (List.mem_of_getElem? hrb)
              have l3 : (ra.zip rb).length = X.np := by rw [List.length_zip, l1, l2, Nat.min_self]
              obtain ⟨bs, os, S', n1, c1, rfl, hbs, hn1, d1, p1, _⟩ := sps_row HS5.out hrz
              obtain ⟨ba, oa, A', n2, c2', rfl, hba, hn2, d2, p2, _⟩ := lvs_row HA5.out hra
              obtain ⟨bb, ob, B', n3, c3', rfl, hbb, hn3, d3, p3, _⟩ := lvs_row HC5.out hrb
              rw [l3] at hn1
              rw [l1] at hn2
              rw [l2] at hn3
              rw [hn1] at d1
              rw [hn2] at d2
              rw [hn3] at d3
              have P1 := Lib.hid p1; have P2 := Lib.hid p2; have P3 := Lib.hid p3; have L1 := Lib.hid l1; have L2 := Lib.hid l2
              have FD : Hid (∀ u, Below w5.heap.size w5 u → u.cell? ⟨bs, os + t, none⟩ = some (.slice S' X.np c1) ∧ u.cell? ⟨ba, oa + t, none⟩ = some (.slice A' X.np c2') ∧ u.cell? ⟨bb, ob + t, none⟩ = some (.slice B' X.np c3') ∧ u.cell? ⟨w.heap.size, 0, none⟩ = some (.slice X.AP X.np X.cp)) := Lib.hid fun u hu => ⟨((bcell hu).1 _ _ hbs).trans d1, ((bcell hu).1 _ _ hba).trans d2, ((bcell hu).1 _ _ hbb).trans d3, (site_box ((hu.block _ (heapsz Z5.out)).trans Z5.out)).1⟩
              obtain ⟨f1, f2, f3, f4⟩ := FD.out wr hbr
              clear hra hrb hrz hbs hba hbb d1 d2 d3 p1 p2 p3 l1 l2 l3 hn1 hn2 hn3 hbr
              go_wp2_with fail
              go_quiet (fail)
              go_wp2_with fail
              rename World => wo
              clear f1 f2 f3 f4
              go_loopw [14] (fun i wq => ∃ j : Nat, j ≤ X.np ∧ i = .int .i64 j ∧ Below w5.heap.size w5 wq) (fun i _ => X.np - (intOf i).toNat)
              case atStart => exact ⟨0, Nat.zero_le _, rfl, belN HBR.out _⟩
              case round =>
                obtain ⟨j, hj, rfl, hbq⟩ := hrel
                have HBQ := Lib.hid hbq
                obtain ⟨f1, f2, f3, f4⟩ := FD.out wr hbq
                by_cases hjt : j < X.np
                · have hj0 : (0 : Int) ≤ (j : Int) := by omega
                  have hj1 : (j : Int) < (X.np : Int) := by omega
                  obtain ⟨x, hx⟩ := get_of_lt (l := ra) (k := j) (by rw [L1.out]; exact hjt)
                  obtain ⟨y, hy⟩ := get_of_lt (l := rb) (k := j) (by rw [L2.out]; exact hjt)
                  have hxy : (ra.zip rb)[j]? = some (x, y) := by rw [List.zip_eq_zipWith, List.getElem?_zipWith, hx, hy]
                  obtain ⟨b1, o1, rfl, hb1, e1, e2⟩ := prs_el P1.out hxy
                  obtain ⟨b2, o2, rfl, hb2, hq2⟩ := P2.out (by intro h; rw [h] at hx; simp at hx)
                  obtain ⟨b3, o3, rfl, hb3, hq3⟩ := P3.out (by intro h; rw [h] at hy; simp at hy)
                  have e3 := hq2 j x hx 0 (.int .i64 x) rfl
                  have e4 := hq3 j y hy 0 (.int .i64 y) rfl
                  simp only [Nat.mul_one, Nat.add_zero] at e3 e4
                  replace e1 := ((bcell hbq).1 _ _ hb1).trans e1
                  replace e2 := ((bcell hbq).1 _ _ hb1).trans e2
                  replace e3 := ((bcell hbq).1 _ _ hb2).trans e3
                  replace e4 := ((bcell hbq).1 _ _ hb3).trans e4
                  have q42' : ∀ W : World, (Op.equalIn 10000 42 (.agg #[.int .i64 x, .int .i64 y]) (.agg #[.int .i64 x, .int .i64 y])).run Tryz.prog W = .ok true W := fun W => by rw [eq42]; simp
                  clear hx hy hxy hq2 hq3 hb1 hb2 hb3 hbq
                  go_wp2_with fail
                  go_quiet (fail)
                  go_wp2_with fail
                  go_roundw
                  case rel => exact ⟨j + 1, by omega, by go_num, belN HBQ.out _⟩
                  case measure => simp [intOf]; omega
                · have hje : j = X.np := by omega
                  have hj1 : ¬ (j : Int) < (X.np : Int) := by omega
                  go_wp2_with fail
                  go_roundw
                  case rel => exact ⟨t + 1, by omega, by go_num, HBQ.out⟩
                  case measure => simp [intOf]; omega
            · have hte : t = X.n := by omega
              have hk1 : ¬ (t : Int) < (X.n : Int) := by omega
              have HBX := Lib.hid (HB5.out.trans (HBR.out.mono HB5.out.size))
              clear hbr
              go_wp2_with fail
              refine (HKN.out _ HBX.out).mono ?_
              rintro e wy ⟨rfl, hb⟩
              have HBY := Lib.hid (HBX.out.trans (hb.mono HBX.out.size)); clear hb
              go_wp2_with fail
              go_ret
              exact ⟨rfl, HBY.out⟩
    · have hI : I = 2 ∨ I = 3 := by omega
      have HBX := HBP
      clear hv h0
      rcases hI with rfl | rfl
      all_goals
        go_wp2_with fail
        refine (HKN.out _ HBX.out).mono ?_
        rintro e wy ⟨rfl, hb⟩
        have HBY := Lib.hid (HBX.out.trans (hb.mono HBX.out.size)); clear hb
        go_wp2_with fail
        go_ret
        exact ⟨rfl, HBY.out⟩
end
end Go.Proofs.YtdlaphlpimlgdaaGreatDoor
