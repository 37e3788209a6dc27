/- Which error a site, thaws and a plan have, as the statements ask it. -/
import Derived.Test.YtdlaphlpimlgdaaGreatDoorN
namespace Go.Proofs.YtdlaphlpimlgdaaGreatDoor
open Go.RowKit

set_option maxRecDepth 100000 in
set_option maxHeartbeats 4000000 in
theorem asked_any (AP AQ AR A : Option Addr) (np cp nq cq nr cr n c : Nat) (ps : List Pil) (qs : List (Int × Int)) (rs : List Rw) (may sink tilt : Int) (ts : List (List Sp)) (w : World) (hp : ps.length = np) (hp2 : np ≤ maxLen) (hP : PilsAt w w.heap.size AP ps)
    (hq : qs.length = nq) (hq2 : nq ≤ maxLen) (hQ : PrsAt w w.heap.size AQ qs) (hr : rs.length = nr) (hr2 : nr ≤ maxLen) (hR : RwsAt w w.heap.size AR rs) (hl : ts.length = n) (hn : n ≤ maxLen) (hT : SpsAt w w.heap.size A ts) :
    Calls Tryz.prog 24 #[.agg #[.slice AP np cp, .slice AQ nq cq, .slice AR nr cr, .int .i64 may, .int .i64 sink, .int .i64 tilt], .slice A n c] w fun e w' => e = .returned (.int .i64 (thawsI ⟨ps, qs, rs, may, sink, tilt⟩ ts)) ∧ Below w.heap.size w w' := by
  have HP := Lib.hid hp; have HQ := Lib.hid hq; have HR := Lib.hid hr; have HL := Lib.hid hl
  have HP2 := Lib.hid hp2; have HQ2 := Lib.hid hq2; have HR2 := Lib.hid hr2; have HN := Lib.hid hn
  have HPA := Lib.hid hP; have HQA := Lib.hid hQ; have HRA := Lib.hid hR; have HT := Lib.hid hT
  have HCI : Hid (thawsI ⟨ps, qs, rs, may, sink, tilt⟩ ts = if 10 < (n : Int) then 3 else if sitB ⟨ps, qs, rs, may, sink, tilt⟩ then (if thawsB (np : Int) ts then 0 else 2) else 2) := Lib.hid (by rw [← hp, ← hl]; rfl)
  have hb0 := (Below.refl w.heap.size w).alloc (Nat.le_refl _) (.cells #[.slice AP np cp, .slice AQ nq cq, .slice AR nr cr, .int .i64 may, .int .i64 sink, .int .i64 tilt] 26)
  have z0 := heap_alloc_new w (.cells #[.slice AP np cp, .slice AQ nq cq, .slice AR nr cr, .int .i64 may, .int .i64 sink, .int .i64 tilt] 26)
  obtain ⟨w1, hw1⟩ : ∃ z, w.alloc (.cells #[.slice AP np cp, .slice AQ nq cq, .slice AR nr cr, .int .i64 may, .int .i64 sink, .int .i64 tilt] 26) = z := ⟨_, rfl⟩
  rw [hw1] at z0 hb0
  have Z0 := Lib.hid z0; have HB1 := Lib.hid hb0
  obtain ⟨p0, p1, p2, p3, p4, p5⟩ := site_box z0
  clear z0 hb0 hp hq hr hl hP hQ hR hT hp2 hq2 hr2 hn
  by_cases h10 : 10 < (n : Int)
  · have HV := Lib.hid (HCI.out.trans (if_pos h10))
    go_enter Tryz.func24, Tryz.ntmps24
    go_wp2_with fail
    go_ret
    exact ⟨by rw [HV.out]; rfl, HB1.out⟩
  · have HV := Lib.hid (HCI.out.trans (if_neg h10))
    go_enter Tryz.func24, Tryz.ntmps24
    go_wp2_with fail
    refine (refSite_any AP AQ AR np cp nq cq nr cr ps qs rs may sink tilt w1 HP.out HP2.out (HPA.out.up HB1.out) HQ.out HQ2.out (HQA.out.up HB1.out) HR.out HR2.out (HRA.out.up HB1.out)).mono ?_
    rintro e w2 ⟨rfl, hb⟩
    have HB2 := Lib.hid (HB1.out.trans (hb.mono HB1.out.size))
    have y0 := (hb.block _ (heapsz Z0.out)).trans Z0.out
    clear hb p0 p1 p2 p3 p4 p5
    obtain ⟨p0, p1, p2, p3, p4, p5⟩ := site_box y0
    clear y0
    cases hs : sitB ⟨ps, qs, rs, may, sink, tilt⟩ with
    | false =>
      have HW : Hid (thawsI ⟨ps, qs, rs, may, sink, tilt⟩ ts = 2) := Lib.hid (HV.out.trans (by rw [hs]; rfl))
      clear hs
      go_wp2_with fail
      go_ret
      exact ⟨by rw [HW.out]; rfl, HB2.out⟩
    | true =>
      have HW : Hid (thawsI ⟨ps, qs, rs, may, sink, tilt⟩ ts = if thawsB (np : Int) ts then 0 else 2) := Lib.hid (HV.out.trans (by rw [hs]; rfl))
      clear hs
      go_wp2_with fail
      refine (refThaws_any AP AQ AR A np cp nq cq nr cr n c may sink tilt ts w2 HP2.out HL.out HN.out (HT.out.up HB2.out)).mono ?_
      rintro e w3 ⟨rfl, hb⟩
      have HB3 := Lib.hid (HB2.out.trans (hb.mono HB2.out.size))
      clear hb p0 p1 p2 p3 p4 p5
      cases ht : thawsB (np : Int) ts with
      | false =>
        have HX : Hid (thawsI ⟨ps, qs, rs, may, sink, tilt⟩ ts = 2) := Lib.hid (HW.out.trans (by rw [ht]; rfl))
        clear ht
        go_wp2_with fail
        go_ret
        exact ⟨by rw [HX.out]; rfl, HB3.out⟩
      | true =>
        have HX : Hid (thawsI ⟨ps, qs, rs, may, sink, tilt⟩ ts = 0) := Lib.hid (HW.out.trans (by rw [ht]; rfl))
        clear ht
        go_wp2_with fail
        go_ret
        exact ⟨by rw [HX.out]; rfl, HB3.out⟩
theorem thawsI_or {s : Sit} {ts : List (List Sp)} (h : ¬ 10 < (ts.length : Int)) : thawsI s ts = 0 ∨ thawsI s ts = 2 := by
  unfold thawsI
  rw [if_neg h]
  split
  · split
    · exact .inl rfl
    · exact .inr rfl
  · exact .inr rfl
set_option maxRecDepth 100000 in
set_option maxHeartbeats 4000000 in
theorem planned_any (AP AQ AR A A2 : Option Addr) (np cp nq cq nr cr n c m c2 : Nat) (ps : List Pil) (qs : List (Int × Int)) (rs : List Rw) (may sink tilt : Int) (ts : List (List Sp)) (plan : List Int) (w : World) (hp : ps.length = np) (hp2 : np ≤ maxLen) (hP : PilsAt w w.heap.size AP ps)
    (hq : qs.length = nq) (hq2 : nq ≤ maxLen) (hQ : PrsAt w w.heap.size AQ qs) (hr : rs.length = nr) (hr2 : nr ≤ maxLen) (hR : RwsAt w w.heap.size AR rs) (hl : ts.length = n) (hn : n ≤ maxLen) (hT : SpsAt w w.heap.size A ts) (hm : plan.length = m) (hm2 : m ≤ maxLen) (hL : IntsAt w w.heap.size A2 plan) :
    Calls Tryz.prog 28 #[.agg #[.slice AP np cp, .slice AQ nq cq, .slice AR nr cr, .int .i64 may, .int .i64 sink, .int .i64 tilt], .slice A n c, .slice A2 m c2] w fun e w' => e = .returned (.int .i64 (planI ⟨ps, qs, rs, may, sink, tilt⟩ ts plan)) ∧ Below w.heap.size w w' := by
  have HP := Lib.hid hp; have HQ := Lib.hid hq; have HR := Lib.hid hr; have HL := Lib.hid hl; have HM := Lib.hid hm
  have HP2 := Lib.hid hp2; have HQ2 := Lib.hid hq2; have HR2 := Lib.hid hr2; have HN := Lib.hid hn; have HM2 := Lib.hid hm2
  have HPA := Lib.hid hP; have HQA := Lib.hid hQ; have HRA := Lib.hid hR; have HT := Lib.hid hT; have HLA := Lib.hid hL
  have HCI : Hid (planI ⟨ps, qs, rs, may, sink, tilt⟩ ts plan = if 10 < (n : Int) ∨ 10 < (m : Int) then 3 else if thawsI ⟨ps, qs, rs, may, sink, tilt⟩ ts = 0 then (if m = n ∧ planB np plan = true then 0 else 2) else thawsI ⟨ps, qs, rs, may, sink, tilt⟩ ts) := Lib.hid (by rw [← hp, ← hl, ← hm]; rfl)
  have H6 : Hid (thawsI ⟨ps, qs, rs, may, sink, tilt⟩ ts = 0 → np ≤ 6) := Lib.hid (fun h => by rw [← hp]; exact (sit_np (thawsI_0 h).1).2)
  have HOR : Hid (¬ 10 < (n : Int) → thawsI ⟨ps, qs, rs, may, sink, tilt⟩ ts = 0 ∨ thawsI ⟨ps, qs, rs, may, sink, tilt⟩ ts = 2) := Lib.hid (by rw [← hl]; exact thawsI_or)
  have hb0 := (Below.refl w.heap.size w).alloc (Nat.le_refl _) (.cells #[.slice AP np cp, .slice AQ nq cq, .slice AR nr cr, .int .i64 may, .int .i64 sink, .int .i64 tilt] 26)
  have z0 := heap_alloc_new w (.cells #[.slice AP np cp, .slice AQ nq cq, .slice AR nr cr, .int .i64 may, .int .i64 sink, .int .i64 tilt] 26)
  obtain ⟨w1, hw1⟩ : ∃ z, w.alloc (.cells #[.slice AP np cp, .slice AQ nq cq, .slice AR nr cr, .int .i64 may, .int .i64 sink, .int .i64 tilt] 26) = z := ⟨_, rfl⟩
  rw [hw1] at z0 hb0
  have Z0 := Lib.hid z0; have HB1 := Lib.hid hb0
  obtain ⟨p0, p1, p2, p3, p4, p5⟩ := site_box z0
  clear z0 hb0 hp hq hr hl hP hQ hR hT hp2 hq2 hr2 hn hm hL hm2
  by_cases h10 : 10 < (n : Int)
  · have HV := Lib.hid (HCI.out.trans (if_pos (.inl h10)))
    go_enter Tryz.func28, Tryz.ntmps28
    go_wp2_with fail
    go_ret
    exact ⟨by rw [HV.out]; rfl, HB1.out⟩
  · by_cases h11 : 10 < (m : Int)
    · have HV := Lib.hid (HCI.out.trans (if_pos (.inr h11)))
      go_enter Tryz.func28, Tryz.ntmps28
      go_wp2_with fail
      go_ret
      exact ⟨by rw [HV.out]; rfl, HB1.out⟩
    · have HV := Lib.hid (HCI.out.trans (if_neg (fun h => h.elim h10 h11)))
      have HO := Lib.hid (HOR.out h10)
      go_enter Tryz.func28, Tryz.ntmps28
      go_wp2_with fail
      refine (asked_any AP AQ AR A np cp nq cq nr cr n c ps qs rs may sink tilt ts w1 HP.out HP2.out (HPA.out.up HB1.out) HQ.out HQ2.out (HQA.out.up HB1.out) HR.out HR2.out (HRA.out.up HB1.out) HL.out HN.out (HT.out.up HB1.out)).mono ?_
      rintro e w2 ⟨rfl, hb⟩
      have HB2 := Lib.hid (HB1.out.trans (hb.mono HB1.out.size))
      have y0 := (hb.block _ (heapsz Z0.out)).trans Z0.out
      clear hb p0 p1 p2 p3 p4 p5 h10 h11
      obtain ⟨p0, p1, p2, p3, p4, p5⟩ := site_box y0
      clear y0
      rcases HO.out with h0 | h2
      · rw [h0]
        have h6 := H6.out h0
        have HW : Hid (planI ⟨ps, qs, rs, may, sink, tilt⟩ ts plan = if m = n ∧ planB np plan = true then 0 else 2) := Lib.hid (HV.out.trans (if_pos h0))
        clear h0
        go_wp2_with fail
        refine (refPlan_any AP AQ AR A2 np cp nq cq nr cr m c2 n may sink tilt plan w2 h6 HM.out HM2.out (HLA.out.up HB2.out)).mono ?_
        rintro e w3 ⟨rfl, hb⟩
        have HB3 := Lib.hid (HB2.out.trans (hb.mono HB2.out.size))
        clear hb p0 p1 p2 p3 p4 p5
        cases ht : (planB np plan && decide (m = n)) with
        | false =>
          have HX : Hid (planI ⟨ps, qs, rs, may, sink, tilt⟩ ts plan = 2) := Lib.hid (HW.out.trans (if_neg (fun h => by rw [h.2, h.1] at ht; simp at ht)))
          clear ht
          go_wp2_with fail
          go_ret
          exact ⟨by rw [HX.out]; rfl, HB3.out⟩
        | true =>
          have HX : Hid (planI ⟨ps, qs, rs, may, sink, tilt⟩ ts plan = 0) := Lib.hid (HW.out.trans (if_pos (by simp only [Bool.and_eq_true, decide_eq_true_eq] at ht; exact ⟨ht.2, ht.1⟩)))
          clear ht
          go_wp2_with fail
          go_ret
          exact ⟨by rw [HX.out]; rfl, HB3.out⟩
      · rw [h2]
        have HX : Hid (planI ⟨ps, qs, rs, may, sink, tilt⟩ ts plan = 2) := Lib.hid (HV.out.trans (by rw [h2]; rfl))
        clear h2
        go_wp2_with fail
        go_ret
        exact ⟨by rw [HX.out]; rfl, HB2.out⟩
end Go.Proofs.YtdlaphlpimlgdaaGreatDoor
/- What a pile of a looked-at site carries. -/
namespace Go.Proofs.YtdlaphlpimlgdaaGreatDoor
open Go.RowKit

theorem sps_cells {w : World} {B : Nat} {A : Option Addr} {ts : List (List Sp)} (h : SpsAt w B A ts) {t i : Nat} {row : List Sp} {y : Sp} (ht : ts[t]? = some row) (hi : row[i]? = some y) :
    ∃ b o A' m c' b' o', A = some ⟨b, o, none⟩ ∧ b < B ∧ m = row.length ∧ w.cell? ⟨b, o + t, none⟩ = some (.slice A' m c') ∧ A' = some ⟨b', o', none⟩ ∧ b' < B ∧ w.cell? ⟨b', o' + i * 2, none⟩ = some (.int .i64 y.1) ∧ w.cell? ⟨b', o' + i * 2 + 1, none⟩ = some (.int .i64 y.2) := by
  obtain ⟨b, o, rfl, hb, hc⟩ := h (by intro e; rw [e] at ht; simp at ht)
  obtain ⟨A', c', h1, h2, _, _⟩ := hc t row ht
  obtain ⟨b', o', rfl, hb', hc'⟩ := pr_cells h2 (by intro e; rw [e] at hi; simp at hi)
  exact ⟨b, o, _, _, c', b', o', rfl, hb, rfl, h1, rfl, hb', (hc' i y hi).1, (hc' i y hi).2⟩
theorem car_kept {w0 : World} (x : Pil) (t : Int) (u : KeptW w0) {C : Int} (h : pilB x = true) (h0 : 0 ≤ t) (h1 : t ≤ 50000) (hC : carI x t = C) : Calls Tryz.prog 93 #[.agg #[.int .i64 x.d, .int .i64 x.p, .int .i64 x.s, .int .i64 x.l, .int .i64 x.h, .int .i64 x.g, .int .i64 x.c], .int .i64 t] u.w fun e w' => e = .returned (.int .i64 C) ∧ ∃ u' : KeptW w0, w' = u'.w :=
  Calls.in_kept u (by rw [← hC]; exact carries_any x t u.w h h0 h1)
/-- A looked-at site in memory. -/
def LookAt (w : World) (G : Nat) (AP AQ AR A : Option Addr) (np cp nq cq nr cr n c : Nat) (may sink tilt : Int) : Prop :=
  w.heap[G]? = some (.cells #[.slice AP np cp, .slice AQ nq cq, .slice AR nr cr, .int .i64 may, .int .i64 sink, .int .i64 tilt, .slice A n c] 151 (0, 0))
theorem look_cells {w : World} {G : Nat} {AP AQ AR A : Option Addr} {np cp nq cq nr cr n c : Nat} {may sink tilt : Int} (z : LookAt w G AP AQ AR A np cp nq cq nr cr n c may sink tilt) :
    w.cell? ⟨G, 0, none⟩ = some (.slice AP np cp) ∧ w.cell? ⟨G, 1, none⟩ = some (.slice AQ nq cq) ∧ w.cell? ⟨G, 2, none⟩ = some (.slice AR nr cr) ∧ w.cell? ⟨G, 3, none⟩ = some (.int .i64 may) ∧ w.cell? ⟨G, 4, none⟩ = some (.int .i64 sink) ∧ w.cell? ⟨G, 5, none⟩ = some (.int .i64 tilt) ∧ w.cell? ⟨G, 6, none⟩ = some (.slice A n c) := by
  have p0 := cell_of_row w G 0 _ 151 (0, 0) z
  have p1 := cell_of_row w G 1 _ 151 (0, 0) z
  have p2 := cell_of_row w G 2 _ 151 (0, 0) z
  have p3 := cell_of_row w G 3 _ 151 (0, 0) z
  have p4 := cell_of_row w G 4 _ 151 (0, 0) z
  have p5 := cell_of_row w G 5 _ 151 (0, 0) z
  have p6 := cell_of_row w G 6 _ 151 (0, 0) z
  simp at p0 p1 p2 p3 p4 p5 p6
  exact ⟨p0, p1, p2, p3, p4, p5, p6⟩
set_option maxRecDepth 100000 in
set_option maxHeartbeats 2000000 in
theorem leastCarried_any (G : Nat) (AP AQ AR A : Option Addr) (np cp nq cq nr cr n c t i : Nat) (ps : List Pil) (may sink tilt : Int) (ts : List (List Sp)) (row : List Sp) (x : Pil) (y : Sp) (w : World) (hG : LookAt w G AP AQ AR A np cp nq cq nr cr n c may sink tilt)
    (hp : ps.length = np) (hP : PilsAt w w.heap.size AP ps) (hl : ts.length = n) (hT : SpsAt w w.heap.size A ts) (ht : ts[t]? = some row) (hi : row[i]? = some y) (hx : ps[i]? = some x) (hB : pilB x = true) (hY : spB y = true) :
    Calls Tryz.prog 106 #[.pointer (some ⟨G, 0, none⟩), .int .i64 (t : Int), .int .i64 (i : Int)] w fun e w' => e = .returned (.int .i64 (carI x y.2)) ∧ Below w.heap.size w w' := by
  obtain ⟨g0, _, _, _, _, _, g6⟩ := look_cells hG
  have ltG := heapsz hG
  obtain ⟨b, o, rfl, hb, hcs⟩ := pil_cells hP (by intro e; rw [e] at hx; simp at hx)
  obtain ⟨c0, c1, c2, c3, c4, c5, c6⟩ := hcs i x hx
  obtain ⟨b1, o1, A', m, c', b2, o2, rfl, hb1, hm, e1, rfl, hb2, e2, e3⟩ := sps_cells hT ht hi
  have hil : i < np := by rw [← hp]; exact (List.getElem?_eq_some_iff.1 hx).1
  have htl : t < n := by rw [← hl]; exact (List.getElem?_eq_some_iff.1 ht).1
  have him : i < m := by rw [hm]; exact (List.getElem?_eq_some_iff.1 hi).1
  have i0 : (0 : Int) ≤ (i : Int) := by omega
  have i1 : (i : Int) < (np : Int) := by omega
  have i2 : (i : Int) < (m : Int) := by omega
  have t0 : (0 : Int) ≤ (t : Int) := by omega
  have t1 : (t : Int) < (n : Int) := by omega
  have hyb := withinB_iff.1 hY
  obtain ⟨lo, hi'⟩ := y
  simp only at e2 e3 hyb
  obtain ⟨C, hC⟩ : ∃ z, carI x hi' = z := ⟨_, rfl⟩
  have HC := Lib.hid hC
  have HK : Hid (∀ u : KeptW w, Calls Tryz.prog 93 #[.agg #[.int .i64 x.d, .int .i64 x.p, .int .i64 x.s, .int .i64 x.l, .int .i64 x.h, .int .i64 x.g, .int .i64 x.c], .int .i64 hi'] u.w fun e w' => e = .returned (.int .i64 C) ∧ ∃ u' : KeptW w, w' = u'.w) := Lib.hid fun u => car_kept x hi' u hB (by omega) (by omega) hC
  replace g0 : ∀ u : KeptW w, u.w.cell? ⟨G, 0, none⟩ = some (.slice (some ⟨b, o, none⟩) np cp) := fun u => ((bcell u.h).1 _ 0 ltG).trans g0
  replace g6 : ∀ u : KeptW w, u.w.cell? ⟨G, 6, none⟩ = some (.slice (some ⟨b1, o1, none⟩) n c) := fun u => ((bcell u.h).1 _ 6 ltG).trans g6
  replace c0 : ∀ u : KeptW w, u.w.cell? ⟨b, o + i * 7, none⟩ = some (.int .i64 x.d) := fun u => ((bcell u.h).1 _ _ hb).trans c0
  replace c1 : ∀ u : KeptW w, u.w.cell? ⟨b, o + i * 7 + 1, none⟩ = some (.int .i64 x.p) := fun u => ((bcell u.h).1 _ _ hb).trans c1
  replace c2 : ∀ u : KeptW w, u.w.cell? ⟨b, o + i * 7 + 2, none⟩ = some (.int .i64 x.s) := fun u => ((bcell u.h).1 _ _ hb).trans c2
  replace c3 : ∀ u : KeptW w, u.w.cell? ⟨b, o + i * 7 + 3, none⟩ = some (.int .i64 x.l) := fun u => ((bcell u.h).1 _ _ hb).trans c3
  replace c4 : ∀ u : KeptW w, u.w.cell? ⟨b, o + i * 7 + 4, none⟩ = some (.int .i64 x.h) := fun u => ((bcell u.h).1 _ _ hb).trans c4
  replace c5 : ∀ u : KeptW w, u.w.cell? ⟨b, o + i * 7 + 5, none⟩ = some (.int .i64 x.g) := fun u => ((bcell u.h).1 _ _ hb).trans c5
  replace c6 : ∀ u : KeptW w, u.w.cell? ⟨b, o + i * 7 + 6, none⟩ = some (.int .i64 x.c) := fun u => ((bcell u.h).1 _ _ hb).trans c6
  replace e1 : ∀ u : KeptW w, u.w.cell? ⟨b1, o1 + t, none⟩ = some (.slice (some ⟨b2, o2, none⟩) m c') := fun u => ((bcell u.h).1 _ _ hb1).trans e1
  replace e2 : ∀ u : KeptW w, u.w.cell? ⟨b2, o2 + i * 2, none⟩ = some (.int .i64 lo) := fun u => ((bcell u.h).1 _ _ hb2).trans e2
  replace e3 : ∀ u : KeptW w, u.w.cell? ⟨b2, o2 + i * 2 + 1, none⟩ = some (.int .i64 hi') := fun u => ((bcell u.h).1 _ _ hb2).trans e3
  show Calls Tryz.prog 106 _ w fun e w' => e = .returned (.int .i64 (carI x hi')) ∧ Below w.heap.size w w'
  clear hG hP hT hp hl ht hi hx hB hY hcs hyb hm hC hil htl him hb hb1 hb2 ltG
  go_enter Tryz.func106, Tryz.ntmps106
  go_wp2_with fail
  refine rk_region (by kernel_rfl) (by kernel_rfl) ?_
  repeat (go_big_quiet_step (first | (with_reducible exact HK.out _) | fail))
  refine wpQuiet_nil ?_
  rintro _ ⟨⟨wz, hbz⟩, rfl⟩
  have BZ := Lib.hid hbz
  clear g0 g6 c0 c1 c2 c3 c4 c5 c6 e1 e2 e3 hbz
  go_wp2_with fail
  go_ret
  exact ⟨by rw [HC.out]; rfl, BZ.out⟩
set_option maxRecDepth 100000 in
set_option maxHeartbeats 2000000 in
theorem mostCarried_any (G : Nat) (AP AQ AR A : Option Addr) (np cp nq cq nr cr n c t i : Nat) (ps : List Pil) (may sink tilt : Int) (ts : List (List Sp)) (row : List Sp) (x : Pil) (y : Sp) (w : World) (hG : LookAt w G AP AQ AR A np cp nq cq nr cr n c may sink tilt)
    (hp : ps.length = np) (hP : PilsAt w w.heap.size AP ps) (hl : ts.length = n) (hT : SpsAt w w.heap.size A ts) (ht : ts[t]? = some row) (hi : row[i]? = some y) (hx : ps[i]? = some x) (hB : pilB x = true) (hY : spB y = true) :
    Calls Tryz.prog 107 #[.pointer (some ⟨G, 0, none⟩), .int .i64 (t : Int), .int .i64 (i : Int)] w fun e w' => e = .returned (.int .i64 (carI x y.1)) ∧ Below w.heap.size w w' := by
  obtain ⟨g0, _, _, _, _, _, g6⟩ := look_cells hG
  have ltG := heapsz hG
  obtain ⟨b, o, rfl, hb, hcs⟩ := pil_cells hP (by intro e; rw [e] at hx; simp at hx)
  obtain ⟨c0, c1, c2, c3, c4, c5, c6⟩ := hcs i x hx
  obtain ⟨b1, o1, A', m, c', b2, o2, rfl, hb1, hm, e1, rfl, hb2, e2, e3⟩ := sps_cells hT ht hi
  have hil : i < np := by rw [← hp]; exact (List.getElem?_eq_some_iff.1 hx).1
  have htl : t < n := by rw [← hl]; exact (List.getElem?_eq_some_iff.1 ht).1
  have him : i < m := by rw [hm]; exact (List.getElem?_eq_some_iff.1 hi).1
  have i0 : (0 : Int) ≤ (i : Int) := by omega
  have i1 : (i : Int) < (np : Int) := by omega
  have i2 : (i : Int) < (m : Int) := by omega
  have t0 : (0 : Int) ≤ (t : Int) := by omega
  have t1 : (t : Int) < (n : Int) := by omega
  have hyb := withinB_iff.1 hY
  obtain ⟨lo, hi'⟩ := y
  simp only at e2 e3 hyb
  obtain ⟨C, hC⟩ : ∃ z, carI x lo = z := ⟨_, rfl⟩
  have HC := Lib.hid hC
  have HK : Hid (∀ u : KeptW w, Calls Tryz.prog 93 #[.agg #[.int .i64 x.d, .int .i64 x.p, .int .i64 x.s, .int .i64 x.l, .int .i64 x.h, .int .i64 x.g, .int .i64 x.c], .int .i64 lo] u.w fun e w' => e = .returned (.int .i64 C) ∧ ∃ u' : KeptW w, w' = u'.w) := Lib.hid fun u => car_kept x lo u hB (by omega) (by omega) hC
  replace g0 : ∀ u : KeptW w, u.w.cell? ⟨G, 0, none⟩ = some (.slice (some ⟨b, o, none⟩) np cp) := fun u => ((bcell u.h).1 _ 0 ltG).trans g0
  replace g6 : ∀ u : KeptW w, u.w.cell? ⟨G, 6, none⟩ = some (.slice (some ⟨b1, o1, none⟩) n c) := fun u => ((bcell u.h).1 _ 6 ltG).trans g6
  replace c0 : ∀ u : KeptW w, u.w.cell? ⟨b, o + i * 7, none⟩ = some (.int .i64 x.d) := fun u => ((bcell u.h).1 _ _ hb).trans c0
  replace c1 : ∀ u : KeptW w, u.w.cell? ⟨b, o + i * 7 + 1, none⟩ = some (.int .i64 x.p) := fun u => ((bcell u.h).1 _ _ hb).trans c1
  replace c2 : ∀ u : KeptW w, u.w.cell? ⟨b, o + i * 7 + 2, none⟩ = some (.int .i64 x.s) := fun u => ((bcell u.h).1 _ _ hb).trans c2
  replace c3 : ∀ u : KeptW w, u.w.cell? ⟨b, o + i * 7 + 3, none⟩ = some (.int .i64 x.l) := fun u => ((bcell u.h).1 _ _ hb).trans c3
  replace c4 : ∀ u : KeptW w, u.w.cell? ⟨b, o + i * 7 + 4, none⟩ = some (.int .i64 x.h) := fun u => ((bcell u.h).1 _ _ hb).trans c4
  replace c5 : ∀ u : KeptW w, u.w.cell? ⟨b, o + i * 7 + 5, none⟩ = some (.int .i64 x.g) := fun u => ((bcell u.h).1 _ _ hb).trans c5
  replace c6 : ∀ u : KeptW w, u.w.cell? ⟨b, o + i * 7 + 6, none⟩ = some (.int .i64 x.c) := fun u => ((bcell u.h).1 _ _ hb).trans c6
  replace e1 : ∀ u : KeptW w, u.w.cell? ⟨b1, o1 + t, none⟩ = some (.slice (some ⟨b2, o2, none⟩) m c') := fun u => ((bcell u.h).1 _ _ hb1).trans e1
  replace e2 : ∀ u : KeptW w, u.w.cell? ⟨b2, o2 + i * 2, none⟩ = some (.int .i64 lo) := fun u => ((bcell u.h).1 _ _ hb2).trans e2
  replace e3 : ∀ u : KeptW w, u.w.cell? ⟨b2, o2 + i * 2 + 1, none⟩ = some (.int .i64 hi') := fun u => ((bcell u.h).1 _ _ hb2).trans e3
  show Calls Tryz.prog 107 _ w fun e w' => e = .returned (.int .i64 (carI x lo)) ∧ Below w.heap.size w w'
  clear hG hP hT hp hl ht hi hx hB hY hcs hyb hm hC hil htl him hb hb1 hb2 ltG
  go_enter Tryz.func107, Tryz.ntmps107
  go_wp2_with fail
  refine rk_region (by kernel_rfl) (by kernel_rfl) ?_
  repeat (go_big_quiet_step (first | (with_reducible exact HK.out _) | fail))
  refine wpQuiet_nil ?_
  rintro _ ⟨⟨wz, hbz⟩, rfl⟩
  have BZ := Lib.hid hbz
  clear g0 g6 c0 c1 c2 c3 c4 c5 c6 e1 e2 e3 hbz
  go_wp2_with fail
  go_ret
  exact ⟨by rw [HC.out]; rfl, BZ.out⟩

end Go.Proofs.YtdlaphlpimlgdaaGreatDoor
/- The row of a pile's use. -/
namespace Go.Proofs.YtdlaphlpimlgdaaGreatDoor
open Go.RowKit

def useI (C l : Int) : Int := (1000 * l + C - 1) / C
def lastR (rs : List Rw) : Rw := rs.getLastD ⟨0, 0, 0⟩
/-- The row of what a pile carries under a load, and whether it fails. -/
def rowI (rs : List Rw) (C l : Int) : Rw × Bool :=
  if C = 0 then (lastR rs, true) else match rs.find? (fun r => decide (useI C l ≤ r.u)) with
    | some r => (r, false)
    | none => (lastR rs, true)
theorem find_no {α : Type} {f : α → Bool} {xs : List α} (h : ∀ (j : Nat) (y : α), xs[j]? = some y → f y = false) : xs.find? f = none := by
  rw [List.find?_eq_none]
  intro x hx
  obtain ⟨j, hj⟩ := List.mem_iff_getElem?.1 hx
  rw [h j x hj]
  exact Bool.false_ne_true
theorem find_at {α : Type} {f : α → Bool} : ∀ {xs : List α} {k : Nat} {x : α}, xs[k]? = some x → f x = true → (∀ (j : Nat) (y : α), j < k → xs[j]? = some y → f y = false) → xs.find? f = some x
  | [], k, x, hx, _, _ => by simp at hx
  | z :: xs, 0, x, hx, hf, _ => by
    simp at hx
    subst hx
    simp [hf]
  | z :: xs, k + 1, x, hx, hf, h => by
    rw [List.find?_cons, h 0 z (by omega) rfl]
    exact find_at (xs := xs) (k := k) (by simpa using hx) hf (fun j y hj hy => h (j + 1) y (by omega) (by simpa using hy))
theorem box3_cells {w : World} {B : Nat} {x y z : Value} {t : TypeId} (h : w.heap[B]? = some (.cells #[x, y, z] t (0, 0))) : w.cell? ⟨B, 0, none⟩ = some x ∧ w.cell? ⟨B, 1, none⟩ = some y ∧ w.cell? ⟨B, 2, none⟩ = some z := by
  have p0 := cell_of_row w B 0 _ t (0, 0) h
  have p1 := cell_of_row w B 1 _ t (0, 0) h
  have p2 := cell_of_row w B 2 _ t (0, 0) h
  simp at p0 p1 p2
  exact ⟨p0, p1, p2⟩
theorem box3_frozen {w : World} {B : Nat} {x y z : Value} {t : TypeId} (h : w.heap[B]? = some (.cells #[x, y, z] t (0, 0))) (i : Nat) : w.frozen? ⟨B, i, none⟩ = false := by simp [World.frozen?, h]
theorem set3 {w : World} {B : Nat} {x y z : Value} {t : TypeId} (h : w.heap[B]? = some (.cells #[x, y, z] t (0, 0))) (a b c : Value) :
    (((w.setCell ⟨B, 0, none⟩ a).setCell ⟨B, 1, none⟩ b).setCell ⟨B, 2, none⟩ c).cell? ⟨B, 0, none⟩ = some a ∧ (((w.setCell ⟨B, 0, none⟩ a).setCell ⟨B, 1, none⟩ b).setCell ⟨B, 2, none⟩ c).cell? ⟨B, 1, none⟩ = some b ∧ (((w.setCell ⟨B, 0, none⟩ a).setCell ⟨B, 1, none⟩ b).setCell ⟨B, 2, none⟩ c).cell? ⟨B, 2, none⟩ = some c :=
  box3_cells (t := t) (by simpa using blk_set (blk_set (blk_set h 0 a) 1 b) 2 c)
set_option maxRecDepth 100000 in
set_option maxHeartbeats 2000000 in
theorem rowOf_any (G : Nat) (AP AQ AR A : Option Addr) (np cp nq cq nr cr n c : Nat) (rs : List Rw) (may sink tilt C l : Int) (w : World) (hG : LookAt w G AP AQ AR A np cp nq cq nr cr n c may sink tilt)
    (hr : rs.length = nr) (hr0 : 1 ≤ nr) (hr2 : nr ≤ maxLen) (hR : RwsAt w w.heap.size AR rs) (hC : 0 ≤ C ∧ C ≤ 600000) (hl : 0 ≤ l ∧ l ≤ 100000) :
    Calls Tryz.prog 112 #[.pointer (some ⟨G, 0, none⟩), .int .i64 C, .int .i64 l] w fun e w' => e = .returned (.tuple #[.agg #[.int .i64 (rowI rs C l).1.u, .int .i64 (rowI rs C l).1.lo, .int .i64 (rowI rs C l).1.hi], .bool (rowI rs C l).2]) ∧ Below w.heap.size w w' := by
  have HR := Lib.hid hr; have HRA := Lib.hid hR
  unfold maxLen at hr2
  have HG := Lib.hid hG
  have ltG := heapsz hG
  obtain ⟨j, ej⟩ : ∃ j, nr = j + 1 := ⟨nr - 1, by omega⟩
  obtain ⟨x, hx⟩ := get_of_lt (l := rs) (k := j) (by rw [hr]; omega)
  obtain ⟨b, o, rfl, hb, hcs⟩ := rw_cells hR (by intro e; rw [e] at hx; simp at hx)
  have hlast : lastR rs = x := by
    unfold lastR
    rw [List.getLastD_eq_getLast?, List.getLast?_eq_getElem?, show rs.length - 1 = j by omega, hx]
    rfl
  have HLAST := Lib.hid hlast
  obtain ⟨c0, c1, c2⟩ := hcs j x hx
  have hb1 := (Below.refl w.heap.size w).alloc (Nat.le_refl _) (.cells #[.int .i64 0, .int .i64 0, .int .i64 0] 119)
  have z1 := heap_alloc_new w (.cells #[.int .i64 0, .int .i64 0, .int .i64 0] 119)
  obtain ⟨W, hW⟩ : ∃ z, w.alloc (.cells #[.int .i64 0, .int .i64 0, .int .i64 0] 119) = z := ⟨_, rfl⟩
  rw [hW] at hb1 z1
  have g2 := ((bcell hb1).1 _ 2 ltG).trans (look_cells hG).2.2.1
  replace c0 := ((bcell hb1).1 _ _ hb).trans c0
  replace c1 := ((bcell hb1).1 _ _ hb).trans c1
  replace c2 := ((bcell hb1).1 _ _ hb).trans c2
  have vj : Value.int .i64 (IntKind.i64.wrap ((nr : Int) - 1)) = Value.int .i64 (j : Int) := by
    have : IntKind.i64.wrap ((nr : Int) - 1) = (nr : Int) - 1 := IntWalk.i64_in _ (by omega)
    rw [this]; congr 1; omega
  have ltGW : G < W.heap.size := Nat.lt_of_lt_of_le ltG hb1.size
  have ltbW : b < W.heap.size := Nat.lt_of_lt_of_le hb hb1.size
  have HB1 := Lib.hid hb1; have Z1 := Lib.hid z1
  have j0 : (0 : Int) ≤ (j : Int) := by omega
  have j1 : (j : Int) < (nr : Int) := by omega
  obtain ⟨u, lo, hi⟩ := x
  simp only at c0 c1 c2
  clear hG hr hR hlast hx hcs hb1 z1 ej ltG
  go_enter Tryz.func112, Tryz.ntmps112
  go_wp2_with fail
  go_region
  have hW2 := hW
  obtain ⟨V, hV⟩ : ∃ z, (W.alloc (.cells #[.int .i64 u, .int .i64 lo, .int .i64 hi] 119)).drew = z := ⟨_, rfl⟩
  have HBV : Hid (Below w.heap.size w V) := Lib.hid (by rw [← hV]; exact (HB1.out.alloc HB1.out.size _).drew)
  have z1 : V.heap[w.heap.size]? = some (.cells #[.int .i64 0, .int .i64 0, .int .i64 0] 119 (0, 0)) := by rw [← hV]; exact (Below.heap_alloc W _ _ (heapsz Z1.out)).trans Z1.out
  have z2 : V.heap[W.heap.size]? = some (.cells #[.int .i64 u, .int .i64 lo, .int .i64 hi] 119 (0, 0)) := by rw [← hV]; exact heap_alloc_last W _
  have LTW := Lib.hid (show W.heap.size ≥ w.heap.size + 1 from heapsz Z1.out)
  have HZ1 := Lib.hid z1; have HZ2 := Lib.hid z2
  rw [hV]
  have g2V : Hid (V.cell? ⟨G, 2, none⟩ = some (.slice (some ⟨b, o, none⟩) nr cr)) := Lib.hid (((bcell HBV.out).1 _ 2 (heapsz HG.out)).trans (look_cells HG.out).2.2.1)
  clear hV g2 c0 c1 c2 ltGW ltbW vj j0 j1 hW hW2
  by_cases h0 : C = 0
  · have HROW : Hid (rowI rs C l = (⟨u, lo, hi⟩, true)) := Lib.hid (by unfold rowI; rw [if_pos h0, HLAST.out])
    have f0 := box3_frozen z1 0
    have f1 := box3_frozen z1 1
    have f2 := box3_frozen z1 2
    obtain ⟨a0, a1, a2⟩ := box3_cells z1
    obtain ⟨l0, l1, l2⟩ := box3_cells z2
    obtain ⟨q0, q1, q2⟩ := set3 z1 (.int .i64 u) (.int .i64 lo) (.int .i64 hi)
    have HBF := Lib.hid (((HBV.out.setCell (p := ⟨w.heap.size, 0, none⟩) (Nat.le_refl _) (.int .i64 u)).setCell (p := ⟨w.heap.size, 1, none⟩) (Nat.le_refl _) (.int .i64 lo)).setCell (p := ⟨w.heap.size, 2, none⟩) (Nat.le_refl _) (.int .i64 hi))
    have HQ0 := Lib.hid q0; have HQ1 := Lib.hid q1; have HQ2 := Lib.hid q2
    clear z1 z2 q0 q1 q2
    go_wp2_with fail
    have q0 := HQ0.out; have q1 := HQ1.out; have q2 := HQ2.out
    exact bodyPost_ret (v := .tuple #[.agg #[.int .i64 u, .int .i64 lo, .int .i64 hi], .bool true]) (by simp [results, Tryz.results112, go_sem, q0, q1, q2]) rfl ⟨by rw [HROW.out], HBF.out⟩
  · have hC1 : 0 < C := by omega
    have a0 : 0 ≤ 1000 * l + C - 1 := by omega
    have u1 : Value.int .i64 (wrap64 (1000 * l)) = Value.int .i64 (1000 * l) := by congr 1; exact w64 (by omega)
    have u2 : Value.int .i64 (wrap64 (1000 * l + C)) = Value.int .i64 (1000 * l + C) := by congr 1; exact w64 (by omega)
    have u3 : Value.int .i64 (wrap64 (1000 * l + C - 1)) = Value.int .i64 (1000 * l + C - 1) := by congr 1; exact w64 (by omega)
    have hdiv : (1000 * l + C - 1) / C ≤ 1000 * l + C - 1 := Int.ediv_le_self _ a0
    have hdiv0 : 0 ≤ (1000 * l + C - 1) / C := Int.ediv_nonneg a0 (by omega)
    have HNE : Hid (rowI rs C l = match rs.find? (fun r => decide (useI C l ≤ r.u)) with | some r => (r, false) | none => (lastR rs, true)) := Lib.hid (by unfold rowI; rw [if_neg h0])
    obtain ⟨N, hN⟩ : ∃ z, useI C l = z := ⟨_, rfl⟩
    rw [hN] at HNE
    have HNN : Hid ((1000 * l + C - 1) / C = N) := Lib.hid hN
    have gV := g2V.out
    clear hN z1 z2
    go_wp2_with fail
    clear gV u1 u2 u3 hdiv hdiv0 a0
    rw [HNN.out]
    go_loopw [42] (fun i wr => ∃ k : Nat, k ≤ nr ∧ i = .int .i64 k ∧ (∀ j y, j < k → rs[j]? = some y → ¬ N ≤ y.u) ∧ Below w.heap.size w wr ∧ wr.heap[w.heap.size]? = some (.cells #[.int .i64 0, .int .i64 0, .int .i64 0] 119 (0, 0)) ∧ wr.heap[W.heap.size]? = some (.cells #[.int .i64 u, .int .i64 lo, .int .i64 hi] 119 (0, 0))) (fun i _ => nr - (intOf i).toNat)
    case atStart => exact ⟨0, Nat.zero_le _, rfl, fun j y hj => absurd hj (Nat.not_lt_zero _), HBV.out, HZ1.out, HZ2.out⟩
    case round =>
      obtain ⟨k, hk, rfl, hall, hbr, y1, y2⟩ := hrel
      have HALL := Lib.hid hall; have HBR := Lib.hid hbr; have HY1 := Lib.hid y1; have HY2 := Lib.hid y2
      clear hall
      by_cases hlt : k < nr
      · obtain ⟨x, hx⟩ := get_of_lt (l := rs) (k := k) (by rw [HR.out]; exact hlt)
        obtain ⟨b', o', e, _, hcs⟩ := rw_cells HRA.out (by intro e; rw [e] at hx; simp at hx)
        simp only [Option.some.injEq, Addr.mk.injEq, and_true] at e
        obtain ⟨rfl, rfl⟩ := e
        obtain ⟨c0, c1, c2⟩ := hcs k x hx
        replace c0 := ((bcell hbr).1 _ _ hb).trans c0
        replace c1 := ((bcell hbr).1 _ _ hb).trans c1
        replace c2 := ((bcell hbr).1 _ _ hb).trans c2
        have HX := Lib.hid hx
        obtain ⟨xu, xl, xh⟩ := x
        simp only at c0 c1 c2
        obtain ⟨wB, hwB⟩ : ∃ z, wr.alloc (.cells #[.int .i64 xu, .int .i64 xl, .int .i64 xh] 119) = z := ⟨_, rfl⟩
        have zB := heap_alloc_new wr (.cells #[.int .i64 xu, .int .i64 xl, .int .i64 xh] 119)
        have hbB : Below wr.heap.size wr wB := by rw [← hwB]; exact (Below.refl _ _).alloc (Nat.le_refl _) _
        rw [hwB] at zB
        have HBB := Lib.hid (HBR.out.trans (hbB.mono HBR.out.size))
        have v1 := (hbB.block _ (heapsz y1)).trans y1
        have HV1 := Lib.hid v1
        have HV2 := Lib.hid ((hbB.block _ (heapsz y2)).trans y2)
        obtain ⟨r0, r1, r2⟩ := box3_cells zB
        have hk0 : (0 : Int) ≤ (k : Int) := by omega
        have hk1 : (k : Int) < (nr : Int) := by omega
        clear hx hcs hbr hbB zB y1 y2
        by_cases hu : N ≤ xu
        · have HROW : Hid (rowI rs C l = (⟨xu, xl, xh⟩, false)) := Lib.hid (by
            rw [HNE.out, find_at HX.out (decide_eq_true hu) (fun j y hj hy => decide_eq_false (HALL.out j y hj hy))])
          have f0 := box3_frozen v1 0
          have f1 := box3_frozen v1 1
          have f2 := box3_frozen v1 2
          obtain ⟨a0, a1, a2⟩ := box3_cells v1
          obtain ⟨q0, q1, q2⟩ := set3 v1 (.int .i64 xu) (.int .i64 xl) (.int .i64 xh)
          have HBF := Lib.hid (((HBB.out.setCell (p := ⟨w.heap.size, 0, none⟩) (Nat.le_refl _) (.int .i64 xu)).setCell (p := ⟨w.heap.size, 1, none⟩) (Nat.le_refl _) (.int .i64 xl)).setCell (p := ⟨w.heap.size, 2, none⟩) (Nat.le_refl _) (.int .i64 xh))
          have HQ0 := Lib.hid q0; have HQ1 := Lib.hid q1; have HQ2 := Lib.hid q2
          clear q0 q1 q2
          clear v1
          go_wp2_with fail
          have q0 := HQ0.out; have q1 := HQ1.out; have q2 := HQ2.out
          exact bodyPost_ret (v := .tuple #[.agg #[.int .i64 xu, .int .i64 xl, .int .i64 xh], .bool false]) (by simp [results, Tryz.results112, go_sem, q0, q1, q2]) rfl ⟨by rw [HROW.out], HBF.out⟩
        · clear v1
          have HNU := Lib.hid hu
          go_wp2_with fail
          refine ⟨⟨k + 1, by omega, by go_num, fun j y hj hy => ?_, HBB.out, HV1.out, HV2.out⟩, by simp [intOf]; omega⟩
          by_cases hjk : j < k
          · exact HALL.out j y hjk hy
          · have : j = k := by omega
            subst this
            have hx := HX.out
            rw [hy] at hx
            cases hx
            have := HNU.out
            show ¬ N ≤ xu
            omega
      · have hke : k = nr := by omega
        have hk1 : ¬ (k : Int) < (nr : Int) := by omega
        have HROW : Hid (rowI rs C l = (⟨u, lo, hi⟩, true)) := Lib.hid (by
          rw [HNE.out, find_no (fun j y hy => decide_eq_false (HALL.out j y (by have := (List.getElem?_eq_some_iff.1 hy).1; rw [HR.out] at this; omega) hy)), HLAST.out])
        have f0 := box3_frozen y1 0
        have f1 := box3_frozen y1 1
        have f2 := box3_frozen y1 2
        obtain ⟨a0, a1, a2⟩ := box3_cells y1
        obtain ⟨q0, q1, q2⟩ := set3 y1 (.int .i64 u) (.int .i64 lo) (.int .i64 hi)
        have HBF := Lib.hid (((HBR.out.setCell (p := ⟨w.heap.size, 0, none⟩) (Nat.le_refl _) (.int .i64 u)).setCell (p := ⟨w.heap.size, 1, none⟩) (Nat.le_refl _) (.int .i64 lo)).setCell (p := ⟨w.heap.size, 2, none⟩) (Nat.le_refl _) (.int .i64 hi))
        have HQ0 := Lib.hid q0; have HQ1 := Lib.hid q1; have HQ2 := Lib.hid q2
        clear q0 q1 q2
        obtain ⟨l0, l1, l2⟩ := box3_cells y2
        clear y1 y2 hbr
        go_wp2_with fail
        have q0 := HQ0.out; have q1 := HQ1.out; have q2 := HQ2.out
        exact bodyPost_ret (v := .tuple #[.agg #[.int .i64 u, .int .i64 lo, .int .i64 hi], .bool true]) (by simp [results, Tryz.results112, go_sem, q0, q1, q2]) rfl ⟨by rw [HROW.out], HBF.out⟩
end Go.Proofs.YtdlaphlpimlgdaaGreatDoor
/- Which lists are short, as the statements ask it. -/
namespace Go.Proofs.YtdlaphlpimlgdaaGreatDoor
open Go.RowKit

def shortB (np nq nr : Nat) (ts : List (List Sp)) : Bool := (ts.take 20).all (fun r => decide (r.length ≤ 10)) && decide (np ≤ 10) && decide (nq ≤ 15) && decide (nr ≤ 10) && decide (ts.length ≤ 15)
set_option maxRecDepth 100000 in
set_option maxHeartbeats 4000000 in
theorem short_any (AP AQ AR A : Option Addr) (np cp nq cq nr cr n c : Nat) (may sink tilt : Int) (ts : List (List Sp)) (w : World) (hp2 : np ≤ maxLen) (hq2 : nq ≤ maxLen) (hr2 : nr ≤ maxLen) (hl : ts.length = n) (hn : n ≤ maxLen) (hT : SpsAt w w.heap.size A ts) :
    Calls Tryz.prog 18 #[.agg #[.slice AP np cp, .slice AQ nq cq, .slice AR nr cr, .int .i64 may, .int .i64 sink, .int .i64 tilt], .slice A n c] w fun e w' => e = .returned (.bool (shortB np nq nr ts)) ∧ Below w.heap.size w w' := by
  have HL := Lib.hid hl
  have HT := Lib.hid hT
  unfold maxLen at hn hp2 hq2 hr2
  have HCI : Hid (shortB np nq nr ts = ((ts.take 20).all (fun r => decide (r.length ≤ 10)) && decide (np ≤ 10) && decide (nq ≤ 15) && decide (nr ≤ 10) && decide (n ≤ 15))) := Lib.hid (by rw [← hl]; rfl)
  have hb0 := (Below.refl w.heap.size w).alloc (Nat.le_refl _) (.cells #[.slice AP np cp, .slice AQ nq cq, .slice AR nr cr, .int .i64 may, .int .i64 sink, .int .i64 tilt] 26)
  have z0 := heap_alloc_new w (.cells #[.slice AP np cp, .slice AQ nq cq, .slice AR nr cr, .int .i64 may, .int .i64 sink, .int .i64 tilt] 26)
  obtain ⟨W, hW⟩ : ∃ z, w.alloc (.cells #[.slice AP np cp, .slice AQ nq cq, .slice AR nr cr, .int .i64 may, .int .i64 sink, .int .i64 tilt] 26) = z := ⟨_, rfl⟩
  rw [hW] at hb0 z0
  have HB0 := Lib.hid hb0
  obtain ⟨s0, s1, s2, s3, s4, s5⟩ := site_box z0
  clear hl hT z0 hb0
  go_enter Tryz.func18, Tryz.ntmps18
  go_wp2_with fail
  go_loopw [5] (fun i wr => ∃ k : Nat, k ≤ n ∧ k ≤ 20 ∧ i = .int .i64 k ∧ (ts.take k).all (fun r => decide (r.length ≤ 10)) = true ∧ wr = W) (fun i _ => n - (intOf i).toNat)
  case atStart => exact ⟨0, Nat.zero_le _, Nat.zero_le _, rfl, by simp, rfl⟩
  case round =>
    obtain ⟨k, hk, hk20, rfl, hall, rfl⟩ := hrel
    have HALL := Lib.hid hall
    clear hall
    by_cases hlt : k < n
    · by_cases hlt2 : k < 20
      · obtain ⟨x, hx⟩ := get_of_lt (l := ts) (k := k) (by rw [HL.out]; exact hlt)
        obtain ⟨b, o, rfl, hb, hcs⟩ := HT.out (by intro h; rw [h] at hx; simp at hx)
        obtain ⟨A', c', e1, e2, e3, e4⟩ := hcs k x hx
        have c0 := ((bcell HB0.out).1 _ _ hb).trans e1
        have HX := Lib.hid hx
        obtain ⟨m, hm⟩ : ∃ m, x.length = m := ⟨_, rfl⟩
        rw [hm] at c0 e3
        unfold maxLen at e3
        have HM := Lib.hid hm
        have hk0 : (0 : Int) ≤ (k : Int) := by omega
        have hk1 : (k : Int) < (n : Int) := by omega
        have hk2 : (k : Int) < 20 := by omega
        clear hx hcs hb e1 e2 hm
        by_cases h10 : (10 : Int) < (m : Int)
        · have HF : Hid (shortB np nq nr ts = false) := Lib.hid (by
            rw [HCI.out, all_no (xs := ts.take 20) (k := k) (x := x) (by rw [List.getElem?_take, if_pos hlt2, HX.out]) (decide_eq_false (by rw [HM.out]; omega))]; rfl)
          go_wp2_with fail
          go_ret
          exact ⟨by rw [HF.out]; rfl, HB0.out⟩
        · have HF := Lib.hid (take_all (f := fun r : List Sp => decide (r.length ≤ 10)) HX.out HALL.out (decide_eq_true (by rw [HM.out]; omega)))
          go_wp2_with fail
          exact ⟨⟨k + 1, by omega, by omega, by go_num, HF.out, trivial⟩, by simp [intOf]; omega⟩
      · have hke : k = 20 := by omega
        have hk1 : (k : Int) < (n : Int) := by omega
        have hk2 : ¬ (k : Int) < 20 := by omega
        have HF : Hid (shortB np nq nr ts = false) := Lib.hid (by rw [HCI.out, decide_eq_false (show ¬ n ≤ 15 by omega)]; simp)
        have hn15 : ¬ (n : Int) ≤ 15 := by omega
        by_cases t0 : (np : Int) ≤ 10
        · skip
          by_cases t1 : (nq : Int) ≤ 15
          · skip
            by_cases t2 : (nr : Int) ≤ 10
            · skip
              go_wp2_with fail
              go_ret
              exact ⟨by rw [HF.out]; rfl, HB0.out⟩
            · skip
              go_wp2_with fail
              go_ret
              exact ⟨by rw [HF.out]; rfl, HB0.out⟩
          · skip
            go_wp2_with fail
            go_ret
            exact ⟨by rw [HF.out]; rfl, HB0.out⟩
        · skip
          go_wp2_with fail
          go_ret
          exact ⟨by rw [HF.out]; rfl, HB0.out⟩
    · have hke : k = n := by omega
      have hk1 : ¬ (k : Int) < (n : Int) := by omega
      have HC2 : Hid (shortB np nq nr ts = (decide (np ≤ 10) && decide (nq ≤ 15) && decide (nr ≤ 10) && decide (n ≤ 15))) := Lib.hid (by
        have : (ts.take 20).all (fun r => decide (r.length ≤ 10)) = true := by
          have := HALL.out
          rw [List.take_of_length_le (by rw [HL.out]; omega)] at this ⊢
          exact this
        rw [HCI.out, this, Bool.true_and])
      by_cases t0 : (np : Int) ≤ 10
      · skip
        by_cases t1 : (nq : Int) ≤ 15
        · skip
          by_cases t2 : (nr : Int) ≤ 10
          · skip
            by_cases t3 : (n : Int) ≤ 15
            · skip
              have HF : Hid (shortB np nq nr ts = true) := Lib.hid (HC2.out.trans (by rw [decide_eq_true (show np ≤ 10 by omega), decide_eq_true (show nq ≤ 15 by omega), decide_eq_true (show nr ≤ 10 by omega), decide_eq_true (show n ≤ 15 by omega)]; rfl))
              go_wp2_with fail
              go_ret
              exact ⟨by rw [HF.out]; rfl, HB0.out⟩
            · skip
              have HF : Hid (shortB np nq nr ts = false) := Lib.hid (HC2.out.trans (by rw [decide_eq_false (show ¬ n ≤ 15 by omega)]; simp))
              go_wp2_with fail
              go_ret
              exact ⟨by rw [HF.out]; rfl, HB0.out⟩
          · skip
            have HF : Hid (shortB np nq nr ts = false) := Lib.hid (HC2.out.trans (by rw [decide_eq_false (show ¬ nr ≤ 10 by omega)]; simp))
            go_wp2_with fail
            go_ret
            exact ⟨by rw [HF.out]; rfl, HB0.out⟩
        · skip
          have HF : Hid (shortB np nq nr ts = false) := Lib.hid (HC2.out.trans (by rw [decide_eq_false (show ¬ nq ≤ 15 by omega)]; simp))
          go_wp2_with fail
          go_ret
          exact ⟨by rw [HF.out]; rfl, HB0.out⟩
      · skip
        have HF : Hid (shortB np nq nr ts = false) := Lib.hid (HC2.out.trans (by rw [decide_eq_false (show ¬ np ≤ 10 by omega)]; simp))
        go_wp2_with fail
        go_ret
        exact ⟨by rw [HF.out]; rfl, HB0.out⟩
end Go.Proofs.YtdlaphlpimlgdaaGreatDoor
