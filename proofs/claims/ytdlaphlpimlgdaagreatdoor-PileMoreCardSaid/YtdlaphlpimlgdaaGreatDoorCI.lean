/- What can be wrong in a year, as the specification has it: whether a pile loses too much, and whether it fails. -/
import Derived.Test.YtdlaphlpimlgdaaGreatDoorCH
namespace Go.Proofs.YtdlaphlpimlgdaaGreatDoor
open Go.RowKit

def loseI (may : Int) (p : Pil) (t : Int) : Bool := decide (1000 * carI p t < p.g * (1000 - may))
set_option maxRecDepth 100000 in
set_option maxHeartbeats 2000000 in
theorem refLoses_any (AP AQ AR : Option Addr) (np cp nq cq nr cr : Nat) (may sink tilt : Int) (p : Pil) (t : Int) (w : World) (hB : pilB p = true) (ht : 0 ≤ t ∧ t ≤ 50000) (hm : 0 ≤ may ∧ may ≤ 1000) :
    Calls Tryz.prog 42 #[.agg #[.slice AP np cp, .slice AQ nq cq, .slice AR nr cr, .int .i64 may, .int .i64 sink, .int .i64 tilt], pilV p, .int .i64 t] w fun e w' => e = .returned (.bool (loseI may p t)) ∧ Below w.heap.size w w' := by
  obtain ⟨z0, z1, hb0⟩ := two_boxes w (.cells #[.slice AP np cp, .slice AQ nq cq, .slice AR nr cr, .int .i64 may, .int .i64 sink, .int .i64 tilt] 26) (.cells #[.int .i64 p.d, .int .i64 p.p, .int .i64 p.s, .int .i64 p.l, .int .i64 p.h, .int .i64 p.g, .int .i64 p.c] 45)
  obtain ⟨w1, hw1⟩ : ∃ z, (w.alloc (.cells #[.slice AP np cp, .slice AQ nq cq, .slice AR nr cr, .int .i64 may, .int .i64 sink, .int .i64 tilt] 26)).alloc (.cells #[.int .i64 p.d, .int .i64 p.p, .int .i64 p.s, .int .i64 p.l, .int .i64 p.h, .int .i64 p.g, .int .i64 p.c] 45) = z := ⟨_, rfl⟩
  rw [hw1] at z0 z1 hb0
  have HB1 := Lib.hid hb0
  have HC := Lib.hid fun u : KeptW w1 => Calls.in_kept u (refCarries_any p t u.w hB ht.1 ht.2)
  have hcb := carI_b hB ht.1
  have hgb := (pilB_iff.1 hB).2.2.2.2.1
  have hpr := mul_bd hgb.1 hgb.2 (show 0 ≤ 1000 - may by omega) (show 1000 - may ≤ 1000 by omega)
  have e0 := fun u : KeptW w1 => site_box ((u.h.block _ (heapsz z0)).trans z0)
  have e1 := fun u : KeptW w1 => pil_box ((u.h.block _ (heapsz z1)).trans z1)
  have s3 := fun u => (e0 u).2.2.2.1
  have p0 := fun u => (e1 u).1; have p1 := fun u => (e1 u).2.1; have p2 := fun u => (e1 u).2.2.1; have p3 := fun u => (e1 u).2.2.2.1; have p4 := fun u => (e1 u).2.2.2.2.1; have p5 := fun u => (e1 u).2.2.2.2.2.1; have p6 := fun u => (e1 u).2.2.2.2.2.2
  have HJ : Hid (loseI may p t = decide (1000 * carI p t < wrap64 (p.g * (1000 - may)))) := Lib.hid (by unfold loseI; rw [w64 (by omega)])
  obtain ⟨C, hC⟩ : ∃ z, carI p t = z := ⟨_, rfl⟩
  obtain ⟨B, hBB⟩ : ∃ z, loseI may p t = z := ⟨_, rfl⟩
  rw [hC] at HJ HC hcb
  rw [hBB] at HJ ⊢
  obtain ⟨pd, pp, ps, pl, ph, pg, pc⟩ := p
  simp only at HJ HC p0 p1 p2 p3 p4 p5 p6 hw1
  have v1 : Value.int .i64 (wrap64 (1000 * C)) = Value.int .i64 (1000 * C) := by congr 1; exact w64 (by omega)
  have v2 : Value.int .i64 (wrap64 (1000 - may)) = Value.int .i64 (1000 - may) := by congr 1; exact w64 (by omega)
  clear hC hBB e0 e1 z0 z1 hb0 hB ht hpr hgb
  go_enter Tryz.func42, Tryz.ntmps42
  go_wp2_with fail
  refine rk_region (by kernel_rfl) (by kernel_rfl) ?_
  repeat (go_big_quiet_step (first | (with_reducible exact HC.out _) | fail))
  refine wpQuiet_nil ?_
  rintro _ ⟨u, rfl⟩
  go_wp2_with fail
  go_ret
  exact ⟨by rw [HJ.out]; rfl, HB1.out.trans (u.h.mono HB1.out.size)⟩
theorem fails_iff {rs : List Rw} (h : rwsGo ⟨-1, 0, 0⟩ rs = true) (h1 : 1 ≤ rs.length) {C l : Int} (hC : C ≠ 0) : (rowI rs C l).2 = decide ((lastR rs).u < useI C l) := by
  unfold rowI
  rw [if_neg hC]
  cases hf : rs.find? (fun r => decide (useI C l ≤ r.u)) with
  | none =>
    have := List.find?_eq_none.1 hf (lastR rs) (List.mem_of_getElem? (last_at h1))
    simp only [decide_eq_true_eq] at this
    exact (decide_eq_true (by omega)).symm
  | some r =>
    obtain ⟨k, hk⟩ := List.mem_iff_getElem?.1 (List.mem_of_find?_eq_some hf)
    have hr := List.find?_some hf
    simp only [decide_eq_true_eq] at hr
    have hkl := (List.getElem?_eq_some_iff.1 hk).1
    have := rows_le h (show k ≤ rs.length - 1 by omega) hk (last_at h1)
    exact (decide_eq_false (by omega)).symm
set_option maxRecDepth 100000 in
set_option maxHeartbeats 2000000 in
theorem refFails_any (AP AQ AR : Option Addr) (np cp nq cq nr cr : Nat) (rs : List Rw) (may sink tilt : Int) (p : Pil) (t l : Int) (w : World)
    (hr : rs.length = nr) (hr0 : 1 ≤ nr) (hr2 : nr ≤ maxLen) (hgo : rwsGo ⟨-1, 0, 0⟩ rs = true) (hR : RwsAt w w.heap.size AR rs) (hB : pilB p = true) (ht : 0 ≤ t ∧ t ≤ 50000) (hl : 0 ≤ l ∧ l ≤ 100000) :
    Calls Tryz.prog 43 #[.agg #[.slice AP np cp, .slice AQ nq cq, .slice AR nr cr, .int .i64 may, .int .i64 sink, .int .i64 tilt], pilV p, .int .i64 t, .int .i64 l] w fun e w' => e = .returned (.bool (rowI rs (carI p t) l).2) ∧ Below w.heap.size w w' := by
  unfold maxLen at hr2
  have hC := carI_b hB ht.1
  have HCAR := Lib.hid (fun u => refCarries_any p t u hB ht.1 ht.2)
  have H0 : Hid (carI p t = 0 → (rowI rs (carI p t) l).2 = true) := Lib.hid fun h => by unfold rowI; rw [if_pos h]
  have H1 : Hid (carI p t ≠ 0 → (rowI rs (carI p t) l).2 = decide ((lastR rs).u < (1000 * l + carI p t - 1) / carI p t)) := Lib.hid fun h => fails_iff hgo (by omega) h
  have hla := last_at (rs := rs) (by omega)
  obtain ⟨b, o, rfl, hb, hcs⟩ := rw_cells hR (by intro e; rw [e] at hr; simp at hr; omega)
  have c0 := (hcs _ _ hla).1
  rw [hr] at c0
  obtain ⟨C, eC⟩ : ∃ z, carI p t = z := ⟨_, rfl⟩
  obtain ⟨F, eF⟩ : ∃ z, (rowI rs (carI p t) l).2 = z := ⟨_, rfl⟩
  rw [eF] at H0 H1 ⊢
  simp only [eC] at HCAR hC H0 H1
  obtain ⟨U, eU⟩ : ∃ z, (lastR rs).u = z := ⟨_, rfl⟩
  rw [eU] at H1 c0
  obtain ⟨j, ej⟩ : ∃ j, nr = j + 1 := ⟨nr - 1, by omega⟩
  subst ej
  rw [Nat.add_sub_cancel] at c0
  obtain ⟨pd, pp, ps, pl, ph, pg, pc⟩ := p
  obtain ⟨z0, z1, hb0⟩ := two_boxes w (.cells #[.slice AP np cp, .slice AQ nq cq, .slice (some ⟨b, o, none⟩) (j + 1) cr, .int .i64 may, .int .i64 sink, .int .i64 tilt] 26) (.cells #[.int .i64 pd, .int .i64 pp, .int .i64 ps, .int .i64 pl, .int .i64 ph, .int .i64 pg, .int .i64 pc] 45)
  obtain ⟨w1, hw1⟩ : ∃ z, (w.alloc (.cells #[.slice AP np cp, .slice AQ nq cq, .slice (some ⟨b, o, none⟩) (j + 1) cr, .int .i64 may, .int .i64 sink, .int .i64 tilt] 26)).alloc (.cells #[.int .i64 pd, .int .i64 pp, .int .i64 ps, .int .i64 pl, .int .i64 ph, .int .i64 pg, .int .i64 pc] 45) = z := ⟨_, rfl⟩
  rw [hw1] at z0 z1 hb0
  have Z0 := Lib.hid z0; have HB1 := Lib.hid hb0; have C0 := Lib.hid c0; have LB := Lib.hid hb
  obtain ⟨p0, p1, p2, p3, p4, p5, p6⟩ := pil_box z1
  clear hr hR hB ht eC eF eU hla hcs c0 z0 z1 hb0 hgo hb hr0
  go_enter Tryz.func43, Tryz.ntmps43
  go_wp2_with fail
  refine (HCAR.out w1).mono ?_
  rintro e w2 ⟨rfl, hb2⟩
  have HB2 := Lib.hid (HB1.out.trans (hb2.mono HB1.out.size))
  have Y0 := Lib.hid ((hb2.block _ (heapsz Z0.out)).trans Z0.out)
  clear hb2 p0 p1 p2 p3 p4 p5 p6 hw1 Z0
  have v0 : ∀ q : KeptW w2, q.w.cell? ⟨w.heap.size, 2, none⟩ = some (.slice (some ⟨b, o, none⟩) (j + 1) cr) := fun q => (site_box ((q.h.block _ (heapsz Y0.out)).trans Y0.out)).2.2.1
  have m0 : ∀ q : KeptW w2, q.w.cell? ⟨b, o + j * 3, none⟩ = some (.int .i64 U) := fun q => ((bcell (HB2.out.trans (q.h.mono HB2.out.size))).1 _ _ LB.out).trans C0.out
  have j0 : (0 : Int) ≤ (j : Int) := by omega
  by_cases hc0 : C = 0
  · subst hc0
    have HF := Lib.hid (H0.out rfl)
    go_wp2_with fail
    refine rk_region (by kernel_rfl) (by kernel_rfl) ?_
    repeat (go_big_quiet_step (fail))
    refine wpQuiet_nil ?_
    rintro _ ⟨u, rfl⟩
    go_wp2_with fail
    go_ret
    exact ⟨by rw [HF.out]; rfl, HB2.out.trans (u.h.mono HB2.out.size)⟩
  · have HF := Lib.hid (H1.out hc0)
    have hcne : (C == 0) = false := beq_eq_false_iff_ne.2 hc0
    have hcpos : 0 < C := by omega
    go_wp2_with fail
    have v1 : Value.int .i64 (wrap64 ((j : Int) + 1 - 1)) = Value.int .i64 (j : Int) := by congr 1; rw [w64 (by omega)]; omega
    refine rk_region (by kernel_rfl) (by kernel_rfl) ?_
    repeat (go_big_quiet_step (fail))
    refine wpQuiet_nil ?_
    rintro _ ⟨u, rfl⟩
    go_wp2_with fail
    go_ret
    exact ⟨by rw [HF.out]; rfl, HB2.out.trans (u.h.mono HB2.out.size)⟩
end Go.Proofs.YtdlaphlpimlgdaaGreatDoor
