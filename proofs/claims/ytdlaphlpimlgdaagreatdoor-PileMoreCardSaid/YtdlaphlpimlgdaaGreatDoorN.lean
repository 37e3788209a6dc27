/- The statement's test of sites. -/
import Derived.Test.YtdlaphlpimlgdaaGreatDoorM
namespace Go.Proofs.YtdlaphlpimlgdaaGreatDoor
open Go.RowKit

theorem rw_low {xs : List Rw} {k : Nat} (hk : k ≤ xs.length) (h : ∀ j x, j < k → xs[j]? = some x → rwB (rwBefore xs j) x = true) : ∀ j, j ≤ k → 0 < j → 0 ≤ (rwBefore xs j).u
  | 0, _, h => absurd h (by decide)
  | j + 1, hj, _ => by
    have hx : xs[j]? = some xs[j] := List.getElem?_eq_getElem (by omega)
    have h2 := h j _ (by omega) hx
    have h3 := (rw_bd hk h j (by omega)).1
    rw [rwBefore_succ hx]
    unfold rwB at h2
    simp only [Bool.and_eq_true, inB_iff] at h2
    omega
/-- What the statement asks of a row, and of the one before it. -/
def rwR1 (u lo hi : Int) : Bool := inB 0 u 5000 && decide (¬ lo < 0) && decide (¬ hi < lo) && decide (¬ 1000 < hi)
theorem rwB_first {u lo hi : Int} : rwB ⟨-1, 0, 0⟩ ⟨u, lo, hi⟩ = rwR1 u lo hi := by
  unfold rwB rwR1
  rw [Bool.eq_iff_iff]
  simp only [Bool.and_eq_true, inB_iff, withinB_iff, decide_eq_true_eq]
  omega
theorem rwB_next {U L H u lo hi : Int} (hU : 0 ≤ U) : rwB ⟨U, L, H⟩ ⟨u, lo, hi⟩ = (rwR1 u lo hi && (decide (¬ u ≤ U) && decide (¬ lo < L) && decide (¬ hi < H))) := by
  unfold rwB rwR1
  rw [Bool.eq_iff_iff]
  simp only [Bool.and_eq_true, inB_iff, withinB_iff, decide_eq_true_eq]
  omega
theorem rwB_R1 {xs : List Rw} {k : Nat} (hk : k ≤ xs.length) (h : ∀ j x, j < k → xs[j]? = some x → rwB (rwBefore xs j) x = true) {u lo hi : Int} (hr : rwR1 u lo hi = false) : rwB (rwBefore xs k) ⟨u, lo, hi⟩ = false := by
  by_cases hk0 : k = 0
  · subst hk0
    exact rwB_first.trans hr
  · have := rw_low hk h k (Nat.le_refl _) (by omega)
    rw [show rwBefore xs k = ⟨(rwBefore xs k).u, (rwBefore xs k).lo, (rwBefore xs k).hi⟩ from rfl, rwB_next this, hr]
    rfl
set_option maxRecDepth 100000 in
set_option maxHeartbeats 8000000 in
theorem refSite_any (AP AQ AR : Option Addr) (np cp nq cq nr cr : Nat) (ps : List Pil) (qs : List (Int × Int)) (rs : List Rw) (may sink tilt : Int) (w : World) (hp : ps.length = np) (hp2 : np ≤ maxLen) (hP : PilsAt w w.heap.size AP ps)
    (hq : qs.length = nq) (hq2 : nq ≤ maxLen) (hQ : PrsAt w w.heap.size AQ qs) (hr : rs.length = nr) (hr2 : nr ≤ maxLen) (hR : RwsAt w w.heap.size AR rs) :
    Calls Tryz.prog 23 #[.agg #[.slice AP np cp, .slice AQ nq cq, .slice AR nr cr, .int .i64 may, .int .i64 sink, .int .i64 tilt]] w fun e w' => e = .returned (.bool (sitB ⟨ps, qs, rs, may, sink, tilt⟩)) ∧ Below w.heap.size w w' := by
  have HP := Lib.hid hp; have HQ := Lib.hid hq; have HR := Lib.hid hr
  have HPA := Lib.hid hP; have HQA := Lib.hid hQ; have HRA := Lib.hid hR
  unfold maxLen at hp2 hq2 hr2
  have HCI : Hid (sitB ⟨ps, qs, rs, may, sink, tilt⟩ = (inB 1 (np : Int) 6 && ps.all pilB && (decide ((nq : Int) ≤ 10) && qs.all (prB (np : Int))) && (inB 1 (nr : Int) 6 && rwsGo ⟨-1, 0, 0⟩ rs) && inB 0 may 1000 && inB 0 sink 100000 && inB 0 tilt 100000)) := Lib.hid (by rw [← hp, ← hq, ← hr]; rfl)
  have NO1 : Hid (ps.all pilB = false → sitB ⟨ps, qs, rs, may, sink, tilt⟩ = false) := Lib.hid (fun h => by rw [HCI.out, h]; simp)
  have NO2 : Hid (qs.all (prB (np : Int)) = false → sitB ⟨ps, qs, rs, may, sink, tilt⟩ = false) := Lib.hid (fun h => by rw [HCI.out, h]; simp)
  have NO3 : Hid (rwsGo ⟨-1, 0, 0⟩ rs = false → sitB ⟨ps, qs, rs, may, sink, tilt⟩ = false) := Lib.hid (fun h => by rw [HCI.out, h]; simp)
  have hb0 := (Below.refl w.heap.size w).alloc (Nat.le_refl _) (.cells #[.slice AP np cp, .slice AQ nq cq, .slice AR nr cr, .int .i64 may, .int .i64 sink, .int .i64 tilt] 26)
  have z0 := heap_alloc_new w (.cells #[.slice AP np cp, .slice AQ nq cq, .slice AR nr cr, .int .i64 may, .int .i64 sink, .int .i64 tilt] 26)
  clear hp hq hr hP hQ hR
  go_enter Tryz.func23, Tryz.ntmps23
  go_wp2_with fail
  go_loopw [3] (fun i wr => ∃ k : Nat, k ≤ np ∧ i = .int .i64 k ∧ (ps.take k).all pilB = true ∧ Below w.heap.size w wr ∧ wr.heap[w.heap.size]? = some (.cells #[.slice AP np cp, .slice AQ nq cq, .slice AR nr cr, .int .i64 may, .int .i64 sink, .int .i64 tilt] 26 (0, 0))) (fun i _ => np - (intOf i).toNat)
  case atStart => exact ⟨0, Nat.zero_le _, rfl, by simp, hb0, z0⟩
  case round =>
    obtain ⟨k, hk, rfl, hall, hbr, hz⟩ := hrel
    have HALL := Lib.hid hall; have HBR := Lib.hid hbr; have HZ := Lib.hid hz
    obtain ⟨s0, s1, s2, s3, s4, s5⟩ := site_box hz
    clear hall
    by_cases hlt : k < np
    · obtain ⟨x, hx⟩ := get_of_lt (l := ps) (k := k) (by rw [HP.out]; exact hlt)
      obtain ⟨b, o, rfl, hb, hcs⟩ := pil_cells HPA.out (by intro h; rw [h] at hx; simp at hx)
      obtain ⟨c0, c1, c2, c3, c4, c5, c6⟩ := hcs k x hx
      replace c0 := ((bcell hbr).1 _ _ hb).trans c0
      replace c1 := ((bcell hbr).1 _ _ hb).trans c1
      replace c2 := ((bcell hbr).1 _ _ hb).trans c2
      replace c3 := ((bcell hbr).1 _ _ hb).trans c3
      replace c4 := ((bcell hbr).1 _ _ hb).trans c4
      replace c5 := ((bcell hbr).1 _ _ hb).trans c5
      replace c6 := ((bcell hbr).1 _ _ hb).trans c6
      have HX := Lib.hid hx
      have hk0 : (0 : Int) ≤ (k : Int) := by omega
      have hk1 : (k : Int) < (np : Int) := by omega
      clear hx hcs hbr hz hb s1 s2 s3 s4 s5
      go_wp2_with fail
      refine (refPile_any x _).mono ?_
      rintro e w2 ⟨rfl, hb2⟩
      have HB2 := Lib.hid (HBR.out.trans (hb2.mono HBR.out.size))
      have Z2 := Lib.hid ((hb2.block _ (heapsz HZ.out)).trans HZ.out)
      clear hb2 c0 c1 c2 c3 c4 c5 c6 s0
      cases hf : pilB x with
      | false =>
        go_wp2_with fail
        go_ret
        exact ⟨by rw [NO1.out (all_no HX.out hf)]; rfl, HB2.out⟩
      | true =>
        go_wp2_with fail
        exact ⟨⟨k + 1, by omega, by go_num, take_all HX.out HALL.out hf, HB2.out, Z2.out⟩, by simp [intOf]; omega⟩
    · have hke : k = np := by omega
      have hk1 : ¬ (k : Int) < (np : Int) := by omega
      have HFP : Hid (ps.all pilB = true) := Lib.hid (by
        have := HALL.out
        rw [List.take_of_length_le (by rw [HP.out]; omega)] at this
        exact this)
      clear hbr hz s1 s2 s3 s4 s5
      go_wp2_with fail
      clear s0
      go_loopw [4] (fun i wq => ∃ k : Nat, k ≤ nq ∧ i = .int .i64 k ∧ (qs.take k).all (prB (np : Int)) = true ∧ Below w.heap.size w wq ∧ wq.heap[w.heap.size]? = some (.cells #[.slice AP np cp, .slice AQ nq cq, .slice AR nr cr, .int .i64 may, .int .i64 sink, .int .i64 tilt] 26 (0, 0))) (fun i _ => nq - (intOf i).toNat)
      case atStart => exact ⟨0, Nat.zero_le _, rfl, by simp, HBR.out, HZ.out⟩
      case round =>
        clear HALL HBR HZ hk hlt hke hk1
        obtain ⟨k, hk, rfl, hall, hbr, hz⟩ := hrel
        have HALL := Lib.hid hall; have HBR := Lib.hid hbr; have HZ := Lib.hid hz
        obtain ⟨s0, s1, s2, s3, s4, s5⟩ := site_box hz
        clear hall
        by_cases hlt : k < nq
        · obtain ⟨x, hx⟩ := get_of_lt (l := qs) (k := k) (by rw [HQ.out]; exact hlt)
          obtain ⟨b, o, rfl, hb, hcs⟩ := pr_cells HQA.out (by intro h; rw [h] at hx; simp at hx)
          obtain ⟨c0, c1⟩ := hcs k x hx
          replace c0 := ((bcell hbr).1 _ _ hb).trans c0
          replace c1 := ((bcell hbr).1 _ _ hb).trans c1
          have HX := Lib.hid hx
          obtain ⟨u, v⟩ := x
          simp only at c0 c1
          have hpx : Hid (prB (np : Int) (u, v) = (inB 0 u ((np : Int) - 1) && inB 0 v ((np : Int) - 1) && decide (u ≠ v))) := Lib.hid rfl
          obtain ⟨wB, hwB⟩ : ∃ z, wr.alloc (.cells #[.int .i64 u, .int .i64 v] 74) = z := ⟨_, rfl⟩
          have zB := heap_alloc_new wr (.cells #[.int .i64 u, .int .i64 v] 74)
          have hbB : Below wr.heap.size wr wB := by rw [← hwB]; exact (Below.refl _ _).alloc (Nat.le_refl _) _
          rw [hwB] at zB
          have HBB := Lib.hid (HBR.out.trans (hbB.mono HBR.out.size))
          have hzB := (hbB.block _ (heapsz hz)).trans hz
          have HZB := Lib.hid hzB
          have g0 := (site_box hzB).1
          have r0 := cell_of_row wB wr.heap.size 0 _ 74 (0, 0) zB
          have r1 := cell_of_row wB wr.heap.size 1 _ 74 (0, 0) zB
          simp at r0 r1
          have hm1 : Value.int .i64 (wrap64 ((np : Int) - 1)) = Value.int .i64 ((np : Int) - 1) := by congr 1; exact w64 (by omega)
          have hk0 : (0 : Int) ≤ (k : Int) := by omega
          have hk1 : (k : Int) < (nq : Int) := by omega
          clear hx hcs hbr hz hb s0 s2 s3 s4 s5 zB hbB hzB
          cases q1 : inB 0 u ((np : Int) - 1) with
          | false =>
            have HF := Lib.hid (NO2.out (all_no HX.out (by rw [hpx.out, q1]; rfl)))
            go_wp2_with (first | (go_at_call 74; refine (in_any _ _ _ _).mono ?_; rintro e w' ⟨rfl, rfl⟩) | fail)
            go_ret
            exact ⟨by rw [HF.out]; rfl, HBB.out⟩
          | true =>
            cases q2 : inB 0 v ((np : Int) - 1) with
            | false =>
              have HF := Lib.hid (NO2.out (all_no HX.out (by rw [hpx.out, q1, q2]; rfl)))
              go_wp2_with (first | (go_at_call 74; refine (in_any _ _ _ _).mono ?_; rintro e w' ⟨rfl, rfl⟩) | fail)
              go_ret
              exact ⟨by rw [HF.out]; rfl, HBB.out⟩
            | true =>
              by_cases q3 : u = v
              · have HF := Lib.hid (NO2.out (all_no HX.out (by rw [hpx.out, decide_eq_false (fun h => h q3)]; simp)))
                subst q3
                go_wp2_with (first | (go_at_call 74; refine (in_any _ _ _ _).mono ?_; rintro e w' ⟨rfl, rfl⟩) | fail)
                go_ret
                exact ⟨by rw [HF.out]; rfl, HBB.out⟩
              · have HF : Hid (prB (np : Int) (u, v) = true) := Lib.hid (by rw [hpx.out, q1, q2]; simpa using q3)
                go_wp2_with (first | (go_at_call 74; refine (in_any _ _ _ _).mono ?_; rintro e w' ⟨rfl, rfl⟩) | fail)
                exact ⟨⟨k + 1, by omega, by go_num, take_all HX.out HALL.out HF.out, HBB.out, HZB.out⟩, by simp [intOf]; omega⟩
        · have hke : k = nq := by omega
          have hk1 : ¬ (k : Int) < (nq : Int) := by omega
          have HFQ : Hid (qs.all (prB (np : Int)) = true) := Lib.hid (by
            have := HALL.out
            rw [List.take_of_length_le (by rw [HQ.out]; omega)] at this
            exact this)
          clear hbr hz s0 s2 s3 s4 s5
          go_wp2_with fail
          clear s1
          go_loopw [6] (fun i wq => ∃ k : Nat, k ≤ nr ∧ i = .int .i64 k ∧ (∀ j x, j < k → rs[j]? = some x → rwB (rwBefore rs j) x = true) ∧ Below w.heap.size w wq ∧ wq.heap[w.heap.size]? = some (.cells #[.slice AP np cp, .slice AQ nq cq, .slice AR nr cr, .int .i64 may, .int .i64 sink, .int .i64 tilt] 26 (0, 0))) (fun i _ => nr - (intOf i).toNat)
          case atStart => exact ⟨0, Nat.zero_le _, rfl, fun j x hj => absurd hj (Nat.not_lt_zero _), HBR.out, HZ.out⟩
          case round =>
            clear HALL HBR HZ hk hlt hke hk1
            obtain ⟨k, hk, rfl, hall, hbr, hz⟩ := hrel
            have HALL := Lib.hid hall; have HBR := Lib.hid hbr; have HZ := Lib.hid hz
            obtain ⟨s0, s1, s2, s3, s4, s5⟩ := site_box hz
            clear hall
            by_cases hlt : k < nr
            · obtain ⟨x, hx⟩ := get_of_lt (l := rs) (k := k) (by rw [HR.out]; exact hlt)
              obtain ⟨b, o, rfl, hb, hcs⟩ := rw_cells HRA.out (by intro h; rw [h] at hx; simp at hx)
              obtain ⟨c0, c1, c2⟩ := hcs k x hx
              have HPC : Hid (∀ j y, rs[j]? = some y → wr.cell? ⟨b, o + j * 3, none⟩ = some (.int .i64 y.u) ∧ wr.cell? ⟨b, o + j * 3 + 1, none⟩ = some (.int .i64 y.lo) ∧ wr.cell? ⟨b, o + j * 3 + 2, none⟩ = some (.int .i64 y.hi)) :=
                Lib.hid fun j y hy => ⟨((bcell hbr).1 _ _ hb).trans (hcs j y hy).1, ((bcell hbr).1 _ _ hb).trans (hcs j y hy).2.1, ((bcell hbr).1 _ _ hb).trans (hcs j y hy).2.2⟩
              replace c0 := ((bcell hbr).1 _ _ hb).trans c0
              replace c1 := ((bcell hbr).1 _ _ hb).trans c1
              replace c2 := ((bcell hbr).1 _ _ hb).trans c2
              have HX := Lib.hid hx
              obtain ⟨u, lo, hi⟩ := x
              simp only at c0 c1 c2
              obtain ⟨wB, hwB⟩ : ∃ z, wr.alloc (.cells #[.int .i64 u, .int .i64 lo, .int .i64 hi] 119) = z := ⟨_, rfl⟩
              have zB := heap_alloc_new wr (.cells #[.int .i64 u, .int .i64 lo, .int .i64 hi] 119)
              have hbB : Below wr.heap.size wr wB := by rw [← hwB]; exact (Below.refl _ _).alloc (Nat.le_refl _) _
              rw [hwB] at zB
              have HBB := Lib.hid (HBR.out.trans (hbB.mono HBR.out.size))
              have hzB := (hbB.block _ (heapsz hz)).trans hz
              have HZB := Lib.hid hzB
              have ltb : b < wr.heap.size := Nat.lt_of_lt_of_le hb hbr.size
              have HBC := Lib.hid (bcell hbB).1
              have LTB := Lib.hid ltb
              have LTB2 := Lib.hid (Nat.lt_of_lt_of_le ltb hbB.size)
              have g2 := (site_box hzB).2.2.1
              have r0 := cell_of_row wB wr.heap.size 0 _ 119 (0, 0) zB
              have r1 := cell_of_row wB wr.heap.size 1 _ 119 (0, 0) zB
              have r2 := cell_of_row wB wr.heap.size 2 _ 119 (0, 0) zB
              simp at r0 r1 r2
              have LZ0 := Lib.hid (heapsz hzB)
              have LZ1 := Lib.hid (heapsz zB)
              have hk0 : (0 : Int) ≤ (k : Int) := by omega
              have hk1 : (k : Int) < (nr : Int) := by omega
              clear hx hcs hbr hz hb s0 s1 s3 s4 s5 zB hbB hzB ltb
              have NO : Hid (rwB (rwBefore rs k) ⟨u, lo, hi⟩ = false → sitB ⟨ps, qs, rs, may, sink, tilt⟩ = false) := Lib.hid (fun h => NO3.out (rwsB_no HX.out h))
              have NR : Hid (rwR1 u lo hi = false → sitB ⟨ps, qs, rs, may, sink, tilt⟩ = false) := Lib.hid (fun h => NO.out (rwB_R1 (by rw [HR.out]; exact hk) HALL.out h))
              have YES : Hid (rwB (rwBefore rs k) ⟨u, lo, hi⟩ = true → ∀ j x, j < k + 1 → rs[j]? = some x → rwB (rwBefore rs j) x = true) := Lib.hid (fun h j x hj hx => by
                by_cases hjk : j < k
                · exact HALL.out j x hjk hx
                · have : j = k := by omega
                  subst this
                  have h2 := HX.out
                  rw [hx] at h2
                  cases h2
                  exact h)
              cases q1 : inB 0 u 5000 with
              | false =>
                have HF := Lib.hid (NR.out (by unfold rwR1; rw [q1]; rfl))
                go_wp2_with (first | (go_at_call 74; refine (in_any _ _ _ _).mono ?_; rintro e w' ⟨rfl, rfl⟩) | fail)
                go_ret
                exact ⟨by rw [HF.out]; rfl, HBB.out⟩
              | true =>
                by_cases q2 : lo < 0
                · have HF := Lib.hid (NR.out (by unfold rwR1; rw [decide_eq_false (fun h => h q2)]; simp))
                  go_wp2_with (first | (go_at_call 74; refine (in_any _ _ _ _).mono ?_; rintro e w' ⟨rfl, rfl⟩) | fail)
                  go_ret
                  exact ⟨by rw [HF.out]; rfl, HBB.out⟩
                · by_cases q3 : hi < lo
                  · have HF := Lib.hid (NR.out (by unfold rwR1; rw [show decide (¬ hi < lo) = false from decide_eq_false (fun h => h q3)]; simp))
                    go_wp2_with (first | (go_at_call 74; refine (in_any _ _ _ _).mono ?_; rintro e w' ⟨rfl, rfl⟩) | fail)
                    go_ret
                    exact ⟨by rw [HF.out]; rfl, HBB.out⟩
                  · by_cases q4 : 1000 < hi
                    · have HF := Lib.hid (NR.out (by unfold rwR1; rw [show decide (¬ 1000 < hi) = false from decide_eq_false (fun h => h q4)]; simp))
                      go_wp2_with (first | (go_at_call 74; refine (in_any _ _ _ _).mono ?_; rintro e w' ⟨rfl, rfl⟩) | fail)
                      go_ret
                      exact ⟨by rw [HF.out]; rfl, HBB.out⟩
                    · have R1 : Hid (rwR1 u lo hi = true) := Lib.hid (by unfold rwR1; rw [q1]; simp [q2, q3, q4])
                      go_wp2_with (first | (go_at_call 74; refine (in_any _ _ _ _).mono ?_; rintro e w' ⟨rfl, rfl⟩) | fail)
                      clear c0 c1 c2 s2
                      have v0 : ∀ q : KeptW wB, q.w.cell? ⟨w.heap.size, 2, none⟩ = some (.slice (some ⟨b, o, none⟩) nr cr) := fun q => ((bcell q.h).1 _ 2 LZ0.out).trans g2
                      have m0 : ∀ q : KeptW wB, q.w.cell? ⟨wr.heap.size, 0, none⟩ = some (.int .i64 u) := fun q => ((bcell q.h).1 _ 0 LZ1.out).trans r0
                      have m1 : ∀ q : KeptW wB, q.w.cell? ⟨wr.heap.size, 1, none⟩ = some (.int .i64 lo) := fun q => ((bcell q.h).1 _ 1 LZ1.out).trans r1
                      have m2 : ∀ q : KeptW wB, q.w.cell? ⟨wr.heap.size, 2, none⟩ = some (.int .i64 hi) := fun q => ((bcell q.h).1 _ 2 LZ1.out).trans r2
                      by_cases hz : 0 < k
                      · obtain ⟨j, ej⟩ : ∃ j, k = j + 1 := ⟨k - 1, by omega⟩
                        obtain ⟨y, hy⟩ := get_of_lt (l := rs) (k := j) (by rw [HR.out]; omega)
                        have hlow := rw_low (by rw [HR.out]; exact hk) HALL.out k (Nat.le_refl _) hz
                        have hbe : rwBefore rs k = y := by rw [ej]; exact rwBefore_succ hy
                        obtain ⟨d0, d1, d2⟩ := HPC.out j y hy
                        obtain ⟨U, L, H⟩ := y
                        rw [hbe] at hlow
                        have HE := Lib.hid ((by rw [hbe, rwB_next hlow, R1.out, Bool.true_and]) : rwB (rwBefore rs k) ⟨u, lo, hi⟩ = (decide (¬ u ≤ U) && decide (¬ lo < L) && decide (¬ hi < H)))
                        simp only at d0 d1 d2
                        have n0 : ∀ q : KeptW wB, q.w.cell? ⟨b, o + j * 3, none⟩ = some (.int .i64 U) := fun q => ((bcell q.h).1 _ _ LTB2.out).trans ((HBC.out _ _ LTB.out).trans d0)
                        have n1 : ∀ q : KeptW wB, q.w.cell? ⟨b, o + j * 3 + 1, none⟩ = some (.int .i64 L) := fun q => ((bcell q.h).1 _ _ LTB2.out).trans ((HBC.out _ _ LTB.out).trans d1)
                        have n2 : ∀ q : KeptW wB, q.w.cell? ⟨b, o + j * 3 + 2, none⟩ = some (.int .i64 H) := fun q => ((bcell q.h).1 _ _ LTB2.out).trans ((HBC.out _ _ LTB.out).trans d2)
                        have vj : Value.int .i64 (IntKind.i64.wrap ((k : Int) - 1)) = Value.int .i64 (j : Int) := by
                          have : IntKind.i64.wrap ((k : Int) - 1) = (k : Int) - 1 := IntWalk.i64_in _ (by omega)
                          rw [this]; congr 1; omega
                        have hj0 : (0 : Int) ≤ (j : Int) := by omega
                        have hj1 : (j : Int) < (nr : Int) := by omega
                        clear hbe hlow hy ej d0 d1 d2 r0 r1 r2 g2 hwB
                        by_cases k1 : u ≤ U
                        · have HF := Lib.hid (NO.out (HE.out.trans (by simp [k1])))
                          refine rk_region (by kernel_rfl) (by kernel_rfl) ?_
                          repeat (go_big_quiet_step (fail))
                          refine wpQuiet_nil ?_
                          rintro _ ⟨⟨wz, hbz⟩, rfl⟩
                          have BZ := Lib.hid (HBB.out.trans (hbz.mono HBB.out.size))
                          have ZZ := Lib.hid ((hbz.block _ LZ0.out).trans HZB.out)
                          clear v0 m0 m1 m2 n0 n1 n2 hbz
                          go_wp2_with fail
                          go_ret
                          exact ⟨by rw [HF.out]; rfl, BZ.out⟩
                        · by_cases k2 : lo < L
                          · have HF := Lib.hid (NO.out (HE.out.trans (by simp [k2])))
                            have k1b : ¬ u ≤ U := by omega
                            refine rk_region (by kernel_rfl) (by kernel_rfl) ?_
                            repeat (go_big_quiet_step (fail))
                            refine wpQuiet_nil ?_
                            rintro _ ⟨⟨wz, hbz⟩, rfl⟩
                            have BZ := Lib.hid (HBB.out.trans (hbz.mono HBB.out.size))
                            have ZZ := Lib.hid ((hbz.block _ LZ0.out).trans HZB.out)
                            clear v0 m0 m1 m2 n0 n1 n2 hbz
                            go_wp2_with fail
                            go_ret
                            exact ⟨by rw [HF.out]; rfl, BZ.out⟩
                          · by_cases k3 : hi < H
                            · have HF := Lib.hid (NO.out (HE.out.trans (by simp [k3])))
                              have k1b : ¬ u ≤ U := by omega
                              have k2b : ¬ lo < L := by omega
                              refine rk_region (by kernel_rfl) (by kernel_rfl) ?_
                              repeat (go_big_quiet_step (fail))
                              refine wpQuiet_nil ?_
                              rintro _ ⟨⟨wz, hbz⟩, rfl⟩
                              have BZ := Lib.hid (HBB.out.trans (hbz.mono HBB.out.size))
                              have ZZ := Lib.hid ((hbz.block _ LZ0.out).trans HZB.out)
                              clear v0 m0 m1 m2 n0 n1 n2 hbz
                              go_wp2_with fail
                              go_ret
                              exact ⟨by rw [HF.out]; rfl, BZ.out⟩
                            · have HF := Lib.hid (HE.out.trans (by simp [k1, k2, k3]) : rwB (rwBefore rs k) ⟨u, lo, hi⟩ = true)
                              have k1b : ¬ u ≤ U := by omega
                              have k2b : ¬ lo < L := by omega
                              have k3b : ¬ hi < H := by omega
                              refine rk_region (by kernel_rfl) (by kernel_rfl) ?_
                              repeat (go_big_quiet_step (fail))
                              refine wpQuiet_nil ?_
                              rintro _ ⟨⟨wz, hbz⟩, rfl⟩
                              have BZ := Lib.hid (HBB.out.trans (hbz.mono HBB.out.size))
                              have ZZ := Lib.hid ((hbz.block _ LZ0.out).trans HZB.out)
                              clear v0 m0 m1 m2 n0 n1 n2 hbz
                              go_wp2_with fail
                              exact ⟨⟨k + 1, by omega, by go_num, YES.out HF.out, BZ.out, ZZ.out⟩, by simp [intOf]; omega⟩
                      · have HF : Hid (rwB (rwBefore rs k) ⟨u, lo, hi⟩ = true) := Lib.hid (by
                          have hk0 : k = 0 := by omega
                          subst hk0
                          exact rwB_first.trans R1.out)
                        clear r0 r1 r2 g2 hwB
                        refine rk_region (by kernel_rfl) (by kernel_rfl) ?_
                        repeat (go_big_quiet_step (fail))
                        refine wpQuiet_nil ?_
                        rintro _ ⟨⟨wz, hbz⟩, rfl⟩
                        have BZ := Lib.hid (HBB.out.trans (hbz.mono HBB.out.size))
                        have ZZ := Lib.hid ((hbz.block _ LZ0.out).trans HZB.out)
                        clear v0 m0 m1 m2 hbz
                        go_wp2_with fail
                        exact ⟨⟨k + 1, by omega, by go_num, YES.out HF.out, BZ.out, ZZ.out⟩, by simp [intOf]; omega⟩
            · have hke : k = nr := by omega
              have hk1 : ¬ (k : Int) < (nr : Int) := by omega
              have HFR : Hid (rwsGo ⟨-1, 0, 0⟩ rs = true) := Lib.hid (rwsGo_iff.2 fun j x hj => HALL.out j x (by have := (List.getElem?_eq_some_iff.1 hj).1; rw [HR.out] at this; omega) hj)
              have HC2 : Hid (sitB ⟨ps, qs, rs, may, sink, tilt⟩ = (inB 1 (np : Int) 6 && decide ((nq : Int) ≤ 10) && inB 1 (nr : Int) 6 && inB 0 may 1000 && inB 0 sink 100000 && inB 0 tilt 100000)) := Lib.hid (by rw [HCI.out, HFP.out, HFQ.out, HFR.out]; simp only [Bool.and_true])
              clear hbr hz
              cases t1 : inB 1 (np : Int) 6 with
              | false =>
                have HF : Hid (sitB ⟨ps, qs, rs, may, sink, tilt⟩ = false) := Lib.hid (HC2.out.trans (by simp [t1]))
                go_wp2_with (first | (go_at_call 74; refine (in_any _ _ _ _).mono ?_; rintro e w' ⟨rfl, rfl⟩) | fail)
                go_ret
                exact ⟨by rw [HF.out]; rfl, HBR.out⟩
              | true =>
                by_cases t2 : (nq : Int) ≤ 10
                · skip
                  cases t3 : inB 1 (nr : Int) 6 with
                  | false =>
                    have HF : Hid (sitB ⟨ps, qs, rs, may, sink, tilt⟩ = false) := Lib.hid (HC2.out.trans (by simp [t1, t2, t3]))
                    go_wp2_with (first | (go_at_call 74; refine (in_any _ _ _ _).mono ?_; rintro e w' ⟨rfl, rfl⟩) | fail)
                    go_ret
                    exact ⟨by rw [HF.out]; rfl, HBR.out⟩
                  | true =>
                    cases t4 : inB 0 may 1000 with
                    | false =>
                      have HF : Hid (sitB ⟨ps, qs, rs, may, sink, tilt⟩ = false) := Lib.hid (HC2.out.trans (by simp [t1, t2, t3, t4]))
                      go_wp2_with (first | (go_at_call 74; refine (in_any _ _ _ _).mono ?_; rintro e w' ⟨rfl, rfl⟩) | fail)
                      go_ret
                      exact ⟨by rw [HF.out]; rfl, HBR.out⟩
                    | true =>
                      cases t5 : inB 0 sink 100000 with
                      | false =>
                        have HF : Hid (sitB ⟨ps, qs, rs, may, sink, tilt⟩ = false) := Lib.hid (HC2.out.trans (by simp [t1, t2, t3, t4, t5]))
                        go_wp2_with (first | (go_at_call 74; refine (in_any _ _ _ _).mono ?_; rintro e w' ⟨rfl, rfl⟩) | fail)
                        go_ret
                        exact ⟨by rw [HF.out]; rfl, HBR.out⟩
                      | true =>
                        cases t6 : inB 0 tilt 100000 with
                        | false =>
                          have HF : Hid (sitB ⟨ps, qs, rs, may, sink, tilt⟩ = false) := Lib.hid (HC2.out.trans (by simp [t1, t2, t3, t4, t5, t6]))
                          go_wp2_with (first | (go_at_call 74; refine (in_any _ _ _ _).mono ?_; rintro e w' ⟨rfl, rfl⟩) | fail)
                          go_ret
                          exact ⟨by rw [HF.out]; rfl, HBR.out⟩
                        | true =>
                          have HF : Hid (sitB ⟨ps, qs, rs, may, sink, tilt⟩ = true) := Lib.hid (HC2.out.trans (by simp [t1, t2, t3, t4, t5, t6]))
                          go_wp2_with (first | (go_at_call 74; refine (in_any _ _ _ _).mono ?_; rintro e w' ⟨rfl, rfl⟩) | fail)
                          go_ret
                          exact ⟨by rw [HF.out]; rfl, HBR.out⟩
                · skip
                  have HF : Hid (sitB ⟨ps, qs, rs, may, sink, tilt⟩ = false) := Lib.hid (HC2.out.trans (by simp [t1, t2]))
                  go_wp2_with (first | (go_at_call 74; refine (in_any _ _ _ _).mono ?_; rintro e w' ⟨rfl, rfl⟩) | fail)
                  go_ret
                  exact ⟨by rw [HF.out]; rfl, HBR.out⟩
end Go.Proofs.YtdlaphlpimlgdaaGreatDoor
