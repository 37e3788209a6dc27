/- The specification's word on a book: whether levels are levels. -/
import Derived.Test.YtdlaphlpimlgdaaGreatDoorCB
namespace Go.Proofs.YtdlaphlpimlgdaaGreatDoor
open Go.RowKit Go.Shelf

set_option maxRecDepth 100000 in
set_option maxHeartbeats 4000000 in
theorem refBook_any (A : Option Addr) (n c : Nat) (ts : List (List Int)) (w : World) (hl : ts.length = n) (hn : n ≤ maxLen) (hT : LvsAt w w.heap.size A ts) :
    Calls Tryz.prog 55 #[.slice A n c] w fun e w' => e = .returned (.bool (bookB ts)) ∧ Below w.heap.size w w' := by
  have HL := Lib.hid hl
  have HCI : Hid (bookB ts = (inB 1 (n : Int) 10 && inB 1 ((ts.headD []).length : Int) 6 && ts.all (lvsB (ts.headD []).length))) := Lib.hid (by rw [← hl]; rfl)
  have HB0 := Lib.hid (Below.refl w.heap.size w)
  unfold maxLen at hn
  by_cases hn0 : n = 0
  · subst hn0
    have HF : Hid (bookB ts = false) := Lib.hid (by rw [HCI.out]; rfl)
    clear hl hT
    go_enter Tryz.func55, Tryz.ntmps55
    go_wp2_with fail
    go_loopw [3] (fun i wr => i = .int .i64 0 ∧ wr = w) (fun _ _ => 0)
    case atStart => exact ⟨rfl, rfl⟩
    case round =>
      obtain ⟨rfl, rfl⟩ := hrel
      have h00 : ¬ (0 : Int) < ((0 : Nat) : Int) := by omega
      go_wp2_with (first | (go_at_call 74; refine (in_any _ _ _ _).mono ?_; rintro e w' ⟨rfl, rfl⟩) | fail)
      go_ret
      exact ⟨by rw [HF.out]; rfl, HB0.out⟩
  obtain ⟨r, hr⟩ := get_of_lt (l := ts) (k := 0) (by omega)
  have HT := Lib.hid hT
  obtain ⟨b, o, rfl, hb, hcs⟩ := hT (by intro h; rw [h] at hr; simp at hr)
  obtain ⟨A0, c0', d1, d2, d3, d4⟩ := hcs 0 r hr
  have hhd : ts.headD [] = r := by
    cases ts with
    | nil => simp at hr
    | cons z zs => simp at hr; exact hr
  obtain ⟨np, hnp⟩ : ∃ z, r.length = z := ⟨_, rfl⟩
  have HC2 : Hid (bookB ts = (inB 1 (n : Int) 10 && inB 1 (np : Int) 6 && ts.all (lvsB np))) := Lib.hid (by rw [HCI.out, hhd, hnp])
  rw [Nat.add_zero, hnp] at d1
  rw [hnp] at d3
  unfold maxLen at d3
  have n0 : (0 : Int) < (n : Int) := by omega
  have HCS := Lib.hid hcs; have HBL := Lib.hid hb; have HD1 := Lib.hid d1
  have HR0 := Lib.hid hr; have HNP := Lib.hid hnp
  clear hl hr hhd hnp hcs d2 d4 hb d1 hT
  go_enter Tryz.func55, Tryz.ntmps55
  go_wp2_with fail
  go_loopw [3] (fun i wr => ∃ k : Nat, k ≤ n ∧ i = .int .i64 k ∧ (ts.take k).all (lvsB np) = true ∧ (0 < k → inB 1 (np : Int) 6 = true) ∧ Below w.heap.size w wr) (fun i _ => n - (intOf i).toNat)
  case atStart => exact ⟨0, Nat.zero_le _, rfl, by simp, fun h => absurd h (Nat.lt_irrefl 0), HB0.out⟩
  case round =>
    obtain ⟨k, hk, rfl, hall, h6, hbr⟩ := hrel
    have HALL := Lib.hid hall; have H6 := Lib.hid h6; have HBR := Lib.hid hbr
    by_cases hlt : k < n
    · obtain ⟨x, hx⟩ := get_of_lt (l := ts) (k := k) (by rw [HL.out]; exact hlt)
      obtain ⟨A', c', e1, e2, e3, e4⟩ := HCS.out k x hx
      have d1 := ((bcell hbr).1 _ _ HBL.out).trans HD1.out
      replace e1 := ((bcell hbr).1 _ _ HBL.out).trans e1
      have HX := Lib.hid hx
      have HX3 := Lib.hid e2
      obtain ⟨m, hm⟩ : ∃ m, x.length = m := ⟨_, rfl⟩
      rw [hm] at e1 e3
      unfold maxLen at e3
      have HM := Lib.hid hm
      have hk0 : (0 : Int) ≤ (k : Int) := by omega
      have hk1 : (k : Int) < (n : Int) := by omega
      have HR1 : Hid (lvsB np x = (decide (m = np) && x.all lvB)) := Lib.hid (by rw [← hm]; rfl)
      clear hx e2 hm e4 hall h6 hbr
      by_cases hmn : m = np
      · subst hmn
        have HR2 : Hid (lvsB m x = x.all lvB) := Lib.hid (by rw [HR1.out]; simp)
        have hmm : ((m : Int) != (m : Int)) = false := by simp
        cases q6 : inB 1 (m : Int) 6 with
        | false =>
          have HF : Hid (bookB ts = false) := Lib.hid (by rw [HC2.out, q6]; simp)
          have HIN : Hid (∀ W : World, Calls Tryz.prog 74 #[.int .i64 (m : Int), .int .i64 1, .int .i64 6] W fun e w' => e = .returned (.bool false) ∧ W = w') := Lib.hid fun W => by have := in_any (m : Int) 1 6 W; rwa [q6] at this
          clear q6
          go_wp2_with fail
          go_quiet ((go_at_call 74; exact Calls.quiet_of_same ((HIN.out _).mono fun e w' h => ⟨h.1, h.2.symm⟩)))
          go_wp2_with fail
          go_ret
          exact ⟨by rw [HF.out]; rfl, belN HBR.out _⟩
        | true =>
          have Q6 := Lib.hid q6
          have HIN : Hid (∀ W : World, Calls Tryz.prog 74 #[.int .i64 (m : Int), .int .i64 1, .int .i64 6] W fun e w' => e = .returned (.bool true) ∧ W = w') := Lib.hid fun W => by have := in_any (m : Int) 1 6 W; rwa [q6] at this
          clear q6
          go_wp2_with fail
          go_quiet ((go_at_call 74; exact Calls.quiet_of_same ((HIN.out _).mono fun e w' h => ⟨h.1, h.2.symm⟩)))
          go_wp2_with fail
          have HBQ := Lib.hid (belN HBR.out nq)
          replace e1 : (wr.drewN nq).cell? ⟨b, o + k, none⟩ = some (.slice A' m c') := e1
          clear d1
          generalize wr.drewN nq = wq at *
          go_loopw [4] (fun i wz => ∃ j : Nat, j ≤ m ∧ i = .int .i64 j ∧ (x.take j).all lvB = true ∧ wz = wq) (fun i _ => m - (intOf i).toNat)
          case atStart => exact ⟨0, Nat.zero_le _, rfl, by simp, rfl⟩
          case round =>
            obtain ⟨j, hj, rfl, hall, rfl⟩ := hrel
            have HALQ := Lib.hid hall
            clear hall
            by_cases hlj : j < m
            · obtain ⟨y, hy⟩ := get_of_lt (l := x) (k := j) (by rw [HM.out]; exact hlj)
              obtain ⟨b', o', rfl, hb', hcs'⟩ := int_cells (HX3.out.next HBQ.out HBQ.out.size) (by intro h; rw [h] at hy; simp at hy)
              have c1 := hcs' j y hy
              have HY := Lib.hid hy
              have hj0 : (0 : Int) ≤ (j : Int) := by omega
              have hj1 : (j : Int) < (m : Int) := by omega
              clear hy hcs' hb'
              cases q : inB (-100000) y 100000 with
              | false =>
                have HF : Hid (bookB ts = false) := Lib.hid (by rw [HC2.out]; rw [show ts.all (lvsB m) = false from all_no HX.out (by rw [HR2.out]; exact all_no HY.out q)]; simp)
                go_wp2_with (first | (go_at_call 74; refine (in_any _ _ _ _).mono ?_; rintro e w' ⟨rfl, rfl⟩) | fail)
                go_ret
                exact ⟨by rw [HF.out]; rfl, HBQ.out⟩
              | true =>
                have HF := Lib.hid (show lvB y = true from q)
                go_wp2_with (first | (go_at_call 74; refine (in_any _ _ _ _).mono ?_; rintro e w' ⟨rfl, rfl⟩) | fail)
                exact ⟨⟨j + 1, by omega, by go_num, take_all HY.out HALQ.out HF.out, trivial⟩, by simp [intOf]; omega⟩
            · have hje : j = m := by omega
              have hj1 : ¬ (j : Int) < (m : Int) := by omega
              have HF : Hid (lvsB m x = true) := Lib.hid (by
                have := HALQ.out
                rw [List.take_of_length_le (by rw [HM.out]; omega)] at this
                rw [HR2.out, this])
              go_wp2_with fail
              exact ⟨⟨k + 1, by omega, by go_num, take_all HX.out HALL.out HF.out, (by first | exact fun _ => Q6.out | exact fun _ => trivial), HBQ.out⟩, by simp [intOf]; omega⟩
      · have HF : Hid (bookB ts = false) := Lib.hid (by rw [HC2.out]; rw [show ts.all (lvsB np) = false from all_no HX.out (by rw [HR1.out, decide_eq_false hmn]; rfl)]; simp)
        have hmn' : ((m : Int) != (np : Int)) = true := by simpa using (show ¬ (m : Int) = (np : Int) by omega)
        go_wp2_with fail
        go_quiet (fail)
        go_wp2_with fail
        go_ret
        exact ⟨by rw [HF.out]; rfl, belN HBR.out _⟩
    · have hke : k = n := by omega
      have hk1 : ¬ (k : Int) < (n : Int) := by omega
      have HF : Hid (bookB ts = inB 1 (n : Int) 10) := Lib.hid (by
        have := HALL.out
        rw [List.take_of_length_le (by rw [HL.out]; omega)] at this
        rw [HC2.out, this, H6.out (by omega)]
        simp)
      clear hall h6 hbr
      go_wp2_with (first | (go_at_call 74; refine (in_any _ _ _ _).mono ?_; rintro e w' ⟨rfl, rfl⟩) | fail)
      go_ret
      exact ⟨by rw [HF.out]; rfl, HBR.out⟩
end Go.Proofs.YtdlaphlpimlgdaaGreatDoor
