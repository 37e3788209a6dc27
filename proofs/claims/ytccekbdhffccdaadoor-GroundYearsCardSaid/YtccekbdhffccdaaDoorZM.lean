/- The statement on years: the statement's function, by its cases. -/
import Derived.Test.YtccekbdhffccdaaDoorZL
namespace Go.Proofs.YtccekbdhffccdaaDoor
open Go.RowKit Go.Shelf

set_option maxRecDepth 100000 in
set_option maxHeartbeats 4000000 in
theorem yrs_far (A A2 : Option Addr) (n c m c' : Nat) (lo hi : Int) (w : World) (ht : Tab w) (hn : n ≤ maxLen) (hm : m ≤ maxLen) (hs : decide (n ≤ 12 ∧ m ≤ 17) = false) :
    Calls Tryd.prog 3 #[.agg #[.slice A n c, .int .i64 lo, .int .i64 hi], .slice A2 m c'] w fun e w' => e = .returned (.bool true) ∧ Below w.heap.size w w' := by
  have HT := Lib.hid ht
  have HN := Lib.hid hn; have HM := Lib.hid hm
  have HS := Lib.hid hs
  clear hn hm ht hs
  have HB1 := Lib.hid ((Below.refl w.heap.size w).alloc (Nat.le_refl _) (.cells #[.slice A n c, .int .i64 lo, .int .i64 hi] 26))
  go_enter Tryd.func3, Tryd.ntmps3
  go_wp2_with fail
  refine (short_any A A2 n m c c' lo hi _ HN.out HM.out).mono ?_
  rintro e w2 ⟨rfl, hb2⟩
  rw [HS.out]
  have HB2 := Lib.hid (HB1.out.trans (hb2.mono HB1.out.size))
  clear hb2
  go_wp2_with fail
  refine (known_any _ (HT.out.next HB2.out)).mono ?_
  rintro e w3 ⟨rfl, hb3⟩
  have HB3 := Lib.hid (HB2.out.trans (hb3.mono HB2.out.size))
  clear hb3
  go_wp2_with fail
  go_ret
  exact ⟨rfl, HB3.out⟩
theorem check_cases (ls : List Lay) (lo hi : Int) : checkI ls lo hi = if placeB ls lo hi then 0 else 2 := rfl
theorem years_err (r : Int) (A A2 : Option Addr) (n c m c' : Nat) (ls : List Lay) (ys : List Yr) (lo hi : Int) (w : World) (hl : ls.length = n) (hn : n ≤ maxLen) (hcap : n ≤ c) (hL : LaysAt w w.heap.size A ls)
    (hm : ys.length = m) (hm2 : m ≤ maxLen) (hY : YrsAt w w.heap.size A2 ys) (hr : yearsI ls lo hi ys = r) (hr0 : ¬ r = 0) :
    Calls Tryd.prog 19 #[.agg #[.slice A n c, .int .i64 lo, .int .i64 hi], .slice A2 m c'] w fun e w' => ∃ (B : Option Addr) (k : Nat), e = .returned (.tuple #[.slice B 0 k, .int .i64 r]) ∧ Below w.heap.size w w' := by
  refine (years_any A A2 n c m c' ls ys lo hi w hl hn hcap hL hm hm2 hY).mono ?_
  have hq : yearsR ls lo hi ys = ([], r) := by unfold yearsR; rw [hr, if_neg hr0]
  rw [hq]
  rintro e w' ⟨B, k, rfl, _, hb⟩
  exact ⟨B, k, rfl, hb⟩

set_option maxRecDepth 100000 in
set_option maxHeartbeats 4000000 in
theorem yrs_bad (r : Int) (A A2 : Option Addr) (n c m c' : Nat) (ls : List Lay) (ys : List Yr) (lo hi : Int) (w : World) (ht : Tab w) (hl : ls.length = n) (hcap : n ≤ c) (hn : n ≤ maxLen) (hL : LaysAt w w.heap.size A ls) (hy : ys.length = m) (hm : m ≤ maxLen) (hY : YrsAt w w.heap.size A2 ys)
    (hs : decide (n ≤ 12 ∧ m ≤ 17) = true) (hr : yearsI ls lo hi ys = r) (hr0 : ¬ r = 0) :
    Calls Tryd.prog 3 #[.agg #[.slice A n c, .int .i64 lo, .int .i64 hi], .slice A2 m c'] w fun e w' => e = .returned (.bool true) ∧ Below w.heap.size w w' := by
  have HT := Lib.hid ht; have HS := Lib.hid hs; have HR := Lib.hid hr; have HR0 := Lib.hid hr0
  have HL := Lib.hid hl; have HY := Lib.hid hy
  have HN := Lib.hid hn; have HM := Lib.hid hm; have HCAP := Lib.hid hcap
  clear hl hy hn hm ht hcap hs hr
  have HB1 := Lib.hid ((Below.refl w.heap.size w).alloc (Nat.le_refl _) (.cells #[.slice A n c, .int .i64 lo, .int .i64 hi] 26))
  have Z1 := Lib.hid (heap_alloc_new w (.cells #[.slice A n c, .int .i64 lo, .int .i64 hi] 26))
  have CK := Lib.hid (check_cases ls lo hi)
  obtain ⟨pl, hpl⟩ : ∃ x, placeB ls lo hi = x := ⟨_, rfl⟩
  rw [hpl] at CK
  have PL := Lib.hid hpl
  clear hpl
  cases pl
  all_goals
    go_enter Tryd.func3, Tryd.ntmps3
    go_wp2_with fail
    refine (short_any A A2 n m c c' lo hi _ HN.out HM.out).mono ?_
    rintro e w2 ⟨rfl, hb2⟩
    rw [HS.out]
    have HB2 := Lib.hid (HB1.out.trans (hb2.mono HB1.out.size))
    have Z2 := Lib.hid ((hb2.block _ (Array.getElem?_eq_some_iff.1 Z1.out).1).trans Z1.out)
    clear hb2
    have p0 := cell_of_row w2 w.heap.size 0 _ 26 (0, 0) Z2.out
    have p1 := cell_of_row w2 w.heap.size 1 _ 26 (0, 0) Z2.out
    have p2 := cell_of_row w2 w.heap.size 2 _ 26 (0, 0) Z2.out
    simp at p0 p1 p2
    go_wp2_with fail
    refine (Check_any A n c ls lo hi _ HL.out HN.out (hL.next HB2.out)).mono ?_
    rintro e w3 ⟨rfl, hb3⟩
    rw [CK.out]
    have HB3 := Lib.hid (HB2.out.trans (hb3.mono HB2.out.size))
    have Z3 := Lib.hid ((hb3.block _ (Array.getElem?_eq_some_iff.1 Z2.out).1).trans Z2.out)
    clear hb3 p0 p1 p2
    have p0 := cell_of_row w3 w.heap.size 0 _ 26 (0, 0) Z3.out
    have p1 := cell_of_row w3 w.heap.size 1 _ 26 (0, 0) Z3.out
    have p2 := cell_of_row w3 w.heap.size 2 _ 26 (0, 0) Z3.out
    simp at p0 p1 p2
    go_wp2_with fail
    refine (years_err r A A2 n c m c' ls ys lo hi _ HL.out HN.out HCAP.out (hL.next HB3.out) HY.out HM.out (hY.next HB3.out) HR.out HR0.out).mono ?_
    rintro e w4 ⟨B, kk, rfl, hb4⟩
    have HB4 := Lib.hid (HB3.out.trans (hb4.mono HB3.out.size))
    have Z4 := Lib.hid ((hb4.block _ (Array.getElem?_eq_some_iff.1 Z3.out).1).trans Z3.out)
    clear hb4 p0 p1 p2
    have p0 := cell_of_row w4 w.heap.size 0 _ 26 (0, 0) Z4.out
    have p1 := cell_of_row w4 w.heap.size 1 _ 26 (0, 0) Z4.out
    have p2 := cell_of_row w4 w.heap.size 2 _ 26 (0, 0) Z4.out
    simp at p0 p1 p2
    go_wp2_with fail
    refine (refPlace_any A n c ls lo hi _ HL.out HN.out (hL.next HB4.out)).mono ?_
    rintro e w5 ⟨rfl, hb5⟩
    rw [PL.out]
    have HB5 := Lib.hid (HB4.out.trans (hb5.mono HB4.out.size))
    have Z5 := Lib.hid ((hb5.block _ (Array.getElem?_eq_some_iff.1 Z4.out).1).trans Z4.out)
    clear hb5 p0 p1 p2
    have p0 := cell_of_row w5 w.heap.size 0 _ 26 (0, 0) Z5.out
    have p1 := cell_of_row w5 w.heap.size 1 _ 26 (0, 0) Z5.out
    have p2 := cell_of_row w5 w.heap.size 2 _ 26 (0, 0) Z5.out
    simp at p0 p1 p2
    go_wp2_with fail
    refine (wanted_is r A A2 n c m c' ls ys lo hi _ HL.out HN.out (hL.next HB5.out) HY.out HM.out (hY.next HB5.out) HR.out).mono ?_
    rintro e w6 ⟨rfl, hb6⟩
    have HB6 := Lib.hid (HB5.out.trans (hb6.mono HB5.out.size))
    clear hb6 p0 p1 p2
    go_wp2_with fail
    refine (known_any _ (HT.out.next HB6.out)).mono ?_
    rintro e w7 ⟨rfl, hb7⟩
    have HB7 := Lib.hid (HB6.out.trans (hb7.mono HB6.out.size))
    clear hb7
    go_wp2_with fail
    go_ret
    exact ⟨rfl, HB7.out⟩
set_option maxRecDepth 100000 in
set_option maxHeartbeats 4000000 in
theorem yrs_good (A A2 : Option Addr) (n c m c' : Nat) (ls : List Lay) (ys : List Yr) (lo hi : Int) (w : World) (ht : Tab w) (hl : ls.length = n) (hcap : n ≤ c) (hn : n ≤ maxLen) (hL : LaysAt w w.heap.size A ls) (hy : ys.length = m) (hm : m ≤ maxLen) (hY : YrsAt w w.heap.size A2 ys)
    (hs : decide (n ≤ 12 ∧ m ≤ 17) = true) (hr : yearsI ls lo hi ys = 0) :
    Calls Tryd.prog 3 #[.agg #[.slice A n c, .int .i64 lo, .int .i64 hi], .slice A2 m c'] w fun e w' => e = .returned (.bool true) ∧ Below w.heap.size w w' := by
  have PL := Lib.hid (yearsI_zero hr).2.1
  have CK : Hid (checkI ls lo hi = 0) := Lib.hid (by rw [check_cases, PL.out]; rfl)
  have HT := Lib.hid ht; have HS := Lib.hid hs; have HR := Lib.hid hr
  have HL := Lib.hid hl; have HY := Lib.hid hy
  have HN := Lib.hid hn; have HM := Lib.hid hm; have HCAP := Lib.hid hcap
  clear hl hy hn hm ht hcap hs hr
  have HB1 := Lib.hid ((Below.refl w.heap.size w).alloc (Nat.le_refl _) (.cells #[.slice A n c, .int .i64 lo, .int .i64 hi] 26))
  have Z1 := Lib.hid (heap_alloc_new w (.cells #[.slice A n c, .int .i64 lo, .int .i64 hi] 26))
  have eS : (seenI (runS ls (extT false ls lo hi ys) 0 m) (runS ls (extT true ls lo hi ys) 0 m) m).length = m := by simp [seenI]
  obtain ⟨SN, hSN⟩ : ∃ x, seenI (runS ls (extT false ls lo hi ys) 0 m) (runS ls (extT true ls lo hi ys) 0 m) m = x := ⟨_, rfl⟩
  rw [hSN] at eS
  have ES := Lib.hid eS; have HSN := Lib.hid hSN
  clear eS hSN
  go_enter Tryd.func3, Tryd.ntmps3
  go_wp2_with fail
  refine (short_any A A2 n m c c' lo hi _ HN.out HM.out).mono ?_
  rintro e w2 ⟨rfl, hb2⟩
  rw [HS.out]
  have HB2 := Lib.hid (HB1.out.trans (hb2.mono HB1.out.size))
  have Z2 := Lib.hid ((hb2.block _ (Array.getElem?_eq_some_iff.1 Z1.out).1).trans Z1.out)
  clear hb2
  have p0 := cell_of_row w2 w.heap.size 0 _ 26 (0, 0) Z2.out
  have p1 := cell_of_row w2 w.heap.size 1 _ 26 (0, 0) Z2.out
  have p2 := cell_of_row w2 w.heap.size 2 _ 26 (0, 0) Z2.out
  simp at p0 p1 p2
  go_wp2_with fail
  refine (Check_any A n c ls lo hi _ HL.out HN.out (hL.next HB2.out)).mono ?_
  rintro e w3 ⟨rfl, hb3⟩
  rw [CK.out]
  have HB3 := Lib.hid (HB2.out.trans (hb3.mono HB2.out.size))
  have Z3 := Lib.hid ((hb3.block _ (Array.getElem?_eq_some_iff.1 Z2.out).1).trans Z2.out)
  clear hb3 p0 p1 p2
  have p0 := cell_of_row w3 w.heap.size 0 _ 26 (0, 0) Z3.out
  have p1 := cell_of_row w3 w.heap.size 1 _ 26 (0, 0) Z3.out
  have p2 := cell_of_row w3 w.heap.size 2 _ 26 (0, 0) Z3.out
  simp at p0 p1 p2
  go_wp2_with fail
  refine (years_ok A A2 n c m c' ls ys lo hi _ HL.out HN.out HCAP.out (hL.next HB3.out) HY.out HM.out (hY.next HB3.out) HR.out).mono ?_
  rw [HSN.out]
  rintro e w4 ⟨B, kk, rfl, hsn, hb4⟩
  have HB4 := Lib.hid (HB3.out.trans (hb4.mono HB3.out.size))
  have Z4 := Lib.hid ((hb4.block _ (Array.getElem?_eq_some_iff.1 Z3.out).1).trans Z3.out)
  have D4 := Lib.hid hsn
  clear hb4 hsn p0 p1 p2
  have p0 := cell_of_row w4 w.heap.size 0 _ 26 (0, 0) Z4.out
  have p1 := cell_of_row w4 w.heap.size 1 _ 26 (0, 0) Z4.out
  have p2 := cell_of_row w4 w.heap.size 2 _ 26 (0, 0) Z4.out
  simp at p0 p1 p2
  go_wp2_with fail
  refine (refPlace_any A n c ls lo hi _ HL.out HN.out (hL.next HB4.out)).mono ?_
  rintro e w5 ⟨rfl, hb5⟩
  rw [PL.out]
  have HB5 := Lib.hid (HB4.out.trans (hb5.mono HB4.out.size))
  have Z5 := Lib.hid ((hb5.block _ (Array.getElem?_eq_some_iff.1 Z4.out).1).trans Z4.out)
  have D5 := Lib.hid (D4.out.next_ hb5)
  clear hb5 p0 p1 p2
  have p0 := cell_of_row w5 w.heap.size 0 _ 26 (0, 0) Z5.out
  have p1 := cell_of_row w5 w.heap.size 1 _ 26 (0, 0) Z5.out
  have p2 := cell_of_row w5 w.heap.size 2 _ 26 (0, 0) Z5.out
  simp at p0 p1 p2
  go_wp2_with fail
  refine (wanted_is 0 A A2 n c m c' ls ys lo hi _ HL.out HN.out (hL.next HB5.out) HY.out HM.out (hY.next HB5.out) HR.out).mono ?_
  rintro e w6 ⟨rfl, hb6⟩
  have HB6 := Lib.hid (HB5.out.trans (hb6.mono HB5.out.size))
  have Z6 := Lib.hid ((hb6.block _ (Array.getElem?_eq_some_iff.1 Z5.out).1).trans Z5.out)
  have D6 := Lib.hid (D5.out.next_ hb6)
  clear hb6 p0 p1 p2
  have p0 := cell_of_row w6 w.heap.size 0 _ 26 (0, 0) Z6.out
  have p1 := cell_of_row w6 w.heap.size 1 _ 26 (0, 0) Z6.out
  have p2 := cell_of_row w6 w.heap.size 2 _ 26 (0, 0) Z6.out
  simp at p0 p1 p2
  go_wp2_with fail
  refine (known_ok A A2 n c m c' ls ys lo hi _ HL.out (hL.next HB6.out) HY.out (hY.next HB6.out) HR.out).mono ?_
  rw [HSN.out]
  rintro e w7 ⟨B2, k2, rfl, hsn, hb7⟩
  have HB7 := Lib.hid (HB6.out.trans (hb7.mono HB6.out.size))
  have D7 := Lib.hid (D6.out.next_ hb7)
  have G7 := Lib.hid hsn
  clear hb7 hsn p0 p1 p2
  go_wp2_with fail
  refine (sameSeen_any B B2 m m kk k2 SN SN _ ES.out ES.out HM.out HM.out D7.out G7.out).mono ?_
  rintro e w8 ⟨rfl, hb8⟩
  have eqS : decide (SN.map snT = SN.map snT) = true := decide_eq_true rfl
  rw [eqS]
  have HB8 := Lib.hid (HB7.out.trans (hb8.mono HB7.out.size))
  clear hb8 eqS
  go_wp2_with fail
  refine (known_any _ (HT.out.next HB8.out)).mono ?_
  rintro e w9 ⟨rfl, hb9⟩
  have HB9 := Lib.hid (HB8.out.trans (hb9.mono HB8.out.size))
  clear hb9
  go_wp2_with fail
  go_ret
  exact ⟨rfl, HB9.out⟩
theorem yrs_any (A A2 : Option Addr) (n c m c' : Nat) (ls : List Lay) (ys : List Yr) (lo hi : Int) (w : World) (ht : Tab w) (hl : ls.length = n) (hcap : n ≤ c) (hn : n ≤ maxLen) (hL : LaysAt w w.heap.size A ls) (hy : ys.length = m) (hm : m ≤ maxLen) (hY : YrsAt w w.heap.size A2 ys) :
    Calls Tryd.prog 3 #[.agg #[.slice A n c, .int .i64 lo, .int .i64 hi], .slice A2 m c'] w fun e w' => e = .returned (.bool true) ∧ Below w.heap.size w w' := by
  cases hs : decide (n ≤ 12 ∧ m ≤ 17) with
  | false => exact yrs_far A A2 n c m c' lo hi w ht hn hm hs
  | true =>
    by_cases hr : yearsI ls lo hi ys = 0
    · exact yrs_good A A2 n c m c' ls ys lo hi w ht hl hcap hn hL hy hm hY hs hr
    · exact yrs_bad _ A A2 n c m c' ls ys lo hi w ht hl hcap hn hL hy hm hY hs rfl hr
end Go.Proofs.YtccekbdhffccdaaDoor
