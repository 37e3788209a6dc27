/- The statement on bounds that are as close as can be: the statement's function. -/
import Derived.Test.YtccekbdhffccdaaDoorZG
import Derived.Test.YtccekbdhffccdaaDoorYW
namespace Go.Proofs.YtccekbdhffccdaaDoor
open Go.RowKit Go.Shelf

theorem allB_maps {α : Type} {l : List α} {f : α → Int} {g : α → Int × Int} (h : ∀ x ∈ l, (g x).1 ≤ f x ∧ f x ≤ (g x).2) : allB (l.map f) (l.map g) = true := by
  refine allB_fine (by simp) ?_
  rw [List.all_eq_true]
  intro p hp
  rw [List.zip_map'] at hp
  obtain ⟨x, hx, rfl⟩ := List.mem_map.1 hp
  obtain ⟨h1, h2⟩ := h x hx
  simp [okB, inB, h1, h2]
theorem possT_ext (warm : Bool) {ls : List Lay} {lo hi : Int} {ys : List Yr} (hp : placeB ls lo hi = true) (hy : ys.all yrB = true) : possT ls lo hi ys (extT warm ls lo hi ys) = true := by
  obtain ⟨_, ⟨a1, a2, a3⟩, hl⟩ := placeB_spec hp
  have hq := yrB_spec hy
  have h1 : allB (extT warm ls lo hi ys).ms (laySpans ls) = true := allB_maps fun x hx => by have := hl x hx; cases warm <;> simp <;> omega
  have h2 : allB (extT warm ls lo hi ys).ws (warmSpans lo hi ys) = true := allB_maps fun x _ => by cases warm <;> simp <;> omega
  have h3 : allB (extT warm ls lo hi ys).ss (sumSpans ys) = true := allB_maps fun x hx => by have := hq x hx; cases warm <;> simp <;> omega
  have h4 : allB (extT warm ls lo hi ys).vs (winSpans ys) = true := allB_maps fun x hx => by have := hq x hx; cases warm <;> simp <;> omega
  have h5 : allB (extT warm ls lo hi ys).ns (snowSpans ys) = true := allB_maps fun x hx => by have := hq x hx; cases warm <;> simp <;> omega
  unfold possT possB
  rw [h1, h2, h3, h4, h5]
  rfl

set_option maxRecDepth 100000 in
set_option maxHeartbeats 4000000 in
theorem sharp_far (warm : Bool) (A A2 : Option Addr) (n c m c' : Nat) (lo hi : Int) (w : World) (ht : Tab w) (hn : n ≤ maxLen) (hm : m ≤ maxLen) (hs : decide (n ≤ 12 ∧ m ≤ 17) = false) :
    Calls Tryd.prog 7 #[.agg #[.slice A n c, .int .i64 lo, .int .i64 hi], .slice A2 m c', .bool warm] w fun e w' => e = .returned (.bool true) ∧ Below w.heap.size w w' := by
  have HT := Lib.hid ht
  have HN := Lib.hid hn; have HM := Lib.hid hm
  have HS := Lib.hid hs
  clear hn hm ht hs
  have HB1 := Lib.hid ((Below.refl w.heap.size w).alloc (Nat.le_refl _) (.cells #[.slice A n c, .int .i64 lo, .int .i64 hi] 26))
  go_enter Tryd.func7, Tryd.ntmps7
  go_wp2_with fail
  refine (short_any A A2 n m c c' lo hi _ HN.out HM.out).mono ?_
  rintro e w2 ⟨rfl, hb2⟩
  rw [HS.out]
  have HB2 := Lib.hid (HB1.out.trans (hb2.mono HB1.out.size))
  clear hb2
  go_wp2_with fail
  refine (known_any _ (HT.out.next HB2.out)).mono ?_
  rintro e w3 ⟨rfl, hb3⟩
  have HB3 := Lib.hid (HB2.out.trans (hb3.mono HB2.out.size))
  clear hb3
  go_wp2_with fail
  go_ret
  exact ⟨rfl, HB3.out⟩
set_option maxRecDepth 100000 in
set_option maxHeartbeats 4000000 in
theorem sharp_bad (r : Int) (warm : Bool) (A A2 : Option Addr) (n c m c' : Nat) (ls : List Lay) (ys : List Yr) (lo hi : Int) (w : World) (ht : Tab w) (hl : ls.length = n) (hn : n ≤ maxLen) (hL : LaysAt w w.heap.size A ls) (hy : ys.length = m) (hm : m ≤ maxLen) (hY : YrsAt w w.heap.size A2 ys)
    (hs : decide (n ≤ 12 ∧ m ≤ 17) = true) (hr : yearsI ls lo hi ys = r) (hr0 : ¬ r = 0) :
    Calls Tryd.prog 7 #[.agg #[.slice A n c, .int .i64 lo, .int .i64 hi], .slice A2 m c', .bool warm] w fun e w' => e = .returned (.bool true) ∧ Below w.heap.size w w' := by
  have HT := Lib.hid ht
  have HN := Lib.hid hn; have HM := Lib.hid hm; have HL := Lib.hid hl; have HY := Lib.hid hy
  have HS := Lib.hid hs; have HR := Lib.hid hr
  clear hn hm ht hs hr hl hy
  have HB1 := Lib.hid ((Below.refl w.heap.size w).alloc (Nat.le_refl _) (.cells #[.slice A n c, .int .i64 lo, .int .i64 hi] 26))
  have Z1 := Lib.hid (heap_alloc_new w (.cells #[.slice A n c, .int .i64 lo, .int .i64 hi] 26))
  go_enter Tryd.func7, Tryd.ntmps7
  go_wp2_with fail
  refine (short_any A A2 n m c c' lo hi _ HN.out HM.out).mono ?_
  rintro e w2 ⟨rfl, hb2⟩
  rw [HS.out]
  have HB2 := Lib.hid (HB1.out.trans (hb2.mono HB1.out.size))
  have Z2 := Lib.hid ((hb2.block _ (Array.getElem?_eq_some_iff.1 Z1.out).1).trans Z1.out)
  clear hb2
  have p0 := cell_of_row w2 w.heap.size 0 _ 26 (0, 0) Z2.out
  have p1 := cell_of_row w2 w.heap.size 1 _ 26 (0, 0) Z2.out
  have p2 := cell_of_row w2 w.heap.size 2 _ 26 (0, 0) Z2.out
  simp at p0 p1 p2
  go_wp2_with fail
  refine (wanted_is r A A2 n c m c' ls ys lo hi _ HL.out HN.out (hL.next HB2.out) HY.out HM.out (hY.next HB2.out) HR.out).mono ?_
  rintro e w3 ⟨rfl, hb3⟩
  have HB3 := Lib.hid (HB2.out.trans (hb3.mono HB2.out.size))
  clear hb3 p0 p1 p2
  go_wp2_with fail
  refine (known_any _ (HT.out.next HB3.out)).mono ?_
  rintro e w4 ⟨rfl, hb4⟩
  have HB4 := Lib.hid (HB3.out.trans (hb4.mono HB3.out.size))
  clear hb4
  go_wp2_with fail
  go_ret
  exact ⟨rfl, HB4.out⟩

set_option maxRecDepth 100000 in
set_option maxHeartbeats 4000000 in
theorem sharp_good (warm : Bool) (A A2 : Option Addr) (n c m c' : Nat) (ls : List Lay) (ys : List Yr) (lo hi : Int) (w : World) (ht : Tab w) (hl : ls.length = n) (hcap : n ≤ c) (hn : n ≤ maxLen) (hL : LaysAt w w.heap.size A ls) (hy : ys.length = m) (hm : m ≤ maxLen) (hY : YrsAt w w.heap.size A2 ys)
    (hs : decide (n ≤ 12 ∧ m ≤ 17) = true) (hr : yearsI ls lo hi ys = 0) :
    Calls Tryd.prog 7 #[.agg #[.slice A n c, .int .i64 lo, .int .i64 hi], .slice A2 m c', .bool warm] w fun e w' => e = .returned (.bool true) ∧ Below w.heap.size w w' := by
  obtain ⟨v1, v2, v3⟩ := yearsI_zero hr
  obtain ⟨⟨v4, v5⟩, _, v6⟩ := placeB_spec v2
  have hP := possT_ext warm v2 v3
  have hK := extT_ok warm v2 v3
  rw [hl, hy] at hK
  have N6 : Hid (n ≤ 6) := Lib.hid (by omega)
  have M12 : Hid (m ≤ 12) := Lib.hid (by omega)
  obtain ⟨T, hT⟩ : ∃ T, extT warm ls lo hi ys = T := ⟨_, rfl⟩
  obtain ⟨S, hS⟩ : ∃ S, runS ls T 0 m = S := ⟨_, rfl⟩
  obtain ⟨SC, hSC⟩ : ∃ S, runS ls (extT false ls lo hi ys) 0 m = S := ⟨_, rfl⟩
  obtain ⟨SW, hSW⟩ : ∃ S, runS ls (extT true ls lo hi ys) 0 m = S := ⟨_, rfl⟩
  have hsame : S = if warm then SW else SC := by
    rw [← hS, ← hT, ← hSC, ← hSW]
    cases warm <;> rfl
  have hlen := (runS_len ls T 0 m).1
  rw [hS] at hlen
  obtain ⟨I, hI⟩ : ∃ x, S.In = x := ⟨_, rfl⟩
  obtain ⟨O, hO⟩ : ∃ x, S.Out = x := ⟨_, rfl⟩
  obtain ⟨F, hF⟩ : ∃ x, S.Lf = x := ⟨_, rfl⟩
  rw [hT] at hP hK
  have HP := Lib.hid hP; have TK := Lib.hid hK; have HTT := Lib.hid hT; have HSS := Lib.hid hS; have HSC := Lib.hid hSC; have HSW := Lib.hid hSW; have SAME := Lib.hid hsame; have LEN := Lib.hid hlen
  have HI := Lib.hid hI; have HO := Lib.hid hO; have HF := Lib.hid hF
  have HT := Lib.hid ht; have HS := Lib.hid hs; have HR := Lib.hid hr
  have HL := Lib.hid hl; have HY := Lib.hid hy
  have HN := Lib.hid hn; have HM := Lib.hid hm; have HCAP := Lib.hid hcap
  clear hl hy hn hm ht hcap hs hr v1 v2 v3 v4 v5 v6 hP hK hT hS hSC hSW hsame hlen hI hO hF
  have HB1 := Lib.hid ((Below.refl w.heap.size w).alloc (Nat.le_refl _) (.cells #[.slice A n c, .int .i64 lo, .int .i64 hi] 26))
  have Z1 := Lib.hid (heap_alloc_new w (.cells #[.slice A n c, .int .i64 lo, .int .i64 hi] 26))
  go_enter Tryd.func7, Tryd.ntmps7
  go_wp2_with fail
  refine (short_any A A2 n m c c' lo hi _ HN.out HM.out).mono ?_
  rintro e w2 ⟨rfl, hb2⟩
  rw [HS.out]
  have HB2 := Lib.hid (HB1.out.trans (hb2.mono HB1.out.size))
  have Z2 := Lib.hid ((hb2.block _ (Array.getElem?_eq_some_iff.1 Z1.out).1).trans Z1.out)
  clear hb2
  have p0 := cell_of_row w2 w.heap.size 0 _ 26 (0, 0) Z2.out
  have p1 := cell_of_row w2 w.heap.size 1 _ 26 (0, 0) Z2.out
  have p2 := cell_of_row w2 w.heap.size 2 _ 26 (0, 0) Z2.out
  simp at p0 p1 p2
  go_wp2_with fail
  refine (wanted_is 0 A A2 n c m c' ls ys lo hi _ HL.out HN.out (hL.next HB2.out) HY.out HM.out (hY.next HB2.out) HR.out).mono ?_
  rintro e w3 ⟨rfl, hb3⟩
  have HB3 := Lib.hid (HB2.out.trans (hb3.mono HB2.out.size))
  have Z3 := Lib.hid ((hb3.block _ (Array.getElem?_eq_some_iff.1 Z2.out).1).trans Z2.out)
  clear hb3 p0 p1 p2
  have p0 := cell_of_row w3 w.heap.size 0 _ 26 (0, 0) Z3.out
  have p1 := cell_of_row w3 w.heap.size 1 _ 26 (0, 0) Z3.out
  have p2 := cell_of_row w3 w.heap.size 2 _ 26 (0, 0) Z3.out
  simp at p0 p1 p2
  go_wp2_with fail
  refine (endT_any warm A A2 n c m c' ls ys lo hi _ HL.out N6.out (hL.next HB3.out) HY.out M12.out (hY.next HB3.out)).mono ?_
  rintro e w4 ⟨v, rfl, hb4, hv⟩
  rw [HTT.out] at hv
  obtain ⟨u0, u1, u2, u3, u4, rfl, ⟨a0, c0, rfl, k0, i0⟩, ⟨a1, c1, rfl, k1, i1⟩, ⟨a2, c2, rfl, k2, i2⟩, ⟨a3, c3, rfl, k3, i3⟩, ⟨a4, c4, rfl, k4, i4⟩⟩ := hv
  rw [TK.out.lm, TK.out.lw, TK.out.lS, TK.out.lv, TK.out.ln] at *
  have HB4 := Lib.hid (HB3.out.trans (hb4.mono HB3.out.size))
  have Z4 := Lib.hid ((hb4.block _ (Array.getElem?_eq_some_iff.1 Z3.out).1).trans Z3.out)
  have J0 := Lib.hid i0; have J1 := Lib.hid i1; have J2 := Lib.hid i2; have J3 := Lib.hid i3; have J4 := Lib.hid i4
  have K0 := Lib.hid k0; have K1 := Lib.hid k1; have K2 := Lib.hid k2; have K3 := Lib.hid k3; have K4 := Lib.hid k4
  clear hb4 p0 p1 p2 i0 i1 i2 i3 i4 k0 k1 k2 k3 k4
  have p0 := cell_of_row w4 w.heap.size 0 _ 26 (0, 0) Z4.out
  have p1 := cell_of_row w4 w.heap.size 1 _ 26 (0, 0) Z4.out
  have p2 := cell_of_row w4 w.heap.size 2 _ 26 (0, 0) Z4.out
  have ltp := (Array.getElem?_eq_some_iff.1 Z4.out).1
  simp at p0 p1 p2
  go_wp2_with fail
  obtain ⟨W5, hW5⟩ : ∃ W, w4.alloc (.cells #[.slice a0 n c0, .slice a1 m c1, .slice a2 m c2, .slice a3 m c3, .slice a4 m c4] 41) = W := ⟨_, rfl⟩
  rw [hW5]
  have y5 : W5.heap[w4.heap.size]? = some (.cells #[.slice a0 n c0, .slice a1 m c1, .slice a2 m c2, .slice a3 m c3, .slice a4 m c4] 41 (0, 0)) := by rw [← hW5]; exact heap_alloc_new w4 _
  have hb5 : Below w4.heap.size w4 W5 := by rw [← hW5]; exact (Below.refl _ _).alloc (Nat.le_refl _) _
  have HB5 := Lib.hid (HB4.out.trans (hb5.mono HB4.out.size))
  have Z5 := Lib.hid ((hb5.block _ ltp).trans Z4.out)
  have Y5 := Lib.hid y5
  have U0 := Lib.hid (J0.out.next hb5); have U1 := Lib.hid (J1.out.next hb5); have U2 := Lib.hid (J2.out.next hb5); have U3 := Lib.hid (J3.out.next hb5); have U4 := Lib.hid (J4.out.next hb5)
  clear hW5 hb5 y5 p0 p1 p2 ltp J0 J1 J2 J3 J4
  refine (years_ok A A2 n c m c' ls ys lo hi _ HL.out HN.out HCAP.out (hL.next HB5.out) HY.out HM.out (hY.next HB5.out) HR.out).mono ?_
  rw [HSC.out, HSW.out]
  rintro e w6 ⟨SB, sk, rfl, hs, hb6⟩
  have HB6 := Lib.hid (HB5.out.trans (hb6.mono HB5.out.size))
  have Z6 := Lib.hid ((hb6.block _ (Array.getElem?_eq_some_iff.1 Z5.out).1).trans Z5.out)
  have Y6 := Lib.hid ((hb6.block _ (Array.getElem?_eq_some_iff.1 Y5.out).1).trans Y5.out)
  have HSN := Lib.hid hs
  have J0 := Lib.hid (U0.out.next hb6); have J1 := Lib.hid (U1.out.next hb6); have J2 := Lib.hid (U2.out.next hb6); have J3 := Lib.hid (U3.out.next hb6); have J4 := Lib.hid (U4.out.next hb6)
  clear hb6 hs U0 U1 U2 U3 U4
  have p0 := cell_of_row w6 w.heap.size 0 _ 26 (0, 0) Z6.out
  have p1 := cell_of_row w6 w.heap.size 1 _ 26 (0, 0) Z6.out
  have p2 := cell_of_row w6 w.heap.size 2 _ 26 (0, 0) Z6.out
  have t0 := cell_of_row w6 w4.heap.size 0 _ 41 (0, 0) Y6.out
  have t1 := cell_of_row w6 w4.heap.size 1 _ 41 (0, 0) Y6.out
  have t2 := cell_of_row w6 w4.heap.size 2 _ 41 (0, 0) Y6.out
  have t3 := cell_of_row w6 w4.heap.size 3 _ 41 (0, 0) Y6.out
  have t4 := cell_of_row w6 w4.heap.size 4 _ 41 (0, 0) Y6.out
  simp at p0 p1 p2 t0 t1 t2 t3 t4
  go_wp2_with fail
  refine (play_ok A A2 n c m c' ls ys lo hi T _ _ _ _ _ _ HL.out HN.out HCAP.out (hL.next HB6.out) HY.out HM.out (hY.next HB6.out) (sl_of TK.out.lm K0.out J0.out) (sl_of TK.out.lw K1.out J1.out) (sl_of TK.out.lS K2.out J2.out) (sl_of TK.out.lv K3.out J3.out) (sl_of TK.out.ln K4.out J4.out)
    (by rw [TK.out.lm]; exact HN.out) (by rw [TK.out.lw]; exact HM.out) (by rw [TK.out.lS]; exact HM.out) (by rw [TK.out.lv]; exact HM.out) (by rw [TK.out.ln]; exact HM.out) HR.out HP.out S HSS.out).mono ?_
  rintro e w7 ⟨B, kk, rfl, hd, hb7⟩
  rw [HI.out, HO.out, HF.out]
  have HB7 := Lib.hid (HB6.out.trans (hb7.mono HB6.out.size))
  have SN7 := Lib.hid (HSN.out.next_ hb7)
  have D7 := Lib.hid hd
  have hm0 : (0 : Int) ≤ (m : Int) := by omega
  have hm12 : (m : Int) ≤ 12 := by have := M12.out; omega
  clear p0 p1 p2 t0 t1 t2 t3 t4 hb7 hd J0 J1 J2 J3 J4
  go_wp2_with fail
  obtain ⟨W8, hW8⟩ : ∃ W, w7.alloc (.cells #[.int .i64 I, .int .i64 O, .int .i64 F] 44) = W := ⟨_, rfl⟩
  rw [hW8]
  have z8 : W8.heap[w7.heap.size]? = some (.cells #[.int .i64 I, .int .i64 O, .int .i64 F] 44 (0, 0)) := by rw [← hW8]; exact heap_alloc_new w7 _
  have hb8 : Below w7.heap.size w7 W8 := by rw [← hW8]; exact (Below.refl _ _).alloc (Nat.le_refl _) _
  have HB8 := Lib.hid (HB7.out.trans (hb8.mono HB7.out.size))
  have Z8 := Lib.hid z8
  have SN8 := Lib.hid (SN7.out.next_ hb8)
  have D8 := Lib.hid (D7.out.next hb8)
  clear hW8 hb8 z8
  go_loopw [13] (fun i wr => ∃ k : Nat, k ≤ m ∧ i = .int .i64 k ∧ Below W8.heap.size W8 wr) (fun i _ => m - (intOf i).toNat)
  case atStart => exact ⟨0, Nat.zero_le _, rfl, Below.refl _ _⟩
  case round =>
    obtain ⟨k, hk, rfl, hbr⟩ := hrel
    have HBR := Lib.hid hbr
    by_cases hlt : k < m
    · obtain ⟨x1, x1'⟩ := at0_mem (l := S.th) (k := k) (by rw [LEN.out]; exact hlt)
      obtain ⟨b1, o1, rfl, lb1, c1_⟩ := D8.out (by intro h; rw [h] at x1; simp at x1)
      replace c1_ := ((bcell hbr).1 _ _ lb1).trans (c1_ k _ x1)
      obtain ⟨sb, so, rfl, lsb, hcs⟩ := SN8.out (by intro h; have := congrArg List.length h; simp [seenI] at this; omega)
      obtain ⟨s0, s1, _, _, _⟩ := hcs k _ (seenI_get hlt)
      replace s0 := ((bcell hbr).1 _ _ lsb).trans s0
      replace s1 := ((bcell hbr).1 _ _ lsb).trans s1
      replace s0 : wr.cell? ⟨sb, so + k * 5, none⟩ = some (.int .i64 (at0 SC.th k)) := s0
      replace s1 : wr.cell? ⟨sb, so + k * 5 + 1, none⟩ = some (.int .i64 (at0 SW.th k)) := s1
      replace lb1 := Nat.lt_of_lt_of_le lb1 hbr.size
      replace lsb := Nat.lt_of_lt_of_le lsb hbr.size
      have hk0 : (0 : Int) ≤ (k : Int) := by omega
      have hk1 : (k : Int) < (m : Int) := by omega
      rw [SAME.out] at c1_
      clear x1 x1' hcs hbr
      obtain ⟨xc, hxc⟩ : ∃ x, at0 SC.th k = x := ⟨_, rfl⟩
      obtain ⟨xw, hxw⟩ : ∃ x, at0 SW.th k = x := ⟨_, rfl⟩
      cases warm
      all_goals
        simp only [Bool.false_eq_true, if_false, if_true] at c1_
        rw [hxc] at s0
        rw [hxw] at s1
        first | rw [hxc] at c1_ | rw [hxw] at c1_
        clear hxc hxw
        go_wp2_with fail
        replace c1_ : ∀ u : KeptW wr, u.w.cell? ⟨b1, o1 + k, none⟩ = some (.int .i64 _) := fun u => ((bcell u.h).1 _ _ lb1).trans c1_
        replace s0 : ∀ u : KeptW wr, u.w.cell? ⟨sb, so + k * 5, none⟩ = some (.int .i64 xc) := fun u => ((bcell u.h).1 _ _ lsb).trans s0
        replace s1 : ∀ u : KeptW wr, u.w.cell? ⟨sb, so + k * 5 + 1, none⟩ = some (.int .i64 xw) := fun u => ((bcell u.h).1 _ _ lsb).trans s1
        refine rk_region (by kernel_rfl) (by kernel_rfl) ?_
        repeat (go_big_quiet_step (fail))
        refine wpQuiet_nil ?_
        rintro wz ⟨⟨_, hbz⟩, rfl⟩
        have BZ := Lib.hid (HBR.out.trans (hbz.mono HBR.out.size))
        clear c1_ s0 s1 hbz
        go_wp2_with fail
        exact ⟨⟨k + 1, by omega, by go_num, BZ.out⟩, by simp [intOf]; omega⟩
    · obtain rfl : k = m := by omega
      have q2 := cell_of_row wr w7.heap.size 2 _ 44 (0, 0) (((hbr.block _ (Array.getElem?_eq_some_iff.1 Z8.out).1)).trans Z8.out)
      have l8 : w7.heap.size < wr.heap.size := Nat.lt_of_lt_of_le (Array.getElem?_eq_some_iff.1 Z8.out).1 hbr.size
      have SN := Lib.hid (SN8.out.next_ hbr)
      simp at q2
      clear hbr
      by_cases hk0 : k = 0
      · have hz : ((k : Int)) = 0 := by omega
        clear hk0
        go_wp2_with fail
        refine rk_region (by kernel_rfl) (by kernel_rfl) ?_
        repeat (go_big_quiet_step (fail))
        refine wpQuiet_nil ?_
        rintro wy ⟨⟨_, hby⟩, rfl⟩
        have BY := Lib.hid (HB8.out.trans ((HBR.out.trans (hby.mono HBR.out.size)).mono HB8.out.size))
        clear hby
        go_wp2_with fail
        refine (known_any _ (HT.out.next BY.out)).mono ?_
        rintro e w9 ⟨rfl, hb9⟩
        have HB9 := Lib.hid (BY.out.trans (hb9.mono BY.out.size))
        clear hb9
        go_wp2_with fail
        go_ret
        exact ⟨rfl, HB9.out⟩
      · obtain ⟨j, hj⟩ : ∃ j : Nat, k = j + 1 := ⟨k - 1, by omega⟩
        have hj1 : j < k := by omega
        have hs := SN.out
        obtain ⟨sb, so, rfl, lsb, hcs⟩ := hs (by intro h; have := congrArg List.length h; simp [seenI] at this; omega)
        obtain ⟨_, _, s2, s3, _⟩ := hcs j _ (seenI_get hj1)
        replace s2 : wr.cell? ⟨sb, so + j * 5 + 2, none⟩ = some (.int .i64 (at0 SC.lf j)) := s2
        replace s3 : wr.cell? ⟨sb, so + j * 5 + 3, none⟩ = some (.int .i64 (at0 SW.lf j)) := s3
        have f1 : at0 SC.lf j = SC.Lf := by
          have := (lf_at ls (extT false ls lo hi ys) 0 k j hj1).1
          rw [HSC.out, ← hj, HSC.out] at this
          exact this
        have f2 : at0 SW.lf j = SW.Lf := by
          have := (lf_at ls (extT true ls lo hi ys) 0 k j hj1).1
          rw [HSW.out, ← hj, HSW.out] at this
          exact this
        rw [f1] at s2
        rw [f2] at s3
        have hF := HF.out
        rw [SAME.out] at hF
        obtain ⟨x1, hx1⟩ : ∃ x, SC.Lf = x := ⟨_, rfl⟩
        obtain ⟨x2, hx2⟩ : ∃ x, SW.Lf = x := ⟨_, rfl⟩
        have hz : ((k : Int)) - 1 = (j : Int) := by omega
        have hp : (0 : Int) < (k : Int) := by omega
        have hpn : 0 < k := by omega
        have hj2 : (j : Int) < (k : Int) := by omega
        have hj0 : (0 : Int) ≤ (j : Int) := by omega
        clear hj hk0 hcs hs f1 f2
        cases warm
        all_goals
          simp only [Bool.false_eq_true, if_false, if_true] at hF
          rw [hx1] at s2
          rw [hx2] at s3
          have hFx := hF.symm.trans (by first | exact hx1 | exact hx2)
          rw [hFx] at q2
          clear hF hFx hx1 hx2
          go_wp2_with fail
          replace s2 : ∀ u : KeptW wr, u.w.cell? ⟨sb, so + j * 5 + 2, none⟩ = some (.int .i64 x1) := fun u => ((bcell u.h).1 _ _ lsb).trans s2
          replace s3 : ∀ u : KeptW wr, u.w.cell? ⟨sb, so + j * 5 + 3, none⟩ = some (.int .i64 x2) := fun u => ((bcell u.h).1 _ _ lsb).trans s3
          replace q2 : ∀ u : KeptW wr, u.w.cell? ⟨w7.heap.size, 2, none⟩ = some (.int .i64 _) := fun u => ((bcell u.h).1 _ _ l8).trans q2
          refine rk_region (by kernel_rfl) (by kernel_rfl) ?_
          repeat (go_big_quiet_step (fail))
          refine wpQuiet_nil ?_
          rintro wy ⟨⟨_, hby⟩, rfl⟩
          have BY := Lib.hid (HB8.out.trans ((HBR.out.trans (hby.mono HBR.out.size)).mono HB8.out.size))
          clear hby s2 s3 q2
          go_wp2_with fail
          refine (known_any _ (HT.out.next BY.out)).mono ?_
          rintro e w9 ⟨rfl, hb9⟩
          have HB9 := Lib.hid (BY.out.trans (hb9.mono BY.out.size))
          clear hb9
          go_wp2_with fail
          go_ret
          exact ⟨rfl, HB9.out⟩
theorem sharp_any (warm : Bool) (A A2 : Option Addr) (n c m c' : Nat) (ls : List Lay) (ys : List Yr) (lo hi : Int) (w : World) (ht : Tab w) (hl : ls.length = n) (hcap : n ≤ c) (hn : n ≤ maxLen) (hL : LaysAt w w.heap.size A ls) (hy : ys.length = m) (hm : m ≤ maxLen) (hY : YrsAt w w.heap.size A2 ys) :
    Calls Tryd.prog 7 #[.agg #[.slice A n c, .int .i64 lo, .int .i64 hi], .slice A2 m c', .bool warm] w fun e w' => e = .returned (.bool true) ∧ Below w.heap.size w w' := by
  cases hs : decide (n ≤ 12 ∧ m ≤ 17) with
  | false => exact sharp_far warm A A2 n c m c' lo hi w ht hn hm hs
  | true =>
    by_cases hr : yearsI ls lo hi ys = 0
    · exact sharp_good warm A A2 n c m c' ls ys lo hi w ht hl hcap hn hL hy hm hY hs hr
    · exact sharp_bad _ warm A A2 n c m c' ls ys lo hi w ht hl hn hL hy hm hY hs rfl hr
end Go.Proofs.YtccekbdhffccdaaDoor
