/- The statement on books: the statement's function. -/
import Derived.Test.YtdlaphlpimlgdaaGreatDoorEX
namespace Go.Proofs.YtdlaphlpimlgdaaGreatDoor
open Go.RowKit Go.Shelf

set_option maxRecDepth 100000 in
set_option maxHeartbeats 2000000 in
theorem sameRows_is (A A2 : Option Addr) (n c c' : Nat) (L : List (List Int)) (w : World) (hl : L.length = n) (hn : n ≤ maxLen) (hX : LvsAt w w.heap.size A L) (hY : LvsAt w w.heap.size A2 L) :
    Calls Tryz.prog 33 #[.slice A n c, .slice A2 n c'] w fun e w' => e = .returned (.bool true) ∧ Below w.heap.size w w' := by
  unfold maxLen at hn
  have HL := Lib.hid hl; have HX := Lib.hid hX; have HY := Lib.hid hY
  clear hl hX hY
  go_enter Tryz.func33, Tryz.ntmps33
  go_wp2_with fail
  go_loopw [5] (fun i wr => ∃ k : Nat, k ≤ n ∧ i = .int .i64 k ∧ Below w.heap.size w wr) (fun i _ => n - (intOf i).toNat)
  case atStart => exact ⟨0, Nat.zero_le _, rfl, Below.refl _ _⟩
  case round =>
    obtain ⟨k, hk, rfl, hbr⟩ := hrel
    have HBR := Lib.hid hbr
    by_cases hlt : k < n
    · have k0 : (0 : Int) ≤ (k : Int) := by omega
      have k1 : (k : Int) < (n : Int) := by omega
      obtain ⟨row, hrow⟩ := get_of_lt (l := L) (k := k) (by rw [HL.out]; exact hlt)
      obtain ⟨b1, o1, B1, m1, c1, rfl, hb1, hm1, d1, p1, hx1⟩ := lvs_row HX.out hrow
      obtain ⟨b2, o2, B2, m2, c2, rfl, hb2, hm2, d2, p2, hx2⟩ := lvs_row HY.out hrow
      have HC := Lib.hid fun u : KeptW wr => Calls.in_kept u (by
        have h1 := same_any B1 B2 m1 m2 c1 c2 row row u.w hm1.symm hm2.symm hx1 hx2 (RowAt.up (k := 1) (R := intR) p1 (hbr.trans (u.h.mono hbr.size))) (RowAt.up (k := 1) (R := intR) p2 (hbr.trans (u.h.mono hbr.size)))
        rw [decide_eq_true rfl] at h1
        exact h1)
      have e1 := fun u : KeptW wr => ((bcell (hbr.trans (u.h.mono hbr.size))).1 _ _ hb1).trans d1
      have e2 := fun u : KeptW wr => ((bcell (hbr.trans (u.h.mono hbr.size))).1 _ _ hb2).trans d2
      clear hrow hb1 hb2 hm1 hm2 d1 d2 p1 p2 hx1 hx2 hbr
      go_wp2_with fail
      refine rk_region (by kernel_rfl) (by kernel_rfl) ?_
      repeat (go_big_quiet_step (first | (with_reducible exact HC.out _) | fail))
      refine wpQuiet_nil ?_
      rintro _ ⟨u, rfl⟩
      clear e1 e2 HC
      go_wp2_with fail
      go_roundw
      case rel => exact ⟨k + 1, by omega, by go_num, HBR.out.trans (u.h.mono HBR.out.size)⟩
      case measure => simp [intOf]; omega
    · have hk1 : ¬ (k : Int) < (n : Int) := by omega
      go_wp2_with fail
      go_ret
      exact ⟨rfl, HBR.out⟩
theorem head_row {ts : List (List Int)} {r : List Int} (h : ts[0]? = some r) : ts.headD [] = r := by
  cases ts with
  | nil => simp at h
  | cons z zs => simp at h; exact h
set_option maxRecDepth 100000 in
set_option maxHeartbeats 4000000 in
theorem books_law (A : Option Addr) (n c : Nat) (ts : List (List Int)) (w : World) (ht : Tab w) (hx : MaxW w) (hl : ts.length = n) (hn : n ≤ maxLen) (hT : LvsAt w w.heap.size A ts) :
    Calls Tryz.prog 14 #[.slice A n c] w fun e w' => e = .returned (.bool true) ∧ Below w.heap.size w w' := by
  have HT := Lib.hid ht; have HX := Lib.hid hx; have HL := Lib.hid hT; have HN := Lib.hid hn; have HLN := Lib.hid hl
  have HKN : Hid (∀ u, Below w.heap.size w u → Calls Tryz.prog 19 #[] u fun e w' => e = .returned (.bool true) ∧ Below w.heap.size w w') := Lib.hid fun u hu => (known_any u (HT.out.next hu)).mono fun e w' h => ⟨h.1, hu.trans (h.2.mono hu.size)⟩
  have HB0 := Lib.hid (Below.refl w.heap.size w)
  unfold maxLen at hn
  clear ht hx hl hT
  go_enter Tryz.func14, Tryz.ntmps14
  go_wp2_with fail
  go_loopw [3] (fun i wr => ∃ k : Nat, k ≤ n ∧ i = .int .i64 k ∧ w = wr) (fun i _ => n - (intOf i).toNat)
  case atStart => exact ⟨0, Nat.zero_le _, rfl, rfl⟩
  case round =>
    obtain ⟨k, hk, rfl, rfl⟩ := hrel
    by_cases hlt : k < n
    · obtain ⟨row, hrow⟩ := get_of_lt (l := ts) (k := k) (by rw [HLN.out]; exact hlt)
      obtain ⟨b1, o1, A1, m, c1, rfl, hb1, hm1, d1, p1, hmx⟩ := lvs_row HL.out hrow
      unfold maxLen at hmx
      have k0 : (0 : Int) ≤ (k : Int) := by omega
      have k1 : (k : Int) < (n : Int) := by omega
      clear hrow hm1 p1
      by_cases hm : 10 < m
      · have hm' : (10 : Int) < (m : Int) := by omega
        go_wp2_with fail
        refine (HKN.out _ HB0.out).mono ?_
        rintro e w5 ⟨rfl, hb5⟩
        have HB5 := Lib.hid hb5
        clear hb5
        go_wp2_with fail
        go_ret
        exact ⟨rfl, HB5.out⟩
      by_cases hk13 : 13 < k
      · have hm' : ¬ (10 : Int) < (m : Int) := by omega
        have hk' : (13 : Int) < (k : Int) := by omega
        go_wp2_with fail
        refine (HKN.out _ HB0.out).mono ?_
        rintro e w5 ⟨rfl, hb5⟩
        have HB5 := Lib.hid hb5
        clear hb5
        go_wp2_with fail
        go_ret
        exact ⟨rfl, HB5.out⟩
      have hm' : ¬ (10 : Int) < (m : Int) := by omega
      have hk' : ¬ (13 : Int) < (k : Int) := by omega
      go_wp2_with fail
      exact ⟨⟨k + 1, by omega, by go_num, trivial⟩, by simp [intOf]; omega⟩
    · have hke : k = n := by omega
      have k1 : ¬ (k : Int) < (n : Int) := by omega
      subst hke
      go_wp2_with fail
      refine (Print_any A k c ts _ HLN.out HN.out HL.out HT.out).mono ?_
      rintro e w3 ⟨rfl, hb3⟩
      have HB3 := Lib.hid hb3
      clear hb3
      cases hp : bookB ts with
      | false =>
        have hr : printR ts = ([], 2) := by simp [printR, hp]
        have HRB : Hid (Calls Tryz.prog 55 #[.slice A k c] w3 fun e w' => e = .returned (.bool false) ∧ Below w.heap.size w w') := Lib.hid (by
          refine (refBook_any A k c ts w3 HLN.out HN.out (HL.out.up HB3.out)).mono ?_
          rintro e w' ⟨rfl, h⟩
          exact ⟨by rw [hp], HB3.out.trans (h.mono HB3.out.size)⟩)
        rw [hr]
        clear hr hp
        go_wp2_with fail
        refine HRB.out.mono ?_
        rintro e w4 ⟨rfl, hb4⟩
        have HB4 := Lib.hid hb4
        clear hb4
        go_wp2_with fail
        refine (HKN.out _ HB4.out).mono ?_
        rintro e w5 ⟨rfl, hb5⟩
        have HB5 := Lib.hid hb5
        clear hb5
        go_wp2_with fail
        go_ret
        exact ⟨rfl, HB5.out⟩
      | true =>
        have HP := Lib.hid hp
        have hr : printR ts = (bookT ts, 0) := by simp [printR, hp]
        have HRB : Hid (Calls Tryz.prog 55 #[.slice A k c] w3 fun e w' => e = .returned (.bool true) ∧ Below w.heap.size w w') := Lib.hid (by
          refine (refBook_any A k c ts w3 HLN.out HN.out (HL.out.up HB3.out)).mono ?_
          rintro e w' ⟨rfl, h⟩
          exact ⟨by rw [hp], HB3.out.trans (h.mono HB3.out.size)⟩)
        rw [hr]
        obtain ⟨T, hTT⟩ : ∃ T : ByteArray, (⟨(bookT ts).toArray⟩ : ByteArray) = T := ⟨_, rfl⟩
        have hsz : T.size ≤ 1000 := by rw [← hTT]; show (bookT ts).toArray.size ≤ 1000; rw [List.size_toArray]; exact bookT_len hp
        have HTL : Hid (T.data.toList = bookT ts) := Lib.hid (by rw [← hTT])
        have HTT := Lib.hid hTT
        simp only [hTT]
        obtain ⟨⟨b1, b2⟩, np, ⟨b3, b4⟩, b5, b6⟩ := book_spec hp
        have hnk := HLN.out
        obtain ⟨row, hrow⟩ := get_of_lt (l := ts) (k := 0) (by omega)
        have HNP := Lib.hid b5
        rw [head_row hrow] at b5
        obtain ⟨b1', o1, A1, m, c1, rfl, hb1, hm1, d1, p1, hmx⟩ := lvs_row HL.out hrow
        rw [b5] at hm1
        subst hm1
        rw [Nat.add_zero] at d1
        have HD1 := Lib.hid d1; have HBL := Lib.hid hb1
        have k0 : (0 : Int) < (k : Int) := by omega
        have HSZ := Lib.hid hsz
        clear hr hp hTT hrow b5 b6 b1 b2 p1 d1 hb1 hnk hsz hmx
        go_wp2_with fail
        refine HRB.out.mono ?_
        rintro e w4 ⟨rfl, hb4⟩
        have HB4 := Lib.hid hb4
        clear hb4
        go_wp2_with fail
        refine (Read_any T w4 (HT.out.next HB4.out) (HX.out.next HB4.out) HSZ.out).mono ?_
        rintro e w5 ⟨hpost, hb5⟩
        have HB5 := Lib.hid (HB4.out.trans (hb5.mono HB4.out.size))
        clear hb5
        rw [HTL.out] at hpost
        rcases hpost with ⟨ts', ps', AV, cV, hd', ht', hb', rfl, hcV, hLV⟩ | ⟨ts', ps', hd', ht', hb', rfl⟩ | ⟨hno, rfl⟩
        · have e1 := docT_inj hd' (ht'.symm.trans (docT_book ts))
          obtain rfl : ts' = ts := e1.1
          rw [HLN.out]
          have HLV := Lib.hid hLV
          have d1 := ((bcell HB5.out).1 _ _ HBL.out).trans HD1.out
          clear hd' ht' hb' hcV hLV e1
          go_wp2_with fail
          refine (prn_any _ k c ts' m w5 HLN.out (HL.out.up HB5.out) HP.out HNP.out).mono ?_
          rintro e w6 ⟨rfl, hb6⟩
          have HB6 := Lib.hid (HB5.out.trans (hb6.mono HB5.out.size))
          have HLV6 := Lib.hid (HLV.out.up hb6)
          rw [HTT.out]
          clear hb6 d1
          go_wp2_with fail
          refine (sameRows_is AV _ k cV c ts' w6 HLN.out HN.out HLV6.out (HL.out.up HB6.out)).mono ?_
          rintro e w7 ⟨rfl, hb7⟩
          have HB7 := Lib.hid (HB6.out.trans (hb7.mono HB6.out.size))
          clear hb7
          go_wp2_with fail
          refine (HKN.out _ HB7.out).mono ?_
          rintro e w8 ⟨rfl, hb8⟩
          have HB8 := Lib.hid hb8
          clear hb8
          go_wp2_with fail
          go_ret
          exact ⟨rfl, HB8.out⟩
        · have e1 := docT_inj hd' (ht'.symm.trans (docT_book ts))
          obtain rfl : ts' = ts := e1.1
          rw [HP.out] at hb'
          cases hb'
        · exact absurd (docT_book ts) (hno _ _ (doc_of_book HP.out))
end Go.Proofs.YtdlaphlpimlgdaaGreatDoor
