/- The specification's text of a book. -/
import Derived.Test.YtdlaphlpimlgdaaGreatDoorEW
import Derived.Test.YtdlaphlpimlgdaaGreatDoorEU
namespace Go.Proofs.YtdlaphlpimlgdaaGreatDoor
open Go.RowKit Go.Shelf

/-- A decimal, its text opaque. -/
theorem dec_box {x : Int} (h : -100000 ≤ x ∧ x ≤ 100000) : ∃ B : ByteArray, B = ⟨(Lib.itoa x).toArray⟩ ∧ B.size ≤ 7 ∧ ∀ W : World, Calls Tryz.prog 102 #[.int .i64 x] W fun e w' => e = .returned (.string B) ∧ Below W.heap.size W w' :=
  ⟨_, rfl, by show (Lib.itoa x).toArray.size ≤ 7; rw [List.size_toArray]; exact itoa_le7 h, fun W => dec_any x (by omega) W⟩
set_option maxRecDepth 100000 in
set_option maxHeartbeats 4000000 in
theorem prn_any (A : Option Addr) (n c : Nat) (ts : List (List Int)) (np : Nat) (w : World) (hl : ts.length = n) (hT : LvsAt w w.heap.size A ts) (hb : bookB ts = true) (hnp : (ts.headD []).length = np) :
    Calls Tryz.prog 57 #[.slice A n c, .int .i64 (np : Int)] w fun e w' => e = .returned (.string ⟨(bookT ts).toArray⟩) ∧ Below w.heap.size w w' := by
  obtain ⟨⟨b1, b2⟩, np', ⟨b3, b4⟩, b5, b6⟩ := book_spec hb
  obtain rfl : np = np' := hnp.symm.trans b5
  have HL := Lib.hid hl; have HT := Lib.hid hT; have H6 := Lib.hid b6
  rw [hl] at b1 b2
  obtain ⟨Bn, hBn, sBn, cBn⟩ := dec_box (x := (n : Int)) (by omega)
  obtain ⟨Bp, hBp, sBp, cBp⟩ := dec_box (x := (np : Int)) (by omega)
  have CN := Lib.hid cBn; have CP := Lib.hid cBp; have HBN := Lib.hid hBn; have HBP := Lib.hid hBp
  have HHD : Hid (headT ts = [108, 101, 118, 101, 108, 115] ++ ((32 :: Lib.itoa (n : Int)) ++ (32 :: Lib.itoa (np : Int))) ++ [10]) := Lib.hid (by
    unfold headT lineT numT
    rw [b5, hl]
    simp)
  have HB0 := Lib.hid (Below.refl w.heap.size w)
  obtain ⟨L7, hL7⟩ : ∃ B : ByteArray, (⟨#[108, 101, 118, 101, 108, 115, 32]⟩ : ByteArray) = B := ⟨_, rfl⟩
  obtain ⟨L1, hL1⟩ : ∃ B : ByteArray, (⟨#[32]⟩ : ByteArray) = B := ⟨_, rfl⟩
  obtain ⟨N1, hN1⟩ : ∃ B : ByteArray, (⟨#[10]⟩ : ByteArray) = B := ⟨_, rfl⟩
  have l7 : L7.size = 7 := by rw [← hL7]; rfl
  have l1 : L1.size = 1 := by rw [← hL1]; rfl
  have n1 : N1.size = 1 := by rw [← hN1]; rfl
  have s1 : (L7 ++ Bn).size ≤ 14 := by rw [ByteArray.size_append]; omega
  have s2 : (L7 ++ Bn ++ L1).size ≤ 15 := by rw [ByteArray.size_append]; omega
  have s3 : (L7 ++ Bn ++ L1 ++ Bp).size ≤ 22 := by rw [ByteArray.size_append]; omega
  have HS4 : Hid ((L7 ++ Bn ++ L1 ++ Bp ++ N1).size ≤ 23) := Lib.hid (by rw [ByteArray.size_append]; omega)
  rw [← hL7] at s1
  rw [← hL7, ← hL1] at s2 s3
  rw [← hL7, ← hL1, ← hN1] at HS4
  clear hL7 hL1 hN1 l7 l1 n1
  clear hl hT hb b6 cBn cBp hBn hBp b5 hnp
  go_enter Tryz.func57, Tryz.ntmps57
  go_wp2_with fail
  refine (CN.out _).mono ?_
  rintro e w5 ⟨rfl, hb5⟩
  have HB5 := Lib.hid hb5
  clear hb5
  go_wp2_with fail
  refine (CP.out _).mono ?_
  rintro e w6 ⟨rfl, hb6⟩
  have HB6 := Lib.hid (HB5.out.trans (hb6.mono HB5.out.size))
  clear hb6
  go_wp2_with fail
  have HH0 : Hid ((⟨#[108, 101, 118, 101, 108, 115, 32]⟩ : ByteArray) ++ Bn ++ ⟨#[32]⟩ ++ Bp ++ ⟨#[10]⟩ = ⟨(headT ts).toArray⟩) := Lib.hid (by
    rw [HHD.out, HBN.out, HBP.out, ByteArray.mk_append_mk, ByteArray.mk_append_mk, ByteArray.mk_append_mk, ByteArray.mk_append_mk]
    congr 1
    simp)
  obtain ⟨B0, hB0⟩ : ∃ B : ByteArray, (⟨#[108, 101, 118, 101, 108, 115, 32]⟩ : ByteArray) ++ Bn ++ ⟨#[32]⟩ ++ Bp ++ ⟨#[10]⟩ = B := ⟨_, rfl⟩
  rw [hB0] at HH0 HS4 ⊢
  clear hB0 s1 s2 s3
  go_loopw [5, 6] (fun s i wr => ∃ (k : Nat) (B : ByteArray), k ≤ n ∧ i = .int .i64 k ∧ s = .string B ∧ B = ⟨(headT ts ++ yearsT ts k).toArray⟩ ∧ B.size ≤ 100 + 100 * k ∧ Below w.heap.size w wr) (fun _ i _ => n - (intOf i).toNat)
  case atStart => exact ⟨0, B0, Nat.zero_le _, rfl, rfl, by rw [HH0.out]; simp [yearsT], by have := HS4.out; omega, HB6.out⟩
  case round =>
    obtain ⟨k, B, hk, rfl, rfl, hB, hs, hbr⟩ := hrel
    have HB := Lib.hid hB; have HBR := Lib.hid hbr
    have hsB : B.size ≤ 1100 := by omega
    clear hB
    by_cases hlt : k < n
    · obtain ⟨row, hrow⟩ := get_of_lt (l := ts) (k := k) (by rw [HL.out]; exact hlt)
      obtain ⟨hrl, hrx⟩ := H6.out row (List.mem_of_getElem? hrow)
      obtain ⟨b1', o1, A1, m, c1, rfl, hb1, hm1, d1, p1, _⟩ := lvs_row (HT.out.up hbr) hrow
      rw [hrl] at hm1
      subst hm1
      have HRL := Lib.hid hrl; have HRX := Lib.hid hrx; have HRW := Lib.hid hrow; have HP1 := Lib.hid p1
      obtain ⟨Bk, hBk, sBk, cBk⟩ := dec_box (x := (k : Int)) (by omega)
      have CK := Lib.hid cBk; have HBK := Lib.hid hBk
      have k0 : (0 : Int) ≤ (k : Int) := by omega
      have k1 : (k : Int) < (n : Int) := by omega
      obtain ⟨Y5, hY5⟩ : ∃ B : ByteArray, (⟨#[121, 101, 97, 114, 32]⟩ : ByteArray) = B := ⟨_, rfl⟩
      have y5 : Y5.size = 5 := by rw [← hY5]; rfl
      have s1 : (B ++ Y5).size ≤ 1105 := by rw [ByteArray.size_append]; omega
      have HS2 : Hid ((B ++ Y5 ++ Bk).size ≤ 112 + 100 * k) := Lib.hid (by rw [ByteArray.size_append, ByteArray.size_append]; omega)
      rw [← hY5] at s1 HS2
      have HSK := Lib.hid hs
      clear hrl hrx hrow p1 cBk hBk hY5 y5 hbr hs
      go_wp2_with fail
      refine (CK.out _).mono ?_
      rintro e w7 ⟨rfl, hb7⟩
      have HB7 := Lib.hid (HBR.out.trans (hb7.mono HBR.out.size))
      have d1 := ((bcell hb7).1 _ _ hb1).trans d1
      have HP2 := Lib.hid (HP1.out.next hb7 hb7.size)
      clear hb7 hb1
      go_wp2_with fail
      obtain ⟨Bq0, hBq0⟩ : ∃ z : ByteArray, B ++ (⟨#[121, 101, 97, 114, 32]⟩ : ByteArray) ++ Bk = z := ⟨_, rfl⟩
      rw [hBq0] at HS2 ⊢
      have HQ0 := Lib.hid hBq0
      have HBL : Hid (b1' < w7.heap.size ∧ w7.cell? ⟨b1', o1 + k, none⟩ = some (.slice A1 m c1)) := Lib.hid ⟨World.block_lt_of_cell? _ _ d1, d1⟩
      clear hBq0 s1 d1
      go_loopw [5, 7] (fun s i wq => ∃ (j : Nat) (Bq : ByteArray), j ≤ m ∧ i = .int .i64 j ∧ s = .string Bq ∧ Bq = ⟨(headT ts ++ yearsT ts k ++ ([121, 101, 97, 114] ++ (32 :: Lib.itoa (k : Int)) ++ numT (row.take j))).toArray⟩ ∧ Bq.size ≤ 120 + 100 * k + 8 * j ∧ Below w7.heap.size w7 wq) (fun _ i _ => m - (intOf i).toNat)
      case atStart =>
        refine ⟨0, Bq0, Nat.zero_le _, rfl, rfl, ?_, by have := HS2.out; omega, Below.refl _ _⟩
        rw [← HQ0.out, HB.out, HBK.out, ByteArray.mk_append_mk, ByteArray.mk_append_mk]
        congr 1
        simp [numT]
      case round =>
        obtain ⟨j, Bq, hj, rfl, rfl, hQ, hq, hbq⟩ := hrel
        have HQ := Lib.hid hQ; have HBQ := Lib.hid hbq
        have hqB : Bq.size ≤ 1300 := by omega
        have d1 := ((bcell hbq).1 _ _ HBL.out.1).trans HBL.out.2
        clear hQ
        by_cases hjl : j < m
        · obtain ⟨x, hx⟩ := get_of_lt (l := row) (k := j) (by rw [HRL.out]; exact hjl)
          obtain ⟨b3', o3, rfl, hb3, e1⟩ := ints_el HP2.out hx
          replace e1 := ((bcell hbq).1 _ _ hb3).trans e1
          obtain ⟨Bx, hBx, sBx, cBx⟩ := dec_box (HRX.out x (List.mem_of_getElem? hx))
          have CX := Lib.hid cBx
          have j0 : (0 : Int) ≤ (j : Int) := by omega
          have j1 : (j : Int) < (m : Int) := by omega
          obtain ⟨L1, hL1⟩ : ∃ B : ByteArray, (⟨#[32]⟩ : ByteArray) = B := ⟨_, rfl⟩
          have l1 : L1.size = 1 := by rw [← hL1]; rfl
          have s1 : (Bq ++ L1).size ≤ 1301 := by rw [ByteArray.size_append]; omega
          have HS2 : Hid ((Bq ++ L1 ++ Bx).size ≤ 120 + 100 * k + 8 * (j + 1)) := Lib.hid (by rw [ByteArray.size_append, ByteArray.size_append]; omega)
          have HNX : Hid (Bq ++ L1 ++ Bx = ⟨(headT ts ++ yearsT ts k ++ ([121, 101, 97, 114] ++ (32 :: Lib.itoa (k : Int)) ++ numT (row.take (j + 1)))).toArray⟩) := Lib.hid (by
            rw [HQ.out, ← hL1, hBx, numT_take_succ hx, ByteArray.mk_append_mk, ByteArray.mk_append_mk]
            congr 1
            simp)
          rw [← hL1] at s1 HS2 HNX
          clear hx hb3 hBx cBx hL1 l1 hbq hq
          go_wp2_with fail
          refine (CX.out _).mono ?_
          rintro e w8 ⟨rfl, hb8⟩
          have HB8 := Lib.hid (HBQ.out.trans (hb8.mono HBQ.out.size))
          clear hb8
          go_wp2_with fail
          exact ⟨⟨j + 1, _, by omega, by go_num, rfl, HNX.out, HS2.out, HB8.out⟩, by simp [intOf]; omega⟩
        · have hje : j = m := by omega
          have j1 : ¬ (j : Int) < (m : Int) := by omega
          obtain ⟨N1, hN1⟩ : ∃ B : ByteArray, (⟨#[10]⟩ : ByteArray) = B := ⟨_, rfl⟩
          have n1 : N1.size = 1 := by rw [← hN1]; rfl
          have HS2 : Hid ((Bq ++ N1).size ≤ 100 + 100 * (k + 1)) := Lib.hid (by rw [ByteArray.size_append]; omega)
          have HNX : Hid (Bq ++ N1 = ⟨(headT ts ++ yearsT ts (k + 1)).toArray⟩) := Lib.hid (by
            rw [HQ.out, ← hN1, ByteArray.mk_append_mk, yearsT_succ HRW.out, List.take_of_length_le (by rw [HRL.out]; omega)]
            congr 1
            simp [yearT, lineT, numT])
          rw [← hN1] at HS2 HNX
          clear hN1 n1 hbq hq
          go_wp2_with fail
          exact ⟨⟨k + 1, _, by omega, by go_num, rfl, HNX.out, HS2.out, HB7.out.trans (HBQ.out.mono HB7.out.size)⟩, by simp [intOf]; omega⟩
    · have hke : k = n := by omega
      have k1 : ¬ (k : Int) < (n : Int) := by omega
      obtain ⟨E4, hE4⟩ : ∃ B : ByteArray, (⟨#[101, 110, 100, 32]⟩ : ByteArray) = B := ⟨_, rfl⟩
      have e4 : E4.size = 4 := by rw [← hE4]; rfl
      have s1 : (B ++ E4).size ≤ 1104 := by rw [ByteArray.size_append]; omega
      obtain ⟨Bc, hBc⟩ : ∃ B : ByteArray, (⟨(ckT ts).toArray⟩ : ByteArray) = B := ⟨_, rfl⟩
      have sc : Bc.size ≤ 7 := by rw [← hBc]; show (ckT ts).toArray.size ≤ 7; rw [List.size_toArray]; exact ckT_le ts
      have s2 : (B ++ E4 ++ Bc).size ≤ 1111 := by rw [ByteArray.size_append]; omega
      have HNX : Hid (B ++ E4 ++ Bc ++ ⟨#[10]⟩ = ⟨(bookT ts).toArray⟩) := Lib.hid (by
        rw [HB.out, ← hE4, ← hBc, ByteArray.mk_append_mk, ByteArray.mk_append_mk, ByteArray.mk_append_mk, hke, ← HL.out]
        rfl)
      have HCK : Hid (∀ W : World, Below w.heap.size w W → Calls Tryz.prog 103 #[.slice A n c] W fun e w' => e = .returned (.string Bc) ∧ Below W.heap.size W w') := Lib.hid fun W hW => by
        rw [← hBc]
        exact chk_any A n c ts W HL.out (by omega) (HT.out.up hW) fun row hr => ⟨by rw [(H6.out row hr).1]; omega, fun x hx => by have := (H6.out row hr).2 x hx; omega⟩
      rw [← hE4] at s1 s2 HNX
      clear hE4 e4 hBc hke hbr hs
      go_wp2_with fail
      refine (HCK.out _ HBR.out).mono ?_
      rintro e w7 ⟨rfl, hb7⟩
      have HB7 := Lib.hid (HBR.out.trans (hb7.mono HBR.out.size))
      clear hb7
      go_wp2_with fail
      go_ret
      exact ⟨by rw [HNX.out]; rfl, HB7.out⟩
end Go.Proofs.YtdlaphlpimlgdaaGreatDoor
