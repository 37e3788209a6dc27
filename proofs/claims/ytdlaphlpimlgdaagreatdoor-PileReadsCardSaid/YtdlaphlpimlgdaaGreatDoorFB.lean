/- The specification's text of any document. -/
import Derived.Test.YtdlaphlpimlgdaaGreatDoorFA
namespace Go.Proofs.YtdlaphlpimlgdaaGreatDoor
open Go.RowKit Go.Shelf

def lvs30 (ts : List (List Int)) : Prop := ∀ row ∈ ts, row.length ≤ 30000 ∧ ∀ x ∈ row, -999999999 ≤ x ∧ x ≤ 999999999
theorem pr_b30 {a : Int} {j : Nat} (ha : 0 ≤ a ∧ a < 997) (hj : j < 30000) : 0 ≤ a * ((j : Int) + 1) ∧ a * ((j : Int) + 1) ≤ 29910000 := by
  have h1 : 0 ≤ a * ((j : Int) + 1) := Int.mul_nonneg ha.1 (by omega)
  have h2 : a * ((j : Int) + 1) ≤ 997 * 30000 := Int.mul_le_mul (by omega) (by omega) (by omega) (by decide)
  exact ⟨h1, h2⟩
set_option maxRecDepth 100000 in
set_option maxHeartbeats 4000000 in
theorem chk_all (A : Option Addr) (n c : Nat) (ts : List (List Int)) (w : World) (hl : ts.length = n) (hn : n ≤ 30000) (hT : LvsAt w w.heap.size A ts) (h9 : lvs30 ts) :
    Calls Tryz.prog 103 #[.slice A n c] w fun e w' => e = .returned (.string ⟨(ckT ts).toArray⟩) ∧ Below w.heap.size w w' := by
  have HL := Lib.hid hl; have HT := Lib.hid hT; have H9 := Lib.hid h9
  clear hl hT h9
  go_enter Tryz.func103, Tryz.ntmps103
  go_wp2_with fail
  go_loopw [3, 4] (fun s i wr => ∃ k : Nat, k ≤ n ∧ i = .int .i64 k ∧ s = .int .i64 (ckAll ts k) ∧ w = wr) (fun _ i _ => n - (intOf i).toNat)
  case atStart => exact ⟨0, Nat.zero_le _, rfl, rfl, rfl⟩
  case round =>
    obtain ⟨k, hk, rfl, rfl, rfl⟩ := hrel
    by_cases hlt : k < n
    · obtain ⟨row, hrow⟩ := get_of_lt (l := ts) (k := k) (by rw [HL.out]; exact hlt)
      have hrw := H9.out row (List.mem_of_getElem? hrow)
      have HSU : Hid (ckAll ts (k + 1) = ckIn k row (ckAll ts k) row.length) := Lib.hid (by rw [ckAll_succ, show ts.getD k [] = row by rw [List.getD_eq_getElem?_getD, hrow]; rfl])
      obtain ⟨b1, o1, A1, m, c1, rfl, hb1, hm1, d1, p1, _⟩ := lvs_row HT.out hrow
      have hmb : m ≤ 30000 := by rw [hm1]; exact hrw.1
      have H10 := Lib.hid hrw.2
      have HM := Lib.hid hm1; have HP := Lib.hid p1
      have hsb := ckAll_b ts k
      obtain ⟨S0, hS0⟩ : ∃ z, ckAll ts k = z := ⟨_, rfl⟩
      rw [hS0] at HSU hsb ⊢
      have k0 : (0 : Int) ≤ (k : Int) := by omega
      have k1 : (k : Int) < (n : Int) := by omega
      have HSB := Lib.hid hsb
      clear hrow hrw hm1 p1 hS0 hsb
      go_wp2_with fail
      go_loopw [3, 5] (fun s i wq => ∃ j : Nat, j ≤ m ∧ i = .int .i64 j ∧ s = .int .i64 (ckIn k row S0 j) ∧ w = wq) (fun _ i _ => m - (intOf i).toNat)
      case atStart => exact ⟨0, Nat.zero_le _, rfl, rfl, rfl⟩
      case round =>
        obtain ⟨j, hj, rfl, rfl, rfl⟩ := hrel
        by_cases hjl : j < m
        · obtain ⟨x, hx⟩ := get_of_lt (l := row) (k := j) (by rw [← HM.out]; exact hjl)
          obtain ⟨b3, o3, rfl, hb3, e1⟩ := ints_el HP.out hx
          have hxb := H10.out x (List.mem_of_getElem? hx)
          have hib := ckIn_b k row S0 HSB.out j
          obtain ⟨E, hE⟩ : ∃ z, ckE x = z := ⟨_, rfl⟩
          have heb := ckE_b hxb
          rw [hE] at heb
          have HSJ : Hid (ckIn k row S0 (j + 1) = (ckIn k row S0 j + E % 997 * ((j : Int) + 1) % 997 * ((k : Int) + 1)) % 997) := Lib.hid (by rw [ck_mod, ckIn_succ]; unfold ckS; rw [show row.getD j 0 = x by rw [List.getD_eq_getElem?_getD, hx]; rfl, hE])
          obtain ⟨S1, hS1⟩ : ∃ z, ckIn k row S0 j = z := ⟨_, rfl⟩
          rw [hS1] at HSJ hib ⊢
          have j0 : (0 : Int) ≤ (j : Int) := by omega
          have j1 : (j : Int) < (m : Int) := by omega
          obtain ⟨r1, hr1⟩ : ∃ z, E % 997 = z := ⟨_, rfl⟩
          have hr1b : 0 ≤ r1 ∧ r1 < 997 := by omega
          have Q1 : Hid (E.tmod 997 = r1) := Lib.hid (by rw [Int.tmod_eq_emod_of_nonneg heb.1, hr1])
          have pb1 := pr_b30 (j := j) hr1b (by omega)
          obtain ⟨p1, hp1⟩ : ∃ z, r1 * ((j : Int) + 1) = z := ⟨_, rfl⟩
          rw [hp1] at pb1
          have u1 : wrap64 (r1 * ((j : Int) + 1)) = p1 := by rw [hp1]; exact w64 (by omega)
          obtain ⟨r2, hr2⟩ : ∃ z, p1 % 997 = z := ⟨_, rfl⟩
          have hr2b : 0 ≤ r2 ∧ r2 < 997 := by omega
          have Q2 : Hid (p1.tmod 997 = r2) := Lib.hid (by rw [Int.tmod_eq_emod_of_nonneg pb1.1, hr2])
          have pb2 := pr_b30 (j := k) hr2b (by omega)
          obtain ⟨p2, hp2⟩ : ∃ z, r2 * ((k : Int) + 1) = z := ⟨_, rfl⟩
          rw [hp2] at pb2
          have u2 : wrap64 (r2 * ((k : Int) + 1)) = p2 := by rw [hp2]; exact w64 (by omega)
          have u3 : wrap64 (S1 + p2) = S1 + p2 := w64 (by omega)
          obtain ⟨S2, hS2⟩ : ∃ z, (S1 + p2) % 997 = z := ⟨_, rfl⟩
          have Q3 : Hid ((S1 + p2).tmod 997 = S2) := Lib.hid (by rw [Int.tmod_eq_emod_of_nonneg (by omega), hS2])
          have HSF : Hid (ckIn k row S0 (j + 1) = S2) := Lib.hid (by rw [HSJ.out, hr1, hp1, hr2, hp2, hS2])
          clear hS1 hx hr1 hr1b hp1 hr2 hr2b hp2 hS2 pb1 pb2 hib heb
          by_cases hneg : x < 0
          · have t1 : wrap64 (2 * x) = 2 * x := w64 (by omega)
            have t0 : 2 * x < 0 := by omega
            have t2 : wrap64 (1 - 2 * x) = E := by rw [← hE]; unfold ckE; rw [if_pos hneg, w64 (by omega)]; omega
            clear hE hxb hneg
            have q1 := Q1.out; have q2 := Q2.out; have q3 := Q3.out
            go_wp2_with fail
            clear q1 q2 q3
            refine ⟨⟨j + 1, by omega, by go_num, by rw [HSF.out], trivial⟩, by simp [intOf]; omega⟩
          · have t1 : wrap64 (2 * x) = E := by rw [← hE]; unfold ckE; rw [if_neg hneg, w64 (by omega)]
            have t0 : ¬ E < 0 := by rw [← hE]; unfold ckE; rw [if_neg hneg]; omega
            clear hE hxb hneg
            have q1 := Q1.out; have q2 := Q2.out; have q3 := Q3.out
            go_wp2_with fail
            clear q1 q2 q3
            refine ⟨⟨j + 1, by omega, by go_num, by rw [HSF.out], trivial⟩, by simp [intOf]; omega⟩
        · have hje : j = m := by omega
          have j1 : ¬ (j : Int) < (m : Int) := by omega
          have HJE : Hid (ckIn k row S0 j = ckAll ts (k + 1)) := Lib.hid (by rw [HSU.out, hje, HM.out])
          obtain ⟨S1, hS1⟩ : ∃ z, ckIn k row S0 j = z := ⟨_, rfl⟩
          rw [hS1] at HJE ⊢
          clear hS1 hje
          go_wp2_with fail
          exact ⟨⟨k + 1, by omega, by go_num, by rw [HJE.out], trivial⟩, by simp [intOf]; omega⟩
    · have hkn : k = n := by omega
      have k1 : ¬ (k : Int) < (n : Int) := by omega
      have hb := ckAll_b ts k
      obtain ⟨N, hN⟩ : ∃ N : Nat, ckAll ts k = (N : Int) := ⟨(ckAll ts k).toNat, by omega⟩
      have HCK : Hid (ckT ts = Lib.decDigits (N / 100) ++ Lib.decDigits (N / 10 % 10) ++ Lib.decDigits (N % 10)) := Lib.hid (by
        rw [← ck_three (by omega), ← hN, hkn, ← HL.out]
        rfl)
      rw [hN] at hb ⊢
      have hN9 : N < 997 := by omega
      clear hN hkn hb
      obtain ⟨a, ha⟩ : ∃ a : Nat, N / 100 = a := ⟨_, rfl⟩
      obtain ⟨b, hb⟩ : ∃ a : Nat, N / 10 = a := ⟨_, rfl⟩
      obtain ⟨d, hd⟩ : ∃ a : Nat, b % 10 = a := ⟨_, rfl⟩
      obtain ⟨f, hf⟩ : ∃ a : Nat, N % 10 = a := ⟨_, rfl⟩
      rw [ha, hb, hd, hf] at HCK
      have a9 : a < 1000 := by omega
      have d9 : d < 1000 := by omega
      have f9 : f < 1000 := by omega
      have Q1 : Hid (((N : Nat) : Int).tdiv 100 = (a : Int)) := Lib.hid (by rw [Int.tdiv_eq_ediv_of_nonneg (by omega)]; omega)
      have Q2 : Hid (((N : Nat) : Int).tdiv 10 = (b : Int)) := Lib.hid (by rw [Int.tdiv_eq_ediv_of_nonneg (by omega)]; omega)
      have Q3 : Hid (((b : Nat) : Int).tmod 10 = (d : Int)) := Lib.hid (by rw [Int.tmod_eq_emod_of_nonneg (by omega)]; omega)
      have Q4 : Hid (((N : Nat) : Int).tmod 10 = (f : Int)) := Lib.hid (by rw [Int.tmod_eq_emod_of_nonneg (by omega)]; omega)
      have w1 : wrap64 (a : Int) = (a : Int) := w64 (by omega)
      have w2 : wrap64 (b : Int) = (b : Int) := w64 (by omega)
      have HDA : Hid (∀ W : World, Calls Tryz.prog 102 #[.int .i64 (a : Int)] W fun e w' => e = .returned (.string ⟨(Lib.decDigits a).toArray⟩) ∧ Below W.heap.size W w') := Lib.hid fun W => dec_nat a (Nat.lt_of_lt_of_le a9 (by decide)) W
      have HDD : Hid (∀ W : World, Calls Tryz.prog 102 #[.int .i64 (d : Int)] W fun e w' => e = .returned (.string ⟨(Lib.decDigits d).toArray⟩) ∧ Below W.heap.size W w') := Lib.hid fun W => dec_nat d (Nat.lt_of_lt_of_le d9 (by decide)) W
      have HDF : Hid (∀ W : World, Calls Tryz.prog 102 #[.int .i64 (f : Int)] W fun e w' => e = .returned (.string ⟨(Lib.decDigits f).toArray⟩) ∧ Below W.heap.size W w') := Lib.hid fun W => dec_nat f (Nat.lt_of_lt_of_le f9 (by decide)) W
      have la := dd_len 3 a (Nat.lt_of_lt_of_le a9 (by decide)); have ld := dd_len 3 d (Nat.lt_of_lt_of_le d9 (by decide)); have lf := dd_len 3 f (Nat.lt_of_lt_of_le f9 (by decide))
      obtain ⟨Ba, hBa⟩ : ∃ B : ByteArray, ByteArray.mk (Lib.decDigits a).toArray = B := ⟨_, rfl⟩
      obtain ⟨Bd, hBd⟩ : ∃ B : ByteArray, ByteArray.mk (Lib.decDigits d).toArray = B := ⟨_, rfl⟩
      obtain ⟨Bf, hBf⟩ : ∃ B : ByteArray, ByteArray.mk (Lib.decDigits f).toArray = B := ⟨_, rfl⟩
      have sa : Ba.size ≤ 4 := by rw [← hBa]; show (Lib.decDigits a).toArray.size ≤ _; rw [List.size_toArray]; exact la
      have sd : Bd.size ≤ 4 := by rw [← hBd]; show (Lib.decDigits d).toArray.size ≤ _; rw [List.size_toArray]; exact ld
      have sf : Bf.size ≤ 4 := by rw [← hBf]; show (Lib.decDigits f).toArray.size ≤ _; rw [List.size_toArray]; exact lf
      rw [hBa] at HDA; rw [hBd] at HDD; rw [hBf] at HDF
      have sad : (Ba ++ Bd).size ≤ 8 := by rw [ByteArray.size_append]; omega
      have HRS : Hid (Ba ++ Bd ++ Bf = ⟨(ckT ts).toArray⟩) := Lib.hid (by rw [HCK.out, ← hBa, ← hBd, ← hBf, ByteArray.mk_append_mk, ByteArray.mk_append_mk])
      have HB0 := Lib.hid (Below.refl w.heap.size w)
      clear a9 d9 f9 ha hb hd hf la ld lf hBa hBd hBf hN9
      have q1 := Q1.out; have q2 := Q2.out; have q3 := Q3.out; have q4 := Q4.out
      go_wp2_with fail
      refine (HDA.out _).mono ?_
      rintro e w5 ⟨rfl, hb5⟩
      have HB5 := Lib.hid hb5
      clear hb5
      go_wp2_with fail
      refine (HDD.out _).mono ?_
      rintro e w6 ⟨rfl, hb6⟩
      have HB6 := Lib.hid (HB5.out.trans (hb6.mono HB5.out.size))
      clear hb6
      go_wp2_with fail
      refine (HDF.out _).mono ?_
      rintro e w7 ⟨rfl, hb7⟩
      have HB7 := Lib.hid (HB6.out.trans (hb7.mono HB6.out.size))
      clear hb7
      go_wp2_with fail
      go_ret
      exact ⟨by rw [HRS.out]; rfl, HB7.out⟩
theorem itoa_le10 {x : Int} (h : -999999999 ≤ x ∧ x ≤ 999999999) : (Lib.itoa x).length ≤ 10 := by
  unfold Lib.itoa
  split
  · have := dd_len 8 x.natAbs (by omega)
    simp only [List.length_cons]
    omega
  · have := dd_len 8 x.toNat (by omega)
    omega
theorem dec_box9 {x : Int} (h : -999999999 ≤ x ∧ x ≤ 999999999) : ∃ B : ByteArray, B = ⟨(Lib.itoa x).toArray⟩ ∧ B.size ≤ 10 ∧ ∀ W : World, Calls Tryz.prog 102 #[.int .i64 x] W fun e w' => e = .returned (.string B) ∧ Below W.heap.size W w' :=
  ⟨_, rfl, by show (Lib.itoa x).toArray.size ≤ 10; rw [List.size_toArray]; exact itoa_le10 h, fun W => dec_any9 x (by omega) W⟩
set_option maxRecDepth 100000 in
set_option maxHeartbeats 4000000 in
theorem prn_all (A : Option Addr) (n c : Nat) (ts : List (List Int)) (P : Int) (w : World) (hl : ts.length = n) (hn : n ≤ 30000) (hT : LvsAt w w.heap.size A ts) (hP : 0 ≤ P ∧ P ≤ 999999999) (h9 : lvs30 ts) :
    Calls Tryz.prog 57 #[.slice A n c, .int .i64 P] w fun e w' => e = .returned (.string ⟨(docT ts P).toArray⟩) ∧ Below w.heap.size w w' := by
  have HL := Lib.hid hl; have HT := Lib.hid hT; have H6 := Lib.hid h9
  obtain ⟨Bn, hBn, sBn, cBn⟩ := dec_box9 (x := (n : Int)) (by omega)
  obtain ⟨Bp, hBp, sBp, cBp⟩ := dec_box9 (x := P) (by omega)
  have CN := Lib.hid cBn; have CP := Lib.hid cBp; have HBN := Lib.hid hBn; have HBP := Lib.hid hBp
  have HHD : Hid (headP ts.length P ++ [10] = [108, 101, 118, 101, 108, 115] ++ ((32 :: Lib.itoa (n : Int)) ++ (32 :: Lib.itoa P)) ++ [10]) := Lib.hid (by
    unfold headP wLev numT
    rw [hl]
    simp)
  have HB0 := Lib.hid (Below.refl w.heap.size w)
  obtain ⟨L7, hL7⟩ : ∃ B : ByteArray, (⟨#[108, 101, 118, 101, 108, 115, 32]⟩ : ByteArray) = B := ⟨_, rfl⟩
  obtain ⟨L1, hL1⟩ : ∃ B : ByteArray, (⟨#[32]⟩ : ByteArray) = B := ⟨_, rfl⟩
  obtain ⟨N1, hN1⟩ : ∃ B : ByteArray, (⟨#[10]⟩ : ByteArray) = B := ⟨_, rfl⟩
  have l7 : L7.size = 7 := by rw [← hL7]; rfl
  have l1 : L1.size = 1 := by rw [← hL1]; rfl
  have n1 : N1.size = 1 := by rw [← hN1]; rfl
  have s1 : (L7 ++ Bn).size ≤ 17 := by rw [ByteArray.size_append]; omega
  have s2 : (L7 ++ Bn ++ L1).size ≤ 18 := by rw [ByteArray.size_append]; omega
  have s3 : (L7 ++ Bn ++ L1 ++ Bp).size ≤ 28 := by rw [ByteArray.size_append]; omega
  have HS4 : Hid ((L7 ++ Bn ++ L1 ++ Bp ++ N1).size ≤ 29) := Lib.hid (by rw [ByteArray.size_append]; omega)
  rw [← hL7] at s1
  rw [← hL7, ← hL1] at s2 s3
  rw [← hL7, ← hL1, ← hN1] at HS4
  clear hL7 hL1 hN1 l7 l1 n1
  clear hl hT h9 cBn cBp hBn hBp
  go_enter Tryz.func57, Tryz.ntmps57
  go_wp2_with fail
  refine (CN.out _).mono ?_
  rintro e w5 ⟨rfl, hb5⟩
  have HB5 := Lib.hid hb5
  clear hb5
  go_wp2_with fail
  refine (CP.out _).mono ?_
  rintro e w6 ⟨rfl, hb6⟩
  have HB6 := Lib.hid (HB5.out.trans (hb6.mono HB5.out.size))
  clear hb6
  go_wp2_with fail
  have HH0 : Hid ((⟨#[108, 101, 118, 101, 108, 115, 32]⟩ : ByteArray) ++ Bn ++ ⟨#[32]⟩ ++ Bp ++ ⟨#[10]⟩ = ⟨((headP ts.length P ++ [10])).toArray⟩) := Lib.hid (by
    rw [HHD.out, HBN.out, HBP.out, ByteArray.mk_append_mk, ByteArray.mk_append_mk, ByteArray.mk_append_mk, ByteArray.mk_append_mk]
    congr 1
    simp)
  obtain ⟨B0, hB0⟩ : ∃ B : ByteArray, (⟨#[108, 101, 118, 101, 108, 115, 32]⟩ : ByteArray) ++ Bn ++ ⟨#[32]⟩ ++ Bp ++ ⟨#[10]⟩ = B := ⟨_, rfl⟩
  rw [hB0] at HH0 HS4 ⊢
  clear hB0 s1 s2 s3
  go_loopw [5, 6] (fun s i wr => ∃ (k : Nat) (B : ByteArray), k ≤ n ∧ i = .int .i64 k ∧ s = .string B ∧ B = ⟨((headP ts.length P ++ [10]) ++ yearsT ts k).toArray⟩ ∧ B.size ≤ 100 + 400000 * k ∧ Below w.heap.size w wr) (fun _ i _ => n - (intOf i).toNat)
  case atStart => exact ⟨0, B0, Nat.zero_le _, rfl, rfl, by rw [HH0.out]; simp [yearsT], by have := HS4.out; omega, HB6.out⟩
  case round =>
    obtain ⟨k, B, hk, rfl, rfl, hB, hs, hbr⟩ := hrel
    have HB := Lib.hid hB; have HBR := Lib.hid hbr
    have hsB : B.size ≤ 12000000100 := by omega
    clear hB
    by_cases hlt : k < n
    · obtain ⟨row, hrow⟩ := get_of_lt (l := ts) (k := k) (by rw [HL.out]; exact hlt)
      obtain ⟨hrl, hrx⟩ := H6.out row (List.mem_of_getElem? hrow)
      obtain ⟨b1', o1, A1, m, c1, rfl, hb1, hm1, d1, p1, _⟩ := lvs_row (HT.out.up hbr) hrow
      have hmb : m ≤ 30000 := by omega
      replace hrl : row.length = m := hm1.symm
      have HRL := Lib.hid hrl; have HRX := Lib.hid hrx; have HRW := Lib.hid hrow; have HP1 := Lib.hid p1
      obtain ⟨Bk, hBk, sBk, cBk⟩ := dec_box9 (x := (k : Int)) (by omega)
      have CK := Lib.hid cBk; have HBK := Lib.hid hBk
      have k0 : (0 : Int) ≤ (k : Int) := by omega
      have k1 : (k : Int) < (n : Int) := by omega
      obtain ⟨Y5, hY5⟩ : ∃ B : ByteArray, (⟨#[121, 101, 97, 114, 32]⟩ : ByteArray) = B := ⟨_, rfl⟩
      have y5 : Y5.size = 5 := by rw [← hY5]; rfl
      have s1 : (B ++ Y5).size ≤ 12000000105 := by rw [ByteArray.size_append]; omega
      have HS2 : Hid ((B ++ Y5 ++ Bk).size ≤ 115 + 400000 * k) := Lib.hid (by rw [ByteArray.size_append, ByteArray.size_append]; omega)
      rw [← hY5] at s1 HS2
      have HSK := Lib.hid hs
      clear hm1 hrl hrx hrow p1 cBk hBk hY5 y5 hbr hs
      go_wp2_with fail
      refine (CK.out _).mono ?_
      rintro e w7 ⟨rfl, hb7⟩
      have HB7 := Lib.hid (HBR.out.trans (hb7.mono HBR.out.size))
      have d1 := ((bcell hb7).1 _ _ hb1).trans d1
      have HP2 := Lib.hid (HP1.out.next hb7 hb7.size)
      clear hb7 hb1
      go_wp2_with fail
      obtain ⟨Bq0, hBq0⟩ : ∃ z : ByteArray, B ++ (⟨#[121, 101, 97, 114, 32]⟩ : ByteArray) ++ Bk = z := ⟨_, rfl⟩
      rw [hBq0] at HS2 ⊢
      have HQ0 := Lib.hid hBq0
      have HBL : Hid (b1' < w7.heap.size ∧ w7.cell? ⟨b1', o1 + k, none⟩ = some (.slice A1 m c1)) := Lib.hid ⟨World.block_lt_of_cell? _ _ d1, d1⟩
      clear hBq0 s1 d1
      go_loopw [5, 7] (fun s i wq => ∃ (j : Nat) (Bq : ByteArray), j ≤ m ∧ i = .int .i64 j ∧ s = .string Bq ∧ Bq = ⟨((headP ts.length P ++ [10]) ++ yearsT ts k ++ ([121, 101, 97, 114] ++ (32 :: Lib.itoa (k : Int)) ++ numT (row.take j))).toArray⟩ ∧ Bq.size ≤ 120 + 400000 * k + 11 * j ∧ Below w7.heap.size w7 wq) (fun _ i _ => m - (intOf i).toNat)
      case atStart =>
        refine ⟨0, Bq0, Nat.zero_le _, rfl, rfl, ?_, by have := HS2.out; omega, Below.refl _ _⟩
        rw [← HQ0.out, HB.out, HBK.out, ByteArray.mk_append_mk, ByteArray.mk_append_mk]
        congr 1
        simp [numT]
      case round =>
        obtain ⟨j, Bq, hj, rfl, rfl, hQ, hq, hbq⟩ := hrel
        have HQ := Lib.hid hQ; have HBQ := Lib.hid hbq
        have hqB : Bq.size ≤ 12000500000 := by omega
        have d1 := ((bcell hbq).1 _ _ HBL.out.1).trans HBL.out.2
        clear hQ
        by_cases hjl : j < m
        · obtain ⟨x, hx⟩ := get_of_lt (l := row) (k := j) (by rw [HRL.out]; exact hjl)
          obtain ⟨b3', o3, rfl, hb3, e1⟩ := ints_el HP2.out hx
          replace e1 := ((bcell hbq).1 _ _ hb3).trans e1
          obtain ⟨Bx, hBx, sBx, cBx⟩ := dec_box9 (HRX.out x (List.mem_of_getElem? hx))
          have CX := Lib.hid cBx
          have j0 : (0 : Int) ≤ (j : Int) := by omega
          have j1 : (j : Int) < (m : Int) := by omega
          obtain ⟨L1, hL1⟩ : ∃ B : ByteArray, (⟨#[32]⟩ : ByteArray) = B := ⟨_, rfl⟩
          have l1 : L1.size = 1 := by rw [← hL1]; rfl
          have s1 : (Bq ++ L1).size ≤ 12000500001 := by rw [ByteArray.size_append]; omega
          have HS2 : Hid ((Bq ++ L1 ++ Bx).size ≤ 120 + 400000 * k + 11 * (j + 1)) := Lib.hid (by rw [ByteArray.size_append, ByteArray.size_append]; omega)
          have HNX : Hid (Bq ++ L1 ++ Bx = ⟨((headP ts.length P ++ [10]) ++ yearsT ts k ++ ([121, 101, 97, 114] ++ (32 :: Lib.itoa (k : Int)) ++ numT (row.take (j + 1)))).toArray⟩) := Lib.hid (by
            rw [HQ.out, ← hL1, hBx, numT_take_succ hx, ByteArray.mk_append_mk, ByteArray.mk_append_mk]
            congr 1
            simp)
          rw [← hL1] at s1 HS2 HNX
          clear hx hb3 hBx cBx hL1 l1 hbq hq
          go_wp2_with fail
          refine (CX.out _).mono ?_
          rintro e w8 ⟨rfl, hb8⟩
          have HB8 := Lib.hid (HBQ.out.trans (hb8.mono HBQ.out.size))
          clear hb8
          go_wp2_with fail
          exact ⟨⟨j + 1, _, by omega, by go_num, rfl, HNX.out, HS2.out, HB8.out⟩, by simp [intOf]; omega⟩
        · have hje : j = m := by omega
          have j1 : ¬ (j : Int) < (m : Int) := by omega
          obtain ⟨N1, hN1⟩ : ∃ B : ByteArray, (⟨#[10]⟩ : ByteArray) = B := ⟨_, rfl⟩
          have n1 : N1.size = 1 := by rw [← hN1]; rfl
          have HS2 : Hid ((Bq ++ N1).size ≤ 100 + 400000 * (k + 1)) := Lib.hid (by rw [ByteArray.size_append]; omega)
          have HNX : Hid (Bq ++ N1 = ⟨((headP ts.length P ++ [10]) ++ yearsT ts (k + 1)).toArray⟩) := Lib.hid (by
            rw [HQ.out, ← hN1, ByteArray.mk_append_mk, yearsT_succ HRW.out, List.take_of_length_le (by rw [HRL.out]; omega)]
            congr 1
            simp [yearT, lineT, numT])
          rw [← hN1] at HS2 HNX
          clear hN1 n1 hbq hq
          go_wp2_with fail
          exact ⟨⟨k + 1, _, by omega, by go_num, rfl, HNX.out, HS2.out, HB7.out.trans (HBQ.out.mono HB7.out.size)⟩, by simp [intOf]; omega⟩
    · have hke : k = n := by omega
      have k1 : ¬ (k : Int) < (n : Int) := by omega
      obtain ⟨E4, hE4⟩ : ∃ B : ByteArray, (⟨#[101, 110, 100, 32]⟩ : ByteArray) = B := ⟨_, rfl⟩
      have e4 : E4.size = 4 := by rw [← hE4]; rfl
      have s1 : (B ++ E4).size ≤ 12000000104 := by rw [ByteArray.size_append]; omega
      obtain ⟨Bc, hBc⟩ : ∃ B : ByteArray, (⟨(ckT ts).toArray⟩ : ByteArray) = B := ⟨_, rfl⟩
      have sc : Bc.size ≤ 7 := by rw [← hBc]; show (ckT ts).toArray.size ≤ 7; rw [List.size_toArray]; exact ckT_le ts
      have s2 : (B ++ E4 ++ Bc).size ≤ 12000000111 := by rw [ByteArray.size_append]; omega
      have HNX : Hid (B ++ E4 ++ Bc ++ ⟨#[10]⟩ = ⟨(docT ts P).toArray⟩) := Lib.hid (by
        rw [HB.out, ← hE4, ← hBc, ByteArray.mk_append_mk, ByteArray.mk_append_mk, ByteArray.mk_append_mk, hke, ← HL.out]
        congr 1
        simp [docT, endP, wEnd])
      have HCK : Hid (∀ W : World, Below w.heap.size w W → Calls Tryz.prog 103 #[.slice A n c] W fun e w' => e = .returned (.string Bc) ∧ Below W.heap.size W w') := Lib.hid fun W hW => by
        rw [← hBc]
        exact chk_all A n c ts W HL.out hn (HT.out.up hW) H6.out
      rw [← hE4] at s1 s2 HNX
      clear hE4 e4 hBc hke hbr hs
      go_wp2_with fail
      refine (HCK.out _ HBR.out).mono ?_
      rintro e w7 ⟨rfl, hb7⟩
      have HB7 := Lib.hid (HBR.out.trans (hb7.mono HBR.out.size))
      clear hb7
      go_wp2_with fail
      go_ret
      exact ⟨by rw [HNX.out]; rfl, HB7.out⟩
end Go.Proofs.YtdlaphlpimlgdaaGreatDoor
