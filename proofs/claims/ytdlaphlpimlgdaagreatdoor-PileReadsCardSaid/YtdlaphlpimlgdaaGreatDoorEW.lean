/- The specification's check of a book. -/
import Derived.Test.YtdlaphlpimlgdaaGreatDoorEV
namespace Go.Proofs.YtdlaphlpimlgdaaGreatDoor
open Go.RowKit Go.Shelf

theorem ck_mod (S E J K : Int) : (S + E % 997 * J % 997 * K) % 997 = (S + E * J * K) % 997 := by
  have h1 : (E % 997 * J) % 997 = (E * J) % 997 := by rw [Int.mul_emod, Int.emod_emod_of_dvd _ (Int.dvd_refl _), ← Int.mul_emod]
  have h2 : (E * J % 997 * K) % 997 = (E * J * K) % 997 := by rw [Int.mul_emod, Int.emod_emod_of_dvd _ (Int.dvd_refl _), ← Int.mul_emod]
  rw [Int.add_emod, h1, h2, ← Int.add_emod]
theorem pr_b {a : Int} {j : Nat} (ha : 0 ≤ a ∧ a < 997) (hj : j < 10000) : 0 ≤ a * ((j : Int) + 1) ∧ a * ((j : Int) + 1) ≤ 9970000 := by
  have h1 : 0 ≤ a * ((j : Int) + 1) := Int.mul_nonneg ha.1 (by omega)
  have h2 : a * ((j : Int) + 1) ≤ 997 * 10000 := Int.mul_le_mul (by omega) (by omega) (by omega) (by decide)
  exact ⟨h1, h2⟩
theorem ck_three {N : Nat} (h : N < 1000) : (Lib.itoa (1000 + (N : Int))).drop 1 = Lib.decDigits (N / 100) ++ Lib.decDigits (N / 10 % 10) ++ Lib.decDigits (N % 10) := by
  rw [itoa_nat (by omega), show (1000 + (N : Int)).toNat = 1000 + N by omega, dd_big (by omega), dd_big (by omega), dd_big (by omega)]
  rw [Lib.decDigits_one (by omega), Lib.decDigits_one (i := N / 100) (by omega), Lib.decDigits_one (i := N / 10 % 10) (by omega), Lib.decDigits_one (i := N % 10) (by omega)]
  rw [show (1000 + N) / 10 / 10 % 10 = N / 100 by omega, show (1000 + N) / 10 % 10 = N / 10 % 10 by omega, show (1000 + N) % 10 = N % 10 by omega]
  rfl
set_option maxRecDepth 100000 in
set_option maxHeartbeats 4000000 in
theorem chk_any (A : Option Addr) (n c : Nat) (ts : List (List Int)) (w : World) (hl : ts.length = n) (hn : n ≤ 10000) (hT : LvsAt w w.heap.size A ts) (h9 : lvs9 ts) :
    Calls Tryz.prog 103 #[.slice A n c] w fun e w' => e = .returned (.string ⟨(ckT ts).toArray⟩) ∧ Below w.heap.size w w' := by
  have HL := Lib.hid hl; have HT := Lib.hid hT; have H9 := Lib.hid h9
  clear hl hT h9
  go_enter Tryz.func103, Tryz.ntmps103
  go_wp2_with fail
  go_loopw [3, 4] (fun s i wr => ∃ k : Nat, k ≤ n ∧ i = .int .i64 k ∧ s = .int .i64 (ckAll ts k) ∧ w = wr) (fun _ i _ => n - (intOf i).toNat)
  case atStart => exact ⟨0, Nat.zero_le _, rfl, rfl, rfl⟩
  case round =>
    obtain ⟨k, hk, rfl, rfl, rfl⟩ := hrel
    by_cases hlt : k < n
    · obtain ⟨row, hrow⟩ := get_of_lt (l := ts) (k := k) (by rw [HL.out]; exact hlt)
      have hrw := H9.out row (List.mem_of_getElem? hrow)
      have HSU : Hid (ckAll ts (k + 1) = ckIn k row (ckAll ts k) row.length) := Lib.hid (by rw [ckAll_succ, show ts.getD k [] = row by rw [List.getD_eq_getElem?_getD, hrow]; rfl])
      obtain ⟨b1, o1, A1, m, c1, rfl, hb1, hm1, d1, p1, _⟩ := lvs_row HT.out hrow
      have hmb : m ≤ 10000 := by rw [hm1]; exact hrw.1
      have H10 := Lib.hid hrw.2
      have HM := Lib.hid hm1; have HP := Lib.hid p1
      have hsb := ckAll_b ts k
      obtain ⟨S0, hS0⟩ : ∃ z, ckAll ts k = z := ⟨_, rfl⟩
      rw [hS0] at HSU hsb ⊢
      have k0 : (0 : Int) ≤ (k : Int) := by omega
      have k1 : (k : Int) < (n : Int) := by omega
      have HSB := Lib.hid hsb
      clear hrow hrw hm1 p1 hS0 hsb
      go_wp2_with fail
      go_loopw [3, 5] (fun s i wq => ∃ j : Nat, j ≤ m ∧ i = .int .i64 j ∧ s = .int .i64 (ckIn k row S0 j) ∧ w = wq) (fun _ i _ => m - (intOf i).toNat)
      case atStart => exact ⟨0, Nat.zero_le _, rfl, rfl, rfl⟩
      case round =>
        obtain ⟨j, hj, rfl, rfl, rfl⟩ := hrel
        by_cases hjl : j < m
        · obtain ⟨x, hx⟩ := get_of_lt (l := row) (k := j) (by rw [← HM.out]; exact hjl)
          obtain ⟨b3, o3, rfl, hb3, e1⟩ := ints_el HP.out hx
          have hxb := H10.out x (List.mem_of_getElem? hx)
          have hib := ckIn_b k row S0 HSB.out j
          obtain ⟨E, hE⟩ : ∃ z, ckE x = z := ⟨_, rfl⟩
          have heb := ckE_b hxb
          rw [hE] at heb
          have HSJ : Hid (ckIn k row S0 (j + 1) = (ckIn k row S0 j + E % 997 * ((j : Int) + 1) % 997 * ((k : Int) + 1)) % 997) := Lib.hid (by rw [ck_mod, ckIn_succ]; unfold ckS; rw [show row.getD j 0 = x by rw [List.getD_eq_getElem?_getD, hx]; rfl, hE])
          obtain ⟨S1, hS1⟩ : ∃ z, ckIn k row S0 j = z := ⟨_, rfl⟩
          rw [hS1] at HSJ hib ⊢
          have j0 : (0 : Int) ≤ (j : Int) := by omega
          have j1 : (j : Int) < (m : Int) := by omega
          obtain ⟨r1, hr1⟩ : ∃ z, E % 997 = z := ⟨_, rfl⟩
          have hr1b : 0 ≤ r1 ∧ r1 < 997 := by omega
          have Q1 : Hid (E.tmod 997 = r1) := Lib.hid (by rw [Int.tmod_eq_emod_of_nonneg heb.1, hr1])
          have pb1 := pr_b (j := j) hr1b (by omega)
          obtain ⟨p1, hp1⟩ : ∃ z, r1 * ((j : Int) + 1) = z := ⟨_, rfl⟩
          rw [hp1] at pb1
          have u1 : wrap64 (r1 * ((j : Int) + 1)) = p1 := by rw [hp1]; exact w64 (by omega)
          obtain ⟨r2, hr2⟩ : ∃ z, p1 % 997 = z := ⟨_, rfl⟩
          have hr2b : 0 ≤ r2 ∧ r2 < 997 := by omega
          have Q2 : Hid (p1.tmod 997 = r2) := Lib.hid (by rw [Int.tmod_eq_emod_of_nonneg pb1.1, hr2])
          have pb2 := pr_b (j := k) hr2b (by omega)
          obtain ⟨p2, hp2⟩ : ∃ z, r2 * ((k : Int) + 1) = z := ⟨_, rfl⟩
          rw [hp2] at pb2
          have u2 : wrap64 (r2 * ((k : Int) + 1)) = p2 := by rw [hp2]; exact w64 (by omega)
          have u3 : wrap64 (S1 + p2) = S1 + p2 := w64 (by omega)
          obtain ⟨S2, hS2⟩ : ∃ z, (S1 + p2) % 997 = z := ⟨_, rfl⟩
          have Q3 : Hid ((S1 + p2).tmod 997 = S2) := Lib.hid (by rw [Int.tmod_eq_emod_of_nonneg (by omega), hS2])
          have HSF : Hid (ckIn k row S0 (j + 1) = S2) := Lib.hid (by rw [HSJ.out, hr1, hp1, hr2, hp2, hS2])
          clear hS1 hx hr1 hr1b hp1 hr2 hr2b hp2 hS2 pb1 pb2 hib heb
          by_cases hneg : x < 0
          · have t1 : wrap64 (2 * x) = 2 * x := w64 (by omega)
            have t0 : 2 * x < 0 := by omega
            have t2 : wrap64 (1 - 2 * x) = E := by rw [← hE]; unfold ckE; rw [if_pos hneg, w64 (by omega)]; omega
            clear hE hxb hneg
            have q1 := Q1.out; have q2 := Q2.out; have q3 := Q3.out
            go_wp2_with fail
            clear q1 q2 q3
            refine ⟨⟨j + 1, by omega, by go_num, by rw [HSF.out], trivial⟩, by simp [intOf]; omega⟩
          · have t1 : wrap64 (2 * x) = E := by rw [← hE]; unfold ckE; rw [if_neg hneg, w64 (by omega)]
            have t0 : ¬ E < 0 := by rw [← hE]; unfold ckE; rw [if_neg hneg]; omega
            clear hE hxb hneg
            have q1 := Q1.out; have q2 := Q2.out; have q3 := Q3.out
            go_wp2_with fail
            clear q1 q2 q3
            refine ⟨⟨j + 1, by omega, by go_num, by rw [HSF.out], trivial⟩, by simp [intOf]; omega⟩
        · have hje : j = m := by omega
          have j1 : ¬ (j : Int) < (m : Int) := by omega
          have HJE : Hid (ckIn k row S0 j = ckAll ts (k + 1)) := Lib.hid (by rw [HSU.out, hje, HM.out])
          obtain ⟨S1, hS1⟩ : ∃ z, ckIn k row S0 j = z := ⟨_, rfl⟩
          rw [hS1] at HJE ⊢
          clear hS1 hje
          go_wp2_with fail
          exact ⟨⟨k + 1, by omega, by go_num, by rw [HJE.out], trivial⟩, by simp [intOf]; omega⟩
    · have hkn : k = n := by omega
      have k1 : ¬ (k : Int) < (n : Int) := by omega
      have hb := ckAll_b ts k
      obtain ⟨N, hN⟩ : ∃ N : Nat, ckAll ts k = (N : Int) := ⟨(ckAll ts k).toNat, by omega⟩
      have HCK : Hid (ckT ts = Lib.decDigits (N / 100) ++ Lib.decDigits (N / 10 % 10) ++ Lib.decDigits (N % 10)) := Lib.hid (by
        rw [← ck_three (by omega), ← hN, hkn, ← HL.out]
        rfl)
      rw [hN] at hb ⊢
      have hN9 : N < 997 := by omega
      clear hN hkn hb
      obtain ⟨a, ha⟩ : ∃ a : Nat, N / 100 = a := ⟨_, rfl⟩
      obtain ⟨b, hb⟩ : ∃ a : Nat, N / 10 = a := ⟨_, rfl⟩
      obtain ⟨d, hd⟩ : ∃ a : Nat, b % 10 = a := ⟨_, rfl⟩
      obtain ⟨f, hf⟩ : ∃ a : Nat, N % 10 = a := ⟨_, rfl⟩
      rw [ha, hb, hd, hf] at HCK
      have a9 : a < 1000 := by omega
      have d9 : d < 1000 := by omega
      have f9 : f < 1000 := by omega
      have Q1 : Hid (((N : Nat) : Int).tdiv 100 = (a : Int)) := Lib.hid (by rw [Int.tdiv_eq_ediv_of_nonneg (by omega)]; omega)
      have Q2 : Hid (((N : Nat) : Int).tdiv 10 = (b : Int)) := Lib.hid (by rw [Int.tdiv_eq_ediv_of_nonneg (by omega)]; omega)
      have Q3 : Hid (((b : Nat) : Int).tmod 10 = (d : Int)) := Lib.hid (by rw [Int.tmod_eq_emod_of_nonneg (by omega)]; omega)
      have Q4 : Hid (((N : Nat) : Int).tmod 10 = (f : Int)) := Lib.hid (by rw [Int.tmod_eq_emod_of_nonneg (by omega)]; omega)
      have w1 : wrap64 (a : Int) = (a : Int) := w64 (by omega)
      have w2 : wrap64 (b : Int) = (b : Int) := w64 (by omega)
      have HDA : Hid (∀ W : World, Calls Tryz.prog 102 #[.int .i64 (a : Int)] W fun e w' => e = .returned (.string ⟨(Lib.decDigits a).toArray⟩) ∧ Below W.heap.size W w') := Lib.hid fun W => dec_nat a (Nat.lt_of_lt_of_le a9 (by decide)) W
      have HDD : Hid (∀ W : World, Calls Tryz.prog 102 #[.int .i64 (d : Int)] W fun e w' => e = .returned (.string ⟨(Lib.decDigits d).toArray⟩) ∧ Below W.heap.size W w') := Lib.hid fun W => dec_nat d (Nat.lt_of_lt_of_le d9 (by decide)) W
      have HDF : Hid (∀ W : World, Calls Tryz.prog 102 #[.int .i64 (f : Int)] W fun e w' => e = .returned (.string ⟨(Lib.decDigits f).toArray⟩) ∧ Below W.heap.size W w') := Lib.hid fun W => dec_nat f (Nat.lt_of_lt_of_le f9 (by decide)) W
      have la := dd_len 3 a (Nat.lt_of_lt_of_le a9 (by decide)); have ld := dd_len 3 d (Nat.lt_of_lt_of_le d9 (by decide)); have lf := dd_len 3 f (Nat.lt_of_lt_of_le f9 (by decide))
      obtain ⟨Ba, hBa⟩ : ∃ B : ByteArray, ByteArray.mk (Lib.decDigits a).toArray = B := ⟨_, rfl⟩
      obtain ⟨Bd, hBd⟩ : ∃ B : ByteArray, ByteArray.mk (Lib.decDigits d).toArray = B := ⟨_, rfl⟩
      obtain ⟨Bf, hBf⟩ : ∃ B : ByteArray, ByteArray.mk (Lib.decDigits f).toArray = B := ⟨_, rfl⟩
      have sa : Ba.size ≤ 4 := by rw [← hBa]; show (Lib.decDigits a).toArray.size ≤ _; rw [List.size_toArray]; exact la
      have sd : Bd.size ≤ 4 := by rw [← hBd]; show (Lib.decDigits d).toArray.size ≤ _; rw [List.size_toArray]; exact ld
      have sf : Bf.size ≤ 4 := by rw [← hBf]; show (Lib.decDigits f).toArray.size ≤ _; rw [List.size_toArray]; exact lf
      rw [hBa] at HDA; rw [hBd] at HDD; rw [hBf] at HDF
      have sad : (Ba ++ Bd).size ≤ 8 := by rw [ByteArray.size_append]; omega
      have HRS : Hid (Ba ++ Bd ++ Bf = ⟨(ckT ts).toArray⟩) := Lib.hid (by rw [HCK.out, ← hBa, ← hBd, ← hBf, ByteArray.mk_append_mk, ByteArray.mk_append_mk])
      have HB0 := Lib.hid (Below.refl w.heap.size w)
      clear a9 d9 f9 ha hb hd hf la ld lf hBa hBd hBf hN9
      have q1 := Q1.out; have q2 := Q2.out; have q3 := Q3.out; have q4 := Q4.out
      go_wp2_with fail
      refine (HDA.out _).mono ?_
      rintro e w5 ⟨rfl, hb5⟩
      have HB5 := Lib.hid hb5
      clear hb5
      go_wp2_with fail
      refine (HDD.out _).mono ?_
      rintro e w6 ⟨rfl, hb6⟩
      have HB6 := Lib.hid (HB5.out.trans (hb6.mono HB5.out.size))
      clear hb6
      go_wp2_with fail
      refine (HDF.out _).mono ?_
      rintro e w7 ⟨rfl, hb7⟩
      have HB7 := Lib.hid (HB6.out.trans (hb7.mono HB6.out.size))
      clear hb7
      go_wp2_with fail
      go_ret
      exact ⟨by rw [HRS.out]; rfl, HB7.out⟩
end Go.Proofs.YtdlaphlpimlgdaaGreatDoor
