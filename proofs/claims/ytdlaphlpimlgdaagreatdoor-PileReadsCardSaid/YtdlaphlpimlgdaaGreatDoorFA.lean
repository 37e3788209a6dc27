/- The specification's reader: a number. -/
import Derived.Test.YtdlaphlpimlgdaaGreatDoorEZ
namespace Go.Proofs.YtdlaphlpimlgdaaGreatDoor
open Go.RowKit Go.Shelf

set_option maxRecDepth 100000 in
set_option maxHeartbeats 4000000 in
theorem dec_nat9 (N : Nat) (h : N < 1000000000) (w : World) : Calls Tryz.prog 102 #[.int .i64 (N : Int)] w fun e w' => e = .returned (.string ⟨(Lib.decDigits N).toArray⟩) ∧ Below w.heap.size w w' := by
  obtain ⟨r, hr⟩ : ∃ r : Nat, N % 10 = r := ⟨_, rfl⟩
  have hr10 : r < 10 := by omega
  have t1 : ((N : Nat) : Int).tmod 10 = (r : Int) := by rw [Int.tmod_eq_emod_of_nonneg (by omega)]; omega
  have v1 := u8_factD r hr10
  have cv := conv_one w r hr10
  have hN0 : ¬ ((N : Nat) : Int) < 0 := by omega
  obtain ⟨c, hc⟩ : ∃ c, UInt8.ofNat (48 + r) = c := ⟨_, rfl⟩
  rw [hc] at cv
  have HB1 := Lib.hid ((Below.refl w.heap.size w).alloc (Nat.le_refl _) (.cells #[.int .u8 (48 + (r : Int))] 5))
  have HP := Lib.hid (show Lib.decDigits N = preD N ++ [c] by rw [dd_pre, hr, hc])
  clear hr hc
  go_enter Tryz.func102, Tryz.ntmps102
  go_wp2_with fail
  clear t1 v1 cv hN0
  go_loopw [0, 3] (fun a s wr => ∃ (v : Nat) (S : List UInt8), v < 1000000000 ∧ a = .int .i64 (v : Int) ∧ s = .string ⟨S.toArray⟩ ∧ Lib.decDigits N = preD v ++ S ∧ S.length ≤ 20 + N - v ∧ v ≤ N ∧ Below w.heap.size w wr) (fun a _ _ => (intOf a).toNat)
  case atStart => exact ⟨N, [c], h, rfl, rfl, HP.out, by simp, Nat.le_refl _, HB1.out⟩
  case round =>
    obtain ⟨v, S, hv, rfl, rfl, hS, hl, hvn, hb⟩ := hrel
    have HS := Lib.hid hS; have HB := Lib.hid hb
    clear hS hb
    by_cases hlt : 10 ≤ v
    · have q0 : (10 : Int) ≤ (v : Int) := by omega
      obtain ⟨u, hu⟩ : ∃ u : Nat, v / 10 = u := ⟨_, rfl⟩
      obtain ⟨r2, hr2⟩ : ∃ r2 : Nat, u % 10 = r2 := ⟨_, rfl⟩
      have q1 : ((v : Nat) : Int).tdiv 10 = (u : Int) := by rw [Int.tdiv_eq_ediv_of_nonneg (by omega)]; omega
      have t2 : ((u : Nat) : Int).tmod 10 = (r2 : Int) := by rw [Int.tmod_eq_emod_of_nonneg (by omega)]; omega
      have v2 := u8_factD r2 (by omega)
      have cv := conv_one wr r2 (by omega)
      obtain ⟨c2, hc⟩ : ∃ c, UInt8.ofNat (48 + r2) = c := ⟨_, rfl⟩
      rw [hc] at cv
      obtain ⟨B, hB⟩ : ∃ B : ByteArray, ByteArray.mk S.toArray = B := ⟨_, rfl⟩
      have hBs : B.size ≤ 2000000000 := by rw [← hB]; show S.toArray.size ≤ _; rw [List.size_toArray]; omega
      rw [hB]
      have HBB := Lib.hid hB
      have HU := Lib.hid (show preD v = preD u ++ [c2] by rw [← dd_pre_at hr2 hc]; unfold preD; rw [if_neg (by omega), hu])
      have HUV := Lib.hid (show u < v by omega)
      have HL := Lib.hid (show S.length + 1 ≤ 20 + N - u ∧ u ≤ N ∧ u < 1000000000 by omega)
      have HBA := Lib.hid (HB.out.alloc HB.out.size (.cells #[.int .u8 (48 + (r2 : Int))] 5))
      have qw : wrap64 (u : Int) = (u : Int) := by unfold wrap64; omega
      clear hB hu hr2 hc
      go_wp2_with fail
      refine ⟨⟨u, c2 :: S, HL.out.2.2, by rw [qw], ?_, ?_, by simp only [List.length_cons]; exact HL.out.1, HL.out.2.1, HBA.out⟩, ?_⟩
      · rw [← HBB.out, ByteArray.mk_append_mk]
        rfl
      · rw [HS.out, HU.out]
        simp
      · have h7 := HUV.out
        rw [qw]
        clear qw q1 t2 v2 cv
        simp only [intOf]
        omega
    · have q0 : ¬ (10 : Int) ≤ (v : Int) := by omega
      have hS := HS.out
      unfold preD at hS
      rw [if_pos (by omega), List.nil_append] at hS
      have HS2 := Lib.hid hS
      clear hS
      go_wp2_with fail
      go_ret
      rw [HS2.out]
      exact ⟨rfl, HB.out⟩
set_option maxRecDepth 100000 in
set_option maxHeartbeats 2000000 in
theorem dec_any9 (x : Int) (h : -1000000000 < x ∧ x < 1000000000) (w : World) : Calls Tryz.prog 102 #[.int .i64 x] w fun e w' => e = .returned (.string ⟨(Lib.itoa x).toArray⟩) ∧ Below w.heap.size w w' := by
  by_cases h0 : 0 ≤ x
  · have h1 := dec_nat9 x.toNat (by omega) w
    rw [itoa_nat h0]
    rwa [show ((x.toNat : Nat) : Int) = x by omega] at h1
  · have hx : x < 0 := by omega
    obtain ⟨N, hN⟩ : ∃ N : Nat, -x = (N : Int) := ⟨(-x).toNat, by omega⟩
    have HI : Hid (Lib.itoa x = 45 :: Lib.decDigits N) := Lib.hid (by unfold Lib.itoa; rw [if_pos hx, show x.natAbs = N by omega])
    have hw : wrap64 (-x) = (N : Int) := by unfold wrap64; omega
    have hN8 : N < 1000000000 := by omega
    have HDD := Lib.hid (show (Lib.decDigits N).length ≤ 9 from dd_len 8 N (by omega))
    go_enter Tryz.func102, Tryz.ntmps102
    go_wp2_with fail
    clear hw
    refine (dec_nat9 N hN8 w).mono ?_
    rintro e w5 ⟨rfl, hb5⟩
    have HB5 := Lib.hid hb5
    clear hb5
    obtain ⟨B, hB⟩ : ∃ B : ByteArray, ByteArray.mk (Lib.decDigits N).toArray = B := ⟨_, rfl⟩
    have hBs : B.size ≤ 9 := by rw [← hB]; show (Lib.decDigits N).toArray.size ≤ _; rw [List.size_toArray]; exact HDD.out
    rw [hB]
    have HBB := Lib.hid hB
    clear hB
    go_wp2_with fail
    go_ret
    refine ⟨?_, HB5.out⟩
    rw [HI.out, ← HBB.out, ByteArray.mk_append_mk]
    rfl
theorem byte_list_eq (a : List UInt8) (s : ByteArray) : ((ByteArray.mk a.toArray).toList == s.toList) = decide (a = s.data.toList) := by
  rw [ByteArray.toList_eq, ByteArray.toList_eq]
  show (a == s.data.toList) = _
  by_cases h : a = s.data.toList
  · rw [decide_eq_true h, h]; simp
  · rw [decide_eq_false h]; simpa using h
/-- What is told of a number. -/
def NumP (L : List UInt8) (w : World) (e : Ending) (w' : World) : Prop :=
  Below w.heap.size w w' ∧ ∃ (n : Int) (z : Bool), e = .returned (.tuple #[.int .i64 n, .bool z]) ∧ ((z = true ∧ OkL n ∧ L = Lib.itoa n) ∨ (z = false ∧ ¬ LevW L))
theorem lev_nonneg {w : List UInt8} (h : w[0]? ≠ some 45) {x : Int} (hx : w = Lib.itoa x) : 0 ≤ x ∧ w = Lib.decDigits x.toNat := by
  by_cases h0 : x < 0
  · rw [hx] at h
    unfold Lib.itoa at h
    rw [if_pos h0] at h
    exact absurd rfl h
  · exact ⟨by omega, by rw [hx, itoa_nat (by omega)]⟩
theorem lev_neg {w : List UInt8} {x : Int} (hx : (45 : UInt8) :: w = Lib.itoa x) : x < 0 ∧ w = Lib.decDigits x.natAbs := by
  unfold Lib.itoa at hx
  split at hx
  · exact ⟨by omega, by simpa using hx⟩
  · have h1 := dd_dig x.toNat 45 (by rw [← hx]; simp)
    exact absurd h1.1 (by decide)
set_option maxRecDepth 100000 in
set_option maxHeartbeats 4000000 in
theorem num_pos (s : ByteArray) (h9 : s.size ≤ 9) (h0 : 0 < s.size) (hm : ¬ s[0]'h0 = 45) (w : World) : Calls Tryz.prog 105 #[.string s] w (NumP s.data.toList w) := by
  have HSZ := Lib.hid (show s.size = s.data.toList.length from Array.length_toList.symm)
  have H9 := Lib.hid h9
  have HBW := Lib.hid (Below.refl w.heap.size w)
  have hd0 : s.data.toList[0]? ≠ some 45 := by
    rw [List.getElem?_eq_getElem (by rw [← HSZ.out]; exact h0)]
    intro e
    exact hm (Option.some.inj e)
  have HVX : Hid (∀ x : Int, OkL x → s.data.toList = Lib.itoa x → ((valL s.data.toList : Nat) : Int) = x) := Lib.hid fun x _ hxe => by
    obtain ⟨h1, h2⟩ := lev_nonneg hd0 hxe
    rw [h2, dd_val]
    omega
  have HNL : Hid (¬ DigL s.data.toList → ¬ LevW s.data.toList) := Lib.hid fun hn ⟨x, hx, hxe⟩ => hn (by
    obtain ⟨h1, h2⟩ := lev_nonneg hd0 hxe
    rw [h2]
    exact dd_dig _)
  have n1 : (0 : Int) < (s.size : Int) := by omega
  have N2 := Lib.hid (show ¬ (9 : Int) < (s.size : Int) by omega)
  have n3 : ¬ ((s[0]'h0).toNat : Int) = 45 := fun e => hm (UInt8.toNat_inj.1 (by have h45 : (45 : UInt8).toNat = 45 := rfl; omega))
  have N4 := Lib.hid (show ¬ s = ByteArray.empty from fun e => by rw [e] at h0; exact absurd h0 (by decide))
  clear hm hd0
  go_enter Tryz.func105, Tryz.ntmps105
  go_wp2_with fail
  go_quiet (fail)
  clear n1
  go_wp2_with fail
  · exfalso
    rename_i hq
    rcases hq with hq | hq
    · have hq0 : (s.size : Int) = 0 := by simpa using hq
      omega
    · have h2 := N2.out
      omega
  rename_i hA hB hC hK hJ
  clear hA hB hC n3
  go_loopw [6, 7] (fun n i wr => Below w.heap.size w wr ∧ ∃ k : Nat, k ≤ s.size ∧ i = .int .i64 k ∧ n = .int .i64 (valL (s.data.toList.take k) : Nat) ∧ DigL (s.data.toList.take k)) (fun _ i _ => s.size - (intOf i).toNat)
  case atStart => exact ⟨belN HBW.out _, 0, Nat.zero_le _, rfl, rfl, fun c hc => by simp at hc⟩
  case round =>
    obtain ⟨hbr, k, hk, rfl, rfl, hd⟩ := hrel
    have HD := Lib.hid hd; have HBR := Lib.hid hbr; clear hd hbr
    by_cases hlt : k < s.size
    · have hl : k < s.data.toList.length := by have := HSZ.out; omega
      have hget : s[k]'hlt = s.data.toList[k] := by rfl
      have hv := valL_lt (l := s.data.toList) (k := k) (by omega) (by have := HSZ.out; have := H9.out; omega) HD.out
      have ht := valL_take hl
      rw [← hget] at ht
      have hds := fun hc => digL_snoc hl HD.out hc
      rw [← hget] at hds
      have hno := fun (hc : ¬ (48 ≤ (s[k]'hlt).toNat ∧ (s[k]'hlt).toNat ≤ 57)) => (fun hD : DigL s.data.toList => hc (by rw [hget]; exact hD _ (List.getElem_mem hl)))
      have HT := Lib.hid ht; have HDS := Lib.hid hds; have HNO := Lib.hid hno
      clear ht hds hno hget
      obtain ⟨V, hV⟩ : ∃ V, valL (s.data.toList.take k) = V := ⟨_, rfl⟩
      rw [hV] at HT hv ⊢
      clear hV
      obtain ⟨c, hc⟩ : ∃ c : UInt8, (s[k]'hlt) = c := ⟨_, rfl⟩
      rw [hc] at HT HDS HNO
      have hcl := c.toNat_lt
      by_cases c1 : c.toNat < 48
      · have c1' : ((s[k]'hlt).toNat : Int) < 48 := by rw [hc]; omega
        go_wp2_with fail
        go_ret2
        exact ⟨HBR.out, 0, false, rfl, .inr ⟨rfl, HNL.out (HNO.out (by omega))⟩⟩
      · have c1' : ¬ ((s[k]'hlt).toNat : Int) < 48 := by rw [hc]; omega
        by_cases c2 : 57 < c.toNat
        · have c2' : (57 : Int) < ((s[k]'hlt).toNat : Int) := by rw [hc]; omega
          go_wp2_with fail
          go_ret2
          exact ⟨HBR.out, 0, false, rfl, .inr ⟨rfl, HNL.out (HNO.out (by omega))⟩⟩
        · have c2' : ¬ (57 : Int) < ((s[k]'hlt).toNat : Int) := by rw [hc]; omega
          go_wp2_with fail
          refine ⟨⟨HBR.out, k + 1, by omega, by go_num, ?_, HDS.out (by omega)⟩, by simp [intOf]; omega⟩
          rw [HT.out]
          congr 1
          omega
    · have hke : k = s.size := by omega
      have hd := HD.out
      rw [List.take_of_length_le (by have := HSZ.out; omega)] at hd ⊢
      have HD2 := Lib.hid hd
      have hv := val_lt hd
      have hv8 : valL s.data.toList < 1000000000 := Nat.lt_of_lt_of_le hv (Nat.pow_le_pow_right (n := 10) (by decide) (by have := HSZ.out; have := H9.out; omega) : 10 ^ _ ≤ 10 ^ 9)
      obtain ⟨V, hV⟩ : ∃ V, valL s.data.toList = V := ⟨_, rfl⟩
      rw [hV] at hv8 ⊢
      have hdec := dec_any9 ((V : Nat) : Int) ⟨by omega, by omega⟩
      have HVY : Hid (∀ x : Int, OkL x → s.data.toList = Lib.itoa x → ((V : Nat) : Int) = x) := Lib.hid fun x a b => by rw [← hV]; exact HVX.out x a b
      have HV := Lib.hid hV
      have HVB := Lib.hid hv8
      clear hd hv hV
      go_wp2_with fail
      refine (hdec wr).mono ?_
      rintro e w1 ⟨rfl, hb1⟩
      have HB1 := Lib.hid (HBR.out.trans (hb1.mono HBR.out.size))
      have HEQ := Lib.hid (byte_list_eq (Lib.itoa ((V : Nat) : Int)) s)
      obtain ⟨DD, hDD⟩ : ∃ D : ByteArray, ByteArray.mk (Lib.itoa ((V : Nat) : Int)).toArray = D := ⟨_, rfl⟩
      rw [hDD] at HEQ ⊢
      clear hDD hb1 hdec
      go_wp2_with fail
      go_ret2
      refine ⟨HB1.out, ((V : Nat) : Int), _, rfl, ?_⟩
      have heq := HEQ.out
      have hvb := HVB.out
      by_cases he : Lib.itoa ((V : Nat) : Int) = s.data.toList
      · rw [decide_eq_true he] at heq
        exact .inl ⟨heq, ⟨by omega, by omega⟩, he.symm⟩
      · rw [decide_eq_false he] at heq
        refine .inr ⟨heq, ?_⟩
        rintro ⟨x, hx, hxe⟩
        exact he (by rw [HVY.out x hx hxe, hxe])
set_option maxRecDepth 100000 in
set_option maxHeartbeats 4000000 in
theorem num_neg (s : ByteArray) (h9 : s.size ≤ 10) (h1 : 1 < s.size) (hm : s[0]'(by omega) = 45) (w : World) : Calls Tryz.prog 105 #[.string s] w (NumP s.data.toList w) := by
  have h0 : 0 < s.size := by omega
  obtain ⟨D, hD⟩ : ∃ z, s.extract 1 s.size = z := ⟨_, rfl⟩
  have hsl : s.data.toList.length = s.size := Array.length_toList
  have hDL : s.data.toList.drop 1 = D.data.toList := by
    rw [← hD, ext_mk s 1 s.size]
    show _ = (List.take (s.size - 1) (List.drop 1 s.data.toList))
    rw [List.take_of_length_le (by rw [List.length_drop]; omega)]
  have hLS : s.data.toList = 45 :: D.data.toList := by
    rw [← hDL, ← hm]
    have := List.drop_eq_getElem_cons (l := s.data.toList) (i := 0) (by omega)
    rw [List.drop_zero] at this
    exact this
  have hds : D.size = s.size - 1 := by
    have h5 : D.size = D.data.toList.length := Array.length_toList.symm
    rw [h5, ← hDL, List.length_drop, hsl]
  have HSZ := Lib.hid (show D.size = D.data.toList.length from Array.length_toList.symm)
  have H9 := Lib.hid (show D.size ≤ 9 by omega)
  have hd9 : D.size ≤ 9 := by omega
  have HBW := Lib.hid (Below.refl w.heap.size w)
  have HVX : Hid (∀ x : Int, OkL x → s.data.toList = Lib.itoa x → -((valL D.data.toList : Nat) : Int) = x) := Lib.hid fun x _ hxe => by
    rw [hLS] at hxe
    obtain ⟨h1, h2⟩ := lev_neg hxe
    rw [h2, dd_val]
    omega
  have HNL : Hid (¬ DigL D.data.toList → ¬ LevW s.data.toList) := Lib.hid fun hn ⟨x, hx, hxe⟩ => hn (by
    rw [hLS] at hxe
    obtain ⟨h1, h2⟩ := lev_neg hxe
    rw [h2]
    exact dd_dig _)
  have n1 : (0 : Int) < (s.size : Int) := by omega
  have N1 := Lib.hid (show (1 : Int) ≤ (s.size : Int) by omega)
  have N2 := Lib.hid (show (D.size : Int) ≤ 9 by omega)
  have N4 := Lib.hid (show ¬ D.size = 0 by omega)
  have n3 : ((s[0]'h0).toNat : Int) = 45 := by
    rw [hm]
    rfl
  have HDE := Lib.hid hD
  clear hm hD hsl hDL hLS hds h9 h1
  go_enter Tryz.func105, Tryz.ntmps105
  go_wp2_with fail
  go_quiet (fail)
  clear n1 n3
  have n1 := N1.out
  have hD := HDE.out
  have n4 : ¬ D = ByteArray.empty := fun e => N4.out (by rw [e]; rfl)
  go_wp2_with fail
  · exfalso
    rename_i hq
    have h4 := N4.out
    have h2 := N2.out
    rcases hq with hq | hq
    · have hq0 : (D.size : Int) = 0 := by simpa using hq
      omega
    · omega
  rename_i hA hK hJ
  clear hA n4 hD n1
  go_loopw [6, 7] (fun n i wr => Below w.heap.size w wr ∧ ∃ k : Nat, k ≤ D.size ∧ i = .int .i64 k ∧ n = .int .i64 (valL (D.data.toList.take k) : Nat) ∧ DigL (D.data.toList.take k)) (fun _ i _ => D.size - (intOf i).toNat)
  case atStart => exact ⟨belN HBW.out _, 0, Nat.zero_le _, rfl, rfl, fun c hc => by simp at hc⟩
  case round =>
    obtain ⟨hbr, k, hk, rfl, rfl, hd⟩ := hrel
    have HD := Lib.hid hd; have HBR := Lib.hid hbr; clear hd hbr
    by_cases hlt : k < D.size
    · have hl : k < D.data.toList.length := by have := HSZ.out; omega
      have hget : D[k]'hlt = D.data.toList[k] := by rfl
      have hv := valL_lt (l := D.data.toList) (k := k) (by omega) (by have := HSZ.out; have := H9.out; omega) HD.out
      have ht := valL_take hl
      rw [← hget] at ht
      have hds := fun hc => digL_snoc hl HD.out hc
      rw [← hget] at hds
      have hno := fun (hc : ¬ (48 ≤ (D[k]'hlt).toNat ∧ (D[k]'hlt).toNat ≤ 57)) => (fun hD : DigL D.data.toList => hc (by rw [hget]; exact hD _ (List.getElem_mem hl)))
      have HT := Lib.hid ht; have HDS := Lib.hid hds; have HNO := Lib.hid hno
      clear ht hds hno hget
      obtain ⟨V, hV⟩ : ∃ V, valL (D.data.toList.take k) = V := ⟨_, rfl⟩
      rw [hV] at HT hv ⊢
      clear hV
      obtain ⟨c, hc⟩ : ∃ c : UInt8, (D[k]'hlt) = c := ⟨_, rfl⟩
      rw [hc] at HT HDS HNO
      have hcl := c.toNat_lt
      by_cases c1 : c.toNat < 48
      · have c1' : ((D[k]'hlt).toNat : Int) < 48 := by rw [hc]; omega
        go_wp2_with fail
        go_ret2
        exact ⟨HBR.out, 0, false, rfl, .inr ⟨rfl, HNL.out (HNO.out (by omega))⟩⟩
      · have c1' : ¬ ((D[k]'hlt).toNat : Int) < 48 := by rw [hc]; omega
        by_cases c2 : 57 < c.toNat
        · have c2' : (57 : Int) < ((D[k]'hlt).toNat : Int) := by rw [hc]; omega
          go_wp2_with fail
          go_ret2
          exact ⟨HBR.out, 0, false, rfl, .inr ⟨rfl, HNL.out (HNO.out (by omega))⟩⟩
        · have c2' : ¬ (57 : Int) < ((D[k]'hlt).toNat : Int) := by rw [hc]; omega
          go_wp2_with fail
          refine ⟨⟨HBR.out, k + 1, by omega, by go_num, ?_, HDS.out (by omega)⟩, by simp [intOf]; omega⟩
          rw [HT.out]
          congr 1
          omega
    · have hke : k = D.size := by omega
      have hd := HD.out
      rw [List.take_of_length_le (by have := HSZ.out; omega)] at hd ⊢
      have HD2 := Lib.hid hd
      have hv := val_lt hd
      have hv8 : valL D.data.toList < 1000000000 := Nat.lt_of_lt_of_le hv (Nat.pow_le_pow_right (n := 10) (by decide) (by have := HSZ.out; have := H9.out; omega) : 10 ^ _ ≤ 10 ^ 9)
      obtain ⟨V, hV⟩ : ∃ V, valL D.data.toList = V := ⟨_, rfl⟩
      rw [hV] at hv8 ⊢
      have hdec := dec_any9 (-((V : Nat) : Int)) ⟨by omega, by omega⟩
      have wn : wrap64 (-((V : Nat) : Int)) = -((V : Nat) : Int) := by unfold wrap64; omega
      have HVY : Hid (∀ x : Int, OkL x → s.data.toList = Lib.itoa x → (-((V : Nat) : Int)) = x) := Lib.hid fun x a b => by rw [← hV]; exact HVX.out x a b
      have HV := Lib.hid hV
      have HVB := Lib.hid hv8
      clear hd hv hV
      go_wp2_with fail
      refine (hdec wr).mono ?_
      rintro e w1 ⟨rfl, hb1⟩
      have HB1 := Lib.hid (HBR.out.trans (hb1.mono HBR.out.size))
      have HEQ := Lib.hid (byte_list_eq (Lib.itoa (-((V : Nat) : Int))) s)
      obtain ⟨DD, hDD⟩ : ∃ D : ByteArray, ByteArray.mk (Lib.itoa (-((V : Nat) : Int))).toArray = D := ⟨_, rfl⟩
      rw [hDD] at HEQ ⊢
      clear hDD hb1 hdec
      go_wp2_with fail
      go_ret2
      refine ⟨HB1.out, (-((V : Nat) : Int)), _, rfl, ?_⟩
      have heq := HEQ.out
      have hvb := HVB.out
      by_cases he : Lib.itoa (-((V : Nat) : Int)) = s.data.toList
      · rw [decide_eq_true he] at heq
        exact .inl ⟨heq, ⟨by omega, by omega⟩, he.symm⟩
      · rw [decide_eq_false he] at heq
        refine .inr ⟨heq, ?_⟩
        rintro ⟨x, hx, hxe⟩
        exact he (by rw [HVY.out x hx hxe, hxe])
theorem no_lev_pos {w : List UInt8} (h : w[0]? ≠ some 45) (hl : w = [] ∨ 9 < w.length) : ¬ LevW w := fun ⟨x, hx, hxe⟩ => by
  obtain ⟨h1, h2⟩ := lev_nonneg h hxe
  have h3 := dd_len 8 x.toNat (by have := hx.2; omega)
  rw [← h2] at h3
  rcases hl with rfl | hl
  · exact dd_ne _ h2.symm
  · omega
theorem no_lev_neg {w : List UInt8} (hl : w = [] ∨ 9 < w.length) : ¬ LevW (45 :: w) := fun ⟨x, hx, hxe⟩ => by
  obtain ⟨h1, h2⟩ := lev_neg hxe
  have h3 := dd_len 8 x.natAbs (by have := hx.1; omega)
  rw [← h2] at h3
  rcases hl with rfl | hl
  · exact dd_ne _ h2.symm
  · omega
set_option maxRecDepth 100000 in
set_option maxHeartbeats 4000000 in
theorem num_long (s : ByteArray) (h0 : 0 < s.size) (h9 : 9 < s.size) (hm : ¬ s[0]'h0 = 45) (w : World) : Calls Tryz.prog 105 #[.string s] w (NumP s.data.toList w) := by
  have HSZ := Lib.hid (show s.size = s.data.toList.length from Array.length_toList.symm)
  have HBW := Lib.hid (Below.refl w.heap.size w)
  have HNL : Hid (¬ LevW s.data.toList) := Lib.hid (no_lev_pos (by
    rw [List.getElem?_eq_getElem (by rw [← HSZ.out]; exact h0)]
    intro e
    exact hm (Option.some.inj e)) (.inr (by rw [← HSZ.out]; exact h9)))
  have n1 : (0 : Int) < (s.size : Int) := by omega
  have N2 := Lib.hid (show (9 : Int) < (s.size : Int) by omega)
  have n3 : ¬ ((s[0]'h0).toNat : Int) = 45 := fun e => hm (UInt8.toNat_inj.1 (by have h45 : (45 : UInt8).toNat = 45 := rfl; omega))
  clear hm
  go_enter Tryz.func105, Tryz.ntmps105
  go_wp2_with fail
  go_quiet (fail)
  have n2 := N2.out
  have n4 : ¬ s = ByteArray.empty := fun e => by rw [e] at h0; exact absurd h0 (by decide)
  go_wp2_with fail
  go_ret2
  exact ⟨belN HBW.out _, 0, false, rfl, .inr ⟨rfl, HNL.out⟩⟩
set_option maxRecDepth 100000 in
set_option maxHeartbeats 4000000 in
theorem num_far (s : ByteArray) (h0 : 0 < s.size) (h9 : s.size = 1 ∨ 10 < s.size) (hs : s.size ≤ 30000) (hm : s[0]'h0 = 45) (w : World) : Calls Tryz.prog 105 #[.string s] w (NumP s.data.toList w) := by
  obtain ⟨D, hD⟩ : ∃ z, s.extract 1 s.size = z := ⟨_, rfl⟩
  have hsl : s.data.toList.length = s.size := Array.length_toList
  have hDL : s.data.toList.drop 1 = D.data.toList := by
    rw [← hD, ext_mk s 1 s.size]
    show _ = (List.take (s.size - 1) (List.drop 1 s.data.toList))
    rw [List.take_of_length_le (by rw [List.length_drop]; omega)]
  have hLS : s.data.toList = 45 :: D.data.toList := by
    rw [← hDL, ← hm]
    have := List.drop_eq_getElem_cons (l := s.data.toList) (i := 0) (by omega)
    rw [List.drop_zero] at this
    exact this
  have h5 : D.size = D.data.toList.length := Array.length_toList.symm
  have hds : D.size = s.size - 1 := by rw [h5, ← hDL, List.length_drop, hsl]
  have HBW := Lib.hid (Below.refl w.heap.size w)
  have HNL : Hid (¬ LevW s.data.toList) := Lib.hid (by
    rw [hLS]
    refine no_lev_neg ?_
    rcases h9 with h | h
    · exact .inl (List.length_eq_zero_iff.1 (by omega))
    · exact .inr (by omega))
  have n1 : (0 : Int) < (s.size : Int) := by omega
  have N1 := Lib.hid (show (1 : Int) ≤ (s.size : Int) by omega)
  have n3 : ((s[0]'h0).toNat : Int) = 45 := by
    rw [hm]
    rfl
  have HDE := Lib.hid hD
  have h9' : D.size = 0 ∨ 9 < D.size := by omega
  have HD9 := Lib.hid h9'
  clear hm hD hsl hDL hLS hds h9 h9' h5
  go_enter Tryz.func105, Tryz.ntmps105
  go_wp2_with fail
  go_quiet (fail)
  clear n1 n3
  have n1 := N1.out
  have hD := HDE.out
  rcases HD9.out with h9 | h9
  · have n4 : D = ByteArray.empty := by
      have h6 : D.data = #[] := Array.eq_empty_of_size_eq_zero (by show D.size = 0; exact h9)
      cases D
      simp_all [ByteArray.empty, ByteArray.emptyWithCapacity]
    subst n4
    go_wp2_with fail
    go_ret2
    exact ⟨belN HBW.out _, 0, false, rfl, .inr ⟨rfl, HNL.out⟩⟩
  · have n2 : (9 : Int) < (D.size : Int) := by omega
    have n4 : ¬ D = ByteArray.empty := fun e => by rw [e] at h9; exact absurd h9 (by decide)
    go_wp2_with fail
    go_ret2
    exact ⟨belN HBW.out _, 0, false, rfl, .inr ⟨rfl, HNL.out⟩⟩
set_option maxRecDepth 100000 in
set_option maxHeartbeats 4000000 in
theorem num_none (w : World) : Calls Tryz.prog 105 #[.string ⟨#[]⟩] w (NumP [] w) := by
  have HBW := Lib.hid (Below.refl w.heap.size w)
  have HNL : Hid (¬ LevW []) := Lib.hid (no_lev_pos (by simp) (.inl rfl))
  go_enter Tryz.func105, Tryz.ntmps105
  go_wp2_with fail
  go_quiet (fail)
  go_wp2_with fail
  go_ret2
  exact ⟨belN HBW.out _, 0, false, rfl, .inr ⟨rfl, HNL.out⟩⟩
theorem num_any (s : ByteArray) (hs : s.size ≤ 30000) (w : World) : Calls Tryz.prog 105 #[.string s] w (NumP s.data.toList w) := by
  by_cases h0 : 0 < s.size
  · by_cases hm : s[0]'h0 = 45
    · by_cases h9 : s.size = 1 ∨ 10 < s.size
      · exact num_far s h0 h9 hs hm w
      · exact num_neg s (by omega) (by omega) hm w
    · by_cases h9 : 9 < s.size
      · exact num_long s h0 h9 hm w
      · exact num_pos s (by omega) h0 hm w
  · have hs : s = ⟨#[]⟩ := by
      have : s.data = #[] := Array.eq_empty_of_size_eq_zero (by show s.size = 0; omega)
      cases s; simp_all
    subst hs
    exact num_none w
end Go.Proofs.YtdlaphlpimlgdaaGreatDoor
