/- The specification's words: numbers, the last line. -/
import Derived.Test.YtccekbdhffccdaaDoorLB
import Derived.Test.YtccekbdhffccdaaDoorGC
import Derived.Laws.IdiomStrings
namespace Go.Proofs.YtccekbdhffccdaaDoor
open Go.RowKit

set_option maxRecDepth 100000 in
set_option maxHeartbeats 2000000 in
theorem digit_any (k : Nat) (hk : k < 16) (w : World) : Calls Tryd.prog 99 #[.int .i64 k] w fun e w' => e = .returned (.string ⟨#[hexD k]⟩) ∧ w' = w := by
  have h1 : (0 : Int) ≤ (k : Int) := by omega
  have h2 : (k : Int) + 1 ≤ 16 := by omega
  go_enter Tryd.func99, Tryd.ntmps99
  go_wp2_with fail
  go_ret
  rw [ext_hex k hk]
  exact ⟨rfl, rfl⟩
theorem conv_one (w : World) (r : Nat) (hr : r < 10) : (convert 82 9 (.slice (some ⟨w.heap.size, 0, none⟩) 1 1)).run Tryd.prog (w.alloc (.cells #[.int .u8 (48 + (r : Int))] 5)) = .ok (.string ⟨#[UInt8.ofNat (48 + r)]⟩) (w.alloc (.cells #[.int .u8 (48 + (r : Int))] 5)) := by
  refine run_convert_bytes_back (P := Tryd.prog) (w.alloc (.cells #[.int .u8 (48 + (r : Int))] 5)) 82 9 5 ⟨w.heap.size, 0, none⟩ 1 [UInt8.ofNat (48 + r)] Tryd.underlying82 Tryd.underlying5 Tryd.underlying9 (fun j hj => ?_)
  have hj0 : j = 0 := by simpa using hj
  subst hj0
  show (w.alloc (.cells #[.int .u8 (48 + (r : Int))] 5)).cell? ⟨w.heap.size, 0, none⟩ = _
  rw [cell_of_row _ w.heap.size 0 _ 5 (0, 0) (heap_alloc_new w (.cells #[.int .u8 (48 + (r : Int))] 5))]
  show some (Value.int .u8 (48 + (r : Int))) = some (Value.int .u8 ((UInt8.ofNat (48 + r)).toNat : Int))
  rw [of_digit hr]
  rfl
def preD (v : Nat) : List UInt8 := if v < 10 then [] else Lib.decDigits (v / 10)
theorem dd_pre (v : Nat) : Lib.decDigits v = preD v ++ [UInt8.ofNat (48 + v % 10)] := by
  unfold preD
  split
  · rename_i h
    rw [Lib.decDigits_one h, Nat.mod_eq_of_lt h]
    rfl
  · rename_i h
    exact dd_big h
theorem dd_pre_at {u r2 : Nat} {c2 : UInt8} (hr2 : u % 10 = r2) (hc : UInt8.ofNat (48 + r2) = c2) : Lib.decDigits u = preD u ++ [c2] := by rw [dd_pre, hr2, hc]
theorem u8_fact (r : Nat) (hr : r < 10) : Value.int .u8 (wrap64 (48 + (r : Int)) % 256) = Value.int .u8 (48 + (r : Int)) := by
  have : wrap64 (48 + (r : Int)) = 48 + (r : Int) := by unfold wrap64; omega
  rw [this, Int.emod_eq_of_lt (by omega) (by omega)]
set_option maxRecDepth 100000 in
set_option maxHeartbeats 4000000 in
theorem decimal_nat (N : Nat) (h : N < 100000000) (w : World) : Calls Tryd.prog 80 #[.int .i64 (N : Int)] w fun e w' => e = .returned (.string ⟨(Lib.decDigits N).toArray⟩) ∧ Below w.heap.size w w' := by
  obtain ⟨r, hr⟩ : ∃ r : Nat, N % 10 = r := ⟨_, rfl⟩
  have hr10 : r < 10 := by omega
  have t1 : ((N : Nat) : Int).tmod 10 = (r : Int) := by rw [Int.tmod_eq_emod_of_nonneg (by omega)]; omega
  have v1 := u8_fact r hr10
  have cv := conv_one w r hr10
  obtain ⟨c, hc⟩ : ∃ c, UInt8.ofNat (48 + r) = c := ⟨_, rfl⟩
  rw [hc] at cv
  have HB1 := Lib.hid ((Below.refl w.heap.size w).alloc (Nat.le_refl _) (.cells #[.int .u8 (48 + (r : Int))] 5))
  have HP := Lib.hid (show Lib.decDigits N = preD N ++ [c] by rw [dd_pre, hr, hc])
  clear hr hc
  go_enter Tryd.func80, Tryd.ntmps80
  go_wp2_with fail
  clear t1 v1 cv
  go_loopw [0, 3] (fun a s wr => ∃ (v : Nat) (S : List UInt8), v < 100000000 ∧ a = .int .i64 (v : Int) ∧ s = .string ⟨S.toArray⟩ ∧ Lib.decDigits N = preD v ++ S ∧ S.length ≤ 20 + N - v ∧ v ≤ N ∧ Below w.heap.size w wr) (fun a _ _ => (intOf a).toNat)
  case atStart => exact ⟨N, [c], h, rfl, rfl, HP.out, by simp, Nat.le_refl _, HB1.out⟩
  case round =>
    obtain ⟨v, S, hv, rfl, rfl, hS, hl, hvn, hb⟩ := hrel
    have HS := Lib.hid hS; have HB := Lib.hid hb
    clear hS hb
    by_cases hlt : 10 ≤ v
    · have q0 : (10 : Int) ≤ (v : Int) := by omega
      obtain ⟨u, hu⟩ : ∃ u : Nat, v / 10 = u := ⟨_, rfl⟩
      obtain ⟨r2, hr2⟩ : ∃ r2 : Nat, u % 10 = r2 := ⟨_, rfl⟩
      have q1 : ((v : Nat) : Int).tdiv 10 = (u : Int) := by rw [Int.tdiv_eq_ediv_of_nonneg (by omega)]; omega
      have t2 : ((u : Nat) : Int).tmod 10 = (r2 : Int) := by rw [Int.tmod_eq_emod_of_nonneg (by omega)]; omega
      have v2 := u8_fact r2 (by omega)
      have cv := conv_one wr r2 (by omega)
      obtain ⟨c2, hc⟩ : ∃ c, UInt8.ofNat (48 + r2) = c := ⟨_, rfl⟩
      rw [hc] at cv
      obtain ⟨B, hB⟩ : ∃ B : ByteArray, ByteArray.mk S.toArray = B := ⟨_, rfl⟩
      have hBs : B.size ≤ 200000000 := by rw [← hB]; show S.toArray.size ≤ _; rw [List.size_toArray]; omega
      rw [hB]
      have HBB := Lib.hid hB
      have HU := Lib.hid (show preD v = preD u ++ [c2] by rw [← dd_pre_at hr2 hc]; unfold preD; rw [if_neg (by omega), hu])
      have HUV := Lib.hid (show u < v by omega)
      have HL := Lib.hid (show S.length + 1 ≤ 20 + N - u ∧ u ≤ N ∧ u < 100000000 by omega)
      have HBA := Lib.hid (HB.out.alloc HB.out.size (.cells #[.int .u8 (48 + (r2 : Int))] 5))
      have qw : wrap64 (u : Int) = (u : Int) := by unfold wrap64; omega
      clear hB hu hr2 hc
      go_wp2_with fail
      refine ⟨⟨u, c2 :: S, HL.out.2.2, by rw [qw], ?_, ?_, by simp only [List.length_cons]; exact HL.out.1, HL.out.2.1, HBA.out⟩, ?_⟩
      · rw [← HBB.out, ByteArray.mk_append_mk]
        rfl
      · rw [HS.out, HU.out]
        simp
      · have h7 := HUV.out
        rw [qw]
        clear qw q1 t2 v2 cv
        simp only [intOf]
        omega
    · have q0 : ¬ (10 : Int) ≤ (v : Int) := by omega
      have hS := HS.out
      unfold preD at hS
      rw [if_pos (by omega), List.nil_append] at hS
      have HS2 := Lib.hid hS
      clear hS
      go_wp2_with fail
      go_ret
      rw [HS2.out]
      exact ⟨rfl, HB.out⟩
theorem decimal_any (n : Int) (h : OkN n) (w : World) : Calls Tryd.prog 80 #[.int .i64 n] w fun e w' => e = .returned (.string ⟨(Lib.itoa n).toArray⟩) ∧ Below w.heap.size w w' := by
  have h1 := decimal_nat n.toNat (by have := h.2; omega) w
  rw [itoa_nat h.1]
  rwa [show ((n.toNat : Nat) : Int) = n by have := h.1; omega] at h1
theorem le_of_hid {s : ByteArray} {k : Nat} (h : Hid (s.size = s.data.toList.length)) (h2 : Hid (k = s.size)) : s.data.toList.length ≤ k := by rw [h2.out, h.out]; exact Nat.le_refl _
set_option maxRecDepth 1000000 in
set_option maxHeartbeats 4000000 in
theorem end2_any (s : ByteArray) (hs : s.size ≤ 1000000) (w : World) :
    Calls Tryd.prog 81 #[.string s] w fun e w' => e = .returned (.string ⟨(endT s.data.toList).toArray⟩) ∧ Below w.heap.size w w' := by
  have HSZ := Lib.hid (show s.size = s.data.toList.length from Array.length_toList.symm)
  go_enter Tryd.func81, Tryd.ntmps81
  go_wp2_with fail
  go_loopw [3, 4] (fun r i wr => wr = w ∧ ∃ k : Nat, k ≤ s.size ∧ i = .int .i64 k ∧ r = .int .i64 (sumN (s.data.toList.take k))) (fun _ i _ => s.size - (intOf i).toNat)
  case atStart => exact ⟨rfl, 0, Nat.zero_le _, rfl, rfl⟩
  case round =>
    obtain ⟨rfl, k, hk, rfl, rfl⟩ := hrel
    have hb := sumN_le (s.data.toList.take k)
    have hbl : (s.data.toList.take k).length ≤ 1000000 := by have := HSZ.out; rw [List.length_take]; omega
    by_cases hlt : k < s.size
    · have hl : k < s.data.toList.length := by have := HSZ.out; omega
      have hx := (s.data.toList[k]).toNat_lt
      have hts := sumN_take_succ hl
      have hget : s[k]'hlt = s.data.toList[k] := by rfl
      have HTS := Lib.hid hts; clear hts
      have HG := Lib.hid hget; clear hget
      go_wp2_with fail
      have e1 : wrap64 ((sumN (s.data.toList.take k) : Nat) + wrap64 ((s[k]'hlt).toNat : Nat)) = ((sumN (s.data.toList.take (k + 1)) : Nat) : Int) := by
        rw [HG.out, HTS.out]
        unfold wrap64
        omega
      exact ⟨⟨trivial, k + 1, by omega, rfl, by rw [e1]⟩, by simp [intOf]; omega⟩
    · have hke : k = s.size := by omega
      obtain ⟨S, hS⟩ : ∃ S, sumN (s.data.toList.take k) = S := ⟨_, rfl⟩
      have hSb : S ≤ 255000000 := by omega
      have HS := Lib.hid hS
      have HK := Lib.hid hke
      clear hb hbl
      rw [hS]
      clear hS hke
      obtain ⟨M, hM, hM1⟩ : ∃ M : Nat, ((S : Int).tmod 251) = (M : Int) ∧ M = S % 251 := ⟨S % 251, by rw [Int.tmod_eq_emod_of_nonneg (by omega)]; omega, rfl⟩
      have hM2 : M < 251 := by omega
      have HM2 := Lib.hid hM2
      obtain ⟨a, ha⟩ : ∃ a : Nat, M / 16 = a := ⟨_, rfl⟩
      obtain ⟨b, hb⟩ : ∃ b : Nat, M % 16 = b := ⟨_, rfl⟩
      have q1 : ((M : Nat) : Int).tdiv 16 = (a : Int) := by rw [Int.tdiv_eq_ediv_of_nonneg (by omega)]; omega
      have q2 : ((M : Nat) : Int).tmod 16 = (b : Int) := by rw [Int.tmod_eq_emod_of_nonneg (by omega)]; omega
      have HA16 := Lib.hid (show a < 16 ∧ b < 16 by omega)
      have qw : wrap64 (a : Int) = (a : Int) := by unfold wrap64; omega
      have HM := Lib.hid hM1; have HA := Lib.hid ha; have HBB := Lib.hid hb
      clear hM1 hSb ha hb
      go_wp2_with fail
      refine (digit_any a HA16.out.1 _).mono ?_
      rintro e w2 ⟨rfl, rfl⟩
      go_wp2_with fail
      refine (digit_any b HA16.out.2 _).mono ?_
      rintro e w3 ⟨rfl, rfl⟩
      go_wp2_with fail
      go_ret
      clear qw q1 q2
      refine ⟨?_, Below.refl _ _⟩
      have hM := HM.out
      rw [← HS.out, List.take_of_length_le (le_of_hid HSZ HK)] at hM
      have h1 : endT s.data.toList = [101, 110, 100, 32, hexD a, hexD b, 10] := by
        unfold endT
        rw [← hM, HA.out, HBB.out]
      rw [h1]
      show Ending.returned (Value.string (ByteArray.mk #[101, 110, 100, 32] ++ ByteArray.mk #[hexD a] ++ ByteArray.mk #[hexD b] ++ ByteArray.mk #[10])) = _
      rw [ByteArray.mk_append_mk, ByteArray.mk_append_mk, ByteArray.mk_append_mk]
      rfl
end Go.Proofs.YtccekbdhffccdaaDoor
