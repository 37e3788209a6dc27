/- The last line of a log. -/
import Derived.Test.YtccekbdhffccdaaDoorG
import Derived.Laws.Concat
import Derived.Deep.QuietTactic
namespace Go.Proofs.YtccekbdhffccdaaDoor
open Go.RowKit

def sumN (l : List UInt8) : Nat := (l.map UInt8.toNat).sum
theorem sumN_le (l : List UInt8) : sumN l ≤ 255 * l.length := by
  induction l with
  | nil => simp [sumN]
  | cons x l ih =>
    have hx : x.toNat < 256 := x.toNat_lt
    simp only [sumN, List.map_cons, List.sum_cons, List.length_cons] at ih ⊢
    omega
theorem sumN_take_succ {l : List UInt8} {k : Nat} (h : k < l.length) : sumN (l.take (k + 1)) = sumN (l.take k) + (l[k]).toNat := by
  simp only [sumN, List.take_succ_eq_append_getElem h, List.map_append, List.sum_append]
  simp
def hexD (k : Nat) : UInt8 := UInt8.ofNat (if k < 10 then 48 + k else 87 + k)
theorem ext_hex (a : Nat) (h : a < 16) : (ByteArray.mk #[48, 49, 50, 51, 52, 53, 54, 55, 56, 57, 97, 98, 99, 100, 101, 102]).extract a (a + 1) = ⟨#[hexD a]⟩ := by
  have : ∀ a : Fin 16, (ByteArray.mk #[48, 49, 50, 51, 52, 53, 54, 55, 56, 57, 97, 98, 99, 100, 101, 102]).extract a.1 (a.1 + 1) = ⟨#[hexD a.1]⟩ := by decide +kernel
  exact this ⟨a, h⟩
def endT (l : List UInt8) : List UInt8 := [101, 110, 100, 32, hexD (sumN l % 251 / 16), hexD (sumN l % 251 % 16), 10]

set_option maxRecDepth 1000000 in
set_option maxHeartbeats 1000000 in
theorem endLine_any (s : ByteArray) (hs : s.size ≤ 1000000) (w : World) :
    Calls Tryd.prog 75 #[.string s] w fun e w' => e = .returned (.string ⟨(endT s.data.toList).toArray⟩) ∧ Below w.heap.size w w' := by
  have HSZ := Lib.hid (show s.size = s.data.toList.length from Array.length_toList.symm)
  go_enter Tryd.func75, Tryd.ntmps75
  go_wp2
  go_loop [3, 7] (fun r i => ∃ k : Nat, k ≤ s.size ∧ i = .int .i64 k ∧ r = .int .i64 (sumN (s.data.toList.take k))) (fun _ i => s.size - (intOf i).toNat)
  case atStart => exact ⟨0, Nat.zero_le _, rfl, rfl⟩
  case round =>
    obtain ⟨k, hk, rfl, rfl⟩ := hrel
    have hb := sumN_le (s.data.toList.take k)
    have hbl : (s.data.toList.take k).length ≤ 1000000 := by have := HSZ.out; rw [List.length_take]; omega
    by_cases hlt : k < s.size
    · have hl : k < s.data.toList.length := by have := HSZ.out; omega
      have hx := (s.data.toList[k]).toNat_lt
      have hts := sumN_take_succ hl
      have hget : s[k]'hlt = s.data.toList[k] := by rfl
      have HTS := Lib.hid hts; clear hts
      have HG := Lib.hid hget; clear hget
      go_wp2
      have e1 : wrap64 ((sumN (s.data.toList.take k) : Nat) + wrap64 ((s[k]'hlt).toNat : Nat)) = ((sumN (s.data.toList.take (k + 1)) : Nat) : Int) := by
        rw [HG.out, HTS.out]
        unfold wrap64
        omega
      exact ⟨⟨k + 1, by omega, rfl, by rw [e1]⟩, by simp [intOf]; omega⟩
    · have hke : k = s.size := by omega
      obtain ⟨S, hS⟩ : ∃ S, sumN (s.data.toList.take k) = S := ⟨_, rfl⟩
      have hSb : S ≤ 255000000 := by omega
      have HS := Lib.hid hS
      have HK := Lib.hid hke
      clear hb hbl
      rw [hS]
      clear hS hke
      go_wp2
      obtain ⟨M, hM, hM1⟩ : ∃ M : Nat, ((S : Int) % 251) = (M : Int) ∧ M = S % 251 := ⟨S % 251, by omega, rfl⟩
      have hM2 : M < 251 := by omega
      rw [hM]
      have HM := Lib.hid hM1
      clear hM hM1 hSb
      go_quiet (fail)
      rw [ext_hex (M / 16) (by omega), ext_hex (M % 16) (by omega)]
      go_wp2
      go_ret
      refine ⟨?_, belN (Below.refl _ _) _⟩
      have hM := HM.out
      rw [← HS.out, List.take_of_length_le (by have := HSZ.out; have := HK.out; omega)] at hM
      rw [ByteArray.mk_append_mk, ByteArray.mk_append_mk, ByteArray.mk_append_mk, hM]
      rfl
end Go.Proofs.YtccekbdhffccdaaDoor
