/- The last line of a log. A line of a log. -/
import Derived.Test.YtccekbdhffccdaaDoorG
import Derived.Test.YtccekbdhffccdaaDoorShelf
import Derived.Laws.Concat
import Derived.Deep.QuietTactic
import Derived.Lib.AppendIntMem
import Derived.Lib.ItoaLen
namespace Go.Proofs.YtccekbdhffccdaaDoor
open Go.RowKit

def sumN (l : List UInt8) : Nat := (l.map UInt8.toNat).sum
theorem sumN_le (l : List UInt8) : sumN l ≤ 255 * l.length := by
  induction l with
  | nil => simp [sumN]
  | cons x l ih =>
    have hx : x.toNat < 256 := x.toNat_lt
    simp only [sumN, List.map_cons, List.sum_cons, List.length_cons] at ih ⊢
    omega
theorem sumN_take_succ {l : List UInt8} {k : Nat} (h : k < l.length) : sumN (l.take (k + 1)) = sumN (l.take k) + (l[k]).toNat := by
  simp only [sumN, List.take_succ_eq_append_getElem h, List.map_append, List.sum_append]
  simp
def hexD (k : Nat) : UInt8 := UInt8.ofNat (if k < 10 then 48 + k else 87 + k)
theorem ext_hex (a : Nat) (h : a < 16) : (ByteArray.mk #[48, 49, 50, 51, 52, 53, 54, 55, 56, 57, 97, 98, 99, 100, 101, 102]).extract a (a + 1) = ⟨#[hexD a]⟩ := by
  have : ∀ a : Fin 16, (ByteArray.mk #[48, 49, 50, 51, 52, 53, 54, 55, 56, 57, 97, 98, 99, 100, 101, 102]).extract a.1 (a.1 + 1) = ⟨#[hexD a.1]⟩ := by decide +kernel
  exact this ⟨a, h⟩
def endT (l : List UInt8) : List UInt8 := [101, 110, 100, 32, hexD (sumN l % 251 / 16), hexD (sumN l % 251 % 16), 10]

set_option maxRecDepth 1000000 in
set_option maxHeartbeats 1000000 in
theorem endLine_any (s : ByteArray) (hs : s.size ≤ 1000000) (w : World) :
    Calls Tryd.prog 75 #[.string s] w fun e w' => e = .returned (.string ⟨(endT s.data.toList).toArray⟩) ∧ Below w.heap.size w w' := by
  have HSZ := Lib.hid (show s.size = s.data.toList.length from Array.length_toList.symm)
  go_enter Tryd.func75, Tryd.ntmps75
  go_wp2
  go_loop [3, 7] (fun r i => ∃ k : Nat, k ≤ s.size ∧ i = .int .i64 k ∧ r = .int .i64 (sumN (s.data.toList.take k))) (fun _ i => s.size - (intOf i).toNat)
  case atStart => exact ⟨0, Nat.zero_le _, rfl, rfl⟩
  case round =>
    obtain ⟨k, hk, rfl, rfl⟩ := hrel
    have hb := sumN_le (s.data.toList.take k)
    have hbl : (s.data.toList.take k).length ≤ 1000000 := by have := HSZ.out; rw [List.length_take]; omega
    by_cases hlt : k < s.size
    · have hl : k < s.data.toList.length := by have := HSZ.out; omega
      have hx := (s.data.toList[k]).toNat_lt
      have hts := sumN_take_succ hl
      have hget : s[k]'hlt = s.data.toList[k] := by rfl
      have HTS := Lib.hid hts; clear hts
      have HG := Lib.hid hget; clear hget
      go_wp2
      have e1 : wrap64 ((sumN (s.data.toList.take k) : Nat) + wrap64 ((s[k]'hlt).toNat : Nat)) = ((sumN (s.data.toList.take (k + 1)) : Nat) : Int) := by
        rw [HG.out, HTS.out]
        unfold wrap64
        omega
      exact ⟨⟨k + 1, by omega, rfl, by rw [e1]⟩, by simp [intOf]; omega⟩
    · have hke : k = s.size := by omega
      obtain ⟨S, hS⟩ : ∃ S, sumN (s.data.toList.take k) = S := ⟨_, rfl⟩
      have hSb : S ≤ 255000000 := by omega
      have HS := Lib.hid hS
      have HK := Lib.hid hke
      clear hb hbl
      rw [hS]
      clear hS hke
      go_wp2
      obtain ⟨M, hM, hM1⟩ : ∃ M : Nat, ((S : Int) % 251) = (M : Int) ∧ M = S % 251 := ⟨S % 251, by omega, rfl⟩
      have hM2 : M < 251 := by omega
      rw [hM]
      have HM := Lib.hid hM1
      clear hM hM1 hSb
      go_quiet (fail)
      rw [ext_hex (M / 16) (by omega), ext_hex (M % 16) (by omega)]
      go_wp2
      go_ret
      refine ⟨?_, belN (Below.refl _ _) _⟩
      have hM := HM.out
      rw [← HS.out, List.take_of_length_le (by have := HSZ.out; have := HK.out; omega)] at hM
      rw [ByteArray.mk_append_mk, ByteArray.mk_append_mk, ByteArray.mk_append_mk, hM]
      rfl
end Go.Proofs.YtccekbdhffccdaaDoor

namespace Go.Proofs.YtccekbdhffccdaaDoor
open Go.RowKit Go.Sort

def Tab (w : World) : Prop := Lib.TabBelow Tryd.prog w.heap.size w "internal/strconv.uint64pow10" .u64 Lib.pow10Tab
theorem Tab.next {w w1 : World} (h : Tab w) (hb : Below w.heap.size w w1) : Tab w1 := fun w2 h2 => h w2 (hb.trans (h2.mono hb.size))

theorem itoa_any (n : Int) (h0 : -9223372036854775808 ≤ n) (h1 : n ≤ 9223372036854775807) (w : World) (ht : Tab w) :
    Calls Tryd.prog 96 #[.int .i64 n] w fun e w' => ∃ T : ByteArray, e = .returned (.string T) ∧ T = ⟨(Lib.itoa n).toArray⟩ ∧ T.size ≤ 21 ∧ Below w.heap.size w w' := by
  refine (Tryd.strconv_Itoa n h0 h1 w ht.here).mono ?_
  rintro e w' ⟨rfl, k, os, rfl⟩
  refine ⟨_, rfl, rfl, by simpa [ByteArray.size] using Lib.itoa_length_le n h0 h1, rfl, rfl, rfl, ?_, ?_⟩
  · simp [grow]
  · intro j hj
    show (w.heap ++ os)[j]? = _
    rw [Array.getElem?_append_left hj]

def numT (xs : List Int) : List UInt8 := (xs.map fun x => 32 :: Lib.itoa x).flatten
theorem numT_take_succ {xs : List Int} {k : Nat} {x : Int} (h : xs[k]? = some x) : numT (xs.take (k + 1)) = numT (xs.take k) ++ (32 :: Lib.itoa x) := by
  obtain ⟨hk, rfl⟩ := List.getElem?_eq_some_iff.1 h
  simp only [numT, List.take_succ_eq_append_getElem hk, List.map_append, List.flatten_append, List.map_cons, List.map_nil, List.flatten_cons, List.flatten_nil, List.append_nil]
def lineT (word : List UInt8) (xs : List Int) : List UInt8 := word ++ numT xs ++ [10]
def I64 (xs : List Int) : Prop := ∀ x ∈ xs, -9223372036854775808 ≤ x ∧ x ≤ 9223372036854775807

set_option maxRecDepth 100000 in
set_option maxHeartbeats 1000000 in
theorem line_any (A : Option Addr) (n c : Nat) (word : List UInt8) (xs : List Int) (w : World) (hl : xs.length = n) (hn : n ≤ 1000) (hw : word.length ≤ 1000) (hX : IntsAt w w.heap.size A xs) (hI : I64 xs) (ht : Tab w) :
    Calls Tryd.prog 74 #[.string ⟨word.toArray⟩, .slice A n c] w fun e w' => e = .returned (.string ⟨(lineT word xs).toArray⟩) ∧ Below w.heap.size w w' := by
  have HL := Lib.hid hl; clear hl
  have HI := Lib.hid hI; clear hI
  have HT := Lib.hid ht; clear ht
  have HW := Lib.hid hw; clear hw
  have HX := Lib.hid hX; clear hX
  obtain ⟨B0, hB0⟩ : ∃ B : ByteArray, ByteArray.mk word.toArray = B := ⟨_, rfl⟩
  have HB0 := Lib.hid hB0
  rw [hB0]; clear hB0
  go_enter Tryd.func74, Tryd.ntmps74
  go_wp2
  go_loopw [0, 9] (fun s i wr => ∃ (k : Nat) (B : ByteArray), k ≤ n ∧ i = .int .i64 k ∧ s = .string B ∧ B = ⟨(word ++ numT (xs.take k)).toArray⟩ ∧ B.size ≤ 1000 + 22 * k ∧ Below w.heap.size w wr) (fun _ i _ => n - (intOf i).toNat)
  case atStart => exact ⟨0, B0, Nat.zero_le _, rfl, rfl, by rw [← HB0.out]; simp [numT], by rw [← HB0.out]; simpa [ByteArray.size] using HW.out, Below.refl _ _⟩
  case round =>
    obtain ⟨k, B, hk, rfl, rfl, hB, hBs, hbr⟩ := hrel
    have HB := Lib.hid hB; clear hB
    have hz := hbr.size
    by_cases hlt : k < n
    · obtain ⟨x, hx⟩ := get_of_lt (l := xs) (k := k) (by rw [HL.out]; exact hlt)
      obtain ⟨b1, o1, rfl, hb1, hcs1⟩ := HX.out (by intro h; rw [h] at hx; simp at hx)
      have d0 := ((bcell hbr).1 _ _ hb1).trans (hcs1 k x hx)
      have hr := HI.out x (List.mem_of_getElem? hx)
      have HK := Lib.hid hx
      have HR := Lib.hid hr
      have HTr := Lib.hid (HT.out.next hbr)
      clear hx hcs1 hr
      go_wp2_with fail
      refine (itoa_any x HR.out.1 HR.out.2 _ HTr.out).mono ?_
      rintro e w2 ⟨T, rfl, hT, hTs, hb2⟩
      have HTT := Lib.hid hT; clear hT
      have HB2 := Lib.hid hb2; clear hb2
      go_wp2
      refine ⟨⟨k + 1, _, by omega, rfl, rfl, ?_, ?_, hbr.trans (HB2.out.mono hz)⟩, by simp [intOf]; omega⟩
      · rw [HB.out, HTT.out, ByteArray.mk_append_mk, ByteArray.mk_append_mk, numT_take_succ HK.out]
        simp only [List.append_assoc, List.cons_append, List.nil_append]
      · rw [ByteArray.size_append', ByteArray.size_append']
        show B.size + (1 + T.size) ≤ _
        omega
    · have hkn : k = n := by omega
      have HKN := Lib.hid hkn
      clear hkn
      go_wp2
      go_ret
      refine ⟨?_, hbr⟩
      have hB := HB.out
      rw [List.take_of_length_le (by have := HL.out; have := HKN.out; omega)] at hB
      rw [hB, ByteArray.mk_append_mk]
      rfl
end Go.Proofs.YtccekbdhffccdaaDoor
