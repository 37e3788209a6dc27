/- A line of a log. -/
import Derived.Test.YtccekbdhffccdaaDoorDD
import Derived.Test.YtccekbdhffccdaaDoorShelf
import Derived.Lib.AppendIntMem
import Derived.Lib.ItoaLen
namespace Go.Proofs.YtccekbdhffccdaaDoor
open Go.RowKit Go.Sort

def Tab (w : World) : Prop := Lib.TabBelow Tryd.prog w.heap.size w "internal/strconv.uint64pow10" .u64 Lib.pow10Tab
theorem Tab.next {w w1 : World} (h : Tab w) (hb : Below w.heap.size w w1) : Tab w1 := fun w2 h2 => h w2 (hb.trans (h2.mono hb.size))

theorem itoa_any (n : Int) (h0 : -9223372036854775808 ≤ n) (h1 : n ≤ 9223372036854775807) (w : World) (ht : Tab w) :
    Calls Tryd.prog 96 #[.int .i64 n] w fun e w' => ∃ T : ByteArray, e = .returned (.string T) ∧ T = ⟨(Lib.itoa n).toArray⟩ ∧ T.size ≤ 21 ∧ Below w.heap.size w w' := by
  refine (Tryd.strconv_Itoa n h0 h1 w ht.here).mono ?_
  rintro e w' ⟨rfl, k, os, rfl⟩
  refine ⟨_, rfl, rfl, by simpa [ByteArray.size] using Lib.itoa_length_le n h0 h1, rfl, rfl, rfl, ?_, ?_⟩
  · simp [grow]
  · intro j hj
    show (w.heap ++ os)[j]? = _
    rw [Array.getElem?_append_left hj]

def numT (xs : List Int) : List UInt8 := (xs.map fun x => 32 :: Lib.itoa x).flatten
theorem numT_take_succ {xs : List Int} {k : Nat} {x : Int} (h : xs[k]? = some x) : numT (xs.take (k + 1)) = numT (xs.take k) ++ (32 :: Lib.itoa x) := by
  obtain ⟨hk, rfl⟩ := List.getElem?_eq_some_iff.1 h
  simp only [numT, List.take_succ_eq_append_getElem hk, List.map_append, List.flatten_append, List.map_cons, List.map_nil, List.flatten_cons, List.flatten_nil, List.append_nil]
def lineT (word : List UInt8) (xs : List Int) : List UInt8 := word ++ numT xs ++ [10]
def I64 (xs : List Int) : Prop := ∀ x ∈ xs, -9223372036854775808 ≤ x ∧ x ≤ 9223372036854775807

set_option maxRecDepth 100000 in
set_option maxHeartbeats 1000000 in
theorem line_any (A : Option Addr) (n c : Nat) (word : List UInt8) (xs : List Int) (w : World) (hl : xs.length = n) (hn : n ≤ 1000) (hw : word.length ≤ 1000) (hX : IntsAt w w.heap.size A xs) (hI : I64 xs) (ht : Tab w) :
    Calls Tryd.prog 74 #[.string ⟨word.toArray⟩, .slice A n c] w fun e w' => e = .returned (.string ⟨(lineT word xs).toArray⟩) ∧ Below w.heap.size w w' := by
  have HL := Lib.hid hl; clear hl
  have HI := Lib.hid hI; clear hI
  have HT := Lib.hid ht; clear ht
  have HW := Lib.hid hw; clear hw
  have HX := Lib.hid hX; clear hX
  obtain ⟨B0, hB0⟩ : ∃ B : ByteArray, ByteArray.mk word.toArray = B := ⟨_, rfl⟩
  have HB0 := Lib.hid hB0
  rw [hB0]; clear hB0
  go_enter Tryd.func74, Tryd.ntmps74
  go_wp2
  go_loopw [0, 9] (fun s i wr => ∃ (k : Nat) (B : ByteArray), k ≤ n ∧ i = .int .i64 k ∧ s = .string B ∧ B = ⟨(word ++ numT (xs.take k)).toArray⟩ ∧ B.size ≤ 1000 + 22 * k ∧ Below w.heap.size w wr) (fun _ i _ => n - (intOf i).toNat)
  case atStart => exact ⟨0, B0, Nat.zero_le _, rfl, rfl, by rw [← HB0.out]; simp [numT], by rw [← HB0.out]; simpa [ByteArray.size] using HW.out, Below.refl _ _⟩
  case round =>
    obtain ⟨k, B, hk, rfl, rfl, hB, hBs, hbr⟩ := hrel
    have HB := Lib.hid hB; clear hB
    have hz := hbr.size
    by_cases hlt : k < n
    · obtain ⟨x, hx⟩ := get_of_lt (l := xs) (k := k) (by rw [HL.out]; exact hlt)
      obtain ⟨b1, o1, rfl, hb1, hcs1⟩ := HX.out (by intro h; rw [h] at hx; simp at hx)
      have d0 := ((bcell hbr).1 _ _ hb1).trans (hcs1 k x hx)
      have hr := HI.out x (List.mem_of_getElem? hx)
      have HK := Lib.hid hx
      have HR := Lib.hid hr
      have HTr := Lib.hid (HT.out.next hbr)
      clear hx hcs1 hr
      go_wp2_with fail
      refine (itoa_any x HR.out.1 HR.out.2 _ HTr.out).mono ?_
      rintro e w2 ⟨T, rfl, hT, hTs, hb2⟩
      have HTT := Lib.hid hT; clear hT
      have HB2 := Lib.hid hb2; clear hb2
      go_wp2
      refine ⟨⟨k + 1, _, by omega, rfl, rfl, ?_, ?_, hbr.trans (HB2.out.mono hz)⟩, by simp [intOf]; omega⟩
      · rw [HB.out, HTT.out, ByteArray.mk_append_mk, ByteArray.mk_append_mk, numT_take_succ HK.out]
        simp only [List.append_assoc, List.cons_append, List.nil_append]
      · rw [ByteArray.size_append', ByteArray.size_append']
        show B.size + (1 + T.size) ≤ _
        omega
    · have hkn : k = n := by omega
      have HKN := Lib.hid hkn
      clear hkn
      go_wp2
      go_ret
      refine ⟨?_, hbr⟩
      have hB := HB.out
      rw [List.take_of_length_le (by have := HL.out; have := HKN.out; omega)] at hB
      rw [hB, ByteArray.mk_append_mk]
      rfl
end Go.Proofs.YtccekbdhffccdaaDoor
