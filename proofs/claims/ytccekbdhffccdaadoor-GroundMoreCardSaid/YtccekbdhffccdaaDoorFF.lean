/- The log of a place. -/
import Derived.Test.YtccekbdhffccdaaDoorEE
import Derived.Test.YtccekbdhffccdaaDoorT
namespace Go.Proofs.YtccekbdhffccdaaDoor
open Go.RowKit

def holeT (ls : List Lay) (lo hi : Int) : List UInt8 := lineT [104, 111, 108, 101] [ls.length, lo, hi]
def layT (l : Lay) : List UInt8 := lineT [108, 97, 121, 101, 114] [l.t, l.lo, l.hi]
def bodyT (ls : List Lay) (lo hi : Int) : List UInt8 := holeT ls lo hi ++ (ls.map layT).flatten
def printT (ls : List Lay) (lo hi : Int) : List UInt8 := bodyT ls lo hi ++ endT (bodyT ls lo hi)
def printR (ls : List Lay) (lo hi : Int) : List UInt8 × Int := if placeB ls lo hi then (printT ls lo hi, 0) else ([], 2)

theorem ints3 {w : World} {b B T : Nat} {x y z : Int} (h : w.heap[b]? = some (.cells #[.int .i64 x, .int .i64 y, .int .i64 z] T (0, 0))) (hb : b < B) : IntsAt w B (some ⟨b, 0, none⟩) [x, y, z] := fun _ => by
  refine ⟨b, 0, rfl, hb, fun k v hv => ?_⟩
  have hk : k < 3 := (List.getElem?_eq_some_iff.1 hv).1
  rw [cell_of_row w b _ _ T (0, 0) h]
  match k, hk with
  | 0, _ => simp at hv ⊢; exact hv.symm ▸ rfl
  | 1, _ => simp at hv ⊢; exact hv.symm ▸ rfl
  | 2, _ => simp at hv ⊢; exact hv.symm ▸ rfl

theorem numT_len {xs : List Int} (h : I64 xs) : (numT xs).length ≤ 22 * xs.length := by
  induction xs with
  | nil => simp [numT]
  | cons x xs ih =>
    have h1 := h x (by simp)
    have h2 := ih fun y hy => h y (by simp [hy])
    have h3 := Lib.itoa_length_le x h1.1 h1.2
    simp only [numT, List.map_cons, List.flatten_cons, List.length_append, List.length_cons] at h2 ⊢
    omega
theorem lineT_len {word : List UInt8} {xs : List Int} (h : I64 xs) : (lineT word xs).length ≤ word.length + 22 * xs.length + 1 := by
  have := numT_len h
  simp only [lineT, List.length_append, List.length_cons, List.length_nil]
  omega
theorem i64_3 {x y z : Int} (hx : 0 ≤ x ∧ x ≤ 1000000) (hy : 0 ≤ y ∧ y ≤ 1000000) (hz : 0 ≤ z ∧ z ≤ 1000000) : I64 [x, y, z] := by
  intro v hv
  simp only [List.mem_cons, List.not_mem_nil, or_false] at hv
  rcases hv with rfl | rfl | rfl <;> omega
theorem lays_take_succ {ls : List Lay} {k : Nat} {x : Lay} (h : ls[k]? = some x) : ((ls.take (k + 1)).map layT).flatten = ((ls.take k).map layT).flatten ++ layT x := by
  obtain ⟨hk, rfl⟩ := List.getElem?_eq_some_iff.1 h
  simp only [List.take_succ_eq_append_getElem hk, List.map_append, List.flatten_append, List.map_cons, List.map_nil, List.flatten_cons, List.flatten_nil, List.append_nil]

set_option maxRecDepth 100000 in
set_option maxHeartbeats 2000000 in
theorem print_any (A : Option Addr) (n c : Nat) (ls : List Lay) (lo hi : Int) (w : World) (hl : ls.length = n) (hn : n ≤ maxLen) (_hcap : n ≤ c) (hL : LaysAt w w.heap.size A ls) (ht : Tab w) :
    Calls Tryd.prog 42 #[.agg #[.slice A n c, .int .i64 lo, .int .i64 hi]] w fun e w' => e = .returned (.tuple #[.string ⟨(printR ls lo hi).1.toArray⟩, .int .i64 (printR ls lo hi).2]) ∧ Below w.heap.size w w' := by
  have HL := Lib.hid hl; clear hl
  have HN := Lib.hid hn; clear hn
  have HT := Lib.hid ht; clear ht
  have z0 := heap_alloc_new w (.cells #[.slice A n c, .int .i64 lo, .int .i64 hi] 26)
  have hB : Below w.heap.size w (w.alloc (.cells #[.slice A n c, .int .i64 lo, .int .i64 hi] 26)) := (Below.refl _ _).alloc (Nat.le_refl _) _
  have HB := Lib.hid hB; have Z0 := Lib.hid z0
  clear hB z0
  cases hp : placeB ls lo hi with
  | false =>
    have hc : checkI ls lo hi = 2 := by simp [checkI, hp]
    have hr : printR ls lo hi = ([], 2) := by simp [printR, hp]
    have HC := Lib.hid hc; have HR := Lib.hid hr
    clear hc hr hp
    go_enter Tryd.func42, Tryd.ntmps42
    go_wp2_with fail
    refine (Check_any A n c ls lo hi _ HL.out HN.out (hL.next HB.out)).mono ?_
    rintro e w1 ⟨rfl, hb1⟩
    rw [HC.out]
    have HB1 := Lib.hid hb1; clear hb1
    go_wp2
    go_ret2
    exact ⟨by rw [HR.out]; rfl, HB.out.trans (HB1.out.mono (by simp))⟩
  | true =>
    have hc : checkI ls lo hi = 0 := by simp [checkI, hp]
    have hr : printR ls lo hi = (printT ls lo hi, 0) := by simp [printR, hp]
    have HC := Lib.hid hc; have HR := Lib.hid hr
    have HP := Lib.hid hp
    clear hc hr hp
    go_enter Tryd.func42, Tryd.ntmps42
    go_wp2_with fail
    refine (Check_any A n c ls lo hi _ HL.out HN.out (hL.next HB.out)).mono ?_
    rintro e w1 ⟨rfl, hb1⟩
    rw [HC.out]
    have HB1 := Lib.hid (HB.out.trans (hb1.mono HB.out.size))
    have X0 := Lib.hid ((hb1.block _ (Array.getElem?_eq_some_iff.1 Z0.out).1).trans Z0.out)
    clear hb1
    have p0 := cell_of_row w1 w.heap.size 0 _ 26 (0, 0) X0.out
    have p1 := cell_of_row w1 w.heap.size 1 _ 26 (0, 0) X0.out
    have p2 := cell_of_row w1 w.heap.size 2 _ 26 (0, 0) X0.out
    simp at p0 p1 p2
    go_wp2_with fail
    have hps := placeB_spec HP.out
    obtain ⟨⟨q1, q2⟩, ⟨q3, q4, q5⟩, q6⟩ := hps
    rw [HL.out] at q1 q2
    have hI : I64 [(n : Int), lo, hi] := i64_3 (by omega) (by omega) (by omega)
    have HI := Lib.hid hI
    have HQ := Lib.hid q6
    clear hI q6
    refine (line_any (some ⟨w1.heap.size, 0, none⟩) 3 3 [104, 111, 108, 101] [(n : Int), lo, hi] _ rfl (by decide) (by decide) (ints3 (heap_alloc_new w1 _) (by simp)) HI.out ((HT.out.next HB1.out).next ((Below.refl _ _).alloc (Nat.le_refl _) _))).mono ?_
    rintro e w2 ⟨rfl, hb2⟩
    have hb3 : Below w1.heap.size w1 w2 := ((Below.refl _ _).alloc (Nat.le_refl _) _).trans (hb2.mono (by simp))
    have HB3 := Lib.hid (HB1.out.trans (hb3.mono HB1.out.size))
    have X3 := Lib.hid ((hb3.block _ (Array.getElem?_eq_some_iff.1 X0.out).1).trans X0.out)
    clear hb2 hb3 p0 p1 p2
    have p0 := cell_of_row w2 w.heap.size 0 _ 26 (0, 0) X3.out
    simp at p0
    obtain ⟨B0, hB0⟩ : ∃ B : ByteArray, ByteArray.mk (lineT [104, 111, 108, 101] [(n : Int), lo, hi]).toArray = B := ⟨_, rfl⟩
    have hB0' : B0.size ≤ 100 := by
      rw [← hB0]
      have := lineT_len (word := [104, 111, 108, 101]) HI.out
      simp only [List.length_cons, List.length_nil] at this
      show (lineT _ _).toArray.size ≤ _
      rw [List.size_toArray]
      omega
    rw [hB0]
    have hB1 : B0 = ⟨(holeT ls lo hi).toArray⟩ := by rw [← hB0, holeT, HL.out]
    have HB0 := Lib.hid hB1
    have HS0 := Lib.hid hB0'
    clear hB0 hB1 hB0'
    go_wp2
    go_loopw [4, 24] (fun s i wr => ∃ (k : Nat) (B : ByteArray), k ≤ n ∧ i = .int .i64 k ∧ s = .string B ∧ B = ⟨(holeT ls lo hi ++ ((ls.take k).map layT).flatten).toArray⟩ ∧ B.size ≤ 100 + 100 * k ∧ Below w.heap.size w wr) (fun _ i _ => n - (intOf i).toNat)
    case atStart => exact ⟨0, B0, Nat.zero_le _, rfl, rfl, by rw [HB0.out]; simp, HS0.out, HB3.out⟩
    case round =>
      obtain ⟨k, B, hk, rfl, rfl, hB, hBs, hbr⟩ := hrel
      have HBB := Lib.hid hB; clear hB
      have hz := hbr.size
      by_cases hlt : k < n
      · obtain ⟨x, hx⟩ := get_of_lt (l := ls) (k := k) (by rw [HL.out]; exact hlt)
        obtain ⟨b, o, rfl, hb, hcs⟩ := hL (by intro h; rw [h] at hx; simp at hx)
        obtain ⟨c0, c1, c2⟩ := hcs k x hx
        replace c0 := ((bcell hbr).1 _ _ hb).trans c0
        replace c1 := ((bcell hbr).1 _ _ hb).trans c1
        replace c2 := ((bcell hbr).1 _ _ hb).trans c2
        have HX := Lib.hid hx
        have HTr := Lib.hid (HT.out.next hbr)
        clear hx hcs
        go_wp2_with fail
        have hz1 := heap_alloc_new (wr.alloc (.cells #[.int .i64 x.t, .int .i64 x.lo, .int .i64 x.hi] 86)) (.cells #[.int .i64 x.t, .int .i64 x.lo, .int .i64 x.hi] 3)
        simp only [World.size_alloc] at hz1
        have hq := HQ.out x (List.mem_of_getElem? HX.out)
        have hI3 : I64 [x.t, x.lo, x.hi] := i64_3 (by omega) (by omega) (by omega)
        have HI3 := Lib.hid hI3
        have hbw : Below wr.heap.size wr ((wr.alloc (.cells #[.int .i64 x.t, .int .i64 x.lo, .int .i64 x.hi] 86)).alloc (.cells #[.int .i64 x.t, .int .i64 x.lo, .int .i64 x.hi] 3)) := ((Below.refl _ _).alloc (Nat.le_refl _) _).alloc (by simp) _
        have HBW := Lib.hid hbw
        clear hI3 hq hbw
        refine (line_any (some ⟨wr.heap.size + 1, 0, none⟩) 3 3 [108, 97, 121, 101, 114] [x.t, x.lo, x.hi] _ rfl (by decide) (by decide) (ints3 hz1 (by simp)) HI3.out (HTr.out.next HBW.out)).mono ?_
        rintro e w3 ⟨rfl, hb4⟩
        have HB4 := Lib.hid (hbr.trans ((HBW.out.trans (hb4.mono HBW.out.size)).mono hz))
        clear hb4 hz1
        obtain ⟨T, hT⟩ : ∃ T : ByteArray, ByteArray.mk (lineT [108, 97, 121, 101, 114] [x.t, x.lo, x.hi]).toArray = T := ⟨_, rfl⟩
        have hTs : T.size ≤ 100 := by
          rw [← hT]
          have := lineT_len (word := [108, 97, 121, 101, 114]) HI3.out
          simp only [List.length_cons, List.length_nil] at this
          show (lineT _ _).toArray.size ≤ _
          rw [List.size_toArray]
          omega
        rw [hT]
        have HTT := Lib.hid hT
        clear hT
        go_wp2
        refine ⟨⟨k + 1, _, by omega, rfl, rfl, ?_, ?_, HB4.out⟩, by simp [intOf]; omega⟩
        · rw [HBB.out, ← HTT.out, ByteArray.mk_append_mk, lays_take_succ HX.out, List.append_assoc, layT]
        · rw [ByteArray.size_append']
          omega
      · have hkn : k = n := by omega
        have HKN := Lib.hid hkn
        have hB6 : B.size ≤ 1000000 := by omega
        clear hkn
        go_wp2_with fail
        refine (endLine_any B hB6 _).mono ?_
        rintro e w3 ⟨rfl, hb4⟩
        have HB4 := Lib.hid (hbr.trans (hb4.mono hz))
        clear hb4
        obtain ⟨T, hT⟩ : ∃ T : ByteArray, ByteArray.mk (endT B.data.toList).toArray = T := ⟨_, rfl⟩
        have hTs : T.size ≤ 100 := by
          rw [← hT]
          show (endT _).toArray.size ≤ _
          rw [List.size_toArray]
          simp [endT]
        rw [hT]
        have HTT := Lib.hid hT
        clear hT
        go_wp2
        go_ret2
        refine ⟨?_, HB4.out⟩
        have hB := HBB.out
        rw [List.take_of_length_le (by have := HL.out; have := HKN.out; omega)] at hB
        rw [HR.out, ← HTT.out, hB]
        show Ending.returned (.tuple #[.string (ByteArray.mk (bodyT ls lo hi).toArray ++ ByteArray.mk (endT (bodyT ls lo hi).toArray.toList).toArray), .int .i64 0]) = _
        rw [ByteArray.mk_append_mk]
        rfl
end Go.Proofs.YtccekbdhffccdaaDoor
