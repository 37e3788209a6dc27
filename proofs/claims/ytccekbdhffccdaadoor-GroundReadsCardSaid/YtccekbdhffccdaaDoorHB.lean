/- The log of a place, as the specification prints it; places compared. -/
import Derived.Test.YtccekbdhffccdaaDoorHA
import Derived.Test.YtccekbdhffccdaaDoorRB
namespace Go.Proofs.YtccekbdhffccdaaDoor
open Go.RowKit

theorem dec_kept {w0 : World} {n : Int} {B : ByteArray} (h : OkN n) (hB : ByteArray.mk (Lib.itoa n).toArray = B) (u : KeptW w0) : Calls Tryd.prog 80 #[.int .i64 n] u.w fun e w' => e = .returned (.string B) ∧ ∃ u' : KeptW w0, w' = u'.w := by
  rw [← hB]
  exact Calls.in_kept u (decimal_any n h _)
theorem itoa_size {n : Int} {B : ByteArray} (h : OkN n) (hB : ByteArray.mk (Lib.itoa n).toArray = B) : B.size ≤ 8 := by
  rw [← hB]
  show (Lib.itoa n).toArray.size ≤ 8
  rw [List.size_toArray]
  exact ((numL_iff _).2 ⟨n, h, rfl⟩).2.1
set_option maxRecDepth 100000 in
set_option maxHeartbeats 4000000 in
theorem printR_any (A : Option Addr) (n c : Nat) (ls : List Lay) (lo hi : Int) (w : World) (hl : ls.length = n) (hL : LaysAt w w.heap.size A ls) (hd : OkDoc ls lo hi) (hn : n ≤ 20000) :
    Calls Tryd.prog 44 #[.agg #[.slice A n c, .int .i64 lo, .int .i64 hi]] w fun e w' => e = .returned (.string ⟨(printT ls lo hi).toArray⟩) ∧ Below w.heap.size w w' := by
  have HL := Lib.hid hl; have HD := Lib.hid hd; have HN := Lib.hid hn
  have z0 := heap_alloc_new w (.cells #[.slice A n c, .int .i64 lo, .int .i64 hi] 26)
  have hb1 : Below w.heap.size w (w.alloc (.cells #[.slice A n c, .int .i64 lo, .int .i64 hi] 26)) := (Below.refl _ _).alloc (Nat.le_refl _) _
  obtain ⟨w1, hw1⟩ : ∃ z, w.alloc (.cells #[.slice A n c, .int .i64 lo, .int .i64 hi] 26) = z := ⟨_, rfl⟩
  rw [hw1] at z0 hb1
  have HB1 := Lib.hid hb1; have Z1 := Lib.hid z0
  have lt1 := (Array.getElem?_eq_some_iff.1 z0).1
  have c0 : ∀ u : KeptW w1, u.w.cell? ⟨w.heap.size, 0, none⟩ = some (.slice A n c) := fun u => by
    have := cell_of_row u.w w.heap.size 0 _ 26 (0, 0) ((u.h.block _ lt1).trans z0)
    simpa using this
  have c1 : ∀ u : KeptW w1, u.w.cell? ⟨w.heap.size, 1, none⟩ = some (.int .i64 lo) := fun u => by
    have := cell_of_row u.w w.heap.size 1 _ 26 (0, 0) ((u.h.block _ lt1).trans z0)
    simpa using this
  have c2 : ∀ u : KeptW w1, u.w.cell? ⟨w.heap.size, 2, none⟩ = some (.int .i64 hi) := fun u => by
    have := cell_of_row u.w w.heap.size 2 _ 26 (0, 0) ((u.h.block _ lt1).trans z0)
    simpa using this
  obtain ⟨B1, hB1⟩ : ∃ B : ByteArray, ByteArray.mk (Lib.itoa (n : Int)).toArray = B := ⟨_, rfl⟩
  obtain ⟨B2, hB2⟩ : ∃ B : ByteArray, ByteArray.mk (Lib.itoa lo).toArray = B := ⟨_, rfl⟩
  obtain ⟨B3, hB3⟩ : ∃ B : ByteArray, ByteArray.mk (Lib.itoa hi).toArray = B := ⟨_, rfl⟩
  have s1 := itoa_size (hl ▸ hd.1) hB1
  have s2 := itoa_size hd.2.1 hB2
  have s3 := itoa_size hd.2.2.1 hB3
  have d1 := fun u : KeptW w1 => dec_kept (hl ▸ hd.1) hB1 u
  have d2 := fun u : KeptW w1 => dec_kept hd.2.1 hB2 u
  have d3 := fun u : KeptW w1 => dec_kept hd.2.2.1 hB3 u
  have HH := Lib.hid (show (ByteArray.mk #[104, 111, 108, 101, 32] ++ B1 ++ ByteArray.mk #[32] ++ B2 ++ ByteArray.mk #[32] ++ B3 ++ ByteArray.mk #[10]) = ByteArray.mk (holeT ls lo hi).toArray by
    rw [← hB1, ← hB2, ← hB3]
    simp only [ByteArray.mk_append_mk]
    rw [holeT, hl]
    simp [lineT, numT])
  clear hl hd hn z0 hb1 hB1 hB2 hB3
  go_enter Tryd.func44, Tryd.ntmps44
  go_wp2_with fail
  refine rk_region (by kernel_rfl) (by kernel_rfl) ?_
  repeat (go_big_quiet_step (first | (with_reducible exact d1 _) | (with_reducible exact d2 _) | (with_reducible exact d3 _) | fail))
  refine wpQuiet_nil ?_
  rintro w2 ⟨⟨_, hb2⟩, rfl⟩
  have HB2 := Lib.hid (HB1.out.trans (hb2.mono HB1.out.size))
  have Z2 := Lib.hid ((hb2.block _ lt1).trans Z1.out)
  have hs0 : (ByteArray.mk #[104, 111, 108, 101, 32] ++ B1 ++ ByteArray.mk #[32] ++ B2 ++ ByteArray.mk #[32] ++ B3 ++ ByteArray.mk #[10]).size ≤ 40 := by
    simp only [ByteArray.size_append']
    show 5 + B1.size + 1 + B2.size + 1 + B3.size + 1 ≤ 40
    omega
  obtain ⟨B0, hB0⟩ : ∃ B, ByteArray.mk #[104, 111, 108, 101, 32] ++ B1 ++ ByteArray.mk #[32] ++ B2 ++ ByteArray.mk #[32] ++ B3 ++ ByteArray.mk #[10] = B := ⟨_, rfl⟩
  rw [hB0] at HH hs0
  have HS0 := Lib.hid hs0
  rw [hB0]
  clear hB0 d1 d2 d3 s1 s2 s3 c0 c1 c2 hb2 hs0
  go_wp2_with fail
  go_loopw [3, 4] (fun s i wr => ∃ (k : Nat) (B : ByteArray), k ≤ n ∧ i = .int .i64 k ∧ s = .string B ∧ B = ⟨(holeT ls lo hi ++ laysT (ls.take k)).toArray⟩ ∧ B.size ≤ 40 + 40 * k ∧ Below w.heap.size w wr ∧ wr.heap[w.heap.size]? = some (.cells #[.slice A n c, .int .i64 lo, .int .i64 hi] 26 (0, 0))) (fun _ i _ => n - (intOf i).toNat)
  case atStart => exact ⟨0, B0, Nat.zero_le _, rfl, rfl, by rw [HH.out]; simp [laysT], HS0.out, HB2.out, Z2.out⟩
  case round =>
    obtain ⟨k, B, hk, rfl, rfl, hB, hBs, hbr, hz⟩ := hrel
    have HBB := Lib.hid hB; have HBR := Lib.hid hbr; have HZ := Lib.hid hz
    have p0 := cell_of_row wr w.heap.size 0 _ 26 (0, 0) hz
    simp at p0
    clear hB
    have hn := HN.out
    by_cases hlt : k < n
    · obtain ⟨x, hx⟩ := get_of_lt (l := ls) (k := k) (by rw [HL.out]; exact hlt)
      obtain ⟨b, o, rfl, hb, hcs⟩ := hL (by intro h; rw [h] at hx; simp at hx)
      obtain ⟨x0, x1, x2⟩ := hcs k x hx
      replace x0 := ((bcell hbr).1 _ _ hb).trans x0
      replace x1 := ((bcell hbr).1 _ _ hb).trans x1
      replace x2 := ((bcell hbr).1 _ _ hb).trans x2
      have HX := Lib.hid hx
      have hok := HD.out.2.2.2 x (List.mem_of_getElem? hx)
      clear hx hcs hbr hz
      obtain ⟨t, het⟩ : ∃ z, x.t = z := ⟨_, rfl⟩
      obtain ⟨l, hel⟩ : ∃ z, x.lo = z := ⟨_, rfl⟩
      obtain ⟨h, heh⟩ : ∃ z, x.hi = z := ⟨_, rfl⟩
      obtain ⟨ok1, ok2, ok3⟩ := hok
      rw [het] at x0 ok1
      rw [hel] at x1 ok2
      rw [heh] at x2 ok3
      have EX := Lib.hid (show x = ⟨t, l, h⟩ by rw [← het, ← hel, ← heh])
      clear het hel heh
      have hk0 : (0 : Int) ≤ (k : Int) := by omega
      have hk1 : (k : Int) < (n : Int) := by omega
      go_wp2_with fail
      obtain ⟨w3, hw3⟩ : ∃ z, wr.alloc (.cells #[.int .i64 t, .int .i64 l, .int .i64 h] 86) = z := ⟨_, rfl⟩
      have z3 := heap_alloc_new wr (.cells #[.int .i64 t, .int .i64 l, .int .i64 h] 86)
      have b3 : Below wr.heap.size wr w3 := by rw [← hw3]; exact (Below.refl _ _).alloc (Nat.le_refl _) _
      rw [hw3] at z3 ⊢
      have lt3 := (Array.getElem?_eq_some_iff.1 z3).1
      have c0 : ∀ u : KeptW w3, u.w.cell? ⟨wr.heap.size, 0, none⟩ = some (.int .i64 t) := fun u => by
        have := cell_of_row u.w wr.heap.size 0 _ 86 (0, 0) ((u.h.block _ lt3).trans z3)
        simpa using this
      have c1 : ∀ u : KeptW w3, u.w.cell? ⟨wr.heap.size, 1, none⟩ = some (.int .i64 l) := fun u => by
        have := cell_of_row u.w wr.heap.size 1 _ 86 (0, 0) ((u.h.block _ lt3).trans z3)
        simpa using this
      have c2 : ∀ u : KeptW w3, u.w.cell? ⟨wr.heap.size, 2, none⟩ = some (.int .i64 h) := fun u => by
        have := cell_of_row u.w wr.heap.size 2 _ 86 (0, 0) ((u.h.block _ lt3).trans z3)
        simpa using this
      have W3 := Lib.hid (HBR.out.trans (b3.mono HBR.out.size))
      have ZB := Lib.hid ((b3.block _ (Array.getElem?_eq_some_iff.1 HZ.out).1).trans HZ.out)
      obtain ⟨B1, hB1⟩ : ∃ B : ByteArray, ByteArray.mk (Lib.itoa t).toArray = B := ⟨_, rfl⟩
      obtain ⟨B2, hB2⟩ : ∃ B : ByteArray, ByteArray.mk (Lib.itoa l).toArray = B := ⟨_, rfl⟩
      obtain ⟨B3, hB3⟩ : ∃ B : ByteArray, ByteArray.mk (Lib.itoa h).toArray = B := ⟨_, rfl⟩
      have s1 := itoa_size ok1 hB1
      have s2 := itoa_size ok2 hB2
      have s3 := itoa_size ok3 hB3
      have d1 := fun u : KeptW w3 => dec_kept ok1 hB1 u
      have d2 := fun u : KeptW w3 => dec_kept ok2 hB2 u
      have d3 := fun u : KeptW w3 => dec_kept ok3 hB3 u
      have HH2 := Lib.hid (show (B ++ ByteArray.mk #[108, 97, 121, 101, 114, 32] ++ B1 ++ ByteArray.mk #[32] ++ B2 ++ ByteArray.mk #[32] ++ B3 ++ ByteArray.mk #[10]) = ByteArray.mk (holeT ls lo hi ++ laysT (ls.take (k + 1))).toArray by
        rw [← hB1, ← hB2, ← hB3, HBB.out, List.take_add_one, HX.out, Option.toList_some, laysT_snoc, EX.out]
        simp only [ByteArray.mk_append_mk]
        simp [layT, lineT, numT])
      have HS2 := Lib.hid (show (B ++ ByteArray.mk #[108, 97, 121, 101, 114, 32] ++ B1 ++ ByteArray.mk #[32] ++ B2 ++ ByteArray.mk #[32] ++ B3 ++ ByteArray.mk #[10]).size ≤ 40 + 40 * (k + 1) by
        simp only [ByteArray.size_append']
        show B.size + 6 + B1.size + 1 + B2.size + 1 + B3.size + 1 ≤ _
        omega)
      clear hw3 b3 z3 hB1 hB2 hB3 x0 x1 x2 p0 HBR HZ
      go_wp2_with fail
      refine rk_region (by kernel_rfl) (by kernel_rfl) ?_
      repeat (go_big_quiet_step (first | (with_reducible exact d1 _) | (with_reducible exact d2 _) | (with_reducible exact d3 _) | fail))
      refine wpQuiet_nil ?_
      rintro w4 ⟨⟨_, hb4⟩, rfl⟩
      have HB4 := Lib.hid (W3.out.trans (hb4.mono W3.out.size))
      have Z4 := Lib.hid ((hb4.block _ (Array.getElem?_eq_some_iff.1 ZB.out).1).trans ZB.out)
      clear hb4 d1 d2 d3 c0 c1 c2
      go_wp2_with fail
      exact ⟨⟨k + 1, _, by omega, by go_num, rfl, HH2.out, HS2.out, HB4.out, Z4.out⟩, by simp [intOf]; omega⟩
    · have hke : k = n := by omega
      have hnl : ¬ (k : Int) < (n : Int) := by omega
      have hBm : B.size ≤ 1000000 := by omega
      have hbody : B.data.toList = bodyT ls lo hi := by
        rw [HBB.out, List.take_of_length_le (by rw [HL.out]; omega)]
        simp [bodyT, laysT]
      have HBO := Lib.hid hbody
      clear hbody hbr hz
      go_wp2_with fail
      refine (end2_any B hBm _).mono ?_
      rintro e w5 ⟨rfl, hb5⟩
      have HB5 := Lib.hid (HBR.out.trans (hb5.mono HBR.out.size))
      obtain ⟨E, hE⟩ : ∃ E : ByteArray, ByteArray.mk (endT B.data.toList).toArray = E := ⟨_, rfl⟩
      have hEs : E.size ≤ 100 := by rw [← hE]; show (endT _).toArray.size ≤ _; rw [List.size_toArray, endT_len]; omega
      rw [hE]
      have HE := Lib.hid hE
      clear hE hb5
      go_wp2_with fail
      go_ret
      refine ⟨?_, HB5.out⟩
      rw [← HE.out, HBO.out]
      have : B = ByteArray.mk (bodyT ls lo hi).toArray := by
        have := HBO.out
        rw [← this]
      rw [this]
      show Ending.returned (Value.string (ByteArray.mk (bodyT ls lo hi).toArray ++ ByteArray.mk (endT (bodyT ls lo hi)).toArray)) = _
      rw [ByteArray.mk_append_mk]
      rfl
end Go.Proofs.YtccekbdhffccdaaDoor
