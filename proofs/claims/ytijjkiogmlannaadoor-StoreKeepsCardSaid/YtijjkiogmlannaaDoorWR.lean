/- Stores: the numbers of a ship's line, the check of ships, what is wrong with ships, by the code. Stores: the check of ships, by the code. Stores: the manifest of ships, by the code. -/
import Derived.Test.YtijjkiogmlannaaDoorWO
import Derived.Test.YtijjkiogmlannaaDoorShelf
import Derived.Laws.Concat
import Derived.Lib.AppendIntMem
import Derived.Lib.ItoaLen
namespace Go.Proofs.YtijjkiogmlannaaDoor
open Go.RowKit

def Tab (w : World) : Prop := Lib.TabBelow Tryd.prog w.heap.size w "internal/strconv.uint64pow10" .u64 Lib.pow10Tab
theorem Tab.next {w w1 : World} (h : Tab w) (hb : Below w.heap.size w w1) : Tab w1 := fun w2 h2 => h w2 (hb.trans (h2.mono hb.size))
theorem itoa_any (n : Int) (h0 : -9223372036854775808 ≤ n) (h1 : n ≤ 9223372036854775807) (w : World) (ht : Tab w) :
    Calls Tryd.prog 64 #[.int .i64 n] w fun e w' => ∃ T : ByteArray, e = .returned (.string T) ∧ T = ⟨(Lib.itoa n).toArray⟩ ∧ T.size ≤ 21 ∧ Below w.heap.size w w' := by
  refine (Tryd.strconv_Itoa n h0 h1 w ht.here).mono ?_
  rintro e w' ⟨rfl, k, os, rfl⟩
  refine ⟨_, rfl, rfl, by simpa [ByteArray.size] using Lib.itoa_length_le n h0 h1, rfl, rfl, rfl, ?_, ?_⟩
  · simp [Go.Sort.grow]
  · intro j hj
    show (w.heap ++ os)[j]? = _
    rw [Array.getElem?_append_left hj]
/-- The numbers of a ship's line. -/
def nbL (i : Int) (s : Shp) : List Int := [i, s.w, s.c, s.g.a, s.g.b, s.g.c]
abbrev nbV (i : Int) (s : Shp) : Array Value := #[.int .i64 i, .int .i64 s.w, .int .i64 s.c, .int .i64 s.g.a, .int .i64 s.g.b, .int .i64 s.g.c]
set_option maxRecDepth 100000 in
set_option maxHeartbeats 1000000 in
theorem numbers_any (i : Int) (s : Shp) (w : World) : Calls Tryd.prog 63 #[.int .i64 i, sV s] w fun e w' => e = .returned (.agg (nbV i s)) ∧ Below w.heap.size w w' := by
  obtain ⟨W, ⟨a, b, c⟩, co⟩ := s
  obtain ⟨z0, z1, hb⟩ := two_new w (.cells #[.int .i64 W, .int .i64 a, .int .i64 b, .int .i64 c, .int .i64 co] 44) (.cells #[.int .i64 i, .int .i64 W, .int .i64 co, .int .i64 a, .int .i64 b, .int .i64 c] 90)
  have y := heap_alloc_new w (.cells #[.int .i64 W, .int .i64 a, .int .i64 b, .int .i64 c, .int .i64 co] 44)
  obtain ⟨⟨y0, y1, y2, y3, y4⟩, _⟩ := box5_cells ((((Below.refl _ (w.alloc (.cells #[.int .i64 W, .int .i64 a, .int .i64 b, .int .i64 c, .int .i64 co] 44))).alloc (Nat.le_refl _) (.cells #[.int .i64 0, .int .i64 0, .int .i64 0, .int .i64 0, .int .i64 0, .int .i64 0] 90)).block _ (by simp)).trans y)
  have HB := Lib.hid hb; have HZ := Lib.hid z1
  clear z0 z1 hb y
  go_enter Tryd.func63, Tryd.ntmps63
  go_wp2_with fail
  have ct := fun k => cell_of_row _ (w.heap.size + 1) k _ 90 (0, 0) HZ.out
  have c0 := ct 0; have c1 := ct 1; have c2 := ct 2; have c3 := ct 3; have c4 := ct 4; have c5 := ct 5
  simp at c0 c1 c2 c3 c4 c5
  exact bodyPost_ret (v := .agg #[.int .i64 i, .int .i64 W, .int .i64 co, .int .i64 a, .int .i64 b, .int .i64 c]) (by simp [results, Tryd.results63, go_sem]) rfl ⟨rfl, HB.out⟩
theorem nb_index (i : Int) (s : Shp) {m : Nat} (hm : m < 6) (u : World) : (Instr.index 90 (.agg (nbV i s)) (.int .i64 (m : Int))).run Tryd.prog u = .ok (.int .i64 ((nbL i s).getD m 0)) u := by
  rcases (show m = 0 ∨ m = 1 ∨ m = 2 ∨ m = 3 ∨ m = 4 ∨ m = 5 by omega) with rfl | rfl | rfl | rfl | rfl | rfl <;> simp [Instr.index, go_sem, nbL]
/-- What is wrong with ships. -/
def shsI (l : List Shp) : Int := if 6 < l.length then 3 else if l.all shpB then 0 else 2
set_option maxRecDepth 100000 in
theorem checkShips_any (A : Option Addr) (n c : Nat) (l : List Shp) (w : World) (hl : l.length = n) (hn : n ≤ maxLen) (hA : ShsAt w w.heap.size A l) :
    Calls Tryd.prog 62 #[.slice A n c] w fun e w' => e = .returned (.int .i64 (shsI l)) ∧ Below w.heap.size w w' := by
  have HC := Lib.hid (ships_any A n c l w hl hn hA)
  by_cases h6 : 6 < n
  · have h6i : (6 : Int) < (n : Int) := by omega
    have HE : Hid (shsI l = 3) := Lib.hid (by unfold shsI; rw [if_pos (by omega)])
    clear hl hn hA HC
    go_enter Tryd.func62, Tryd.ntmps62
    go_wp2_with fail
    go_ret
    exact ⟨by rw [HE.out]; rfl, Below.refl _ _⟩
  · have h6i : ¬ (6 : Int) < (n : Int) := by omega
    have HE : Hid (shsI l = if l.all shpB then 0 else 2) := Lib.hid (by unfold shsI; rw [if_neg (by omega)])
    obtain ⟨F, hF⟩ : ∃ z, l.all shpB = z := ⟨_, rfl⟩
    rw [hF] at HC HE
    clear hl hn hA hF
    cases F with
    | false =>
      go_enter Tryd.func62, Tryd.ntmps62
      go_wp2_with fail
      refine HC.out.mono ?_
      rintro e w' ⟨rfl, hb⟩
      have HB := Lib.hid hb
      clear hb
      go_wp2_with fail
      go_ret
      exact ⟨by rw [HE.out]; rfl, HB.out⟩
    | true =>
      go_enter Tryd.func62, Tryd.ntmps62
      go_wp2_with fail
      refine HC.out.mono ?_
      rintro e w' ⟨rfl, hb⟩
      have HB := Lib.hid hb
      clear hb
      go_wp2_with fail
      go_ret
      exact ⟨by rw [HE.out]; rfl, HB.out⟩
end Go.Proofs.YtijjkiogmlannaaDoor

namespace Go.Proofs.YtijjkiogmlannaaDoor
open Go.RowKit

def ckN (i : Int) (s : Shp) (m : Nat) : Int := ((List.range m).map fun k => (nbL i s).getD k 0 * ((k : Int) + 1)).sum
theorem ckN_succ (i : Int) (s : Shp) (m : Nat) : ckN i s (m + 1) = ckN i s m + (nbL i s).getD m 0 * ((m : Int) + 1) := by
  unfold ckN
  rw [List.range_succ, List.map_append, List.sum_append]
  simp
def ckS (l : List Shp) (k : Nat) : Int := ((List.range k).map fun i : Nat => ckN (i : Int) (l.getD i ⟨0, z3, 0⟩) 6).sum
theorem ckS_succ (l : List Shp) (k : Nat) : ckS l (k + 1) = ckS l k + ckN (k : Int) (l.getD k ⟨0, z3, 0⟩) 6 := by
  unfold ckS
  rw [List.range_succ, List.map_append, List.sum_append]
  simp
theorem nb_in {s : Shp} (hs : shpB s = true) {i : Int} (hi : 0 ≤ i ∧ i ≤ 1000000) (m : Nat) : 0 ≤ (nbL i s).getD m 0 ∧ (nbL i s).getD m 0 ≤ 1000000 := by
  obtain ⟨h1, h2, h3⟩ := shpB_iff.1 hs
  obtain ⟨h4, h5, h6⟩ := amtB_iff.1 h2
  unfold nbL
  match m with
  | 0 => exact hi
  | 1 => show 0 ≤ s.w ∧ s.w ≤ 1000000; omega
  | 2 => exact h3
  | 3 => show 0 ≤ s.g.a ∧ s.g.a ≤ 1000000; omega
  | 4 => show 0 ≤ s.g.b ∧ s.g.b ≤ 1000000; omega
  | 5 => show 0 ≤ s.g.c ∧ s.g.c ≤ 1000000; omega
  | m + 6 => simp
theorem ckN_in {s : Shp} (hs : shpB s = true) {i : Int} (hi : 0 ≤ i ∧ i ≤ 1000000) : ∀ m, m ≤ 6 → 0 ≤ ckN i s m ∧ ckN i s m ≤ 6000000 * (m : Int)
  | 0, _ => by simp [ckN]
  | m + 1, h => by
    have ih := ckN_in hs hi m (by omega)
    have hb := nb_in hs hi m
    have hm := mul_in (x := (nbL i s).getD m 0) (y := (m : Int) + 1) (a := 1000000) (b := 6) hb ⟨by omega, by omega⟩
    rw [ckN_succ]
    omega
theorem ckS_in {l : List Shp} (hl : ∀ s ∈ l, shpB s = true) : ∀ k, k ≤ l.length → k ≤ 6 → 0 ≤ ckS l k ∧ ckS l k ≤ 36000000 * (k : Int)
  | 0, _, _ => by simp [ckS]
  | k + 1, h, h6 => by
    have ih := ckS_in hl k (by omega) (by omega)
    have hg : l.getD k ⟨0, z3, 0⟩ ∈ l := by
      rw [List.getD_eq_getElem?_getD, List.getElem?_eq_getElem (by omega), Option.getD_some]
      exact List.getElem_mem _
    have hn := ckN_in (hl _ hg) (i := (k : Int)) ⟨by omega, by omega⟩ 6 (Nat.le_refl _)
    rw [ckS_succ]
    omega
theorem ext_drop (l : List UInt8) : (ByteArray.mk l.toArray).extract 1 (ByteArray.mk l.toArray).size = ⟨(l.drop 1).toArray⟩ := by
  apply ByteArray.ext
  rw [ByteArray.data_extract]
  simp [ByteArray.size]
  exact List.take_of_length_le (by simp)
theorem itoa_pos (n : Int) (h : 0 ≤ n) : 1 ≤ (Lib.itoa n).length := by
  obtain ⟨u, rfl⟩ := Int.eq_ofNat_of_zero_le h
  rw [Lib.itoa_nonneg, Lib.decDigits_length]
  exact Lib.nDigits_pos u
def ckT (l : List Shp) : List UInt8 := (Lib.itoa (100 + ckS l l.length % 97)).drop 1
set_option maxRecDepth 100000 in
set_option maxHeartbeats 2000000 in
theorem checkOf_any (A : Option Addr) (n c : Nat) (l : List Shp) (w : World) (hl : l.length = n) (hn : n ≤ 6) (hs : ∀ s ∈ l, shpB s = true) (hA : ShsAt w w.heap.size A l) (ht : Tab w) :
    Calls Tryd.prog 65 #[.slice A n c] w fun e w' => ∃ T : ByteArray, e = .returned (.string T) ∧ T = ⟨(ckT l).toArray⟩ ∧ T.size ≤ 21 ∧ Below w.heap.size w w' := by
  have HL := Lib.hid hl; have HS := Lib.hid hs; have HA := Lib.hid hA; have HT := Lib.hid ht
  clear hl hs hA ht
  go_enter Tryd.func65, Tryd.ntmps65
  go_wp2_with fail
  go_loopw [3, 10] (fun s i wr => ∃ k : Nat, k ≤ n ∧ i = .int .i64 k ∧ s = .int .i64 (ckS l k) ∧ Below w.heap.size w wr) (fun _ i _ => n - (intOf i).toNat)
  case atStart => exact ⟨0, Nat.zero_le _, rfl, rfl, Below.refl _ _⟩
  case round =>
    obtain ⟨k, hk, rfl, rfl, hbr⟩ := hrel
    have hB := ckS_in HS.out k (by have := HL.out; omega) (by omega)
    obtain ⟨C, hC⟩ : ∃ z, ckS l k = z := ⟨_, rfl⟩
    have HC := Lib.hid hC
    rw [hC] at hB ⊢
    clear hC
    by_cases hlt : k < n
    · have hk0 : (0 : Int) ≤ (k : Int) := by omega
      have hk1 : (k : Int) < (n : Int) := by omega
      obtain ⟨s, hsx⟩ := get_of_lt (l := l) (k := k) (by rw [HL.out]; exact hlt)
      have HG : Hid (l.getD k ⟨0, z3, 0⟩ = s) := Lib.hid (by rw [List.getD_eq_getElem?_getD, hsx]; rfl)
      have HSB := Lib.hid (HS.out s (List.mem_of_getElem? hsx))
      obtain ⟨b, o, rfl, hb, c0, c1, c2, c3, c4⟩ := sh_el (RowAt.next (k := 5) (R := shR) HA.out hbr hbr.size) hsx
      have HBR := Lib.hid hbr
      have hal := (Below.refl wr.heap.size wr).alloc (Nat.le_refl _) (.cells (sC s) 44)
      have zs := heap_alloc_new wr (.cells (sC s) 44)
      obtain ⟨w6, hw6⟩ : ∃ z, wr.alloc (.cells (sC s) 44) = z := ⟨_, rfl⟩
      rw [hw6] at hal zs
      have HW6 := Lib.hid hw6; have HB6 := Lib.hid (hbr.trans (hal.mono hbr.size))
      obtain ⟨d0, d1, d2, d3, d4⟩ := sc_cells zs
      have HN := Lib.hid (numbers_any (k : Int) s w6)
      clear hsx hbr hal zs hw6
      go_wp2_with fail
      rw [HW6.out]
      go_wp2_with fail
      refine HN.out.mono ?_
      rintro e w7 ⟨rfl, hb7⟩
      have HB7 := Lib.hid (HB6.out.trans (hb7.mono HB6.out.size))
      clear hb7 c0 c1 c2 c3 c4 d0 d1 d2 d3 d4
      go_wp2_with fail
      rename World => wt
      go_loopw [3, 18] (fun s' j wq => ∃ m : Nat, m ≤ 6 ∧ j = .int .i64 m ∧ s' = .int .i64 (C + ckN (k : Int) s m) ∧ Below w.heap.size w wq) (fun _ j _ => 6 - (intOf j).toNat)
      case atStart => exact ⟨0, by omega, rfl, by simp [ckN], HB7.out⟩
      case round =>
        obtain ⟨m, hm, rfl, rfl, hbq⟩ := hrel
        have hD := ckN_in HSB.out (i := (k : Int)) ⟨by omega, by omega⟩ m hm
        obtain ⟨D, hD2⟩ : ∃ z, ckN (k : Int) s m = z := ⟨_, rfl⟩
        have HD := Lib.hid hD2
        rw [hD2] at hD ⊢
        clear hD2
        have HBQ := Lib.hid hbq
        clear hbq
        by_cases hm6 : m < 6
        · have hm0 : (0 : Int) ≤ (m : Int) := by omega
          have hm1 : (m : Int) < 6 := by omega
          have hix := nb_index (k : Int) s hm6 wr
          have hv := nb_in HSB.out (i := (k : Int)) ⟨by omega, by omega⟩ m
          have hmul := mul_in (x := (nbL (k : Int) s).getD m 0) (y := (m : Int) + 1) (a := 1000000) (b := 6) hv ⟨by omega, by omega⟩
          have HNX := Lib.hid (ckN_succ (k : Int) s m)
          obtain ⟨v, hvv⟩ : ∃ z, (nbL (k : Int) s).getD m 0 = z := ⟨_, rfl⟩
          rw [hvv] at hix hv hmul HNX
          obtain ⟨pr, hpr⟩ : ∃ z, v * ((m : Int) + 1) = z := ⟨_, rfl⟩
          rw [hpr] at hmul HNX
          have hw1 : wrap64 (v * ((m : Int) + 1)) = pr := by rw [hpr]; exact w64 (by omega)
          have hw2 : wrap64 (C + D + pr) = C + D + pr := w64 (by omega)
          have HW1 := Lib.hid hw1; have HW2 := Lib.hid hw2
          clear hvv hpr
          go_wp2_with fail
          exact ⟨⟨m + 1, by omega, by go_num, by rw [HNX.out, HD.out]; congr 1; omega, HBQ.out⟩, by simp [intOf]; omega⟩
        · have hm66 : m = 6 := by omega
          subst hm66
          go_wp2_with fail
          exact ⟨⟨k + 1, by omega, by go_num, by rw [ckS_succ, HG.out, HC.out, HD.out], HBQ.out⟩, by simp [intOf]; omega⟩
    · have hkn : k = n := by omega
      subst hkn
      obtain ⟨q, hq⟩ : ∃ z, C % 97 = z := ⟨_, rfl⟩
      have hq2 : 0 ≤ q ∧ q < 97 := by omega
      have hqt : Int.tmod C 97 = q := by rw [Int.tmod_eq_emod_of_nonneg hB.1]; exact hq
      have HQQ : Hid (ckT l = (Lib.itoa (100 + q)).drop 1) := Lib.hid (by unfold ckT; rw [HL.out, HC.out, hq])
      have HTr := Lib.hid (HT.out.next hbr)
      have HBR := Lib.hid hbr
      clear hbr hq
      go_wp2_with fail
      refine (itoa_any (100 + q) (by omega) (by omega) _ HTr.out).mono ?_
      rintro e w9 ⟨T, rfl, hT, hTs, hb9⟩
      have hlen := Lib.itoa_length_le (100 + q) (by omega) (by omega)
      have hpos : 1 ≤ T.size := by
        rw [hT]
        show 1 ≤ (Lib.itoa (100 + q)).toArray.size
        rw [List.size_toArray]
        exact itoa_pos _ (by omega)
      have HB9 := Lib.hid (HBR.out.trans (hb9.mono HBR.out.size))
      have HTT := Lib.hid hT
      have HTS := Lib.hid hTs
      have hposi : (1 : Int) ≤ (T.size : Int) := by omega
      clear hb9 hT hlen
      go_wp2_with fail
      go_ret
      refine ⟨_, rfl, ?_, ?_, HB9.out⟩
      · rw [HQQ.out, HTT.out]
        exact ext_drop _
      · have h1 := HTS.out
        rw [HTT.out] at h1
        rw [HTT.out]
        refine Nat.le_trans (Nat.le_of_eq (congrArg ByteArray.size (ext_drop _))) ?_
        have h2 : (ByteArray.mk (Lib.itoa (100 + q)).toArray).size = (Lib.itoa (100 + q)).length := by simp [ByteArray.size]
        have h3 : (ByteArray.mk ((Lib.itoa (100 + q)).drop 1).toArray).size = ((Lib.itoa (100 + q)).drop 1).length := by simp [ByteArray.size]
        rw [h3, List.length_drop]
        omega
end Go.Proofs.YtijjkiogmlannaaDoor

namespace Go.Proofs.YtijjkiogmlannaaDoor
open Go.RowKit

def numT (xs : List Int) : List UInt8 := (xs.map fun x => 32 :: Lib.itoa x).flatten
theorem numT_take_succ {xs : List Int} {k : Nat} {x : Int} (h : xs[k]? = some x) : numT (xs.take (k + 1)) = numT (xs.take k) ++ (32 :: Lib.itoa x) := by
  obtain ⟨hk, rfl⟩ := List.getElem?_eq_some_iff.1 h
  simp only [numT, List.take_succ_eq_append_getElem hk, List.map_append, List.flatten_append, List.map_cons, List.map_nil, List.flatten_cons, List.flatten_nil, List.append_nil]
def shpT (i : Nat) (s : Shp) : List UInt8 := [115, 104, 105, 112] ++ numT (nbL (i : Int) s) ++ [10]
def shsT (l : List Shp) (k : Nat) : List UInt8 := (List.range k).flatMap fun i => shpT i (l.getD i ⟨0, z3, 0⟩)
theorem shsT_succ (l : List Shp) (k : Nat) : shsT l (k + 1) = shsT l k ++ shpT k (l.getD k ⟨0, z3, 0⟩) := by
  unfold shsT
  rw [List.range_succ, List.flatMap_append]
  simp
def prtT (l : List Shp) : List UInt8 := shsT l l.length ++ ([101, 110, 100, 32] ++ Lib.itoa (l.length : Int) ++ [32] ++ ckT l ++ [10])
def prtR (l : List Shp) : List UInt8 × Int := if shsI l = 0 then (prtT l, 0) else ([], shsI l)
set_option maxRecDepth 100000 in
set_option maxHeartbeats 4000000 in
theorem Print_any (A : Option Addr) (n c : Nat) (l : List Shp) (w : World) (hl : l.length = n) (hn : n ≤ maxLen) (hA : ShsAt w w.heap.size A l) (ht : Tab w) :
    Calls Tryd.prog 37 #[.slice A n c] w fun e w' => e = .returned (.tuple #[.string ⟨(prtR l).1.toArray⟩, .int .i64 (prtR l).2]) ∧ Below w.heap.size w w' := by
  have HCS := Lib.hid (checkShips_any A n c l w hl hn hA)
  by_cases h0 : shsI l = 0
  · have HE : Hid (prtR l = (prtT l, 0)) := Lib.hid (by unfold prtR; rw [if_pos h0])
    have h6 : n ≤ 6 ∧ ∀ s ∈ l, shpB s = true := by
      unfold shsI at h0
      by_cases h : 6 < l.length
      · rw [if_pos h] at h0; omega
      · rw [if_neg h] at h0
        refine ⟨by omega, ?_⟩
        cases ha : l.all shpB with
        | false => rw [ha] at h0; simp at h0
        | true => exact List.all_eq_true.1 ha
    obtain ⟨n6, hs⟩ := h6
    rw [h0] at HCS
    have HL := Lib.hid hl; have HS := Lib.hid hs; have HA := Lib.hid hA; have HT := Lib.hid ht
    clear hl hs hA ht h0 hn
    go_enter Tryd.func37, Tryd.ntmps37
    go_wp2_with fail
    refine HCS.out.mono ?_
    rintro e w1 ⟨rfl, hb1⟩
    have HB1 := Lib.hid hb1
    clear hb1
    go_wp2_with fail
    go_loopw [5, 17] (fun s i wr => ∃ (k : Nat) (B : ByteArray), k ≤ n ∧ i = .int .i64 k ∧ s = .string B ∧ B = ⟨(shsT l k).toArray⟩ ∧ B.size ≤ 200 * k ∧ Below w.heap.size w wr) (fun _ i _ => n - (intOf i).toNat)
    case atStart => exact ⟨0, ⟨#[]⟩, Nat.zero_le _, rfl, rfl, rfl, Nat.le_refl _, HB1.out⟩
    case round =>
      obtain ⟨k, B, hk, rfl, rfl, hB, hBs, hbr⟩ := hrel
      have HBB := Lib.hid hB; have HBR := Lib.hid hbr
      clear hB
      by_cases hlt : k < n
      · have hk0 : (0 : Int) ≤ (k : Int) := by omega
        have hk1 : (k : Int) < (n : Int) := by omega
        obtain ⟨s, hsx⟩ := get_of_lt (l := l) (k := k) (by rw [HL.out]; exact hlt)
        have HG : Hid (l.getD k ⟨0, z3, 0⟩ = s) := Lib.hid (by rw [List.getD_eq_getElem?_getD, hsx]; rfl)
        have HSB := Lib.hid (HS.out s (List.mem_of_getElem? hsx))
        obtain ⟨b, o, rfl, hb, c0, c1, c2, c3, c4⟩ := sh_el (RowAt.next (k := 5) (R := shR) HA.out hbr hbr.size) hsx
        have hal := (Below.refl wr.heap.size wr).alloc (Nat.le_refl _) (.cells (sC s) 44)
        have zs := heap_alloc_new wr (.cells (sC s) 44)
        obtain ⟨w6, hw6⟩ : ∃ z, wr.alloc (.cells (sC s) 44) = z := ⟨_, rfl⟩
        rw [hw6] at hal zs
        have HW6 := Lib.hid hw6; have HB6 := Lib.hid (hbr.trans (hal.mono hbr.size))
        obtain ⟨d0, d1, d2, d3, d4⟩ := sc_cells zs
        have HN := Lib.hid (numbers_any (k : Int) s w6)
        obtain ⟨B2, hB2⟩ : ∃ z, B ++ (ByteArray.mk #[115, 104, 105, 112]) = z := ⟨_, rfl⟩
        have HB2 := Lib.hid hB2
        have hB2s : B2.size ≤ 200 * k + 4 := by
          rw [← hB2, ByteArray.size_append']
          show B.size + 4 ≤ _
          omega
        clear hsx hbr hal zs hw6 hB2
        go_wp2_with fail
        rw [HW6.out]
        go_wp2_with fail
        refine HN.out.mono ?_
        rintro e w7 ⟨rfl, hb7⟩
        have HB7 := Lib.hid (HB6.out.trans (hb7.mono HB6.out.size))
        clear hb7 c0 c1 c2 c3 c4 d0 d1 d2 d3 d4
        rw [HB2.out]
        go_wp2_with fail
        rename World => wt
        go_loopw [5, 27] (fun s' j wq => ∃ (m : Nat) (B3 : ByteArray), m ≤ 6 ∧ j = .int .i64 m ∧ s' = .string B3 ∧ B3 = ⟨(shsT l k ++ [115, 104, 105, 112] ++ numT ((nbL (k : Int) s).take m)).toArray⟩ ∧ B3.size ≤ 200 * k + 4 + 22 * m ∧ Below w.heap.size w wq) (fun _ j _ => 6 - (intOf j).toNat)
        case atStart => exact ⟨0, B2, by omega, rfl, rfl, by rw [← HB2.out, HBB.out, ByteArray.mk_append_mk]; simp [numT], by omega, HB7.out⟩
        case round =>
          obtain ⟨m, B3, hm, rfl, rfl, hB3, hB3s, hbq⟩ := hrel
          have HB3 := Lib.hid hB3; have HBQ := Lib.hid hbq
          clear hB3 hbq
          by_cases hm6 : m < 6
          · have hm0 : (0 : Int) ≤ (m : Int) := by omega
            have hm1 : (m : Int) < 6 := by omega
            have hix := nb_index (k : Int) s hm6 wr
            have hv := nb_in HSB.out (i := (k : Int)) ⟨by omega, by omega⟩ m
            have HGM : Hid ((nbL (k : Int) s)[m]? = some ((nbL (k : Int) s).getD m 0)) := Lib.hid (by
              rw [List.getD_eq_getElem?_getD, List.getElem?_eq_getElem (by simpa [nbL] using hm6), Option.getD_some])
            obtain ⟨v, hvv⟩ : ∃ z, (nbL (k : Int) s).getD m 0 = z := ⟨_, rfl⟩
            rw [hvv] at hix hv HGM
            have HTr := Lib.hid (HT.out.next HBQ.out)
            clear hvv
            go_wp2_with fail
            refine (itoa_any v (by omega) (by omega) _ HTr.out).mono ?_
            rintro e w9 ⟨T, rfl, hT, hTs, hb9⟩
            have HTT := Lib.hid hT
            have HB9 := Lib.hid (HBQ.out.trans (hb9.mono HBQ.out.size))
            clear hb9 hT hix
            go_wp2_with fail
            refine ⟨⟨m + 1, _, by omega, by go_num, rfl, ?_, ?_, HB9.out⟩, by simp [intOf]; omega⟩
            · rw [HB3.out, HTT.out, ByteArray.mk_append_mk, ByteArray.mk_append_mk, numT_take_succ HGM.out]
              simp only [List.append_assoc, List.cons_append, List.nil_append]
            · rw [ByteArray.size_append', ByteArray.size_append']
              show B3.size + (1 + T.size) ≤ _
              omega
          · have hm66 : m = 6 := by omega
            subst hm66
            go_wp2_with fail
            refine ⟨⟨k + 1, _, by omega, by go_num, rfl, ?_, ?_, HBQ.out⟩, by simp [intOf]; omega⟩
            · rw [HB3.out, ByteArray.mk_append_mk, shsT_succ, HG.out]
              congr 2
              unfold shpT
              rw [List.take_of_length_le (by simp [nbL])]
              simp only [List.append_assoc]
            · rw [ByteArray.size_append']
              show B3.size + 1 ≤ _
              omega
      · have hkn : k = n := by omega
        subst hkn
        have HTr := Lib.hid (HT.out.next hbr)
        have HCK : Hid (∀ u, Below wr.heap.size wr u → Calls Tryd.prog 65 #[.slice A k c] u fun e w' => ∃ T : ByteArray, e = .returned (.string T) ∧ T = ⟨(ckT l).toArray⟩ ∧ T.size ≤ 21 ∧ Below u.heap.size u w') := Lib.hid fun u hu =>
          checkOf_any A k c l u HL.out n6 HS.out (RowAt.next (k := 5) (R := shR) HA.out (hbr.trans (hu.mono hbr.size)) (Nat.le_trans hbr.size hu.size)) (HTr.out.next hu)
        clear hbr
        go_wp2_with fail
        refine (itoa_any (k : Int) (by omega) (by omega) _ HTr.out).mono ?_
        rintro e w9 ⟨T, rfl, hT, hTs, hb9⟩
        have HTT := Lib.hid hT; have HTS := Lib.hid hTs
        have HB9 := Lib.hid (HBR.out.trans (hb9.mono HBR.out.size))
        have HC9 := Lib.hid (HCK.out w9 hb9)
        clear hb9 hT
        obtain ⟨B4, hB4⟩ : ∃ z, B ++ (ByteArray.mk #[101, 110, 100, 32]) = z := ⟨_, rfl⟩
        have HB4 := Lib.hid hB4
        have hB4s : B4.size ≤ 200 * k + 4 := by
          rw [← hB4, ByteArray.size_append']
          show B.size + 4 ≤ _
          omega
        rw [hB4]
        clear hB4
        go_wp2_with fail
        refine HC9.out.mono ?_
        rintro e w10 ⟨T2, rfl, hT2, hT2s, hb10⟩
        have HT2 := Lib.hid hT2
        have HB10 := Lib.hid (HB9.out.trans (hb10.mono HB9.out.size))
        clear hb10 hT2
        go_wp2_with fail
        go_ret2
        refine ⟨?_, HB10.out⟩
        rw [HE.out]
        refine congrArg (fun b => Ending.returned (Value.tuple #[.string b, .int .i64 0])) ?_
        rw [← HB4.out, HBB.out, HTT.out, HT2.out, ByteArray.mk_append_mk, ByteArray.mk_append_mk, ByteArray.mk_append_mk, ByteArray.mk_append_mk, ByteArray.mk_append_mk]
        unfold prtT
        rw [HL.out]
        congr 2
        simp only [List.append_assoc]
  · have HE : Hid (prtR l = ([], shsI l)) := Lib.hid (by unfold prtR; rw [if_neg h0])
    obtain ⟨R, hR⟩ : ∃ z, shsI l = z := ⟨_, rfl⟩
    rw [hR] at HCS HE h0
    clear hl hn hA ht hR
    go_enter Tryd.func37, Tryd.ntmps37
    go_wp2_with fail
    refine HCS.out.mono ?_
    rintro e w1 ⟨rfl, hb1⟩
    have HB1 := Lib.hid hb1
    have hne : (R != 0) = true := by simpa using h0
    clear hb1
    go_wp2_with fail
    go_ret2
    exact ⟨by rw [HE.out]; rfl, HB1.out⟩
end Go.Proofs.YtijjkiogmlannaaDoor
