/- The check of a level book. -/
import Derived.Test.YtdlaphlpimlgdaaGreatDoorBN
import Derived.Lib.AppendZerosOnto
import Derived.Lib.Walk
import Derived.Lib.SliceRun
namespace Go.Proofs.YtdlaphlpimlgdaaGreatDoor
open Go.RowKit

def ckE (x : Int) : Int := if x < 0 then -2 * x + 1 else 2 * x
def ckS (t : Nat) (row : List Int) (S : Int) (i : Nat) : Int := (S + ckE (row.getD i 0) * ((i : Int) + 1) * ((t : Int) + 1)) % 997
def ckIn (t : Nat) (row : List Int) (S : Int) (j : Nat) : Int := (List.range j).foldl (ckS t row) S
def ckAll (ts : List (List Int)) (k : Nat) : Int := (List.range k).foldl (fun S t => ckIn t (ts.getD t []) S (ts.getD t []).length) 0
theorem ckIn_succ (t : Nat) (row : List Int) (S : Int) (j : Nat) : ckIn t row S (j + 1) = ckS t row (ckIn t row S j) j := by
  unfold ckIn
  rw [List.range_succ, List.foldl_append]
  rfl
theorem ckAll_succ (ts : List (List Int)) (k : Nat) : ckAll ts (k + 1) = ckIn k (ts.getD k []) (ckAll ts k) (ts.getD k []).length := by
  unfold ckAll
  rw [List.range_succ, List.foldl_append]
  rfl
theorem ckIn_b (t : Nat) (row : List Int) (S : Int) (h : 0 ≤ S ∧ S < 997) : ∀ j, 0 ≤ ckIn t row S j ∧ ckIn t row S j < 997
  | 0 => h
  | j + 1 => by
    rw [ckIn_succ]
    unfold ckS
    exact ⟨Int.emod_nonneg _ (by decide), Int.emod_lt_of_pos _ (by decide)⟩
theorem ckAll_b (ts : List (List Int)) : ∀ k, 0 ≤ ckAll ts k ∧ ckAll ts k < 997
  | 0 => (⟨Int.le_refl _, by decide⟩ : (0 : Int) ≤ 0 ∧ (0 : Int) < 997)
  | k + 1 => by rw [ckAll_succ]; exact ckIn_b _ _ _ (ckAll_b ts k) _
theorem ckE_b {x : Int} (h : -999999999 ≤ x ∧ x ≤ 999999999) : 0 ≤ ckE x ∧ ckE x ≤ 1999999999 := by
  unfold ckE
  split <;> omega
theorem ck_prod {e : Int} {j t : Nat} (he : 0 ≤ e ∧ e ≤ 1999999999) (hj : j < 10000) (ht : t < 10000) : (0 ≤ e * ((j : Int) + 1) ∧ e * ((j : Int) + 1) ≤ 1999999999 * 10000) ∧ 0 ≤ e * ((j : Int) + 1) * ((t : Int) + 1) ∧ e * ((j : Int) + 1) * ((t : Int) + 1) ≤ 1999999999 * 10000 * 10000 := by
  have h1 : 0 ≤ e * ((j : Int) + 1) := Int.mul_nonneg he.1 (by omega)
  have h2 : e * ((j : Int) + 1) ≤ 1999999999 * 10000 := Int.mul_le_mul he.2 (by omega) (by omega) (by decide)
  exact ⟨⟨h1, h2⟩, Int.mul_nonneg h1 (by omega), Int.mul_le_mul h2 (by omega) (by omega) (by decide)⟩
def lvs9 (ts : List (List Int)) : Prop := ∀ row ∈ ts, row.length ≤ 10000 ∧ ∀ x ∈ row, -999999999 ≤ x ∧ x ≤ 999999999
theorem lvs_row {w : World} {B : Nat} {A : Option Addr} {ts : List (List Int)} {t : Nat} {row : List Int} (h : LvsAt w B A ts) (ht : ts[t]? = some row) : ∃ b o A' m c', A = some ⟨b, o, none⟩ ∧ b < B ∧ m = row.length ∧ w.cell? ⟨b, o + t, none⟩ = some (.slice A' m c') ∧ IntsAt w B A' row ∧ m ≤ maxLen := by
  obtain ⟨b, o, rfl, h1, h2⟩ := h (by intro e; rw [e] at ht; simp at ht)
  obtain ⟨A', c', e1, e2, e3, _⟩ := h2 t row ht
  exact ⟨b, o, A', _, c', rfl, h1, rfl, e1, e2, e3⟩
theorem ints_el {w : World} {B : Nat} {A : Option Addr} {row : List Int} {i : Nat} {x : Int} (h : IntsAt w B A row) (hx : row[i]? = some x) : ∃ b o, A = some ⟨b, o, none⟩ ∧ b < B ∧ w.cell? ⟨b, o + i, none⟩ = some (.int .i64 x) := by
  obtain ⟨b, o, rfl, h1, h2⟩ := h (by intro e; rw [e] at hx; simp at hx)
  exact ⟨b, o, rfl, h1, by simpa using h2 i x hx 0 _ rfl⟩
theorem ext_drop (l : List UInt8) : (ByteArray.mk l.toArray).extract 1 (ByteArray.mk l.toArray).size = ⟨(l.drop 1).toArray⟩ := by
  apply ByteArray.ext
  rw [ByteArray.data_extract]
  simp [ByteArray.size]
  exact List.take_of_length_le (by simp)
theorem itoa_pos (n : Int) (h : 0 ≤ n) : 1 ≤ (Lib.itoa n).length := by
  obtain ⟨u, rfl⟩ := Int.eq_ofNat_of_zero_le h
  rw [Lib.itoa_nonneg, Lib.decDigits_length]
  exact Lib.nDigits_pos u
def ckT (ts : List (List Int)) : List UInt8 := (Lib.itoa (1000 + ckAll ts ts.length)).drop 1
set_option maxRecDepth 100000 in
set_option maxHeartbeats 2000000 in
theorem checkOf_any (A : Option Addr) (n c : Nat) (ts : List (List Int)) (w : World) (hl : ts.length = n) (hn : n ≤ 10000) (hT : LvsAt w w.heap.size A ts) (h9 : lvs9 ts) (ht : Tab w) :
    Calls Tryz.prog 99 #[.slice A n c] w fun e w' => e = .returned (.string ⟨(ckT ts).toArray⟩) ∧ (ckT ts).length ≤ 21 ∧ Below w.heap.size w w' := by
  have HL := Lib.hid hl; have HT := Lib.hid hT; have H9 := Lib.hid h9; have HTAB := Lib.hid ht
  clear hl hT h9 ht
  go_enter Tryz.func99, Tryz.ntmps99
  go_wp2
  go_loopw [3, 11] (fun s i wr => ∃ k : Nat, k ≤ n ∧ i = .int .i64 k ∧ s = .int .i64 (ckAll ts k) ∧ w = wr) (fun _ i _ => n - (intOf i).toNat)
  case atStart => exact ⟨0, Nat.zero_le _, rfl, rfl, rfl⟩
  case round =>
    obtain ⟨k, hk, rfl, rfl, rfl⟩ := hrel
    by_cases hlt : k < n
    · obtain ⟨row, hrow⟩ := get_of_lt (l := ts) (k := k) (by rw [HL.out]; exact hlt)
      have hrw := H9.out row (List.mem_of_getElem? hrow)
      have HSU : Hid (ckAll ts (k + 1) = ckIn k row (ckAll ts k) row.length) := Lib.hid (by rw [ckAll_succ, show ts.getD k [] = row by rw [List.getD_eq_getElem?_getD, hrow]; rfl])
      obtain ⟨b1, o1, A1, m, c1, rfl, hb1, hm1, d1, p1, _⟩ := lvs_row HT.out hrow
      have hmb : m ≤ 10000 := by rw [hm1]; exact hrw.1
      have H10 := Lib.hid hrw.2
      have HM := Lib.hid hm1; have HP := Lib.hid p1
      have hsb := ckAll_b ts k
      obtain ⟨S0, hS0⟩ : ∃ z, ckAll ts k = z := ⟨_, rfl⟩
      rw [hS0] at HSU hsb ⊢
      have k0 : (0 : Int) ≤ (k : Int) := by omega
      have k1 : (k : Int) < (n : Int) := by omega
      have HSB := Lib.hid hsb
      clear hrow hrw hm1 p1 hS0 hsb
      go_wp2
      go_loopw [3, 18] (fun s i wq => ∃ j : Nat, j ≤ m ∧ i = .int .i64 j ∧ s = .int .i64 (ckIn k row S0 j) ∧ w = wq) (fun _ i _ => m - (intOf i).toNat)
      case atStart => exact ⟨0, Nat.zero_le _, rfl, rfl, rfl⟩
      case round =>
        obtain ⟨j, hj, rfl, rfl, rfl⟩ := hrel
        by_cases hjl : j < m
        · obtain ⟨x, hx⟩ := get_of_lt (l := row) (k := j) (by rw [← HM.out]; exact hjl)
          obtain ⟨b3, o3, rfl, hb3, e1⟩ := ints_el HP.out hx
          have hxb := H10.out x (List.mem_of_getElem? hx)
          have heb := ckE_b hxb
          have hpr := ck_prod (j := j) (t := k) heb (by omega) (by omega)
          have hib := ckIn_b k row S0 HSB.out j
          have HSJ : Hid (ckIn k row S0 (j + 1) = (ckIn k row S0 j + ckE x * ((j : Int) + 1) * ((k : Int) + 1)) % 997) := Lib.hid (by rw [ckIn_succ]; unfold ckS; rw [show row.getD j 0 = x by rw [List.getD_eq_getElem?_getD, hx]; rfl])
          obtain ⟨S1, hS1⟩ : ∃ z, ckIn k row S0 j = z := ⟨_, rfl⟩
          rw [hS1] at HSJ hib ⊢
          have j0 : (0 : Int) ≤ (j : Int) := by omega
          have j1 : (j : Int) < (m : Int) := by omega
          have t1 : Value.int .i64 (wrap64 (2 * x)) = Value.int .i64 (2 * x) := by congr 1; exact w64 (by omega)
          have t2 : Value.int .i64 (wrap64 (-2 * x)) = Value.int .i64 (-2 * x) := by congr 1; exact w64 (by omega)
          have t3 : Value.int .i64 (wrap64 (-2 * x + 1)) = Value.int .i64 (-2 * x + 1) := by congr 1; exact w64 (by omega)
          by_cases hneg : x < 0
          · have hE : ckE x = -2 * x + 1 := if_pos hneg
            rw [hE] at hpr HSJ
            have u1 : Value.int .i64 (wrap64 ((-2 * x + 1) * ((j : Int) + 1))) = Value.int .i64 ((-2 * x + 1) * ((j : Int) + 1)) := by congr 1; exact w64 (by omega)
            have u2 : Value.int .i64 (wrap64 ((-2 * x + 1) * ((j : Int) + 1) * ((k : Int) + 1))) = Value.int .i64 ((-2 * x + 1) * ((j : Int) + 1) * ((k : Int) + 1)) := by congr 1; exact w64 (by omega)
            have u3 : Value.int .i64 (wrap64 (S1 + (-2 * x + 1) * ((j : Int) + 1) * ((k : Int) + 1))) = Value.int .i64 (S1 + (-2 * x + 1) * ((j : Int) + 1) * ((k : Int) + 1)) := by congr 1; exact w64 (by omega)
            have HPR := Lib.hid hpr; have HIB := Lib.hid hib
            clear hS1 hx heb hxb hE hpr hib
            go_wp2
            refine ⟨⟨j + 1, by omega, by go_num, ?_, trivial⟩, by simp [intOf]; omega⟩
            rw [HSJ.out, Int.tmod_eq_emod_of_nonneg (by have := HPR.out; have := HIB.out; omega)]
          · have hE : ckE x = 2 * x := if_neg hneg
            rw [hE] at hpr HSJ
            have u1 : Value.int .i64 (wrap64 ((2 * x) * ((j : Int) + 1))) = Value.int .i64 ((2 * x) * ((j : Int) + 1)) := by congr 1; exact w64 (by omega)
            have u2 : Value.int .i64 (wrap64 ((2 * x) * ((j : Int) + 1) * ((k : Int) + 1))) = Value.int .i64 ((2 * x) * ((j : Int) + 1) * ((k : Int) + 1)) := by congr 1; exact w64 (by omega)
            have u3 : Value.int .i64 (wrap64 (S1 + (2 * x) * ((j : Int) + 1) * ((k : Int) + 1))) = Value.int .i64 (S1 + (2 * x) * ((j : Int) + 1) * ((k : Int) + 1)) := by congr 1; exact w64 (by omega)
            have HPR := Lib.hid hpr; have HIB := Lib.hid hib
            clear hS1 hx heb hxb hE hpr hib
            go_wp2
            refine ⟨⟨j + 1, by omega, by go_num, ?_, trivial⟩, by simp [intOf]; omega⟩
            rw [HSJ.out, Int.tmod_eq_emod_of_nonneg (by have := HPR.out; have := HIB.out; omega)]
        · have hje : j = m := by omega
          have j1 : ¬ (j : Int) < (m : Int) := by omega
          have HJE : Hid (ckIn k row S0 j = ckAll ts (k + 1)) := Lib.hid (by rw [HSU.out, hje, HM.out])
          obtain ⟨S1, hS1⟩ : ∃ z, ckIn k row S0 j = z := ⟨_, rfl⟩
          rw [hS1] at HJE ⊢
          clear hS1 hje
          go_wp2
          exact ⟨⟨k + 1, by omega, by go_num, by rw [HJE.out], trivial⟩, by simp [intOf]; omega⟩
    · have hkn : k = n := by omega
      have k1 : ¬ (k : Int) < (n : Int) := by omega
      have HCK : Hid (ckAll ts k = ckAll ts ts.length) := Lib.hid (by rw [hkn, HL.out])
      have hb := ckAll_b ts k
      obtain ⟨S, hS⟩ : ∃ z, ckAll ts k = z := ⟨_, rfl⟩
      rw [hS] at HCK hb ⊢
      clear hS hkn
      have s1 : Value.int .i64 (wrap64 (1000 + S)) = Value.int .i64 (1000 + S) := by congr 1; exact w64 (by omega)
      have HIT := Lib.hid (itoa_any (1000 + S) (by omega) (by omega) w HTAB.out)
      have HLE : Hid (1 ≤ (Lib.itoa (1000 + S)).length) := Lib.hid (itoa_pos (1000 + S) (by omega))
      clear hb
      go_wp2_with fail
      refine HIT.out.mono ?_
      rintro e w2 ⟨T, rfl, hT, hTs, hb2⟩
      have HTT := Lib.hid hT; have HB2 := Lib.hid hb2
      have hT1 : 1 ≤ T.size := by
        rw [hT]
        simpa [ByteArray.size] using HLE.out
      have HTS := Lib.hid hTs
      have h1i : (1 : Int) ≤ (T.size : Int) := by omega
      clear hT hb2
      go_wp2
      go_ret
      have hck : ckT ts = (Lib.itoa (1000 + S)).drop 1 := by unfold ckT; rw [HCK.out]
      refine ⟨?_, ?_, HB2.out⟩
      · rw [hck, HTT.out]
        exact congrArg (fun b => Ending.returned (Value.string b)) (ext_drop _)
      · rw [hck, List.length_drop]
        have := HTS.out
        rw [HTT.out] at this
        have h2 : (ByteArray.mk (Lib.itoa (1000 + S)).toArray).size = (Lib.itoa (1000 + S)).length := by simp [ByteArray.size]
        omega
end Go.Proofs.YtdlaphlpimlgdaaGreatDoor
/- Room for numbers; numbers of several slices, one after the other. -/
namespace Go.Proofs.YtdlaphlpimlgdaaGreatDoor
open Go.RowKit Go.Lib

set_option maxRecDepth 100000 in
set_option maxHeartbeats 2000000 in
theorem grow_any (n : Nat) (h1 : 1 ≤ n) (hn : n ≤ 100000) (w : World) :
    Calls Tryz.prog 122 #[.slice none 0 0, .int .i64 n] w fun e w' => ∃ G, e = .returned (.slice (some ⟨w.heap.size, 0, none⟩) 0 G) ∧ w'.ownsRow w.heap.size 3 1 (.slice (some ⟨w.heap.size, 0, none⟩) 0 G) 0 [] ∧ Below w.heap.size w w' := by
  obtain ⟨i0, hi0, hz0, hz1, hz2⟩ := info_parts int_info
  have hrz : ∀ ty, (Builtin.append_ #[34, 3] ty #[.slice none 0 0, .int .i64 (n : Int)]).run Tryz.prog w =
      .ok (.slice (some ⟨w.heap.size, 0, none⟩) n (grownCap w n 0 3)) (w.drew.alloc (.cells ((#[] : Array Value) ++ Builtin.zeroCells (Value.int .i64 0).cells n ++ Builtin.zeroCells (Value.int .i64 0).cells (grownCap w n 0 3 - n)) 3)) := fun ty => by
    have h := Lib.run_append_grow_zeros (P := Tryz.prog) w 34 3 ty 3 i0 (.int .i64 0) .i64 .i64 Tryz.underlying34 Tryz.underlying3 hi0 hz0 none 0 0 [] (run_firstCells_none w.drew i0.size 0 0 0) n (by omega) (by omega) (by omega) (by omega)
      (by rw [hz2]; omega)
      (by rw [hz2]; exact growslice_fits (by omega) (by omega))
    simpa using h
  have hGn : n ≤ grownCap w n 0 3 := grownCap_ge w _ _ _
  have hG63 : grownCap w n 0 3 ≤ maxLen := grownCap_le_maxLen w n 0 3 (by unfold maxLen; omega)
  obtain ⟨G, hG⟩ : ∃ G, grownCap w n 0 3 = G := ⟨_, rfl⟩
  rw [hG] at hrz hGn hG63
  have hG63' := hG63
  unfold maxLen at hG63'
  have hsz : ((#[] : Array Value) ++ Builtin.zeroCells (Value.int .i64 0).cells n ++ Builtin.zeroCells (Value.int .i64 0).cells (G - n)).size = G * 1 := by
    rw [Array.size_append, Array.size_append, size_zeroCells, size_zeroCells]
    show 0 + n * 1 + (G - n) * 1 = G * 1
    omega
  obtain ⟨cs, hcs⟩ : ∃ z, ((#[] : Array Value) ++ Builtin.zeroCells (Value.int .i64 0).cells n ++ Builtin.zeroCells (Value.int .i64 0).cells (G - n)) = z := ⟨_, rfl⟩
  rw [hcs] at hrz hsz
  have zN := heap_alloc_last w.drew (.cells cs 3)
  have hbN : Below w.heap.size w (w.drew.alloc (.cells cs 3)) := ((Below.refl w.heap.size w).drew).alloc (show w.heap.size ≤ w.drew.heap.size from Nat.le_refl _) _
  have HN := Lib.hid zN; have HB := Lib.hid hbN; have HSZ := Lib.hid hsz; have HM := Lib.hid hG63
  have n0 : ¬ ((n : Int) < 0) := by omega
  have n1 : (n : Int) > 0 := by omega
  clear zN hbN hcs hsz hG hi0 hz0 hz1 hz2 hG63
  go_enter Tryz.func122, Tryz.ntmps122
  go_wp2_with (at_builtin; refine Lib.wpList_append_run _ rfl _ _ _ _ rfl _ _ rfl rfl _ _ (hrz _) ?_)
  all_goals (go_ret; exact ⟨G, rfl, ⟨rfl, .inr ⟨w.heap.size, G, cs, rfl, Nat.le_refl _, HN.out, Nat.zero_le _, HM.out, HSZ.out, rfl⟩⟩, HB.out⟩)

theorem flat_take_succ {LL : List (List Int)} {k : Nat} {r : List Int} (h : LL[k]? = some r) : (LL.take (k + 1)).flatten = (LL.take k).flatten ++ r := by
  rw [List.take_add_one, h]
  simp
theorem flat_take_le (LL : List (List Int)) : ∀ k, (LL.take k).flatten.length ≤ LL.flatten.length := fun k => by
  have h : LL.flatten = (LL.take k).flatten ++ (LL.drop k).flatten := by rw [← List.flatten_append, List.take_append_drop]
  rw [h, List.length_append]
  omega
def ivL (xs : List Int) : List Value := xs.map fun x => Value.int .i64 x
set_option maxRecDepth 100000 in
set_option maxHeartbeats 2000000 in
theorem concat_any (A : Option Addr) (n c : Nat) (LL : List (List Int)) (w : World) (hl : LL.length = n) (hn : n ≤ 1000) (hT : LvsAt w w.heap.size A LL) (hne : ∀ r ∈ LL, r ≠ []) (h1 : 1 ≤ LL.flatten.length) (h2 : LL.flatten.length ≤ 10000) :
    Calls Tryz.prog 98 #[.slice A n c] w fun e w' => ∃ g c', e = .returned (.slice (some ⟨g, 0, none⟩) LL.flatten.length c') ∧ IntsAt w' w'.heap.size (some ⟨g, 0, none⟩) LL.flatten ∧ Below w.heap.size w w' := by
  obtain ⟨i0, hi0, hz0, hz1, hz2⟩ := info_parts int_info
  have HL := Lib.hid hl; have HT := Lib.hid hT; have HNE := Lib.hid hne
  obtain ⟨N, hN⟩ : ∃ z, LL.flatten.length = z := ⟨_, rfl⟩
  have HN := Lib.hid hN
  rw [hN] at h1 h2 ⊢
  clear hl hT hne hN
  go_enter Tryz.func98, Tryz.ntmps98
  go_wp2
  go_loopw [3, 11] (fun s i wr => ∃ k : Nat, k ≤ n ∧ i = .int .i64 k ∧ s = .int .i64 (((LL.take k).flatten.length : Nat) : Int) ∧ w = wr) (fun _ i _ => n - (intOf i).toNat)
  case atStart => exact ⟨0, Nat.zero_le _, rfl, rfl, rfl⟩
  case round =>
    obtain ⟨k, hk, rfl, rfl, rfl⟩ := hrel
    by_cases hlt : k < n
    · obtain ⟨row, hrow⟩ := get_of_lt (l := LL) (k := k) (by rw [HL.out]; exact hlt)
      obtain ⟨b1, o1, A1, m, c1, rfl, hb1, hm1, d1, p1, _⟩ := lvs_row HT.out hrow
      have hle := flat_take_le LL (k + 1)
      have HSU : Hid ((LL.take (k + 1)).flatten.length = (LL.take k).flatten.length + m) := Lib.hid (by rw [flat_take_succ hrow, List.length_append, hm1])
      rw [HSU.out, HN.out] at hle
      obtain ⟨S, hS⟩ : ∃ z, (LL.take k).flatten.length = z := ⟨_, rfl⟩
      rw [hS] at HSU hle ⊢
      have k0 : (0 : Int) ≤ (k : Int) := by omega
      have k1 : (k : Int) < (n : Int) := by omega
      have s1 : Value.int .i64 (wrap64 ((S : Int) + (m : Int))) = Value.int .i64 ((S : Int) + (m : Int)) := by congr 1; exact w64 (by omega)
      have s2 : ¬ ((S : Int) + (m : Int) < 0) := by omega
      have HLT := Lib.hid hle
      have HSW : Hid (wrap64 ((S : Int) + (m : Int)) = (S : Int) + (m : Int)) := Lib.hid (w64 (by omega))
      clear hrow hm1 p1 hS hle
      go_wp2
      refine ⟨⟨k + 1, by omega, by go_num, ?_, trivial⟩, by simp [intOf]; omega⟩
      rw [HSU.out, HSW.out]
      go_num
    · have hkn : k = n := by omega
      have k1 : ¬ (k : Int) < (n : Int) := by omega
      have HF : Hid ((LL.take k).flatten.length = N) := Lib.hid (by rw [List.take_of_length_le (by rw [HL.out]; omega), HN.out])
      rw [HF.out]
      have HG := Lib.hid (grow_any N h1 (by omega) w)
      clear hkn
      go_wp2_with fail
      refine HG.out.mono ?_
      rintro e w1 ⟨G, rfl, hown, hb⟩
      have HO := Lib.hid hown; have HB := Lib.hid hb
      clear hown hb HG HF
      go_wp2
      go_loopw [6, 27] (fun v i wr => ∃ k : Nat, k ≤ n ∧ i = .int .i64 k ∧ wr.ownsRow w.heap.size 3 1 v (LL.take k).flatten.length (ivL (LL.take k).flatten) ∧ Below w.heap.size w wr) (fun _ i _ => n - (intOf i).toNat)
      case atStart => exact ⟨0, Nat.zero_le _, rfl, HO.out, HB.out⟩
      case round =>
        obtain ⟨k, hk, rfl, hown, hbr⟩ := hrel
        have HO := Lib.hid hown; have HB := Lib.hid hbr
        clear hown
        by_cases hlt : k < n
        · obtain ⟨row, hrow⟩ := get_of_lt (l := LL) (k := k) (by rw [HL.out]; exact hlt)
          obtain ⟨b1, o1, A1, m, c1, rfl, hb1, hm1, d1, p1, hmx⟩ := lvs_row HT.out hrow
          obtain ⟨b2, o2, rfl, hb2, e2⟩ := p1 (HNE.out row (List.mem_of_getElem? hrow))
          have hle := flat_take_le LL (k + 1)
          rw [HN.out, flat_take_succ hrow, List.length_append, ← hm1] at hle
          have HSU : Hid ((LL.take (k + 1)).flatten = (LL.take k).flatten ++ row) := Lib.hid (flat_take_succ hrow)
          have d1' := ((bcell hbr).1 _ _ hb1).trans d1
          have HSR : Hid (∀ (j : Nat) (v : Value), (ivL row)[j]? = some v → wr.cell? ((⟨b2, o2, none⟩ : Addr).add j) = some v) := Lib.hid fun j v hj => by
            unfold ivL at hj
            rw [List.getElem?_map] at hj
            cases hx : row[j]? with
            | none => rw [hx] at hj; simp at hj
            | some x =>
              rw [hx] at hj
              simp at hj
              subst hj
              have e1 : (⟨b2, o2, none⟩ : Addr).add j = ⟨b2, o2 + j, none⟩ := by unfold Addr.add; split <;> simp_all
              rw [e1]
              exact ((bcell hbr).1 _ _ hb2).trans (by simpa using e2 j x hx 0 _ rfl)
          have k0 : (0 : Int) ≤ (k : Int) := by omega
          have k1 : (k : Int) < (n : Int) := by omega
          have HLE := Lib.hid hle; have HM := Lib.hid hm1
          clear hrow hm1 e2 d1 hle hbr
          go_wp2_with (first
            | (at_builtin
               refine wpList_append_own _ rfl _ _ 34 rfl w.heap.size 3 i0 _ 1 8 Tryz.underlying34 hi0 hz0 hz1 hz2 rfl (by decide) _ _ _ rfl HO.out ⟨b2, o2, none⟩ m c1 (ivL row) rfl (by unfold ivL; rw [List.length_map, HM.out, Nat.mul_one]) HSR.out one_ints (by unfold maxLen; have := HLE.out; omega) (by have := HLE.out; omega) (by have := HB.out.size; simp; omega) ?_
               intro v' w4 hown4 hgrow4 _)
            | fail)
          refine ⟨⟨k + 1, by omega, by go_num, ?_, ?_⟩, by simp [intOf]; omega⟩
          · rw [HSU.out, List.length_append, ← HM.out]
            unfold ivL
            rw [List.map_append]
            exact hown4
          · exact HB.out.grown hgrow4 HB.out.size (fun B hB => (own_at HO.out hB).1)
        · have hkn : k = n := by omega
          have k1 : ¬ (k : Int) < (n : Int) := by omega
          have hfl : (LL.take k).flatten = LL.flatten := by rw [List.take_of_length_le (by rw [HL.out]; omega)]
          rw [hfl, HN.out] at HO
          obtain ⟨g, c', rfl, _⟩ := HO.out.form (by omega)
          obtain ⟨e1, e2, cs, e3, e4⟩ := own_block HO.out
          have H4 := Lib.hid e4; have H3 := Lib.hid e3
          clear hkn hfl e4 e3 hbr
          go_wp2
          go_ret
          refine ⟨g, ⟨c', rfl⟩, fun _ => ⟨g, 0, rfl, heapsz H3.out, fun i x hx j v hv => ?_⟩, HB.out⟩
          cases j with
          | succ j => simp [intR] at hv
          | zero =>
            simp [intR] at hv
            subst hv
            rw [cell_of_row _ g _ _ 3 (0, 0) H3.out, Nat.zero_add, Nat.mul_one, Nat.add_zero]
            exact H4.out i _ (by unfold ivL; rw [List.getElem?_map, hx]; rfl)
end Go.Proofs.YtdlaphlpimlgdaaGreatDoor
