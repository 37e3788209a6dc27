/- The text of a level book; what the example's statement of it is. -/
import Derived.Test.YtdlaphlpimlgdaaGreatDoorBP
namespace Go.Proofs.YtdlaphlpimlgdaaGreatDoor
open Go.RowKit

theorem book_spec {ts : List (List Int)} (h : bookB ts = true) : (1 ≤ ts.length ∧ ts.length ≤ 10) ∧ ∃ np, (1 ≤ np ∧ np ≤ 6) ∧ (ts.headD []).length = np ∧ ∀ row ∈ ts, row.length = np ∧ ∀ x ∈ row, -100000 ≤ x ∧ x ≤ 100000 := by
  unfold bookB at h
  simp only [Bool.and_eq_true, inB_iff, List.all_eq_true] at h
  refine ⟨by omega, (ts.headD []).length, by omega, rfl, fun row hr => ?_⟩
  have h2 := h.2 row hr
  unfold lvsB at h2
  simp only [Bool.and_eq_true, decide_eq_true_eq, List.all_eq_true] at h2
  exact ⟨h2.1, fun x hx => by simpa [lvB, inB_iff] using h2.2 x hx⟩
def headT (ts : List (List Int)) : List UInt8 := lineT [108, 101, 118, 101, 108, 115] [(ts.length : Int), ((ts.headD []).length : Int)]
def yearT (t : Nat) (row : List Int) : List UInt8 := lineT [121, 101, 97, 114] ((t : Int) :: row)
def yearsT (ts : List (List Int)) (k : Nat) : List UInt8 := ((List.range k).map fun t => yearT t (ts.getD t [])).flatten
def bookT (ts : List (List Int)) : List UInt8 := headT ts ++ yearsT ts ts.length ++ [101, 110, 100, 32] ++ ckT ts ++ [10]
def printR (ts : List (List Int)) : List UInt8 × Int := if bookB ts then (bookT ts, 0) else ([], 2)
theorem yearsT_succ {ts : List (List Int)} {k : Nat} {row : List Int} (h : ts[k]? = some row) : yearsT ts (k + 1) = yearsT ts k ++ yearT k row := by
  unfold yearsT
  rw [List.range_succ, List.map_append, List.flatten_append]
  simp [h]
theorem numT_len {xs : List Int} (h : I64 xs) : (numT xs).length ≤ 22 * xs.length := by
  induction xs with
  | nil => simp [numT]
  | cons x xs ih =>
    have h1 := h x (by simp)
    have h2 := ih fun y hy => h y (by simp [hy])
    have h3 := Lib.itoa_length_le x h1.1 h1.2
    simp only [numT, List.map_cons, List.flatten_cons, List.length_append, List.length_cons] at h2 ⊢
    omega
theorem lineT_len {word : List UInt8} {xs : List Int} (h : I64 xs) : (lineT word xs).length ≤ word.length + 22 * xs.length + 1 := by
  have := numT_len h
  simp only [lineT, List.length_append, List.length_cons, List.length_nil]
  omega
/-- A slice of two slices. -/
theorem lvs_two {w : World} {b B : Nat} {A1 A2 : Option Addr} {xs ys : List Int} {c1 c2 : Nat} (h : w.heap[b]? = some (.cells #[.slice A1 xs.length c1, .slice A2 ys.length c2] 34 (0, 0))) (hb : b < B)
    (h1 : IntsAt w B A1 xs) (h2 : IntsAt w B A2 ys) (l1 : xs.length ≤ maxLen) (l2 : ys.length ≤ maxLen) (k1 : xs.length ≤ c1) (k2 : ys.length ≤ c2) : LvsAt w B (some ⟨b, 0, none⟩) [xs, ys] := fun _ => by
  refine ⟨b, 0, rfl, hb, fun i x hx => ?_⟩
  have e := fun i => cell_of_row w b i _ 34 (0, 0) h
  match i, hx with
  | 0, hx => simp at hx; subst hx; exact ⟨A1, c1, by simpa using e 0, h1, l1, k1⟩
  | 1, hx => simp at hx; subst hx; exact ⟨A2, c2, by simpa using e 1, h2, l2, k2⟩
  | i + 2, hx => simp at hx
theorem lvs_row2 {w : World} {B : Nat} {A : Option Addr} {ts : List (List Int)} {t : Nat} {row : List Int} (h : LvsAt w B A ts) (ht : ts[t]? = some row) : ∃ b o A' m c', A = some ⟨b, o, none⟩ ∧ b < B ∧ m = row.length ∧ w.cell? ⟨b, o + t, none⟩ = some (.slice A' m c') ∧ IntsAt w B A' row ∧ m ≤ maxLen ∧ m ≤ c' := by
  obtain ⟨b, o, rfl, h1, h2⟩ := h (by intro e; rw [e] at ht; simp at ht)
  obtain ⟨A', c', e1, e2, e3, e4⟩ := h2 t row ht
  exact ⟨b, o, A', _, c', rfl, h1, rfl, e1, e2, e3, e4⟩

set_option maxRecDepth 100000 in
set_option maxHeartbeats 4000000 in
theorem Print_any (A : Option Addr) (n c : Nat) (ts : List (List Int)) (w : World) (hl : ts.length = n) (hn : n ≤ maxLen) (hT : LvsAt w w.heap.size A ts) (ht : Tab w) :
    Calls Tryz.prog 54 #[.slice A n c] w fun e w' => e = .returned (.tuple #[.string ⟨(printR ts).1.toArray⟩, .int .i64 (printR ts).2]) ∧ Below w.heap.size w w' := by
  have HL := Lib.hid hl; have HT := Lib.hid hT; have HTAB := Lib.hid ht; have HN := Lib.hid hn
  clear hl hT ht hn
  cases hb : bookB ts with
  | false =>
    have HR : Hid (printR ts = ([], 2)) := Lib.hid (by simp [printR, hb])
    have HB := Lib.hid hb
    clear hb
    go_enter Tryz.func54, Tryz.ntmps54
    go_wp2_with fail
    refine (bookFine_any A n c ts w HL.out HN.out HT.out).mono ?_
    rintro e w1 ⟨rfl, rfl⟩
    rw [HB.out]
    go_wp2_with fail
    go_ret2
    exact ⟨by rw [HR.out]; rfl, Below.refl _ _⟩
  | true =>
    have HR : Hid (printR ts = (bookT ts, 0)) := Lib.hid (by simp [printR, hb])
    obtain ⟨⟨q1, q2⟩, np, ⟨q3, q4⟩, hnp, hrows⟩ := book_spec hb
    rw [HL.out] at q1 q2
    have HRW := Lib.hid hrows; have HB := Lib.hid hb
    have HNP := Lib.hid hnp
    obtain ⟨row0, hr0⟩ := get_of_lt (l := ts) (k := 0) (by rw [HL.out]; omega)
    have hm0 : row0.length = np := (hrows row0 (List.mem_of_getElem? hr0)).1
    obtain ⟨b0, o0, A0, m0, c0, rfl, hb0, hm, d0, _, _⟩ := lvs_row2 HT.out hr0
    rw [hm0] at hm
    subst hm
    have HHD : Hid (headT ts = lineT [108, 101, 118, 101, 108, 115] [(n : Int), (m0 : Int)]) := Lib.hid (by unfold headT; rw [HL.out, HNP.out])
    rw [Nat.add_zero] at d0
    have hI : I64 [(n : Int), (m0 : Int)] := by
      intro v hv
      simp only [List.mem_cons, List.not_mem_nil, or_false] at hv
      rcases hv with rfl | rfl <;> omega
    have HI := Lib.hid hI
    clear hrows hb hnp hr0 hm0 hI
    go_enter Tryz.func54, Tryz.ntmps54
    go_wp2_with fail
    refine (bookFine_any _ n c ts w HL.out HN.out HT.out).mono ?_
    rintro e w1 ⟨rfl, rfl⟩
    rw [HB.out]
    have n1 : (0 : Int) < (n : Int) := by omega
    go_wp2_with fail
    have hbA := (Below.refl w.heap.size w).alloc (Nat.le_refl _) (.cells #[.int .i64 (n : Int), .int .i64 (m0 : Int)] 3)
    have HBA := Lib.hid hbA
    clear hbA d0
    refine (line_any (some ⟨w.heap.size, 0, none⟩) 2 2 [108, 101, 118, 101, 108, 115] [(n : Int), (m0 : Int)] _ rfl (by decide) (by decide) (two_ints w _ _) HI.out (HTAB.out.next HBA.out)).mono ?_
    rintro e w2 ⟨rfl, hb2⟩
    have HB2 := Lib.hid (HBA.out.trans (hb2.mono HBA.out.size))
    clear hb2
    obtain ⟨B0, hB0⟩ : ∃ B : ByteArray, ByteArray.mk (lineT [108, 101, 118, 101, 108, 115] [(n : Int), (m0 : Int)]).toArray = B := ⟨_, rfl⟩
    have hB0' : B0.size ≤ 100 := by
      rw [← hB0]
      have := lineT_len (word := [108, 101, 118, 101, 108, 115]) HI.out
      simp only [List.length_cons, List.length_nil] at this
      show (lineT _ _).toArray.size ≤ _
      rw [List.size_toArray]
      omega
    rw [hB0]
    have HB0 : Hid (B0 = ⟨(headT ts).toArray⟩) := Lib.hid (by rw [← hB0, HHD.out])
    have HS0 := Lib.hid hB0'
    clear hB0 hB0'
    go_wp2_with fail
    go_loopw [4, 20] (fun s i wr => ∃ (k : Nat) (B : ByteArray), k ≤ n ∧ i = .int .i64 k ∧ s = .string B ∧ B = ⟨(headT ts ++ yearsT ts k).toArray⟩ ∧ B.size ≤ 100 + 300 * k ∧ Below w.heap.size w wr) (fun _ i _ => n - (intOf i).toNat)
    case atStart => exact ⟨0, B0, Nat.zero_le _, rfl, rfl, by rw [HB0.out]; simp [yearsT], HS0.out, HB2.out⟩
    case round =>
      obtain ⟨k, B, hk, rfl, rfl, hB, hBs, hbr⟩ := hrel
      have HBB := Lib.hid hB; have HBR := Lib.hid hbr
      clear hB
      have hz := hbr.size
      by_cases hlt : k < n
      · obtain ⟨row, hrow⟩ := get_of_lt (l := ts) (k := k) (by rw [HL.out]; exact hlt)
        obtain ⟨b1, o1, A1, m, c1, hA1, hb1, hm1, d1, p1, hmx, hmc⟩ := lvs_row2 HT.out hrow
        injection hA1 with hA1
        injection hA1 with e1 e2
        subst e1 e2
        obtain ⟨g1, g2⟩ := HRW.out row (List.mem_of_getElem? hrow)
        have HM1 := Lib.hid hm1
        rw [g1] at hm1
        subst hm1
        have d1' := ((bcell hbr).1 _ _ hb1).trans d1
        have hI2 : I64 ((k : Int) :: row) := by
          intro v hv
          rcases List.mem_cons.1 hv with rfl | hv
          · omega
          · have := g2 v hv; omega
        have HI2 := Lib.hid hI2
        have HROW := Lib.hid hrow; have HG1 := Lib.hid g1; have HP1 := Lib.hid p1; have HMC := Lib.hid hmc
        have HTR := Lib.hid (HTAB.out.next hbr)
        have k0 : (0 : Int) ≤ (k : Int) := by omega
        have k1 : (k : Int) < (n : Int) := by omega
        clear hrow g1 g2 p1 d1 hI2 hmx hmc hbr
        go_wp2_with fail
        obtain ⟨z0, z1, hb2⟩ := two_boxes wr (.cells #[.int .i64 (k : Int)] 3) (.cells #[.slice (some ⟨wr.heap.size, 0, none⟩) 1 1, .slice A1 m c1] 34)
        have hbw := HBR.out.trans (hb2.mono HBR.out.size)
        have HBW := Lib.hid hbw
        have hX1 : IntsAt ((wr.alloc (.cells #[.int .i64 (k : Int)] 3)).alloc (.cells #[.slice (some ⟨wr.heap.size, 0, none⟩) 1 1, .slice A1 m c1] 34)) ((wr.alloc (.cells #[.int .i64 (k : Int)] 3)).alloc (.cells #[.slice (some ⟨wr.heap.size, 0, none⟩) 1 1, .slice A1 m c1] 34)).heap.size (some ⟨wr.heap.size, 0, none⟩) [(k : Int)] :=
          RowAt.up (k := 1) (R := intR) (one_int wr (k : Int)) ((Below.refl _ _).alloc (Nat.le_refl _) _)
        have hX2 : IntsAt ((wr.alloc (.cells #[.int .i64 (k : Int)] 3)).alloc (.cells #[.slice (some ⟨wr.heap.size, 0, none⟩) 1 1, .slice A1 m c1] 34)) ((wr.alloc (.cells #[.int .i64 (k : Int)] 3)).alloc (.cells #[.slice (some ⟨wr.heap.size, 0, none⟩) 1 1, .slice A1 m c1] 34)).heap.size A1 row :=
          RowAt.up (k := 1) (R := intR) HP1.out hbw
        have hne : row ≠ [] := fun e => by have := HG1.out; rw [e] at this; simp at this; omega
        have hfl : ([[(k : Int)], row] : List (List Int)).flatten = (k : Int) :: row := by simp
        have HFL := Lib.hid hfl
        have hcc := concat_any (some ⟨wr.heap.size + 1, 0, none⟩) 2 2 [[(k : Int)], row] _ rfl (by decide)
          (lvs_two (by rw [HG1.out]; exact z1) (heapsz z1) hX1 hX2 (by simp [maxLen]) (by rw [HG1.out]; unfold maxLen; omega) (Nat.le_refl _) (by rw [HG1.out]; exact HMC.out))
          (fun r hr => by
            simp only [List.mem_cons, List.not_mem_nil, or_false] at hr
            rcases hr with rfl | rfl
            · simp
            · exact hne) (by rw [hfl, List.length_cons]; omega) (by rw [hfl, List.length_cons, HG1.out]; omega)
        rw [hfl, List.length_cons, HG1.out] at hcc
        have HCC := Lib.hid hcc
        clear hcc hfl hne hX1 hX2 z0 z1 hb2 hbw
        refine HCC.out.mono ?_
        rintro e w3 ⟨g, c', rfl, hi3, hb3⟩
        have HI3 := Lib.hid hi3
        have HB3 := Lib.hid (HBW.out.trans (hb3.mono HBW.out.size))
        clear hi3 hb3 HCC
        go_wp2_with fail
        refine (line_any (some ⟨g, 0, none⟩) (m + 1) c' [121, 101, 97, 114] ((k : Int) :: row) w3 (by rw [List.length_cons, HG1.out]) (by omega) (by decide) HI3.out HI2.out (HTAB.out.next HB3.out)).mono ?_
        rintro e w4 ⟨rfl, hb4⟩
        have HB4 := Lib.hid (HB3.out.trans (hb4.mono HB3.out.size))
        clear hb4
        obtain ⟨T, hT⟩ : ∃ T : ByteArray, ByteArray.mk (lineT [121, 101, 97, 114] ((k : Int) :: row)).toArray = T := ⟨_, rfl⟩
        have hTs : T.size ≤ 300 := by
          rw [← hT]
          have := lineT_len (word := [121, 101, 97, 114]) HI2.out
          simp only [List.length_cons, List.length_nil, HG1.out] at this
          show (lineT _ _).toArray.size ≤ _
          rw [List.size_toArray]
          omega
        rw [hT]
        have HT4 := Lib.hid hT
        clear hT
        go_wp2_with fail
        refine ⟨⟨k + 1, _, by omega, by go_num, rfl, ?_, ?_, HB4.out⟩, by simp [intOf]; omega⟩
        · rw [HBB.out, ← HT4.out, ByteArray.mk_append_mk, yearsT_succ HROW.out, List.append_assoc]
          rfl
        · rw [ByteArray.size_append']
          omega
      · have hkn : k = n := by omega
        have k1 : ¬ (k : Int) < (n : Int) := by omega
        subst hkn
        have h9 : lvs9 ts := fun row hr => by
          obtain ⟨g1, g2⟩ := HRW.out row hr
          exact ⟨by omega, fun x hx => by have := g2 x hx; omega⟩
        have HCK := Lib.hid (checkOf_any (some ⟨b0, o0, none⟩) k c ts wr HL.out (by omega) (HT.out.up hbr) h9 (HTAB.out.next hbr))
        clear h9
        go_wp2_with fail
        refine HCK.out.mono ?_
        rintro e w3 ⟨rfl, hcl, hb3⟩
        have HB3 := Lib.hid (HBR.out.trans (hb3.mono HBR.out.size))
        clear hb3
        obtain ⟨T, hT⟩ : ∃ T : ByteArray, ByteArray.mk (ckT ts).toArray = T := ⟨_, rfl⟩
        have hTs : T.size ≤ 21 := by
          rw [← hT]
          show (ckT ts).toArray.size ≤ _
          rw [List.size_toArray]
          exact hcl
        rw [hT]
        have HT4 := Lib.hid hT
        clear hT hcl
        go_wp2_with fail
        go_ret2
        refine ⟨?_, HB3.out⟩
        rw [HR.out, HBB.out, ← HT4.out]
        have : bookT ts = headT ts ++ yearsT ts k ++ [101, 110, 100, 32] ++ ckT ts ++ [10] := by unfold bookT; rw [HL.out]
        rw [this]
        simp [ByteArray.mk_append_mk]
end Go.Proofs.YtdlaphlpimlgdaaGreatDoor
