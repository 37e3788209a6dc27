/- A number as text; a line of a book. -/
import Derived.Laws.Concat
import Derived.Deep.QuietTactic
import Derived.Lib.AppendIntMem
import Derived.Lib.ItoaLen
import Derived.Test.YtdlaphlpimlgdaaGreatDoorBJ
namespace Go.Proofs.YtdlaphlpimlgdaaGreatDoor
open Go.RowKit Go.Sort

def Tab (w : World) : Prop := Lib.TabBelow Tryz.prog w.heap.size w "internal/strconv.uint64pow10" .u64 Lib.pow10Tab
theorem Tab.next {w w1 : World} (h : Tab w) (hb : Below w.heap.size w w1) : Tab w1 := fun w2 h2 => h w2 (hb.trans (h2.mono hb.size))

theorem itoa_any (n : Int) (h0 : -9223372036854775808 ≤ n) (h1 : n ≤ 9223372036854775807) (w : World) (ht : Tab w) :
    Calls Tryz.prog 121 #[.int .i64 n] w fun e w' => ∃ T : ByteArray, e = .returned (.string T) ∧ T = ⟨(Lib.itoa n).toArray⟩ ∧ T.size ≤ 21 ∧ Below w.heap.size w w' := by
  refine (Tryz.strconv_Itoa n h0 h1 w ht.here).mono ?_
  rintro e w' ⟨rfl, k, os, rfl⟩
  refine ⟨_, rfl, rfl, by simpa [ByteArray.size] using Lib.itoa_length_le n h0 h1, rfl, rfl, rfl, ?_, ?_⟩
  · simp [grow]
  · intro j hj
    show (w.heap ++ os)[j]? = _
    rw [Array.getElem?_append_left hj]

def numT (xs : List Int) : List UInt8 := (xs.map fun x => 32 :: Lib.itoa x).flatten
theorem numT_take_succ {xs : List Int} {k : Nat} {x : Int} (h : xs[k]? = some x) : numT (xs.take (k + 1)) = numT (xs.take k) ++ (32 :: Lib.itoa x) := by
  obtain ⟨hk, rfl⟩ := List.getElem?_eq_some_iff.1 h
  simp only [numT, List.take_succ_eq_append_getElem hk, List.map_append, List.flatten_append, List.map_cons, List.map_nil, List.flatten_cons, List.flatten_nil, List.append_nil]
def lineT (word : List UInt8) (xs : List Int) : List UInt8 := word ++ numT xs ++ [10]
def I64 (xs : List Int) : Prop := ∀ x ∈ xs, -9223372036854775808 ≤ x ∧ x ≤ 9223372036854775807

set_option maxRecDepth 100000 in
set_option maxHeartbeats 1000000 in
theorem line_any (A : Option Addr) (n c : Nat) (word : List UInt8) (xs : List Int) (w : World) (hl : xs.length = n) (hn : n ≤ 1000) (hw : word.length ≤ 1000) (hX : IntsAt w w.heap.size A xs) (hI : I64 xs) (ht : Tab w) :
    Calls Tryz.prog 97 #[.string ⟨word.toArray⟩, .slice A n c] w fun e w' => e = .returned (.string ⟨(lineT word xs).toArray⟩) ∧ Below w.heap.size w w' := by
  have HL := Lib.hid hl; clear hl
  have HI := Lib.hid hI; clear hI
  have HT := Lib.hid ht; clear ht
  have HW := Lib.hid hw; clear hw
  have HX := Lib.hid hX; clear hX
  obtain ⟨B0, hB0⟩ : ∃ B : ByteArray, ByteArray.mk word.toArray = B := ⟨_, rfl⟩
  have HB0 := Lib.hid hB0
  rw [hB0]; clear hB0
  go_enter Tryz.func97, Tryz.ntmps97
  go_wp2
  go_loopw [0, 9] (fun s i wr => ∃ (k : Nat) (B : ByteArray), k ≤ n ∧ i = .int .i64 k ∧ s = .string B ∧ B = ⟨(word ++ numT (xs.take k)).toArray⟩ ∧ B.size ≤ 1000 + 22 * k ∧ Below w.heap.size w wr) (fun _ i _ => n - (intOf i).toNat)
  case atStart => exact ⟨0, B0, Nat.zero_le _, rfl, rfl, by rw [← HB0.out]; simp [numT], by rw [← HB0.out]; simpa [ByteArray.size] using HW.out, Below.refl _ _⟩
  case round =>
    obtain ⟨k, B, hk, rfl, rfl, hB, hBs, hbr⟩ := hrel
    have HB := Lib.hid hB; clear hB
    have hz := hbr.size
    by_cases hlt : k < n
    · obtain ⟨x, hx⟩ := get_of_lt (l := xs) (k := k) (by rw [HL.out]; exact hlt)
      obtain ⟨b1, o1, rfl, hb1, hcs1⟩ := HX.out (by intro h; rw [h] at hx; simp at hx)
      have d0 := ((bcell hbr).1 _ _ hb1).trans (hcs1 k x hx 0 (.int .i64 x) rfl)
      simp only [Nat.mul_one, Nat.add_zero] at d0
      have hr := HI.out x (List.mem_of_getElem? hx)
      have HK := Lib.hid hx
      have HR := Lib.hid hr
      have HTr := Lib.hid (HT.out.next hbr)
      clear hx hcs1 hr
      go_wp2_with fail
      refine (itoa_any x HR.out.1 HR.out.2 _ HTr.out).mono ?_
      rintro e w2 ⟨T, rfl, hT, hTs, hb2⟩
      have HTT := Lib.hid hT; clear hT
      have HB2 := Lib.hid hb2; clear hb2
      go_wp2
      refine ⟨⟨k + 1, _, by omega, rfl, rfl, ?_, ?_, hbr.trans (HB2.out.mono hz)⟩, by simp [intOf]; omega⟩
      · rw [HB.out, HTT.out, ByteArray.mk_append_mk, ByteArray.mk_append_mk, numT_take_succ HK.out]
        simp only [List.append_assoc, List.cons_append, List.nil_append]
      · rw [ByteArray.size_append', ByteArray.size_append']
        show B.size + (1 + T.size) ≤ _
        omega
    · have hkn : k = n := by omega
      have HKN := Lib.hid hkn
      clear hkn
      go_wp2
      go_ret
      refine ⟨?_, hbr⟩
      have hB := HB.out
      rw [List.take_of_length_le (by have := HL.out; have := HKN.out; omega)] at hB
      rw [hB, ByteArray.mk_append_mk]
      rfl
end Go.Proofs.YtdlaphlpimlgdaaGreatDoor
/- Lists that are the same. -/
namespace Go.Proofs.YtdlaphlpimlgdaaGreatDoor
open Go.RowKit

theorem ret_bool {a b : Bool} (h : a = b) : Ending.returned (.bool a) = .returned (.bool b) := by rw [h]
theorem belN {w wr : World} (h : Below w.heap.size w wr) (n : Nat) : Below w.heap.size w (wr.drewN n) := ⟨h.os, h.tape, h.output, h.size, h.block⟩
theorem list_ne_of_get {α : Type} {xs ys : List α} {k : Nat} {x y : α} (hx : xs[k]? = some x) (hy : ys[k]? = some y) (h : x ≠ y) : xs ≠ ys := fun he => by
  rw [he, hy] at hx
  exact h (Option.some.inj hx).symm
theorem take_eq_succ {α : Type} {xs ys : List α} {k : Nat} {x : α} (hx : xs[k]? = some x) (hy : ys[k]? = some x) (h : xs.take k = ys.take k) : xs.take (k + 1) = ys.take (k + 1) := by
  obtain ⟨h1, e1⟩ := List.getElem?_eq_some_iff.1 hx
  obtain ⟨h2, e2⟩ := List.getElem?_eq_some_iff.1 hy
  rw [List.take_succ_eq_append_getElem h1, List.take_succ_eq_append_getElem h2, h, e1, e2]
theorem take_all_eq {α : Type} {xs ys : List α} {k : Nat} (h1 : xs.length = k) (h2 : ys.length = k) (h : xs.take k = ys.take k) : xs = ys := by
  rwa [List.take_of_length_le (by omega), List.take_of_length_le (by omega)] at h

set_option maxRecDepth 100000 in
set_option maxHeartbeats 1000000 in
theorem same_any (A A2 : Option Addr) (n m c c' : Nat) (xs ys : List Int) (w : World) (hl : xs.length = n) (hl2 : ys.length = m) (hn : n ≤ maxLen) (hn2 : m ≤ maxLen) (hX : IntsAt w w.heap.size A xs) (hY : IntsAt w w.heap.size A2 ys) :
    Calls Tryz.prog 46 #[.slice A n c, .slice A2 m c'] w fun e w' => e = .returned (.bool (decide (xs = ys))) ∧ Below w.heap.size w w' := by
  unfold maxLen at hn hn2
  have HL := Lib.hid hl; have HL2 := Lib.hid hl2
  clear hl hl2
  by_cases hnm : n = m
  · subst hnm
    have HX := Lib.hid hX; have HY := Lib.hid hY
    clear hX hY
    go_enter Tryz.func46, Tryz.ntmps46
    go_wp2
    go_loopw [5] (fun i wr => ∃ k : Nat, k ≤ n ∧ i = .int .i64 k ∧ xs.take k = ys.take k ∧ Below w.heap.size w wr) (fun i _ => n - (intOf i).toNat)
    case atStart => exact ⟨0, Nat.zero_le _, rfl, by simp, Below.refl _ _⟩
    case round =>
      obtain ⟨k, hk, rfl, hall, hbr⟩ := hrel
      have HA := Lib.hid hall; clear hall
      have hz := hbr.size
      by_cases hlt : k < n
      · obtain ⟨x, hx⟩ := get_of_lt (l := xs) (k := k) (by rw [HL.out]; exact hlt)
        obtain ⟨y, hy⟩ := get_of_lt (l := ys) (k := k) (by rw [HL2.out]; exact hlt)
        obtain ⟨b1, o1, rfl, hb1, hcs1⟩ := HX.out (by intro h; rw [h] at hx; simp at hx)
        obtain ⟨b2, o2, rfl, hb2, hcs2⟩ := HY.out (by intro h; rw [h] at hy; simp at hy)
        have d1 := ((bcell hbr).1 _ _ hb1).trans (hcs1 k x hx 0 (.int .i64 x) rfl)
        have d2 := ((bcell hbr).1 _ _ hb2).trans (hcs2 k y hy 0 (.int .i64 y) rfl)
        simp only [Nat.mul_one, Nat.add_zero] at d1 d2
        have KX := Lib.hid hx; have KY := Lib.hid hy
        clear hx hy hcs1 hcs2
        by_cases hxy : x = y
        · subst hxy
          go_wp2
          go_quiet (fail)
          go_wp2
          go_roundw
          case rel => exact ⟨k + 1, by omega, by go_num, take_eq_succ KX.out KY.out HA.out, belN hbr _⟩
          case measure => simp [intOf]; omega
        · have HNE := Lib.hid hxy
          go_wp2
          go_quiet (fail)
          go_wp2
          go_ret
          exact ⟨ret_bool (by simp [list_ne_of_get KX.out KY.out HNE.out]), belN hbr _⟩
      · have hkn : k = n := by omega
        have HKN := Lib.hid hkn
        clear hkn
        go_wp2
        go_ret
        exact ⟨ret_bool (by simp [take_all_eq (HL.out.trans HKN.out.symm) (HL2.out.trans HKN.out.symm) HA.out]), hbr⟩
  · have hne : xs ≠ ys := fun h => hnm (by rw [← HL.out, ← HL2.out, h])
    have HNE := Lib.hid hne
    clear hne
    go_enter Tryz.func46, Tryz.ntmps46
    go_wp2
    go_ret
    exact ⟨ret_bool (by simp [HNE.out]), Below.refl _ _⟩

theorem eq42 (a b a' b' : Int) (w : World) : (Op.equalIn 10000 42 (.agg #[.int .i64 a, .int .i64 b]) (.agg #[.int .i64 a', .int .i64 b'])).run Tryz.prog w = .ok (a == a' && b == b') w := by
  have u3 := Tryz.underlying3
  have a3 := Tryz.isAgg3
  have z3 := Tryz.sizeOf3
  have hS : Tryz.prog.underlying 42 = some (.struct (Tryz.prog.fieldsOf 42)) := by kernel_rfl
  have hp : Tryz.prog.stoodInHeld 42 = false := by kernel_rfl
  rw [show (10000 : Nat) = 9999 + 1 from rfl, run_equalIn_agg w 9999 42 _ _ hS hp]
  simp only [Program.fieldsOf, Tryz.underlying42]
  go_simp
  by_cases h1 : a = a' <;> by_cases h2 : b = b' <;> simp [h1, h2]

theorem sps_row {w : World} {B : Nat} {A : Option Addr} {ts : List (List Sp)} {t : Nat} {row : List Sp} (h : SpsAt w B A ts) (ht : ts[t]? = some row) : ∃ b o A' m c', A = some ⟨b, o, none⟩ ∧ b < B ∧ m = row.length ∧ w.cell? ⟨b, o + t, none⟩ = some (.slice A' m c') ∧ PrsAt w B A' row ∧ m ≤ maxLen := by
  obtain ⟨b, o, rfl, h1, h2⟩ := h (by intro e; rw [e] at ht; simp at ht)
  obtain ⟨A', c', e1, e2, e3, _⟩ := h2 t row ht
  exact ⟨b, o, A', _, c', rfl, h1, rfl, e1, e2, e3⟩
theorem prs_el {w : World} {B : Nat} {A : Option Addr} {row : List Sp} {i : Nat} {x : Sp} (h : PrsAt w B A row) (hx : row[i]? = some x) : ∃ b o, A = some ⟨b, o, none⟩ ∧ b < B ∧ w.cell? ⟨b, o + i * 2, none⟩ = some (.int .i64 x.1) ∧ w.cell? ⟨b, o + i * 2 + 1, none⟩ = some (.int .i64 x.2) := by
  obtain ⟨b, o, rfl, h1, h2⟩ := h (by intro e; rw [e] at hx; simp at hx)
  exact ⟨b, o, rfl, h1, by simpa using h2 i x hx 0 _ rfl, h2 i x hx 1 _ rfl⟩
set_option maxRecDepth 100000 in
set_option maxHeartbeats 2000000 in
theorem sameSpans_any (A A2 : Option Addr) (n m c c' : Nat) (xs ys : List (List Sp)) (w : World) (hl : xs.length = n) (hl2 : ys.length = m) (hn : n ≤ maxLen) (hn2 : m ≤ maxLen) (hX : SpsAt w w.heap.size A xs) (hY : SpsAt w w.heap.size A2 ys) :
    Calls Tryz.prog 29 #[.slice A n c, .slice A2 m c'] w fun e w' => e = .returned (.bool (decide (xs = ys))) ∧ Below w.heap.size w w' := by
  unfold maxLen at hn hn2
  have HL := Lib.hid hl; have HL2 := Lib.hid hl2
  clear hl hl2
  have hg : Tryz.prog.eqGuardType Tryz.prog.depth 42 = false := by kernel_rfl
  by_cases hnm : n = m
  · subst hnm
    have HX := Lib.hid hX; have HY := Lib.hid hY
    clear hX hY
    go_enter Tryz.func29, Tryz.ntmps29
    go_wp2
    go_loopw [5] (fun i wr => ∃ k : Nat, k ≤ n ∧ i = .int .i64 k ∧ xs.take k = ys.take k ∧ Below w.heap.size w wr) (fun i _ => n - (intOf i).toNat)
    case atStart => exact ⟨0, Nat.zero_le _, rfl, by simp, Below.refl _ _⟩
    case round =>
      obtain ⟨k, hk, rfl, hall, hbr⟩ := hrel
      have HA := Lib.hid hall; clear hall
      have hz := hbr.size
      by_cases hlt : k < n
      · obtain ⟨x, hx⟩ := get_of_lt (l := xs) (k := k) (by rw [HL.out]; exact hlt)
        obtain ⟨y, hy⟩ := get_of_lt (l := ys) (k := k) (by rw [HL2.out]; exact hlt)
        obtain ⟨b1, o1, A1, m1, c1, rfl, hb1, hm1, d1, p1, hm1x⟩ := sps_row HX.out hx
        obtain ⟨b2, o2, A3, m2, c2, rfl, hb2, hm2, d2, p2, hm2x⟩ := sps_row HY.out hy
        unfold maxLen at hm1x hm2x
        replace d1 := ((bcell hbr).1 _ _ hb1).trans d1
        replace d2 := ((bcell hbr).1 _ _ hb2).trans d2
        have KX := Lib.hid hx; have KY := Lib.hid hy
        have HP1 := Lib.hid p1; have HP2 := Lib.hid p2
        have HM1 := Lib.hid hm1; have HM2 := Lib.hid hm2
        have k0 : (0 : Int) ≤ (k : Int) := by omega
        have k1 : (k : Int) < (n : Int) := by omega
        clear hx hy p1 p2 hm1 hm2
        by_cases hmm : m1 = m2
        · subst hmm
          go_wp2
          go_quiet (fail)
          go_wp2
          have HBO := Lib.hid (belN hbr nq)
          have d1' : (wr.drewN nq).cell? ⟨b1, o1 + k, none⟩ = some (.slice A1 m1 c1) := d1
          have d2' : (wr.drewN nq).cell? ⟨b2, o2 + k, none⟩ = some (.slice A3 m1 c2) := d2
          have HD1 := Lib.hid d1; have HD2 := Lib.hid d2
          clear hbr hz d1 d2
          generalize wr.drewN nq = wo at *
          go_loopw [6] (fun i wq => ∃ j : Nat, j ≤ m1 ∧ i = .int .i64 j ∧ x.take j = y.take j ∧ Below wo.heap.size wo wq) (fun i _ => m1 - (intOf i).toNat)
          case atStart => exact ⟨0, Nat.zero_le _, rfl, by simp, Below.refl _ _⟩
          case round =>
            obtain ⟨j, hj, rfl, hallj, hbq⟩ := hrel
            have HAJ := Lib.hid hallj; clear hallj
            have hlt1 : b1 < wo.heap.size := by have := HBO.out.size; omega
            have hlt2 : b2 < wo.heap.size := by have := HBO.out.size; omega
            have f1 := ((bcell hbq).1 _ _ hlt1).trans d1'
            have f2 := ((bcell hbq).1 _ _ hlt2).trans d2'
            by_cases hjl : j < m1
            · obtain ⟨u, hu⟩ := get_of_lt (l := x) (k := j) (by rw [← HM1.out]; exact hjl)
              obtain ⟨v, hv⟩ := get_of_lt (l := y) (k := j) (by rw [← HM2.out]; exact hjl)
              obtain ⟨b3, o3, rfl, hb3, e1, e2⟩ := prs_el HP1.out hu
              obtain ⟨b4, o4, rfl, hb4, e3, e4⟩ := prs_el HP2.out hv
              have hwq := HBO.out.trans (hbq.mono HBO.out.size)
              replace e1 := ((bcell hwq).1 _ _ hb3).trans e1
              replace e2 := ((bcell hwq).1 _ _ hb3).trans e2
              replace e3 := ((bcell hwq).1 _ _ hb4).trans e3
              replace e4 := ((bcell hwq).1 _ _ hb4).trans e4
              have KU := Lib.hid hu; have KV := Lib.hid hv
              have j0 : (0 : Int) ≤ (j : Int) := by omega
              have j1 : (j : Int) < (m1 : Int) := by omega
              have q42 := eq42 u.1 u.2 v.1 v.2
              have HB3 := Lib.hid (hbq)
              clear hu hv hwq
              by_cases huv : u = v
              · subst huv
                have q42' : ∀ W : World, (Op.equalIn 10000 42 (.agg #[.int .i64 u.1, .int .i64 u.2]) (.agg #[.int .i64 u.1, .int .i64 u.2])).run Tryz.prog W = .ok true W := fun W => by rw [eq42]; simp
                clear q42
                go_wp2
                go_quiet (fail)
                go_wp2
                go_roundw
                case rel => exact ⟨j + 1, by omega, by go_num, take_eq_succ KU.out KV.out HAJ.out, belN HB3.out nq⟩
                case measure => simp [intOf]; omega
              · have HNE := Lib.hid huv
                have q42' : ∀ W : World, (Op.equalIn 10000 42 (.agg #[.int .i64 u.1, .int .i64 u.2]) (.agg #[.int .i64 v.1, .int .i64 v.2])).run Tryz.prog W = .ok false W := fun W => by
                  rw [eq42]
                  have : (u.1 == v.1 && u.2 == v.2) = false := by
                    rw [Bool.and_eq_false_iff]
                    by_cases h1 : u.1 = v.1
                    · right
                      exact beq_eq_false_iff_ne.2 fun h2 => HNE.out (Prod.ext h1 h2)
                    · left
                      exact beq_eq_false_iff_ne.2 h1
                  rw [this]
                clear q42 huv
                go_wp2
                go_quiet (fail)
                go_wp2
                go_ret
                exact ⟨ret_bool (by simp [list_ne_of_get KX.out KY.out (list_ne_of_get KU.out KV.out HNE.out)]), HBO.out.trans ((belN HB3.out nq).mono HBO.out.size)⟩
            · have hje : j = m1 := by omega
              have HJE := Lib.hid hje
              have j1 : ¬ (j : Int) < (m1 : Int) := by omega
              have HB3 := Lib.hid hbq
              have hxy : x = y := take_all_eq (by rw [HM1.out] at hje; exact hje.symm) (by rw [HM2.out] at hje; exact hje.symm) HAJ.out
              have HXY := Lib.hid hxy
              clear hje hxy
              go_wp2
              go_roundw
              case rel => exact ⟨k + 1, by omega, by go_num, take_eq_succ KX.out (by rw [HXY.out]; exact KY.out) HA.out, HBO.out.trans (HB3.out.mono HBO.out.size)⟩
              case measure => simp [intOf]; omega
        · have HNE := Lib.hid hmm
          have hne : (m1 == m2) = false := beq_eq_false_iff_ne.2 hmm
          have hnei : ((m1 : Int) == (m2 : Int)) = false := beq_eq_false_iff_ne.2 (by omega)
          go_wp2
          go_quiet (fail)
          go_wp2
          go_ret
          exact ⟨ret_bool (by simp [list_ne_of_get KX.out KY.out (fun h => HNE.out (by rw [HM1.out, HM2.out, h]))]), belN hbr _⟩
      · have hkn : k = n := by omega
        have HKN := Lib.hid hkn
        clear hkn
        go_wp2
        go_ret
        exact ⟨ret_bool (by simp [take_all_eq (HL.out.trans HKN.out.symm) (HL2.out.trans HKN.out.symm) HA.out]), hbr⟩
  · have hne : xs ≠ ys := fun h => hnm (by rw [← HL.out, ← HL2.out, h])
    have HNE := Lib.hid hne
    clear hne
    go_enter Tryz.func29, Tryz.ntmps29
    go_wp2
    go_ret
    exact ⟨ret_bool (by simp [HNE.out]), Below.refl _ _⟩
end Go.Proofs.YtdlaphlpimlgdaaGreatDoor
/- The site of the examples; its thaws. -/
namespace Go.Proofs.YtdlaphlpimlgdaaGreatDoor
open Go.RowKit

theorem flat_get {α : Type} {k : Nat} {R : α → List Value} (hk : ∀ x, (R x).length = k) : ∀ (xs : List α) (i : Nat) (x : α) (j : Nat), xs[i]? = some x → j < k → ((xs.map R).flatten)[i * k + j]? = (R x)[j]?
  | [], i, x, j, h, _ => by simp at h
  | a :: xs, 0, x, j, h, hj => by
    simp at h
    subst h
    rw [List.map_cons, List.flatten_cons, Nat.zero_mul, Nat.zero_add, List.getElem?_append_left (by rw [hk]; exact hj)]
  | a :: xs, i + 1, x, j, h, hj => by
    rw [List.getElem?_cons_succ] at h
    rw [List.map_cons, List.flatten_cons, List.getElem?_append_right (by rw [hk, Nat.succ_mul]; omega), hk, show (i + 1) * k + j - k = i * k + j by rw [Nat.succ_mul]; omega]
    exact flat_get hk xs i x j h hj
theorem rowAt_block {α : Type} {k : Nat} {R : α → List Value} {w : World} {B b : Nat} {T : TypeId} {xs : List α} (hk : ∀ x, (R x).length = k) (h : w.heap[b]? = some (.cells ((xs.map R).flatten).toArray T (0, 0))) (hb : b < B) : RowAt k R w B (some ⟨b, 0, none⟩) xs := fun _ => by
  refine ⟨b, 0, rfl, hb, fun i x hx j v hv => ?_⟩
  have hj : j < k := by rw [← hk x]; exact (List.getElem?_eq_some_iff.1 hv).1
  rw [Nat.zero_add, cell_of_row w b _ _ T (0, 0) h, List.getElem?_toArray, flat_get hk xs i x j hx hj, hv]
theorem four_new2 (w : World) (o0 o1 o2 o3 : Obj) : ((((w.alloc o0).alloc o1).alloc o2).alloc o3).heap[w.heap.size]? = some o0 ∧ ((((w.alloc o0).alloc o1).alloc o2).alloc o3).heap[w.heap.size + 1]? = some o1 ∧ ((((w.alloc o0).alloc o1).alloc o2).alloc o3).heap[w.heap.size + 1 + 1]? = some o2 ∧ ((((w.alloc o0).alloc o1).alloc o2).alloc o3).heap[w.heap.size + 1 + 1 + 1]? = some o3 ∧ Below w.heap.size w ((((w.alloc o0).alloc o1).alloc o2).alloc o3) := four_new w o0 o1 o2 o3
set_option maxRecDepth 100000 in
set_option maxHeartbeats 2000000 in
theorem Site_any (w : World) :
    Calls Tryz.prog 62 #[] w fun e w' => ∃ bP bQ bR, e = .returned (.agg #[.slice (some ⟨bP, 0, none⟩) 2 2, .slice (some ⟨bQ, 0, none⟩) 1 1, .slice (some ⟨bR, 0, none⟩) 3 3, .int .i64 200, .int .i64 25, .int .i64 10]) ∧ PilsAt w' w'.heap.size (some ⟨bP, 0, none⟩) exPs ∧ PrsAt w' w'.heap.size (some ⟨bQ, 0, none⟩) [(0, 1)] ∧ RwsAt w' w'.heap.size (some ⟨bR, 0, none⟩) exRs ∧ Below w.heap.size w w' := by
  go_enter Tryz.func62, Tryz.ntmps62
  go_wp2_with fail
  obtain ⟨z0, z1, z2, z3, hb⟩ := four_new w (.cells #[.slice (some ⟨w.heap.size + 1, 0, none⟩) 2 2, .slice (some ⟨w.heap.size + 1 + 1, 0, none⟩) 1 1, .slice (some ⟨w.heap.size + 1 + 1 + 1, 0, none⟩) 3 3, .int .i64 200, .int .i64 25, .int .i64 10] 26)
    (.cells #[.int .i64 8000, .int .i64 20, .int .i64 30, .int .i64 100, .int .i64 120, .int .i64 230, .int .i64 5, .int .i64 10000, .int .i64 0, .int .i64 40, .int .i64 100, .int .i64 100, .int .i64 360, .int .i64 5] 45)
    (.cells #[.int .i64 0, .int .i64 1] 74) (.cells #[.int .i64 500, .int .i64 2, .int .i64 4, .int .i64 700, .int .i64 5, .int .i64 9, .int .i64 900, .int .i64 10, .int .i64 20] 119)
  obtain ⟨p0, p1, p2, p3, p4, p5⟩ := site_box z0
  exact bodyPost_ret (v := .agg #[.slice (some ⟨w.heap.size + 1, 0, none⟩) 2 2, .slice (some ⟨w.heap.size + 1 + 1, 0, none⟩) 1 1, .slice (some ⟨w.heap.size + 1 + 1 + 1, 0, none⟩) 3 3, .int .i64 200, .int .i64 25, .int .i64 10])
    (by simp [results, Tryz.results62, go_sem, p0, p1, p2, p3, p4, p5]) rfl
    ⟨_, _, _, rfl, rowAt_block (k := 7) (fun _ => rfl) z1 (heapsz z1), rowAt_block (k := 2) (xs := [((0 : Int), (1 : Int))]) (fun _ => rfl) z2 (heapsz z2), rowAt_block (k := 3) (xs := exRs) (fun _ => rfl) z3 (heapsz z3), hb⟩
end Go.Proofs.YtdlaphlpimlgdaaGreatDoor
/- The thaws of the examples. -/
namespace Go.Proofs.YtdlaphlpimlgdaaGreatDoor
open Go.RowKit

structure SpbI (w : World) (LL : List (List Sp)) (t : Nat) (lv : Value) (rows : List Value) (wr : World) : Prop where
  bel : Below w.heap.size w wr
  own : wr.ownsRow w.heap.size 40 1 lv t rows
  rws : RowsS w.heap.size rows LL wr
theorem SpbI.below {w wr wq : World} {t : Nat} {LL : List (List Sp)} {lv : Value} {rows : List Value} (h : SpbI w LL t lv rows wr) (hb : Below wr.heap.size wr wq) : SpbI w LL t lv rows wq :=
  ⟨h.bel.trans (hb.mono h.bel.size), Go.Proofs.YtdlaphlpimlgdaaGreatDoor.own_next h.own hb, ⟨h.rws.1, fun j row hj => by
    obtain ⟨b, c, h1, h2, h3, cs, h4, h5⟩ := h.rws.2 j row hj
    exact ⟨b, c, h1, h2, h3, cs, (hb.block _ (Array.getElem?_eq_some_iff.1 h4).1).trans h4, h5⟩⟩⟩
theorem SpbI.append {w wr wq : World} {t g c' : Nat} {row : List Sp} {LL : List (List Sp)} {lv v' : Value} {rows : List Value} {o : Obj} {cs : Array Value} (h : SpbI w LL t lv rows wr)
    (e1 : w.heap.size ≤ g) (e2 : row.length ≤ c') (e3 : wr.heap[g]? = some (.cells cs 42 (0, 0))) (e4 : ∀ (i : Nat) (x : Value), (prF row)[i]? = some x → cs[i]? = some x)
    (ho : wq.ownsRow w.heap.size 40 1 v' (t + 1) (rows ++ [.slice (some ⟨g, 0, none⟩) row.length c'])) (hq : (wr.alloc o).grownBy wq lv.ownBlock) :
    SpbI w (LL ++ [row]) (t + 1) v' (rows ++ [.slice (some ⟨g, 0, none⟩) row.length c']) wq := by
  have hb0 := (Below.refl wr.heap.size wr).alloc (Nat.le_refl _) o
  have hk : ∀ b x, wr.heap[b]? = some x → some b ≠ lv.ownBlock → wq.heap[b]? = some x := fun b x hx hne => by
    have hlt := (Array.getElem?_eq_some_iff.1 hx).1
    exact (hq.block b (by simp; omega) hne).trans ((hb0.block b hlt).trans hx)
  refine ⟨(h.bel.trans (hb0.mono h.bel.size)).grown hq (Nat.le_trans h.bel.size hb0.size) (fun B hB => by have := (own_at h.own hB).1; omega), ho, ⟨by rw [List.length_append, List.length_append, h.rws.1]; rfl, fun j r hj => ?_⟩⟩
  by_cases hjl : j < LL.length
  · rw [List.getElem?_append_left hjl] at hj
    obtain ⟨b, c, h1, h2, h3, cs, h4, h5⟩ := h.rws.2 j r hj
    exact ⟨b, c, by rw [List.getElem?_append_left (by rw [h.rws.1]; exact hjl)]; exact h1, h2, h3, cs, hk _ _ h4 (own_ne h.own h4 (.inr (fun _ e => by injection e with _ e; cases e))), h5⟩
  · have : j = LL.length := by
      have := (List.getElem?_eq_some_iff.1 hj).1
      simp at this
      omega
    subst this
    rw [List.getElem?_append_right (Nat.le_refl _), Nat.sub_self] at hj
    simp at hj
    subst hj
    exact ⟨g, c', by rw [← h.rws.1, List.getElem?_append_right (Nat.le_refl _), Nat.sub_self]; rfl, by omega, e2, cs, hk _ _ e3 (own_ne h.own e3 (.inr (fun _ e => by injection e with _ e; cases e))), e4⟩
/-- What was made, as rows of spans. -/
theorem SpbI.sps {w wr : World} {t : Nat} {LL : List (List Sp)} {lv : Value} {rows : List Value} (h : SpbI w LL t lv rows wr) (hl : LL.length = t) (h10 : ∀ row ∈ LL, row.length ≤ maxLen) :
    ∃ A3 c3, lv = .slice A3 t c3 ∧ SpsAt wr wr.heap.size A3 LL ∧ t ≤ c3 ∧ Below w.heap.size w wr := by
  rcases h.own.2 with ⟨rfl, rfl⟩ | ⟨g, cap, cur, rfl, h2, h3, h4, h5, h6, h7⟩
  · refine ⟨none, 0, rfl, fun hne => ?_, Nat.le_refl _, h.bel⟩
    cases LL with
    | nil => exact absurd rfl hne
    | cons a l => simp at hl
  · refine ⟨_, cap, rfl, fun _ => ⟨g, 0, rfl, (Array.getElem?_eq_some_iff.1 h3).1, fun i x hx => ?_⟩, h4, h.bel⟩
    obtain ⟨b, c, e1, e2, e3, cs, e4, e5⟩ := h.rws.2 i x hx
    refine ⟨some ⟨b, 0, none⟩, c, ?_, fun _ => ⟨b, 0, rfl, (Array.getElem?_eq_some_iff.1 e4).1, fun k y hy j v hv => ?_⟩, h10 x (List.mem_of_getElem? hx), e3⟩
    · rw [Nat.zero_add, cell_of_row wr g i _ 40 (0, 0) h3]
      rw [← h7, List.getElem?_take] at e1
      split at e1
      · simpa using e1
      · simp at e1
    · obtain ⟨p1, p2⟩ := prF_at hy
      rw [Nat.zero_add]
      match j, hv with
      | 0, hv => simp [prR] at hv; subst hv; rw [Nat.add_zero, cell_of_row wr b _ _ 42 (0, 0) e4]; exact e5 _ _ p1
      | 1, hv => simp [prR] at hv; subst hv; rw [cell_of_row wr b _ _ 42 (0, 0) e4]; exact e5 _ _ p2
      | j + 2, hv => simp [prR] at hv

def thR : List Sp := [(1000, 2000), (1000, 2000)]
set_option maxRecDepth 100000 in
set_option maxHeartbeats 2000000 in
theorem Thaws_any (n : Nat) (hn : n ≤ 20) (w : World) :
    Calls Tryz.prog 63 #[.int .i64 n] w fun e w' => ∃ A c, e = .returned (.slice A n c) ∧ n ≤ c ∧ SpsAt w' w'.heap.size A (List.replicate n thR) ∧ Below w.heap.size w w' := by
  obtain ⟨j0, hj0, jz0, jz1, jz2⟩ := info_parts spans_info
  have h0 : SpbI w [] 0 (.slice none 0 0) [] w := ⟨Below.refl _ _, World.ownsRow_nil _ _ _ _, ⟨rfl, fun j r hj => by simp at hj⟩⟩
  have H0 := Lib.hid h0
  clear h0
  go_enter Tryz.func63, Tryz.ntmps63
  go_wp2
  go_loopw [3, 4] (fun v i wr => ∃ (k : Nat) (rows : List Value), k ≤ n ∧ i = .int .i64 k ∧ SpbI w (List.replicate k thR) k v rows wr) (fun _ i _ => n - (intOf i).toNat)
  case atStart => exact ⟨0, [], Nat.zero_le _, rfl, H0.out⟩
  case round =>
    obtain ⟨k, rows, hk, rfl, hI⟩ := hrel
    have HI := Lib.hid hI
    clear hI H0
    by_cases hlt : k < n
    · have zr := heap_alloc_new wr (.cells #[.int .i64 1000, .int .i64 2000, .int .i64 1000, .int .i64 2000] 42)
      have hbr := (Below.refl wr.heap.size wr).alloc (Nat.le_refl _) (.cells #[.int .i64 1000, .int .i64 2000, .int .i64 1000, .int .i64 2000] 42)
      have ZR := Lib.hid zr; have HBR := Lib.hid hbr
      have HI2 := Lib.hid (HI.out.below hbr)
      have HLE : Hid (w.heap.size ≤ wr.heap.size) := Lib.hid HI.out.bel.size
      clear zr hbr
      go_wp2_with (first
        | (at_builtin
           refine wpList_append_own _ rfl _ _ 27 rfl w.heap.size 40 j0 _ 1 24 Tryz.underlying27 hj0 jz0 jz1 jz2 rfl (by decide) _ _ _ rfl (Go.Proofs.YtdlaphlpimlgdaaGreatDoor.own_next HI2.out.own ((Below.refl _ _).alloc (Nat.le_refl _) (.cells #[.slice (some ⟨wr.heap.size, 0, none⟩) 2 2] 40))) ⟨wr.heap.size + 1, 0, none⟩ 1 1 [.slice (some ⟨wr.heap.size, 0, none⟩) 2 2] rfl rfl (by simpa using cell_one_new (wr.alloc (.cells #[.int .i64 1000, .int .i64 2000, .int .i64 1000, .int .i64 2000] 42)) (.slice (some ⟨wr.heap.size, 0, none⟩) 2 2) 40) (by simp [Value.oneCell']) (by unfold maxLen; omega) (by omega) (by have := HLE.out; simp; omega) ?_
           intro v' w4 hown4 hgrow4 _)
        | fail)
      have hA := HI2.out.append (row := thR) (g := wr.heap.size) (c' := 2) HLE.out (by decide) ZR.out (fun i x hx => by simpa [prF, prR, thR] using hx) hown4 hgrow4
      refine ⟨⟨k + 1, rows ++ [.slice (some ⟨wr.heap.size, 0, none⟩) 2 2], by omega, by go_num, ?_⟩, by simp [intOf]; omega⟩
      rw [List.replicate_succ']
      exact hA
    · have hkn : k = n := by omega
      subst hkn
      go_wp2
      go_ret
      obtain ⟨A3, c3, rfl, h1, h2, h3⟩ := HI.out.sps (by simp) (fun row hr => by rw [List.eq_of_mem_replicate hr]; decide)
      exact ⟨A3, c3, rfl, h2, h1, h3⟩
end Go.Proofs.YtdlaphlpimlgdaaGreatDoor
