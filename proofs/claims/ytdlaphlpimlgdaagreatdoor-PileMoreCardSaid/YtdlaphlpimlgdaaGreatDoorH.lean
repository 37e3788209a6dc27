/- Contracts on cures: the code's cureFine and Ready, the statement's New. A cure's rows are pairs (week, part). -/
import Derived.Test.YtdlaphlpimlgdaaGreatDoorC
import Derived.Deep.WholeRow
namespace Go.Proofs.YtdlaphlpimlgdaaGreatDoor
open Go.RowKit

/-- A row behind another one. -/
def cuB (y x : Int × Int) : Bool := inB (y.1 + 1) x.1 100 && inB y.2 x.2 1000
def cuGo (y : Int × Int) : List (Int × Int) → Bool
  | [] => true
  | x :: xs => cuB y x && cuGo x xs
def cureB (xs : List (Int × Int)) : Bool := inB 1 (xs.length : Int) 6 && cuGo (-1, 0) xs
/-- The last one of the first k rows. -/
def cuBefore (xs : List (Int × Int)) (k : Nat) : Int × Int := if k = 0 then (-1, 0) else xs.getD (k - 1) (-1, 0)
theorem cuGo_iff : ∀ {xs : List (Int × Int)} {y : Int × Int}, cuGo y xs = true ↔ ∀ k x, xs[k]? = some x → cuB (if k = 0 then y else xs.getD (k - 1) (-1, 0)) x = true
  | [], y => by simp [cuGo]
  | z :: xs, y => by
    rw [cuGo, Bool.and_eq_true, cuGo_iff (xs := xs) (y := z)]
    constructor
    · rintro ⟨h1, h2⟩ k x hk
      cases k with
      | zero => simp at hk; subst hk; simpa using h1
      | succ k =>
        have := h2 k x (by simpa using hk)
        cases k with
        | zero => simpa using this
        | succ k => simpa using this
    · intro h
      refine ⟨by simpa using h 0 z rfl, fun k x hk => ?_⟩
      have := h (k + 1) x (by simpa using hk)
      cases k with
      | zero => simpa using this
      | succ k => simpa using this
theorem cuBefore_succ {xs : List (Int × Int)} {j : Nat} {x : Int × Int} (h : xs[j]? = some x) : cuBefore xs (j + 1) = x := by
  simp [cuBefore, List.getD, h]
theorem cu_bd {xs : List (Int × Int)} {k : Nat} (hk : k ≤ xs.length) (h : ∀ j x, j < k → xs[j]? = some x → cuB (cuBefore xs j) x = true) : ∀ j, j ≤ k → -1 ≤ (cuBefore xs j).1 ∧ (cuBefore xs j).1 ≤ 100
  | 0, _ => ⟨by show (-1 : Int) ≤ -1; decide, by show (-1 : Int) ≤ 100; decide⟩
  | j + 1, hj => by
    have ih := cu_bd hk h j (by omega)
    have hx : xs[j]? = some xs[j] := List.getElem?_eq_getElem (by omega)
    have h2 := h j _ (by omega) hx
    rw [cuBefore_succ hx]
    unfold cuB at h2
    simp only [Bool.and_eq_true, inB_iff] at h2
    omega
theorem cuGo_no {xs : List (Int × Int)} {k : Nat} {x : Int × Int} (hx : xs[k]? = some x) (h : cuB (cuBefore xs k) x = false) : cuGo (-1, 0) xs = false := by
  cases hg : cuGo (-1, 0) xs with
  | false => rfl
  | true =>
    have := cuGo_iff.1 hg k x hx
    rw [show (if k = 0 then ((-1, 0) : Int × Int) else xs.getD (k - 1) (-1, 0)) = cuBefore xs k from rfl, h] at this
    exact absurd this (by decide)
set_option maxRecDepth 100000 in
set_option maxHeartbeats 2000000 in
theorem cureFine_any (A : Option Addr) (n c : Nat) (xs : List (Int × Int)) (w : World) (hl : xs.length = n) (hn : n ≤ maxLen) (hA : PrsAt w w.heap.size A xs) :
    Calls Tryz.prog 92 #[.slice A n c] w fun e w' => e = .returned (.bool (cureB xs)) ∧ Below w.heap.size w w' := by
  unfold maxLen at hn
  have HL := Lib.hid hl
  have HP : Hid (cureB xs = (inB 1 (n : Int) 6 && cuGo (-1, 0) xs)) := Lib.hid (by rw [← hl]; rfl)
  clear hl
  cases h1 : inB 1 (n : Int) 6 with
  | false =>
    go_enter Tryz.func92, Tryz.ntmps92
    go_wp2_with (first
      | (go_at_call 67; refine (from_any _ _ _ _).mono ?_; rintro e w' ⟨rfl, rfl⟩)
      | fail)
    go_ret
    exact ⟨by rw [HP.out, h1]; rfl, Below.refl _ _⟩
  | true =>
    obtain ⟨g1, g2⟩ := inB_iff.1 h1
    go_enter Tryz.func92, Tryz.ntmps92
    go_wp2_with (first
      | (go_at_call 67; refine (from_any _ _ _ _).mono ?_; rintro e w' ⟨rfl, rfl⟩)
      | fail)
    have z1 := heap_alloc_new w (.cells #[.int .i64 (-1), .int .i64 0] 108)
    have hb1 := (Below.refl w.heap.size w).alloc (Nat.le_refl _) (.cells #[.int .i64 (-1), .int .i64 0] 108)
    go_loopw [13] (fun i wr => ∃ k : Nat, k ≤ n ∧ i = .int .i64 k ∧ (∀ j x, j < k → xs[j]? = some x → cuB (cuBefore xs j) x = true) ∧ Below w.heap.size w wr ∧ wr.heap[w.heap.size]? = some (.cells #[.int .i64 (cuBefore xs k).1, .int .i64 (cuBefore xs k).2] 108 (0, 0))) (fun i _ => n - (intOf i).toNat)
    case atStart => exact ⟨0, Nat.zero_le _, rfl, fun j x hj => absurd hj (Nat.not_lt_zero _), hb1, z1⟩
    case round =>
      obtain ⟨k, hk, rfl, hall, hbr, hz⟩ := hrel
      have HALL := Lib.hid hall; have HBR := Lib.hid hbr; have HZ := Lib.hid hz
      have hbd := cu_bd (by rw [HL.out]; exact hk) hall k (Nat.le_refl _)
      clear hall
      by_cases hlt : k < n
      · obtain ⟨x, hx⟩ := get_of_lt (l := xs) (k := k) (by rw [HL.out]; exact hlt)
        obtain ⟨b, o, rfl, hb, hcs⟩ := pr_cells hA (by intro h; rw [h] at hx; simp at hx)
        obtain ⟨c0, c1⟩ := hcs k x hx
        replace c0 := ((bcell hbr).1 _ _ hb).trans c0
        replace c1 := ((bcell hbr).1 _ _ hb).trans c1
        have HX := Lib.hid hx
        obtain ⟨U, hU⟩ : ∃ z, (cuBefore xs k).1 = z := ⟨_, rfl⟩
        obtain ⟨L, hL⟩ : ∃ z, (cuBefore xs k).2 = z := ⟨_, rfl⟩
        obtain ⟨u, lo⟩ := x
        have hbx : Hid (cuB (cuBefore xs k) (u, lo) = (inB (U + 1) u 100 && inB L lo 1000)) := Lib.hid (by rw [← hU, ← hL]; rfl)
        rw [hU, hL] at hz
        rw [hU] at hbd
        simp only at c0 c1
        obtain ⟨wB, hwB⟩ : ∃ z, wr.alloc (.cells #[.int .i64 u, .int .i64 lo] 108) = z := ⟨_, rfl⟩
        have zB := heap_alloc_new wr (.cells #[.int .i64 u, .int .i64 lo] 108)
        have hbB : Below wr.heap.size wr wB := by rw [← hwB]; exact (Below.refl _ _).alloc (Nat.le_refl _) _
        rw [hwB] at zB
        have HBB := Lib.hid (HBR.out.trans (hbB.mono HBR.out.size))
        have hzB := (hbB.block _ (Array.getElem?_eq_some_iff.1 hz).1).trans hz
        have ltw := (Array.getElem?_eq_some_iff.1 hz).1
        have p0 := cell_of_row wB w.heap.size 0 _ 108 (0, 0) hzB
        have p1 := cell_of_row wB w.heap.size 1 _ 108 (0, 0) hzB
        have r0 := cell_of_row wB wr.heap.size 0 _ 108 (0, 0) zB
        have r1 := cell_of_row wB wr.heap.size 1 _ 108 (0, 0) zB
        simp at p0 p1 r0 r1
        have f0 : wB.frozen? ⟨w.heap.size, 0, none⟩ = false := by simp [World.frozen?, hzB]
        have f1 : wB.frozen? ⟨w.heap.size, 1, none⟩ = false := by simp [World.frozen?, hzB]
        have hk0 : (0 : Int) ≤ (k : Int) := by omega
        have hk1 : (k : Int) < (n : Int) := by omega
        have hu1 : Value.int .i64 (wrap64 (U + 1)) = Value.int .i64 (U + 1) := by congr 1; exact w64 (by omega)
        have HZB := Lib.hid hzB
        clear hx hcs hbr hU hL hz hzB zB hbB
        cases q1 : inB (U + 1) u 100 with
        | false =>
          go_wp2_with (first
            | (go_at_call 67; refine (from_any _ _ _ _).mono ?_; rintro e w' ⟨rfl, rfl⟩)
            | fail)
          go_ret
          exact ⟨by rw [HP.out, h1, cuGo_no HX.out (by rw [hbx.out, q1]; rfl)]; rfl, HBB.out⟩
        | true =>
          cases q2 : inB L lo 1000 with
          | false =>
            go_wp2_with (first
              | (go_at_call 67; refine (from_any _ _ _ _).mono ?_; rintro e w' ⟨rfl, rfl⟩)
              | fail)
            go_ret
            exact ⟨by rw [HP.out, h1, cuGo_no HX.out (by rw [hbx.out, q1, q2]; rfl)]; rfl, HBB.out⟩
          | true =>
            have Q3 := Lib.hid (show cuB (cuBefore xs k) (u, lo) = true by rw [hbx.out, q1, q2]; rfl)
            go_wp2_with (first
              | (go_at_call 67; refine (from_any _ _ _ _).mono ?_; rintro e w' ⟨rfl, rfl⟩)
              | fail)
            refine ⟨⟨k + 1, by omega, by go_num, fun j x hj hx => ?_, (HBB.out.setCell (p := ⟨w.heap.size, 0, none⟩) (Nat.le_refl _) _).setCell (p := ⟨w.heap.size, 1, none⟩) (Nat.le_refl _) _, ?_⟩, by simp [intOf]; omega⟩
            · by_cases hjk : j < k
              · exact HALL.out j x hjk hx
              · have : j = k := by omega
                subst this
                have := HX.out
                rw [hx] at this
                cases this
                exact Q3.out
            · rw [cuBefore_succ HX.out]
              exact blk_set (blk_set HZB.out 0 _) 1 _
      · have hke : k = n := by omega
        have hk1 : ¬ (k : Int) < (n : Int) := by omega
        clear hbr hz hbd
        go_wp2_with fail
        go_ret
        refine ⟨?_, HBR.out⟩
        have : cuGo (-1, 0) xs = true := cuGo_iff.2 fun j x hj => HALL.out j x (by have := (List.getElem?_eq_some_iff.1 hj).1; rw [HL.out] at this; omega) hj
        rw [HP.out, h1, this]
        rfl
end Go.Proofs.YtdlaphlpimlgdaaGreatDoor
/- Contracts on cures: the statement's New, the code's Ready. -/
namespace Go.Proofs.YtdlaphlpimlgdaaGreatDoor
open Go.RowKit

theorem heapsz {w : World} {B : Nat} {cs : Array Value} {t : TypeId} (h : w.heap[B]? = some (.cells cs t (0, 0))) : B < w.heap.size := (Array.getElem?_eq_some_iff.1 h).1
/-- The part of the last row that has begun in a week. -/
def partI (xs : List (Int × Int)) (wk : Int) : Int := xs.foldl (fun a x => if x.1 ≤ wk then x.2 else a) 0
theorem partI_take {xs : List (Int × Int)} {k : Nat} {x : Int × Int} (wk : Int) (hx : xs[k]? = some x) : partI (xs.take (k + 1)) wk = if x.1 ≤ wk then x.2 else partI (xs.take k) wk := by
  unfold partI
  rw [List.take_add_one, List.foldl_append, hx]
  rfl
theorem cure_row {xs : List (Int × Int)} (h : cuGo (-1, 0) xs = true) : ∀ k x, xs[k]? = some x → cuB (cuBefore xs k) x = true := fun k x hx => cuGo_iff.1 h k x hx
theorem cure_part {xs : List (Int × Int)} (h : cuGo (-1, 0) xs = true) : ∀ k, k ≤ xs.length → 0 ≤ (cuBefore xs k).2 ∧ (cuBefore xs k).2 ≤ 1000
  | 0, _ => ⟨by show (0 : Int) ≤ 0; decide, by show (0 : Int) ≤ 1000; decide⟩
  | k + 1, hk => by
    have ih := cure_part h k (by omega)
    have hx : xs[k]? = some xs[k] := List.getElem?_eq_getElem (by omega)
    have h2 := cure_row h k _ hx
    rw [cuBefore_succ hx]
    unfold cuB at h2
    simp only [Bool.and_eq_true, inB_iff] at h2
    omega
theorem cure_bd {xs : List (Int × Int)} (h : cuGo (-1, 0) xs = true) {k : Nat} {x : Int × Int} (hx : xs[k]? = some x) : (0 ≤ x.1 ∧ x.1 ≤ 100) ∧ 0 ≤ x.2 ∧ x.2 ≤ 1000 := by
  have h2 := cure_row h k x hx
  have h3 := cure_part h k (by have := (List.getElem?_eq_some_iff.1 hx).1; omega)
  have h4 := (cu_bd (xs := xs) (k := k) (by have := (List.getElem?_eq_some_iff.1 hx).1; omega) (fun j y _ hy => cure_row h j y hy) k (Nat.le_refl _)).1
  unfold cuB at h2
  simp only [Bool.and_eq_true, inB_iff] at h2
  omega
theorem partI_bd {xs : List (Int × Int)} (wk : Int) (h : cuGo (-1, 0) xs = true) : ∀ k, k ≤ xs.length → 0 ≤ partI (xs.take k) wk ∧ partI (xs.take k) wk ≤ 1000
  | 0, _ => ⟨by show (0 : Int) ≤ 0; decide, by show (0 : Int) ≤ 1000; decide⟩
  | k + 1, hk => by
    have ih := partI_bd wk h k (by omega)
    have hx : xs[k]? = some xs[k] := List.getElem?_eq_getElem (by omega)
    have := cure_bd h hx
    rw [partI_take wk hx]
    split <;> omega
def newI (p : Pil) (t : Int) (xs : List (Int × Int)) (wk : Int) : Int := carI p t * partI xs wk / 1000
theorem new_wrap {a b : Int} (h1 : 0 ≤ a ∧ a ≤ 600000) (h2 : 0 ≤ b ∧ b ≤ 1000) : wrap64 ((wrap64 (a * b)).tdiv 1000) = a * b / 1000 := by
  have a0 : 0 ≤ a * b := Int.mul_nonneg h1.1 h2.1
  have a1 : a * b ≤ 600000 * 1000 := Int.mul_le_mul h1.2 h2.2 h2.1 (by decide)
  rw [w64 (n := a * b) (by omega), Int.tdiv_eq_ediv_of_nonneg a0, w64 (by omega)]
set_option maxRecDepth 100000 in
set_option maxHeartbeats 2000000 in
theorem refNew_any (p : Pil) (t : Int) (A : Option Addr) (n c : Nat) (xs : List (Int × Int)) (wk : Int) (w : World) (hp : pilB p = true) (t0 : 0 ≤ t) (t1 : t ≤ 50000)
    (hl : xs.length = n) (hn : n ≤ maxLen) (hA : PrsAt w w.heap.size A xs) (hx : cuGo (-1, 0) xs = true) :
    Calls Tryz.prog 53 #[pilV p, .int .i64 t, .slice A n c, .int .i64 wk] w fun e w' => e = .returned (.int .i64 (newI p t xs wk)) ∧ Below w.heap.size w w' := by
  unfold maxLen at hn
  have HL := Lib.hid hl
  have HX := Lib.hid hx
  have HPB := Lib.hid hp
  have hb0 := (Below.refl w.heap.size w).alloc (Nat.le_refl _) (.cells #[.int .i64 p.d, .int .i64 p.p, .int .i64 p.s, .int .i64 p.l, .int .i64 p.h, .int .i64 p.g, .int .i64 p.c] 45)
  have z0 := heap_alloc_new w (.cells #[.int .i64 p.d, .int .i64 p.p, .int .i64 p.s, .int .i64 p.l, .int .i64 p.h, .int .i64 p.g, .int .i64 p.c] 45)
  have hc := carI_b hp t0
  have HC := Lib.hid hc
  obtain ⟨d, pp, s, l, h, g, co⟩ := p
  have HT := Lib.hid (And.intro t0 t1)
  simp only at hb0 z0
  clear hl hx hp hc t0 t1
  go_enter Tryz.func53, Tryz.ntmps53
  go_wp2_with fail
  go_loopw [9, 10] (fun a i wr => ∃ k : Nat, k ≤ n ∧ i = .int .i64 k ∧ a = .int .i64 (partI (xs.take k) wk) ∧ Below w.heap.size w wr ∧ wr.heap[w.heap.size]? = some (.cells #[.int .i64 d, .int .i64 pp, .int .i64 s, .int .i64 l, .int .i64 h, .int .i64 g, .int .i64 co] 45 (0, 0))) (fun _ i _ => n - (intOf i).toNat)
  case atStart => exact ⟨0, Nat.zero_le _, rfl, rfl, hb0, z0⟩
  case round =>
    obtain ⟨k, hk, rfl, rfl, hbr, hz⟩ := hrel
    have HBR := Lib.hid hbr; have HZ := Lib.hid hz
    by_cases hlt : k < n
    · obtain ⟨x, hx⟩ := get_of_lt (l := xs) (k := k) (by rw [HL.out]; exact hlt)
      obtain ⟨b, o, rfl, hb, hcs⟩ := pr_cells hA (by intro h; rw [h] at hx; simp at hx)
      obtain ⟨c0, c1⟩ := hcs k x hx
      replace c0 := ((bcell hbr).1 _ _ hb).trans c0
      replace c1 := ((bcell hbr).1 _ _ hb).trans c1
      have hst := Lib.hid (partI_take wk hx)
      obtain ⟨u, v⟩ := x
      simp only at c0 c1
      obtain ⟨P, hP⟩ : ∃ z, partI (xs.take k) wk = z := ⟨_, rfl⟩
      have HPP := Lib.hid hP
      rw [hP]
      have hk0 : (0 : Int) ≤ (k : Int) := by omega
      have hk1 : (k : Int) < (n : Int) := by omega
      clear hx hcs hbr hz hP
      by_cases hu : u ≤ wk
      · go_wp2_with fail
        exact ⟨⟨k + 1, by omega, by go_num, by rw [hst.out, if_pos hu], HBR.out, HZ.out⟩, by simp [intOf]; omega⟩
      · go_wp2_with fail
        exact ⟨⟨k + 1, by omega, by go_num, by rw [hst.out, if_neg hu, HPP.out], HBR.out, HZ.out⟩, by simp [intOf]; omega⟩
    · have hke : k = n := by omega
      have hk1 : ¬ (k : Int) < (n : Int) := by omega
      have p0 := cell_of_row wr w.heap.size 0 _ 45 (0, 0) hz
      have p1 := cell_of_row wr w.heap.size 1 _ 45 (0, 0) hz
      have p2 := cell_of_row wr w.heap.size 2 _ 45 (0, 0) hz
      have p3 := cell_of_row wr w.heap.size 3 _ 45 (0, 0) hz
      have p4 := cell_of_row wr w.heap.size 4 _ 45 (0, 0) hz
      have p5 := cell_of_row wr w.heap.size 5 _ 45 (0, 0) hz
      have p6 := cell_of_row wr w.heap.size 6 _ 45 (0, 0) hz
      simp at p0 p1 p2 p3 p4 p5 p6
      have hT : partI (xs.take k) wk = partI xs wk := by rw [List.take_of_length_le (by rw [HL.out]; omega)]
      have hbd := partI_bd wk HX.out k (by rw [HL.out]; omega)
      have HW := Lib.hid (new_wrap HC.out hbd)
      have HV : Hid (newI ⟨d, pp, s, l, h, g, co⟩ t xs wk = carI ⟨d, pp, s, l, h, g, co⟩ t * partI (xs.take k) wk / 1000) := Lib.hid (by rw [hT]; rfl)
      obtain ⟨P, hP⟩ : ∃ z, partI (xs.take k) wk = z := ⟨_, rfl⟩
      rw [hP] at HW HV ⊢
      obtain ⟨C, hC⟩ : ∃ z, carI ⟨d, pp, s, l, h, g, co⟩ t = z := ⟨_, rfl⟩
      rw [hC] at HW HV
      have HCC := Lib.hid hC
      clear hbr hz hT hbd hP hC
      go_wp2_with fail
      refine (refCarries_any ⟨d, pp, s, l, h, g, co⟩ t wr HPB.out HT.out.1 HT.out.2).mono ?_
      rintro e w2 ⟨rfl, hb2⟩
      have HB2 := Lib.hid (HBR.out.trans (hb2.mono HBR.out.size))
      rw [HCC.out]
      clear hb2 p0 p1 p2 p3 p4 p5 p6
      go_wp2_with fail
      go_ret
      exact ⟨by rw [HV.out, ← HW.out]; rfl, HB2.out⟩
end Go.Proofs.YtdlaphlpimlgdaaGreatDoor
/- The statement's Ready: the first week in which a new pile carries its load. -/
namespace Go.Proofs.YtdlaphlpimlgdaaGreatDoor
open Go.RowKit

theorem two_boxes (w : World) (o1 o2 : Obj) : ((w.alloc o1).alloc o2).heap[w.heap.size]? = some o1 ∧ ((w.alloc o1).alloc o2).heap[w.heap.size + 1]? = some o2 ∧ Below w.heap.size w ((w.alloc o1).alloc o2) :=
  ⟨(Below.heap_alloc _ o2 _ (by simp)).trans (heap_alloc_last w o1), by simpa using heap_alloc_last (w.alloc o1) o2, ((Below.refl w.heap.size w).alloc (Nat.le_refl _) o1).alloc (by simp) o2⟩
def readyI (p : Pil) (t : Int) (xs : List (Int × Int)) : Int :=
  match (List.range 101).find? (fun v : Nat => decide (p.h ≤ newI p t xs (v : Int))) with
  | some v => (v : Int)
  | none => -1
theorem ready_some {p : Pil} {t : Int} {xs : List (Int × Int)} {v : Nat} (hv : v < 101) (h : p.h ≤ newI p t xs v) (hb : ∀ j : Nat, j < v → newI p t xs j < p.h) : readyI p t xs = v := by
  have : (List.range 101).find? (fun v : Nat => decide (p.h ≤ newI p t xs (v : Int))) = some v := by
    rw [List.find?_range_eq_some]
    exact ⟨by simpa using h, List.mem_range.2 hv, fun j hj => by simpa using hb j hj⟩
  unfold readyI
  rw [this]
theorem ready_none {p : Pil} {t : Int} {xs : List (Int × Int)} (hb : ∀ j : Nat, j < 101 → newI p t xs j < p.h) : readyI p t xs = -1 := by
  have : (List.range 101).find? (fun v : Nat => decide (p.h ≤ newI p t xs (v : Int))) = none := by
    rw [List.find?_range_eq_none]
    exact fun j hj => by simpa using hb j hj
  unfold readyI
  rw [this]
set_option maxRecDepth 100000 in
set_option maxHeartbeats 2000000 in
theorem refReady_any (p : Pil) (lo t : Int) (A : Option Addr) (n c : Nat) (xs : List (Int × Int)) (w : World) (hp : pilB p = true) (t0 : 0 ≤ t) (t1 : t ≤ 50000)
    (hl : xs.length = n) (hn : n ≤ maxLen) (hA : PrsAt w w.heap.size A xs) (hx : cuGo (-1, 0) xs = true) :
    Calls Tryz.prog 52 #[pilV p, .agg #[.int .i64 lo, .int .i64 t], .slice A n c] w fun e w' => e = .returned (.int .i64 (readyI p t xs)) ∧ Below w.heap.size w w' := by
  have HL := Lib.hid hl
  have HN := Lib.hid hn
  have HX := Lib.hid hx
  have HPB := Lib.hid hp
  have HT := Lib.hid (And.intro t0 t1)
  have HA := Lib.hid hA
  obtain ⟨d, pp, s, l, h, g, co⟩ := p
  obtain ⟨z0, z1, hb0⟩ := two_boxes w (.cells #[.int .i64 d, .int .i64 pp, .int .i64 s, .int .i64 l, .int .i64 h, .int .i64 g, .int .i64 co] 45) (.cells #[.int .i64 lo, .int .i64 t] 42)
  clear hl hx hp t0 t1 hn hA
  go_enter Tryz.func52, Tryz.ntmps52
  go_wp2_with fail
  go_loopw [7] (fun i wr => ∃ k : Nat, k ≤ 101 ∧ i = .int .i64 k ∧ (∀ j : Nat, j < k → newI ⟨d, pp, s, l, h, g, co⟩ t xs j < h) ∧ Below w.heap.size w wr ∧ wr.heap[w.heap.size]? = some (.cells #[.int .i64 d, .int .i64 pp, .int .i64 s, .int .i64 l, .int .i64 h, .int .i64 g, .int .i64 co] 45 (0, 0)) ∧ wr.heap[w.heap.size + 1]? = some (.cells #[.int .i64 lo, .int .i64 t] 42 (0, 0))) (fun i _ => 101 - (intOf i).toNat)
  case atStart => exact ⟨0, Nat.zero_le _, rfl, fun j hj => absurd hj (Nat.not_lt_zero _), hb0, z0, z1⟩
  case round =>
    obtain ⟨k, hk, rfl, hall, hbr, y0, y1⟩ := hrel
    have HALL := Lib.hid hall; have HBR := Lib.hid hbr; have Y0 := Lib.hid y0; have Y1 := Lib.hid y1
    clear hall
    by_cases hlt : k < 101
    · have hk1 : (k : Int) ≤ 100 := by omega
      have q0 := cell_of_row wr w.heap.size 0 _ 45 (0, 0) y0
      have q1 := cell_of_row wr w.heap.size 1 _ 45 (0, 0) y0
      have q2 := cell_of_row wr w.heap.size 2 _ 45 (0, 0) y0
      have q3 := cell_of_row wr w.heap.size 3 _ 45 (0, 0) y0
      have q4 := cell_of_row wr w.heap.size 4 _ 45 (0, 0) y0
      have q5 := cell_of_row wr w.heap.size 5 _ 45 (0, 0) y0
      have q6 := cell_of_row wr w.heap.size 6 _ 45 (0, 0) y0
      have r1 := cell_of_row wr (w.heap.size + 1) 1 _ 42 (0, 0) y1
      simp at q0 q1 q2 q3 q4 q5 q6 r1
      have lt0 := heapsz y0
      have lt1 := heapsz y1
      have p0 : ∀ u : KeptW wr, u.w.cell? ⟨w.heap.size, 0, none⟩ = some (.int .i64 d) := fun u => ((bcell u.h).1 _ 0 lt0).trans q0
      have p1 : ∀ u : KeptW wr, u.w.cell? ⟨w.heap.size, 1, none⟩ = some (.int .i64 pp) := fun u => ((bcell u.h).1 _ 1 lt0).trans q1
      have p2 : ∀ u : KeptW wr, u.w.cell? ⟨w.heap.size, 2, none⟩ = some (.int .i64 s) := fun u => ((bcell u.h).1 _ 2 lt0).trans q2
      have p3 : ∀ u : KeptW wr, u.w.cell? ⟨w.heap.size, 3, none⟩ = some (.int .i64 l) := fun u => ((bcell u.h).1 _ 3 lt0).trans q3
      have p4 : ∀ u : KeptW wr, u.w.cell? ⟨w.heap.size, 4, none⟩ = some (.int .i64 h) := fun u => ((bcell u.h).1 _ 4 lt0).trans q4
      have p5 : ∀ u : KeptW wr, u.w.cell? ⟨w.heap.size, 5, none⟩ = some (.int .i64 g) := fun u => ((bcell u.h).1 _ 5 lt0).trans q5
      have p6 : ∀ u : KeptW wr, u.w.cell? ⟨w.heap.size, 6, none⟩ = some (.int .i64 co) := fun u => ((bcell u.h).1 _ 6 lt0).trans q6
      have t1 : ∀ u : KeptW wr, u.w.cell? ⟨w.heap.size + 1, 1, none⟩ = some (.int .i64 t) := fun u => ((bcell u.h).1 _ 1 lt1).trans r1
      clear q0 q1 q2 q3 q4 q5 q6 r1 lt0 lt1 y0 y1 z0 z1 hb0
      obtain ⟨N, hN⟩ : ∃ z, newI ⟨d, pp, s, l, h, g, co⟩ t xs (k : Int) = z := ⟨_, rfl⟩
      have HN1 := Lib.hid hN
      have HK : Hid (∀ u : KeptW wr, Calls Tryz.prog 53 #[.agg #[.int .i64 d, .int .i64 pp, .int .i64 s, .int .i64 l, .int .i64 h, .int .i64 g, .int .i64 co], .int .i64 t, .slice A n c, .int .i64 (k : Int)] u.w fun e w' => e = .returned (.int .i64 N) ∧ ∃ u' : KeptW wr, w' = u'.w) :=
        Lib.hid fun u => Calls.in_kept u (by rw [← hN]; exact refNew_any ⟨d, pp, s, l, h, g, co⟩ t A n c xs (k : Int) u.w HPB.out HT.out.1 HT.out.2 HL.out HN.out (HA.out.up (HBR.out.trans (u.h.mono HBR.out.size))) HX.out)
      clear hN hbr
      by_cases hge : h ≤ N
      · go_wp2_with fail
        refine rk_region (by kernel_rfl) (by kernel_rfl) ?_
        repeat (go_big_quiet_step (first | (with_reducible exact HK.out _) | fail))
        refine wpQuiet_nil ?_
        rintro _ ⟨⟨wz, hbz⟩, rfl⟩
        have BZ := Lib.hid (HBR.out.trans (hbz.mono HBR.out.size))
        clear p0 p1 p2 p3 p4 p5 p6 t1 hbz
        go_wp2_with fail
        go_ret
        exact ⟨by rw [ready_some (p := ⟨d, pp, s, l, h, g, co⟩) hlt (by rw [HN1.out]; exact hge) HALL.out]; rfl, BZ.out⟩
      · go_wp2_with fail
        refine rk_region (by kernel_rfl) (by kernel_rfl) ?_
        repeat (go_big_quiet_step (first | (with_reducible exact HK.out _) | fail))
        refine wpQuiet_nil ?_
        rintro _ ⟨⟨wz, hbz⟩, rfl⟩
        have BZ := Lib.hid (HBR.out.trans (hbz.mono HBR.out.size))
        have V0 := Lib.hid ((hbz.block _ (heapsz Y0.out)).trans Y0.out)
        have V1 := Lib.hid ((hbz.block _ (heapsz Y1.out)).trans Y1.out)
        clear p0 p1 p2 p3 p4 p5 p6 t1 hbz
        go_wp2_with fail
        refine ⟨⟨k + 1, by omega, by go_num, fun j hj => ?_, BZ.out, V0.out, V1.out⟩, by simp [intOf]; omega⟩
        by_cases hjk : j < k
        · exact HALL.out j hjk
        · have : j = k := by omega
          subst this
          rw [HN1.out]
          omega
    · have hke : k = 101 := by omega
      have hk1 : ¬ (k : Int) ≤ 100 := by omega
      clear hbr y0 y1 z0 z1 hb0
      go_wp2_with fail
      go_ret
      exact ⟨by rw [ready_none (p := ⟨d, pp, s, l, h, g, co⟩) (fun j hj => HALL.out j (by omega))]; rfl, HBR.out⟩
end Go.Proofs.YtdlaphlpimlgdaaGreatDoor
/- The code's Ready: its rows against the statement's weeks. -/
namespace Go.Proofs.YtdlaphlpimlgdaaGreatDoor
open Go.RowKit

theorem pil_box {w : World} {B : Nat} {d p s l h g c : Int} (z : w.heap[B]? = some (.cells #[.int .i64 d, .int .i64 p, .int .i64 s, .int .i64 l, .int .i64 h, .int .i64 g, .int .i64 c] 45 (0, 0))) :
    w.cell? ⟨B, 0, none⟩ = some (.int .i64 d) ∧ w.cell? ⟨B, 1, none⟩ = some (.int .i64 p) ∧ w.cell? ⟨B, 2, none⟩ = some (.int .i64 s) ∧ w.cell? ⟨B, 3, none⟩ = some (.int .i64 l) ∧ w.cell? ⟨B, 4, none⟩ = some (.int .i64 h) ∧ w.cell? ⟨B, 5, none⟩ = some (.int .i64 g) ∧ w.cell? ⟨B, 6, none⟩ = some (.int .i64 c) := by
  have q0 := cell_of_row w B 0 _ 45 (0, 0) z
  have q1 := cell_of_row w B 1 _ 45 (0, 0) z
  have q2 := cell_of_row w B 2 _ 45 (0, 0) z
  have q3 := cell_of_row w B 3 _ 45 (0, 0) z
  have q4 := cell_of_row w B 4 _ 45 (0, 0) z
  have q5 := cell_of_row w B 5 _ 45 (0, 0) z
  have q6 := cell_of_row w B 6 _ 45 (0, 0) z
  simp at q0 q1 q2 q3 q4 q5 q6
  exact ⟨q0, q1, q2, q3, q4, q5, q6⟩
theorem span_box {w : World} {B : Nat} {lo hi : Int} (z : w.heap[B]? = some (.cells #[.int .i64 lo, .int .i64 hi] 42 (0, 0))) : w.cell? ⟨B, 0, none⟩ = some (.int .i64 lo) ∧ w.cell? ⟨B, 1, none⟩ = some (.int .i64 hi) := by
  have q0 := cell_of_row w B 0 _ 42 (0, 0) z
  have q1 := cell_of_row w B 1 _ 42 (0, 0) z
  simp at q0 q1
  exact ⟨q0, q1⟩
theorem cu_step {xs : List (Int × Int)} (h : cuGo (-1, 0) xs = true) {k : Nat} {x y : Int × Int} (hx : xs[k]? = some x) (hy : xs[k + 1]? = some y) : x.1 < y.1 := by
  have h2 := cure_row h (k + 1) y hy
  rw [cuBefore_succ hx] at h2
  unfold cuB at h2
  simp only [Bool.and_eq_true, inB_iff] at h2
  omega
theorem cu_sorted {xs : List (Int × Int)} (h : cuGo (-1, 0) xs = true) {k : Nat} {x : Int × Int} (hx : xs[k]? = some x) : ∀ (j : Nat) (y : Int × Int), xs[k + j + 1]? = some y → x.1 < y.1
  | 0, y, hy => cu_step h hx hy
  | j + 1, y, hy => by
    obtain ⟨z, hz⟩ := get_of_lt (l := xs) (k := k + j + 1) (by have := (List.getElem?_eq_some_iff.1 hy).1; omega)
    have h1 := cu_sorted h hx j z hz
    have h2 := cu_step h hz hy
    omega
theorem cu_lt {xs : List (Int × Int)} (h : cuGo (-1, 0) xs = true) {k j : Nat} {x y : Int × Int} (hx : xs[k]? = some x) (hy : xs[j]? = some y) (hkj : k < j) : x.1 < y.1 := by
  have : k + (j - k - 1) + 1 = j := by omega
  exact cu_sorted h hx (j - k - 1) y (by rw [this]; exact hy)
theorem partI_is {xs : List (Int × Int)} (wk : Int) : ∀ k, k ≤ xs.length → (partI (xs.take k) wk = 0 ∧ ∀ i y, i < k → xs[i]? = some y → wk < y.1) ∨ ∃ j y, j < k ∧ xs[j]? = some y ∧ y.1 ≤ wk ∧ partI (xs.take k) wk = y.2 ∧ ∀ i z, j < i → i < k → xs[i]? = some z → wk < z.1
  | 0, _ => .inl ⟨rfl, fun _ _ h => absurd h (Nat.not_lt_zero _)⟩
  | k + 1, hk => by
    have hx : xs[k]? = some xs[k] := List.getElem?_eq_getElem (by omega)
    rw [partI_take wk hx]
    by_cases hw : xs[k].1 ≤ wk
    · exact .inr ⟨k, _, Nat.lt_succ_self _, hx, hw, if_pos hw, fun i z h1 h2 => by omega⟩
    · rw [if_neg hw]
      rcases partI_is (xs := xs) wk k (by omega) with ⟨h1, h2⟩ | ⟨j, y, h1, h2, h3, h4, h5⟩
      · refine .inl ⟨h1, fun i y hi hy => ?_⟩
        by_cases hik : i < k
        · exact h2 i y hik hy
        · have : i = k := by omega
          subst this
          rw [hx] at hy
          cases hy
          omega
      · refine .inr ⟨j, y, by omega, h2, h3, h4, fun i z hi hk' hz => ?_⟩
        by_cases hik : i < k
        · exact h5 i z hi hik hz
        · have : i = k := by omega
          subst this
          rw [hx] at hz
          cases hz
          omega
theorem new_none {p : Pil} {t : Int} {xs : List (Int × Int)} (hp : pilB p = true) {m : Nat} (wk : Int) (hr : ∀ j y, j < m → xs[j]? = some y → carI p t * y.2 / 1000 < p.h) (hw : ∀ j y, m ≤ j → xs[j]? = some y → wk < y.1) : newI p t xs wk < p.h := by
  have h1 := (pilB_iff.1 hp).2.2.2.1
  have hT : xs.take xs.length = xs := List.take_length
  have := partI_is (xs := xs) wk xs.length (Nat.le_refl _)
  rw [hT] at this
  unfold newI
  rcases this with ⟨e, _⟩ | ⟨j, y, hj, hy, hle, e, _⟩
  · rw [e, Int.mul_zero]
    omega
  · rw [e]
    by_cases hjm : j < m
    · exact hr j y hjm hy
    · have := hw j y (by omega) hy
      omega
theorem ready_row {p : Pil} {t : Int} {xs : List (Int × Int)} (hp : pilB p = true) (h : cuGo (-1, 0) xs = true) {k : Nat} {x : Int × Int} (hx : xs[k]? = some x) (hge : p.h ≤ carI p t * x.2 / 1000) (hr : ∀ j y, j < k → xs[j]? = some y → carI p t * y.2 / 1000 < p.h) : readyI p t xs = x.1 := by
  have hb := cure_bd h hx
  have hxn : ((x.1.toNat : Nat) : Int) = x.1 := Int.toNat_of_nonneg hb.1.1
  rw [← hxn]
  refine ready_some (by omega) ?_ fun v hv => new_none hp (m := k) _ hr fun j y hj hy => ?_
  · have hT : xs.take xs.length = xs := List.take_length
    have := partI_is (xs := xs) x.1 xs.length (Nat.le_refl _)
    have hkl := (List.getElem?_eq_some_iff.1 hx).1
    rw [hT] at this
    unfold newI
    rw [hxn]
    rcases this with ⟨_, h2⟩ | ⟨j, y, hj, hy, hle, e, hlast⟩
    · have := h2 k x hkl hx
      omega
    · rw [e]
      have : j = k := by
        rcases Nat.lt_trichotomy j k with hlt | heq | hgt
        · have := hlast k x hlt hkl hx
          omega
        · exact heq
        · have := cu_lt h hx hy hgt
          omega
      subst this
      rw [hx] at hy
      cases hy
      exact hge
  · by_cases hjk : j = k
    · subst hjk
      rw [hx] at hy
      cases hy
      omega
    · have := cu_lt h hx hy (by omega)
      omega
def readyR (p : Pil) (lo hi : Int) (xs : List (Int × Int)) : Int × Int := if pilB p && withinB 0 lo hi 50000 && cureB xs then (if readyI p hi xs < 0 then (0, 5) else (readyI p hi xs, 0)) else (0, 2)
set_option maxRecDepth 100000 in
set_option maxHeartbeats 2000000 in
theorem Ready_any (p : Pil) (lo hi : Int) (A : Option Addr) (n c : Nat) (xs : List (Int × Int)) (w : World) (hl : xs.length = n) (hn : n ≤ maxLen) (hA : PrsAt w w.heap.size A xs) :
    Calls Tryz.prog 50 #[pilV p, .agg #[.int .i64 lo, .int .i64 hi], .slice A n c] w fun e w' => e = .returned (.tuple #[.int .i64 (readyR p lo hi xs).1, .int .i64 (readyR p lo hi xs).2]) ∧ Below w.heap.size w w' := by
  have HL := Lib.hid hl
  have HN := Lib.hid hn
  have HA := Lib.hid hA
  unfold maxLen at hn
  obtain ⟨d, pp, s, l, h, g, co⟩ := p
  obtain ⟨z0, z1, hb0⟩ := two_boxes w (.cells #[.int .i64 d, .int .i64 pp, .int .i64 s, .int .i64 l, .int .i64 h, .int .i64 g, .int .i64 co] 45) (.cells #[.int .i64 lo, .int .i64 hi] 42)
  obtain ⟨w1, hw1⟩ : ∃ z, (w.alloc (.cells #[.int .i64 d, .int .i64 pp, .int .i64 s, .int .i64 l, .int .i64 h, .int .i64 g, .int .i64 co] 45)).alloc (.cells #[.int .i64 lo, .int .i64 hi] 42) = z := ⟨_, rfl⟩
  rw [hw1] at z0 z1 hb0
  have Z0 := Lib.hid z0; have Z1 := Lib.hid z1; have HB1 := Lib.hid hb0
  obtain ⟨p0, p1, p2, p3, p4, p5, p6⟩ := pil_box z0
  obtain ⟨t0, t1⟩ := span_box z1
  clear z0 z1 hb0 hA hl
  go_enter Tryz.func50, Tryz.ntmps50
  go_wp2_with fail
  refine (pileFine_any ⟨d, pp, s, l, h, g, co⟩ _).mono ?_
  rintro e w2 ⟨rfl, hb⟩
  have HB2 := Lib.hid (HB1.out.trans (hb.mono HB1.out.size))
  have y0 := (hb.block _ (heapsz Z0.out)).trans Z0.out
  have y1 := (hb.block _ (heapsz Z1.out)).trans Z1.out
  have Y0 := Lib.hid y0; have Y1 := Lib.hid y1
  clear hb p0 p1 p2 p3 p4 p5 p6 t0 t1
  obtain ⟨p0, p1, p2, p3, p4, p5, p6⟩ := pil_box y0
  obtain ⟨t0, t1⟩ := span_box y1
  clear y0 y1
  cases h1 : pilB ⟨d, pp, s, l, h, g, co⟩ with
  | false =>
    go_wp2_with fail
    go_ret2
    exact ⟨by unfold readyR; rw [h1]; rfl, HB2.out⟩
  | true =>
    go_wp2_with fail
    refine (within_any 0 lo hi 50000 _).mono ?_
    rintro e w3 ⟨rfl, hb⟩
    have HB3 := Lib.hid (HB2.out.trans (hb.mono HB2.out.size))
    have x0 := (hb.block _ (heapsz Y0.out)).trans Y0.out
    have x1 := (hb.block _ (heapsz Y1.out)).trans Y1.out
    have X0 := Lib.hid x0; have X1 := Lib.hid x1
    clear hb p0 p1 p2 p3 p4 p5 p6 t0 t1 x0 x1
    cases h2 : withinB 0 lo hi 50000 with
    | false =>
      go_wp2_with fail
      go_ret2
      exact ⟨by unfold readyR; rw [h1, h2]; rfl, HB3.out⟩
    | true =>
      go_wp2_with fail
      refine (cureFine_any A n c xs _ HL.out HN.out (HA.out.up HB3.out)).mono ?_
      rintro e w4 ⟨rfl, hb⟩
      have HB4 := Lib.hid (HB3.out.trans (hb.mono HB3.out.size))
      have v0 := (hb.block _ (heapsz X0.out)).trans X0.out
      have v1 := (hb.block _ (heapsz X1.out)).trans X1.out
      have V0 := Lib.hid v0; have V1 := Lib.hid v1
      clear hb
      cases h3 : cureB xs with
      | false =>
        clear v0 v1
        go_wp2_with fail
        go_ret2
        exact ⟨by unfold readyR; rw [h1, h2, h3]; rfl, HB4.out⟩
      | true =>
        obtain ⟨p0, p1, p2, p3, p4, p5, p6⟩ := pil_box v0
        obtain ⟨t0, t1⟩ := span_box v1
        clear v0 v1
        go_wp2_with fail
        have hT := (withinB_iff.1 h2)
        refine (carries_any ⟨d, pp, s, l, h, g, co⟩ hi w4 h1 (by omega) (by omega)).mono ?_
        rintro e w5 ⟨rfl, hb⟩
        have HB5 := Lib.hid (HB4.out.trans (hb.mono HB4.out.size))
        have HV0 := Lib.hid ((hb.block _ (heapsz V0.out)).trans V0.out)
        clear hb p0 p1 p2 p3 p4 p5 p6 t0 t1
        have hC := carI_b h1 (t := hi) (by omega)
        have HG := Lib.hid h1
        have HCU : Hid (cuGo (-1, 0) xs = true) := Lib.hid (by unfold cureB at h3; rw [Bool.and_eq_true] at h3; exact h3.2)
        have HR : Hid (readyR ⟨d, pp, s, l, h, g, co⟩ lo hi xs = if readyI ⟨d, pp, s, l, h, g, co⟩ hi xs < 0 then (0, 5) else (readyI ⟨d, pp, s, l, h, g, co⟩ hi xs, 0)) := Lib.hid (by unfold readyR; rw [h1, h2, h3]; rfl)
        obtain ⟨C, eC⟩ : ∃ z, carI ⟨d, pp, s, l, h, g, co⟩ hi = z := ⟨_, rfl⟩
        have HEC := Lib.hid eC
        rw [eC] at hC ⊢
        clear h1 h2 h3 hT eC
        go_wp2_with fail
        go_loopw [30] (fun i wr => ∃ k : Nat, k ≤ n ∧ i = .int .i64 k ∧ (∀ j y, j < k → xs[j]? = some y → C * y.2 / 1000 < h) ∧ Below w.heap.size w wr ∧ wr.heap[w.heap.size]? = some (.cells #[.int .i64 d, .int .i64 pp, .int .i64 s, .int .i64 l, .int .i64 h, .int .i64 g, .int .i64 co] 45 (0, 0))) (fun i _ => n - (intOf i).toNat)
        case atStart => exact ⟨0, Nat.zero_le _, rfl, fun j y hj => absurd hj (Nat.not_lt_zero _), HB5.out, HV0.out⟩
        case round =>
          obtain ⟨k, hk, rfl, hall, hbr, hz⟩ := hrel
          have HALL := Lib.hid hall; have HBR := Lib.hid hbr; have HZ := Lib.hid hz
          clear hall
          by_cases hlt : k < n
          · obtain ⟨x, hx⟩ := get_of_lt (l := xs) (k := k) (by rw [HL.out]; exact hlt)
            obtain ⟨b, o, rfl, hb, hcs⟩ := pr_cells HA.out (by intro h; rw [h] at hx; simp at hx)
            obtain ⟨c0, c1⟩ := hcs k x hx
            replace c0 := ((bcell hbr).1 _ _ hb).trans c0
            replace c1 := ((bcell hbr).1 _ _ hb).trans c1
            have HX := Lib.hid hx
            have hbx := cure_bd HCU.out hx
            obtain ⟨u, v⟩ := x
            simp only at c0 c1 hbx
            have zz := (Below.heap_alloc wr (.cells #[.int .i64 u, .int .i64 v] 108) _ (heapsz hz)).trans hz
            have BA := Lib.hid (HBR.out.alloc HBR.out.size (.cells #[.int .i64 u, .int .i64 v] 108))
            have ZZ := Lib.hid zz
            obtain ⟨p0, p1, p2, p3, p4, p5, p6⟩ := pil_box zz
            have a0 : 0 ≤ C * v := Int.mul_nonneg hC.1 hbx.2.1
            have a1 : C * v ≤ 600000 * 1000 := Int.mul_le_mul hC.2 hbx.2.2 hbx.2.1 (by decide)
            obtain ⟨M, eM⟩ : ∃ z, C * v = z := ⟨_, rfl⟩
            rw [eM] at a0 a1
            have m1 : Value.int .i64 (wrap64 (C * v)) = Value.int .i64 M := by rw [eM]; congr 1; exact w64 (by omega)
            obtain ⟨D, eD⟩ : ∃ z, M / 1000 = z := ⟨_, rfl⟩
            have m2 : Value.int .i64 (wrap64 (M.tdiv 1000)) = Value.int .i64 D := by rw [Int.tdiv_eq_ediv_of_nonneg a0, eD]; congr 1; exact w64 (by omega)
            have HD : Hid (C * v / 1000 = D) := Lib.hid (by rw [eM, eD])
            have hk0 : (0 : Int) ≤ (k : Int) := by omega
            have hk1 : (k : Int) < (n : Int) := by omega
            have HU := Lib.hid hbx.1
            clear hx hcs hbr hz zz eM eD a0 a1 hbx hC p0 p1 p2 p3 p5 p6
            by_cases hge : h ≤ D
            · go_wp2_with fail
              go_ret2
              have hr := ready_row (p := ⟨d, pp, s, l, h, g, co⟩) (t := hi) HG.out HCU.out HX.out (by rw [HEC.out, HD.out]; exact hge) (by rw [HEC.out]; exact HALL.out)
              refine ⟨?_, BA.out⟩
              rw [HR.out, hr, if_neg (by have := HU.out; simp only; omega)]
              rfl
            · go_wp2_with fail
              refine ⟨⟨k + 1, by omega, by go_num, fun j y hj hy => ?_, BA.out, ZZ.out⟩, by simp [intOf]; omega⟩
              by_cases hjk : j < k
              · exact HALL.out j y hjk hy
              · have : j = k := by omega
                subst this
                have hx := HX.out
                rw [hy] at hx
                cases hx
                rw [HD.out]
                omega
          · have hke : k = n := by omega
            have hk1 : ¬ (k : Int) < (n : Int) := by omega
            clear hbr hz
            go_wp2_with fail
            go_ret2
            have hr := ready_none (p := ⟨d, pp, s, l, h, g, co⟩) (t := hi) (xs := xs) (fun v _ => new_none HG.out (m := k) v (by rw [HEC.out]; exact HALL.out) fun j y hj hy => by
              have := (List.getElem?_eq_some_iff.1 hy).1
              rw [HL.out] at this
              omega)
            refine ⟨?_, HBR.out⟩
            rw [HR.out, hr]
            rfl
end Go.Proofs.YtdlaphlpimlgdaaGreatDoor
/- The statement's test of cures, and of what Ready is asked of. -/
namespace Go.Proofs.YtdlaphlpimlgdaaGreatDoor
open Go.RowKit

theorem in_kept {w0 : World} {a n b : Int} {r : Bool} (h : inB a n b = r) (u : KeptW w0) : Calls Tryz.prog 74 #[.int .i64 n, .int .i64 a, .int .i64 b] u.w fun e w' => e = .returned (.bool r) ∧ ∃ u' : KeptW w0, w' = u'.w :=
  Calls.in_kept u ((in_any n a b u.w).mono fun e w' hh => ⟨by rw [hh.1, h], by rw [← hh.2]; exact Below.refl _ _⟩)
theorem cu_low {xs : List (Int × Int)} {k : Nat} (hk : k ≤ xs.length) (h : ∀ j x, j < k → xs[j]? = some x → cuB (cuBefore xs j) x = true) : ∀ j, j ≤ k → 0 ≤ (cuBefore xs j).2 ∧ (0 < j → 0 ≤ (cuBefore xs j).1)
  | 0, _ => ⟨by show (0 : Int) ≤ 0; decide, fun h => absurd h (by decide)⟩
  | j + 1, hj => by
    have ih := cu_low hk h j (by omega)
    have hx : xs[j]? = some xs[j] := List.getElem?_eq_getElem (by omega)
    have h2 := h j _ (by omega) hx
    have h3 := (cu_bd hk h j (by omega)).1
    rw [cuBefore_succ hx]
    unfold cuB at h2
    simp only [Bool.and_eq_true, inB_iff] at h2
    exact ⟨by omega, fun _ => by omega⟩
theorem cuB_first {u v : Int} : cuB (-1, 0) (u, v) = (inB 0 u 100 && inB 0 v 1000) := rfl
theorem cuB_next {U L u v : Int} (hU : 0 ≤ U) (hL : 0 ≤ L) : cuB (U, L) (u, v) = (inB 0 u 100 && inB 0 v 1000 && (decide (¬ u ≤ U) && decide (¬ v < L))) := by
  unfold cuB
  rw [Bool.eq_iff_iff]
  simp only [Bool.and_eq_true, inB_iff, decide_eq_true_eq]
  omega
set_option maxRecDepth 100000 in
set_option maxHeartbeats 4000000 in
theorem refCure_any (A : Option Addr) (n c : Nat) (xs : List (Int × Int)) (w : World) (hl : xs.length = n) (hn : n ≤ maxLen) (hA : PrsAt w w.heap.size A xs) :
    Calls Tryz.prog 95 #[.slice A n c] w fun e w' => e = .returned (.bool (cureB xs)) ∧ Below w.heap.size w w' := by
  have HL := Lib.hid hl
  have HP : Hid (cureB xs = (inB 1 (n : Int) 6 && cuGo (-1, 0) xs)) := Lib.hid (by rw [← hl]; rfl)
  unfold maxLen at hn
  clear hl
  go_enter Tryz.func95, Tryz.ntmps95
  go_wp2_with fail
  go_loopw [3] (fun i wr => ∃ k : Nat, k ≤ n ∧ i = .int .i64 k ∧ (∀ j x, j < k → xs[j]? = some x → cuB (cuBefore xs j) x = true) ∧ Below w.heap.size w wr) (fun i _ => n - (intOf i).toNat)
  case atStart => exact ⟨0, Nat.zero_le _, rfl, fun j x hj => absurd hj (Nat.not_lt_zero _), Below.refl _ _⟩
  case round =>
    obtain ⟨k, hk, rfl, hall, hbr⟩ := hrel
    have HALL := Lib.hid hall; have HBR := Lib.hid hbr
    by_cases hlt : k < n
    · obtain ⟨x, hx⟩ := get_of_lt (l := xs) (k := k) (by rw [HL.out]; exact hlt)
      obtain ⟨b, o, rfl, hb, hcs⟩ := pr_cells hA (by intro h; rw [h] at hx; simp at hx)
      obtain ⟨c0, c1⟩ := hcs k x hx
      have ltb : b < wr.heap.size := Nat.lt_of_lt_of_le hb hbr.size
      replace c0 := ((bcell hbr).1 _ _ hb).trans c0
      replace c1 := ((bcell hbr).1 _ _ hb).trans c1
      have HX := Lib.hid hx
      have HPC : Hid (∀ j y, xs[j]? = some y → wr.cell? ⟨b, o + j * 2, none⟩ = some (.int .i64 y.1) ∧ wr.cell? ⟨b, o + j * 2 + 1, none⟩ = some (.int .i64 y.2)) :=
        Lib.hid fun j y hy => ⟨((bcell hbr).1 _ _ hb).trans (hcs j y hy).1, ((bcell hbr).1 _ _ hb).trans (hcs j y hy).2⟩
      obtain ⟨u, v⟩ := x
      simp only at c0 c1
      replace c0 : ∀ q : KeptW wr, q.w.cell? ⟨b, o + k * 2, none⟩ = some (.int .i64 u) := fun q => ((bcell q.h).1 _ _ ltb).trans c0
      replace c1 : ∀ q : KeptW wr, q.w.cell? ⟨b, o + k * 2 + 1, none⟩ = some (.int .i64 v) := fun q => ((bcell q.h).1 _ _ ltb).trans c1
      have hk0 : (0 : Int) ≤ (k : Int) := by omega
      have hk1 : (k : Int) < (n : Int) := by omega
      clear hx hcs hall hb
      have NO : Hid (cuB (cuBefore xs k) (u, v) = false → cuGo (-1, 0) xs = false) := Lib.hid (fun h => cuGo_no HX.out h)
      have YES : Hid (cuB (cuBefore xs k) (u, v) = true → ∀ j x, j < k + 1 → xs[j]? = some x → cuB (cuBefore xs j) x = true) := Lib.hid (fun h j x hj hx => by
        by_cases hjk : j < k
        · exact HALL.out j x hjk hx
        · have : j = k := by omega
          subst this
          have h2 := HX.out
          rw [hx] at h2
          cases h2
          exact h)
      cases g1 : inB 0 u 100 with
      | false =>
        have G1 := Lib.hid g1
        have HF : Hid (cuB (cuBefore xs k) (u, v) = false) := Lib.hid (by
          by_cases hk0 : k = 0
          · subst hk0
            exact cuB_first.trans (by rw [g1]; rfl)
          · have := cu_low (by rw [HL.out]; exact hk) HALL.out k (Nat.le_refl _)
            rw [show cuBefore xs k = ((cuBefore xs k).1, (cuBefore xs k).2) from rfl, cuB_next (this.2 (by omega)) this.1, g1]
            rfl)
        clear g1 hbr
        go_wp2_with fail
        refine rk_region (by kernel_rfl) (by kernel_rfl) ?_
        repeat (go_big_quiet_step (first | (with_reducible exact in_kept G1.out _) | fail))
        refine wpQuiet_nil ?_
        rintro _ ⟨⟨wz, hbz⟩, rfl⟩
        have BZ := Lib.hid (HBR.out.trans (hbz.mono HBR.out.size))
        clear c0 c1 hbz
        go_wp2_with fail
        go_ret
        exact ⟨by rw [HP.out, NO.out HF.out, Bool.and_false]; rfl, BZ.out⟩
      | true =>
        have G1 := Lib.hid g1
        cases g2 : inB 0 v 1000 with
        | false =>
          have G2 := Lib.hid g2
          have HF : Hid (cuB (cuBefore xs k) (u, v) = false) := Lib.hid (by
            by_cases hk0 : k = 0
            · subst hk0
              exact cuB_first.trans (by rw [g1, g2]; rfl)
            · have := cu_low (by rw [HL.out]; exact hk) HALL.out k (Nat.le_refl _)
              rw [show cuBefore xs k = ((cuBefore xs k).1, (cuBefore xs k).2) from rfl, cuB_next (this.2 (by omega)) this.1, g1, g2]
              rfl)
          clear g1 g2 hbr
          go_wp2_with fail
          refine rk_region (by kernel_rfl) (by kernel_rfl) ?_
          repeat (go_big_quiet_step (first | (with_reducible exact in_kept G1.out _) | (with_reducible exact in_kept G2.out _) | fail))
          refine wpQuiet_nil ?_
          rintro _ ⟨⟨wz, hbz⟩, rfl⟩
          have BZ := Lib.hid (HBR.out.trans (hbz.mono HBR.out.size))
          clear c0 c1 hbz
          go_wp2_with fail
          go_ret
          exact ⟨by rw [HP.out, NO.out HF.out, Bool.and_false]; rfl, BZ.out⟩
        | true =>
          have G2 := Lib.hid g2
          by_cases hz : 0 < k
          · obtain ⟨j, ej⟩ : ∃ j, k = j + 1 := ⟨k - 1, by omega⟩
            obtain ⟨y, hy⟩ := get_of_lt (l := xs) (k := j) (by rw [HL.out]; omega)
            have hlow := cu_low (by rw [HL.out]; exact hk) HALL.out k (Nat.le_refl _)
            have hbe : cuBefore xs k = y := by rw [ej]; exact cuBefore_succ hy
            obtain ⟨d0, d1⟩ := HPC.out j y hy
            obtain ⟨U, L⟩ := y
            rw [hbe] at hlow
            have HE := Lib.hid (hbe ▸ cuB_next (u := u) (v := v) (hlow.2 (by omega)) hlow.1 : cuB (cuBefore xs k) (u, v) = (inB 0 u 100 && inB 0 v 1000 && (decide (¬ u ≤ U) && decide (¬ v < L))))
            rw [g1, g2] at HE
            simp only at d0 d1
            replace d0 : ∀ q : KeptW wr, q.w.cell? ⟨b, o + j * 2, none⟩ = some (.int .i64 U) := fun q => ((bcell q.h).1 _ _ ltb).trans d0
            replace d1 : ∀ q : KeptW wr, q.w.cell? ⟨b, o + j * 2 + 1, none⟩ = some (.int .i64 L) := fun q => ((bcell q.h).1 _ _ ltb).trans d1
            have vj : Value.int .i64 (IntKind.i64.wrap ((k : Int) - 1)) = Value.int .i64 (j : Int) := by
              have : IntKind.i64.wrap ((k : Int) - 1) = (k : Int) - 1 := IntWalk.i64_in _ (by omega)
              rw [this]; congr 1; omega
            have hj0 : (0 : Int) ≤ (j : Int) := by omega
            have hj1 : (j : Int) < (n : Int) := by omega
            clear hbe hlow hy ej g1 g2 hbr
            by_cases k1 : u ≤ U
            · have HF := Lib.hid (HE.out.trans (by simp [k1]) : cuB (cuBefore xs k) (u, v) = false)
              go_wp2_with fail
              refine rk_region (by kernel_rfl) (by kernel_rfl) ?_
              repeat (go_big_quiet_step (first | (with_reducible exact in_kept G1.out _) | (with_reducible exact in_kept G2.out _) | fail))
              refine wpQuiet_nil ?_
              rintro _ ⟨⟨wz, hbz⟩, rfl⟩
              have BZ := Lib.hid (HBR.out.trans (hbz.mono HBR.out.size))
              clear c0 c1 d0 d1 hbz
              go_wp2_with fail
              go_ret
              exact ⟨by rw [HP.out, NO.out HF.out, Bool.and_false]; rfl, BZ.out⟩
            · by_cases k2 : v < L
              · have HF := Lib.hid (HE.out.trans (by simp [k2]) : cuB (cuBefore xs k) (u, v) = false)
                go_wp2_with fail
                have k1b : ¬ u ≤ U := by omega
                refine rk_region (by kernel_rfl) (by kernel_rfl) ?_
                repeat (go_big_quiet_step (first | (with_reducible exact in_kept G1.out _) | (with_reducible exact in_kept G2.out _) | fail))
                refine wpQuiet_nil ?_
                rintro _ ⟨⟨wz, hbz⟩, rfl⟩
                have BZ := Lib.hid (HBR.out.trans (hbz.mono HBR.out.size))
                clear c0 c1 d0 d1 hbz
                go_wp2_with fail
                go_ret
                exact ⟨by rw [HP.out, NO.out HF.out, Bool.and_false]; rfl, BZ.out⟩
              · have HF := Lib.hid (HE.out.trans (by simp [k1, k2]) : cuB (cuBefore xs k) (u, v) = true)
                go_wp2_with fail
                have k1b : ¬ u ≤ U := by omega
                have k2b : ¬ v < L := by omega
                refine rk_region (by kernel_rfl) (by kernel_rfl) ?_
                repeat (go_big_quiet_step (first | (with_reducible exact in_kept G1.out _) | (with_reducible exact in_kept G2.out _) | fail))
                refine wpQuiet_nil ?_
                rintro _ ⟨⟨wz, hbz⟩, rfl⟩
                have BZ := Lib.hid (HBR.out.trans (hbz.mono HBR.out.size))
                clear c0 c1 d0 d1 hbz
                go_wp2_with fail
                exact ⟨⟨k + 1, by omega, by go_num, YES.out HF.out, BZ.out⟩, by simp [intOf]; omega⟩
          · have HF : Hid (cuB (cuBefore xs k) (u, v) = true) := Lib.hid (by
              have hk0 : k = 0 := by omega
              subst hk0
              exact cuB_first.trans (by rw [g1, g2]; rfl))
            clear g1 g2 hbr
            go_wp2_with fail
            refine rk_region (by kernel_rfl) (by kernel_rfl) ?_
            repeat (go_big_quiet_step (first | (with_reducible exact in_kept G1.out _) | (with_reducible exact in_kept G2.out _) | fail))
            refine wpQuiet_nil ?_
            rintro _ ⟨⟨wz, hbz⟩, rfl⟩
            have BZ := Lib.hid (HBR.out.trans (hbz.mono HBR.out.size))
            clear c0 c1 hbz
            go_wp2_with fail
            exact ⟨⟨k + 1, by omega, by go_num, YES.out HF.out, BZ.out⟩, by simp [intOf]; omega⟩
    · have hke : k = n := by omega
      have hk1 : ¬ (k : Int) < (n : Int) := by omega
      clear hbr hall
      have hgo : Hid (cuGo (-1, 0) xs = true) := Lib.hid (cuGo_iff.2 fun j x hj => HALL.out j x (by have := (List.getElem?_eq_some_iff.1 hj).1; rw [HL.out] at this; omega) hj)
      go_wp2_with (first
        | (go_at_call 74; refine (in_any _ _ _ _).mono ?_; rintro e w' ⟨rfl, rfl⟩)
        | fail)
      go_ret
      exact ⟨by rw [HP.out, hgo.out, Bool.and_true]; rfl, HBR.out⟩
set_option maxRecDepth 100000 in
set_option maxHeartbeats 2000000 in
theorem cured_any (p : Pil) (lo hi : Int) (A : Option Addr) (n c : Nat) (xs : List (Int × Int)) (w : World) (hl : xs.length = n) (hn : n ≤ maxLen) (hA : PrsAt w w.heap.size A xs) :
    Calls Tryz.prog 51 #[pilV p, .agg #[.int .i64 lo, .int .i64 hi], .slice A n c] w fun e w' => e = .returned (.bool (pilB p && withinB 0 lo hi 50000 && cureB xs)) ∧ Below w.heap.size w w' := by
  have HL := Lib.hid hl
  have HN := Lib.hid hn
  have HA := Lib.hid hA
  obtain ⟨d, pp, s, l, h, g, co⟩ := p
  obtain ⟨z0, z1, hb0⟩ := two_boxes w (.cells #[.int .i64 d, .int .i64 pp, .int .i64 s, .int .i64 l, .int .i64 h, .int .i64 g, .int .i64 co] 45) (.cells #[.int .i64 lo, .int .i64 hi] 42)
  obtain ⟨w1, hw1⟩ : ∃ z, (w.alloc (.cells #[.int .i64 d, .int .i64 pp, .int .i64 s, .int .i64 l, .int .i64 h, .int .i64 g, .int .i64 co] 45)).alloc (.cells #[.int .i64 lo, .int .i64 hi] 42) = z := ⟨_, rfl⟩
  rw [hw1] at z0 z1 hb0
  have Z1 := Lib.hid z1; have HB1 := Lib.hid hb0
  obtain ⟨p0, p1, p2, p3, p4, p5, p6⟩ := pil_box z0
  clear z0 z1 hb0 hA hl hn
  go_enter Tryz.func51, Tryz.ntmps51
  go_wp2_with fail
  refine (refPile_any ⟨d, pp, s, l, h, g, co⟩ _).mono ?_
  rintro e w2 ⟨rfl, hb⟩
  have HB2 := Lib.hid (HB1.out.trans (hb.mono HB1.out.size))
  have y1 := (hb.block _ (heapsz Z1.out)).trans Z1.out
  clear hb p0 p1 p2 p3 p4 p5 p6
  obtain ⟨t0, t1⟩ := span_box y1
  clear y1
  cases h1 : pilB ⟨d, pp, s, l, h, g, co⟩ with
  | false =>
    go_wp2_with fail
    go_ret
    exact ⟨by rw [h1]; rfl, HB2.out⟩
  | true =>
    go_wp2_with fail
    refine (thaw_any lo hi _).mono ?_
    rintro e w3 ⟨rfl, hb⟩
    have HB3 := Lib.hid (HB2.out.trans (hb.mono HB2.out.size))
    clear hb t0 t1
    cases h2 : withinB 0 lo hi 50000 with
    | false =>
      go_wp2_with fail
      go_ret
      exact ⟨by rw [h1, h2]; rfl, HB3.out⟩
    | true =>
      go_wp2_with fail
      refine (refCure_any A n c xs _ HL.out HN.out (HA.out.up HB3.out)).mono ?_
      rintro e w4 ⟨rfl, hb⟩
      have HB4 := Lib.hid (HB3.out.trans (hb.mono HB3.out.size))
      clear hb
      go_wp2_with fail
      go_ret
      exact ⟨by rw [h1, h2]; rfl, HB4.out⟩
end Go.Proofs.YtdlaphlpimlgdaaGreatDoor
