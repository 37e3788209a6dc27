/- Stores: lists of goods that are equal, by the statements' package. Stores: the store of the examples. Stores: the rows of the examples: what the models say, and what the statements' package finds. Stores: the rows of the examples are as the document says. -/
import Derived.Test.YtijjkiogmlannaaDoorWR
import Derived.Deep.QuietTactic
import Derived.BigQuiet
namespace Go.Proofs.YtijjkiogmlannaaDoor
open Go.RowKit

theorem eq_go {g h : Gd} (w : World) : (Op.equalIn 10000 23 (.agg #[.int .i64 g.a, .int .i64 g.b, .int .i64 g.c]) (.agg #[.int .i64 h.a, .int .i64 h.b, .int .i64 h.c])).run Tryd.prog w = .ok (decide (g = h)) w := by
  refine (eq23 g h w).trans ?_
  congr 1
  rw [Bool.eq_iff_iff, decide_eq_true_eq]
  simp only [Bool.and_eq_true, beq_iff_eq]
  exact ⟨fun ⟨h0, h1, h2⟩ => Gd.eq h0 h1 h2, fun e => by subst e; exact ⟨rfl, rfl, rfl⟩⟩
set_option maxRecDepth 100000 in
set_option maxHeartbeats 2000000 in
theorem sameGoods_any (A A2 : Option Addr) (n m c c' : Nat) (xs ys : List Gd) (w : World) (hl : xs.length = n) (hl2 : ys.length = m) (hn : n ≤ maxLen) (hn2 : m ≤ maxLen) (hX : GdsAt w w.heap.size A xs) (hY : GdsAt w w.heap.size A2 ys) :
    Calls Tryd.prog 39 #[.slice A n c, .slice A2 m c'] w fun e w' => e = .returned (.bool (decide (xs = ys))) ∧ Below w.heap.size w w' := by
  unfold maxLen at hn hn2
  have HL := Lib.hid hl; have HL2 := Lib.hid hl2
  clear hl hl2
  by_cases hnm : n = m
  · subst hnm
    have HX := Lib.hid hX; have HY := Lib.hid hY
    clear hX hY
    go_enter Tryd.func39, Tryd.ntmps39
    go_wp2
    go_loopw [5] (fun i wr => ∃ k : Nat, k ≤ n ∧ i = .int .i64 k ∧ xs.take k = ys.take k ∧ Below w.heap.size w wr) (fun i _ => n - (intOf i).toNat)
    case atStart => exact ⟨0, Nat.zero_le _, rfl, by simp, Below.refl _ _⟩
    case round =>
      obtain ⟨k, hk, rfl, hall, hbr⟩ := hrel
      have HA := Lib.hid hall; clear hall
      have hz := hbr.size
      by_cases hlt : k < n
      · obtain ⟨x, hx⟩ := get_of_lt (l := xs) (k := k) (by rw [HL.out]; exact hlt)
        obtain ⟨y, hy⟩ := get_of_lt (l := ys) (k := k) (by rw [HL2.out]; exact hlt)
        obtain ⟨b1, o1, rfl, hb1, c0, c1, c2⟩ := gds_el HX.out hx
        obtain ⟨b2, o2, rfl, hb2, e0, e1, e2⟩ := gds_el HY.out hy
        replace c0 := ((bcell hbr).1 _ _ hb1).trans c0
        replace c1 := ((bcell hbr).1 _ _ hb1).trans c1
        replace c2 := ((bcell hbr).1 _ _ hb1).trans c2
        replace e0 := ((bcell hbr).1 _ _ hb2).trans e0
        replace e1 := ((bcell hbr).1 _ _ hb2).trans e1
        replace e2 := ((bcell hbr).1 _ _ hb2).trans e2
        have KX := Lib.hid hx; have KY := Lib.hid hy
        clear hx hy
        have hg : Tryd.prog.eqGuardType Tryd.prog.depth 23 = false := by kernel_rfl
        have q23 := fun w => eq_go (g := x) (h := y) w
        obtain ⟨x0, x1, x2⟩ := x
        obtain ⟨y0, y1, y2⟩ := y
        simp only at c0 c1 c2 e0 e1 e2 q23
        by_cases he : (⟨x0, x1, x2⟩ : Gd) = ⟨y0, y1, y2⟩
        · simp only [decide_eq_true he] at q23
          have HE := Lib.hid he
          clear he
          go_wp2
          go_quiet (fail)
          go_wp2
          go_roundw
          case rel => exact ⟨k + 1, by omega, by go_num, take_eq_succ KX.out (KY.out.trans (congrArg some HE.out.symm)) HA.out, belN hbr _⟩
          case measure => simp [intOf]; omega
        · simp only [decide_eq_false he] at q23
          have HNE := Lib.hid he
          clear he
          go_wp2
          go_quiet (fail)
          go_wp2
          go_ret
          exact ⟨ret_bool (decide_eq_false (list_ne_of_get KX.out KY.out HNE.out)).symm, belN hbr _⟩
      · have hkn : k = n := by omega
        have HKN := Lib.hid hkn
        clear hkn
        go_wp2
        go_ret
        refine ⟨ret_bool (decide_eq_true ?_).symm, hbr⟩
        have h := HA.out
        rwa [List.take_of_length_le (by have := HL.out; have := HKN.out; omega), List.take_of_length_le (by have := HL2.out; have := HKN.out; omega)] at h
  · have hne : ¬ xs = ys := fun h => hnm (by rw [← HL.out, ← HL2.out, h])
    have HNE := Lib.hid hne
    clear hne hX hY
    go_enter Tryd.func39, Tryd.ntmps39
    go_wp2
    go_ret
    exact ⟨ret_bool (decide_eq_false HNE.out).symm, Below.refl _ _⟩
end Go.Proofs.YtijjkiogmlannaaDoor

namespace Go.Proofs.YtijjkiogmlannaaDoor
open Go.RowKit

def exSh : List Shp := [⟨0, ⟨4, 2, 1⟩, 50⟩, ⟨1, ⟨2, 4, 1⟩, 40⟩, ⟨0, ⟨6, 6, 3⟩, 100⟩]
def exW : List Gd := [⟨1, 1, 0⟩, ⟨1, 1, 0⟩, ⟨1, 1, 0⟩, ⟨1, 1, 1⟩]
def exS : Sto := ⟨⟨2, 1, 0⟩, ⟨10, 8, 5⟩, 4, 4, 3, exSh, [[true, true, true], [false, true, true]], [exW]⟩
theorem shR_len (s : Shp) : (shR s).length = 5 := rfl
theorem boolR_len (b : Bool) : (boolR b).length = 1 := rfl
set_option maxRecDepth 100000 in
set_option maxHeartbeats 1000000 in
theorem exShips_any (w : World) : Calls Tryd.prog 38 #[] w fun e w' => e = .returned (.slice (some ⟨w.heap.size, 0, none⟩) 3 3) ∧ w.alloc (.cells (flatR shR exSh).toArray 44) = w' := by
  go_enter Tryd.func38, Tryd.ntmps38
  go_wp2_with fail
  go_ret
  exact ⟨rfl, rfl⟩
theorem sto_info : (Tryd.prog.info? 28).map (·.size) = some 12 := by kernel_rfl
abbrev zs28 : Array Value := #[.int .i64 0, .int .i64 0, .int .i64 0, .int .i64 0, .int .i64 0, .int .i64 0, .int .i64 0, .int .i64 0, .int .i64 0, .slice none 0 0, .slice none 0 0, .slice none 0 0]
theorem setCells_block {b : Nat} {T : TypeId} : ∀ (vs : List Value) (o : Nat) (w : World) (cs : Array Value), w.heap[b]? = some (.cells cs T (0, 0)) → (w.setCells b o vs).heap[b]? = some (.cells (vs.foldl (fun (a : Nat × Array Value) v => (a.1 + 1, a.2.setIfInBounds a.1 v)) (o, cs)).2 T (0, 0)) ∧ (∀ j, j ≠ b → (w.setCells b o vs).heap[j]? = w.heap[j]?) ∧ ∀ n, n ≤ b → Below n w (w.setCells b o vs)
  | [], _, w, _, h => ⟨h, fun _ _ => rfl, fun n _ => Below.refl n w⟩
  | v :: vs, o, w, cs, h => by
    obtain ⟨h1, h2, h3⟩ := setCells_block vs (o + 1) (w.setCell ⟨b, o, none⟩ v) _ (blk_set h o v)
    exact ⟨h1, fun j hj => (h2 j hj).trans (Below.heap_setCell _ _ _ _ hj), fun n hn => ((Below.refl n w).setCell (p := ⟨b, o, none⟩) hn v).trans (h3 n hn)⟩
set_option maxRecDepth 100000 in
set_option maxHeartbeats 2000000 in
theorem exStore_any (w : World) : Calls Tryd.prog 36 #[] w fun e w' => ∃ X : SX, e = .returned X.v ∧ X.S = exS ∧ X.In w' ∧ Below w.heap.size w w' := by
  obtain ⟨z0, z1, hb2⟩ := two_new w (.cells zs28 28) (.cells (flatR shR exSh).toArray 44)
  obtain ⟨w1, hw1⟩ : ∃ z, w.alloc (.cells zs28 28) = z := ⟨_, rfl⟩
  have hs1 : w1.heap.size = w.heap.size + 1 := by rw [← hw1]; simp
  rw [hw1] at z0 z1 hb2
  obtain ⟨w2, hw2⟩ : ∃ z, w1.alloc (.cells (flatR shR exSh).toArray 44) = z := ⟨_, rfl⟩
  rw [hw2] at z0 z1 hb2
  obtain ⟨⟨y0, y1, y2, y3, y4⟩, hb7⟩ := five_new w2 (.cells #[.bool true, .bool true, .bool true] 4) (.cells #[.bool false, .bool true, .bool true] 4) (.cells #[.slice (some ⟨w2.heap.size, 0, none⟩) 3 3, .slice (some ⟨w2.heap.size + 1, 0, none⟩) 3 3] 42) (.cells #[.int .i64 1, .int .i64 1, .int .i64 0, .int .i64 1, .int .i64 1, .int .i64 0, .int .i64 1, .int .i64 1, .int .i64 0, .int .i64 1, .int .i64 1, .int .i64 1] 23) (.cells #[.slice (some ⟨w2.heap.size + 1 + 1 + 1, 0, none⟩) 4 4] 33)
  obtain ⟨w7, hw7⟩ : ∃ z, ((((w2.alloc (.cells #[.bool true, .bool true, .bool true] 4)).alloc (.cells #[.bool false, .bool true, .bool true] 4)).alloc (.cells #[.slice (some ⟨w2.heap.size, 0, none⟩) 3 3, .slice (some ⟨w2.heap.size + 1, 0, none⟩) 3 3] 42)).alloc (.cells #[.int .i64 1, .int .i64 1, .int .i64 0, .int .i64 1, .int .i64 1, .int .i64 0, .int .i64 1, .int .i64 1, .int .i64 0, .int .i64 1, .int .i64 1, .int .i64 1] 23)).alloc (.cells #[.slice (some ⟨w2.heap.size + 1 + 1 + 1, 0, none⟩) 4 4] 33) = z := ⟨_, rfl⟩
  rw [hw7] at y0 y1 y2 y3 y4 hb7
  have k0 := (hb7.block _ (heapsz z0)).trans z0
  have k1 := (hb7.block _ (heapsz z1)).trans z1
  obtain ⟨X, hX⟩ : ∃ X : SX, X = ⟨exS, some ⟨w.heap.size + 1, 0, none⟩, 3, 3, some ⟨w2.heap.size + 1 + 1, 0, none⟩, 2, 2, some ⟨w2.heap.size + 1 + 1 + 1 + 1, 0, none⟩, 1, 1⟩ := ⟨_, rfl⟩
  have ht : w7.there w.heap.size 0 12 := fun j hj => by
    have hc := cell_of_row w7 w.heap.size j _ 28 (0, 0) k0
    have hf : w7.frozen? ⟨w.heap.size, j, none⟩ = false := by simp [World.frozen?, k0]
    rw [Nat.zero_add, hc, hf]
    refine ⟨?_, rfl⟩
    rw [Array.getElem?_eq_getElem (by simpa using hj)]
    rfl
  obtain ⟨w8, hw8⟩ : ∃ z, w7.setCells w.heap.size 0 (X.cells).toList = z := ⟨_, rfl⟩
  obtain ⟨z8, o8, hb8⟩ := setCells_block (X.cells).toList 0 w7 _ k0
  rw [hw8] at z8 o8 hb8
  have hBF : Below w.heap.size w w8 := (hb2.trans (hb7.mono hb2.size)).trans (hb8 _ (Nat.le_refl _))
  have hs2 : w2.heap.size = w.heap.size + 1 + 1 := by rw [← hw2]; simp [hs1]
  have hIn : X.In w8 := by
    have hsz : w2.heap.size + 1 + 1 + 1 + 1 < w8.heap.size := by have := heapsz y4; have := (hb8 0 (Nat.zero_le _)).size; omega
    have n1 := (o8 (w.heap.size + 1) (by omega)).trans k1
    have n3 := (o8 (w2.heap.size) (by omega)).trans y0
    have n4 := (o8 (w2.heap.size + 1) (by omega)).trans y1
    have n5 := (o8 (w2.heap.size + 1 + 1) (by omega)).trans y2
    have n6 := (o8 (w2.heap.size + 1 + 1 + 1) (by omega)).trans y3
    have n7 := (o8 (w2.heap.size + 1 + 1 + 1 + 1) (by omega)).trans y4
    subst hX
    refine ⟨rfl, rfl, rfl, by show 3 ≤ _; decide, by show 2 ≤ _; decide, by show 1 ≤ _; decide, rowAt_block shR_len n1 (by omega), fun _ => ⟨_, 0, rfl, by omega, fun i x hx => ?_⟩, fun _ => ⟨_, 0, rfl, by omega, fun i x hx => ?_⟩⟩
    · have hi2 : i < 2 := (List.getElem?_eq_some_iff.1 hx).1
      rcases (show i = 0 ∨ i = 1 by omega) with rfl | rfl
      · have e : [true, true, true] = x := by simpa [exS] using hx
        subst e
        exact ⟨some ⟨w2.heap.size, 0, none⟩, 3, cell_of_row w8 _ 0 _ 42 (0, 0) n5, rowAt_block (xs := [true, true, true]) boolR_len n3 (by omega), by decide, by decide⟩
      · have e : [false, true, true] = x := by simpa [exS] using hx
        subst e
        exact ⟨some ⟨w2.heap.size + 1, 0, none⟩, 3, cell_of_row w8 _ 1 _ 42 (0, 0) n5, rowAt_block (xs := [false, true, true]) boolR_len n4 (by omega), by decide, by decide⟩
    · have hi1 : i < 1 := (List.getElem?_eq_some_iff.1 hx).1
      have hi0 : i = 0 := by omega
      subst hi0
      have e : exW = x := by simpa [exS] using hx
      subst e
      exact ⟨some ⟨w2.heap.size + 1 + 1 + 1, 0, none⟩, 4, cell_of_row w8 _ 0 _ 33 (0, 0) n7, rowAt_block (xs := exW) gR_len n6 (by omega), by decide, by decide⟩
  have z9 : w8.heap[w.heap.size]? = some (.cells X.cells 28 (0, 0)) := by
    rw [z8]
    refine congrArg (fun c => some (Obj.cells c 28 (0, 0))) ?_
    clear z8 hIn hBF ht k0
    obtain ⟨S, a1, a2, a3, b1, b2, b3, c1, c2, c3⟩ := X
    simp [SX.cells]
  have HW1 := Lib.hid hw1; have HS1 := Lib.hid hs1; have HW2 := Lib.hid hw2; have HW7 := Lib.hid hw7; have HT := Lib.hid ht; have HW8 := Lib.hid hw8; have HIN := Lib.hid hIn; have HBF := Lib.hid hBF; have HZ9 := Lib.hid z9
  subst hX
  clear z0 z1 hb2 y0 y1 y2 y3 y4 hb7 k0 k1 z8 o8 hb8 hs2 hIn hBF z9 hw1 hs1 hw2 hw7 ht hw8
  go_enter Tryd.func36, Tryd.ntmps36
  go_wp2_with fail
  rw [HW1.out]
  refine (exShips_any w1).mono ?_
  rintro e w' ⟨rfl, rfl⟩
  rw [HW2.out, HS1.out]
  go_wp2_with (first
    | (rw [HW7.out]; refine wpList_store_mid rfl 28 _ _ rfl w.heap.size 0 (SX.cells ⟨exS, some ⟨w.heap.size + 1, 0, none⟩, 3, 3, some ⟨w2.heap.size + 1 + 1, 0, none⟩, 2, 2, some ⟨w2.heap.size + 1 + 1 + 1 + 1, 0, none⟩, 1, 1⟩) (by rfl) (by rfl) HT.out sto_info (all_oneCell_toArray (cs := (SX.cells ⟨exS, some ⟨w.heap.size + 1, 0, none⟩, 3, 3, some ⟨w2.heap.size + 1 + 1, 0, none⟩, 2, 2, some ⟨w2.heap.size + 1 + 1 + 1 + 1, 0, none⟩, 1, 1⟩).toList) (fun v hm => by simp at hm; rcases hm with rfl | rfl | rfl | rfl | rfl | rfl | rfl | rfl | rfl | rfl | rfl | rfl <;> rfl)) ?_; rw [HW8.out])
    | fail)
  have c := fun k => cell_of_row w8 w.heap.size k _ 28 (0, 0) HZ9.out
  have c0 := c 0; have c1 := c 1; have c2 := c 2; have c3 := c 3; have c4 := c 4; have c5 := c 5; have c6 := c 6; have c7 := c 7; have c8 := c 8; have c9 := c 9; have c10 := c 10; have c11 := c 11
  simp at c0 c1 c2 c3 c4 c5 c6 c7 c8 c9 c10 c11
  exact bodyPost_ret (v := SX.v ⟨exS, some ⟨w.heap.size + 1, 0, none⟩, 3, 3, some ⟨w2.heap.size + 1 + 1, 0, none⟩, 2, 2, some ⟨w2.heap.size + 1 + 1 + 1 + 1, 0, none⟩, 1, 1⟩) (by simp [results, Tryd.results36, go_sem, c0, c1, c2, c3, c4, c5, c6, c7, c8, c9, c10, c11]) rfl ⟨_, rfl, rfl, HIN.out, HBF.out⟩
end Go.Proofs.YtijjkiogmlannaaDoor

namespace Go.Proofs.YtijjkiogmlannaaDoor
open Go.RowKit

theorem ex_ask : askB exS 2 0 0 = true := by decide +kernel
theorem ex_stocks : (exS.run 2 (exS.ices.getD 0 []) (exS.wins.getD 0 [])).stocks = [⟨1, 0, 0⟩, ⟨2, 1, 0⟩, ⟨1, 2, 1⟩, ⟨0, 1, 0⟩] := by decide +kernel
theorem ex_fault0 : (stoB exS && planOk exS 1) = true ∧ ((exS.fault 1).map fun f => (f.i, f.n, f.w, f.k)) = some (0, 0, 3, 1) := by decide +kernel
theorem ex_fault : fauV exS 1 = (.agg #[.bool true, .int .i64 0, .int .i64 0, .int .i64 3, .int .i64 1], 0) := by
  obtain ⟨h1, h2⟩ := ex_fault0
  unfold fauV
  rw [h1, if_pos rfl]
  show (fltO (exS.fault 1), (0 : Int)) = _
  cases hf : exS.fault 1 with
  | none => rw [hf] at h2; cases h2
  | some f =>
    obtain ⟨i, n, w, k⟩ := f
    rw [hf] at h2
    simp at h2
    obtain ⟨rfl, rfl, rfl, rfl⟩ := h2
    rfl
theorem ex_first : fstI exS 1 = (1, 1, 0) := by decide +kernel
theorem ex_best : bstI exS = (2, 40, 0) := by decide +kernel
theorem ex_floor : floI exS 0 ⟨0, 10, 0⟩ = (30, 0) := by decide +kernel
theorem ex_print : prtR exSh = ([115, 104, 105, 112, 32, 48, 32, 48, 32, 53, 48, 32, 52, 32, 50, 32, 49, 10, 115, 104, 105, 112, 32, 49, 32, 49, 32, 52, 48, 32, 50, 32, 52, 32, 49, 10, 115, 104, 105, 112, 32, 50, 32, 48, 32, 49, 48, 48, 32, 54, 32, 54, 32, 51, 10, 101, 110, 100, 32, 51, 32, 51, 52, 10], 0) := by decide +kernel
theorem eq48 (w : World) : (Op.equalIn 10000 48 (.agg #[.bool true, .int .i64 0, .int .i64 0, .int .i64 3, .int .i64 1]) (.agg #[.bool true, .int .i64 0, .int .i64 0, .int .i64 3, .int .i64 1])).run Tryd.prog w = .ok true w := by
  have u3 := Tryd.underlying3
  have a3 := Tryd.isAgg3
  have z3 := Tryd.sizeOf3
  have u4 := Tryd.underlying4
  have a4 := Tryd.isAgg4
  have z4 := Tryd.sizeOf4
  have hS : Tryd.prog.underlying 48 = some (.struct (Tryd.prog.fieldsOf 48)) := by kernel_rfl
  have hp : Tryd.prog.stoodInHeld 48 = false := by kernel_rfl
  rw [show (10000 : Nat) = 9999 + 1 from rfl, run_equalIn_agg w 9999 48 _ _ hS hp]
  simp only [Program.fieldsOf, Tryd.underlying48]
  go_simp
theorem run_ex {X : SX} {w : World} (h : X.In w) (hs : X.S = exS) : Calls Tryd.prog 15 #[X.v, .int .i64 2, .int .i64 0, .int .i64 0] w fun e w' => ∃ D A2 c2 A3 n3 c3, e = .returned (.tuple #[.agg #[.slice (some ⟨D, 0, none⟩) X.ns X.ns, .slice A2 4 c2, .slice A3 n3 c3], .int .i64 0]) ∧ Below w.heap.size w w' ∧ GdsAt w' w'.heap.size A2 [⟨1, 0, 0⟩, ⟨2, 1, 0⟩, ⟨1, 2, 1⟩, ⟨0, 1, 0⟩] := by
  refine (Run_any h 2 0 0).mono ?_
  rintro e w' ⟨hb, hx⟩
  rw [hs] at hx
  rcases hx with ⟨h1, _⟩ | ⟨_, D, A2, c2, A3, c3, rfl, _, g2, _⟩
  · rw [ex_ask] at h1; cases h1
  · rw [show (2 : Int).toNat = 2 from rfl, show (0 : Int).toNat = 0 from rfl, ex_stocks] at g2 ⊢
    exact ⟨D, A2, c2, A3, _, c3, rfl, hb, g2⟩
theorem fault_ex {X : SX} {w : World} (h : X.In w) (hs : X.S = exS) : Calls Tryd.prog 24 #[X.v, .int .i64 1] w fun e w' => e = .returned (.tuple #[.agg #[.bool true, .int .i64 0, .int .i64 0, .int .i64 3, .int .i64 1], .int .i64 0]) ∧ Below w.heap.size w w' := by
  have := Fault_any h 1
  rw [hs, ex_fault] at this
  exact this
theorem first_ex {X : SX} {w : World} (h : X.In w) (hs : X.S = exS) : Calls Tryd.prog 25 #[X.v, .int .i64 1] w fun e w' => e = .returned (.tuple #[.int .i64 1, .int .i64 1, .int .i64 0]) ∧ Below w.heap.size w w' := by
  have := First_any h 1
  rw [hs, ex_first] at this
  exact this
theorem best_ex {X : SX} {w : World} (h : X.In w) (hs : X.S = exS) : Calls Tryd.prog 28 #[X.v] w fun e w' => e = .returned (.tuple #[.int .i64 2, .int .i64 40, .int .i64 0]) ∧ Below w.heap.size w w' := by
  have := Best_any h
  rw [hs, ex_best] at this
  exact this
theorem floor_ex {X : SX} {w : World} (h : X.In w) (hs : X.S = exS) : Calls Tryd.prog 31 #[X.v, .int .i64 0, .agg #[.int .i64 0, .int .i64 10, .int .i64 0]] w fun e w' => e = .returned (.tuple #[.int .i64 30, .int .i64 0]) ∧ Below w.heap.size w w' := by
  have := Floor_any h 0 ⟨0, 10, 0⟩
  rw [hs, ex_floor] at this
  exact this
abbrev exT : ByteArray := ⟨#[115, 104, 105, 112, 32, 48, 32, 48, 32, 53, 48, 32, 52, 32, 50, 32, 49, 10, 115, 104, 105, 112, 32, 49, 32, 49, 32, 52, 48, 32, 50, 32, 52, 32, 49, 10, 115, 104, 105, 112, 32, 50, 32, 48, 32, 49, 48, 48, 32, 54, 32, 54, 32, 51, 10, 101, 110, 100, 32, 51, 32, 51, 52, 10]⟩
theorem print_ex {A : Option Addr} {w : World} (hA : ShsAt w w.heap.size A exSh) (ht : Tab w) : Calls Tryd.prog 37 #[.slice A 3 3] w fun e w' => e = .returned (.tuple #[.string exT, .int .i64 0]) ∧ Below w.heap.size w w' := by
  have := Print_any A 3 3 exSh w rfl (by decide) hA ht
  rw [ex_print] at this
  exact this
end Go.Proofs.YtijjkiogmlannaaDoor

namespace Go.Proofs.YtijjkiogmlannaaDoor
open Go.RowKit

set_option maxRecDepth 100000 in
set_option maxHeartbeats 8000000 in
theorem known_any (w : World) (ht : Tab w) : Calls Tryd.prog 13 #[] w fun e w' => e = .returned (.bool true) ∧ Below w.heap.size w w' := by
  have HT := Lib.hid ht; clear ht
  go_enter Tryd.func13, Tryd.ntmps13
  go_wp2_with fail
  refine (exStore_any _).mono ?_
  rintro e w1 ⟨X1, rfl, h1, i1, b1⟩
  have B1 := Lib.hid b1; have R1 := Lib.hid (run_ex i1 h1); clear h1 i1 b1
  go_wp2_with fail
  refine R1.out.mono ?_
  rintro e w2 ⟨D, A2, c2, A3, n3, c3, rfl, b2, g2⟩
  obtain ⟨W2, hW2⟩ : ∃ W, w2.alloc (.cells #[.slice (some ⟨D, 0, none⟩) X1.ns X1.ns, .slice A2 4 c2, .slice A3 n3 c3] 35) = W := ⟨_, rfl⟩
  have z2 := heap_alloc_new w2 (.cells #[.slice (some ⟨D, 0, none⟩) X1.ns X1.ns, .slice A2 4 c2, .slice A3 n3 c3] 35)
  have a2 := (Below.refl w2.heap.size w2).alloc (Nat.le_refl _) (.cells #[.slice (some ⟨D, 0, none⟩) X1.ns X1.ns, .slice A2 4 c2, .slice A3 n3 c3] 35)
  rw [hW2] at z2 a2
  have HW2 := Lib.hid hW2; have Z2 := Lib.hid z2; have B2 := Lib.hid (B1.out.trans ((b2.trans (a2.mono b2.size)).mono B1.out.size)); have G2 := Lib.hid (RowAt.up (k := 3) (R := gR) g2 a2)
  clear b2 g2 z2 a2 hW2 R1 B1
  go_wp2_with fail
  rw [HW2.out]
  refine (exStore_any _).mono ?_
  rintro e w3 ⟨X2, rfl, h1, i1, b1⟩
  have C3 := Lib.hid b1; have R1 := Lib.hid (fault_ex i1 h1); clear h1 i1 b1
  go_wp2_with fail
  refine R1.out.mono ?_
  rintro e w4 ⟨rfl, b2⟩
  obtain ⟨W4, hW4⟩ : ∃ W, w4.alloc (.cells #[.bool true, .int .i64 0, .int .i64 0, .int .i64 3, .int .i64 1] 48) = W := ⟨_, rfl⟩
  have z4 := heap_alloc_new w4 (.cells #[.bool true, .int .i64 0, .int .i64 0, .int .i64 3, .int .i64 1] 48)
  have a4 := (Below.refl w4.heap.size w4).alloc (Nat.le_refl _) (.cells #[.bool true, .int .i64 0, .int .i64 0, .int .i64 3, .int .i64 1] 48)
  rw [hW4] at z4 a4
  have HW4 := Lib.hid hW4; have Z4 := Lib.hid z4; have C4 := Lib.hid (C3.out.trans ((b2.trans (a4.mono b2.size)).mono C3.out.size))
  clear b2 z4 a4 hW4 R1 C3
  go_wp2_with fail
  rw [HW4.out]
  refine (exStore_any _).mono ?_
  rintro e w5 ⟨X3, rfl, h1, i1, b1⟩
  have C5 := Lib.hid b1; have R1 := Lib.hid (first_ex i1 h1); clear h1 i1 b1
  go_wp2_with fail
  refine R1.out.mono ?_
  rintro e w6 ⟨rfl, b2⟩
  have C6 := Lib.hid (C5.out.trans (b2.mono C5.out.size)); clear b2 R1 C5
  go_wp2_with fail
  refine (exStore_any _).mono ?_
  rintro e w7 ⟨X4, rfl, h1, i1, b1⟩
  have C7 := Lib.hid (C6.out.trans (b1.mono C6.out.size)); have R1 := Lib.hid (best_ex i1 h1); clear h1 i1 b1 C6
  go_wp2_with fail
  refine R1.out.mono ?_
  rintro e w8 ⟨rfl, b2⟩
  have C8 := Lib.hid (C7.out.trans (b2.mono C7.out.size)); clear b2 R1 C7
  go_wp2_with fail
  refine (exStore_any _).mono ?_
  rintro e w9 ⟨X5, rfl, h1, i1, b1⟩
  have C9 := Lib.hid (C8.out.trans (b1.mono C8.out.size)); have R1 := Lib.hid (floor_ex i1 h1); clear h1 i1 b1 C8
  go_wp2_with fail
  refine R1.out.mono ?_
  rintro e w10 ⟨rfl, b2⟩
  have C10 := Lib.hid (C9.out.trans (b2.mono C9.out.size)); clear b2 R1 C9
  go_wp2_with fail
  refine (exShips_any _).mono ?_
  rintro e w11 ⟨rfl, hw11⟩
  have z11 := heap_alloc_new w10 (.cells (flatR shR exSh).toArray 44)
  have a11 := (Below.refl w10.heap.size w10).alloc (Nat.le_refl _) (.cells (flatR shR exSh).toArray 44)
  rw [hw11] at z11 a11
  have C11 := Lib.hid (C10.out.trans (a11.mono C10.out.size))
  have R1 := Lib.hid (print_ex (A := some ⟨w10.heap.size, 0, none⟩) (w := w11) (rowAt_block shR_len z11 (heapsz z11)) (HT.out.next (B2.out.trans ((C4.out.trans (C11.out.mono C4.out.size)).mono B2.out.size))))
  clear z11 a11 hw11 C10
  go_wp2_with fail
  refine R1.out.mono ?_
  rintro e w12 ⟨rfl, b2⟩
  have C12 := Lib.hid (C11.out.trans (b2.mono C11.out.size)); clear b2 R1 C11
  have F12 := Lib.hid (C4.out.trans (C12.out.mono C4.out.size))
  have k35 := cell_of_row w12 w2.heap.size 1 _ 35 (0, 0) ((F12.out.block _ (heapsz Z2.out)).trans Z2.out)
  simp at k35
  obtain ⟨W13, hW13⟩ : ∃ W, w12.alloc (.cells #[.int .i64 1, .int .i64 0, .int .i64 0, .int .i64 2, .int .i64 1, .int .i64 0, .int .i64 1, .int .i64 2, .int .i64 1, .int .i64 0, .int .i64 1, .int .i64 0] 23) = W := ⟨_, rfl⟩
  have z13 := heap_alloc_new w12 (.cells #[.int .i64 1, .int .i64 0, .int .i64 0, .int .i64 2, .int .i64 1, .int .i64 0, .int .i64 1, .int .i64 2, .int .i64 1, .int .i64 0, .int .i64 1, .int .i64 0] 23)
  have a13 := (Below.refl w12.heap.size w12).alloc (Nat.le_refl _) (.cells #[.int .i64 1, .int .i64 0, .int .i64 0, .int .i64 2, .int .i64 1, .int .i64 0, .int .i64 1, .int .i64 2, .int .i64 1, .int .i64 0, .int .i64 1, .int .i64 0] 23)
  rw [hW13] at z13 a13
  have HW13 := Lib.hid hW13
  have F13 := Lib.hid (F12.out.trans (a13.mono F12.out.size))
  have HSG := Lib.hid (sameGoods_any A2 (some ⟨w12.heap.size, 0, none⟩) 4 4 c2 4 [⟨1, 0, 0⟩, ⟨2, 1, 0⟩, ⟨1, 2, 1⟩, ⟨0, 1, 0⟩] [⟨1, 0, 0⟩, ⟨2, 1, 0⟩, ⟨1, 2, 1⟩, ⟨0, 1, 0⟩] W13 rfl rfl (by decide) (by decide) (RowAt.up (k := 3) (R := gR) G2.out F13.out) (rowAt_block (xs := [⟨1, 0, 0⟩, ⟨2, 1, 0⟩, ⟨1, 2, 1⟩, ⟨0, 1, 0⟩]) gR_len z13 (heapsz z13)))
  rw [decide_eq_true rfl] at HSG
  have C13 := Lib.hid (C12.out.trans (a13.mono C12.out.size))
  clear z13 a13 hW13
  go_wp2_with fail
  rw [HW13.out]
  refine HSG.out.mono ?_
  rintro e w14 ⟨rfl, b2⟩
  have C14 := Lib.hid (C13.out.trans (b2.mono C13.out.size))
  have HBF := Lib.hid (B2.out.trans ((C4.out.trans (C14.out.mono C4.out.size)).mono B2.out.size))
  obtain ⟨⟨y0, y1, y2, y3, y4⟩, _⟩ := box5_cells ((C14.out.block _ (heapsz Z4.out)).trans Z4.out)
  have q48 := eq48
  have hg48 : Tryd.prog.eqGuardType Tryd.prog.depth 48 = false := by kernel_rfl
  clear b2 k35 HSG
  go_wp2_with fail
  go_ret
  exact ⟨rfl, HBF.out⟩
end Go.Proofs.YtijjkiogmlannaaDoor
