/- The winter of a year, as the program goes through it. -/
import Derived.Test.YtccekbdhffccdaaDoorJ
namespace Go.Proofs.YtccekbdhffccdaaDoor
open Go.RowKit Go.Shelf
attribute [local go_sem ↓] Go.wp_at_zero Go.wp_at_succ

/-- What a winter leaves. -/
def WinterPost (w : World) (base g n : Nat) (lv v0 v1 v2 v3 v4 v5 v6 v7 v8 v11 v13 : Value) (xs : List Value) (R Lf Out : Int) (e : Ending) (w' : World) : Prop :=
  e = .returned (.tuple #[]) ∧ ∃ gt cap : Nat, FB w' g #[v0, v1, v2, v3, v4, v5, v6, v7, v8, .int .i64 R, .int .i64 Lf, v11, .int .i64 Out, v13, .slice (some ⟨gt, 0, none⟩) (n + 1) cap] ∧
    w'.ownsRow base 3 1 (.slice (some ⟨gt, 0, none⟩) (n + 1) cap) (n + 1) (xs ++ [.int .i64 Lf]) ∧ Frm w.heap.size g lv.ownBlock w w' ∧ (lv.ownBlock = some gt ∨ w.heap.size ≤ gt)

theorem news1 (E : World) (x : Value) (t : TypeId) : ∀ j u, [x][j]? = some u → ((E.alloc (.cells #[x] t)).drew).cell? ((⟨E.heap.size, 0, none⟩ : Addr).add j) = some u := cell_one_new E x t
theorem season_end2 {w E w3 : World} {g : Nat} {row : Option Nat} {O : Obj} {i : Nat} {u : Value} (h : Frm w.heap.size g row w E) (hs : E.heap.size = w.heap.size) (hg : ((E.alloc O).drew).grownBy w3 row) :
    Frm w.heap.size g row w (w3.setCell ⟨g, i, none⟩ u) := by
  have h2 : Below w.heap.size E ((E.alloc O).drew) := ((Below.refl w.heap.size E).alloc (by omega) O).drew
  exact (h.trans (Frm.of_below h2)).trans ((Frm.grown hg (by show w.heap.size ≤ (E.alloc O).heap.size; simp; omega)).trans (Frm.set_ _ i u))

set_option maxRecDepth 100000 in
set_option maxHeartbeats 2000000 in
theorem winter_warm (g bw ow cw bs os cs N y n base : Nat) (W S R Lf Out mo : Int) (lv v0 v1 v2 v3 v4 v5 v11 v13 : Value) (xs : List Value) (w : World)
    (hF : FB w g #[v0, v1, v2, v3, v4, v5, .slice (some ⟨bw, ow, none⟩) N cw, .slice (some ⟨bs, os, none⟩) N cs, .int .i64 mo, .int .i64 R, .int .i64 Lf, v11, .int .i64 Out, v13, lv])
    (hy : y < N) (_hbw : bw < w.heap.size) (_hbs : bs < w.heap.size) (_gbw : bw ≠ g) (_gbs : bs ≠ g)
    (cW : w.cell? ⟨bw, ow + y, none⟩ = some (.int .i64 W)) (cS : w.cell? ⟨bs, os + y, none⟩ = some (.int .i64 S)) (hW : 0 ≤ W ∧ W ≤ 1000000) (hS : 0 ≤ S ∧ S ≤ 1000) (hmo : 0 ≤ mo ∧ mo ≤ 1000000) (hLf : 0 ≤ Lf ∧ Lf ≤ 100000000) (hOut : 0 ≤ Out ∧ Out ≤ 100000000)
    (hown : w.ownsRow base 3 1 lv n xs) (hn : n ≤ 20) (hbase : base ≤ w.heap.size) (hlt : W * (1000 - S) / 1000 + mo < Lf) :
    Calls Tryd.prog 87 #[.pointer (some ⟨g, 0, none⟩), .int .i64 (y : Int)] w
      (WinterPost w base g n lv v0 v1 v2 v3 v4 v5 (.slice (some ⟨bw, ow, none⟩) N cw) (.slice (some ⟨bs, os, none⟩) N cs) (.int .i64 mo) v11 v13 xs
        R (Lf - (W * (1000 - S) / 1000 + mo)) (Out + (W * (1000 - S) / 1000 + mo))) := by
  obtain ⟨hW0, hW1⟩ := hW
  obtain ⟨hS0, hS1⟩ := hS
  obtain ⟨hM0, hM1⟩ := hmo
  obtain ⟨hL0, hL1⟩ := hLf
  obtain ⟨hI0, hI1⟩ := hOut
  obtain ⟨i0, hi0, hz0, hz1, hz2⟩ := info_parts int_info
  have HF := Lib.hid hF
  have hg := hF.lt
  have k6 := hF.cell 6
  have k7 := hF.cell 7
  have k8 := hF.cell 8
  have k9 := hF.cell 9
  have k10 := hF.cell 10
  have k12 := hF.cell 12
  have f9 := hF.frozen 9
  have f10 := hF.frozen 10
  have f12 := hF.frozen 12
  simp at k6 k7 k8 k9 k10 k12
  clear hF
  have HO := Lib.hid hown; clear hown
  have I0 := Lib.hid hi0; clear hi0
  have Z0 := Lib.hid hz0; clear hz0
  have Z1 := Lib.hid hz1; clear hz1
  have Z2 := Lib.hid hz2; clear hz2
  have hy0 : (0 : Int) ≤ (y : Int) := by omega
  have hy1 : (y : Int) < (N : Int) := by omega
  have hne := HF.out.ne_row HO.out
  have hp0 : 0 ≤ W * (1000 - S) := Int.mul_nonneg hW0 (by omega)
  have hp1 : W * (1000 - S) ≤ 1000000000 := Int.le_trans (Int.mul_le_mul hW1 (show 1000 - S ≤ 1000 by omega) (by omega) (by omega)) (by decide)
  have hz : (Lf - (W * (1000 - S) / 1000 + mo) == 0) = false := by rw [beq_eq_false_iff_ne]; omega
  go_enter Tryd.func87, Tryd.ntmps87
  go_wp2
  go_quiet (fail)
  go_wp2
  obtain ⟨E, hE⟩ : ∃ E, ((w.drewN nq).setCell ⟨g, 12, none⟩ (.int .i64 (Out + (W * (1000 - S) / 1000 + mo)))).setCell ⟨g, 10, none⟩ (.int .i64 (Lf - (W * (1000 - S) / 1000 + mo))) = E := ⟨_, rfl⟩
  rw [hE]
  have hFE : FB E g #[v0, v1, v2, v3, v4, v5, .slice (some ⟨bw, ow, none⟩) N cw, .slice (some ⟨bs, os, none⟩) N cs, .int .i64 mo, .int .i64 R, .int .i64 (Lf - (W * (1000 - S) / 1000 + mo)), v11, .int .i64 (Out + (W * (1000 - S) / 1000 + mo)), v13, lv] := by
    rw [← hE]
    exact (((show FB (w.drewN nq) g _ from HF.out).set_ 12 (.int .i64 (Out + (W * (1000 - S) / 1000 + mo)))).set_ 10 (.int .i64 (Lf - (W * (1000 - S) / 1000 + mo))))
  have hfE : ∀ row, Frm w.heap.size g row w E := fun row => by
    rw [← hE]
    have h0 : Frm w.heap.size g row w (w.drewN nq) := Frm.of_below ⟨rfl, rfl, rfl, Nat.le_refl _, fun _ _ => rfl⟩
    exact ((h0.trans (Frm.set_ _ 12 (.int .i64 (Out + (W * (1000 - S) / 1000 + mo))))).trans (Frm.set_ _ 10 (.int .i64 (Lf - (W * (1000 - S) / 1000 + mo)))))
  have hsE : E.heap.size = w.heap.size := by
    rw [← hE]
    simp [World.setCell, World.drewN]
  have hOE : E.ownsRow base 3 1 lv n xs := own_frm (row := some g) (g := g) HO.out (hfE (some g)) hne (.inr hne)
  clear hE k6 k7 k8 k9 k10 k12 f9 f10 f12 cW cS
  have k10 := hFE.cell 10
  have k14 := hFE.cell 14
  simp at k10 k14
  have hgE : g < E.heap.size := by omega
  have hbE : base ≤ E.heap.size := by omega
  have HS := Lib.hid hsE
  have HFE := Lib.hid hFE
  have HfE := Lib.hid hfE
  have HOE := Lib.hid hOE
  clear hsE hFE hfE hOE
  go_wp2_with fail
  go_region_law (first
      | (refine step_append_lies _ (by rfl) _ _ _ (by rfl) base 3 i0 _ 1 8 Tryd.underlying39 I0.out Z0.out Z1.out Z2.out rfl (by omega) lv n xs (by rfl) ((HOE.out.alloc _).drew)
           ⟨E.heap.size, 0, none⟩ 1 1 [.int .i64 (Lf - (W * (1000 - S) / 1000 + mo))] (by rfl) (by rfl) (news1 E _ _) (by simp [Value.oneCell']) (by omega) (by unfold maxLen; omega) (by omega) (by simp; omega) (E.heap.size + 1) (by simp) ?_
         intro gt cap w3 hown3 hgrow hat hlt3
         have hF3 : FB w3 g _ := (hgrow.block g (by simp; omega) (Ne.symm hne)).trans ((Below.heap_alloc E _ g hgE).trans HFE.out)
         have HF3 := Lib.hid hF3
         have hc14' : w3.cell? ⟨g, 14, none⟩ = some lv := by simpa using hF3.cell 14
         have hf14' : w3.frozen? ⟨g, 14, none⟩ = false := hF3.frozen 14
         have HO3 := Lib.hid hown3
         have HG := Lib.hid hgrow
         have HA := Lib.hid hat
         clear hF3 hown3 hgrow hat)
      | fail)
  all_goals
    go_end0
    exact ⟨rfl, gt, cap, HF3.out.set_ 14 _, own_frm (row := some g) (g := g) HO3.out (Frm.set_ _ 14 _) (HF3.out.ne_row HO3.out) (.inr (HF3.out.ne_row HO3.out)), season_end2 (HfE.out _) HS.out HG.out,
      HA.out.imp id (fun h => by rw [h, HS.out]; omega)⟩

set_option maxRecDepth 100000 in
set_option maxHeartbeats 2000000 in
theorem winter_cold (g bw ow cw bs os cs N y n base : Nat) (W S R Lf Out mo : Int) (lv v0 v1 v2 v3 v4 v5 v11 v13 : Value) (xs : List Value) (w : World)
    (hF : FB w g #[v0, v1, v2, v3, v4, v5, .slice (some ⟨bw, ow, none⟩) N cw, .slice (some ⟨bs, os, none⟩) N cs, .int .i64 mo, .int .i64 R, .int .i64 Lf, v11, .int .i64 Out, v13, lv])
    (hy : y < N) (_hbw : bw < w.heap.size) (_hbs : bs < w.heap.size) (_gbw : bw ≠ g) (_gbs : bs ≠ g)
    (cW : w.cell? ⟨bw, ow + y, none⟩ = some (.int .i64 W)) (cS : w.cell? ⟨bs, os + y, none⟩ = some (.int .i64 S)) (hW : 0 ≤ W ∧ W ≤ 1000000) (hS : 0 ≤ S ∧ S ≤ 1000) (hmo : 0 ≤ mo ∧ mo ≤ 1000000) (hLf : 0 ≤ Lf ∧ Lf ≤ 100000000) (hOut : 0 ≤ Out ∧ Out ≤ 100000000)
    (hown : w.ownsRow base 3 1 lv n xs) (hn : n ≤ 20) (hbase : base ≤ w.heap.size) (hlt : Lf < W * (1000 - S) / 1000 + mo) :
    Calls Tryd.prog 87 #[.pointer (some ⟨g, 0, none⟩), .int .i64 (y : Int)] w
      (WinterPost w base g n lv v0 v1 v2 v3 v4 v5 (.slice (some ⟨bw, ow, none⟩) N cw) (.slice (some ⟨bs, os, none⟩) N cs) (.int .i64 mo) v11 v13 xs
        0 0 (Out + Lf)) := by
  obtain ⟨hW0, hW1⟩ := hW
  obtain ⟨hS0, hS1⟩ := hS
  obtain ⟨hM0, hM1⟩ := hmo
  obtain ⟨hL0, hL1⟩ := hLf
  obtain ⟨hI0, hI1⟩ := hOut
  obtain ⟨i0, hi0, hz0, hz1, hz2⟩ := info_parts int_info
  have HF := Lib.hid hF
  have hg := hF.lt
  have k6 := hF.cell 6
  have k7 := hF.cell 7
  have k8 := hF.cell 8
  have k9 := hF.cell 9
  have k10 := hF.cell 10
  have k12 := hF.cell 12
  have f9 := hF.frozen 9
  have f10 := hF.frozen 10
  have f12 := hF.frozen 12
  simp at k6 k7 k8 k9 k10 k12
  clear hF
  have HO := Lib.hid hown; clear hown
  have I0 := Lib.hid hi0; clear hi0
  have Z0 := Lib.hid hz0; clear hz0
  have Z1 := Lib.hid hz1; clear hz1
  have Z2 := Lib.hid hz2; clear hz2
  have hy0 : (0 : Int) ≤ (y : Int) := by omega
  have hy1 : (y : Int) < (N : Int) := by omega
  have hne := HF.out.ne_row HO.out
  have hp0 : 0 ≤ W * (1000 - S) := Int.mul_nonneg hW0 (by omega)
  have hp1 : W * (1000 - S) ≤ 1000000000 := Int.le_trans (Int.mul_le_mul hW1 (show 1000 - S ≤ 1000 by omega) (by omega) (by omega)) (by decide)
  go_enter Tryd.func87, Tryd.ntmps87
  go_wp2
  go_quiet (fail)
  go_wp2
  obtain ⟨E, hE⟩ : ∃ E, (((w.drewN nq).setCell ⟨g, 12, none⟩ (.int .i64 (Out + Lf))).setCell ⟨g, 10, none⟩ (.int .i64 0)).setCell ⟨g, 9, none⟩ (.int .i64 0) = E := ⟨_, rfl⟩
  rw [hE]
  have hFE : FB E g #[v0, v1, v2, v3, v4, v5, .slice (some ⟨bw, ow, none⟩) N cw, .slice (some ⟨bs, os, none⟩) N cs, .int .i64 mo, .int .i64 0, .int .i64 0, v11, .int .i64 (Out + Lf), v13, lv] := by
    rw [← hE]
    exact ((((show FB (w.drewN nq) g _ from HF.out).set_ 12 (.int .i64 (Out + Lf))).set_ 10 (.int .i64 0)).set_ 9 (.int .i64 0))
  have hfE : ∀ row, Frm w.heap.size g row w E := fun row => by
    rw [← hE]
    have h0 : Frm w.heap.size g row w (w.drewN nq) := Frm.of_below ⟨rfl, rfl, rfl, Nat.le_refl _, fun _ _ => rfl⟩
    exact (((h0.trans (Frm.set_ _ 12 (.int .i64 (Out + Lf)))).trans (Frm.set_ _ 10 (.int .i64 0))).trans (Frm.set_ _ 9 (.int .i64 0)))
  have hsE : E.heap.size = w.heap.size := by
    rw [← hE]
    simp [World.setCell, World.drewN]
  have hOE : E.ownsRow base 3 1 lv n xs := own_frm (row := some g) (g := g) HO.out (hfE (some g)) hne (.inr hne)
  clear hE k6 k7 k8 k9 k10 k12 f9 f10 f12 cW cS
  have k10 := hFE.cell 10
  have k14 := hFE.cell 14
  simp at k10 k14
  have hgE : g < E.heap.size := by omega
  have hbE : base ≤ E.heap.size := by omega
  have HS := Lib.hid hsE
  have HFE := Lib.hid hFE
  have HfE := Lib.hid hfE
  have HOE := Lib.hid hOE
  clear hsE hFE hfE hOE
  go_wp2_with fail
  go_region_law (first
      | (refine step_append_lies _ (by rfl) _ _ _ (by rfl) base 3 i0 _ 1 8 Tryd.underlying39 I0.out Z0.out Z1.out Z2.out rfl (by omega) lv n xs (by rfl) ((HOE.out.alloc _).drew)
           ⟨E.heap.size, 0, none⟩ 1 1 [.int .i64 0] (by rfl) (by rfl) (news1 E _ _) (by simp [Value.oneCell']) (by omega) (by unfold maxLen; omega) (by omega) (by simp; omega) (E.heap.size + 1) (by simp) ?_
         intro gt cap w3 hown3 hgrow hat hlt3
         have hF3 : FB w3 g _ := (hgrow.block g (by simp; omega) (Ne.symm hne)).trans ((Below.heap_alloc E _ g hgE).trans HFE.out)
         have HF3 := Lib.hid hF3
         have hc14' : w3.cell? ⟨g, 14, none⟩ = some lv := by simpa using hF3.cell 14
         have hf14' : w3.frozen? ⟨g, 14, none⟩ = false := hF3.frozen 14
         have HO3 := Lib.hid hown3
         have HG := Lib.hid hgrow
         have HA := Lib.hid hat
         clear hF3 hown3 hgrow hat)
      | fail)
  all_goals
    go_end0
    exact ⟨rfl, gt, cap, HF3.out.set_ 14 _, own_frm (row := some g) (g := g) HO3.out (Frm.set_ _ 14 _) (HF3.out.ne_row HO3.out) (.inr (HF3.out.ne_row HO3.out)), season_end2 (HfE.out _) HS.out HG.out,
      HA.out.imp id (fun h => by rw [h, HS.out]; omega)⟩

set_option maxRecDepth 100000 in
set_option maxHeartbeats 2000000 in
theorem winter_even (g bw ow cw bs os cs N y n base : Nat) (W S R Out mo : Int) (lv v0 v1 v2 v3 v4 v5 v11 v13 : Value) (xs : List Value) (w : World)
    (hF : FB w g #[v0, v1, v2, v3, v4, v5, .slice (some ⟨bw, ow, none⟩) N cw, .slice (some ⟨bs, os, none⟩) N cs, .int .i64 mo, .int .i64 R, .int .i64 (W * (1000 - S) / 1000 + mo), v11, .int .i64 Out, v13, lv])
    (hy : y < N) (_hbw : bw < w.heap.size) (_hbs : bs < w.heap.size) (_gbw : bw ≠ g) (_gbs : bs ≠ g)
    (cW : w.cell? ⟨bw, ow + y, none⟩ = some (.int .i64 W)) (cS : w.cell? ⟨bs, os + y, none⟩ = some (.int .i64 S)) (hW : 0 ≤ W ∧ W ≤ 1000000) (hS : 0 ≤ S ∧ S ≤ 1000) (hmo : 0 ≤ mo ∧ mo ≤ 1000000) (hLf : 0 ≤ (W * (1000 - S) / 1000 + mo) ∧ (W * (1000 - S) / 1000 + mo) ≤ 100000000) (hOut : 0 ≤ Out ∧ Out ≤ 100000000)
    (hown : w.ownsRow base 3 1 lv n xs) (hn : n ≤ 20) (hbase : base ≤ w.heap.size) :
    Calls Tryd.prog 87 #[.pointer (some ⟨g, 0, none⟩), .int .i64 (y : Int)] w
      (WinterPost w base g n lv v0 v1 v2 v3 v4 v5 (.slice (some ⟨bw, ow, none⟩) N cw) (.slice (some ⟨bs, os, none⟩) N cs) (.int .i64 mo) v11 v13 xs
        0 0 (Out + (W * (1000 - S) / 1000 + mo))) := by
  obtain ⟨hW0, hW1⟩ := hW
  obtain ⟨hS0, hS1⟩ := hS
  obtain ⟨hM0, hM1⟩ := hmo
  obtain ⟨hL0, hL1⟩ := hLf
  obtain ⟨hI0, hI1⟩ := hOut
  obtain ⟨i0, hi0, hz0, hz1, hz2⟩ := info_parts int_info
  have HF := Lib.hid hF
  have hg := hF.lt
  have k6 := hF.cell 6
  have k7 := hF.cell 7
  have k8 := hF.cell 8
  have k9 := hF.cell 9
  have k10 := hF.cell 10
  have k12 := hF.cell 12
  have f9 := hF.frozen 9
  have f10 := hF.frozen 10
  have f12 := hF.frozen 12
  simp at k6 k7 k8 k9 k10 k12
  clear hF
  have HO := Lib.hid hown; clear hown
  have I0 := Lib.hid hi0; clear hi0
  have Z0 := Lib.hid hz0; clear hz0
  have Z1 := Lib.hid hz1; clear hz1
  have Z2 := Lib.hid hz2; clear hz2
  have hy0 : (0 : Int) ≤ (y : Int) := by omega
  have hy1 : (y : Int) < (N : Int) := by omega
  have hne := HF.out.ne_row HO.out
  have hp0 : 0 ≤ W * (1000 - S) := Int.mul_nonneg hW0 (by omega)
  have hp1 : W * (1000 - S) ≤ 1000000000 := Int.le_trans (Int.mul_le_mul hW1 (show 1000 - S ≤ 1000 by omega) (by omega) (by omega)) (by decide)
  go_enter Tryd.func87, Tryd.ntmps87
  go_wp2
  go_quiet (fail)
  go_wp2
  obtain ⟨E, hE⟩ : ∃ E, (((w.drewN nq).setCell ⟨g, 12, none⟩ (.int .i64 (Out + (W * (1000 - S) / 1000 + mo)))).setCell ⟨g, 10, none⟩ (.int .i64 0)).setCell ⟨g, 9, none⟩ (.int .i64 0) = E := ⟨_, rfl⟩
  rw [hE]
  have hFE : FB E g #[v0, v1, v2, v3, v4, v5, .slice (some ⟨bw, ow, none⟩) N cw, .slice (some ⟨bs, os, none⟩) N cs, .int .i64 mo, .int .i64 0, .int .i64 0, v11, .int .i64 (Out + (W * (1000 - S) / 1000 + mo)), v13, lv] := by
    rw [← hE]
    exact ((((show FB (w.drewN nq) g _ from HF.out).set_ 12 (.int .i64 (Out + (W * (1000 - S) / 1000 + mo)))).set_ 10 (.int .i64 0)).set_ 9 (.int .i64 0))
  have hfE : ∀ row, Frm w.heap.size g row w E := fun row => by
    rw [← hE]
    have h0 : Frm w.heap.size g row w (w.drewN nq) := Frm.of_below ⟨rfl, rfl, rfl, Nat.le_refl _, fun _ _ => rfl⟩
    exact (((h0.trans (Frm.set_ _ 12 (.int .i64 (Out + (W * (1000 - S) / 1000 + mo))))).trans (Frm.set_ _ 10 (.int .i64 0))).trans (Frm.set_ _ 9 (.int .i64 0)))
  have hsE : E.heap.size = w.heap.size := by
    rw [← hE]
    simp [World.setCell, World.drewN]
  have hOE : E.ownsRow base 3 1 lv n xs := own_frm (row := some g) (g := g) HO.out (hfE (some g)) hne (.inr hne)
  clear hE k6 k7 k8 k9 k10 k12 f9 f10 f12 cW cS
  have k10 := hFE.cell 10
  have k14 := hFE.cell 14
  simp at k10 k14
  have hgE : g < E.heap.size := by omega
  have hbE : base ≤ E.heap.size := by omega
  have HS := Lib.hid hsE
  have HFE := Lib.hid hFE
  have HfE := Lib.hid hfE
  have HOE := Lib.hid hOE
  clear hsE hFE hfE hOE
  go_wp2_with fail
  go_region_law (first
      | (refine step_append_lies _ (by rfl) _ _ _ (by rfl) base 3 i0 _ 1 8 Tryd.underlying39 I0.out Z0.out Z1.out Z2.out rfl (by omega) lv n xs (by rfl) ((HOE.out.alloc _).drew)
           ⟨E.heap.size, 0, none⟩ 1 1 [.int .i64 0] (by rfl) (by rfl) (news1 E _ _) (by simp [Value.oneCell']) (by omega) (by unfold maxLen; omega) (by omega) (by simp; omega) (E.heap.size + 1) (by simp) ?_
         intro gt cap w3 hown3 hgrow hat hlt3
         have hF3 : FB w3 g _ := (hgrow.block g (by simp; omega) (Ne.symm hne)).trans ((Below.heap_alloc E _ g hgE).trans HFE.out)
         have HF3 := Lib.hid hF3
         have hc14' : w3.cell? ⟨g, 14, none⟩ = some lv := by simpa using hF3.cell 14
         have hf14' : w3.frozen? ⟨g, 14, none⟩ = false := hF3.frozen 14
         have HO3 := Lib.hid hown3
         have HG := Lib.hid hgrow
         have HA := Lib.hid hat
         clear hF3 hown3 hgrow hat)
      | fail)
  all_goals
    go_end0
    exact ⟨rfl, gt, cap, HF3.out.set_ 14 _, own_frm (row := some g) (g := g) HO3.out (Frm.set_ _ 14 _) (HF3.out.ne_row HO3.out) (.inr (HF3.out.ne_row HO3.out)), season_end2 (HfE.out _) HS.out HG.out,
      HA.out.imp id (fun h => by rw [h, HS.out]; omega)⟩

end Go.Proofs.YtccekbdhffccdaaDoor
