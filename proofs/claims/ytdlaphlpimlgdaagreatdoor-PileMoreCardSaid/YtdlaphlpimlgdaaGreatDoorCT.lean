/- What each pile carries in each year, by the code. -/
import Derived.Test.YtdlaphlpimlgdaaGreatDoorCL
namespace Go.Proofs.YtdlaphlpimlgdaaGreatDoor
open Go.RowKit Go.Shelf

def Ctx.leastC (X : Ctx) (t i : Nat) : Int := carI (X.pile i) (X.th t i).2
def Ctx.mostC (X : Ctx) (t i : Nat) : Int := carI (X.pile i) (X.th t i).1
def Ctx.leastL (X : Ctx) : List (List Int) := gridL X.leastC X.n X.np
def Ctx.mostL (X : Ctx) : List (List Int) := gridL X.mostC X.n X.np
theorem mostC_X {X : Ctx} (K : X.Ok) {w : World} (h : X.At w) {t i : Nat} (ht : t < X.n) (hi : i < X.np) :
    Calls Tryz.prog 107 #[.pointer (some ⟨X.G, 0, none⟩), .int .i64 (t : Int), .int .i64 (i : Int)] w fun e w' => e = .returned (.int .i64 (X.mostC t i)) ∧ Below w.heap.size w w' := by
  obtain ⟨row, h1, _, h2, h3⟩ := K.at_th ht hi
  obtain ⟨h4, h5⟩ := K.at_pile hi
  exact mostCarried_any X.G X.AP X.AQ X.AR X.A X.np X.cp X.nq X.cq X.nr X.cr X.n X.c t i X.ps X.may X.sink X.tilt X.ts row (X.pile i) (X.th t i) w h.g K.hp h.P K.hl h.T h1 h2 h4 h5 h3
/-- A list of rows that is kept in a cell, and grows. -/
structure CarI (w w5 : World) (B : Nat) (LL : List (List Int)) (lv : Value) (rows : List Value) (wr : World) : Prop where
  grd : GrdI intR 3 34 w w5.heap.size LL lv rows wr
  kp : BelH B w5.heap.size w5 wr
theorem CarI.nil {w w5 : World} {B : Nat} (h : Below w.heap.size w w5) : CarI w w5 B [] (.slice none 0 0) [] w5 := ⟨GrdI.nil h h.size, BelH.of (Below.refl _ _)⟩
theorem CarI.below {w w5 : World} {B : Nat} {LL : List (List Int)} {lv : Value} {rows : List Value} {wr wq : World} (h : CarI w w5 B LL lv rows wr) (hb : Below wr.heap.size wr wq) : CarI w w5 B LL lv rows wq := ⟨h.grd.below hb, h.kp.up hb h.kp.size⟩
set_option maxRecDepth 100000 in
set_option maxHeartbeats 16000000 in
theorem carried_any {X : Ctx} (K : X.Ok) (w : World) (hX : X.At w) :
    Calls Tryz.prog 70 #[.pointer (some ⟨X.G, 0, none⟩)] w fun e w' => ∃ A3 c3, e = .returned (.slice A3 X.n c3) ∧ SpsAt w' w'.heap.size A3 (zipL X.leastL X.mostL) ∧ X.n ≤ c3 ∧ Below w.heap.size w w' := by
  have n10 := K.n10
  have np6 := K.np6
  have E1 := enters_of Tryz.func106 (by kernel_rfl) rfl
  have E2 := enters_of Tryz.func107 (by kernel_rfl) rfl
  have HX := Lib.hid hX
  have C1 : Hid (∀ u, Below w.heap.size w u → ∀ t i : Nat, t < X.n → i < X.np → Calls Tryz.prog 106 #[.pointer (some ⟨X.G, 0, none⟩), .int .i64 (t : Int), .int .i64 (i : Int)] u fun e w' => e = .returned (.int .i64 (X.leastC t i)) ∧ Below u.heap.size u w') := Lib.hid fun u hu t i ht hi => leastC_X K (HX.out.up hu) ht hi
  have C2 : Hid (∀ u, Below w.heap.size w u → ∀ t i : Nat, t < X.n → i < X.np → Calls Tryz.prog 107 #[.pointer (some ⟨X.G, 0, none⟩), .int .i64 (t : Int), .int .i64 (i : Int)] u fun e w' => e = .returned (.int .i64 (X.mostC t i)) ∧ Below u.heap.size u w') := Lib.hid fun u hu t i ht hi => mostC_X K (HX.out.up hu) ht hi
  clear hX K
  have I0 := fun W : World => idx_0 (.func (.func 106) #[.pointer (some ⟨X.G, 0, none⟩)] #[]) (.func (.func 107) #[.pointer (some ⟨X.G, 0, none⟩)] #[]) W
  have I1 := fun W : World => idx_1 (.func (.func 106) #[.pointer (some ⟨X.G, 0, none⟩)] #[]) (.func (.func 107) #[.pointer (some ⟨X.G, 0, none⟩)] #[]) W
  obtain ⟨z0, z1, hb0⟩ := two_boxes w (.cells #[.func (.func 106) #[.pointer (some ⟨X.G, 0, none⟩)] #[], .func (.func 107) #[.pointer (some ⟨X.G, 0, none⟩)] #[]] 152) (.cells #[.slice none 0 0, .slice none 0 0] 153)
  have ZB00 := Lib.hid z1; have HB0 := Lib.hid hb0
  go_enter Tryz.func70, Tryz.ntmps70
  go_wp2_with fail
  obtain ⟨w0, hw0⟩ : ∃ z, (w.alloc (.cells #[.func (.func 106) #[.pointer (some ⟨X.G, 0, none⟩)] #[], .func (.func 107) #[.pointer (some ⟨X.G, 0, none⟩)] #[]] 152)).alloc (.cells #[.slice none 0 0, .slice none 0 0] 153) = z := ⟨_, rfl⟩
  rw [hw0] at ZB00 HB0 ⊢
  have HBZ0 : Hid (w.heap.size + 1 < w0.heap.size) := Lib.hid (heapsz ZB00.out)
  clear z0 z1 hb0 hw0
  obtain ⟨_, _, _, _, _, _, g6⟩ := look_cells (HX.out.up HB0.out).g
  refine wp_loop_rounds 3 ?_
  rw [rounds_succ]
  go_wp2_with fail
  clear g6
  go_loopw [25] (fun i wr => ∃ (t : Nat) (lv : Value) (rows : List Value), t ≤ X.n ∧ i = .int .i64 t ∧ wr.heap[w.heap.size + 1]? = some (.cells #[lv, .slice none 0 0] 153 (0, 0)) ∧ CarI w w0 (w.heap.size + 1) (X.leastL.take t) lv rows wr) (fun i _ => X.n - (intOf i).toNat)
  case atStart => exact ⟨0, .slice none 0 0, [], Nat.zero_le _, rfl, ZB00.out, CarI.nil HB0.out⟩
  case round =>
    obtain ⟨t, lv, rows, ht, rfl, zb, hI⟩ := hrel
    have HG := Lib.hid hI; have ZB := Lib.hid zb
    clear hI zb
    by_cases hlt : t < X.n
    · have ht0 : (0 : Int) ≤ (t : Int) := by omega
      have ht1 : (t : Int) < (X.n : Int) := by omega
      obtain ⟨g0, _, _, _, _, _, _⟩ := look_cells (HX.out.up HG.out.grd.bel).g
      go_wp2_with fail
      rename World => wo
      clear g0
      go_loopw [8, 34] (fun v i wq => ∃ k : Nat, k ≤ X.np ∧ i = .int .i64 k ∧ Below wo.heap.size wo wq ∧ wq.ownsRow wo.heap.size 3 1 v k (flatR intR (((List.range X.np).map (X.leastC t)).take k))) (fun _ i _ => X.np - (intOf i).toNat)
      case atStart => exact ⟨0, Nat.zero_le _, rfl, Below.refl _ _, World.ownsRow_nil _ _ _ _⟩
      case round =>
        obtain ⟨k, hk, rfl, hbw, hown⟩ := hrel
        have HBW := Lib.hid hbw; have HOWN := Lib.hid hown
        clear hown hbw
        by_cases hkt : k < X.np
        · have hk0 : (0 : Int) ≤ (k : Int) := by omega
          have hk1 : (k : Int) < (X.np : Int) := by omega
          have hcall := Lib.hid (C1.out wr (HG.out.grd.bel.trans (HBW.out.mono HG.out.grd.bel.size)) t k hlt hkt)
          have HXX : Hid (((List.range X.np).map (X.leastC t))[k]? = some (X.leastC t k)) := Lib.hid (rowL_at _ hkt)
          obtain ⟨C, hC⟩ : ∃ z, X.leastC t k = z := ⟨_, rfl⟩
          rw [hC] at hcall HXX
          clear hC
          go_wp2_with fail
          refine Calls.mono (by simpa using hcall.out) ?_
          rintro e w2 ⟨rfl, hb2⟩
          have HB2 := Lib.hid hb2
          clear hb2 hcall
          obtain ⟨i0, hi0, hz0, hz1, hz2⟩ := info_parts int_info
          go_wp2_with (first
            | (at_builtin
               refine wpList_append_own _ rfl _ _ 34 rfl wo.heap.size 3 i0 _ 1 8 Tryz.underlying34 hi0 hz0 hz1 hz2 rfl (by decide) _ _ _ rfl (Go.Proofs.YtdlaphlpimlgdaaGreatDoor.own_next HOWN.out (HB2.out.alloc HB2.out.size _)) ⟨w2.heap.size, 0, none⟩ 1 1 [.int .i64 C] rfl rfl (cell_one_new _ _ _) (by simp [Value.oneCell']) (by unfold maxLen; omega) (by omega) (by have h1 := HBW.out.size; have h2 := HB2.out.size; simp; omega) ?_
               intro v' w4 hown4 hgrow4 _)
            | fail)
          have hb1 := (HBW.out.trans (HB2.out.mono HBW.out.size)).alloc (Nat.le_trans HBW.out.size HB2.out.size) (.cells #[.int .i64 C] 3)
          refine ⟨⟨k + 1, by omega, by go_num, hb1.grown hgrow4 hb1.size (fun B hB => (own_at HOWN.out hB).1), ?_⟩, by simp [intOf]; omega⟩
          rw [flatR_take HXX.out]
          exact hown4
        · have hke : k = X.np := by omega
          have hk1 : ¬ (k : Int) < (X.np : Int) := by omega
          subst hke
          have hlen : ((List.range X.np).map (X.leastC t)).length = X.np := by simp
          have hfull : ((List.range X.np).map (X.leastC t)).take X.np = (List.range X.np).map (X.leastC t) := List.take_of_length_le (by omega)
          rw [hfull] at HOWN
          obtain ⟨g, cg, rfl, _⟩ := HOWN.out.form (by omega)
          have HG2 := Lib.hid (HG.out.below HBW.out)
          have HRI : Hid (RowIs intR 3 w0.heap.size ((List.range X.np).map (X.leastC t)) (.slice (some ⟨g, 0, none⟩) X.np cg) wr) := Lib.hid (RowIs.of_own (k := 1) (by rw [hlen]; exact own_mono HOWN.out HG.out.kp.size))
          have HLT : Hid ((X.leastL.take t).length = t) := Lib.hid (by rw [List.length_take]; unfold Ctx.leastL gridL; simp; omega)
          have HZ : Hid (X.leastL.take (t + 1) = X.leastL.take t ++ [(List.range X.np).map (X.leastC t)]) := Lib.hid (by rw [List.take_add_one]; unfold Ctx.leastL; rw [gridL_at _ hlt]; rfl)
          have HBZ : Hid (w.heap.size + 1 < w0.heap.size) := Lib.hid (heapsz ZB00.out)
          have zb := (HBW.out.block _ (heapsz ZB.out)).trans ZB.out
          have ZQ := Lib.hid zb
          have c0 := cell_of_row wr (w.heap.size + 1) 0 _ 153 (0, 0) zb
          have c1 := cell_of_row wr (w.heap.size + 1) 1 _ 153 (0, 0) zb
          simp at c0 c1
          obtain ⟨j0, hj0, jz0, jz1, jz2⟩ := info_parts ints_info
          clear hlen hfull zb
          have HA4 : Hid (∀ (v' : Value) (w4 : World), w4.ownsRow w0.heap.size 34 1 v' (t + 1) (rows ++ [.slice (some ⟨g, 0, none⟩) X.np cg]) → (wr.alloc (.cells #[.slice (some ⟨g, 0, none⟩) X.np cg] 34)).grownBy w4 lv.ownBlock →
              w4.heap[w.heap.size + 1]? = some (.cells #[lv, .slice none 0 0] 153 (0, 0)) ∧ (w4.setCell ⟨w.heap.size + 1, 0, none⟩ v').heap[w.heap.size + 1]? = some (.cells #[v', .slice none 0 0] 153 (0, 0)) ∧ CarI w w0 (w.heap.size + 1) (X.leastL.take (t + 1)) v' (rows ++ [.slice (some ⟨g, 0, none⟩) X.np cg]) (w4.setCell ⟨w.heap.size + 1, 0, none⟩ v')) := Lib.hid fun v' w4 ho hg => by
            rw [← HLT.out] at ho
            have hb1 := (Below.refl wr.heap.size wr).alloc (Nat.le_refl _) (.cells #[.slice (some ⟨g, 0, none⟩) X.np cg] 34)
            have hbq : Below w0.heap.size wr w4 := (hb1.mono HG2.out.kp.size).grown hg (Nat.le_trans HG2.out.kp.size hb1.size) (fun B hB => (own_at HG2.out.grd.own hB).1)
            have z4 := (hbq.block _ HBZ.out).trans ZQ.out
            refine ⟨z4, by rw [blk_set z4]; rfl, ?_⟩
            have hA := HG2.out.grd.append (by decide) HRI.out ho hg
            rw [← HZ.out] at hA
            exact ⟨hA.keep (hA.bel.setCell (by show _ ≤ w.heap.size + 1; omega) v') fun b h1 _ => Below.heap_setCell _ _ _ _ (by have := HBZ.out; show b ≠ w.heap.size + 1; omega), (HG2.out.kp.trans (BelH.of hbq)).set v'⟩
          have HNX : Hid (∀ w4 : World, w4.heap[w.heap.size + 1]? = some (.cells #[lv, .slice none 0 0] 153 (0, 0)) → w4.frozen? ⟨w.heap.size + 1, 0, none⟩ = false ∧ ∃ x, w4.cell? ⟨w.heap.size + 1, 0, none⟩ = some x) := Lib.hid fun w4 z4 => ⟨by simp [World.frozen?, z4], _, by rw [cell_of_row w4 (w.heap.size + 1) 0 _ 153 (0, 0) z4]; rfl⟩
          go_wp2_with (first
            | (at_builtin
               refine wpList_append_own _ rfl _ _ 53 rfl w0.heap.size 34 j0 _ 1 24 Tryz.underlying53 hj0 jz0 jz1 jz2 rfl (by decide) _ _ _ rfl (Go.Proofs.YtdlaphlpimlgdaaGreatDoor.own_next HG2.out.grd.own ((Below.refl _ wr).alloc (Nat.le_refl _) _)) ⟨wr.heap.size, 0, none⟩ 1 1 [.slice (some ⟨g, 0, none⟩) X.np cg] rfl rfl (cell_one_new _ _ _) (by simp [Value.oneCell']) (by rw [HLT.out]; unfold maxLen; omega) (by rw [HLT.out]; omega) (by have h1 := HG2.out.kp.size; simp; omega) ?_
               intro v' w4 hown4 hgrow4 _
               rw [HLT.out] at hown4
               obtain ⟨g2, cg2, rfl, _⟩ := hown4.form (by omega)
               obtain ⟨z4, z5, hI5⟩ := HA4.out _ w4 hown4 hgrow4
               obtain ⟨fz, xx, cx⟩ := HNX.out w4 z4
               have Z5 := Lib.hid z5; have HI5 := Lib.hid hI5
               clear z4 z5 hI5 hown4 hgrow4)
            | fail)
          exact ⟨⟨t + 1, _, _, by omega, by go_num, Z5.out, HI5.out⟩, by simp [intOf]; omega⟩
    · have hte : t = X.n := by omega
      have hk1 : ¬ (t : Int) < (X.n : Int) := by omega
      have hlen : X.leastL.length = X.n := by unfold Ctx.leastL gridL; simp
      have hfull : X.leastL.take t = X.leastL := List.take_of_length_le (by omega)
      rw [hfull] at HG
      clear hfull hte
      obtain ⟨wx0, hwx0⟩ : ∃ z, wr = z := ⟨_, rfl⟩
      rw [hwx0] at HG ZB ⊢
      clear hwx0
      have HG0 := HG; have ZB0 := ZB
      obtain ⟨V0, hV0⟩ : ∃ z, lv = z := ⟨_, rfl⟩
      rw [hV0] at HG0 ZB0
      have HLA := Lib.hid hlen
      clear HG ZB hV0 hlen
      have HB1 := Lib.hid HG0.out.grd.bel
      obtain ⟨_, _, _, _, _, _, g6⟩ := look_cells (HX.out.up HB1.out).g
      go_wp2_with fail
      rw [rounds_succ]
      go_wp2_with fail
      clear g6
      go_loopw [25] (fun i wr => ∃ (t : Nat) (lv : Value) (rows : List Value), t ≤ X.n ∧ i = .int .i64 t ∧ wr.heap[w.heap.size + 1]? = some (.cells #[V0, lv] 153 (0, 0)) ∧ CarI w wx0 (w.heap.size + 1) (X.mostL.take t) lv rows wr) (fun i _ => X.n - (intOf i).toNat)
      case atStart => exact ⟨0, .slice none 0 0, [], Nat.zero_le _, rfl, ZB0.out, CarI.nil HB1.out⟩
      case round =>
        obtain ⟨t, lv, rows, ht, rfl, zb, hI⟩ := hrel
        have HG := Lib.hid hI; have ZB := Lib.hid zb
        clear hI zb
        by_cases hlt : t < X.n
        · have ht0 : (0 : Int) ≤ (t : Int) := by omega
          have ht1 : (t : Int) < (X.n : Int) := by omega
          obtain ⟨g0, _, _, _, _, _, _⟩ := look_cells (HX.out.up HG.out.grd.bel).g
          go_wp2_with fail
          rename World => wo
          clear g0
          go_loopw [8, 34] (fun v i wq => ∃ k : Nat, k ≤ X.np ∧ i = .int .i64 k ∧ Below wo.heap.size wo wq ∧ wq.ownsRow wo.heap.size 3 1 v k (flatR intR (((List.range X.np).map (X.mostC t)).take k))) (fun _ i _ => X.np - (intOf i).toNat)
          case atStart => exact ⟨0, Nat.zero_le _, rfl, Below.refl _ _, World.ownsRow_nil _ _ _ _⟩
          case round =>
            obtain ⟨k, hk, rfl, hbw, hown⟩ := hrel
            have HBW := Lib.hid hbw; have HOWN := Lib.hid hown
            clear hown hbw
            by_cases hkt : k < X.np
            · have hk0 : (0 : Int) ≤ (k : Int) := by omega
              have hk1 : (k : Int) < (X.np : Int) := by omega
              have hcall := Lib.hid (C2.out wr (HG.out.grd.bel.trans (HBW.out.mono HG.out.grd.bel.size)) t k hlt hkt)
              have HXX : Hid (((List.range X.np).map (X.mostC t))[k]? = some (X.mostC t k)) := Lib.hid (rowL_at _ hkt)
              obtain ⟨C, hC⟩ : ∃ z, X.mostC t k = z := ⟨_, rfl⟩
              rw [hC] at hcall HXX
              clear hC
              go_wp2_with fail
              refine Calls.mono (by simpa using hcall.out) ?_
              rintro e w2 ⟨rfl, hb2⟩
              have HB2 := Lib.hid hb2
              clear hb2 hcall
              obtain ⟨i0, hi0, hz0, hz1, hz2⟩ := info_parts int_info
              go_wp2_with (first
                | (at_builtin
                   refine wpList_append_own _ rfl _ _ 34 rfl wo.heap.size 3 i0 _ 1 8 Tryz.underlying34 hi0 hz0 hz1 hz2 rfl (by decide) _ _ _ rfl (Go.Proofs.YtdlaphlpimlgdaaGreatDoor.own_next HOWN.out (HB2.out.alloc HB2.out.size _)) ⟨w2.heap.size, 0, none⟩ 1 1 [.int .i64 C] rfl rfl (cell_one_new _ _ _) (by simp [Value.oneCell']) (by unfold maxLen; omega) (by omega) (by have h1 := HBW.out.size; have h2 := HB2.out.size; simp; omega) ?_
                   intro v' w4 hown4 hgrow4 _)
                | fail)
              have hb1 := (HBW.out.trans (HB2.out.mono HBW.out.size)).alloc (Nat.le_trans HBW.out.size HB2.out.size) (.cells #[.int .i64 C] 3)
              refine ⟨⟨k + 1, by omega, by go_num, hb1.grown hgrow4 hb1.size (fun B hB => (own_at HOWN.out hB).1), ?_⟩, by simp [intOf]; omega⟩
              rw [flatR_take HXX.out]
              exact hown4
            · have hke : k = X.np := by omega
              have hk1 : ¬ (k : Int) < (X.np : Int) := by omega
              subst hke
              have hlen : ((List.range X.np).map (X.mostC t)).length = X.np := by simp
              have hfull : ((List.range X.np).map (X.mostC t)).take X.np = (List.range X.np).map (X.mostC t) := List.take_of_length_le (by omega)
              rw [hfull] at HOWN
              obtain ⟨g, cg, rfl, _⟩ := HOWN.out.form (by omega)
              have HG2 := Lib.hid (HG.out.below HBW.out)
              have HRI : Hid (RowIs intR 3 wx0.heap.size ((List.range X.np).map (X.mostC t)) (.slice (some ⟨g, 0, none⟩) X.np cg) wr) := Lib.hid (RowIs.of_own (k := 1) (by rw [hlen]; exact own_mono HOWN.out HG.out.kp.size))
              have HLT : Hid ((X.mostL.take t).length = t) := Lib.hid (by rw [List.length_take]; unfold Ctx.mostL gridL; simp; omega)
              have HZ : Hid (X.mostL.take (t + 1) = X.mostL.take t ++ [(List.range X.np).map (X.mostC t)]) := Lib.hid (by rw [List.take_add_one]; unfold Ctx.mostL; rw [gridL_at _ hlt]; rfl)
              have HBZ : Hid (w.heap.size + 1 < wx0.heap.size) := Lib.hid (heapsz ZB0.out)
              have zb := (HBW.out.block _ (heapsz ZB.out)).trans ZB.out
              have ZQ := Lib.hid zb
              have c0 := cell_of_row wr (w.heap.size + 1) 0 _ 153 (0, 0) zb
              have c1 := cell_of_row wr (w.heap.size + 1) 1 _ 153 (0, 0) zb
              simp at c0 c1
              obtain ⟨j0, hj0, jz0, jz1, jz2⟩ := info_parts ints_info
              clear hlen hfull zb
              have HA4 : Hid (∀ (v' : Value) (w4 : World), w4.ownsRow wx0.heap.size 34 1 v' (t + 1) (rows ++ [.slice (some ⟨g, 0, none⟩) X.np cg]) → (wr.alloc (.cells #[.slice (some ⟨g, 0, none⟩) X.np cg] 34)).grownBy w4 lv.ownBlock →
                  w4.heap[w.heap.size + 1]? = some (.cells #[V0, lv] 153 (0, 0)) ∧ (w4.setCell ⟨w.heap.size + 1, 1, none⟩ v').heap[w.heap.size + 1]? = some (.cells #[V0, v'] 153 (0, 0)) ∧ CarI w wx0 (w.heap.size + 1) (X.mostL.take (t + 1)) v' (rows ++ [.slice (some ⟨g, 0, none⟩) X.np cg]) (w4.setCell ⟨w.heap.size + 1, 1, none⟩ v')) := Lib.hid fun v' w4 ho hg => by
                rw [← HLT.out] at ho
                have hb1 := (Below.refl wr.heap.size wr).alloc (Nat.le_refl _) (.cells #[.slice (some ⟨g, 0, none⟩) X.np cg] 34)
                have hbq : Below wx0.heap.size wr w4 := (hb1.mono HG2.out.kp.size).grown hg (Nat.le_trans HG2.out.kp.size hb1.size) (fun B hB => (own_at HG2.out.grd.own hB).1)
                have z4 := (hbq.block _ HBZ.out).trans ZQ.out
                refine ⟨z4, by rw [blk_set z4]; rfl, ?_⟩
                have hA := HG2.out.grd.append (by decide) HRI.out ho hg
                rw [← HZ.out] at hA
                exact ⟨hA.keep (hA.bel.setCell (by show _ ≤ w.heap.size + 1; omega) v') fun b h1 _ => Below.heap_setCell _ _ _ _ (by have := HBZ.out; show b ≠ w.heap.size + 1; omega), (HG2.out.kp.trans (BelH.of hbq)).set v'⟩
              have HNX : Hid (∀ w4 : World, w4.heap[w.heap.size + 1]? = some (.cells #[V0, lv] 153 (0, 0)) → w4.frozen? ⟨w.heap.size + 1, 1, none⟩ = false ∧ ∃ x, w4.cell? ⟨w.heap.size + 1, 1, none⟩ = some x) := Lib.hid fun w4 z4 => ⟨by simp [World.frozen?, z4], _, by rw [cell_of_row w4 (w.heap.size + 1) 1 _ 153 (0, 0) z4]; rfl⟩
              go_wp2_with (first
                | (at_builtin
                   refine wpList_append_own _ rfl _ _ 53 rfl wx0.heap.size 34 j0 _ 1 24 Tryz.underlying53 hj0 jz0 jz1 jz2 rfl (by decide) _ _ _ rfl (Go.Proofs.YtdlaphlpimlgdaaGreatDoor.own_next HG2.out.grd.own ((Below.refl _ wr).alloc (Nat.le_refl _) _)) ⟨wr.heap.size, 0, none⟩ 1 1 [.slice (some ⟨g, 0, none⟩) X.np cg] rfl rfl (cell_one_new _ _ _) (by simp [Value.oneCell']) (by rw [HLT.out]; unfold maxLen; omega) (by rw [HLT.out]; omega) (by have h1 := HG2.out.kp.size; simp; omega) ?_
                   intro v' w4 hown4 hgrow4 _
                   rw [HLT.out] at hown4
                   obtain ⟨g2, cg2, rfl, _⟩ := hown4.form (by omega)
                   obtain ⟨z4, z5, hI5⟩ := HA4.out _ w4 hown4 hgrow4
                   obtain ⟨fz, xx, cx⟩ := HNX.out w4 z4
                   have Z5 := Lib.hid z5; have HI5 := Lib.hid hI5
                   clear z4 z5 hI5 hown4 hgrow4)
                | fail)
              exact ⟨⟨t + 1, _, _, by omega, by go_num, Z5.out, HI5.out⟩, by simp [intOf]; omega⟩
        · have hte : t = X.n := by omega
          have hk1 : ¬ (t : Int) < (X.n : Int) := by omega
          have hlen : X.mostL.length = X.n := by unfold Ctx.mostL gridL; simp
          have hfull : X.mostL.take t = X.mostL := List.take_of_length_le (by omega)
          rw [hfull] at HG
          clear hfull hte
          obtain ⟨wx1, hwx1⟩ : ∃ z, wr = z := ⟨_, rfl⟩
          rw [hwx1] at HG ZB ⊢
          clear hwx1
          have hGA := HG0.out.grd.keep HG.out.grd.bel (fun b h1 h2 => HG.out.kp.block b h2 (by have := HBZ0.out; omega))
          obtain ⟨A3, c3, rfl, hl0, _, _⟩ := hGA.grid (fun _ => rfl) (fun row hr => by have := gridL_in _ row hr; unfold maxLen; omega)
          obtain ⟨A4, c4, rfl, hl1, _, _⟩ := HG.out.grd.grid (fun _ => rfl) (fun row hr => by have := gridL_in _ row hr; unfold maxLen; omega)
          have c0 := cell_of_row wx1 (w.heap.size + 1) 0 _ 153 (0, 0) ZB.out
          have c1 := cell_of_row wx1 (w.heap.size + 1) 1 _ 153 (0, 0) ZB.out
          simp at c0 c1
          rw [HLA.out] at c0
          rw [hlen] at c1
          have HE := Lib.hid (spans_any A3 A4 X.n c3 c4 X.np X.leastL X.mostL wx1 (by omega) np6.1 (by omega) HLA.out hlen (fun r hr => gridL_in _ r hr) (fun r hr => gridL_in _ r hr) hl0 hl1)
          have HBF := Lib.hid HG.out.grd.bel
          clear hGA hl0 hl1 HG HG0 ZB ZB0
          go_wp2_with fail
          rw [rounds_succ]
          go_wp2_with fail
          refine HE.out.mono ?_
          rintro e w5 ⟨A5, c5, rfl, h1, h2, h3⟩
          have HH := Lib.hid h1
          have HB5 := Lib.hid (HBF.out.trans (h3.mono HBF.out.size))
          clear h1 h3
          go_wp2_with fail
          go_ret
          exact ⟨A5, c5, rfl, HH.out, h2, HB5.out⟩
end Go.Proofs.YtdlaphlpimlgdaaGreatDoor
