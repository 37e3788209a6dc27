/- The truth in which a pile settles most, or least. -/
import Derived.Test.YtdlaphlpimlgdaaGreatDoorCA
namespace Go.Proofs.YtdlaphlpimlgdaaGreatDoor
open Go.RowKit

structure Tru where
  t : Int
  l : Int
  s : Int
def truR (x : Tru) : List Value := [.int .i64 x.t, .int .i64 x.l, .int .i64 x.s]
def endI (rs : List Rw) (p : Pil) (y : Sp) (most : Bool) : Tru := if most then ⟨y.2, p.h, (rowI rs (carI p y.2) p.h).1.hi⟩ else ⟨y.1, p.l, (rowI rs (carI p y.1) p.l).1.lo⟩
theorem four_boxes (w : World) (o1 o2 o3 o4 : Obj) : ((((w.alloc o1).alloc o2).alloc o3).alloc o4).heap[w.heap.size]? = some o1 ∧ ((((w.alloc o1).alloc o2).alloc o3).alloc o4).heap[w.heap.size + 1]? = some o2 ∧ ((((w.alloc o1).alloc o2).alloc o3).alloc o4).heap[w.heap.size + 1 + 1]? = some o3 ∧ ((((w.alloc o1).alloc o2).alloc o3).alloc o4).heap[w.heap.size + 1 + 1 + 1]? = some o4 ∧ Below w.heap.size w ((((w.alloc o1).alloc o2).alloc o3).alloc o4) := by
  obtain ⟨z0, z1, z2, hb⟩ := three_boxes w o1 o2 o3
  have h2 := (Below.refl (((w.alloc o1).alloc o2).alloc o3).heap.size (((w.alloc o1).alloc o2).alloc o3)).alloc (Nat.le_refl _) o4
  have z3 := heap_alloc_last (((w.alloc o1).alloc o2).alloc o3) o4
  rw [show (((w.alloc o1).alloc o2).alloc o3).heap.size = w.heap.size + 1 + 1 + 1 by simp] at z3
  exact ⟨(h2.block _ (Array.getElem?_eq_some_iff.1 z0).1).trans z0, (h2.block _ (Array.getElem?_eq_some_iff.1 z1).1).trans z1, (h2.block _ (Array.getElem?_eq_some_iff.1 z2).1).trans z2, z3, hb.trans (h2.mono hb.size)⟩

theorem fld119 (a b c : Int) (w : World) : (Instr.field 119 (.agg #[.int .i64 a, .int .i64 b, .int .i64 c]) 1).run Tryz.prog w = .ok (.agg #[.int .i64 b, .int .i64 c]) w := by
  have a42 := Tryz.isAgg42
  have s42 := Tryz.sizeOf42
  simp [Instr.field, go_sem, part, asAgg, a42, s42]
theorem fld42_0 (b c : Int) (w : World) : (Instr.field 42 (.agg #[.int .i64 b, .int .i64 c]) 0).run Tryz.prog w = .ok (.int .i64 b) w := by
  have a3 := Tryz.isAgg3
  have s3 := Tryz.sizeOf3
  simp [Instr.field, go_sem, part, asAgg, a3, s3]
theorem fld42_1 (b c : Int) (w : World) : (Instr.field 42 (.agg #[.int .i64 b, .int .i64 c]) 1).run Tryz.prog w = .ok (.int .i64 c) w := by
  have a3 := Tryz.isAgg3
  have s3 := Tryz.sizeOf3
  simp [Instr.field, go_sem, part, asAgg, a3, s3]

set_option maxRecDepth 100000 in
set_option maxHeartbeats 4000000 in
theorem refEnd_any (AP AQ AR : Option Addr) (np cp nq cq nr cr : Nat) (rs : List Rw) (may sink tilt : Int) (p : Pil) (lo hi : Int) (most : Bool) (w : World)
    (hr : rs.length = nr) (hr0 : 1 ≤ nr) (hr2 : nr ≤ maxLen) (hR : RwsAt w w.heap.size AR rs) (hB : pilB p = true) (ht : 0 ≤ lo ∧ lo ≤ hi ∧ hi ≤ 50000) :
    Calls Tryz.prog 86 #[.agg #[.slice AP np cp, .slice AQ nq cq, .slice AR nr cr, .int .i64 may, .int .i64 sink, .int .i64 tilt], pilV p, .agg #[.int .i64 lo, .int .i64 hi], .bool most] w fun e w' => e = .returned (.agg #[.int .i64 (endI rs p (lo, hi) most).t, .int .i64 (endI rs p (lo, hi) most).l, .int .i64 (endI rs p (lo, hi) most).s]) ∧ Below w.heap.size w w' := by
  obtain ⟨z0, z1, z2, z3, hb0⟩ := four_boxes w (.cells #[.slice AP np cp, .slice AQ nq cq, .slice AR nr cr, .int .i64 may, .int .i64 sink, .int .i64 tilt] 26) (.cells #[.int .i64 p.d, .int .i64 p.p, .int .i64 p.s, .int .i64 p.l, .int .i64 p.h, .int .i64 p.g, .int .i64 p.c] 45) (.cells #[.int .i64 lo, .int .i64 hi] 42) (.cells #[.int .i64 0, .int .i64 0, .int .i64 0] 68)
  obtain ⟨w1, hw1⟩ : ∃ z, (((w.alloc (.cells #[.slice AP np cp, .slice AQ nq cq, .slice AR nr cr, .int .i64 may, .int .i64 sink, .int .i64 tilt] 26)).alloc (.cells #[.int .i64 p.d, .int .i64 p.p, .int .i64 p.s, .int .i64 p.l, .int .i64 p.h, .int .i64 p.g, .int .i64 p.c] 45)).alloc (.cells #[.int .i64 lo, .int .i64 hi] 42)).alloc (.cells #[.int .i64 0, .int .i64 0, .int .i64 0] 68) = z := ⟨_, rfl⟩
  rw [hw1] at z0 z1 z2 z3 hb0
  have Z3 := Lib.hid z3; have HB1 := Lib.hid hb0
  have hpl := (pilB_iff.1 hB).2.2.2.1
  have e0 := fun u : KeptW w1 => site_box ((u.h.block _ (heapsz z0)).trans z0)
  have e1 := fun u : KeptW w1 => pil_box ((u.h.block _ (heapsz z1)).trans z1)
  have e2 := fun u : KeptW w1 => span_box ((u.h.block _ (heapsz z2)).trans z2)
  have s0 := fun u => (e0 u).1; have s1 := fun u => (e0 u).2.1; have s2 := fun u => (e0 u).2.2.1; have s3 := fun u => (e0 u).2.2.2.1; have s4 := fun u => (e0 u).2.2.2.2.1; have s5 := fun u => (e0 u).2.2.2.2.2
  have p0 := fun u => (e1 u).1; have p1 := fun u => (e1 u).2.1; have p2 := fun u => (e1 u).2.2.1; have p3 := fun u => (e1 u).2.2.2.1; have p4 := fun u => (e1 u).2.2.2.2.1; have p5 := fun u => (e1 u).2.2.2.2.2.1; have p6 := fun u => (e1 u).2.2.2.2.2.2
  have t0 := fun u => (e2 u).1; have t1 := fun u => (e2 u).2
  have C0 := fun u : KeptW w1 => Calls.in_kept u (refRow_any AP AQ AR np cp nq cq nr cr rs may sink tilt p lo p.l u.w hr hr0 hr2 (hR.up (hb0.trans (u.h.mono hb0.size))) hB (by omega) (by omega))
  have C1 := fun u : KeptW w1 => Calls.in_kept u (refRow_any AP AQ AR np cp nq cq nr cr rs may sink tilt p hi p.h u.w hr hr0 hr2 (hR.up (hb0.trans (u.h.mono hb0.size))) hB (by omega) (by omega))
  have HC0 := Lib.hid C0; have HC1 := Lib.hid C1
  have HE : Hid (∀ m, endI rs p (lo, hi) m = if m then ⟨hi, p.h, (rowI rs (carI p hi) p.h).1.hi⟩ else ⟨lo, p.l, (rowI rs (carI p lo) p.l).1.lo⟩) := Lib.hid fun m => rfl
  obtain ⟨R0, hR0⟩ : ∃ z, (rowI rs (carI p lo) p.l).1 = z := ⟨_, rfl⟩
  obtain ⟨R1, hR1⟩ : ∃ z, (rowI rs (carI p hi) p.h).1 = z := ⟨_, rfl⟩
  rw [hR0] at HC0 HE
  rw [hR1] at HC1 HE
  obtain ⟨pd, pp, ps, pl, ph, pg, pc⟩ := p
  simp only at HE p0 p1 p2 p3 p4 p5 p6 hw1
  clear hR0 hR1 e0 e1 e2 z0 z1 z2 z3 hb0 C0 C1 hr hr0 hr2 hR hB ht hpl
  have g0 := fld119 R0.u R0.lo R0.hi; have g1 := fld119 R1.u R1.lo R1.hi; have g2 := fld42_0 R0.lo R0.hi; have g3 := fld42_1 R1.lo R1.hi
  cases most with
  | true =>
    have HE1 := Lib.hid ((HE.out true).trans (if_pos rfl))
    clear HE
    go_enter Tryz.func86, Tryz.ntmps86
    go_wp2_with fail
    apply rk_tail (C := fun w' => ∃ u : KeptW w1, w' = u.w)
    case hs => exact (rfl : _ = [_, _, _, _, _, _, _, _, _, _, _, _, _, _, _, _] ++ [_])
    case hm => kernel_rfl
    case hB => kernel_rfl
    case hT => kernel_rfl
    case hC => exact ⟨⟨w1.drew, (Below.refl w1.heap.size w1).drew⟩, rfl⟩
    repeat (go_big_quiet_step (first | (with_reducible exact HC1.out _) | fail))
    refine wpQuiet_nil ?_
    rintro _ ⟨u, rfl⟩
    have V3 := (u.h.block _ (heapsz Z3.out)).trans Z3.out
    have f0 := box3_frozen V3 0
    have f1 := box3_frozen V3 1
    have f2 := box3_frozen V3 2
    obtain ⟨a0, a1, a2⟩ := box3_cells V3
    obtain ⟨q0, q1, q2⟩ := set3 V3 (.int .i64 hi) (.int .i64 ph) (.int .i64 R1.hi)
    have HBZ := HB1.out.trans (u.h.mono HB1.out.size)
    have HBF := Lib.hid (((HBZ.setCell (p := ⟨w.heap.size + 1 + 1 + 1, 0, none⟩) (by simp; omega) (.int .i64 hi)).setCell (p := ⟨w.heap.size + 1 + 1 + 1, 1, none⟩) (by simp; omega) (.int .i64 ph)).setCell (p := ⟨w.heap.size + 1 + 1 + 1, 2, none⟩) (by simp; omega) (.int .i64 R1.hi))
    unfold Oper.wp
    simp [go_sem, f0, f1, f2, a0, a1, a2]
    clear f0 f1 f2 a0 a1 a2 V3 HBZ
    generalize (((u.w.setCell ⟨w.heap.size + 1 + 1 + 1, 0, none⟩ (Value.int .i64 hi)).setCell ⟨w.heap.size + 1 + 1 + 1, 1, none⟩ (Value.int .i64 ph)).setCell ⟨w.heap.size + 1 + 1 + 1, 2, none⟩ (Value.int .i64 R1.hi)) = wb at q0 q1 q2 HBF ⊢
    go_wp2_with fail
    exact bodyPost_ret (v := .agg #[.int .i64 hi, .int .i64 ph, .int .i64 R1.hi]) (by simp [results, Tryz.results86, go_sem, q0, q1, q2]) rfl ⟨by rw [HE1.out], HBF.out⟩
  | false =>
    have HE1 := Lib.hid ((HE.out false).trans (if_neg (by decide)))
    clear HE
    go_enter Tryz.func86, Tryz.ntmps86
    go_wp2_with fail
    apply rk_tail (C := fun w' => ∃ u : KeptW w1, w' = u.w)
    case hs => exact (rfl : _ = [_, _, _, _, _, _, _, _, _, _, _, _, _, _, _, _] ++ [_])
    case hm => kernel_rfl
    case hB => kernel_rfl
    case hT => kernel_rfl
    case hC => exact ⟨⟨w1.drew, (Below.refl w1.heap.size w1).drew⟩, rfl⟩
    repeat (go_big_quiet_step (first | (with_reducible exact HC0.out _) | fail))
    refine wpQuiet_nil ?_
    rintro _ ⟨u, rfl⟩
    have V3 := (u.h.block _ (heapsz Z3.out)).trans Z3.out
    have f0 := box3_frozen V3 0
    have f1 := box3_frozen V3 1
    have f2 := box3_frozen V3 2
    obtain ⟨a0, a1, a2⟩ := box3_cells V3
    obtain ⟨q0, q1, q2⟩ := set3 V3 (.int .i64 lo) (.int .i64 pl) (.int .i64 R0.lo)
    have HBZ := HB1.out.trans (u.h.mono HB1.out.size)
    have HBF := Lib.hid (((HBZ.setCell (p := ⟨w.heap.size + 1 + 1 + 1, 0, none⟩) (by simp; omega) (.int .i64 lo)).setCell (p := ⟨w.heap.size + 1 + 1 + 1, 1, none⟩) (by simp; omega) (.int .i64 pl)).setCell (p := ⟨w.heap.size + 1 + 1 + 1, 2, none⟩) (by simp; omega) (.int .i64 R0.lo))
    unfold Oper.wp
    simp [go_sem, f0, f1, f2, a0, a1, a2]
    clear f0 f1 f2 a0 a1 a2 V3 HBZ
    generalize (((u.w.setCell ⟨w.heap.size + 1 + 1 + 1, 0, none⟩ (Value.int .i64 lo)).setCell ⟨w.heap.size + 1 + 1 + 1, 1, none⟩ (Value.int .i64 pl)).setCell ⟨w.heap.size + 1 + 1 + 1, 2, none⟩ (Value.int .i64 R0.lo)) = wb at q0 q1 q2 HBF ⊢
    go_wp2_with fail
    exact bodyPost_ret (v := .agg #[.int .i64 lo, .int .i64 pl, .int .i64 R0.lo]) (by simp [results, Tryz.results86, go_sem, q0, q1, q2]) rfl ⟨by rw [HE1.out], HBF.out⟩
end Go.Proofs.YtdlaphlpimlgdaaGreatDoor
