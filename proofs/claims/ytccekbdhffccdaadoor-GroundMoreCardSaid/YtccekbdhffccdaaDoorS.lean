/- Whether a truth is one of a place and years, as the program tells it. -/
import Derived.Test.YtccekbdhffccdaaDoorH
import Derived.Deep.RegionWith
namespace Go.Proofs.YtccekbdhffccdaaDoor
open Go.RowKit

def possB (ls : List Lay) (lo hi : Int) (ys : List Yr) (ms ws ss vs ns : List Int) : Bool :=
  allB ms (laySpans ls) && (allB ws (warmSpans lo hi ys) && (allB ss (sumSpans ys) && (allB vs (winSpans ys) && allB ns (snowSpans ys))))

set_option maxHeartbeats 1000000 in
theorem poss0 (A A2 AM AW AS AV AN : Option Addr) (n c m c' nm cm nw cw ns_ cs nv cv nn cn : Nat) (ls : List Lay) (ys : List Yr) (lo hi : Int) (ms ws ss vs ns : List Int) (w : World) (hl : ls.length = n) (hn : n ≤ 6) (hL : LaysAt w w.heap.size A ls) (hy : ys.length = m) (_hm : m ≤ 12) (_hY : YrsAt w w.heap.size A2 ys)
    (h1 : ms.length = nm) (g1 : nm ≤ maxLen) (i1 : IntsAt w w.heap.size AM ms) (h2 : ws.length = nw) (g2 : nw ≤ maxLen) (_i2 : IntsAt w w.heap.size AW ws) (h3 : ss.length = ns_) (g3 : ns_ ≤ maxLen) (_i3 : IntsAt w w.heap.size AS ss) (h4 : vs.length = nv) (g4 : nv ≤ maxLen) (_i4 : IntsAt w w.heap.size AV vs) (h5 : ns.length = nn) (g5 : nn ≤ maxLen) (_i5 : IntsAt w w.heap.size AN ns)
     (b1 : allB ms (laySpans ls) = false) :
    Calls Tryd.prog 61 #[.agg #[.slice A n c, .int .i64 lo, .int .i64 hi], .slice A2 m c', .agg #[.slice AM nm cm, .slice AW nw cw, .slice AS ns_ cs, .slice AV nv cv, .slice AN nn cn]] w fun e w' => e = .returned (.bool (possB ls lo hi ys ms ws ss vs ns)) ∧ Below w.heap.size w w' := by
  have HP : Hid (possB ls lo hi ys ms ws ss vs ns = false) := Lib.hid (by simp [possB, b1])
  have HL := Lib.hid hl; have HY := Lib.hid hy; have H1 := Lib.hid h1; have H2 := Lib.hid h2; have H3 := Lib.hid h3; have H4 := Lib.hid h4; have H5 := Lib.hid h5
  have G1 := Lib.hid g1; have G2 := Lib.hid g2; have G3 := Lib.hid g3; have G4 := Lib.hid g4; have G5 := Lib.hid g5
  have B1 := Lib.hid b1
  clear hl hy h1 h2 h3 h4 h5 g1 g2 g3 g4 g5 b1
  have hB1 : Below w.heap.size w ((w.alloc (.cells #[.slice A n c, .int .i64 lo, .int .i64 hi] 26)).alloc (.cells #[.slice AM nm cm, .slice AW nw cw, .slice AS ns_ cs, .slice AV nv cv, .slice AN nn cn] 41)) := ((Below.refl _ _).alloc (Nat.le_refl _) _).alloc (by simp) _
  have z0 := heap_alloc_new w (.cells #[.slice A n c, .int .i64 lo, .int .i64 hi] 26)
  have z1 : ((w.alloc (.cells #[.slice A n c, .int .i64 lo, .int .i64 hi] 26)).alloc (.cells #[.slice AM nm cm, .slice AW nw cw, .slice AS ns_ cs, .slice AV nv cv, .slice AN nn cn] 41)).heap[w.heap.size]? = some (.cells #[.slice A n c, .int .i64 lo, .int .i64 hi] 26 (0, 0)) := (Below.heap_alloc _ _ _ (by simp)).trans z0
  clear z0
  have y0 := heap_alloc_new (w.alloc (.cells #[.slice A n c, .int .i64 lo, .int .i64 hi] 26)) (.cells #[.slice AM nm cm, .slice AW nw cw, .slice AS ns_ cs, .slice AV nv cv, .slice AN nn cn] 41)
  simp only [World.size_alloc] at y0
  have HB1 := Lib.hid hB1
  have Z1 := Lib.hid z1
  have Y1 := Lib.hid y0
  clear hB1 z1 y0
  go_enter Tryd.func61, Tryd.ntmps61
  go_wp2_with fail
  have hc0 := allOf88 AM A nm cm n c ms ls _ H1.out G1.out (i1.next HB1.out) HL.out (by unfold maxLen; omega) (hL.next HB1.out)
  rw [B1.out] at hc0
  refine hc0.mono ?_
  clear hc0
  rintro e w2 ⟨rfl, hb2⟩
  have Z2 := Lib.hid ((hb2.block _ (Array.getElem?_eq_some_iff.1 Z1.out).1).trans Z1.out)
  have Y2 := Lib.hid ((hb2.block _ (Array.getElem?_eq_some_iff.1 Y1.out).1).trans Y1.out)
  have HB2 := Lib.hid (HB1.out.trans (hb2.mono HB1.out.size))
  clear hb2
  have t1_2 : w2.cell? ⟨w.heap.size + 1, 1, none⟩ = _ := cell_of_row w2 (w.heap.size + 1) 1 _ 41 (0, 0) Y2.out
  have t2_2 : w2.cell? ⟨w.heap.size + 1, 2, none⟩ = _ := cell_of_row w2 (w.heap.size + 1) 2 _ 41 (0, 0) Y2.out
  have t3_2 : w2.cell? ⟨w.heap.size + 1, 3, none⟩ = _ := cell_of_row w2 (w.heap.size + 1) 3 _ 41 (0, 0) Y2.out
  have t4_2 : w2.cell? ⟨w.heap.size + 1, 4, none⟩ = _ := cell_of_row w2 (w.heap.size + 1) 4 _ 41 (0, 0) Y2.out
  simp at t1_2 t2_2 t3_2 t4_2
  go_wp2_with fail
  go_ret
  exact ⟨ret_bool HP.out.symm, HB2.out⟩

set_option maxHeartbeats 1000000 in
theorem poss1 (A A2 AM AW AS AV AN : Option Addr) (n c m c' nm cm nw cw ns_ cs nv cv nn cn : Nat) (ls : List Lay) (ys : List Yr) (lo hi : Int) (ms ws ss vs ns : List Int) (w : World) (hl : ls.length = n) (hn : n ≤ 6) (hL : LaysAt w w.heap.size A ls) (hy : ys.length = m) (hm : m ≤ 12) (hY : YrsAt w w.heap.size A2 ys)
    (h1 : ms.length = nm) (g1 : nm ≤ maxLen) (i1 : IntsAt w w.heap.size AM ms) (h2 : ws.length = nw) (g2 : nw ≤ maxLen) (i2 : IntsAt w w.heap.size AW ws) (h3 : ss.length = ns_) (g3 : ns_ ≤ maxLen) (_i3 : IntsAt w w.heap.size AS ss) (h4 : vs.length = nv) (g4 : nv ≤ maxLen) (_i4 : IntsAt w w.heap.size AV vs) (h5 : ns.length = nn) (g5 : nn ≤ maxLen) (_i5 : IntsAt w w.heap.size AN ns)
    (b1 : allB ms (laySpans ls) = true) (b2 : allB ws (warmSpans lo hi ys) = false) :
    Calls Tryd.prog 61 #[.agg #[.slice A n c, .int .i64 lo, .int .i64 hi], .slice A2 m c', .agg #[.slice AM nm cm, .slice AW nw cw, .slice AS ns_ cs, .slice AV nv cv, .slice AN nn cn]] w fun e w' => e = .returned (.bool (possB ls lo hi ys ms ws ss vs ns)) ∧ Below w.heap.size w w' := by
  have HP : Hid (possB ls lo hi ys ms ws ss vs ns = false) := Lib.hid (by simp [possB, b1, b2])
  have HL := Lib.hid hl; have HY := Lib.hid hy; have H1 := Lib.hid h1; have H2 := Lib.hid h2; have H3 := Lib.hid h3; have H4 := Lib.hid h4; have H5 := Lib.hid h5
  have G1 := Lib.hid g1; have G2 := Lib.hid g2; have G3 := Lib.hid g3; have G4 := Lib.hid g4; have G5 := Lib.hid g5
  have B1 := Lib.hid b1
  have B2 := Lib.hid b2
  clear hl hy h1 h2 h3 h4 h5 g1 g2 g3 g4 g5 b1 b2
  have hB1 : Below w.heap.size w ((w.alloc (.cells #[.slice A n c, .int .i64 lo, .int .i64 hi] 26)).alloc (.cells #[.slice AM nm cm, .slice AW nw cw, .slice AS ns_ cs, .slice AV nv cv, .slice AN nn cn] 41)) := ((Below.refl _ _).alloc (Nat.le_refl _) _).alloc (by simp) _
  have z0 := heap_alloc_new w (.cells #[.slice A n c, .int .i64 lo, .int .i64 hi] 26)
  have z1 : ((w.alloc (.cells #[.slice A n c, .int .i64 lo, .int .i64 hi] 26)).alloc (.cells #[.slice AM nm cm, .slice AW nw cw, .slice AS ns_ cs, .slice AV nv cv, .slice AN nn cn] 41)).heap[w.heap.size]? = some (.cells #[.slice A n c, .int .i64 lo, .int .i64 hi] 26 (0, 0)) := (Below.heap_alloc _ _ _ (by simp)).trans z0
  clear z0
  have y0 := heap_alloc_new (w.alloc (.cells #[.slice A n c, .int .i64 lo, .int .i64 hi] 26)) (.cells #[.slice AM nm cm, .slice AW nw cw, .slice AS ns_ cs, .slice AV nv cv, .slice AN nn cn] 41)
  simp only [World.size_alloc] at y0
  have HB1 := Lib.hid hB1
  have Z1 := Lib.hid z1
  have Y1 := Lib.hid y0
  clear hB1 z1 y0
  go_enter Tryd.func61, Tryd.ntmps61
  go_wp2_with fail
  have hc0 := allOf88 AM A nm cm n c ms ls _ H1.out G1.out (i1.next HB1.out) HL.out (by unfold maxLen; omega) (hL.next HB1.out)
  rw [B1.out] at hc0
  refine hc0.mono ?_
  clear hc0
  rintro e w2 ⟨rfl, hb2⟩
  have Z2 := Lib.hid ((hb2.block _ (Array.getElem?_eq_some_iff.1 Z1.out).1).trans Z1.out)
  have Y2 := Lib.hid ((hb2.block _ (Array.getElem?_eq_some_iff.1 Y1.out).1).trans Y1.out)
  have HB2 := Lib.hid (HB1.out.trans (hb2.mono HB1.out.size))
  clear hb2
  have t1_2 : w2.cell? ⟨w.heap.size + 1, 1, none⟩ = _ := cell_of_row w2 (w.heap.size + 1) 1 _ 41 (0, 0) Y2.out
  have t2_2 : w2.cell? ⟨w.heap.size + 1, 2, none⟩ = _ := cell_of_row w2 (w.heap.size + 1) 2 _ 41 (0, 0) Y2.out
  have t3_2 : w2.cell? ⟨w.heap.size + 1, 3, none⟩ = _ := cell_of_row w2 (w.heap.size + 1) 3 _ 41 (0, 0) Y2.out
  have t4_2 : w2.cell? ⟨w.heap.size + 1, 4, none⟩ = _ := cell_of_row w2 (w.heap.size + 1) 4 _ 41 (0, 0) Y2.out
  simp at t1_2 t2_2 t3_2 t4_2
  go_wp2_with fail
  have e1 : w2.cell? ⟨w.heap.size, 1, none⟩ = some (.int .i64 lo) := by simpa using cell_of_row w2 w.heap.size 1 _ 26 (0, 0) Z2.out
  have e2 : w2.cell? ⟨w.heap.size, 2, none⟩ = some (.int .i64 hi) := by simpa using cell_of_row w2 w.heap.size 2 _ 26 (0, 0) Z2.out
  have hgB : w.heap.size < w2.heap.size := (Array.getElem?_eq_some_iff.1 Z2.out).1
  have hc1 := allOf91 AW A2 nw cw m c' ws ys w2 H2.out G2.out (i2.next HB2.out) HY.out (by unfold maxLen; omega) (hY.next HB2.out) lo hi w.heap.size hgB e1 e2
  rw [B2.out] at hc1
  refine hc1.mono ?_
  clear hc1
  clear e1 e2
  rintro e w3 ⟨rfl, hb3⟩
  have Z3 := Lib.hid ((hb3.block _ (Array.getElem?_eq_some_iff.1 Z2.out).1).trans Z2.out)
  have Y3 := Lib.hid ((hb3.block _ (Array.getElem?_eq_some_iff.1 Y2.out).1).trans Y2.out)
  have HB3 := Lib.hid (HB2.out.trans (hb3.mono HB2.out.size))
  clear hb3
  have t1_3 : w3.cell? ⟨w.heap.size + 1, 1, none⟩ = _ := cell_of_row w3 (w.heap.size + 1) 1 _ 41 (0, 0) Y3.out
  have t2_3 : w3.cell? ⟨w.heap.size + 1, 2, none⟩ = _ := cell_of_row w3 (w.heap.size + 1) 2 _ 41 (0, 0) Y3.out
  have t3_3 : w3.cell? ⟨w.heap.size + 1, 3, none⟩ = _ := cell_of_row w3 (w.heap.size + 1) 3 _ 41 (0, 0) Y3.out
  have t4_3 : w3.cell? ⟨w.heap.size + 1, 4, none⟩ = _ := cell_of_row w3 (w.heap.size + 1) 4 _ 41 (0, 0) Y3.out
  simp at t1_3 t2_3 t3_3 t4_3
  go_wp2_with fail
  go_ret
  exact ⟨ret_bool HP.out.symm, HB3.out⟩

set_option maxHeartbeats 1000000 in
theorem poss2 (A A2 AM AW AS AV AN : Option Addr) (n c m c' nm cm nw cw ns_ cs nv cv nn cn : Nat) (ls : List Lay) (ys : List Yr) (lo hi : Int) (ms ws ss vs ns : List Int) (w : World) (hl : ls.length = n) (hn : n ≤ 6) (hL : LaysAt w w.heap.size A ls) (hy : ys.length = m) (hm : m ≤ 12) (hY : YrsAt w w.heap.size A2 ys)
    (h1 : ms.length = nm) (g1 : nm ≤ maxLen) (i1 : IntsAt w w.heap.size AM ms) (h2 : ws.length = nw) (g2 : nw ≤ maxLen) (i2 : IntsAt w w.heap.size AW ws) (h3 : ss.length = ns_) (g3 : ns_ ≤ maxLen) (i3 : IntsAt w w.heap.size AS ss) (h4 : vs.length = nv) (g4 : nv ≤ maxLen) (_i4 : IntsAt w w.heap.size AV vs) (h5 : ns.length = nn) (g5 : nn ≤ maxLen) (_i5 : IntsAt w w.heap.size AN ns)
    (b1 : allB ms (laySpans ls) = true) (b2 : allB ws (warmSpans lo hi ys) = true) (b3 : allB ss (sumSpans ys) = false) :
    Calls Tryd.prog 61 #[.agg #[.slice A n c, .int .i64 lo, .int .i64 hi], .slice A2 m c', .agg #[.slice AM nm cm, .slice AW nw cw, .slice AS ns_ cs, .slice AV nv cv, .slice AN nn cn]] w fun e w' => e = .returned (.bool (possB ls lo hi ys ms ws ss vs ns)) ∧ Below w.heap.size w w' := by
  have HP : Hid (possB ls lo hi ys ms ws ss vs ns = false) := Lib.hid (by simp [possB, b1, b2, b3])
  have HL := Lib.hid hl; have HY := Lib.hid hy; have H1 := Lib.hid h1; have H2 := Lib.hid h2; have H3 := Lib.hid h3; have H4 := Lib.hid h4; have H5 := Lib.hid h5
  have G1 := Lib.hid g1; have G2 := Lib.hid g2; have G3 := Lib.hid g3; have G4 := Lib.hid g4; have G5 := Lib.hid g5
  have B1 := Lib.hid b1
  have B2 := Lib.hid b2
  have B3 := Lib.hid b3
  clear hl hy h1 h2 h3 h4 h5 g1 g2 g3 g4 g5 b1 b2 b3
  have hB1 : Below w.heap.size w ((w.alloc (.cells #[.slice A n c, .int .i64 lo, .int .i64 hi] 26)).alloc (.cells #[.slice AM nm cm, .slice AW nw cw, .slice AS ns_ cs, .slice AV nv cv, .slice AN nn cn] 41)) := ((Below.refl _ _).alloc (Nat.le_refl _) _).alloc (by simp) _
  have z0 := heap_alloc_new w (.cells #[.slice A n c, .int .i64 lo, .int .i64 hi] 26)
  have z1 : ((w.alloc (.cells #[.slice A n c, .int .i64 lo, .int .i64 hi] 26)).alloc (.cells #[.slice AM nm cm, .slice AW nw cw, .slice AS ns_ cs, .slice AV nv cv, .slice AN nn cn] 41)).heap[w.heap.size]? = some (.cells #[.slice A n c, .int .i64 lo, .int .i64 hi] 26 (0, 0)) := (Below.heap_alloc _ _ _ (by simp)).trans z0
  clear z0
  have y0 := heap_alloc_new (w.alloc (.cells #[.slice A n c, .int .i64 lo, .int .i64 hi] 26)) (.cells #[.slice AM nm cm, .slice AW nw cw, .slice AS ns_ cs, .slice AV nv cv, .slice AN nn cn] 41)
  simp only [World.size_alloc] at y0
  have HB1 := Lib.hid hB1
  have Z1 := Lib.hid z1
  have Y1 := Lib.hid y0
  clear hB1 z1 y0
  go_enter Tryd.func61, Tryd.ntmps61
  go_wp2_with fail
  have hc0 := allOf88 AM A nm cm n c ms ls _ H1.out G1.out (i1.next HB1.out) HL.out (by unfold maxLen; omega) (hL.next HB1.out)
  rw [B1.out] at hc0
  refine hc0.mono ?_
  clear hc0
  rintro e w2 ⟨rfl, hb2⟩
  have Z2 := Lib.hid ((hb2.block _ (Array.getElem?_eq_some_iff.1 Z1.out).1).trans Z1.out)
  have Y2 := Lib.hid ((hb2.block _ (Array.getElem?_eq_some_iff.1 Y1.out).1).trans Y1.out)
  have HB2 := Lib.hid (HB1.out.trans (hb2.mono HB1.out.size))
  clear hb2
  have t1_2 : w2.cell? ⟨w.heap.size + 1, 1, none⟩ = _ := cell_of_row w2 (w.heap.size + 1) 1 _ 41 (0, 0) Y2.out
  have t2_2 : w2.cell? ⟨w.heap.size + 1, 2, none⟩ = _ := cell_of_row w2 (w.heap.size + 1) 2 _ 41 (0, 0) Y2.out
  have t3_2 : w2.cell? ⟨w.heap.size + 1, 3, none⟩ = _ := cell_of_row w2 (w.heap.size + 1) 3 _ 41 (0, 0) Y2.out
  have t4_2 : w2.cell? ⟨w.heap.size + 1, 4, none⟩ = _ := cell_of_row w2 (w.heap.size + 1) 4 _ 41 (0, 0) Y2.out
  simp at t1_2 t2_2 t3_2 t4_2
  go_wp2_with fail
  have e1 : w2.cell? ⟨w.heap.size, 1, none⟩ = some (.int .i64 lo) := by simpa using cell_of_row w2 w.heap.size 1 _ 26 (0, 0) Z2.out
  have e2 : w2.cell? ⟨w.heap.size, 2, none⟩ = some (.int .i64 hi) := by simpa using cell_of_row w2 w.heap.size 2 _ 26 (0, 0) Z2.out
  have hgB : w.heap.size < w2.heap.size := (Array.getElem?_eq_some_iff.1 Z2.out).1
  have hc1 := allOf91 AW A2 nw cw m c' ws ys w2 H2.out G2.out (i2.next HB2.out) HY.out (by unfold maxLen; omega) (hY.next HB2.out) lo hi w.heap.size hgB e1 e2
  rw [B2.out] at hc1
  refine hc1.mono ?_
  clear hc1
  clear e1 e2
  rintro e w3 ⟨rfl, hb3⟩
  have Z3 := Lib.hid ((hb3.block _ (Array.getElem?_eq_some_iff.1 Z2.out).1).trans Z2.out)
  have Y3 := Lib.hid ((hb3.block _ (Array.getElem?_eq_some_iff.1 Y2.out).1).trans Y2.out)
  have HB3 := Lib.hid (HB2.out.trans (hb3.mono HB2.out.size))
  clear hb3
  have t1_3 : w3.cell? ⟨w.heap.size + 1, 1, none⟩ = _ := cell_of_row w3 (w.heap.size + 1) 1 _ 41 (0, 0) Y3.out
  have t2_3 : w3.cell? ⟨w.heap.size + 1, 2, none⟩ = _ := cell_of_row w3 (w.heap.size + 1) 2 _ 41 (0, 0) Y3.out
  have t3_3 : w3.cell? ⟨w.heap.size + 1, 3, none⟩ = _ := cell_of_row w3 (w.heap.size + 1) 3 _ 41 (0, 0) Y3.out
  have t4_3 : w3.cell? ⟨w.heap.size + 1, 4, none⟩ = _ := cell_of_row w3 (w.heap.size + 1) 4 _ 41 (0, 0) Y3.out
  simp at t1_3 t2_3 t3_3 t4_3
  go_wp2_with fail
  have hc2 := allOf92 AS A2 ns_ cs m c' ss ys w3 H3.out G3.out (i3.next HB3.out) HY.out (by unfold maxLen; omega) (hY.next HB3.out)
  rw [B3.out] at hc2
  refine hc2.mono ?_
  clear hc2
  rintro e w4 ⟨rfl, hb4⟩
  have Z4 := Lib.hid ((hb4.block _ (Array.getElem?_eq_some_iff.1 Z3.out).1).trans Z3.out)
  have Y4 := Lib.hid ((hb4.block _ (Array.getElem?_eq_some_iff.1 Y3.out).1).trans Y3.out)
  have HB4 := Lib.hid (HB3.out.trans (hb4.mono HB3.out.size))
  clear hb4
  have t1_4 : w4.cell? ⟨w.heap.size + 1, 1, none⟩ = _ := cell_of_row w4 (w.heap.size + 1) 1 _ 41 (0, 0) Y4.out
  have t2_4 : w4.cell? ⟨w.heap.size + 1, 2, none⟩ = _ := cell_of_row w4 (w.heap.size + 1) 2 _ 41 (0, 0) Y4.out
  have t3_4 : w4.cell? ⟨w.heap.size + 1, 3, none⟩ = _ := cell_of_row w4 (w.heap.size + 1) 3 _ 41 (0, 0) Y4.out
  have t4_4 : w4.cell? ⟨w.heap.size + 1, 4, none⟩ = _ := cell_of_row w4 (w.heap.size + 1) 4 _ 41 (0, 0) Y4.out
  simp at t1_4 t2_4 t3_4 t4_4
  go_wp2_with fail
  go_ret
  exact ⟨ret_bool HP.out.symm, HB4.out⟩

set_option maxHeartbeats 1000000 in
theorem poss3 (A A2 AM AW AS AV AN : Option Addr) (n c m c' nm cm nw cw ns_ cs nv cv nn cn : Nat) (ls : List Lay) (ys : List Yr) (lo hi : Int) (ms ws ss vs ns : List Int) (w : World) (hl : ls.length = n) (hn : n ≤ 6) (hL : LaysAt w w.heap.size A ls) (hy : ys.length = m) (hm : m ≤ 12) (hY : YrsAt w w.heap.size A2 ys)
    (h1 : ms.length = nm) (g1 : nm ≤ maxLen) (i1 : IntsAt w w.heap.size AM ms) (h2 : ws.length = nw) (g2 : nw ≤ maxLen) (i2 : IntsAt w w.heap.size AW ws) (h3 : ss.length = ns_) (g3 : ns_ ≤ maxLen) (i3 : IntsAt w w.heap.size AS ss) (h4 : vs.length = nv) (g4 : nv ≤ maxLen) (i4 : IntsAt w w.heap.size AV vs) (h5 : ns.length = nn) (g5 : nn ≤ maxLen) (_i5 : IntsAt w w.heap.size AN ns)
    (b1 : allB ms (laySpans ls) = true) (b2 : allB ws (warmSpans lo hi ys) = true) (b3 : allB ss (sumSpans ys) = true) (b4 : allB vs (winSpans ys) = false) :
    Calls Tryd.prog 61 #[.agg #[.slice A n c, .int .i64 lo, .int .i64 hi], .slice A2 m c', .agg #[.slice AM nm cm, .slice AW nw cw, .slice AS ns_ cs, .slice AV nv cv, .slice AN nn cn]] w fun e w' => e = .returned (.bool (possB ls lo hi ys ms ws ss vs ns)) ∧ Below w.heap.size w w' := by
  have HP : Hid (possB ls lo hi ys ms ws ss vs ns = false) := Lib.hid (by simp [possB, b1, b2, b3, b4])
  have HL := Lib.hid hl; have HY := Lib.hid hy; have H1 := Lib.hid h1; have H2 := Lib.hid h2; have H3 := Lib.hid h3; have H4 := Lib.hid h4; have H5 := Lib.hid h5
  have G1 := Lib.hid g1; have G2 := Lib.hid g2; have G3 := Lib.hid g3; have G4 := Lib.hid g4; have G5 := Lib.hid g5
  have B1 := Lib.hid b1
  have B2 := Lib.hid b2
  have B3 := Lib.hid b3
  have B4 := Lib.hid b4
  clear hl hy h1 h2 h3 h4 h5 g1 g2 g3 g4 g5 b1 b2 b3 b4
  have hB1 : Below w.heap.size w ((w.alloc (.cells #[.slice A n c, .int .i64 lo, .int .i64 hi] 26)).alloc (.cells #[.slice AM nm cm, .slice AW nw cw, .slice AS ns_ cs, .slice AV nv cv, .slice AN nn cn] 41)) := ((Below.refl _ _).alloc (Nat.le_refl _) _).alloc (by simp) _
  have z0 := heap_alloc_new w (.cells #[.slice A n c, .int .i64 lo, .int .i64 hi] 26)
  have z1 : ((w.alloc (.cells #[.slice A n c, .int .i64 lo, .int .i64 hi] 26)).alloc (.cells #[.slice AM nm cm, .slice AW nw cw, .slice AS ns_ cs, .slice AV nv cv, .slice AN nn cn] 41)).heap[w.heap.size]? = some (.cells #[.slice A n c, .int .i64 lo, .int .i64 hi] 26 (0, 0)) := (Below.heap_alloc _ _ _ (by simp)).trans z0
  clear z0
  have y0 := heap_alloc_new (w.alloc (.cells #[.slice A n c, .int .i64 lo, .int .i64 hi] 26)) (.cells #[.slice AM nm cm, .slice AW nw cw, .slice AS ns_ cs, .slice AV nv cv, .slice AN nn cn] 41)
  simp only [World.size_alloc] at y0
  have HB1 := Lib.hid hB1
  have Z1 := Lib.hid z1
  have Y1 := Lib.hid y0
  clear hB1 z1 y0
  go_enter Tryd.func61, Tryd.ntmps61
  go_wp2_with fail
  have hc0 := allOf88 AM A nm cm n c ms ls _ H1.out G1.out (i1.next HB1.out) HL.out (by unfold maxLen; omega) (hL.next HB1.out)
  rw [B1.out] at hc0
  refine hc0.mono ?_
  clear hc0
  rintro e w2 ⟨rfl, hb2⟩
  have Z2 := Lib.hid ((hb2.block _ (Array.getElem?_eq_some_iff.1 Z1.out).1).trans Z1.out)
  have Y2 := Lib.hid ((hb2.block _ (Array.getElem?_eq_some_iff.1 Y1.out).1).trans Y1.out)
  have HB2 := Lib.hid (HB1.out.trans (hb2.mono HB1.out.size))
  clear hb2
  have t1_2 : w2.cell? ⟨w.heap.size + 1, 1, none⟩ = _ := cell_of_row w2 (w.heap.size + 1) 1 _ 41 (0, 0) Y2.out
  have t2_2 : w2.cell? ⟨w.heap.size + 1, 2, none⟩ = _ := cell_of_row w2 (w.heap.size + 1) 2 _ 41 (0, 0) Y2.out
  have t3_2 : w2.cell? ⟨w.heap.size + 1, 3, none⟩ = _ := cell_of_row w2 (w.heap.size + 1) 3 _ 41 (0, 0) Y2.out
  have t4_2 : w2.cell? ⟨w.heap.size + 1, 4, none⟩ = _ := cell_of_row w2 (w.heap.size + 1) 4 _ 41 (0, 0) Y2.out
  simp at t1_2 t2_2 t3_2 t4_2
  go_wp2_with fail
  have e1 : w2.cell? ⟨w.heap.size, 1, none⟩ = some (.int .i64 lo) := by simpa using cell_of_row w2 w.heap.size 1 _ 26 (0, 0) Z2.out
  have e2 : w2.cell? ⟨w.heap.size, 2, none⟩ = some (.int .i64 hi) := by simpa using cell_of_row w2 w.heap.size 2 _ 26 (0, 0) Z2.out
  have hgB : w.heap.size < w2.heap.size := (Array.getElem?_eq_some_iff.1 Z2.out).1
  have hc1 := allOf91 AW A2 nw cw m c' ws ys w2 H2.out G2.out (i2.next HB2.out) HY.out (by unfold maxLen; omega) (hY.next HB2.out) lo hi w.heap.size hgB e1 e2
  rw [B2.out] at hc1
  refine hc1.mono ?_
  clear hc1
  clear e1 e2
  rintro e w3 ⟨rfl, hb3⟩
  have Z3 := Lib.hid ((hb3.block _ (Array.getElem?_eq_some_iff.1 Z2.out).1).trans Z2.out)
  have Y3 := Lib.hid ((hb3.block _ (Array.getElem?_eq_some_iff.1 Y2.out).1).trans Y2.out)
  have HB3 := Lib.hid (HB2.out.trans (hb3.mono HB2.out.size))
  clear hb3
  have t1_3 : w3.cell? ⟨w.heap.size + 1, 1, none⟩ = _ := cell_of_row w3 (w.heap.size + 1) 1 _ 41 (0, 0) Y3.out
  have t2_3 : w3.cell? ⟨w.heap.size + 1, 2, none⟩ = _ := cell_of_row w3 (w.heap.size + 1) 2 _ 41 (0, 0) Y3.out
  have t3_3 : w3.cell? ⟨w.heap.size + 1, 3, none⟩ = _ := cell_of_row w3 (w.heap.size + 1) 3 _ 41 (0, 0) Y3.out
  have t4_3 : w3.cell? ⟨w.heap.size + 1, 4, none⟩ = _ := cell_of_row w3 (w.heap.size + 1) 4 _ 41 (0, 0) Y3.out
  simp at t1_3 t2_3 t3_3 t4_3
  go_wp2_with fail
  have hc2 := allOf92 AS A2 ns_ cs m c' ss ys w3 H3.out G3.out (i3.next HB3.out) HY.out (by unfold maxLen; omega) (hY.next HB3.out)
  rw [B3.out] at hc2
  refine hc2.mono ?_
  clear hc2
  rintro e w4 ⟨rfl, hb4⟩
  have Z4 := Lib.hid ((hb4.block _ (Array.getElem?_eq_some_iff.1 Z3.out).1).trans Z3.out)
  have Y4 := Lib.hid ((hb4.block _ (Array.getElem?_eq_some_iff.1 Y3.out).1).trans Y3.out)
  have HB4 := Lib.hid (HB3.out.trans (hb4.mono HB3.out.size))
  clear hb4
  have t1_4 : w4.cell? ⟨w.heap.size + 1, 1, none⟩ = _ := cell_of_row w4 (w.heap.size + 1) 1 _ 41 (0, 0) Y4.out
  have t2_4 : w4.cell? ⟨w.heap.size + 1, 2, none⟩ = _ := cell_of_row w4 (w.heap.size + 1) 2 _ 41 (0, 0) Y4.out
  have t3_4 : w4.cell? ⟨w.heap.size + 1, 3, none⟩ = _ := cell_of_row w4 (w.heap.size + 1) 3 _ 41 (0, 0) Y4.out
  have t4_4 : w4.cell? ⟨w.heap.size + 1, 4, none⟩ = _ := cell_of_row w4 (w.heap.size + 1) 4 _ 41 (0, 0) Y4.out
  simp at t1_4 t2_4 t3_4 t4_4
  go_wp2_with fail
  have hc3 := allOf93 AV A2 nv cv m c' vs ys w4 H4.out G4.out (i4.next HB4.out) HY.out (by unfold maxLen; omega) (hY.next HB4.out)
  rw [B4.out] at hc3
  refine hc3.mono ?_
  clear hc3
  rintro e w5 ⟨rfl, hb5⟩
  have Z5 := Lib.hid ((hb5.block _ (Array.getElem?_eq_some_iff.1 Z4.out).1).trans Z4.out)
  have Y5 := Lib.hid ((hb5.block _ (Array.getElem?_eq_some_iff.1 Y4.out).1).trans Y4.out)
  have HB5 := Lib.hid (HB4.out.trans (hb5.mono HB4.out.size))
  clear hb5
  have t1_5 : w5.cell? ⟨w.heap.size + 1, 1, none⟩ = _ := cell_of_row w5 (w.heap.size + 1) 1 _ 41 (0, 0) Y5.out
  have t2_5 : w5.cell? ⟨w.heap.size + 1, 2, none⟩ = _ := cell_of_row w5 (w.heap.size + 1) 2 _ 41 (0, 0) Y5.out
  have t3_5 : w5.cell? ⟨w.heap.size + 1, 3, none⟩ = _ := cell_of_row w5 (w.heap.size + 1) 3 _ 41 (0, 0) Y5.out
  have t4_5 : w5.cell? ⟨w.heap.size + 1, 4, none⟩ = _ := cell_of_row w5 (w.heap.size + 1) 4 _ 41 (0, 0) Y5.out
  simp at t1_5 t2_5 t3_5 t4_5
  go_wp2_with fail
  go_ret
  exact ⟨ret_bool HP.out.symm, HB5.out⟩

set_option maxHeartbeats 1000000 in
theorem poss4 (A A2 AM AW AS AV AN : Option Addr) (n c m c' nm cm nw cw ns_ cs nv cv nn cn : Nat) (ls : List Lay) (ys : List Yr) (lo hi : Int) (ms ws ss vs ns : List Int) (w : World) (hl : ls.length = n) (hn : n ≤ 6) (hL : LaysAt w w.heap.size A ls) (hy : ys.length = m) (hm : m ≤ 12) (hY : YrsAt w w.heap.size A2 ys)
    (h1 : ms.length = nm) (g1 : nm ≤ maxLen) (i1 : IntsAt w w.heap.size AM ms) (h2 : ws.length = nw) (g2 : nw ≤ maxLen) (i2 : IntsAt w w.heap.size AW ws) (h3 : ss.length = ns_) (g3 : ns_ ≤ maxLen) (i3 : IntsAt w w.heap.size AS ss) (h4 : vs.length = nv) (g4 : nv ≤ maxLen) (i4 : IntsAt w w.heap.size AV vs) (h5 : ns.length = nn) (g5 : nn ≤ maxLen) (i5 : IntsAt w w.heap.size AN ns)
    (b1 : allB ms (laySpans ls) = true) (b2 : allB ws (warmSpans lo hi ys) = true) (b3 : allB ss (sumSpans ys) = true) (b4 : allB vs (winSpans ys) = true) (b5 : allB ns (snowSpans ys) = false) :
    Calls Tryd.prog 61 #[.agg #[.slice A n c, .int .i64 lo, .int .i64 hi], .slice A2 m c', .agg #[.slice AM nm cm, .slice AW nw cw, .slice AS ns_ cs, .slice AV nv cv, .slice AN nn cn]] w fun e w' => e = .returned (.bool (possB ls lo hi ys ms ws ss vs ns)) ∧ Below w.heap.size w w' := by
  have HP : Hid (possB ls lo hi ys ms ws ss vs ns = false) := Lib.hid (by simp [possB, b1, b2, b3, b4, b5])
  have HL := Lib.hid hl; have HY := Lib.hid hy; have H1 := Lib.hid h1; have H2 := Lib.hid h2; have H3 := Lib.hid h3; have H4 := Lib.hid h4; have H5 := Lib.hid h5
  have G1 := Lib.hid g1; have G2 := Lib.hid g2; have G3 := Lib.hid g3; have G4 := Lib.hid g4; have G5 := Lib.hid g5
  have B1 := Lib.hid b1
  have B2 := Lib.hid b2
  have B3 := Lib.hid b3
  have B4 := Lib.hid b4
  have B5 := Lib.hid b5
  clear hl hy h1 h2 h3 h4 h5 g1 g2 g3 g4 g5 b1 b2 b3 b4 b5
  have hB1 : Below w.heap.size w ((w.alloc (.cells #[.slice A n c, .int .i64 lo, .int .i64 hi] 26)).alloc (.cells #[.slice AM nm cm, .slice AW nw cw, .slice AS ns_ cs, .slice AV nv cv, .slice AN nn cn] 41)) := ((Below.refl _ _).alloc (Nat.le_refl _) _).alloc (by simp) _
  have z0 := heap_alloc_new w (.cells #[.slice A n c, .int .i64 lo, .int .i64 hi] 26)
  have z1 : ((w.alloc (.cells #[.slice A n c, .int .i64 lo, .int .i64 hi] 26)).alloc (.cells #[.slice AM nm cm, .slice AW nw cw, .slice AS ns_ cs, .slice AV nv cv, .slice AN nn cn] 41)).heap[w.heap.size]? = some (.cells #[.slice A n c, .int .i64 lo, .int .i64 hi] 26 (0, 0)) := (Below.heap_alloc _ _ _ (by simp)).trans z0
  clear z0
  have y0 := heap_alloc_new (w.alloc (.cells #[.slice A n c, .int .i64 lo, .int .i64 hi] 26)) (.cells #[.slice AM nm cm, .slice AW nw cw, .slice AS ns_ cs, .slice AV nv cv, .slice AN nn cn] 41)
  simp only [World.size_alloc] at y0
  have HB1 := Lib.hid hB1
  have Z1 := Lib.hid z1
  have Y1 := Lib.hid y0
  clear hB1 z1 y0
  go_enter Tryd.func61, Tryd.ntmps61
  go_wp2_with fail
  have hc0 := allOf88 AM A nm cm n c ms ls _ H1.out G1.out (i1.next HB1.out) HL.out (by unfold maxLen; omega) (hL.next HB1.out)
  rw [B1.out] at hc0
  refine hc0.mono ?_
  clear hc0
  rintro e w2 ⟨rfl, hb2⟩
  have Z2 := Lib.hid ((hb2.block _ (Array.getElem?_eq_some_iff.1 Z1.out).1).trans Z1.out)
  have Y2 := Lib.hid ((hb2.block _ (Array.getElem?_eq_some_iff.1 Y1.out).1).trans Y1.out)
  have HB2 := Lib.hid (HB1.out.trans (hb2.mono HB1.out.size))
  clear hb2
  have t1_2 : w2.cell? ⟨w.heap.size + 1, 1, none⟩ = _ := cell_of_row w2 (w.heap.size + 1) 1 _ 41 (0, 0) Y2.out
  have t2_2 : w2.cell? ⟨w.heap.size + 1, 2, none⟩ = _ := cell_of_row w2 (w.heap.size + 1) 2 _ 41 (0, 0) Y2.out
  have t3_2 : w2.cell? ⟨w.heap.size + 1, 3, none⟩ = _ := cell_of_row w2 (w.heap.size + 1) 3 _ 41 (0, 0) Y2.out
  have t4_2 : w2.cell? ⟨w.heap.size + 1, 4, none⟩ = _ := cell_of_row w2 (w.heap.size + 1) 4 _ 41 (0, 0) Y2.out
  simp at t1_2 t2_2 t3_2 t4_2
  go_wp2_with fail
  have e1 : w2.cell? ⟨w.heap.size, 1, none⟩ = some (.int .i64 lo) := by simpa using cell_of_row w2 w.heap.size 1 _ 26 (0, 0) Z2.out
  have e2 : w2.cell? ⟨w.heap.size, 2, none⟩ = some (.int .i64 hi) := by simpa using cell_of_row w2 w.heap.size 2 _ 26 (0, 0) Z2.out
  have hgB : w.heap.size < w2.heap.size := (Array.getElem?_eq_some_iff.1 Z2.out).1
  have hc1 := allOf91 AW A2 nw cw m c' ws ys w2 H2.out G2.out (i2.next HB2.out) HY.out (by unfold maxLen; omega) (hY.next HB2.out) lo hi w.heap.size hgB e1 e2
  rw [B2.out] at hc1
  refine hc1.mono ?_
  clear hc1
  clear e1 e2
  rintro e w3 ⟨rfl, hb3⟩
  have Z3 := Lib.hid ((hb3.block _ (Array.getElem?_eq_some_iff.1 Z2.out).1).trans Z2.out)
  have Y3 := Lib.hid ((hb3.block _ (Array.getElem?_eq_some_iff.1 Y2.out).1).trans Y2.out)
  have HB3 := Lib.hid (HB2.out.trans (hb3.mono HB2.out.size))
  clear hb3
  have t1_3 : w3.cell? ⟨w.heap.size + 1, 1, none⟩ = _ := cell_of_row w3 (w.heap.size + 1) 1 _ 41 (0, 0) Y3.out
  have t2_3 : w3.cell? ⟨w.heap.size + 1, 2, none⟩ = _ := cell_of_row w3 (w.heap.size + 1) 2 _ 41 (0, 0) Y3.out
  have t3_3 : w3.cell? ⟨w.heap.size + 1, 3, none⟩ = _ := cell_of_row w3 (w.heap.size + 1) 3 _ 41 (0, 0) Y3.out
  have t4_3 : w3.cell? ⟨w.heap.size + 1, 4, none⟩ = _ := cell_of_row w3 (w.heap.size + 1) 4 _ 41 (0, 0) Y3.out
  simp at t1_3 t2_3 t3_3 t4_3
  go_wp2_with fail
  have hc2 := allOf92 AS A2 ns_ cs m c' ss ys w3 H3.out G3.out (i3.next HB3.out) HY.out (by unfold maxLen; omega) (hY.next HB3.out)
  rw [B3.out] at hc2
  refine hc2.mono ?_
  clear hc2
  rintro e w4 ⟨rfl, hb4⟩
  have Z4 := Lib.hid ((hb4.block _ (Array.getElem?_eq_some_iff.1 Z3.out).1).trans Z3.out)
  have Y4 := Lib.hid ((hb4.block _ (Array.getElem?_eq_some_iff.1 Y3.out).1).trans Y3.out)
  have HB4 := Lib.hid (HB3.out.trans (hb4.mono HB3.out.size))
  clear hb4
  have t1_4 : w4.cell? ⟨w.heap.size + 1, 1, none⟩ = _ := cell_of_row w4 (w.heap.size + 1) 1 _ 41 (0, 0) Y4.out
  have t2_4 : w4.cell? ⟨w.heap.size + 1, 2, none⟩ = _ := cell_of_row w4 (w.heap.size + 1) 2 _ 41 (0, 0) Y4.out
  have t3_4 : w4.cell? ⟨w.heap.size + 1, 3, none⟩ = _ := cell_of_row w4 (w.heap.size + 1) 3 _ 41 (0, 0) Y4.out
  have t4_4 : w4.cell? ⟨w.heap.size + 1, 4, none⟩ = _ := cell_of_row w4 (w.heap.size + 1) 4 _ 41 (0, 0) Y4.out
  simp at t1_4 t2_4 t3_4 t4_4
  go_wp2_with fail
  have hc3 := allOf93 AV A2 nv cv m c' vs ys w4 H4.out G4.out (i4.next HB4.out) HY.out (by unfold maxLen; omega) (hY.next HB4.out)
  rw [B4.out] at hc3
  refine hc3.mono ?_
  clear hc3
  rintro e w5 ⟨rfl, hb5⟩
  have Z5 := Lib.hid ((hb5.block _ (Array.getElem?_eq_some_iff.1 Z4.out).1).trans Z4.out)
  have Y5 := Lib.hid ((hb5.block _ (Array.getElem?_eq_some_iff.1 Y4.out).1).trans Y4.out)
  have HB5 := Lib.hid (HB4.out.trans (hb5.mono HB4.out.size))
  clear hb5
  have t1_5 : w5.cell? ⟨w.heap.size + 1, 1, none⟩ = _ := cell_of_row w5 (w.heap.size + 1) 1 _ 41 (0, 0) Y5.out
  have t2_5 : w5.cell? ⟨w.heap.size + 1, 2, none⟩ = _ := cell_of_row w5 (w.heap.size + 1) 2 _ 41 (0, 0) Y5.out
  have t3_5 : w5.cell? ⟨w.heap.size + 1, 3, none⟩ = _ := cell_of_row w5 (w.heap.size + 1) 3 _ 41 (0, 0) Y5.out
  have t4_5 : w5.cell? ⟨w.heap.size + 1, 4, none⟩ = _ := cell_of_row w5 (w.heap.size + 1) 4 _ 41 (0, 0) Y5.out
  simp at t1_5 t2_5 t3_5 t4_5
  go_wp2_with fail
  have hc4 := allOf94 AN A2 nn cn m c' ns ys w5 H5.out G5.out (i5.next HB5.out) HY.out (by unfold maxLen; omega) (hY.next HB5.out)
  rw [B5.out] at hc4
  refine hc4.mono ?_
  clear hc4
  rintro e w6 ⟨rfl, hb6⟩
  have Z6 := Lib.hid ((hb6.block _ (Array.getElem?_eq_some_iff.1 Z5.out).1).trans Z5.out)
  have Y6 := Lib.hid ((hb6.block _ (Array.getElem?_eq_some_iff.1 Y5.out).1).trans Y5.out)
  have HB6 := Lib.hid (HB5.out.trans (hb6.mono HB5.out.size))
  clear hb6
  have t1_6 : w6.cell? ⟨w.heap.size + 1, 1, none⟩ = _ := cell_of_row w6 (w.heap.size + 1) 1 _ 41 (0, 0) Y6.out
  have t2_6 : w6.cell? ⟨w.heap.size + 1, 2, none⟩ = _ := cell_of_row w6 (w.heap.size + 1) 2 _ 41 (0, 0) Y6.out
  have t3_6 : w6.cell? ⟨w.heap.size + 1, 3, none⟩ = _ := cell_of_row w6 (w.heap.size + 1) 3 _ 41 (0, 0) Y6.out
  have t4_6 : w6.cell? ⟨w.heap.size + 1, 4, none⟩ = _ := cell_of_row w6 (w.heap.size + 1) 4 _ 41 (0, 0) Y6.out
  simp at t1_6 t2_6 t3_6 t4_6
  go_wp2_with fail
  go_ret
  exact ⟨ret_bool HP.out.symm, HB6.out⟩

set_option maxHeartbeats 1000000 in
theorem poss5 (A A2 AM AW AS AV AN : Option Addr) (n c m c' nm cm nw cw ns_ cs nv cv nn cn : Nat) (ls : List Lay) (ys : List Yr) (lo hi : Int) (ms ws ss vs ns : List Int) (w : World) (hl : ls.length = n) (hn : n ≤ 6) (hL : LaysAt w w.heap.size A ls) (hy : ys.length = m) (hm : m ≤ 12) (hY : YrsAt w w.heap.size A2 ys)
    (h1 : ms.length = nm) (g1 : nm ≤ maxLen) (i1 : IntsAt w w.heap.size AM ms) (h2 : ws.length = nw) (g2 : nw ≤ maxLen) (i2 : IntsAt w w.heap.size AW ws) (h3 : ss.length = ns_) (g3 : ns_ ≤ maxLen) (i3 : IntsAt w w.heap.size AS ss) (h4 : vs.length = nv) (g4 : nv ≤ maxLen) (i4 : IntsAt w w.heap.size AV vs) (h5 : ns.length = nn) (g5 : nn ≤ maxLen) (i5 : IntsAt w w.heap.size AN ns)
    (b1 : allB ms (laySpans ls) = true) (b2 : allB ws (warmSpans lo hi ys) = true) (b3 : allB ss (sumSpans ys) = true) (b4 : allB vs (winSpans ys) = true) (b5 : allB ns (snowSpans ys) = true) :
    Calls Tryd.prog 61 #[.agg #[.slice A n c, .int .i64 lo, .int .i64 hi], .slice A2 m c', .agg #[.slice AM nm cm, .slice AW nw cw, .slice AS ns_ cs, .slice AV nv cv, .slice AN nn cn]] w fun e w' => e = .returned (.bool (possB ls lo hi ys ms ws ss vs ns)) ∧ Below w.heap.size w w' := by
  have HP : Hid (possB ls lo hi ys ms ws ss vs ns = true) := Lib.hid (by simp [possB, b1, b2, b3, b4, b5])
  have HL := Lib.hid hl; have HY := Lib.hid hy; have H1 := Lib.hid h1; have H2 := Lib.hid h2; have H3 := Lib.hid h3; have H4 := Lib.hid h4; have H5 := Lib.hid h5
  have G1 := Lib.hid g1; have G2 := Lib.hid g2; have G3 := Lib.hid g3; have G4 := Lib.hid g4; have G5 := Lib.hid g5
  have B1 := Lib.hid b1
  have B2 := Lib.hid b2
  have B3 := Lib.hid b3
  have B4 := Lib.hid b4
  have B5 := Lib.hid b5
  clear hl hy h1 h2 h3 h4 h5 g1 g2 g3 g4 g5 b1 b2 b3 b4 b5
  have hB1 : Below w.heap.size w ((w.alloc (.cells #[.slice A n c, .int .i64 lo, .int .i64 hi] 26)).alloc (.cells #[.slice AM nm cm, .slice AW nw cw, .slice AS ns_ cs, .slice AV nv cv, .slice AN nn cn] 41)) := ((Below.refl _ _).alloc (Nat.le_refl _) _).alloc (by simp) _
  have z0 := heap_alloc_new w (.cells #[.slice A n c, .int .i64 lo, .int .i64 hi] 26)
  have z1 : ((w.alloc (.cells #[.slice A n c, .int .i64 lo, .int .i64 hi] 26)).alloc (.cells #[.slice AM nm cm, .slice AW nw cw, .slice AS ns_ cs, .slice AV nv cv, .slice AN nn cn] 41)).heap[w.heap.size]? = some (.cells #[.slice A n c, .int .i64 lo, .int .i64 hi] 26 (0, 0)) := (Below.heap_alloc _ _ _ (by simp)).trans z0
  clear z0
  have y0 := heap_alloc_new (w.alloc (.cells #[.slice A n c, .int .i64 lo, .int .i64 hi] 26)) (.cells #[.slice AM nm cm, .slice AW nw cw, .slice AS ns_ cs, .slice AV nv cv, .slice AN nn cn] 41)
  simp only [World.size_alloc] at y0
  have HB1 := Lib.hid hB1
  have Z1 := Lib.hid z1
  have Y1 := Lib.hid y0
  clear hB1 z1 y0
  go_enter Tryd.func61, Tryd.ntmps61
  go_wp2_with fail
  have hc0 := allOf88 AM A nm cm n c ms ls _ H1.out G1.out (i1.next HB1.out) HL.out (by unfold maxLen; omega) (hL.next HB1.out)
  rw [B1.out] at hc0
  refine hc0.mono ?_
  clear hc0
  rintro e w2 ⟨rfl, hb2⟩
  have Z2 := Lib.hid ((hb2.block _ (Array.getElem?_eq_some_iff.1 Z1.out).1).trans Z1.out)
  have Y2 := Lib.hid ((hb2.block _ (Array.getElem?_eq_some_iff.1 Y1.out).1).trans Y1.out)
  have HB2 := Lib.hid (HB1.out.trans (hb2.mono HB1.out.size))
  clear hb2
  have t1_2 : w2.cell? ⟨w.heap.size + 1, 1, none⟩ = _ := cell_of_row w2 (w.heap.size + 1) 1 _ 41 (0, 0) Y2.out
  have t2_2 : w2.cell? ⟨w.heap.size + 1, 2, none⟩ = _ := cell_of_row w2 (w.heap.size + 1) 2 _ 41 (0, 0) Y2.out
  have t3_2 : w2.cell? ⟨w.heap.size + 1, 3, none⟩ = _ := cell_of_row w2 (w.heap.size + 1) 3 _ 41 (0, 0) Y2.out
  have t4_2 : w2.cell? ⟨w.heap.size + 1, 4, none⟩ = _ := cell_of_row w2 (w.heap.size + 1) 4 _ 41 (0, 0) Y2.out
  simp at t1_2 t2_2 t3_2 t4_2
  go_wp2_with fail
  have e1 : w2.cell? ⟨w.heap.size, 1, none⟩ = some (.int .i64 lo) := by simpa using cell_of_row w2 w.heap.size 1 _ 26 (0, 0) Z2.out
  have e2 : w2.cell? ⟨w.heap.size, 2, none⟩ = some (.int .i64 hi) := by simpa using cell_of_row w2 w.heap.size 2 _ 26 (0, 0) Z2.out
  have hgB : w.heap.size < w2.heap.size := (Array.getElem?_eq_some_iff.1 Z2.out).1
  have hc1 := allOf91 AW A2 nw cw m c' ws ys w2 H2.out G2.out (i2.next HB2.out) HY.out (by unfold maxLen; omega) (hY.next HB2.out) lo hi w.heap.size hgB e1 e2
  rw [B2.out] at hc1
  refine hc1.mono ?_
  clear hc1
  clear e1 e2
  rintro e w3 ⟨rfl, hb3⟩
  have Z3 := Lib.hid ((hb3.block _ (Array.getElem?_eq_some_iff.1 Z2.out).1).trans Z2.out)
  have Y3 := Lib.hid ((hb3.block _ (Array.getElem?_eq_some_iff.1 Y2.out).1).trans Y2.out)
  have HB3 := Lib.hid (HB2.out.trans (hb3.mono HB2.out.size))
  clear hb3
  have t1_3 : w3.cell? ⟨w.heap.size + 1, 1, none⟩ = _ := cell_of_row w3 (w.heap.size + 1) 1 _ 41 (0, 0) Y3.out
  have t2_3 : w3.cell? ⟨w.heap.size + 1, 2, none⟩ = _ := cell_of_row w3 (w.heap.size + 1) 2 _ 41 (0, 0) Y3.out
  have t3_3 : w3.cell? ⟨w.heap.size + 1, 3, none⟩ = _ := cell_of_row w3 (w.heap.size + 1) 3 _ 41 (0, 0) Y3.out
  have t4_3 : w3.cell? ⟨w.heap.size + 1, 4, none⟩ = _ := cell_of_row w3 (w.heap.size + 1) 4 _ 41 (0, 0) Y3.out
  simp at t1_3 t2_3 t3_3 t4_3
  go_wp2_with fail
  have hc2 := allOf92 AS A2 ns_ cs m c' ss ys w3 H3.out G3.out (i3.next HB3.out) HY.out (by unfold maxLen; omega) (hY.next HB3.out)
  rw [B3.out] at hc2
  refine hc2.mono ?_
  clear hc2
  rintro e w4 ⟨rfl, hb4⟩
  have Z4 := Lib.hid ((hb4.block _ (Array.getElem?_eq_some_iff.1 Z3.out).1).trans Z3.out)
  have Y4 := Lib.hid ((hb4.block _ (Array.getElem?_eq_some_iff.1 Y3.out).1).trans Y3.out)
  have HB4 := Lib.hid (HB3.out.trans (hb4.mono HB3.out.size))
  clear hb4
  have t1_4 : w4.cell? ⟨w.heap.size + 1, 1, none⟩ = _ := cell_of_row w4 (w.heap.size + 1) 1 _ 41 (0, 0) Y4.out
  have t2_4 : w4.cell? ⟨w.heap.size + 1, 2, none⟩ = _ := cell_of_row w4 (w.heap.size + 1) 2 _ 41 (0, 0) Y4.out
  have t3_4 : w4.cell? ⟨w.heap.size + 1, 3, none⟩ = _ := cell_of_row w4 (w.heap.size + 1) 3 _ 41 (0, 0) Y4.out
  have t4_4 : w4.cell? ⟨w.heap.size + 1, 4, none⟩ = _ := cell_of_row w4 (w.heap.size + 1) 4 _ 41 (0, 0) Y4.out
  simp at t1_4 t2_4 t3_4 t4_4
  go_wp2_with fail
  have hc3 := allOf93 AV A2 nv cv m c' vs ys w4 H4.out G4.out (i4.next HB4.out) HY.out (by unfold maxLen; omega) (hY.next HB4.out)
  rw [B4.out] at hc3
  refine hc3.mono ?_
  clear hc3
  rintro e w5 ⟨rfl, hb5⟩
  have Z5 := Lib.hid ((hb5.block _ (Array.getElem?_eq_some_iff.1 Z4.out).1).trans Z4.out)
  have Y5 := Lib.hid ((hb5.block _ (Array.getElem?_eq_some_iff.1 Y4.out).1).trans Y4.out)
  have HB5 := Lib.hid (HB4.out.trans (hb5.mono HB4.out.size))
  clear hb5
  have t1_5 : w5.cell? ⟨w.heap.size + 1, 1, none⟩ = _ := cell_of_row w5 (w.heap.size + 1) 1 _ 41 (0, 0) Y5.out
  have t2_5 : w5.cell? ⟨w.heap.size + 1, 2, none⟩ = _ := cell_of_row w5 (w.heap.size + 1) 2 _ 41 (0, 0) Y5.out
  have t3_5 : w5.cell? ⟨w.heap.size + 1, 3, none⟩ = _ := cell_of_row w5 (w.heap.size + 1) 3 _ 41 (0, 0) Y5.out
  have t4_5 : w5.cell? ⟨w.heap.size + 1, 4, none⟩ = _ := cell_of_row w5 (w.heap.size + 1) 4 _ 41 (0, 0) Y5.out
  simp at t1_5 t2_5 t3_5 t4_5
  go_wp2_with fail
  have hc4 := allOf94 AN A2 nn cn m c' ns ys w5 H5.out G5.out (i5.next HB5.out) HY.out (by unfold maxLen; omega) (hY.next HB5.out)
  rw [B5.out] at hc4
  refine hc4.mono ?_
  clear hc4
  rintro e w6 ⟨rfl, hb6⟩
  have Z6 := Lib.hid ((hb6.block _ (Array.getElem?_eq_some_iff.1 Z5.out).1).trans Z5.out)
  have Y6 := Lib.hid ((hb6.block _ (Array.getElem?_eq_some_iff.1 Y5.out).1).trans Y5.out)
  have HB6 := Lib.hid (HB5.out.trans (hb6.mono HB5.out.size))
  clear hb6
  have t1_6 : w6.cell? ⟨w.heap.size + 1, 1, none⟩ = _ := cell_of_row w6 (w.heap.size + 1) 1 _ 41 (0, 0) Y6.out
  have t2_6 : w6.cell? ⟨w.heap.size + 1, 2, none⟩ = _ := cell_of_row w6 (w.heap.size + 1) 2 _ 41 (0, 0) Y6.out
  have t3_6 : w6.cell? ⟨w.heap.size + 1, 3, none⟩ = _ := cell_of_row w6 (w.heap.size + 1) 3 _ 41 (0, 0) Y6.out
  have t4_6 : w6.cell? ⟨w.heap.size + 1, 4, none⟩ = _ := cell_of_row w6 (w.heap.size + 1) 4 _ 41 (0, 0) Y6.out
  simp at t1_6 t2_6 t3_6 t4_6
  go_wp2_with fail
  go_ret
  exact ⟨ret_bool HP.out.symm, HB6.out⟩

end Go.Proofs.YtccekbdhffccdaaDoor
