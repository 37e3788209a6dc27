/- Whether a place, years and a truth are as defined, as the statements ask it. -/
import Derived.Test.YtccekbdhffccdaaDoorQR
import Derived.Test.YtccekbdhffccdaaDoorOO
import Derived.Test.YtccekbdhffccdaaDoorX
namespace Go.Proofs.YtccekbdhffccdaaDoor
open Go.RowKit

theorem truth_any (A A2 AM AW AS AV AN : Option Addr) (n c m c' nm cm nw cw ns_ cs nv cv nn cn : Nat) (ls : List Lay) (ys : List Yr) (lo hi : Int) (ms ws ss vs ns : List Int) (w : World) (hl : ls.length = n) (hn : n ≤ 6) (hL : LaysAt w w.heap.size A ls) (hy : ys.length = m) (hm : m ≤ 12) (hY : YrsAt w w.heap.size A2 ys)
    (h1 : ms.length = nm) (g1 : nm ≤ maxLen) (i1 : IntsAt w w.heap.size AM ms) (h2 : ws.length = nw) (g2 : nw ≤ maxLen) (i2 : IntsAt w w.heap.size AW ws) (h3 : ss.length = ns_) (g3 : ns_ ≤ maxLen) (i3 : IntsAt w w.heap.size AS ss) (h4 : vs.length = nv) (g4 : nv ≤ maxLen) (i4 : IntsAt w w.heap.size AV vs) (h5 : ns.length = nn) (g5 : nn ≤ maxLen) (i5 : IntsAt w w.heap.size AN ns) :
    Calls Tryd.prog 26 #[.agg #[.slice A n c, .int .i64 lo, .int .i64 hi], .slice A2 m c', .agg #[.slice AM nm cm, .slice AW nw cw, .slice AS ns_ cs, .slice AV nv cv, .slice AN nn cn]] w fun e w' => e = .returned (.bool (possB ls lo hi ys ms ws ss vs ns)) ∧ Below w.heap.size w w' := by
  by_cases h : nm = n ∧ nw = m ∧ ns_ = m ∧ nv = m ∧ nn = m
  · obtain ⟨rfl, rfl, rfl, rfl, rfl⟩ := h
    exact truth_fit A A2 AM AW AS AV AN _ c _ c' cm cw cs cv cn ls ys lo hi ms ws ss vs ns w hl hn hL hy hm hY h1 i1 h2 i2 h3 i3 h4 i4 h5 i5
  · have hp : possB ls lo hi ys ms ws ss vs ns = false := by
      rcases truth_cases nm n nw m ns_ nv nn with q | ⟨_, q⟩ | ⟨_, _, q⟩ | ⟨_, _, _, q⟩ | ⟨_, _, _, _, q⟩ | q
      · simp [possB, allB_len (xs := ms) (ss := laySpans ls) (by simp [laySpans, h1, hl]; exact q)]
      · simp [possB, allB_len (xs := ws) (ss := warmSpans lo hi ys) (by simp [warmSpans, h2, hy]; exact q)]
      · simp [possB, allB_len (xs := ss) (ss := sumSpans ys) (by simp [sumSpans, h3, hy]; exact q)]
      · simp [possB, allB_len (xs := vs) (ss := winSpans ys) (by simp [winSpans, h4, hy]; exact q)]
      · simp [possB, allB_len (xs := ns) (ss := snowSpans ys) (by simp [snowSpans, h5, hy]; exact q)]
      · exact absurd q h
    rw [hp]
    exact truth_len A A2 AM AW AS AV AN n c m c' nm cm nw cw ns_ cs nv cv nn cn lo hi w (by unfold maxLen; omega) (by unfold maxLen; omega) g1 g2 g3 g4 g5 h

def fairB (ls : List Lay) (lo hi : Int) (ys : List Yr) (ms ws ss vs ns : List Int) : Bool :=
  decide (ls.length ≤ 12 ∧ ys.length ≤ 17) && (sizedB ms.length ws.length ss.length vs.length ns.length && (decide (yearsI ls lo hi ys = 0) && possB ls lo hi ys ms ws ss vs ns))
theorem wanted_is (r : Int) (A A2 : Option Addr) (n c m c' : Nat) (ls : List Lay) (ys : List Yr) (lo hi : Int) (w : World) (hl : ls.length = n) (hn : n ≤ maxLen) (hL : LaysAt w w.heap.size A ls) (hm : ys.length = m) (hm2 : m ≤ maxLen) (hY : YrsAt w w.heap.size A2 ys) (hr : yearsI ls lo hi ys = r) :
    Calls Tryd.prog 21 #[.agg #[.slice A n c, .int .i64 lo, .int .i64 hi], .slice A2 m c'] w fun e w' => e = .returned (.int .i64 r) ∧ Below w.heap.size w w' := by
  have h := wanted_any A A2 n c m c' ls ys lo hi w hl hn hL hm hm2 hY
  rwa [hr] at h

set_option maxRecDepth 100000 in
set_option maxHeartbeats 4000000 in
theorem fair_any (A A2 AM AW AS AV AN : Option Addr) (n c m c' nm cm nw cw ns_ cs nv cv nn cn : Nat) (ls : List Lay) (ys : List Yr) (lo hi : Int) (ms ws ss vs ns : List Int) (w : World) (hl : ls.length = n) (hn : n ≤ maxLen) (hL : LaysAt w w.heap.size A ls) (hy : ys.length = m) (hm : m ≤ maxLen) (hY : YrsAt w w.heap.size A2 ys)
    (h1 : ms.length = nm) (g1 : nm ≤ maxLen) (i1 : IntsAt w w.heap.size AM ms) (h2 : ws.length = nw) (g2 : nw ≤ maxLen) (i2 : IntsAt w w.heap.size AW ws) (h3 : ss.length = ns_) (g3 : ns_ ≤ maxLen) (i3 : IntsAt w w.heap.size AS ss) (h4 : vs.length = nv) (g4 : nv ≤ maxLen) (i4 : IntsAt w w.heap.size AV vs) (h5 : ns.length = nn) (g5 : nn ≤ maxLen) (i5 : IntsAt w w.heap.size AN ns) :
    Calls Tryd.prog 30 #[.agg #[.slice A n c, .int .i64 lo, .int .i64 hi], .slice A2 m c', .agg #[.slice AM nm cm, .slice AW nw cw, .slice AS ns_ cs, .slice AV nv cv, .slice AN nn cn]] w fun e w' => e = .returned (.bool (fairB ls lo hi ys ms ws ss vs ns)) ∧ Below w.heap.size w w' := by
  have HL := Lib.hid hl; have HY := Lib.hid hy; have H1 := Lib.hid h1; have H2 := Lib.hid h2; have H3 := Lib.hid h3; have H4 := Lib.hid h4; have H5 := Lib.hid h5
  have HN := Lib.hid hn; have HM := Lib.hid hm
  have G1 := Lib.hid g1; have G2 := Lib.hid g2; have G3 := Lib.hid g3; have G4 := Lib.hid g4; have G5 := Lib.hid g5
  clear hl hy h1 h2 h3 h4 h5 hn hm g1 g2 g3 g4 g5
  have hB1 : Below w.heap.size w ((w.alloc (.cells #[.slice A n c, .int .i64 lo, .int .i64 hi] 26)).alloc (.cells #[.slice AM nm cm, .slice AW nw cw, .slice AS ns_ cs, .slice AV nv cv, .slice AN nn cn] 41)) := ((Below.refl _ _).alloc (Nat.le_refl _) _).alloc (by simp) _
  have z1 : ((w.alloc (.cells #[.slice A n c, .int .i64 lo, .int .i64 hi] 26)).alloc (.cells #[.slice AM nm cm, .slice AW nw cw, .slice AS ns_ cs, .slice AV nv cv, .slice AN nn cn] 41)).heap[w.heap.size]? = some (.cells #[.slice A n c, .int .i64 lo, .int .i64 hi] 26 (0, 0)) := (Below.heap_alloc _ _ _ (by simp)).trans (heap_alloc_new w _)
  have y0 := heap_alloc_new (w.alloc (.cells #[.slice A n c, .int .i64 lo, .int .i64 hi] 26)) (.cells #[.slice AM nm cm, .slice AW nw cw, .slice AS ns_ cs, .slice AV nv cv, .slice AN nn cn] 41)
  simp only [World.size_alloc] at y0
  have HB1 := Lib.hid hB1
  have Z1 := Lib.hid z1
  have Y1 := Lib.hid y0
  clear hB1 z1 y0
  have EQ : Hid (fairB ls lo hi ys ms ws ss vs ns = (decide (n ≤ 12 ∧ m ≤ 17) && (sizedB nm nw ns_ nv nn && (decide (yearsI ls lo hi ys = 0) && possB ls lo hi ys ms ws ss vs ns)))) := Lib.hid (by unfold fairB; rw [HL.out, HY.out, H1.out, H2.out, H3.out, H4.out, H5.out])
  by_cases hS : n ≤ 12 ∧ m ≤ 17
  · have HS := Lib.hid hS; clear hS
    go_enter Tryd.func30, Tryd.ntmps30
    go_wp2_with fail
    refine (short_any A A2 n m c c' lo hi _ HN.out HM.out).mono ?_
    rintro e w2 ⟨rfl, hb2⟩
    rw [decide_eq_true HS.out]
    have Z2 := Lib.hid ((hb2.block _ (Array.getElem?_eq_some_iff.1 Z1.out).1).trans Z1.out)
    have Y2 := Lib.hid ((hb2.block _ (Array.getElem?_eq_some_iff.1 Y1.out).1).trans Y1.out)
    have HB2 := Lib.hid (HB1.out.trans (hb2.mono HB1.out.size))
    clear hb2
    have t0 := cell_of_row w2 (w.heap.size + 1) 0 _ 41 (0, 0) Y2.out
    have t1 := cell_of_row w2 (w.heap.size + 1) 1 _ 41 (0, 0) Y2.out
    have t2 := cell_of_row w2 (w.heap.size + 1) 2 _ 41 (0, 0) Y2.out
    have t3 := cell_of_row w2 (w.heap.size + 1) 3 _ 41 (0, 0) Y2.out
    have t4 := cell_of_row w2 (w.heap.size + 1) 4 _ 41 (0, 0) Y2.out
    simp at t0 t1 t2 t3 t4
    go_wp2_with fail
    refine (sized_any AM AW AS AV AN nm cm nw cw ns_ cs nv cv nn cn _ G1.out G2.out G3.out G4.out G5.out).mono ?_
    clear t0 t1 t2 t3 t4
    rintro e w3 ⟨rfl, hb3⟩
    have Z3 := Lib.hid ((hb3.block _ (Array.getElem?_eq_some_iff.1 Z2.out).1).trans Z2.out)
    have Y3 := Lib.hid ((hb3.block _ (Array.getElem?_eq_some_iff.1 Y2.out).1).trans Y2.out)
    have HB3 := Lib.hid (HB2.out.trans (hb3.mono HB2.out.size))
    clear hb3
    have p0 := cell_of_row w3 w.heap.size 0 _ 26 (0, 0) Z3.out
    have p1 := cell_of_row w3 w.heap.size 1 _ 26 (0, 0) Z3.out
    have p2 := cell_of_row w3 w.heap.size 2 _ 26 (0, 0) Z3.out
    simp at p0 p1 p2
    cases hz : sizedB nm nw ns_ nv nn with
    | false =>
      have HZ := Lib.hid hz; clear hz
      go_wp2_with fail
      go_ret
      exact ⟨ret_bool (by rw [EQ.out, HZ.out]; simp), HB3.out⟩
    | true =>
      have HZ := Lib.hid hz; clear hz
      go_wp2_with fail
      rcases yearsI_cases ls lo hi ys with hr | hr | hr
      · have HR := Lib.hid hr; clear hr
        refine (wanted_is 0 A A2 n c m c' ls ys lo hi _ HL.out HN.out (hL.next HB3.out) HY.out HM.out (hY.next HB3.out) HR.out).mono ?_
        clear p0 p1 p2
        rintro e w4 ⟨rfl, hb4⟩
        have Z4 := Lib.hid ((hb4.block _ (Array.getElem?_eq_some_iff.1 Z3.out).1).trans Z3.out)
        have Y4 := Lib.hid ((hb4.block _ (Array.getElem?_eq_some_iff.1 Y3.out).1).trans Y3.out)
        have HB4 := Lib.hid (HB3.out.trans (hb4.mono HB3.out.size))
        clear hb4
        have p0 := cell_of_row w4 w.heap.size 0 _ 26 (0, 0) Z4.out
        have p1 := cell_of_row w4 w.heap.size 1 _ 26 (0, 0) Z4.out
        have p2 := cell_of_row w4 w.heap.size 2 _ 26 (0, 0) Z4.out
        have t0 := cell_of_row w4 (w.heap.size + 1) 0 _ 41 (0, 0) Y4.out
        have t1 := cell_of_row w4 (w.heap.size + 1) 1 _ 41 (0, 0) Y4.out
        have t2 := cell_of_row w4 (w.heap.size + 1) 2 _ 41 (0, 0) Y4.out
        have t3 := cell_of_row w4 (w.heap.size + 1) 3 _ 41 (0, 0) Y4.out
        have t4 := cell_of_row w4 (w.heap.size + 1) 4 _ 41 (0, 0) Y4.out
        simp at p0 p1 p2 t0 t1 t2 t3 t4
        go_wp2_with fail
        obtain ⟨q1, q2, q3⟩ := yearsI_zero HR.out
        refine (truth_any A A2 AM AW AS AV AN n c m c' nm cm nw cw ns_ cs nv cv nn cn ls ys lo hi ms ws ss vs ns _ HL.out (by have := (placeB_spec q2).1.2; rw [HL.out] at this; exact this) (hL.next HB4.out) HY.out (by rw [HY.out] at q1; exact q1) (hY.next HB4.out) H1.out G1.out (i1.next HB4.out) H2.out G2.out (i2.next HB4.out) H3.out G3.out (i3.next HB4.out) H4.out G4.out (i4.next HB4.out) H5.out G5.out (i5.next HB4.out)).mono ?_
        clear p0 p1 p2 t0 t1 t2 t3 t4 q1 q2 q3
        rintro e w5 ⟨rfl, hb5⟩
        have HB5 := Lib.hid (HB4.out.trans (hb5.mono HB4.out.size))
        clear hb5
        go_wp2_with fail
        go_ret
        exact ⟨ret_bool (by rw [EQ.out, HZ.out, HR.out, decide_eq_true HS.out]; simp), HB5.out⟩
      all_goals
        have HR := Lib.hid hr
        clear hr
        refine (wanted_is _ A A2 n c m c' ls ys lo hi _ HL.out HN.out (hL.next HB3.out) HY.out HM.out (hY.next HB3.out) HR.out).mono ?_
        clear p0 p1 p2
        rintro e w4 ⟨rfl, hb4⟩
        have HB4 := Lib.hid (HB3.out.trans (hb4.mono HB3.out.size))
        clear hb4
        go_wp2_with fail
        go_ret
        exact ⟨ret_bool (by rw [EQ.out, HR.out]; simp), HB4.out⟩
  · have HS := Lib.hid hS; clear hS
    go_enter Tryd.func30, Tryd.ntmps30
    go_wp2_with fail
    refine (short_any A A2 n m c c' lo hi _ HN.out HM.out).mono ?_
    rintro e w2 ⟨rfl, hb2⟩
    rw [decide_eq_false HS.out]
    have HB2 := Lib.hid (HB1.out.trans (hb2.mono HB1.out.size))
    clear hb2
    go_wp2_with fail
    go_ret
    exact ⟨ret_bool (by rw [EQ.out, decide_eq_false HS.out]; simp), HB2.out⟩
end Go.Proofs.YtccekbdhffccdaaDoor
