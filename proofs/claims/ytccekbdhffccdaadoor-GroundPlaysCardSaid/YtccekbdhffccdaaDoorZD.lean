/- The statement on playing: the cases in which the lists are too long, or an error is wanted. -/
import Derived.Test.YtccekbdhffccdaaDoorYW
import Derived.Test.YtccekbdhffccdaaDoorZB
namespace Go.Proofs.YtccekbdhffccdaaDoor
open Go.RowKit Go.Shelf
set_option maxRecDepth 100000 in
set_option maxHeartbeats 4000000 in
theorem plays_far (A A2 AM AW AS AV AN : Option Addr) (n c m c' nm cm nw cw ns_ cs nv cv nn cn : Nat) (lo hi : Int) (w : World) (ht : Tab w) (hn : n ≤ maxLen) (hm : m ≤ maxLen)
    (g1 : nm ≤ maxLen) (g2 : nw ≤ maxLen) (g3 : ns_ ≤ maxLen) (g4 : nv ≤ maxLen) (g5 : nn ≤ maxLen) (hf : decide (n ≤ 12 ∧ m ≤ 17) = false ∨ sizedB nm nw ns_ nv nn = false) :
    Calls Tryd.prog 4 #[.agg #[.slice A n c, .int .i64 lo, .int .i64 hi], .slice A2 m c', .agg #[.slice AM nm cm, .slice AW nw cw, .slice AS ns_ cs, .slice AV nv cv, .slice AN nn cn]] w fun e w' => e = .returned (.bool true) ∧ Below w.heap.size w w' := by
  have HT := Lib.hid ht
  have HN := Lib.hid hn; have HM := Lib.hid hm
  have G1 := Lib.hid g1; have G2 := Lib.hid g2; have G3 := Lib.hid g3; have G4 := Lib.hid g4; have G5 := Lib.hid g5
  clear hn hm g1 g2 g3 g4 g5 ht
  have hB1 : Below w.heap.size w ((w.alloc (.cells #[.slice A n c, .int .i64 lo, .int .i64 hi] 26)).alloc (.cells #[.slice AM nm cm, .slice AW nw cw, .slice AS ns_ cs, .slice AV nv cv, .slice AN nn cn] 41)) := ((Below.refl _ _).alloc (Nat.le_refl _) _).alloc (by simp) _
  have y0 := heap_alloc_new (w.alloc (.cells #[.slice A n c, .int .i64 lo, .int .i64 hi] 26)) (.cells #[.slice AM nm cm, .slice AW nw cw, .slice AS ns_ cs, .slice AV nv cv, .slice AN nn cn] 41)
  simp only [World.size_alloc] at y0
  have HB1 := Lib.hid hB1
  have Y1 := Lib.hid y0
  clear hB1 y0
  cases hs : decide (n ≤ 12 ∧ m ≤ 17) with
  | false =>
    have HS := Lib.hid hs; clear hs hf
    go_enter Tryd.func4, Tryd.ntmps4
    go_wp2_with fail
    refine (short_any A A2 n m c c' lo hi _ HN.out HM.out).mono ?_
    rintro e w2 ⟨rfl, hb2⟩
    rw [HS.out]
    have HB2 := Lib.hid (HB1.out.trans (hb2.mono HB1.out.size))
    clear hb2
    go_wp2_with fail
    refine (known_any _ (HT.out.next HB2.out)).mono ?_
    rintro e w3 ⟨rfl, hb3⟩
    have HB3 := Lib.hid (HB2.out.trans (hb3.mono HB2.out.size))
    clear hb3
    go_wp2_with fail
    go_ret
    exact ⟨rfl, HB3.out⟩
  | true =>
    have hz : sizedB nm nw ns_ nv nn = false := by rcases hf with h | h; (rw [hs] at h; exact absurd h (by decide)); exact h
    have HS := Lib.hid hs; have HZ := Lib.hid hz; clear hs hf hz
    go_enter Tryd.func4, Tryd.ntmps4
    go_wp2_with fail
    refine (short_any A A2 n m c c' lo hi _ HN.out HM.out).mono ?_
    rintro e w2 ⟨rfl, hb2⟩
    rw [HS.out]
    have HB2 := Lib.hid (HB1.out.trans (hb2.mono HB1.out.size))
    have hy := (hb2.block _ (Array.getElem?_eq_some_iff.1 Y1.out).1).trans Y1.out
    clear hb2
    have t0 := cell_of_row w2 (w.heap.size + 1) 0 _ 41 (0, 0) hy
    have t1 := cell_of_row w2 (w.heap.size + 1) 1 _ 41 (0, 0) hy
    have t2 := cell_of_row w2 (w.heap.size + 1) 2 _ 41 (0, 0) hy
    have t3 := cell_of_row w2 (w.heap.size + 1) 3 _ 41 (0, 0) hy
    have t4 := cell_of_row w2 (w.heap.size + 1) 4 _ 41 (0, 0) hy
    simp at t0 t1 t2 t3 t4
    go_wp2_with fail
    refine (sized_any AM AW AS AV AN nm cm nw cw ns_ cs nv cv nn cn _ G1.out G2.out G3.out G4.out G5.out).mono ?_
    rintro e w3 ⟨rfl, hb3⟩
    rw [HZ.out]
    have HB3 := Lib.hid (HB2.out.trans (hb3.mono HB2.out.size))
    clear hb3 hy t0 t1 t2 t3 t4
    go_wp2_with fail
    refine (known_any _ (HT.out.next HB3.out)).mono ?_
    rintro e w4 ⟨rfl, hb4⟩
    have HB4 := Lib.hid (HB3.out.trans (hb4.mono HB3.out.size))
    clear hb4
    go_wp2_with fail
    go_ret
    exact ⟨rfl, HB4.out⟩
set_option maxRecDepth 100000 in
set_option maxHeartbeats 4000000 in
theorem plays_bad (r : Int) (A A2 AM AW AS AV AN : Option Addr) (n c m c' nm cm nw cw ns_ cs nv cv nn cn : Nat) (ls : List Lay) (ys : List Yr) (lo hi : Int) (ms ws ss vs ns : List Int) (w : World) (ht : Tab w) (hl : ls.length = n) (hcap : n ≤ c) (hn : n ≤ maxLen) (hL : LaysAt w w.heap.size A ls) (hy : ys.length = m) (hm : m ≤ maxLen) (hY : YrsAt w w.heap.size A2 ys)
    (h1 : ms.length = nm) (q1 : nm ≤ cm) (g1 : nm ≤ maxLen) (i1 : IntsAt w w.heap.size AM ms) (h2 : ws.length = nw) (q2 : nw ≤ cw) (g2 : nw ≤ maxLen) (i2 : IntsAt w w.heap.size AW ws) (h3 : ss.length = ns_) (q3 : ns_ ≤ cs) (g3 : ns_ ≤ maxLen) (i3 : IntsAt w w.heap.size AS ss) (h4 : vs.length = nv) (q4 : nv ≤ cv) (g4 : nv ≤ maxLen) (i4 : IntsAt w w.heap.size AV vs) (h5 : ns.length = nn) (q5 : nn ≤ cn) (g5 : nn ≤ maxLen) (i5 : IntsAt w w.heap.size AN ns)
    (hs : decide (n ≤ 12 ∧ m ≤ 17) = true) (hz : sizedB nm nw ns_ nv nn = true) (hr : yearsI ls lo hi ys = r) (hr0 : ¬ r = 0) :
    Calls Tryd.prog 4 #[.agg #[.slice A n c, .int .i64 lo, .int .i64 hi], .slice A2 m c', .agg #[.slice AM nm cm, .slice AW nw cw, .slice AS ns_ cs, .slice AV nv cv, .slice AN nn cn]] w fun e w' => e = .returned (.bool true) ∧ Below w.heap.size w w' := by
  have hq : playI ls lo hi ys ⟨ms, ws, ss, vs, ns⟩ = ([], (0, 0, 0), r) := by unfold playI; rw [hr, if_neg hr0]
  have HQ := Lib.hid hq; have HR := Lib.hid hr
  clear hq hr
  have HT := Lib.hid ht; have HS := Lib.hid hs; have HZ := Lib.hid hz
  have HL := Lib.hid hl; have HY := Lib.hid hy; have H1 := Lib.hid h1; have H2 := Lib.hid h2; have H3 := Lib.hid h3; have H4 := Lib.hid h4; have H5 := Lib.hid h5
  have HN := Lib.hid hn; have HM := Lib.hid hm; have HCAP := Lib.hid hcap
  have G1 := Lib.hid g1; have G2 := Lib.hid g2; have G3 := Lib.hid g3; have G4 := Lib.hid g4; have G5 := Lib.hid g5
  have Q1 := Lib.hid q1; have Q2 := Lib.hid q2; have Q3 := Lib.hid q3; have Q4 := Lib.hid q4; have Q5 := Lib.hid q5
  clear hl hy h1 h2 h3 h4 h5 hn hm g1 g2 g3 g4 g5 ht hcap q1 q2 q3 q4 q5 hs hz
  have q44 : ∀ w, (Op.equalIn 10000 44 (.agg #[.int .i64 0, .int .i64 0, .int .i64 0]) (.agg #[.int .i64 0, .int .i64 0, .int .i64 0])).run Tryd.prog w = .ok true w := fun w => by rw [eq44]; simp
  have hg : Tryd.prog.eqGuardType Tryd.prog.depth 44 = false := by kernel_rfl
  have hB1 : Below w.heap.size w ((w.alloc (.cells #[.slice A n c, .int .i64 lo, .int .i64 hi] 26)).alloc (.cells #[.slice AM nm cm, .slice AW nw cw, .slice AS ns_ cs, .slice AV nv cv, .slice AN nn cn] 41)) := ((Below.refl _ _).alloc (Nat.le_refl _) _).alloc (by simp) _
  have z1 : ((w.alloc (.cells #[.slice A n c, .int .i64 lo, .int .i64 hi] 26)).alloc (.cells #[.slice AM nm cm, .slice AW nw cw, .slice AS ns_ cs, .slice AV nv cv, .slice AN nn cn] 41)).heap[w.heap.size]? = some (.cells #[.slice A n c, .int .i64 lo, .int .i64 hi] 26 (0, 0)) := (Below.heap_alloc _ _ _ (by simp)).trans (heap_alloc_new w _)
  have y0 := heap_alloc_new (w.alloc (.cells #[.slice A n c, .int .i64 lo, .int .i64 hi] 26)) (.cells #[.slice AM nm cm, .slice AW nw cw, .slice AS ns_ cs, .slice AV nv cv, .slice AN nn cn] 41)
  simp only [World.size_alloc] at y0
  have HB1 := Lib.hid hB1
  have Z1 := Lib.hid z1
  have Y1 := Lib.hid y0
  clear hB1 z1 y0
  go_enter Tryd.func4, Tryd.ntmps4
  go_wp2_with fail
  refine (short_any A A2 n m c c' lo hi _ HN.out HM.out).mono ?_
  rintro e w2 ⟨rfl, hb2⟩
  rw [HS.out]
  have HB2 := Lib.hid (HB1.out.trans (hb2.mono HB1.out.size))
  have Y2 := Lib.hid ((hb2.block _ (Array.getElem?_eq_some_iff.1 Y1.out).1).trans Y1.out)
  have Z2 := Lib.hid ((hb2.block _ (Array.getElem?_eq_some_iff.1 Z1.out).1).trans Z1.out)
  clear hb2
  have t0 := cell_of_row w2 (w.heap.size + 1) 0 _ 41 (0, 0) Y2.out
  have t1 := cell_of_row w2 (w.heap.size + 1) 1 _ 41 (0, 0) Y2.out
  have t2 := cell_of_row w2 (w.heap.size + 1) 2 _ 41 (0, 0) Y2.out
  have t3 := cell_of_row w2 (w.heap.size + 1) 3 _ 41 (0, 0) Y2.out
  have t4 := cell_of_row w2 (w.heap.size + 1) 4 _ 41 (0, 0) Y2.out
  simp at t0 t1 t2 t3 t4
  go_wp2_with fail
  refine (sized_any AM AW AS AV AN nm cm nw cw ns_ cs nv cv nn cn _ G1.out G2.out G3.out G4.out G5.out).mono ?_
  rintro e w3 ⟨rfl, hb3⟩
  rw [HZ.out]
  have HB3 := Lib.hid (HB2.out.trans (hb3.mono HB2.out.size))
  have Y3 := Lib.hid ((hb3.block _ (Array.getElem?_eq_some_iff.1 Y2.out).1).trans Y2.out)
  have Z3 := Lib.hid ((hb3.block _ (Array.getElem?_eq_some_iff.1 Z2.out).1).trans Z2.out)
  clear hb3 t0 t1 t2 t3 t4
  have t0 := cell_of_row w3 (w.heap.size + 1) 0 _ 41 (0, 0) Y3.out
  have t1 := cell_of_row w3 (w.heap.size + 1) 1 _ 41 (0, 0) Y3.out
  have t2 := cell_of_row w3 (w.heap.size + 1) 2 _ 41 (0, 0) Y3.out
  have t3 := cell_of_row w3 (w.heap.size + 1) 3 _ 41 (0, 0) Y3.out
  have t4 := cell_of_row w3 (w.heap.size + 1) 4 _ 41 (0, 0) Y3.out
  have p0 := cell_of_row w3 w.heap.size 0 _ 26 (0, 0) Z3.out
  have p1 := cell_of_row w3 w.heap.size 1 _ 26 (0, 0) Z3.out
  have p2 := cell_of_row w3 w.heap.size 2 _ 26 (0, 0) Z3.out
  simp at t0 t1 t2 t3 t4 p0 p1 p2
  go_wp2_with fail
  refine (play_any A A2 n c m c' ls ys lo hi ⟨ms, ws, ss, vs, ns⟩ _ _ _ _ _ _ HL.out HN.out HCAP.out (hL.next HB3.out) HY.out HM.out (hY.next HB3.out) (sl_of H1.out Q1.out (i1.next HB3.out)) (sl_of H2.out Q2.out (i2.next HB3.out)) (sl_of H3.out Q3.out (i3.next HB3.out)) (sl_of H4.out Q4.out (i4.next HB3.out)) (sl_of H5.out Q5.out (i5.next HB3.out))
    (le_of_len H1.out G1.out) (le_of_len H2.out G2.out) (le_of_len H3.out G3.out) (le_of_len H4.out G4.out) (le_of_len H5.out G5.out)).mono ?_
  rw [HQ.out]
  rintro e w4 ⟨_, rfl, ⟨B, kk, rfl, _, _⟩, hb4⟩
  have HB4 := Lib.hid (HB3.out.trans (hb4.mono HB3.out.size))
  have Z4 := Lib.hid ((hb4.block _ (Array.getElem?_eq_some_iff.1 Z3.out).1).trans Z3.out)
  clear hb4 t0 t1 t2 t3 t4 p0 p1 p2
  have p0 := cell_of_row w4 w.heap.size 0 _ 26 (0, 0) Z4.out
  have p1 := cell_of_row w4 w.heap.size 1 _ 26 (0, 0) Z4.out
  have p2 := cell_of_row w4 w.heap.size 2 _ 26 (0, 0) Z4.out
  simp at p0 p1 p2
  have n0 := World.new_ne w4 _ p0
  have n1 := World.new_ne w4 _ p1
  have n2 := World.new_ne w4 _ p2
  have ltp := (Array.getElem?_eq_some_iff.1 Z4.out).1
  have k1 : ¬ w.heap.size = w4.heap.size := by omega
  have k2 : ¬ w4.heap.size = w.heap.size := by omega
  have hA := (Below.refl w4.heap.size w4).alloc (Nat.le_refl _) (.cells #[.int .i64 0, .int .i64 0, .int .i64 0] 44)
  have a0 := ((bcell hA).1 _ 0 ltp).trans p0
  have a1 := ((bcell hA).1 _ 1 ltp).trans p1
  have a2 := ((bcell hA).1 _ 2 ltp).trans p2
  clear hA p0 p1 p2 n0 n1 n2
  have HB5 := Lib.hid (HB4.out.alloc HB4.out.size (.cells #[.int .i64 0, .int .i64 0, .int .i64 0] 44))
  have X5 := Lib.hid (heap_alloc_new w4 (.cells #[.int .i64 0, .int .i64 0, .int .i64 0] 44))
  go_wp2_with fail
  refine (wanted_is r A A2 n c m c' ls ys lo hi _ HL.out HN.out (hL.next HB5.out) HY.out HM.out (hY.next HB5.out) HR.out).mono ?_
  rintro e w6 ⟨rfl, hb6⟩
  have HB6 := Lib.hid (HB5.out.trans (hb6.mono HB5.out.size))
  have X6 := Lib.hid ((hb6.block _ (Array.getElem?_eq_some_iff.1 X5.out).1).trans X5.out)
  clear hb6 a0 a1 a2 k1 k2 ltp
  have x0 := cell_of_row w6 w4.heap.size 0 _ 44 (0, 0) X6.out
  have x1 := cell_of_row w6 w4.heap.size 1 _ 44 (0, 0) X6.out
  have x2 := cell_of_row w6 w4.heap.size 2 _ 44 (0, 0) X6.out
  simp at x0 x1 x2
  go_wp2_with fail
  refine (known_any _ (HT.out.next HB6.out)).mono ?_
  rintro e w7 ⟨rfl, hb7⟩
  have HB7 := Lib.hid (HB6.out.trans (hb7.mono HB6.out.size))
  clear hb7
  go_wp2_with fail
  go_ret
  exact ⟨rfl, HB7.out⟩
set_option maxRecDepth 100000 in
set_option maxHeartbeats 4000000 in
theorem plays_odd (A A2 AM AW AS AV AN : Option Addr) (n c m c' nm cm nw cw ns_ cs nv cv nn cn : Nat) (ls : List Lay) (ys : List Yr) (lo hi : Int) (ms ws ss vs ns : List Int) (w : World) (ht : Tab w) (hl : ls.length = n) (hcap : n ≤ c) (hn : n ≤ maxLen) (hL : LaysAt w w.heap.size A ls) (hy : ys.length = m) (hm : m ≤ maxLen) (hY : YrsAt w w.heap.size A2 ys)
    (h1 : ms.length = nm) (q1 : nm ≤ cm) (g1 : nm ≤ maxLen) (i1 : IntsAt w w.heap.size AM ms) (h2 : ws.length = nw) (q2 : nw ≤ cw) (g2 : nw ≤ maxLen) (i2 : IntsAt w w.heap.size AW ws) (h3 : ss.length = ns_) (q3 : ns_ ≤ cs) (g3 : ns_ ≤ maxLen) (i3 : IntsAt w w.heap.size AS ss) (h4 : vs.length = nv) (q4 : nv ≤ cv) (g4 : nv ≤ maxLen) (i4 : IntsAt w w.heap.size AV vs) (h5 : ns.length = nn) (q5 : nn ≤ cn) (g5 : nn ≤ maxLen) (i5 : IntsAt w w.heap.size AN ns)
    (hs : decide (n ≤ 12 ∧ m ≤ 17) = true) (hz : sizedB nm nw ns_ nv nn = true) (hr : yearsI ls lo hi ys = 0) (hp : possB ls lo hi ys ms ws ss vs ns = false) :
    Calls Tryd.prog 4 #[.agg #[.slice A n c, .int .i64 lo, .int .i64 hi], .slice A2 m c', .agg #[.slice AM nm cm, .slice AW nw cw, .slice AS ns_ cs, .slice AV nv cv, .slice AN nn cn]] w fun e w' => e = .returned (.bool true) ∧ Below w.heap.size w w' := by
  have hq : playI ls lo hi ys ⟨ms, ws, ss, vs, ns⟩ = ([], (0, 0, 0), 2) := by
    have hp' : possT ls lo hi ys ⟨ms, ws, ss, vs, ns⟩ = false := hp
    unfold playI
    rw [if_pos hr, hp']
    rfl
  obtain ⟨v1, v2, v3⟩ := yearsI_zero hr
  obtain ⟨_, ⟨v4, v5, v6⟩, _⟩ := placeB_spec v2
  have N6 : Hid (n ≤ 6) := Lib.hid (by omega)
  have M12 : Hid (m ≤ 12) := Lib.hid (by omega)
  have HQ := Lib.hid hq; have HR := Lib.hid hr; have HP := Lib.hid hp
  clear hq hr hp v1 v2 v3 v4 v5 v6
  have HT := Lib.hid ht; have HS := Lib.hid hs; have HZ := Lib.hid hz
  have HL := Lib.hid hl; have HY := Lib.hid hy; have H1 := Lib.hid h1; have H2 := Lib.hid h2; have H3 := Lib.hid h3; have H4 := Lib.hid h4; have H5 := Lib.hid h5
  have HN := Lib.hid hn; have HM := Lib.hid hm; have HCAP := Lib.hid hcap
  have G1 := Lib.hid g1; have G2 := Lib.hid g2; have G3 := Lib.hid g3; have G4 := Lib.hid g4; have G5 := Lib.hid g5
  have Q1 := Lib.hid q1; have Q2 := Lib.hid q2; have Q3 := Lib.hid q3; have Q4 := Lib.hid q4; have Q5 := Lib.hid q5
  clear hl hy h1 h2 h3 h4 h5 hn hm g1 g2 g3 g4 g5 ht hcap q1 q2 q3 q4 q5 hs hz
  have q44 : ∀ w, (Op.equalIn 10000 44 (.agg #[.int .i64 0, .int .i64 0, .int .i64 0]) (.agg #[.int .i64 0, .int .i64 0, .int .i64 0])).run Tryd.prog w = .ok true w := fun w => by rw [eq44]; simp
  have hg : Tryd.prog.eqGuardType Tryd.prog.depth 44 = false := by kernel_rfl
  have hB1 : Below w.heap.size w ((w.alloc (.cells #[.slice A n c, .int .i64 lo, .int .i64 hi] 26)).alloc (.cells #[.slice AM nm cm, .slice AW nw cw, .slice AS ns_ cs, .slice AV nv cv, .slice AN nn cn] 41)) := ((Below.refl _ _).alloc (Nat.le_refl _) _).alloc (by simp) _
  have z1 : ((w.alloc (.cells #[.slice A n c, .int .i64 lo, .int .i64 hi] 26)).alloc (.cells #[.slice AM nm cm, .slice AW nw cw, .slice AS ns_ cs, .slice AV nv cv, .slice AN nn cn] 41)).heap[w.heap.size]? = some (.cells #[.slice A n c, .int .i64 lo, .int .i64 hi] 26 (0, 0)) := (Below.heap_alloc _ _ _ (by simp)).trans (heap_alloc_new w _)
  have y0 := heap_alloc_new (w.alloc (.cells #[.slice A n c, .int .i64 lo, .int .i64 hi] 26)) (.cells #[.slice AM nm cm, .slice AW nw cw, .slice AS ns_ cs, .slice AV nv cv, .slice AN nn cn] 41)
  simp only [World.size_alloc] at y0
  have HB1 := Lib.hid hB1
  have Z1 := Lib.hid z1
  have Y1 := Lib.hid y0
  clear hB1 z1 y0
  go_enter Tryd.func4, Tryd.ntmps4
  go_wp2_with fail
  refine (short_any A A2 n m c c' lo hi _ HN.out HM.out).mono ?_
  rintro e w2 ⟨rfl, hb2⟩
  rw [HS.out]
  have HB2 := Lib.hid (HB1.out.trans (hb2.mono HB1.out.size))
  have Y2 := Lib.hid ((hb2.block _ (Array.getElem?_eq_some_iff.1 Y1.out).1).trans Y1.out)
  have Z2 := Lib.hid ((hb2.block _ (Array.getElem?_eq_some_iff.1 Z1.out).1).trans Z1.out)
  clear hb2
  have t0 := cell_of_row w2 (w.heap.size + 1) 0 _ 41 (0, 0) Y2.out
  have t1 := cell_of_row w2 (w.heap.size + 1) 1 _ 41 (0, 0) Y2.out
  have t2 := cell_of_row w2 (w.heap.size + 1) 2 _ 41 (0, 0) Y2.out
  have t3 := cell_of_row w2 (w.heap.size + 1) 3 _ 41 (0, 0) Y2.out
  have t4 := cell_of_row w2 (w.heap.size + 1) 4 _ 41 (0, 0) Y2.out
  simp at t0 t1 t2 t3 t4
  go_wp2_with fail
  refine (sized_any AM AW AS AV AN nm cm nw cw ns_ cs nv cv nn cn _ G1.out G2.out G3.out G4.out G5.out).mono ?_
  rintro e w3 ⟨rfl, hb3⟩
  rw [HZ.out]
  have HB3 := Lib.hid (HB2.out.trans (hb3.mono HB2.out.size))
  have Y3 := Lib.hid ((hb3.block _ (Array.getElem?_eq_some_iff.1 Y2.out).1).trans Y2.out)
  have Z3 := Lib.hid ((hb3.block _ (Array.getElem?_eq_some_iff.1 Z2.out).1).trans Z2.out)
  clear hb3 t0 t1 t2 t3 t4
  have t0 := cell_of_row w3 (w.heap.size + 1) 0 _ 41 (0, 0) Y3.out
  have t1 := cell_of_row w3 (w.heap.size + 1) 1 _ 41 (0, 0) Y3.out
  have t2 := cell_of_row w3 (w.heap.size + 1) 2 _ 41 (0, 0) Y3.out
  have t3 := cell_of_row w3 (w.heap.size + 1) 3 _ 41 (0, 0) Y3.out
  have t4 := cell_of_row w3 (w.heap.size + 1) 4 _ 41 (0, 0) Y3.out
  have p0 := cell_of_row w3 w.heap.size 0 _ 26 (0, 0) Z3.out
  have p1 := cell_of_row w3 w.heap.size 1 _ 26 (0, 0) Z3.out
  have p2 := cell_of_row w3 w.heap.size 2 _ 26 (0, 0) Z3.out
  simp at t0 t1 t2 t3 t4 p0 p1 p2
  go_wp2_with fail
  refine (play_any A A2 n c m c' ls ys lo hi ⟨ms, ws, ss, vs, ns⟩ _ _ _ _ _ _ HL.out HN.out HCAP.out (hL.next HB3.out) HY.out HM.out (hY.next HB3.out) (sl_of H1.out Q1.out (i1.next HB3.out)) (sl_of H2.out Q2.out (i2.next HB3.out)) (sl_of H3.out Q3.out (i3.next HB3.out)) (sl_of H4.out Q4.out (i4.next HB3.out)) (sl_of H5.out Q5.out (i5.next HB3.out))
    (le_of_len H1.out G1.out) (le_of_len H2.out G2.out) (le_of_len H3.out G3.out) (le_of_len H4.out G4.out) (le_of_len H5.out G5.out)).mono ?_
  rw [HQ.out]
  rintro e w4 ⟨_, rfl, ⟨B, kk, rfl, _, _⟩, hb4⟩
  have HB4 := Lib.hid (HB3.out.trans (hb4.mono HB3.out.size))
  have Y4 := Lib.hid ((hb4.block _ (Array.getElem?_eq_some_iff.1 Y3.out).1).trans Y3.out)
  have Z4 := Lib.hid ((hb4.block _ (Array.getElem?_eq_some_iff.1 Z3.out).1).trans Z3.out)
  clear hb4 t0 t1 t2 t3 t4 p0 p1 p2
  have p0 := cell_of_row w4 w.heap.size 0 _ 26 (0, 0) Z4.out
  have p1 := cell_of_row w4 w.heap.size 1 _ 26 (0, 0) Z4.out
  have p2 := cell_of_row w4 w.heap.size 2 _ 26 (0, 0) Z4.out
  simp at p0 p1 p2
  have n0 := World.new_ne w4 _ p0
  have n1 := World.new_ne w4 _ p1
  have n2 := World.new_ne w4 _ p2
  have ltp := (Array.getElem?_eq_some_iff.1 Z4.out).1
  have k1 : ¬ w.heap.size = w4.heap.size := by omega
  have k2 : ¬ w4.heap.size = w.heap.size := by omega
  have hA := (Below.refl w4.heap.size w4).alloc (Nat.le_refl _) (.cells #[.int .i64 0, .int .i64 0, .int .i64 0] 44)
  have a0 := ((bcell hA).1 _ 0 ltp).trans p0
  have a1 := ((bcell hA).1 _ 1 ltp).trans p1
  have a2 := ((bcell hA).1 _ 2 ltp).trans p2
  have Y5 := Lib.hid ((hA.block _ (Array.getElem?_eq_some_iff.1 Y4.out).1).trans Y4.out)
  have Z5 := Lib.hid ((hA.block _ ltp).trans Z4.out)
  clear hA p0 p1 p2 n0 n1 n2
  have HB5 := Lib.hid (HB4.out.alloc HB4.out.size (.cells #[.int .i64 0, .int .i64 0, .int .i64 0] 44))
  have X5 := Lib.hid (heap_alloc_new w4 (.cells #[.int .i64 0, .int .i64 0, .int .i64 0] 44))
  go_wp2_with fail
  refine (wanted_is 0 A A2 n c m c' ls ys lo hi _ HL.out HN.out (hL.next HB5.out) HY.out HM.out (hY.next HB5.out) HR.out).mono ?_
  rintro e w6 ⟨rfl, hb6⟩
  have HB6 := Lib.hid (HB5.out.trans (hb6.mono HB5.out.size))
  have X6 := Lib.hid ((hb6.block _ (Array.getElem?_eq_some_iff.1 X5.out).1).trans X5.out)
  have Y6 := Lib.hid ((hb6.block _ (Array.getElem?_eq_some_iff.1 Y5.out).1).trans Y5.out)
  have Z6 := Lib.hid ((hb6.block _ (Array.getElem?_eq_some_iff.1 Z5.out).1).trans Z5.out)
  clear hb6 a0 a1 a2 k1 k2 ltp
  have t0 := cell_of_row w6 (w.heap.size + 1) 0 _ 41 (0, 0) Y6.out
  have t1 := cell_of_row w6 (w.heap.size + 1) 1 _ 41 (0, 0) Y6.out
  have t2 := cell_of_row w6 (w.heap.size + 1) 2 _ 41 (0, 0) Y6.out
  have t3 := cell_of_row w6 (w.heap.size + 1) 3 _ 41 (0, 0) Y6.out
  have t4 := cell_of_row w6 (w.heap.size + 1) 4 _ 41 (0, 0) Y6.out
  have p0 := cell_of_row w6 w.heap.size 0 _ 26 (0, 0) Z6.out
  have p1 := cell_of_row w6 w.heap.size 1 _ 26 (0, 0) Z6.out
  have p2 := cell_of_row w6 w.heap.size 2 _ 26 (0, 0) Z6.out
  simp at t0 t1 t2 t3 t4 p0 p1 p2
  go_wp2_with fail
  refine (truth_any A A2 AM AW AS AV AN n c m c' nm cm nw cw ns_ cs nv cv nn cn ls ys lo hi ms ws ss vs ns _ HL.out N6.out (hL.next HB6.out) HY.out M12.out (hY.next HB6.out) H1.out G1.out (i1.next HB6.out) H2.out G2.out (i2.next HB6.out) H3.out G3.out (i3.next HB6.out) H4.out G4.out (i4.next HB6.out) H5.out G5.out (i5.next HB6.out)).mono ?_
  rintro e w8 ⟨rfl, hb8⟩
  rw [HP.out]
  have HB8 := Lib.hid (HB6.out.trans (hb8.mono HB6.out.size))
  have X8 := Lib.hid ((hb8.block _ (Array.getElem?_eq_some_iff.1 X6.out).1).trans X6.out)
  clear hb8 t0 t1 t2 t3 t4 p0 p1 p2
  have x0 := cell_of_row w8 w4.heap.size 0 _ 44 (0, 0) X8.out
  have x1 := cell_of_row w8 w4.heap.size 1 _ 44 (0, 0) X8.out
  have x2 := cell_of_row w8 w4.heap.size 2 _ 44 (0, 0) X8.out
  simp at x0 x1 x2
  go_wp2_with fail
  refine (known_any _ (HT.out.next HB8.out)).mono ?_
  rintro e w7 ⟨rfl, hb7⟩
  have HB7 := Lib.hid (HB8.out.trans (hb7.mono HB8.out.size))
  clear hb7
  go_wp2_with fail
  go_ret
  exact ⟨rfl, HB7.out⟩
end Go.Proofs.YtccekbdhffccdaaDoor
