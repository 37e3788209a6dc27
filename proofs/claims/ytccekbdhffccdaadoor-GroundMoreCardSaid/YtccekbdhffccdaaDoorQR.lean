/- The specification's check of a truth. The specification's check of a truth: where all lists are as long as they must be. -/
import Derived.Test.YtccekbdhffccdaaDoorS
import Derived.Test.YtccekbdhffccdaaDoorNN
import Derived.Test.YtccekbdhffccdaaDoorRB
import Derived.Deep.RegionHeld3
import Derived.Deep.DrawnRows
namespace Go.Proofs.YtccekbdhffccdaaDoor
open Go.RowKit
attribute [local go_sem ↓] Go.wp_at_zero Go.wp_at_succ

def sizedB (a b c d e : Nat) : Bool := decide (a ≤ 12 ∧ b ≤ 20 ∧ c ≤ 20 ∧ d ≤ 20 ∧ e ≤ 20)
theorem sized_cases (a b c d e : Nat) : (¬ a ≤ 12) ∨ (a ≤ 12 ∧ ¬ b ≤ 20) ∨ (a ≤ 12 ∧ b ≤ 20 ∧ ¬ c ≤ 20) ∨ (a ≤ 12 ∧ b ≤ 20 ∧ c ≤ 20 ∧ ¬ d ≤ 20) ∨ (a ≤ 12 ∧ b ≤ 20 ∧ c ≤ 20 ∧ d ≤ 20 ∧ ¬ e ≤ 20) ∨ (a ≤ 12 ∧ b ≤ 20 ∧ c ≤ 20 ∧ d ≤ 20 ∧ e ≤ 20) := by omega

set_option maxRecDepth 100000 in
set_option maxHeartbeats 1000000 in
theorem sized_any (AM AW AS AV AN : Option Addr) (nm cm nw cw ns_ cs nv cv nn cn : Nat) (w : World) (g1 : nm ≤ maxLen) (g2 : nw ≤ maxLen) (g3 : ns_ ≤ maxLen) (g4 : nv ≤ maxLen) (g5 : nn ≤ maxLen) :
    Calls Tryd.prog 24 #[.agg #[.slice AM nm cm, .slice AW nw cw, .slice AS ns_ cs, .slice AV nv cv, .slice AN nn cn]] w fun e w' => e = .returned (.bool (sizedB nm nw ns_ nv nn)) ∧ Below w.heap.size w w' := by
  unfold maxLen at g1 g2 g3 g4 g5
  rcases sized_cases nm nw ns_ nv nn with h1 | ⟨h1, h2⟩ | ⟨h1, h2, h3⟩ | ⟨h1, h2, h3, h4⟩ | ⟨h1, h2, h3, h4, h5⟩ | ⟨h1, h2, h3, h4, h5⟩
  all_goals
    go_enter Tryd.func24, Tryd.ntmps24
    go_wp2
    go_ret
    exact ⟨ret_bool (by first | (simp [sizedB, *]; done) | (simp [sizedB, *]; omega)), (Below.refl _ _).alloc (Nat.le_refl _) _⟩
theorem truth_cases (nm n nw m ns_ nv nn : Nat) : nm ≠ n ∨ (nm = n ∧ nw ≠ m) ∨ (nm = n ∧ nw = m ∧ ns_ ≠ m) ∨ (nm = n ∧ nw = m ∧ ns_ = m ∧ nv ≠ m) ∨ (nm = n ∧ nw = m ∧ ns_ = m ∧ nv = m ∧ nn ≠ m) ∨ (nm = n ∧ nw = m ∧ ns_ = m ∧ nv = m ∧ nn = m) := by omega

set_option maxRecDepth 100000 in
set_option maxHeartbeats 1000000 in
theorem truth_len (A A2 AM AW AS AV AN : Option Addr) (n c m c' nm cm nw cw ns_ cs nv cv nn cn : Nat) (lo hi : Int) (w : World) (hn : n ≤ maxLen) (hm : m ≤ maxLen) (_g1 : nm ≤ maxLen) (g2 : nw ≤ maxLen) (g3 : ns_ ≤ maxLen) (_g4 : nv ≤ maxLen) (_g5 : nn ≤ maxLen)
    (h : ¬ (nm = n ∧ nw = m ∧ ns_ = m ∧ nv = m ∧ nn = m)) :
    Calls Tryd.prog 26 #[.agg #[.slice A n c, .int .i64 lo, .int .i64 hi], .slice A2 m c', .agg #[.slice AM nm cm, .slice AW nw cw, .slice AS ns_ cs, .slice AV nv cv, .slice AN nn cn]] w fun e w' => e = .returned (.bool false) ∧ Below w.heap.size w w' := by
  unfold maxLen at hn hm _g1 g2 g3 _g4 _g5
  rcases truth_cases nm n nw m ns_ nv nn with h1 | ⟨rfl, h2⟩ | ⟨rfl, rfl, h3⟩ | ⟨rfl, rfl, rfl, h4⟩ | ⟨rfl, rfl, rfl, rfl, h5⟩ | h6
  rotate_right
  · exact absurd h6 h
  all_goals
    clear h
    go_enter Tryd.func26, Tryd.ntmps26
    go_wp2
    go_ret
    exact ⟨rfl, ((Below.refl _ _).alloc (Nat.le_refl _) _).alloc (by simp) _⟩

end Go.Proofs.YtccekbdhffccdaaDoor

namespace Go.Proofs.YtccekbdhffccdaaDoor
open Go.RowKit
attribute [local go_sem ↓] Go.wp_at_zero Go.wp_at_succ

theorem inside_kept {n lo hi : Int} {b : Bool} {w0 : World} (hb : inB n lo hi = b) (u : KeptW w0) : Calls Tryd.prog 32 #[.int .i64 n, .agg #[.int .i64 lo, .int .i64 hi]] u.w fun e w' => e = .returned (.bool b) ∧ ∃ u' : KeptW w0, w' = u'.w :=
  Calls.in_kept u (by rw [← hb]; exact Inside_any n lo hi u.w)
set_option maxRecDepth 100000 in
set_option maxHeartbeats 40000000 in
theorem truth_fit (A A2 AM AW AS AV AN : Option Addr) (n c m c' cm cw cs cv cn : Nat) (ls : List Lay) (ys : List Yr) (lo hi : Int) (ms ws ss vs ns : List Int) (w : World) (hl : ls.length = n) (hn : n ≤ 6) (hL : LaysAt w w.heap.size A ls) (hy : ys.length = m) (hm : m ≤ 12) (hY : YrsAt w w.heap.size A2 ys)
    (h1 : ms.length = n) (i1 : IntsAt w w.heap.size AM ms) (h2 : ws.length = m) (i2 : IntsAt w w.heap.size AW ws) (h3 : ss.length = m) (i3 : IntsAt w w.heap.size AS ss) (h4 : vs.length = m) (i4 : IntsAt w w.heap.size AV vs) (h5 : ns.length = m) (i5 : IntsAt w w.heap.size AN ns) :
    Calls Tryd.prog 26 #[.agg #[.slice A n c, .int .i64 lo, .int .i64 hi], .slice A2 m c', .agg #[.slice AM n cm, .slice AW m cw, .slice AS m cs, .slice AV m cv, .slice AN m cn]] w fun e w' => e = .returned (.bool (possB ls lo hi ys ms ws ss vs ns)) ∧ Below w.heap.size w w' := by
  have HL := Lib.hid hl; have HY := Lib.hid hy; have H1 := Lib.hid h1; have H2 := Lib.hid h2; have H3 := Lib.hid h3; have H4 := Lib.hid h4; have H5 := Lib.hid h5
  clear hl hy h1 h2 h3 h4 h5
  obtain ⟨W, hW⟩ : ∃ W, ((w.alloc (.cells #[.slice A n c, .int .i64 lo, .int .i64 hi] 26)).alloc (.cells #[.slice AM n cm, .slice AW m cw, .slice AS m cs, .slice AV m cv, .slice AN m cn] 41)) = W := ⟨_, rfl⟩
  have hB1 : Below w.heap.size w W := by rw [← hW]; exact ((Below.refl _ _).alloc (Nat.le_refl _) _).alloc (by simp) _
  have z1 : W.heap[w.heap.size]? = some (.cells #[.slice A n c, .int .i64 lo, .int .i64 hi] 26 (0, 0)) := by rw [← hW]; exact (Below.heap_alloc _ _ _ (by simp)).trans (heap_alloc_new w _)
  have y1 : W.heap[w.heap.size + 1]? = some (.cells #[.slice AM n cm, .slice AW m cw, .slice AS m cs, .slice AV m cv, .slice AN m cn] 41 (0, 0)) := by
    rw [← hW]
    have := heap_alloc_new (w.alloc (.cells #[.slice A n c, .int .i64 lo, .int .i64 hi] 26)) (.cells #[.slice AM n cm, .slice AW m cw, .slice AS m cs, .slice AV m cv, .slice AN m cn] 41)
    simpa using this
  have L := Lib.hid (hL.next hB1); have Y := Lib.hid (hY.next hB1)
  have I1 := Lib.hid (i1.next hB1); have I2 := Lib.hid (i2.next hB1); have I3 := Lib.hid (i3.next hB1); have I4 := Lib.hid (i4.next hB1); have I5 := Lib.hid (i5.next hB1)
  have HB1 := Lib.hid hB1; have Z1 := Lib.hid z1; have Y1 := Lib.hid y1
  have HW := Lib.hid hW
  clear hL hY i1 i2 i3 i4 i5 hB1 z1 y1 hW
  go_enter Tryd.func26, Tryd.ntmps26
  go_wp2
  simp only [HW.out]
  clear HW
  go_loopw [7] (fun i wr => ∃ k : Nat, k ≤ n ∧ i = .int .i64 k ∧ ((ms.zip (laySpans ls)).take k).all okB = true ∧ Below W.heap.size W wr) (fun i _ => n - (intOf i).toNat)
  case atStart => exact ⟨0, Nat.zero_le _, rfl, by simp, Below.refl _ _⟩
  case round =>
    obtain ⟨k, hk, rfl, hall, hbr⟩ := hrel
    have HA := Lib.hid hall
    have HBR := Lib.hid hbr
    clear hall
    have X0 := Lib.hid ((hbr.block _ (Array.getElem?_eq_some_iff.1 Z1.out).1).trans Z1.out)
    have X1 := Lib.hid ((hbr.block _ (Array.getElem?_eq_some_iff.1 Y1.out).1).trans Y1.out)
    have p0 := cell_of_row wr w.heap.size 0 _ 26 (0, 0) X0.out
    have t0 := cell_of_row wr (w.heap.size + 1) 0 _ 41 (0, 0) X1.out
    simp at p0 t0
    by_cases hlt : k < n
    · obtain ⟨x, hx⟩ := get_of_lt (l := ms) (k := k) (by rw [H1.out]; exact hlt)
      obtain ⟨l, hl⟩ := get_of_lt (l := ls) (k := k) (by rw [HL.out]; exact hlt)
      obtain ⟨b1, o1, rfl, hb1, hcs1⟩ := I1.out (by intro h; rw [h] at hx; simp at hx)
      obtain ⟨b2, o2, rfl, hb2, hcs2⟩ := L.out (by intro h; rw [h] at hl; simp at hl)
      have d0 := ((bcell hbr).1 _ _ hb1).trans (hcs1 k x hx)
      obtain ⟨_, c1, c2⟩ := hcs2 k l hl
      replace c1 := ((bcell hbr).1 _ _ hb2).trans c1
      replace c2 := ((bcell hbr).1 _ _ hb2).trans c2
      have hls : (laySpans ls)[k]? = some (l.lo, l.hi) := by simp [laySpans, hl]
      have HK := Lib.hid hx
      have HKS := Lib.hid hls
      have hk0 : (0 : Int) ≤ (k : Int) := by omega
      have hk1 : (k : Int) < (n : Int) := by omega
      have ltP := (Array.getElem?_eq_some_iff.1 X0.out).1
      have ltT := (Array.getElem?_eq_some_iff.1 X1.out).1
      have lt1 : b1 < wr.heap.size := Nat.lt_of_lt_of_le hb1 hbr.size
      have lt2 : b2 < wr.heap.size := Nat.lt_of_lt_of_le hb2 hbr.size
      clear hx hl hls hcs1 hcs2 hbr
      cases g : inB x l.lo l.hi
      all_goals
        have G := Lib.hid g
        clear g
        go_wp2_with fail
        go_region_held3 (fun w' => w'.cell? ⟨w.heap.size + 1, 0, none⟩ = some (.slice (some ⟨b1, o1, none⟩) n cm) ∧ w'.cell? ⟨b1, o1 + k, none⟩ = some (.int .i64 x) ∧ w'.cell? ⟨w.heap.size, 0, none⟩ = some (.slice (some ⟨b2, o2, none⟩) n c) ∧ w'.cell? ⟨b2, o2 + k * 3 + 1, none⟩ = some (.int .i64 l.lo) ∧ w'.cell? ⟨b2, o2 + k * 3 + 2, none⟩ = some (.int .i64 l.hi)) (go_keep)
          (first
            | (go_at_call 32
               refine (Inside_any _ _ _ _).mono ?_
               rintro e w2 ⟨rfl, hb2'⟩
               rw [G.out]
               have B2 := Lib.hid (HBR.out.trans (((Below.refl wr.heap.size wr).drew.trans hb2').mono HBR.out.size))
               obtain ⟨q, q'⟩ := bcell ((Below.refl wr.heap.size wr).drew.trans hb2')
               have e0 := (q _ 0 ltT).trans t0
               have e1 := (q _ _ lt1).trans d0
               have e2 := (q _ 0 ltP).trans p0
               have e3 := (q _ _ lt2).trans c1
               have e4 := (q _ _ lt2).trans c2
               clear q q' hb2')
            | fail)
        go_wp2_with fail
        first
          | (go_ret
             exact ⟨ret_bool (by simp [possB, allB_bad HK.out HKS.out (by simpa [okB] using G.out)]), HB1.out.trans (B2.out.mono HB1.out.size)⟩)
          | (go_roundw
             case rel => exact ⟨k + 1, by omega, by go_num, zip_take_succ HK.out HKS.out HA.out (by simpa [okB] using G.out), B2.out⟩
             case measure => simp [intOf]; omega)
    · have hA : allB ms (laySpans ls) = true := allB_fine (by simp [laySpans, H1.out, HL.out]) (by
        have := HA.out
        rwa [List.take_of_length_le (by simp [laySpans, H1.out, HL.out]; omega)] at this)
      have AM_ := Lib.hid hA
      clear hA hbr
      go_wp2_with fail
      go_loopw [8] (fun i wr => ∃ k : Nat, k ≤ m ∧ i = .int .i64 k ∧ ((ws.zip (warmSpans lo hi ys)).take k).all okB = true ∧ ((ss.zip (sumSpans ys)).take k).all okB = true ∧ ((vs.zip (winSpans ys)).take k).all okB = true ∧ ((ns.zip (snowSpans ys)).take k).all okB = true ∧ Below W.heap.size W wr) (fun i _ => m - (intOf i).toNat)
      case atStart => exact ⟨0, Nat.zero_le _, rfl, by simp, by simp, by simp, by simp, HBR.out⟩
      case round =>
        clear HBR HA X0 X1 p0 t0 hk hlt
        obtain ⟨k, hk, rfl, hall1, hall2, hall3, hall4, hbr⟩ := hrel
        have A1 := Lib.hid hall1; have A2_ := Lib.hid hall2; have A3 := Lib.hid hall3; have A4 := Lib.hid hall4
        have HBR := Lib.hid hbr
        clear hall1 hall2 hall3 hall4
        have X0 := Lib.hid ((hbr.block _ (Array.getElem?_eq_some_iff.1 Z1.out).1).trans Z1.out)
        have X1 := Lib.hid ((hbr.block _ (Array.getElem?_eq_some_iff.1 Y1.out).1).trans Y1.out)
        have p1 := cell_of_row wr w.heap.size 1 _ 26 (0, 0) X0.out
        have p2 := cell_of_row wr w.heap.size 2 _ 26 (0, 0) X0.out
        have t1 := cell_of_row wr (w.heap.size + 1) 1 _ 41 (0, 0) X1.out
        have t2 := cell_of_row wr (w.heap.size + 1) 2 _ 41 (0, 0) X1.out
        have t3 := cell_of_row wr (w.heap.size + 1) 3 _ 41 (0, 0) X1.out
        have t4 := cell_of_row wr (w.heap.size + 1) 4 _ 41 (0, 0) X1.out
        simp at p1 p2 t1 t2 t3 t4
        by_cases hlt : k < m
        · obtain ⟨x1, hx1⟩ := get_of_lt (l := ws) (k := k) (by rw [H2.out]; exact hlt)
          obtain ⟨x2, hx2⟩ := get_of_lt (l := ss) (k := k) (by rw [H3.out]; exact hlt)
          obtain ⟨x3, hx3⟩ := get_of_lt (l := vs) (k := k) (by rw [H4.out]; exact hlt)
          obtain ⟨x4, hx4⟩ := get_of_lt (l := ns) (k := k) (by rw [H5.out]; exact hlt)
          obtain ⟨y, hy⟩ := get_of_lt (l := ys) (k := k) (by rw [HY.out]; exact hlt)
          obtain ⟨b1, o1, rfl, hb1, hc1⟩ := I2.out (by intro h; rw [h] at hx1; simp at hx1)
          obtain ⟨b2, o2, rfl, hb2, hc2⟩ := I3.out (by intro h; rw [h] at hx2; simp at hx2)
          obtain ⟨b3, o3, rfl, hb3, hc3⟩ := I4.out (by intro h; rw [h] at hx3; simp at hx3)
          obtain ⟨b4, o4, rfl, hb4, hc4⟩ := I5.out (by intro h; rw [h] at hx4; simp at hx4)
          obtain ⟨b5, o5, rfl, hb5, hc5⟩ := Y.out (by intro h; rw [h] at hy; simp at hy)
          obtain ⟨q, q'⟩ := bcell hbr
          have d1 := (q _ _ hb1).trans (hc1 k x1 hx1)
          have d2 := (q _ _ hb2).trans (hc2 k x2 hx2)
          have d3 := (q _ _ hb3).trans (hc3 k x3 hx3)
          have d4 := (q _ _ hb4).trans (hc4 k x4 hx4)
          obtain ⟨y0, y1, y2, y3, y4, y5⟩ := hc5 k y hy
          replace y0 := (q _ _ hb5).trans y0
          replace y1 := (q _ _ hb5).trans y1
          replace y2 := (q _ _ hb5).trans y2
          replace y3 := (q _ _ hb5).trans y3
          replace y4 := (q _ _ hb5).trans y4
          replace y5 := (q _ _ hb5).trans y5
          have K1 := Lib.hid hx1; have K2 := Lib.hid hx2; have K3 := Lib.hid hx3; have K4 := Lib.hid hx4
          have S1 : Hid ((warmSpans lo hi ys)[k]? = some (lo, hi)) := Lib.hid (by simp [warmSpans, hy])
          have S2 : Hid ((sumSpans ys)[k]? = some (y.sl, y.sh)) := Lib.hid (by simp [sumSpans, hy])
          have S3 : Hid ((winSpans ys)[k]? = some (y.wl, y.wh)) := Lib.hid (by simp [winSpans, hy])
          have S4 : Hid ((snowSpans ys)[k]? = some (y.nl, y.nh)) := Lib.hid (by simp [snowSpans, hy])
          have hk0 : (0 : Int) ≤ (k : Int) := by omega
          have hk1 : (k : Int) < (m : Int) := by omega
          have ltP := (Array.getElem?_eq_some_iff.1 X0.out).1
          have ltT := (Array.getElem?_eq_some_iff.1 X1.out).1
          have lt1 : b1 < wr.heap.size := Nat.lt_of_lt_of_le hb1 hbr.size
          have lt2 : b2 < wr.heap.size := Nat.lt_of_lt_of_le hb2 hbr.size
          have lt3 : b3 < wr.heap.size := Nat.lt_of_lt_of_le hb3 hbr.size
          have lt4 : b4 < wr.heap.size := Nat.lt_of_lt_of_le hb4 hbr.size
          have lt5 : b5 < wr.heap.size := Nat.lt_of_lt_of_le hb5 hbr.size
          clear hx1 hx2 hx3 hx4 hy hc1 hc2 hc3 hc4 hc5 q q' hbr hb1 hb2 hb3 hb4 hb5
          replace t1 : ∀ u : KeptW wr, u.w.cell? ⟨w.heap.size + 1, 1, none⟩ = some (.slice (some ⟨b1, o1, none⟩) m cw) := fun u => ((bcell u.h).1 _ 1 ltT).trans t1
          replace t2 : ∀ u : KeptW wr, u.w.cell? ⟨w.heap.size + 1, 2, none⟩ = some (.slice (some ⟨b2, o2, none⟩) m cs) := fun u => ((bcell u.h).1 _ 2 ltT).trans t2
          replace t3 : ∀ u : KeptW wr, u.w.cell? ⟨w.heap.size + 1, 3, none⟩ = some (.slice (some ⟨b3, o3, none⟩) m cv) := fun u => ((bcell u.h).1 _ 3 ltT).trans t3
          replace t4 : ∀ u : KeptW wr, u.w.cell? ⟨w.heap.size + 1, 4, none⟩ = some (.slice (some ⟨b4, o4, none⟩) m cn) := fun u => ((bcell u.h).1 _ 4 ltT).trans t4
          replace p1 : ∀ u : KeptW wr, u.w.cell? ⟨w.heap.size, 1, none⟩ = some (.int .i64 lo) := fun u => ((bcell u.h).1 _ 1 ltP).trans p1
          replace p2 : ∀ u : KeptW wr, u.w.cell? ⟨w.heap.size, 2, none⟩ = some (.int .i64 hi) := fun u => ((bcell u.h).1 _ 2 ltP).trans p2
          replace d1 : ∀ u : KeptW wr, u.w.cell? ⟨b1, o1 + k, none⟩ = some (.int .i64 x1) := fun u => ((bcell u.h).1 _ _ lt1).trans d1
          replace d2 : ∀ u : KeptW wr, u.w.cell? ⟨b2, o2 + k, none⟩ = some (.int .i64 x2) := fun u => ((bcell u.h).1 _ _ lt2).trans d2
          replace d3 : ∀ u : KeptW wr, u.w.cell? ⟨b3, o3 + k, none⟩ = some (.int .i64 x3) := fun u => ((bcell u.h).1 _ _ lt3).trans d3
          replace d4 : ∀ u : KeptW wr, u.w.cell? ⟨b4, o4 + k, none⟩ = some (.int .i64 x4) := fun u => ((bcell u.h).1 _ _ lt4).trans d4
          replace y0 : ∀ u : KeptW wr, u.w.cell? ⟨b5, o5 + k * 6, none⟩ = some (.int .i64 y.sl) := fun u => ((bcell u.h).1 _ _ lt5).trans y0
          replace y1 : ∀ u : KeptW wr, u.w.cell? ⟨b5, o5 + k * 6 + 1, none⟩ = some (.int .i64 y.sh) := fun u => ((bcell u.h).1 _ _ lt5).trans y1
          replace y2 : ∀ u : KeptW wr, u.w.cell? ⟨b5, o5 + k * 6 + 2, none⟩ = some (.int .i64 y.wl) := fun u => ((bcell u.h).1 _ _ lt5).trans y2
          replace y3 : ∀ u : KeptW wr, u.w.cell? ⟨b5, o5 + k * 6 + 3, none⟩ = some (.int .i64 y.wh) := fun u => ((bcell u.h).1 _ _ lt5).trans y3
          replace y4 : ∀ u : KeptW wr, u.w.cell? ⟨b5, o5 + k * 6 + 4, none⟩ = some (.int .i64 y.nl) := fun u => ((bcell u.h).1 _ _ lt5).trans y4
          replace y5 : ∀ u : KeptW wr, u.w.cell? ⟨b5, o5 + k * 6 + 5, none⟩ = some (.int .i64 y.nh) := fun u => ((bcell u.h).1 _ _ lt5).trans y5
          clear ltP ltT lt1 lt2 lt3 lt4 lt5
          cases g1 : inB x1 lo hi with
          | false =>
            have G1 := Lib.hid g1
            clear g1
            go_wp2_with fail
            refine rk_region (by kernel_rfl) (by kernel_rfl) ?_
            repeat (go_big_quiet_step (first | (with_reducible exact inside_kept G1.out _) | fail))
            refine wpQuiet_nil ?_
            rintro _ ⟨⟨wz, hbz⟩, rfl⟩
            have BZ := Lib.hid (HBR.out.trans (hbz.mono HBR.out.size))
            clear t1 t2 t3 t4 p1 p2 d1 d2 d3 d4 y0 y1 y2 y3 y4 y5 hbz
            go_wp2_with fail
            go_ret
            exact ⟨ret_bool (by simp [possB, allB_bad K1.out S1.out (by simpa [okB] using G1.out)]), HB1.out.trans (BZ.out.mono HB1.out.size)⟩
          | true =>
            have G1 := Lib.hid g1
            clear g1
            cases g2 : inB x2 y.sl y.sh with
            | false =>
              have G2 := Lib.hid g2
              clear g2
              go_wp2_with fail
              refine rk_region (by kernel_rfl) (by kernel_rfl) ?_
              repeat (go_big_quiet_step (first | (with_reducible exact inside_kept G1.out _) | (with_reducible exact inside_kept G2.out _) | fail))
              refine wpQuiet_nil ?_
              rintro _ ⟨⟨wz, hbz⟩, rfl⟩
              have BZ := Lib.hid (HBR.out.trans (hbz.mono HBR.out.size))
              clear t1 t2 t3 t4 p1 p2 d1 d2 d3 d4 y0 y1 y2 y3 y4 y5 hbz
              go_wp2_with fail
              go_ret
              exact ⟨ret_bool (by simp [possB, allB_bad K2.out S2.out (by simpa [okB] using G2.out)]), HB1.out.trans (BZ.out.mono HB1.out.size)⟩
            | true =>
              have G2 := Lib.hid g2
              clear g2
              cases g3 : inB x3 y.wl y.wh with
              | false =>
                have G3 := Lib.hid g3
                clear g3
                go_wp2_with fail
                refine rk_region (by kernel_rfl) (by kernel_rfl) ?_
                repeat (go_big_quiet_step (first | (with_reducible exact inside_kept G1.out _) | (with_reducible exact inside_kept G2.out _) | (with_reducible exact inside_kept G3.out _) | fail))
                refine wpQuiet_nil ?_
                rintro _ ⟨⟨wz, hbz⟩, rfl⟩
                have BZ := Lib.hid (HBR.out.trans (hbz.mono HBR.out.size))
                clear t1 t2 t3 t4 p1 p2 d1 d2 d3 d4 y0 y1 y2 y3 y4 y5 hbz
                go_wp2_with fail
                go_ret
                exact ⟨ret_bool (by simp [possB, allB_bad K3.out S3.out (by simpa [okB] using G3.out)]), HB1.out.trans (BZ.out.mono HB1.out.size)⟩
              | true =>
                have G3 := Lib.hid g3
                clear g3
                cases g4 : inB x4 y.nl y.nh with
                | false =>
                  have G4 := Lib.hid g4
                  clear g4
                  go_wp2_with fail
                  refine rk_region (by kernel_rfl) (by kernel_rfl) ?_
                  repeat (go_big_quiet_step (first | (with_reducible exact inside_kept G1.out _) | (with_reducible exact inside_kept G2.out _) | (with_reducible exact inside_kept G3.out _) | (with_reducible exact inside_kept G4.out _) | fail))
                  refine wpQuiet_nil ?_
                  rintro _ ⟨⟨wz, hbz⟩, rfl⟩
                  have BZ := Lib.hid (HBR.out.trans (hbz.mono HBR.out.size))
                  clear t1 t2 t3 t4 p1 p2 d1 d2 d3 d4 y0 y1 y2 y3 y4 y5 hbz
                  go_wp2_with fail
                  go_ret
                  exact ⟨ret_bool (by simp [possB, allB_bad K4.out S4.out (by simpa [okB] using G4.out)]), HB1.out.trans (BZ.out.mono HB1.out.size)⟩
                | true =>
                  have G4 := Lib.hid g4
                  clear g4
                  go_wp2_with fail
                  refine rk_region (by kernel_rfl) (by kernel_rfl) ?_
                  repeat (go_big_quiet_step (first | (with_reducible exact inside_kept G1.out _) | (with_reducible exact inside_kept G2.out _) | (with_reducible exact inside_kept G3.out _) | (with_reducible exact inside_kept G4.out _) | fail))
                  refine wpQuiet_nil ?_
                  rintro _ ⟨⟨wz, hbz⟩, rfl⟩
                  have BZ := Lib.hid (HBR.out.trans (hbz.mono HBR.out.size))
                  clear t1 t2 t3 t4 p1 p2 d1 d2 d3 d4 y0 y1 y2 y3 y4 y5 hbz
                  go_wp2_with fail
                  exact ⟨⟨k + 1, by omega, by go_num, zip_take_succ K1.out S1.out A1.out (by simpa [okB] using G1.out), zip_take_succ K2.out S2.out A2_.out (by simpa [okB] using G2.out), zip_take_succ K3.out S3.out A3.out (by simpa [okB] using G3.out), zip_take_succ K4.out S4.out A4.out (by simpa [okB] using G4.out), BZ.out⟩, by simp [intOf]; omega⟩
        · have hkm : k = m := by omega
          subst hkm
          have hal : ∀ (xs : List Int) (ss : List (Int × Int)), xs.length = ys.length → ss.length = ys.length → ((xs.zip ss).take k).all okB = true → allB xs ss = true := fun xs ss e1 e2 h => by
            rw [List.take_of_length_le (by rw [List.length_zip, e1, e2, HY.out]; simp)] at h
            exact allB_fine (by rw [e1, e2]) h
          have e1 := hal ws (warmSpans lo hi ys) (by rw [H2.out, HY.out]) (by simp [warmSpans]) A1.out
          have e2 := hal ss (sumSpans ys) (by rw [H3.out, HY.out]) (by simp [sumSpans]) A2_.out
          have e3 := hal vs (winSpans ys) (by rw [H4.out, HY.out]) (by simp [winSpans]) A3.out
          have e4 := hal ns (snowSpans ys) (by rw [H5.out, HY.out]) (by simp [snowSpans]) A4.out
          have EE : Hid (possB ls lo hi ys ms ws ss vs ns = true) := Lib.hid (by simp [possB, AM_.out, e1, e2, e3, e4])
          clear e1 e2 e3 e4 hal
          go_wp2_with fail
          go_ret
          exact ⟨ret_bool EE.out.symm, HB1.out.trans (HBR.out.mono HB1.out.size)⟩
end Go.Proofs.YtccekbdhffccdaaDoor
