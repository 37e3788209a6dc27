/- The planner: the level of a pile, given when it was jacked the last time. -/
import Derived.Test.YtdlaphlpimlgdaaGreatDoorAJ
import Derived.OrdersIn
import Derived.StillTail
import Derived.StillTailTactics
namespace Go.Proofs.YtdlaphlpimlgdaaGreatDoor
open Go.RowKit

/-- Levels in close bounds. -/
def spLo (x : Sp) : Prop := (-100000 ≤ x.1 ∧ x.1 ≤ 100000) ∧ -100000 ≤ x.2 ∧ x.2 ≤ 100000
/-- A planner: the looked-at site, the levels without jackings, the map. -/
structure PlAt (X : Ctx) (LL : List (List Sp)) (p : Nat) (A3 : Option Addr) (c3 : Nat) (mv : Value) (w : World) : Prop where
  z : w.heap[p]? = some (.cells #[.pointer (some ⟨X.G, 0, none⟩), .slice A3 X.n c3, mv] 167 (0, 0))
  x : X.At w
  L : SpsAt w w.heap.size A3 LL
  len : LL.length = X.n
  rows : ∀ row ∈ LL, row.length = X.np ∧ ∀ x ∈ row, spLo x
theorem PlAt.up {X : Ctx} {LL : List (List Sp)} {p : Nat} {A3 : Option Addr} {c3 : Nat} {mv : Value} {w w' : World} (h : PlAt X LL p A3 c3 mv w) (hb : Below w.heap.size w w') : PlAt X LL p A3 c3 mv w' :=
  ⟨(hb.block _ (heapsz h.z)).trans h.z, h.x.up hb, h.L.up hb, h.len, h.rows⟩
theorem PlAt.cells {X : Ctx} {LL : List (List Sp)} {p : Nat} {A3 : Option Addr} {c3 : Nat} {mv : Value} {w : World} (h : PlAt X LL p A3 c3 mv w) :
    w.cell? ⟨p, 0, none⟩ = some (.pointer (some ⟨X.G, 0, none⟩)) ∧ w.cell? ⟨p, 1, none⟩ = some (.slice A3 X.n c3) ∧ w.cell? ⟨p, 2, none⟩ = some mv := by
  have h0 := cell_of_row w p 0 _ 167 (0, 0) h.z
  have h1 := cell_of_row w p 1 _ 167 (0, 0) h.z
  have h2 := cell_of_row w p 2 _ 167 (0, 0) h.z
  simp at h0 h1 h2
  exact ⟨h0, h1, h2⟩
def atS (LL : List (List Sp)) (t i : Nat) : Sp := (LL.getD t []).getD i (0, 0)
/-- The level of a pile at a year's end. -/
def levS (LL : List (List Sp)) (ss : List Int) (t i : Nat) : Sp :=
  if 0 < ss.getD i 0 then ((atS LL t i).1 - (atS LL ((ss.getD i 0).toNat - 1) i).1, (atS LL t i).2 - (atS LL ((ss.getD i 0).toNat - 1) i).2) else atS LL t i
theorem PlAt.at_ {X : Ctx} {LL : List (List Sp)} {p : Nat} {A3 : Option Addr} {c3 : Nat} {mv : Value} {w : World} (h : PlAt X LL p A3 c3 mv w) {t i : Nat} (ht : t < X.n) (hi : i < X.np) :
    ∃ b o A' m c' b' o', A3 = some ⟨b, o, none⟩ ∧ b < w.heap.size ∧ m = X.np ∧ w.cell? ⟨b, o + t, none⟩ = some (.slice A' m c') ∧ A' = some ⟨b', o', none⟩ ∧ b' < w.heap.size ∧ w.cell? ⟨b', o' + i * 2, none⟩ = some (.int .i64 (atS LL t i).1) ∧ w.cell? ⟨b', o' + i * 2 + 1, none⟩ = some (.int .i64 (atS LL t i).2) ∧ spLo (atS LL t i) := by
  obtain ⟨row, hr⟩ := get_of_lt (l := LL) (k := t) (by rw [h.len]; exact ht)
  obtain ⟨h1, h2⟩ := h.rows row (List.mem_of_getElem? hr)
  obtain ⟨y, hy⟩ := get_of_lt (l := row) (k := i) (by rw [h1]; exact hi)
  have ha : atS LL t i = y := by unfold atS; rw [show LL.getD t [] = row by rw [List.getD_eq_getElem?_getD, hr]; rfl, List.getD_eq_getElem?_getD, hy]; rfl
  obtain ⟨b, o, A', m, c', b', o', e1, e2, e3, e4, e5, e6, e7, e8⟩ := sps_cells h.L hr hy
  rw [ha]
  exact ⟨b, o, A', m, c', b', o', e1, e2, e3.trans h1, e4, e5, e6, e7, e8, h2 y (List.mem_of_getElem? hy)⟩
theorem set2 {w : World} {B : Nat} {x y : Value} {t : TypeId} (h : w.heap[B]? = some (.cells #[x, y] t (0, 0))) (a b : Value) :
    ((w.setCell ⟨B, 0, none⟩ a).setCell ⟨B, 1, none⟩ b).heap[B]? = some (.cells #[a, b] t (0, 0)) := by
  simpa using blk_set (blk_set h 0 a) 1 b
set_option maxRecDepth 100000 in
set_option maxHeartbeats 2000000 in
theorem level_X {X : Ctx} {LL : List (List Sp)} {p : Nat} {A3 : Option Addr} {c3 : Nat} {mv : Value} {w : World} (h : PlAt X LL p A3 c3 mv w) (ss : List Int) (h6 : ss.length = 6) (np6 : X.np ≤ 6) (n10 : X.n ≤ 10) {t i : Nat} (ht : t < X.n) (hi : i < X.np) (hs : 0 ≤ ss.getD i 0 ∧ ss.getD i 0 ≤ (t : Int)) :
    Calls Tryz.prog 179 #[.pointer (some ⟨p, 0, none⟩), .agg (iV ss), .int .i64 (t : Int), .int .i64 (i : Int)] w fun e w' => e = .returned (.agg #[.int .i64 (levS LL ss t i).1, .int .i64 (levS LL ss t i).2]) ∧ Below w.heap.size w w' := by
  obtain ⟨z0, z1, hb1⟩ := two_boxes w (.cells (iV ss) 192) (.cells #[.int .i64 0, .int .i64 0] 42)
  obtain ⟨s, hsi⟩ : ∃ z, ss.getD i 0 = z := ⟨_, rfl⟩
  have hgi : ss[i]? = some s := by
    obtain ⟨y, hy⟩ := get_of_lt (l := ss) (k := i) (by rw [h6]; omega)
    rw [List.getD_eq_getElem?_getD, hy] at hsi
    rw [hy, ← hsi]; rfl
  rw [hsi] at hs
  have HLS : Hid (levS LL ss t i = if 0 < s then ((atS LL t i).1 - (atS LL (s.toNat - 1) i).1, (atS LL t i).2 - (atS LL (s.toNat - 1) i).2) else atS LL t i) := Lib.hid (by unfold levS; rw [hsi])
  have hP1 := h.up hb1
  obtain ⟨_, p1, _⟩ := hP1.cells
  obtain ⟨b, o, A', m, c', b', o', rfl, e2, rfl, e4, rfl, e6, e7, e8, hin⟩ := hP1.at_ ht hi
  obtain ⟨y, hy⟩ : ∃ z, atS LL t i = z := ⟨_, rfl⟩
  rw [hy] at e7 e8 hin HLS
  have hb2 := (Below.refl ((w.alloc (.cells (iV ss) 192)).alloc (.cells #[.int .i64 0, .int .i64 0] 42)).heap.size ((w.alloc (.cells (iV ss) 192)).alloc (.cells #[.int .i64 0, .int .i64 0] 42))).alloc (Nat.le_refl _) (.cells #[.int .i64 y.1, .int .i64 y.2] 42)
  have q0 := cell_of_row _ w.heap.size i _ 192 (0, 0) ((hb2.block _ (heapsz z0)).trans z0)
  rw [iV_get hgi] at q0
  have t0 : (0 : Int) ≤ (t : Int) := by omega
  have t1 : (t : Int) < (X.n : Int) := by omega
  have i0 : (0 : Int) ≤ (i : Int) := by omega
  have i1 : (i : Int) < (X.np : Int) := by omega
  have i6 : (i : Int) < 6 := by omega
  have HI := Lib.hid hin
  have HP2 := Lib.hid (hP1.up hb2)
  have HZ0 := Lib.hid z0; have HZ1 := Lib.hid z1; have HB1 := Lib.hid hb1; have HB2 := Lib.hid hb2
  have H3 : Hid (∀ o1 o2 o3, Below w.heap.size w (((w.alloc o1).alloc o2).alloc o3)) := Lib.hid fun o1 o2 o3 => (((Below.refl w.heap.size w).alloc (Nat.le_refl _) o1).alloc (by simp) o2).alloc (by simp; omega) o3
  have H4 : Hid (∀ o1 o2 o3 o4, Below w.heap.size w ((((w.alloc o1).alloc o2).alloc o3).alloc o4)) := Lib.hid fun o1 o2 o3 o4 => (H3.out o1 o2 o3).alloc (by simp; omega) o4
  clear h hP1 hb1 hb2 z0 z1 hy hgi hsi HB1 HZ0
  by_cases h0 : 0 < s
  · obtain ⟨k, rfl⟩ : ∃ k : Nat, s = ((k + 1 : Nat) : Int) := ⟨s.toNat - 1, by omega⟩
    obtain ⟨_, P1, _⟩ := HP2.out.cells
    obtain ⟨b2, o2, A4, m4, c4, b4, o4, E1, E2, rfl, E4, rfl, E6, E7, E8, hin2⟩ := HP2.out.at_ (t := k) (by omega) hi
    injection E1 with E1
    injection E1 with E1 E1'
    subst E1 E1'
    obtain ⟨x, hx⟩ : ∃ z, atS LL k i = z := ⟨_, rfl⟩
    have hLS := HLS.out
    rw [if_pos h0, show ((k + 1 : Nat) : Int).toNat - 1 = k by omega, hx] at hLS
    rw [hx] at E7 E8 hin2
    have HV := Lib.hid hLS
    have k0 : (0 : Int) ≤ (k : Int) := by omega
    have k1 : (k : Int) < (X.n : Int) := by omega
    have kw : IntKind.i64.wrap (((k + 1 : Nat) : Int) - 1) = (k : Int) := by rw [show ((k + 1 : Nat) : Int) - 1 = (k : Int) by omega]; rw [IntKind.wrap_i64]; omega
    have L1 := heapsz HP2.out.z
    have zs := heap_alloc_last ((w.alloc (.cells (iV ss) 192)).alloc (.cells #[.int .i64 0, .int .i64 0] 42)) (.cells #[.int .i64 y.1, .int .i64 y.2] 42)
    have zr := (HB2.out.block _ (heapsz HZ1.out)).trans HZ1.out
    clear HZ1 HB2
    have L2 : w.heap.size < (((w.alloc (.cells (iV ss) 192)).alloc (.cells #[.int .i64 0, .int .i64 0] 42)).alloc (.cells #[.int .i64 y.1, .int .i64 y.2] 42)).heap.size := by simp; omega
    rw [show ((w.alloc (.cells (iV ss) 192)).alloc (.cells #[.int .i64 0, .int .i64 0] 42)).heap.size = w.heap.size + 1 + 1 by simp] at zs
    obtain ⟨⟨y1, y2⟩, y3, y4⟩ := hin
    obtain ⟨⟨x1, x2⟩, x3, x4⟩ := hin2
    have v1 : Value.int .i64 (wrap64 (y.1 - x.1)) = Value.int .i64 (y.1 - x.1) := by congr 1; exact w64 (by omega)
    have v2 : Value.int .i64 (wrap64 (y.2 - x.2)) = Value.int .i64 (y.2 - x.2) := by congr 1; exact w64 (by omega)
    obtain ⟨S, hS⟩ : ∃ z : Int, ((k + 1 : Nat) : Int) = z := ⟨_, rfl⟩
    rw [hS] at q0 kw h0
    clear HLS hLS hx HP2 hS hs HI
    go_enter Tryz.func179, Tryz.ntmps179
    go_wp2_with fail
    have HW := Lib.hid (H3.out (.cells (iV ss) 192) (.cells #[.int .i64 0, .int .i64 0] 42) (.cells #[.int .i64 y.1, .int .i64 y.2] 42))
    clear H3 H4 p1 e2 e4 e6 e7 e8
    generalize ((w.alloc (.cells (iV ss) 192)).alloc (.cells #[.int .i64 0, .int .i64 0] 42)).alloc (.cells #[.int .i64 y.1, .int .i64 y.2] 42) = W at *
    obtain ⟨q1, q2⟩ := span_box zs
    have fz : ∀ j, W.frozen? ⟨w.heap.size + 1 + 1, j, none⟩ = false := fun j => by simp [World.frozen?, zs]
    have fz0 := fz 0; have fz1 := fz 1
    have L5 := heapsz zs
    have hbW : Below W.heap.size W (W.alloc (.cells #[.int .i64 x.1, .int .i64 x.2] 42)).drew := ((Below.refl W.heap.size W).alloc (Nat.le_refl _) (.cells #[.int .i64 x.1, .int .i64 x.2] 42)).drew
    have HW2 := Lib.hid (HW.out.trans (hbW.mono HW.out.size))
    have zs2 := Lib.hid ((hbW.block _ (heapsz zs)).trans zs)
    have zr2 := Lib.hid ((hbW.block _ (heapsz zr)).trans zr)
    have zx2 : Hid ((W.alloc (.cells #[.int .i64 x.1, .int .i64 x.2] 42)).drew.heap[W.heap.size]? = some (.cells #[.int .i64 x.1, .int .i64 x.2] 42 (0, 0))) := Lib.hid (heap_alloc_last W (.cells #[.int .i64 x.1, .int .i64 x.2] 42))
    have L6 := heapsz zr
    clear fz zs hbW zr
    go_region
    clear q0 q1 q2 fz0 fz1 E2 E4 E6 E7 E8 P1
    generalize (W.alloc (.cells #[.int .i64 x.1, .int .i64 x.2] 42)).drew = V at *
    obtain ⟨q1, q2⟩ := span_box zs2.out
    obtain ⟨u1, u2⟩ := span_box zx2.out
    have zr := zr2.out
    obtain ⟨r1, r2⟩ := span_box zr
    have fs : ∀ j, V.frozen? ⟨w.heap.size + 1 + 1, j, none⟩ = false := fun j => by simp [World.frozen?, zs2.out]
    have fr : ∀ j, V.frozen? ⟨w.heap.size + 1, j, none⟩ = false := fun j => by simp [World.frozen?, zr]
    have fs0 := fs 0; have fs1 := fs 1; have fr0 := fr 0; have fr1 := fr 1
    have ne1 : w.heap.size + 1 ≠ w.heap.size + 1 + 1 := by omega
    have ne2 : W.heap.size ≠ w.heap.size + 1 + 1 := by omega
    clear zr fs fr
    have HE : Hid (((((V.setCell ⟨w.heap.size + 1 + 1, 0, none⟩ (.int .i64 (y.1 - x.1))).setCell ⟨w.heap.size + 1 + 1, 1, none⟩ (.int .i64 (y.2 - x.2))).setCell ⟨w.heap.size + 1, 0, none⟩ (.int .i64 (y.1 - x.1))).setCell ⟨w.heap.size + 1, 1, none⟩ (.int .i64 (y.2 - x.2))).heap[w.heap.size + 1]? = some (.cells #[.int .i64 (y.1 - x.1), .int .i64 (y.2 - x.2)] 42 (0, 0))) :=
      Lib.hid (set2 ((Below.heap_setCell _ _ _ _ ne1).trans ((Below.heap_setCell _ _ _ _ ne1).trans zr2.out)) _ _)
    have HBE := Lib.hid ((((HW2.out.setCell (p := ⟨w.heap.size + 1 + 1, 0, none⟩) (by simp; omega) (.int .i64 (y.1 - x.1))).setCell (p := ⟨w.heap.size + 1 + 1, 1, none⟩) (by simp; omega) (.int .i64 (y.2 - x.2))).setCell (p := ⟨w.heap.size + 1, 0, none⟩) (by simp) (.int .i64 (y.1 - x.1))).setCell (p := ⟨w.heap.size + 1, 1, none⟩) (by simp) (.int .i64 (y.2 - x.2)))
    go_wp2_with fail
    obtain ⟨e0, e1⟩ := span_box HE.out
    exact bodyPost_ret (v := .agg #[.int .i64 (y.1 - x.1), .int .i64 (y.2 - x.2)]) (by simp [results, Tryz.results179, go_sem, e0, e1]) rfl ⟨by rw [HV.out], HBE.out⟩
  · have hLS := HLS.out
    rw [if_neg h0] at hLS
    have HV := Lib.hid hLS
    clear HLS hLS HP2
    go_enter Tryz.func179, Tryz.ntmps179
    go_wp2_with fail
    exact bodyPost_ret (v := .agg #[.int .i64 y.1, .int .i64 y.2]) (by simp [results, Tryz.results179, go_sem]) rfl ⟨by rw [HV.out], H3.out _ _ _⟩
end Go.Proofs.YtdlaphlpimlgdaaGreatDoor
/- The planner: whether a pile stands at a year's end, given when the piles were jacked the last time. -/
namespace Go.Proofs.YtdlaphlpimlgdaaGreatDoor
open Go.RowKit

def tilS (X : Ctx) (LL : List (List Sp)) (ss : List Int) (t i : Nat) (q : Int × Int) : Bool := decide (max q.1 q.2 = (i : Int)) && tilB X.tilt (levS LL ss t i) (levS LL ss t (min q.1 q.2).toNat)
def standB (X : Ctx) (LL : List (List Sp)) (ss : List Int) (t i : Nat) : Bool := !sinB X.sink (levS LL ss t i).1 && !X.qs.any (tilS X LL ss t i)
def NoTil (X : Ctx) (LL : List (List Sp)) (ss : List Int) (t i n : Nat) : Prop := ∀ j q, j < n → X.qs[j]? = some q → tilS X LL ss t i q = false
theorem lev_in {X : Ctx} {LL : List (List Sp)} {p : Nat} {A3 : Option Addr} {c3 : Nat} {mv : Value} {w : World} (h : PlAt X LL p A3 c3 mv w) (ss : List Int) {t i : Nat} (ht : t < X.n) (hi : i < X.np) (hs : 0 ≤ ss.getD i 0 ∧ ss.getD i 0 ≤ (t : Int)) :
    (-1000000 ≤ (levS LL ss t i).1 ∧ (levS LL ss t i).1 ≤ 1000000) ∧ (-1000000 ≤ (levS LL ss t i).2 ∧ (levS LL ss t i).2 ≤ 1000000) := by
  obtain ⟨_, _, _, _, _, _, _, _, _, _, _, _, _, _, _, ⟨h1, h2⟩, h3, h4⟩ := h.at_ ht hi
  unfold levS
  by_cases h0 : 0 < ss.getD i 0
  · obtain ⟨_, _, _, _, _, _, _, _, _, _, _, _, _, _, _, ⟨k1, k2⟩, k3, k4⟩ := h.at_ (t := (ss.getD i 0).toNat - 1) (i := i) (by omega) hi
    rw [if_pos h0]
    simp only
    omega
  · rw [if_neg h0]
    omega
set_option maxRecDepth 100000 in
set_option maxHeartbeats 2000000 in
theorem stands_X {X : Ctx} (K : X.Ok) (hord : ∀ q ∈ X.qs, q.1 < q.2) {LL : List (List Sp)} {p : Nat} {A3 : Option Addr} {c3 : Nat} {mv : Value} {w : World} (h : PlAt X LL p A3 c3 mv w) (a b c d e f : Int) {t i : Nat} (ht : t < X.n) (hi : i < X.np) (hs : ∀ j, j ≤ i → 0 ≤ [a, b, c, d, e, f].getD j 0 ∧ [a, b, c, d, e, f].getD j 0 ≤ (t : Int)) :
    Calls Tryz.prog 156 #[.pointer (some ⟨p, 0, none⟩), .agg #[.int .i64 a, .int .i64 b, .int .i64 c, .int .i64 d, .int .i64 e, .int .i64 f], .int .i64 (t : Int), .int .i64 (i : Int)] w fun e' w' => e' = .returned (.bool (standB X LL [a, b, c, d, e, f] t i)) ∧ Below w.heap.size w w' := by
  have np6 := K.np6
  have n10 := K.n10
  have q10 := K.parts.q10
  have HK := Lib.hid K
  obtain ⟨ss, hss⟩ : ∃ z, [a, b, c, d, e, f] = z := ⟨_, rfl⟩
  have hiV : #[Value.int .i64 a, .int .i64 b, .int .i64 c, .int .i64 d, .int .i64 e, .int .i64 f] = iV ss := by rw [← hss]; rfl
  have HIV := Lib.hid hiV
  have h6 : ss.length = 6 := by rw [← hss]; rfl
  rw [hss] at hs ⊢
  have HL : Hid (∀ (u : World) (j : Nat), Below w.heap.size w u → j ≤ i → Calls Tryz.prog 179 #[.pointer (some ⟨p, 0, none⟩), .agg #[.int .i64 a, .int .i64 b, .int .i64 c, .int .i64 d, .int .i64 e, .int .i64 f], .int .i64 (t : Int), .int .i64 (j : Int)] u fun e w' => e = .returned (.agg #[.int .i64 (levS LL ss t j).1, .int .i64 (levS LL ss t j).2]) ∧ Below u.heap.size u w') :=
    Lib.hid fun u j hu hj => by rw [HIV.out]; exact level_X (h.up hu) ss h6 np6.2 n10 ht (by omega) (hs j hj)
  have HIN : Hid (∀ j, j ≤ i → (-1000000 ≤ (levS LL ss t j).1 ∧ (levS LL ss t j).1 ≤ 1000000) ∧ (-1000000 ≤ (levS LL ss t j).2 ∧ (levS LL ss t j).2 ≤ 1000000)) := Lib.hid fun j hj => lev_in h ss ht (by omega) (hs j hj)
  have z0 := heap_alloc_new w (.cells #[.int .i64 a, .int .i64 b, .int .i64 c, .int .i64 d, .int .i64 e, .int .i64 f] 192)
  have hb0 := (Below.refl w.heap.size w).alloc (Nat.le_refl _) (.cells #[.int .i64 a, .int .i64 b, .int .i64 c, .int .i64 d, .int .i64 e, .int .i64 f] 192)
  have HP := Lib.hid h; have HB := Lib.hid hb0; have HZ := Lib.hid z0
  clear h hs hss hiV hb0 z0 K
  go_enter Tryz.func156, Tryz.ntmps156
  go_wp2_with fail
  refine (HL.out _ i HB.out (Nat.le_refl _)).mono ?_
  rintro e1 w1 ⟨rfl, hb1⟩
  obtain ⟨y, hy⟩ : ∃ z, levS LL ss t i = z := ⟨_, rfl⟩
  have HY := Lib.hid hy
  rw [hy]
  have hI := HIN.out i (Nat.le_refl _)
  rw [hy] at hI
  have HYI := Lib.hid hI
  have hbA := HB.out.trans (hb1.mono HB.out.size)
  have hbn := (Below.refl w1.heap.size w1).alloc (Nat.le_refl _) (.cells #[.int .i64 y.1, .int .i64 y.2] 42)
  have zy := heap_alloc_new w1 (.cells #[.int .i64 y.1, .int .i64 y.2] 42)
  have HB1 := Lib.hid (hbA.trans (hbn.mono hbA.size))
  have HP1 := Lib.hid (HP.out.up (HB1.out))
  have HZY := Lib.hid zy
  have HZ1 := Lib.hid ((hbn.block _ (heapsz ((hb1.block _ (heapsz HZ.out)).trans HZ.out))).trans ((hb1.block _ (heapsz HZ.out)).trans HZ.out))
  obtain ⟨B2, hB2⟩ : ∃ z, w1.heap.size = z := ⟨_, rfl⟩
  rw [hB2] at HZY
  have hBW : Hid (w.heap.size ≤ B2) := Lib.hid (by rw [← hB2]; exact hbA.size)
  clear hy hI hbA hbn zy hb1 HZ
  have hstop := hB2
  go_wp2_with fail
  generalize w1.alloc (.cells #[.int .i64 y.1, .int .i64 y.2] 42) = W at *
  clear hstop hB2
  have F : Hid (∀ u : World, Below W.heap.size W u → (u.cell? ⟨p, 0, none⟩ = some (.pointer (some ⟨X.G, 0, none⟩)) ∧ u.cell? ⟨B2, 0, none⟩ = some (.int .i64 y.1) ∧ u.cell? ⟨B2, 1, none⟩ = some (.int .i64 y.2)) ∧ u.heap[w.heap.size]? = some (.cells #[.int .i64 a, .int .i64 b, .int .i64 c, .int .i64 d, .int .i64 e, .int .i64 f] 192 (0, 0))) := Lib.hid fun u hu => by
    obtain ⟨p0, _, _⟩ := (HP1.out.up hu).cells
    obtain ⟨y0, y1⟩ := span_box ((hu.block _ (heapsz HZY.out)).trans HZY.out)
    exact ⟨⟨p0, y0, y1⟩, (hu.block _ (heapsz HZ1.out)).trans HZ1.out⟩
  have HC := Lib.hid (fun u : KeptW W => Calls.in_kept u (sinks_X HK.out (HP1.out.x.up u.h) y.1 y.2))
  have P0 : ∀ u : KeptW W, u.w.cell? ⟨p, 0, none⟩ = some (.pointer (some ⟨X.G, 0, none⟩)) := fun u => (F.out u.w u.h).1.1
  have Y0 : ∀ u : KeptW W, u.w.cell? ⟨B2, 0, none⟩ = some (.int .i64 y.1) := fun u => (F.out u.w u.h).1.2.1
  have Y1 : ∀ u : KeptW W, u.w.cell? ⟨B2, 1, none⟩ = some (.int .i64 y.2) := fun u => (F.out u.w u.h).1.2.2
  refine rk_region (by kernel_rfl) (by kernel_rfl) ?_
  repeat (go_big_quiet_step (first | (with_reducible exact HC.out _) | fail))
  refine wpQuiet_nil ?_
  rintro _ ⟨u0, rfl⟩
  have HU0 := Lib.hid u0.h
  clear HC P0 Y0 Y1
  generalize u0.w = W0 at HU0 ⊢
  cases hsn : sinB X.sink y.1 with
  | true =>
    have HS := Lib.hid hsn
    go_wp2_with fail
    exact bodyPost_ret (v := .bool false) (by simp [results, Tryz.results156, go_sem]) rfl ⟨by unfold standB; rw [HY.out, HS.out]; rfl, HB1.out.trans (HU0.out.mono HB1.out.size)⟩
  | false =>
    have HS := Lib.hid hsn
    clear hsn
    obtain ⟨P0, _, _⟩ := (F.out W0 HU0.out).1
    obtain ⟨_, g1, _⟩ := look_cells (HP1.out.x.up HU0.out).g
    go_wp2_with fail
    clear P0 g1
    go_loopw [33] (fun k wr => ∃ n : Nat, n ≤ X.nq ∧ k = .int .i64 n ∧ Below W.heap.size W wr ∧ NoTil X LL ss t i n) (fun k _ => X.nq - (intOf k).toNat)
    case atStart => exact ⟨0, Nat.zero_le _, rfl, HU0.out, fun _ _ h => absurd h (Nat.not_lt_zero _)⟩
    case round =>
      obtain ⟨n, hn, rfl, hbr, hno⟩ := hrel
      have HBR := Lib.hid hbr; have HNO := Lib.hid hno
      clear hbr hno
      by_cases hlt : n < X.nq
      · have hn0 : (0 : Int) ≤ (n : Int) := by omega
        have hn1 : (n : Int) < (X.nq : Int) := by omega
        obtain ⟨q, hq⟩ := get_of_lt (l := X.qs) (k := n) (by rw [HK.out.hq]; exact hlt)
        obtain ⟨q1, q2, _⟩ := HK.out.parts.qs n q hq
        have q3 := hord q (List.mem_of_getElem? hq)
        have HQ : Hid (∀ q', X.qs[n]? = some q' → q' = q) := Lib.hid (fun q' h' => by rw [hq] at h'; injection h' with h'; exact h'.symm)
        have HQ2 := Lib.hid hq
        obtain ⟨u1, u2⟩ := q
        simp only at q1 q2 q3
        obtain ⟨k1, rfl⟩ : ∃ k : Nat, u1 = k := ⟨u1.toNat, by omega⟩
        obtain ⟨k2, rfl⟩ : ∃ k : Nat, u2 = k := ⟨u2.toNat, by omega⟩
        obtain ⟨bq, oq, hAQ, hbq, f0, f1⟩ := pr_at (HP1.out.x.up HBR.out).Q hq
        simp only at f0 f1
        have HT : Hid (tilS X LL ss t i ((k1 : Int), (k2 : Int)) = (decide ((k2 : Int) = (i : Int)) && tilB X.tilt y (levS LL ss t k1))) := Lib.hid (by
          unfold tilS
          rw [HY.out]
          simp only
          rw [Int.max_eq_right (by omega), Int.min_eq_left (by omega), Int.toNat_natCast])
        have hbn := (Below.refl wr.heap.size wr).alloc (Nat.le_refl _) (.cells #[.int .i64 (k1 : Int), .int .i64 (k2 : Int)] 74)
        have zn := heap_alloc_new wr (.cells #[.int .i64 (k1 : Int), .int .i64 (k2 : Int)] 74)
        have HBN := Lib.hid (HBR.out.trans (hbn.mono HBR.out.size))
        have HZN := Lib.hid zn
        obtain ⟨B3, hB3⟩ : ∃ z, wr.heap.size = z := ⟨_, rfl⟩
        rw [hB3] at HZN
        clear hbn zn hq
        go_wp2_with fail
        clear f0 f1
        generalize wr.alloc (.cells #[.int .i64 (k1 : Int), .int .i64 (k2 : Int)] 74) = V at *
        have FB : ∀ u : KeptW V, Below W.heap.size W u.w := fun u => HBN.out.trans (u.h.mono HBN.out.size)
        have P0 : ∀ u : KeptW V, u.w.cell? ⟨p, 0, none⟩ = some (.pointer (some ⟨X.G, 0, none⟩)) := fun u => (F.out u.w (FB u)).1.1
        have Y0 : ∀ u : KeptW V, u.w.cell? ⟨B2, 0, none⟩ = some (.int .i64 y.1) := fun u => (F.out u.w (FB u)).1.2.1
        have Y1 : ∀ u : KeptW V, u.w.cell? ⟨B2, 1, none⟩ = some (.int .i64 y.2) := fun u => (F.out u.w (FB u)).1.2.2
        have Z (u : KeptW V) (j : Nat) : u.w.cell? ⟨w.heap.size, j, none⟩ = #[Value.int .i64 a, .int .i64 b, .int .i64 c, .int .i64 d, .int .i64 e, .int .i64 f][j]? := cell_of_row u.w w.heap.size j _ 192 (0, 0) (F.out u.w (FB u)).2
        have S0 : ∀ u : KeptW V, u.w.cell? ⟨w.heap.size, 0, none⟩ = some (.int .i64 a) := fun u => Z u 0
        have S1 : ∀ u : KeptW V, u.w.cell? ⟨w.heap.size, 1, none⟩ = some (.int .i64 b) := fun u => Z u 1
        have S2 : ∀ u : KeptW V, u.w.cell? ⟨w.heap.size, 2, none⟩ = some (.int .i64 c) := fun u => Z u 2
        have S3 : ∀ u : KeptW V, u.w.cell? ⟨w.heap.size, 3, none⟩ = some (.int .i64 d) := fun u => Z u 3
        have S4 : ∀ u : KeptW V, u.w.cell? ⟨w.heap.size, 4, none⟩ = some (.int .i64 e) := fun u => Z u 4
        have S5 : ∀ u : KeptW V, u.w.cell? ⟨w.heap.size, 5, none⟩ = some (.int .i64 f) := fun u => Z u 5
        have R0 : ∀ u : KeptW V, u.w.cell? ⟨B3, 0, none⟩ = some (.int .i64 (k1 : Int)) := fun u => cell_of_row u.w B3 0 _ 74 (0, 0) ((u.h.block _ (heapsz HZN.out)).trans HZN.out)
        have R1 : ∀ u : KeptW V, u.w.cell? ⟨B3, 1, none⟩ = some (.int .i64 (k2 : Int)) := fun u => cell_of_row u.w B3 1 _ 74 (0, 0) ((u.h.block _ (heapsz HZN.out)).trans HZN.out)
        clear Z
        by_cases hk : k2 = i
        · subst hk
          have HC1 := Lib.hid (fun u : KeptW V => Calls.in_kept u (HL.out u.w k1 (HB1.out.trans ((FB u).mono HB1.out.size)) (by omega)))
          have hin1 := HIN.out k1 (by omega)
          obtain ⟨x, hx⟩ : ∃ z, levS LL ss t k1 = z := ⟨_, rfl⟩
          rw [hx] at HC1 hin1 HT
          have HC2 := Lib.hid (fun u : KeptW V => Calls.in_kept u (tilts_X (HP1.out.x.up (FB u)) y x HYI.out hin1))
          clear hx
          refine rk_region (by kernel_rfl) (by kernel_rfl) ?_
          repeat (go_big_quiet_step (first | (with_reducible exact HC1.out _) | (with_reducible exact HC2.out _) | fail))
          refine wpQuiet_nil ?_
          rintro _ ⟨u, rfl⟩
          have HUN := Lib.hid (FB u)
          generalize u.w = V2 at HUN ⊢
          cases htl : tilB X.tilt y x with
          | true =>
            have HTL := Lib.hid htl
            go_wp2_with fail
            try rw [Exit.noGoto_ret]
            exact bodyPost_ret (v := .bool false) (by simp [results, Tryz.results156, go_sem]) rfl ⟨by
              have hq : X.qs.any (tilS X LL ss t k2) = true := List.any_eq_true.2 ⟨_, List.mem_of_getElem? HQ2.out, by rw [HT.out, HTL.out]; simp⟩
              unfold standB; rw [hq]; simp, HB1.out.trans (HUN.out.mono HB1.out.size)⟩
          | false =>
            have HTL := Lib.hid htl
            go_wp2_with fail
            exact ⟨⟨_, _, _, _, ⟨n + 1, by omega, rfl, HUN.out, fun j q' hj hq' => by
              by_cases hjn : j < n
              · exact HNO.out j q' hjn hq'
              · have : j = n := by omega
                subst this
                rw [HQ.out q' hq', HT.out, HTL.out]; simp⟩, rfl, rfl, rfl, by go_num⟩, by simp [intOf]; omega⟩
        · have hk1 : ¬ (k2 : Int) = (i : Int) := by omega
          have hk2 : ((k2 : Int) == (i : Int)) = false := by rw [beq_eq_false_iff_ne]; exact hk1
          refine rk_region (by kernel_rfl) (by kernel_rfl) ?_
          repeat (go_big_quiet_step (fail))
          refine wpQuiet_nil ?_
          rintro _ ⟨u, rfl⟩
          have HUN := Lib.hid (FB u)
          generalize u.w = V2 at HUN ⊢
          go_wp2_with fail
          trace_state
          refine ⟨⟨_, _, _, (Value.int .i64 ((n : Int) + 1)), _, _, _, _, _, _, _, _, _, _, _, _, _, _, _, _, _, _, _, _, _, _, _, _, _, _, _, _, _, ⟨n + 1, by omega, by go_num, HUN.out, fun j q' hj hq' => ?_⟩, by rw [hAQ]⟩, by simp [intOf]; omega⟩
          by_cases hjn : j < n
          · exact HNO.out j q' hjn hq'
          · have : j = n := by omega
            subst this
            rw [HQ.out q' hq', HT.out, decide_eq_false hk1]; rfl
      · have hne : n = X.nq := by omega
        have hn1 : ¬ (n : Int) < (X.nq : Int) := by omega
        subst hne
        go_wp2_with fail
        try rw [Exit.noGoto_ret]
        exact bodyPost_ret (v := .bool true) (by simp [results, Tryz.results156, go_sem]) rfl ⟨by
          have hq : X.qs.any (tilS X LL ss t i) = false := by
            rw [List.any_eq_false]
            intro q hq
            obtain ⟨j, hj⟩ := List.getElem?_of_mem hq
            rw [HNO.out j q (by have := (List.getElem?_eq_some_iff.1 hj).1; rw [HK.out.hq] at this; exact this) hj]
            simp
          unfold standB; rw [HY.out, HS.out, hq]; rfl, HB1.out.trans (HBR.out.mono HB1.out.size)⟩
end Go.Proofs.YtdlaphlpimlgdaaGreatDoor
/- A region of reads before one store, inside a round of a range over a function. What a set of piles comes to: how many places, which place, what price; who was jacked. -/
namespace Go
section
variable {P : Program} {ops : Array Oper} {Q : Exit → Act → World → Prop}

def Oper.noDefer (o : Oper) : Bool := match o.op with
  | .defer _ => false
  | _ => true
theorem Oper.noDefer_spec {o : Oper} (h : o.noDefer = true) : ∀ c, o.op ≠ .defer c := fun c e => by simp [Oper.noDefer, e] at h

theorem Oper.wpIn_round_of_wp {n l : Nat} {o : Oper} {a : Act} {w : World} {K K' : Act → World → Prop} (hd : o.noDefer = true) (hK : ∀ a w, K a w → K' a w) (h : o.wp P a w K Q) :
    o.wpIn (Fence.wide.inRound l) n P a w K' Q := by
  refine ⟨fun _ _ => trivial, ?_⟩
  unfold Oper.wp at h
  rw [Oper.semAt_eq _ _ _ (Oper.noDefer_spec hd)]
  generalize (execOp a.eval o).run P w = r at *
  cases r with
  | ok x w' =>
    cases x with
    | enter f args =>
      simp only [Oper.upon, Oper.uponIn] at h ⊢
      refine ⟨(fun hh => by simp [Fence.wide] at hh), CallsIn.inRound l (callsIn_wide.2 (h.mono ?_))⟩
      intro e w'' he
      cases e
      · exact hK _ _ he
      · exact he
      · exact he
    | row r args =>
      simp only [Oper.upon, Oper.uponIn] at h ⊢
      exact ⟨(fun hh => by simp [Fence.wide] at hh), fun c cs _ => let ⟨v, w2, r, s⟩ := h c cs; ⟨v, w2, hK _ _ r, stepsIn_wide.2 s⟩⟩
    | _ => simp only [Oper.upon, Oper.uponIn] at h ⊢ <;> first | exact hK _ _ h | exact h
  | halt x w' => cases x <;> simp only [Oper.upon, Oper.uponIn] at h ⊢ <;> exact h

theorem wpAnyIn_round_of_wpAny {n l : Nat} {md : Region.Mode} (hd : ops.all Oper.noDefer = true) (hQ : ¬ LetsOut Q) : ∀ (fuel : Nat) (listed : Array Bool) (a : Act) (w : World), wpAny P md ops Q fuel listed a w →
    wpAnyIn (Fence.wide.inRound l) n P md ops Q fuel listed a w := by
  intro fuel
  induction fuel with
  | zero => intro listed a w h; exact h
  | succ fuel ih =>
    intro listed a w h
    refine ⟨h.1, fun i hi => ?_⟩
    have h2 := h.2 i hi
    unfold wpOp at h2
    unfold wpOpIn
    cases ho : ops[i]? with
    | none => rw [ho] at h2; exact ih _ _ _ h2
    | some o =>
      rw [ho] at h2
      dsimp only at h2 ⊢
      split at h2
      · rename_i hw
        rw [if_pos hw]
        rcases h2 with h2 | ⟨_, h2⟩
        · have hod : o.noDefer = true := by
            obtain ⟨hi', he⟩ := Array.getElem?_eq_some_iff.1 ho
            rw [Array.all_eq_true] at hd
            rw [← he]
            exact hd i hi'
          exact Oper.wpIn_round_of_wp hod (fun a w => ih _ a w) h2
        · exact absurd h2 hQ
      · rename_i hw
        rw [if_neg hw]
        exact ⟨fun _ _ => trivial, ih _ _ _ h2⟩

theorem wpIn_round_still_tail {id n₀ l₀ : Nat} {a : Act} {w : World} {l : List Oper} (n : Nat) (hm : P.follows .mixedOrders = true) (hB : Region.lexTailB .any l.toArray n = true) (hd : l.toArray.all Oper.noDefer = true) (hQ : ¬ LetsOut Q)
    (h : wpStill P l.toArray w.drew (fun a' => wpList P l.toArray Q (l.drop n) a' w.drew) (l.take n) a) : (Code.region id l.toArray true).wpIn (Fence.wide.inRound l₀) n₀ P Q a w := by
  simp only [Region.lexTailB, Bool.and_eq_true, decide_eq_true_eq] at hB
  obtain ⟨⟨⟨⟨hsel, hn⟩, hs⟩, hc⟩, hlex⟩ := hB
  have hn' : n < l.length := by simpa using hn
  have htl : (l.take n).length = n := by simp; omega
  have hdl : (l.drop n).length = l.toArray.size - n := by simp
  have inv0 : HeadInv .any l.toArray n (Array.replicate l.toArray.size false) :=
    ⟨by simp, fun j oj _ hl => (by rw [getD_replicate_false] at hl; cases hl), fun t _ ht => getD_in (by simpa using ht) (getD_replicate_false _ _)⟩
  have H := wpAnyL_lex (md := .any) (g := l.toArray.size - n) hsel hs hc hn (l.take n) 0 _ a (fun j hj => by
    have hj' : j < n := by rw [htl] at hj; exact hj
    simp [hj']) (by simpa using htl) inv0 (by rw [htl]; exact hlex) h
  have := wpAny_of_head (Q' := Q) (g := l.toArray.size - n) (fun listed a' hL => by
    have := wpAny_of_seq (md := .any) (Q' := Q) (l.drop n) n listed a' w.drew (fun j => by simp [List.getElem?_drop]) (by rw [hdl]; exact hL.1) hL.2
    rwa [hdl] at this) _ _ _ H
  rw [htl, show n + (l.toArray.size - n) = l.toArray.size by omega] at this
  exact wpIn_region_any hm (wpAnyIn_round_of_wpAny hd hQ _ _ _ _ this)
end
end Go

namespace Go.Proofs.YtdlaphlpimlgdaaGreatDoor
open Go.RowKit Go.Shelf
attribute [local go_sem] Oper.semAt_some

/-- Some blocks that stay, and one that changes. -/
structure BkI (n0 : Nat) (w : World) (fs : List (Nat × Array Value × TypeId)) (b : Nat) (cs : Array Value) (ty : TypeId) (W : World) : Prop where
  bel : Below n0 w W
  fix : ∀ x ∈ fs, W.heap[x.1]? = some (.cells x.2.1 x.2.2 (0, 0))
  blk : W.heap[b]? = some (.cells cs ty (0, 0))
theorem BkI.own {n0 N : Nat} {w A B : World} {fs : List (Nat × Array Value × TypeId)} {b : Nat} {cs : Array Value} {ty : TypeId} {row : Option Nat} (hN : n0 ≤ N) (h : BkI n0 w fs b cs ty A) (hA : n0 ≤ A.heap.size) (hg : A.grownBy B row) (hr : ∀ r, row = some r → N ≤ r ∧ ∃ o : Obj, A.heap[r]? = some o ∧ o.isCells = false) : BkI n0 w fs b cs ty B := by
  have hk : ∀ (b : Nat) (cs : Array Value) (ty : TypeId), A.heap[b]? = some (.cells cs ty (0, 0)) → B.heap[b]? = some (.cells cs ty (0, 0)) := fun b cs ty hb => by
    refine (hg.block b (Array.getElem?_eq_some_iff.1 hb).1 (fun e => ?_)).trans hb
    obtain ⟨_, o, h2, h3⟩ := hr b e.symm
    rw [hb] at h2
    injection h2 with h2
    rw [← h2] at h3
    cases h3
  exact ⟨h.bel.grown hg hA (fun k e => by have := (hr k e).1; omega), fun x hx => hk _ _ _ (h.fix x hx), hk _ _ _ h.blk⟩
theorem BkI.set {n0 : Nat} {w W : World} {fs : List (Nat × Array Value × TypeId)} {b : Nat} {cs : Array Value} {ty : TypeId} (h : BkI n0 w fs b cs ty W) (hb : n0 ≤ b) (hne : ∀ x ∈ fs, x.1 ≠ b) (j : Nat) (v : Value) : BkI n0 w fs b (cs.setIfInBounds j v) ty (W.setCell ⟨b, j, none⟩ v) :=
  ⟨h.bel.setCell (p := ⟨b, j, none⟩) hb _, fun x hx => (Below.heap_setCell _ _ _ _ (hne x hx)).trans (h.fix x hx), blk_set h.blk j v⟩
theorem BkI.drew {n0 : Nat} {w W : World} {fs : List (Nat × Array Value × TypeId)} {b : Nat} {cs : Array Value} {ty : TypeId} (h : BkI n0 w fs b cs ty W) : BkI n0 w fs b cs ty W.drew := ⟨h.bel.drew, h.fix, h.blk⟩
def plN (s : Int) (y : Nat) : Nat := (y + 1) ^ (pilL s).length
theorem pilL_len (s : Int) : (pilL s).length ≤ 6 := pil_len (s := s) (k := 6)
theorem pow_b6 {y k : Nat} (hy : y ≤ 9) (hk : k ≤ 6) : (y + 1) ^ k ≤ 1000000 :=
  Nat.le_trans (Nat.pow_le_pow_left (by omega : y + 1 ≤ 10) k) (Nat.le_trans (Nat.pow_le_pow_right (by decide) hk) (by decide))
theorem three_new (w : World) (o1 o2 o3 : Obj) : (((w.alloc o1).alloc o2).alloc o3).heap[w.heap.size]? = some o1 ∧ (((w.alloc o1).alloc o2).alloc o3).heap[w.heap.size + 1]? = some o2 ∧ (((w.alloc o1).alloc o2).alloc o3).heap[w.heap.size + 1 + 1]? = some o3 ∧ Below w.heap.size w (((w.alloc o1).alloc o2).alloc o3) := by
  obtain ⟨z0, z1, hb⟩ := two_boxes w o1 o2
  have h2 := (Below.refl ((w.alloc o1).alloc o2).heap.size ((w.alloc o1).alloc o2)).alloc (Nat.le_refl _) o3
  have z2 := heap_alloc_last ((w.alloc o1).alloc o2) o3
  rw [show ((w.alloc o1).alloc o2).heap.size = w.heap.size + 1 + 1 by simp] at z2
  exact ⟨(h2.block _ (Array.getElem?_eq_some_iff.1 z0).1).trans z0, (h2.block _ (Array.getElem?_eq_some_iff.1 z1).1).trans z1, z2, hb.trans (h2.mono hb.size)⟩
set_option maxRecDepth 100000 in
set_option maxHeartbeats 2000000 in
theorem places_any (s : Int) (y : Nat) (hy : y ≤ 9) (w : World) :
    Calls Tryz.prog 136 #[.int .i64 s, .int .i64 (y : Int)] w fun e w' => e = .returned (.int .i64 (plN s y : Nat)) ∧ Below w.heap.size w w' := by
  obtain ⟨z0, z1, z2, hb⟩ := three_new w (.cells #[.int .i64 (y : Int)] 3) (.cells #[.int .i64 1] 3) (.cells #[.int .i64 s] 3)
  have HI : Hid (BkI w.heap.size w [(w.heap.size, #[.int .i64 (y : Int)], 3)] (w.heap.size + 1) #[.int .i64 1] 3 (((w.alloc (.cells #[.int .i64 (y : Int)] 3)).alloc (.cells #[.int .i64 1] 3)).alloc (.cells #[.int .i64 s] 3))) :=
    Lib.hid ⟨hb, fun x hx => by rw [List.mem_singleton.1 hx]; exact z0, z1⟩
  have HZ := Lib.hid z2
  have HSZ : Hid (w.heap.size + 1 + 1 < (((w.alloc (.cells #[.int .i64 (y : Int)] 3)).alloc (.cells #[.int .i64 1] 3)).alloc (.cells #[.int .i64 s] 3)).heap.size) := Lib.hid (heapsz z2)
  have HCB : Hid ((((w.alloc (.cells #[.int .i64 (y : Int)] 3)).alloc (.cells #[.int .i64 1] 3)).alloc (.cells #[.int .i64 s] 3)).cell? ⟨w.heap.size + 1 + 1, 0, none⟩ = some (.int .i64 s)) := Lib.hid (by simpa using cell_of_row _ (w.heap.size + 1 + 1) 0 _ 3 (0, 0) z2)
  clear z0 z1 z2 hb
  refine callsIn_wide.1 (callsIn_of_wp_marks (n := 5) Tryz.func136 rfl trivial (wpIn_wide.2 ?_) rfl)
  simp only [Tryz.ntmps136, List.size_toArray, List.length_cons, List.length_nil, Nat.reduceAdd, Nat.reduceSub, Array.replicate_succ, Array.replicate_zero, List.push_toArray, List.append_toArray, List.nil_append, List.cons_append]
  go_wp2_with (first
    | (go_at_call 114; refine (pilesOf_any _ _).mono ?_; rintro e w' ⟨rfl, rfl⟩)
    | fail)
  generalize ((w.alloc (.cells #[.int .i64 (y : Int)] 3)).alloc (.cells #[.int .i64 1] 3)).alloc (.cells #[.int .i64 s] 3) = w5 at *
  refine (wpIn_wide (n := 3)).1 ?_
  refine wpIn_rangeFunc_ownF rfl (by decide) (gf := 129) (lb := #[.pointer (some ⟨w.heap.size + 1 + 1, 0, none⟩)]) rfl trivial (enters_of Tryz.func129 (by kernel_rfl) rfl)
    (piles_stops (3 - 1) (by decide) (w.heap.size + 1 + 1) w.heap.size s w5 HSZ.out HCB.out)
    kpB_t (kpB_b (by have := HSZ.out; omega) HSZ.out) (Below.refl _ _) (fun _ => rfl)
    (fun pre W => BkI w.heap.size w [(w.heap.size, #[.int .i64 (y : Int)], 3)] (w.heap.size + 1) #[.int .i64 ((y + 1) ^ pre.length : Nat)] 3 W)
    (fun _ _ _ => False)
    (fun pre A B row hs hg hr => hs.own (N := w5.heap.size) (by have := HSZ.out; omega) (by have := heapsz hs.blk; omega) hg hr)
    (fun _ _ _ _ _ hs _ _ => hs)
    (show BkI _ _ _ _ _ _ _ from HI.out)
    (fun x => { tmps := List.toArray ((Value.int .i64 s) :: (Value.int .i64 (y : Int)) :: undef :: (Value.pointer (some ⟨w.heap.size, 0, none⟩)) :: (Value.int .i64 0) :: (Value.pointer (some ⟨w.heap.size + 1, 0, none⟩)) :: (Value.int .i64 s) :: (Value.func (.func 129) #[] #[.pointer (some ⟨w.heap.size + 1 + 1, 0, none⟩)]) :: (Value.int .i64 (x.1 : Int)) :: undef :: undef :: undef :: undef :: undef :: []), defers := [] }) ?assign ?body ?done ?stop
  case assign =>
    intro l x W K hK
    gi_wp2
    simpa [go_sem] using hK
  case body =>
    rintro l pre ⟨x, hx6, hxj⟩ W hI hlen
    have HI5 := Lib.hid hI
    have h0 : ((y + 1) ^ pre.length : Nat) ≤ 1000000 := pow_b6 hy (by omega)
    have h1 : (y + 1) ^ pre.length * (y + 1) ≤ 10000000 := Nat.le_trans (Nat.mul_le_mul h0 (by omega : y + 1 ≤ 10)) (by decide)
    have HE : Hid ((y + 1) ^ (pre ++ [(⟨x, hx6, hxj⟩ : PX s)]).length = (y + 1) ^ pre.length * (y + 1)) := Lib.hid (by rw [List.length_append]; exact Nat.pow_succ ..)
    have y1 : Value.int .i64 (wrap64 ((y : Int) + 1)) = Value.int .i64 ((y : Int) + 1) := by congr 1; exact w64 (by omega)
    obtain ⟨M, hM⟩ : ∃ z, (y + 1) ^ pre.length = z := ⟨_, rfl⟩
    rw [hM] at HE HI5 h1 hI
    have m1 : Value.int .i64 (wrap64 ((M : Int) * ((y : Int) + 1))) = Value.int .i64 ((M : Int) * ((y : Int) + 1)) := by
      congr 1
      have : ((M * (y + 1) : Nat) : Int) = (M : Int) * ((y : Int) + 1) := by rw [Int.natCast_mul]; rfl
      rw [← this]
      exact w64 (by omega)
    have HV : Hid (((M * (y + 1) : Nat) : Int) = (M : Int) * ((y : Int) + 1)) := Lib.hid (by rw [Int.natCast_mul]; rfl)
    have a0 := cell_of_row W w.heap.size 0 _ 3 (0, 0) (hI.fix _ (List.mem_singleton.2 rfl))
    have a1 := cell_of_row W (w.heap.size + 1) 0 _ 3 (0, 0) hI.blk
    simp at a0 a1
    have f1 : W.frozen? ⟨w.heap.size + 1, 0, none⟩ = false := by simp [World.frozen?, hI.blk]
    clear hI hM h0 h1
    dsimp only
    gi_wp2
    have HN := HI5.out.set (by omega) (by simp) 0 (.int .i64 ((M : Int) * ((y : Int) + 1)))
    refine ⟨KeepsOthers.setCell _ _ _, ⟨(Below.refl _ _).setCell (p := ⟨w.heap.size + 1, 0, none⟩) (by simp) _, World.cell?_setCell_other W _ _ _ (fun e => by injection e with e; omega)⟩, ?_⟩
    show BkI _ _ _ _ #[.int .i64 ((y + 1) ^ (pre ++ [(⟨x, hx6, hxj⟩ : PX s)]).length : Nat)] _ _
    rw [HE.out, HV.out]
    exact HN
  case done =>
    rintro D ys W hD hys hI hK
    have hlen : ys.length = (pilL s).length := by rw [← hys, List.length_map]
    have a1 := cell_of_row W (w.heap.size + 1) 0 _ 3 (0, 0) hI.blk
    simp at a1
    have HW := Lib.hid hI.bel
    have HM : Hid (Marks W w.heap.size [D]) := Lib.hid ⟨by simp, fun E hE => by rw [List.mem_singleton.1 hE]; exact ⟨by have := HSZ.out; omega, hK⟩⟩
    rw [hlen] at a1
    clear hI hK hys hlen
    simp only [Exit.inBlock, Exit.then]
    go_wp2_with fail
    refine leaves_marks [D] W HM.out (fun w' hk => ⟨_, results_tmp rfl _ _ _, ?_⟩)
    exact ⟨rfl, HW.out.trans hk.1⟩
  case stop =>
    rintro D c pre W _ _ h _
    exact h.elim
end Go.Proofs.YtdlaphlpimlgdaaGreatDoor
/- The planner: the place of some starts, who was jacked, what it costs. -/
namespace Go.Proofs.YtdlaphlpimlgdaaGreatDoor
open Go.RowKit Go.Shelf
attribute [local go_sem] Oper.semAt_some

theorem four_new (w : World) (o1 o2 o3 o4 : Obj) : ((((w.alloc o1).alloc o2).alloc o3).alloc o4).heap[w.heap.size]? = some o1 ∧ ((((w.alloc o1).alloc o2).alloc o3).alloc o4).heap[w.heap.size + 1]? = some o2 ∧ ((((w.alloc o1).alloc o2).alloc o3).alloc o4).heap[w.heap.size + 1 + 1]? = some o3 ∧ ((((w.alloc o1).alloc o2).alloc o3).alloc o4).heap[w.heap.size + 1 + 1 + 1]? = some o4 ∧ Below w.heap.size w ((((w.alloc o1).alloc o2).alloc o3).alloc o4) := by
  obtain ⟨z0, z1, z2, hb⟩ := three_new w o1 o2 o3
  have h2 := (Below.refl (((w.alloc o1).alloc o2).alloc o3).heap.size (((w.alloc o1).alloc o2).alloc o3)).alloc (Nat.le_refl _) o4
  have z3 := heap_alloc_last (((w.alloc o1).alloc o2).alloc o3) o4
  rw [show (((w.alloc o1).alloc o2).alloc o3).heap.size = w.heap.size + 1 + 1 + 1 by simp] at z3
  exact ⟨(h2.block _ (Array.getElem?_eq_some_iff.1 z0).1).trans z0, (h2.block _ (Array.getElem?_eq_some_iff.1 z1).1).trans z1, (h2.block _ (Array.getElem?_eq_some_iff.1 z2).1).trans z2, z3, hb.trans (h2.mono hb.size)⟩
def plaS (ss : List Int) (y : Nat) (a : Int) (i : Nat) : Int := a * ((y : Int) + 1) + ss.getD i 0
def plaI (ss : List Int) (s : Int) (y : Nat) : Int := (pilL s).foldl (plaS ss y) 0
theorem pla_go {ss : List Int} {y : Nat} (hs : ∀ i, 0 ≤ ss.getD i 0 ∧ ss.getD i 0 ≤ (y : Int)) : ∀ (xs : List Nat) (A : Int) (M : Nat), 0 ≤ A → A + 1 ≤ (M : Int) → 0 ≤ xs.foldl (plaS ss y) A ∧ xs.foldl (plaS ss y) A + 1 ≤ ((M * (y + 1) ^ xs.length : Nat) : Int)
  | [], A, M, h1, h2 => by simpa using ⟨h1, h2⟩
  | x :: xs, A, M, h1, h2 => by
    have h3 := hs x
    have hy : (0 : Int) ≤ ((y + 1 : Nat) : Int) := by omega
    have h4 : (A + 1) * ((y + 1 : Nat) : Int) ≤ (M : Int) * ((y + 1 : Nat) : Int) := Int.mul_le_mul_of_nonneg_right h2 hy
    have h5 : 0 ≤ A * ((y + 1 : Nat) : Int) := Int.mul_nonneg h1 hy
    rw [Int.add_mul] at h4
    have h6 : ((y + 1 : Nat) : Int) = (y : Int) + 1 := rfl
    have h7 : ((M * (y + 1) : Nat) : Int) = (M : Int) * ((y + 1 : Nat) : Int) := Int.natCast_mul ..
    rw [h6] at h4 h5 h7
    have := pla_go hs xs (plaS ss y A x) (M * (y + 1)) (by unfold plaS; omega) (by unfold plaS; rw [h7]; omega)
    rw [List.length_cons, Nat.pow_succ, Nat.mul_comm ((y + 1) ^ xs.length), ← Nat.mul_assoc]
    exact this
theorem pla_bd {ss : List Int} {y : Nat} (hs : ∀ i, 0 ≤ ss.getD i 0 ∧ ss.getD i 0 ≤ (y : Int)) (xs : List Nat) : 0 ≤ xs.foldl (plaS ss y) 0 ∧ xs.foldl (plaS ss y) 0 + 1 ≤ (((y + 1) ^ xs.length : Nat) : Int) := by
  have := pla_go hs xs 0 1 (Int.le_refl _) (by omega)
  rwa [Nat.one_mul] at this
set_option maxRecDepth 100000 in
set_option maxHeartbeats 2000000 in
theorem place_any (ss : List Int) (h6 : ss.length = 6) (s : Int) (y : Nat) (hy : y ≤ 9) (hs : ∀ i, 0 ≤ ss.getD i 0 ∧ ss.getD i 0 ≤ (y : Int)) (w : World) :
    Calls Tryz.prog 144 #[.agg (iV ss), .int .i64 s, .int .i64 (y : Int)] w fun e w' => e = .returned (.int .i64 (plaI ss s y)) ∧ Below w.heap.size w w' := by
  obtain ⟨z0, z1, z2, z3, hb⟩ := four_new w (.cells (iV ss) 192) (.cells #[.int .i64 (y : Int)] 3) (.cells #[.int .i64 0] 3) (.cells #[.int .i64 s] 3)
  have HI : Hid (BkI w.heap.size w [(w.heap.size, iV ss, 192), (w.heap.size + 1, #[.int .i64 (y : Int)], 3)] (w.heap.size + 1 + 1) #[.int .i64 0] 3 ((((w.alloc (.cells (iV ss) 192)).alloc (.cells #[.int .i64 (y : Int)] 3)).alloc (.cells #[.int .i64 0] 3)).alloc (.cells #[.int .i64 s] 3))) :=
    Lib.hid ⟨hb, fun x hx => by
      rcases List.mem_cons.1 hx with rfl | hx
      · exact z0
      · rw [List.mem_singleton.1 hx]; exact z1, z2⟩
  have HSZ : Hid (w.heap.size + 1 + 1 + 1 < ((((w.alloc (.cells (iV ss) 192)).alloc (.cells #[.int .i64 (y : Int)] 3)).alloc (.cells #[.int .i64 0] 3)).alloc (.cells #[.int .i64 s] 3)).heap.size) := Lib.hid (heapsz z3)
  have HCB : Hid (((((w.alloc (.cells (iV ss) 192)).alloc (.cells #[.int .i64 (y : Int)] 3)).alloc (.cells #[.int .i64 0] 3)).alloc (.cells #[.int .i64 s] 3)).cell? ⟨w.heap.size + 1 + 1 + 1, 0, none⟩ = some (.int .i64 s)) := Lib.hid (cell_of_row _ (w.heap.size + 1 + 1 + 1) 0 _ 3 (0, 0) z3)
  clear z0 z1 z2 z3 hb
  refine callsIn_wide.1 (callsIn_of_wp_marks (n := 5) Tryz.func144 rfl trivial (wpIn_wide.2 ?_) rfl)
  simp only [Tryz.ntmps144, List.size_toArray, List.length_cons, List.length_nil, Nat.reduceAdd, Nat.reduceSub, Array.replicate_succ, Array.replicate_zero, List.push_toArray, List.append_toArray, List.nil_append, List.cons_append]
  go_wp2_with (first
    | (go_at_call 114; refine (pilesOf_any _ _).mono ?_; rintro e w' ⟨rfl, rfl⟩)
    | fail)
  generalize (((w.alloc (.cells (iV ss) 192)).alloc (.cells #[.int .i64 (y : Int)] 3)).alloc (.cells #[.int .i64 0] 3)).alloc (.cells #[.int .i64 s] 3) = w5 at *
  have fol : Tryz.prog.follows Departure.mixedOrders = true := by kernel_rfl
  refine (wpIn_wide (n := 3)).1 ?_
  refine wpIn_rangeFunc_ownF rfl (by decide) (gf := 129) (lb := #[.pointer (some ⟨w.heap.size + 1 + 1 + 1, 0, none⟩)]) rfl trivial (enters_of Tryz.func129 (by kernel_rfl) rfl)
    (piles_stops (3 - 1) (by decide) (w.heap.size + 1 + 1 + 1) w.heap.size s w5 HSZ.out HCB.out)
    kpB_t (kpB_b (by have := HSZ.out; omega) HSZ.out) (Below.refl _ _) (fun _ => rfl)
    (fun pre W => BkI w.heap.size w [(w.heap.size, iV ss, 192), (w.heap.size + 1, #[.int .i64 (y : Int)], 3)] (w.heap.size + 1 + 1) #[.int .i64 ((pre.map Subtype.val).foldl (plaS ss y) 0)] 3 W)
    (fun _ _ _ => False)
    (fun pre A B row hs hg hr => hs.own (N := w5.heap.size) (by have := HSZ.out; omega) (by have := heapsz hs.blk; omega) hg hr)
    (fun _ _ _ _ _ hs _ _ => hs)
    (show BkI _ _ _ _ _ _ _ from HI.out)
    (fun x => { tmps := List.toArray ((Value.agg (iV ss)) :: (Value.int .i64 s) :: (Value.int .i64 (y : Int)) :: (Value.pointer (some ⟨w.heap.size, 0, none⟩)) :: undef :: (Value.pointer (some ⟨w.heap.size + 1, 0, none⟩)) :: (Value.int .i64 0) :: (Value.pointer (some ⟨w.heap.size + 1 + 1, 0, none⟩)) :: (Value.int .i64 (x.1 : Int)) :: (Value.int .i64 s) :: (Value.func (.func 129) #[] #[.pointer (some ⟨w.heap.size + 1 + 1 + 1, 0, none⟩)]) :: (Value.int .i64 (x.1 : Int)) :: undef :: undef :: undef :: undef :: undef :: undef :: undef :: undef :: undef :: []), defers := [] }) ?assign ?body ?done ?stop
  case assign =>
    intro l x W K hK
    gi_wp2
    exact hK
  case body =>
    rintro l pre ⟨x, hx6, hxj⟩ W hI hlen
    have HI5 := Lib.hid hI
    have hb := pla_bd hs (pre.map Subtype.val)
    have hb2 := pla_bd hs ((pre.map Subtype.val) ++ [x])
    rw [List.length_append, List.length_map] at hb2
    have h0 : ((y + 1) ^ (pre.length + 1) : Nat) ≤ 1000000 := pow_b6 hy (by omega)
    have hb3 : 0 ≤ ((pre.map Subtype.val) ++ [x]).foldl (plaS ss y) 0 ∧ ((pre.map Subtype.val) ++ [x]).foldl (plaS ss y) 0 ≤ 1000000 := ⟨hb2.1, by
      have h4 : (((y + 1) ^ (pre.length + 1) : Nat) : Int) ≤ 1000000 := Int.ofNat_le.2 h0
      have h5 := hb2.2
      simp only [List.length_singleton] at h5
      omega⟩
    rw [List.foldl_append] at hb3
    simp only [List.foldl_cons, List.foldl_nil] at hb3
    have HE : Hid (((pre ++ [(⟨x, hx6, hxj⟩ : PX s)]).map Subtype.val).foldl (plaS ss y) 0 = plaS ss y ((pre.map Subtype.val).foldl (plaS ss y) 0) x) := Lib.hid (by rw [List.map_append, List.foldl_append]; rfl)
    obtain ⟨A, hA⟩ : ∃ z, (pre.map Subtype.val).foldl (plaS ss y) 0 = z := ⟨_, rfl⟩
    have hsx := hs x
    obtain ⟨S, hS⟩ : ∃ z, ss.getD x 0 = z := ⟨_, rfl⟩
    have hgx : ss[x]? = some S := by
      obtain ⟨v, hv⟩ := get_of_lt (l := ss) (k := x) (by rw [h6]; omega)
      rw [List.getD_eq_getElem?_getD, hv] at hS
      rw [hv, ← hS]; rfl
    rw [hA] at HE HI5 hI hb hb3
    have HE2 : Hid (plaS ss y A x = A * ((y : Int) + 1) + S) := Lib.hid (by rw [← hS]; rfl)
    unfold plaS at hb3
    rw [hS] at hsx hb3
    have hy9 : (0 : Int) ≤ (y : Int) ∧ (y : Int) ≤ 9 := by omega
    have hm0 : 0 ≤ A * ((y : Int) + 1) := Int.mul_nonneg hb.1 (by omega)
    have y1 : Value.int .i64 (wrap64 ((y : Int) + 1)) = Value.int .i64 ((y : Int) + 1) := by congr 1; exact w64 (by omega)
    have HW1 : Hid (wrap64 (wrap64 (A * ((y : Int) + 1)) + S) = A * ((y : Int) + 1) + S) := Lib.hid (by rw [w64 (show -9223372036854775808 ≤ A * ((y : Int) + 1) ∧ A * ((y : Int) + 1) ≤ 9223372036854775807 by omega)]; exact w64 (by omega))
    have m1 : Value.int .i64 (wrap64 (A * ((y : Int) + 1))) = Value.int .i64 (A * ((y : Int) + 1)) := by congr 1; exact w64 (by omega)
    have m2 : Value.int .i64 (wrap64 (A * ((y : Int) + 1) + S)) = Value.int .i64 (A * ((y : Int) + 1) + S) := by congr 1; exact w64 (by omega)
    have a0 := cell_of_row W w.heap.size x _ 192 (0, 0) (hI.fix _ List.mem_cons_self)
    have a1 := cell_of_row W (w.heap.size + 1) 0 _ 3 (0, 0) (hI.fix _ (List.mem_cons_of_mem _ List.mem_cons_self))
    have a2 := cell_of_row W (w.heap.size + 1 + 1) 0 _ 3 (0, 0) hI.blk
    rw [iV_get hgx] at a0
    simp at a1 a2
    have f2 : W.frozen? ⟨w.heap.size + 1 + 1, 0, none⟩ = false := by simp [World.frozen?, hI.blk]
    have x6 : (x : Int) < 6 := by omega
    have x0 : (0 : Int) ≤ (x : Int) := by omega
    clear hI hA hS hgx hb hb2 hb3 h0 hm0
    dsimp only
    gi_wp2
    refine wpIn_round_still_tail 8 fol (by kernel_rfl) (by kernel_rfl) (by rintro ⟨_, _, hq⟩; exact hq) ?_
    simp only [List.take_succ_cons, List.take_zero, List.drop_succ_cons, List.drop_zero]
    repeat still_step
    refine wpStill_nil ?_
    go_wp2
    gi_wp2
    have HN := (HI5.out.set (by omega) (fun x hx => by
      rcases List.mem_cons.1 hx with rfl | hx
      · exact Nat.ne_of_lt (by omega)
      · rw [List.mem_singleton.1 hx]; exact Nat.ne_of_lt (by omega)) 0 (.int .i64 (A * ((y : Int) + 1) + S))).drew
    refine ⟨(KeepsOthers.setCell _ _ _).trans (KeepsOthers.drew _), ⟨((Below.refl _ _).setCell (p := ⟨w.heap.size + 1 + 1, 0, none⟩) (by simp; omega) _).drew, World.cell?_setCell_other W _ _ _ (fun e => by injection e with e; omega)⟩, ?_⟩
    show BkI _ _ _ _ #[.int .i64 (((pre ++ [(⟨x, hx6, hxj⟩ : PX s)]).map Subtype.val).foldl (plaS ss y) 0)] _ _
    rw [HE.out, HE2.out, HW1.out]
    exact HN
  case done =>
    rintro D ys W hD hys hI hK
    rw [hys] at hI
    have a1 := cell_of_row W (w.heap.size + 1 + 1) 0 _ 3 (0, 0) hI.blk
    simp at a1
    have HW := Lib.hid hI.bel
    have HM : Hid (Marks W w.heap.size [D]) := Lib.hid ⟨by simp, fun E hE => by rw [List.mem_singleton.1 hE]; exact ⟨by have := HSZ.out; omega, hK⟩⟩
    clear hI hK hys
    simp only [Exit.inBlock, Exit.then]
    go_wp2_with fail
    refine leaves_marks [D] W HM.out (fun w' hk => ⟨_, results_tmp rfl _ _ _, ?_⟩)
    exact ⟨rfl, HW.out.trans hk.1⟩
  case stop =>
    rintro D c pre W _ _ h _
    exact h.elim
end Go.Proofs.YtdlaphlpimlgdaaGreatDoor
/- The planner: who was jacked, what it costs. -/
namespace Go.Proofs.YtdlaphlpimlgdaaGreatDoor
open Go.RowKit Go.Shelf
attribute [local go_sem] Oper.semAt_some

def jakF (y : Nat) (h : List Int) (i : Nat) : List Int := h.set i (y : Int)
def jakL (ss : List Int) (s : Int) (y : Nat) : List Int := (pilL s).foldl (jakF y) ss
theorem jak_len (y : Nat) : ∀ (xs : List Nat) (ss : List Int), (xs.foldl (jakF y) ss).length = ss.length
  | [], _ => rfl
  | x :: xs, ss => by rw [List.foldl_cons, jak_len y xs]; simp [jakF]
theorem iV_set (xs : List Int) (i : Nat) (v : Int) : (iV xs).setIfInBounds i (.int .i64 v) = iV (xs.set i v) := by
  unfold iV
  rw [List.map_set]
  simp
theorem six_list {xs : List Int} (h : xs.length = 6) : ∃ a b c d e f, xs = [a, b, c, d, e, f] := by
  match xs, h with
  | [a, b, c, d, e, f], _ => exact ⟨a, b, c, d, e, f, rfl⟩
set_option maxRecDepth 100000 in
set_option maxHeartbeats 2000000 in
theorem jacked_any (a b c d e f : Int) (s : Int) (y : Nat) (w : World) :
    Calls Tryz.prog 143 #[.agg #[.int .i64 a, .int .i64 b, .int .i64 c, .int .i64 d, .int .i64 e, .int .i64 f], .int .i64 s, .int .i64 (y : Int)] w fun e' w' => e' = .returned (.agg (iV (jakL [a, b, c, d, e, f] s y))) ∧ Below w.heap.size w w' := by
  obtain ⟨z0, z1, z2, z3, hb⟩ := four_new w (.cells #[.int .i64 a, .int .i64 b, .int .i64 c, .int .i64 d, .int .i64 e, .int .i64 f] 192) (.cells #[.int .i64 (y : Int)] 3) (.cells #[.int .i64 0, .int .i64 0, .int .i64 0, .int .i64 0, .int .i64 0, .int .i64 0] 192) (.cells #[.int .i64 s] 3)
  obtain ⟨ZZ, hZZ⟩ : ∃ z : Array Value, #[Value.int .i64 0, .int .i64 0, .int .i64 0, .int .i64 0, .int .i64 0, .int .i64 0] = z := ⟨_, rfl⟩
  have HI : Hid (BkI w.heap.size w [(w.heap.size + 1, #[.int .i64 (y : Int)], 3), (w.heap.size + 1 + 1, ZZ, 192)] w.heap.size (iV [a, b, c, d, e, f]) 192 ((((w.alloc (.cells #[.int .i64 a, .int .i64 b, .int .i64 c, .int .i64 d, .int .i64 e, .int .i64 f] 192)).alloc (.cells #[.int .i64 (y : Int)] 3)).alloc (.cells #[.int .i64 0, .int .i64 0, .int .i64 0, .int .i64 0, .int .i64 0, .int .i64 0] 192)).alloc (.cells #[.int .i64 s] 3))) :=
    Lib.hid ⟨hb, fun x hx => by
      rcases List.mem_cons.1 hx with rfl | hx
      · exact z1
      · rw [List.mem_singleton.1 hx, ← hZZ]; exact z2, z0⟩
  have HZZ := Lib.hid hZZ
  have HSZ : Hid (w.heap.size + 1 + 1 + 1 < ((((w.alloc (.cells #[.int .i64 a, .int .i64 b, .int .i64 c, .int .i64 d, .int .i64 e, .int .i64 f] 192)).alloc (.cells #[.int .i64 (y : Int)] 3)).alloc (.cells #[.int .i64 0, .int .i64 0, .int .i64 0, .int .i64 0, .int .i64 0, .int .i64 0] 192)).alloc (.cells #[.int .i64 s] 3)).heap.size) := Lib.hid (heapsz z3)
  have HCB : Hid (((((w.alloc (.cells #[.int .i64 a, .int .i64 b, .int .i64 c, .int .i64 d, .int .i64 e, .int .i64 f] 192)).alloc (.cells #[.int .i64 (y : Int)] 3)).alloc (.cells #[.int .i64 0, .int .i64 0, .int .i64 0, .int .i64 0, .int .i64 0, .int .i64 0] 192)).alloc (.cells #[.int .i64 s] 3)).cell? ⟨w.heap.size + 1 + 1 + 1, 0, none⟩ = some (.int .i64 s)) := Lib.hid (cell_of_row _ (w.heap.size + 1 + 1 + 1) 0 _ 3 (0, 0) z3)
  clear z0 z1 z2 z3 hb hZZ
  refine callsIn_wide.1 (callsIn_of_wp_marks (n := 5) Tryz.func143 rfl trivial (wpIn_wide.2 ?_) rfl)
  simp only [Tryz.ntmps143, List.size_toArray, List.length_cons, List.length_nil, Nat.reduceAdd, Nat.reduceSub, Array.replicate_succ, Array.replicate_zero, List.push_toArray, List.append_toArray, List.nil_append, List.cons_append]
  go_wp2_with (first
    | (go_at_call 114; refine (pilesOf_any _ _).mono ?_; rintro e w' ⟨rfl, rfl⟩)
    | fail)
  generalize (((w.alloc (.cells #[.int .i64 a, .int .i64 b, .int .i64 c, .int .i64 d, .int .i64 e, .int .i64 f] 192)).alloc (.cells #[.int .i64 (y : Int)] 3)).alloc (.cells #[.int .i64 0, .int .i64 0, .int .i64 0, .int .i64 0, .int .i64 0, .int .i64 0] 192)).alloc (.cells #[.int .i64 s] 3) = w5 at *
  obtain ⟨ss, hss⟩ : ∃ z, [a, b, c, d, e, f] = z := ⟨_, rfl⟩
  have h6 : ss.length = 6 := by rw [← hss]; rfl
  rw [hss] at HI
  have HSS := Lib.hid hss
  have GO : ∀ v, v = jakL ss s y → v = jakL [a, b, c, d, e, f] s y := fun v h => by rw [h, HSS.out]
  clear hss
  refine (wpIn_wide (n := 3)).1 ?_
  refine wpIn_rangeFunc_ownF rfl (by decide) (gf := 129) (lb := #[.pointer (some ⟨w.heap.size + 1 + 1 + 1, 0, none⟩)]) rfl trivial (enters_of Tryz.func129 (by kernel_rfl) rfl)
    (piles_stops (3 - 1) (by decide) (w.heap.size + 1 + 1 + 1) w.heap.size s w5 HSZ.out HCB.out)
    kpB_t (kpB_b (by have := HSZ.out; omega) HSZ.out) (Below.refl _ _) (fun _ => rfl)
    (fun pre W => BkI w.heap.size w [(w.heap.size + 1, #[.int .i64 (y : Int)], 3), (w.heap.size + 1 + 1, ZZ, 192)] w.heap.size (iV ((pre.map Subtype.val).foldl (jakF y) ss)) 192 W)
    (fun _ _ _ => False)
    (fun pre A B row hs hg hr => hs.own (N := w5.heap.size) (by have := HSZ.out; omega) (by have := heapsz hs.blk; omega) hg hr)
    (fun _ _ _ _ _ hs _ _ => hs)
    (show BkI _ _ _ _ _ _ _ from HI.out)
    (fun x => { tmps := List.toArray ((Value.agg #[.int .i64 a, .int .i64 b, .int .i64 c, .int .i64 d, .int .i64 e, .int .i64 f]) :: (Value.int .i64 s) :: (Value.int .i64 (y : Int)) :: (Value.pointer (some ⟨w.heap.size, 0, none⟩)) :: undef :: (Value.pointer (some ⟨w.heap.size + 1, 0, none⟩)) :: (Value.pointer (some ⟨w.heap.size + 1 + 1, 0, none⟩)) :: (Value.int .i64 (x.1 : Int)) :: (Value.int .i64 s) :: (Value.func (.func 129) #[] #[.pointer (some ⟨w.heap.size + 1 + 1 + 1, 0, none⟩)]) :: (Value.int .i64 (x.1 : Int)) :: undef :: undef :: undef :: undef :: []), defers := [] }) ?assign ?body ?done ?stop
  case assign =>
    intro l x W K hK
    gi_wp2
    exact hK
  case body =>
    rintro l pre ⟨x, hx6, hxj⟩ W hI hlen
    have HI5 := Lib.hid hI
    have HE : Hid (((pre ++ [(⟨x, hx6, hxj⟩ : PX s)]).map Subtype.val).foldl (jakF y) ss = ((pre.map Subtype.val).foldl (jakF y) ss).set x (y : Int)) := Lib.hid (by rw [List.map_append, List.foldl_append]; rfl)
    have hL := jak_len y (pre.map Subtype.val) ss
    obtain ⟨A, hA⟩ : ∃ z, (pre.map Subtype.val).foldl (jakF y) ss = z := ⟨_, rfl⟩
    rw [hA] at HE HI5 hI hL
    obtain ⟨S, hS⟩ := get_of_lt (l := A) (k := x) (by rw [hL, h6]; omega)
    have a0 := cell_of_row W w.heap.size x _ 192 (0, 0) hI.blk
    have a1 := cell_of_row W (w.heap.size + 1) 0 _ 3 (0, 0) (hI.fix _ List.mem_cons_self)
    rw [iV_get hS] at a0
    simp at a1
    have f2 : W.frozen? ⟨w.heap.size, x, none⟩ = false := by simp [World.frozen?, hI.blk]
    have x6 : (x : Int) < 6 := by omega
    have x0 : (0 : Int) ≤ (x : Int) := by omega
    clear hI hA hS hL
    dsimp only
    gi_wp2
    have HN := HI5.out.set (Nat.le_refl _) (fun z hz => by
      rcases List.mem_cons.1 hz with rfl | hz
      · exact Nat.ne_of_gt (by omega)
      · rw [List.mem_singleton.1 hz]; exact Nat.ne_of_gt (by omega)) x (.int .i64 (y : Int))
    rw [iV_set, ← HE.out] at HN
    exact ⟨KeepsOthers.setCell _ _ _, ⟨(Below.refl _ _).setCell (p := ⟨w.heap.size, x, none⟩) (Nat.le_refl _) _, World.cell?_setCell_other W _ _ _ (fun e => by injection e with e; omega)⟩, HN⟩
  case done =>
    rintro D ys W hD hys hI hK
    rw [hys] at hI
    have hL := jak_len y (pilL s) ss
    obtain ⟨a', b', c', d', e', f', h7⟩ := six_list (hL.trans h6)
    rw [h7] at hI
    have HR : Hid (iV (jakL [a, b, c, d, e, f] s y) = #[.int .i64 a', .int .i64 b', .int .i64 c', .int .i64 d', .int .i64 e', .int .i64 f']) := Lib.hid (by
      rw [← GO _ rfl]; unfold jakL; rw [h7]; rfl)
    have z2 := hI.fix _ (List.mem_cons_of_mem _ List.mem_cons_self)
    rw [← HZZ.out] at z2
    simp only at z2
    have Q (j : Nat) : W.cell? ⟨w.heap.size, j, none⟩ = #[Value.int .i64 a', .int .i64 b', .int .i64 c', .int .i64 d', .int .i64 e', .int .i64 f'][j]? := cell_of_row W w.heap.size j _ 192 (0, 0) hI.blk
    have q0 : W.cell? ⟨w.heap.size, 0, none⟩ = some (.int .i64 a') := Q 0
    have q1 : W.cell? ⟨w.heap.size, 1, none⟩ = some (.int .i64 b') := Q 1
    have q2 : W.cell? ⟨w.heap.size, 2, none⟩ = some (.int .i64 c') := Q 2
    have q3 : W.cell? ⟨w.heap.size, 3, none⟩ = some (.int .i64 d') := Q 3
    have q4 : W.cell? ⟨w.heap.size, 4, none⟩ = some (.int .i64 e') := Q 4
    have q5 : W.cell? ⟨w.heap.size, 5, none⟩ = some (.int .i64 f') := Q 5
    have Z (j : Nat) : W.cell? ⟨w.heap.size + 1 + 1, j, none⟩ = #[Value.int .i64 0, .int .i64 0, .int .i64 0, .int .i64 0, .int .i64 0, .int .i64 0][j]? := cell_of_row W (w.heap.size + 1 + 1) j _ 192 (0, 0) z2
    have r0 : W.cell? ⟨w.heap.size + 1 + 1, 0, none⟩ = some (.int .i64 0) := Z 0
    have r1 : W.cell? ⟨w.heap.size + 1 + 1, 1, none⟩ = some (.int .i64 0) := Z 1
    have r2 : W.cell? ⟨w.heap.size + 1 + 1, 2, none⟩ = some (.int .i64 0) := Z 2
    have r3 : W.cell? ⟨w.heap.size + 1 + 1, 3, none⟩ = some (.int .i64 0) := Z 3
    have r4 : W.cell? ⟨w.heap.size + 1 + 1, 4, none⟩ = some (.int .i64 0) := Z 4
    have r5 : W.cell? ⟨w.heap.size + 1 + 1, 5, none⟩ = some (.int .i64 0) := Z 5
    have fz : ∀ j, W.frozen? ⟨w.heap.size + 1 + 1, j, none⟩ = false := fun j => by simp [World.frozen?, z2]
    have fz0 := fz 0; have fz1 := fz 1; have fz2 := fz 2; have fz3 := fz 3; have fz4 := fz 4; have fz5 := fz 5
    have HF := Lib.hid (blk_set (blk_set (blk_set (blk_set (blk_set (blk_set z2 0 (.int .i64 a')) 1 (.int .i64 b')) 2 (.int .i64 c')) 3 (.int .i64 d')) 4 (.int .i64 e')) 5 (.int .i64 f'))
    have HW : Hid (Below w.heap.size w ((((((W.setCell ⟨w.heap.size + 1 + 1, 0, none⟩ (.int .i64 a')).setCell ⟨w.heap.size + 1 + 1, 1, none⟩ (.int .i64 b')).setCell ⟨w.heap.size + 1 + 1, 2, none⟩ (.int .i64 c')).setCell ⟨w.heap.size + 1 + 1, 3, none⟩ (.int .i64 d')).setCell ⟨w.heap.size + 1 + 1, 4, none⟩ (.int .i64 e')).setCell ⟨w.heap.size + 1 + 1, 5, none⟩ (.int .i64 f'))) :=
      Lib.hid ((((((hI.bel.setCell (p := ⟨w.heap.size + 1 + 1, 0, none⟩) (by simp; omega) _).setCell (p := ⟨w.heap.size + 1 + 1, 1, none⟩) (by simp; omega) _).setCell (p := ⟨w.heap.size + 1 + 1, 2, none⟩) (by simp; omega) _).setCell (p := ⟨w.heap.size + 1 + 1, 3, none⟩) (by simp; omega) _).setCell (p := ⟨w.heap.size + 1 + 1, 4, none⟩) (by simp; omega) _).setCell (p := ⟨w.heap.size + 1 + 1, 5, none⟩) (by simp; omega) _)
    have HD := Lib.hid hD
    have HK6 : Hid (((((((W.setCell ⟨w.heap.size + 1 + 1, 0, none⟩ (.int .i64 a')).setCell ⟨w.heap.size + 1 + 1, 1, none⟩ (.int .i64 b')).setCell ⟨w.heap.size + 1 + 1, 2, none⟩ (.int .i64 c')).setCell ⟨w.heap.size + 1 + 1, 3, none⟩ (.int .i64 d')).setCell ⟨w.heap.size + 1 + 1, 4, none⟩ (.int .i64 e')).setCell ⟨w.heap.size + 1 + 1, 5, none⟩ (.int .i64 f')).heap[D]? = some (.deferred (some []))) := by
      have hne : D ≠ w.heap.size + 1 + 1 := by have := HSZ.out; omega
      exact Lib.hid ((Below.heap_setCell _ _ _ _ hne).trans ((Below.heap_setCell _ _ _ _ hne).trans ((Below.heap_setCell _ _ _ _ hne).trans ((Below.heap_setCell _ _ _ _ hne).trans ((Below.heap_setCell _ _ _ _ hne).trans ((Below.heap_setCell _ _ _ _ hne).trans hK))))))
    clear hI hK hys hL h7 Q Z fz z2 hD
    simp only [Exit.inBlock, Exit.then]
    go_wp2_with fail
    clear q0 q1 q2 q3 q4 q5 r0 r1 r2 r3 r4 r5 fz0 fz1 fz2 fz3 fz4 fz5
    refine leaves_marks (B := w.heap.size) [D] _ ⟨by simp, fun E hE => by rw [List.mem_singleton.1 hE]; exact ⟨by have := HSZ.out; have := HD.out; omega, HK6.out⟩⟩ (fun w' hk => ?_)
    have h2 := hk.2 _ _ _ _ HF.out
    have T (j : Nat) := cell_of_row w' (w.heap.size + 1 + 1) j _ 192 (0, 0) h2
    have t0 : w'.cell? ⟨w.heap.size + 1 + 1, 0, none⟩ = some (.int .i64 a') := T 0
    have t1 : w'.cell? ⟨w.heap.size + 1 + 1, 1, none⟩ = some (.int .i64 b') := T 1
    have t2 : w'.cell? ⟨w.heap.size + 1 + 1, 2, none⟩ = some (.int .i64 c') := T 2
    have t3 : w'.cell? ⟨w.heap.size + 1 + 1, 3, none⟩ = some (.int .i64 d') := T 3
    have t4 : w'.cell? ⟨w.heap.size + 1 + 1, 4, none⟩ = some (.int .i64 e') := T 4
    have t5 : w'.cell? ⟨w.heap.size + 1 + 1, 5, none⟩ = some (.int .i64 f') := T 5
    exact ⟨.agg #[.int .i64 a', .int .i64 b', .int .i64 c', .int .i64 d', .int .i64 e', .int .i64 f'], by simp [results, Tryz.results143, go_sem, t0, t1, t2, t3, t4, t5], by rw [HR.out], HW.out.trans hk.1⟩
  case stop =>
    rintro D c pre W _ _ h _
    exact h.elim
end Go.Proofs.YtdlaphlpimlgdaaGreatDoor
/- The planner: what it costs to jack a set of piles. -/
namespace Go.Proofs.YtdlaphlpimlgdaaGreatDoor
open Go.RowKit Go.Shelf
attribute [local go_sem] Oper.semAt_some

def priS (X : Ctx) (a : Int) (i : Nat) : Int := a + (X.pile i).c
def priI (X : Ctx) (s : Int) : Int := (pilL s).foldl (priS X) 0
theorem pri_bd {X : Ctx} (K : X.Ok) : ∀ (xs : List Nat) (A : Int), (∀ x ∈ xs, x < X.np) → 0 ≤ A → 0 ≤ xs.foldl (priS X) A ∧ xs.foldl (priS X) A ≤ A + 1000000 * (xs.length : Int)
  | [], A, _, h => by simpa using h
  | x :: xs, A, hx, h => by
    obtain ⟨_, h5⟩ := K.at_pile (hx x List.mem_cons_self)
    have hc := (pilB_iff.1 h5).2.2.2.2.2
    have := pri_bd K xs (priS X A x) (fun z hz => hx z (List.mem_cons_of_mem _ hz)) (by unfold priS; omega)
    rw [List.foldl_cons]
    unfold priS at this ⊢
    rw [List.length_cons]
    omega
set_option maxRecDepth 100000 in
set_option maxHeartbeats 2000000 in
theorem price_X {X : Ctx} (K : X.Ok) {LL : List (List Sp)} {p : Nat} {A3 : Option Addr} {c3 : Nat} {mv : Value} {w : World} (h : PlAt X LL p A3 c3 mv w) (s : Int) (hs0 : 0 ≤ s) (hs1 : s ≤ (2 ^ X.np : Int) - 1) :
    Calls Tryz.prog 142 #[.pointer (some ⟨p, 0, none⟩), .int .i64 s] w fun e w' => e = .returned (.int .i64 (priI X s)) ∧ Below w.heap.size w w' := by
  obtain ⟨z0, z1, z2, hb⟩ := three_new w (.cells #[.pointer (some ⟨p, 0, none⟩)] 164) (.cells #[.int .i64 0] 3) (.cells #[.int .i64 s] 3)
  have HI : Hid (BkI w.heap.size w [(w.heap.size, #[.pointer (some ⟨p, 0, none⟩)], 164)] (w.heap.size + 1) #[.int .i64 0] 3 (((w.alloc (.cells #[.pointer (some ⟨p, 0, none⟩)] 164)).alloc (.cells #[.int .i64 0] 3)).alloc (.cells #[.int .i64 s] 3))) :=
    Lib.hid ⟨hb, fun x hx => by rw [List.mem_singleton.1 hx]; exact z0, z1⟩
  have HSZ : Hid (w.heap.size + 1 + 1 < (((w.alloc (.cells #[.pointer (some ⟨p, 0, none⟩)] 164)).alloc (.cells #[.int .i64 0] 3)).alloc (.cells #[.int .i64 s] 3)).heap.size) := Lib.hid (heapsz z2)
  have HCB : Hid ((((w.alloc (.cells #[.pointer (some ⟨p, 0, none⟩)] 164)).alloc (.cells #[.int .i64 0] 3)).alloc (.cells #[.int .i64 s] 3)).cell? ⟨w.heap.size + 1 + 1, 0, none⟩ = some (.int .i64 s)) := Lib.hid (cell_of_row _ (w.heap.size + 1 + 1) 0 _ 3 (0, 0) z2)
  have HP := Lib.hid h; have HK := Lib.hid K
  have np6 := K.np6
  clear z0 z1 z2 hb h K
  refine callsIn_wide.1 (callsIn_of_wp_marks (n := 5) Tryz.func142 rfl trivial (wpIn_wide.2 ?_) rfl)
  simp only [Tryz.ntmps142, List.size_toArray, List.length_cons, List.length_nil, Nat.reduceAdd, Nat.reduceSub, Array.replicate_succ, Array.replicate_zero, List.push_toArray, List.append_toArray, List.nil_append, List.cons_append]
  go_wp2_with (first
    | (go_at_call 114; refine (pilesOf_any _ _).mono ?_; rintro e w' ⟨rfl, rfl⟩)
    | fail)
  generalize ((w.alloc (.cells #[.pointer (some ⟨p, 0, none⟩)] 164)).alloc (.cells #[.int .i64 0] 3)).alloc (.cells #[.int .i64 s] 3) = w5 at *
  have fol : Tryz.prog.follows Departure.mixedOrders = true := by kernel_rfl
  refine (wpIn_wide (n := 3)).1 ?_
  refine wpIn_rangeFunc_ownF rfl (by decide) (gf := 129) (lb := #[.pointer (some ⟨w.heap.size + 1 + 1, 0, none⟩)]) rfl trivial (enters_of Tryz.func129 (by kernel_rfl) rfl)
    (piles_stops (3 - 1) (by decide) (w.heap.size + 1 + 1) w.heap.size s w5 HSZ.out HCB.out)
    kpB_t (kpB_b (by have := HSZ.out; omega) HSZ.out) (Below.refl _ _) (fun _ => rfl)
    (fun pre W => BkI w.heap.size w [(w.heap.size, #[.pointer (some ⟨p, 0, none⟩)], 164)] (w.heap.size + 1) #[.int .i64 ((pre.map Subtype.val).foldl (priS X) 0)] 3 W)
    (fun _ _ _ => False)
    (fun pre A B row hs hg hr => hs.own (N := w5.heap.size) (by have := HSZ.out; omega) (by have := heapsz hs.blk; omega) hg hr)
    (fun _ _ _ _ _ hs _ _ => hs)
    (show BkI _ _ _ _ _ _ _ from HI.out)
    (fun x => { tmps := List.toArray ((Value.pointer (some ⟨p, 0, none⟩)) :: (Value.int .i64 s) :: (Value.pointer (some ⟨w.heap.size, 0, none⟩)) :: undef :: (Value.int .i64 0) :: (Value.pointer (some ⟨w.heap.size + 1, 0, none⟩)) :: (Value.int .i64 (x.1 : Int)) :: (Value.int .i64 s) :: (Value.func (.func 129) #[] #[.pointer (some ⟨w.heap.size + 1 + 1, 0, none⟩)]) :: (Value.int .i64 (x.1 : Int)) :: undef :: undef :: undef :: undef :: undef :: undef :: undef :: undef :: undef :: undef :: undef :: undef :: undef :: undef :: undef :: []), defers := [] }) ?assign ?body ?done ?stop
  case assign =>
    intro l x W K hK
    gi_wp2
    exact hK
  case body =>
    rintro l pre ⟨x, hx6, hxj⟩ W hI hlen
    have HI5 := Lib.hid hI
    have hxn := jack_lt hs0 hs1 hxj
    have hpre : ∀ z ∈ pre.map Subtype.val, z < X.np := fun z hz => by
      obtain ⟨⟨k, hk, hkj⟩, _, rfl⟩ := List.mem_map.1 hz
      exact jack_lt hs0 hs1 hkj
    have hb := pri_bd HK.out (pre.map Subtype.val) 0 hpre (Int.le_refl _)
    rw [List.length_map] at hb
    obtain ⟨h4, h5⟩ := HK.out.at_pile hxn
    have hc := (pilB_iff.1 h5).2.2.2.2.2
    have HE : Hid (((pre ++ [(⟨x, hx6, hxj⟩ : PX s)]).map Subtype.val).foldl (priS X) 0 = (pre.map Subtype.val).foldl (priS X) 0 + (X.pile x).c) := Lib.hid (by rw [List.map_append, List.foldl_append]; rfl)
    obtain ⟨A, hA⟩ : ∃ z, (pre.map Subtype.val).foldl (priS X) 0 = z := ⟨_, rfl⟩
    rw [hA] at HE HI5 hI hb
    have hPW := HP.out.up hI.bel
    obtain ⟨p0, _, _⟩ := hPW.cells
    obtain ⟨g0, _⟩ := look_cells hPW.x.g
    obtain ⟨bp, op, hAP, hbp, hcs⟩ := pil_cells hPW.x.P (by intro e; rw [e] at h4; simp at h4)
    have c6 := (hcs x _ h4).2.2.2.2.2.2
    rw [hAP] at g0
    obtain ⟨S, hS⟩ : ∃ z, (X.pile x).c = z := ⟨_, rfl⟩
    rw [hS] at HE hc c6
    have HW1 : Hid (wrap64 (A + S) = A + S) := Lib.hid (w64 (by omega))
    have a0 := cell_of_row W w.heap.size 0 _ 164 (0, 0) (hI.fix _ List.mem_cons_self)
    have a2 := cell_of_row W (w.heap.size + 1) 0 _ 3 (0, 0) hI.blk
    simp at a0 a2
    have f2 : W.frozen? ⟨w.heap.size + 1, 0, none⟩ = false := by simp [World.frozen?, hI.blk]
    have x1 : (x : Int) < (X.np : Int) := by omega
    have x0 : (0 : Int) ≤ (x : Int) := by omega
    clear hI hA hS hb hPW hcs hAP h4 h5 hpre
    dsimp only
    gi_wp2
    refine wpIn_round_still_tail 14 fol (by kernel_rfl) (by kernel_rfl) (by rintro ⟨_, _, hq⟩; exact hq) ?_
    simp only [List.take_succ_cons, List.take_zero, List.drop_succ_cons, List.drop_zero]
    repeat still_step
    refine wpStill_nil ?_
    go_wp2
    gi_wp2
    have HN := (HI5.out.set (by omega) (fun x hx => by rw [List.mem_singleton.1 hx]; exact Nat.ne_of_lt (by omega)) 0 (.int .i64 (A + S))).drew
    refine ⟨(KeepsOthers.setCell _ _ _).trans (KeepsOthers.drew _), ⟨((Below.refl _ _).setCell (p := ⟨w.heap.size + 1, 0, none⟩) (by simp) _).drew, World.cell?_setCell_other W _ _ _ (fun e => by injection e with e; omega)⟩, ?_⟩
    show BkI _ _ _ _ #[.int .i64 (((pre ++ [(⟨x, hx6, hxj⟩ : PX s)]).map Subtype.val).foldl (priS X) 0)] _ _
    rw [HE.out]
    try rw [HW1.out]
    exact HN
  case done =>
    rintro D ys W hD hys hI hK
    rw [hys] at hI
    have a1 := cell_of_row W (w.heap.size + 1) 0 _ 3 (0, 0) hI.blk
    simp at a1
    have HW := Lib.hid hI.bel
    have HM : Hid (Marks W w.heap.size [D]) := Lib.hid ⟨by simp, fun E hE => by rw [List.mem_singleton.1 hE]; exact ⟨by have := HSZ.out; omega, hK⟩⟩
    clear hI hK hys
    simp only [Exit.inBlock, Exit.then]
    go_wp2_with fail
    refine leaves_marks [D] W HM.out (fun w' hk => ⟨_, results_tmp rfl _ _ _, ?_⟩)
    exact ⟨rfl, HW.out.trans hk.1⟩
  case stop =>
    rintro D c pre W _ _ h _
    exact h.elim
end Go.Proofs.YtdlaphlpimlgdaaGreatDoor
