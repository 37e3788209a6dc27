/- The first year whose thaw is deeper than some depth. What a call of follow leaves, for whoever goes on from it. -/
import Derived.Test.YtccekbdhffccdaaDoorN
import Derived.Test.YtccekbdhffccdaaDoorS
import Derived.Test.YtccekbdhffccdaaDoorO
namespace Go.Proofs.YtccekbdhffccdaaDoor
open Go.RowKit Go.Shelf

def firstI (d : Int) : List Int → Nat
  | [] => 0
  | x :: r => if d < x then 0 else firstI d r + 1
theorem first_hit {d : Int} : ∀ {l : List Int} {k : Nat} {x : Int}, l[k]? = some x → (l.take k).all (fun y => decide (y ≤ d)) = true → d < x → firstI d l = k := by
  intro l
  induction l with
  | nil => intro k x hx; simp at hx
  | cons y r ih =>
    intro k x hx ha hd
    cases k with
    | zero => simp at hx; subst hx; simp [firstI, hd]
    | succ k =>
      simp at hx ha
      have := ih hx (by simpa using ha.2) hd
      simp [firstI, this, Int.not_lt.2 ha.1]
theorem first_none {d : Int} : ∀ {l : List Int}, l.all (fun y => decide (y ≤ d)) = true → firstI d l = l.length := by
  intro l
  induction l with
  | nil => intro _; rfl
  | cons y r ih =>
    intro ha
    simp at ha
    simp [firstI, ih (by simpa using ha.2), Int.not_lt.2 ha.1]

/-- A slice that reads as ints. -/
def SlInts (w : World) (v : Value) (xs : List Int) : Prop := ∃ (A : Option Addr) (c : Nat), v = .slice A xs.length c ∧ xs.length ≤ c ∧ IntsAt w w.heap.size A xs
theorem SlInts.next {w w' : World} {v : Value} {xs : List Int} (h : SlInts w v xs) (hb : Below w.heap.size w w') : SlInts w' v xs := by
  obtain ⟨A, c, e, hc, h⟩ := h
  exact ⟨A, c, e, hc, h.next hb⟩
theorem SlInts.of_own {w : World} {base n : Nat} {v : Value} {xs : List Int} (h : w.ownsRow base 3 1 v n (ints xs)) (hn : xs.length = n) : SlInts w v xs := by
  rcases h.2 with ⟨rfl, hz⟩ | ⟨g, cap, cur, rfl, hb, hh, hc, hm, hs, ht⟩
  · have : xs = [] := List.eq_nil_of_length_eq_zero (by omega)
    subst this
    exact ⟨none, 0, rfl, Nat.le_refl _, fun h => absurd rfl h⟩
  · subst hn
    refine ⟨some ⟨g, 0, none⟩, cap, rfl, hc, fun _ => ⟨g, 0, rfl, (Array.getElem?_eq_some_iff.1 hh).1, fun i x hi => ?_⟩⟩
    have h1 := h.cells (g := g) rfl i (.int .i64 x) (by simp [ints, hi])
    have h2 : ((⟨g, 0, none⟩ : Addr).add i) = ⟨g, 0 + i, none⟩ := by unfold Addr.add; split <;> simp [*]
    rw [h2] at h1
    exact h1

set_option maxHeartbeats 1000000 in
theorem first_any (g : Nat) (th : List Int) (tv : Value) (d : Int) (w : World) (hc : w.cell? ⟨g, 13, none⟩ = some tv) (ht : SlInts w tv th) (hn : th.length ≤ 20) :
    Calls Tryd.prog 68 #[.pointer (some ⟨g, 0, none⟩), .int .i64 d] w fun e w' => e = .returned (.int .i64 (firstI d th : Nat)) ∧ w = w' := by
  obtain ⟨A, c, rfl, _, hI⟩ := ht
  obtain ⟨n, hl⟩ : ∃ n, th.length = n := ⟨_, rfl⟩
  rw [hl] at hc hn
  have HL := Lib.hid hl; clear hl
  go_enter Tryd.func68, Tryd.ntmps68
  go_wp2
  go_loop [12] (fun i => ∃ k : Nat, k ≤ n ∧ i = .int .i64 k ∧ (th.take k).all (fun y => decide (y ≤ d)) = true) (fun i => n - (intOf i).toNat)
  case atStart => exact ⟨0, Nat.zero_le _, rfl, by simp⟩
  case round =>
    obtain ⟨k, hk, rfl, ha⟩ := hrel
    have HA := Lib.hid ha; clear ha
    by_cases hlt : k < n
    · obtain ⟨x, hx⟩ := get_of_lt (l := th) (k := k) (by rw [HL.out]; exact hlt)
      obtain ⟨b, o, rfl, hb, hcs⟩ := hI (by intro h; rw [h] at hx; simp at hx)
      have c0 := hcs k x hx
      have HX := Lib.hid hx
      clear hx hcs
      by_cases hd : d < x
      · go_wp2
        go_ret
        exact ⟨ret_int (by rw [first_hit HX.out HA.out hd]), rfl⟩
      · go_wp2
        go_round
        case rel => exact ⟨k + 1, by omega, by go_num, take_succ_all HX.out HA.out (by simp; omega)⟩
        case measure => simp [intOf]; omega
    · go_wp2
      go_ret
      have hn' : k = n := by omega
      exact ⟨ret_int (by rw [first_none (by have := HA.out; rwa [List.take_of_length_le (by rw [HL.out]; omega)] at this), HL.out]), rfl⟩
end Go.Proofs.YtccekbdhffccdaaDoor

namespace Go.Proofs.YtccekbdhffccdaaDoor
open Go.RowKit Go.Shelf

theorem placeB_spec {ls : List Lay} {lo hi : Int} (h : placeB ls lo hi = true) : (1 ≤ ls.length ∧ ls.length ≤ 6) ∧ (0 ≤ lo ∧ lo ≤ hi ∧ hi ≤ 1000000) ∧ ∀ x ∈ ls, (1 ≤ x.t ∧ x.t ≤ 20000) ∧ 1 ≤ x.lo ∧ x.lo ≤ x.hi ∧ x.hi ≤ 1000 := by
  simp only [placeB, Bool.and_eq_true, inB_iff, withinB_iff, List.all_eq_true, layB] at h
  exact ⟨⟨by omega, by omega⟩, h.2.1, h.2.2⟩
theorem yrB_spec {ys : List Yr} (h : ys.all yrB = true) : ∀ y ∈ ys, (0 ≤ y.sl ∧ y.sl ≤ y.sh ∧ y.sh ≤ 1000000) ∧ (0 ≤ y.wl ∧ y.wl ≤ y.wh ∧ y.wh ≤ 1000000) ∧ 0 ≤ y.nl ∧ y.nl ≤ y.nh ∧ y.nh ≤ 1000 := by
  simp only [yrB, Bool.and_eq_true, withinB_iff, List.all_eq_true] at h
  exact h
theorem extT_ok (warm : Bool) {ls : List Lay} {lo hi : Int} {ys : List Yr} (hp : placeB ls lo hi = true) (hy : ys.all yrB = true) : TruOk (extT warm ls lo hi ys) ls.length ys.length := by
  obtain ⟨_, ⟨a1, a2, a3⟩, hl⟩ := placeB_spec hp
  have hq := yrB_spec hy
  refine ⟨by simp [extT], by simp [extT], by simp [extT], by simp [extT], by simp [extT], ?_, ?_, ?_, ?_, ?_⟩ <;> intro x hx <;> simp only [extT, List.mem_map] at hx <;> obtain ⟨y, hm, rfl⟩ := hx
  · have := hl y hm
    cases warm <;> simp <;> omega
  · cases warm <;> simp <;> omega
  · have := hq y hm
    cases warm <;> simp <;> omega
  · have := hq y hm
    cases warm <;> simp <;> omega
  · have := hq y hm
    cases warm <;> simp <;> omega

/-- A pointer to a place that was followed is returned, in which this state is kept. -/
def GotF (w : World) (s : St) (v : Value) (w' : World) : Prop :=
  ∃ (g : Nat) (u0 u1 u2 u3 u4 u5 u6 u7 u8 tv lv : Value), v = .pointer (some ⟨g, 0, none⟩) ∧ FB w' g #[u0, u1, u2, u3, u4, u5, u6, u7, u8, .int .i64 s.R, .int .i64 s.Lf, .int .i64 s.In, .int .i64 s.Out, tv, lv] ∧
    SlInts w' tv s.th ∧ SlInts w' lv s.lf ∧ Below w.heap.size w w'
theorem GotF.next {w w1 w2 : World} {s : St} {v : Value} (h : GotF w s v w1) (hb : Below w1.heap.size w1 w2) : GotF w s v w2 := by
  obtain ⟨g, u0, u1, u2, u3, u4, u5, u6, u7, u8, tv, lv, e, hf, h1, h2, h3⟩ := h
  exact ⟨g, u0, u1, u2, u3, u4, u5, u6, u7, u8, tv, lv, e, hf.next hb, h1.next hb, h2.next hb, h3.trans (hb.mono h3.size)⟩

theorem follow_got (A : Option Addr) (n c : Nat) (ls : List Lay) (t : Tru) (v0 v1 v2 v3 v4 : Value) (lo hi mo : Int) (N : Nat) (w : World) (hl : ls.length = n) (hcap : n ≤ c) (hp : placeB ls lo hi = true) (hL : LaysAt w w.heap.size A ls) (hT : TruOk t n N) (hN : N ≤ 12) (hmo : 0 ≤ mo ∧ mo ≤ 1000000)
    (h0 : SlInts w v0 t.ms) (h1 : SlInts w v1 t.ws) (h2 : SlInts w v2 t.ss) (h3 : SlInts w v3 t.vs) (h4 : SlInts w v4 t.ns) :
    Calls Tryd.prog 55 #[.agg #[.slice A n c, .int .i64 lo, .int .i64 hi], .agg #[v0, v1, v2, v3, v4], .int .i64 mo] w fun e w' => ∃ v, e = .returned v ∧ GotF w (runS ls t mo N) v w' := by
  subst hl
  obtain ⟨⟨p1, p2⟩, _, hx⟩ := placeB_spec hp
  obtain ⟨A0, d0, rfl, _, i0⟩ := h0
  obtain ⟨A1, d1, rfl, _, i1⟩ := h1
  obtain ⟨A2, d2, rfl, _, i2⟩ := h2
  obtain ⟨A3, d3, rfl, _, i3⟩ := h3
  obtain ⟨A4, d4, rfl, _, i4⟩ := h4
  obtain ⟨bl, ol, rfl, hbl, c3⟩ := hL (by intro h; rw [h] at p1; simp at p1)
  obtain ⟨bm, om, rfl, hbm, c4⟩ := i0 (by intro h; have := hT.lm; rw [h] at this; simp at this; omega)
  rw [hT.lm, hT.lw, hT.lS, hT.lv, hT.ln]
  refine (follow_any bl ol c bm om ls.length d0 N d1 d2 d3 d4 A1 A2 A3 A4 ls t lo hi mo w hbl hbm rfl p1 p2 hcap (fun x hm => (hx x hm).1) hT hN hmo c3 c4 i1 i2 i3 i4).mono ?_
  rintro e w' ⟨g, tv, lv, rfl, hf, o1, o2, hb, _⟩
  have hr := runS_b (ls := ls) hT hmo N (Nat.le_refl _)
  exact ⟨_, rfl, g, _, _, _, _, _, _, _, _, _, tv, lv, rfl, hf, SlInts.of_own o1 hr.2.2.2.2.1, SlInts.of_own o2 hr.2.2.2.2.2.1, hb⟩
theorem poss_any (A A2 AM AW AS AV AN : Option Addr) (n c m c' nm cm nw cw ns_ cs nv cv nn cn : Nat) (ls : List Lay) (ys : List Yr) (lo hi : Int) (ms ws ss vs ns : List Int) (w : World) (hl : ls.length = n) (hn : n ≤ 6) (hL : LaysAt w w.heap.size A ls) (hy : ys.length = m) (hm : m ≤ 12) (hY : YrsAt w w.heap.size A2 ys)
    (h1 : ms.length = nm) (g1 : nm ≤ maxLen) (i1 : IntsAt w w.heap.size AM ms) (h2 : ws.length = nw) (g2 : nw ≤ maxLen) (i2 : IntsAt w w.heap.size AW ws) (h3 : ss.length = ns_) (g3 : ns_ ≤ maxLen) (i3 : IntsAt w w.heap.size AS ss) (h4 : vs.length = nv) (g4 : nv ≤ maxLen) (i4 : IntsAt w w.heap.size AV vs) (h5 : ns.length = nn) (g5 : nn ≤ maxLen) (i5 : IntsAt w w.heap.size AN ns) :
    Calls Tryd.prog 61 #[.agg #[.slice A n c, .int .i64 lo, .int .i64 hi], .slice A2 m c', .agg #[.slice AM nm cm, .slice AW nw cw, .slice AS ns_ cs, .slice AV nv cv, .slice AN nn cn]] w fun e w' => e = .returned (.bool (possB ls lo hi ys ms ws ss vs ns)) ∧ Below w.heap.size w w' := by
  cases b1 : allB ms (laySpans ls) with
  | false => exact poss0 A A2 AM AW AS AV AN n c m c' nm cm nw cw ns_ cs nv cv nn cn ls ys lo hi ms ws ss vs ns w hl hn hL hy hm hY h1 g1 i1 h2 g2 i2 h3 g3 i3 h4 g4 i4 h5 g5 i5 b1
  | true => cases b2 : allB ws (warmSpans lo hi ys) with
    | false => exact poss1 A A2 AM AW AS AV AN n c m c' nm cm nw cw ns_ cs nv cv nn cn ls ys lo hi ms ws ss vs ns w hl hn hL hy hm hY h1 g1 i1 h2 g2 i2 h3 g3 i3 h4 g4 i4 h5 g5 i5 b1 b2
    | true => cases b3 : allB ss (sumSpans ys) with
      | false => exact poss2 A A2 AM AW AS AV AN n c m c' nm cm nw cw ns_ cs nv cv nn cn ls ys lo hi ms ws ss vs ns w hl hn hL hy hm hY h1 g1 i1 h2 g2 i2 h3 g3 i3 h4 g4 i4 h5 g5 i5 b1 b2 b3
      | true => cases b4 : allB vs (winSpans ys) with
        | false => exact poss3 A A2 AM AW AS AV AN n c m c' nm cm nw cw ns_ cs nv cv nn cn ls ys lo hi ms ws ss vs ns w hl hn hL hy hm hY h1 g1 i1 h2 g2 i2 h3 g3 i3 h4 g4 i4 h5 g5 i5 b1 b2 b3 b4
        | true => cases b5 : allB ns (snowSpans ys) with
          | false => exact poss4 A A2 AM AW AS AV AN n c m c' nm cm nw cw ns_ cs nv cv nn cn ls ys lo hi ms ws ss vs ns w hl hn hL hy hm hY h1 g1 i1 h2 g2 i2 h3 g3 i3 h4 g4 i4 h5 g5 i5 b1 b2 b3 b4 b5
          | true => exact poss5 A A2 AM AW AS AV AN n c m c' nm cm nw cw ns_ cs nv cv nn cn ls ys lo hi ms ws ss vs ns w hl hn hL hy hm hY h1 g1 i1 h2 g2 i2 h3 g3 i3 h4 g4 i4 h5 g5 i5 b1 b2 b3 b4 b5
end Go.Proofs.YtccekbdhffccdaaDoor
