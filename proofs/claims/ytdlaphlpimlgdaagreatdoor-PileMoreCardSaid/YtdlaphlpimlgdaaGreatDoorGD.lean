/- PileMore: lists of spans that are told by two functions, and the statement where its input is as defined. -/
import Derived.Test.YtdlaphlpimlgdaaGreatDoorGB
namespace Go.Proofs.YtdlaphlpimlgdaaGreatDoor
open Go.RowKit Go.Shelf

theorem own_set {w : World} {base : Nat} {T : TypeId} {k g n cap : Nat} {xs : List Value} {j : Nat} {z : Value} (h : w.ownsRow base T k (.slice (some ⟨g, 0, none⟩) n cap) n xs) (hj : j < xs.length) :
    base ≤ g ∧ g < w.heap.size ∧ (w.cell? ⟨g, j, none⟩ = xs[j]?) ∧ w.frozen? ⟨g, j, none⟩ = false ∧ (w.setCell ⟨g, j, none⟩ z).ownsRow base T k (.slice (some ⟨g, 0, none⟩) n cap) n (xs.set j z) := by
  obtain ⟨hl, hh⟩ := h
  rcases hh with ⟨hv, _⟩ | ⟨g', cap', cur, hv, hb, hg, hn, hc, hs, ht⟩
  · exact absurd hv (by simp)
  · simp only [Value.slice.injEq, Option.some.injEq, Addr.mk.injEq, and_true, true_and] at hv
    obtain ⟨rfl, rfl⟩ := hv
    have hjn : j < n * k := by rw [← hl]; exact hj
    have hz : cur[j]? = xs[j]? := by
      rw [← ht, List.getElem?_take_of_lt hjn, ← Array.getElem?_toList]
    refine ⟨hb, (Array.getElem?_eq_some_iff.1 hg).1, ?_, by simp [World.frozen?, hg], ?_, .inr ⟨g, cap, cur.setIfInBounds j z, rfl, hb, ?_, hn, hc, by simpa using hs, ?_⟩⟩
    · rw [cell_of_row w g j cur T (0, 0) hg, hz]
    · simpa using hl
    · exact blk_set hg j z
    · rw [Array.toList_setIfInBounds, List.take_set, ht]
theorem flat_div {α : Type} {R : α → List Value} {k : Nat} (hk : 0 < k) (hR : ∀ x, (R x).length = k) {row : List α} {i : Nat} {v : Value} (h : (flatR R row)[i]? = some v) : ∃ x, row[i / k]? = some x ∧ (R x)[i % k]? = some v := by
  have hi := (List.getElem?_eq_some_iff.1 h).1
  rw [flatR_len hR] at hi
  have hd : i / k < row.length := Nat.div_lt_of_lt_mul (by rw [Nat.mul_comm]; exact hi)
  obtain ⟨x, hx⟩ := get_of_lt hd
  refine ⟨x, hx, ?_⟩
  have h1 := flat_get hR row (i / k) x (i % k) hx (Nat.mod_lt _ hk)
  rw [show i / k * k + i % k = i by rw [Nat.mul_comm]; exact Nat.div_add_mod i k] at h1
  unfold flatR at h
  rw [← h1]
  exact h
theorem row_flat {α : Type} {R : α → List Value} {k : Nat} (hk : 0 < k) (hR : ∀ x, (R x).length = k) {w : World} {b o : Nat} {row : List α} (h : ∀ (i : Nat) (x : α), row[i]? = some x → ∀ (j : Nat) (v : Value), (R x)[j]? = some v → w.cell? ⟨b, o + i * k + j, none⟩ = some v) (i : Nat) (v : Value) (hv : (flatR R row)[i]? = some v) : w.cell? ((⟨b, o, none⟩ : Addr).add i) = some v := by
  obtain ⟨x, h1, h2⟩ := flat_div hk hR hv
  have h3 := h _ x h1 _ v h2
  have e1 : (⟨b, o, none⟩ : Addr).add i = ⟨b, o + i, none⟩ := by unfold Addr.add; split <;> simp_all
  rw [e1]
  rw [Nat.add_assoc, show i / k * k + i % k = i by rw [Nat.mul_comm]; exact Nat.div_add_mod i k] at h3
  exact h3
end Go.Proofs.YtdlaphlpimlgdaaGreatDoor

namespace Go.Proofs.YtdlaphlpimlgdaaGreatDoor
open Go.RowKit Go.Shelf

def spF (f g : Nat → Nat → Int) (n np : Nat) : List (List Sp) := (List.range n).map fun t => ((List.range np).map (f t)).zip ((List.range np).map (g t))
theorem spF_len (f g : Nat → Nat → Int) (n np : Nat) : (spF f g n np).length = n := by simp [spF]
theorem spF_at {f g : Nat → Nat → Int} {n np t : Nat} (h : t < n) : (spF f g n np)[t]? = some (((List.range np).map (f t)).zip ((List.range np).map (g t))) := by
  unfold spF
  rw [List.getElem?_map, List.getElem?_range h]
  rfl
theorem spR_len (f g : Nat → Int) (np : Nat) : (((List.range np).map f).zip ((List.range np).map g)).length = np := by simp
theorem spR_at {f g : Nat → Int} {np i : Nat} (h : i < np) : (((List.range np).map f).zip ((List.range np).map g))[i]? = some (f i, g i) := by
  rw [List.getElem?_zip_eq_some]
  exact ⟨rowL_at f h, rowL_at g h⟩
theorem spR_eq {f g : Nat → Int} {np i : Nat} {y : Sp} (h : (((List.range np).map f).zip ((List.range np).map g))[i]? = some y) : i < np ∧ y = (f i, g i) := by
  have hi : i < np := by
    have := (List.getElem?_eq_some_iff.1 h).1
    rwa [spR_len] at this
  rw [spR_at hi] at h
  exact ⟨hi, (Option.some.inj h).symm⟩
theorem car_spF (X : Ctx) : zipL X.leastL X.mostL = spF X.leastC X.mostC X.n X.np := by
  apply List.ext_getElem?
  intro t
  unfold zipL Ctx.leastL Ctx.mostL gridL spF
  rw [List.getElem?_zipWith]
  simp only [List.getElem?_map]
  cases (List.range X.n)[t]? <;> rfl
theorem lv_spF {X : Ctx} (K : X.Ok) {plan : List Int} (hpl : plan.length = X.n) : spanL X.ps X.rs X.ts plan = spF (lvI X.most plan) (lvI X.least plan) X.n X.np := by
  apply List.ext_getElem?
  intro t
  unfold spanL zipL lvT spF
  rw [List.getElem?_zipWith, K.hp, hpl]
  simp only [List.getElem?_map]
  cases (List.range X.n)[t]? <;> rfl
/-- The second one lies within the first one. -/
theorem spF_in {f g f' g' : Nat → Nat → Int} {n np : Nat} (hnp : np ≤ 6) (h : ∀ t i, t < n → i < np → f t i ≤ f' t i ∧ g' t i ≤ g t i) :
    ∀ (t : Nat) (row : List Sp), (spF f g n np)[t]? = some row → row.length ≤ 1000 ∧ ∃ row', (spF f' g' n np)[t]? = some row' ∧ row'.length = row.length ∧ ∀ (j : Nat) (y z : Sp), row[j]? = some y → row'[j]? = some z → y.1 ≤ z.1 ∧ z.2 ≤ y.2 := by
  intro t row hr
  have ht : t < n := by
    have := (List.getElem?_eq_some_iff.1 hr).1
    rwa [spF_len] at this
  rw [spF_at ht] at hr
  cases hr
  refine ⟨by rw [spR_len]; omega, _, spF_at ht, by rw [spR_len, spR_len], fun j y z hy hz => ?_⟩
  obtain ⟨hj, rfl⟩ := spR_eq hy
  obtain ⟨_, rfl⟩ := spR_eq hz
  exact h t j ht hj
/-- Each end of the one is at most that of the other. -/
theorem spF_le {f g f' g' : Nat → Nat → Int} {n np : Nat} (h : ∀ t i, t < n → i < np → f t i ≤ f' t i ∧ g t i ≤ g' t i) :
    ∀ t, t < n → ∃ rx ry, (spF f g n np)[t]? = some rx ∧ (spF f' g' n np)[t]? = some ry ∧ rx.length = np ∧ ry.length = np ∧ ∀ (j : Nat) (x y : Sp), rx[j]? = some x → ry[j]? = some y → x.1 ≤ y.1 ∧ x.2 ≤ y.2 := by
  intro t ht
  refine ⟨_, _, spF_at ht, spF_at ht, spR_len _ _ _, spR_len _ _ _, fun j x y hx hy => ?_⟩
  obtain ⟨hj, rfl⟩ := spR_eq hx
  obtain ⟨_, rfl⟩ := spR_eq hy
  exact h t j ht hj
theorem spF_ge {f g f' g' : Nat → Nat → Int} {n np : Nat} (h : ∀ t i, t < n → i < np → f' t i ≤ f t i ∧ g' t i ≤ g t i) :
    ∀ t, t < n → ∃ rx ry, (spF f g n np)[t]? = some rx ∧ (spF f' g' n np)[t]? = some ry ∧ rx.length = np ∧ ry.length = np ∧ ∀ (j : Nat) (x y : Sp), rx[j]? = some x → ry[j]? = some y → y.1 ≤ x.1 ∧ y.2 ≤ x.2 := by
  intro t ht
  refine ⟨_, _, spF_at ht, spF_at ht, spR_len _ _ _, spR_len _ _ _, fun j x y hx hy => ?_⟩
  obtain ⟨hj, rfl⟩ := spR_eq hx
  obtain ⟨_, rfl⟩ := spR_eq hy
  exact h t j ht hj
theorem most_pos {X : Ctx} (K : X.Ok) (t i : Nat) : 0 ≤ X.most t i := by
  have h := rowI_in K.parts.rs (by rw [K.hr]; exact K.parts.nr6.1) (carI (X.pile i) (X.th t i).2) (X.pile i).h
  unfold Ctx.most
  omega
theorem least_pos {X : Ctx} (K : X.Ok) (t i : Nat) : 0 ≤ X.least t i := by
  have h := rowI_in K.parts.rs (by rw [K.hr]; exact K.parts.nr6.1) (carI (X.pile i) (X.th t i).1) (X.pile i).l
  unfold Ctx.least
  omega
/-- The rows of thaws that are as defined. -/
theorem ok_rows {X : Ctx} (K : X.Ok) : ∀ (t : Nat) (row : List Sp), X.ts[t]? = some row → row.length = X.np ∧ ∀ (i : Nat) (y : Sp), row[i]? = some y → 0 ≤ y.1 ∧ y.1 ≤ y.2 ∧ y.2 ≤ 50000 := by
  intro t row hr
  have ht : t < X.n := by
    have := (List.getElem?_eq_some_iff.1 hr).1
    rwa [K.hl] at this
  have hnp := K.np6.1
  obtain ⟨row', e1, e2, _, _⟩ := K.at_th ht (i := 0) (by omega)
  rw [hr] at e1
  cases e1
  refine ⟨e2, fun i y hy => ?_⟩
  have hi : i < X.np := by
    have := (List.getElem?_eq_some_iff.1 hy).1
    omega
  obtain ⟨row', f1, _, f3, f4⟩ := K.at_th ht hi
  rw [hr] at f1
  cases f1
  rw [hy] at f3
  cases f3
  unfold spB at f4
  rw [withinB_iff] at f4
  omega
theorem mapT_len (g : Sp → Sp) (ts : List (List Sp)) : (mapT g ts).length = ts.length := by unfold mapT; rw [List.length_map]
theorem mapT_rows {X : Ctx} (K : X.Ok) (g : Sp → Sp) : ∀ row ∈ mapT g X.ts, row.length ≤ maxLen := by
  intro row hr
  unfold mapT at hr
  obtain ⟨r, h1, rfl⟩ := List.mem_map.1 hr
  obtain ⟨t, ht⟩ := List.mem_iff_getElem?.1 h1
  have h2 := (ok_rows K t r ht).1
  have h3 := K.np6
  rw [List.length_map]
  unfold maxLen
  omega
theorem mapT_take {g : Sp → Sp} {ts : List (List Sp)} {t : Nat} {row : List Sp} (h : ts[t]? = some row) : (mapT g ts).take (t + 1) = (mapT g ts).take t ++ [row.map g] := by
  unfold mapT
  rw [List.take_add_one, List.getElem?_map, h]
  rfl
theorem withT_in {X : Ctx} {w : World} (h : X.In w) {A : Option Addr} {c : Nat} {g : Sp → Sp} (hT : SpsAt w w.heap.size A (mapT g X.ts)) : (X.withT A c (mapT g X.ts)).In w :=
  ⟨h.hp, h.hq, h.hr, (mapT_len g X.ts).trans h.hl, h.p2, h.q2, h.r2, h.n2, h.P, h.Q, h.R, hT⟩
/-- Row of ints of one's own. -/
theorem flat_ints (l : List Int) : flatR intR l = l.map (Value.int .i64) := by
  unfold flatR intR
  induction l with
  | nil => rfl
  | cons x l ih => simp only [List.map_cons, List.flatten_cons, ih]; rfl
theorem ints_set (l : List Int) (i : Nat) (x : Int) : (flatR intR l).set i (.int .i64 x) = flatR intR (l.set i x) := by
  rw [flat_ints, flat_ints, List.map_set]
end Go.Proofs.YtdlaphlpimlgdaaGreatDoor

namespace Go.Proofs.YtdlaphlpimlgdaaGreatDoor
open Go.RowKit Go.Shelf

theorem plan_set_ok {X : Ctx} (K : X.Ok) {plan : List Int} (h : planI X.sit X.ts plan = 0) {year a : Nat} {s : Int} (hs : plan[year]? = some s) (ha : a < X.np) (hj : jackB s a = false) :
    planI X.sit X.ts (plan.set year (s + 2 ^ a)) = 0 ∧ ∀ t i, i < X.np → jackB (plan.getD t 0) i = true → jackB ((plan.set year (s + 2 ^ a)).getD t 0) i = true := by
  obtain ⟨h1, h2, h3⟩ := planI_0 h
  have n10 := K.n10
  have hp : X.sit.ps.length = X.np := K.hp
  rw [hp] at h3
  obtain ⟨h4, h5⟩ := plan_more K.np6.2 h3 hs ha hj
  refine ⟨?_, h5⟩
  unfold planI
  rw [K.hl] at h2
  have hl : (plan.set year (s + 2 ^ a)).length = X.n := by rw [List.length_set, h2]
  rw [if_neg (by rw [hl, K.hl]; omega), if_pos h1, if_pos ⟨by rw [hl, K.hl], by rw [hp]; exact h4⟩]
theorem plan_at {np : Nat} {plan : List Int} (h : planB np plan = true) (hnp : np ≤ 6) {i : Nat} {s : Int} (hs : plan[i]? = some s) : 0 ≤ s ∧ s ≤ 63 := by
  unfold planB at h
  rw [List.all_eq_true] at h
  have := h s (List.mem_of_getElem? hs)
  rw [inB_iff] at this
  have h64 : (2 : Nat) ^ np ≤ 2 ^ 6 := Nat.pow_le_pow_right (by decide) hnp
  have hcast : ((2 ^ np : Nat) : Int) = (2 : Int) ^ np := by simp
  omega
section
attribute [local irreducible] QT
set_option maxRecDepth 1000000 in
set_option maxHeartbeats 80000000 in
theorem more_good {X : Ctx} {w : World} (h : X.In w) (ht : Tab w) (A2 : Option Addr) (m c2 : Nat) (plan : List Int) (lo hi d yr at_ : Int) (hm : plan.length = m) (hm2 : m ≤ maxLen) (hL : IntsAt w w.heap.size A2 plan)
    (hS : shortB X.np X.nq X.nr X.ts = true) (h0 : planI X.sit X.ts plan = 0) (o1 : 0 ≤ lo) (o2 : lo ≤ hi) (o3 : hi ≤ 100) (o4 : 0 ≤ d) (o5 : d ≤ 50000) :
    Calls Tryz.prog 17 #[X.sv, X.tv, .slice A2 m c2, .int .i64 lo, .int .i64 hi, .int .i64 d, .int .i64 yr, .int .i64 at_] w fun e w' => e = .returned (.bool true) ∧ Below w.heap.size w w' := by
  obtain ⟨z0, hb0⟩ := site_new X w
  have HM := Lib.hid hm; have HM2 := Lib.hid hm2; have HT := Lib.hid ht
  obtain ⟨w1, hw1⟩ : ∃ z, w.alloc (.cells X.cells 26) = z := ⟨_, rfl⟩
  rw [hw1] at z0 hb0
  have HI := Lib.hid (h.up hb0); have HB := Lib.hid hb0; have HL := Lib.hid (RowAt.up (k := 1) (R := intR) hL hb0)
  have Z0 := Lib.hid z0
  obtain ⟨s0, s1, s2, s3, s4, s5⟩ := site_box z0
  have htv : X.tv = .slice X.A X.n X.c := rfl
  rw [htv]
  clear h ht z0 hb0 hm hm2 hL htv
  have HSH := Lib.hid (short_X HI.out)
  rw [hS] at HSH
  have HKN : Hid (∀ u, Below w.heap.size w u → Calls Tryz.prog 19 #[] u fun e w' => e = .returned (.bool true) ∧ Below u.heap.size u w') := Lib.hid fun u hu => known_any u (HT.out.next hu)
  clear hS
  have H0 := Lib.hid h0; clear h0
  have HO := Lib.hid (show 0 ≤ lo ∧ lo ≤ hi ∧ hi ≤ 100 from ⟨o1, o2, o3⟩); have HD := Lib.hid (And.intro o4 o5)
  have q1 : ¬ lo < 0 := by omega
  have q2 : ¬ hi < lo := by omega
  have q3 : ¬ 100 < hi := by omega
  have q4 : ¬ d < 0 := by omega
  have q5 : ¬ 50000 < d := by omega
  clear o1 o2 o3 o4 o5
  go_enter Tryz.func17, Tryz.ntmps17
  go_wp2_with fail
  refine HSH.out.mono ?_
  rintro e w2 ⟨rfl, hb⟩
  have HB2 := Lib.hid (HB.out.trans (hb.mono HB.out.size)); have HI2 := Lib.hid (HI.out.up hb); have HL2 := Lib.hid (RowAt.up (k := 1) (R := intR) HL.out hb)
  have Z2 := Lib.hid ((hb.block _ (heapsz Z0.out)).trans Z0.out)
  clear hb s0 s1 s2 s3 s4 s5 HSH
  obtain ⟨s0, s1, s2, s3, s4, s5⟩ := site_box Z2.out
  have hPL := planned_X (c2 := c2) HI2.out A2 m plan HM.out HM2.out HL2.out
  rw [H0.out] at hPL
  have HPL := Lib.hid hPL
  have HZ := Lib.hid (planI_0 H0.out)
  have HTH := Lib.hid HZ.out.1
  obtain rfl : m = X.n := (by rw [← HM.out, HZ.out.2.1, HI2.out.hl])
  have HK : Hid X.Ok := Lib.hid ⟨HI2.out.hp, HI2.out.hq, HI2.out.hr, HI2.out.hl, HZ.out.1⟩
  have np6 := HK.out.np6; have n10 := HK.out.n10
  clear hPL
  go_wp2_with fail
  refine HPL.out.mono ?_
  rintro e w3 ⟨rfl, hb⟩
  have HB3 := Lib.hid (HB2.out.trans (hb.mono HB2.out.size)); have HI3 := Lib.hid (HI2.out.up hb); have HL3 := Lib.hid (RowAt.up (k := 1) (R := intR) HL2.out hb)
  have Z3 := Lib.hid ((hb.block _ (heapsz Z2.out)).trans Z2.out)
  clear hb s0 s1 s2 s3 s4 s5 HPL HB2 HI2 HL2 Z2
  go_wp2_with fail
  clear q1 q2 q3 q4 q5
  refine (fun (h : ∀ C : Code, C = bodyL1 → Code.wp Tryz.prog (Code.loop C) _ _ _) => h _ (by kernel_rfl)) ?_
  intro C hC
  subst hC
  refine loopL1 X.A X.n X.c X.np X.ts lo hi d w3 n10 HI3.out.hl np6 (ok_rows HK.out) ⟨HO.out.1, by have := HO.out; omega⟩ ⟨by have := HO.out; omega, HO.out.2.2⟩ HD.out HI3.out.T ?_
  intro w4 va vb _ _ _ _ _ _ _ _ _ _ _ _ _ _ _ _ _ _ _ _ _ _ _ _ _ _ _ _ _ _ _ _ _ _ _ _ _ _ _ _ _ _ _ _ _ _ _ _ _ _ _ _ _ _ _ _ ra rb hTW
  have hb := hTW.a.bel
  have hga := hTW.a.grid prR_len (mapT_rows HK.out _)
  have hgb := hTW.b.grid prR_len (mapT_rows HK.out _)
  rw [mapT_len, HI3.out.hl] at hga hgb
  obtain ⟨A3, c3, rfl, g3, _, _⟩ := hga
  obtain ⟨A4, c4, rfl, g4, _, _⟩ := hgb
  have HB4 := Lib.hid (HB3.out.trans (hb.mono HB3.out.size)); have HI4 := Lib.hid (HI3.out.up hb); have HL4 := Lib.hid (RowAt.up (k := 1) (R := intR) HL3.out hb)
  have Z4 := Lib.hid ((hb.block _ (heapsz Z3.out)).trans Z3.out)
  have HX4 := Lib.hid (withT_in HI4.out (A := A3) (c := c3) g3); have HY4 := Lib.hid (withT_in HI4.out (A := A4) (c := c4) g4)
  have HKX : Hid (X.withT A3 c3 (mapT (narT lo hi) X.ts)).Ok := Lib.hid (withT_ok HK.out _ (nar_sp HO.out) A3 c3)
  have HKY : Hid (X.withT A4 c4 (mapT (dpT d) X.ts)).Ok := Lib.hid (withT_ok HK.out _ (dp_sp HD.out.1) A4 c4)
  have hca := Carries_any HI4.out
  rw [HTH.out] at hca
  unfold CarPost at hca
  rw [car_spF] at hca
  have HCA : Hid (Calls Tryz.prog 21 #[X.sv, .slice X.A X.n X.c] w4 _) := Lib.hid hca
  clear hca hb hTW g3 g4 HB3 HI3 HL3 Z3 ra rb
  obtain ⟨s0, s1, s2, s3, s4, s5⟩ := site_box Z4.out
  go_wp2_with fail
  refine HCA.out.mono ?_
  rintro e w5 ⟨A5, n5, c5, rfl, g5, _, hb⟩
  obtain ⟨rfl, g5, _⟩ := g5 trivial
  have HB5 := Lib.hid (HB4.out.trans (hb.mono HB4.out.size)); have HI5 := Lib.hid (HI4.out.up hb); have HL5 := Lib.hid (RowAt.up (k := 1) (R := intR) HL4.out hb)
  have Z5 := Lib.hid ((hb.block _ (heapsz Z4.out)).trans Z4.out)
  have HX5 := Lib.hid (HX4.out.up hb); have HY5 := Lib.hid (HY4.out.up hb)
  have HC5 := Lib.hid g5
  have hca := Carries_any HX5.out
  rw [HKX.out.ok] at hca
  unfold CarPost at hca
  rw [car_spF] at hca
  have HCA : Hid (Calls Tryz.prog 21 #[X.sv, .slice A3 X.n c3] w5 _) := Lib.hid hca
  clear hca hb g5 HB4 HI4 HL4 Z4 HX4 HY4 s0 s1 s2 s3 s4 s5
  obtain ⟨s0, s1, s2, s3, s4, s5⟩ := site_box Z5.out
  go_wp2_with fail
  refine HCA.out.mono ?_
  rintro e w6 ⟨A6, n6, c6, rfl, g6, _, hb⟩
  obtain ⟨hn6, gg6, _⟩ := g6 trivial
  have hn6' : n6 = X.n := hn6
  subst hn6'
  have HB6 := Lib.hid (HB5.out.trans (hb.mono HB5.out.size)); have HI6 := Lib.hid (HI5.out.up hb); have HL6 := Lib.hid (RowAt.up (k := 1) (R := intR) HL5.out hb)
  have Z6 := Lib.hid ((hb.block _ (heapsz Z5.out)).trans Z5.out)
  have HX6 := Lib.hid (HX5.out.up hb); have HY6 := Lib.hid (HY5.out.up hb)
  have HC6 := Lib.hid (SpsAt.up HC5.out hb)
  have HD6 : Hid (SpsAt w6 w6.heap.size A6 (spF (X.withT A3 c3 (mapT (narT lo hi) X.ts)).leastC (X.withT A3 c3 (mapT (narT lo hi) X.ts)).mostC X.n X.np)) := Lib.hid gg6
  have hca := Levels_any HI6.out A2 X.n c2 plan HM.out HM2.out HL6.out
  rw [H0.out] at hca
  unfold LevPost at hca
  rw [lv_spF HK.out HM.out] at hca
  have HCA : Hid (Calls Tryz.prog 27 #[X.sv, .slice X.A X.n X.c, .slice A2 X.n c2] w6 _) := Lib.hid hca
  clear hca hb g6 gg6 hn6 HB5 HI5 HL5 Z5 HX5 HY5 HC5 s0 s1 s2 s3 s4 s5
  obtain ⟨s0, s1, s2, s3, s4, s5⟩ := site_box Z6.out
  go_wp2_with fail
  refine HCA.out.mono ?_
  rintro e w7 ⟨A7, n7, c7, rfl, g7, _, hb⟩
  obtain ⟨rfl, g7, _⟩ := g7 trivial
  have HB7 := Lib.hid (HB6.out.trans (hb.mono HB6.out.size)); have HI7 := Lib.hid (HI6.out.up hb); have HL7 := Lib.hid (RowAt.up (k := 1) (R := intR) HL6.out hb)
  have Z7 := Lib.hid ((hb.block _ (heapsz Z6.out)).trans Z6.out)
  have HX7 := Lib.hid (HX6.out.up hb); have HY7 := Lib.hid (HY6.out.up hb)
  have HC7 := Lib.hid (SpsAt.up HC6.out hb); have HD7 := Lib.hid (SpsAt.up HD6.out hb)
  have HE7 := Lib.hid g7
  have hp1 : planI (X.withT A3 c3 (mapT (narT lo hi) X.ts)).sit (X.withT A3 c3 (mapT (narT lo hi) X.ts)).ts plan = 0 := withT_plan _ HK.out (nar_sp HO.out) H0.out
  have hca := Levels_any HX7.out A2 X.n c2 plan HM.out HM2.out HL7.out
  rw [hp1] at hca
  unfold LevPost at hca
  rw [lv_spF HKX.out HM.out] at hca
  have HCA : Hid (Calls Tryz.prog 27 #[X.sv, .slice A3 X.n c3, .slice A2 X.n c2] w7 _) := Lib.hid hca
  clear hca hb g7 hp1 HB6 HI6 HL6 Z6 HX6 HY6 HC6 HD6 s0 s1 s2 s3 s4 s5
  obtain ⟨s0, s1, s2, s3, s4, s5⟩ := site_box Z7.out
  go_wp2_with fail
  refine HCA.out.mono ?_
  rintro e w8 ⟨A8, n8, c8, rfl, g8, _, hb⟩
  obtain ⟨rfl, g8, _⟩ := g8 trivial
  have HB8 := Lib.hid (HB7.out.trans (hb.mono HB7.out.size)); have HI8 := Lib.hid (HI7.out.up hb); have HL8 := Lib.hid (RowAt.up (k := 1) (R := intR) HL7.out hb)
  have Z8 := Lib.hid ((hb.block _ (heapsz Z7.out)).trans Z7.out)
  have HX8 := Lib.hid (HX7.out.up hb); have HY8 := Lib.hid (HY7.out.up hb)
  have HC8 := Lib.hid (SpsAt.up HC7.out hb); have HD8 := Lib.hid (SpsAt.up HD7.out hb); have HE8 := Lib.hid (SpsAt.up HE7.out hb)
  have HF8 : Hid (SpsAt w8 w8.heap.size A8 (spF (lvI (X.withT A3 c3 (mapT (narT lo hi) X.ts)).most plan) (lvI (X.withT A3 c3 (mapT (narT lo hi) X.ts)).least plan) X.n X.np)) := Lib.hid g8
  have hca := Carries_any HY8.out
  rw [HKY.out.ok] at hca
  unfold CarPost at hca
  rw [car_spF] at hca
  have HCA : Hid (Calls Tryz.prog 21 #[X.sv, .slice A4 X.n c4] w8 _) := Lib.hid hca
  clear hca hb g8 HB7 HI7 HL7 Z7 HX7 HY7 HC7 HD7 HE7 s0 s1 s2 s3 s4 s5
  obtain ⟨s0, s1, s2, s3, s4, s5⟩ := site_box Z8.out
  go_wp2_with fail
  refine HCA.out.mono ?_
  rintro e w9 ⟨A9, n9, c9, rfl, g9, _, hb⟩
  obtain ⟨hn9, gg9, _⟩ := g9 trivial
  have hn9' : n9 = X.n := hn9
  subst hn9'
  have HB9 := Lib.hid (HB8.out.trans (hb.mono HB8.out.size)); have HI9 := Lib.hid (HI8.out.up hb); have HL9 := Lib.hid (RowAt.up (k := 1) (R := intR) HL8.out hb)
  have Z9 := Lib.hid ((hb.block _ (heapsz Z8.out)).trans Z8.out)
  have HX9 := Lib.hid (HX8.out.up hb); have HY9 := Lib.hid (HY8.out.up hb)
  have HC9 := Lib.hid (SpsAt.up HC8.out hb); have HE9 := Lib.hid (SpsAt.up HE8.out hb); have HF9 := Lib.hid (SpsAt.up HF8.out hb)
  have HG9 : Hid (SpsAt w9 w9.heap.size A9 (spF (X.withT A4 c4 (mapT (dpT d) X.ts)).leastC (X.withT A4 c4 (mapT (dpT d) X.ts)).mostC X.n X.np)) := Lib.hid gg9
  have HW1 := Lib.hid (within_yes A6 A5 X.n c6 c5 _ _ w9 (spF_len _ _ _ _) (by omega) (spF_in np6.2 fun t i ht hi' => nar_car HK.out A3 c3 HO.out ht hi') (SpsAt.up HD8.out hb) HC9.out)
  clear hb g9 gg9 hn9 HB8 HI8 HL8 Z8 HX8 HY8 HX9 HY9 HC8 HD8 HE8 HF8 s0 s1 s2 s3 s4 s5
  have hnn : ((X.n : Int) != (X.n : Int)) = false := by simp
  go_wp2_with fail
  refine HW1.out.mono ?_
  rintro e w10 ⟨rfl, hb⟩
  have HB10 := Lib.hid (HB9.out.trans (hb.mono HB9.out.size)); have HI10 := Lib.hid (HI9.out.up hb); have HL10 := Lib.hid (RowAt.up (k := 1) (R := intR) HL9.out hb)
  have Z10 := Lib.hid ((hb.block _ (heapsz Z9.out)).trans Z9.out)
  have HC10 := Lib.hid (SpsAt.up HC9.out hb); have HE10 := Lib.hid (SpsAt.up HE9.out hb); have HG10 := Lib.hid (SpsAt.up HG9.out hb)
  have HW2 := Lib.hid (within_yes A8 A7 X.n c8 c7 _ _ w10 (spF_len _ _ _ _) (by omega) (spF_in np6.2 fun t i ht hi' => nar_lv HK.out A3 c3 HO.out plan ht hi') (SpsAt.up HF9.out hb) HE10.out)
  clear hb HW1 HB9 HI9 HL9 Z9 HC9 HE9 HF9 HG9
  go_wp2_with fail
  refine HW2.out.mono ?_
  rintro e w11 ⟨rfl, hb⟩
  have HB11 := Lib.hid (HB10.out.trans (hb.mono HB10.out.size)); have HI11 := Lib.hid (HI10.out.up hb); have HL11 := Lib.hid (RowAt.up (k := 1) (R := intR) HL10.out hb)
  have Z11 := Lib.hid ((hb.block _ (heapsz Z10.out)).trans Z10.out)
  have HC11 := Lib.hid (SpsAt.up HC10.out hb); have HE11 := Lib.hid (SpsAt.up HE10.out hb); have HG11 := Lib.hid (SpsAt.up HG10.out hb)
  clear hb HW2 HB10 HI10 HL10 Z10 HC10 HE10 HG10
  go_wp2_with fail
  refine (fun (h : ∀ C : Code, C = bodyL3 → Code.wp Tryz.prog (Code.loop C) _ _ _) => h _ (by kernel_rfl)) ?_
  intro C hC
  subst hC
  refine loopL3 X.AP A9 A5 X.np X.cp w.heap.size X.n c9 c5 _ _ w11 n10 np6.2 (spF_le fun t i ht hi' => dp_car HK.out A4 c4 HD.out.1 ht hi') HG11.out HC11.out (heapsz Z11.out) (site_box Z11.out).1 ?_
  intro w12 _ _ _ _ _ _ _ _ _ _ _ _ _ _ _ _ _ _ _ _ _ _ _ _ _ _ _ _ _ _ _ _ _ _ _ _ _ _ _ _ _ _ _ _ _ _ _ _ _ _ _ _ _ _ _ _ _ _ _ _ _ _ _ _ _ _ _ _ _ _ _ _ hb
  have HB12 := Lib.hid (HB11.out.trans (hb.mono HB11.out.size)); have HI12 := Lib.hid (HI11.out.up hb); have HL12 := Lib.hid (RowAt.up (k := 1) (R := intR) HL11.out hb)
  have Z12 := Lib.hid ((hb.block _ (heapsz Z11.out)).trans Z11.out)
  have HE12 := Lib.hid (SpsAt.up HE11.out hb)
  clear hb hnn HB11 HI11 HL11 Z11 HC11 HE11 HG11
  obtain ⟨s0, _, _, _, _, _⟩ := site_box Z12.out
  by_cases y1 : yr < 0
  · go_wp2_with fail
    refine (HKN.out _ HB12.out).mono ?_
    rintro e wy ⟨rfl, hb⟩
    have HBY := Lib.hid (HB12.out.trans (hb.mono HB12.out.size)); clear hb
    go_wp2_with fail
    go_ret
    exact ⟨rfl, HBY.out⟩
  by_cases y2 : (X.n : Int) ≤ yr
  · go_wp2_with fail
    refine (HKN.out _ HB12.out).mono ?_
    rintro e wy ⟨rfl, hb⟩
    have HBY := Lib.hid (HB12.out.trans (hb.mono HB12.out.size)); clear hb
    go_wp2_with fail
    go_ret
    exact ⟨rfl, HBY.out⟩
  by_cases y3 : at_ < 0
  · go_wp2_with fail
    refine (HKN.out _ HB12.out).mono ?_
    rintro e wy ⟨rfl, hb⟩
    have HBY := Lib.hid (HB12.out.trans (hb.mono HB12.out.size)); clear hb
    go_wp2_with fail
    go_ret
    exact ⟨rfl, HBY.out⟩
  by_cases y4 : (X.np : Int) ≤ at_
  · go_wp2_with fail
    refine (HKN.out _ HB12.out).mono ?_
    rintro e wy ⟨rfl, hb⟩
    have HBY := Lib.hid (HB12.out.trans (hb.mono HB12.out.size)); clear hb
    go_wp2_with fail
    go_ret
    exact ⟨rfl, HBY.out⟩
  obtain ⟨y, rfl⟩ : ∃ y : Nat, yr = (y : Int) := ⟨yr.toNat, by omega⟩
  obtain ⟨a, rfl⟩ : ∃ a : Nat, at_ = (a : Int) := ⟨at_.toNat, by omega⟩
  have hy : y < X.n := by omega
  have ha : a < X.np := by omega
  obtain ⟨s, hs⟩ := get_of_lt (l := plan) (k := y) (by rw [HM.out]; exact hy)
  obtain ⟨bp, op, rfl, hbp, hcp⟩ := ints_el HL12.out hs
  have hsb := plan_at HZ.out.2.2 (by show X.ps.length ≤ 6; rw [HI12.out.hp]; exact np6.2) hs
  have y5 : (0 : Int) ≤ (y : Int) := by omega
  have y6 : (y : Int) < (X.n : Int) := by omega
  have y7 : ¬ ((X.n : Int) ≤ (y : Int)) := y2
  have y8 : ¬ ((X.np : Int) ≤ (a : Int)) := y4
  have HS := Lib.hid hs; have HSB := Lib.hid hsb; have HBP := Lib.hid hbp; have HYN := Lib.hid hy; have HAN := Lib.hid ha
  obtain ⟨J, hJ⟩ : ∃ z, jackB s a = z := ⟨_, rfl⟩
  have hcl := refJacked_any s a w12 (by omega) (by unfold maxLen; omega)
  rw [hJ] at hcl
  have HJ := Lib.hid hJ; have HCL := Lib.hid hcl
  clear hs hsb hbp hy ha hJ hcl
  go_wp2_with fail
  refine HCL.out.mono ?_
  rintro e w13 ⟨rfl, rfl⟩
  clear HCL
  cases J with
  | true =>
    go_wp2_with fail
    refine (HKN.out _ HB12.out).mono ?_
    rintro e wy ⟨rfl, hb⟩
    have HBY := Lib.hid (HB12.out.trans (hb.mono HB12.out.size)); clear hb
    go_wp2_with fail
    go_ret
    exact ⟨rfl, HBY.out⟩
  | false =>
    go_wp2_with fail
    refine (fun (h : ∀ C : Code, C = bodyL5 → Code.wp Tryz.prog (Code.loop C) _ _ _) => h _ (by kernel_rfl)) ?_
    intro C hC
    subst hC
    refine loopL5 a (by have := HAN.out; omega) w12 ?_
    intro w13 _ _ _ _ _ _ _ _ hb
    have hbp' := hb
    have HB13 := Lib.hid (HB12.out.trans (hb.mono HB12.out.size)); have HI13 := Lib.hid (HI12.out.up hb); have HL13 := Lib.hid (RowAt.up (k := 1) (R := intR) HL12.out hb)
    have Z13 := Lib.hid ((hb.block _ (heapsz Z12.out)).trans Z12.out)
    have HE13 := Lib.hid (SpsAt.up HE12.out hb)
    clear hb hbp' s0 hcp y1 y2 y3 y4 y7 y8
    obtain ⟨P, hP⟩ : ∃ z : Int, 2 ^ a = z := ⟨_, rfl⟩
    rw [hP]
    have hPb : 0 ≤ P ∧ P ≤ 32 := by
      rw [← hP]
      have ha6 : a < 6 := by have := HAN.out; omega
      rcases (show a = 0 ∨ a = 1 ∨ a = 2 ∨ a = 3 ∨ a = 4 ∨ a = 5 by omega) with rfl | rfl | rfl | rfl | rfl | rfl <;> decide
    obtain ⟨hp2, hjk⟩ := plan_set_ok HK.out H0.out HS.out HAN.out HJ.out
    rw [hP] at hp2 hjk
    have HP2 := Lib.hid hp2; have HJK := Lib.hid hjk; have HPB := Lib.hid hPb
    clear hP hPb hp2 hjk
    obtain ⟨b7, o7, e7, hb7, hc7⟩ := HL13.out (by intro h; have := HM.out; rw [h] at this; have := HYN.out; simp at *; omega)
    cases e7
    have HSR : Hid (∀ (k : Nat) (v : Value), (flatR intR plan)[k]? = some v → w13.cell? ((⟨bp, op, none⟩ : Addr).add k) = some v) := Lib.hid fun k v hv => row_flat (k := 1) (by decide) (fun _ => rfl) (fun i x hx j' v' hv' => hc7 i x hx j' v' hv') k v hv
    have HFL : Hid ((flatR intR plan).length = X.n * 1) := Lib.hid (by rw [flatR_len (k := 1) (fun _ => rfl), HM.out])
    have HON : Hid (∀ v ∈ flatR intR plan, v.oneCell' = true) := Lib.hid (by
      intro v hv
      rw [flat_ints] at hv
      obtain ⟨x, _, rfl⟩ := List.mem_map.1 hv
      rfl)
    obtain ⟨i0, hi0, hz0, hz1, hz2⟩ := info_parts int_info
    clear hc7 hb7
    go_wp2_with (first | (at_builtin; refine Hid.out ?_) | fail)
    refine Lib.hid ?_
    refine wpList_append_own _ rfl _ _ 34 rfl w13.heap.size 3 i0 _ 1 8 Tryz.underlying34 hi0 hz0 hz1 hz2 rfl (by decide) _ _ _ rfl (World.ownsRow_nil _ _ _ _) ⟨bp, op, none⟩ X.n c2 (flatR intR plan) rfl HFL.out HSR.out HON.out (by unfold maxLen; omega) (by omega) (by simp) ?_
    intro v14 w14 hown hgrow _
    rw [Nat.zero_add, List.nil_append] at hown
    obtain ⟨g, cg, rfl, _⟩ := hown.form (by have := HYN.out; omega)
    obtain ⟨a1, a2, a3, a4, a5⟩ := own_set (j := y) (z := .int .i64 (s + P)) hown (by have := HFL.out; have := HYN.out; omega)
    have hcs : (flatR intR plan)[y]? = some (.int .i64 s) := by rw [flat_ints, List.getElem?_map, HS.out]; rfl
    rw [hcs] at a3
    rw [ints_set] at a5
    have hgr : w13.grownBy w14 none := hgrow
    have hb14 : Below w13.heap.size w13 w14 := ⟨hgr.os, hgr.tape, hgr.output, hgr.size, fun k hk => hgr.block k hk (by simp)⟩
    have hb := hb14.setCell (p := ⟨g, y, none⟩) a1 (.int .i64 (s + P))
    have hpl : (plan.set y (s + P)).length = X.n := by rw [List.length_set, HM.out]
    have hri : RowIs intR 3 w13.heap.size (plan.set y (s + P)) (.slice (some ⟨g, 0, none⟩) X.n cg) (w14.setCell ⟨g, y, none⟩ (.int .i64 (s + P))) := RowIs.of_own (k := 1) (by rw [hpl]; exact a5)
    obtain ⟨A14, c14, e14, hr14, _⟩ := hri.at_ (k := 1) (fun _ => rfl)
    injection e14 with e14a e14b e14c
    subst e14a
    clear e14b e14c
    have vw : Value.int .i64 (wrap64 (s + P)) = Value.int .i64 (s + P) := by have := HSB.out; have := HPB.out; congr 1; exact w64 (by omega)
    obtain ⟨W, hW⟩ : ∃ z, w14.setCell ⟨g, y, none⟩ (.int .i64 (s + P)) = z := ⟨_, rfl⟩
    rw [hW] at hb hr14
    have HB14 := Lib.hid (HB13.out.trans (hb.mono HB13.out.size)); have HI14 := Lib.hid (HI13.out.up hb)
    have Z14 := Lib.hid ((hb.block _ (heapsz Z13.out)).trans Z13.out)
    have HE14 := Lib.hid (SpsAt.up HE13.out hb)
    have HR14 := Lib.hid hr14; have HWW := Lib.hid hW; have HPL := Lib.hid hpl
    have hca := Levels_any HI14.out (some ⟨g, 0, none⟩) X.n cg (plan.set y (s + P)) HPL.out HM2.out HR14.out
    rw [HP2.out] at hca
    unfold LevPost at hca
    rw [lv_spF HK.out HPL.out] at hca
    have HCA : Hid (Calls Tryz.prog 27 #[X.sv, .slice X.A X.n X.c, .slice (some ⟨g, 0, none⟩) X.n cg] W _) := Lib.hid hca
    obtain ⟨s0, s1, s2, s3, s4, s5⟩ := site_box Z14.out
    rw [← hW] at s0 s1 s2 s3 s4 s5
    clear hca hb hb14 hri hr14 hW hpl hown hgrow hgr hcs a5 HB13 HI13 HL13 Z13 HE13
    go_wp2_with fail
    rw [HWW.out]
    refine HCA.out.mono ?_
    rintro e w15 ⟨A15, n15, c15, rfl, g15, _, hb⟩
    obtain ⟨rfl, g15, _⟩ := g15 trivial
    have HB15 := Lib.hid (HB14.out.trans (hb.mono HB14.out.size)); have HE15 := Lib.hid (SpsAt.up HE14.out hb)
    have Z15 := Lib.hid ((hb.block _ (heapsz Z14.out)).trans Z14.out)
    have HQ15 := Lib.hid g15
    have hnn : ((X.n : Int) != (X.n : Int)) = false := by simp
    clear hb g15 s0 s1 s2 s3 s4 s5 HB14 HI14 Z14 HE14
    go_wp2_with fail
    refine (fun (h : ∀ C : Code, C = bodyL6 → Code.wp Tryz.prog (Code.loop C) _ _ _) => h _ (by kernel_rfl)) ?_
    intro C hC
    subst hC
    refine loopL6 X.AP A15 A7 X.np X.cp w.heap.size X.n c15 c7 _ _ w15 n10 np6.2 (spF_ge fun t i ht hi' => ⟨lv_more (most_pos HK.out) fun t' => HJK.out t' i hi', lv_more (least_pos HK.out) fun t' => HJK.out t' i hi'⟩) HQ15.out HE15.out (heapsz Z15.out) (site_box Z15.out).1 ?_
    intro w16 _ _ _ _ _ _ _ _ _ _ _ _ _ _ _ _ _ _ _ _ _ _ _ _ _ _ _ _ _ _ _ _ _ _ _ _ _ _ _ _ _ _ _ _ _ _ _ _ _ _ _ _ _ _ _ _ _ _ _ _ _ _ _ _ _ _ _ _ _ _ _ _ hb
    have HB16 := Lib.hid (HB15.out.trans (hb.mono HB15.out.size))
    clear hb
    go_wp2_with fail
    refine (HKN.out _ HB16.out).mono ?_
    rintro e wy ⟨rfl, hb⟩
    have HBY := Lib.hid (HB16.out.trans (hb.mono HB16.out.size)); clear hb
    go_wp2_with fail
    go_ret
    exact ⟨rfl, HBY.out⟩
end
theorem more_law {X : Ctx} {w : World} (h : X.In w) (ht : Tab w) (A2 : Option Addr) (m c2 : Nat) (plan : List Int) (a b d i j : Int) (hm : plan.length = m) (hm2 : m ≤ maxLen) (hL : IntsAt w w.heap.size A2 plan) :
    Calls Tryz.prog 17 #[X.sv, X.tv, .slice A2 m c2, .int .i64 a, .int .i64 b, .int .i64 d, .int .i64 i, .int .i64 j] w fun e w' => e = .returned (.bool true) ∧ Below w.heap.size w w' := by
  by_cases hbad : shortB X.np X.nq X.nr X.ts = false ∨ planI X.sit X.ts plan ≠ 0 ∨ a < 0 ∨ b < a ∨ 100 < b ∨ d < 0 ∨ 50000 < d
  · exact more_bad h ht A2 m c2 plan a b d i j hm hm2 hL hbad
  · have h1 : shortB X.np X.nq X.nr X.ts = true := by
      cases hs : shortB X.np X.nq X.nr X.ts with
      | true => rfl
      | false => exact absurd (.inl hs) hbad
    have h2 : planI X.sit X.ts plan = 0 := Classical.byContradiction fun h => hbad (.inr (.inl h))
    exact more_good h ht A2 m c2 plan a b d i j hm hm2 hL h1 h2 (by omega) (by omega) (by omega) (by omega) (by omega)
end Go.Proofs.YtdlaphlpimlgdaaGreatDoor
