/- What can be wrong: the code's tests. -/
import Derived.Test.YtdlaphlpimlgdaaGreatDoorAF
namespace Go.Proofs.YtdlaphlpimlgdaaGreatDoor
open Go.RowKit

set_option maxRecDepth 100000 in
set_option maxHeartbeats 4000000 in
theorem fails_any (G : Nat) (AP AQ AR A : Option Addr) (np cp nq cq nr cr n c t i : Nat) (ps : List Pil) (rs : List Rw) (may sink tilt : Int) (ts : List (List Sp)) (row : List Sp) (x : Pil) (y : Sp) (w : World) (hG : LookAt w G AP AQ AR A np cp nq cq nr cr n c may sink tilt)
    (hp : ps.length = np) (hP : PilsAt w w.heap.size AP ps) (hr : rs.length = nr) (hr0 : 1 ≤ nr) (hr2 : nr ≤ maxLen) (hR : RwsAt w w.heap.size AR rs) (hl : ts.length = n) (hT : SpsAt w w.heap.size A ts) (ht : ts[t]? = some row) (hi : row[i]? = some y) (hx : ps[i]? = some x) (hB : pilB x = true) (hY : spB y = true) :
    Calls Tryz.prog 117 #[.pointer (some ⟨G, 0, none⟩), .int .i64 (t : Int), .int .i64 (i : Int)] w fun e w' => e = .returned (.bool (rowI rs (carI x y.2) x.h).2) ∧ Below w.heap.size w w' := by
  have HG := Lib.hid hG
  have hyb := withinB_iff.1 hY
  have hxb := (pilB_iff.1 hB).2.2.2.1
  have hcb := carI_b hB (t := y.2) (by omega)
  have hil : i < np := by rw [← hp]; exact (List.getElem?_eq_some_iff.1 hx).1
  have H1 : Hid (∀ u : World, Below w.heap.size w u → Calls Tryz.prog 106 #[.pointer (some ⟨G, 0, none⟩), .int .i64 (t : Int), .int .i64 (i : Int)] u fun e w' => e = .returned (.int .i64 (carI x y.2)) ∧ Below u.heap.size u w') :=
    Lib.hid fun u hu => leastCarried_any G AP AQ AR A np cp nq cq nr cr n c t i ps may sink tilt ts row x y u ((hu.block _ (heapsz hG)).trans hG) hp (hP.up hu) hl (hT.up hu) ht hi hx hB hY
  have H2 : Hid (∀ u : World, Below w.heap.size w u → Calls Tryz.prog 112 #[.pointer (some ⟨G, 0, none⟩), .int .i64 (carI x y.2), .int .i64 x.h] u fun e w' => e = .returned (.tuple #[.agg #[.int .i64 (rowI rs (carI x y.2) x.h).1.u, .int .i64 (rowI rs (carI x y.2) x.h).1.lo, .int .i64 (rowI rs (carI x y.2) x.h).1.hi], .bool (rowI rs (carI x y.2) x.h).2]) ∧ Below u.heap.size u w') :=
    Lib.hid fun u hu => rowOf_any G AP AQ AR A np cp nq cq nr cr n c rs may sink tilt _ _ u ((hu.block _ (heapsz hG)).trans hG) hr hr0 hr2 (hR.up hu) hcb (by omega)
  obtain ⟨b, o, rfl, hb, hcs⟩ := pil_cells hP (by intro e; rw [e] at hx; simp at hx)
  obtain ⟨_, _, _, l3, l4, _, _⟩ := hcs i x hx
  have g0 := (look_cells hG).1
  have FC : Hid (∀ u : World, Below w.heap.size w u → u.cell? ⟨G, 0, none⟩ = some (.slice (some ⟨b, o, none⟩) np cp) ∧ u.cell? ⟨b, o + i * 7 + 4, none⟩ = some (.int .i64 x.h)) := Lib.hid fun u hu => ⟨((bcell hu).1 _ 0 (heapsz hG)).trans g0, ((bcell hu).1 _ _ hb).trans l4⟩
  obtain ⟨R, hR2⟩ : ∃ z, rowI rs (carI x y.2) x.h = z := ⟨_, rfl⟩
  obtain ⟨C, hC2⟩ : ∃ z, carI x y.2 = z := ⟨_, rfl⟩
  obtain ⟨L, hL2⟩ : ∃ z, x.h = z := ⟨_, rfl⟩
  have i0 : (0 : Int) ≤ (i : Int) := by omega
  have i1 : (i : Int) < (np : Int) := by omega
  rw [hR2] at H2 ⊢
  rw [hC2] at H1 H2
  rw [hL2] at H2 FC
  clear hG hP hR hT hp hl hr hr0 hr2 ht hi hx hB hY hyb hxb hcb hcs l3 l4 g0 hR2 hC2 hL2 hb
  go_enter Tryz.func117, Tryz.ntmps117
  go_wp2_with fail
  refine wp_region_any (by kernel_rfl) (plan_guarded_any (γ := Nat) [0, 1, 2] (seCv G b o np cp t i 4 C L R.1 R.2) (fun done g w' => NewS w 19 20 119 (.int .i64 0, .int .i64 0, .int .i64 0) (.int .i64 R.1.u, .int .i64 R.1.lo, .int .i64 R.1.hi) done g w') 0 (by kernel_rfl) (by kernel_rfl) (by kernel_rfl) (by kernel_rfl) ?_ ?_ ?_ ?_)
  · intro t ht
    simp only [List.mem_cons, List.not_mem_nil, or_false] at ht
    rcases ht with rfl | rfl | rfl <;> rfl
  · exact ⟨(Below.refl w.heap.size w).drew, fun h => by simp at h, fun h => by simp at h⟩
  · refine allOps_array ?_
    refine ⟨?_, ?_, ?_, ?_, ?_, ?_, ?_, ?_, ?_, ?_, ?_, ?_, ?_, ?_, ?_, ?_, ?_, ?_, ?_, ?_, ?_, ?_, trivial⟩
    · intro done g w' hS hu hdep _
      refine quietN hS 10 rfl (by decide) (by decide) rfl ?_
      simp [go_sem, evalBy, seCv]
    · intro done g w' hS hu hdep _
      refine quietN hS 11 rfl (by decide) (by decide) rfl ?_
      simp [go_sem, evalBy, seCv]
    · intro done g w' hS hu hdep _
      refine quietN hS 12 rfl (by decide) (by decide) rfl ?_
      simp [go_sem, evalBy, seCv]
    · intro done g w' hS hu hdep _
      refine quietN hS 13 rfl (by decide) (by decide) rfl ?_
      simp [go_sem, evalBy, seCv]
    · intro done g w' hS hu hdep _
      refine callN hS 14 rfl (by decide) (by decide) rfl 106 #[.pointer (some ⟨G, 0, none⟩), .int .i64 (t : Int), .int .i64 (i : Int)] (by simp [go_sem, evalBy, seCv]) ?_
      exact H1.out w' hS.keep
    · intro done g w' hS hu hdep _
      refine quietN hS 15 rfl (by decide) (by decide) rfl ?_
      simp [go_sem, evalBy, seCv]
    · intro done g w' hS hu hdep _
      refine quietN hS 16 rfl (by decide) (by decide) rfl ?_
      simp [go_sem, evalBy, seCv]
    · intro done g w' hS hu hdep _
      refine quietN hS 17 rfl (by decide) (by decide) rfl ?_
      simp [go_sem, evalBy, seCv]
    · intro done g w' hS hu hdep _
      refine quietN hS 18 rfl (by decide) (by decide) rfl ?_
      simp [go_sem, evalBy, seCv]
    · intro done g w' hS hu hdep _
      obtain ⟨x0, x1⟩ := FC.out w' hS.keep
      refine quietN hS 19 rfl (by decide) (by decide) rfl ?_
      simp [go_sem, evalBy, seCv, x0]
    · intro done g w' hS hu hdep _
      refine quietN hS 20 rfl (by decide) (by decide) rfl ?_
      simp [go_sem, evalBy, seCv]
    · intro done g w' hS hu hdep _
      refine quietN hS 21 rfl (by decide) (by decide) rfl ?_
      simp [go_sem, evalBy, seCv, i0, i1]
    · intro done g w' hS hu hdep _
      refine quietN hS 22 rfl (by decide) (by decide) rfl ?_
      simp [go_sem, evalBy, seCv]
    · intro done g w' hS hu hdep _
      refine quietN hS 23 rfl (by decide) (by decide) rfl ?_
      simp [go_sem, evalBy, seCv]
    · intro done g w' hS hu hdep _
      obtain ⟨x0, x1⟩ := FC.out w' hS.keep
      refine quietN hS 24 rfl (by decide) (by decide) rfl ?_
      simp [go_sem, evalBy, seCv, x1]
    · intro done g w' hS hu hdep _
      refine callN hS 25 rfl (by decide) (by decide) rfl 112 #[.pointer (some ⟨G, 0, none⟩), .int .i64 C, .int .i64 L] (by simp [go_sem, evalBy, seCv]) ?_
      exact H2.out w' hS.keep
    · intro done g w' hS hu hdep _
      refine quietN hS 9 rfl (by decide) (by decide) rfl ?_
      simp [go_sem, evalBy, seCv]
    · intro done g w' hS hu hdep _
      refine quietN hS 26 rfl (by decide) (by decide) rfl ?_
      simp [go_sem, evalBy, seCv]
    · intro done g w' hS hu hdep _
      refine quietN hS 27 rfl (by decide) (by decide) rfl ?_
      simp [go_sem, evalBy, seCv]
    · intro done g w' hS hu hdep _
      refine allocN hS 7 rfl hu (by decide) rfl (fun _ => rfl) ?_ (by simp [go_sem])
      intro g' t' ht'
      unfold seCv
      split <;> first | rfl | exact absurd rfl ht'
    · intro done g w' hS hu hdep _
      refine storeN hS rfl (hdep ⟨19, .data⟩ (by simp) rfl) hu rfl ?_
      intro hf d0 d1 d2
      have f0 := hf 0; have f1 := hf 1; have f2 := hf 2
      clear hf
      simp at d0 d1 d2
      simp [go_sem, evalBy, seCv, f0, f1, f2, d0, d1, d2]
    · intro done g w' hS hu hdep _
      refine quietN hS 8 rfl (by decide) (by decide) rfl ?_
      simp [go_sem, evalBy, seCv]
  · intro g wE hS
    obtain ⟨hge, hbx⟩ := hS.box (by decide)
    rw [if_pos (by decide)] at hbx
    obtain ⟨e0, e1, e2⟩ := box3_cells hbx
    have HK := Lib.hid hS.keep
    clear hS hbx
    simp [putAll, Act.put, seCv]
    go_wp2_with fail
    go_ret
    exact ⟨rfl, HK.out⟩

theorem drew_b (n : Nat) (w : World) (k : Nat) : Below n w (w.drewN k) := ⟨rfl, rfl, rfl, Nat.le_refl _, fun _ _ => rfl⟩
theorem mul_bd {a b A B : Int} (h0 : 0 ≤ a) (h1 : a ≤ A) (h2 : 0 ≤ b) (h3 : b ≤ B) : 0 ≤ a * b ∧ a * b ≤ A * B :=
  ⟨Int.mul_nonneg h0 h2, Int.mul_le_mul h1 h3 h2 (by omega)⟩
def losF (ps : List Pil) (ts : List (List Sp)) (may : Int) (t i : Nat) : Bool := decide (carI (ps.getD i zP) ((ts.getD t []).getD i (0, 0)).2 * 1000 < (ps.getD i zP).g * (1000 - may))
def faiF (ps : List Pil) (rs : List Rw) (ts : List (List Sp)) (t i : Nat) : Bool := (rowI rs (carI (ps.getD i zP) ((ts.getD t []).getD i (0, 0)).2) (ps.getD i zP).h).2
def sinB (sink lo : Int) : Bool := decide (lo < -sink)
def tilB (tilt : Int) (a b : Sp) : Bool := decide (tilt < max (a.2 - b.1) (b.2 - a.1))
theorem fails_X {X : Ctx} (K : X.Ok) {w : World} (h : X.At w) {t i : Nat} (ht : t < X.n) (hi : i < X.np) :
    Calls Tryz.prog 117 #[.pointer (some ⟨X.G, 0, none⟩), .int .i64 (t : Int), .int .i64 (i : Int)] w fun e w' => e = .returned (.bool (faiF X.ps X.rs X.ts t i)) ∧ Below w.heap.size w w' := by
  obtain ⟨row, h1, _, h2, h3⟩ := K.at_th ht hi
  obtain ⟨h4, h5⟩ := K.at_pile hi
  have nr6 := K.parts.nr6
  exact fails_any X.G X.AP X.AQ X.AR X.A X.np X.cp X.nq X.cq X.nr X.cr X.n X.c t i X.ps X.rs X.may X.sink X.tilt X.ts row (X.pile i) (X.th t i) w h.g K.hp h.P K.hr nr6.1 (by unfold maxLen; omega) h.R K.hl h.T h1 h2 h4 h5 h3
theorem leastC_X {X : Ctx} (K : X.Ok) {w : World} (h : X.At w) {t i : Nat} (ht : t < X.n) (hi : i < X.np) :
    Calls Tryz.prog 106 #[.pointer (some ⟨X.G, 0, none⟩), .int .i64 (t : Int), .int .i64 (i : Int)] w fun e w' => e = .returned (.int .i64 (carI (X.pile i) (X.th t i).2)) ∧ Below w.heap.size w w' := by
  obtain ⟨row, h1, _, h2, h3⟩ := K.at_th ht hi
  obtain ⟨h4, h5⟩ := K.at_pile hi
  exact leastCarried_any X.G X.AP X.AQ X.AR X.A X.np X.cp X.nq X.cq X.nr X.cr X.n X.c t i X.ps X.may X.sink X.tilt X.ts row (X.pile i) (X.th t i) w h.g K.hp h.P K.hl h.T h1 h2 h4 h5 h3
set_option maxRecDepth 100000 in
set_option maxHeartbeats 2000000 in
theorem loses_X {X : Ctx} (K : X.Ok) {w : World} (h : X.At w) {t i : Nat} (ht : t < X.n) (hi : i < X.np) :
    Calls Tryz.prog 72 #[.pointer (some ⟨X.G, 0, none⟩), .int .i64 (t : Int), .int .i64 (i : Int)] w fun e w' => e = .returned (.bool (losF X.ps X.ts X.may t i)) ∧ Below w.heap.size w w' := by
  have HJ : Hid (losF X.ps X.ts X.may t i = decide (carI (X.pile i) (X.th t i).2 * 1000 < (X.pile i).g * (1000 - X.may))) := Lib.hid rfl
  obtain ⟨h4, h5⟩ := K.at_pile hi
  obtain ⟨_, _, _, _, h3⟩ := K.at_th ht hi
  have hcb := carI_b h5 (t := (X.th t i).2) (by have := withinB_iff.1 h3; omega)
  have hgb := (pilB_iff.1 h5).2.2.2.2.1
  have hmb := K.parts.may
  have hpr := mul_bd hgb.1 hgb.2 (show 0 ≤ 1000 - X.may by omega) (show 1000 - X.may ≤ 1000 by omega)
  obtain ⟨b, o, hAP, hb, hcs⟩ := pil_cells h.P (by intro e; rw [e] at h4; simp at h4)
  have hg := (hcs i _ h4).2.2.2.2.2.1
  obtain ⟨g0, _, _, g3, _⟩ := look_cells h.g
  rw [hAP] at g0
  have HC := Lib.hid (fun u : KeptW w => Calls.in_kept u (leastC_X K (h.up u.h) ht hi))
  have F0 : ∀ u : KeptW w, u.w.cell? ⟨X.G, 0, none⟩ = some (.slice (some ⟨b, o, none⟩) X.np X.cp) := fun u => ((bcell u.h).1 _ _ (heapsz h.g)).trans g0
  have F3 : ∀ u : KeptW w, u.w.cell? ⟨X.G, 3, none⟩ = some (.int .i64 X.may) := fun u => ((bcell u.h).1 _ _ (heapsz h.g)).trans g3
  have F5 : ∀ u : KeptW w, u.w.cell? ⟨b, o + i * 7 + 5, none⟩ = some (.int .i64 (X.pile i).g) := fun u => ((bcell u.h).1 _ _ hb).trans hg
  obtain ⟨C, hC⟩ : ∃ z, carI (X.pile i) (X.th t i).2 = z := ⟨_, rfl⟩
  obtain ⟨D, hD⟩ : ∃ z, (X.pile i).g = z := ⟨_, rfl⟩
  rw [hC] at HJ hcb HC
  rw [hD] at HJ hgb hpr F5
  have i0 : (0 : Int) ≤ (i : Int) := by omega
  have i1 : (i : Int) < (X.np : Int) := by omega
  have HJ2 : Hid (losF X.ps X.ts X.may t i = decide (C * 1000 < wrap64 (D * (1000 - X.may)))) := Lib.hid (by rw [HJ.out, w64 (by omega)])
  obtain ⟨B, hB⟩ : ∃ z, losF X.ps X.ts X.may t i = z := ⟨_, rfl⟩
  obtain ⟨N, hN⟩ : ∃ z, X.may = z := ⟨_, rfl⟩
  rw [hB] at HJ2 ⊢
  rw [hN] at HJ2 hmb F3
  have v1 : Value.int .i64 (wrap64 (C * 1000)) = Value.int .i64 (C * 1000) := by congr 1; exact w64 (by omega)
  have v2 : Value.int .i64 (wrap64 (1000 - N)) = Value.int .i64 (1000 - N) := by congr 1; exact w64 (by omega)
  clear h h4 h5 hcs hg g0 g3 hC hD hN hpr hAP HJ hB
  go_enter Tryz.func72, Tryz.ntmps72
  go_wp2_with fail
  refine rk_region (by kernel_rfl) (by kernel_rfl) ?_
  repeat (go_big_quiet_step (first | (with_reducible exact HC.out _) | fail))
  refine wpQuiet_nil ?_
  rintro _ ⟨u, rfl⟩
  go_wp2_with fail
  go_ret
  exact ⟨by rw [HJ2.out]; rfl, u.h⟩
set_option maxRecDepth 100000 in
theorem sinks_X {X : Ctx} (K : X.Ok) {w : World} (h : X.At w) (lo hi : Int) :
    Calls Tryz.prog 131 #[.pointer (some ⟨X.G, 0, none⟩), .agg #[.int .i64 lo, .int .i64 hi]] w fun e w' => e = .returned (.bool (sinB X.sink lo)) ∧ Below w.heap.size w w' := by
  have z0 := heap_alloc_new w (.cells #[.int .i64 lo, .int .i64 hi] 42)
  have hb := (Below.refl w.heap.size w).alloc (Nat.le_refl _) (.cells #[.int .i64 lo, .int .i64 hi] 42)
  obtain ⟨s0, s1⟩ := span_box z0
  have g4 := ((bcell hb).1 _ 4 (heapsz h.g)).trans (look_cells h.g).2.2.2.2.1
  have HB := Lib.hid hb
  have hs := K.parts.sink
  obtain ⟨N, hN⟩ : ∃ z, X.sink = z := ⟨_, rfl⟩
  rw [hN] at hs g4 ⊢
  have v1 : Value.int .i64 (wrap64 (-N)) = Value.int .i64 (-N) := by congr 1; exact w64 (by omega)
  clear z0 hb h K hN
  go_enter Tryz.func131, Tryz.ntmps131
  go_wp2_with fail
  go_quiet (fail)
  go_wp2_with fail
  go_ret
  exact ⟨rfl, HB.out.trans (drew_b _ _ _)⟩
set_option maxRecDepth 100000 in
theorem tilts_X {X : Ctx} {w : World} (h : X.At w) (a b : Sp) (ha : (-1000000 ≤ a.1 ∧ a.1 ≤ 1000000) ∧ (-1000000 ≤ a.2 ∧ a.2 ≤ 1000000)) (hb : (-1000000 ≤ b.1 ∧ b.1 ≤ 1000000) ∧ (-1000000 ≤ b.2 ∧ b.2 ≤ 1000000)) :
    Calls Tryz.prog 132 #[.pointer (some ⟨X.G, 0, none⟩), .agg #[.int .i64 a.1, .int .i64 a.2], .agg #[.int .i64 b.1, .int .i64 b.2]] w fun e w' => e = .returned (.bool (tilB X.tilt a b)) ∧ Below w.heap.size w w' := by
  obtain ⟨z0, z1, hb0⟩ := two_boxes w (.cells #[.int .i64 a.1, .int .i64 a.2] 42) (.cells #[.int .i64 b.1, .int .i64 b.2] 42)
  obtain ⟨s0, s1⟩ := span_box z0
  obtain ⟨t0, t1⟩ := span_box z1
  have g5 := ((bcell hb0).1 _ 5 (heapsz h.g)).trans (look_cells h.g).2.2.2.2.2.1
  have HB := Lib.hid hb0
  obtain ⟨N, hN⟩ : ∃ z, X.tilt = z := ⟨_, rfl⟩
  have HT : Hid (tilB X.tilt a b = decide (N < max (a.2 - b.1) (b.2 - a.1))) := Lib.hid (by rw [← hN]; rfl)
  obtain ⟨B, hB⟩ : ∃ z, tilB X.tilt a b = z := ⟨_, rfl⟩
  rw [hB] at HT ⊢
  rw [hN] at g5
  obtain ⟨a1, a2⟩ := a
  obtain ⟨b1, b2⟩ := b
  simp only at *
  have v1 : Value.int .i64 (wrap64 (a2 - b1)) = Value.int .i64 (a2 - b1) := by congr 1; exact w64 (by omega)
  have v2 : Value.int .i64 (wrap64 (b2 - a1)) = Value.int .i64 (b2 - a1) := by congr 1; exact w64 (by omega)
  clear z0 z1 hb0 h hN hB ha hb
  go_enter Tryz.func132, Tryz.ntmps132
  go_wp2_with fail
  go_quiet (fail)
  go_wp2_with fail
  all_goals
    go_ret
    refine ⟨?_, HB.out.trans (drew_b _ _ _)⟩
    rw [HT.out]
    first
      | (rw [Int.max_eq_right (by omega)]; rfl)
      | (rw [Int.max_eq_left (by omega)]; rfl)
end Go.Proofs.YtdlaphlpimlgdaaGreatDoor
/- What is wrong in a year: the code's test of each rule. -/
namespace Go.Proofs.YtdlaphlpimlgdaaGreatDoor
open Go.RowKit

/-- Levels in bounds. -/
def spIn (x : Sp) : Prop := (-1000000 ≤ x.1 ∧ x.1 ≤ 1000000) ∧ -1000000 ≤ x.2 ∧ x.2 ≤ 1000000
def manyF (np nq : Nat) (r : Nat) : Nat := if r = 5 then nq else np
/-- Whether a rule is wrong of a pile (or a pair), in a year with these levels. -/
def wroF (X : Ctx) (t : Nat) (row : List Sp) (r o : Nat) : Bool :=
  if r = 2 then losF X.ps X.ts X.may t o else if r = 3 then faiF X.ps X.rs X.ts t o else if r = 4 then sinB X.sink (row.getD o (0, 0)).1 else
    tilB X.tilt (row.getD (X.qs.getD o (0, 0)).1.toNat (0, 0)) (row.getD (X.qs.getD o (0, 0)).2.toNat (0, 0))
theorem many_X {X : Ctx} {w : World} (h : X.At w) (r : Nat) : Calls Tryz.prog 115 #[.pointer (some ⟨X.G, 0, none⟩), .int .i64 (r : Int)] w fun e w' => e = .returned (.int .i64 (manyF X.np X.nq r : Nat)) ∧ w = w' := by
  obtain ⟨g0, g1, _⟩ := look_cells h.g
  clear h
  by_cases hr : r = 5
  · subst hr
    go_enter Tryz.func115, Tryz.ntmps115
    go_wp2_with fail
    go_ret
    exact ⟨rfl, rfl⟩
  · have hr1 : ¬ (r : Int) = 5 := by omega
    have HM : Hid (manyF X.np X.nq r = X.np) := Lib.hid (if_neg hr)
    go_enter Tryz.func115, Tryz.ntmps115
    go_wp2_with fail
    go_ret
    exact ⟨by rw [HM.out]; rfl, rfl⟩
theorem pr_at {w : World} {B : Nat} {A : Option Addr} {row : List Sp} (h : PrsAt w B A row) {i : Nat} {y : Sp} (hi : row[i]? = some y) : ∃ b o, A = some ⟨b, o, none⟩ ∧ b < B ∧ w.cell? ⟨b, o + i * 2, none⟩ = some (.int .i64 y.1) ∧ w.cell? ⟨b, o + i * 2 + 1, none⟩ = some (.int .i64 y.2) := by
  obtain ⟨b, o, rfl, hb, hc⟩ := pr_cells h (by intro e; rw [e] at hi; simp at hi)
  exact ⟨b, o, rfl, hb, (hc i y hi).1, (hc i y hi).2⟩
set_option maxRecDepth 100000 in
set_option maxHeartbeats 2000000 in
theorem wrong_X {X : Ctx} (K : X.Ok) {w : World} (h : X.At w) {t r o : Nat} (ht : t < X.n) (hr : 2 ≤ r ∧ r ≤ 5) (ho : o < manyF X.np X.nq r) (A' : Option Addr) (c' : Nat) (row : List Sp) (hrow : row.length = X.np) (hA : PrsAt w w.heap.size A' row) (hin : ∀ x ∈ row, spIn x) :
    Calls Tryz.prog 116 #[.pointer (some ⟨X.G, 0, none⟩), .int .i64 (r : Int), .int .i64 (t : Int), .slice A' X.np c', .int .i64 (o : Int)] w fun e w' => e = .returned (.bool (wroF X t row r o)) ∧ Below w.heap.size w w' := by
  have hcase : r = 2 ∨ r = 3 ∨ r = 4 ∨ r = 5 := by omega
  rcases hcase with rfl | rfl | rfl | rfl
  · have HC := Lib.hid (loses_X K h ht (show o < X.np from ho))
    have HV : Hid (wroF X t row 2 o = losF X.ps X.ts X.may t o) := Lib.hid rfl
    clear h hA K
    go_enter Tryz.func116, Tryz.ntmps116
    go_wp2_with fail
    refine HC.out.mono ?_
    rintro e w1 ⟨rfl, hb⟩
    have HB := Lib.hid hb
    clear hb
    go_wp2_with fail
    go_ret
    exact ⟨by rw [HV.out]; rfl, HB.out⟩
  · have HC := Lib.hid (fails_X K h ht (show o < X.np from ho))
    have HV : Hid (wroF X t row 3 o = faiF X.ps X.rs X.ts t o) := Lib.hid rfl
    clear h hA K
    go_enter Tryz.func116, Tryz.ntmps116
    go_wp2_with fail
    refine HC.out.mono ?_
    rintro e w1 ⟨rfl, hb⟩
    have HB := Lib.hid hb
    clear hb
    go_wp2_with fail
    go_ret
    exact ⟨by rw [HV.out]; rfl, HB.out⟩
  · have honp : o < X.np := ho
    obtain ⟨y, hy⟩ := get_of_lt (l := row) (k := o) (by rw [hrow]; exact honp)
    have HV : Hid (wroF X t row 4 o = sinB X.sink y.1) := Lib.hid (by show sinB X.sink (row.getD o (0, 0)).1 = _; rw [List.getD_eq_getElem?_getD, hy]; rfl)
    obtain ⟨b, o2, rfl, hb, d0, d1⟩ := pr_at hA hy
    have HC := Lib.hid (sinks_X K h y.1 y.2)
    have o0 : (0 : Int) ≤ (o : Int) := by omega
    have o1 : (o : Int) < (X.np : Int) := by omega
    clear h hA K hy
    go_enter Tryz.func116, Tryz.ntmps116
    go_wp2_with fail
    refine HC.out.mono ?_
    rintro e w1 ⟨rfl, hb⟩
    have HB := Lib.hid hb
    clear hb
    go_wp2_with fail
    go_ret
    exact ⟨by rw [HV.out]; rfl, HB.out⟩
  · have honq : o < X.nq := ho
    obtain ⟨q, hq⟩ := get_of_lt (l := X.qs) (k := o) (by rw [K.hq]; exact honq)
    obtain ⟨q1, q2, _⟩ := K.parts.qs o q hq
    obtain ⟨u1, u2⟩ := q
    simp only at q1 q2
    obtain ⟨k1, rfl⟩ : ∃ k : Nat, u1 = k := ⟨u1.toNat, by omega⟩
    obtain ⟨k2, rfl⟩ : ∃ k : Nat, u2 = k := ⟨u2.toNat, by omega⟩
    obtain ⟨y1, hy1⟩ := get_of_lt (l := row) (k := k1) (by rw [hrow]; omega)
    obtain ⟨y2, hy2⟩ := get_of_lt (l := row) (k := k2) (by rw [hrow]; omega)
    have HV : Hid (wroF X t row 5 o = tilB X.tilt y1 y2) := Lib.hid (by
      show tilB X.tilt (row.getD (X.qs.getD o (0, 0)).1.toNat (0, 0)) (row.getD (X.qs.getD o (0, 0)).2.toNat (0, 0)) = _
      rw [show X.qs.getD o (0, 0) = ((k1 : Int), (k2 : Int)) by rw [List.getD_eq_getElem?_getD, hq]; rfl]
      simp only [Int.toNat_natCast]
      rw [List.getD_eq_getElem?_getD, hy1, List.getD_eq_getElem?_getD, hy2]
      rfl)
    obtain ⟨b, o2, rfl, hb, d0, d1⟩ := pr_at hA hy1
    obtain ⟨b', o', e1, hb', d2, d3⟩ := pr_at hA hy2
    injection e1 with e1
    injection e1 with e1 e2
    subst e1 e2
    obtain ⟨bq, oq, hAQ, hbq, f0, f1⟩ := pr_at h.Q hq
    simp only at f0 f1
    have s1 := hin y1 (List.mem_of_getElem? hy1)
    have s2 := hin y2 (List.mem_of_getElem? hy2)
    obtain ⟨_, g1, _⟩ := look_cells h.g
    rw [hAQ] at g1
    have hb1 := (Below.refl w.heap.size w).alloc (Nat.le_refl _) (.cells #[.int .i64 (k1 : Int), .int .i64 (k2 : Int)] 74)
    have z1 := heap_alloc_new w (.cells #[.int .i64 (k1 : Int), .int .i64 (k2 : Int)] 74)
    obtain ⟨W, hW⟩ : ∃ z, w.alloc (.cells #[.int .i64 (k1 : Int), .int .i64 (k2 : Int)] 74) = z := ⟨_, rfl⟩
    rw [hW] at hb1 z1
    have HC := Lib.hid (fun u : KeptW W => Calls.in_kept u (tilts_X (h.up (hb1.trans (u.h.mono hb1.size))) y1 y2 s1 s2))
    have B0 : ∀ u : KeptW W, u.w.cell? ⟨w.heap.size, 0, none⟩ = some (.int .i64 (k1 : Int)) := fun u => by
      have := cell_of_row u.w w.heap.size 0 _ 74 (0, 0) ((u.h.block _ (heapsz z1)).trans z1)
      simpa using this
    have B1 : ∀ u : KeptW W, u.w.cell? ⟨w.heap.size, 1, none⟩ = some (.int .i64 (k2 : Int)) := fun u => by
      have := cell_of_row u.w w.heap.size 1 _ 74 (0, 0) ((u.h.block _ (heapsz z1)).trans z1)
      simpa using this
    have D0 : ∀ u : KeptW W, u.w.cell? ⟨b, o2 + k1 * 2, none⟩ = some (.int .i64 y1.1) := fun u => ((bcell (hb1.trans (u.h.mono hb1.size))).1 _ _ hb).trans d0
    have D1 : ∀ u : KeptW W, u.w.cell? ⟨b, o2 + k1 * 2 + 1, none⟩ = some (.int .i64 y1.2) := fun u => ((bcell (hb1.trans (u.h.mono hb1.size))).1 _ _ hb).trans d1
    have D2 : ∀ u : KeptW W, u.w.cell? ⟨b, o2 + k2 * 2, none⟩ = some (.int .i64 y2.1) := fun u => ((bcell (hb1.trans (u.h.mono hb1.size))).1 _ _ hb).trans d2
    have D3 : ∀ u : KeptW W, u.w.cell? ⟨b, o2 + k2 * 2 + 1, none⟩ = some (.int .i64 y2.2) := fun u => ((bcell (hb1.trans (u.h.mono hb1.size))).1 _ _ hb).trans d3
    have o0 : (0 : Int) ≤ (o : Int) := by omega
    have o1 : (o : Int) < (X.nq : Int) := by omega
    have k10 : (0 : Int) ≤ (k1 : Int) := by omega
    have k20 : (0 : Int) ≤ (k2 : Int) := by omega
    obtain ⟨_, k11⟩ := q1
    obtain ⟨_, k21⟩ := q2
    have HB := Lib.hid hb1
    clear h hA K hq hy1 hy2 hb1 z1 hAQ d0 d1 d2 d3
    go_enter Tryz.func116, Tryz.ntmps116
    go_wp2_with fail
    refine rk_region (by kernel_rfl) (by kernel_rfl) ?_
    repeat (go_big_quiet_step (first | (with_reducible exact HC.out _) | fail))
    refine wpQuiet_nil ?_
    rintro _ ⟨u, rfl⟩
    go_wp2_with fail
    go_ret
    exact ⟨by rw [HV.out]; rfl, HB.out.trans (u.h.mono HB.out.size)⟩
end Go.Proofs.YtdlaphlpimlgdaaGreatDoor
/- The first fault of a plan: the code's. -/
namespace Go.Proofs.YtdlaphlpimlgdaaGreatDoor
open Go.RowKit

def ofF (X : Ctx) (row : List Sp) (t r : Nat) : Option Nat := (List.range (manyF X.np X.nq r)).find? fun o => wroF X t row r o
def ruleF (X : Ctx) (t : Nat) (row : List Sp) : Option (Nat × Nat) := [2, 3, 4, 5].findSome? fun r => (ofF X row t r).map fun o => (r, o)
def fauF (X : Ctx) (LL : List (List Sp)) : Option (Nat × Nat × Nat) := (List.range X.n).findSome? fun t => (ruleF X t (LL.getD t [])).map fun p => (t, p.1, p.2)
def fauI : Option (Nat × Nat × Nat) → Int × Int × Int
  | some (t, r, o) => ((t : Int), (r : Int), (o : Int))
  | none => (0, 1, 0)
theorem findR_some {p : Nat → Bool} {N o : Nat} (h : o < N) (hp : p o = true) (hn : ∀ j, j < o → p j = false) : (List.range N).find? p = some o :=
  find_at (k := o) (by rw [List.getElem?_range h]) hp (fun j y hj hy => by
    rw [List.getElem?_range (by omega)] at hy
    injection hy with hy
    subst hy
    exact hn j hj)
theorem findR_none {p : Nat → Bool} {N : Nat} (hn : ∀ j, j < N → p j = false) : (List.range N).find? p = none :=
  find_no (fun j y hy => by
    have := (List.getElem?_eq_some_iff.1 hy).1
    rw [List.length_range] at this
    rw [List.getElem?_range this] at hy
    injection hy with hy
    subst hy
    exact hn j this)
theorem findS_at {α β : Type} {f : α → Option β} : ∀ {xs : List α} {k : Nat} {x : α} {y : β}, xs[k]? = some x → f x = some y → (∀ (j : Nat) (z : α), j < k → xs[j]? = some z → f z = none) → xs.findSome? f = some y
  | [], k, x, y, h, _, _ => by simp at h
  | a :: xs, 0, x, y, h, hf, _ => by
    simp at h
    subst h
    simp [hf]
  | a :: xs, k + 1, x, y, h, hf, hn => by
    have h0 := hn 0 a (by omega) rfl
    simp only [List.findSome?_cons, h0]
    exact findS_at (k := k) (by simpa using h) hf (fun j z hj hz => hn (j + 1) z (by omega) (by simpa using hz))
theorem findS_no {α β : Type} {f : α → Option β} : ∀ {xs : List α}, (∀ (j : Nat) (z : α), xs[j]? = some z → f z = none) → xs.findSome? f = none
  | [], _ => rfl
  | a :: xs, hn => by
    have h0 := hn 0 a rfl
    simp only [List.findSome?_cons, h0]
    exact findS_no (fun j z hz => hn (j + 1) z (by simpa using hz))
theorem rule_some {X : Ctx} {t r o : Nat} {row : List Sp} (hr : 2 ≤ r ∧ r ≤ 5) (h : ofF X row t r = some o) (hn : ∀ r', 2 ≤ r' → r' < r → ofF X row t r' = none) : ruleF X t row = some (r, o) := by
  refine findS_at (k := r - 2) (x := r) ?_ (by rw [h]; rfl) (fun j z hj hz => ?_)
  · have : r = 2 ∨ r = 3 ∨ r = 4 ∨ r = 5 := by omega
    rcases this with rfl | rfl | rfl | rfl <;> rfl
  · have hz2 : z = j + 2 := by
      have : j = 0 ∨ j = 1 ∨ j = 2 := by omega
      rcases this with rfl | rfl | rfl <;> simp at hz <;> omega
    subst hz2
    rw [hn (j + 2) (by omega) (by omega)]
    rfl
theorem rule_none {X : Ctx} {t : Nat} {row : List Sp} (hn : ∀ r', 2 ≤ r' → r' < 6 → ofF X row t r' = none) : ruleF X t row = none := by
  refine findS_no (fun j z hz => ?_)
  have hj := (List.getElem?_eq_some_iff.1 hz).1
  simp at hj
  have hz2 : z = j + 2 := by
    have : j = 0 ∨ j = 1 ∨ j = 2 ∨ j = 3 := by omega
    rcases this with rfl | rfl | rfl | rfl <;> simp at hz <;> omega
  subst hz2
  rw [hn (j + 2) (by omega) (by omega)]
  rfl
theorem fau_some {X : Ctx} {LL : List (List Sp)} {t r o : Nat} (ht : t < X.n) (h : ruleF X t (LL.getD t []) = some (r, o)) (hn : ∀ t', t' < t → ruleF X t' (LL.getD t' []) = none) : fauF X LL = some (t, r, o) :=
  findS_at (k := t) (x := t) (by rw [List.getElem?_range ht]) (by rw [h]; rfl) (fun j z hj hz => by
    rw [List.getElem?_range (by omega)] at hz
    injection hz with hz
    subst hz
    rw [hn j hj]
    rfl)
theorem fau_none {X : Ctx} {LL : List (List Sp)} (hn : ∀ t', t' < X.n → ruleF X t' (LL.getD t' []) = none) : fauF X LL = none :=
  findS_no (fun j z hz => by
    have := (List.getElem?_eq_some_iff.1 hz).1
    rw [List.length_range] at this
    rw [List.getElem?_range this] at hz
    injection hz with hz
    subst hz
    rw [hn j this]
    rfl)
/-! ### Levels in bounds -/
theorem lvI_in {f : Nat → Nat → Int} (hf : ∀ t i, 0 ≤ f t i ∧ f t i ≤ 1000) (plan : List Int) (t i : Nat) : -1000 * ((t : Int) + 1) ≤ lvI f plan t i ∧ lvI f plan t i ≤ 0 := by
  have h1 := hdI_in hf plan t i
  have h2 := hf t i
  unfold lvI
  omega
theorem spanL_at {ps : List Pil} {rs : List Rw} {ts : List (List Sp)} {plan : List Int} {t : Nat} (ht : t < plan.length) :
    (spanL ps rs ts plan)[t]? = some ((List.range ps.length).map fun i => (lvI (mostF ps rs ts) plan t i, lvI (leastF ps rs ts) plan t i)) := by
  unfold spanL zipL lvT
  rw [List.getElem?_zipWith, List.getElem?_map, List.getElem?_map, List.getElem?_range ht]
  simp only [Option.map_some]
  congr 1
  unfold lvL
  rw [List.zip_map']
theorem Ctx.Ok.rows {X : Ctx} (K : X.Ok) {plan : List Int} (hp : plan.length = X.n) {t : Nat} (ht : t < X.n) :
    ∃ row, (spanL X.ps X.rs X.ts plan)[t]? = some row ∧ row.length = X.np ∧ ∀ x ∈ row, spIn x := by
  refine ⟨_, spanL_at (by rw [hp]; exact ht), by simp [K.hp], fun x hx => ?_⟩
  obtain ⟨i, _, rfl⟩ := List.mem_map.1 hx
  have h1 := lvI_in (fun t i => K.most_in t i) plan t i
  have h2 := lvI_in (fun t i => K.least_in t i) plan t i
  have n10 := K.n10
  rw [← most_eq, ← least_eq]
  unfold spIn
  simp only
  omega
set_option maxRecDepth 100000 in
set_option maxHeartbeats 2000000 in
theorem firstFault_X {X : Ctx} (K : X.Ok) {w : World} (h : X.At w) (A2 : Option Addr) (m c2 : Nat) (plan : List Int) (hm : plan.length = m) (hmn : m = X.n) (hL : IntsAt w w.heap.size A2 plan) (hP : planB X.np plan = true) :
    Calls Tryz.prog 85 #[.pointer (some ⟨X.G, 0, none⟩), .slice A2 m c2] w fun e w' => e = .returned (.agg #[.int .i64 (fauI (fauF X (spanL X.ps X.rs X.ts plan))).1, .int .i64 (fauI (fauF X (spanL X.ps X.rs X.ts plan))).2.1, .int .i64 (fauI (fauF X (spanL X.ps X.rs X.ts plan))).2.2]) ∧ Below w.heap.size w w' := by
  have HK := Lib.hid K
  have n10 := K.n10
  have np6 := K.np6
  have q10 := K.parts.q10
  have z0 := heap_alloc_new w (.cells #[.int .i64 0, .int .i64 0, .int .i64 0] 64)
  have hb0 := (Below.refl w.heap.size w).alloc (Nat.le_refl _) (.cells #[.int .i64 0, .int .i64 0, .int .i64 0] 64)
  have HX := Lib.hid (h.up hb0); have HL := Lib.hid (RowAt.up (k := 1) (R := intR) hL hb0)
  have Z0 := Lib.hid z0; have HB0 := Lib.hid hb0
  have HM := Lib.hid hm; have HP := Lib.hid hP; have HMN := Lib.hid hmn
  clear h hL hm hP z0 hb0 K hmn
  obtain ⟨LL, hLL⟩ : ∃ z, spanL X.ps X.rs X.ts plan = z := ⟨_, rfl⟩
  have HLL := Lib.hid hLL
  rw [hLL]
  obtain ⟨R, hR⟩ : ∃ z, fauI (fauF X LL) = z := ⟨_, rfl⟩
  have HR := Lib.hid hR
  rw [hR]
  clear hR hLL
  go_enter Tryz.func85, Tryz.ntmps85
  go_wp2_with fail
  go_step3
  go_wp2_with fail
  refine (levels_any HK.out A2 m c2 plan _ HX.out HM.out (by rw [HMN.out]; exact Nat.le_refl _) HL.out HP.out).mono ?_
  rintro e w1 ⟨A3, c3, rfl, h1, h2, h3⟩
  rw [HLL.out] at h1
  have z1 := (h3.block _ (heapsz Z0.out)).trans Z0.out
  have hb1 := HB0.out.trans (h3.mono HB0.out.size)
  have hx1 := HX.out.up h3
  clear h3 HX HL Z0 HB0
  have hal := (Below.refl w1.heap.size w1).alloc (Nat.le_refl _) (.cells #[.int .i64 0, .int .i64 1, .int .i64 0] 64)
  go_wp2_with fail
  have zF := heap_alloc_new w1 (.cells #[.int .i64 0, .int .i64 1, .int .i64 0] 64)
  have zR := (hal.block _ (heapsz z1)).trans z1
  have HXW := Lib.hid (hx1.up hal); have HSP := Lib.hid (h1.up hal)
  have HBW := Lib.hid (hb1.trans (hal.mono hb1.size))
  have HF := Lib.hid zF; have HZR := Lib.hid zR
  have HLT : Hid (w.heap.size ≤ w1.heap.size) := Lib.hid hb1.size
  have HNE : Hid (w.heap.size ≠ w1.heap.size) := Lib.hid (by have := heapsz z1; omega)
  clear h1 z1 hb1 hx1 hal zF zR
  generalize w1.alloc (.cells #[.int .i64 0, .int .i64 1, .int .i64 0] 64) = W at HXW HSP HBW HF HZR ⊢
  have g6 := (look_cells HXW.out.g).2.2.2.2.2.2
  go_step3
  go_wp2_with fail
  clear g6
  have HEND : Hid (∀ wr, Below W.heap.size W wr → wr.heap[w1.heap.size]? = some (.cells #[.int .i64 0, .int .i64 1, .int .i64 0] 64 (0, 0)) ∧ wr.heap[w.heap.size]? = some (.cells #[.int .i64 0, .int .i64 0, .int .i64 0] 64 (0, 0))) :=
    Lib.hid fun wr hb => ⟨(hb.block _ (heapsz HF.out)).trans HF.out, (hb.block _ (heapsz HZR.out)).trans HZR.out⟩
  go_loopw [19] (fun i wr => ∃ t : Nat, t ≤ X.n ∧ i = .int .i64 t ∧ Below W.heap.size W wr ∧ ∀ t', t' < t → ruleF X t' (LL.getD t' []) = none) (fun i _ => X.n - (intOf i).toNat)
  case atStart => exact ⟨0, Nat.zero_le _, rfl, Below.refl _ _, fun _ h => absurd h (Nat.not_lt_zero _)⟩
  case round =>
    obtain ⟨t, ht, rfl, hbr, hno⟩ := hrel
    have HBR := Lib.hid hbr; have HNO := Lib.hid hno
    clear hbr hno
    by_cases hlt : t < X.n
    · have ht0 : (0 : Int) ≤ (t : Int) := by omega
      have ht1 : (t : Int) < (X.n : Int) := by omega
      have ht2 : (t : Int) < (m : Int) := by have := HMN.out; omega
      obtain ⟨row, hrow, hlen, hin⟩ := HK.out.rows (plan := plan) (by rw [HM.out, HMN.out]) hlt
      rw [HLL.out] at hrow
      have HROW : Hid (LL.getD t [] = row) := Lib.hid (by rw [List.getD_eq_getElem?_getD, hrow]; rfl)
      obtain ⟨b3, o3, rfl, hb3, hc3⟩ := HSP.out (by intro e; rw [e] at hrow; simp at hrow)
      obtain ⟨A', c', d1, d2, d3, d4⟩ := hc3 t row hrow
      rw [hlen] at d1
      have HD1 := Lib.hid d1; have HD2 := Lib.hid d2; have HIN := Lib.hid hin; have HLEN := Lib.hid hlen; have HB3 := Lib.hid hb3
      clear hc3 d1 d2 d3 d4 hrow hin hlen hb3
      go_wp2_with fail
      rename World => wo
      go_loopw [8] (fun i wq => ∃ r : Nat, 2 ≤ r ∧ r ≤ 6 ∧ i = .int .i64 r ∧ Below W.heap.size W wq ∧ ∀ r', 2 ≤ r' → r' < r → ofF X row t r' = none) (fun i _ => 6 - (intOf i).toNat)
      case atStart => exact ⟨2, Nat.le_refl _, by decide, rfl, HBR.out, fun _ h1 h2 => absurd h2 (by omega)⟩
      case round =>
        clear HBR
        obtain ⟨r, hr2, hr6, rfl, hbr, hnr⟩ := hrel
        have HBR := Lib.hid hbr; have HNR := Lib.hid hnr
        clear hbr hnr
        by_cases hr5 : r ≤ 5
        · have hr1 : (r : Int) ≤ 5 := by omega
          obtain ⟨N, hN⟩ : ∃ z, manyF X.np X.nq r = z := ⟨_, rfl⟩
          have HMA := Lib.hid (many_X (HXW.out.up HBR.out) r)
          have HN := Lib.hid hN
          rw [hN] at HMA
          have hN10 : N ≤ 10 := by rw [← hN]; unfold manyF; split <;> omega
          clear hN
          go_wp2_with (first
            | (go_at_call 115; refine HMA.out.mono ?_; rintro e w' ⟨rfl, rfl⟩)
            | fail)
          clear HMA
          rename World => wp
          go_loopw [29] (fun i wq => ∃ o : Nat, o ≤ N ∧ i = .int .i64 o ∧ Below W.heap.size W wq ∧ ∀ j, j < o → wroF X t row r j = false) (fun i _ => N - (intOf i).toNat)
          case atStart => exact ⟨0, Nat.zero_le _, rfl, HBR.out, fun _ h => absurd h (Nat.not_lt_zero _)⟩
          case round =>
            clear HBR
            obtain ⟨o, ho, rfl, hbr, hnw⟩ := hrel
            have HBR := Lib.hid hbr; have HNW := Lib.hid hnw
            have d1 := ((bcell hbr).1 _ _ HB3.out).trans HD1.out
            clear hbr hnw
            by_cases hoN : o < N
            · have ho0 : (0 : Int) ≤ (o : Int) := by omega
              have ho1 : (o : Int) < (N : Int) := by omega
              have HW := Lib.hid (wrong_X HK.out (HXW.out.up HBR.out) (t := t) (r := r) (o := o) hlt ⟨hr2, hr5⟩ (by rw [HN.out]; exact hoN) A' c' row HLEN.out (HD2.out.up HBR.out) HIN.out)
              go_wp2_with fail
              refine HW.out.mono ?_
              rintro e w5 ⟨rfl, hb5⟩
              have HB5 := Lib.hid (HBR.out.trans (hb5.mono HBR.out.size))
              clear hb5 d1 HW
              cases hwr : wroF X t row r o with
              | true =>
                have HR1 : Hid (R = ((t : Int), (r : Int), (o : Int))) := Lib.hid (by
                  rw [← HR.out, fau_some (t := t) (r := r) (o := o) hlt (by rw [HROW.out]; exact rule_some ⟨hr2, hr5⟩ (findR_some (by rw [HN.out]; exact hoN) hwr HNW.out) HNR.out) HNO.out]
                  rfl)
                obtain ⟨zF, zR⟩ := HEND.out w5 HB5.out
                obtain ⟨F0, F1, F2⟩ := box3_cells zF
                have fF : ∀ i, w5.frozen? ⟨w1.heap.size, i, none⟩ = false := fun i => box3_frozen zF i
                have fF0 := fF 0; have fF1 := fF 1; have fF2 := fF 2
                obtain ⟨G0, G1, G2⟩ := set3 zF (.int .i64 (t : Int)) (.int .i64 (r : Int)) (.int .i64 (o : Int))
                have zR2 : (((w5.setCell ⟨w1.heap.size, 0, none⟩ (.int .i64 (t : Int))).setCell ⟨w1.heap.size, 1, none⟩ (.int .i64 (r : Int))).setCell ⟨w1.heap.size, 2, none⟩ (.int .i64 (o : Int))).heap[w.heap.size]? = some (.cells #[.int .i64 0, .int .i64 0, .int .i64 0] 64 (0, 0)) :=
                  (Below.heap_setCell _ _ _ _ (HNE.out)).trans ((Below.heap_setCell _ _ _ _ (HNE.out)).trans ((Below.heap_setCell _ _ _ _ (HNE.out)).trans zR))
                have HBS := Lib.hid ((((HBW.out.trans (HB5.out.mono HBW.out.size)).setCell (p := ⟨w1.heap.size, 0, none⟩) HLT.out (.int .i64 (t : Int))).setCell (p := ⟨w1.heap.size, 1, none⟩) HLT.out (.int .i64 (r : Int))).setCell (p := ⟨w1.heap.size, 2, none⟩) HLT.out (.int .i64 (o : Int)))
                obtain ⟨R0, R1, R2⟩ := box3_cells zR2
                have fR := fun i => box3_frozen zR2 i
                have fR0 := fR 0; have fR1 := fR 1; have fR2 := fR 2
                obtain ⟨E0, E1, E2⟩ := set3 zR2 (.int .i64 (t : Int)) (.int .i64 (r : Int)) (.int .i64 (o : Int))
                clear zF zR fF fR zR2
                go_wp2_with fail
                try rw [Exit.noGoto_ret]
                exact bodyPost_ret (v := .agg #[.int .i64 (t : Int), .int .i64 (r : Int), .int .i64 (o : Int)]) (by simp [results, Tryz.results85, go_sem, E0, E1, E2]) rfl ⟨by rw [HR1.out], ((HBS.out.setCell (p := ⟨w.heap.size, 0, none⟩) (Nat.le_refl _) _).setCell (p := ⟨w.heap.size, 1, none⟩) (Nat.le_refl _) _).setCell (p := ⟨w.heap.size, 2, none⟩) (Nat.le_refl _) _⟩
              | false =>
                have HWR := Lib.hid hwr
                clear hwr
                go_wp2_with fail
                exact ⟨⟨o + 1, by omega, by go_num, HB5.out, fun j hj => by
                  by_cases hjo : j < o
                  · exact HNW.out j hjo
                  · rw [show j = o by omega]; exact HWR.out⟩, by simp [intOf]; omega⟩
            · have hoe : o = N := by omega
              have ho1 : ¬ (o : Int) < (N : Int) := by omega
              clear d1
              subst hoe
              go_wp2_with fail
              exact ⟨⟨r + 1, by omega, by omega, by go_num, HBR.out, fun r' h1 h2 => by
                by_cases hrr : r' < r
                · exact HNR.out r' h1 hrr
                · have : r' = r := by omega
                  subst this
                  exact findR_none (fun j hj => HNW.out j (by rw [← HN.out]; exact hj))⟩, by simp [intOf]; omega⟩
        · have hr1 : ¬ (r : Int) ≤ 5 := by omega
          have HRN : Hid (ruleF X t row = none) := Lib.hid (rule_none (fun r' h1 h2 => HNR.out r' h1 (by omega)))
          go_wp2_with fail
          exact ⟨⟨t + 1, by omega, by go_num, HBR.out, fun t' h1 => by
            by_cases htt : t' < t
            · exact HNO.out t' htt
            · have : t' = t := by omega
              subst this
              rw [HROW.out]
              exact HRN.out⟩, by simp [intOf]; omega⟩
    · have hte : t = X.n := by omega
      have ht1 : ¬ (t : Int) < (X.n : Int) := by omega
      have HR1 : Hid (R = (0, 1, 0)) := Lib.hid (by
        rw [← HR.out, fau_none (fun t' h1 => HNO.out t' (by omega))]
        rfl)
      obtain ⟨zF, zR⟩ := HEND.out wr HBR.out
      obtain ⟨F0, F1, F2⟩ := box3_cells zF
      obtain ⟨R0, R1, R2⟩ := box3_cells zR
      have fR := fun i => box3_frozen zR i
      have fR0 := fR 0; have fR1 := fR 1; have fR2 := fR 2
      obtain ⟨E0, E1, E2⟩ := set3 zR (.int .i64 0) (.int .i64 1) (.int .i64 0)
      have HBS := Lib.hid (HBW.out.trans (HBR.out.mono HBW.out.size))
      clear zF zR fR
      go_wp2_with fail
      try rw [Exit.noGoto_ret]
      exact bodyPost_ret (v := .agg #[.int .i64 0, .int .i64 1, .int .i64 0]) (by simp [results, Tryz.results85, go_sem, E0, E1, E2]) rfl ⟨by rw [HR1.out], ((HBS.out.setCell (p := ⟨w.heap.size, 0, none⟩) (Nat.le_refl _) _).setCell (p := ⟨w.heap.size, 1, none⟩) (Nat.le_refl _) _).setCell (p := ⟨w.heap.size, 2, none⟩) (Nat.le_refl _) _⟩
end Go.Proofs.YtdlaphlpimlgdaaGreatDoor
/- Fault: the exported function. -/
namespace Go.Proofs.YtdlaphlpimlgdaaGreatDoor
open Go.RowKit

def fauV (p : Int × Int × Int) : Value := .agg #[.int .i64 p.1, .int .i64 p.2.1, .int .i64 p.2.2]
def FauPost (X : Ctx) (plan : List Int) (w : World) (I : Int) (e : Ending) (w' : World) : Prop :=
  e = .returned (.tuple #[fauV (if I = 0 then fauI (fauF X (spanL X.ps X.rs X.ts plan)) else (0, 0, 0)), .int .i64 I]) ∧ Below w.heap.size w w'
set_option maxRecDepth 100000 in
set_option maxHeartbeats 2000000 in
theorem Fault_any {X : Ctx} {w : World} (h : X.In w) (A2 : Option Addr) (m c2 : Nat) (plan : List Int) (hm : plan.length = m) (hm2 : m ≤ maxLen) (hL : IntsAt w w.heap.size A2 plan) :
    Calls Tryz.prog 37 #[X.sv, X.tv, .slice A2 m c2] w (FauPost X plan w (planI X.sit X.ts plan)) := by
  obtain ⟨z0, hb0⟩ := site_new X w
  have zF := heap_alloc_new (w.alloc (.cells X.cells 26)) (.cells #[.int .i64 0, .int .i64 0, .int .i64 0] 64)
  have hbF := (Below.refl (w.alloc (.cells X.cells 26)).heap.size (w.alloc (.cells X.cells 26))).alloc (Nat.le_refl _) (.cells #[.int .i64 0, .int .i64 0, .int .i64 0] 64)
  have z0' := (hbF.block _ (heapsz z0)).trans z0
  have hb := hb0.trans (hbF.mono hb0.size)
  have HI := Lib.hid (h.up hb); have HB := Lib.hid hb
  have HM := Lib.hid hm; have HL := Lib.hid (RowAt.up (k := 1) (R := intR) hL hb)
  have Z0 := Lib.hid z0'; have ZF := Lib.hid zF
  have HLT : Hid (w.heap.size ≤ (w.alloc (.cells X.cells 26)).heap.size) := Lib.hid hb0.size
  obtain ⟨b1, hb1e⟩ : ∃ z, (w.alloc (.cells X.cells 26)).heap.size = z := ⟨_, rfl⟩
  obtain ⟨s0, s1, s2, s3, s4, s5⟩ := site_box z0'
  clear h hL hm z0 hb0 zF hbF hb
  obtain ⟨I, hI⟩ : ∃ z, planI X.sit X.ts plan = z := ⟨_, rfl⟩
  have HPI := Lib.hid hI
  rw [hI]
  clear hI
  go_enter Tryz.func37, Tryz.ntmps37
  go_wp2_with fail
  have ZF1 := ZF.out
  have HLT1 := HLT.out
  rw [hb1e] at ZF1 HLT1
  have HF := Lib.hid ZF1; have HLB := Lib.hid HLT1
  clear ZF HLT ZF1 HLT1 hb1e
  refine (checkPlan_X HI.out A2 m c2 plan HM.out hm2 HL.out).mono ?_
  rintro e w1 ⟨rfl, hb1⟩
  rw [HPI.out]
  have HB1 := Lib.hid (HB.out.trans (hb1.mono HB.out.size))
  have HI1 := Lib.hid (HI.out.up hb1); have HL1 := Lib.hid (RowAt.up (k := 1) (R := intR) HL.out hb1)
  have z1 := (hb1.block _ (heapsz Z0.out)).trans Z0.out
  have zf1 := (hb1.block _ (heapsz HF.out)).trans HF.out
  have HF1 := Lib.hid zf1
  clear s0 s1 s2 s3 s4 s5 z0' hb1 HI HL Z0 HB HF
  obtain ⟨s0, s1, s2, s3, s4, s5⟩ := site_box z1
  clear z1
  by_cases h0 : I = 0
  · subst h0
    clear zf1
    have HZ := Lib.hid (planI_0 HPI.out)
    go_wp2_with fail
    refine (look_X HI1.out).mono ?_
    rintro e w2 ⟨G, rfl, hX, hb2⟩
    have HB2 := Lib.hid (HB1.out.trans (hb2.mono HB1.out.size))
    have HX := Lib.hid hX; have HL2 := Lib.hid (RowAt.up (k := 1) (R := intR) HL1.out hb2)
    have HF2 := Lib.hid ((hb2.block _ (heapsz HF1.out)).trans HF1.out)
    have HMN : Hid (m = X.n) := Lib.hid (by rw [← HM.out, HZ.out.2.1, HI1.out.hl])
    have HPB : Hid (planB X.np plan = true) := Lib.hid (by rw [← HI1.out.hp]; exact HZ.out.2.2)
    clear hX hb2 s0 s1 s2 s3 s4 s5 HF1
    go_wp2_with fail
    refine (firstFault_X (X := X.up G) (HI1.out.ok HZ.out.1 G) HX.out A2 m c2 plan HM.out HMN.out HL2.out HPB.out).mono ?_
    rintro e w3 ⟨rfl, h3⟩
    obtain ⟨R, hR⟩ : ∃ z, fauI (fauF X (spanL X.ps X.rs X.ts plan)) = z := ⟨_, rfl⟩
    have HR : Hid (fauI (fauF (X.up G) (spanL (X.up G).ps (X.up G).rs (X.up G).ts plan)) = R) := Lib.hid hR
    have HR2 := Lib.hid hR
    have zR := (h3.block _ (heapsz HF2.out)).trans HF2.out
    have HB3 := Lib.hid (HB2.out.trans (h3.mono HB2.out.size))
    rw [HR.out]
    clear hR HR h3 HF2
    obtain ⟨R0, R1, R2⟩ := box3_cells zR
    have fR := fun i => box3_frozen zR i
    have fR0 := fR 0; have fR1 := fR 1; have fR2 := fR 2
    obtain ⟨E0, E1, E2⟩ := set3 zR (.int .i64 R.1) (.int .i64 R.2.1) (.int .i64 R.2.2)
    clear zR fR
    go_wp2_with fail
    exact bodyPost_ret (v := .tuple #[fauV R, .int .i64 0]) (by simp [results, Tryz.results37, go_sem, E0, E1, E2, fauV]) rfl ⟨by rw [if_pos rfl, HR2.out], ((HB3.out.setCell (p := ⟨b1, 0, none⟩) HLB.out _).setCell (p := ⟨b1, 1, none⟩) HLB.out _).setCell (p := ⟨b1, 2, none⟩) HLB.out _⟩
  · obtain ⟨R0, R1, R2⟩ := box3_cells zf1
    have fR := fun i => box3_frozen zf1 i
    have fR0 := fR 0; have fR1 := fR 1; have fR2 := fR 2
    obtain ⟨E0, E1, E2⟩ := set3 zf1 (.int .i64 0) (.int .i64 0) (.int .i64 0)
    clear zf1 fR
    go_wp2_with fail
    exact bodyPost_ret (v := .tuple #[fauV (0, 0, 0), .int .i64 I]) (by simp [results, Tryz.results37, go_sem, E0, E1, E2, fauV]) rfl ⟨by rw [if_neg h0], ((HB1.out.setCell (p := ⟨b1, 0, none⟩) HLB.out _).setCell (p := ⟨b1, 1, none⟩) HLB.out _).setCell (p := ⟨b1, 2, none⟩) HLB.out _⟩
end Go.Proofs.YtdlaphlpimlgdaaGreatDoor
