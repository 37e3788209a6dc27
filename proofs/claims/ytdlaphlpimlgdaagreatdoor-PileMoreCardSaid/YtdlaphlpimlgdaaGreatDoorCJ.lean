/- The first thing that can be wrong in a year, as the specification has it. -/
import Derived.Test.YtdlaphlpimlgdaaGreatDoorCI
namespace Go.Proofs.YtdlaphlpimlgdaaGreatDoor
open Go.RowKit

/-- Two boxes are made, and filled. -/
structure S2 (wS : World) (pv : Nat → Sp) (done : Nat → Bool) (g : Nat → Nat) (w : World) : Prop where
  bel : Below wS.heap.size wS w
  box : ∀ j, j < 2 → done (18 + j) = true → wS.heap.size ≤ g j ∧ w.heap[g j]? = some (.cells (if done (20 + j) = true then #[.int .i64 (pv j).1, .int .i64 (pv j).2] else #[.int .i64 0, .int .i64 0]) 42 (0, 0))
  sep : ∀ i j, i < 2 → j < 2 → i ≠ j → done (18 + i) = true → done (18 + j) = true → g i ≠ g j
  ord : ∀ j, j < 2 → done (20 + j) = true → done (18 + j) = true
def updN (f : Nat → Nat) (j v : Nat) : Nat → Nat := fun i => if i = j then v else f i
theorem updN_at (f : Nat → Nat) (j v : Nat) : updN f j v j = v := if_pos rfl
theorem updN_ne {f : Nat → Nat} {i j v : Nat} (h : i ≠ j) : updN f j v i = f i := if_neg h
theorem S2.quiet {wS w : World} {pv : Nat → Sp} {done : Nat → Bool} {g : Nat → Nat} (h : S2 wS pv done g w) {i : Nat} (hi : i < 18) : S2 wS pv (updB done i) g w := by
  have e : ∀ m, 18 ≤ m → updB done i m = done m := fun m hm => updB_ne (by omega)
  refine ⟨h.bel, fun j hj hd => ?_, fun a b ha hb hab da db => ?_, fun j hj hd => ?_⟩
  · rw [e _ (by omega)] at hd ⊢
    exact h.box j hj hd
  · rw [e _ (by omega)] at da db
    exact h.sep a b ha hb hab da db
  · rw [e _ (by omega)] at hd ⊢
    exact h.ord j hj hd
theorem S2.make {wS w : World} {pv : Nat → Sp} {done : Nat → Bool} {g : Nat → Nat} (h : S2 wS pv done g w) {j : Nat} (hj : j < 2) (hu : done (18 + j) = false) : S2 wS pv (updB done (18 + j)) (updN g j w.heap.size) (w.alloc (.cells #[.int .i64 0, .int .i64 0] 42)) := by
  have hb := (Below.refl w.heap.size w).alloc (Nat.le_refl _) (.cells #[.int .i64 0, .int .i64 0] 42)
  have e6 : ∀ a, a < 2 → updB done (18 + j) (20 + a) = done (20 + a) := fun a ha => updB_ne (by omega)
  have ns : done (20 + j) = false := by
    cases hd : done (20 + j) with
    | false => rfl
    | true => have := h.ord j hj hd; rw [hu] at this; exact absurd this (by decide)
  refine ⟨h.bel.trans (hb.mono h.bel.size), fun a ha hd => ?_, fun a b ha hb' hab da db => ?_, fun a ha hd => ?_⟩
  · rw [e6 a ha]
    by_cases haj : a = j
    · subst haj
      rw [updN_at, ns]
      exact ⟨h.bel.size, heap_alloc_new w _⟩
    · rw [updB_ne (by omega)] at hd
      obtain ⟨b1, b2⟩ := h.box a ha hd
      rw [updN_ne haj]
      exact ⟨b1, (hb.block _ (Array.getElem?_eq_some_iff.1 b2).1).trans b2⟩
  · by_cases haj : a = j
    · subst haj
      rw [updB_ne (by omega)] at db
      rw [updN_at, updN_ne (Ne.symm hab)]
      have := (Array.getElem?_eq_some_iff.1 (h.box b hb' db).2).1
      omega
    · rw [updB_ne (by omega)] at da
      rw [updN_ne haj]
      by_cases hbj : b = j
      · subst hbj
        rw [updN_at]
        have := (Array.getElem?_eq_some_iff.1 (h.box a ha da).2).1
        omega
      · rw [updB_ne (by omega)] at db
        rw [updN_ne hbj]
        exact h.sep a b ha hb' hab da db
  · rw [e6 a ha] at hd
    have := h.ord a ha hd
    unfold updB
    split
    · rfl
    · exact this
theorem S2.fill {wS w : World} {pv : Nat → Sp} {done : Nat → Bool} {g : Nat → Nat} (h : S2 wS pv done g w) {j : Nat} (hj : j < 2) (hd : done (18 + j) = true) (hu : done (20 + j) = false) :
    S2 wS pv (updB done (20 + j)) g ((w.setCell ⟨g j, 0, none⟩ (.int .i64 (pv j).1)).setCell ⟨g j, 1, none⟩ (.int .i64 (pv j).2)) := by
  obtain ⟨b1, b2⟩ := h.box j hj hd
  rw [hu] at b2
  have e3 : ∀ a, a < 2 → updB done (20 + j) (18 + a) = done (18 + a) := fun a ha => updB_ne (by omega)
  have hset : ((w.setCell ⟨g j, 0, none⟩ (.int .i64 (pv j).1)).setCell ⟨g j, 1, none⟩ (.int .i64 (pv j).2)).heap[g j]? = some (.cells #[.int .i64 (pv j).1, .int .i64 (pv j).2] 42 (0, 0)) := by
    simp [World.setCell, Array.getElem?_modify, b2]
  refine ⟨(h.bel.setCell (p := ⟨g j, 0, none⟩) b1 _).setCell (p := ⟨g j, 1, none⟩) b1 _, fun a ha hd' => ?_, fun a b ha hb' hab da db => ?_, fun a ha hd' => ?_⟩
  · rw [e3 a ha] at hd'
    obtain ⟨c1, c2⟩ := h.box a ha hd'
    by_cases haj : a = j
    · subst haj
      rw [updB_at, if_pos rfl]
      exact ⟨c1, hset⟩
    · rw [updB_ne (by omega)]
      have hne := h.sep a j ha hj haj hd' hd
      exact ⟨c1, (Below.heap_setCell _ _ _ _ hne).trans ((Below.heap_setCell _ _ _ _ hne).trans c2)⟩
  · rw [e3 a ha] at da
    rw [e3 b hb'] at db
    exact h.sep a b ha hb' hab da db
  · rw [e3 a ha]
    by_cases haj : a = j
    · subst haj; exact hd
    · rw [updB_ne (by omega)] at hd'
      exact h.ord a ha hd'
/-- What is asked of an operation. -/
abbrev Ask2 (wS : World) (pv : Nat → Sp) (ops : Array Oper) (ρ : (Nat → Nat) → Tmp → Value) (done : Nat → Bool) (g : Nat → Nat) (w : World) (i : Nat) (o : Oper) : Prop :=
  Region.wanted o (yieldedBy ops (ρ g)) = true ∧ Yield Tryz.prog (fun v w' => ∃ g', S2 wS pv (updB done i) g' w' ∧ (∀ d, o.dst = some d → ρ g' d = v) ∧ ∀ t, o.dst ≠ some t → ρ g' t = ρ g t) ((execOp (evalBy (ρ g)) o).run Tryz.prog w)
theorem quiet2 {wS w : World} {pv : Nat → Sp} {ops : Array Oper} {ρ : (Nat → Nat) → Tmp → Value} {done : Nat → Bool} {g : Nat → Nat} {i : Nat} {o : Oper} (h : S2 wS pv done g w) (d : Tmp) (hd : o.dst = some d) (hi : i < 18) (hg : Region.wanted o (yieldedBy ops (ρ g)) = true)
    (he : (execOp (evalBy (ρ g)) o).run Tryz.prog w = .ok (.value (ρ g d)) w) : Ask2 wS pv ops ρ done g w i o := by
  refine ⟨hg, ?_⟩
  rw [he]
  exact ⟨g, h.quiet hi, fun e hE => by rw [hd] at hE; injection hE with hE; subst hE; rfl, fun _ _ => rfl⟩
theorem make2 {wS w : World} {pv : Nat → Sp} {ops : Array Oper} {ρ : (Nat → Nat) → Tmp → Value} {done : Nat → Bool} {g : Nat → Nat} {i : Nat} {o : Oper} (h : S2 wS pv done g w) (j : Nat) (hj : j < 2) (d : Tmp) (hd : o.dst = some d) (hi : i = 18 + j) (hu : done i = false) (hg : Region.wanted o (yieldedBy ops (ρ g)) = true)
    (he : (execOp (evalBy (ρ g)) o).run Tryz.prog w = .ok (.value (.pointer (some ⟨w.heap.size, 0, none⟩))) (w.alloc (.cells #[.int .i64 0, .int .i64 0] 42)))
    (h1 : ∀ g' : Nat → Nat, ρ g' d = .pointer (some ⟨g' j, 0, none⟩)) (h2 : ∀ (t : Tmp) (v : Nat), t ≠ d → ρ (updN g j v) t = ρ g t) : Ask2 wS pv ops ρ done g w i o := by
  subst hi
  refine ⟨hg, ?_⟩
  rw [he]
  exact ⟨_, h.make hj hu, fun e hE => by rw [hd] at hE; injection hE with hE; subst hE; rw [h1, updN_at], fun t ht => h2 t _ (fun e => ht (by rw [hd, e]))⟩
theorem fill2 {wS w : World} {pv : Nat → Sp} {ops : Array Oper} {ρ : (Nat → Nat) → Tmp → Value} {done : Nat → Bool} {g : Nat → Nat} {i : Nat} {o : Oper} (h : S2 wS pv done g w) (j : Nat) (hj : j < 2) (hd : o.dst = none) (hi : i = 20 + j) (hu : done i = false) (hb : done (18 + j) = true) (hg : Region.wanted o (yieldedBy ops (ρ g)) = true)
    (he : (∀ a, w.frozen? ⟨g j, a, none⟩ = false) → w.cell? ⟨g j, 0, none⟩ = some (.int .i64 0) → w.cell? ⟨g j, 1, none⟩ = some (.int .i64 0) →
      (execOp (evalBy (ρ g)) o).run Tryz.prog w = .ok .skip ((w.setCell ⟨g j, 0, none⟩ (.int .i64 (pv j).1)).setCell ⟨g j, 1, none⟩ (.int .i64 (pv j).2))) : Ask2 wS pv ops ρ done g w i o := by
  subst hi
  obtain ⟨_, b2⟩ := h.box j hj hb
  rw [hu] at b2
  have c0 := cell_of_row w (g j) 0 _ 42 (0, 0) b2
  have c1 := cell_of_row w (g j) 1 _ 42 (0, 0) b2
  refine ⟨hg, ?_⟩
  rw [he (fun a => by simp [World.frozen?, b2]) (by simpa using c0) (by simpa using c1)]
  exact ⟨g, h.fill hj hb hu, fun d hD => by rw [hd] at hD; exact absurd hD (by simp), fun _ _ => rfl⟩
def wrI : Option (Nat × Nat) → Int × Int
  | some (r, o) => ((r : Int), (o : Int))
  | none => (1, 0)
theorem wro_2 (X : Ctx) (t : Nat) (row : List Sp) (o : Nat) : wroF X t row 2 o = loseI X.may (X.pile o) (X.th t o).2 := by
  show losF X.ps X.ts X.may t o = _
  unfold losF loseI Ctx.pile Ctx.th
  rw [Int.mul_comm]
theorem wro_3 (X : Ctx) (t : Nat) (row : List Sp) (o : Nat) : wroF X t row 3 o = (rowI X.rs (carI (X.pile o) (X.th t o).2) (X.pile o).h).2 := rfl
theorem wro_4 (X : Ctx) (t : Nat) (row : List Sp) (o : Nat) : wroF X t row 4 o = decide ((row.getD o (0, 0)).1 < -X.sink) := rfl
theorem wro_5 (X : Ctx) (t : Nat) (row : List Sp) (o : Nat) : wroF X t row 5 o = decide (X.tilt < max ((row.getD (X.qs.getD o (0, 0)).1.toNat (0, 0)).2 - (row.getD (X.qs.getD o (0, 0)).2.toNat (0, 0)).1) ((row.getD (X.qs.getD o (0, 0)).2.toNat (0, 0)).2 - (row.getD (X.qs.getD o (0, 0)).1.toNat (0, 0)).1)) := rfl
theorem of_no {X : Ctx} {t r : Nat} {row : List Sp} (h : ∀ j, j < manyF X.np X.nq r → wroF X t row r j = false) : ofF X row t r = none := findR_none h
theorem of_yes {X : Ctx} {t r o : Nat} {row : List Sp} (ho : o < manyF X.np X.nq r) (hp : wroF X t row r o = true) (hn : ∀ j, j < o → wroF X t row r j = false) : ofF X row t r = some o := findR_some ho hp hn

def wgCv (rv : Value) (bs bq oq nq cq k br or_ : Nat) (q : Int × Int) (a b : Nat) (x y : Sp) (g : Nat → Nat) : Tmp → Value
  | 2 => rv
  | 3 => .pointer (some ⟨bs, 0, none⟩)
  | 11 => .int .i64 (k : Int)
  | 85 => rv
  | 86 => .pointer (some ⟨bs, 1, none⟩)
  | 87 => .slice (some ⟨bq, oq, none⟩) nq cq
  | 88 => .int .i64 (k : Int)
  | 89 => .pointer (some ⟨bq, oq + k * 2, none⟩)
  | 90 => .pointer (some ⟨bq, oq + k * 2, none⟩)
  | 91 => .int .i64 q.1
  | 92 => .pointer (some ⟨br, or_ + a * 2, none⟩)
  | 93 => .agg #[.int .i64 x.1, .int .i64 x.2]
  | 94 => rv
  | 95 => .pointer (some ⟨bs, 1, none⟩)
  | 96 => .slice (some ⟨bq, oq, none⟩) nq cq
  | 97 => .int .i64 (k : Int)
  | 98 => .pointer (some ⟨bq, oq + k * 2, none⟩)
  | 99 => .pointer (some ⟨bq, oq + k * 2 + 1, none⟩)
  | 100 => .int .i64 q.2
  | 101 => .pointer (some ⟨br, or_ + b * 2, none⟩)
  | 102 => .agg #[.int .i64 y.1, .int .i64 y.2]
  | 12 => .pointer (some ⟨g 0, 0, none⟩)
  | 13 => .pointer (some ⟨g 1, 0, none⟩)
  | _ => undef
theorem th_at {X : Ctx} (K : X.Ok) {t : Nat} (ht : t < X.n) {th : List Sp} (hth : X.ts[t]? = some th) {k : Nat} (hk : k < X.np) : th[k]? = some (X.th t k) ∧ spB (X.th t k) = true := by
  obtain ⟨row', h1, _, h3, h4⟩ := K.at_th ht hk
  rw [hth] at h1
  injection h1 with h1
  subst h1
  exact ⟨h3, h4⟩
set_option maxRecDepth 100000 in
set_option maxHeartbeats 8000000 in
theorem refWrong_any {X : Ctx} {w : World} (h : X.In w) (K : X.Ok) {t : Nat} (ht : t < X.n) (A' B' : Option Addr) (c' d' : Nat) (th row : List Sp) (hth : X.ts[t]? = some th) (hA : PrsAt w w.heap.size A' th) (hrow : row.length = X.np) (hB : PrsAt w w.heap.size B' row) (hin : ∀ x ∈ row, spIn x) :
    Calls Tryz.prog 87 #[X.sv, .slice A' X.np c', .slice B' X.np d'] w fun e w' => e = .returned (.tuple #[.int .i64 (wrI (ruleF X t row)).1, .int .i64 (wrI (ruleF X t row)).2]) ∧ Below w.heap.size w w' := by
  obtain ⟨z0, hb0⟩ := site_new X w
  have np6 := K.np6
  have HK := Lib.hid K; have HTH := Lib.hid hth; have HRW := Lib.hid hrow; have HIN := Lib.hid hin
  have q10 := K.parts.q10
  obtain ⟨w1, hw1⟩ : ∃ z, w.alloc (.cells X.cells 26) = z := ⟨_, rfl⟩
  rw [hw1] at z0 hb0
  have HI := Lib.hid (h.up hb0); have HB := Lib.hid hb0; have HA := Lib.hid (hA.up hb0); have HR := Lib.hid (hB.up hb0)
  have Z0 := Lib.hid z0
  clear h z0 hb0 K hth hrow hin hA hB
  go_enter Tryz.func87, Tryz.ntmps87
  go_wp2_with fail
  go_loopw [8] (fun i wr => ∃ k : Nat, k ≤ X.np ∧ i = .int .i64 k ∧ (∀ j, j < k → wroF X t row 2 j = false) ∧ Below w1.heap.size w1 wr) (fun i _ => X.np - (intOf i).toNat)
  case atStart => exact ⟨0, Nat.zero_le _, rfl, fun j hj => absurd hj (Nat.not_lt_zero _), Below.refl _ _⟩
  case round =>
    obtain ⟨k, hk, rfl, hall, hbr⟩ := hrel
    have HALL := Lib.hid hall; have HBR := Lib.hid hbr
    have HZ := Lib.hid ((hbr.block _ (heapsz Z0.out)).trans Z0.out)
    obtain ⟨s0, s1, s2, s3, s4, s5⟩ := site_box HZ.out
    clear hall hbr
    by_cases hkt : k < X.np
    · have hk0 : (0 : Int) ≤ (k : Int) := by omega
      have hk1 : (k : Int) < (X.np : Int) := by omega
      obtain ⟨bp, op, eAP, hbp, p0, p1, p2, p3, p4, p5, p6⟩ := HI.out.cells_p HK.out hkt
      have hpB := (HK.out.at_pile hkt).2
      obtain ⟨hx, hyB⟩ := th_at HK.out ht HTH.out hkt
      obtain ⟨ba, oa, rfl, hba, a0, a1⟩ := prs_el HA.out hx
      have hyb := withinB_iff.1 hyB
      have HC := Lib.hid fun u : KeptW wr => Calls.in_kept u (refLoses_any (some ⟨bp, op, none⟩) X.AQ X.AR X.np X.cp X.nq X.cq X.nr X.cr X.may X.sink X.tilt (X.pile k) (X.th t k).2 u.w hpB (by omega) HK.out.parts.may)
      rw [← wro_2 X t row k] at HC
      have fs := fun u : KeptW wr => site_box ((u.h.block _ (heapsz HZ.out)).trans HZ.out)
      have g0 := fun u => (fs u).1; have g1 := fun u => (fs u).2.1; have g2 := fun u => (fs u).2.2.1; have g3 := fun u => (fs u).2.2.2.1; have g4 := fun u => (fs u).2.2.2.2.1; have g5 := fun u => (fs u).2.2.2.2.2
      have hk := fun u : KeptW wr => (bcell (HBR.out.trans (u.h.mono HBR.out.size))).1
      have P0 := fun u => (hk u _ _ hbp).trans p0; have P1 := fun u => (hk u _ _ hbp).trans p1; have P2 := fun u => (hk u _ _ hbp).trans p2; have P3 := fun u => (hk u _ _ hbp).trans p3; have P4 := fun u => (hk u _ _ hbp).trans p4; have P5 := fun u => (hk u _ _ hbp).trans p5; have P6 := fun u => (hk u _ _ hbp).trans p6
      have T1 := fun u => (hk u _ _ hba).trans a1
      obtain ⟨P, hP⟩ : ∃ z, X.pile k = z := ⟨_, rfl⟩
      obtain ⟨Y, hY⟩ : ∃ z, (X.th t k).2 = z := ⟨_, rfl⟩
      simp only [hP, hY] at HC P0 P1 P2 P3 P4 P5 P6 T1
      clear p0 p1 p2 p3 p4 p5 p6 a0 a1 hP hY hx hyB hyb hpB fs hk hbp hba
      cases hb : wroF X t row 2 k with
      | true =>
        rw [hb] at HC
        have HF : Hid (ruleF X t row = some (2, k)) := Lib.hid (rule_some (by omega) (of_yes hkt hb HALL.out) (fun r' h1 h2 => absurd h2 (by omega)))
        clear hb
        go_wp2_with fail
        refine rk_region (by kernel_rfl) (by kernel_rfl) ?_
        repeat (go_big_quiet_step (first | (with_reducible exact HC.out _) | fail))
        refine wpQuiet_nil ?_
        rintro _ ⟨u, rfl⟩
        clear g0 g1 g2 g3 g4 g5 P0 P1 P2 P3 P4 P5 P6 T1 HC
        go_wp2_with fail
        go_ret2
        exact ⟨by rw [HF.out]; rfl, HB.out.trans ((HBR.out.trans (u.h.mono HBR.out.size)).mono HB.out.size)⟩
      | false =>
        rw [hb] at HC
        have HBF := Lib.hid hb
        clear hb
        go_wp2_with fail
        refine rk_region (by kernel_rfl) (by kernel_rfl) ?_
        repeat (go_big_quiet_step (first | (with_reducible exact HC.out _) | fail))
        refine wpQuiet_nil ?_
        rintro _ ⟨u, rfl⟩
        clear g0 g1 g2 g3 g4 g5 P0 P1 P2 P3 P4 P5 P6 T1 HC
        go_wp2_with fail
        refine ⟨⟨k + 1, by omega, by go_num, fun j hj => ?_, HBR.out.trans (u.h.mono HBR.out.size)⟩, by simp [intOf]; omega⟩
        by_cases hjk : j < k
        · exact HALL.out j hjk
        · have : j = k := by omega
          subst this
          exact HBF.out
    · have hke : k = X.np := by omega
      have hk1 : ¬ (k : Int) < (X.np : Int) := by omega
      subst hke
      have HO2 : Hid (ofF X row t 2 = none) := Lib.hid (of_no HALL.out)
      clear HALL hk1
      have HB1 := HBR
      clear HBR
      go_wp2_with fail
      rename World => wa
      have HBA := Lib.hid HB1.out
      clear HB1 HZ s0 s1 s2 s3 s4 s5
      go_loopw [9] (fun i wr => ∃ k : Nat, k ≤ X.np ∧ i = .int .i64 k ∧ (∀ j, j < k → wroF X t row 3 j = false) ∧ Below w1.heap.size w1 wr) (fun i _ => X.np - (intOf i).toNat)
      case atStart => exact ⟨0, Nat.zero_le _, rfl, fun j hj => absurd hj (Nat.not_lt_zero _), HBA.out⟩
      case round =>
        obtain ⟨k, hk, rfl, hall, hbr⟩ := hrel
        have HALL := Lib.hid hall; have HBR := Lib.hid hbr
        have HZ := Lib.hid ((hbr.block _ (heapsz Z0.out)).trans Z0.out)
        obtain ⟨s0, s1, s2, s3, s4, s5⟩ := site_box HZ.out
        clear hall hbr
        by_cases hkt : k < X.np
        · have hk0 : (0 : Int) ≤ (k : Int) := by omega
          have hk1 : (k : Int) < (X.np : Int) := by omega
          obtain ⟨bp, op, eAP, hbp, p0, p1, p2, p3, p4, p5, p6⟩ := HI.out.cells_p HK.out hkt
          have hpB := (HK.out.at_pile hkt).2
          have hpl := (pilB_iff.1 hpB).2.2.2.1
          obtain ⟨hx, hyB⟩ := th_at HK.out ht HTH.out hkt
          obtain ⟨ba, oa, rfl, hba, a0, a1⟩ := prs_el HA.out hx
          have hyb := withinB_iff.1 hyB
          have nr6 := HK.out.parts.nr6
          have HC := Lib.hid fun u : KeptW wr => Calls.in_kept u (refFails_any (some ⟨bp, op, none⟩) X.AQ X.AR X.np X.cp X.nq X.cq X.nr X.cr X.rs X.may X.sink X.tilt (X.pile k) (X.th t k).2 (X.pile k).h u.w HK.out.hr nr6.1 (by unfold maxLen; omega) HK.out.parts.rs (HI.out.R.up (HBR.out.trans (u.h.mono HBR.out.size))) hpB (by omega) (by omega))
          rw [← wro_3 X t row k] at HC
          have fs := fun u : KeptW wr => site_box ((u.h.block _ (heapsz HZ.out)).trans HZ.out)
          have g0 := fun u => (fs u).1; have g1 := fun u => (fs u).2.1; have g2 := fun u => (fs u).2.2.1; have g3 := fun u => (fs u).2.2.2.1; have g4 := fun u => (fs u).2.2.2.2.1; have g5 := fun u => (fs u).2.2.2.2.2
          have hk := fun u : KeptW wr => (bcell (HBR.out.trans (u.h.mono HBR.out.size))).1
          have P0 := fun u => (hk u _ _ hbp).trans p0; have P1 := fun u => (hk u _ _ hbp).trans p1; have P2 := fun u => (hk u _ _ hbp).trans p2; have P3 := fun u => (hk u _ _ hbp).trans p3; have P4 := fun u => (hk u _ _ hbp).trans p4; have P5 := fun u => (hk u _ _ hbp).trans p5; have P6 := fun u => (hk u _ _ hbp).trans p6
          have T1 := fun u => (hk u _ _ hba).trans a1
          obtain ⟨P, hP⟩ : ∃ z, X.pile k = z := ⟨_, rfl⟩
          obtain ⟨Y, hY⟩ : ∃ z, (X.th t k).2 = z := ⟨_, rfl⟩
          simp only [hP, hY] at HC P0 P1 P2 P3 P4 P5 P6 T1
          clear p0 p1 p2 p3 p4 p5 p6 a0 a1 hP hY hx hyB hyb hpB fs hk hbp hba hpl
          cases hb : wroF X t row 3 k with
          | true =>
            rw [hb] at HC
            have HF : Hid (ruleF X t row = some (3, k)) := Lib.hid (rule_some (by omega) (of_yes hkt hb HALL.out) (fun r' h1 h2 => by
              have : r' = 2 := by omega
              subst this
              exact HO2.out))
            clear hb
            go_wp2_with fail
            refine rk_region (by kernel_rfl) (by kernel_rfl) ?_
            repeat (go_big_quiet_step (first | (with_reducible exact HC.out _) | fail))
            refine wpQuiet_nil ?_
            rintro _ ⟨u, rfl⟩
            clear g0 g1 g2 g3 g4 g5 P0 P1 P2 P3 P4 P5 P6 T1 HC
            go_wp2_with fail
            go_ret2
            exact ⟨by rw [HF.out]; rfl, HB.out.trans ((HBR.out.trans (u.h.mono HBR.out.size)).mono HB.out.size)⟩
          | false =>
            rw [hb] at HC
            have HBF := Lib.hid hb
            clear hb
            go_wp2_with fail
            refine rk_region (by kernel_rfl) (by kernel_rfl) ?_
            repeat (go_big_quiet_step (first | (with_reducible exact HC.out _) | fail))
            refine wpQuiet_nil ?_
            rintro _ ⟨u, rfl⟩
            clear g0 g1 g2 g3 g4 g5 P0 P1 P2 P3 P4 P5 P6 T1 HC
            go_wp2_with fail
            refine ⟨⟨k + 1, by omega, by go_num, fun j hj => ?_, HBR.out.trans (u.h.mono HBR.out.size)⟩, by simp [intOf]; omega⟩
            by_cases hjk : j < k
            · exact HALL.out j hjk
            · have : j = k := by omega
              subst this
              exact HBF.out
        · have hke : k = X.np := by omega
          have hk1 : ¬ (k : Int) < (X.np : Int) := by omega
          subst hke
          have HO3 : Hid (ofF X row t 3 = none) := Lib.hid (of_no HALL.out)
          clear HALL hk1
          have HB1 := HBR
          clear HBR
          go_wp2_with fail
          rename World => wb
          have HBB := Lib.hid HB1.out
          clear HB1 HZ s0 s1 s2 s3 s4 s5
          go_loopw [10] (fun i wr => ∃ k : Nat, k ≤ X.np ∧ i = .int .i64 k ∧ (∀ j, j < k → wroF X t row 4 j = false) ∧ Below w1.heap.size w1 wr) (fun i _ => X.np - (intOf i).toNat)
          case atStart => exact ⟨0, Nat.zero_le _, rfl, fun j hj => absurd hj (Nat.not_lt_zero _), HBB.out⟩
          case round =>
            obtain ⟨k, hk, rfl, hall, hbr⟩ := hrel
            have HALL := Lib.hid hall; have HBR := Lib.hid hbr
            have HZ := Lib.hid ((hbr.block _ (heapsz Z0.out)).trans Z0.out)
            obtain ⟨s0, s1, s2, s3, s4, s5⟩ := site_box HZ.out
            clear hall hbr
            by_cases hkt : k < X.np
            · have hk0 : (0 : Int) ≤ (k : Int) := by omega
              have hk1 : (k : Int) < (X.np : Int) := by omega
              obtain ⟨x, hx⟩ := get_of_lt (l := row) (k := k) (by rw [HRW.out]; exact hkt)
              obtain ⟨br, ob, rfl, hbr, a0, a1⟩ := prs_el HR.out hx
              have hsk := HK.out.parts.sink
              have HW : Hid (wroF X t row 4 k = decide (x.1 < -X.sink)) := Lib.hid (by rw [wro_4, List.getD_eq_getElem?_getD, hx]; rfl)
              have fs := fun u : KeptW wr => site_box ((u.h.block _ (heapsz HZ.out)).trans HZ.out)
              have g4 := fun u => (fs u).2.2.2.2.1
              have hk := fun u : KeptW wr => (bcell (HBR.out.trans (u.h.mono HBR.out.size))).1
              have T0 := fun u => (hk u _ _ hbr).trans a0
              obtain ⟨N, hN⟩ : ∃ z, X.sink = z := ⟨_, rfl⟩
              obtain ⟨Y, hY⟩ : ∃ z, x.1 = z := ⟨_, rfl⟩
              simp only [hN, hY] at HW T0 g4 hsk
              have v1 : Value.int .i64 (wrap64 (-N)) = Value.int .i64 (-N) := by congr 1; exact w64 (by omega)
              clear hx a0 a1 hY hN fs hk hbr
              by_cases hb : Y < -N
              · have hbt : wroF X t row 4 k = true := by rw [HW.out, decide_eq_true hb]
                have HF : Hid (ruleF X t row = some (4, k)) := Lib.hid (rule_some (by omega) (of_yes hkt hbt HALL.out) (fun r' h1 h2 => by
                  have : r' = 2 ∨ r' = 3 := by omega
                  rcases this with rfl | rfl
                  · exact HO2.out
                  · exact HO3.out))
                clear hbt
                go_wp2_with fail
                refine rk_region (by kernel_rfl) (by kernel_rfl) ?_
                repeat (go_big_quiet_step (fail))
                refine wpQuiet_nil ?_
                rintro _ ⟨u, rfl⟩
                clear g4 T0 v1
                go_wp2_with fail
                go_ret2
                exact ⟨by rw [HF.out]; rfl, HB.out.trans ((HBR.out.trans (u.h.mono HBR.out.size)).mono HB.out.size)⟩
              · have HBF : Hid (wroF X t row 4 k = false) := Lib.hid (by rw [HW.out, decide_eq_false hb])
                go_wp2_with fail
                refine rk_region (by kernel_rfl) (by kernel_rfl) ?_
                repeat (go_big_quiet_step (fail))
                refine wpQuiet_nil ?_
                rintro _ ⟨u, rfl⟩
                clear g4 T0 v1
                go_wp2_with fail
                refine ⟨⟨k + 1, by omega, by go_num, fun j hj => ?_, HBR.out.trans (u.h.mono HBR.out.size)⟩, by simp [intOf]; omega⟩
                by_cases hjk : j < k
                · exact HALL.out j hjk
                · have : j = k := by omega
                  subst this
                  exact HBF.out
            · have hke : k = X.np := by omega
              have hk1 : ¬ (k : Int) < (X.np : Int) := by omega
              subst hke
              have HO4 : Hid (ofF X row t 4 = none) := Lib.hid (of_no HALL.out)
              clear HALL hk1
              have HB1 := HBR
              clear HBR
              go_wp2_with fail
              rename World => wc
              have HBC := Lib.hid HB1.out
              clear HB1 HZ s0 s1 s2 s3 s4 s5
              go_loopw [11] (fun i wr => ∃ k : Nat, k ≤ X.nq ∧ i = .int .i64 k ∧ (∀ j, j < k → wroF X t row 5 j = false) ∧ Below w1.heap.size w1 wr) (fun i _ => X.nq - (intOf i).toNat)
              case atStart => exact ⟨0, Nat.zero_le _, rfl, fun j hj => absurd hj (Nat.not_lt_zero _), HBC.out⟩
              case round =>
                obtain ⟨k, hk, rfl, hall, hbr⟩ := hrel
                have HALL := Lib.hid hall; have HBR := Lib.hid hbr
                have HZ := Lib.hid ((hbr.block _ (heapsz Z0.out)).trans Z0.out)
                obtain ⟨s0, s1, s2, s3, s4, s5⟩ := site_box HZ.out
                clear hall hbr
                by_cases hkt : k < X.nq
                · have hk0 : (0 : Int) ≤ (k : Int) := by omega
                  have hk1 : (k : Int) < (X.nq : Int) := by omega
                  obtain ⟨⟨qa, qb⟩, hq⟩ := get_of_lt (l := X.qs) (k := k) (by rw [HK.out.hq]; exact hkt)
                  obtain ⟨⟨r1, r2⟩, ⟨r3, r4⟩, _⟩ := HK.out.parts.qs k _ hq
                  simp only at r1 r2 r3 r4
                  obtain ⟨a, rfl⟩ : ∃ a : Nat, qa = (a : Int) := ⟨qa.toNat, by omega⟩
                  obtain ⟨b, rfl⟩ : ∃ b : Nat, qb = (b : Int) := ⟨qb.toNat, by omega⟩
                  obtain ⟨x, hx⟩ := get_of_lt (l := row) (k := a) (by rw [HRW.out]; omega)
                  obtain ⟨y, hy⟩ := get_of_lt (l := row) (k := b) (by rw [HRW.out]; omega)
                  obtain ⟨br, ob, eBr, hbr, x0c, x1c⟩ := prs_el HR.out hx
                  subst eBr
                  obtain ⟨br', ob', e', _, y0c, y1c⟩ := prs_el HR.out hy
                  injection e' with e'
                  injection e' with e1 e2
                  subst e1 e2
                  obtain ⟨bq, oq, eAQ, hbq, q0c, q1c⟩ := prs_el HI.out.Q hq
                  have hix := HIN.out x (List.mem_of_getElem? hx)
                  have hiy := HIN.out y (List.mem_of_getElem? hy)
                  unfold spIn at hix hiy
                  have HW : Hid (wroF X t row 5 k = decide (X.tilt < max (x.2 - y.1) (y.2 - x.1))) := Lib.hid (by
                    rw [wro_5]
                    simp only [List.getD_eq_getElem?_getD, hq, Option.getD_some, Int.toNat_natCast, hx, hy])
                  have FC : Hid (∀ u, Below wr.heap.size wr u → u.cell? ⟨w.heap.size, 1, none⟩ = some (.slice X.AQ X.nq X.cq) ∧ (u.cell? ⟨bq, oq + k * 2, none⟩ = some (.int .i64 (a : Int)) ∧ u.cell? ⟨bq, oq + k * 2 + 1, none⟩ = some (.int .i64 (b : Int))) ∧ (u.cell? ⟨br, ob + a * 2, none⟩ = some (.int .i64 x.1) ∧ u.cell? ⟨br, ob + a * 2 + 1, none⟩ = some (.int .i64 x.2)) ∧ u.cell? ⟨br, ob + b * 2, none⟩ = some (.int .i64 y.1) ∧ u.cell? ⟨br, ob + b * 2 + 1, none⟩ = some (.int .i64 y.2)) :=
                    Lib.hid fun u hu => by
                      have hk := (bcell (HBR.out.trans (hu.mono HBR.out.size))).1
                      exact ⟨(site_box ((hu.block _ (heapsz HZ.out)).trans HZ.out)).2.1, ⟨(hk _ _ hbq).trans q0c, (hk _ _ hbq).trans q1c⟩, ⟨(hk _ _ hbr).trans x0c, (hk _ _ hbr).trans x1c⟩, (hk _ _ hbr).trans y0c, (hk _ _ hbr).trans y1c⟩
                  have a0 : (0 : Int) ≤ (a : Int) := by omega
                  have a1 : (a : Int) < (X.np : Int) := by omega
                  have b0 : (0 : Int) ≤ (b : Int) := by omega
                  have b1 : (b : Int) < (X.np : Int) := by omega
                  clear hq hx hy x0c x1c y0c y1c q0c q1c hbr hbq r1 r2 r3 r4
                  go_wp2_with fail
                  refine wp_region_any (by kernel_rfl) (plan_guarded_any (γ := Nat → Nat) [2, 3, 11] (wgCv (.slice (some ⟨br, ob, none⟩) X.np d') w.heap.size bq oq X.nq X.cq k br ob ((a : Int), (b : Int)) a b x y) (S2 wr (fun j => if j = 0 then x else y)) (fun _ => 0) (by kernel_rfl) (by kernel_rfl) (by kernel_rfl) (by kernel_rfl) ?_ ⟨(Below.refl _ _).drew, fun _ _ hd => by simp at hd, fun _ _ _ _ _ hd => by simp at hd, fun _ _ hd => by simp at hd⟩ ?_ ?_)
                  · intro t ht
                    simp only [List.mem_cons, List.not_mem_nil, or_false] at ht
                    rcases ht with rfl | rfl | rfl <;> rfl
                  · refine allOps_array ?_
                    refine ⟨?_, ?_, ?_, ?_, ?_, ?_, ?_, ?_, ?_, ?_, ?_, ?_, ?_, ?_, ?_, ?_, ?_, ?_, ?_, ?_, ?_, ?_, trivial⟩ <;> intro done g w' hS hu hdep _ <;> obtain ⟨x1, ⟨y0, y1⟩, ⟨z0, z1⟩, z2, z3⟩ := FC.out w' hS.bel
                    · refine quiet2 hS 85 rfl (by decide) rfl ?_
                      simp [go_sem, evalBy, wgCv]
                    · refine quiet2 hS 86 rfl (by decide) rfl ?_
                      simp [go_sem, evalBy, wgCv]
                    · refine quiet2 hS 87 rfl (by decide) rfl ?_
                      simp [go_sem, evalBy, wgCv, x1, eAQ]
                    · refine quiet2 hS 88 rfl (by decide) rfl ?_
                      simp [go_sem, evalBy, wgCv]
                    · refine quiet2 hS 89 rfl (by decide) rfl ?_
                      simp [go_sem, evalBy, wgCv, hk0, hk1]
                    · refine quiet2 hS 90 rfl (by decide) rfl ?_
                      simp [go_sem, evalBy, wgCv]
                    · refine quiet2 hS 91 rfl (by decide) rfl ?_
                      simp [go_sem, evalBy, wgCv, y0]
                    · refine quiet2 hS 92 rfl (by decide) rfl ?_
                      simp [go_sem, evalBy, wgCv, a0, a1]
                    · refine quiet2 hS 93 rfl (by decide) rfl ?_
                      simp [go_sem, evalBy, wgCv, z0, z1]
                    · refine quiet2 hS 94 rfl (by decide) rfl ?_
                      simp [go_sem, evalBy, wgCv]
                    · refine quiet2 hS 95 rfl (by decide) rfl ?_
                      simp [go_sem, evalBy, wgCv]
                    · refine quiet2 hS 96 rfl (by decide) rfl ?_
                      simp [go_sem, evalBy, wgCv, x1, eAQ]
                    · refine quiet2 hS 97 rfl (by decide) rfl ?_
                      simp [go_sem, evalBy, wgCv]
                    · refine quiet2 hS 98 rfl (by decide) rfl ?_
                      simp [go_sem, evalBy, wgCv, hk0, hk1]
                    · refine quiet2 hS 99 rfl (by decide) rfl ?_
                      simp [go_sem, evalBy, wgCv]
                    · refine quiet2 hS 100 rfl (by decide) rfl ?_
                      simp [go_sem, evalBy, wgCv, y1]
                    · refine quiet2 hS 101 rfl (by decide) rfl ?_
                      simp [go_sem, evalBy, wgCv, b0, b1]
                    · refine quiet2 hS 102 rfl (by decide) rfl ?_
                      simp [go_sem, evalBy, wgCv, z2, z3]
                    · refine make2 hS 0 (by decide) 12 rfl rfl hu rfl ?_ (fun _ => rfl) ?_
                      · simp [go_sem]
                      · intro t v ht
                        unfold wgCv
                        split <;> first | rfl | exact absurd rfl ht | simp [updN]
                    · refine make2 hS 1 (by decide) 13 rfl rfl hu rfl ?_ (fun _ => rfl) ?_
                      · simp [go_sem]
                      · intro t v ht
                        unfold wgCv
                        split <;> first | rfl | exact absurd rfl ht | simp [updN]
                    · refine fill2 hS 0 (by decide) rfl rfl hu (hdep ⟨18, .data⟩ (by simp) rfl) rfl ?_
                      intro hf c0 c1
                      have f0 := hf 0; have f1 := hf 1
                      clear hf
                      simp [go_sem, evalBy, wgCv, f0, f1, c0, c1]
                    · refine fill2 hS 1 (by decide) rfl rfl hu (hdep ⟨19, .data⟩ (by simp) rfl) rfl ?_
                      intro hf c0 c1
                      have f0 := hf 0; have f1 := hf 1
                      clear hf
                      simp [go_sem, evalBy, wgCv, f0, f1, c0, c1]
                  · intro g wd hS
                    obtain ⟨bx, hbx⟩ : ∃ z, g 0 = z := ⟨_, rfl⟩
                    obtain ⟨by_, hby⟩ : ∃ z, g 1 = z := ⟨_, rfl⟩
                    obtain ⟨_, xb⟩ := hS.box 0 (by decide) (by decide)
                    obtain ⟨_, yb⟩ := hS.box 1 (by decide) (by decide)
                    rw [if_pos (by decide)] at xb yb
                    simp only [hbx, hby, if_pos, Nat.one_ne_zero, if_neg, not_false_eq_true] at xb yb
                    have HBD := Lib.hid (HBR.out.trans (hS.bel.mono HBR.out.size))
                    obtain ⟨x0, x1⟩ := span_box xb
                    obtain ⟨y0, y1⟩ := span_box yb
                    have s5 := (site_box ((hS.bel.block _ (heapsz HZ.out)).trans HZ.out)).2.2.2.2.2
                    simp [putAll, Act.put, wgCv, hbx, hby]
                    obtain ⟨N, hN⟩ : ∃ z, X.tilt = z := ⟨_, rfl⟩
                    rw [hN] at HW s5
                    obtain ⟨xl, xh⟩ := x
                    obtain ⟨yl, yh⟩ := y
                    simp only at HW x0 x1 y0 y1 hix hiy
                    have v1 : Value.int .i64 (wrap64 (xh - yl)) = Value.int .i64 (xh - yl) := by congr 1; exact w64 (by omega)
                    have v2 : Value.int .i64 (wrap64 (yh - xl)) = Value.int .i64 (yh - xl) := by congr 1; exact w64 (by omega)
                    clear hS hbx hby xb yb hN FC HZ s0 s1 s2 s3 s4
                    by_cases hb : N < max (xh - yl) (yh - xl)
                    · have hbt : wroF X t row 5 k = true := by rw [HW.out, decide_eq_true hb]
                      have HF : Hid (ruleF X t row = some (5, k)) := Lib.hid (rule_some (by omega) (of_yes hkt hbt HALL.out) (fun r' h1 h2 => by
                        have : r' = 2 ∨ r' = 3 ∨ r' = 4 := by omega
                        rcases this with rfl | rfl | rfl
                        · exact HO2.out
                        · exact HO3.out
                        · exact HO4.out))
                      clear hbt
                      have HBB2 := Lib.hid hb
                      go_wp2_with fail
                      all_goals first
                        | (exfalso; have := HBB2.out; omega)
                        | (go_ret2; exact ⟨by rw [HF.out]; rfl, HB.out.trans (HBD.out.mono HB.out.size)⟩)
                    · have HBF : Hid (wroF X t row 5 k = false) := Lib.hid (by rw [HW.out, decide_eq_false hb])
                      have HBB2 := Lib.hid hb
                      go_wp2_with fail
                      all_goals first
                        | (exfalso; have := HBB2.out; omega)
                        | (refine ⟨⟨k + 1, by omega, by go_num, fun j hj => ?_, HBD.out⟩, by simp [intOf]; omega⟩
                           by_cases hjk : j < k
                           · exact HALL.out j hjk
                           · have : j = k := by omega
                             subst this
                             exact HBF.out)
                · have hke : k = X.nq := by omega
                  have hk1 : ¬ (k : Int) < (X.nq : Int) := by omega
                  subst hke
                  have HF : Hid (ruleF X t row = none) := Lib.hid (rule_none fun r' h1 h2 => by
                    have : r' = 2 ∨ r' = 3 ∨ r' = 4 ∨ r' = 5 := by omega
                    rcases this with rfl | rfl | rfl | rfl
                    · exact HO2.out
                    · exact HO3.out
                    · exact HO4.out
                    · exact of_no HALL.out)
                  clear HALL hk1
                  go_wp2_with fail
                  go_ret2
                  exact ⟨by rw [HF.out]; rfl, HB.out.trans (HBR.out.mono HB.out.size)⟩
end Go.Proofs.YtdlaphlpimlgdaaGreatDoor
