/- Thaws that are known better make no bounds of what piles carry, nor of their levels, wider; deeper ones never make a pile carry more; and one jacking more never makes a level lower: for any site, thaws, plan, percentages, depth, year and pile. No condition (lists that are much too long are let through). -/
import Derived.Test.YtdlaphlpimlgdaaGreatDoorGD
import Derived.Test.YtdlaphlpimlgdaaGreatDoorDA
import Derived.Test.YtdlaphlpimlgdaaGreatDoorTie
import Derived.Test.YtdlaphlpimlgdaaGreatDoorCards
import Derived.SevenTiedAt
namespace Go.Proofs.YtdlaphlpimlgdaaGreatDoor
open Go.ChangeShapes Go.WideShapes Go.ChangeAt Go.RowKit

section
variable {H : Type} {enc : TypeId × Value → H} {P : Program} {w : World} {base : Nat} {spare : Nat → Bool} {held : Bool}
theorem trodAll_eight_own {t0 t1 t2 t3 t4 t5 t6 t7 : TypeId} {args : Array Value} {ds : List (DataW H)} {ps : List MemPlace} (h : DataW.TrodAll enc P w base spare held [t0, t1, t2, t3, t4, t5, t6, t7] args.toList ds ps) :
    ∃ v0 v1 v2 v3 v4 v5 v6 v7 d0 d1 d2 d3 d4 d5 d6 d7 p0 p1 p2 p3 p4 p5 p6 p7, args = #[v0, v1, v2, v3, v4, v5, v6, v7] ∧ ds = [d0, d1, d2, d3, d4, d5, d6, d7] ∧ ps = p0 ++ p1 ++ p2 ++ p3 ++ p4 ++ p5 ++ p6 ++ p7 ∧ DataW.Trod enc P w base spare held t0 v0 d0 p0 ∧ DataW.Trod enc P w base spare held t1 v1 d1 p1 ∧ DataW.Trod enc P w base spare held t2 v2 d2 p2 ∧ DataW.Trod enc P w base spare held t3 v3 d3 p3 ∧ DataW.Trod enc P w base spare held t4 v4 d4 p4 ∧ DataW.Trod enc P w base spare held t5 v5 d5 p5 ∧ DataW.Trod enc P w base spare held t6 v6 d6 p6 ∧ DataW.Trod enc P w base spare held t7 v7 d7 p7 := by
  obtain ⟨v0, vs0, d0, ds0, p0, q0, hargs, rfl, rfl, g0, k0⟩ := trodAll_cons h
  obtain ⟨v1, vs1, d1, ds1, p1, q1, rfl, rfl, rfl, g1, k1⟩ := trodAll_cons k0
  obtain ⟨v2, vs2, d2, ds2, p2, q2, rfl, rfl, rfl, g2, k2⟩ := trodAll_cons k1
  obtain ⟨v3, vs3, d3, ds3, p3, q3, rfl, rfl, rfl, g3, k3⟩ := trodAll_cons k2
  obtain ⟨v4, vs4, d4, ds4, p4, q4, rfl, rfl, rfl, g4, k4⟩ := trodAll_cons k3
  obtain ⟨v5, vs5, d5, ds5, p5, q5, rfl, rfl, rfl, g5, k5⟩ := trodAll_cons k4
  obtain ⟨v6, vs6, d6, ds6, p6, q6, rfl, rfl, rfl, g6, k6⟩ := trodAll_cons k5
  obtain ⟨v7, vs7, d7, ds7, p7, q7, rfl, rfl, rfl, g7, k7⟩ := trodAll_cons k6
  obtain ⟨rfl, rfl, rfl⟩ := trodAll_nil k7
  exact ⟨v0, v1, v2, v3, v4, v5, v6, v7, d0, d1, d2, d3, d4, d5, d6, d7, p0, p1, p2, p3, p4, p5, p6, p7, by cases args; simp_all, rfl, by simp, g0, g1, g2, g3, g4, g5, g6, g7⟩
end
set_option maxRecDepth 100000 in
theorem more_lifted (os : Os) (started : os.Started) (H : Type) (enc : TypeId × Value → H) :
    ReturnsInHanded {} Tryz.checked os 17 .any (fun w args => (Rows.pileMoreSpec.pre enc Tryz.prog Tryz.f17 [] false w args ∧ laidMetH Tryz.prog LaidL w) ∧ sizedMet enc Tryz.prog Tryz.f17 (OpenSpec.ofChange Rows.pileMoreSpec) false w args)
      (Rows.pileMoreSpec.post enc Tryz.prog Tryz.f17 false true false false) := by
  refine returnsInHanded_of_change_and (C := Tryz.checked) (X := fun w _ => laidMetH Tryz.prog LaidL w) (fun _ _ _ hh h => h.of_heap hh) own_knob started (by kernel_rfl) Tryz.func17
    (ChangeSpec.witness_shaped (enc := enc) (C := Tryz.checked) (os := os) (X := fun w _ => laidMetH Tryz.prog LaidL w) false (World.doorLaid Tryz.prog 400 os)
      #[.agg #[.slice none 0 0, .slice none 0 0, .slice none 0 0, .int .i64 0, .int .i64 0, .int .i64 0], .slice none 0 0, .slice none 0 0, .int .i64 0, .int .i64 0, .int .i64 0, .int .i64 0, .int .i64 0] 9 rfl (World.shaped_of_RefB (by kernel_rfl) (by kernel_rfl)) (by kernel_rfl) (by kernel_rfl) (by kernel_rfl) (door_met os _)) ?_
  intro W base args ds gs before hval0 hW _ _ hL0 _
  have hval : ∀ (j : Nat) t v, Tryz.f17.params[j]? = some t → args[j]? = some v → Value.okWide Tryz.prog W .any base t v := hval0
  have hW' := hW
  obtain ⟨p, q, hA0, hV, rfl, hfz, hnd⟩ := hW
  have hA : DataW.TrodAll enc Tryz.prog W 0 (fun _ => true) true Tryz.f17.params.toList args.toList ds p := hA0
  rw [Tryz.params17] at hA hval
  obtain ⟨v0, v1, v2, v3, v4, v5, v6, v7, d0, d1, d2, d3, d4, d5, d6, d7, p0, p1, p2, p3, p4, p5, p6, p7, rfl, rfl, rfl, h0, h1, h2, h3, h4, h5, h6, h7⟩ := trodAll_eight_own hA
  obtain ⟨rfl, rfl⟩ := trodVars_none hV
  obtain ⟨AP, AQ, AR, np, cp, nq, cq, nr, cr, ps, qs, rs, may, sink, tilt, e0, ⟨p1_, p2_, p3_⟩, ⟨q1_, q2_, q3_⟩, r1_, r2_, r3_⟩ := open_site (hval 0 26 v0 rfl rfl) h0
  obtain ⟨A, n, c, ts, e1, _, n2, hl, hT⟩ := open_thaws (hval 1 27 v1 rfl rfl) h1
  obtain ⟨B2, m2, c2_, xs2, e2, _, hm2, hl2, hX2⟩ := open_ints (hval 2 34 v2 rfl rfl) h2
  obtain ⟨x3, e3, ri3_⟩ := open_int Tryz.underlying3 (hval 3 3 v3 rfl rfl) h3
  obtain ⟨x4, e4, ri4_⟩ := open_int Tryz.underlying3 (hval 4 3 v4 rfl rfl) h4
  obtain ⟨x5, e5, ri5_⟩ := open_int Tryz.underlying3 (hval 5 3 v5 rfl rfl) h5
  obtain ⟨x6, e6, ri6_⟩ := open_int Tryz.underlying3 (hval 6 3 v6 rfl rfl) h6
  obtain ⟨x7, e7, ri7_⟩ := open_int Tryz.underlying3 (hval 7 3 v7 rfl rfl) h7
  have ht := tab_of_laid hL0
  clear hA0 hval0 hA
  subst e0 e1 e2 e3 e4 e5 e6 e7
  refine (more_law (X := ⟨0, AP, AQ, AR, A, np, cp, nq, cq, nr, cr, n, c, may, sink, tilt, ps, qs, rs, ts⟩) ⟨p2_, q2_, r2_, hl, p1_, q1_, r1_, n2, p3_, q3_, r3_, hT⟩ ht B2 m2 c2_ xs2 x3 x4 x5 x6 x7 hl2 hm2 hX2).mono fun e W' hh => ?_
  obtain ⟨rfl, hb⟩ := hh
  exact ⟨_, rfl, _, _, _, [], _, [], hW', trodAll_mk1 (shut_bool Tryz.underlying4 _), trodAll_cons_mk (stays r26 (tsz 26 (by decide)) h0 hb) (trodAll_cons_mk (stays r27 (tsz 27 (by decide)) h1 hb) (trodAll_cons_mk (stays r34 (tsz 34 (by decide)) h2 hb) (trodAll_cons_mk (stays r3 (tsz 3 (by decide)) h3 hb) (trodAll_cons_mk (stays r3 (tsz 3 (by decide)) h4 hb) (trodAll_cons_mk (stays r3 (tsz 3 (by decide)) h5 hb) (trodAll_cons_mk (stays r3 (tsz 3 (by decide)) h6 hb) (trodAll_cons_mk (stays r3 (tsz 3 (by decide)) h7 hb) trodAll_mk0))))))), rfl, hb.frame _, fun h => by cases h⟩

theorem more_row : Rows.PileMoreSaid :=
  OpenClaim.holds_of_wide 17 Tryz.f17 rfl rfl rfl rfl rfl rfl rfl ⟨rfl, rfl, rfl, rfl, rfl⟩ rfl rfl rfl rfl rfl (by kernel_rfl) Tryz.func17 (by kernel_rfl)
    (of_decide_eq_true (by kernel_rfl)) (by unfold Func.isWrapper; first | (rw [if_pos (by decide +kernel)]; kernel_rfl) | (rw [if_neg (by decide +kernel)]; exact ⟨rfl, rfl⟩))
    (fun os started H enc _ => more_lifted os started H enc)

/-- The statement. -/
theorem more_card : Rows.PileMoreCardSaid :=
  Claim7.holds_tied_plain_at .later [] [.data, .data, .data] true (true, "a256a8149ddfe718b4c1d3902c99956daa1d9ab4ac3e97d0372f5e99a088ab2d") true
    more_row (fun _ h => by cases h) (by kernel_rfl) (fun _ h => by cases h) pileMore_row_tie rfl ⟨rfl, rfl⟩ (by kernel_rfl) rfl
    (fun f fn hf hfn => by
      obtain rfl : f = 17 := Option.some.inj ((show Tryz.prog.funcNamed "talik/taliklaw02.PileMore" = some 17 by kernel_rfl).symm.trans hf) |>.symm
      obtain rfl : fn = Tryz.f17 := (Option.some.inj (Tryz.func17.symm.trans hfn)).symm
      exact ⟨by kernel_rfl, fun j t ht => by
        rw [Tryz.params17] at ht
        have hm : t ∈ [26, 27, 34, 3, 3, 3, 3, 3] := by simpa using Array.mem_of_getElem? ht
        have hall : ([26, 27, 34, 3, 3, 3, 3, 3].all fun u => !Tryz.prog.wantsStandIn u) = true := by kernel_rfl
        exact (show Tryz.prog.wantsStandIn t = false by simpa using List.all_eq_true.1 hall t hm)⟩)
    (by kernel_rfl)
#print axioms more_card
end Go.Proofs.YtdlaphlpimlgdaaGreatDoor
