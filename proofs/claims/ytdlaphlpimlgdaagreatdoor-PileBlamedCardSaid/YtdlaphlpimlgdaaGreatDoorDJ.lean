/- What is told to be the first fault of a plan is none, or is wrong in the truth in which all piles settle most, or, of a pair, in one in which one of its piles settles most, and the other one, like all others, least: for any site, thaws and plan. No condition (lists that are much too long are let through). -/
import Derived.Test.YtdlaphlpimlgdaaGreatDoorEH
import Derived.Test.YtdlaphlpimlgdaaGreatDoorDA
import Derived.Test.YtdlaphlpimlgdaaGreatDoorTie
import Derived.Test.YtdlaphlpimlgdaaGreatDoorCards
import Derived.SevenTiedAt
namespace Go.Proofs.YtdlaphlpimlgdaaGreatDoor
open Go.ChangeShapes Go.WideShapes Go.ChangeAt Go.RowKit

set_option maxRecDepth 100000 in
theorem blamed_lifted (os : Os) (started : os.Started) (H : Type) (enc : TypeId × Value → H) :
    ReturnsInHanded {} Tryz.checked os 9 .any (fun w args => (Rows.pileBlamedSpec.pre enc Tryz.prog Tryz.f9 [] false w args ∧ laidMetH Tryz.prog LaidL w) ∧ sizedMet enc Tryz.prog Tryz.f9 (OpenSpec.ofChange Rows.pileBlamedSpec) false w args)
      (Rows.pileBlamedSpec.post enc Tryz.prog Tryz.f9 false true false false) := by
  refine returnsInHanded_of_change_and (C := Tryz.checked) (X := fun w _ => laidMetH Tryz.prog LaidL w) (fun _ _ _ hh h => h.of_heap hh) own_knob started (by kernel_rfl) Tryz.func9
    (ChangeSpec.witness_shaped (enc := enc) (C := Tryz.checked) (os := os) (X := fun w _ => laidMetH Tryz.prog LaidL w) false (World.doorLaid Tryz.prog 400 os)
      #[.agg #[.slice none 0 0, .slice none 0 0, .slice none 0 0, .int .i64 0, .int .i64 0, .int .i64 0], .slice none 0 0, .slice none 0 0] 9 rfl (World.shaped_of_RefB (by kernel_rfl) (by kernel_rfl)) (by kernel_rfl) (by kernel_rfl) (by kernel_rfl) (door_met os _)) ?_
  intro W base args ds gs before hval0 hW _ _ hL0 _
  have hval : ∀ (j : Nat) t v, Tryz.f9.params[j]? = some t → args[j]? = some v → Value.okWide Tryz.prog W .any base t v := hval0
  have hW' := hW
  obtain ⟨p, q, hA0, hV, rfl, hfz, hnd⟩ := hW
  have hA : DataW.TrodAll enc Tryz.prog W 0 (fun _ => true) true Tryz.f9.params.toList args.toList ds p := hA0
  rw [Tryz.params9] at hA hval
  obtain ⟨v0, v1, v2, d0, d1, d2, p0, p1, p2, rfl, rfl, rfl, h0, h1, h2⟩ := trodAll_three hA
  obtain ⟨rfl, rfl⟩ := trodVars_none hV
  obtain ⟨AP, AQ, AR, np, cp, nq, cq, nr, cr, ps, qs, rs, may, sink, tilt, e0, ⟨p1_, p2_, p3_⟩, ⟨q1_, q2_, q3_⟩, r1_, r2_, r3_⟩ := open_site (hval 0 26 v0 rfl rfl) h0
  obtain ⟨A, n, c, ts, e1, _, n2, hl, hT⟩ := open_thaws (hval 1 27 v1 rfl rfl) h1
  obtain ⟨B2, m2, c2_, xs2, e2, _, hm2, hl2, hX2⟩ := open_ints (hval 2 34 v2 rfl rfl) h2
  have ht := tab_of_laid hL0
  clear hA0 hval0 hA
  subst e0 e1 e2
  refine (blamed_law (X := ⟨0, AP, AQ, AR, A, np, cp, nq, cq, nr, cr, n, c, may, sink, tilt, ps, qs, rs, ts⟩) ⟨p2_, q2_, r2_, hl, p1_, q1_, r1_, n2, p3_, q3_, r3_, hT⟩ ht B2 m2 c2_ xs2 hl2 hm2 hX2).mono fun e W' hh => ?_
  obtain ⟨rfl, hb⟩ := hh
  exact ⟨_, rfl, _, _, _, [], _, [], hW', trodAll_mk1 (shut_bool Tryz.underlying4 _), trodAll_cons_mk (stays r26 (tsz 26 (by decide)) h0 hb) (trodAll_cons_mk (stays r27 (tsz 27 (by decide)) h1 hb) (trodAll_cons_mk (stays r34 (tsz 34 (by decide)) h2 hb) trodAll_mk0)), rfl, hb.frame _, fun h => by cases h⟩

theorem blamed_row : Rows.PileBlamedSaid :=
  OpenClaim.holds_of_wide 9 Tryz.f9 rfl rfl rfl rfl rfl rfl rfl ⟨rfl, rfl, rfl, rfl, rfl⟩ rfl rfl rfl rfl rfl (by kernel_rfl) Tryz.func9 (by kernel_rfl)
    (of_decide_eq_true (by kernel_rfl)) (by unfold Func.isWrapper; first | (rw [if_pos (by decide +kernel)]; kernel_rfl) | (rw [if_neg (by decide +kernel)]; exact ⟨rfl, rfl⟩))
    (fun os started H enc _ => blamed_lifted os started H enc)

/-- The statement. -/
theorem blamed_card : Rows.PileBlamedCardSaid :=
  Claim7.holds_tied_plain_at .later [] [.data, .data, .data] true (true, "a256a8149ddfe718b4c1d3902c99956daa1d9ab4ac3e97d0372f5e99a088ab2d") true
    blamed_row (fun _ h => by cases h) (by kernel_rfl) (fun _ h => by cases h) pileBlamed_row_tie rfl ⟨rfl, rfl⟩ (by kernel_rfl) rfl
    (fun f fn hf hfn => by
      obtain rfl : f = 9 := Option.some.inj ((show Tryz.prog.funcNamed "talik/taliklaw02.PileBlamed" = some 9 by kernel_rfl).symm.trans hf) |>.symm
      obtain rfl : fn = Tryz.f9 := (Option.some.inj (Tryz.func9.symm.trans hfn)).symm
      exact ⟨by kernel_rfl, fun j t ht => by
        rw [Tryz.params9] at ht
        have hm : t ∈ [26, 27, 34] := by simpa using Array.mem_of_getElem? ht
        have hall : ([26, 27, 34].all fun u => !Tryz.prog.wantsStandIn u) = true := by kernel_rfl
        exact (show Tryz.prog.wantsStandIn t = false by simpa using List.all_eq_true.1 hall t hm)⟩)
    (by kernel_rfl)
#print axioms blamed_card
end Go.Proofs.YtdlaphlpimlgdaaGreatDoor
