/- From the week on that is told, whatever thaw and load are true, a new pile carries its load; before it, and always if there is none, it does not with the deepest thaw, under the greatest load. No condition (cures that are much too long are let through). -/
import Derived.Test.YtdlaphlpimlgdaaGreatDoorDA
import Derived.Test.YtdlaphlpimlgdaaGreatDoorDA
import Derived.Test.YtdlaphlpimlgdaaGreatDoorTie
import Derived.Test.YtdlaphlpimlgdaaGreatDoorCards
import Derived.SevenTiedAt
namespace Go.Proofs.YtdlaphlpimlgdaaGreatDoor
open Go.ChangeShapes Go.WideShapes Go.ChangeAt Go.RowKit

set_option maxRecDepth 100000 in
theorem curedw_lifted (os : Os) (started : os.Started) (H : Type) (enc : TypeId × Value → H) :
    ReturnsInHanded {} Tryz.checked os 13 .any (fun w args => (Rows.pileCuredSpec.pre enc Tryz.prog Tryz.f13 [] false w args ∧ laidMetH Tryz.prog LaidL w) ∧ sizedMet enc Tryz.prog Tryz.f13 (OpenSpec.ofChange Rows.pileCuredSpec) false w args)
      (Rows.pileCuredSpec.post enc Tryz.prog Tryz.f13 false true false false) := by
  refine returnsInHanded_of_change_and (C := Tryz.checked) (X := fun w _ => laidMetH Tryz.prog LaidL w) (fun _ _ _ hh h => h.of_heap hh) own_knob started (by kernel_rfl) Tryz.func13
    (ChangeSpec.witness_shaped (enc := enc) (C := Tryz.checked) (os := os) (X := fun w _ => laidMetH Tryz.prog LaidL w) false (World.doorLaid Tryz.prog 400 os)
      #[.agg #[.int .i64 0, .int .i64 0, .int .i64 0, .int .i64 0, .int .i64 0, .int .i64 0, .int .i64 0], .agg #[.int .i64 0, .int .i64 0], .slice none 0 0, .int .i64 0, .int .i64 0, .int .i64 0] 8 rfl (World.shaped_of_RefB (by kernel_rfl) (by kernel_rfl)) (by kernel_rfl) (by kernel_rfl) (by kernel_rfl) (door_met os _)) ?_
  intro W base args ds gs before hval0 hW _ _ hL0 _
  have hval : ∀ (j : Nat) t v, Tryz.f13.params[j]? = some t → args[j]? = some v → Value.okWide Tryz.prog W .any base t v := hval0
  have hW' := hW
  obtain ⟨p, q, hA0, hV, rfl, hfz, hnd⟩ := hW
  have hA : DataW.TrodAll enc Tryz.prog W 0 (fun _ => true) true Tryz.f13.params.toList args.toList ds p := hA0
  rw [Tryz.params13] at hA hval
  obtain ⟨v0, v1, v2, v3, v4, v5, d0, d1, d2, d3, d4, d5, p0, p1, p2, p3, p4, p5, rfl, rfl, rfl, h0, h1, h2, h3, h4, h5⟩ := trodAll_six hA
  obtain ⟨rfl, rfl⟩ := trodVars_none hV
  obtain ⟨pl0, e0⟩ := open_pilV (hval 0 45 v0 rfl rfl) h0
  obtain ⟨lo1, hi1, e1⟩ := open_spanV (hval 1 42 v1 rfl rfl) h1
  obtain ⟨B2, m2, c2_, xs2, e2, _, hm2, hl2, hX2⟩ := open_cure (hval 2 85 v2 rfl rfl) h2
  obtain ⟨x3, e3, _⟩ := open_int Tryz.underlying3 (hval 3 3 v3 rfl rfl) h3
  obtain ⟨x4, e4, _⟩ := open_int Tryz.underlying3 (hval 4 3 v4 rfl rfl) h4
  obtain ⟨x5, e5, _⟩ := open_int Tryz.underlying3 (hval 5 3 v5 rfl rfl) h5
  have ht := tab_of_laid hL0
  clear hA0 hval0 hA
  subst e0 e1 e2 e3 e4 e5
  refine (curedS_any pl0 lo1 hi1 B2 m2 c2_ xs2 x3 x4 x5 W hl2 hm2 hX2 (fun u hu => known_any u (ht.next hu))).mono fun e W' hh => ?_
  obtain ⟨rfl, hb⟩ := hh
  exact ⟨_, rfl, _, _, _, [], _, [], hW', trodAll_mk1 (shut_bool Tryz.underlying4 _), trodAll_cons_mk (stays r45 (tsz 45 (by decide)) h0 hb) (trodAll_cons_mk (stays r42 (tsz 42 (by decide)) h1 hb) (trodAll_cons_mk (stays r85 (tsz 85 (by decide)) h2 hb) (trodAll_cons_mk (stays r3 (tsz 3 (by decide)) h3 hb) (trodAll_cons_mk (stays r3 (tsz 3 (by decide)) h4 hb) (trodAll_cons_mk (stays r3 (tsz 3 (by decide)) h5 hb) trodAll_mk0))))), rfl, hb.frame _, fun h => by cases h⟩

theorem curedw_row : Rows.PileCuredSaid :=
  OpenClaim.holds_of_wide 13 Tryz.f13 rfl rfl rfl rfl rfl rfl rfl ⟨rfl, rfl, rfl, rfl, rfl⟩ rfl rfl rfl rfl rfl (by kernel_rfl) Tryz.func13 (by kernel_rfl)
    (of_decide_eq_true (by kernel_rfl)) (by unfold Func.isWrapper; first | (rw [if_pos (by decide +kernel)]; kernel_rfl) | (rw [if_neg (by decide +kernel)]; exact ⟨rfl, rfl⟩))
    (fun os started H enc _ => curedw_lifted os started H enc)

/-- The statement. -/
theorem curedw_card : Rows.PileCuredCardSaid :=
  Claim7.holds_tied_plain_at .later [] [.data, .data, .data] true (true, "a256a8149ddfe718b4c1d3902c99956daa1d9ab4ac3e97d0372f5e99a088ab2d") true
    curedw_row (fun _ h => by cases h) (by kernel_rfl) (fun _ h => by cases h) pileCured_row_tie rfl ⟨rfl, rfl⟩ (by kernel_rfl) rfl
    (fun f fn hf hfn => by
      obtain rfl : f = 13 := Option.some.inj ((show Tryz.prog.funcNamed "talik/taliklaw02.PileCured" = some 13 by kernel_rfl).symm.trans hf) |>.symm
      obtain rfl : fn = Tryz.f13 := (Option.some.inj (Tryz.func13.symm.trans hfn)).symm
      exact ⟨by kernel_rfl, fun j t ht => by
        rw [Tryz.params13] at ht
        have hm : t ∈ [45, 42, 85, 3, 3, 3] := by simpa using Array.mem_of_getElem? ht
        have hall : ([45, 42, 85, 3, 3, 3].all fun u => !Tryz.prog.wantsStandIn u) = true := by kernel_rfl
        exact (show Tryz.prog.wantsStandIn t = false by simpa using List.all_eq_true.1 hall t hm)⟩)
    (by kernel_rfl)
#print axioms curedw_card
end Go.Proofs.YtdlaphlpimlgdaaGreatDoor
