/- How much heat a building may give so that a depth is kept, and how much more must be able to go out in each winter, are what the specification's own searches find, with ErrNone where there is no such number; where place, years or depth are not as defined, the error is the wanted one and nothing else is handed back. No condition: any place, years and depth (lists that are much too long are let through). -/
import Derived.Test.YtccekbdhffccdaaDoorZQ
import Derived.Test.YtccekbdhffccdaaDoorVV
import Derived.Test.YtccekbdhffccdaaDoorTie
import Derived.Test.YtccekbdhffccdaaDoorCards
import Derived.SevenTiedAt
namespace Go.Proofs.YtccekbdhffccdaaDoor
open Go.ChangeShapes Go.WideShapes Go.ChangeAt Go.RowKit

set_option maxRecDepth 100000 in
theorem alw_lifted (os : Os) (started : os.Started) (H : Type) (enc : TypeId × Value → H) :
    ReturnsInHanded {} Tryd.checked os 10 .any (fun w args => (Rows.groundAllowsSpec.pre enc Tryd.prog Tryd.f10 [] false w args ∧ laidMetH Tryd.prog LaidL w) ∧ sizedMet enc Tryd.prog Tryd.f10 (OpenSpec.ofChange Rows.groundAllowsSpec) false w args)
      (Rows.groundAllowsSpec.post enc Tryd.prog Tryd.f10 false true false false) := by
  refine returnsInHanded_of_change_and (C := Tryd.checked) (X := fun w _ => laidMetH Tryd.prog LaidL w) (fun _ _ _ hh h => h.of_heap hh) own_knob started (by kernel_rfl) Tryd.func10
    (ChangeSpec.witness_shaped (enc := enc) (C := Tryd.checked) (os := os) (X := fun w _ => laidMetH Tryd.prog LaidL w) false (World.doorLaid Tryd.prog 400 os)
      #[.agg #[.slice none 0 0, .int .i64 0, .int .i64 0], .slice none 0 0, .int .i64 0] 8 rfl (World.shaped_of_RefB (by kernel_rfl) (by kernel_rfl)) (by kernel_rfl) (by kernel_rfl) (by kernel_rfl) (door_met os _)) ?_
  intro W base args ds gs before hval0 hW _ _ hL0 _
  have hval : ∀ (j : Nat) t v, Tryd.f10.params[j]? = some t → args[j]? = some v → Value.okWide Tryd.prog W .any base t v := hval0
  have hW' := hW
  obtain ⟨p, q, hA0, hV, rfl, hfz, hnd⟩ := hW
  have hA : DataW.TrodAll enc Tryd.prog W 0 (fun _ => true) true Tryd.f10.params.toList args.toList ds p := hA0
  rw [Tryd.params10] at hA hval
  obtain ⟨v0, v1, v2, d0, d1, d2, p0, p1, p2, rfl, rfl, rfl, h0, h1, h2⟩ := trodAll_three hA
  obtain ⟨rfl, rfl⟩ := trodVars_none hV
  obtain ⟨A, n, c, ls, lo, hi, e0, hc, hn, hl, hL⟩ := open_place (hval 0 26 v0 rfl rfl) h0
  obtain ⟨A2, m, c', ys, e1, _, hm, hy, hY⟩ := open_years (hval 1 27 v1 rfl rfl) h1
  obtain ⟨x2, e2, r2_⟩ := open_int Tryd.underlying3 (hval 2 3 v2 rfl rfl) h2
  have ht := tab_of_laid hL0
  clear hA0 hval0 hA
  subst e0 e1 e2
  refine (alw_any A A2 n c m c' ls ys lo hi x2 W ht hl hc hn hL hy hm hY).mono fun e W' hh => ?_
  obtain ⟨rfl, hb⟩ := hh
  exact ⟨_, rfl, _, _, _, [], _, [], hW', trodAll_mk1 (shut_bool Tryd.underlying4 _), trodAll_cons_mk (stays r26 (tsz 26 (by decide)) h0 hb) (trodAll_cons_mk (stays r27 (tsz 27 (by decide)) h1 hb) (trodAll_cons_mk (stays r3 (tsz 3 (by decide)) h2 hb) trodAll_mk0)), rfl, hb.frame _, fun h => by cases h⟩

theorem alw_row : Rows.GroundAllowsSaid :=
  OpenClaim.holds_of_wide 10 Tryd.f10 rfl rfl rfl rfl rfl rfl rfl ⟨rfl, rfl, rfl, rfl, rfl⟩ rfl rfl rfl rfl rfl (by kernel_rfl) Tryd.func10 (by kernel_rfl)
    (of_decide_eq_true (by kernel_rfl)) (by unfold Func.isWrapper; first | (rw [if_pos (by decide +kernel)]; kernel_rfl) | (rw [if_neg (by decide +kernel)]; exact ⟨rfl, rfl⟩))
    (fun os started H enc _ => alw_lifted os started H enc)

/-- The statement. -/
theorem alw_card : Rows.GroundAllowsCardSaid :=
  Claim7.holds_tied_plain_at .later [] [.data, .data, .data] true (true, "4727e165f667c891d84fb128cf16b0ce71b21a5ca596fb9ffcefc2ec1f2d7f75") false
    alw_row (fun _ h => by cases h) (by kernel_rfl) (fun _ h => by cases h) groundAllows_row_tie rfl ⟨rfl, rfl⟩ (by kernel_rfl) rfl
    (fun f fn hf hfn => by
      obtain rfl : f = 10 := Option.some.inj ((show Tryd.prog.funcNamed "talik/taliklaw01.GroundAllows" = some 10 by kernel_rfl).symm.trans hf) |>.symm
      obtain rfl : fn = Tryd.f10 := (Option.some.inj (Tryd.func10.symm.trans hfn)).symm
      exact ⟨by kernel_rfl, fun j t ht => by
        rw [Tryd.params10] at ht
        have hm : t ∈ [26, 27, 3] := by simpa using Array.mem_of_getElem? ht
        have hall : ([26, 27, 3].all fun u => !Tryd.prog.wantsStandIn u) = true := by kernel_rfl
        exact (show Tryd.prog.wantsStandIn t = false by simpa using List.all_eq_true.1 hall t hm)⟩)
    (by kernel_rfl)
#print axioms alw_card
end Go.Proofs.YtccekbdhffccdaaDoor
