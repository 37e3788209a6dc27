/- With the best wrapping each fault has an order; no wrapping that somebody proposes with which each one has is cheaper, or as cheap and less as a number; if there is none, some fault has none with each proposed one. For any net, place, faults and wrapping. -/
import Derived.Test.YticmeeinjkoodaaRQ
namespace Go.Proofs.Yticmeeinjkoodaa
open Go.ChangeShapes Go.WideShapes Go.ChangeAt Go.RowKit

set_option maxRecDepth 100000 in
theorem pipeWrapped_lifted (os : Os) (started : os.Started) (H : Type) (enc : TypeId × Value → H) :
    ReturnsInHanded {} Try.checked os 14 .any (Rows.pipeWrappedSpec.pre6 enc Try.prog Try.f14 Rows.pipeWrappedRow.domain false) (Rows.pipeWrappedSpec.post enc Try.prog Try.f14 false true false false) := by
  refine returnsInHanded_of_change (C := Try.checked) own_knob started (by kernel_rfl) Try.func14
    (ChangeSpec.witness6 (enc := enc) (C := Try.checked) false ⟨#[], #[.agg #[.slice none 0 0, .slice none 0 0, .slice none 0 0], .int .i64 0, .slice none 0 0, .int .i64 0], []⟩ 8 (by kernel_rfl) (by kernel_rfl) (by kernel_rfl) (by kernel_rfl)) ?_
  intro W base args ds gs before hval0 hW _ _
  have hval : ∀ (j : Nat) t v, Try.f14.params[j]? = some t → args[j]? = some v → Value.okWide Try.prog W .any base t v := hval0
  have hW' := hW
  obtain ⟨p, q, hA0, hV, rfl, hfz, hnd⟩ := hW
  have hA : DataW.TrodAll enc Try.prog W 0 (fun _ => true) true Try.f14.params.toList args.toList ds p := hA0
  rw [Try.params14] at hA hval
  obtain ⟨v0, v1, v2, v3, d0, d1, d2, d3, p0, p1, p2, p3, rfl, rfl, rfl, h0, h1, h2, h3⟩ := trodAll_four hA
  obtain ⟨rfl, rfl⟩ := trodVars_none hV
  obtain ⟨V0, N0, e0, g0⟩ := open_net (hval 0 26 v0 rfl rfl) h0
  obtain ⟨x1, e1, _⟩ := open_int Try.underlying3 (hval 1 3 v1 rfl rfl) h1
  obtain ⟨A2, n2, c2, l2, e2, _, m2, q2, g2⟩ := open_ints (hval 2 57 v2 rfl rfl) h2
  obtain ⟨x3, e3, _⟩ := open_int Try.underlying3 (hval 3 3 v3 rfl rfl) h3
  clear hA0 hval0 hA
  subst e0 e1 e2 e3
  refine (wrapped_law (V0) (N0) x1 A2 n2 c2 l2 x3 W g0 q2 m2 g2).mono fun e W' hh => ?_
  obtain ⟨rfl, hb⟩ := hh
  exact ⟨_, rfl, _, _, _, [], _, [], hW', trodAll_mk1 (shut_bool Try.underlying4 _), (trodAll_cons_mk (stays r26 (tsz 26 (by decide)) h0 hb) (trodAll_cons_mk (stays r3 (tsz 3 (by decide)) h1 hb) (trodAll_cons_mk (stays r57 (tsz 57 (by decide)) h2 hb) (trodAll_cons_mk (stays r3 (tsz 3 (by decide)) h3 hb) trodAll_mk0)))), rfl, hb.frame _, fun h => by cases h⟩

/-- The statement. -/
theorem pipeWrapped_holds : Rows.PipeWrappedSaid :=
  OpenClaim.holds_of_wide 14 Try.f14 rfl rfl rfl rfl rfl rfl rfl ⟨rfl, rfl, rfl, rfl, rfl⟩ rfl rfl rfl rfl rfl (by kernel_rfl) Try.func14 (by kernel_rfl)
    (of_decide_eq_true (by kernel_rfl)) (by unfold Func.isWrapper; first | (rw [if_pos (by decide +kernel)]; kernel_rfl) | (rw [if_neg (by decide +kernel)]; exact ⟨rfl, rfl⟩))
    (fun os started H enc _ => pipeWrapped_lifted os started H enc)
#print axioms pipeWrapped_holds
end Go.Proofs.Yticmeeinjkoodaa
