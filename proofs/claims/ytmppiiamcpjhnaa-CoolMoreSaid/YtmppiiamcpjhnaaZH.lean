/- Coolers: a cooler more, and a house that needs less (CoolMore), for every input. -/
import Derived.Test.YtmppiiamcpjhnaaEN
import Derived.Test.YtmppiiamcpjhnaaOC
namespace Go.Proofs.Ytmppiiamcpjhnaa
open Go.ChangeShapes Go.WideShapes Go.ChangeAt Go.RowKit

set_option maxRecDepth 100000 in
theorem coolMore_lifted (os : Os) (started : os.Started) (H : Type) (enc : TypeId × Value → H) :
    ReturnsInHanded {} Try.checked os 12 .any (Rows.coolMoreSpec.pre6 enc Try.prog Try.f12 Rows.coolMoreRow.domain false) (Rows.coolMoreSpec.post enc Try.prog Try.f12 false true false false) := by
  refine returnsInHanded_of_change (C := Try.checked) own_knob started (by kernel_rfl) Try.func12
    (ChangeSpec.witness6 (enc := enc) (C := Try.checked) false ⟨#[], #[.agg #[.slice none 0 0, .slice none 0 0], .slice none 0 0, .int .i64 0, .int .i64 0, .int .i64 0, .int .i64 0], []⟩ 8 (by kernel_rfl) (by kernel_rfl) (by kernel_rfl) (by kernel_rfl)) ?_
  intro W base args ds gs before hval0 hW _ _
  have hval : ∀ (j : Nat) t v, Try.f12.params[j]? = some t → args[j]? = some v → Value.okWide Try.prog W .any base t v := hval0
  have hW' := hW
  obtain ⟨p, q, hA0, hV, rfl, hfz, hnd⟩ := hW
  have hA : DataW.TrodAll enc Try.prog W 0 (fun _ => true) true Try.f12.params.toList args.toList ds p := hA0
  rw [Try.params12] at hA hval
  obtain ⟨v0, v1, v2, v3, v4, v5, d0, d1, d2, d3, d4, d5, p0, p1, p2, p3, p4, p5, rfl, rfl, rfl, h0, h1, h2, h3, h4, h5⟩ := trodAll_six hA
  obtain ⟨rfl, rfl⟩ := trodVars_none hV
  obtain ⟨V0, N0, e0, g0⟩ := open_town (hval 0 25 v0 rfl rfl) h0
  obtain ⟨A1, n1, c1, l1, e1, _, m1, q1, g1⟩ := open_ints (hval 1 26 v1 rfl rfl) h1
  obtain ⟨x2, e2, _⟩ := open_int Try.underlying3 (hval 2 3 v2 rfl rfl) h2
  obtain ⟨x3, e3, _⟩ := open_int Try.underlying3 (hval 3 3 v3 rfl rfl) h3
  obtain ⟨x4, e4, _⟩ := open_int Try.underlying3 (hval 4 3 v4 rfl rfl) h4
  obtain ⟨x5, e5, _⟩ := open_int Try.underlying3 (hval 5 3 v5 rfl rfl) h5
  clear hA0 hval0 hA
  subst e0 e1 e2 e3 e4 e5
  refine (more_law (V0) (N0) A1 n1 c1 l1 x2 x3 x4 x5 W g0 q1 m1 g1).mono fun e W' hh => ?_
  obtain ⟨rfl, hb⟩ := hh
  exact ⟨_, rfl, _, _, _, [], _, [], hW', trodAll_mk1 (shut_bool Try.underlying4 _), (trodAll_cons_mk (stays r25 (tsz 25 (by decide)) h0 hb) (trodAll_cons_mk (stays r26 (tsz 26 (by decide)) h1 hb) (trodAll_cons_mk (stays r3 (tsz 3 (by decide)) h2 hb) (trodAll_cons_mk (stays r3 (tsz 3 (by decide)) h3 hb) (trodAll_cons_mk (stays r3 (tsz 3 (by decide)) h4 hb) (trodAll_cons_mk (stays r3 (tsz 3 (by decide)) h5 hb) trodAll_mk0)))))), rfl, hb.frame _, fun h => by cases h⟩

/-- The statement. -/
theorem coolMore_holds : Rows.CoolMoreSaid :=
  OpenClaim.holds_of_wide 12 Try.f12 rfl rfl rfl rfl rfl rfl rfl ⟨rfl, rfl, rfl, rfl, rfl⟩ rfl rfl rfl rfl rfl (by kernel_rfl) Try.func12 (by kernel_rfl)
    (of_decide_eq_true (by kernel_rfl)) (by unfold Func.isWrapper; first | (rw [if_pos (by decide +kernel)]; kernel_rfl) | (rw [if_neg (by decide +kernel)]; exact ⟨rfl, rfl⟩))
    (fun os started H enc _ => coolMore_lifted os started H enc)
#print axioms coolMore_holds
end Go.Proofs.Ytmppiiamcpjhnaa
