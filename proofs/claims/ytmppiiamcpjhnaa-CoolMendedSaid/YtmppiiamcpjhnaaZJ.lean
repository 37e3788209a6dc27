/- Coolers: repairs in time, whatever is true (CoolMended), for every input. -/
import Derived.Test.YtmppiiamcpjhnaaET
import Derived.Test.YtmppiiamcpjhnaaOC
namespace Go.Proofs.Ytmppiiamcpjhnaa
open Go.ChangeShapes Go.WideShapes Go.ChangeAt Go.RowKit

set_option maxRecDepth 100000 in
theorem coolMended_lifted (os : Os) (started : os.Started) (H : Type) (enc : TypeId × Value → H) :
    ReturnsInHanded {} Try.checked os 11 .any (Rows.coolMendedSpec.pre6 enc Try.prog Try.f11 Rows.coolMendedRow.domain false) (Rows.coolMendedSpec.post enc Try.prog Try.f11 false true false false) := by
  refine returnsInHanded_of_change (C := Try.checked) own_knob started (by kernel_rfl) Try.func11
    (ChangeSpec.witness6 (enc := enc) (C := Try.checked) false ⟨#[], #[.agg #[.slice none 0 0, .slice none 0 0], .slice none 0 0, .slice none 0 0, .agg #[.slice none 0 0, .slice none 0 0]], []⟩ 8 (by kernel_rfl) (by kernel_rfl) (by kernel_rfl) (by kernel_rfl)) ?_
  intro W base args ds gs before hval0 hW _ _
  have hval : ∀ (j : Nat) t v, Try.f11.params[j]? = some t → args[j]? = some v → Value.okWide Try.prog W .any base t v := hval0
  have hW' := hW
  obtain ⟨p, q, hA0, hV, rfl, hfz, hnd⟩ := hW
  have hA : DataW.TrodAll enc Try.prog W 0 (fun _ => true) true Try.f11.params.toList args.toList ds p := hA0
  rw [Try.params11] at hA hval
  obtain ⟨v0, v1, v2, v3, d0, d1, d2, d3, p0, p1, p2, p3, rfl, rfl, rfl, h0, h1, h2, h3⟩ := trodAll_four hA
  obtain ⟨rfl, rfl⟩ := trodVars_none hV
  obtain ⟨V0, N0, e0, g0⟩ := open_town (hval 0 25 v0 rfl rfl) h0
  obtain ⟨A1, n1, c1, l1, e1, k1, m1, q1, g1⟩ := open_ints (hval 1 26 v1 rfl rfl) h1
  obtain ⟨A2, n2, c2, l2, e2, k2, m2, q2, g2⟩ := open_ints (hval 2 26 v2 rfl rfl) h2
  obtain ⟨U3, X3, e3, g3⟩ := open_truth (hval 3 46 v3 rfl rfl) h3
  clear hA0 hval0 hA
  subst e0 e1 e2 e3
  refine (mended_law (V0) (N0) A1 n1 c1 l1 A2 n2 c2 l2 (U3) (X3) W g0 g3 q1 m1 k1 g1 q2 m2 k2 g2).mono fun e W' hh => ?_
  obtain ⟨rfl, hb⟩ := hh
  exact ⟨_, rfl, _, _, _, [], _, [], hW', trodAll_mk1 (shut_bool Try.underlying4 _), (trodAll_cons_mk (stays r25 (tsz 25 (by decide)) h0 hb) (trodAll_cons_mk (stays r26 (tsz 26 (by decide)) h1 hb) (trodAll_cons_mk (stays r26 (tsz 26 (by decide)) h2 hb) (trodAll_cons_mk (stays r46 (tsz 46 (by decide)) h3 hb) trodAll_mk0)))), rfl, hb.frame _, fun h => by cases h⟩

/-- The statement. -/
theorem coolMended_holds : Rows.CoolMendedSaid :=
  OpenClaim.holds_of_wide 11 Try.f11 rfl rfl rfl rfl rfl rfl rfl ⟨rfl, rfl, rfl, rfl, rfl⟩ rfl rfl rfl rfl rfl (by kernel_rfl) Try.func11 (by kernel_rfl)
    (of_decide_eq_true (by kernel_rfl)) (by unfold Func.isWrapper; first | (rw [if_pos (by decide +kernel)]; kernel_rfl) | (rw [if_neg (by decide +kernel)]; exact ⟨rfl, rfl⟩))
    (fun os started H enc _ => coolMended_lifted os started H enc)
#print axioms coolMended_holds
end Go.Proofs.Ytmppiiamcpjhnaa
