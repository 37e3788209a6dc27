/- Whatever heat somebody proposes, the depth can be exceeded with it just if it is more than may come; and whatever more a winter could take out, the depth is exceeded in a truth only if it is less than is needed, and it can be exceeded just if it is. No condition: any place, years, depth, proposed heat and cold, and truth. -/
import Derived.Test.YtccekbdhffccdaaDoorZS
import Derived.Test.YtccekbdhffccdaaDoorVC
import Derived.Test.YtccekbdhffccdaaDoorTie
import Derived.Test.YtccekbdhffccdaaDoorCards
import Derived.SevenTiedAt
namespace Go.Proofs.YtccekbdhffccdaaDoor
open Go.ChangeShapes Go.WideShapes Go.ChangeAt Go.RowKit

set_option maxRecDepth 100000 in
theorem riv_lifted (os : Os) (started : os.Started) (H : Type) (enc : TypeId × Value → H) :
    ReturnsInHanded {} Tryd.checked os 11 .any (fun w args => (Rows.groundRivalsSpec.pre enc Tryd.prog Tryd.f11 [] false w args ∧ laidMetH Tryd.prog LaidL w) ∧ sizedMet enc Tryd.prog Tryd.f11 (OpenSpec.ofChange Rows.groundRivalsSpec) false w args)
      (Rows.groundRivalsSpec.post enc Tryd.prog Tryd.f11 false true false false) := by
  refine returnsInHanded_of_change_and (C := Tryd.checked) (X := fun w _ => laidMetH Tryd.prog LaidL w) (fun _ _ _ hh h => h.of_heap hh) own_knob started (by kernel_rfl) Tryd.func11
    (ChangeSpec.witness_shaped (enc := enc) (C := Tryd.checked) (os := os) (X := fun w _ => laidMetH Tryd.prog LaidL w) false (World.doorLaid Tryd.prog 400 os)
      #[.agg #[.slice none 0 0, .int .i64 0, .int .i64 0], .slice none 0 0, .int .i64 0, .int .i64 0, .int .i64 0, .agg #[.slice none 0 0, .slice none 0 0, .slice none 0 0, .slice none 0 0, .slice none 0 0]] 8 rfl (World.shaped_of_RefB (by kernel_rfl) (by kernel_rfl)) (by kernel_rfl) (by kernel_rfl) (by kernel_rfl) (door_met os _)) ?_
  intro W base args ds gs before hval0 hW _ _ hL0 _
  have hval : ∀ (j : Nat) t v, Tryd.f11.params[j]? = some t → args[j]? = some v → Value.okWide Tryd.prog W .any base t v := hval0
  have hW' := hW
  obtain ⟨p, q, hA0, hV, rfl, hfz, hnd⟩ := hW
  have hA : DataW.TrodAll enc Tryd.prog W 0 (fun _ => true) true Tryd.f11.params.toList args.toList ds p := hA0
  rw [Tryd.params11] at hA hval
  obtain ⟨v0, v1, v2, v3, v4, v5, d0, d1, d2, d3, d4, d5, p0, p1, p2, p3, p4, p5, rfl, rfl, rfl, h0, h1, h2, h3, h4, h5⟩ := trodAll_six hA
  obtain ⟨rfl, rfl⟩ := trodVars_none hV
  obtain ⟨A, n, c, ls, lo, hi, e0, hc, hn, hl, hL⟩ := open_place (hval 0 26 v0 rfl rfl) h0
  obtain ⟨A2, m, c', ys, e1, _, hm, hy, hY⟩ := open_years (hval 1 27 v1 rfl rfl) h1
  obtain ⟨x2, e2, r2_⟩ := open_int Tryd.underlying3 (hval 2 3 v2 rfl rfl) h2
  obtain ⟨x3, e3, r3_⟩ := open_int Tryd.underlying3 (hval 3 3 v3 rfl rfl) h3
  obtain ⟨x4, e4, r4_⟩ := open_int Tryd.underlying3 (hval 4 3 v4 rfl rfl) h4
  obtain ⟨u0, u1, u2, u3, u4, ms, ws, ss, vs, ns, e5, ⟨AM, cm, f0, k0, g0, i0⟩, ⟨AW, cw, f1, k1, g1, i1⟩, ⟨AS, cs, f2, k2, g2, i2⟩, ⟨AV, cv, f3, k3, g3, i3⟩, ⟨AN, cn, f4, k4, g4, i4⟩⟩ := open_truth (hval 5 41 v5 rfl rfl) h5
  have ht := tab_of_laid hL0
  clear hA0 hval0 hA
  subst e0 e1 e2 e3 e4 e5 f0 f1 f2 f3 f4
  refine (riv_any A A2 AM AW AS AV AN n c m c' ms.length cm ws.length cw ss.length cs vs.length cv ns.length cn ls ys lo hi x2 x3 x4 ms ws ss vs ns W ht hl hc hn hL hy hm hY rfl k0 g0 i0 rfl k1 g1 i1 rfl k2 g2 i2 rfl k3 g3 i3 rfl k4 g4 i4).mono fun e W' hh => ?_
  obtain ⟨rfl, hb⟩ := hh
  exact ⟨_, rfl, _, _, _, [], _, [], hW', trodAll_mk1 (shut_bool Tryd.underlying4 _), trodAll_cons_mk (stays r26 (tsz 26 (by decide)) h0 hb) (trodAll_cons_mk (stays r27 (tsz 27 (by decide)) h1 hb) (trodAll_cons_mk (stays r3 (tsz 3 (by decide)) h2 hb) (trodAll_cons_mk (stays r3 (tsz 3 (by decide)) h3 hb) (trodAll_cons_mk (stays r3 (tsz 3 (by decide)) h4 hb) (trodAll_cons_mk (stays r41 (tsz 41 (by decide)) h5 hb) trodAll_mk0))))), rfl, hb.frame _, fun h => by cases h⟩

theorem riv_row : Rows.GroundRivalsSaid :=
  OpenClaim.holds_of_wide 11 Tryd.f11 rfl rfl rfl rfl rfl rfl rfl ⟨rfl, rfl, rfl, rfl, rfl⟩ rfl rfl rfl rfl rfl (by kernel_rfl) Tryd.func11 (by kernel_rfl)
    (of_decide_eq_true (by kernel_rfl)) (by unfold Func.isWrapper; first | (rw [if_pos (by decide +kernel)]; kernel_rfl) | (rw [if_neg (by decide +kernel)]; exact ⟨rfl, rfl⟩))
    (fun os started H enc _ => riv_lifted os started H enc)

/-- The statement. -/
theorem riv_card : Rows.GroundRivalsCardSaid :=
  Claim7.holds_tied_plain_at .later [] [.data, .data, .data] true (true, "4727e165f667c891d84fb128cf16b0ce71b21a5ca596fb9ffcefc2ec1f2d7f75") false
    riv_row (fun _ h => by cases h) (by kernel_rfl) (fun _ h => by cases h) groundRivals_row_tie rfl ⟨rfl, rfl⟩ (by kernel_rfl) rfl
    (fun f fn hf hfn => by
      obtain rfl : f = 11 := Option.some.inj ((show Tryd.prog.funcNamed "talik/taliklaw01.GroundRivals" = some 11 by kernel_rfl).symm.trans hf) |>.symm
      obtain rfl : fn = Tryd.f11 := (Option.some.inj (Tryd.func11.symm.trans hfn)).symm
      exact ⟨by kernel_rfl, fun j t ht => by
        rw [Tryd.params11] at ht
        have hm : t ∈ [26, 27, 3, 3, 3, 41] := by simpa using Array.mem_of_getElem? ht
        have hall : ([26, 27, 3, 3, 3, 41].all fun u => !Tryd.prog.wantsStandIn u) = true := by kernel_rfl
        exact (show Tryd.prog.wantsStandIn t = false by simpa using List.all_eq_true.1 hall t hm)⟩)
    (by kernel_rfl)
#print axioms riv_card
end Go.Proofs.YtccekbdhffccdaaDoor
