/- A place, and years, that are known better have bounds within those of the others; more heat, and more snow, never make thaw less deep, or less ground stay thawed, and more ice never makes it deeper. No condition: any place, years, percentages, and by how much more (what is not as defined is let through). -/
import Derived.Test.YtccekbdhffccdaaDoorZX
import Derived.Test.YtccekbdhffccdaaDoorZY
import Derived.Test.YtccekbdhffccdaaDoorVC
import Derived.Test.YtccekbdhffccdaaDoorTie
import Derived.Test.YtccekbdhffccdaaDoorCards
import Derived.SevenTiedAt
namespace Go.Proofs.YtccekbdhffccdaaDoor
open Go.ChangeShapes Go.WideShapes Go.ChangeAt Go.RowKit

theorem mor_any (A A2 : Option Addr) (n c m c' : Nat) (ls : List Lay) (ys : List Yr) (lo hi a b k1 k2 k3 : Int) (w : World) (ht : Tab w) (hl : ls.length = n) (hcap : n ≤ c) (hn : n ≤ maxLen) (hL : LaysAt w w.heap.size A ls) (hy : ys.length = m) (hm : m ≤ maxLen) (hY : YrsAt w w.heap.size A2 ys) :
    Calls Tryd.prog 15 #[.agg #[.slice A n c, .int .i64 lo, .int .i64 hi], .slice A2 m c', .int .i64 a, .int .i64 b, .int .i64 k1, .int .i64 k2, .int .i64 k3] w fun e w' => e = .returned (.bool true) ∧ Below w.heap.size w w' := by
  cases hs : decide (n ≤ 12 ∧ m ≤ 17) with
  | false => exact mor_far a b k1 k2 k3 A A2 n c m c' lo hi w ht hn hm hs
  | true =>
    by_cases hr : yearsI ls lo hi ys = 0
    · by_cases ho : a < 0 ∨ b < a ∨ 100 < b ∨ k1 < 0 ∨ 1000000 < k1 ∨ k2 < 0 ∨ 1000 < k2 ∨ k3 < 0 ∨ 1000 < k3
      · exact mor_odd a b k1 k2 k3 A A2 n c m c' ls ys lo hi w ht hl hn hL hy hm hY hs hr ho
      · exact mor_good A A2 n c m c' ls ys lo hi a b k1 k2 k3 w ht hl hcap hn hL hy hm hY hs hr (by omega) (by omega) (by omega) (by omega) (by omega) (by omega) (by omega) (by omega) (by omega)
    · exact mor_bad _ a b k1 k2 k3 A A2 n c m c' ls ys lo hi w ht hl hn hL hy hm hY hs rfl hr
set_option maxRecDepth 100000 in
theorem mor_lifted (os : Os) (started : os.Started) (H : Type) (enc : TypeId × Value → H) :
    ReturnsInHanded {} Tryd.checked os 15 .any (fun w args => (Rows.groundMoreSpec.pre enc Tryd.prog Tryd.f15 [] false w args ∧ laidMetH Tryd.prog LaidL w) ∧ sizedMet enc Tryd.prog Tryd.f15 (OpenSpec.ofChange Rows.groundMoreSpec) false w args)
      (Rows.groundMoreSpec.post enc Tryd.prog Tryd.f15 false true false false) := by
  refine returnsInHanded_of_change_and (C := Tryd.checked) (X := fun w _ => laidMetH Tryd.prog LaidL w) (fun _ _ _ hh h => h.of_heap hh) own_knob started (by kernel_rfl) Tryd.func15
    (ChangeSpec.witness_shaped (enc := enc) (C := Tryd.checked) (os := os) (X := fun w _ => laidMetH Tryd.prog LaidL w) false (World.doorLaid Tryd.prog 400 os)
      #[.agg #[.slice none 0 0, .int .i64 0, .int .i64 0], .slice none 0 0, .int .i64 0, .int .i64 0, .int .i64 0, .int .i64 0, .int .i64 0] 8 rfl (World.shaped_of_RefB (by kernel_rfl) (by kernel_rfl)) (by kernel_rfl) (by kernel_rfl) (by kernel_rfl) (door_met os _)) ?_
  intro W base args ds gs before hval0 hW _ _ hL0 _
  have hval : ∀ (j : Nat) t v, Tryd.f15.params[j]? = some t → args[j]? = some v → Value.okWide Tryd.prog W .any base t v := hval0
  have hW' := hW
  obtain ⟨p, q, hA0, hV, rfl, hfz, hnd⟩ := hW
  have hA : DataW.TrodAll enc Tryd.prog W 0 (fun _ => true) true Tryd.f15.params.toList args.toList ds p := hA0
  rw [Tryd.params15] at hA hval
  obtain ⟨v0, v1, v2, v3, v4, v5, v6, d0, d1, d2, d3, d4, d5, d6, p0, p1, p2, p3, p4, p5, p6, rfl, rfl, rfl, h0, h1, h2, h3, h4, h5, h6⟩ := trodAll_seven hA
  obtain ⟨rfl, rfl⟩ := trodVars_none hV
  obtain ⟨A, n, c, ls, lo, hi, e0, hc, hn, hl, hL⟩ := open_place (hval 0 26 v0 rfl rfl) h0
  obtain ⟨A2, m, c', ys, e1, _, hm, hy, hY⟩ := open_years (hval 1 27 v1 rfl rfl) h1
  obtain ⟨x2, e2, r2_⟩ := open_int Tryd.underlying3 (hval 2 3 v2 rfl rfl) h2
  obtain ⟨x3, e3, r3_⟩ := open_int Tryd.underlying3 (hval 3 3 v3 rfl rfl) h3
  obtain ⟨x4, e4, r4_⟩ := open_int Tryd.underlying3 (hval 4 3 v4 rfl rfl) h4
  obtain ⟨x5, e5, r5_⟩ := open_int Tryd.underlying3 (hval 5 3 v5 rfl rfl) h5
  obtain ⟨x6, e6, r6_⟩ := open_int Tryd.underlying3 (hval 6 3 v6 rfl rfl) h6
  have ht := tab_of_laid hL0
  clear hA0 hval0 hA
  subst e0 e1 e2 e3 e4 e5 e6
  refine (mor_any A A2 n c m c' ls ys lo hi x2 x3 x4 x5 x6 W ht hl hc hn hL hy hm hY).mono fun e W' hh => ?_
  obtain ⟨rfl, hb⟩ := hh
  exact ⟨_, rfl, _, _, _, [], _, [], hW', trodAll_mk1 (shut_bool Tryd.underlying4 _), trodAll_cons_mk (stays r26 (tsz 26 (by decide)) h0 hb) (trodAll_cons_mk (stays r27 (tsz 27 (by decide)) h1 hb) (trodAll_cons_mk (stays r3 (tsz 3 (by decide)) h2 hb) (trodAll_cons_mk (stays r3 (tsz 3 (by decide)) h3 hb) (trodAll_cons_mk (stays r3 (tsz 3 (by decide)) h4 hb) (trodAll_cons_mk (stays r3 (tsz 3 (by decide)) h5 hb) (trodAll_cons_mk (stays r3 (tsz 3 (by decide)) h6 hb) trodAll_mk0)))))), rfl, hb.frame _, fun h => by cases h⟩

theorem mor_row : Rows.GroundMoreSaid :=
  OpenClaim.holds_of_wide 15 Tryd.f15 rfl rfl rfl rfl rfl rfl rfl ⟨rfl, rfl, rfl, rfl, rfl⟩ rfl rfl rfl rfl rfl (by kernel_rfl) Tryd.func15 (by kernel_rfl)
    (of_decide_eq_true (by kernel_rfl)) (by unfold Func.isWrapper; first | (rw [if_pos (by decide +kernel)]; kernel_rfl) | (rw [if_neg (by decide +kernel)]; exact ⟨rfl, rfl⟩))
    (fun os started H enc _ => mor_lifted os started H enc)

/-- The statement. -/
theorem mor_card : Rows.GroundMoreCardSaid :=
  Claim7.holds_tied_plain_at .later [] [.data, .data, .data] true (true, "4727e165f667c891d84fb128cf16b0ce71b21a5ca596fb9ffcefc2ec1f2d7f75") false
    mor_row (fun _ h => by cases h) (by kernel_rfl) (fun _ h => by cases h) groundMore_row_tie rfl ⟨rfl, rfl⟩ (by kernel_rfl) rfl
    (fun f fn hf hfn => by
      obtain rfl : f = 15 := Option.some.inj ((show Tryd.prog.funcNamed "talik/taliklaw01.GroundMore" = some 15 by kernel_rfl).symm.trans hf) |>.symm
      obtain rfl : fn = Tryd.f15 := (Option.some.inj (Tryd.func15.symm.trans hfn)).symm
      exact ⟨by kernel_rfl, fun j t ht => by
        rw [Tryd.params15] at ht
        have hm : t ∈ [26, 27, 3, 3, 3, 3, 3] := by simpa using Array.mem_of_getElem? ht
        have hall : ([26, 27, 3, 3, 3, 3, 3].all fun u => !Tryd.prog.wantsStandIn u) = true := by kernel_rfl
        exact (show Tryd.prog.wantsStandIn t = false by simpa using List.all_eq_true.1 hall t hm)⟩)
    (by kernel_rfl)
#print axioms mor_card
end Go.Proofs.YtccekbdhffccdaaDoor
