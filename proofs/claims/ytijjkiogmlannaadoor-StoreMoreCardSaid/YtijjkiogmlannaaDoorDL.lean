/- A winter more, and an ice more, never make a plan suffice that did not, nor the best plan cheaper. No condition (lists that are much too long are let through). -/
import Derived.Test.YtijjkiogmlannaaDoorDK
import Derived.Test.YtijjkiogmlannaaDoorCW
import Derived.Test.YtijjkiogmlannaaDoorTie
import Derived.Test.YtijjkiogmlannaaDoorCards
import Derived.SevenTiedAt
namespace Go.Proofs.YtijjkiogmlannaaDoor
open Go.ChangeShapes Go.WideShapes Go.ChangeAt Go.RowKit

section
set_option maxRecDepth 100000
variable {H : Type} {enc : TypeId × Value → H} {w : World} {base : Nat} {spare : Nat → Bool} {held : Bool}
theorem open_gds {r : Reach} {b0 : Nat} {v : Value} {d : DataW H} {p : List MemPlace} (hv : Value.okWide Tryd.prog w r b0 33 v) (h : DataW.Trod enc Tryd.prog w base spare held 33 v d p) :
    ∃ (A : Option Addr) (n c : Nat) (xs : List Gd), v = .slice A n c ∧ n ≤ c ∧ n ≤ maxLen ∧ xs.length = n ∧ GdsAt w w.heap.size A xs := by
  obtain ⟨fuel, hf⟩ := h
  obtain ⟨A, n, c, xs, e, g⟩ := open_rowAt (by decide) Tryd.underlying33 size23 (R := gR) open_gd hf
  exact ⟨A, n, c, xs, arg_slice hv Tryd.underlying33 e, g⟩
theorem open_bls {r : Reach} {b0 : Nat} {v : Value} {d : DataW H} {p : List MemPlace} (hv : Value.okWide Tryd.prog w r b0 42 v) (h : DataW.Trod enc Tryd.prog w base spare held 42 v d p) :
    ∃ (A : Option Addr) (n c : Nat) (xs : List Bool), v = .slice A n c ∧ n ≤ c ∧ n ≤ maxLen ∧ xs.length = n ∧ RowAt 1 boolR w w.heap.size A xs := by
  obtain ⟨fuel, hf⟩ := h
  obtain ⟨A, n, c, xs, e, g⟩ := open_rowAt (by decide) Tryd.underlying42 size4 (R := boolR) open_bl hf
  exact ⟨A, n, c, xs, arg_slice hv Tryd.underlying42 e, g⟩
end
theorem r33 : Tryd.prog.readableRec 33 = true := by kernel_rfl
theorem r42 : Tryd.prog.readableRec 42 = true := by kernel_rfl

set_option maxRecDepth 100000 in
theorem storeMore_lifted (os : Os) (started : os.Started) (H : Type) (enc : TypeId × Value → H) :
    ReturnsInHanded {} Tryd.checked os 11 .any (fun w args => (Rows.storeMoreSpec.pre enc Tryd.prog Tryd.f11 [] false w args ∧ laidMetH Tryd.prog LaidL w) ∧ sizedMet enc Tryd.prog Tryd.f11 (OpenSpec.ofChange Rows.storeMoreSpec) false w args)
      (Rows.storeMoreSpec.post enc Tryd.prog Tryd.f11 false true false false) := by
  refine returnsInHanded_of_change_and (C := Tryd.checked) (X := fun w _ => laidMetH Tryd.prog LaidL w) (fun _ _ _ hh h => h.of_heap hh) own_knob started (by kernel_rfl) Tryd.func11
    (ChangeSpec.witness_shaped (enc := enc) (C := Tryd.checked) (os := os) (X := fun w _ => laidMetH Tryd.prog LaidL w) false (World.doorLaid Tryd.prog 400 os)
      #[.agg #[.int .i64 0, .int .i64 0, .int .i64 0, .int .i64 0, .int .i64 0, .int .i64 0, .int .i64 0, .int .i64 0, .int .i64 0, .slice none 0 0, .slice none 0 0, .slice none 0 0], .int .i64 0, .slice none 0 0, .slice none 0 0] 8 rfl (World.shaped_of_RefB (by kernel_rfl) (by kernel_rfl)) (by kernel_rfl) (by kernel_rfl) (by kernel_rfl) (door_met os _)) ?_
  intro W base args ds gs before hval0 hW _ _ hL0 _
  have hval : ∀ (j : Nat) t v, Tryd.f11.params[j]? = some t → args[j]? = some v → Value.okWide Tryd.prog W .any base t v := hval0
  have hW' := hW
  obtain ⟨p, q, hA0, hV, rfl, hfz, hnd⟩ := hW
  have hA : DataW.TrodAll enc Tryd.prog W 0 (fun _ => true) true Tryd.f11.params.toList args.toList ds p := hA0
  rw [Tryd.params11] at hA hval
  obtain ⟨v0, v1, v2, v3, d0, d1, d2, d3, p0, p1, p2, p3, rfl, rfl, rfl, h0, h1, h2, h3⟩ := trodAll_four hA
  obtain ⟨rfl, rfl⟩ := trodVars_none hV
  obtain ⟨X, e0, hX⟩ := open_store (hval 0 28 v0 rfl rfl) h0
  obtain ⟨x1, e1, r1_⟩ := open_int Tryd.underlying3 (hval 1 3 v1 rfl rfl) h1
  obtain ⟨A2, n2, c2_, y2, e2, hc2, hm2, hl2, hG2⟩ := open_gds (hval 2 33 v2 rfl rfl) h2
  obtain ⟨A3, n3, c3_, y3, e3, hc3, hm3, hl3, hG3⟩ := open_bls (hval 3 42 v3 rfl rfl) h3
  have ht := tab_of_laid hL0
  clear hA0 hval0 hA
  subst e0 e1 e2 e3
  refine (more_law (X := X) hX ht x1 A2 n2 c2_ y2 A3 n3 c3_ y3 hl2 hc2 hm2 hG2 hl3 hc3 hm3 hG3).mono fun e W' hh => ?_
  obtain ⟨rfl, hb⟩ := hh
  exact ⟨_, rfl, _, _, _, [], _, [], hW', trodAll_mk1 (shut_bool Tryd.underlying4 _), trodAll_cons_mk (stays r28 (tsz 28 (by decide)) h0 hb) (trodAll_cons_mk (stays r3 (tsz 3 (by decide)) h1 hb) (trodAll_cons_mk (stays r33 (tsz 33 (by decide)) h2 hb) (trodAll_cons_mk (stays r42 (tsz 42 (by decide)) h3 hb) trodAll_mk0))), rfl, hb.frame _, fun h => by cases h⟩

theorem storeMore_row : Rows.StoreMoreSaid :=
  OpenClaim.holds_of_wide 11 Tryd.f11 rfl rfl rfl rfl rfl rfl rfl ⟨rfl, rfl, rfl, rfl, rfl⟩ rfl rfl rfl rfl rfl (by kernel_rfl) Tryd.func11 (by kernel_rfl)
    (of_decide_eq_true (by kernel_rfl)) (by unfold Func.isWrapper; first | (rw [if_pos (by decide +kernel)]; kernel_rfl) | (rw [if_neg (by decide +kernel)]; exact ⟨rfl, rfl⟩))
    (fun os started H enc _ => storeMore_lifted os started H enc)

/-- The statement. -/
theorem storeMore_card : Rows.StoreMoreCardSaid :=
  Claim7.holds_tied_plain_at .later [] [.data, .data, .data] true (true, "86a3c41471132a7868ef16d12c3bac5dfb3c7f88965c999f93f34427acdaf01b") false
    storeMore_row (fun _ h => by cases h) (by kernel_rfl) (fun _ h => by cases h) storeMore_row_tie rfl ⟨rfl, rfl⟩ (by kernel_rfl) rfl
    (fun f fn hf hfn => by
      obtain rfl : f = 11 := Option.some.inj ((show Tryd.prog.funcNamed "talik/taliklaw06.StoreMore" = some 11 by kernel_rfl).symm.trans hf) |>.symm
      obtain rfl : fn = Tryd.f11 := (Option.some.inj (Tryd.func11.symm.trans hfn)).symm
      exact ⟨by kernel_rfl, fun j t ht => by
        rw [Tryd.params11] at ht
        have hm : t ∈ [28, 3, 33, 42] := by simpa using Array.mem_of_getElem? ht
        have hall : ([28, 3, 33, 42].all fun u => !Tryd.prog.wantsStandIn u) = true := by kernel_rfl
        exact (show Tryd.prog.wantsStandIn t = false by simpa using List.all_eq_true.1 hall t hm)⟩)
    (by kernel_rfl)
#print axioms storeMore_card
end Go.Proofs.YtijjkiogmlannaaDoor
