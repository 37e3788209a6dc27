/- The book of levels is what the specification prints, it is read as the levels; and levels that are none have no book but the error. No condition (lists that are much too long are let through). -/
import Derived.Test.YtdlaphlpimlgdaaGreatDoorDK
import Derived.Test.YtdlaphlpimlgdaaGreatDoorEY
namespace Go.Proofs.YtdlaphlpimlgdaaGreatDoor
open Go.ChangeShapes Go.WideShapes Go.ChangeAt Go.RowKit

set_option maxRecDepth 100000 in
theorem books_lifted (os : Os) (started : os.Started) (H : Type) (enc : TypeId × Value → H) :
    ReturnsInHanded {} Tryz.checked os 14 .any (fun w args => (Rows.pileBooksSpec.pre enc Tryz.prog Tryz.f14 [] false w args ∧ laidMetH Tryz.prog LaidB w) ∧ sizedMet enc Tryz.prog Tryz.f14 (OpenSpec.ofChange Rows.pileBooksSpec) false w args)
      (Rows.pileBooksSpec.post enc Tryz.prog Tryz.f14 false true false false) := by
  refine handed_and_shaped2 (C := Tryz.checked) (X := fun w _ => laidMetH Tryz.prog LaidB w) (fun _ _ _ hh h => h.of_heap hh) own_knob started (by kernel_rfl) Tryz.func14
    (ChangeSpec.witness_shaped (enc := enc) (C := Tryz.checked) (os := os) (X := fun w _ => laidMetH Tryz.prog LaidB w) false (World.laidAll Tryz.prog os LaidB)
      #[.slice none 0 0] 8 (World.laidAll_os _ _ _) (World.shaped_of_ZipB (by kernel_rfl) (by kernel_rfl)) (by kernel_rfl) (by kernel_rfl) (by kernel_rfl) (door_metB os _)) ?_
  intro W base args ds gs before hval0 hW hL0 hsh
  have hval : ∀ (j : Nat) t v, Tryz.f14.params[j]? = some t → args[j]? = some v → Value.okWide Tryz.prog W .any base t v := hval0
  have hW' := hW
  obtain ⟨p, q, hA0, hV, rfl, hfz, hnd⟩ := hW
  have hA : DataW.TrodAll enc Tryz.prog W 0 (fun _ => true) true Tryz.f14.params.toList args.toList ds p := hA0
  rw [Tryz.params14] at hA hval
  obtain ⟨v0, d0, rfl, rfl, h0⟩ := trodAll_one hA
  obtain ⟨rfl, rfl⟩ := trodVars_none hV
  obtain ⟨A, n, c, ts, e0, _, hn, hl, hT⟩ := open_book (hval 0 53 v0 rfl rfl) h0
  have ht := tab_of_laidB hL0
  have hx := max_of_shape hsh
  clear hA0 hval0 hA
  subst e0
  refine (books_law A n c ts W ht hx hl hn hT).mono fun e W' hh => ?_
  obtain ⟨rfl, hb⟩ := hh
  exact ⟨_, rfl, _, _, _, [], _, [], hW', trodAll_mk1 (shut_bool Tryz.underlying4 _), trodAll_cons_mk (stays r53 (tsz 53 (by decide)) h0 hb) trodAll_mk0, rfl, hb.frame _, fun h => by cases h⟩

theorem books_row : Rows.PileBooksSaid :=
  OpenClaim.holds_of_wide 14 Tryz.f14 rfl rfl rfl rfl rfl rfl rfl ⟨rfl, rfl, rfl, rfl, rfl⟩ rfl rfl rfl rfl rfl (by kernel_rfl) Tryz.func14 (by kernel_rfl)
    (of_decide_eq_true (by kernel_rfl)) (by unfold Func.isWrapper; first | (rw [if_pos (by decide +kernel)]; kernel_rfl) | (rw [if_neg (by decide +kernel)]; exact ⟨rfl, rfl⟩))
    (fun os started H enc _ => books_lifted os started H enc)

/-- The statement. -/
theorem books_card : Rows.PileBooksCardSaid :=
  Claim7.holds_tied_plain_at .later [] [.data, .data, .data, .data, .pinned] true (true, "a256a8149ddfe718b4c1d3902c99956daa1d9ab4ac3e97d0372f5e99a088ab2d") true
    books_row (fun _ h => by cases h) (by kernel_rfl) (fun _ h => by cases h) pileBooks_row_tie rfl ⟨rfl, rfl⟩ (by kernel_rfl) rfl
    (fun f fn hf hfn => by
      obtain rfl : f = 14 := Option.some.inj ((show Tryz.prog.funcNamed "talik/taliklaw02.PileBooks" = some 14 by kernel_rfl).symm.trans hf) |>.symm
      obtain rfl : fn = Tryz.f14 := (Option.some.inj (Tryz.func14.symm.trans hfn)).symm
      exact ⟨by kernel_rfl, fun j t ht => by
        rw [Tryz.params14] at ht
        have hm : t ∈ [53] := by simpa using Array.mem_of_getElem? ht
        have hall : ([53].all fun u => !Tryz.prog.wantsStandIn u) = true := by kernel_rfl
        exact (show Tryz.prog.wantsStandIn t = false by simpa using List.all_eq_true.1 hall t hm)⟩)
    (by kernel_rfl)
#print axioms books_card
end Go.Proofs.YtdlaphlpimlgdaaGreatDoor
