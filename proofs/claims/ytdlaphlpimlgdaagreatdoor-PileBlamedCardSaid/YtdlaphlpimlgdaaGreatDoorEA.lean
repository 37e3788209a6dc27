/- Truths in which one pile settles most and all others least (for PileBlamed). -/
import Derived.Test.YtdlaphlpimlgdaaGreatDoorCS
namespace Go.Proofs.YtdlaphlpimlgdaaGreatDoor
open Go.RowKit Go.Shelf

def Ctx.mixT (X : Ctx) (p t i : Nat) : Tru := X.endT (decide (i = p)) t i
def Ctx.mixL (X : Ctx) (p : Nat) : List (List Tru) := gridL (X.mixT p) X.n X.np
theorem mixL_len (X : Ctx) (p : Nat) : (X.mixL p).length = X.n := by unfold Ctx.mixL gridL; simp
theorem end_tru {X : Ctx} (K : X.Ok) (most : Bool) {t i : Nat} (ht : t < X.n) (hi : i < X.np) : truB X t i (X.endT most t i) = true := by
  have hpl := (pilB_iff.1 (K.at_pile hi).2).2.2.2.1
  have hyB : 0 ≤ (X.th t i).1 ∧ (X.th t i).1 ≤ (X.th t i).2 ∧ (X.th t i).2 ≤ 50000 := by
    obtain ⟨_, _, _, _, h5⟩ := K.at_th ht hi
    exact withinB_iff.1 h5
  have hr := fun C l => rowI_in K.parts.rs (by rw [K.hr]; exact K.parts.nr6.1) C l
  unfold truB Ctx.endT endI
  cases most with
  | true =>
    have h3 := hr (carI (X.pile i) (X.th t i).2) (X.pile i).h
    simp only [if_true, Bool.and_eq_true, inB_iff]
    omega
  | false =>
    have h3 := hr (carI (X.pile i) (X.th t i).1) (X.pile i).l
    simp only [Bool.false_eq_true, if_false, Bool.and_eq_true, inB_iff]
    omega
theorem poss_mix {X : Ctx} (K : X.Ok) (p : Nat) : possB X (X.mixL p) = true := by
  unfold possB
  rw [decide_eq_true (mixL_len X p), Bool.true_and]
  refine rng_yes fun t ht => ?_
  have h1 : (X.mixL p).getD t [] = (List.range X.np).map (X.mixT p t) := by
    rw [List.getD_eq_getElem?_getD]
    unfold Ctx.mixL
    rw [gridL_at _ ht]
    rfl
  rw [h1]
  unfold truRowB
  rw [decide_eq_true (by simp), Bool.true_and]
  refine rng_yes fun i hi => ?_
  rw [List.getD_eq_getElem?_getD, rowL_at _ hi, Option.getD_some]
  exact end_tru K _ ht hi
theorem setF_mix (X : Ctx) (p : Nat) {t i : Nat} (ht : t < X.n) (hi : i < X.np) : setF (X.mixL p) t i = if i = p then X.most t i else X.least t i := by
  unfold setF Ctx.mixL
  simp only [List.getD_eq_getElem?_getD]
  rw [gridL_at _ ht, Option.getD_some, rowL_at _ hi, Option.getD_some]
  unfold Ctx.mixT
  by_cases h : i = p
  · rw [if_pos h, decide_eq_true h]
    rfl
  · rw [if_neg h, decide_eq_false h]
    rfl
theorem lv_mix (X : Ctx) (p : Nat) (plan : List Int) {t i : Nat} (ht : t < X.n) (hi : i < X.np) : lvI (setF (X.mixL p)) plan t i = if i = p then lvI X.most plan t i else lvI X.least plan t i := by
  by_cases h : i = p
  · rw [if_pos h]
    exact lv_eq plan fun t' h' => by rw [setF_mix X p (by omega) hi, if_pos h]
  · rw [if_neg h]
    exact lv_eq plan fun t' h' => by rw [setF_mix X p (by omega) hi, if_neg h]
/-- A pair that can tilt too much does so in one of the two mixed truths. -/
theorem blame_tilts {X : Ctx} (plan : List Int) {t a b : Nat} (ht : t < X.n) (ha : a < X.np) (hb : b < X.np) (hab : a ≠ b) (h : tilB X.tilt (lvI X.most plan t a, lvI X.least plan t a) (lvI X.most plan t b, lvI X.least plan t b) = true) :
    (X.tilt < lvI (setF (X.mixL a)) plan t b - lvI (setF (X.mixL a)) plan t a) ∨ (X.tilt < lvI (setF (X.mixL b)) plan t a - lvI (setF (X.mixL b)) plan t b) := by
  unfold tilB at h
  rw [decide_eq_true_eq] at h
  rw [lv_mix X a plan ht hb, lv_mix X a plan ht ha, lv_mix X b plan ht ha, lv_mix X b plan ht hb, if_pos rfl, if_pos rfl, if_neg hab, if_neg (fun e => hab e.symm)]
  simp only at h
  omega
theorem blame_some {X : Ctx} {LL : List (List Sp)} {t r o : Nat} (h : fauF X LL = some (t, r, o)) : t < X.n ∧ (r = 2 ∨ r = 3 ∨ r = 4 ∨ r = 5) ∧ o < manyF X.np X.nq r ∧ wroF X t (LL.getD t []) r o = true := by
  unfold fauF at h
  obtain ⟨t', h1, h2⟩ := List.exists_of_findSome?_eq_some h
  obtain ⟨q, h3, h4⟩ := Option.map_eq_some_iff.1 h2
  unfold ruleF at h3
  obtain ⟨r', h5, h6⟩ := List.exists_of_findSome?_eq_some h3
  obtain ⟨o', h7, h8⟩ := Option.map_eq_some_iff.1 h6
  unfold ofF at h7
  simp only [List.mem_cons, List.not_mem_nil, or_false] at h5
  obtain ⟨e1, e2⟩ := Prod.mk.inj h4
  obtain ⟨e3, e4⟩ := Prod.mk.inj e2
  have e5 : r' = q.1 := congrArg Prod.fst h8
  have e6 : o' = q.2 := congrArg Prod.snd h8
  have h9 := List.mem_of_find?_eq_some h7
  have h10 := List.find?_some h7
  subst e1
  rw [e5, e3] at h5 h9 h10
  rw [e6, e4] at h9 h10
  exact ⟨List.mem_range.1 h1, h5, List.mem_range.1 h9, h10⟩
end Go.Proofs.YtdlaphlpimlgdaaGreatDoor
