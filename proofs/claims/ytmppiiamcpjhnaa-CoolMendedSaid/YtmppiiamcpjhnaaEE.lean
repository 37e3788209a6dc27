/- Coolers: the fewest coolers that break a house, by the specification: the mathematics. -/
import Derived.Test.YtmppiiamcpjhnaaED
namespace Go.Proofs.Ytmppiiamcpjhnaa
open Go.RowKit Go.Shelf

theorem find_congr {α : Type} {p q : α → Bool} : ∀ {l : List α}, (∀ x ∈ l, p x = q x) → l.find? p = l.find? q
  | [], _ => rfl
  | x :: l, h => by
    rw [List.find?_cons, List.find?_cons, h x (by simp), find_congr (l := l) fun y hy => h y (by simp [hy])]
/-- Whether a house is level without some coolers. -/
def okB (T : Tn) (bo : List Int) (h : Nat) (o : List Int) : Bool := decide (0 ≤ bearsI T h (setI (remL bo o)))
def rbk (T : Tn) (bo : List Int) (f : Int) (h : Nat) : Option (List Int) := if f ≤ bearsI T h (setI bo) then none else (brkO T (setI bo) h).map fun x : Nat => sitZ (x : Int)
theorem sets_Z (m s : Nat) : (setsI m 0 s).map (fun u => sitZ ((u : Nat) : Int)) = subL m (sitZ (s : Int)) := by
  have h1 := sets_sub m (c := 0) (r := s) (fun i j hi _ => by simp at hi)
  have e := congrArg (List.map (List.map Int.ofNat)) h1
  rw [List.map_map, List.map_map] at e
  have e2 : ((subL m (sitL (s : Int))).map (List.map Int.ofNat ∘ fun o => sitL (((0 : Nat) : Int)) ++ o)) = subL m (sitZ (s : Int)) := by
    rw [sit_zero]
    exact sub_map Int.ofNat m (sitL (s : Int))
  exact e.trans e2
theorem sub_cool {T : Tn} {bo o : List Int} (hb : coolB T bo = true) (h : o.Sublist bo) : coolB T o = true := clB_of (fun y hy => by
  have := clB_mem hb y (h.subset hy)
  exact this) ((clB_pair hb).sublist h)
/-- As many as it bears break nothing. -/
theorem few_ok {T : Tn} {bo o : List Int} {h : Nat} (K : TnOk T) (hb : coolB T bo = true) (hh : h < T.hs.length) (ho : o.Sublist bo) (hl : (o.length : Int) ≤ bearsI T h (setI bo)) : okB T bo h o = true := by
  have h1 := rem_len hb (sub_cool hb ho) ho
  have h2 := true_one (X := worstT T) (fa := o) K (worst_ok K) hb hh (by omega)
  unfold okB
  rw [decide_eq_true_eq]
  exact (worst_level K (rem_cool (fa := o) hb) hh).1 h2
theorem brk_sub {T : Tn} {bo : List Int} {h : Nat} (K : TnOk T) (hb : coolB T bo = true) : (brkO T (setI bo) h).map (fun x : Nat => sitZ (x : Int)) = (subL (bearsI T h (setI bo) + 1).toNat bo).find? fun o => !okB T bo h o := by
  have h10 := K.s10
  have hp : (2 : Nat) ^ T.ss.length ≤ 2 ^ 10 := Nat.pow_le_pow_right (by decide) (by omega)
  have hs10 := Nat.lt_of_lt_of_le (setI_lt hb) hp
  have e := sets_Z (bearsI T h (setI bo) + 1).toNat (setI bo)
  rw [cool_sit K hb] at e
  rw [← e, List.find?_map]
  unfold brkO
  congr 1
  refine find_congr fun x hx => ?_
  have hx10 := sets_lt _ 0 (setI bo) (by decide) hs10 x hx
  obtain ⟨_, hsub⟩ := sets_size hx
  have hzs : (sitZ (x : Int)).Sublist bo := by
    have := hsub.map Int.ofNat
    rw [show (sitL ((setI bo : Nat) : Int)).map Int.ofNat = bo from cool_sit K hb] at this
    exact this
  show _ = !okB T bo h (sitZ (x : Int))
  unfold okB
  rw [rem_set K hb (sub_cool hb hzs), set_sit hx10, Bool.eq_iff_iff]
  simp
theorem rbk_none {T : Tn} {bo : List Int} {f : Int} {h n : Nat} (K : TnOk T) (hb : coolB T bo = true) (_hh : h < T.hs.length) (hf : 0 ≤ f ∧ f ≤ 3) (hl : bo.length = n) (hall : ∀ m : Nat, (m : Int) ≤ f → m ≤ n → ∀ o ∈ subL m bo, okB T bo h o = true) : rbk T bo f h = none := by
  unfold rbk
  by_cases hle : f ≤ bearsI T h (setI bo)
  · rw [if_pos hle]
  · exfalso
    have hin := bearsV_in (needI T h) (givL T h (setI bo))
    change -1 ≤ bearsI T h (setI bo) ∧ bearsI T h (setI bo) ≤ 3 at hin
    obtain ⟨x, hx⟩ := brk_is K (setI_lt hb) (h := h) (by omega)
    have e := brk_sub (h := h) K hb
    rw [hx, Option.map_some] at e
    have hm := List.mem_of_find?_eq_some e.symm
    have hbad := List.find?_some e.symm
    have hlen := sub_mem.1 hm
    have h1 := hlen.1.length_le
    have := hall (bearsI T h (setI bo) + 1).toNat (by omega) (by omega) _ hm
    rw [this] at hbad
    cases hbad
theorem rbk_some {T : Tn} {bo o : List Int} {f : Int} {h n m i : Nat} (K : TnOk T) (hb : coolB T bo = true) (hh : h < T.hs.length) (hf : 0 ≤ f ∧ f ≤ 3) (_hl : bo.length = n) (hmf : (m : Int) ≤ f) (hall : ∀ m', m' < m → ∀ o ∈ subL m' bo, okB T bo h o = true)
    (hi : (subL m bo)[i]? = some o) (hj : ∀ j o', j < i → (subL m bo)[j]? = some o' → okB T bo h o' = true) (hbad : okB T bo h o = false) : rbk T bo f h = some o := by
  have hin := bearsV_in (needI T h) (givL T h (setI bo))
  change -1 ≤ bearsI T h (setI bo) ∧ bearsI T h (setI bo) ≤ 3 at hin
  have hom := sub_mem.1 (List.mem_of_getElem? hi)
  have hgt : ¬ (m : Int) ≤ bearsI T h (setI bo) := fun hle => by
    have := few_ok K hb hh hom.1 (by rw [hom.2]; exact hle)
    rw [this] at hbad
    cases hbad
  have hm : m = (bearsI T h (setI bo) + 1).toNat := by
    rcases Nat.lt_or_ge (bearsI T h (setI bo) + 1).toNat m with hlt | hge
    · exfalso
      obtain ⟨x, hx⟩ := brk_is K (setI_lt hb) (h := h) (by omega)
      have e := brk_sub (h := h) K hb
      rw [hx, Option.map_some] at e
      have hm := List.mem_of_find?_eq_some e.symm
      have hbad := List.find?_some e.symm
      have := hall _ hlt _ hm
      rw [this] at hbad
      cases hbad
    · omega
  unfold rbk
  rw [if_neg (by omega), brk_sub K hb, ← hm, List.find?_eq_some_iff_getElem]
  obtain ⟨hlt, he⟩ := List.getElem?_eq_some_iff.1 hi
  refine ⟨by rw [hbad]; rfl, i, hlt, he, fun j hji => ?_⟩
  have := hj j _ hji (List.getElem?_eq_getElem (by omega))
  rw [this]
  rfl
end Go.Proofs.Ytmppiiamcpjhnaa
