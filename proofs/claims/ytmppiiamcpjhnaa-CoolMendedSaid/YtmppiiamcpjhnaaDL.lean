/- Coolers: whatever fails, as long as no more do: the mathematics of CoolTrue. -/
import Derived.Test.YtmppiiamcpjhnaaDK
namespace Go.Proofs.Ytmppiiamcpjhnaa
open Go.RowKit Go.Shelf

theorem keepS_iff {T : Tn} {f : Int} {s : Nat} (hf : f ≤ 3) : keepS T f s = decide (f ≤ bearsK T s T.hs.length) := by
  rw [Bool.eq_iff_iff, decide_eq_true_eq, bearsK_iff hf]
  constructor
  · intro h k hk
    exact keep_bears h hk
  · intro h
    unfold keepS
    rw [uneven_none h]
    rfl
theorem sum_cmp {α : Type} {f g : α → Int} : ∀ {l : List α}, (∀ x ∈ l, f x ≤ g x) → (l.map f).sum ≤ (l.map g).sum
  | [], _ => Int.le_refl _
  | x :: l, h => by
    have h1 := h x (by simp)
    have h2 := sum_cmp (f := f) (g := g) (l := l) fun y hy => h y (by simp [hy])
    rw [List.map_cons, List.map_cons, List.sum_cons, List.sum_cons]
    omega
theorem filt_perm {α : Type} (p : α → Bool) : ∀ l : List α, ((l.filter fun x => !p x) ++ l.filter p).Perm l
  | [] => List.Perm.refl _
  | x :: l => by
    have h := filt_perm p l
    cases hp : p x with
    | true =>
      rw [List.filter_cons_of_neg (by simp [hp]), List.filter_cons_of_pos hp]
      exact (List.perm_middle).trans (h.cons x)
    | false =>
      rw [List.filter_cons_of_pos (by simp [hp]), List.filter_cons_of_neg (by simp [hp])]
      exact h.cons x
theorem low_giv {T : Tn} {X : Tu} (O : TuOk T X) {i h : Nat} (hi : i < T.ss.length) (hh : h < T.hs.length) : lowI T h i ≤ givA X h i := by
  have h1 := O.r i hi
  unfold rowB at h1
  rw [Bool.and_eq_true, List.all_eq_true] at h1
  have h2 := h1.2 h (List.mem_range.2 hh)
  unfold coldAt at h2
  split at h2
  · rename_i s g hs hg
    split at h2
    · rename_i x n hx hn
      have h3 := inB_iff.1 h2
      rw [giv_eq hg hn]
      unfold lowI
      rw [List.getD_eq_getElem?_getD, List.getD_eq_getElem?_getD, hs, Option.getD_some, hx, Option.getD_some]
      exact h3.1
    · cases h2
  · cases h2
theorem rem_cool {T : Tn} {bo fa : List Int} (h : coolB T bo = true) : coolB T (remL bo fa) = true := by
  have hm := clB_mem h
  exact clB_of (fun x hx => by
    have := hm x (List.mem_filter.1 hx).1
    exact this) ((clB_pair h).sublist List.filter_sublist)
theorem true_all {T : Tn} {X : Tu} {bo fa : List Int} (K : TnOk T) (O : TuOk T X) (hC : coolB T bo = true) (hb : ((bo.length : Int) - ((remL bo fa).length : Int)) ≤ bearsK T (setI bo) T.hs.length) : ∀ h, h < T.hs.length → 0 ≤ ovV X (remL bo fa) h := fun h hh => by
  have hlen := (filt_perm (fun x => !decide (x ∈ fa)) bo).length_eq
  rw [List.length_append] at hlen
  have hrl : remL bo fa = bo.filter fun x => !decide (x ∈ fa) := rfl
  rw [← hrl] at hlen
  obtain ⟨F, hF⟩ : ∃ F, (bo.filter fun x => !!decide (x ∈ fa)) = F := ⟨_, rfl⟩
  rw [hF] at hlen
  have hk3 := bearsK_in T (setI bo) T.hs.length
  have hf3 : ((F.length : Nat) : Int) ≤ bearsI T h (setI bo) := (bearsK_iff (f := (F.length : Int)) (by omega) T.hs.length).1 (by omega) h hh
  unfold bearsI at hf3
  have hz : ∀ x ∈ givL T h (setI bo), 0 ≤ x := fun x hx => by
    obtain ⟨k, _, rfl⟩ := List.mem_map.1 hx
    exact (low_in K h k).1
  rw [bearsV_iff hz (by omega)] at hf3
  have hg : givL T h (setI bo) = bo.map (lowZ T h) := by
    have e := cool_sit K hC
    conv => rhs; rw [← e]
    unfold sitZ givL
    rw [List.map_map]
    rfl
  have hp : ((F.map (lowZ T h)) ++ (remL bo fa).map (lowZ T h)).Perm (givL T h (setI bo)) := by
    rw [hg, ← List.map_append]
    refine List.Perm.map _ ?_
    rw [← hF, hrl]
    exact filt_perm _ bo
  have hn := hf3 _ _ hp (by rw [List.length_map]; exact Nat.le_refl _)
  have hs : ((remL bo fa).map (lowZ T h)).sum ≤ sumA X (remL bo fa) h := sum_cmp fun x hx => by
    have := clB_mem (rem_cool (fa := fa) hC) x hx
    exact low_giv O (by omega) hh
  obtain ⟨n, h1, h2, _⟩ := need_get K O hh
  have h3 := O.nd h hh
  unfold needB at h3
  obtain ⟨x, hx⟩ := get_of_lt (l := T.hs) (k := h) hh
  rw [hx, h1] at h3
  simp only at h3
  have h4 := inB_iff.1 h3
  have h5 : needI T h = x.nh := by unfold needI; rw [List.getD_eq_getElem?_getD, hx]; rfl
  unfold ovV
  rw [List.getD_eq_getElem?_getD, h1, Option.getD_some]
  omega
end Go.Proofs.Ytmppiiamcpjhnaa
