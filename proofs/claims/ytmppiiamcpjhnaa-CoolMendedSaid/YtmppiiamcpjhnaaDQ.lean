/- Coolers: the worst truth is one; which houses aren't level in it. -/
import Derived.Test.YtmppiiamcpjhnaaDP
import Derived.Test.YtmppiiamcpjhnaaDL
namespace Go.Proofs.Ytmppiiamcpjhnaa
open Go.RowKit Go.Shelf

theorem worst_row {T : Tn} {i : Nat} (hi : i < T.ss.length) : (worstT T).gs[i]? = some (lowL T i T.hs.length) := by
  unfold worstT
  simp only
  rw [List.getElem?_map, List.getElem?_range hi]
  rfl
theorem lowL_get {T : Tn} {i k n : Nat} (h : k < n) : (lowL T i n)[k]? = some (lowI T k i) := by
  unfold lowL
  rw [List.getElem?_map, List.getElem?_range h]
  rfl
theorem worst_need {T : Tn} {h : Nat} (hh : h < T.hs.length) : (worstT T).ns[h]? = some (needI T h) := by
  unfold worstT needL
  simp only
  rw [List.getElem?_map, List.getElem?_range hh]
  rfl
theorem worst_ok {T : Tn} (K : TnOk T) : TuOk T (worstT T) := by
  refine ⟨by unfold worstT needL; simp, by unfold worstT; simp, fun h hh => ?_, fun i hi => ?_⟩
  · obtain ⟨x, hx⟩ := get_of_lt (l := T.hs) (k := h) hh
    have hn : needI T h = x.nh := by unfold needI; rw [List.getD_eq_getElem?_getD, hx]; rfl
    rw [need_eq hx (worst_need hh), hn, inB_iff]
    have := (K.hs x (List.mem_of_getElem? hx)).n
    omega
  · obtain ⟨s, hs⟩ := get_of_lt (l := T.ss) (k := i) hi
    have hl := (K.ss s (List.mem_of_getElem? hs)).len
    refine row_yes (worst_row hi) (by unfold lowL; rw [List.length_map, List.length_range]) fun k hk => ?_
    obtain ⟨x, hx⟩ := get_of_lt (l := s.gv) (k := k) (by omega)
    rw [cold_eq hs (worst_row hi) hx (lowL_get hk), inB_iff]
    have := (K.ss s (List.mem_of_getElem? hs)).gv x (List.mem_of_getElem? hx)
    have hlow : lowI T k i = x.1 := by unfold lowI; rw [List.getD_eq_getElem?_getD, List.getD_eq_getElem?_getD, hs, Option.getD_some, hx]; rfl
    omega
theorem worst_ov {T : Tn} {cs : List Int} (hin : ∀ x ∈ cs, 0 ≤ x ∧ x < T.ss.length) {h : Nat} (hh : h < T.hs.length) : ovV (worstT T) cs h = (cs.map (lowZ T h)).sum - needI T h := by
  unfold ovV
  rw [List.getD_eq_getElem?_getD, worst_need hh, Option.getD_some]
  have e : sumA (worstT T) cs h = (cs.map (lowZ T h)).sum := by
    unfold sumA
    congr 1
    refine List.map_congr_left fun x hx => ?_
    have := hin x hx
    exact giv_eq (worst_row (by omega)) (lowL_get hh)
  rw [e]
/-- A house isn't level in the worst truth: its coolers don't suffice. -/
theorem worst_level {T : Tn} (K : TnOk T) {cs : List Int} (hC : coolB T cs = true) {h : Nat} (hh : h < T.hs.length) : 0 ≤ ovV (worstT T) cs h ↔ 0 ≤ bearsI T h (setI cs) := by
  rw [worst_ov (fun x hx => by have := clB_mem hC x hx; omega) hh]
  have hg : givL T h (setI cs) = cs.map (lowZ T h) := by
    have e := cool_sit K hC
    conv => rhs; rw [← e]
    unfold sitZ givL
    rw [List.map_map]
    rfl
  have hz : ∀ x ∈ givL T h (setI cs), 0 ≤ x := fun x hx => by
    obtain ⟨k, _, rfl⟩ := List.mem_map.1 hx
    exact (low_in K h k).1
  have h1 := bearsV_drop (need := needI T h) hz (f := 0) (by decide)
  rw [List.drop_zero, sum_perm (dsc_perm _), hg] at h1
  unfold bearsI
  rw [hg]
  have h2 : ((0 : Nat) : Int) = 0 := rfl
  rw [h2] at h1
  omega
end Go.Proofs.Ytmppiiamcpjhnaa
