/- Coolers: breaks in the worst truth: the mathematics of CoolBroken. -/
import Derived.Test.YtmppiiamcpjhnaaDU
namespace Go.Proofs.Ytmppiiamcpjhnaa
open Go.RowKit Go.Shelf

theorem true_one {T : Tn} {X : Tu} {bo fa : List Int} (K : TnOk T) (O : TuOk T X) (hC : coolB T bo = true) {h : Nat} (hh : h < T.hs.length) (hb : ((bo.length : Int) - ((remL bo fa).length : Int)) ≤ bearsI T h (setI bo)) : 0 ≤ ovV X (remL bo fa) h := by
  have hlen := (filt_perm (fun x => !decide (x ∈ fa)) bo).length_eq
  rw [List.length_append] at hlen
  have hrl : remL bo fa = bo.filter fun x => !decide (x ∈ fa) := rfl
  rw [← hrl] at hlen
  obtain ⟨F, hF⟩ : ∃ F, (bo.filter fun x => !!decide (x ∈ fa)) = F := ⟨_, rfl⟩
  rw [hF] at hlen
  have hk3 := bearsV_in (needI T h) (givL T h (setI bo))
  have hf3 : ((F.length : Nat) : Int) ≤ bearsI T h (setI bo) := by omega
  unfold bearsI at hf3
  have hz : ∀ x ∈ givL T h (setI bo), 0 ≤ x := fun x hx => by
    obtain ⟨k, _, rfl⟩ := List.mem_map.1 hx
    exact (low_in K h k).1
  rw [bearsV_iff hz (by omega)] at hf3
  have hg : givL T h (setI bo) = bo.map (lowZ T h) := by
    have e := cool_sit K hC
    conv => rhs; rw [← e]
    unfold sitZ givL
    rw [List.map_map]
    rfl
  have hp : ((F.map (lowZ T h)) ++ (remL bo fa).map (lowZ T h)).Perm (givL T h (setI bo)) := by
    rw [hg, ← List.map_append]
    refine List.Perm.map _ ?_
    rw [← hF, hrl]
    exact filt_perm _ bo
  have hn := hf3 _ _ hp (by rw [List.length_map]; exact Nat.le_refl _)
  have hs : ((remL bo fa).map (lowZ T h)).sum ≤ sumA X (remL bo fa) h := sum_cmp fun x hx => by
    have := clB_mem (rem_cool (fa := fa) hC) x hx
    exact low_giv O (by omega) hh
  obtain ⟨n, h1, h2, _⟩ := need_get K O hh
  have h3 := O.nd h hh
  unfold needB at h3
  obtain ⟨x, hx⟩ := get_of_lt (l := T.hs) (k := h) hh
  rw [hx, h1] at h3
  simp only at h3
  have h4 := inB_iff.1 h3
  have h5 : needI T h = x.nh := by unfold needI; rw [List.getD_eq_getElem?_getD, hx]; rfl
  unfold ovV
  rw [List.getD_eq_getElem?_getD, h1, Option.getD_some]
  omega
theorem rem_setX {bo fa : List Int} (hb : ∀ x ∈ bo, 0 ≤ x ∧ x < 10) (hf : ∀ x ∈ fa, 0 ≤ x ∧ x < 10) : setI (remL bo fa) = dropS (setI bo) (setI fa) := by
  have h1 : setI bo < 2 ^ 10 := setL_lt _ fun x hx => by
    obtain ⟨y, hy, rfl⟩ := List.mem_map.1 hx
    have := hb y hy
    omega
  have h2 : setI fa < 2 ^ 10 := setL_lt _ fun x hx => by
    obtain ⟨y, hy, rfl⟩ := List.mem_map.1 hx
    have := hf y hy
    omega
  refine Nat.eq_of_testBit_eq fun j => ?_
  rw [dropS_bit (by omega) (by omega)]
  unfold setI
  rw [setL_bit, setL_bit, setL_bit, Bool.eq_iff_iff, Bool.and_eq_true, Bool.not_eq_true', decide_eq_true_eq, decide_eq_true_eq, decide_eq_false_iff_not]
  simp only [List.mem_map]
  constructor
  · rintro ⟨x, hx, rfl⟩
    obtain ⟨hx1, hx2⟩ := List.mem_filter.1 hx
    refine ⟨⟨x, hx1, rfl⟩, ?_⟩
    rintro ⟨y, hy, he⟩
    have e1 := hb x hx1
    have e2 := hf y hy
    have : y = x := by omega
    subst this
    simp [hy] at hx2
  · rintro ⟨⟨x, hx, rfl⟩, h3⟩
    refine ⟨x, List.mem_filter.2 ⟨hx, ?_⟩, rfl⟩
    simp only [Bool.not_eq_true', decide_eq_false_iff_not]
    exact fun h => h3 ⟨x, h, rfl⟩
theorem rem_set {T : Tn} {bo fa : List Int} (K : TnOk T) (hb : coolB T bo = true) (hf : coolB T fa = true) : setI (remL bo fa) = dropS (setI bo) (setI fa) :=
  rem_setX (fun x hx => by have := clB_mem hb x hx; have := K.s10; omega) (fun x hx => by have := clB_mem hf x hx; have := K.s10; omega)
theorem own_sub {T : Tn} {bo ot : List Int} (hb : coolB T bo = true) (ho : coolB T ot = true) (h : ((remL bo ot).length : Int) = (bo.length : Int) - (ot.length : Int)) : ot.Sublist bo := by
  have hlen := (filt_perm (fun x => !decide (x ∈ ot)) bo).length_eq
  rw [List.length_append] at hlen
  have hrl : remL bo ot = bo.filter fun x => !decide (x ∈ ot) := rfl
  rw [← hrl] at hlen
  have hF : (bo.filter fun x => !!decide (x ∈ ot)) = ot.filter fun x => decide (x ∈ bo) := by
    refine List.Perm.eq_of_pairwise (le := fun a b : Int => a < b) (fun a b _ _ h1 h2 => by omega) ((clB_pair hb).sublist List.filter_sublist) ((clB_pair ho).sublist List.filter_sublist) ?_
    refine (List.perm_ext_iff_of_nodup (((clB_pair hb).imp fun h => by omega).sublist List.filter_sublist) (((clB_pair ho).imp fun h => by omega).sublist List.filter_sublist)).2 fun x => ?_
    rw [List.mem_filter, List.mem_filter]
    simp [and_comm]
  rw [hF] at hlen
  have hsub : (ot.filter fun x => decide (x ∈ bo)).Sublist ot := List.filter_sublist
  have he := hsub.eq_of_length (by omega)
  rw [← he, ← hF]
  exact List.filter_sublist
theorem sitL_Z (s : Nat) : sitL (s : Int) = (sitZ (s : Int)).map Int.toNat := by
  unfold sitZ
  rw [List.map_map, show (Int.toNat ∘ Int.ofNat) = id from rfl, List.map_id]
theorem sub_sit {T : Tn} {a b : List Int} (K : TnOk T) (ha : coolB T a = true) (hb : coolB T b = true) (h : a.Sublist b) : (sitL ((setI a : Nat) : Int)).Sublist (sitL ((setI b : Nat) : Int)) := by
  rw [sitL_Z, sitL_Z, cool_sit K ha, cool_sit K hb]
  exact h.map _
theorem rem_len {T : Tn} {bo l : List Int} (hb : coolB T bo = true) (hl : coolB T l = true) (h : l.Sublist bo) : ((remL bo l).length : Int) = (bo.length : Int) - (l.length : Int) := by
  have hlen := (filt_perm (fun x => !decide (x ∈ l)) bo).length_eq
  rw [List.length_append] at hlen
  have hrl : remL bo l = bo.filter fun x => !decide (x ∈ l) := rfl
  rw [← hrl] at hlen
  have hF : (bo.filter fun x => !!decide (x ∈ l)) = l := by
    refine List.Perm.eq_of_pairwise (le := fun a b : Int => a < b) (fun a b _ _ h1 h2 => by omega) ((clB_pair hb).sublist List.filter_sublist) (clB_pair hl) ?_
    refine (List.perm_ext_iff_of_nodup (((clB_pair hb).imp fun h => by omega).sublist List.filter_sublist) ((clB_pair hl).imp fun h => by omega)).2 fun x => ?_
    rw [List.mem_filter]
    simp only [Bool.not_not, decide_eq_true_eq]
    exact ⟨fun h => h.2, fun hx => ⟨h.subset hx, hx⟩⟩
  rw [hF] at hlen
  omega
/-- Where the town is kept: nothing that may fail makes a house uneven. -/
theorem broken_none {T : Tn} {bo ot : List Int} {f : Int} (K : TnOk T) (hb : coolB T bo = true) (hf : inB 0 f 3 = true) (h : brU T bo f = none) :
    brH T bo f = 0 ∧ brE T bo f = 6 ∧ brL T bo f = [] ∧ ((ot.length : Int) ≤ f → ((remL bo ot).length : Int) = (bo.length : Int) - (ot.length : Int) → ∀ k, k < T.hs.length → 0 ≤ ovV (worstT T) (remL bo ot) k) := by
  have h0 := fail_ok K hb hf
  refine ⟨by unfold brH; rw [if_pos h0, h], by unfold brE; rw [if_pos h0, h], by unfold brL; rw [if_pos h0, h], fun h1 h2 k hk => ?_⟩
  have h3 := uneven_no h k hk
  exact true_one K (worst_ok K) hb hk (by omega)
theorem broken_some {T : Tn} {bo ot : List Int} {f : Int} {h : Nat} (K : TnOk T) (hb : coolB T bo = true) (ho : coolB T ot = true) (hf : inB 0 f 3 = true) (hu : brU T bo f = some h) :
    ∃ l, brH T bo f = h ∧ brE T bo f = 0 ∧ brL T bo f = l ∧ h < T.hs.length ∧ (l.length : Int) ≤ f ∧ coolB T l = true ∧ ((remL bo l).length : Int) = (bo.length : Int) - (l.length : Int) ∧ ovV (worstT T) (remL bo l) h < 0 ∧
      ((ot.length : Int) ≤ f → ((remL bo ot).length : Int) = (bo.length : Int) - (ot.length : Int) → (∀ k, k < h → 0 ≤ ovV (worstT T) (remL bo ot) k) ∧
        (ovV (worstT T) (remL bo ot) h < 0 → l.length < ot.length ∨ (ot.length = l.length ∧ befB ot l = false))) := by
  have h0 := fail_ok K hb hf
  have h10 := K.s10
  have hp : (2 : Nat) ^ T.ss.length ≤ 2 ^ 10 := Nat.pow_le_pow_right (by decide) (by omega)
  have hs := setI_lt hb
  have hs10 := Nat.lt_of_lt_of_le hs hp
  have hy10 := Nat.lt_of_lt_of_le (setI_lt ho) hp
  have hff := inB_iff.1 hf
  obtain ⟨u1, u2, u3⟩ := uneven_iff hu
  obtain ⟨x, hx⟩ := brk_is K hs (h := h) (by omega)
  have hin := bearsV_in (needI T h) (givL T h (setI bo))
  change -1 ≤ bearsI T h (setI bo) ∧ bearsI T h (setI bo) ≤ 3 at hin
  have hxm := List.mem_of_find?_eq_some (show (setsI (bearsI T h (setI bo) + 1).toNat 0 (setI bo)).find? _ = some x from hx)
  obtain ⟨x1, x2⟩ := sets_size hxm
  have hxl10 := sets_lt (bearsI T h (setI bo) + 1).toNat 0 (setI bo) (by decide) hs10 x hxm
  have hxneg : bearsI T h (dropS (setI bo) x) < 0 := by
    have := List.find?_some (show (setsI (bearsI T h (setI bo) + 1).toNat 0 (setI bo)).find? _ = some x from hx)
    simpa using this
  have hzs : (sitZ (x : Int)).Sublist bo := by
    have := x2.map Int.ofNat
    rw [show (sitL ((setI bo : Nat) : Int)).map Int.ofNat = bo from cool_sit K hb] at this
    exact this
  have hxc : coolB T (sitZ (x : Int)) = true := clB_of (fun y hy => by
    have := clB_mem hb y (hzs.subset hy)
    exact this) ((clB_pair hb).sublist hzs)
  have hse : setI (sitZ (x : Int)) = x := set_sit hxl10
  have hlz : (sitZ (x : Int)).length = (sitL (x : Int)).length := sitZ_len2 x
  have hrl := rem_len hb hxc hzs
  refine ⟨sitZ (x : Int), by unfold brH; rw [if_pos h0, hu], by unfold brE; rw [if_pos h0, hu], by unfold brL; rw [if_pos h0, hu]; show brkL T (setI bo) h = _; unfold brkL; rw [hx], u1, by omega, hxc, hrl, ?_, fun h1 h2 => ⟨fun k hk => ?_, fun hneg => ?_⟩⟩
  · have e := worst_level K (rem_cool (fa := sitZ (x : Int)) hb) u1
    rw [rem_set K hb hxc, hse] at e
    omega
  · have := u2 k hk
    exact true_one K (worst_ok K) hb (by omega) (by omega)
  · have e := worst_level K (rem_cool (fa := ot) hb) u1
    rw [rem_set K hb ho] at e
    have hyl : (sitL ((setI ot : Nat) : Int)).length = ot.length := by rw [← sitZ_len2, cool_sit K ho]
    have hm : bearsI T h (setI bo) + 1 ≤ (ot.length : Int) := by
      rcases Int.lt_or_le (bearsI T h (setI bo)) (ot.length : Int) with h3 | h3
      · omega
      · have := true_one (X := worstT T) (fa := ot) K (worst_ok K) hb u1 (by omega)
        omega
    have r := brk_first hs10 hy10 hx (sub_sit K ho hb (own_sub hb ho h2)) (by omega) (by omega)
    rw [cool_sit K ho, hyl] at r
    rcases r with r | ⟨r1, r2⟩
    · exact .inl (by omega)
    · exact .inr ⟨by omega, r2⟩
end Go.Proofs.Ytmppiiamcpjhnaa
