/- Coolers: in which week a house is level again, by the specification: the mathematics. -/
import Derived.Test.YtmppiiamcpjhnaaDV
import Derived.Test.YtmppiiamcpjhnaaDR
namespace Go.Proofs.Ytmppiiamcpjhnaa
open Go.RowKit Go.Shelf

def weekL (T : Tn) (cs : List Int) : Int := (cs.map fun x => weekI T x.toNat).sum
def lvlB (T : Tn) (bo or : List Int) (h k : Nat) : Bool := decide (0 ≤ bearsI T h (setI (remL bo (or.drop k))))
/-- What was found after so many rounds. -/
def agF (T : Tn) (bo or : List Int) (h i : Nat) : Int := match (List.range i).find? (lvlB T bo or h) with | some k => weekL T (or.take k) | none => -1
theorem weekL_in {T : Tn} (K : TnOk T) (cs : List Int) : 0 ≤ weekL T cs ∧ weekL T cs ≤ 100 * cs.length := by
  induction cs with
  | nil => simp [weekL]
  | cons x cs ih =>
    have := week_in K x.toNat
    unfold weekL at ih ⊢
    rw [List.map_cons, List.sum_cons, List.length_cons]
    omega
theorem weekL_succ {T : Tn} {cs : List Int} {k : Nat} {x : Int} (h : cs[k]? = some x) : weekL T (cs.take (k + 1)) = weekL T (cs.take k) + weekI T x.toNat := by
  unfold weekL
  rw [List.take_add_one, h, List.map_append, List.sum_append]
  simp
theorem agF_zero (T : Tn) (bo or : List Int) (h : Nat) : agF T bo or h 0 = -1 := rfl
theorem agF_in {T : Tn} (K : TnOk T) {bo or : List Int} {h i : Nat} : -1 ≤ agF T bo or h i ∧ agF T bo or h i ≤ 100 * or.length := by
  unfold agF
  split
  · rename_i k _
    have h1 := weekL_in K (or.take k)
    have h2 : (or.take k).length ≤ or.length := by rw [List.length_take]; omega
    omega
  · omega
theorem agF_neg {T : Tn} (K : TnOk T) {bo or : List Int} {h i : Nat} : agF T bo or h i < 0 ↔ (List.range i).find? (lvlB T bo or h) = none := by
  unfold agF
  split
  · rename_i k hk
    have h1 := weekL_in K (or.take k)
    constructor
    · intro h; omega
    · intro h; rw [h] at hk; cases hk
  · rename_i hk
    exact ⟨fun _ => hk, fun _ => by omega⟩
theorem agF_succ {T : Tn} (K : TnOk T) {bo or : List Int} {h i : Nat} : agF T bo or h (i + 1) = if agF T bo or h i < 0 ∧ lvlB T bo or h i = true then weekL T (or.take i) else agF T bo or h i := by
  have e : (List.range (i + 1)).find? (lvlB T bo or h) = ((List.range i).find? (lvlB T bo or h)).or (if lvlB T bo or h i then some i else none) := by
    rw [List.range_succ, List.find?_append]
    cases hb : lvlB T bo or h i <;> simp [hb]
  by_cases hn : agF T bo or h i < 0
  · have h1 := (agF_neg K).1 hn
    cases hb : lvlB T bo or h i with
    | true =>
      rw [if_pos ⟨hn, rfl⟩]
      conv => lhs; unfold agF
      rw [e, h1, hb]
      rfl
    | false =>
      rw [if_neg (by simp)]
      unfold agF
      rw [e, h1, hb]
      rfl
  · rw [if_neg (fun h => hn h.1)]
    cases hf : (List.range i).find? (lvlB T bo or h) with
    | none => exact absurd ((agF_neg K).2 hf) hn
    | some k =>
      unfold agF
      rw [e, hf]
      rfl
theorem ord_mem {T : Tn} {bo or : List Int} (hC : coolB T bo = true) (ho : ordB bo or = true) : ∀ x ∈ or, x ∈ bo ∧ 0 ≤ x ∧ x < T.ss.length := fun x hx => by
  obtain ⟨i, hi⟩ := List.getElem?_of_mem hx
  have h1 := (ordB_iff.1 ho i x hi).1
  have := clB_mem hC x h1
  exact ⟨h1, by omega, by omega⟩
theorem ord_nodup {bo or : List Int} (ho : ordB bo or = true) : or.Nodup := by
  have h := ordB_iff.1 ho
  unfold List.Nodup
  rw [List.pairwise_iff_getElem]
  intro i j hi hj hij he
  have h1 := (h j or[j] (List.getElem?_eq_getElem hj)).2
  refine h1 ?_
  rw [← he]
  exact List.mem_take_iff_getElem.2 ⟨i, by omega, rfl⟩
/-- The specification's week is the program's. -/
theorem agF_all {T : Tn} (K : TnOk T) {bo or : List Int} (hC : coolB T bo = true) (ho : ordB bo or = true) (h : Nat) : agF T bo or h (or.length + 1) = agZ T bo or h := by
  have h10 := K.s10
  have hm := ord_mem hC ho
  have e1 : agO T (setI bo) h (or.map Int.toNat) = (List.range (or.length + 1)).find? (lvlB T bo or h) := by
    unfold agO lvlB
    rw [List.length_map]
    refine congrArg (fun p => List.find? p (List.range (or.length + 1))) (funext fun k => ?_)
    rw [rem_setX (fun x hx => by have := clB_mem hC x hx; omega) (fun x hx => by have := hm x (List.mem_of_mem_drop hx); omega)]
    unfold setI
    rw [List.map_drop]
  unfold agF agZ agI
  rw [e1]
  cases hk : (List.range (or.length + 1)).find? (lvlB T bo or h) with
  | none => rfl
  | some k =>
    show weekL T (or.take k) = weekS T (setL ((or.map Int.toNat).take k))
    unfold weekS weekL
    rw [← List.map_take]
    have hnd : ((or.take k).map Int.toNat).Nodup := by
      rw [List.nodup_iff_pairwise_ne, List.pairwise_map]
      refine List.Pairwise.imp_of_mem ?_ ((ord_nodup ho).sublist (List.take_sublist k or))
      intro a b ha hb hab he
      have h1 := hm a (List.mem_of_mem_take ha)
      have h2 := hm b (List.mem_of_mem_take hb)
      exact hab (by omega)
    have hp := sit_set hnd (fun x hx => by
      obtain ⟨y, hy, rfl⟩ := List.mem_map.1 hx
      have := hm y (List.mem_of_mem_take hy)
      omega)
    rw [sum_perm (hp.map _), List.map_map]
    rfl
end Go.Proofs.Ytmppiiamcpjhnaa
