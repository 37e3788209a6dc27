/- A region that draws its order, whose last operation waits for all others, for some of them by way of others. -/
import Derived.Test.YtccekbdhffccdaaDoorRE
namespace Go
open Go.RowKit
section
variable {P : Program}
/-- The last operation, as if it waited for each other one. -/
def fullOf (n : Nat) (o : Oper) : Oper := { o with after := ((List.range n).map fun i => ⟨i, .data⟩).toArray }
/-- Each operation is waited for by the last one, or by a later one. -/
def chainB (l : List Oper) (o : Oper) : Bool :=
  ((o.after.all fun e => !Region.binds .any e || decide (e.on < l.length))) &&
  (List.range l.length).all fun i => (o.after.any fun e => Region.binds .any e && e.on == i) || (List.range l.length).any fun j => decide (i < j) && (l[j]?).any fun p => p.after.any fun e => Region.binds .any e && e.on == i
def ClosedA (ops : Array Oper) (A : Array Bool) : Prop := ∀ i o, ops[i]? = some o → A.getD i false = true → ∀ e ∈ o.after, Region.binds .any e = true → A.getD e.on false = true
theorem chain_all {l : List Oper} {o : Oper} (hc : chainB l o = true) {A : Array Bool} (hA : ClosedA (l ++ [o]).toArray A) (hd : ∀ e ∈ o.after, Region.binds .any e = true → A.getD e.on false = true) : ∀ k i, l.length - i ≤ k → i < l.length → A.getD i false = true
  | 0, i, hk, hi => by omega
  | k + 1, i, hk, hi => by
    unfold chainB at hc
    rw [Bool.and_eq_true] at hc
    have h1 := List.all_eq_true.1 hc.2 i (List.mem_range.2 hi)
    rw [Bool.or_eq_true] at h1
    rcases h1 with h1 | h1
    · obtain ⟨e, he, hb⟩ := Array.any_eq_true'.1 h1
      rw [Bool.and_eq_true] at hb
      have := hd e he hb.1
      rw [show e.on = i by simpa using hb.2] at this
      exact this
    · obtain ⟨j, hj, h2⟩ := List.any_eq_true.1 h1
      rw [Bool.and_eq_true] at h2
      have hij : i < j := by simpa using h2.1
      have hjl : j < l.length := List.mem_range.1 hj
      have hjd := chain_all (by unfold chainB; rw [Bool.and_eq_true]; exact hc) hA hd k j (by omega) hjl
      obtain ⟨p, hp⟩ : ∃ p, l[j]? = some p := ⟨_, List.getElem?_eq_getElem hjl⟩
      rw [hp] at h2
      obtain ⟨e, he, hb⟩ := Array.any_eq_true'.1 h2.2
      rw [Bool.and_eq_true] at hb
      have := hA j p (by rw [List.getElem?_toArray, List.getElem?_append_left hjl]; exact hp) hjd e he hb.1
      rw [show e.on = i by simpa using hb.2] at this
      exact this
theorem full_at {l : List Oper} {o : Oper} {i : Nat} (hi : i < l.length) : ((l ++ [fullOf l.length o]).toArray)[i]? = ((l ++ [o]).toArray)[i]? := by simp [List.getElem?_append_left hi]
theorem full_yielded {l : List Oper} {o : Oper} (tmps : Array Value) : yielded (l ++ [fullOf l.length o]).toArray tmps = yielded (l ++ [o]).toArray tmps := by
  funext j
  unfold yielded
  have : ((l ++ [fullOf l.length o]).toArray[j]?).bind (·.dst) = ((l ++ [o]).toArray[j]?).bind (·.dst) := by
    by_cases hj : j < l.length
    · rw [full_at hj]
    · by_cases he : j = l.length
      · subst he
        simp [fullOf]
      · simp [List.getElem?_append_right (show l.length ≤ j by omega), show ¬ j - l.length = 0 by omega]
  rw [this]
theorem full_wpOp {l : List Oper} {o : Oper} {Q : Exit → Act → World → Prop} {i : Nat} {K : Act → World → Prop} {a : Act} {w : World} (h : wpOp P (l ++ [fullOf l.length o]).toArray Q i K a w) : wpOp P (l ++ [o]).toArray Q i K a w := by
  unfold wpOp at *
  rw [full_yielded] at h
  by_cases hj : i < l.length
  · rw [full_at hj] at h
    exact h
  · by_cases he : i = l.length
    · subst he
      simp only [List.getElem?_toArray, List.getElem?_append_right (Nat.le_refl _), Nat.sub_self, List.getElem?_cons_zero] at h ⊢
      exact h
    · have e1 : ∀ x : Oper, (l ++ [x]).toArray[i]? = none := fun x => by simp; omega
      rw [e1] at h ⊢
      exact h
theorem full_ready {l : List Oper} {o : Oper} (hc : chainB l o = true) {A : Array Bool} (hA : ClosedA (l ++ [o]).toArray A) (i : Nat) :
    i ∈ Region.ready .any (l ++ [fullOf l.length o]).toArray A ↔ i ∈ Region.ready .any (l ++ [o]).toArray A := by
  rw [rkt_ready_mem, rkt_ready_mem]
  by_cases hj : i < l.length
  · rw [full_at hj]
    simp
  · constructor
    · rintro ⟨h1, h2, p, hp, h3⟩
      have he : i = l.length := by simp at h1; omega
      subst he
      refine ⟨by simp, h2, o, by simp, fun e he hb => ?_⟩
      have hlt : e.on < l.length := by
        unfold chainB at hc
        rw [Bool.and_eq_true] at hc
        have := Array.all_eq_true'.1 hc.1 e he
        rw [hb] at this
        simpa using this
      have hp' : p = fullOf l.length o := by simpa using hp.symm
      subst hp'
      have := h3 ⟨e.on, .data⟩ (by simp [fullOf]; exact hlt) rfl
      exact this
    · rintro ⟨h1, h2, p, hp, h3⟩
      have he : i = l.length := by simp at h1; omega
      subst he
      have hp' : p = o := by simpa using hp.symm
      subst hp'
      refine ⟨by simp, h2, fullOf l.length p, by simp, fun e he hb => ?_⟩
      have hlt : e.on < l.length := by
        simp [fullOf] at he
        obtain ⟨k, hk, rfl⟩ := he
        exact hk
      exact chain_all hc hA h3 _ _ (Nat.le_refl _) hlt
theorem closed_set {ops : Array Oper} {A : Array Bool} (hA : ClosedA ops A) {i : Nat} (hi : i ∈ Region.ready .any ops A) : ClosedA ops (A.setIfInBounds i true) := by
  obtain ⟨_, _, p, hp, h3⟩ := rkt_ready_mem.1 hi
  have up : ∀ j, A.getD j false = true → (A.setIfInBounds i true).getD j false = true := fun j hj => by
    by_cases he : i = j
    · subst he
      have : i < A.size := by
        by_cases h : i < A.size
        · exact h
        · simp [Array.getD_eq_getD_getElem?, h] at hj
      simp [Array.getD_eq_getD_getElem?, this]
    · simpa [Array.getD_eq_getD_getElem?, he] using hj
  intro j o ho hj e he hb
  by_cases hij : i = j
  · subst hij
    rw [hp] at ho
    injection ho with ho
    subst ho
    exact up _ (h3 e he hb)
  · refine up _ (hA j o ho ?_ e he hb)
    simpa [Array.getD_eq_getD_getElem?, hij] using hj
theorem weak_any {l : List Oper} {o : Oper} (hc : chainB l o = true) {Q : Exit → Act → World → Prop} : ∀ (fuel : Nat) (A : Array Bool) (a : Act) (w : World), A.size = l.length + 1 → ClosedA (l ++ [o]).toArray A →
    wpAny P .any (l ++ [fullOf l.length o]).toArray Q fuel A a w → wpAny P .any (l ++ [o]).toArray Q fuel A a w
  | 0, A, a, w, hs, hA, h => by
    refine ⟨?_, h.2⟩
    refine List.eq_nil_iff_forall_not_mem.2 fun i hi => ?_
    have := (full_ready hc hA i).2 hi
    rw [h.1] at this
    simp at this
  | fuel + 1, A, a, w, hs, hA, h => by
    refine ⟨fun h0 => h.1 ?_, fun i hi => ?_⟩
    · refine List.eq_nil_iff_forall_not_mem.2 fun i hi => ?_
      have := (full_ready hc hA i).1 hi
      rw [h0] at this
      simp at this
    · exact wpOp_mono (fun a' w' hh => weak_any hc fuel _ a' w' (by simpa using hs) (closed_set hA hi) hh) (full_wpOp (h.2 i ((full_ready hc hA i).2 hi)))
theorem chain_region {id : Nat} {ops : List Oper} (l : List Oper) (o : Oper) (hs : ops = l ++ [o]) {Q : Exit → Act → World → Prop} {a : Act} {w : World} (hm : P.follows .mixedOrders = true) (hC : chainB l o = true) (hT : tailB l (fullOf l.length o) = true)
    (h : wpAny P .any l.toArray (QT P o Q) l.toArray.size (Array.replicate l.toArray.size false) a { w with drawn := w.drawn + 1 }) : (Code.region id ops.toArray true).wp P Q a w := by
  subst hs
  have hq : QT P (fullOf l.length o) Q = QT P o Q := by
    funext x a w
    cases x <;> rfl
  have h2 := tail_any (rkt_tail_ok hT) (Q := Q) l.toArray.size (Array.replicate l.toArray.size false) a { w with drawn := w.drawn + 1 } (by simp) (by rw [hq]; exact h)
  refine wp_region_any hm ?_
  have e1 : (l ++ [o]).toArray.size = l.toArray.size + 1 := by simp
  rw [e1, Array.replicate_succ]
  refine weak_any hC _ _ _ _ (by simp) (fun i p _ hi => ?_) h2
  exfalso
  rw [← Array.replicate_succ, Array.getD_eq_getD_getElem?, Array.getElem?_replicate] at hi
  split at hi <;> exact absurd hi (by decide)
end
end Go
