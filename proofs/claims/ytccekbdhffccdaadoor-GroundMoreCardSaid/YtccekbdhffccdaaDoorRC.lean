/- A region that draws its order, by a plan: which slots hold what, given what hangs on the order, and what memory is like after some of its operations. -/
import Derived.Test.YtccekbdhffccdaaDoorRB
namespace Go
open Go.RowKit
section
variable {P : Program}

/-- Each operation waits for earlier ones alone. -/
def earlyB (ops : Array Oper) : Bool := (List.range ops.size).all fun i => (ops[i]?).all fun p => p.after.all fun e => !Region.binds .any e || decide (e.on < i)

theorem ri_done {ops : Array Oper} (hE : earlyB ops = true) {A : Array Bool} (hA : A.size = ops.size) (h : Region.ready .any ops A = []) : ∀ i, i < ops.size → A.getD i false = true := by
  intro i
  induction i using Nat.strongRecOn with
  | ind i ih =>
    intro hi
    cases hb : A.getD i false with
    | true => rfl
    | false =>
      exfalso
      have hm : i ∈ Region.ready .any ops A := by
        obtain ⟨p, hp⟩ : ∃ p, ops[i]? = some p := ⟨_, Array.getElem?_eq_getElem hi⟩
        refine rkt_ready_mem.2 ⟨hi, by rw [rkt_getD_both hA hi true false]; exact hb, p, hp, fun e he hbb => ?_⟩
        have h1 := List.all_eq_true.1 hE i (List.mem_range.2 hi)
        rw [hp, Option.all_some] at h1
        have := Array.all_eq_true'.1 h1 e he
        rw [hbb] at this
        have hlt : e.on < i := by simpa using this
        exact ih _ hlt (by omega)
      rw [h] at hm
      simp at hm

theorem ri_count {A : Array Bool} {n i : Nat} (hA : A.size = n) (hi : i < n) (hf : A.getD i false = false) : (A.setIfInBounds i true).toList.count false + 1 = A.toList.count false := by
  have hl : i < A.toList.length := by simpa [hA] using hi
  have hg : A.toList[i] = false := by
    have : A[i]? = some (A[i]'(by omega)) := Array.getElem?_eq_getElem (by omega)
    rw [Array.getD_eq_getD_getElem?, this] at hf
    simpa using hf
  have hpos : 0 < A.toList.count false := List.count_pos_iff.2 (by rw [← hg]; exact List.getElem_mem hl)
  have := List.count_set (a := true) (b := false) hl
  rw [hg] at this
  rw [Array.toList_setIfInBounds, this]
  generalize A.toList.count false = c at *
  simp
  omega

/-- Whatever order is picked: an invariant that each operation keeps. -/
theorem ri_any {ops : Array Oper} {Q : Exit → Act → World → Prop} (hE : earlyB ops = true) (Inv : Array Bool → Act → World → Prop)
    (hs : ∀ A a w, A.size = ops.size → Inv A a w → ∀ i o, ops[i]? = some o → A.getD i false = false → (∀ e ∈ o.after, Region.binds .any e = true → A.getD e.on false = true) → wpOp P ops Q i (Inv (A.setIfInBounds i true)) a w)
    (he : ∀ A a w, A.size = ops.size → (∀ i, i < ops.size → A.getD i false = true) → Inv A a w → Q .normal a w) :
    ∀ (fuel : Nat) (A : Array Bool) (a : Act) (w : World), A.size = ops.size → A.toList.count false ≤ fuel → Inv A a w → wpAny P .any ops Q fuel A a w
  | 0, A, a, w, hA, hc, hI => by
    have hall : ∀ i, i < ops.size → A.getD i false = true := by
      intro i hi
      cases hb : A.getD i false with
      | true => rfl
      | false => have := ri_count hA hi hb; omega
    refine ⟨?_, he A a w hA hall hI⟩
    cases hr : Region.ready .any ops A with
    | nil => rfl
    | cons i rs =>
      exfalso
      have hm : i ∈ Region.ready .any ops A := by rw [hr]; simp
      obtain ⟨h1, h2, _⟩ := rkt_ready_mem.1 hm
      rw [rkt_getD_both hA h1 true false, hall i h1] at h2
      exact absurd h2 (by decide)
  | fuel + 1, A, a, w, hA, hc, hI => by
    refine ⟨fun h0 => he A a w hA (ri_done hE hA h0) hI, fun i hi => ?_⟩
    obtain ⟨h1, h2, o, ho, h3⟩ := rkt_ready_mem.1 hi
    rw [rkt_getD_both hA h1 true false] at h2
    refine wpOp_mono (fun a' w' hh => ?_) (hs A a w hA hI i o ho h2 h3)
    exact ri_any hE Inv hs he fuel _ a' w' (by simpa using hA) (by have := ri_count hA h1 h2; omega) hh

theorem ri_region {id : Nat} {ops : Array Oper} {Q : Exit → Act → World → Prop} {a : Act} {w : World} (hm : P.follows .mixedOrders = true) (hE : earlyB ops = true) (Inv : Array Bool → Act → World → Prop)
    (h0 : Inv (Array.replicate ops.size false) a { w with drawn := w.drawn + 1 })
    (hs : ∀ A a w, A.size = ops.size → Inv A a w → ∀ i o, ops[i]? = some o → A.getD i false = false → (∀ e ∈ o.after, Region.binds .any e = true → A.getD e.on false = true) → wpOp P ops Q i (Inv (A.setIfInBounds i true)) a w)
    (he : ∀ A a w, A.size = ops.size → (∀ i, i < ops.size → A.getD i false = true) → Inv A a w → Q .normal a w) : (Code.region id ops true).wp P Q a w :=
  wp_region_any hm (ri_any hE Inv hs he ops.size _ a _ (by simp) (by simp) h0)

/-- Operands by a table of slots. -/
def evalBy (ρ : Tmp → Value) : Operand → Value
  | .tmp t => ρ t
  | .const v => v
  | .global g => .pointer (some ⟨g, 0, none⟩)
  | .func f => .func (.func f) #[] #[]

/-- What an operation has come to. -/
def Yield (P : Program) (R : Value → World → Prop) : Result Next → Prop
  | .ok (.value v) w => R v w
  | .ok .skip w => R undef w
  | .ok (.enter f args) w => Calls P f args w fun e w' => ∃ v, e = .returned v ∧ R v w'
  | _ => False

theorem Yield.wp {o : Oper} {a : Act} {w : World} {K : Act → World → Prop} {Q : Exit → Act → World → Prop} {R : Value → World → Prop} (h : Yield P R ((execOp a.eval o).run P w)) (hk : ∀ v w', R v w' → K (a.put o.dst v) w') : o.wp P a w K Q := by
  unfold Oper.wp
  generalize (execOp a.eval o).run P w = r at *
  cases r with
  | ok n w' =>
    cases n <;> simp only [Yield] at h <;> simp only [Oper.upon]
    case value u => exact hk _ _ h
    case skip => exact hk _ _ h
    case enter f args => exact h.mono fun e w'' ⟨v, he, hr⟩ => by subst he; exact hk _ _ hr
  | halt x w' => simp only [Yield] at h

/-- The operation that leaves its value in a slot. -/
def whoPuts (ops : Array Oper) (t : Tmp) : Option Nat := (List.range ops.size).find? fun j => (ops[j]?).any fun p => p.dst == some t

/-- No guards, no selects; different slots; what an operation looks at is of one that it waits for, or of a list of slots that none writes. -/
def planB (ops : Array Oper) (n : Nat) (outs : List Tmp) : Bool :=
  (List.range ops.size).all fun i => (ops[i]?).all fun o =>
    o.guard.isNone &&
    (match o.dst with | some d => decide (d < n) && whoPuts ops d == some i | none => true) &&
    o.op.operands.all fun x => match x with
      | .tmp t => (match whoPuts ops t with | some j => o.after.any fun e => Region.binds .any e && e.on == j | none => outs.contains t)
      | _ => true

structure PlanOk (ops : Array Oper) (n : Nat) (outs : List Tmp) (i : Nat) (o : Oper) : Prop where
  guard : o.guard = none
  slot : ∀ d, o.dst = some d → d < n ∧ whoPuts ops d = some i
  looks : ∀ t, Operand.tmp t ∈ o.op.operands → (∃ j, whoPuts ops t = some j ∧ ∃ e ∈ o.after, Region.binds .any e = true ∧ e.on = j) ∨ (whoPuts ops t = none ∧ t ∈ outs)
theorem planB_at {ops : Array Oper} {n : Nat} {outs : List Tmp} (h : planB ops n outs = true) {i : Nat} {o : Oper} (hi : ops[i]? = some o) : PlanOk ops n outs i o := by
  have h1 := List.all_eq_true.1 h i (List.mem_range.2 (Array.getElem?_eq_some_iff.1 hi).1)
  rw [hi, Option.all_some, Bool.and_eq_true, Bool.and_eq_true] at h1
  obtain ⟨⟨g, s⟩, l⟩ := h1
  refine ⟨by simpa using g, fun d hd => ?_, fun t ht => ?_⟩
  · rw [hd] at s
    simpa using s
  · have := Array.all_eq_true'.1 l _ ht
    simp only at this
    cases hw : whoPuts ops t with
    | none =>
      rw [hw] at this
      exact .inr ⟨rfl, by simpa using this⟩
    | some j =>
      rw [hw] at this
      obtain ⟨e, he, hb⟩ := Array.any_eq_true'.1 this
      rw [Bool.and_eq_true] at hb
      exact .inl ⟨j, rfl, e, he, hb.1, by simpa using hb.2⟩
theorem whoPuts_spec {ops : Array Oper} {t : Tmp} {j : Nat} (h : whoPuts ops t = some j) : ∃ p, ops[j]? = some p ∧ p.dst = some t := by
  have := List.find?_some h
  cases hp : ops[j]? with
  | none => rw [hp] at this; simp at this
  | some p =>
    rw [hp] at this
    exact ⟨p, rfl, by simpa using this⟩

/-- All slots that the operations write, as the table has them. -/
def putAll (ρ : Tmp → Value) : List Oper → Act → Act
  | [], a => a
  | o :: l, a => putAll ρ l (match o.dst with | some d => a.put (some d) (ρ d) | none => a)
theorem putAll_defers (ρ : Tmp → Value) : ∀ (l : List Oper) (a : Act), (putAll ρ l a).defers = a.defers ∧ (putAll ρ l a).tmps.size = a.tmps.size
  | [], _ => ⟨rfl, rfl⟩
  | o :: l, a => by
    obtain ⟨h1, h2⟩ := putAll_defers ρ l (match o.dst with | some d => a.put (some d) (ρ d) | none => a)
    rw [putAll, h1, h2]
    cases o.dst <;> simp [Act.put]
theorem putAll_at (ρ : Tmp → Value) : ∀ (l : List Oper) (a : Act) (t : Tmp), t < a.tmps.size → (putAll ρ l a).tmps[t]? = if ∃ o ∈ l, o.dst = some t then some (ρ t) else a.tmps[t]?
  | [], a, t, _ => by simp [putAll]
  | o :: l, a, t, ht => by
    rw [putAll, putAll_at ρ l _ t (by cases o.dst <;> simpa [Act.put] using ht)]
    by_cases h : ∃ o ∈ l, o.dst = some t
    · rw [if_pos h, if_pos (by obtain ⟨p, hp, e⟩ := h; exact ⟨p, List.mem_cons_of_mem _ hp, e⟩)]
    · rw [if_neg h]
      cases hd : o.dst with
      | none =>
        rw [if_neg (by rintro ⟨p, hp, e⟩; rcases List.mem_cons.1 hp with rfl | hp; · rw [hd] at e; exact absurd e (by simp)
                       · exact h ⟨p, hp, e⟩)]
      | some d =>
        by_cases hdt : d = t
        · subst hdt
          rw [if_pos ⟨o, List.mem_cons_self, hd⟩]
          show (a.tmps.setIfInBounds d (ρ d))[d]? = _
          rw [Array.getElem?_setIfInBounds, if_pos rfl, if_pos ht]
        · rw [if_neg (by
            rintro ⟨p, hp, e⟩
            rcases List.mem_cons.1 hp with rfl | hp
            · rw [hd] at e
              exact hdt (Option.some.inj e)
            · exact h ⟨p, hp, e⟩)]
          show (a.tmps.setIfInBounds d (ρ d))[t]? = _
          rw [Array.getElem?_setIfInBounds, if_neg hdt]

/-- An activation while the region runs. -/
structure PRan (ops : Array Oper) (a0 : Act) (ρ : Tmp → Value) (A : Array Bool) (a : Act) : Prop where
  defs : a.defers = a0.defers
  size : a.tmps.size = a0.tmps.size
  other : ∀ t, (∀ (i : Nat) (o : Oper), ops[i]? = some o → o.dst ≠ some t) → a.tmps[t]? = a0.tmps[t]?
  done : ∀ (i : Nat) (o : Oper) (d : Tmp), ops[i]? = some o → o.dst = some d → A.getD i false = true → a.tmps[d]? = some (ρ d)

def updB (f : Nat → Bool) (i : Nat) : Nat → Bool := fun j => if j = i then true else f j

/-- **One obligation an operation, whatever order is picked.** 'γ': what hangs on the order; 'ρ': the slots; 'S': memory after some operations. -/
theorem plan_region {γ : Type} {id : Nat} {ops : Array Oper} {Q : Exit → Act → World → Prop} {a0 : Act} {w : World} (outs : List Tmp) (ρ : γ → Tmp → Value) (S : (Nat → Bool) → γ → World → Prop) (g0 : γ)
    (hm : P.follows .mixedOrders = true) (hE : earlyB ops = true) (hN : Region.noSelect ops = true) (hD : planB ops a0.tmps.size outs = true) (hU : outs.all (fun t => (whoPuts ops t).isNone) = true) (hout : ∀ t ∈ outs, a0.eval (.tmp t) = ρ g0 t)
    (h0 : S (fun _ => false) g0 { w with drawn := w.drawn + 1 })
    (hs : ∀ i o, ops[i]? = some o → ∀ done g w, S done g w → done i = false → (∀ e ∈ o.after, Region.binds .any e = true → done e.on = true) → (∀ t ∈ outs, ρ g t = ρ g0 t) →
      Yield P (fun v w' => ∃ g', S (updB done i) g' w' ∧ (∀ d, o.dst = some d → ρ g' d = v) ∧ ∀ t, o.dst ≠ some t → ρ g' t = ρ g t) ((execOp (evalBy (ρ g)) o).run P w))
    (he : ∀ g w, S (fun i => decide (i < ops.size)) g w → Q .normal (putAll (ρ g) ops.toList a0) w) : (Code.region id ops true).wp P Q a0 w := by
  refine ri_region hm hE (fun A a w => ∃ g, S (fun i => A.getD i false) g w ∧ PRan ops a0 (ρ g) A a ∧ ∀ t ∈ outs, ρ g t = ρ g0 t) ?_ ?_ ?_
  · refine ⟨g0, ?_, ⟨rfl, rfl, fun _ _ => rfl, fun i o d hi _ hd => ?_⟩, fun _ _ => rfl⟩
    · have : (fun i => (Array.replicate ops.size false).getD i false) = fun _ => false := by
        funext i
        by_cases h : i < ops.size <;> simp [Array.getD_eq_getD_getElem?, h]
      rw [this]
      exact h0
    · have : i < ops.size := (Array.getElem?_eq_some_iff.1 hi).1
      simp [Array.getD_eq_getD_getElem?, this] at hd
  · rintro A a w hA ⟨g, hS, hR, hO⟩ i o hi hu hdep
    have K := planB_at hD hi
    have hlt : i < ops.size := (Array.getElem?_eq_some_iff.1 hi).1
    unfold wpOp
    have hwant : Region.wanted o (yielded ops a.tmps) = true := by unfold Region.wanted; rw [K.guard]
    simp only [hi, hwant, if_true]
    refine .inl ?_
    have hcong : execOp a.eval o = execOp (evalBy (ρ g)) o := by
      refine execOp_congr o (fun cs b => Region.noSelect_spec hN i o cs b hi) fun x hx => ?_
      cases x with
      | const v => rfl
      | global v => rfl
      | func f => rfl
      | tmp t =>
        rcases K.looks t hx with ⟨j, hj, e, he, hb, rfl⟩ | ⟨hn, ho⟩
        · obtain ⟨p, hp, hpd⟩ := whoPuts_spec hj
          have := hR.done e.on p t hp hpd (hdep e he hb)
          simp [Act.eval, evalBy, Array.getD_eq_getD_getElem?, this]
        · have hnone : ∀ (i : Nat) (o : Oper), ops[i]? = some o → o.dst ≠ some t := fun i o hi hd => by
            have := (planB_at hD hi).slot t hd
            rw [hn] at this
            exact absurd this.2 (by simp)
          show a.eval (.tmp t) = ρ g t
          rw [hO t ho, ← hout t ho]
          simp [Act.eval, Array.getD_eq_getD_getElem?, hR.other t hnone]
    refine Yield.wp (R := fun v w' => ∃ g', S (updB (fun i => A.getD i false) i) g' w' ∧ (∀ d, o.dst = some d → ρ g' d = v) ∧ ∀ t, o.dst ≠ some t → ρ g' t = ρ g t) ?_ ?_
    · rw [hcong]
      exact hs i o hi _ g w hS hu hdep hO
    · rintro v w' ⟨g', hS', hv, hk⟩
      have hset : (fun j => (A.setIfInBounds i true).getD j false) = updB (fun j => A.getD j false) i := by
        funext j
        unfold updB
        by_cases hj : j = i
        · subst hj
          simp [Array.getD_eq_getD_getElem?, show j < A.size by omega]
        · simp [Array.getD_eq_getD_getElem?, Ne.symm hj, hj]
      refine ⟨g', by rw [hset]; exact hS', ?_, fun t ht => ?_⟩
      · have hres : ∀ j, j ≠ i → (A.setIfInBounds i true).getD j false = A.getD j false := fun j hne => by
          have := congrFun hset j
          simpa [updB, hne] using this
        cases hd : o.dst with
        | none =>
          refine ⟨hR.defs, hR.size, hR.other, fun j p d hj hjd hdone => ?_⟩
          by_cases hji : j = i
          · subst hji
            rw [hi] at hj
            injection hj with hj
            subst hj
            rw [hd] at hjd
            exact absurd hjd (by simp)
          · rw [hres j hji] at hdone
            rw [hk d (by rw [hd]; simp)]
            exact hR.done j p d hj hjd hdone
        | some d =>
          obtain ⟨hdl, hap⟩ := K.slot d hd
          refine ⟨hR.defs, by simpa [Act.put] using hR.size, fun t ht => ?_, fun j p e hj hje hdone => ?_⟩
          · have hne : d ≠ t := fun e => ht i o hi (by rw [hd, e])
            show (a.tmps.setIfInBounds d v)[t]? = _
            rw [Array.getElem?_setIfInBounds, if_neg hne]
            exact hR.other t ht
          · by_cases hed : d = e
            · subst hed
              show (a.tmps.setIfInBounds d v)[d]? = _
              rw [Array.getElem?_setIfInBounds, if_pos rfl, if_pos (by rw [hR.size]; exact hdl), hv d hd]
            · have hji : j ≠ i := fun e' => by
                subst e'
                rw [hi] at hj
                injection hj with hj
                subst hj
                rw [hd] at hje
                exact hed (Option.some.inj hje)
              rw [hres j hji] at hdone
              show (a.tmps.setIfInBounds d v)[e]? = _
              rw [Array.getElem?_setIfInBounds, if_neg hed, hk e (by rw [hd]; intro h; exact hed (Option.some.inj h))]
              exact hR.done j p e hj hje hdone
      · have hn : o.dst ≠ some t := fun hd => by
          have h1 := (K.slot t hd).2
          have h2 := List.all_eq_true.1 hU t ht
          rw [h1] at h2
          exact absurd h2 (by simp)
        rw [hk t hn]
        exact hO t ht
  · rintro A a w hA hall ⟨g, hS, hR, _⟩
    have hfun : (fun i => A.getD i false) = fun i => decide (i < ops.size) := by
      funext i
      by_cases h : i < ops.size
      · simp [hall i h, h]
      · simp [Array.getD_eq_getD_getElem?, Array.getElem?_eq_none (show A.size ≤ i by omega), h]
    rw [hfun] at hS
    have hact : a = putAll (ρ g) ops.toList a0 := by
      obtain ⟨p1, p2⟩ := putAll_defers (ρ g) ops.toList a0
      have ht : a.tmps = (putAll (ρ g) ops.toList a0).tmps := by
        apply Array.ext_getElem?
        intro t
        by_cases hlt : t < a0.tmps.size
        · rw [putAll_at (ρ g) ops.toList a0 t hlt]
          by_cases hx : ∃ o ∈ ops.toList, o.dst = some t
          · rw [if_pos hx]
            obtain ⟨o, ho, hd⟩ := hx
            obtain ⟨i, hi⟩ := List.getElem?_of_mem ho
            have hi' : ops[i]? = some o := by simpa using hi
            exact hR.done i o t hi' hd (hall i (Array.getElem?_eq_some_iff.1 hi').1)
          · rw [if_neg hx]
            exact hR.other t fun i o hi hd => hx ⟨o, by simpa using Array.mem_of_getElem? hi, hd⟩
        · rw [Array.getElem?_eq_none (by rw [hR.size]; omega), Array.getElem?_eq_none (by rw [p2]; omega)]
      obtain ⟨at_, ad⟩ := a
      have hd := hR.defs
      simp only at ht hd
      subst ht
      rw [← p1] at hd
      subst hd
      rfl
    rw [hact]
    exact he g w hS
end
end Go
