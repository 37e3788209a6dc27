/- A region that draws its order, by a plan: which slots hold what, given what hangs on the order, and what memory is like after some of its operations. -/
import Derived.Test.YtijjkiogmlannaaDoorCA
namespace Go
open Go.RowKit
section
variable {P : Program}

/-- Each operation waits for earlier ones alone. -/
def earlyB (ops : Array Oper) : Bool := (List.range ops.size).all fun i => (ops[i]?).all fun p => p.after.all fun e => !Region.binds .any e || decide (e.on < i)

theorem ri_done {ops : Array Oper} (hE : earlyB ops = true) {A : Array Bool} (hA : A.size = ops.size) (h : Region.ready .any ops A = []) : ∀ i, i < ops.size → A.getD i false = true := by
  intro i
  induction i using Nat.strongRecOn with
  | ind i ih =>
    intro hi
    cases hb : A.getD i false with
    | true => rfl
    | false =>
      exfalso
      have hm : i ∈ Region.ready .any ops A := by
        obtain ⟨p, hp⟩ : ∃ p, ops[i]? = some p := ⟨_, Array.getElem?_eq_getElem hi⟩
        refine rkt_ready_mem.2 ⟨hi, by rw [rkt_getD_both hA hi true false]; exact hb, p, hp, fun e he hbb => ?_⟩
        have h1 := List.all_eq_true.1 hE i (List.mem_range.2 hi)
        rw [hp, Option.all_some] at h1
        have := Array.all_eq_true'.1 h1 e he
        rw [hbb] at this
        have hlt : e.on < i := by simpa using this
        exact ih _ hlt (by omega)
      rw [h] at hm
      simp at hm

theorem ri_count {A : Array Bool} {n i : Nat} (hA : A.size = n) (hi : i < n) (hf : A.getD i false = false) : (A.setIfInBounds i true).toList.count false + 1 = A.toList.count false := by
  have hl : i < A.toList.length := by simpa [hA] using hi
  have hg : A.toList[i] = false := by
    have : A[i]? = some (A[i]'(by omega)) := Array.getElem?_eq_getElem (by omega)
    rw [Array.getD_eq_getD_getElem?, this] at hf
    simpa using hf
  have hpos : 0 < A.toList.count false := List.count_pos_iff.2 (by rw [← hg]; exact List.getElem_mem hl)
  have := List.count_set (a := true) (b := false) hl
  rw [hg] at this
  rw [Array.toList_setIfInBounds, this]
  generalize A.toList.count false = c at *
  simp
  omega

/-- Whatever order is picked: an invariant that each operation keeps. -/
theorem ri_any {ops : Array Oper} {Q : Exit → Act → World → Prop} (hE : earlyB ops = true) (Inv : Array Bool → Act → World → Prop)
    (hs : ∀ A a w, A.size = ops.size → Inv A a w → ∀ i o, ops[i]? = some o → A.getD i false = false → (∀ e ∈ o.after, Region.binds .any e = true → A.getD e.on false = true) → wpOp P ops Q i (Inv (A.setIfInBounds i true)) a w)
    (he : ∀ A a w, A.size = ops.size → (∀ i, i < ops.size → A.getD i false = true) → Inv A a w → Q .normal a w) :
    ∀ (fuel : Nat) (A : Array Bool) (a : Act) (w : World), A.size = ops.size → A.toList.count false ≤ fuel → Inv A a w → wpAny P .any ops Q fuel A a w
  | 0, A, a, w, hA, hc, hI => by
    have hall : ∀ i, i < ops.size → A.getD i false = true := by
      intro i hi
      cases hb : A.getD i false with
      | true => rfl
      | false => have := ri_count hA hi hb; omega
    refine ⟨?_, he A a w hA hall hI⟩
    cases hr : Region.ready .any ops A with
    | nil => rfl
    | cons i rs =>
      exfalso
      have hm : i ∈ Region.ready .any ops A := by rw [hr]; simp
      obtain ⟨h1, h2, _⟩ := rkt_ready_mem.1 hm
      rw [rkt_getD_both hA h1 true false, hall i h1] at h2
      exact absurd h2 (by decide)
  | fuel + 1, A, a, w, hA, hc, hI => by
    refine ⟨fun h0 => he A a w hA (ri_done hE hA h0) hI, fun i hi => ?_⟩
    obtain ⟨h1, h2, o, ho, h3⟩ := rkt_ready_mem.1 hi
    rw [rkt_getD_both hA h1 true false] at h2
    refine wpOp_mono (fun a' w' hh => ?_) (hs A a w hA hI i o ho h2 h3)
    exact ri_any hE Inv hs he fuel _ a' w' (by simpa using hA) (by have := ri_count hA h1 h2; omega) hh

theorem ri_region {id : Nat} {ops : Array Oper} {Q : Exit → Act → World → Prop} {a : Act} {w : World} (hm : P.follows .mixedOrders = true) (hE : earlyB ops = true) (Inv : Array Bool → Act → World → Prop)
    (h0 : Inv (Array.replicate ops.size false) a { w with drawn := w.drawn + 1 })
    (hs : ∀ A a w, A.size = ops.size → Inv A a w → ∀ i o, ops[i]? = some o → A.getD i false = false → (∀ e ∈ o.after, Region.binds .any e = true → A.getD e.on false = true) → wpOp P ops Q i (Inv (A.setIfInBounds i true)) a w)
    (he : ∀ A a w, A.size = ops.size → (∀ i, i < ops.size → A.getD i false = true) → Inv A a w → Q .normal a w) : (Code.region id ops true).wp P Q a w :=
  wp_region_any hm (ri_any hE Inv hs he ops.size _ a _ (by simp) (by simp) h0)

/-- Operands by a table of slots. -/
def evalBy (ρ : Tmp → Value) : Operand → Value
  | .tmp t => ρ t
  | .const v => v
  | .global g => .pointer (some ⟨g, 0, none⟩)
  | .func f => .func (.func f) #[] #[]

/-- What an operation has come to. -/
def Yield (P : Program) (R : Value → World → Prop) : Result Next → Prop
  | .ok (.value v) w => R v w
  | .ok .skip w => R undef w
  | .ok (.enter f args) w => Calls P f args w fun e w' => ∃ v, e = .returned v ∧ R v w'
  | _ => False

theorem Yield.wp {o : Oper} {a : Act} {w : World} {K : Act → World → Prop} {Q : Exit → Act → World → Prop} {R : Value → World → Prop} (h : Yield P R ((execOp a.eval o).run P w)) (hk : ∀ v w', R v w' → K (a.put o.dst v) w') : o.wp P a w K Q := by
  unfold Oper.wp
  generalize (execOp a.eval o).run P w = r at *
  cases r with
  | ok n w' =>
    cases n <;> simp only [Yield] at h <;> simp only [Oper.upon]
    case value u => exact hk _ _ h
    case skip => exact hk _ _ h
    case enter f args => exact h.mono fun e w'' ⟨v, he, hr⟩ => by subst he; exact hk _ _ hr
  | halt x w' => simp only [Yield] at h

/-- The operation that leaves its value in a slot. -/
def whoPuts (ops : Array Oper) (t : Tmp) : Option Nat := (List.range ops.size).find? fun j => (ops[j]?).any fun p => p.dst == some t

/-- No guards, no selects; different slots; what an operation looks at is of one that it waits for, or of a list of slots that none writes. -/
def planB (ops : Array Oper) (n : Nat) (outs : List Tmp) : Bool :=
  (List.range ops.size).all fun i => (ops[i]?).all fun o =>
    o.guard.isNone &&
    (match o.dst with | some d => decide (d < n) && whoPuts ops d == some i | none => true) &&
    o.op.operands.all fun x => match x with
      | .tmp t => (match whoPuts ops t with | some j => o.after.any fun e => Region.binds .any e && e.on == j | none => outs.contains t)
      | _ => true

structure PlanOk (ops : Array Oper) (n : Nat) (outs : List Tmp) (i : Nat) (o : Oper) : Prop where
  guard : o.guard = none
  slot : ∀ d, o.dst = some d → d < n ∧ whoPuts ops d = some i
  looks : ∀ t, Operand.tmp t ∈ o.op.operands → (∃ j, whoPuts ops t = some j ∧ ∃ e ∈ o.after, Region.binds .any e = true ∧ e.on = j) ∨ (whoPuts ops t = none ∧ t ∈ outs)
theorem planB_at {ops : Array Oper} {n : Nat} {outs : List Tmp} (h : planB ops n outs = true) {i : Nat} {o : Oper} (hi : ops[i]? = some o) : PlanOk ops n outs i o := by
  have h1 := List.all_eq_true.1 h i (List.mem_range.2 (Array.getElem?_eq_some_iff.1 hi).1)
  rw [hi, Option.all_some, Bool.and_eq_true, Bool.and_eq_true] at h1
  obtain ⟨⟨g, s⟩, l⟩ := h1
  refine ⟨by simpa using g, fun d hd => ?_, fun t ht => ?_⟩
  · rw [hd] at s
    simpa using s
  · have := Array.all_eq_true'.1 l _ ht
    simp only at this
    cases hw : whoPuts ops t with
    | none =>
      rw [hw] at this
      exact .inr ⟨rfl, by simpa using this⟩
    | some j =>
      rw [hw] at this
      obtain ⟨e, he, hb⟩ := Array.any_eq_true'.1 this
      rw [Bool.and_eq_true] at hb
      exact .inl ⟨j, rfl, e, he, hb.1, by simpa using hb.2⟩
theorem whoPuts_spec {ops : Array Oper} {t : Tmp} {j : Nat} (h : whoPuts ops t = some j) : ∃ p, ops[j]? = some p ∧ p.dst = some t := by
  have := List.find?_some h
  cases hp : ops[j]? with
  | none => rw [hp] at this; simp at this
  | some p =>
    rw [hp] at this
    exact ⟨p, rfl, by simpa using this⟩

/-- All slots that the operations write, as the table has them. -/
def putAll (ρ : Tmp → Value) : List Oper → Act → Act
  | [], a => a
  | o :: l, a => putAll ρ l (match o.dst with | some d => a.put (some d) (ρ d) | none => a)
theorem putAll_defers (ρ : Tmp → Value) : ∀ (l : List Oper) (a : Act), (putAll ρ l a).defers = a.defers ∧ (putAll ρ l a).tmps.size = a.tmps.size
  | [], _ => ⟨rfl, rfl⟩
  | o :: l, a => by
    obtain ⟨h1, h2⟩ := putAll_defers ρ l (match o.dst with | some d => a.put (some d) (ρ d) | none => a)
    rw [putAll, h1, h2]
    cases o.dst <;> simp [Act.put]
theorem putAll_at (ρ : Tmp → Value) : ∀ (l : List Oper) (a : Act) (t : Tmp), t < a.tmps.size → (putAll ρ l a).tmps[t]? = if ∃ o ∈ l, o.dst = some t then some (ρ t) else a.tmps[t]?
  | [], a, t, _ => by simp [putAll]
  | o :: l, a, t, ht => by
    rw [putAll, putAll_at ρ l _ t (by cases o.dst <;> simpa [Act.put] using ht)]
    by_cases h : ∃ o ∈ l, o.dst = some t
    · rw [if_pos h, if_pos (by obtain ⟨p, hp, e⟩ := h; exact ⟨p, List.mem_cons_of_mem _ hp, e⟩)]
    · rw [if_neg h]
      cases hd : o.dst with
      | none =>
        rw [if_neg (by rintro ⟨p, hp, e⟩; rcases List.mem_cons.1 hp with rfl | hp; · rw [hd] at e; exact absurd e (by simp)
                       · exact h ⟨p, hp, e⟩)]
      | some d =>
        by_cases hdt : d = t
        · subst hdt
          rw [if_pos ⟨o, List.mem_cons_self, hd⟩]
          show (a.tmps.setIfInBounds d (ρ d))[d]? = _
          rw [Array.getElem?_setIfInBounds, if_pos rfl, if_pos ht]
        · rw [if_neg (by
            rintro ⟨p, hp, e⟩
            rcases List.mem_cons.1 hp with rfl | hp
            · rw [hd] at e
              exact hdt (Option.some.inj e)
            · exact h ⟨p, hp, e⟩)]
          show (a.tmps.setIfInBounds d (ρ d))[t]? = _
          rw [Array.getElem?_setIfInBounds, if_neg hdt]

/-- An activation while the region runs. -/
structure PRan (ops : Array Oper) (a0 : Act) (ρ : Tmp → Value) (A : Array Bool) (a : Act) : Prop where
  defs : a.defers = a0.defers
  size : a.tmps.size = a0.tmps.size
  other : ∀ t, (∀ (i : Nat) (o : Oper), ops[i]? = some o → o.dst ≠ some t) → a.tmps[t]? = a0.tmps[t]?
  done : ∀ (i : Nat) (o : Oper) (d : Tmp), ops[i]? = some o → o.dst = some d → A.getD i false = true → a.tmps[d]? = some (ρ d)

def updB (f : Nat → Bool) (i : Nat) : Nat → Bool := fun j => if j = i then true else f j

/-- **One obligation an operation, whatever order is picked.** 'γ': what hangs on the order; 'ρ': the slots; 'S': memory after some operations. -/
theorem plan_region {γ : Type} {id : Nat} {ops : Array Oper} {Q : Exit → Act → World → Prop} {a0 : Act} {w : World} (outs : List Tmp) (ρ : γ → Tmp → Value) (S : (Nat → Bool) → γ → World → Prop) (g0 : γ)
    (hm : P.follows .mixedOrders = true) (hE : earlyB ops = true) (hN : Region.noSelect ops = true) (hD : planB ops a0.tmps.size outs = true) (hU : outs.all (fun t => (whoPuts ops t).isNone) = true) (hout : ∀ t ∈ outs, a0.eval (.tmp t) = ρ g0 t)
    (h0 : S (fun _ => false) g0 { w with drawn := w.drawn + 1 })
    (hs : ∀ i o, ops[i]? = some o → ∀ done g w, S done g w → done i = false → (∀ e ∈ o.after, Region.binds .any e = true → done e.on = true) → (∀ t ∈ outs, ρ g t = ρ g0 t) →
      Yield P (fun v w' => ∃ g', S (updB done i) g' w' ∧ (∀ d, o.dst = some d → ρ g' d = v) ∧ ∀ t, o.dst ≠ some t → ρ g' t = ρ g t) ((execOp (evalBy (ρ g)) o).run P w))
    (he : ∀ g w, S (fun i => decide (i < ops.size)) g w → Q .normal (putAll (ρ g) ops.toList a0) w) : (Code.region id ops true).wp P Q a0 w := by
  refine ri_region hm hE (fun A a w => ∃ g, S (fun i => A.getD i false) g w ∧ PRan ops a0 (ρ g) A a ∧ ∀ t ∈ outs, ρ g t = ρ g0 t) ?_ ?_ ?_
  · refine ⟨g0, ?_, ⟨rfl, rfl, fun _ _ => rfl, fun i o d hi _ hd => ?_⟩, fun _ _ => rfl⟩
    · have : (fun i => (Array.replicate ops.size false).getD i false) = fun _ => false := by
        funext i
        by_cases h : i < ops.size <;> simp [Array.getD_eq_getD_getElem?, h]
      rw [this]
      exact h0
    · have : i < ops.size := (Array.getElem?_eq_some_iff.1 hi).1
      simp [Array.getD_eq_getD_getElem?, this] at hd
  · rintro A a w hA ⟨g, hS, hR, hO⟩ i o hi hu hdep
    have K := planB_at hD hi
    have hlt : i < ops.size := (Array.getElem?_eq_some_iff.1 hi).1
    unfold wpOp
    have hwant : Region.wanted o (yielded ops a.tmps) = true := by unfold Region.wanted; rw [K.guard]
    simp only [hi, hwant, if_true]
    refine .inl ?_
    have hcong : execOp a.eval o = execOp (evalBy (ρ g)) o := by
      refine execOp_congr o (fun cs b => Region.noSelect_spec hN i o cs b hi) fun x hx => ?_
      cases x with
      | const v => rfl
      | global v => rfl
      | func f => rfl
      | tmp t =>
        rcases K.looks t hx with ⟨j, hj, e, he, hb, rfl⟩ | ⟨hn, ho⟩
        · obtain ⟨p, hp, hpd⟩ := whoPuts_spec hj
          have := hR.done e.on p t hp hpd (hdep e he hb)
          simp [Act.eval, evalBy, Array.getD_eq_getD_getElem?, this]
        · have hnone : ∀ (i : Nat) (o : Oper), ops[i]? = some o → o.dst ≠ some t := fun i o hi hd => by
            have := (planB_at hD hi).slot t hd
            rw [hn] at this
            exact absurd this.2 (by simp)
          show a.eval (.tmp t) = ρ g t
          rw [hO t ho, ← hout t ho]
          simp [Act.eval, Array.getD_eq_getD_getElem?, hR.other t hnone]
    refine Yield.wp (R := fun v w' => ∃ g', S (updB (fun i => A.getD i false) i) g' w' ∧ (∀ d, o.dst = some d → ρ g' d = v) ∧ ∀ t, o.dst ≠ some t → ρ g' t = ρ g t) ?_ ?_
    · rw [hcong]
      exact hs i o hi _ g w hS hu hdep hO
    · rintro v w' ⟨g', hS', hv, hk⟩
      have hset : (fun j => (A.setIfInBounds i true).getD j false) = updB (fun j => A.getD j false) i := by
        funext j
        unfold updB
        by_cases hj : j = i
        · subst hj
          simp [Array.getD_eq_getD_getElem?, show j < A.size by omega]
        · simp [Array.getD_eq_getD_getElem?, Ne.symm hj, hj]
      refine ⟨g', by rw [hset]; exact hS', ?_, fun t ht => ?_⟩
      · have hres : ∀ j, j ≠ i → (A.setIfInBounds i true).getD j false = A.getD j false := fun j hne => by
          have := congrFun hset j
          simpa [updB, hne] using this
        cases hd : o.dst with
        | none =>
          refine ⟨hR.defs, hR.size, hR.other, fun j p d hj hjd hdone => ?_⟩
          by_cases hji : j = i
          · subst hji
            rw [hi] at hj
            injection hj with hj
            subst hj
            rw [hd] at hjd
            exact absurd hjd (by simp)
          · rw [hres j hji] at hdone
            rw [hk d (by rw [hd]; simp)]
            exact hR.done j p d hj hjd hdone
        | some d =>
          obtain ⟨hdl, hap⟩ := K.slot d hd
          refine ⟨hR.defs, by simpa [Act.put] using hR.size, fun t ht => ?_, fun j p e hj hje hdone => ?_⟩
          · have hne : d ≠ t := fun e => ht i o hi (by rw [hd, e])
            show (a.tmps.setIfInBounds d v)[t]? = _
            rw [Array.getElem?_setIfInBounds, if_neg hne]
            exact hR.other t ht
          · by_cases hed : d = e
            · subst hed
              show (a.tmps.setIfInBounds d v)[d]? = _
              rw [Array.getElem?_setIfInBounds, if_pos rfl, if_pos (by rw [hR.size]; exact hdl), hv d hd]
            · have hji : j ≠ i := fun e' => by
                subst e'
                rw [hi] at hj
                injection hj with hj
                subst hj
                rw [hd] at hje
                exact hed (Option.some.inj hje)
              rw [hres j hji] at hdone
              show (a.tmps.setIfInBounds d v)[e]? = _
              rw [Array.getElem?_setIfInBounds, if_neg hed, hk e (by rw [hd]; intro h; exact hed (Option.some.inj h))]
              exact hR.done j p e hj hje hdone
      · have hn : o.dst ≠ some t := fun hd => by
          have h1 := (K.slot t hd).2
          have h2 := List.all_eq_true.1 hU t ht
          rw [h1] at h2
          exact absurd h2 (by simp)
        rw [hk t hn]
        exact hO t ht
  · rintro A a w hA hall ⟨g, hS, hR, _⟩
    have hfun : (fun i => A.getD i false) = fun i => decide (i < ops.size) := by
      funext i
      by_cases h : i < ops.size
      · simp [hall i h, h]
      · simp [Array.getD_eq_getD_getElem?, Array.getElem?_eq_none (show A.size ≤ i by omega), h]
    rw [hfun] at hS
    have hact : a = putAll (ρ g) ops.toList a0 := by
      obtain ⟨p1, p2⟩ := putAll_defers (ρ g) ops.toList a0
      have ht : a.tmps = (putAll (ρ g) ops.toList a0).tmps := by
        apply Array.ext_getElem?
        intro t
        by_cases hlt : t < a0.tmps.size
        · rw [putAll_at (ρ g) ops.toList a0 t hlt]
          by_cases hx : ∃ o ∈ ops.toList, o.dst = some t
          · rw [if_pos hx]
            obtain ⟨o, ho, hd⟩ := hx
            obtain ⟨i, hi⟩ := List.getElem?_of_mem ho
            have hi' : ops[i]? = some o := by simpa using hi
            exact hR.done i o t hi' hd (hall i (Array.getElem?_eq_some_iff.1 hi').1)
          · rw [if_neg hx]
            exact hR.other t fun i o hi hd => hx ⟨o, by simpa using Array.mem_of_getElem? hi, hd⟩
        · rw [Array.getElem?_eq_none (by rw [hR.size]; omega), Array.getElem?_eq_none (by rw [p2]; omega)]
      obtain ⟨at_, ad⟩ := a
      have hd := hR.defs
      simp only at ht hd
      subst ht
      rw [← p1] at hd
      subst hd
      rfl
    rw [hact]
    exact he g w hS
end
end Go
/- A region that draws its order, some of whose operations are guarded, by a plan; and one whose operations keep what was there, and leave values of which something is known. -/
namespace Go
open Go.RowKit
section
variable {P : Program}
/-- What a guard says, by a table of slots. -/
def yieldedBy (ops : Array Oper) (ρ : Tmp → Value) (j : Nat) : Option Bool :=
  match (ops[j]?).bind (·.dst) with
  | some d => match ρ d with
    | .bool b => some b
    | _ => none
  | none => none
def planGB (ops : Array Oper) (n : Nat) (outs : List Tmp) : Bool :=
  (List.range ops.size).all fun i => (ops[i]?).all fun o =>
    (match o.guard with | some (j, _) => o.after.any fun e => Region.binds .any e && e.on == j | none => true) &&
    (match o.dst with | some d => decide (d < n) && whoPuts ops d == some i | none => true) &&
    o.op.operands.all fun x => match x with
      | .tmp t => (match whoPuts ops t with | some j => o.after.any fun e => Region.binds .any e && e.on == j | none => outs.contains t)
      | _ => true
structure PlanGOk (ops : Array Oper) (n : Nat) (outs : List Tmp) (i : Nat) (o : Oper) : Prop where
  guard : ∀ j b, o.guard = some (j, b) → ∃ e ∈ o.after, Region.binds .any e = true ∧ e.on = j
  slot : ∀ d, o.dst = some d → d < n ∧ whoPuts ops d = some i
  looks : ∀ t, Operand.tmp t ∈ o.op.operands → (∃ j, whoPuts ops t = some j ∧ ∃ e ∈ o.after, Region.binds .any e = true ∧ e.on = j) ∨ (whoPuts ops t = none ∧ t ∈ outs)
theorem planGB_at {ops : Array Oper} {n : Nat} {outs : List Tmp} (h : planGB ops n outs = true) {i : Nat} {o : Oper} (hi : ops[i]? = some o) : PlanGOk ops n outs i o := by
  have h1 := List.all_eq_true.1 h i (List.mem_range.2 (Array.getElem?_eq_some_iff.1 hi).1)
  rw [hi, Option.all_some, Bool.and_eq_true, Bool.and_eq_true] at h1
  obtain ⟨⟨g, s⟩, l⟩ := h1
  refine ⟨fun j b hg => ?_, fun d hd => ?_, fun t ht => ?_⟩
  · rw [hg] at g
    obtain ⟨e, he, hb⟩ := Array.any_eq_true'.1 g
    rw [Bool.and_eq_true] at hb
    exact ⟨e, he, hb.1, by simpa using hb.2⟩
  · rw [hd] at s
    simpa using s
  · have := Array.all_eq_true'.1 l _ ht
    simp only at this
    cases hw : whoPuts ops t with
    | none =>
      rw [hw] at this
      exact .inr ⟨rfl, by simpa using this⟩
    | some j =>
      rw [hw] at this
      obtain ⟨e, he, hb⟩ := Array.any_eq_true'.1 this
      rw [Bool.and_eq_true] at hb
      exact .inl ⟨j, rfl, e, he, hb.1, by simpa using hb.2⟩
/-- **One obligation an operation, whatever order is picked.** 'γ': what hangs on the order; 'ρ': the slots; 'S': memory after some operations. -/
theorem plan_guarded_any {γ : Type} {ops : Array Oper} {Q : Exit → Act → World → Prop} {a0 : Act} {w : World} (outs : List Tmp) (ρ : γ → Tmp → Value) (S : (Nat → Bool) → γ → World → Prop) (g0 : γ)
    (hE : earlyB ops = true) (hN : Region.noSelect ops = true) (hD : planGB ops a0.tmps.size outs = true) (hU : outs.all (fun t => (whoPuts ops t).isNone) = true) (hout : ∀ t ∈ outs, a0.eval (.tmp t) = ρ g0 t)
    (h0 : S (fun _ => false) g0 { w with drawn := w.drawn + 1 })
    (hs : ∀ i o, ops[i]? = some o → ∀ done g w, S done g w → done i = false → (∀ e ∈ o.after, Region.binds .any e = true → done e.on = true) → (∀ t ∈ outs, ρ g t = ρ g0 t) →
      Region.wanted o (yieldedBy ops (ρ g)) = true ∧ Yield P (fun v w' => ∃ g', S (updB done i) g' w' ∧ (∀ d, o.dst = some d → ρ g' d = v) ∧ ∀ t, o.dst ≠ some t → ρ g' t = ρ g t) ((execOp (evalBy (ρ g)) o).run P w))
    (he : ∀ g w, S (fun i => decide (i < ops.size)) g w → Q .normal (putAll (ρ g) ops.toList a0) w) : wpAny P .any ops Q ops.size (Array.replicate ops.size false) a0 { w with drawn := w.drawn + 1 } := by
  refine ri_any hE (fun A a w => ∃ g, S (fun i => A.getD i false) g w ∧ PRan ops a0 (ρ g) A a ∧ ∀ t ∈ outs, ρ g t = ρ g0 t) ?_ ?_ ops.size _ a0 _ (by simp) (by simp) ?_
  rotate_left 2
  · refine ⟨g0, ?_, ⟨rfl, rfl, fun _ _ => rfl, fun i o d hi _ hd => ?_⟩, fun _ _ => rfl⟩
    · have : (fun i => (Array.replicate ops.size false).getD i false) = fun _ => false := by
        funext i
        by_cases h : i < ops.size <;> simp [Array.getD_eq_getD_getElem?, h]
      rw [this]
      exact h0
    · have : i < ops.size := (Array.getElem?_eq_some_iff.1 hi).1
      simp [Array.getD_eq_getD_getElem?, this] at hd
  · rintro A a w hA ⟨g, hS, hR, hO⟩ i o hi hu hdep
    have K := planGB_at hD hi
    have hlt : i < ops.size := (Array.getElem?_eq_some_iff.1 hi).1
    unfold wpOp
    obtain ⟨hw0, hy0⟩ := hs i o hi _ g w hS hu hdep hO
    have hwant : Region.wanted o (yielded ops a.tmps) = true := by
      rw [← hw0]
      unfold Region.wanted
      cases hg : o.guard with
      | none => rfl
      | some jb =>
        obtain ⟨j, b⟩ := jb
        obtain ⟨e, he, hb, rfl⟩ := K.guard j b hg
        simp only
        unfold yielded yieldedBy
        cases ho : ops[e.on]? with
        | none => rfl
        | some p =>
          cases hd : p.dst with
          | none => simp [hd]
          | some d =>
            simp only [Option.bind_some, hd, hR.done e.on p d ho hd (hdep e he hb)]
            cases ρ g d <;> rfl
    simp only [hi, hwant, if_true]
    refine .inl ?_
    have hcong : execOp a.eval o = execOp (evalBy (ρ g)) o := by
      refine execOp_congr o (fun cs b => Region.noSelect_spec hN i o cs b hi) fun x hx => ?_
      cases x with
      | const v => rfl
      | global v => rfl
      | func f => rfl
      | tmp t =>
        rcases K.looks t hx with ⟨j, hj, e, he, hb, rfl⟩ | ⟨hn, ho⟩
        · obtain ⟨p, hp, hpd⟩ := whoPuts_spec hj
          have := hR.done e.on p t hp hpd (hdep e he hb)
          simp [Act.eval, evalBy, Array.getD_eq_getD_getElem?, this]
        · have hnone : ∀ (i : Nat) (o : Oper), ops[i]? = some o → o.dst ≠ some t := fun i o hi hd => by
            have := (planGB_at hD hi).slot t hd
            rw [hn] at this
            exact absurd this.2 (by simp)
          show a.eval (.tmp t) = ρ g t
          rw [hO t ho, ← hout t ho]
          simp [Act.eval, Array.getD_eq_getD_getElem?, hR.other t hnone]
    refine Yield.wp (R := fun v w' => ∃ g', S (updB (fun i => A.getD i false) i) g' w' ∧ (∀ d, o.dst = some d → ρ g' d = v) ∧ ∀ t, o.dst ≠ some t → ρ g' t = ρ g t) ?_ ?_
    · rw [hcong]
      exact hy0
    · rintro v w' ⟨g', hS', hv, hk⟩
      have hset : (fun j => (A.setIfInBounds i true).getD j false) = updB (fun j => A.getD j false) i := by
        funext j
        unfold updB
        by_cases hj : j = i
        · subst hj
          simp [Array.getD_eq_getD_getElem?, show j < A.size by omega]
        · simp [Array.getD_eq_getD_getElem?, Ne.symm hj, hj]
      refine ⟨g', by rw [hset]; exact hS', ?_, fun t ht => ?_⟩
      · have hres : ∀ j, j ≠ i → (A.setIfInBounds i true).getD j false = A.getD j false := fun j hne => by
          have := congrFun hset j
          simpa [updB, hne] using this
        cases hd : o.dst with
        | none =>
          refine ⟨hR.defs, hR.size, hR.other, fun j p d hj hjd hdone => ?_⟩
          by_cases hji : j = i
          · subst hji
            rw [hi] at hj
            injection hj with hj
            subst hj
            rw [hd] at hjd
            exact absurd hjd (by simp)
          · rw [hres j hji] at hdone
            rw [hk d (by rw [hd]; simp)]
            exact hR.done j p d hj hjd hdone
        | some d =>
          obtain ⟨hdl, hap⟩ := K.slot d hd
          refine ⟨hR.defs, by simpa [Act.put] using hR.size, fun t ht => ?_, fun j p e hj hje hdone => ?_⟩
          · have hne : d ≠ t := fun e => ht i o hi (by rw [hd, e])
            show (a.tmps.setIfInBounds d v)[t]? = _
            rw [Array.getElem?_setIfInBounds, if_neg hne]
            exact hR.other t ht
          · by_cases hed : d = e
            · subst hed
              show (a.tmps.setIfInBounds d v)[d]? = _
              rw [Array.getElem?_setIfInBounds, if_pos rfl, if_pos (by rw [hR.size]; exact hdl), hv d hd]
            · have hji : j ≠ i := fun e' => by
                subst e'
                rw [hi] at hj
                injection hj with hj
                subst hj
                rw [hd] at hje
                exact hed (Option.some.inj hje)
              rw [hres j hji] at hdone
              show (a.tmps.setIfInBounds d v)[e]? = _
              rw [Array.getElem?_setIfInBounds, if_neg hed, hk e (by rw [hd]; intro h; exact hed (Option.some.inj h))]
              exact hR.done j p e hj hje hdone
      · have hn : o.dst ≠ some t := fun hd => by
          have h1 := (K.slot t hd).2
          have h2 := List.all_eq_true.1 hU t ht
          rw [h1] at h2
          exact absurd h2 (by simp)
        rw [hk t hn]
        exact hO t ht
  · rintro A a w hA hall ⟨g, hS, hR, _⟩
    have hfun : (fun i => A.getD i false) = fun i => decide (i < ops.size) := by
      funext i
      by_cases h : i < ops.size
      · simp [hall i h, h]
      · simp [Array.getD_eq_getD_getElem?, Array.getElem?_eq_none (show A.size ≤ i by omega), h]
    rw [hfun] at hS
    have hact : a = putAll (ρ g) ops.toList a0 := by
      obtain ⟨p1, p2⟩ := putAll_defers (ρ g) ops.toList a0
      have ht : a.tmps = (putAll (ρ g) ops.toList a0).tmps := by
        apply Array.ext_getElem?
        intro t
        by_cases hlt : t < a0.tmps.size
        · rw [putAll_at (ρ g) ops.toList a0 t hlt]
          by_cases hx : ∃ o ∈ ops.toList, o.dst = some t
          · rw [if_pos hx]
            obtain ⟨o, ho, hd⟩ := hx
            obtain ⟨i, hi⟩ := List.getElem?_of_mem ho
            have hi' : ops[i]? = some o := by simpa using hi
            exact hR.done i o t hi' hd (hall i (Array.getElem?_eq_some_iff.1 hi').1)
          · rw [if_neg hx]
            exact hR.other t fun i o hi hd => hx ⟨o, by simpa using Array.mem_of_getElem? hi, hd⟩
        · rw [Array.getElem?_eq_none (by rw [hR.size]; omega), Array.getElem?_eq_none (by rw [p2]; omega)]
      obtain ⟨at_, ad⟩ := a
      have hd := hR.defs
      simp only at ht hd
      subst ht
      rw [← p1] at hd
      subst hd
      rfl
    rw [hact]
    exact he g w hS
def relOf : List (Tmp × Nat) → Tmp → Option Nat
  | [], _ => none
  | (s, i) :: r, t => if t = s then some i else relOf r t
theorem relOf_mem : ∀ {l : List (Tmp × Nat)} {t : Tmp} {i : Nat}, relOf l t = some i → (t, i) ∈ l
  | [], _, _, h => by simp [relOf] at h
  | (s, j) :: r, t, i, h => by
    unfold relOf at h
    split at h
    · rename_i e
      subst e
      injection h with h
      subst h
      exact List.mem_cons_self
    · exact List.mem_cons_of_mem _ (relOf_mem h)
/-- Slots: those of 'rels' hold what hangs on the order, all others what 'cv' says. -/
def rhoT (rels : List (Tmp × Nat)) (cv : Tmp → Value) (g : Nat → Value) (t : Tmp) : Value :=
  match relOf rels t with
  | some i => g i
  | none => cv t
def relB (ops : Array Oper) (rels : List (Tmp × Nat)) : Bool := rels.all fun p => whoPuts ops p.1 == some p.2
/-- **A region whose operations keep all that was there.** 'F i v w': what is known of what operation i has left; it must outlast whatever keeps what was there. -/
theorem rel_any {ops : Array Oper} {Q : Exit → Act → World → Prop} {a0 : Act} {w : World} (outs : List Tmp) (rels : List (Tmp × Nat)) (cv : Tmp → Value) (F : Nat → Value → World → Prop)
    (hE : earlyB ops = true) (hN : Region.noSelect ops = true) (hD : planGB ops a0.tmps.size outs = true) (hU : outs.all (fun t => (whoPuts ops t).isNone) = true) (hR : relB ops rels = true) (hout : ∀ t ∈ outs, a0.eval (.tmp t) = cv t)
    (hF : ∀ i v w1 w2, F i v w1 → Below w1.heap.size w1 w2 → F i v w2)
    (hs : ∀ i o, ops[i]? = some o → ∀ (g : Nat → Value) (u : KeptW w), (∀ e ∈ o.after, Region.binds .any e = true → F e.on (g e.on) u.w) →
      Region.wanted o (yieldedBy ops (rhoT rels cv g)) = true ∧ Yield P (fun v w' => Below u.w.heap.size u.w w' ∧ F i v w' ∧ ∀ d, o.dst = some d → relOf rels d = none → v = cv d) ((execOp (evalBy (rhoT rels cv g)) o).run P u.w))
    (he : ∀ (g : Nat → Value) (u : KeptW w), (∀ i, i < ops.size → F i (g i) u.w) → Q .normal (putAll (rhoT rels cv g) ops.toList a0) u.w) : wpAny P .any ops Q ops.size (Array.replicate ops.size false) a0 { w with drawn := w.drawn + 1 } := by
  have r0 : ∀ {t : Tmp} {i : Nat}, relOf rels t = some i → whoPuts ops t = some i := fun {t i} h => by
    have := List.all_eq_true.1 hR _ (relOf_mem h)
    simpa using this
  have r1 : ∀ {i : Nat} {o : Oper} {d : Tmp}, ops[i]? = some o → o.dst = some d → relOf rels d = none ∨ relOf rels d = some i := fun {i o d} hi hd => by
    cases h : relOf rels d with
    | none => exact .inl rfl
    | some j =>
      have h1 := ((planGB_at hD hi).slot d hd).2
      rw [r0 h] at h1
      exact .inr h1
  have r2 : ∀ t ∈ outs, relOf rels t = none := fun t ht => by
    cases h : relOf rels t with
    | none => rfl
    | some j =>
      have h1 := List.all_eq_true.1 hU t ht
      rw [r0 h] at h1
      exact absurd h1 (by simp)
  refine plan_guarded_any (γ := Nat → Value) outs (rhoT rels cv) (fun done g w' => (∃ u : KeptW w, w' = u.w) ∧ ∀ j, done j = true → F j (g j) w') (fun _ => undef) hE hN hD hU (fun t ht => by rw [hout t ht]; unfold rhoT; rw [r2 t ht]) ⟨⟨⟨w.drew, (Below.refl w.heap.size w).drew⟩, rfl⟩, fun j hj => by simp at hj⟩ ?_ ?_
  · rintro i o hi done g _ ⟨⟨u, rfl⟩, hd⟩ hu hdep _
    obtain ⟨h1, h2⟩ := hs i o hi g u (fun e he hb => hd e.on (hdep e he hb))
    refine ⟨h1, ?_⟩
    have key : ∀ v w', (Below u.w.heap.size u.w w' ∧ F i v w' ∧ ∀ d, o.dst = some d → relOf rels d = none → v = cv d) →
        ∃ g', ((∃ u : KeptW w, w' = u.w) ∧ ∀ j, updB done i j = true → F j (g' j) w') ∧ (∀ d, o.dst = some d → rhoT rels cv g' d = v) ∧ ∀ t, o.dst ≠ some t → rhoT rels cv g' t = rhoT rels cv g t := by
      rintro v w' ⟨hb, hf, hc⟩
      refine ⟨fun j => if j = i then v else g j, ⟨⟨⟨w', u.h.trans (hb.mono u.h.size)⟩, rfl⟩, fun j hj => ?_⟩, fun d hd' => ?_, fun t ht => ?_⟩
      · by_cases hji : j = i
        · subst hji
          show F j (if j = j then v else g j) w'
          rw [if_pos rfl]
          exact hf
        · show F j (if j = i then v else g j) w'
          rw [if_neg hji]
          unfold updB at hj
          rw [if_neg hji] at hj
          exact hF j (g j) u.w w' (hd j hj) hb
      · unfold rhoT
        rcases r1 hi hd' with hr | hr
        · rw [hr]
          exact (hc d hd' hr).symm
        · rw [hr]
          exact if_pos rfl
      · unfold rhoT
        cases hr : relOf rels t with
        | none => rfl
        | some j =>
          by_cases hji : j = i
          · subst hji
            exfalso
            obtain ⟨p, hp, hpd⟩ := whoPuts_spec (r0 hr)
            rw [hi] at hp
            injection hp with hp
            subst hp
            exact ht hpd
          · exact if_neg hji
    cases hr : (execOp (evalBy (rhoT rels cv g)) o).run P u.w with
    | ok n w' =>
      rw [hr] at h2
      cases n <;> simp only [Yield] at h2 ⊢
      case value v => exact key _ _ h2
      case skip => exact key _ _ h2
      case enter f args => exact h2.mono fun e w'' ⟨v, he, hh⟩ => ⟨v, he, key _ _ hh⟩
    | halt x w' => rw [hr] at h2; simp only [Yield] at h2
  · rintro g _ ⟨⟨u, rfl⟩, hd⟩
    exact he g u (fun i hi => hd i (by simpa using hi))
theorem rel_region {id : Nat} {ops : Array Oper} {Q : Exit → Act → World → Prop} {a0 : Act} {w : World} (outs : List Tmp) (rels : List (Tmp × Nat)) (cv : Tmp → Value) (F : Nat → Value → World → Prop)
    (hm : P.follows .mixedOrders = true) (hE : earlyB ops = true) (hN : Region.noSelect ops = true) (hD : planGB ops a0.tmps.size outs = true) (hU : outs.all (fun t => (whoPuts ops t).isNone) = true) (hR : relB ops rels = true) (hout : ∀ t ∈ outs, a0.eval (.tmp t) = cv t)
    (hF : ∀ i v w1 w2, F i v w1 → Below w1.heap.size w1 w2 → F i v w2)
    (hs : ∀ i o, ops[i]? = some o → ∀ (g : Nat → Value) (u : KeptW w), (∀ e ∈ o.after, Region.binds .any e = true → F e.on (g e.on) u.w) →
      Region.wanted o (yieldedBy ops (rhoT rels cv g)) = true ∧ Yield P (fun v w' => Below u.w.heap.size u.w w' ∧ F i v w' ∧ ∀ d, o.dst = some d → relOf rels d = none → v = cv d) ((execOp (evalBy (rhoT rels cv g)) o).run P u.w))
    (he : ∀ (g : Nat → Value) (u : KeptW w), (∀ i, i < ops.size → F i (g i) u.w) → Q .normal (putAll (rhoT rels cv g) ops.toList a0) u.w) : (Code.region id ops true).wp P Q a0 w :=
  wp_region_any hm (rel_any outs rels cv F hE hN hD hU hR hout hF hs he)

/-- What is asked behind all operations but the last one. -/
def QT (P : Program) (o : Oper) (Q : Exit → Act → World → Prop) : Exit → Act → World → Prop
  | .normal, a, w => o.wp P a w (Q .normal) Q
  | .exit n, a, w => Q (.exit n) a w
  | .goto n, a, w => Q (.goto n) a w
  | .ret, a, w => Q .ret a w
  | .panic c, a, w => Q (.panic c) a w
  | .outgrown, a, w => Q .outgrown a w
theorem QT_upon {o p : Oper} {Q : Exit → Act → World → Prop} {K : Act → World → Prop} {a : Act} {w : World} (h : p.wp P a w K (QT P o Q)) : p.wp P a w K Q := by
  unfold Oper.wp at *
  generalize (execOp a.eval p).run P w = r at *
  cases r with
  | ok n w' =>
    cases n <;> simp only [Oper.upon] at h ⊢ <;> first | exact h | (exact h.mono fun e w'' he => by cases e <;> exact he)
  | halt x w' => cases x <;> simp only [Oper.upon] at h ⊢ <;> exact h
theorem QT_op {ops : Array Oper} {o : Oper} {Q : Exit → Act → World → Prop} {i : Nat} {K : Act → World → Prop} {a : Act} {w : World} (h : wpOp P ops (QT P o Q) i K a w) : wpOp P ops Q i K a w := by
  unfold wpOp at *
  split
  · rename_i hn
    simpa [hn] using h
  · rename_i p hp
    simp only [hp] at h
    split
    · rename_i hw
      simp only [hw, if_true] at h
      exact h.imp QT_upon id
    · rename_i hw
      simpa [hw] using h
/-- The last operation waits for all others: the others in any order, and the last one behind them. -/
theorem tail_any {l : List Oper} {o : Oper} (T : TailOk l o) {Q : Exit → Act → World → Prop} : ∀ (fuel : Nat) (A : Array Bool) (a : Act) (w : World), A.size = l.length →
    wpAny P .any l.toArray (QT P o Q) fuel A a w → wpAny P .any (l ++ [o]).toArray Q (fuel + 1) (A.push false) a w
  | 0, A, a, w, hA, h => by
    have hall := (rkt_ready_nil_iff T hA).1 h.1
    refine ⟨fun h0 => ?_, fun i hi => ?_⟩
    · have := rkt_last_ready T hA hall
      rw [h0] at this
      simp at this
    · by_cases hl : i < l.length
      · have := (rkt_ready_low T hA false hl).1 hi
        rw [h.1] at this
        simp at this
      · have hs : i < l.length + 1 := by simpa using (rkt_ready_mem.1 hi).1
        have : i = l.length := by omega
        subst this
        exact rkt_wp_last (C := fun w' => w' = w) T hA hall 0 rfl (fun w' e => by subst e; exact h.2)
  | fuel + 1, A, a, w, hA, h => by
    refine ⟨fun h0 => ?_, fun i hi => ?_⟩
    · have hn : Region.ready .any l.toArray A = [] := by
        cases hr : Region.ready .any l.toArray A with
        | nil => rfl
        | cons i rs =>
          exfalso
          have hm : i ∈ Region.ready .any l.toArray A := by rw [hr]; simp
          have := (rkt_ready_low T hA false (by simpa using (rkt_ready_mem.1 hm).1)).2 hm
          rw [h0] at this
          simp at this
      have := rkt_last_ready T hA ((rkt_ready_nil_iff T hA).1 hn)
      rw [h0] at this
      simp at this
    · by_cases hl : i < l.length
      · refine rkt_wpOp_low T hl ?_
        rw [rkt_push_set hA false true hl]
        exact wpOp_mono (fun a' w' hh => tail_any T fuel _ a' w' (by simpa using hA) hh) (QT_op (h.2 i ((rkt_ready_low T hA false hl).1 hi)))
      · have hs : i < l.length + 1 := by simpa using (rkt_ready_mem.1 hi).1
        have : i = l.length := by omega
        subst this
        have hall := rkt_allIn_of_last T hA hi
        exact rkt_wp_last (C := fun w' => w' = w) T hA hall _ rfl (fun w' e => by subst e; exact h.1 ((rkt_ready_nil_iff T hA).2 hall))
theorem tail_region {id : Nat} {ops : List Oper} (l : List Oper) (o : Oper) (hs : ops = l ++ [o]) {Q : Exit → Act → World → Prop} {a : Act} {w : World} (hm : P.follows .mixedOrders = true) (hT : tailB l o = true)
    (h : wpAny P .any l.toArray (QT P o Q) l.toArray.size (Array.replicate l.toArray.size false) a { w with drawn := w.drawn + 1 }) : (Code.region id ops.toArray true).wp P Q a w := by
  subst hs
  have h2 := tail_any (rkt_tail_ok hT) l.toArray.size (Array.replicate l.toArray.size false) a { w with drawn := w.drawn + 1 } (by simp) h
  refine wp_region_any hm ?_
  have e1 : (l ++ [o]).toArray.size = l.toArray.size + 1 := by simp
  rw [e1, Array.replicate_succ]
  exact h2
end
end Go
