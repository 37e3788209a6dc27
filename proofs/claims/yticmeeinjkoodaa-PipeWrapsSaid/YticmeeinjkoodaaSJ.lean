/- A drawn region, some operations of which are skipped. -/
import Derived.Test.YticmeeinjkoodaaSG
namespace Go
open Go.RowKit
section
variable {P : Program}
/-- **Operations may be skipped.** One obligation an operation, whatever order is picked.** 'γ': what hangs on the order; 'ρ': the slots; 'S': memory after some operations. -/
theorem plan_skip_any {γ : Type} {ops : Array Oper} {Q : Exit → Act → World → Prop} {a0 : Act} {w : World} (outs : List Tmp) (ρ : γ → Tmp → Value) (S : (Nat → Bool) → γ → World → Prop) (g0 : γ)
    (hE : earlyB ops = true) (hN : Region.noSelect ops = true) (hD : planGB ops a0.tmps.size outs = true) (hU : outs.all (fun t => (whoPuts ops t).isNone) = true) (hout : ∀ t ∈ outs, a0.eval (.tmp t) = ρ g0 t)
    (h0 : S (fun _ => false) g0 { w with drawn := w.drawn + 1 })
    (hs : ∀ i o, ops[i]? = some o → ∀ done g w, S done g w → done i = false → (∀ e ∈ o.after, Region.binds .any e = true → done e.on = true) → (∀ t ∈ outs, ρ g t = ρ g0 t) →
      (Region.wanted o (yieldedBy ops (ρ g)) = true ∧ Yield P (fun v w' => ∃ g', S (updB done i) g' w' ∧ (∀ d, o.dst = some d → ρ g' d = v) ∧ ∀ t, o.dst ≠ some t → ρ g' t = ρ g t) ((execOp (evalBy (ρ g)) o).run P w)) ∨
        (Region.wanted o (yieldedBy ops (ρ g)) = false ∧ S (updB done i) g w ∧ ∀ d, o.dst = some d → ρ g d = undef))
    (he : ∀ g w, S (fun i => decide (i < ops.size)) g w → Q .normal (putAll (ρ g) ops.toList a0) w) : wpAny P .any ops Q ops.size (Array.replicate ops.size false) a0 { w with drawn := w.drawn + 1 } := by
  refine ri_any hE (fun A a w => ∃ g, S (fun i => A.getD i false) g w ∧ PRan ops a0 (ρ g) A a ∧ ∀ t ∈ outs, ρ g t = ρ g0 t) ?_ ?_ ops.size _ a0 _ (by simp) (by simp) ?_
  rotate_left 2
  · refine ⟨g0, ?_, ⟨rfl, rfl, fun _ _ => rfl, fun i o d hi _ hd => ?_⟩, fun _ _ => rfl⟩
    · have : (fun i => (Array.replicate ops.size false).getD i false) = fun _ => false := by
        funext i
        by_cases h : i < ops.size <;> simp [Array.getD_eq_getD_getElem?, h]
      rw [this]
      exact h0
    · have : i < ops.size := (Array.getElem?_eq_some_iff.1 hi).1
      simp [Array.getD_eq_getD_getElem?, this] at hd
  · rintro A a w hA ⟨g, hS, hR, hO⟩ i o hi hu hdep
    have K := planGB_at hD hi
    have hlt : i < ops.size := (Array.getElem?_eq_some_iff.1 hi).1
    unfold wpOp
    have hweq : Region.wanted o (yielded ops a.tmps) = Region.wanted o (yieldedBy ops (ρ g)) := by
      unfold Region.wanted
      cases hg : o.guard with
      | none => rfl
      | some jb =>
        obtain ⟨j, b⟩ := jb
        obtain ⟨e, he, hb, rfl⟩ := K.guard j b hg
        simp only
        unfold yielded yieldedBy
        cases ho : ops[e.on]? with
        | none => rfl
        | some p =>
          cases hd : p.dst with
          | none => simp [hd]
          | some d =>
            simp only [Option.bind_some, hd, hR.done e.on p d ho hd (hdep e he hb)]
            cases ρ g d <;> rfl
    rcases hs i o hi _ g w hS hu hdep hO with ⟨hw0, hy0⟩ | ⟨hw0, hS2, hv2⟩
    · have hwant := hweq.trans hw0
      simp only [hi, hwant, if_true]
      refine .inl ?_
      have hcong : execOp a.eval o = execOp (evalBy (ρ g)) o := by
        refine execOp_congr o (fun cs b => Region.noSelect_spec hN i o cs b hi) fun x hx => ?_
        cases x with
        | const v => rfl
        | global v => rfl
        | func f => rfl
        | tmp t =>
          rcases K.looks t hx with ⟨j, hj, e, he, hb, rfl⟩ | ⟨hn, ho⟩
          · obtain ⟨p, hp, hpd⟩ := whoPuts_spec hj
            have := hR.done e.on p t hp hpd (hdep e he hb)
            simp [Act.eval, evalBy, Array.getD_eq_getD_getElem?, this]
          · have hnone : ∀ (i : Nat) (o : Oper), ops[i]? = some o → o.dst ≠ some t := fun i o hi hd => by
              have := (planGB_at hD hi).slot t hd
              rw [hn] at this
              exact absurd this.2 (by simp)
            show a.eval (.tmp t) = ρ g t
            rw [hO t ho, ← hout t ho]
            simp [Act.eval, Array.getD_eq_getD_getElem?, hR.other t hnone]
      refine Yield.wp (R := fun v w' => ∃ g', S (updB (fun i => A.getD i false) i) g' w' ∧ (∀ d, o.dst = some d → ρ g' d = v) ∧ ∀ t, o.dst ≠ some t → ρ g' t = ρ g t) ?_ ?_
      · rw [hcong]
        exact hy0
      · rintro v w' ⟨g', hS', hv, hk⟩
        have hset : (fun j => (A.setIfInBounds i true).getD j false) = updB (fun j => A.getD j false) i := by
          funext j
          unfold updB
          by_cases hj : j = i
          · subst hj
            simp [Array.getD_eq_getD_getElem?, show j < A.size by omega]
          · simp [Array.getD_eq_getD_getElem?, Ne.symm hj, hj]
        refine ⟨g', by rw [hset]; exact hS', ?_, fun t ht => ?_⟩
        · have hres : ∀ j, j ≠ i → (A.setIfInBounds i true).getD j false = A.getD j false := fun j hne => by
            have := congrFun hset j
            simpa [updB, hne] using this
          cases hd : o.dst with
          | none =>
            refine ⟨hR.defs, hR.size, hR.other, fun j p d hj hjd hdone => ?_⟩
            by_cases hji : j = i
            · subst hji
              rw [hi] at hj
              injection hj with hj
              subst hj
              rw [hd] at hjd
              exact absurd hjd (by simp)
            · rw [hres j hji] at hdone
              rw [hk d (by rw [hd]; simp)]
              exact hR.done j p d hj hjd hdone
          | some d =>
            obtain ⟨hdl, hap⟩ := K.slot d hd
            refine ⟨hR.defs, by simpa [Act.put] using hR.size, fun t ht => ?_, fun j p e hj hje hdone => ?_⟩
            · have hne : d ≠ t := fun e => ht i o hi (by rw [hd, e])
              show (a.tmps.setIfInBounds d v)[t]? = _
              rw [Array.getElem?_setIfInBounds, if_neg hne]
              exact hR.other t ht
            · by_cases hed : d = e
              · subst hed
                show (a.tmps.setIfInBounds d v)[d]? = _
                rw [Array.getElem?_setIfInBounds, if_pos rfl, if_pos (by rw [hR.size]; exact hdl), hv d hd]
              · have hji : j ≠ i := fun e' => by
                  subst e'
                  rw [hi] at hj
                  injection hj with hj
                  subst hj
                  rw [hd] at hje
                  exact hed (Option.some.inj hje)
                rw [hres j hji] at hdone
                show (a.tmps.setIfInBounds d v)[e]? = _
                rw [Array.getElem?_setIfInBounds, if_neg hed, hk e (by rw [hd]; intro h; exact hed (Option.some.inj h))]
                exact hR.done j p e hj hje hdone
        · have hn : o.dst ≠ some t := fun hd => by
            have h1 := (K.slot t hd).2
            have h2 := List.all_eq_true.1 hU t ht
            rw [h1] at h2
            exact absurd h2 (by simp)
          rw [hk t hn]
          exact hO t ht
    · have hwant := hweq.trans hw0
      have hset : (fun j => (A.setIfInBounds i true).getD j false) = updB (fun j => A.getD j false) i := by
        funext j
        unfold updB
        by_cases hj : j = i
        · subst hj
          simp [Array.getD_eq_getD_getElem?, show j < A.size by omega]
        · simp [Array.getD_eq_getD_getElem?, Ne.symm hj, hj]
      have hres : ∀ j, j ≠ i → (A.setIfInBounds i true).getD j false = A.getD j false := fun j hne => by
        have := congrFun hset j
        simpa [updB, hne] using this
      simp only [hi, hwant, Bool.false_eq_true, if_false]
      refine ⟨g, by rw [hset]; exact hS2, ?_, hO⟩
      cases hd : o.dst with
      | none =>
        refine ⟨hR.defs, hR.size, hR.other, fun j p d hj hjd hdone => ?_⟩
        by_cases hji : j = i
        · subst hji
          rw [hi] at hj
          injection hj with hj
          subst hj
          rw [hd] at hjd
          exact absurd hjd (by simp)
        · rw [hres j hji] at hdone
          exact hR.done j p d hj hjd hdone
      | some d =>
        obtain ⟨hdl, hap⟩ := K.slot d hd
        refine ⟨hR.defs, by simpa [Act.put] using hR.size, fun t ht => ?_, fun j p e hj hje hdone => ?_⟩
        · have hne : d ≠ t := fun e => ht i o hi (by rw [hd, e])
          show (a.tmps.setIfInBounds d undef)[t]? = _
          rw [Array.getElem?_setIfInBounds, if_neg hne]
          exact hR.other t ht
        · by_cases hed : d = e
          · subst hed
            show (a.tmps.setIfInBounds d undef)[d]? = _
            rw [Array.getElem?_setIfInBounds, if_pos rfl, if_pos (by rw [hR.size]; exact hdl), hv2 d hd]
          · have hji : j ≠ i := fun e' => by
              subst e'
              rw [hi] at hj
              injection hj with hj
              subst hj
              rw [hd] at hje
              exact hed (Option.some.inj hje)
            rw [hres j hji] at hdone
            show (a.tmps.setIfInBounds d undef)[e]? = _
            rw [Array.getElem?_setIfInBounds, if_neg hed]
            exact hR.done j p e hj hje hdone
  · rintro A a w hA hall ⟨g, hS, hR, _⟩
    have hfun : (fun i => A.getD i false) = fun i => decide (i < ops.size) := by
      funext i
      by_cases h : i < ops.size
      · simp [hall i h, h]
      · simp [Array.getD_eq_getD_getElem?, Array.getElem?_eq_none (show A.size ≤ i by omega), h]
    rw [hfun] at hS
    have hact : a = putAll (ρ g) ops.toList a0 := by
      obtain ⟨p1, p2⟩ := putAll_defers (ρ g) ops.toList a0
      have ht : a.tmps = (putAll (ρ g) ops.toList a0).tmps := by
        apply Array.ext_getElem?
        intro t
        by_cases hlt : t < a0.tmps.size
        · rw [putAll_at (ρ g) ops.toList a0 t hlt]
          by_cases hx : ∃ o ∈ ops.toList, o.dst = some t
          · rw [if_pos hx]
            obtain ⟨o, ho, hd⟩ := hx
            obtain ⟨i, hi⟩ := List.getElem?_of_mem ho
            have hi' : ops[i]? = some o := by simpa using hi
            exact hR.done i o t hi' hd (hall i (Array.getElem?_eq_some_iff.1 hi').1)
          · rw [if_neg hx]
            exact hR.other t fun i o hi hd => hx ⟨o, by simpa using Array.mem_of_getElem? hi, hd⟩
        · rw [Array.getElem?_eq_none (by rw [hR.size]; omega), Array.getElem?_eq_none (by rw [p2]; omega)]
      obtain ⟨at_, ad⟩ := a
      have hd := hR.defs
      simp only at ht hd
      subst ht
      rw [← p1] at hd
      subst hd
      rfl
    rw [hact]
    exact he g w hS
end
end Go
