/- General laws of walks, beside those of AD. Coolers: towns as they lie in memory; small functions. Coolers: the check of a town. Coolers: checks of coolers and of failures; sums and sets. -/
import Derived.Test.YtmppiiamcpjhnaaAD
import Derived.Deep.MidRow
import Derived.Lib.MinMax
namespace Go
open Go.RowKit
section
variable {P : Program}
theorem exec_store_mid {o : Oper} {ev : Operand → Value} {w : World} (ty : TypeId) (x y : Operand) (ho : o.op = .store ty x y) (b : Nat) (cells : Array Value) (hx : ev x = .pointer (some ⟨b, 0, none⟩)) (hy : ev y = .agg cells)
    (ht : w.there b 0 cells.size) (hi : (P.info? ty).map (·.size) = some cells.size) (h1 : cells.all (·.oneCell') = true) : (execOp ev o).run P w = .ok .skip (w.setCells b 0 cells.toList) := by
  unfold execOp
  simp only [ho, hx, hy, Instr.storeAt, Instr.sureAddr, Sem.run_bind, Sem.run_pure, Result.andThen_ok, run_storeVar_mid w b 0 ty cells ht hi h1]

theorem exec_store_off {o : Oper} {ev : Operand → Value} {w : World} (ty : TypeId) (x y : Operand) (ho : o.op = .store ty x y) (b off : Nat) (cells : Array Value) (hx : ev x = .pointer (some ⟨b, off, none⟩)) (hy : ev y = .agg cells)
    (ht : w.there b off cells.size) (hi : (P.info? ty).map (·.size) = some cells.size) (h1 : cells.all (·.oneCell') = true) : (execOp ev o).run P w = .ok .skip (w.setCells b off cells.toList) := by
  unfold execOp
  simp only [ho, hx, hy, Instr.storeAt, Instr.sureAddr, Sem.run_bind, Sem.run_pure, Result.andThen_ok, run_storeVar_mid w b off ty cells ht hi h1]

/-- **Operations may be skipped.** One obligation an operation, whatever order is picked.** 'γ': what hangs on the order; 'ρ': the slots; 'S': memory after some operations. -/
theorem plan_skip_any {γ : Type} {ops : Array Oper} {Q : Exit → Act → World → Prop} {a0 : Act} {w : World} (outs : List Tmp) (ρ : γ → Tmp → Value) (S : (Nat → Bool) → γ → World → Prop) (g0 : γ)
    (hE : earlyB ops = true) (hN : Region.noSelect ops = true) (hD : planGB ops a0.tmps.size outs = true) (hU : outs.all (fun t => (whoPuts ops t).isNone) = true) (hout : ∀ t ∈ outs, a0.eval (.tmp t) = ρ g0 t)
    (h0 : S (fun _ => false) g0 { w with drawn := w.drawn + 1 })
    (hs : ∀ i o, ops[i]? = some o → ∀ done g w, S done g w → done i = false → (∀ e ∈ o.after, Region.binds .any e = true → done e.on = true) → (∀ t ∈ outs, ρ g t = ρ g0 t) →
      (Region.wanted o (yieldedBy ops (ρ g)) = true ∧ Yield P (fun v w' => ∃ g', S (updB done i) g' w' ∧ (∀ d, o.dst = some d → ρ g' d = v) ∧ ∀ t, o.dst ≠ some t → ρ g' t = ρ g t) ((execOp (evalBy (ρ g)) o).run P w)) ∨
        (Region.wanted o (yieldedBy ops (ρ g)) = false ∧ S (updB done i) g w ∧ ∀ d, o.dst = some d → ρ g d = undef))
    (he : ∀ g w, S (fun i => decide (i < ops.size)) g w → Q .normal (putAll (ρ g) ops.toList a0) w) : wpAny P .any ops Q ops.size (Array.replicate ops.size false) a0 { w with drawn := w.drawn + 1 } := by
  refine ri_any hE (fun A a w => ∃ g, S (fun i => A.getD i false) g w ∧ PRan ops a0 (ρ g) A a ∧ ∀ t ∈ outs, ρ g t = ρ g0 t) ?_ ?_ ops.size _ a0 _ (by simp) (by simp) ?_
  rotate_left 2
  · refine ⟨g0, ?_, ⟨rfl, rfl, fun _ _ => rfl, fun i o d hi _ hd => ?_⟩, fun _ _ => rfl⟩
    · have : (fun i => (Array.replicate ops.size false).getD i false) = fun _ => false := by
        funext i
        by_cases h : i < ops.size <;> simp [Array.getD_eq_getD_getElem?, h]
      rw [this]
      exact h0
    · have : i < ops.size := (Array.getElem?_eq_some_iff.1 hi).1
      simp [Array.getD_eq_getD_getElem?, this] at hd
  · rintro A a w hA ⟨g, hS, hR, hO⟩ i o hi hu hdep
    have K := planGB_at hD hi
    have hlt : i < ops.size := (Array.getElem?_eq_some_iff.1 hi).1
    unfold wpOp
    have hweq : Region.wanted o (yielded ops a.tmps) = Region.wanted o (yieldedBy ops (ρ g)) := by
      unfold Region.wanted
      cases hg : o.guard with
      | none => rfl
      | some jb =>
        obtain ⟨j, b⟩ := jb
        obtain ⟨e, he, hb, rfl⟩ := K.guard j b hg
        simp only
        unfold yielded yieldedBy
        cases ho : ops[e.on]? with
        | none => rfl
        | some p =>
          cases hd : p.dst with
          | none => simp [hd]
          | some d =>
            simp only [Option.bind_some, hd, hR.done e.on p d ho hd (hdep e he hb)]
            cases ρ g d <;> rfl
    rcases hs i o hi _ g w hS hu hdep hO with ⟨hw0, hy0⟩ | ⟨hw0, hS2, hv2⟩
    · have hwant := hweq.trans hw0
      simp only [hi, hwant, if_true]
      refine .inl ?_
      have hcong : execOp a.eval o = execOp (evalBy (ρ g)) o := by
        refine execOp_congr o (fun cs b => Region.noSelect_spec hN i o cs b hi) fun x hx => ?_
        cases x with
        | const v => rfl
        | global v => rfl
        | func f => rfl
        | tmp t =>
          rcases K.looks t hx with ⟨j, hj, e, he, hb, rfl⟩ | ⟨hn, ho⟩
          · obtain ⟨p, hp, hpd⟩ := whoPuts_spec hj
            have := hR.done e.on p t hp hpd (hdep e he hb)
            simp [Act.eval, evalBy, Array.getD_eq_getD_getElem?, this]
          · have hnone : ∀ (i : Nat) (o : Oper), ops[i]? = some o → o.dst ≠ some t := fun i o hi hd => by
              have := (planGB_at hD hi).slot t hd
              rw [hn] at this
              exact absurd this.2 (by simp)
            show a.eval (.tmp t) = ρ g t
            rw [hO t ho, ← hout t ho]
            simp [Act.eval, Array.getD_eq_getD_getElem?, hR.other t hnone]
      refine Yield.wp (R := fun v w' => ∃ g', S (updB (fun i => A.getD i false) i) g' w' ∧ (∀ d, o.dst = some d → ρ g' d = v) ∧ ∀ t, o.dst ≠ some t → ρ g' t = ρ g t) ?_ ?_
      · rw [hcong]
        exact hy0
      · rintro v w' ⟨g', hS', hv, hk⟩
        have hset : (fun j => (A.setIfInBounds i true).getD j false) = updB (fun j => A.getD j false) i := by
          funext j
          unfold updB
          by_cases hj : j = i
          · subst hj
            simp [Array.getD_eq_getD_getElem?, show j < A.size by omega]
          · simp [Array.getD_eq_getD_getElem?, Ne.symm hj, hj]
        refine ⟨g', by rw [hset]; exact hS', ?_, fun t ht => ?_⟩
        · have hres : ∀ j, j ≠ i → (A.setIfInBounds i true).getD j false = A.getD j false := fun j hne => by
            have := congrFun hset j
            simpa [updB, hne] using this
          cases hd : o.dst with
          | none =>
            refine ⟨hR.defs, hR.size, hR.other, fun j p d hj hjd hdone => ?_⟩
            by_cases hji : j = i
            · subst hji
              rw [hi] at hj
              injection hj with hj
              subst hj
              rw [hd] at hjd
              exact absurd hjd (by simp)
            · rw [hres j hji] at hdone
              rw [hk d (by rw [hd]; simp)]
              exact hR.done j p d hj hjd hdone
          | some d =>
            obtain ⟨hdl, hap⟩ := K.slot d hd
            refine ⟨hR.defs, by simpa [Act.put] using hR.size, fun t ht => ?_, fun j p e hj hje hdone => ?_⟩
            · have hne : d ≠ t := fun e => ht i o hi (by rw [hd, e])
              show (a.tmps.setIfInBounds d v)[t]? = _
              rw [Array.getElem?_setIfInBounds, if_neg hne]
              exact hR.other t ht
            · by_cases hed : d = e
              · subst hed
                show (a.tmps.setIfInBounds d v)[d]? = _
                rw [Array.getElem?_setIfInBounds, if_pos rfl, if_pos (by rw [hR.size]; exact hdl), hv d hd]
              · have hji : j ≠ i := fun e' => by
                  subst e'
                  rw [hi] at hj
                  injection hj with hj
                  subst hj
                  rw [hd] at hje
                  exact hed (Option.some.inj hje)
                rw [hres j hji] at hdone
                show (a.tmps.setIfInBounds d v)[e]? = _
                rw [Array.getElem?_setIfInBounds, if_neg hed, hk e (by rw [hd]; intro h; exact hed (Option.some.inj h))]
                exact hR.done j p e hj hje hdone
        · have hn : o.dst ≠ some t := fun hd => by
            have h1 := (K.slot t hd).2
            have h2 := List.all_eq_true.1 hU t ht
            rw [h1] at h2
            exact absurd h2 (by simp)
          rw [hk t hn]
          exact hO t ht
    · have hwant := hweq.trans hw0
      have hset : (fun j => (A.setIfInBounds i true).getD j false) = updB (fun j => A.getD j false) i := by
        funext j
        unfold updB
        by_cases hj : j = i
        · subst hj
          simp [Array.getD_eq_getD_getElem?, show j < A.size by omega]
        · simp [Array.getD_eq_getD_getElem?, Ne.symm hj, hj]
      have hres : ∀ j, j ≠ i → (A.setIfInBounds i true).getD j false = A.getD j false := fun j hne => by
        have := congrFun hset j
        simpa [updB, hne] using this
      simp only [hi, hwant, Bool.false_eq_true, if_false]
      refine ⟨g, by rw [hset]; exact hS2, ?_, hO⟩
      cases hd : o.dst with
      | none =>
        refine ⟨hR.defs, hR.size, hR.other, fun j p d hj hjd hdone => ?_⟩
        by_cases hji : j = i
        · subst hji
          rw [hi] at hj
          injection hj with hj
          subst hj
          rw [hd] at hjd
          exact absurd hjd (by simp)
        · rw [hres j hji] at hdone
          exact hR.done j p d hj hjd hdone
      | some d =>
        obtain ⟨hdl, hap⟩ := K.slot d hd
        refine ⟨hR.defs, by simpa [Act.put] using hR.size, fun t ht => ?_, fun j p e hj hje hdone => ?_⟩
        · have hne : d ≠ t := fun e => ht i o hi (by rw [hd, e])
          show (a.tmps.setIfInBounds d undef)[t]? = _
          rw [Array.getElem?_setIfInBounds, if_neg hne]
          exact hR.other t ht
        · by_cases hed : d = e
          · subst hed
            show (a.tmps.setIfInBounds d undef)[d]? = _
            rw [Array.getElem?_setIfInBounds, if_pos rfl, if_pos (by rw [hR.size]; exact hdl), hv2 d hd]
          · have hji : j ≠ i := fun e' => by
              subst e'
              rw [hi] at hj
              injection hj with hj
              subst hj
              rw [hd] at hje
              exact hed (Option.some.inj hje)
            rw [hres j hji] at hdone
            show (a.tmps.setIfInBounds d undef)[e]? = _
            rw [Array.getElem?_setIfInBounds, if_neg hed]
            exact hR.done j p e hj hje hdone
  · rintro A a w hA hall ⟨g, hS, hR, _⟩
    have hfun : (fun i => A.getD i false) = fun i => decide (i < ops.size) := by
      funext i
      by_cases h : i < ops.size
      · simp [hall i h, h]
      · simp [Array.getD_eq_getD_getElem?, Array.getElem?_eq_none (show A.size ≤ i by omega), h]
    rw [hfun] at hS
    have hact : a = putAll (ρ g) ops.toList a0 := by
      obtain ⟨p1, p2⟩ := putAll_defers (ρ g) ops.toList a0
      have ht : a.tmps = (putAll (ρ g) ops.toList a0).tmps := by
        apply Array.ext_getElem?
        intro t
        by_cases hlt : t < a0.tmps.size
        · rw [putAll_at (ρ g) ops.toList a0 t hlt]
          by_cases hx : ∃ o ∈ ops.toList, o.dst = some t
          · rw [if_pos hx]
            obtain ⟨o, ho, hd⟩ := hx
            obtain ⟨i, hi⟩ := List.getElem?_of_mem ho
            have hi' : ops[i]? = some o := by simpa using hi
            exact hR.done i o t hi' hd (hall i (Array.getElem?_eq_some_iff.1 hi').1)
          · rw [if_neg hx]
            exact hR.other t fun i o hi hd => hx ⟨o, by simpa using Array.mem_of_getElem? hi, hd⟩
        · rw [Array.getElem?_eq_none (by rw [hR.size]; omega), Array.getElem?_eq_none (by rw [p2]; omega)]
      obtain ⟨at_, ad⟩ := a
      have hd := hR.defs
      simp only at ht hd
      subst ht
      rw [← p1] at hd
      subst hd
      rfl
    rw [hact]
    exact he g w hS

/-- An append to nothing, in a drawn region. -/
theorem relApp {w : World} {rels : List (Tmp × Nat)} {cv : Tmp → Value} {F : Nat → Value → World → Prop} {i : Nat} {o : Oper} {g : Nat → Value} {u : KeptW w} (s x : Operand) (t : TypeId)
    (ho : o.op = .call { callee := .builtin .append, args := #[s, x], argTypes := #[t, t] }) (hs : evalBy (rhoT rels cv g) s = .slice none 0 0)
    (e : TypeId) (ti : TypeInfo) (z : Value) (size bytes : Nat) (ht : P.underlying t = some (.slice e)) (hi : P.info? e = some ti) (hz : ti.zero = some z)
    (hsize : ti.size = size) (hby : ti.bytes = bytes) (hzs : z.cells.size = size) (hsz : 0 < size)
    (ad : Addr) (m c : Nat) (news : List Value) (hx : evalBy (rhoT rels cv g) x = .slice (some ad) m c) (hl : news.length = m * size) (hnews : ∀ j v, news[j]? = some v → u.w.cell? (ad.add j) = some v) (h1 : ∀ v ∈ news, v.oneCell' = true)
    (h63 : 0 + m ≤ maxLen) (hbytes : (0 + m) * bytes ≤ 140737488355328)
    (hrel : ∀ d, o.dst = some d → relOf rels d ≠ none) (hF : ∀ v' w', w'.ownsRow u.w.heap.size e size v' m news → F i v' w') :
    Yield P (fun v w' => Below u.w.heap.size u.w w' ∧ F i v w' ∧ ∀ d, o.dst = some d → relOf rels d = none → v = cv d) ((execOp (evalBy (rhoT rels cv g)) o).run P u.w) := by
  obtain ⟨v', w', hr, h2, h3, _⟩ := run_append_own (P := P) u.w u.w.heap.size t o.type e ti z size bytes ht hi hz hsize hby hzs hsz (.slice none 0 0) 0 [] (World.ownsRow_nil _ _ _ _) ad m c news hl hnews h1 h63 hbytes (Nat.le_refl _)
  have he : (execOp (evalBy (rhoT rels cv g)) o).run P u.w = .ok (.value v') w' := by
    unfold execOp
    simp only [ho, resolve, invoke, builtin, Sem.run_bind, Sem.run_pure, Result.andThen_ok, List.map_toArray, List.map_cons, List.map_nil, hs, hx, hr]
  rw [he]
  rw [Nat.zero_add, List.nil_append] at h2
  exact ⟨(Below.refl u.w.heap.size u.w).grown h3 (Nat.le_refl _) (fun q e => by cases e), hF v' w' h2, fun d hd hn => absurd hn (hrel d hd)⟩

end
end Go
namespace Go.Proofs.Ytmppiiamcpjhnaa
open Go.RowKit Go.Shelf

theorem RowIs.low {α : Type} {R : α → List Value} {eT : TypeId} {B B' : Nat} {row : List α} {v : Value} {w : World} (h : RowIs R eT B row v w) (hB : B' ≤ B) : RowIs R eT B' row v w := by
  rcases h with h | ⟨b, c, h1, h2, h3⟩
  · exact .inl h
  · exact .inr ⟨b, c, h1, Nat.le_trans hB h2, h3⟩

theorem RowIs.below {α : Type} {R : α → List Value} {eT : TypeId} {B : Nat} {row : List α} {v : Value} {w w' : World} (h : RowIs R eT B row v w) (hb : Below w.heap.size w w') : RowIs R eT B row v w' := h.keep fun b _ _ hx => (hb.block b (heapsz hx)).trans hx

theorem addr_add (b o j : Nat) : (⟨b, o, none⟩ : Addr).add j = ⟨b, o + j, none⟩ := by unfold Addr.add; split <;> simp_all

theorem cells_new (w : World) (vs : List Value) (T : TypeId) (j : Nat) (v : Value) (hv : vs[j]? = some v) : (w.alloc (.cells vs.toArray T)).cell? ((⟨w.heap.size, 0, none⟩ : Addr).add j) = some v := by
  rw [addr_add, Nat.zero_add, cell_of_row _ _ _ _ T (0, 0) (heap_alloc_new w _)]
  simpa using hv

theorem fill2 {w : World} {b : Nat} {x y : Value} {T : TypeId} (u v : Value) (z : w.heap[b]? = some (.cells #[x, y] T (0, 0))) : ((w.setCell ⟨b, 0, none⟩ u).setCell ⟨b, 1, none⟩ v).heap[b]? = some (.cells #[u, v] T (0, 0)) := by
  rw [blk_set (blk_set z 0 _) 1 _]
  rfl

theorem box4 {w : World} {B : Nat} {a b c d : Value} {t : TypeId} (h : w.heap[B]? = some (.cells #[a, b, c, d] t (0, 0))) : (w.cell? ⟨B, 0, none⟩ = some a ∧ w.cell? ⟨B, 1, none⟩ = some b ∧ w.cell? ⟨B, 2, none⟩ = some c ∧ w.cell? ⟨B, 3, none⟩ = some d) ∧ (w.frozen? ⟨B, 0, none⟩ = false ∧ w.frozen? ⟨B, 1, none⟩ = false ∧ w.frozen? ⟨B, 2, none⟩ = false ∧ w.frozen? ⟨B, 3, none⟩ = false) := by
  have c := fun k => cell_of_row w B k _ t (0, 0) h
  have f : ∀ k, w.frozen? ⟨B, k, none⟩ = false := fun k => by simp [World.frozen?, h]
  exact ⟨⟨c 0, c 1, c 2, c 3⟩, f 0, f 1, f 2, f 3⟩

theorem row_made {α : Type} {k : Nat} {R : α → List Value} {w : World} {b c : Nat} {cs : Array Value} {T : TypeId} {rows : List α} (h : w.heap[b]? = some (.cells cs T (0, 0))) (hR : ∀ x, (R x).length = k) (hc : cs = (flatR R rows).toArray) (hl : rows.length ≤ c) : RowAt k R w w.heap.size (some ⟨b, 0, none⟩) rows := by
  have hr : RowIs R T 0 rows (.slice (some ⟨b, 0, none⟩) rows.length c) w := .inr ⟨b, c, rfl, Nat.zero_le _, hl, cs, h, fun i x hx => by rw [hc]; simpa using hx⟩
  obtain ⟨A, c', e, hA, _⟩ := hr.at_ hR
  injection e with e
  rw [e]
  exact hA

theorem grid_vals {α : Type} {k : Nat} {R : α → List Value} {w : World} {B : Nat} {A : Option Addr} {ts : List (List α)} (h : GridAt k R w B A ts) (hne : ts ≠ []) :
    ∃ (b o : Nat) (ws : List Value), A = some ⟨b, o, none⟩ ∧ b < B ∧ ws.length = ts.length ∧ (∀ (i : Nat) (u : Value), ws[i]? = some u → w.cell? ⟨b, o + i, none⟩ = some u ∧ u.oneCell' = true) ∧ ∀ (i : Nat) (x : List α), ts[i]? = some x → ∃ A' c', ws[i]? = some (Value.slice A' x.length c') ∧ RowAt k R w B A' x ∧ x.length ≤ maxLen ∧ x.length ≤ c' := by
  obtain ⟨b, o, rfl, hlt, hc⟩ := h hne
  have hget : ∀ i x, ts[i]? = some x → ((List.range ts.length).map fun i => (w.cell? ⟨b, o + i, none⟩).getD undef)[i]? = some ((w.cell? ⟨b, o + i, none⟩).getD undef) := fun i x hx => by
    rw [List.getElem?_map, List.getElem?_range (List.getElem?_eq_some_iff.1 hx).1]
    rfl
  refine ⟨b, o, (List.range ts.length).map fun i => (w.cell? ⟨b, o + i, none⟩).getD undef, rfl, hlt, by simp, fun i u hu => ?_, fun i x hx => ?_⟩
  · have hi : i < ts.length := by
      have := (List.getElem?_eq_some_iff.1 hu).1
      simpa using this
    obtain ⟨x, hx⟩ := get_of_lt hi
    obtain ⟨A', c', e, _⟩ := hc i x hx
    rw [hget i x hx, e] at hu
    simp only [Option.getD_some, Option.some.injEq] at hu
    subst hu
    exact ⟨e, rfl⟩
  · obtain ⟨A', c', e, h1, h2, h3⟩ := hc i x hx
    exact ⟨A', c', by rw [hget i x hx, e]; rfl, h1, h2, h3⟩

theorem fillO {w : World} {B o : Nat} {cur : Array Value} {t : TypeId} (h : w.heap[B]? = some (.cells cur t (0, 0))) (ho : o + 2 ≤ cur.size) (v0 v1 : Value) :
    ∃ w', w.setCells B o (#[v0, v1] : Array Value).toList = w' ∧ w.there B o (#[v0, v1] : Array Value).size ∧ w'.heap[B]? = some (.cells ((cur.setIfInBounds o v0).setIfInBounds (o + 1) v1) t (0, 0)) ∧ (∀ n, n ≤ B → Below n w w') := by
  have f : ((w.setCell ⟨B, o, none⟩ v0).setCell ⟨B, o + 1, none⟩ v1).heap[B]? = some (.cells ((cur.setIfInBounds o v0).setIfInBounds (o + 1) v1) t (0, 0)) := by simpa using blk_set (blk_set h o v0) (o + 1) v1
  refine ⟨_, rfl, ?_, f, fun n hn => ((Below.refl n w).setCell (p := ⟨B, o, none⟩) hn _).setCell (p := ⟨B, o + 1, none⟩) hn _⟩
  intro j hj
  have hj2 : j < 2 := hj
  have hc := cell_of_row w B (o + j) _ t (0, 0) h
  have hf : w.frozen? ⟨B, o + j, none⟩ = false := by simp [World.frozen?, h]
  rw [hc, hf]
  exact ⟨by rw [Array.getElem?_eq_getElem (by omega)]; rfl, rfl⟩

theorem flat_len {α : Type} {k : Nat} {R : α → List Value} (hR : ∀ x, (R x).length = k) : ∀ row : List α, (flatR R row).length = row.length * k
  | [] => by simp [flatR]
  | x :: r => by
    have := flat_len hR r
    show (R x ++ flatR R r).length = _
    rw [List.length_append, hR, this, List.length_cons, Nat.add_mul, Nat.one_mul, Nat.add_comm]

theorem flat_in {α : Type} {k : Nat} {R : α → List Value} (hR : ∀ x, (R x).length = k) : ∀ (row : List α) (j : Nat) (u : Value), (flatR R row)[j]? = some u → ∃ i r x, j = i * k + r ∧ row[i]? = some x ∧ (R x)[r]? = some u
  | [], j, u, h => by simp [flatR] at h
  | x :: r, j, u, h => by
    have e : flatR R (x :: r) = R x ++ flatR R r := rfl
    rw [e] at h
    by_cases hj : j < k
    · rw [List.getElem?_append_left (by rw [hR]; exact hj)] at h
      exact ⟨0, j, x, by omega, rfl, h⟩
    · rw [List.getElem?_append_right (by rw [hR]; omega), hR] at h
      obtain ⟨i, q, y, h1, h2, h3⟩ := flat_in hR r (j - k) u h
      exact ⟨i + 1, q, y, by rw [Nat.add_mul]; omega, h2, h3⟩

theorem flat1_len : ∀ xs : List Int, (flatR intR xs).length = xs.length
  | [] => rfl
  | x :: r => by
    show ([Value.int .i64 x] ++ flatR intR r).length = _
    rw [List.length_append, flat1_len r, List.length_cons]
    show 1 + r.length = r.length + 1
    omega

theorem dropN_at {l : List Nat} {k x : Nat} (h : l[k]? = some x) : l.drop k = x :: l.drop (k + 1) := by
  obtain ⟨hk, hx⟩ := List.getElem?_eq_some_iff.1 h
  rw [List.drop_eq_getElem_cons hk, hx]

theorem drop_at {l : List Int} {k : Nat} {x : Int} (h : l[k]? = some x) : l.drop k = x :: l.drop (k + 1) := by
  obtain ⟨hk, hx⟩ := List.getElem?_eq_some_iff.1 h
  rw [List.drop_eq_getElem_cons hk, hx]

section
variable {α : Type} {R : α → List Value} {eT sT : TypeId} {w wr wq : World} {base : Nat} {LL : List (List α)} {lv : Value} {rows : List Value}
theorem GrdI.cell (h : GrdI R eT sT w base LL lv rows wr) {j : Nat} {row : List α} (hj : LL[j]? = some row) :
    ∃ g c v, lv = .slice (some ⟨g, 0, none⟩) LL.length c ∧ g < wr.heap.size ∧ wr.cell? ⟨g, j, none⟩ = some v ∧ RowIs R eT base row v wr := by
  obtain ⟨v, h1, h2⟩ := h.rws.2 j row hj
  have hlt := (List.getElem?_eq_some_iff.1 hj).1
  have hown := h.own
  rcases hown.2 with ⟨e1, e2⟩ | ⟨g, cap, cur, rfl, _, hg, _⟩
  · omega
  · exact ⟨g, cap, v, rfl, heapsz hg, by rw [hown.cellAt j (by omega)]; exact h1, h2⟩
theorem GrdI.rebase {w0 : World} (h : GrdI R eT sT w base LL lv rows wr) (hb : Below w0.heap.size w0 w) : GrdI R eT sT w0 w0.heap.size LL lv rows wr :=
  ⟨hb.trans (h.bel.mono hb.size), ⟨h.own.1, h.own.2.imp id fun ⟨g, cap, cur, e1, e2, e3⟩ => ⟨g, cap, cur, e1, Nat.le_trans (Nat.le_trans hb.size h.low) e2, e3⟩⟩, ⟨h.rws.1, fun j row hj => by
    obtain ⟨v, h1, h2⟩ := h.rws.2 j row hj
    exact ⟨v, h1, h2.low (Nat.le_trans hb.size h.low)⟩⟩, Nat.le_refl _⟩
end

/-! ### A box that is made and filled in a statement whose order is left open -/
structure NewA (w0 : World) (ai si : Nat) (T : TypeId) (ov nv : Array Value) (done : Nat → Bool) (g : Nat) (w' : World) : Prop where
  keep : Below w0.heap.size w0 w'
  ord : done si = true → done ai = true
  box : done ai = true → w0.heap.size ≤ g ∧ w'.heap[g]? = some (.cells (if done si then nv else ov) T (0, 0))
section
variable {w0 w : World} {ai si : Nat} {T : TypeId} {ov nv : Array Value} {done : Nat → Bool} {ops : Array Oper} {cv : Nat → Tmp → Value} {i g : Nat} {o : Oper}
abbrev AskN (w0 : World) (ai si : Nat) (T : TypeId) (ov nv : Array Value) (ops : Array Oper) (cv : Nat → Tmp → Value) (done : Nat → Bool) (g : Nat) (w : World) (i : Nat) (o : Oper) : Prop :=
  Region.wanted o (yieldedBy ops (cv g)) = true ∧ Yield Try.prog (fun v w' => ∃ g', NewA w0 ai si T ov nv (updB done i) g' w' ∧ (∀ d, o.dst = some d → cv g' d = v) ∧ ∀ t, o.dst ≠ some t → cv g' t = cv g t) ((execOp (evalBy (cv g)) o).run Try.prog w)
theorem NewA.step (h : NewA w0 ai si T ov nv done g w) {w' : World} (hb : Below w.heap.size w w') (hi : i ≠ si) (ha : i ≠ ai) : NewA w0 ai si T ov nv (updB done i) g w' := by
  have e1 : updB done i si = done si := by simp [updB, Ne.symm hi]
  have e2 : updB done i ai = done ai := by simp [updB, Ne.symm ha]
  refine ⟨h.keep.trans (hb.mono h.keep.size), ?_, fun hd => ?_⟩
  · rw [e1, e2]
    exact h.ord
  · rw [e2] at hd
    rw [e1]
    exact ⟨(h.box hd).1, (hb.block _ (heapszO (h.box hd).2)).trans (h.box hd).2⟩
theorem quietN (h : NewA w0 ai si T ov nv done g w) (d : Tmp) (hd : o.dst = some d) (hi : i ≠ si) (ha : i ≠ ai) (hg : Region.wanted o (yieldedBy ops (cv g)) = true)
    (he : (execOp (evalBy (cv g)) o).run Try.prog w = .ok (.value (cv g d)) w) : AskN w0 ai si T ov nv ops cv done g w i o := by
  refine ⟨hg, ?_⟩
  rw [he]
  exact ⟨g, h.step (Below.refl _ _) hi ha, fun e hE => by rw [hd] at hE; injection hE with hE; subst hE; rfl, fun _ _ => rfl⟩
theorem callN (h : NewA w0 ai si T ov nv done g w) (d : Tmp) (hd : o.dst = some d) (hi : i ≠ si) (ha : i ≠ ai) (hg : Region.wanted o (yieldedBy ops (cv g)) = true) (f : FuncId) (args : Array Value)
    (he : (execOp (evalBy (cv g)) o).run Try.prog w = .ok (.enter f args) w) (hc : Calls Try.prog f args w fun e w' => e = .returned (cv g d) ∧ Below w.heap.size w w') : AskN w0 ai si T ov nv ops cv done g w i o := by
  refine ⟨hg, ?_⟩
  rw [he]
  show Calls Try.prog f args w _
  refine hc.mono ?_
  rintro e w' ⟨rfl, hb⟩
  exact ⟨_, rfl, g, h.step hb hi ha, fun e hE => by rw [hd] at hE; injection hE with hE; subst hE; rfl, fun _ _ => rfl⟩
theorem allocN (h : NewA w0 ai si T ov nv done g w) (d : Tmp) (hd : o.dst = some d) (hu : done ai = false) (hne : ai ≠ si) (hg : Region.wanted o (yieldedBy ops (cv g)) = true)
    (hcd : ∀ g', cv g' d = .pointer (some ⟨g', 0, none⟩)) (hct : ∀ g' t, t ≠ d → cv g' t = cv g t)
    (he : (execOp (evalBy (cv g)) o).run Try.prog w = .ok (.value (.pointer (some ⟨w.heap.size, 0, none⟩))) (w.alloc (.cells ov T))) : AskN w0 ai si T ov nv ops cv done g w ai o := by
  refine ⟨hg, ?_⟩
  rw [he]
  have hs : done si = false := by
    cases hq : done si with
    | false => rfl
    | true => exact absurd (h.ord hq) (by rw [hu]; exact Bool.false_ne_true)
  refine ⟨w.heap.size, ⟨h.keep.alloc h.keep.size _, fun _ => by simp [updB], fun _ => ⟨h.keep.size, ?_⟩⟩, fun e hE => by rw [hd] at hE; injection hE with hE; subst hE; exact hcd _, fun t ht => hct _ t (fun e => ht (by rw [hd, e]))⟩
  have e1 : updB done ai si = false := by simp [updB, Ne.symm hne, hs]
  rw [e1]
  exact heap_alloc_new w _
theorem storeN (h : NewA w0 ai si T ov nv done g w) (hd : o.dst = none) (ha : done ai = true) (hu : done si = false) (hg : Region.wanted o (yieldedBy ops (cv g)) = true)
    (he : w.heap[g]? = some (.cells ov T (0, 0)) → ∃ w2, (execOp (evalBy (cv g)) o).run Try.prog w = .ok .skip w2 ∧ (∀ n, n ≤ g → Below n w w2) ∧ w2.heap[g]? = some (.cells nv T (0, 0))) : AskN w0 ai si T ov nv ops cv done g w si o := by
  refine ⟨hg, ?_⟩
  obtain ⟨hge, hb⟩ := h.box ha
  rw [hu] at hb
  obtain ⟨w2, hr, hbb, hz⟩ := he hb
  rw [hr]
  refine ⟨g, ⟨h.keep.trans (hbb _ hge), fun _ => upd_true ha, fun _ => ⟨hge, ?_⟩⟩, fun e hE => by rw [hd] at hE; exact absurd hE (by simp), fun _ _ => rfl⟩
  have e1 : updB done si si = true := by simp [updB]
  rw [e1]
  exact hz
end



/-- A box that is made and filled in a drawn statement (operations ai and si), beside a call (xi) that makes a list X, and one (ci) that reads it. -/
structure NewX (w0 : World) (ai si xi ci : Nat) (T : TypeId) (ov nv : Array Value) (X : Value → World → Prop) (done : Nat → Bool) (g : Nat × Value) (w' : World) : Prop where
  a : NewA w0 ai si T ov nv done g.1 w'
  os : done si = true → done ci = true
  x : done xi = true → done si = false → X g.2 w'
section
variable {w0 w : World} {ai si xi ci : Nat} {T : TypeId} {ov nv : Array Value} {X : Value → World → Prop} {done : Nat → Bool} {ops : Array Oper} {cv : Nat × Value → Tmp → Value} {i : Nat} {g : Nat × Value} {o : Oper}
abbrev AskX (w0 : World) (ai si xi ci : Nat) (T : TypeId) (ov nv : Array Value) (X : Value → World → Prop) (ops : Array Oper) (cv : Nat × Value → Tmp → Value) (done : Nat → Bool) (g : Nat × Value) (w : World) (i : Nat) (o : Oper) : Prop :=
  Region.wanted o (yieldedBy ops (cv g)) = true ∧ Yield Try.prog (fun v w' => ∃ g', NewX w0 ai si xi ci T ov nv X (updB done i) g' w' ∧ (∀ d, o.dst = some d → cv g' d = v) ∧ ∀ t, o.dst ≠ some t → cv g' t = cv g t) ((execOp (evalBy (cv g)) o).run Try.prog w)
theorem upd_ne {j : Nat} (h : i ≠ j) : updB done i j = done j := by simp [updB, Ne.symm h]
theorem NewX.step (hX : ∀ v A B, X v A → Below A.heap.size A B → X v B) (h : NewX w0 ai si xi ci T ov nv X done g w) {w' : World} (hb : Below w.heap.size w w') (hi : i ≠ si) (ha : i ≠ ai) (hx : i ≠ xi) : NewX w0 ai si xi ci T ov nv X (updB done i) g w' := by
  refine ⟨h.a.step hb hi ha, fun hd => ?_, fun hd hs => ?_⟩
  · rw [upd_ne hi] at hd
    exact upd_true (h.os hd)
  · rw [upd_ne hx] at hd
    rw [upd_ne hi] at hs
    exact hX _ _ _ (h.x hd hs) hb
theorem quietX (hX : ∀ v A B, X v A → Below A.heap.size A B → X v B) (h : NewX w0 ai si xi ci T ov nv X done g w) (d : Tmp) (hd : o.dst = some d) (hi : i ≠ si) (ha : i ≠ ai) (hx : i ≠ xi) (hg : Region.wanted o (yieldedBy ops (cv g)) = true)
    (he : (execOp (evalBy (cv g)) o).run Try.prog w = .ok (.value (cv g d)) w) : AskX w0 ai si xi ci T ov nv X ops cv done g w i o := by
  refine ⟨hg, ?_⟩
  rw [he]
  exact ⟨g, h.step hX (Below.refl _ _) hi ha hx, fun e hE => by rw [hd] at hE; injection hE with hE; subst hE; rfl, fun _ _ => rfl⟩
theorem callX (hX : ∀ v A B, X v A → Below A.heap.size A B → X v B) (h : NewX w0 ai si xi ci T ov nv X done g w) (d : Tmp) (hd : o.dst = some d) (hi : i ≠ si) (ha : i ≠ ai) (hx : i ≠ xi) (hg : Region.wanted o (yieldedBy ops (cv g)) = true) (f : FuncId) (args : Array Value)
    (he : (execOp (evalBy (cv g)) o).run Try.prog w = .ok (.enter f args) w) (hc : Calls Try.prog f args w fun e w' => e = .returned (cv g d) ∧ Below w.heap.size w w') : AskX w0 ai si xi ci T ov nv X ops cv done g w i o := by
  refine ⟨hg, ?_⟩
  rw [he]
  show Calls Try.prog f args w _
  refine hc.mono ?_
  rintro e w' ⟨rfl, hb⟩
  exact ⟨_, rfl, g, h.step hX hb hi ha hx, fun e hE => by rw [hd] at hE; injection hE with hE; subst hE; rfl, fun _ _ => rfl⟩
theorem listX (h : NewX w0 ai si xi ci T ov nv X done g w) (d : Tmp) (hd : o.dst = some d) (hi : xi ≠ si) (ha : xi ≠ ai) (hg : Region.wanted o (yieldedBy ops (cv g)) = true) (f : FuncId) (args : Array Value)
    (hcd : ∀ v, cv (g.1, v) d = v) (hct : ∀ v t, t ≠ d → cv (g.1, v) t = cv g t)
    (he : (execOp (evalBy (cv g)) o).run Try.prog w = .ok (.enter f args) w) (hc : Calls Try.prog f args w fun e w' => ∃ v, e = .returned v ∧ Below w.heap.size w w' ∧ X v w') : AskX w0 ai si xi ci T ov nv X ops cv done g w xi o := by
  refine ⟨hg, ?_⟩
  rw [he]
  show Calls Try.prog f args w _
  refine hc.mono ?_
  rintro e w' ⟨v, rfl, hb, hx⟩
  refine ⟨_, rfl, (g.1, v), ⟨h.a.step hb hi ha, fun hdn => ?_, fun _ _ => hx⟩, fun e hE => by rw [hd] at hE; injection hE with hE; subst hE; exact hcd v, fun t ht => hct v t (fun e => ht (by rw [hd, e]))⟩
  rw [upd_ne hi] at hdn
  exact upd_true (h.os hdn)
theorem allocX (hX : ∀ v A B, X v A → Below A.heap.size A B → X v B) (h : NewX w0 ai si xi ci T ov nv X done g w) (d : Tmp) (hd : o.dst = some d) (hu : done ai = false) (hne : ai ≠ si) (hax : ai ≠ xi) (hg : Region.wanted o (yieldedBy ops (cv g)) = true)
    (hcd : ∀ g', cv (g', g.2) d = .pointer (some ⟨g', 0, none⟩)) (hct : ∀ g' t, t ≠ d → cv (g', g.2) t = cv g t)
    (he : (execOp (evalBy (cv g)) o).run Try.prog w = .ok (.value (.pointer (some ⟨w.heap.size, 0, none⟩))) (w.alloc (.cells ov T))) : AskX w0 ai si xi ci T ov nv X ops cv done g w ai o := by
  refine ⟨hg, ?_⟩
  rw [he]
  have hs : done si = false := by
    cases hq : done si with
    | false => rfl
    | true => exact absurd (h.a.ord hq) (by rw [hu]; exact Bool.false_ne_true)
  have hb : Below w.heap.size w (w.alloc (.cells ov T)) := (Below.refl _ w).alloc (Nat.le_refl _) _
  refine ⟨(w.heap.size, g.2), ⟨⟨h.a.keep.alloc h.a.keep.size _, fun _ => by simp [updB], fun _ => ⟨h.a.keep.size, ?_⟩⟩, fun hdn => ?_, fun hdx hdn => ?_⟩, fun e hE => by rw [hd] at hE; injection hE with hE; subst hE; exact hcd _, fun t ht => hct _ t (fun e => ht (by rw [hd, e]))⟩
  · rw [upd_ne hne, hs]
    exact heap_alloc_new w _
  · rw [upd_ne hne] at hdn
    exact upd_true (h.os hdn)
  · rw [upd_ne hax] at hdx
    rw [upd_ne hne] at hdn
    exact hX _ _ _ (h.x hdx hdn) hb
theorem storeX (h : NewX w0 ai si xi ci T ov nv X done g w) (hd : o.dst = none) (ha : done ai = true) (hc : done ci = true) (hu : done si = false) (hg : Region.wanted o (yieldedBy ops (cv g)) = true)
    (he : w.heap[g.1]? = some (.cells ov T (0, 0)) → ∃ w2, (execOp (evalBy (cv g)) o).run Try.prog w = .ok .skip w2 ∧ (∀ n, n ≤ g.1 → Below n w w2) ∧ w2.heap[g.1]? = some (.cells nv T (0, 0))) : AskX w0 ai si xi ci T ov nv X ops cv done g w si o := by
  refine ⟨hg, ?_⟩
  obtain ⟨hge, hb⟩ := h.a.box ha
  rw [hu] at hb
  obtain ⟨w2, hr, hbb, hz⟩ := he hb
  rw [hr]
  have e1 : updB done si si = true := by simp [updB]
  refine ⟨g, ⟨⟨h.a.keep.trans (hbb _ hge), fun _ => upd_true ha, fun _ => ⟨hge, ?_⟩⟩, fun _ => upd_true hc, fun _ hs => ?_⟩, fun e hE => by rw [hd] at hE; exact absurd hE (by simp), fun _ _ => rfl⟩
  · rw [e1]
    exact hz
  · rw [e1] at hs
    cases hs
end

/-! ### A drawn statement that only calls and reads, whose values hang on what its calls answer -/
section
variable {γ : Type} {w0 w : World} {ops : Array Oper} {cv : γ → Tmp → Value} {done : Nat → Bool} {i : Nat} {g : γ} {o : Oper}
structure OnlyB (w0 : World) (done : Nat → Bool) (w : World) : Prop where
  b : Below w0.heap.size w0 w
abbrev AskS (w0 : World) (ops : Array Oper) (cv : γ → Tmp → Value) (done : Nat → Bool) (g : γ) (w : World) (i : Nat) (o : Oper) : Prop :=
  Region.wanted o (yieldedBy ops (cv g)) = true ∧ Yield Try.prog (fun v w' => ∃ g', OnlyB w0 (updB done i) w' ∧ (∀ d, o.dst = some d → cv g' d = v) ∧ ∀ t, o.dst ≠ some t → cv g' t = cv g t) ((execOp (evalBy (cv g)) o).run Try.prog w)
theorem stepS (h : OnlyB w0 done w) (g' : γ) (d : Tmp) (hd : o.dst = some d) (hg : Region.wanted o (yieldedBy ops (cv g)) = true) (he : (execOp (evalBy (cv g)) o).run Try.prog w = .ok (.value (cv g' d)) w) (hct : ∀ t, t ≠ d → cv g' t = cv g t) : AskS w0 ops cv done g w i o := by
  refine ⟨hg, ?_⟩
  rw [he]
  exact ⟨g', ⟨h.b⟩, fun e hE => by rw [hd] at hE; injection hE with hE; subst hE; rfl, fun t ht => hct t (fun e => ht (by rw [hd, e]))⟩
theorem quietS (h : OnlyB w0 done w) (d : Tmp) (hd : o.dst = some d) (hg : Region.wanted o (yieldedBy ops (cv g)) = true) (he : (execOp (evalBy (cv g)) o).run Try.prog w = .ok (.value (cv g d)) w) : AskS w0 ops cv done g w i o := stepS h g d hd hg he fun _ _ => rfl
theorem callS (h : OnlyB w0 done w) (d : Tmp) (hd : o.dst = some d) (hg : Region.wanted o (yieldedBy ops (cv g)) = true) (f : FuncId) (args : Array Value)
    (he : (execOp (evalBy (cv g)) o).run Try.prog w = .ok (.enter f args) w) (hc : Calls Try.prog f args w fun e w' => ∃ g', e = .returned (cv g' d) ∧ Below w.heap.size w w' ∧ ∀ t, t ≠ d → cv g' t = cv g t) : AskS w0 ops cv done g w i o := by
  refine ⟨hg, ?_⟩
  rw [he]
  show Calls Try.prog f args w _
  refine hc.mono ?_
  rintro e w' ⟨g', rfl, hb, hct⟩
  exact ⟨_, rfl, g', ⟨h.b.trans (hb.mono h.b.size)⟩, fun e hE => by rw [hd] at hE; injection hE with hE; subst hE; rfl, fun t ht => hct t (fun e => ht (by rw [hd, e]))⟩
end

theorem there_block {w : World} {B n : Nat} {cs : Array Value} {T : TypeId} (h : w.heap[B]? = some (.cells cs T (0, 0))) (hn : n ≤ cs.size) : w.there B 0 n := fun j hj => by
  have hc := cell_of_row w B j _ T (0, 0) h
  have hf : w.frozen? ⟨B, j, none⟩ = false := by simp [World.frozen?, h]
  rw [Nat.zero_add, hc, hf]
  refine ⟨?_, rfl⟩
  rw [Array.getElem?_eq_getElem (by omega)]
  rfl
theorem fill3 {w : World} {B : Nat} {a b c : Value} {t : TypeId} (h : w.heap[B]? = some (.cells #[a, b, c] t (0, 0))) (v0 v1 v2 : Value) :
    ∃ w', w.setCells B 0 (#[v0, v1, v2] : Array Value).toList = w' ∧ w.there B 0 (#[v0, v1, v2] : Array Value).size ∧ w'.heap[B]? = some (.cells #[v0, v1, v2] t (0, 0)) ∧ (∀ n, n ≤ B → Below n w w') := by
  have f : (((w.setCell ⟨B, 0, none⟩ v0).setCell ⟨B, 1, none⟩ v1).setCell ⟨B, 2, none⟩ v2).heap[B]? = some (.cells #[v0, v1, v2] t (0, 0)) := by simpa using blk_set (blk_set (blk_set h 0 v0) 1 v1) 2 v2
  refine ⟨_, rfl, there_block h (by simp), f, fun n hn => ?_⟩
  exact (((Below.refl n w).setCell (p := ⟨B, 0, none⟩) hn _).setCell (p := ⟨B, 1, none⟩) hn _).setCell (p := ⟨B, 2, none⟩) hn _

theorem one3 {v0 v1 v2 : Value} (hv : v0.oneCell' = true ∧ v1.oneCell' = true ∧ v2.oneCell' = true) : (#[v0, v1, v2] : Array Value).all (·.oneCell') = true := by
  obtain ⟨h0, h1, h2⟩ := hv
  simp [h0, h1, h2]

/-- A box that is filled in a drawn statement. -/
structure PutB (w0 : World) (si g : Nat) (T : TypeId) (ov nv : Array Value) (n : Nat) (done : Nat → Bool) (w' : World) : Prop where
  keep : Below n w0 w'
  ge : n ≤ g
  box : w'.heap[g]? = some (.cells (if done si then nv else ov) T (0, 0))
section
variable {w0 w : World} {si gb n : Nat} {T : TypeId} {ov nv : Array Value} {done : Nat → Bool} {ops : Array Oper} {cv : Unit → Tmp → Value} {i : Nat} {g : Unit} {o : Oper}
abbrev AskP (w0 : World) (si gb : Nat) (T : TypeId) (ov nv : Array Value) (n : Nat) (ops : Array Oper) (cv : Unit → Tmp → Value) (done : Nat → Bool) (g : Unit) (w : World) (i : Nat) (o : Oper) : Prop :=
  Region.wanted o (yieldedBy ops (cv g)) = true ∧ Yield Try.prog (fun v w' => ∃ g', PutB w0 si gb T ov nv n (updB done i) w' ∧ (∀ d, o.dst = some d → cv g' d = v) ∧ ∀ t, o.dst ≠ some t → cv g' t = cv g t) ((execOp (evalBy (cv g)) o).run Try.prog w)
theorem quietP (h : PutB w0 si gb T ov nv n done w) (d : Tmp) (hd : o.dst = some d) (hi : i ≠ si) (hg : Region.wanted o (yieldedBy ops (cv g)) = true)
    (he : (execOp (evalBy (cv g)) o).run Try.prog w = .ok (.value (cv g d)) w) : AskP w0 si gb T ov nv n ops cv done g w i o := by
  refine ⟨hg, ?_⟩
  rw [he]
  exact ⟨g, ⟨h.keep, h.ge, by rw [upd_ne hi]; exact h.box⟩, fun e hE => by rw [hd] at hE; injection hE with hE; subst hE; rfl, fun _ _ => rfl⟩
theorem storeP (h : PutB w0 si gb T ov nv n done w) (hd : o.dst = none) (hu : done si = false) (hg : Region.wanted o (yieldedBy ops (cv g)) = true)
    (he : w.heap[gb]? = some (.cells ov T (0, 0)) → ∃ w2, (execOp (evalBy (cv g)) o).run Try.prog w = .ok .skip w2 ∧ (∀ n, n ≤ gb → Below n w w2) ∧ w2.heap[gb]? = some (.cells nv T (0, 0))) : AskP w0 si gb T ov nv n ops cv done g w si o := by
  refine ⟨hg, ?_⟩
  have hb := h.box
  rw [hu] at hb
  obtain ⟨w2, hr, hbb, hz⟩ := he hb
  rw [hr]
  have e1 : updB done si si = true := by simp [updB]
  exact ⟨g, ⟨h.keep.trans (hbb _ h.ge), h.ge, by rw [e1]; exact hz⟩, fun e hE => by rw [hd] at hE; exact absurd hE (by simp), fun _ _ => rfl⟩
end

theorem one2 {v0 v1 : Value} (hv : v0.oneCell' = true ∧ v1.oneCell' = true) : (#[v0, v1] : Array Value).all (·.oneCell') = true := by
  obtain ⟨h0, h1⟩ := hv
  simp [h0, h1]

theorem store2 {w : World} {B : Nat} {a b : Value} {t : TypeId} (h : w.heap[B]? = some (.cells #[a, b] t (0, 0))) (v0 v1 : Value) :
    ∃ w', w.setCells B 0 (#[v0, v1] : Array Value).toList = w' ∧ w.there B 0 (#[v0, v1] : Array Value).size ∧ w'.heap[B]? = some (.cells #[v0, v1] t (0, 0)) ∧ (∀ n, n ≤ B → Below n w w') := by
  refine ⟨_, rfl, ?_, fill2 v0 v1 h, fun n hn => ((Below.refl n w).setCell (p := ⟨B, 0, none⟩) hn _).setCell (p := ⟨B, 1, none⟩) hn _⟩
  intro j hj
  have hj2 : j < 2 := hj
  have hc := cell_of_row w B (0 + j) _ t (0, 0) h
  have hf : w.frozen? ⟨B, 0 + j, none⟩ = false := by simp [World.frozen?, h]
  rw [hc, hf]
  refine ⟨?_, rfl⟩
  match j, hj2 with
  | 0, _ => rfl
  | 1, _ => rfl

theorem box2 {w : World} {B : Nat} {a b : Value} {t : TypeId} (h : w.heap[B]? = some (.cells #[a, b] t (0, 0))) : w.cell? ⟨B, 0, none⟩ = some a ∧ w.cell? ⟨B, 1, none⟩ = some b := by
  rw [cell_of_row w B 0 _ t (0, 0) h, cell_of_row w B 1 _ t (0, 0) h]
  exact ⟨rfl, rfl⟩

end Go.Proofs.Ytmppiiamcpjhnaa

namespace Go.Proofs.Ytmppiiamcpjhnaa
open Go.RowKit Go.Shelf

structure Hs where
  nl : Int
  nh : Int
  g : Int
structure Si where
  co : Int
  we : Int
  gv : List (Int × Int)
structure Tn where
  hs : List Hs
  ss : List Si
def hsR (h : Hs) : List Value := [.int .i64 h.nl, .int .i64 h.nh, .int .i64 h.g]
def coldB (x : Int × Int) : Bool := withinB 0 x.1 x.2 1000000
def hsB (h : Hs) : Bool := withinB 0 h.nl h.nh 1000000 && inB 0 h.g 100
def siB (n : Nat) (s : Si) : Bool := inB 0 s.co 1000000 && (inB 1 s.we 100 && (decide (s.gv.length = n) && s.gv.all coldB))
def tnB (T : Tn) : Bool := inB 1 T.hs.length 6 && (inB 1 T.ss.length 10 && (T.hs.all hsB && T.ss.all (siB T.hs.length)))
structure HsOk (h : Hs) : Prop where
  n : 0 ≤ h.nl ∧ h.nl ≤ h.nh ∧ h.nh ≤ 1000000
  g : 0 ≤ h.g ∧ h.g ≤ 100
structure SiOk (n : Nat) (s : Si) : Prop where
  co : 0 ≤ s.co ∧ s.co ≤ 1000000
  we : 1 ≤ s.we ∧ s.we ≤ 100
  len : s.gv.length = n
  gv : ∀ x ∈ s.gv, 0 ≤ x.1 ∧ x.1 ≤ x.2 ∧ x.2 ≤ 1000000
structure TnOk (T : Tn) : Prop where
  h6 : 1 ≤ T.hs.length ∧ T.hs.length ≤ 6
  s10 : 1 ≤ T.ss.length ∧ T.ss.length ≤ 10
  hs : ∀ h ∈ T.hs, HsOk h
  ss : ∀ s ∈ T.ss, SiOk T.hs.length s
theorem hsB_iff {h : Hs} : hsB h = true ↔ HsOk h := by
  unfold hsB
  rw [Bool.and_eq_true, withinB_iff, inB_iff]
  exact ⟨fun q => ⟨q.1, q.2⟩, fun q => ⟨q.n, q.g⟩⟩
theorem siB_iff {n : Nat} {s : Si} : siB n s = true ↔ SiOk n s := by
  unfold siB coldB
  rw [Bool.and_eq_true, Bool.and_eq_true, Bool.and_eq_true, inB_iff, inB_iff, decide_eq_true_eq, List.all_eq_true]
  exact ⟨fun q => ⟨q.1, q.2.1, q.2.2.1, fun x hx => withinB_iff.1 (q.2.2.2 x hx)⟩, fun q => ⟨q.co, q.we, q.len, fun x hx => withinB_iff.2 (q.gv x hx)⟩⟩
theorem tnB_iff {T : Tn} : tnB T = true ↔ TnOk T := by
  unfold tnB
  rw [Bool.and_eq_true, Bool.and_eq_true, Bool.and_eq_true, inB_iff, inB_iff, List.all_eq_true, List.all_eq_true]
  exact ⟨fun q => ⟨by omega, by omega, fun h hh => hsB_iff.1 (q.2.2.1 h hh), fun s hs => siB_iff.1 (q.2.2.2 s hs)⟩, fun q => ⟨by have := q.h6; omega, by have := q.s10; omega, fun h hh => hsB_iff.2 (q.hs h hh), fun s hs => siB_iff.2 (q.ss s hs)⟩⟩
/-- A slice of sites. -/
def SitesAt (w : World) (B : Nat) (A : Option Addr) (ss : List Si) : Prop :=
  ss ≠ [] → ∃ b o, A = some ⟨b, o, none⟩ ∧ b < B ∧ ∀ i s, ss[i]? = some s → ∃ A' c', (w.cell? ⟨b, o + i * 3, none⟩ = some (.int .i64 s.co) ∧ w.cell? ⟨b, o + i * 3 + 1, none⟩ = some (.int .i64 s.we) ∧ w.cell? ⟨b, o + i * 3 + 2, none⟩ = some (.slice A' s.gv.length c')) ∧ PrsAt w B A' s.gv ∧ s.gv.length ≤ maxLen ∧ s.gv.length ≤ c'
theorem SitesAt.next {w w' : World} {B B' : Nat} {A : Option Addr} {ss : List Si} (h : SitesAt w B A ss) (hb : Below B w w') (hB : B ≤ B') : SitesAt w' B' A ss := fun hne => by
  obtain ⟨b, o, rfl, hlt, hc⟩ := h hne
  refine ⟨b, o, rfl, by omega, fun i s hs => ?_⟩
  obtain ⟨A', c', ⟨h1, h2, h3⟩, h4, h5⟩ := hc i s hs
  exact ⟨A', c', ⟨((bcell hb).1 _ _ hlt).trans h1, ((bcell hb).1 _ _ hlt).trans h2, ((bcell hb).1 _ _ hlt).trans h3⟩, h4.next hb hB, h5⟩
structure TV where
  ah : Option Addr
  nh : Nat
  ch : Nat
  az : Option Addr
  ns : Nat
  cs : Nat
abbrev tvC (V : TV) : Array Value := #[.slice V.ah V.nh V.ch, .slice V.az V.ns V.cs]
abbrev tvV (V : TV) : Value := .agg #[.slice V.ah V.nh V.ch, .slice V.az V.ns V.cs]
structure TnAt (w : World) (B : Nat) (V : TV) (T : Tn) : Prop where
  hs : RowAt 3 hsR w B V.ah T.hs
  ss : SitesAt w B V.az T.ss
  nh : T.hs.length = V.nh
  ns : T.ss.length = V.ns
  mh : V.nh ≤ maxLen
  ms : V.ns ≤ maxLen
theorem TnAt.next {w w' : World} {B B' : Nat} {V : TV} {T : Tn} (h : TnAt w B V T) (hb : Below B w w') (hB : B ≤ B') : TnAt w' B' V T :=
  ⟨h.hs.next hb hB, h.ss.next hb hB, h.nh, h.ns, h.mh, h.ms⟩
theorem TnAt.up {w w' : World} {V : TV} {T : Tn} (h : TnAt w w.heap.size V T) (hb : Below w.heap.size w w') : TnAt w' w'.heap.size V T := h.next hb hb.size
theorem hs_el {w : World} {B : Nat} {A : Option Addr} {l : List Hs} {i : Nat} {x : Hs} (h : RowAt 3 hsR w B A l) (hx : l[i]? = some x) : ∃ b o, A = some ⟨b, o, none⟩ ∧ b < B ∧ w.cell? ⟨b, o + i * 3, none⟩ = some (.int .i64 x.nl) ∧ w.cell? ⟨b, o + i * 3 + 1, none⟩ = some (.int .i64 x.nh) ∧ w.cell? ⟨b, o + i * 3 + 2, none⟩ = some (.int .i64 x.g) := by
  obtain ⟨b, o, rfl, h1, h2⟩ := h (by intro e; rw [e] at hx; simp at hx)
  exact ⟨b, o, rfl, h1, h2 i x hx 0 _ rfl, h2 i x hx 1 _ rfl, h2 i x hx 2 _ rfl⟩
theorem si_el {w : World} {B : Nat} {A : Option Addr} {l : List Si} {i : Nat} {s : Si} (h : SitesAt w B A l) (hx : l[i]? = some s) : ∃ b o A' m c', A = some ⟨b, o, none⟩ ∧ b < B ∧ m = s.gv.length ∧ (w.cell? ⟨b, o + i * 3, none⟩ = some (.int .i64 s.co) ∧ w.cell? ⟨b, o + i * 3 + 1, none⟩ = some (.int .i64 s.we) ∧ w.cell? ⟨b, o + i * 3 + 2, none⟩ = some (.slice A' m c')) ∧ PrsAt w B A' s.gv ∧ m ≤ maxLen := by
  obtain ⟨b, o, rfl, h1, h2⟩ := h (by intro e; rw [e] at hx; simp at hx)
  obtain ⟨A', c', h3, h4, h5, _⟩ := h2 i s hx
  exact ⟨b, o, A', _, c', rfl, h1, rfl, h3, h4, h5⟩
theorem pr_el {w : World} {B : Nat} {A : Option Addr} {l : List (Int × Int)} {i : Nat} {x : Int × Int} (h : PrsAt w B A l) (hx : l[i]? = some x) : ∃ b o, A = some ⟨b, o, none⟩ ∧ b < B ∧ w.cell? ⟨b, o + i * 2, none⟩ = some (.int .i64 x.1) ∧ w.cell? ⟨b, o + i * 2 + 1, none⟩ = some (.int .i64 x.2) := by
  obtain ⟨b, o, rfl, h1, h2⟩ := h (by intro e; rw [e] at hx; simp at hx)
  exact ⟨b, o, rfl, h1, h2 i x hx 0 _ rfl, h2 i x hx 1 _ rfl⟩
/-! ### Small functions -/
set_option maxHeartbeats 1000000 in
theorem from_any (a n b : Int) (w : World) :
    Calls Try.prog 47 #[.int .i64 a, .int .i64 n, .int .i64 b] w fun e w' => e = .returned (.bool (inB a n b)) ∧ w = w' := by
  by_cases h1 : a ≤ n <;> by_cases h3 : n ≤ b
  all_goals
    go_enter Try.func47, Try.ntmps47
    go_wp2
    go_ret
    exact ⟨by simp [inB, h1, h3], rfl⟩
set_option maxHeartbeats 1000000 in
theorem rin_any (n a b : Int) (w : World) :
    Calls Try.prog 57 #[.int .i64 n, .int .i64 a, .int .i64 b] w fun e w' => e = .returned (.bool (inB a n b)) ∧ w = w' := by
  by_cases h1 : a ≤ n <;> by_cases h3 : n ≤ b
  all_goals
    go_enter Try.func57, Try.ntmps57
    go_wp2
    go_ret
    exact ⟨by simp [inB, h1, h3], rfl⟩
theorem rfails_any (n : Int) (w : World) :
    Calls Try.prog 22 #[.int .i64 n] w fun e w' => e = .returned (.bool (inB 0 n 3)) ∧ w = w' := by
  go_enter Try.func22, Try.ntmps22
  go_wp2_with fail
  refine (rin_any _ _ _ _).mono ?_
  rintro e w' ⟨rfl, rfl⟩
  go_wp2_with fail
  go_ret
  exact ⟨rfl, rfl⟩
set_option maxHeartbeats 4000000 in
theorem cold_any (x : Int × Int) (w : World) :
    Calls Try.prog 76 #[.agg #[.int .i64 x.1, .int .i64 x.2]] w fun e w' => e = .returned (.bool (coldB x)) ∧ Below w.heap.size w w' := by
  obtain ⟨a, b⟩ := x
  have HB := Lib.hid ((Below.refl w.heap.size w).alloc (Nat.le_refl _) (.cells #[.int .i64 a, .int .i64 b] 72))
  by_cases h1 : 0 ≤ a <;> by_cases h2 : a ≤ b <;> by_cases h3 : b ≤ 1000000
  all_goals try (exfalso; omega)
  all_goals
    go_enter Try.func76, Try.ntmps76
    go_wp2_with fail
    go_ret
    exact ⟨by simp [coldB, withinB, h1, h2, h3], HB.out⟩
set_option maxHeartbeats 4000000 in
theorem rcold_any (x : Int × Int) (w : World) :
    Calls Try.prog 56 #[.agg #[.int .i64 x.1, .int .i64 x.2]] w fun e w' => e = .returned (.bool (coldB x)) ∧ Below w.heap.size w w' := by
  obtain ⟨a, b⟩ := x
  have HB := Lib.hid ((Below.refl w.heap.size w).alloc (Nat.le_refl _) (.cells #[.int .i64 a, .int .i64 b] 72))
  by_cases h1 : 0 ≤ a <;> by_cases h2 : a ≤ b <;> by_cases h3 : b ≤ 1000000
  all_goals try (exfalso; omega)
  all_goals
    go_enter Try.func56, Try.ntmps56
    go_wp2_with fail
    go_ret
    exact ⟨by simp [coldB, withinB, h1, h2, h3], HB.out⟩
set_option maxHeartbeats 4000000 in
theorem spanIn_any (n : Int) (x : Int × Int) (w : World) :
    Calls Try.prog 86 #[.int .i64 n, .agg #[.int .i64 x.1, .int .i64 x.2]] w fun e w' => e = .returned (.bool (inB x.1 n x.2)) ∧ Below w.heap.size w w' := by
  obtain ⟨a, b⟩ := x
  have HB := Lib.hid ((Below.refl w.heap.size w).alloc (Nat.le_refl _) (.cells #[.int .i64 a, .int .i64 b] 72))
  go_enter Try.func86, Try.ntmps86
  go_wp2_with fail
  refine (from_any _ _ _ _).mono ?_
  rintro e w' ⟨rfl, rfl⟩
  go_wp2_with fail
  go_ret
  exact ⟨rfl, HB.out⟩
set_option maxHeartbeats 4000000 in
theorem house_any (h : Hs) (w : World) :
    Calls Try.prog 48 #[.agg #[.int .i64 h.nl, .int .i64 h.nh, .int .i64 h.g]] w fun e w' => e = .returned (.bool (hsB h)) ∧ Below w.heap.size w w' := by
  have z := heap_alloc_new w (.cells #[.int .i64 h.nl, .int .i64 h.nh, .int .i64 h.g] 74)
  have hb := (Below.refl w.heap.size w).alloc (Nat.le_refl _) (.cells #[.int .i64 h.nl, .int .i64 h.nh, .int .i64 h.g] 74)
  obtain ⟨w1, hw1⟩ : ∃ z, w.alloc (.cells #[.int .i64 h.nl, .int .i64 h.nh, .int .i64 h.g] 74) = z := ⟨_, rfl⟩
  rw [hw1] at z hb
  have HW := Lib.hid hw1; have HB := Lib.hid hb; have Z := Lib.hid z
  obtain ⟨v0, v1, v2⟩ := box3_cells z
  clear z hb hw1
  go_enter Try.func48, Try.ntmps48
  go_wp2_with fail
  rw [show w.alloc (.cells #[.int .i64 h.nl, .int .i64 h.nh, .int .i64 h.g] 74) = w1 from HW.out]
  go_wp2_with fail
  refine (cold_any (h.nl, h.nh) _).mono ?_
  rintro e w2 ⟨rfl, hb2⟩
  clear v0 v1 v2
  obtain ⟨v0, v1, v2⟩ := box3_cells ((hb2.block _ (heapsz Z.out)).trans Z.out)
  have HB2 := Lib.hid (HB.out.trans (hb2.mono HB.out.size))
  clear hb2
  cases hc : coldB (h.nl, h.nh)
  · have HV : Hid (hsB h = false) := Lib.hid (by unfold hsB; rw [show withinB 0 h.nl h.nh 1000000 = coldB (h.nl, h.nh) from rfl, hc]; rfl)
    clear hc
    go_wp2_with fail
    go_ret
    exact ⟨by rw [HV.out]; rfl, HB2.out⟩
  · have HV : Hid (hsB h = inB 0 h.g 100) := Lib.hid (by unfold hsB; rw [show withinB 0 h.nl h.nh 1000000 = coldB (h.nl, h.nh) from rfl, hc, Bool.true_and])
    clear hc
    go_wp2_with fail
    refine (from_any _ _ _ _).mono ?_
    rintro e w' ⟨rfl, rfl⟩
    go_wp2_with fail
    go_ret
    exact ⟨by rw [HV.out]; rfl, HB2.out⟩
end Go.Proofs.Ytmppiiamcpjhnaa

namespace Go.Proofs.Ytmppiiamcpjhnaa
open Go.RowKit Go.Shelf

def checkI (T : Tn) : Int := if tnB T then 0 else 2
theorem allB_no {α : Type} {l : List α} {p : α → Bool} {k : Nat} {x : α} (hx : l[k]? = some x) (h : p x = false) : l.all p = false := by
  cases e : l.all p with
  | false => rfl
  | true =>
    exfalso
    rw [List.all_eq_true] at e
    rw [e x (List.mem_of_getElem? hx)] at h
    exact absurd h (by decide)
theorem allB_yes {α : Type} {l : List α} {p : α → Bool} (h : ∀ (k : Nat) (x : α), l[k]? = some x → p x = true) : l.all p = true := by
  rw [List.all_eq_true]
  intro x hx
  obtain ⟨k, hk⟩ := List.getElem?_of_mem hx
  exact h k x hk
set_option maxRecDepth 100000 in
set_option maxHeartbeats 4000000 in
theorem siteFine_any (s : Si) (A : Option Addr) (m c n : Nat) (w : World) (hA : PrsAt w w.heap.size A s.gv) (hm : s.gv.length = m) (hmm : m ≤ maxLen) :
    Calls Try.prog 49 #[.agg #[.int .i64 s.co, .int .i64 s.we, .slice A m c], .int .i64 n] w fun e w' => e = .returned (.bool (siB n s)) ∧ Below w.heap.size w w' := by
  have z := heap_alloc_new w (.cells #[.int .i64 s.co, .int .i64 s.we, .slice A m c] 77)
  have hb := (Below.refl w.heap.size w).alloc (Nat.le_refl _) (.cells #[.int .i64 s.co, .int .i64 s.we, .slice A m c] 77)
  obtain ⟨w1, hw1⟩ : ∃ z, w.alloc (.cells #[.int .i64 s.co, .int .i64 s.we, .slice A m c] 77) = z := ⟨_, rfl⟩
  rw [hw1] at z hb
  have HW := Lib.hid hw1
  have HA := Lib.hid (RowAt.up hA hb); have HM := Lib.hid hm
  obtain ⟨v0, v1, v2⟩ := box3_cells z
  have HB := Lib.hid hb
  clear z hb hw1 hA hm
  unfold maxLen at hmm
  go_enter Try.func49, Try.ntmps49
  go_wp2_with fail
  rw [show w.alloc (.cells #[.int .i64 s.co, .int .i64 s.we, .slice A m c] 77) = w1 from HW.out]
  go_wp2_with fail
  refine (from_any _ _ _ _).mono ?_
  rintro e w' ⟨rfl, rfl⟩
  cases h1 : inB 0 s.co 1000000
  · go_wp2_with fail
    go_ret
    exact ⟨by unfold siB; rw [h1]; rfl, HB.out⟩
  go_wp2_with fail
  refine (from_any _ _ _ _).mono ?_
  rintro e w' ⟨rfl, rfl⟩
  cases h2 : inB 1 s.we 100
  · go_wp2_with fail
    go_ret
    exact ⟨by unfold siB; rw [h1, h2]; rfl, HB.out⟩
  have H1 : Hid (siB n s = (decide (s.gv.length = n) && s.gv.all coldB)) := Lib.hid (by unfold siB; rw [h1, h2]; rfl)
  clear h1 h2
  by_cases hmn : ¬ (m : Int) = (n : Int)
  · go_wp2_with fail
    go_ret
    exact ⟨by rw [H1.out, HM.out, decide_eq_false (by omega)]; rfl, HB.out⟩
  have hmn' : (m : Int) = (n : Int) := Classical.byContradiction hmn
  clear hmn
  have H2 : Hid (siB n s = s.gv.all coldB) := Lib.hid (by rw [H1.out, HM.out, decide_eq_true (by omega), Bool.true_and])
  go_wp2_with fail
  go_loopw [27] (fun i wr => ∃ k : Nat, k ≤ m ∧ i = .int .i64 k ∧ (∀ j x, j < k → s.gv[j]? = some x → coldB x = true) ∧ Below w1.heap.size w1 wr) (fun i _ => m - (intOf i).toNat)
  case atStart => exact ⟨0, Nat.zero_le _, rfl, fun j _ hj => absurd hj (Nat.not_lt_zero _), Below.refl _ _⟩
  case round =>
    obtain ⟨k, hk, rfl, hall, hbr⟩ := hrel
    have HAL := Lib.hid hall; have HBR := Lib.hid hbr
    clear hall hbr
    by_cases hlt : k < m
    · have k0 : (0 : Int) ≤ (k : Int) := by omega
      have k1 : (k : Int) < (m : Int) := by omega
      obtain ⟨x, hx⟩ := get_of_lt (l := s.gv) (k := k) (by rw [HM.out]; exact hlt)
      obtain ⟨b, o, rfl, hbb, c0, c1⟩ := pr_el (RowAt.up HA.out HBR.out) hx
      have HX := Lib.hid hx
      clear hx hbb v0 v1 v2
      go_wp2_with fail
      refine (cold_any x _).mono ?_
      rintro e w' ⟨rfl, hb9⟩
      have HB9 := Lib.hid ((HBR.out.alloc HBR.out.size _).trans (hb9.mono (Nat.le_trans HBR.out.size (by simp))))
      clear hb9
      cases hin : coldB x
      · go_wp2_with fail
        go_ret
        exact ⟨by rw [H2.out, allB_no HX.out hin]; rfl, HB.out.trans (HB9.out.mono HB.out.size)⟩
      · go_wp2_with fail
        refine ⟨⟨k + 1, by omega, rfl, fun j z hj hz => ?_, HB9.out⟩, by simp [intOf]; omega⟩
        by_cases hjq : j < k
        · exact HAL.out j z hjq hz
        · obtain rfl : j = k := by omega
          have hyz := HX.out
          rw [hz] at hyz
          injection hyz with hyz
          rw [hyz]
          exact hin
    · obtain rfl : m = k := by omega
      have k1 : ¬ (m : Int) < (m : Int) := by omega
      go_wp2_with fail
      go_ret
      exact ⟨by rw [H2.out, allB_yes fun j x hx => HAL.out j x (by have := HM.out; have := (List.getElem?_eq_some_iff.1 hx).1; omega) hx]; rfl, HB.out.trans (HBR.out.mono HB.out.size)⟩
set_option maxRecDepth 100000 in
set_option maxHeartbeats 4000000 in
theorem Check_any (V : TV) (T : Tn) (w : World) (hN : TnAt w w.heap.size V T) :
    Calls Try.prog 15 #[tvV V] w fun e w' => e = .returned (.int .i64 (checkI T)) ∧ Below w.heap.size w w' := by
  have z := heap_alloc_new w (.cells (tvC V) 25)
  have hb := (Below.refl w.heap.size w).alloc (Nat.le_refl _) (.cells (tvC V) 25)
  obtain ⟨w1, hw1⟩ : ∃ z, w.alloc (.cells (tvC V) 25) = z := ⟨_, rfl⟩
  rw [hw1] at z hb
  have HW := Lib.hid hw1
  have HN := Lib.hid (hN.up hb)
  obtain ⟨ah, nh, ch, az, ns, cs⟩ := V
  obtain ⟨v0, v1⟩ := box2 z
  have hmh := hN.mh; have hms := hN.ms
  unfold maxLen at hmh hms
  simp only at hmh hms v0 v1
  have HB := Lib.hid hb; have Z := Lib.hid z
  have HNH := Lib.hid hN.nh; have HNS := Lib.hid hN.ns
  clear z hb hw1 hN
  go_enter Try.func15, Try.ntmps15
  go_wp2_with fail
  rw [show w.alloc (.cells #[.slice ah nh ch, .slice az ns cs] 25) = w1 from HW.out]
  go_wp2_with fail
  refine (from_any _ _ _ _).mono ?_
  rintro e w' ⟨rfl, rfl⟩
  cases h1 : inB 1 nh 6
  · go_wp2_with fail
    go_ret
    have h1' : inB 1 T.hs.length 6 = false := by rw [HNH.out]; exact h1
    exact ⟨by unfold checkI tnB; rw [h1']; rfl, HB.out⟩
  go_wp2_with fail
  refine (from_any _ _ _ _).mono ?_
  rintro e w' ⟨rfl, rfl⟩
  cases h2 : inB 1 ns 10
  · go_wp2_with fail
    go_ret
    have h2' : inB 1 T.ss.length 10 = false := by rw [HNS.out]; exact h2
    exact ⟨by unfold checkI tnB; rw [h2']; simp, HB.out⟩
  have H1 : Hid (tnB T = (T.hs.all hsB && T.ss.all (siB T.hs.length))) := Lib.hid (by unfold tnB; rw [HNH.out, HNS.out, h1, h2]; rfl)
  clear h1 h2
  go_wp2_with fail
  go_loopw [22] (fun i wr => ∃ k : Nat, k ≤ nh ∧ i = .int .i64 k ∧ (∀ j x, j < k → T.hs[j]? = some x → hsB x = true) ∧ Below w1.heap.size w1 wr) (fun i _ => nh - (intOf i).toNat)
  case atStart => exact ⟨0, Nat.zero_le _, rfl, fun j _ hj => absurd hj (Nat.not_lt_zero _), Below.refl _ _⟩
  case round =>
    obtain ⟨k, hk, rfl, hall, hbr⟩ := hrel
    have HAL := Lib.hid hall; have HBR := Lib.hid hbr
    clear hall hbr
    by_cases hlt : k < nh
    · have k0 : (0 : Int) ≤ (k : Int) := by omega
      have k1 : (k : Int) < (nh : Int) := by omega
      obtain ⟨x, hx⟩ := get_of_lt (l := T.hs) (k := k) (by rw [HNH.out]; exact hlt)
      obtain ⟨b, o, rfl, hbb, c0, c1, c2⟩ := hs_el (HN.out.hs.up HBR.out) hx
      have HX := Lib.hid hx
      clear hx hbb v0 v1
      go_wp2_with fail
      refine (house_any x _).mono ?_
      rintro e w' ⟨rfl, hb9⟩
      have HB9 := Lib.hid ((HBR.out.alloc HBR.out.size _).trans (hb9.mono (Nat.le_trans HBR.out.size (by simp))))
      clear hb9
      cases hin : hsB x
      · go_wp2_with fail
        go_ret
        exact ⟨by unfold checkI; rw [H1.out, allB_no HX.out hin]; rfl, HB.out.trans (HB9.out.mono HB.out.size)⟩
      · go_wp2_with fail
        refine ⟨⟨k + 1, by omega, rfl, fun j z hj hz => ?_, HB9.out⟩, by simp [intOf]; omega⟩
        by_cases hjq : j < k
        · exact HAL.out j z hjq hz
        · obtain rfl : j = k := by omega
          have hyz := HX.out
          rw [hz] at hyz
          injection hyz with hyz
          rw [hyz]
          exact hin
    · obtain rfl : nh = k := by omega
      have k1 : ¬ (nh : Int) < (nh : Int) := by omega
      have v0' := ((bcell HBR.out).1 _ _ (heapsz Z.out)).trans v0
      have v1' := ((bcell HBR.out).1 _ _ (heapsz Z.out)).trans v1
      have HN2 := Lib.hid (HN.out.up HBR.out)
      have H2 : Hid (tnB T = T.ss.all (siB nh)) := Lib.hid (by rw [H1.out, allB_yes fun j x hx => HAL.out j x (by have := HNH.out; have := (List.getElem?_eq_some_iff.1 hx).1; omega) hx, HNH.out]; rfl)
      have HB1 := Lib.hid (HB.out.trans (HBR.out.mono HB.out.size))
      have LZ := Lib.hid (Nat.lt_of_lt_of_le (heapsz Z.out) HBR.out.size)
      clear v0 v1 HAL HBR HN hlt hk
      go_wp2_with fail
      go_loopw [33] (fun i wq => ∃ k : Nat, k ≤ ns ∧ i = .int .i64 k ∧ (∀ j x, j < k → T.ss[j]? = some x → siB nh x = true) ∧ Below wr.heap.size wr wq) (fun i _ => ns - (intOf i).toNat)
      case atStart => exact ⟨0, Nat.zero_le _, rfl, fun j _ hj => absurd hj (Nat.not_lt_zero _), Below.refl _ _⟩
      case round =>
        obtain ⟨k, hk, rfl, hall, hbr⟩ := hrel
        have HAL := Lib.hid hall; have HBR := Lib.hid hbr
        clear hall hbr
        by_cases hlt : k < ns
        · have k0 : (0 : Int) ≤ (k : Int) := by omega
          have k1 : (k : Int) < (ns : Int) := by omega
          obtain ⟨x, hx⟩ := get_of_lt (l := T.ss) (k := k) (by rw [HNS.out]; exact hlt)
          have hTN := HN2.out.ss.next HBR.out HBR.out.size
          obtain ⟨b, o, A', m, c', rfl, hbb, hm, ⟨c0, c1, c2⟩, hpr, hmx⟩ := si_el hTN hx
          have HX := Lib.hid hx
          have HV0 := Lib.hid (((bcell HBR.out).1 _ _ LZ.out).trans v0')
          have HM := Lib.hid hm.symm; have HPR := Lib.hid hpr; have HMX := Lib.hid hmx
          have u0 := HV0.out
          have hLW := Nat.lt_of_lt_of_le LZ.out HBR.out.size
          clear hx hbb v0' v1' hm hpr hmx hTN
          go_wp2_with fail
          refine (siteFine_any x A' m c' nh _ (RowAt.up HPR.out ?_) HM.out HMX.out).mono ?_
          · exact (Below.refl _ _).alloc (Nat.le_refl _) _
          rintro e w' ⟨rfl, hb9⟩
          have HB9 := Lib.hid ((HBR.out.alloc HBR.out.size _).trans (hb9.mono (Nat.le_trans HBR.out.size (by simp))))
          clear hb9
          cases hin : siB nh x
          · go_wp2_with fail
            go_ret
            exact ⟨by unfold checkI; rw [H2.out, allB_no HX.out hin]; rfl, HB1.out.trans (HB9.out.mono HB1.out.size)⟩
          · go_wp2_with fail
            refine ⟨⟨k + 1, by omega, rfl, fun j z hj hz => ?_, HB9.out⟩, by simp [intOf]; omega⟩
            by_cases hjq : j < k
            · exact HAL.out j z hjq hz
            · obtain rfl : j = k := by omega
              have hyz := HX.out
              rw [hz] at hyz
              injection hyz with hyz
              rw [hyz]
              exact hin
        · obtain rfl : ns = k := by omega
          have k1 : ¬ (ns : Int) < (ns : Int) := by omega
          go_wp2_with fail
          go_ret
          exact ⟨by unfold checkI; rw [H2.out, allB_yes fun j x hx => HAL.out j x (by have := HNS.out; have := (List.getElem?_eq_some_iff.1 hx).1; omega) hx]; rfl, HB1.out.trans (HBR.out.mono HB1.out.size)⟩
end Go.Proofs.Ytmppiiamcpjhnaa

namespace Go.Proofs.Ytmppiiamcpjhnaa
open Go.RowKit Go.Shelf

/-- A list of strictly increasing sites, behind b, of n. -/
def clB (n : Int) : Int → List Int → Bool
  | _, [] => true
  | b, x :: xs => inB (b + 1) x (n - 1) && clB n x xs
theorem clB_mem {n : Int} : ∀ {l : List Int} {b : Int}, clB n b l = true → ∀ x ∈ l, b < x ∧ x < n
  | [], _, _, _, hx => by simp at hx
  | y :: l, b, h, x, hx => by
    unfold clB at h
    rw [Bool.and_eq_true, inB_iff] at h
    rcases List.mem_cons.1 hx with rfl | hx
    · omega
    · have := clB_mem h.2 x hx
      omega
theorem clB_pair {n : Int} : ∀ {l : List Int} {b : Int}, clB n b l = true → l.Pairwise (· < ·)
  | [], _, _ => .nil
  | y :: l, b, h => by
    unfold clB at h
    rw [Bool.and_eq_true, inB_iff] at h
    exact .cons (fun z hz => (clB_mem h.2 z hz).1) (clB_pair h.2)
theorem clB_len {n : Int} : ∀ {l : List Int} {b : Int}, clB n b l = true → -1 ≤ b → b < n → (l.length : Int) + b < n
  | [], _, _, _, hb => by simpa using hb
  | y :: l, b, h, h1, h2 => by
    unfold clB at h
    rw [Bool.and_eq_true, inB_iff] at h
    have := clB_len h.2 (by omega) (by omega)
    rw [List.length_cons]
    omega
def coolB (T : Tn) (cs : List Int) : Bool := clB T.ss.length (-1) cs
def coolI (T : Tn) (cs : List Int) : Int := if tnB T && coolB T cs then 0 else 2
def failI (T : Tn) (cs : List Int) (f : Int) : Int := if tnB T && (coolB T cs && inB 0 f 3) then 0 else 2
set_option maxRecDepth 100000 in
set_option maxHeartbeats 4000000 in
theorem coolersFine_any (V : TV) (T : Tn) (A : Option Addr) (n c : Nat) (cs : List Int) (w : World) (hN : TnAt w w.heap.size V T) (hl : cs.length = n) (hn : n ≤ maxLen) (hA : IntsAt w w.heap.size A cs) :
    Calls Try.prog 73 #[tvV V, .slice A n c] w fun e w' => e = .returned (.bool (coolB T cs)) ∧ Below w.heap.size w w' := by
  have z := heap_alloc_new w (.cells (tvC V) 25)
  have hb := (Below.refl w.heap.size w).alloc (Nat.le_refl _) (.cells (tvC V) 25)
  obtain ⟨w1, hw1⟩ : ∃ z, w.alloc (.cells (tvC V) 25) = z := ⟨_, rfl⟩
  rw [hw1] at z hb
  have HW := Lib.hid hw1
  have HA := Lib.hid (RowAt.up hA hb); have HL := Lib.hid hl
  obtain ⟨ah, nh, ch, az, ns, cz⟩ := V
  obtain ⟨v0, v1⟩ := box2 z
  have hms := hN.ms
  unfold maxLen at hms hn
  simp only at hms v0 v1
  have HB := Lib.hid hb; have Z := Lib.hid z
  have HNS := Lib.hid hN.ns
  clear z hb hw1 hN hl hA v0
  have HC : Hid (coolB T cs = clB ns (-1) cs) := Lib.hid (by unfold coolB; rw [HNS.out])
  have hsub : wrap64 ((ns : Int) - 1) = (ns : Int) - 1 := w64 (by omega)
  go_enter Try.func73, Try.ntmps73
  go_wp2_with fail
  rw [show w.alloc (.cells #[.slice ah nh ch, .slice az ns cz] 25) = w1 from HW.out]
  go_wp2_with fail
  go_loopw [5, 10] (fun b i wr => ∃ (k : Nat) (bv : Int), k ≤ n ∧ b = .int .i64 bv ∧ i = .int .i64 k ∧ -1 ≤ bv ∧ bv < (ns : Int) ∧ clB ns (-1) cs = clB ns bv (cs.drop k) ∧ wr = w1) (fun _ i _ => n - (intOf i).toNat)
  case atStart => exact ⟨0, -1, Nat.zero_le _, rfl, rfl, by omega, by omega, rfl, rfl⟩
  case round =>
    obtain ⟨k, bv, hk, rfl, rfl, hb1, hb2, heq, rfl⟩ := hrel
    have HE := Lib.hid heq
    clear heq
    have hadd : wrap64 (bv + 1) = bv + 1 := w64 (by omega)
    have HB2 := Lib.hid hb2
    clear hb2
    by_cases hlt : k < n
    · have k0 : (0 : Int) ≤ (k : Int) := by omega
      have k1 : (k : Int) < (n : Int) := by omega
      obtain ⟨x, hx⟩ := get_of_lt (l := cs) (k := k) (by rw [HL.out]; exact hlt)
      obtain ⟨b, o, rfl, hbb, c0⟩ := ints_el HA.out hx
      have HD : Hid (cs.drop k = x :: cs.drop (k + 1)) := Lib.hid (by rw [List.drop_eq_getElem_cons (by rw [HL.out]; exact hlt)]; congr 1; have := List.getElem?_eq_some_iff.1 hx; exact this.2)
      clear hx hbb
      go_wp2_with fail
      refine (from_any _ _ _ _).mono ?_
      rintro e w' ⟨rfl, rfl⟩
      have HQ : Hid (clB ns (-1) cs = (inB (bv + 1) x ((ns : Int) - 1) && clB ns x (cs.drop (k + 1)))) := Lib.hid (by rw [HE.out, HD.out]; rfl)
      cases hin : inB (bv + 1) x ((ns : Int) - 1)
      · go_wp2_with fail
        go_ret
        exact ⟨by rw [HC.out, HQ.out, hin]; rfl, HB.out⟩
      · have HI := Lib.hid hin
        clear hin
        go_wp2_with fail
        have hi := inB_iff.1 HI.out
        exact ⟨⟨k + 1, x, by omega, rfl, rfl, by omega, by omega, by rw [HQ.out, HI.out, Bool.true_and], by first | rfl | trivial⟩, by simp [intOf]; omega⟩
    · obtain rfl : n = k := by omega
      have k1 : ¬ (n : Int) < (n : Int) := by omega
      go_wp2_with fail
      go_ret
      exact ⟨by rw [HC.out, HE.out, List.drop_of_length_le (by rw [HL.out]; omega)]; rfl, HB.out⟩
set_option maxRecDepth 100000 in
set_option maxHeartbeats 4000000 in
theorem checkCoolers_any (V : TV) (T : Tn) (A : Option Addr) (n c : Nat) (cs : List Int) (w : World) (hN : TnAt w w.heap.size V T) (hl : cs.length = n) (hn : n ≤ maxLen) (hA : IntsAt w w.heap.size A cs) :
    Calls Try.prog 54 #[tvV V, .slice A n c] w fun e w' => e = .returned (.int .i64 (coolI T cs)) ∧ Below w.heap.size w w' := by
  have z := heap_alloc_new w (.cells (tvC V) 25)
  have hb := (Below.refl w.heap.size w).alloc (Nat.le_refl _) (.cells (tvC V) 25)
  obtain ⟨w1, hw1⟩ : ∃ z, w.alloc (.cells (tvC V) 25) = z := ⟨_, rfl⟩
  rw [hw1] at z hb
  have HW := Lib.hid hw1
  have HN := Lib.hid (hN.up hb)
  have HA := Lib.hid (RowAt.up hA hb); have HL := Lib.hid hl
  obtain ⟨ah, nh, ch, az, ns, cz⟩ := V
  obtain ⟨v0, v1⟩ := box2 z
  have HB := Lib.hid hb; have Z := Lib.hid z
  clear z hb hw1 hN hl hA
  have HM := Lib.hid hn
  clear hn
  go_enter Try.func54, Try.ntmps54
  go_wp2_with fail
  rw [show w.alloc (.cells #[.slice ah nh ch, .slice az ns cz] 25) = w1 from HW.out]
  go_wp2_with fail
  refine (Check_any _ T _ HN.out).mono ?_
  rintro e w2 ⟨rfl, hb2⟩
  replace v0 := ((bcell hb2).1 _ _ (heapsz Z.out)).trans v0
  replace v1 := ((bcell hb2).1 _ _ (heapsz Z.out)).trans v1
  have HB2 := Lib.hid (HB.out.trans (hb2.mono HB.out.size))
  have HN2 := Lib.hid (HN.out.up hb2)
  have HA2 := Lib.hid (RowAt.up HA.out hb2)
  clear hb2
  unfold checkI
  cases h1 : tnB T
  · simp only [Bool.false_eq_true, if_false]
    go_wp2_with fail
    go_ret
    exact ⟨by unfold coolI; rw [h1]; rfl, HB2.out⟩
  · simp only [if_true]
    have H1 := Lib.hid h1
    clear h1
    go_wp2_with fail
    refine (coolersFine_any _ T A n c cs _ HN2.out HL.out HM.out HA2.out).mono ?_
    rintro e w3 ⟨rfl, hb3⟩
    have HB3 := Lib.hid (HB2.out.trans (hb3.mono HB2.out.size))
    clear hb3
    cases h2 : coolB T cs
    · go_wp2_with fail
      go_ret
      exact ⟨by unfold coolI; rw [H1.out, h2]; rfl, HB3.out⟩
    · go_wp2_with fail
      go_ret
      exact ⟨by unfold coolI; rw [H1.out, h2]; rfl, HB3.out⟩
set_option maxRecDepth 100000 in
set_option maxHeartbeats 4000000 in
theorem checkFails_any (V : TV) (T : Tn) (A : Option Addr) (n c : Nat) (cs : List Int) (f : Int) (w : World) (hN : TnAt w w.heap.size V T) (hl : cs.length = n) (hn : n ≤ maxLen) (hA : IntsAt w w.heap.size A cs) :
    Calls Try.prog 50 #[tvV V, .slice A n c, .int .i64 f] w fun e w' => e = .returned (.int .i64 (failI T cs f)) ∧ Below w.heap.size w w' := by
  have z := heap_alloc_new w (.cells (tvC V) 25)
  have hb := (Below.refl w.heap.size w).alloc (Nat.le_refl _) (.cells (tvC V) 25)
  obtain ⟨w1, hw1⟩ : ∃ z, w.alloc (.cells (tvC V) 25) = z := ⟨_, rfl⟩
  rw [hw1] at z hb
  have HW := Lib.hid hw1
  have HN := Lib.hid (hN.up hb)
  have HA := Lib.hid (RowAt.up hA hb); have HL := Lib.hid hl
  obtain ⟨ah, nh, ch, az, ns, cz⟩ := V
  obtain ⟨v0, v1⟩ := box2 z
  have HB := Lib.hid hb; have Z := Lib.hid z
  clear z hb hw1 hN hl hA
  have HM := Lib.hid hn
  clear hn
  go_enter Try.func50, Try.ntmps50
  go_wp2_with fail
  rw [show w.alloc (.cells #[.slice ah nh ch, .slice az ns cz] 25) = w1 from HW.out]
  go_wp2_with fail
  refine (checkCoolers_any _ T A n c cs _ HN.out HL.out HM.out HA.out).mono ?_
  rintro e w2 ⟨rfl, hb2⟩
  have HB2 := Lib.hid (HB.out.trans (hb2.mono HB.out.size))
  clear hb2 v0 v1
  unfold coolI
  cases h1 : tnB T && coolB T cs
  · simp only [Bool.false_eq_true, if_false]
    go_wp2_with fail
    go_ret
    exact ⟨by unfold failI; rw [← Bool.and_assoc, h1]; rfl, HB2.out⟩
  · simp only [if_true]
    have H1 := Lib.hid h1
    clear h1
    go_wp2_with fail
    refine (from_any _ _ _ _).mono ?_
    rintro e w' ⟨rfl, rfl⟩
    cases h2 : inB 0 f 3
    · go_wp2_with fail
      go_ret
      exact ⟨by unfold failI; rw [← Bool.and_assoc, H1.out, h2]; rfl, HB2.out⟩
    · go_wp2_with fail
      go_ret
      exact ⟨by unfold failI; rw [← Bool.and_assoc, H1.out, h2]; rfl, HB2.out⟩
end Go.Proofs.Ytmppiiamcpjhnaa
