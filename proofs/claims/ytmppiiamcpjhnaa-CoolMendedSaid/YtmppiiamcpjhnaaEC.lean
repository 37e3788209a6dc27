/- Coolers: appends in drawn statements, and at their ends. -/
import Derived.Test.YtmppiiamcpjhnaaDV
import Derived.Test.YtmppiiamcpjhnaaDR
import Derived.Deep.Upon
namespace Go
open Go.RowKit Go.Shelf Go.Proofs.Ytmppiiamcpjhnaa
section
variable {P : Program}
/-- A call of append, behind all others. -/
theorem app_wp {o : Oper} {s x : Operand} {t : TypeId} {d : Tmp} (ho : o.op = .call { callee := .builtin .append, args := #[s, x], argTypes := #[t, t] }) (hd : o.dst = some d)
    {a : Act} {w : World} {K : Act → World → Prop} {Q : Exit → Act → World → Prop} (base : Nat) (e : TypeId) (ti : TypeInfo) (z : Value) (size bytes : Nat) (ht : P.underlying t = some (.slice e)) (hi : P.info? e = some ti) (hz : ti.zero = some z)
    (hsize : ti.size = size) (hby : ti.bytes = bytes) (hzs : z.cells.size = size) (hsz : 0 < size)
    (v : Value) (hs : a.eval s = v) (n : Nat) (xs : List Value) (hown : w.ownsRow base e size v n xs)
    (ad : Addr) (m c : Nat) (news : List Value) (hx : a.eval x = .slice (some ad) m c) (hl : news.length = m * size) (hnews : ∀ j u, news[j]? = some u → w.cell? (ad.add j) = some u) (h1 : ∀ u ∈ news, u.oneCell' = true)
    (h63 : n + m ≤ maxLen) (hbytes : (n + m) * bytes ≤ 140737488355328) (hbase : base ≤ w.heap.size)
    (h : ∀ v' w', w'.ownsRow base e size v' (n + m) (xs ++ news) → w.grownBy w' v.ownBlock → (v'.ownBlock = v.ownBlock ∨ v'.ownBlock = some w.heap.size) → K (a.put (some d) v') w') : o.wp P a w K Q := by
  obtain ⟨v', w', hr, h2, h3, _, h5⟩ := run_append_own_at (P := P) w base t o.type e ti z size bytes ht hi hz hsize hby hzs hsz v n xs hown ad m c news hl hnews h1 h63 hbytes hbase
  have he : (execOp a.eval o).run P w = .ok (.value v') w' := by
    unfold execOp
    simp only [ho, resolve, invoke, builtin, Sem.run_bind, Sem.run_pure, Result.andThen_ok, List.map_toArray, List.map_cons, List.map_nil, hs, hx, hr]
  unfold Oper.wp
  rw [he, Oper.upon_value, hd]
  exact h v' w' h2 h3 h5
theorem grow_step {w2 wp uw w6 : World} {r0 r : Option Nat} (h : w2.grownBy wp r0) (hb : Below wp.heap.size wp uw) (hg : uw.grownBy w6 r) (hr : r = r0 ∨ ∃ B, r = some B ∧ w2.heap.size ≤ B) : w2.grownBy w6 r0 :=
  ⟨hg.os.trans (hb.os.trans h.os), hg.tape.trans (hb.tape.trans h.tape), hg.output.trans (hb.output.trans h.output), Nat.le_trans h.size (Nat.le_trans hb.size hg.size), fun i hi hne => by
    have h1 : i < wp.heap.size := Nat.lt_of_lt_of_le hi h.size
    have h2 : some i ≠ r := fun e => by
      rcases hr with rfl | ⟨B, rfl, hB⟩
      · exact hne e
      · injection e with e
        omega
    exact (hg.block i (Nat.lt_of_lt_of_le h1 hb.size) h2).trans ((hb.block i h1).trans (h.block i hi hne))⟩
/-- A built list of one number, and others behind it, in a drawn statement. -/
theorem relCons {w : World} {rels : List (Tmp × Nat)} {cv : Tmp → Value} {F : Nat → Value → World → Prop} {i : Nat} {o : Oper} {g : Nat → Value} {u : KeptW w} (s x : Operand) (t : TypeId)
    (ho : o.op = .call { callee := .builtin .append, args := #[s, x], argTypes := #[t, t] }) (e : TypeId) (ti : TypeInfo) (z : Value) (ht : P.underlying t = some (.slice e)) (hi : P.info? e = some ti) (hz : ti.zero = some z) (h1s : ti.size = 1) (h8 : ti.bytes = 8)
    (B gb : Nat) (y : Int) (hs : evalBy (rhoT rels cv g) s = .slice (some ⟨gb, 0, none⟩) 1 1) (hgb : u.w.heap[gb]? = some (.cells #[.int .i64 y] e (0, 0))) (hB : B ≤ gb)
    (row : List Int) (v : Value) (hx : evalBy (rhoT rels cv g) x = v) (Br : Nat) (hrow : RowIs intR e Br row v u.w) (hlen : row.length ≤ 1000)
    (hrel : ∀ d, o.dst = some d → relOf rels d ≠ none) (hF : ∀ v' w', RowIs intR e B (y :: row) v' w' → F i v' w') :
    Yield P (fun v w' => Below u.w.heap.size u.w w' ∧ F i v w' ∧ ∀ d, o.dst = some d → relOf rels d = none → v = cv d) ((execOp (evalBy (rhoT rels cv g)) o).run P u.w) := by
  have none_case : row = [] → Src P ti.size t v 0 [] u.w → Yield P (fun v w' => Below u.w.heap.size u.w w' ∧ F i v w' ∧ ∀ d, o.dst = some d → relOf rels d = none → v = cv d) ((execOp (evalBy (rhoT rels cv g)) o).run P u.w) := fun hr hsrc => by
    have hr2 := run_append_nothing (P := P) u.w t t o.type e ti ht hi (some ⟨gb, 0, none⟩) 1 1 (Nat.le_refl _) v hsrc
    have he : (execOp (evalBy (rhoT rels cv g)) o).run P u.w = .ok (.value (.slice (some ⟨gb, 0, none⟩) 1 1)) u.w := by
      unfold execOp
      simp only [ho, resolve, invoke, builtin, Sem.run_bind, Sem.run_pure, Result.andThen_ok, List.map_toArray, List.map_cons, List.map_nil, hs, hx, hr2]
    rw [he]
    refine ⟨Below.refl _ _, hF _ _ ?_, fun d hd hn => absurd hn (hrel d hd)⟩
    subst hr
    exact .inr ⟨gb, 1, rfl, hB, by simp, _, hgb, fun i x hx => by
      have e1 : flatR intR [y] = [.int .i64 y] := rfl
      rw [e1] at hx
      simpa using hx⟩
  rcases hrow with ⟨rfl, rfl⟩ | ⟨b, c, rfl, hb1, hb2, cs, hb3, hb4⟩
  · exact none_case rfl (Src.ofNil _ ht 0)
  · have hcells : ∀ j u', (flatR intR row)[j]? = some u' → u.w.cell? ((⟨b, 0, none⟩ : Addr).add j) = some u' := fun j u' hj => by
      rw [addr_add, Nat.zero_add, cell_of_row u.w b j _ e (0, 0) hb3]
      exact hb4 j u' hj
    have hfl : ∀ l : List Int, (flatR intR l).length = l.length := fun l => by
      induction l with
      | nil => rfl
      | cons x l ih =>
        show ([Value.int .i64 x] ++ flatR intR l).length = _
        rw [List.length_append, ih, List.length_cons]
        show 1 + l.length = l.length + 1
        omega
    have hone : ∀ u' ∈ flatR intR row, u'.oneCell' = true := fun u' hu => by
      obtain ⟨x, hx, hu⟩ := List.mem_flatMap.1 (show u' ∈ row.flatMap intR from by simpa [flatR, List.flatMap] using hu)
      have : u' = .int .i64 x := by simpa [intR] using hu
      rw [this]
      rfl
    rcases Nat.eq_zero_or_pos row.length with h0 | hpos
    · have hr : row = [] := List.eq_nil_of_length_eq_zero h0
      subst hr
      exact none_case rfl (Src.ofSlice _ ht ⟨b, 0, none⟩ 0 c [] (by simp) (fun j u h => by simp at h) (fun u h => by cases h))
    · have hc1 : ∀ j v', ([Value.int .i64 y] : List Value)[j]? = some v' → u.w.cell? ((⟨gb, 0, none⟩ : Addr).add j) = some v' := fun j v' hj => by
        rw [addr_add, Nat.zero_add, cell_of_row u.w gb j _ e (0, 0) hgb]
        simpa using hj
      have hcap : Builtin.nextslicecap (1 + row.length) 1 * ti.bytes ≤ 281474976710656 := by
        have := nextslicecap_le (need := 1 + row.length) (old := 1) (by omega)
        rw [h8]
        omega
      have hr2 := run_append_grow (P := P) (w := u.w) t o.type e ti z ht hi hz ⟨gb, 0, none⟩ 1 1 [.int .i64 y] (by rw [h1s]; rfl) hc1 ⟨b, 0, none⟩ row.length c (flatR intR row) (by rw [h1s, hfl]; omega) hcells (by omega) (by omega) hcap
      obtain ⟨cap, hcp⟩ : ∃ cap, grownCap u.w (1 + row.length) 1 e = cap := ⟨_, rfl⟩
      rw [hcp] at hr2
      have he : (execOp (evalBy (rhoT rels cv g)) o).run P u.w = .ok (.value (.slice (some ⟨u.w.heap.size, 0, none⟩) (1 + row.length) cap)) (u.w.drew.alloc (.cells ([Value.int .i64 y].toArray ++ (flatR intR row).toArray ++ Builtin.zeroCells z.cells (cap - (1 + row.length))) e)) := by
        unfold execOp
        simp only [ho, resolve, invoke, builtin, Sem.run_bind, Sem.run_pure, Result.andThen_ok, List.map_toArray, List.map_cons, List.map_nil, hs, hx, hr2]
      have hcapge : 1 + row.length ≤ cap := by
        rw [← hcp]
        exact grownCap_ge _ _ _ _
      rw [he]
      refine ⟨((Below.refl _ u.w).drew).alloc (by simp) _, hF _ _ (.inr ⟨u.w.heap.size, cap, by rw [List.length_cons, Nat.add_comm], by have := heapsz hgb; omega, by rw [List.length_cons]; omega, _, heap_alloc_new u.w.drew _, fun i x hx => ?_⟩), fun d hd hn => absurd hn (hrel d hd)⟩
      have e1 : flatR intR (y :: row) = [.int .i64 y] ++ flatR intR row := rfl
      rw [e1] at hx
      have hlt := (List.getElem?_eq_some_iff.1 hx).1
      rw [Array.getElem?_append_left (by simpa using hlt)]
      simpa using hx
end
end Go
namespace Go
open Go.RowKit
section
variable {P : Program} {C : World → Prop} {l : List Oper} {o : Oper}
/-- Whether the last operation waits for all others: 'why' says which one waits for each of them. -/
def tailYB (l : List Oper) (o : Oper) (why : List Nat) : Bool :=
  o.guard.isNone && ((List.range l.length).all fun i => (why[i]?).any fun k => if k = l.length then o.after.any (fun e => Region.binds .any e && e.on == i) else decide (i < k) && (l[k]?).any fun p => p.after.any fun e => Region.binds .any e && e.on == i) &&
  (o.after.all fun e => !Region.binds .any e || decide (e.on < l.length)) &&
  ((List.range l.length).all fun i => (l[i]?).all fun p => (p.after.all fun e => !Region.binds .any e || decide (e.on < i)) && (p.guard.all fun g => decide (g.1 < i)))
structure TailY (l : List Oper) (o : Oper) : Prop where
  noGuard : o.guard = none
  waits : ∀ A : Array Bool, ClA l A → (∀ e ∈ o.after, Region.binds .any e = true → A.getD e.on false = true) → ∀ i, i < l.length → A.getD i false = true
  below : ∀ e ∈ o.after, Region.binds .any e = true → e.on < l.length
  early : ∀ i p, l[i]? = some p → (∀ e ∈ p.after, Region.binds .any e = true → e.on < i) ∧ ∀ g, p.guard = some g → g.1 < i
theorem rkt_tail_okY {why : List Nat} (h : tailYB l o why = true) : TailY l o := by
  simp only [tailYB, Bool.and_eq_true] at h
  obtain ⟨⟨⟨h1, h2⟩, h3⟩, h4⟩ := h
  refine ⟨by simpa using h1, fun A hcl hd => ?_, fun e he hb => ?_, fun i p hp => ?_⟩
  · have key : ∀ d i, i < l.length → l.length - i ≤ d → A.getD i false = true := by
      intro d
      induction d with
      | zero => intro i hi hle; omega
      | succ d ih =>
        intro i hi hle
        have h5 := List.all_eq_true.1 h2 i (List.mem_range.2 hi)
        obtain ⟨k, hk⟩ : ∃ k, (if k = l.length then o.after.any (fun e => Region.binds .any e && e.on == i) else decide (i < k) && (l[k]?).any fun p => p.after.any fun e => Region.binds .any e && e.on == i) = true := by
          cases hw : why[i]? with
          | none => rw [hw] at h5; cases h5
          | some k => rw [hw, Option.any_some] at h5; exact ⟨k, h5⟩
        split at hk
        · obtain ⟨e, he, hb⟩ := Array.any_eq_true'.1 hk
          rw [Bool.and_eq_true] at hb
          have h6 : e.on = i := by simpa using hb.2
          rw [← h6]
          exact hd e he hb.1
        · rw [Bool.and_eq_true, decide_eq_true_eq] at hk
          cases hp : l[k]? with
          | none => rw [hp] at hk; exact absurd hk.2 (by simp)
          | some p =>
            rw [hp, Option.any_some] at hk
            have hkl := (List.getElem?_eq_some_iff.1 hp).1
            obtain ⟨e, he, hb⟩ := Array.any_eq_true'.1 hk.2
            rw [Bool.and_eq_true] at hb
            have h6 : e.on = i := by simpa using hb.2
            rw [← h6]
            exact hcl k p hp (ih k hkl (by omega)) e he hb.1
    exact fun i hi => key l.length i hi (by omega)
  · have := Array.all_eq_true'.1 h3 e he
    rw [hb] at this
    simpa using this
  · have hi : i < l.length := (List.getElem?_eq_some_iff.1 hp).1
    have := List.all_eq_true.1 h4 i (List.mem_range.2 hi)
    rw [hp, Option.all_some, Bool.and_eq_true] at this
    obtain ⟨t1, t2⟩ := this
    refine ⟨fun e he hb => ?_, fun g hg => ?_⟩
    · have := Array.all_eq_true'.1 t1 e he
      rw [hb] at this
      simpa using this
    · rw [hg] at t2
      simpa using t2
theorem rkt_ready_lowY (T : TailY l o) {A : Array Bool} (hA : A.size = l.length) (b : Bool) {i : Nat} (hi : i < l.length) : i ∈ Region.ready .any (l ++ [o]).toArray (A.push b) ↔ i ∈ Region.ready .any l.toArray A := by
  rw [rkt_ready_mem, rkt_ready_mem, rkt_ops_at hi, rkt_push_getD hA b true hi]
  refine and_congr (by simp; omega) (and_congr Iff.rfl ⟨?_, ?_⟩)
  · rintro ⟨p, hp, h⟩
    refine ⟨p, hp, fun e he hb => ?_⟩
    have := (T.early i p (by simpa using hp)).1 e he hb
    rw [← rkt_push_getD hA b false (by omega : e.on < l.length)]
    exact h e he hb
  · rintro ⟨p, hp, h⟩
    refine ⟨p, hp, fun e he hb => ?_⟩
    have := (T.early i p (by simpa using hp)).1 e he hb
    rw [rkt_push_getD hA b false (by omega : e.on < l.length)]
    exact h e he hb

theorem rkt_allIn_of_lastY (T : TailY l o) {A : Array Bool} (hA : A.size = l.length) (hcl : ClA l A) {b : Bool} (h : l.length ∈ Region.ready .any (l ++ [o]).toArray (A.push b)) : AllIn l A := by
  intro i hi
  obtain ⟨_, _, p, hp, h3⟩ := rkt_ready_mem.1 h
  rw [rkt_ops_last] at hp
  injection hp with hp
  subst hp
  exact T.waits A hcl (fun e he hb => by rw [← rkt_push_getD hA b false (T.below e he hb)]; exact h3 e he hb) i hi
theorem rkt_ready_nil_iffY (T : TailY l o) {A : Array Bool} (hA : A.size = l.length) : Region.ready .any l.toArray A = [] ↔ AllIn l A := by
  constructor
  · intro h i
    induction i using Nat.strongRecOn with
    | ind i ih =>
      intro hi
      cases hb : A.getD i false with
      | true => rfl
      | false =>
        exfalso
        have hm : i ∈ Region.ready .any l.toArray A := by
          obtain ⟨p, hp⟩ : ∃ p, l[i]? = some p := ⟨_, List.getElem?_eq_getElem hi⟩
          refine rkt_ready_mem.2 ⟨by simpa using hi, by rw [rkt_getD_both hA hi true false]; exact hb, p, by simpa using hp, fun e he hbb => ?_⟩
          have := (T.early i p hp).1 e he hbb
          exact ih _ this (by omega)
        rw [h] at hm
        simp at hm
  · intro h
    cases hr : Region.ready .any l.toArray A with
    | nil => rfl
    | cons i rs =>
      exfalso
      have hm : i ∈ Region.ready .any l.toArray A := by rw [hr]; simp
      obtain ⟨h1, h2, _⟩ := rkt_ready_mem.1 hm
      have hi : i < l.length := by simpa using h1
      rw [rkt_getD_both hA hi true false, h i hi] at h2
      exact absurd h2 (by decide)
theorem rkt_last_readyY (T : TailY l o) {A : Array Bool} (hA : A.size = l.length) (h : AllIn l A) : l.length ∈ Region.ready .any (l ++ [o]).toArray (A.push false) := by
  refine rkt_ready_mem.2 ⟨by simp, rkt_push_getD_at hA false true, o, rkt_ops_last, fun e he hb => ?_⟩
  have := T.below e he hb
  rw [rkt_push_getD hA false false this]
  exact h _ this
theorem rkt_ready_doneY (_T : TailY l o) {A : Array Bool} (hA : A.size = l.length) (h : AllIn l A) : Region.ready .any (l ++ [o]).toArray (A.push true) = [] := by
  cases hr : Region.ready .any (l ++ [o]).toArray (A.push true) with
  | nil => rfl
  | cons i rs =>
    exfalso
    have hm : i ∈ Region.ready .any (l ++ [o]).toArray (A.push true) := by rw [hr]; simp
    obtain ⟨h1, h2, _⟩ := rkt_ready_mem.1 hm
    have hi : i < l.length + 1 := by simpa using h1
    by_cases hl : i < l.length
    · rw [rkt_push_getD hA true true hl, rkt_getD_both hA hl true false, h i hl] at h2
      exact absurd h2 (by decide)
    · have : i = l.length := by omega
      subst this
      rw [rkt_push_getD_at hA] at h2
      exact absurd h2 (by decide)
theorem rkt_wanted_atY (T : TailY l o) {tmps : Array Value} {i : Nat} {p : Oper} (hp : l[i]? = some p) : Region.wanted p (yielded (l ++ [o]).toArray tmps) = Region.wanted p (yielded l.toArray tmps) := by
  have hi : i < l.length := (List.getElem?_eq_some_iff.1 hp).1
  unfold Region.wanted
  cases hg : p.guard with
  | none => rfl
  | some g =>
    obtain ⟨j, b⟩ := g
    have := (T.early i p hp).2 _ hg
    simp only
    rw [rkt_yielded_at (by omega : j < l.length)]
theorem rkt_wpOp_lowY (T : TailY l o) {Q : Exit → Act → World → Prop} {i : Nat} (hi : i < l.length) {K : Act → World → Prop} {a : Act} {w : World} (h : wpOp P l.toArray Q i K a w) : wpOp P (l ++ [o]).toArray Q i K a w := by
  obtain ⟨p, hp⟩ : ∃ p, l[i]? = some p := ⟨_, List.getElem?_eq_getElem hi⟩
  have hp' : (l.toArray)[i]? = some p := by simpa using hp
  unfold wpOp at *
  rw [rkt_ops_at hi]
  simp only [hp'] at h ⊢
  rw [rkt_wanted_atY T hp]
  exact h

theorem rkt_wp_lastY (T : TailY l o) {Q : Exit → Act → World → Prop} {A : Array Bool} (hA : A.size = l.length) (h : AllIn l A) (n : Nat) {a : Act} {w : World} (hw : C w) (hl : LastOk P C o Q a) :
    wpOp P (l ++ [o]).toArray Q l.length (wpAny P .any (l ++ [o]).toArray Q n ((A.push false).setIfInBounds l.length true)) a w := by
  unfold wpOp
  simp only [rkt_ops_last]
  have hwant : Region.wanted o (yielded (l ++ [o]).toArray a.tmps) = true := by unfold Region.wanted; rw [T.noGuard]
  rw [hwant, if_pos rfl, rkt_push_set_at hA]
  refine .inl (Oper.wp_mono (fun a' w' hq => ?_) (hl w hw))
  have hd := rkt_ready_doneY T hA h
  cases n with
  | zero => exact ⟨hd, hq⟩
  | succ n => exact ⟨fun _ => hq, fun i hi => by rw [hd] at hi; simp at hi⟩

theorem rkt_wpAny_tailY (T : TailY l o) {Q : Exit → Act → World → Prop} : ∀ (fuel : Nat) (A : Array Bool) (a : Act) (w : World), A.size = l.length → ClA l A → C w →
    wpAnyQ P .any l.toArray C (LastOk P C o Q) fuel A a → wpAny P .any (l ++ [o]).toArray Q (fuel + 1) (A.push false) a w
  | 0, A, a, w, hA, hcl, hw, h => by
    have hall := (rkt_ready_nil_iffY T hA).1 h.1
    refine ⟨fun h0 => ?_, fun i hi => ?_⟩
    · have := rkt_last_readyY T hA hall
      rw [h0] at this
      simp at this
    · by_cases hl : i < l.length
      · have := (rkt_ready_lowY T hA false hl).1 hi
        rw [h.1] at this
        simp at this
      · have hs : i < l.length + 1 := by simpa using (rkt_ready_mem.1 hi).1
        have : i = l.length := by omega
        subst this
        exact rkt_wp_lastY T hA hall 0 hw h.2
  | fuel + 1, A, a, w, hA, hcl, hw, h => by
    refine ⟨fun h0 => ?_, fun i hi => ?_⟩
    · have hn : Region.ready .any l.toArray A = [] := by
        cases hr : Region.ready .any l.toArray A with
        | nil => rfl
        | cons i rs =>
          exfalso
          have hm : i ∈ Region.ready .any l.toArray A := by rw [hr]; simp
          have := (rkt_ready_lowY T hA false (by simpa using (rkt_ready_mem.1 hm).1)).2 hm
          rw [h0] at this
          simp at this
      have := rkt_last_readyY T hA ((rkt_ready_nil_iffY T hA).1 hn)
      rw [h0] at this
      simp at this
    · by_cases hl : i < l.length
      · refine rkt_wpOp_lowY T hl ?_
        rw [rkt_push_set hA false true hl]
        exact wpOp_of_qOp hw (fun a' w' hw' => rkt_wpAny_tailY T fuel _ a' w' (by simpa using hA) (cl_set hA hcl ((rkt_ready_lowY T hA false hl).1 hi)) hw') (h.2 i ((rkt_ready_lowY T hA false hl).1 hi))
      · have hs : i < l.length + 1 := by simpa using (rkt_ready_mem.1 hi).1
        have : i = l.length := by omega
        subst this
        have hall := rkt_allIn_of_lastY T hA hcl hi
        exact rkt_wp_lastY T hA hall _ hw (h.1 ((rkt_ready_nil_iffY T hA).2 hall))

/-- **One walk over the others, and the last one behind it, serves every order.** -/
theorem rk_tailY {id : Nat} {ops : List Oper} (l : List Oper) (o : Oper) (hs : ops = l ++ [o]) {Q : Exit → Act → World → Prop} {a : Act} {w : World} (hm : P.follows .mixedOrders = true) (hB : Region.lexB .any l.toArray = true) {why : List Nat} (hT : tailYB l o why = true)
    (hC : C { w with drawn := w.drawn + 1 }) (h : wpQuiet P l.toArray C (LastOk P C o Q) l a) : (Code.region id ops.toArray true).wp P Q a w := by
  subst hs
  simp only [Region.lexB, Bool.and_eq_true] at hB
  have h1 := wpAnyQ_lex (P := P) (C := C) (md := .any) (ops := l.toArray) hB.1 l 0 (Array.replicate l.length false) a (by simp) (by simpa using hB.2) h
  have h2 := rkt_wpAny_tailY (rkt_tail_okY hT) l.length (Array.replicate l.length false) a { w with drawn := w.drawn + 1 } (by simp) (cl_start l) hC h1
  refine wp_region_any hm ?_
  have e1 : (l ++ [o]).toArray.size = l.length + 1 := by simp
  rw [e1, Array.replicate_succ]
  exact h2
/-- The last operation waits for all others: the others in any order, and the last one behind them. -/
theorem tail_anyY {l : List Oper} {o : Oper} (T : TailY l o) {Q : Exit → Act → World → Prop} : ∀ (fuel : Nat) (A : Array Bool) (a : Act) (w : World), A.size = l.length → ClA l A →
    wpAny P .any l.toArray (QT P o Q) fuel A a w → wpAny P .any (l ++ [o]).toArray Q (fuel + 1) (A.push false) a w
  | 0, A, a, w, hA, hcl, h => by
    have hall := (rkt_ready_nil_iffY T hA).1 h.1
    refine ⟨fun h0 => ?_, fun i hi => ?_⟩
    · have := rkt_last_readyY T hA hall
      rw [h0] at this
      simp at this
    · by_cases hl : i < l.length
      · have := (rkt_ready_lowY T hA false hl).1 hi
        rw [h.1] at this
        simp at this
      · have hs : i < l.length + 1 := by simpa using (rkt_ready_mem.1 hi).1
        have : i = l.length := by omega
        subst this
        exact rkt_wp_lastY (C := fun w' => w' = w) T hA hall 0 rfl (fun w' e => by subst e; exact h.2)
  | fuel + 1, A, a, w, hA, hcl, h => by
    refine ⟨fun h0 => ?_, fun i hi => ?_⟩
    · have hn : Region.ready .any l.toArray A = [] := by
        cases hr : Region.ready .any l.toArray A with
        | nil => rfl
        | cons i rs =>
          exfalso
          have hm : i ∈ Region.ready .any l.toArray A := by rw [hr]; simp
          have := (rkt_ready_lowY T hA false (by simpa using (rkt_ready_mem.1 hm).1)).2 hm
          rw [h0] at this
          simp at this
      have := rkt_last_readyY T hA ((rkt_ready_nil_iffY T hA).1 hn)
      rw [h0] at this
      simp at this
    · by_cases hl : i < l.length
      · refine rkt_wpOp_lowY T hl ?_
        rw [rkt_push_set hA false true hl]
        exact wpOp_mono (fun a' w' hh => tail_anyY T fuel _ a' w' (by simpa using hA) (cl_set hA hcl ((rkt_ready_lowY T hA false hl).1 hi)) hh) (QT_op (h.2 i ((rkt_ready_lowY T hA false hl).1 hi)))
      · have hs : i < l.length + 1 := by simpa using (rkt_ready_mem.1 hi).1
        have : i = l.length := by omega
        subst this
        have hall := rkt_allIn_of_lastY T hA hcl hi
        exact rkt_wp_lastY (C := fun w' => w' = w) T hA hall _ rfl (fun w' e => by subst e; exact h.1 ((rkt_ready_nil_iffY T hA).2 hall))
theorem tail_regionY {id : Nat} {ops : List Oper} (l : List Oper) (o : Oper) (hs : ops = l ++ [o]) {Q : Exit → Act → World → Prop} {a : Act} {w : World} (hm : P.follows .mixedOrders = true) {why : List Nat} (hT : tailYB l o why = true)
    (h : wpAny P .any l.toArray (QT P o Q) l.toArray.size (Array.replicate l.toArray.size false) a { w with drawn := w.drawn + 1 }) : (Code.region id ops.toArray true).wp P Q a w := by
  subst hs
  have h2 := tail_anyY (rkt_tail_okY hT) l.toArray.size (Array.replicate l.toArray.size false) a { w with drawn := w.drawn + 1 } (by simp) (by rw [show l.toArray.size = l.length by simp]; exact cl_start l) h
  refine wp_region_any hm ?_
  have e1 : (l ++ [o]).toArray.size = l.toArray.size + 1 := by simp
  rw [e1, Array.replicate_succ]
  exact h2
theorem tail_startY {ops : List Oper} (l : List Oper) (o : Oper) (why : List Nat) (hs : ops = l ++ [o]) {Q : Exit → Act → World → Prop} {a : Act} {w : World} (hT : tailYB l o why = true)
    (h : wpAny P .any l.toArray (QT P o Q) l.toArray.size (Array.replicate l.toArray.size false) a { w with drawn := w.drawn + 1 }) : wpAny P .any ops.toArray Q ops.toArray.size (Array.replicate ops.toArray.size false) a { w with drawn := w.drawn + 1 } := by
  subst hs
  have h2 := tail_anyY (rkt_tail_okY hT) l.toArray.size (Array.replicate l.toArray.size false) a { w with drawn := w.drawn + 1 } (by simp) (by rw [show l.toArray.size = l.length by simp]; exact cl_start l) h
  have e1 : (l ++ [o]).toArray.size = l.toArray.size + 1 := by simp
  rw [e1, Array.replicate_succ]
  exact h2
end
end Go
