/- A region that draws its order, whose calls may make memory and hand back one value each: one walk in the order of the text, over the class of worlds that keep what was there. A region that draws its order and ends in one operation that waits for all others: the others by one walk in the order of the text, the last one behind them. -/
import Derived.Test.YtccekbdhffccdaaDoorB
import Derived.BigQuiet
import Derived.Deep.Quiet
namespace Go
open Go.RowKit
/-- A world that keeps all that was there. -/
structure KeptW (w0 : World) where
  w : World
  h : Below w0.heap.size w0 w
instance KeptW.some_ (w0 : World) : Nonempty (KeptW w0) := ⟨⟨w0, Below.refl _ _⟩⟩
theorem rk_region {P : Program} {id : Nat} {Q : Exit → Act → World → Prop} {a : Act} {w : World} {l : List Oper} (hm : P.follows .mixedOrders = true) (hB : Region.lexB .any l.toArray = true)
    (h : wpQuiet P l.toArray (fun w' => ∃ u : KeptW w, w' = u.w) (fun a' => ∀ w', (∃ u : KeptW w, w' = u.w) → Q .normal a' w') l a) : (Code.region id l.toArray true).wp P Q a w :=
  wp_region_quiet (C := fun w' => ∃ u : KeptW w, w' = u.w) hm hB ⟨⟨w.drew, (Below.refl w.heap.size w).drew⟩, rfl⟩ (by simpa using h)
/-- A contract that keeps what was there, met in such a world. -/
theorem Calls.in_kept {P : Program} {f : FuncId} {args : Array Value} {w0 : World} {v : Value} (u : KeptW w0) (h : Calls P f args u.w fun e w' => e = .returned v ∧ Below u.w.heap.size u.w w') :
    Calls P f args u.w fun e w' => e = .returned v ∧ ∃ u' : KeptW w0, w' = u'.w :=
  h.mono fun _ w' hh => ⟨hh.1, ⟨w', u.h.trans (hh.2.mono u.h.size)⟩, rfl⟩
end Go

namespace Go
open Go.RowKit
section
variable {P : Program} {C : World → Prop} {l : List Oper} {o : Oper}

/-- Each operation waits for earlier ones alone, its guard is an earlier one; the last one waits for all others, and has no guard. -/
def tailB (l : List Oper) (o : Oper) : Bool :=
  o.guard.isNone && ((List.range l.length).all fun i => o.after.any fun e => Region.binds .any e && e.on == i) && (o.after.all fun e => !Region.binds .any e || decide (e.on < l.length)) &&
  ((List.range l.length).all fun i => (l[i]?).all fun p => (p.after.all fun e => !Region.binds .any e || decide (e.on < i)) && (p.guard.all fun g => decide (g.1 < i)))

theorem rkt_ready_mem {ops : Array Oper} {listed : Array Bool} {i : Nat} : i ∈ Region.ready .any ops listed ↔ i < ops.size ∧ listed.getD i true = false ∧ ∃ o, ops[i]? = some o ∧ ∀ e ∈ o.after, Region.binds .any e = true → listed.getD e.on false = true := by
  unfold Region.ready
  rw [List.mem_filter, List.mem_range]
  constructor
  · rintro ⟨h, h2⟩
    rw [Bool.and_eq_true] at h2
    obtain ⟨h3, h4⟩ := h2
    refine ⟨h, by simpa using h3, ?_⟩
    cases ho : ops[i]? with
    | none => simp [ho] at h4
    | some o =>
      refine ⟨o, rfl, fun e he hb => ?_⟩
      simp only [ho, Option.map_some, Option.getD_some] at h4
      have := Array.all_eq_true'.1 h4 e he
      rw [hb] at this
      simpa using this
  · rintro ⟨h, h3, o, ho, h4⟩
    refine ⟨h, ?_⟩
    rw [Bool.and_eq_true]
    refine ⟨by simp [h3], ?_⟩
    simp only [ho, Option.map_some, Option.getD_some]
    refine Array.all_eq_true'.2 fun e he => ?_
    cases hb : Region.binds .any e with
    | false => rfl
    | true => simp [h4 e he hb]

/-- What the test says. -/
structure TailOk (l : List Oper) (o : Oper) : Prop where
  noGuard : o.guard = none
  waits : ∀ i, i < l.length → ∃ e ∈ o.after, Region.binds .any e = true ∧ e.on = i
  below : ∀ e ∈ o.after, Region.binds .any e = true → e.on < l.length
  early : ∀ i p, l[i]? = some p → (∀ e ∈ p.after, Region.binds .any e = true → e.on < i) ∧ ∀ g, p.guard = some g → g.1 < i
theorem rkt_tail_ok (h : tailB l o = true) : TailOk l o := by
  simp only [tailB, Bool.and_eq_true] at h
  obtain ⟨⟨⟨h1, h2⟩, h3⟩, h4⟩ := h
  refine ⟨by simpa using h1, fun i hi => ?_, fun e he hb => ?_, fun i p hp => ?_⟩
  · have := List.all_eq_true.1 h2 i (List.mem_range.2 hi)
    obtain ⟨e, he, hb⟩ := Array.any_eq_true'.1 this
    rw [Bool.and_eq_true] at hb
    exact ⟨e, he, hb.1, by simpa using hb.2⟩
  · have := Array.all_eq_true'.1 h3 e he
    rw [hb] at this
    simpa using this
  · have hi : i < l.length := (List.getElem?_eq_some_iff.1 hp).1
    have := List.all_eq_true.1 h4 i (List.mem_range.2 hi)
    rw [hp, Option.all_some, Bool.and_eq_true] at this
    obtain ⟨t1, t2⟩ := this
    refine ⟨fun e he hb => ?_, fun g hg => ?_⟩
    · have := Array.all_eq_true'.1 t1 e he
      rw [hb] at this
      simpa using this
    · rw [hg] at t2
      simpa using t2

theorem rkt_push_getD {A : Array Bool} {n : Nat} (hA : A.size = n) (b d : Bool) {i : Nat} (hi : i < n) : (A.push b).getD i d = A.getD i d := by
  simp only [Array.getD_eq_getD_getElem?]
  rw [Array.getElem?_push_lt (by omega : i < A.size), Array.getElem?_eq_getElem (by omega : i < A.size)]
theorem rkt_push_getD_at {A : Array Bool} {n : Nat} (hA : A.size = n) (b d : Bool) : (A.push b).getD n d = b := by
  subst hA
  simp [Array.getD_eq_getD_getElem?]
theorem rkt_push_set {A : Array Bool} {n : Nat} (hA : A.size = n) (b d : Bool) {i : Nat} (hi : i < n) : (A.push b).setIfInBounds i d = (A.setIfInBounds i d).push b := by
  apply Array.ext_getElem?
  intro j
  simp only [Array.getElem?_setIfInBounds, Array.getElem?_push, Array.size_push, Array.size_setIfInBounds]
  by_cases e : i = j
  · subst e
    simp [hA, hi, show ¬ i = n by omega, show i < n + 1 by omega]
  · simp [e]
theorem rkt_push_set_at {A : Array Bool} {n : Nat} (hA : A.size = n) (b d : Bool) : (A.push b).setIfInBounds n d = A.push d := by
  subst hA
  apply Array.ext_getElem?
  intro j
  simp only [Array.getElem?_setIfInBounds, Array.getElem?_push, Array.size_push]
  by_cases e : A.size = j
  · subst e
    simp
  · simp [e, Ne.symm e]

theorem rkt_ops_at {i : Nat} (hi : i < l.length) : ((l ++ [o]).toArray)[i]? = (l.toArray)[i]? := by
  simp [List.getElem?_append_left hi]
theorem rkt_ops_last : ((l ++ [o]).toArray)[l.length]? = some o := by simp

theorem rkt_ready_low (T : TailOk l o) {A : Array Bool} (hA : A.size = l.length) (b : Bool) {i : Nat} (hi : i < l.length) : i ∈ Region.ready .any (l ++ [o]).toArray (A.push b) ↔ i ∈ Region.ready .any l.toArray A := by
  rw [rkt_ready_mem, rkt_ready_mem, rkt_ops_at hi, rkt_push_getD hA b true hi]
  refine and_congr (by simp; omega) (and_congr Iff.rfl ⟨?_, ?_⟩)
  · rintro ⟨p, hp, h⟩
    refine ⟨p, hp, fun e he hb => ?_⟩
    have := (T.early i p (by simpa using hp)).1 e he hb
    rw [← rkt_push_getD hA b false (by omega : e.on < l.length)]
    exact h e he hb
  · rintro ⟨p, hp, h⟩
    refine ⟨p, hp, fun e he hb => ?_⟩
    have := (T.early i p (by simpa using hp)).1 e he hb
    rw [rkt_push_getD hA b false (by omega : e.on < l.length)]
    exact h e he hb

/-- All of the others are listed. -/
def AllIn (l : List Oper) (A : Array Bool) : Prop := ∀ i, i < l.length → A.getD i false = true
theorem rkt_getD_both {A : Array Bool} {n i : Nat} (hA : A.size = n) (hi : i < n) (d e : Bool) : A.getD i d = A.getD i e := by
  simp only [Array.getD_eq_getD_getElem?]
  rw [Array.getElem?_eq_getElem (by omega : i < A.size)]
  rfl
theorem rkt_allIn_of_last (T : TailOk l o) {A : Array Bool} (hA : A.size = l.length) {b : Bool} (h : l.length ∈ Region.ready .any (l ++ [o]).toArray (A.push b)) : AllIn l A := by
  intro i hi
  obtain ⟨_, _, p, hp, h3⟩ := rkt_ready_mem.1 h
  rw [rkt_ops_last] at hp
  injection hp with hp
  subst hp
  obtain ⟨e, he, hb, rfl⟩ := T.waits i hi
  rw [← rkt_push_getD hA b false hi]
  exact h3 e he hb
theorem rkt_ready_nil_iff (T : TailOk l o) {A : Array Bool} (hA : A.size = l.length) : Region.ready .any l.toArray A = [] ↔ AllIn l A := by
  constructor
  · intro h i
    induction i using Nat.strongRecOn with
    | ind i ih =>
      intro hi
      cases hb : A.getD i false with
      | true => rfl
      | false =>
        exfalso
        have hm : i ∈ Region.ready .any l.toArray A := by
          obtain ⟨p, hp⟩ : ∃ p, l[i]? = some p := ⟨_, List.getElem?_eq_getElem hi⟩
          refine rkt_ready_mem.2 ⟨by simpa using hi, by rw [rkt_getD_both hA hi true false]; exact hb, p, by simpa using hp, fun e he hbb => ?_⟩
          have := (T.early i p hp).1 e he hbb
          exact ih _ this (by omega)
        rw [h] at hm
        simp at hm
  · intro h
    cases hr : Region.ready .any l.toArray A with
    | nil => rfl
    | cons i rs =>
      exfalso
      have hm : i ∈ Region.ready .any l.toArray A := by rw [hr]; simp
      obtain ⟨h1, h2, _⟩ := rkt_ready_mem.1 hm
      have hi : i < l.length := by simpa using h1
      rw [rkt_getD_both hA hi true false, h i hi] at h2
      exact absurd h2 (by decide)
theorem rkt_last_ready (T : TailOk l o) {A : Array Bool} (hA : A.size = l.length) (h : AllIn l A) : l.length ∈ Region.ready .any (l ++ [o]).toArray (A.push false) := by
  refine rkt_ready_mem.2 ⟨by simp, rkt_push_getD_at hA false true, o, rkt_ops_last, fun e he hb => ?_⟩
  have := T.below e he hb
  rw [rkt_push_getD hA false false this]
  exact h _ this
theorem rkt_ready_done (_T : TailOk l o) {A : Array Bool} (hA : A.size = l.length) (h : AllIn l A) : Region.ready .any (l ++ [o]).toArray (A.push true) = [] := by
  cases hr : Region.ready .any (l ++ [o]).toArray (A.push true) with
  | nil => rfl
  | cons i rs =>
    exfalso
    have hm : i ∈ Region.ready .any (l ++ [o]).toArray (A.push true) := by rw [hr]; simp
    obtain ⟨h1, h2, _⟩ := rkt_ready_mem.1 hm
    have hi : i < l.length + 1 := by simpa using h1
    by_cases hl : i < l.length
    · rw [rkt_push_getD hA true true hl, rkt_getD_both hA hl true false, h i hl] at h2
      exact absurd h2 (by decide)
    · have : i = l.length := by omega
      subst this
      rw [rkt_push_getD_at hA] at h2
      exact absurd h2 (by decide)
theorem rkt_yielded_at {tmps : Array Value} {i : Nat} (hi : i < l.length) : yielded (l ++ [o]).toArray tmps i = yielded l.toArray tmps i := by
  unfold yielded
  rw [rkt_ops_at hi]
theorem rkt_wanted_at (T : TailOk l o) {tmps : Array Value} {i : Nat} {p : Oper} (hp : l[i]? = some p) : Region.wanted p (yielded (l ++ [o]).toArray tmps) = Region.wanted p (yielded l.toArray tmps) := by
  have hi : i < l.length := (List.getElem?_eq_some_iff.1 hp).1
  unfold Region.wanted
  cases hg : p.guard with
  | none => rfl
  | some g =>
    obtain ⟨j, b⟩ := g
    have := (T.early i p hp).2 _ hg
    simp only
    rw [rkt_yielded_at (by omega : j < l.length)]
theorem rkt_wpOp_low (T : TailOk l o) {Q : Exit → Act → World → Prop} {i : Nat} (hi : i < l.length) {K : Act → World → Prop} {a : Act} {w : World} (h : wpOp P l.toArray Q i K a w) : wpOp P (l ++ [o]).toArray Q i K a w := by
  obtain ⟨p, hp⟩ : ∃ p, l[i]? = some p := ⟨_, List.getElem?_eq_getElem hi⟩
  have hp' : (l.toArray)[i]? = some p := by simpa using hp
  unfold wpOp at *
  rw [rkt_ops_at hi]
  simp only [hp'] at h ⊢
  rw [rkt_wanted_at T hp]
  exact h

/-- What is asked of the last operation, in every world of the class. -/
def LastOk (P : Program) (C : World → Prop) (o : Oper) (Q : Exit → Act → World → Prop) (a : Act) : Prop := ∀ w, C w → o.wp P a w (Q .normal) Q

theorem rkt_wp_last (T : TailOk l o) {Q : Exit → Act → World → Prop} {A : Array Bool} (hA : A.size = l.length) (h : AllIn l A) (n : Nat) {a : Act} {w : World} (hw : C w) (hl : LastOk P C o Q a) :
    wpOp P (l ++ [o]).toArray Q l.length (wpAny P .any (l ++ [o]).toArray Q n ((A.push false).setIfInBounds l.length true)) a w := by
  unfold wpOp
  simp only [rkt_ops_last]
  have hwant : Region.wanted o (yielded (l ++ [o]).toArray a.tmps) = true := by unfold Region.wanted; rw [T.noGuard]
  rw [hwant, if_pos rfl, rkt_push_set_at hA]
  refine .inl (Oper.wp_mono (fun a' w' hq => ?_) (hl w hw))
  have hd := rkt_ready_done T hA h
  cases n with
  | zero => exact ⟨hd, hq⟩
  | succ n => exact ⟨fun _ => hq, fun i hi => by rw [hd] at hi; simp at hi⟩

theorem rkt_wpAny_tail (T : TailOk l o) {Q : Exit → Act → World → Prop} : ∀ (fuel : Nat) (A : Array Bool) (a : Act) (w : World), A.size = l.length → C w →
    wpAnyQ P .any l.toArray C (LastOk P C o Q) fuel A a → wpAny P .any (l ++ [o]).toArray Q (fuel + 1) (A.push false) a w
  | 0, A, a, w, hA, hw, h => by
    have hall := (rkt_ready_nil_iff T hA).1 h.1
    refine ⟨fun h0 => ?_, fun i hi => ?_⟩
    · have := rkt_last_ready T hA hall
      rw [h0] at this
      simp at this
    · by_cases hl : i < l.length
      · have := (rkt_ready_low T hA false hl).1 hi
        rw [h.1] at this
        simp at this
      · have hs : i < l.length + 1 := by simpa using (rkt_ready_mem.1 hi).1
        have : i = l.length := by omega
        subst this
        exact rkt_wp_last T hA hall 0 hw h.2
  | fuel + 1, A, a, w, hA, hw, h => by
    refine ⟨fun h0 => ?_, fun i hi => ?_⟩
    · have hn : Region.ready .any l.toArray A = [] := by
        cases hr : Region.ready .any l.toArray A with
        | nil => rfl
        | cons i rs =>
          exfalso
          have hm : i ∈ Region.ready .any l.toArray A := by rw [hr]; simp
          have := (rkt_ready_low T hA false (by simpa using (rkt_ready_mem.1 hm).1)).2 hm
          rw [h0] at this
          simp at this
      have := rkt_last_ready T hA ((rkt_ready_nil_iff T hA).1 hn)
      rw [h0] at this
      simp at this
    · by_cases hl : i < l.length
      · refine rkt_wpOp_low T hl ?_
        rw [rkt_push_set hA false true hl]
        exact wpOp_of_qOp hw (fun a' w' hw' => rkt_wpAny_tail T fuel _ a' w' (by simpa using hA) hw') (h.2 i ((rkt_ready_low T hA false hl).1 hi))
      · have hs : i < l.length + 1 := by simpa using (rkt_ready_mem.1 hi).1
        have : i = l.length := by omega
        subst this
        have hall := rkt_allIn_of_last T hA hi
        exact rkt_wp_last T hA hall _ hw (h.1 ((rkt_ready_nil_iff T hA).2 hall))

/-- **One walk over the others, and the last one behind it, serves every order.** -/
theorem rk_tail {id : Nat} {ops : List Oper} (l : List Oper) (o : Oper) (hs : ops = l ++ [o]) {Q : Exit → Act → World → Prop} {a : Act} {w : World} (hm : P.follows .mixedOrders = true) (hB : Region.lexB .any l.toArray = true) (hT : tailB l o = true)
    (hC : C { w with drawn := w.drawn + 1 }) (h : wpQuiet P l.toArray C (LastOk P C o Q) l a) : (Code.region id ops.toArray true).wp P Q a w := by
  subst hs
  simp only [Region.lexB, Bool.and_eq_true] at hB
  have h1 := wpAnyQ_lex (P := P) (C := C) (md := .any) (ops := l.toArray) hB.1 l 0 (Array.replicate l.length false) a (by simp) (by simpa using hB.2) h
  have h2 := rkt_wpAny_tail (rkt_tail_ok hT) l.length (Array.replicate l.length false) a { w with drawn := w.drawn + 1 } (by simp) hC h1
  refine wp_region_any hm ?_
  have e1 : (l ++ [o]).toArray.size = l.length + 1 := by simp
  rw [e1, Array.replicate_succ]
  exact h2
end
end Go
