/- Pipes: general laws of memory and of statements whose order is left open. Rows of rows that were made, for elements of any kind. A region that draws its order, by a plan: which slots hold what, given what hangs on the order, and what memory is like after some of its operations. Pipes: statements whose order is left open: a block that is made beside calls, a list that grows, a last operation that waits for all others. Pipes: ranges over functions. -/
import Derived.Test.YtmppiiamcpjhnaaProg
import Derived.WalkKit
import Derived.WalkSpells
import Derived.WalkLawsBesides
import Derived.Lib.Hide
import Derived.BigQuiet
import Derived.Deep.QuietTactic
import Derived.Laws.OwnMore
import Derived.Deep.AppendLies
import Derived.Deep.Draws
import Derived.Laws.Rows
import Derived.Deep.Quiet
import Derived.Maps.Own
import Derived.DeepKeys4
import Derived.ChangeKeysEq
import Derived.RangeFuncNested
import Derived.RangeFuncBound
import Derived.RangeFuncCalls
import Derived.RangeFuncLeaves
import Derived.RangeFuncBox
import Derived.RangeFuncFrom
import Derived.Shelf.Abstract
import Derived.Shelf.RegionOpen
import Derived.OwnWalkIn
import Derived.TacticsInMore
import Derived.LoopNIn
import Derived.LoopIn
import Derived.RegionIn
import Derived.Laws.BitsLemmas
namespace Go.Proofs.Ytmppiiamcpjhnaa
open Go.RowKit

def inB (a n b : Int) : Bool := decide (a ≤ n ∧ n ≤ b)
theorem inB_iff {a n b : Int} : inB a n b = true ↔ a ≤ n ∧ n ≤ b := by simp [inB]
def withinB (a lo hi b : Int) : Bool := decide (a ≤ lo ∧ lo ≤ hi ∧ hi ≤ b)
theorem withinB_iff {a lo hi b : Int} : withinB a lo hi b = true ↔ a ≤ lo ∧ lo ≤ hi ∧ hi ≤ b := by simp [withinB]

theorem bcell {W w1 : World} {n : Nat} (hb : Below n W w1) : (∀ b o, b < n → w1.cell? ⟨b, o, none⟩ = W.cell? ⟨b, o, none⟩) ∧ (∀ b o, b < n → w1.frozen? ⟨b, o, none⟩ = W.frozen? ⟨b, o, none⟩) :=
  ⟨fun b o h => hb.cell (p := ⟨b, o, none⟩) h, fun b o h => hb.frozen (p := ⟨b, o, none⟩) h⟩
theorem get_of_lt {α : Type} {l : List α} {k : Nat} (h : k < l.length) : ∃ x, l[k]? = some x := ⟨_, List.getElem?_eq_getElem h⟩
/-- A slice's elements, each of k cells. -/
def RowAt {α : Type} (k : Nat) (R : α → List Value) (w : World) (B : Nat) (A : Option Addr) (xs : List α) : Prop :=
  xs ≠ [] → ∃ b o, A = some ⟨b, o, none⟩ ∧ b < B ∧ ∀ i x, xs[i]? = some x → ∀ j v, (R x)[j]? = some v → w.cell? ⟨b, o + i * k + j, none⟩ = some v
theorem RowAt.next {α : Type} {k : Nat} {R : α → List Value} {w w' : World} {B : Nat} {A : Option Addr} {xs : List α} (h : RowAt k R w B A xs) (hb : Below B w w') {B' : Nat} (hB : B ≤ B') : RowAt k R w' B' A xs := fun hne => by
  obtain ⟨b, o, rfl, hlt, hc⟩ := h hne
  exact ⟨b, o, rfl, by omega, fun i x hx j v hv => ((bcell hb).1 _ _ hlt).trans (hc i x hx j v hv)⟩
theorem RowAt.up {α : Type} {k : Nat} {R : α → List Value} {w w' : World} {A : Option Addr} {xs : List α} (h : RowAt k R w w.heap.size A xs) (hb : Below w.heap.size w w') : RowAt k R w' w'.heap.size A xs := h.next hb hb.size
def prR (x : Int × Int) : List Value := [.int .i64 x.1, .int .i64 x.2]
abbrev PrsAt := RowAt 2 prR
def intR (x : Int) : List Value := [.int .i64 x]
abbrev IntsAt := RowAt 1 intR
end Go.Proofs.Ytmppiiamcpjhnaa

namespace Go
open Go.RowKit
/-- A world that keeps all that was there. -/
structure KeptW (w0 : World) where
  w : World
  h : Below w0.heap.size w0 w
instance KeptW.some_ (w0 : World) : Nonempty (KeptW w0) := ⟨⟨w0, Below.refl _ _⟩⟩
theorem rk_region {P : Program} {id : Nat} {Q : Exit → Act → World → Prop} {a : Act} {w : World} {l : List Oper} (hm : P.follows .mixedOrders = true) (hB : Region.lexB .any l.toArray = true)
    (h : wpQuiet P l.toArray (fun w' => ∃ u : KeptW w, w' = u.w) (fun a' => ∀ w', (∃ u : KeptW w, w' = u.w) → Q .normal a' w') l a) : (Code.region id l.toArray true).wp P Q a w :=
  wp_region_quiet (C := fun w' => ∃ u : KeptW w, w' = u.w) hm hB ⟨⟨w.drew, (Below.refl w.heap.size w).drew⟩, rfl⟩ (by simpa using h)
/-- A contract that keeps what was there, met in such a world. -/
theorem Calls.in_kept {P : Program} {f : FuncId} {args : Array Value} {w0 : World} {v : Value} (u : KeptW w0) (h : Calls P f args u.w fun e w' => e = .returned v ∧ Below u.w.heap.size u.w w') :
    Calls P f args u.w fun e w' => e = .returned v ∧ ∃ u' : KeptW w0, w' = u'.w :=
  h.mono fun _ w' hh => ⟨hh.1, ⟨w', u.h.trans (hh.2.mono u.h.size)⟩, rfl⟩
end Go

namespace Go
open Go.RowKit
section
variable {P : Program} {C : World → Prop} {l : List Oper} {o : Oper}

/-- Each operation waits for earlier ones alone, its guard is an earlier one; the last one waits for all others, and has no guard. -/
def tailB (l : List Oper) (o : Oper) : Bool :=
  o.guard.isNone && ((List.range l.length).all fun i => o.after.any fun e => Region.binds .any e && e.on == i) && (o.after.all fun e => !Region.binds .any e || decide (e.on < l.length)) &&
  ((List.range l.length).all fun i => (l[i]?).all fun p => (p.after.all fun e => !Region.binds .any e || decide (e.on < i)) && (p.guard.all fun g => decide (g.1 < i)))

theorem rkt_ready_mem {ops : Array Oper} {listed : Array Bool} {i : Nat} : i ∈ Region.ready .any ops listed ↔ i < ops.size ∧ listed.getD i true = false ∧ ∃ o, ops[i]? = some o ∧ ∀ e ∈ o.after, Region.binds .any e = true → listed.getD e.on false = true := by
  unfold Region.ready
  rw [List.mem_filter, List.mem_range]
  constructor
  · rintro ⟨h, h2⟩
    rw [Bool.and_eq_true] at h2
    obtain ⟨h3, h4⟩ := h2
    refine ⟨h, by simpa using h3, ?_⟩
    cases ho : ops[i]? with
    | none => simp [ho] at h4
    | some o =>
      refine ⟨o, rfl, fun e he hb => ?_⟩
      simp only [ho, Option.map_some, Option.getD_some] at h4
      have := Array.all_eq_true'.1 h4 e he
      rw [hb] at this
      simpa using this
  · rintro ⟨h, h3, o, ho, h4⟩
    refine ⟨h, ?_⟩
    rw [Bool.and_eq_true]
    refine ⟨by simp [h3], ?_⟩
    simp only [ho, Option.map_some, Option.getD_some]
    refine Array.all_eq_true'.2 fun e he => ?_
    cases hb : Region.binds .any e with
    | false => rfl
    | true => simp [h4 e he hb]

/-- What the test says. -/
structure TailOk (l : List Oper) (o : Oper) : Prop where
  noGuard : o.guard = none
  waits : ∀ i, i < l.length → ∃ e ∈ o.after, Region.binds .any e = true ∧ e.on = i
  below : ∀ e ∈ o.after, Region.binds .any e = true → e.on < l.length
  early : ∀ i p, l[i]? = some p → (∀ e ∈ p.after, Region.binds .any e = true → e.on < i) ∧ ∀ g, p.guard = some g → g.1 < i
theorem rkt_tail_ok (h : tailB l o = true) : TailOk l o := by
  simp only [tailB, Bool.and_eq_true] at h
  obtain ⟨⟨⟨h1, h2⟩, h3⟩, h4⟩ := h
  refine ⟨by simpa using h1, fun i hi => ?_, fun e he hb => ?_, fun i p hp => ?_⟩
  · have := List.all_eq_true.1 h2 i (List.mem_range.2 hi)
    obtain ⟨e, he, hb⟩ := Array.any_eq_true'.1 this
    rw [Bool.and_eq_true] at hb
    exact ⟨e, he, hb.1, by simpa using hb.2⟩
  · have := Array.all_eq_true'.1 h3 e he
    rw [hb] at this
    simpa using this
  · have hi : i < l.length := (List.getElem?_eq_some_iff.1 hp).1
    have := List.all_eq_true.1 h4 i (List.mem_range.2 hi)
    rw [hp, Option.all_some, Bool.and_eq_true] at this
    obtain ⟨t1, t2⟩ := this
    refine ⟨fun e he hb => ?_, fun g hg => ?_⟩
    · have := Array.all_eq_true'.1 t1 e he
      rw [hb] at this
      simpa using this
    · rw [hg] at t2
      simpa using t2

theorem rkt_push_getD {A : Array Bool} {n : Nat} (hA : A.size = n) (b d : Bool) {i : Nat} (hi : i < n) : (A.push b).getD i d = A.getD i d := by
  simp only [Array.getD_eq_getD_getElem?]
  rw [Array.getElem?_push_lt (by omega : i < A.size), Array.getElem?_eq_getElem (by omega : i < A.size)]
theorem rkt_push_getD_at {A : Array Bool} {n : Nat} (hA : A.size = n) (b d : Bool) : (A.push b).getD n d = b := by
  subst hA
  simp [Array.getD_eq_getD_getElem?]
theorem rkt_push_set {A : Array Bool} {n : Nat} (hA : A.size = n) (b d : Bool) {i : Nat} (hi : i < n) : (A.push b).setIfInBounds i d = (A.setIfInBounds i d).push b := by
  apply Array.ext_getElem?
  intro j
  simp only [Array.getElem?_setIfInBounds, Array.getElem?_push, Array.size_push, Array.size_setIfInBounds]
  by_cases e : i = j
  · subst e
    simp [hA, hi, show ¬ i = n by omega, show i < n + 1 by omega]
  · simp [e]
theorem rkt_push_set_at {A : Array Bool} {n : Nat} (hA : A.size = n) (b d : Bool) : (A.push b).setIfInBounds n d = A.push d := by
  subst hA
  apply Array.ext_getElem?
  intro j
  simp only [Array.getElem?_setIfInBounds, Array.getElem?_push, Array.size_push]
  by_cases e : A.size = j
  · subst e
    simp
  · simp [e, Ne.symm e]

theorem rkt_ops_at {i : Nat} (hi : i < l.length) : ((l ++ [o]).toArray)[i]? = (l.toArray)[i]? := by
  simp [List.getElem?_append_left hi]
theorem rkt_ops_last : ((l ++ [o]).toArray)[l.length]? = some o := by simp

theorem rkt_ready_low (T : TailOk l o) {A : Array Bool} (hA : A.size = l.length) (b : Bool) {i : Nat} (hi : i < l.length) : i ∈ Region.ready .any (l ++ [o]).toArray (A.push b) ↔ i ∈ Region.ready .any l.toArray A := by
  rw [rkt_ready_mem, rkt_ready_mem, rkt_ops_at hi, rkt_push_getD hA b true hi]
  refine and_congr (by simp; omega) (and_congr Iff.rfl ⟨?_, ?_⟩)
  · rintro ⟨p, hp, h⟩
    refine ⟨p, hp, fun e he hb => ?_⟩
    have := (T.early i p (by simpa using hp)).1 e he hb
    rw [← rkt_push_getD hA b false (by omega : e.on < l.length)]
    exact h e he hb
  · rintro ⟨p, hp, h⟩
    refine ⟨p, hp, fun e he hb => ?_⟩
    have := (T.early i p (by simpa using hp)).1 e he hb
    rw [rkt_push_getD hA b false (by omega : e.on < l.length)]
    exact h e he hb

/-- All of the others are listed. -/
def AllIn (l : List Oper) (A : Array Bool) : Prop := ∀ i, i < l.length → A.getD i false = true
theorem rkt_getD_both {A : Array Bool} {n i : Nat} (hA : A.size = n) (hi : i < n) (d e : Bool) : A.getD i d = A.getD i e := by
  simp only [Array.getD_eq_getD_getElem?]
  rw [Array.getElem?_eq_getElem (by omega : i < A.size)]
  rfl
theorem rkt_allIn_of_last (T : TailOk l o) {A : Array Bool} (hA : A.size = l.length) {b : Bool} (h : l.length ∈ Region.ready .any (l ++ [o]).toArray (A.push b)) : AllIn l A := by
  intro i hi
  obtain ⟨_, _, p, hp, h3⟩ := rkt_ready_mem.1 h
  rw [rkt_ops_last] at hp
  injection hp with hp
  subst hp
  obtain ⟨e, he, hb, rfl⟩ := T.waits i hi
  rw [← rkt_push_getD hA b false hi]
  exact h3 e he hb
theorem rkt_ready_nil_iff (T : TailOk l o) {A : Array Bool} (hA : A.size = l.length) : Region.ready .any l.toArray A = [] ↔ AllIn l A := by
  constructor
  · intro h i
    induction i using Nat.strongRecOn with
    | ind i ih =>
      intro hi
      cases hb : A.getD i false with
      | true => rfl
      | false =>
        exfalso
        have hm : i ∈ Region.ready .any l.toArray A := by
          obtain ⟨p, hp⟩ : ∃ p, l[i]? = some p := ⟨_, List.getElem?_eq_getElem hi⟩
          refine rkt_ready_mem.2 ⟨by simpa using hi, by rw [rkt_getD_both hA hi true false]; exact hb, p, by simpa using hp, fun e he hbb => ?_⟩
          have := (T.early i p hp).1 e he hbb
          exact ih _ this (by omega)
        rw [h] at hm
        simp at hm
  · intro h
    cases hr : Region.ready .any l.toArray A with
    | nil => rfl
    | cons i rs =>
      exfalso
      have hm : i ∈ Region.ready .any l.toArray A := by rw [hr]; simp
      obtain ⟨h1, h2, _⟩ := rkt_ready_mem.1 hm
      have hi : i < l.length := by simpa using h1
      rw [rkt_getD_both hA hi true false, h i hi] at h2
      exact absurd h2 (by decide)
theorem rkt_last_ready (T : TailOk l o) {A : Array Bool} (hA : A.size = l.length) (h : AllIn l A) : l.length ∈ Region.ready .any (l ++ [o]).toArray (A.push false) := by
  refine rkt_ready_mem.2 ⟨by simp, rkt_push_getD_at hA false true, o, rkt_ops_last, fun e he hb => ?_⟩
  have := T.below e he hb
  rw [rkt_push_getD hA false false this]
  exact h _ this
theorem rkt_ready_done (_T : TailOk l o) {A : Array Bool} (hA : A.size = l.length) (h : AllIn l A) : Region.ready .any (l ++ [o]).toArray (A.push true) = [] := by
  cases hr : Region.ready .any (l ++ [o]).toArray (A.push true) with
  | nil => rfl
  | cons i rs =>
    exfalso
    have hm : i ∈ Region.ready .any (l ++ [o]).toArray (A.push true) := by rw [hr]; simp
    obtain ⟨h1, h2, _⟩ := rkt_ready_mem.1 hm
    have hi : i < l.length + 1 := by simpa using h1
    by_cases hl : i < l.length
    · rw [rkt_push_getD hA true true hl, rkt_getD_both hA hl true false, h i hl] at h2
      exact absurd h2 (by decide)
    · have : i = l.length := by omega
      subst this
      rw [rkt_push_getD_at hA] at h2
      exact absurd h2 (by decide)
theorem rkt_yielded_at {tmps : Array Value} {i : Nat} (hi : i < l.length) : yielded (l ++ [o]).toArray tmps i = yielded l.toArray tmps i := by
  unfold yielded
  rw [rkt_ops_at hi]
theorem rkt_wanted_at (T : TailOk l o) {tmps : Array Value} {i : Nat} {p : Oper} (hp : l[i]? = some p) : Region.wanted p (yielded (l ++ [o]).toArray tmps) = Region.wanted p (yielded l.toArray tmps) := by
  have hi : i < l.length := (List.getElem?_eq_some_iff.1 hp).1
  unfold Region.wanted
  cases hg : p.guard with
  | none => rfl
  | some g =>
    obtain ⟨j, b⟩ := g
    have := (T.early i p hp).2 _ hg
    simp only
    rw [rkt_yielded_at (by omega : j < l.length)]
theorem rkt_wpOp_low (T : TailOk l o) {Q : Exit → Act → World → Prop} {i : Nat} (hi : i < l.length) {K : Act → World → Prop} {a : Act} {w : World} (h : wpOp P l.toArray Q i K a w) : wpOp P (l ++ [o]).toArray Q i K a w := by
  obtain ⟨p, hp⟩ : ∃ p, l[i]? = some p := ⟨_, List.getElem?_eq_getElem hi⟩
  have hp' : (l.toArray)[i]? = some p := by simpa using hp
  unfold wpOp at *
  rw [rkt_ops_at hi]
  simp only [hp'] at h ⊢
  rw [rkt_wanted_at T hp]
  exact h

/-- What is asked of the last operation, in every world of the class. -/
def LastOk (P : Program) (C : World → Prop) (o : Oper) (Q : Exit → Act → World → Prop) (a : Act) : Prop := ∀ w, C w → o.wp P a w (Q .normal) Q

theorem rkt_wp_last (T : TailOk l o) {Q : Exit → Act → World → Prop} {A : Array Bool} (hA : A.size = l.length) (h : AllIn l A) (n : Nat) {a : Act} {w : World} (hw : C w) (hl : LastOk P C o Q a) :
    wpOp P (l ++ [o]).toArray Q l.length (wpAny P .any (l ++ [o]).toArray Q n ((A.push false).setIfInBounds l.length true)) a w := by
  unfold wpOp
  simp only [rkt_ops_last]
  have hwant : Region.wanted o (yielded (l ++ [o]).toArray a.tmps) = true := by unfold Region.wanted; rw [T.noGuard]
  rw [hwant, if_pos rfl, rkt_push_set_at hA]
  refine .inl (Oper.wp_mono (fun a' w' hq => ?_) (hl w hw))
  have hd := rkt_ready_done T hA h
  cases n with
  | zero => exact ⟨hd, hq⟩
  | succ n => exact ⟨fun _ => hq, fun i hi => by rw [hd] at hi; simp at hi⟩

theorem rkt_wpAny_tail (T : TailOk l o) {Q : Exit → Act → World → Prop} : ∀ (fuel : Nat) (A : Array Bool) (a : Act) (w : World), A.size = l.length → C w →
    wpAnyQ P .any l.toArray C (LastOk P C o Q) fuel A a → wpAny P .any (l ++ [o]).toArray Q (fuel + 1) (A.push false) a w
  | 0, A, a, w, hA, hw, h => by
    have hall := (rkt_ready_nil_iff T hA).1 h.1
    refine ⟨fun h0 => ?_, fun i hi => ?_⟩
    · have := rkt_last_ready T hA hall
      rw [h0] at this
      simp at this
    · by_cases hl : i < l.length
      · have := (rkt_ready_low T hA false hl).1 hi
        rw [h.1] at this
        simp at this
      · have hs : i < l.length + 1 := by simpa using (rkt_ready_mem.1 hi).1
        have : i = l.length := by omega
        subst this
        exact rkt_wp_last T hA hall 0 hw h.2
  | fuel + 1, A, a, w, hA, hw, h => by
    refine ⟨fun h0 => ?_, fun i hi => ?_⟩
    · have hn : Region.ready .any l.toArray A = [] := by
        cases hr : Region.ready .any l.toArray A with
        | nil => rfl
        | cons i rs =>
          exfalso
          have hm : i ∈ Region.ready .any l.toArray A := by rw [hr]; simp
          have := (rkt_ready_low T hA false (by simpa using (rkt_ready_mem.1 hm).1)).2 hm
          rw [h0] at this
          simp at this
      have := rkt_last_ready T hA ((rkt_ready_nil_iff T hA).1 hn)
      rw [h0] at this
      simp at this
    · by_cases hl : i < l.length
      · refine rkt_wpOp_low T hl ?_
        rw [rkt_push_set hA false true hl]
        exact wpOp_of_qOp hw (fun a' w' hw' => rkt_wpAny_tail T fuel _ a' w' (by simpa using hA) hw') (h.2 i ((rkt_ready_low T hA false hl).1 hi))
      · have hs : i < l.length + 1 := by simpa using (rkt_ready_mem.1 hi).1
        have : i = l.length := by omega
        subst this
        have hall := rkt_allIn_of_last T hA hi
        exact rkt_wp_last T hA hall _ hw (h.1 ((rkt_ready_nil_iff T hA).2 hall))

/-- **One walk over the others, and the last one behind it, serves every order.** -/
theorem rk_tail {id : Nat} {ops : List Oper} (l : List Oper) (o : Oper) (hs : ops = l ++ [o]) {Q : Exit → Act → World → Prop} {a : Act} {w : World} (hm : P.follows .mixedOrders = true) (hB : Region.lexB .any l.toArray = true) (hT : tailB l o = true)
    (hC : C { w with drawn := w.drawn + 1 }) (h : wpQuiet P l.toArray C (LastOk P C o Q) l a) : (Code.region id ops.toArray true).wp P Q a w := by
  subst hs
  simp only [Region.lexB, Bool.and_eq_true] at hB
  have h1 := wpAnyQ_lex (P := P) (C := C) (md := .any) (ops := l.toArray) hB.1 l 0 (Array.replicate l.length false) a (by simp) (by simpa using hB.2) h
  have h2 := rkt_wpAny_tail (rkt_tail_ok hT) l.length (Array.replicate l.length false) a { w with drawn := w.drawn + 1 } (by simp) hC h1
  refine wp_region_any hm ?_
  have e1 : (l ++ [o]).toArray.size = l.length + 1 := by simp
  rw [e1, Array.replicate_succ]
  exact h2
end
end Go

namespace Go.Proofs.Ytmppiiamcpjhnaa
open Go.RowKit

theorem w64 {n : Int} (h : -9223372036854775808 ≤ n ∧ n ≤ 9223372036854775807) : wrap64 n = n := by unfold wrap64; omega
theorem blk_set {w : World} {g : Nat} {cs : Array Value} {t : TypeId} (h : w.heap[g]? = some (.cells cs t (0, 0))) (j : Nat) (u : Value) : (w.setCell ⟨g, j, none⟩ u).heap[g]? = some (.cells (cs.setIfInBounds j u) t (0, 0)) := by
  simp [World.setCell, Array.getElem?_modify, h]
theorem take_all {α : Type} {f : α → Bool} {xs : List α} {k : Nat} {x : α} (hx : xs[k]? = some x) (ha : (xs.take k).all f = true) (hf : f x = true) : (xs.take (k + 1)).all f = true := by
  rw [List.take_add_one, List.all_append, ha, hx]
  simp [hf]
theorem all_no {α : Type} {f : α → Bool} {xs : List α} {k : Nat} {x : α} (hx : xs[k]? = some x) (hf : f x = false) : xs.all f = false := by
  rw [List.all_eq_false]
  exact ⟨x, List.mem_of_getElem? hx, by simp [hf]⟩
theorem own_block {w : World} {base : Nat} {e : TypeId} {n g c : Nat} {xs : List Value} (h : w.ownsRow base e 1 (.slice (some ⟨g, 0, none⟩) n c) n xs) : base ≤ g ∧ n ≤ c ∧ ∃ cs, w.heap[g]? = some (.cells cs e (0, 0)) ∧ ∀ (i : Nat) (x : Value), xs[i]? = some x → cs[i]? = some x := by
  rcases h.2 with h0 | ⟨g', cap, cur, h1, h2, h3, h4, _, _, h6⟩
  · exact absurd h0.1 (by simp)
  · injection h1 with e1 e2 e3
    injection e1 with e1
    injection e1 with e1
    subst e1 e3
    refine ⟨h2, h4, cur, h3, fun i x hx => ?_⟩
    rw [← h6, List.getElem?_take] at hx
    split at hx
    · simpa using hx
    · simp at hx
theorem own_next {w w' : World} {base : Nat} {e : TypeId} {size n : Nat} {v : Value} {xs : List Value} (h : w.ownsRow base e size v n xs) (hb : Below w.heap.size w w') : w'.ownsRow base e size v n xs :=
  h.kept (row := none) ⟨hb.os, hb.tape, hb.output, hb.size, fun b hb' _ => hb.block b hb'⟩ (by
    cases hv : v.ownBlock with
    | none => exact .inl rfl
    | some _ => exact .inr (by simp))
theorem own_of_blocks {w w' : World} {base : Nat} {e : TypeId} {size n : Nat} {v : Value} {xs : List Value} (h : w.ownsRow base e size v n xs) (hk : ∀ B, v.ownBlock = some B → w'.heap[B]? = w.heap[B]?) : w'.ownsRow base e size v n xs := by
  refine ⟨h.1, ?_⟩
  rcases h.2 with h0 | ⟨k, cap, cur, rfl, hb, hh, hr⟩
  · exact .inl h0
  · exact .inr ⟨k, cap, cur, rfl, hb, (hk k rfl).trans hh, hr⟩
theorem own_at {w : World} {base : Nat} {e : TypeId} {size n : Nat} {v : Value} {xs : List Value} (h : w.ownsRow base e size v n xs) {B : Nat} (hB : v.ownBlock = some B) : base ≤ B ∧ ∃ cur, w.heap[B]? = some (.cells cur e (0, 0)) := by
  rcases h.2 with h0 | ⟨k, cap, cur, rfl, hb, hh, hr⟩
  · rw [h0.1] at hB
    simp [Value.ownBlock] at hB
  · simp [Value.ownBlock] at hB
    subst hB
    exact ⟨hb, cur, hh⟩
theorem own_mono {w : World} {base base' : Nat} {e : TypeId} {size n : Nat} {v : Value} {xs : List Value} (h : w.ownsRow base e size v n xs) (hb : base' ≤ base) : w.ownsRow base' e size v n xs := by
  refine ⟨h.1, ?_⟩
  rcases h.2 with h0 | ⟨k, cap, cur, h1, h2, h3⟩
  · exact .inl h0
  · exact .inr ⟨k, cap, cur, h1, Nat.le_trans hb h2, h3⟩
theorem own_ne {w : World} {base : Nat} {e : TypeId} {size n : Nat} {v : Value} {xs : List Value} (h : w.ownsRow base e size v n xs) {b : Nat} {o : Obj} (hb : w.heap[b]? = some o) (ho : b < base ∨ ∀ cur, o ≠ .cells cur e (0, 0)) : some b ≠ v.ownBlock := fun hv => by
  obtain ⟨h1, cur, h2⟩ := own_at h hv.symm
  rcases ho with ho | ho
  · omega
  · rw [h2] at hb
    injection hb with hb
    exact ho cur hb.symm
theorem ints_el {w : World} {B : Nat} {A : Option Addr} {row : List Int} {i : Nat} {x : Int} (h : IntsAt w B A row) (hx : row[i]? = some x) : ∃ b o, A = some ⟨b, o, none⟩ ∧ b < B ∧ w.cell? ⟨b, o + i, none⟩ = some (.int .i64 x) := by
  obtain ⟨b, o, rfl, h1, h2⟩ := h (by intro e; rw [e] at hx; simp at hx)
  exact ⟨b, o, rfl, h1, by simpa using h2 i x hx 0 _ rfl⟩
theorem heapsz {w : World} {B : Nat} {cs : Array Value} {t : TypeId} (h : w.heap[B]? = some (.cells cs t (0, 0))) : B < w.heap.size := (Array.getElem?_eq_some_iff.1 h).1
theorem box3_cells {w : World} {B : Nat} {x y z : Value} {t : TypeId} (h : w.heap[B]? = some (.cells #[x, y, z] t (0, 0))) : w.cell? ⟨B, 0, none⟩ = some x ∧ w.cell? ⟨B, 1, none⟩ = some y ∧ w.cell? ⟨B, 2, none⟩ = some z := by
  have p0 := cell_of_row w B 0 _ t (0, 0) h
  have p1 := cell_of_row w B 1 _ t (0, 0) h
  have p2 := cell_of_row w B 2 _ t (0, 0) h
  simp at p0 p1 p2
  exact ⟨p0, p1, p2⟩
theorem ret_bool {a b : Bool} (h : a = b) : Ending.returned (.bool a) = .returned (.bool b) := by rw [h]
theorem belN {w wr : World} (h : Below w.heap.size w wr) (n : Nat) : Below w.heap.size w (wr.drewN n) := ⟨h.os, h.tape, h.output, h.size, h.block⟩
theorem list_ne_of_get {α : Type} {xs ys : List α} {k : Nat} {x y : α} (hx : xs[k]? = some x) (hy : ys[k]? = some y) (h : x ≠ y) : xs ≠ ys := fun he => by
  rw [he, hy] at hx
  exact h (Option.some.inj hx).symm
theorem take_eq_succ {α : Type} {xs ys : List α} {k : Nat} {x : α} (hx : xs[k]? = some x) (hy : ys[k]? = some x) (h : xs.take k = ys.take k) : xs.take (k + 1) = ys.take (k + 1) := by
  obtain ⟨h1, e1⟩ := List.getElem?_eq_some_iff.1 hx
  obtain ⟨h2, e2⟩ := List.getElem?_eq_some_iff.1 hy
  rw [List.take_succ_eq_append_getElem h1, List.take_succ_eq_append_getElem h2, h, e1, e2]
theorem flat_get {α : Type} {k : Nat} {R : α → List Value} (hk : ∀ x, (R x).length = k) : ∀ (xs : List α) (i : Nat) (x : α) (j : Nat), xs[i]? = some x → j < k → ((xs.map R).flatten)[i * k + j]? = (R x)[j]?
  | [], i, x, j, h, _ => by simp at h
  | a :: xs, 0, x, j, h, hj => by
    simp at h
    subst h
    rw [List.map_cons, List.flatten_cons, Nat.zero_mul, Nat.zero_add, List.getElem?_append_left (by rw [hk]; exact hj)]
  | a :: xs, i + 1, x, j, h, hj => by
    rw [List.getElem?_cons_succ] at h
    rw [List.map_cons, List.flatten_cons, List.getElem?_append_right (by rw [hk, Nat.succ_mul]; omega), hk, show (i + 1) * k + j - k = i * k + j by rw [Nat.succ_mul]; omega]
    exact flat_get hk xs i x j h hj
theorem rowAt_block {α : Type} {k : Nat} {R : α → List Value} {w : World} {B b : Nat} {T : TypeId} {xs : List α} (hk : ∀ x, (R x).length = k) (h : w.heap[b]? = some (.cells ((xs.map R).flatten).toArray T (0, 0))) (hb : b < B) : RowAt k R w B (some ⟨b, 0, none⟩) xs := fun _ => by
  refine ⟨b, 0, rfl, hb, fun i x hx j v hv => ?_⟩
  have hj : j < k := by rw [← hk x]; exact (List.getElem?_eq_some_iff.1 hv).1
  rw [Nat.zero_add, cell_of_row w b _ _ T (0, 0) h, List.getElem?_toArray, flat_get hk xs i x j hx hj, hv]
end Go.Proofs.Ytmppiiamcpjhnaa

namespace Go.Proofs.Ytmppiiamcpjhnaa
open Go.RowKit

def GridAt {α : Type} (k : Nat) (R : α → List Value) (w : World) (B : Nat) (A : Option Addr) (ts : List (List α)) : Prop :=
  ts ≠ [] → ∃ b o, A = some ⟨b, o, none⟩ ∧ b < B ∧ ∀ i x, ts[i]? = some x → ∃ A' c', w.cell? ⟨b, o + i, none⟩ = some (.slice A' x.length c') ∧ RowAt k R w B A' x ∧ x.length ≤ maxLen ∧ x.length ≤ c'
theorem GridAt.next {α : Type} {k : Nat} {R : α → List Value} {w w' : World} {B B' : Nat} {A : Option Addr} {ts : List (List α)} (h : GridAt k R w B A ts) (hb : Below B w w') (hB : B ≤ B') : GridAt k R w' B' A ts := fun hne => by
  obtain ⟨b, o, rfl, hlt, hc⟩ := h hne
  refine ⟨b, o, rfl, by omega, fun i x hx => ?_⟩
  obtain ⟨A', c', h1, h2, h3⟩ := hc i x hx
  exact ⟨A', c', ((bcell hb).1 _ _ hlt).trans h1, h2.next hb hB, h3⟩
theorem GridAt.up {α : Type} {k : Nat} {R : α → List Value} {w w' : World} {A : Option Addr} {ts : List (List α)} (h : GridAt k R w w.heap.size A ts) (hb : Below w.heap.size w w') : GridAt k R w' w'.heap.size A ts := h.next hb hb.size
theorem grid_row {α : Type} {k : Nat} {R : α → List Value} {w : World} {B : Nat} {A : Option Addr} {ts : List (List α)} {t : Nat} {row : List α} (h : GridAt k R w B A ts) (ht : ts[t]? = some row) :
    ∃ b o A' m c', A = some ⟨b, o, none⟩ ∧ b < B ∧ m = row.length ∧ w.cell? ⟨b, o + t, none⟩ = some (.slice A' m c') ∧ RowAt k R w B A' row ∧ m ≤ maxLen := by
  obtain ⟨b, o, rfl, h1, h2⟩ := h (by intro e; rw [e] at ht; simp at ht)
  obtain ⟨A', c', e1, e2, e3, _⟩ := h2 t row ht
  exact ⟨b, o, A', _, c', rfl, h1, rfl, e1, e2, e3⟩

def flatR {α : Type} (R : α → List Value) (row : List α) : List Value := (row.map R).flatten
theorem flatR_snoc {α : Type} (R : α → List Value) (row : List α) (x : α) : flatR R (row ++ [x]) = flatR R row ++ R x := by simp [flatR]
theorem flatR_take {α : Type} {R : α → List Value} {row : List α} {j : Nat} {x : α} (h : row[j]? = some x) : flatR R (row.take (j + 1)) = flatR R (row.take j) ++ R x := by
  rw [List.take_add_one, h]
  exact flatR_snoc _ _ _
/-- A row that was made. -/
def RowIs {α : Type} (R : α → List Value) (eT : TypeId) (B : Nat) (row : List α) (v : Value) (w : World) : Prop :=
  (row = [] ∧ v = .slice none 0 0) ∨ ∃ b c, v = .slice (some ⟨b, 0, none⟩) row.length c ∧ B ≤ b ∧ row.length ≤ c ∧ ∃ cs, w.heap[b]? = some (.cells cs eT (0, 0)) ∧ ∀ (i : Nat) (x : Value), (flatR R row)[i]? = some x → cs[i]? = some x
theorem RowIs.of_own {α : Type} {R : α → List Value} {eT : TypeId} {B k : Nat} {row : List α} {v : Value} {w : World} (h : w.ownsRow B eT k v row.length (flatR R row)) : RowIs R eT B row v w := by
  rcases h.2 with ⟨h1, h2⟩ | ⟨g, cap, cur, h1, h2, h3, h4, _, _, h6⟩
  · exact .inl ⟨List.eq_nil_of_length_eq_zero h2, h1⟩
  · refine .inr ⟨g, cap, h1, h2, h4, cur, h3, fun i x hx => ?_⟩
    rw [← h6, List.getElem?_take] at hx
    split at hx
    · simpa using hx
    · simp at hx
theorem RowIs.keep {α : Type} {R : α → List Value} {eT : TypeId} {B : Nat} {row : List α} {v : Value} {w w' : World} (h : RowIs R eT B row v w) (hk : ∀ b cs, B ≤ b → w.heap[b]? = some (.cells cs eT (0, 0)) → w'.heap[b]? = some (.cells cs eT (0, 0))) : RowIs R eT B row v w' := by
  rcases h with h | ⟨b, c, h1, h2, h3, cs, h4, h5⟩
  · exact .inl h
  · exact .inr ⟨b, c, h1, h2, h3, cs, hk b cs h2 h4, h5⟩
theorem RowIs.at_ {α : Type} {k : Nat} {R : α → List Value} {eT : TypeId} {B : Nat} {row : List α} {v : Value} {w : World} (h : RowIs R eT B row v w) (hR : ∀ x, (R x).length = k) :
    ∃ A c, v = .slice A row.length c ∧ RowAt k R w w.heap.size A row ∧ row.length ≤ c := by
  rcases h with ⟨rfl, rfl⟩ | ⟨b, c, rfl, h2, h3, cs, h4, h5⟩
  · exact ⟨none, 0, rfl, fun h => absurd rfl h, Nat.le_refl _⟩
  · refine ⟨_, c, rfl, fun _ => ⟨b, 0, rfl, heapsz h4, fun i x hx j v hv => ?_⟩, h3⟩
    have hj : j < k := by rw [← hR x]; exact (List.getElem?_eq_some_iff.1 hv).1
    rw [Nat.zero_add, cell_of_row w b _ _ eT (0, 0) h4]
    refine h5 _ _ ?_
    unfold flatR
    rw [flat_get hR row i x j hx hj, hv]

/-- A list of rows that grows. -/
structure GrdI {α : Type} (R : α → List Value) (eT sT : TypeId) (w : World) (base : Nat) (LL : List (List α)) (lv : Value) (rows : List Value) (wr : World) : Prop where
  bel : Below w.heap.size w wr
  own : wr.ownsRow base sT 1 lv LL.length rows
  rws : rows.length = LL.length ∧ ∀ (j : Nat) (row : List α), LL[j]? = some row → ∃ v, rows[j]? = some v ∧ RowIs R eT base row v wr
  low : w.heap.size ≤ base
section
variable {α : Type} {R : α → List Value} {eT sT : TypeId} {w wr wq : World} {base : Nat} {LL : List (List α)} {lv : Value} {rows : List Value}
theorem GrdI.nil (hb : Below w.heap.size w wr) (hl : w.heap.size ≤ base) : GrdI R eT sT w base ([] : List (List α)) (.slice none 0 0) [] wr :=
  ⟨hb, World.ownsRow_nil _ _ _ _, ⟨rfl, fun j r hj => by simp at hj⟩, hl⟩
theorem GrdI.keep (h : GrdI R eT sT w base LL lv rows wr) (hb : Below w.heap.size w wq) (hk : ∀ b, base ≤ b → b < wr.heap.size → wq.heap[b]? = wr.heap[b]?) : GrdI R eT sT w base LL lv rows wq :=
  ⟨hb, Go.Proofs.Ytmppiiamcpjhnaa.own_of_blocks h.own fun B hB => hk B (own_at h.own hB).1 (by obtain ⟨_, cur, hc⟩ := own_at h.own hB; exact (Array.getElem?_eq_some_iff.1 hc).1), ⟨h.rws.1, fun j row hj => by
    obtain ⟨v, h1, h2⟩ := h.rws.2 j row hj
    exact ⟨v, h1, h2.keep fun b cs hB hc => (hk b hB (Array.getElem?_eq_some_iff.1 hc).1).trans hc⟩⟩, h.low⟩
theorem GrdI.below (h : GrdI R eT sT w base LL lv rows wr) (hb : Below wr.heap.size wr wq) : GrdI R eT sT w base LL lv rows wq :=
  h.keep (h.bel.trans (hb.mono h.bel.size)) fun b _ hlt => hb.block b hlt
/-- Another row, which was made, is appended. -/
theorem GrdI.append {v v' : Value} {row : List α} {o : Obj} (h : GrdI R eT sT w base LL lv rows wr) (hne : eT ≠ sT) (hr : RowIs R eT base row v wr)
    (ho : wq.ownsRow base sT 1 v' (LL.length + 1) (rows ++ [v])) (hq : (wr.alloc o).grownBy wq lv.ownBlock) :
    GrdI R eT sT w base (LL ++ [row]) v' (rows ++ [v]) wq := by
  have hb0 := (Below.refl wr.heap.size wr).alloc (Nat.le_refl _) o
  have hk : ∀ b cs, base ≤ b → wr.heap[b]? = some (.cells cs eT (0, 0)) → wq.heap[b]? = some (.cells cs eT (0, 0)) := fun b cs _ hx => by
    have hlt := (Array.getElem?_eq_some_iff.1 hx).1
    exact (hq.block b (by simp; omega) (own_ne h.own hx (.inr fun _ e => by injection e with _ e; exact hne e))).trans ((hb0.block b hlt).trans hx)
  refine ⟨(h.bel.trans (hb0.mono h.bel.size)).grown hq (Nat.le_trans h.bel.size hb0.size) (fun B hB => Nat.le_trans h.low (own_at h.own hB).1), by rw [List.length_append]; exact ho, ⟨by rw [List.length_append, List.length_append, h.rws.1]; rfl, fun j r hj => ?_⟩, h.low⟩
  by_cases hjl : j < LL.length
  · rw [List.getElem?_append_left hjl] at hj
    obtain ⟨u, h1, h2⟩ := h.rws.2 j r hj
    exact ⟨u, by rw [List.getElem?_append_left (by rw [h.rws.1]; exact hjl)]; exact h1, h2.keep hk⟩
  · have : j = LL.length := by
      have := (List.getElem?_eq_some_iff.1 hj).1
      simp at this
      omega
    subst this
    rw [List.getElem?_append_right (Nat.le_refl _), Nat.sub_self] at hj
    simp at hj
    subst hj
    exact ⟨v, by rw [← h.rws.1, List.getElem?_append_right (Nat.le_refl _), Nat.sub_self]; rfl, hr.keep hk⟩
/-- What was made, as rows of rows. -/
theorem GrdI.grid {k : Nat} (h : GrdI R eT sT w base LL lv rows wr) (hR : ∀ x, (R x).length = k) (h10 : ∀ row ∈ LL, row.length ≤ maxLen) :
    ∃ A3 c3, lv = .slice A3 LL.length c3 ∧ GridAt k R wr wr.heap.size A3 LL ∧ LL.length ≤ c3 ∧ Below w.heap.size w wr := by
  rcases h.own.2 with ⟨h1, h2⟩ | ⟨g, cap, cur, h1, h2, h3, h4, h5, h6, h7⟩
  · have hl : LL = [] := List.eq_nil_of_length_eq_zero h2
    subst hl
    exact ⟨none, 0, h1, fun hne => absurd rfl hne, Nat.le_refl _, h.bel⟩
  · refine ⟨_, cap, h1, fun _ => ⟨g, 0, rfl, (Array.getElem?_eq_some_iff.1 h3).1, fun i x hx => ?_⟩, h4, h.bel⟩
    obtain ⟨v, e1, e2⟩ := h.rws.2 i x hx
    obtain ⟨A, c, rfl, e3, e4⟩ := e2.at_ hR
    refine ⟨A, c, ?_, e3, h10 x (List.mem_of_getElem? hx), e4⟩
    rw [Nat.zero_add, cell_of_row wr g i _ sT (0, 0) h3]
    rw [← h7, List.getElem?_take] at e1
    split at e1
    · simpa using e1
    · simp at e1
end
end Go.Proofs.Ytmppiiamcpjhnaa

namespace Go
open Go.RowKit
section
variable {P : Program}

/-- Each operation waits for earlier ones alone. -/
def earlyB (ops : Array Oper) : Bool := (List.range ops.size).all fun i => (ops[i]?).all fun p => p.after.all fun e => !Region.binds .any e || decide (e.on < i)

theorem ri_done {ops : Array Oper} (hE : earlyB ops = true) {A : Array Bool} (hA : A.size = ops.size) (h : Region.ready .any ops A = []) : ∀ i, i < ops.size → A.getD i false = true := by
  intro i
  induction i using Nat.strongRecOn with
  | ind i ih =>
    intro hi
    cases hb : A.getD i false with
    | true => rfl
    | false =>
      exfalso
      have hm : i ∈ Region.ready .any ops A := by
        obtain ⟨p, hp⟩ : ∃ p, ops[i]? = some p := ⟨_, Array.getElem?_eq_getElem hi⟩
        refine rkt_ready_mem.2 ⟨hi, by rw [rkt_getD_both hA hi true false]; exact hb, p, hp, fun e he hbb => ?_⟩
        have h1 := List.all_eq_true.1 hE i (List.mem_range.2 hi)
        rw [hp, Option.all_some] at h1
        have := Array.all_eq_true'.1 h1 e he
        rw [hbb] at this
        have hlt : e.on < i := by simpa using this
        exact ih _ hlt (by omega)
      rw [h] at hm
      simp at hm

theorem ri_count {A : Array Bool} {n i : Nat} (hA : A.size = n) (hi : i < n) (hf : A.getD i false = false) : (A.setIfInBounds i true).toList.count false + 1 = A.toList.count false := by
  have hl : i < A.toList.length := by simpa [hA] using hi
  have hg : A.toList[i] = false := by
    have : A[i]? = some (A[i]'(by omega)) := Array.getElem?_eq_getElem (by omega)
    rw [Array.getD_eq_getD_getElem?, this] at hf
    simpa using hf
  have hpos : 0 < A.toList.count false := List.count_pos_iff.2 (by rw [← hg]; exact List.getElem_mem hl)
  have := List.count_set (a := true) (b := false) hl
  rw [hg] at this
  rw [Array.toList_setIfInBounds, this]
  generalize A.toList.count false = c at *
  simp
  omega

/-- Whatever order is picked: an invariant that each operation keeps. -/
theorem ri_any {ops : Array Oper} {Q : Exit → Act → World → Prop} (hE : earlyB ops = true) (Inv : Array Bool → Act → World → Prop)
    (hs : ∀ A a w, A.size = ops.size → Inv A a w → ∀ i o, ops[i]? = some o → A.getD i false = false → (∀ e ∈ o.after, Region.binds .any e = true → A.getD e.on false = true) → wpOp P ops Q i (Inv (A.setIfInBounds i true)) a w)
    (he : ∀ A a w, A.size = ops.size → (∀ i, i < ops.size → A.getD i false = true) → Inv A a w → Q .normal a w) :
    ∀ (fuel : Nat) (A : Array Bool) (a : Act) (w : World), A.size = ops.size → A.toList.count false ≤ fuel → Inv A a w → wpAny P .any ops Q fuel A a w
  | 0, A, a, w, hA, hc, hI => by
    have hall : ∀ i, i < ops.size → A.getD i false = true := by
      intro i hi
      cases hb : A.getD i false with
      | true => rfl
      | false => have := ri_count hA hi hb; omega
    refine ⟨?_, he A a w hA hall hI⟩
    cases hr : Region.ready .any ops A with
    | nil => rfl
    | cons i rs =>
      exfalso
      have hm : i ∈ Region.ready .any ops A := by rw [hr]; simp
      obtain ⟨h1, h2, _⟩ := rkt_ready_mem.1 hm
      rw [rkt_getD_both hA h1 true false, hall i h1] at h2
      exact absurd h2 (by decide)
  | fuel + 1, A, a, w, hA, hc, hI => by
    refine ⟨fun h0 => he A a w hA (ri_done hE hA h0) hI, fun i hi => ?_⟩
    obtain ⟨h1, h2, o, ho, h3⟩ := rkt_ready_mem.1 hi
    rw [rkt_getD_both hA h1 true false] at h2
    refine wpOp_mono (fun a' w' hh => ?_) (hs A a w hA hI i o ho h2 h3)
    exact ri_any hE Inv hs he fuel _ a' w' (by simpa using hA) (by have := ri_count hA h1 h2; omega) hh

theorem ri_region {id : Nat} {ops : Array Oper} {Q : Exit → Act → World → Prop} {a : Act} {w : World} (hm : P.follows .mixedOrders = true) (hE : earlyB ops = true) (Inv : Array Bool → Act → World → Prop)
    (h0 : Inv (Array.replicate ops.size false) a { w with drawn := w.drawn + 1 })
    (hs : ∀ A a w, A.size = ops.size → Inv A a w → ∀ i o, ops[i]? = some o → A.getD i false = false → (∀ e ∈ o.after, Region.binds .any e = true → A.getD e.on false = true) → wpOp P ops Q i (Inv (A.setIfInBounds i true)) a w)
    (he : ∀ A a w, A.size = ops.size → (∀ i, i < ops.size → A.getD i false = true) → Inv A a w → Q .normal a w) : (Code.region id ops true).wp P Q a w :=
  wp_region_any hm (ri_any hE Inv hs he ops.size _ a _ (by simp) (by simp) h0)

/-- Operands by a table of slots. -/
def evalBy (ρ : Tmp → Value) : Operand → Value
  | .tmp t => ρ t
  | .const v => v
  | .global g => .pointer (some ⟨g, 0, none⟩)
  | .func f => .func (.func f) #[] #[]

/-- What an operation has come to. -/
def Yield (P : Program) (R : Value → World → Prop) : Result Next → Prop
  | .ok (.value v) w => R v w
  | .ok .skip w => R undef w
  | .ok (.enter f args) w => Calls P f args w fun e w' => ∃ v, e = .returned v ∧ R v w'
  | _ => False

theorem Yield.wp {o : Oper} {a : Act} {w : World} {K : Act → World → Prop} {Q : Exit → Act → World → Prop} {R : Value → World → Prop} (h : Yield P R ((execOp a.eval o).run P w)) (hk : ∀ v w', R v w' → K (a.put o.dst v) w') : o.wp P a w K Q := by
  unfold Oper.wp
  generalize (execOp a.eval o).run P w = r at *
  cases r with
  | ok n w' =>
    cases n <;> simp only [Yield] at h <;> simp only [Oper.upon]
    case value u => exact hk _ _ h
    case skip => exact hk _ _ h
    case enter f args => exact h.mono fun e w'' ⟨v, he, hr⟩ => by subst he; exact hk _ _ hr
  | halt x w' => simp only [Yield] at h

/-- The operation that leaves its value in a slot. -/
def whoPuts (ops : Array Oper) (t : Tmp) : Option Nat := (List.range ops.size).find? fun j => (ops[j]?).any fun p => p.dst == some t

/-- No guards, no selects; different slots; what an operation looks at is of one that it waits for, or of a list of slots that none writes. -/
def planB (ops : Array Oper) (n : Nat) (outs : List Tmp) : Bool :=
  (List.range ops.size).all fun i => (ops[i]?).all fun o =>
    o.guard.isNone &&
    (match o.dst with | some d => decide (d < n) && whoPuts ops d == some i | none => true) &&
    o.op.operands.all fun x => match x with
      | .tmp t => (match whoPuts ops t with | some j => o.after.any fun e => Region.binds .any e && e.on == j | none => outs.contains t)
      | _ => true

structure PlanOk (ops : Array Oper) (n : Nat) (outs : List Tmp) (i : Nat) (o : Oper) : Prop where
  guard : o.guard = none
  slot : ∀ d, o.dst = some d → d < n ∧ whoPuts ops d = some i
  looks : ∀ t, Operand.tmp t ∈ o.op.operands → (∃ j, whoPuts ops t = some j ∧ ∃ e ∈ o.after, Region.binds .any e = true ∧ e.on = j) ∨ (whoPuts ops t = none ∧ t ∈ outs)
theorem planB_at {ops : Array Oper} {n : Nat} {outs : List Tmp} (h : planB ops n outs = true) {i : Nat} {o : Oper} (hi : ops[i]? = some o) : PlanOk ops n outs i o := by
  have h1 := List.all_eq_true.1 h i (List.mem_range.2 (Array.getElem?_eq_some_iff.1 hi).1)
  rw [hi, Option.all_some, Bool.and_eq_true, Bool.and_eq_true] at h1
  obtain ⟨⟨g, s⟩, l⟩ := h1
  refine ⟨by simpa using g, fun d hd => ?_, fun t ht => ?_⟩
  · rw [hd] at s
    simpa using s
  · have := Array.all_eq_true'.1 l _ ht
    simp only at this
    cases hw : whoPuts ops t with
    | none =>
      rw [hw] at this
      exact .inr ⟨rfl, by simpa using this⟩
    | some j =>
      rw [hw] at this
      obtain ⟨e, he, hb⟩ := Array.any_eq_true'.1 this
      rw [Bool.and_eq_true] at hb
      exact .inl ⟨j, rfl, e, he, hb.1, by simpa using hb.2⟩
theorem whoPuts_spec {ops : Array Oper} {t : Tmp} {j : Nat} (h : whoPuts ops t = some j) : ∃ p, ops[j]? = some p ∧ p.dst = some t := by
  have := List.find?_some h
  cases hp : ops[j]? with
  | none => rw [hp] at this; simp at this
  | some p =>
    rw [hp] at this
    exact ⟨p, rfl, by simpa using this⟩

/-- All slots that the operations write, as the table has them. -/
def putAll (ρ : Tmp → Value) : List Oper → Act → Act
  | [], a => a
  | o :: l, a => putAll ρ l (match o.dst with | some d => a.put (some d) (ρ d) | none => a)
theorem putAll_defers (ρ : Tmp → Value) : ∀ (l : List Oper) (a : Act), (putAll ρ l a).defers = a.defers ∧ (putAll ρ l a).tmps.size = a.tmps.size
  | [], _ => ⟨rfl, rfl⟩
  | o :: l, a => by
    obtain ⟨h1, h2⟩ := putAll_defers ρ l (match o.dst with | some d => a.put (some d) (ρ d) | none => a)
    rw [putAll, h1, h2]
    cases o.dst <;> simp [Act.put]
theorem putAll_at (ρ : Tmp → Value) : ∀ (l : List Oper) (a : Act) (t : Tmp), t < a.tmps.size → (putAll ρ l a).tmps[t]? = if ∃ o ∈ l, o.dst = some t then some (ρ t) else a.tmps[t]?
  | [], a, t, _ => by simp [putAll]
  | o :: l, a, t, ht => by
    rw [putAll, putAll_at ρ l _ t (by cases o.dst <;> simpa [Act.put] using ht)]
    by_cases h : ∃ o ∈ l, o.dst = some t
    · rw [if_pos h, if_pos (by obtain ⟨p, hp, e⟩ := h; exact ⟨p, List.mem_cons_of_mem _ hp, e⟩)]
    · rw [if_neg h]
      cases hd : o.dst with
      | none =>
        rw [if_neg (by rintro ⟨p, hp, e⟩; rcases List.mem_cons.1 hp with rfl | hp; · rw [hd] at e; exact absurd e (by simp)
                       · exact h ⟨p, hp, e⟩)]
      | some d =>
        by_cases hdt : d = t
        · subst hdt
          rw [if_pos ⟨o, List.mem_cons_self, hd⟩]
          show (a.tmps.setIfInBounds d (ρ d))[d]? = _
          rw [Array.getElem?_setIfInBounds, if_pos rfl, if_pos ht]
        · rw [if_neg (by
            rintro ⟨p, hp, e⟩
            rcases List.mem_cons.1 hp with rfl | hp
            · rw [hd] at e
              exact hdt (Option.some.inj e)
            · exact h ⟨p, hp, e⟩)]
          show (a.tmps.setIfInBounds d (ρ d))[t]? = _
          rw [Array.getElem?_setIfInBounds, if_neg hdt]

/-- An activation while the region runs. -/
structure PRan (ops : Array Oper) (a0 : Act) (ρ : Tmp → Value) (A : Array Bool) (a : Act) : Prop where
  defs : a.defers = a0.defers
  size : a.tmps.size = a0.tmps.size
  other : ∀ t, (∀ (i : Nat) (o : Oper), ops[i]? = some o → o.dst ≠ some t) → a.tmps[t]? = a0.tmps[t]?
  done : ∀ (i : Nat) (o : Oper) (d : Tmp), ops[i]? = some o → o.dst = some d → A.getD i false = true → a.tmps[d]? = some (ρ d)

def updB (f : Nat → Bool) (i : Nat) : Nat → Bool := fun j => if j = i then true else f j

/-- **One obligation an operation, whatever order is picked.** 'γ': what hangs on the order; 'ρ': the slots; 'S': memory after some operations. -/
theorem plan_region {γ : Type} {id : Nat} {ops : Array Oper} {Q : Exit → Act → World → Prop} {a0 : Act} {w : World} (outs : List Tmp) (ρ : γ → Tmp → Value) (S : (Nat → Bool) → γ → World → Prop) (g0 : γ)
    (hm : P.follows .mixedOrders = true) (hE : earlyB ops = true) (hN : Region.noSelect ops = true) (hD : planB ops a0.tmps.size outs = true) (hU : outs.all (fun t => (whoPuts ops t).isNone) = true) (hout : ∀ t ∈ outs, a0.eval (.tmp t) = ρ g0 t)
    (h0 : S (fun _ => false) g0 { w with drawn := w.drawn + 1 })
    (hs : ∀ i o, ops[i]? = some o → ∀ done g w, S done g w → done i = false → (∀ e ∈ o.after, Region.binds .any e = true → done e.on = true) → (∀ t ∈ outs, ρ g t = ρ g0 t) →
      Yield P (fun v w' => ∃ g', S (updB done i) g' w' ∧ (∀ d, o.dst = some d → ρ g' d = v) ∧ ∀ t, o.dst ≠ some t → ρ g' t = ρ g t) ((execOp (evalBy (ρ g)) o).run P w))
    (he : ∀ g w, S (fun i => decide (i < ops.size)) g w → Q .normal (putAll (ρ g) ops.toList a0) w) : (Code.region id ops true).wp P Q a0 w := by
  refine ri_region hm hE (fun A a w => ∃ g, S (fun i => A.getD i false) g w ∧ PRan ops a0 (ρ g) A a ∧ ∀ t ∈ outs, ρ g t = ρ g0 t) ?_ ?_ ?_
  · refine ⟨g0, ?_, ⟨rfl, rfl, fun _ _ => rfl, fun i o d hi _ hd => ?_⟩, fun _ _ => rfl⟩
    · have : (fun i => (Array.replicate ops.size false).getD i false) = fun _ => false := by
        funext i
        by_cases h : i < ops.size <;> simp [Array.getD_eq_getD_getElem?, h]
      rw [this]
      exact h0
    · have : i < ops.size := (Array.getElem?_eq_some_iff.1 hi).1
      simp [Array.getD_eq_getD_getElem?, this] at hd
  · rintro A a w hA ⟨g, hS, hR, hO⟩ i o hi hu hdep
    have K := planB_at hD hi
    have hlt : i < ops.size := (Array.getElem?_eq_some_iff.1 hi).1
    unfold wpOp
    have hwant : Region.wanted o (yielded ops a.tmps) = true := by unfold Region.wanted; rw [K.guard]
    simp only [hi, hwant, if_true]
    refine .inl ?_
    have hcong : execOp a.eval o = execOp (evalBy (ρ g)) o := by
      refine execOp_congr o (fun cs b => Region.noSelect_spec hN i o cs b hi) fun x hx => ?_
      cases x with
      | const v => rfl
      | global v => rfl
      | func f => rfl
      | tmp t =>
        rcases K.looks t hx with ⟨j, hj, e, he, hb, rfl⟩ | ⟨hn, ho⟩
        · obtain ⟨p, hp, hpd⟩ := whoPuts_spec hj
          have := hR.done e.on p t hp hpd (hdep e he hb)
          simp [Act.eval, evalBy, Array.getD_eq_getD_getElem?, this]
        · have hnone : ∀ (i : Nat) (o : Oper), ops[i]? = some o → o.dst ≠ some t := fun i o hi hd => by
            have := (planB_at hD hi).slot t hd
            rw [hn] at this
            exact absurd this.2 (by simp)
          show a.eval (.tmp t) = ρ g t
          rw [hO t ho, ← hout t ho]
          simp [Act.eval, Array.getD_eq_getD_getElem?, hR.other t hnone]
    refine Yield.wp (R := fun v w' => ∃ g', S (updB (fun i => A.getD i false) i) g' w' ∧ (∀ d, o.dst = some d → ρ g' d = v) ∧ ∀ t, o.dst ≠ some t → ρ g' t = ρ g t) ?_ ?_
    · rw [hcong]
      exact hs i o hi _ g w hS hu hdep hO
    · rintro v w' ⟨g', hS', hv, hk⟩
      have hset : (fun j => (A.setIfInBounds i true).getD j false) = updB (fun j => A.getD j false) i := by
        funext j
        unfold updB
        by_cases hj : j = i
        · subst hj
          simp [Array.getD_eq_getD_getElem?, show j < A.size by omega]
        · simp [Array.getD_eq_getD_getElem?, Ne.symm hj, hj]
      refine ⟨g', by rw [hset]; exact hS', ?_, fun t ht => ?_⟩
      · have hres : ∀ j, j ≠ i → (A.setIfInBounds i true).getD j false = A.getD j false := fun j hne => by
          have := congrFun hset j
          simpa [updB, hne] using this
        cases hd : o.dst with
        | none =>
          refine ⟨hR.defs, hR.size, hR.other, fun j p d hj hjd hdone => ?_⟩
          by_cases hji : j = i
          · subst hji
            rw [hi] at hj
            injection hj with hj
            subst hj
            rw [hd] at hjd
            exact absurd hjd (by simp)
          · rw [hres j hji] at hdone
            rw [hk d (by rw [hd]; simp)]
            exact hR.done j p d hj hjd hdone
        | some d =>
          obtain ⟨hdl, hap⟩ := K.slot d hd
          refine ⟨hR.defs, by simpa [Act.put] using hR.size, fun t ht => ?_, fun j p e hj hje hdone => ?_⟩
          · have hne : d ≠ t := fun e => ht i o hi (by rw [hd, e])
            show (a.tmps.setIfInBounds d v)[t]? = _
            rw [Array.getElem?_setIfInBounds, if_neg hne]
            exact hR.other t ht
          · by_cases hed : d = e
            · subst hed
              show (a.tmps.setIfInBounds d v)[d]? = _
              rw [Array.getElem?_setIfInBounds, if_pos rfl, if_pos (by rw [hR.size]; exact hdl), hv d hd]
            · have hji : j ≠ i := fun e' => by
                subst e'
                rw [hi] at hj
                injection hj with hj
                subst hj
                rw [hd] at hje
                exact hed (Option.some.inj hje)
              rw [hres j hji] at hdone
              show (a.tmps.setIfInBounds d v)[e]? = _
              rw [Array.getElem?_setIfInBounds, if_neg hed, hk e (by rw [hd]; intro h; exact hed (Option.some.inj h))]
              exact hR.done j p e hj hje hdone
      · have hn : o.dst ≠ some t := fun hd => by
          have h1 := (K.slot t hd).2
          have h2 := List.all_eq_true.1 hU t ht
          rw [h1] at h2
          exact absurd h2 (by simp)
        rw [hk t hn]
        exact hO t ht
  · rintro A a w hA hall ⟨g, hS, hR, _⟩
    have hfun : (fun i => A.getD i false) = fun i => decide (i < ops.size) := by
      funext i
      by_cases h : i < ops.size
      · simp [hall i h, h]
      · simp [Array.getD_eq_getD_getElem?, Array.getElem?_eq_none (show A.size ≤ i by omega), h]
    rw [hfun] at hS
    have hact : a = putAll (ρ g) ops.toList a0 := by
      obtain ⟨p1, p2⟩ := putAll_defers (ρ g) ops.toList a0
      have ht : a.tmps = (putAll (ρ g) ops.toList a0).tmps := by
        apply Array.ext_getElem?
        intro t
        by_cases hlt : t < a0.tmps.size
        · rw [putAll_at (ρ g) ops.toList a0 t hlt]
          by_cases hx : ∃ o ∈ ops.toList, o.dst = some t
          · rw [if_pos hx]
            obtain ⟨o, ho, hd⟩ := hx
            obtain ⟨i, hi⟩ := List.getElem?_of_mem ho
            have hi' : ops[i]? = some o := by simpa using hi
            exact hR.done i o t hi' hd (hall i (Array.getElem?_eq_some_iff.1 hi').1)
          · rw [if_neg hx]
            exact hR.other t fun i o hi hd => hx ⟨o, by simpa using Array.mem_of_getElem? hi, hd⟩
        · rw [Array.getElem?_eq_none (by rw [hR.size]; omega), Array.getElem?_eq_none (by rw [p2]; omega)]
      obtain ⟨at_, ad⟩ := a
      have hd := hR.defs
      simp only at ht hd
      subst ht
      rw [← p1] at hd
      subst hd
      rfl
    rw [hact]
    exact he g w hS
end
end Go
/- A region that draws its order, some of whose operations are guarded, by a plan; and one whose operations keep what was there, and leave values of which something is known. -/
namespace Go
open Go.RowKit
section
variable {P : Program}
/-- What a guard says, by a table of slots. -/
def yieldedBy (ops : Array Oper) (ρ : Tmp → Value) (j : Nat) : Option Bool :=
  match (ops[j]?).bind (·.dst) with
  | some d => match ρ d with
    | .bool b => some b
    | _ => none
  | none => none
def planGB (ops : Array Oper) (n : Nat) (outs : List Tmp) : Bool :=
  (List.range ops.size).all fun i => (ops[i]?).all fun o =>
    (match o.guard with | some (j, _) => o.after.any fun e => Region.binds .any e && e.on == j | none => true) &&
    (match o.dst with | some d => decide (d < n) && whoPuts ops d == some i | none => true) &&
    o.op.operands.all fun x => match x with
      | .tmp t => (match whoPuts ops t with | some j => o.after.any fun e => Region.binds .any e && e.on == j | none => outs.contains t)
      | _ => true
structure PlanGOk (ops : Array Oper) (n : Nat) (outs : List Tmp) (i : Nat) (o : Oper) : Prop where
  guard : ∀ j b, o.guard = some (j, b) → ∃ e ∈ o.after, Region.binds .any e = true ∧ e.on = j
  slot : ∀ d, o.dst = some d → d < n ∧ whoPuts ops d = some i
  looks : ∀ t, Operand.tmp t ∈ o.op.operands → (∃ j, whoPuts ops t = some j ∧ ∃ e ∈ o.after, Region.binds .any e = true ∧ e.on = j) ∨ (whoPuts ops t = none ∧ t ∈ outs)
theorem planGB_at {ops : Array Oper} {n : Nat} {outs : List Tmp} (h : planGB ops n outs = true) {i : Nat} {o : Oper} (hi : ops[i]? = some o) : PlanGOk ops n outs i o := by
  have h1 := List.all_eq_true.1 h i (List.mem_range.2 (Array.getElem?_eq_some_iff.1 hi).1)
  rw [hi, Option.all_some, Bool.and_eq_true, Bool.and_eq_true] at h1
  obtain ⟨⟨g, s⟩, l⟩ := h1
  refine ⟨fun j b hg => ?_, fun d hd => ?_, fun t ht => ?_⟩
  · rw [hg] at g
    obtain ⟨e, he, hb⟩ := Array.any_eq_true'.1 g
    rw [Bool.and_eq_true] at hb
    exact ⟨e, he, hb.1, by simpa using hb.2⟩
  · rw [hd] at s
    simpa using s
  · have := Array.all_eq_true'.1 l _ ht
    simp only at this
    cases hw : whoPuts ops t with
    | none =>
      rw [hw] at this
      exact .inr ⟨rfl, by simpa using this⟩
    | some j =>
      rw [hw] at this
      obtain ⟨e, he, hb⟩ := Array.any_eq_true'.1 this
      rw [Bool.and_eq_true] at hb
      exact .inl ⟨j, rfl, e, he, hb.1, by simpa using hb.2⟩
/-- **One obligation an operation, whatever order is picked.** 'γ': what hangs on the order; 'ρ': the slots; 'S': memory after some operations. -/
theorem plan_guarded_any {γ : Type} {ops : Array Oper} {Q : Exit → Act → World → Prop} {a0 : Act} {w : World} (outs : List Tmp) (ρ : γ → Tmp → Value) (S : (Nat → Bool) → γ → World → Prop) (g0 : γ)
    (hE : earlyB ops = true) (hN : Region.noSelect ops = true) (hD : planGB ops a0.tmps.size outs = true) (hU : outs.all (fun t => (whoPuts ops t).isNone) = true) (hout : ∀ t ∈ outs, a0.eval (.tmp t) = ρ g0 t)
    (h0 : S (fun _ => false) g0 { w with drawn := w.drawn + 1 })
    (hs : ∀ i o, ops[i]? = some o → ∀ done g w, S done g w → done i = false → (∀ e ∈ o.after, Region.binds .any e = true → done e.on = true) → (∀ t ∈ outs, ρ g t = ρ g0 t) →
      Region.wanted o (yieldedBy ops (ρ g)) = true ∧ Yield P (fun v w' => ∃ g', S (updB done i) g' w' ∧ (∀ d, o.dst = some d → ρ g' d = v) ∧ ∀ t, o.dst ≠ some t → ρ g' t = ρ g t) ((execOp (evalBy (ρ g)) o).run P w))
    (he : ∀ g w, S (fun i => decide (i < ops.size)) g w → Q .normal (putAll (ρ g) ops.toList a0) w) : wpAny P .any ops Q ops.size (Array.replicate ops.size false) a0 { w with drawn := w.drawn + 1 } := by
  refine ri_any hE (fun A a w => ∃ g, S (fun i => A.getD i false) g w ∧ PRan ops a0 (ρ g) A a ∧ ∀ t ∈ outs, ρ g t = ρ g0 t) ?_ ?_ ops.size _ a0 _ (by simp) (by simp) ?_
  rotate_left 2
  · refine ⟨g0, ?_, ⟨rfl, rfl, fun _ _ => rfl, fun i o d hi _ hd => ?_⟩, fun _ _ => rfl⟩
    · have : (fun i => (Array.replicate ops.size false).getD i false) = fun _ => false := by
        funext i
        by_cases h : i < ops.size <;> simp [Array.getD_eq_getD_getElem?, h]
      rw [this]
      exact h0
    · have : i < ops.size := (Array.getElem?_eq_some_iff.1 hi).1
      simp [Array.getD_eq_getD_getElem?, this] at hd
  · rintro A a w hA ⟨g, hS, hR, hO⟩ i o hi hu hdep
    have K := planGB_at hD hi
    have hlt : i < ops.size := (Array.getElem?_eq_some_iff.1 hi).1
    unfold wpOp
    obtain ⟨hw0, hy0⟩ := hs i o hi _ g w hS hu hdep hO
    have hwant : Region.wanted o (yielded ops a.tmps) = true := by
      rw [← hw0]
      unfold Region.wanted
      cases hg : o.guard with
      | none => rfl
      | some jb =>
        obtain ⟨j, b⟩ := jb
        obtain ⟨e, he, hb, rfl⟩ := K.guard j b hg
        simp only
        unfold yielded yieldedBy
        cases ho : ops[e.on]? with
        | none => rfl
        | some p =>
          cases hd : p.dst with
          | none => simp [hd]
          | some d =>
            simp only [Option.bind_some, hd, hR.done e.on p d ho hd (hdep e he hb)]
            cases ρ g d <;> rfl
    simp only [hi, hwant, if_true]
    refine .inl ?_
    have hcong : execOp a.eval o = execOp (evalBy (ρ g)) o := by
      refine execOp_congr o (fun cs b => Region.noSelect_spec hN i o cs b hi) fun x hx => ?_
      cases x with
      | const v => rfl
      | global v => rfl
      | func f => rfl
      | tmp t =>
        rcases K.looks t hx with ⟨j, hj, e, he, hb, rfl⟩ | ⟨hn, ho⟩
        · obtain ⟨p, hp, hpd⟩ := whoPuts_spec hj
          have := hR.done e.on p t hp hpd (hdep e he hb)
          simp [Act.eval, evalBy, Array.getD_eq_getD_getElem?, this]
        · have hnone : ∀ (i : Nat) (o : Oper), ops[i]? = some o → o.dst ≠ some t := fun i o hi hd => by
            have := (planGB_at hD hi).slot t hd
            rw [hn] at this
            exact absurd this.2 (by simp)
          show a.eval (.tmp t) = ρ g t
          rw [hO t ho, ← hout t ho]
          simp [Act.eval, Array.getD_eq_getD_getElem?, hR.other t hnone]
    refine Yield.wp (R := fun v w' => ∃ g', S (updB (fun i => A.getD i false) i) g' w' ∧ (∀ d, o.dst = some d → ρ g' d = v) ∧ ∀ t, o.dst ≠ some t → ρ g' t = ρ g t) ?_ ?_
    · rw [hcong]
      exact hy0
    · rintro v w' ⟨g', hS', hv, hk⟩
      have hset : (fun j => (A.setIfInBounds i true).getD j false) = updB (fun j => A.getD j false) i := by
        funext j
        unfold updB
        by_cases hj : j = i
        · subst hj
          simp [Array.getD_eq_getD_getElem?, show j < A.size by omega]
        · simp [Array.getD_eq_getD_getElem?, Ne.symm hj, hj]
      refine ⟨g', by rw [hset]; exact hS', ?_, fun t ht => ?_⟩
      · have hres : ∀ j, j ≠ i → (A.setIfInBounds i true).getD j false = A.getD j false := fun j hne => by
          have := congrFun hset j
          simpa [updB, hne] using this
        cases hd : o.dst with
        | none =>
          refine ⟨hR.defs, hR.size, hR.other, fun j p d hj hjd hdone => ?_⟩
          by_cases hji : j = i
          · subst hji
            rw [hi] at hj
            injection hj with hj
            subst hj
            rw [hd] at hjd
            exact absurd hjd (by simp)
          · rw [hres j hji] at hdone
            rw [hk d (by rw [hd]; simp)]
            exact hR.done j p d hj hjd hdone
        | some d =>
          obtain ⟨hdl, hap⟩ := K.slot d hd
          refine ⟨hR.defs, by simpa [Act.put] using hR.size, fun t ht => ?_, fun j p e hj hje hdone => ?_⟩
          · have hne : d ≠ t := fun e => ht i o hi (by rw [hd, e])
            show (a.tmps.setIfInBounds d v)[t]? = _
            rw [Array.getElem?_setIfInBounds, if_neg hne]
            exact hR.other t ht
          · by_cases hed : d = e
            · subst hed
              show (a.tmps.setIfInBounds d v)[d]? = _
              rw [Array.getElem?_setIfInBounds, if_pos rfl, if_pos (by rw [hR.size]; exact hdl), hv d hd]
            · have hji : j ≠ i := fun e' => by
                subst e'
                rw [hi] at hj
                injection hj with hj
                subst hj
                rw [hd] at hje
                exact hed (Option.some.inj hje)
              rw [hres j hji] at hdone
              show (a.tmps.setIfInBounds d v)[e]? = _
              rw [Array.getElem?_setIfInBounds, if_neg hed, hk e (by rw [hd]; intro h; exact hed (Option.some.inj h))]
              exact hR.done j p e hj hje hdone
      · have hn : o.dst ≠ some t := fun hd => by
          have h1 := (K.slot t hd).2
          have h2 := List.all_eq_true.1 hU t ht
          rw [h1] at h2
          exact absurd h2 (by simp)
        rw [hk t hn]
        exact hO t ht
  · rintro A a w hA hall ⟨g, hS, hR, _⟩
    have hfun : (fun i => A.getD i false) = fun i => decide (i < ops.size) := by
      funext i
      by_cases h : i < ops.size
      · simp [hall i h, h]
      · simp [Array.getD_eq_getD_getElem?, Array.getElem?_eq_none (show A.size ≤ i by omega), h]
    rw [hfun] at hS
    have hact : a = putAll (ρ g) ops.toList a0 := by
      obtain ⟨p1, p2⟩ := putAll_defers (ρ g) ops.toList a0
      have ht : a.tmps = (putAll (ρ g) ops.toList a0).tmps := by
        apply Array.ext_getElem?
        intro t
        by_cases hlt : t < a0.tmps.size
        · rw [putAll_at (ρ g) ops.toList a0 t hlt]
          by_cases hx : ∃ o ∈ ops.toList, o.dst = some t
          · rw [if_pos hx]
            obtain ⟨o, ho, hd⟩ := hx
            obtain ⟨i, hi⟩ := List.getElem?_of_mem ho
            have hi' : ops[i]? = some o := by simpa using hi
            exact hR.done i o t hi' hd (hall i (Array.getElem?_eq_some_iff.1 hi').1)
          · rw [if_neg hx]
            exact hR.other t fun i o hi hd => hx ⟨o, by simpa using Array.mem_of_getElem? hi, hd⟩
        · rw [Array.getElem?_eq_none (by rw [hR.size]; omega), Array.getElem?_eq_none (by rw [p2]; omega)]
      obtain ⟨at_, ad⟩ := a
      have hd := hR.defs
      simp only at ht hd
      subst ht
      rw [← p1] at hd
      subst hd
      rfl
    rw [hact]
    exact he g w hS
def relOf : List (Tmp × Nat) → Tmp → Option Nat
  | [], _ => none
  | (s, i) :: r, t => if t = s then some i else relOf r t
theorem relOf_mem : ∀ {l : List (Tmp × Nat)} {t : Tmp} {i : Nat}, relOf l t = some i → (t, i) ∈ l
  | [], _, _, h => by simp [relOf] at h
  | (s, j) :: r, t, i, h => by
    unfold relOf at h
    split at h
    · rename_i e
      subst e
      injection h with h
      subst h
      exact List.mem_cons_self
    · exact List.mem_cons_of_mem _ (relOf_mem h)
/-- Slots: those of 'rels' hold what hangs on the order, all others what 'cv' says. -/
def rhoT (rels : List (Tmp × Nat)) (cv : Tmp → Value) (g : Nat → Value) (t : Tmp) : Value :=
  match relOf rels t with
  | some i => g i
  | none => cv t
def relB (ops : Array Oper) (rels : List (Tmp × Nat)) : Bool := rels.all fun p => whoPuts ops p.1 == some p.2
/-- **A region whose operations keep all that was there.** 'F i v w': what is known of what operation i has left; it must outlast whatever keeps what was there. -/
theorem rel_any {ops : Array Oper} {Q : Exit → Act → World → Prop} {a0 : Act} {w : World} (outs : List Tmp) (rels : List (Tmp × Nat)) (cv : Tmp → Value) (F : Nat → Value → World → Prop)
    (hE : earlyB ops = true) (hN : Region.noSelect ops = true) (hD : planGB ops a0.tmps.size outs = true) (hU : outs.all (fun t => (whoPuts ops t).isNone) = true) (hR : relB ops rels = true) (hout : ∀ t ∈ outs, a0.eval (.tmp t) = cv t)
    (hF : ∀ i v w1 w2, F i v w1 → Below w1.heap.size w1 w2 → F i v w2)
    (hs : ∀ i o, ops[i]? = some o → ∀ (g : Nat → Value) (u : KeptW w), (∀ e ∈ o.after, Region.binds .any e = true → F e.on (g e.on) u.w) →
      Region.wanted o (yieldedBy ops (rhoT rels cv g)) = true ∧ Yield P (fun v w' => Below u.w.heap.size u.w w' ∧ F i v w' ∧ ∀ d, o.dst = some d → relOf rels d = none → v = cv d) ((execOp (evalBy (rhoT rels cv g)) o).run P u.w))
    (he : ∀ (g : Nat → Value) (u : KeptW w), (∀ i, i < ops.size → F i (g i) u.w) → Q .normal (putAll (rhoT rels cv g) ops.toList a0) u.w) : wpAny P .any ops Q ops.size (Array.replicate ops.size false) a0 { w with drawn := w.drawn + 1 } := by
  have r0 : ∀ {t : Tmp} {i : Nat}, relOf rels t = some i → whoPuts ops t = some i := fun {t i} h => by
    have := List.all_eq_true.1 hR _ (relOf_mem h)
    simpa using this
  have r1 : ∀ {i : Nat} {o : Oper} {d : Tmp}, ops[i]? = some o → o.dst = some d → relOf rels d = none ∨ relOf rels d = some i := fun {i o d} hi hd => by
    cases h : relOf rels d with
    | none => exact .inl rfl
    | some j =>
      have h1 := ((planGB_at hD hi).slot d hd).2
      rw [r0 h] at h1
      exact .inr h1
  have r2 : ∀ t ∈ outs, relOf rels t = none := fun t ht => by
    cases h : relOf rels t with
    | none => rfl
    | some j =>
      have h1 := List.all_eq_true.1 hU t ht
      rw [r0 h] at h1
      exact absurd h1 (by simp)
  refine plan_guarded_any (γ := Nat → Value) outs (rhoT rels cv) (fun done g w' => (∃ u : KeptW w, w' = u.w) ∧ ∀ j, done j = true → F j (g j) w') (fun _ => undef) hE hN hD hU (fun t ht => by rw [hout t ht]; unfold rhoT; rw [r2 t ht]) ⟨⟨⟨w.drew, (Below.refl w.heap.size w).drew⟩, rfl⟩, fun j hj => by simp at hj⟩ ?_ ?_
  · rintro i o hi done g _ ⟨⟨u, rfl⟩, hd⟩ hu hdep _
    obtain ⟨h1, h2⟩ := hs i o hi g u (fun e he hb => hd e.on (hdep e he hb))
    refine ⟨h1, ?_⟩
    have key : ∀ v w', (Below u.w.heap.size u.w w' ∧ F i v w' ∧ ∀ d, o.dst = some d → relOf rels d = none → v = cv d) →
        ∃ g', ((∃ u : KeptW w, w' = u.w) ∧ ∀ j, updB done i j = true → F j (g' j) w') ∧ (∀ d, o.dst = some d → rhoT rels cv g' d = v) ∧ ∀ t, o.dst ≠ some t → rhoT rels cv g' t = rhoT rels cv g t := by
      rintro v w' ⟨hb, hf, hc⟩
      refine ⟨fun j => if j = i then v else g j, ⟨⟨⟨w', u.h.trans (hb.mono u.h.size)⟩, rfl⟩, fun j hj => ?_⟩, fun d hd' => ?_, fun t ht => ?_⟩
      · by_cases hji : j = i
        · subst hji
          show F j (if j = j then v else g j) w'
          rw [if_pos rfl]
          exact hf
        · show F j (if j = i then v else g j) w'
          rw [if_neg hji]
          unfold updB at hj
          rw [if_neg hji] at hj
          exact hF j (g j) u.w w' (hd j hj) hb
      · unfold rhoT
        rcases r1 hi hd' with hr | hr
        · rw [hr]
          exact (hc d hd' hr).symm
        · rw [hr]
          exact if_pos rfl
      · unfold rhoT
        cases hr : relOf rels t with
        | none => rfl
        | some j =>
          by_cases hji : j = i
          · subst hji
            exfalso
            obtain ⟨p, hp, hpd⟩ := whoPuts_spec (r0 hr)
            rw [hi] at hp
            injection hp with hp
            subst hp
            exact ht hpd
          · exact if_neg hji
    cases hr : (execOp (evalBy (rhoT rels cv g)) o).run P u.w with
    | ok n w' =>
      rw [hr] at h2
      cases n <;> simp only [Yield] at h2 ⊢
      case value v => exact key _ _ h2
      case skip => exact key _ _ h2
      case enter f args => exact h2.mono fun e w'' ⟨v, he, hh⟩ => ⟨v, he, key _ _ hh⟩
    | halt x w' => rw [hr] at h2; simp only [Yield] at h2
  · rintro g _ ⟨⟨u, rfl⟩, hd⟩
    exact he g u (fun i hi => hd i (by simpa using hi))
theorem rel_region {id : Nat} {ops : Array Oper} {Q : Exit → Act → World → Prop} {a0 : Act} {w : World} (outs : List Tmp) (rels : List (Tmp × Nat)) (cv : Tmp → Value) (F : Nat → Value → World → Prop)
    (hm : P.follows .mixedOrders = true) (hE : earlyB ops = true) (hN : Region.noSelect ops = true) (hD : planGB ops a0.tmps.size outs = true) (hU : outs.all (fun t => (whoPuts ops t).isNone) = true) (hR : relB ops rels = true) (hout : ∀ t ∈ outs, a0.eval (.tmp t) = cv t)
    (hF : ∀ i v w1 w2, F i v w1 → Below w1.heap.size w1 w2 → F i v w2)
    (hs : ∀ i o, ops[i]? = some o → ∀ (g : Nat → Value) (u : KeptW w), (∀ e ∈ o.after, Region.binds .any e = true → F e.on (g e.on) u.w) →
      Region.wanted o (yieldedBy ops (rhoT rels cv g)) = true ∧ Yield P (fun v w' => Below u.w.heap.size u.w w' ∧ F i v w' ∧ ∀ d, o.dst = some d → relOf rels d = none → v = cv d) ((execOp (evalBy (rhoT rels cv g)) o).run P u.w))
    (he : ∀ (g : Nat → Value) (u : KeptW w), (∀ i, i < ops.size → F i (g i) u.w) → Q .normal (putAll (rhoT rels cv g) ops.toList a0) u.w) : (Code.region id ops true).wp P Q a0 w :=
  wp_region_any hm (rel_any outs rels cv F hE hN hD hU hR hout hF hs he)

/-- What is asked behind all operations but the last one. -/
def QT (P : Program) (o : Oper) (Q : Exit → Act → World → Prop) : Exit → Act → World → Prop
  | .normal, a, w => o.wp P a w (Q .normal) Q
  | .exit n, a, w => Q (.exit n) a w
  | .goto n, a, w => Q (.goto n) a w
  | .ret, a, w => Q .ret a w
  | .panic c, a, w => Q (.panic c) a w
  | .outgrown, a, w => Q .outgrown a w
theorem QT_upon {o p : Oper} {Q : Exit → Act → World → Prop} {K : Act → World → Prop} {a : Act} {w : World} (h : p.wp P a w K (QT P o Q)) : p.wp P a w K Q := by
  unfold Oper.wp at *
  generalize (execOp a.eval p).run P w = r at *
  cases r with
  | ok n w' =>
    cases n <;> simp only [Oper.upon] at h ⊢ <;> first | exact h | (exact h.mono fun e w'' he => by cases e <;> exact he)
  | halt x w' => cases x <;> simp only [Oper.upon] at h ⊢ <;> exact h
theorem QT_op {ops : Array Oper} {o : Oper} {Q : Exit → Act → World → Prop} {i : Nat} {K : Act → World → Prop} {a : Act} {w : World} (h : wpOp P ops (QT P o Q) i K a w) : wpOp P ops Q i K a w := by
  unfold wpOp at *
  split
  · rename_i hn
    simpa [hn] using h
  · rename_i p hp
    simp only [hp] at h
    split
    · rename_i hw
      simp only [hw, if_true] at h
      exact h.imp QT_upon id
    · rename_i hw
      simpa [hw] using h
/-- The last operation waits for all others: the others in any order, and the last one behind them. -/
theorem tail_any {l : List Oper} {o : Oper} (T : TailOk l o) {Q : Exit → Act → World → Prop} : ∀ (fuel : Nat) (A : Array Bool) (a : Act) (w : World), A.size = l.length →
    wpAny P .any l.toArray (QT P o Q) fuel A a w → wpAny P .any (l ++ [o]).toArray Q (fuel + 1) (A.push false) a w
  | 0, A, a, w, hA, h => by
    have hall := (rkt_ready_nil_iff T hA).1 h.1
    refine ⟨fun h0 => ?_, fun i hi => ?_⟩
    · have := rkt_last_ready T hA hall
      rw [h0] at this
      simp at this
    · by_cases hl : i < l.length
      · have := (rkt_ready_low T hA false hl).1 hi
        rw [h.1] at this
        simp at this
      · have hs : i < l.length + 1 := by simpa using (rkt_ready_mem.1 hi).1
        have : i = l.length := by omega
        subst this
        exact rkt_wp_last (C := fun w' => w' = w) T hA hall 0 rfl (fun w' e => by subst e; exact h.2)
  | fuel + 1, A, a, w, hA, h => by
    refine ⟨fun h0 => ?_, fun i hi => ?_⟩
    · have hn : Region.ready .any l.toArray A = [] := by
        cases hr : Region.ready .any l.toArray A with
        | nil => rfl
        | cons i rs =>
          exfalso
          have hm : i ∈ Region.ready .any l.toArray A := by rw [hr]; simp
          have := (rkt_ready_low T hA false (by simpa using (rkt_ready_mem.1 hm).1)).2 hm
          rw [h0] at this
          simp at this
      have := rkt_last_ready T hA ((rkt_ready_nil_iff T hA).1 hn)
      rw [h0] at this
      simp at this
    · by_cases hl : i < l.length
      · refine rkt_wpOp_low T hl ?_
        rw [rkt_push_set hA false true hl]
        exact wpOp_mono (fun a' w' hh => tail_any T fuel _ a' w' (by simpa using hA) hh) (QT_op (h.2 i ((rkt_ready_low T hA false hl).1 hi)))
      · have hs : i < l.length + 1 := by simpa using (rkt_ready_mem.1 hi).1
        have : i = l.length := by omega
        subst this
        have hall := rkt_allIn_of_last T hA hi
        exact rkt_wp_last (C := fun w' => w' = w) T hA hall _ rfl (fun w' e => by subst e; exact h.1 ((rkt_ready_nil_iff T hA).2 hall))
theorem tail_region {id : Nat} {ops : List Oper} (l : List Oper) (o : Oper) (hs : ops = l ++ [o]) {Q : Exit → Act → World → Prop} {a : Act} {w : World} (hm : P.follows .mixedOrders = true) (hT : tailB l o = true)
    (h : wpAny P .any l.toArray (QT P o Q) l.toArray.size (Array.replicate l.toArray.size false) a { w with drawn := w.drawn + 1 }) : (Code.region id ops.toArray true).wp P Q a w := by
  subst hs
  have h2 := tail_any (rkt_tail_ok hT) l.toArray.size (Array.replicate l.toArray.size false) a { w with drawn := w.drawn + 1 } (by simp) h
  refine wp_region_any hm ?_
  have e1 : (l ++ [o]).toArray.size = l.toArray.size + 1 := by simp
  rw [e1, Array.replicate_succ]
  exact h2
end
end Go

namespace Go.Proofs.Ytmppiiamcpjhnaa
open Go.RowKit

def AllOps (Φ : Nat → Oper → Prop) : Nat → List Oper → Prop
  | _, [] => True
  | k, o :: r => Φ k o ∧ AllOps Φ (k + 1) r
theorem allOps_at {Φ : Nat → Oper → Prop} : ∀ {l : List Oper} {k : Nat}, AllOps Φ k l → ∀ i o, l[i]? = some o → Φ (k + i) o
  | [], _, _, i, o, hi => by simp at hi
  | p :: r, k, h, 0, o, hi => by
    have : p = o := by simpa using hi
    subst this
    exact h.1
  | p :: r, k, h, i + 1, o, hi => by
    have := allOps_at h.2 i o (by simpa using hi)
    rw [show k + (i + 1) = k + 1 + i by omega]
    exact this
theorem allOps_array {Φ : Nat → Oper → Prop} {l : List Oper} (h : AllOps Φ 0 l) : ∀ i o, l.toArray[i]? = some o → Φ i o := fun i o hi => by
  have := allOps_at h i o (by simpa using hi)
  rwa [Nat.zero_add] at this
theorem upd_true {done : Nat → Bool} {i j : Nat} (h : done j = true) : updB done i j = true := by
  unfold updB
  split
  · rfl
  · exact h
theorem heapszO {w : World} {B : Nat} {x : Obj} (h : w.heap[B]? = some x) : B < w.heap.size := (Array.getElem?_eq_some_iff.1 h).1
/-- An operation that leaves a fixed value, and the world as it is. -/
theorem relQ {P : Program} {w : World} {rels : List (Tmp × Nat)} {cv : Tmp → Value} {F : Nat → Value → World → Prop} {i : Nat} {o : Oper} {g : Nat → Value} {u : KeptW w} (d : Tmp) (hd : o.dst = some d) (hF : F i (cv d) u.w)
    (he : (execOp (evalBy (rhoT rels cv g)) o).run P u.w = .ok (.value (cv d)) u.w) :
    Yield P (fun v w' => Below u.w.heap.size u.w w' ∧ F i v w' ∧ ∀ d, o.dst = some d → relOf rels d = none → v = cv d) ((execOp (evalBy (rhoT rels cv g)) o).run P u.w) := by
  rw [he]
  exact ⟨Below.refl _ _, hF, fun e he' _ => by rw [hd] at he'; injection he' with he'; subst he'; rfl⟩
/-- A call. -/
theorem relC {P : Program} {w : World} {rels : List (Tmp × Nat)} {cv : Tmp → Value} {F : Nat → Value → World → Prop} {i : Nat} {o : Oper} {g : Nat → Value} {u : KeptW w} (f : FuncId) (args : Array Value)
    (he : (execOp (evalBy (rhoT rels cv g)) o).run P u.w = .ok (.enter f args) u.w)
    (hc : Calls P f args u.w fun e w' => ∃ v, e = .returned v ∧ Below u.w.heap.size u.w w' ∧ F i v w' ∧ ∀ d, o.dst = some d → relOf rels d = none → v = cv d) :
    Yield P (fun v w' => Below u.w.heap.size u.w w' ∧ F i v w' ∧ ∀ d, o.dst = some d → relOf rels d = none → v = cv d) ((execOp (evalBy (rhoT rels cv g)) o).run P u.w) := by
  rw [he]
  exact hc
/-- An operation that hands on what another one has left. -/
theorem relM {P : Program} {w : World} {rels : List (Tmp × Nat)} {cv : Tmp → Value} {F : Nat → Value → World → Prop} {i : Nat} {o : Oper} {g : Nat → Value} {u : KeptW w} (v : Value) (hF : F i v u.w) (hd : ∀ d, o.dst = some d → relOf rels d = none → v = cv d)
    (he : (execOp (evalBy (rhoT rels cv g)) o).run P u.w = .ok (.value v) u.w) :
    Yield P (fun v w' => Below u.w.heap.size u.w w' ∧ F i v w' ∧ ∀ d, o.dst = some d → relOf rels d = none → v = cv d) ((execOp (evalBy (rhoT rels cv g)) o).run P u.w) := by
  rw [he]
  exact ⟨Below.refl _ _, hF, hd⟩
/-- An operation that makes a block. -/
theorem relA {P : Program} {w : World} {rels : List (Tmp × Nat)} {cv : Tmp → Value} {F : Nat → Value → World → Prop} {i : Nat} {o : Oper} {g : Nat → Value} {u : KeptW w} (v : Value) (ob : Obj) (hr : ∀ d, o.dst = some d → relOf rels d ≠ none)
    (he : (execOp (evalBy (rhoT rels cv g)) o).run P u.w = .ok (.value v) (u.w.alloc ob)) (hF : F i v (u.w.alloc ob)) :
    Yield P (fun v w' => Below u.w.heap.size u.w w' ∧ F i v w' ∧ ∀ d, o.dst = some d → relOf rels d = none → v = cv d) ((execOp (evalBy (rhoT rels cv g)) o).run P u.w) := by
  rw [he]
  exact ⟨(Below.refl _ _).alloc (Nat.le_refl _) _, hF, fun d hd hn => absurd hn (hr d hd)⟩
/-- A call that leaves a fixed value. -/
theorem relK {P : Program} {w : World} {rels : List (Tmp × Nat)} {cv : Tmp → Value} {F : Nat → Value → World → Prop} {i : Nat} {o : Oper} {g : Nat → Value} {u : KeptW w} (d : Tmp) (hd : o.dst = some d) (hF : ∀ w', F i (cv d) w') (f : FuncId) (args : Array Value)
    (he : (execOp (evalBy (rhoT rels cv g)) o).run P u.w = .ok (.enter f args) u.w) (hc : Calls P f args u.w fun e w' => e = .returned (cv d) ∧ Below u.w.heap.size u.w w') :
    Yield P (fun v w' => Below u.w.heap.size u.w w' ∧ F i v w' ∧ ∀ d, o.dst = some d → relOf rels d = none → v = cv d) ((execOp (evalBy (rhoT rels cv g)) o).run P u.w) :=
  relC f args he (hc.mono fun e w' h => ⟨_, h.1, h.2, hF w', fun e hE _ => by rw [hd] at hE; injection hE with hE; subst hE; rfl⟩)
/-- One operation makes a block; what is known of it. -/
def mkF (j B : Nat) (f : Nat → Value) (T : TypeId) (cs : Array Value) : Nat → Value → World → Prop := fun i v w => i = j → ∃ g, v = f g ∧ B ≤ g ∧ w.heap[g]? = some (.cells cs T (0, 0))
theorem mkF_keep (j B : Nat) (f : Nat → Value) (T : TypeId) (cs : Array Value) (i : Nat) (v : Value) (w1 w2 : World) (h : mkF j B f T cs i v w1) (hb : Below w1.heap.size w1 w2) : mkF j B f T cs i v w2 := fun e => by
  obtain ⟨g, h1, h2, h3⟩ := h e
  exact ⟨g, h1, h2, (hb.block _ (heapsz h3)).trans h3⟩
theorem mkF_other {j B : Nat} {f : Nat → Value} {T : TypeId} {cs : Array Value} {i : Nat} {v : Value} {w : World} (h : i ≠ j) : mkF j B f T cs i v w := fun e => absurd e h
theorem mkF_new {j B : Nat} {f : Nat → Value} {T : TypeId} {cs : Array Value} {w : World} (h : B ≤ w.heap.size) : mkF j B f T cs j (f w.heap.size) (w.alloc (.cells cs T)) := fun _ => ⟨_, rfl, h, heap_alloc_new w _⟩

/-! ### One list grows -/

/-- What does. -/
structure GhE where
  c : Nat → Value
  b : Nat → Value
def updV (f : Nat → Value) (j : Nat) (v : Value) : Nat → Value := fun i => if i = j then v else f i
theorem updV_at (f : Nat → Value) (j : Nat) (v : Value) : updV f j v j = v := if_pos rfl
theorem updV_ne {f : Nat → Value} {i j : Nat} {v : Value} (h : i ≠ j) : updV f j v i = f i := if_neg h
theorem updB_at (f : Nat → Bool) (i : Nat) : updB f i i = true := if_pos rfl
theorem updB_ne {f : Nat → Bool} {i j : Nat} (h : j ≠ i) : updB f i j = f j := if_neg h
structure EnvL where
  wS : World
  base : Nat
  T : TypeId
  sz : Nat
  k : Nat
  v : Value
  xs : List Value
  ns : List Value
  ib : Nat
  ia : Nat
def curL (q : EnvL) (done : Nat → Bool) (g : GhE) : Value := if done q.ia = true then g.c 0 else q.v
def lenL (q : EnvL) (done : Nat → Bool) : Nat := if done q.ia = true then q.k + 1 else q.k
def rowL (q : EnvL) (done : Nat → Bool) : List Value := if done q.ia = true then q.xs ++ q.ns else q.xs
structure SL (q : EnvL) (done : Nat → Bool) (g : GhE) (w : World) : Prop where
  grown : q.wS.grownBy w q.v.ownBlock
  own : w.ownsRow q.base q.T q.sz (curL q done g) (lenL q done) (rowL q done)
  news : done q.ib = true → ∃ B, g.b 0 = .slice (some ⟨B, 0, none⟩) 1 1 ∧ w.heap[B]? = some (.cells q.ns.toArray q.T (0, 0)) ∧ (curL q done g).ownBlock ≠ some B
  fresh : (curL q done g).ownBlock = q.v.ownBlock ∨ ∃ B, (curL q done g).ownBlock = some B ∧ q.wS.heap.size ≤ B
  two : q.ib ≠ q.ia
  low : q.base ≤ q.wS.heap.size
theorem grownBy_trans {a b c : World} {row : Option Nat} (h : a.grownBy b row) (k : Below b.heap.size b c) : a.grownBy c row :=
  ⟨k.os.trans h.os, k.tape.trans h.tape, k.output.trans h.output, Nat.le_trans h.size k.size, fun i hi hr => (k.block i (Nat.lt_of_lt_of_le hi h.size)).trans (h.block i hi hr)⟩
theorem SL.below {q : EnvL} {done : Nat → Bool} {g : GhE} {w w' : World} (h : SL q done g w) (hb : Below w.heap.size w w') : SL q done g w' :=
  ⟨grownBy_trans h.grown hb, own_next h.own hb, fun hd => by
    obtain ⟨B, e1, e2, e3⟩ := h.news hd
    exact ⟨B, e1, (hb.block _ (Array.getElem?_eq_some_iff.1 e2).1).trans e2, e3⟩, h.fresh, h.two, h.low⟩
theorem SL.quiet {q : EnvL} {done : Nat → Bool} {g : GhE} {w : World} (h : SL q done g w) {i : Nat} (h1 : i ≠ q.ib) (h2 : i ≠ q.ia) : SL q (updB done i) g w := by
  have c1 : curL q (updB done i) g = curL q done g := by unfold curL; rw [updB_ne (Ne.symm h2)]
  have c2 : lenL q (updB done i) = lenL q done := by unfold lenL; rw [updB_ne (Ne.symm h2)]
  have c3 : rowL q (updB done i) = rowL q done := by unfold rowL; rw [updB_ne (Ne.symm h2)]
  refine ⟨h.grown, by rw [c1, c2, c3]; exact h.own, fun hd => ?_, by rw [c1]; exact h.fresh, h.two, h.low⟩
  rw [updB_ne (Ne.symm h1)] at hd
  rw [c1]
  exact h.news hd
theorem SL.build {q : EnvL} {done : Nat → Bool} {g : GhE} {w : World} (h : SL q done g w) : SL q (updB done q.ib) { g with b := updV g.b 0 (.slice (some ⟨w.heap.size, 0, none⟩) 1 1) } (w.alloc (.cells q.ns.toArray q.T)) := by
  have hb := (Below.refl w.heap.size w).alloc (Nat.le_refl _) (.cells q.ns.toArray q.T)
  have c1 : curL q (updB done q.ib) { g with b := updV g.b 0 (.slice (some ⟨w.heap.size, 0, none⟩) 1 1) } = curL q done g := by unfold curL; rw [updB_ne (Ne.symm h.two)]
  have c2 : lenL q (updB done q.ib) = lenL q done := by unfold lenL; rw [updB_ne (Ne.symm h.two)]
  have c3 : rowL q (updB done q.ib) = rowL q done := by unfold rowL; rw [updB_ne (Ne.symm h.two)]
  refine ⟨grownBy_trans h.grown hb, by rw [c1, c2, c3]; exact own_next h.own hb, fun _ => ⟨w.heap.size, by simp [updV], heap_alloc_new w _, fun hB => ?_⟩, by rw [c1]; exact h.fresh, h.two, h.low⟩
  rw [c1] at hB
  have := (h.own.lt _ hB).2
  omega
theorem SL.append {q : EnvL} {done : Nat → Bool} {g : GhE} {w w' : World} (h : SL q done g w) (hu : done q.ia = false) {v' : Value} (hv : w'.ownsRow q.base q.T q.sz v' (q.k + 1) (q.xs ++ q.ns)) (hg : w.grownBy w' q.v.ownBlock) (ho : v'.ownBlock = q.v.ownBlock ∨ v'.ownBlock = some w.heap.size) :
    SL q (updB done q.ia) { g with c := updV g.c 0 v' } w' := by
  have cj : curL q done g = q.v := by unfold curL; rw [hu]; rfl
  have cn : curL q (updB done q.ia) { g with c := updV g.c 0 v' } = v' := by unfold curL; rw [updB_at, if_pos rfl]; simp [updV]
  refine ⟨⟨hg.os.trans h.grown.os, hg.tape.trans h.grown.tape, hg.output.trans h.grown.output, Nat.le_trans h.grown.size hg.size, fun i hi hr => (hg.block i (Nat.lt_of_lt_of_le hi h.grown.size) hr).trans (h.grown.block i hi hr)⟩, ?_, fun hd => ?_, ?_, h.two, h.low⟩
  · rw [cn]
    unfold lenL rowL
    rw [updB_at, if_pos rfl, if_pos rfl]
    exact hv
  · rw [updB_ne h.two] at hd
    obtain ⟨B, e1, e2, e3⟩ := h.news hd
    rw [cj] at e3
    refine ⟨B, e1, (hg.block _ (Array.getElem?_eq_some_iff.1 e2).1 (fun e => e3 e.symm)).trans e2, ?_⟩
    rw [cn]
    rcases ho with ho | ho
    · rw [ho]; exact e3
    · rw [ho]
      intro e
      injection e with e
      have := (Array.getElem?_eq_some_iff.1 e2).1
      omega
  · rw [cn]
    rcases ho with ho | ho
    · exact .inl ho
    · exact .inr ⟨_, ho, h.grown.size⟩
theorem SL.start {w : World} {base : Nat} {T : TypeId} {sz k : Nat} {v : Value} {xs ns : List Value} {ib ia : Nat} {g : GhE} (ho : w.ownsRow base T sz v k xs) (hl : base ≤ w.heap.size) (hne : ib ≠ ia) : SL ⟨w, base, T, sz, k, v, xs, ns, ib, ia⟩ (fun _ => false) g { w with drawn := w.drawn + 1 } :=
  ⟨⟨rfl, rfl, rfl, Nat.le_refl _, fun _ _ _ => rfl⟩, own_next ho (Below.refl _ w).drew, fun hd => by simp at hd, .inl rfl, hne, hl⟩
/-- Behind all of them. -/
theorem SL.after {w1 w : World} {base : Nat} {T : TypeId} {sz k N : Nat} {v : Value} {xs ns : List Value} {ib ia : Nat} {g : GhE} (h : SL ⟨w1, base, T, sz, k, v, xs, ns, ib, ia⟩ (fun i => decide (i < N)) g w) (hia : ia < N) :
    w1.grownBy w v.ownBlock ∧ w.ownsRow base T sz (g.c 0) (k + 1) (xs ++ ns) ∧ ((g.c 0).ownBlock = v.ownBlock ∨ ∃ B, (g.c 0).ownBlock = some B ∧ w1.heap.size ≤ B) := by
  have hd : (fun i => decide (i < N)) ia = true := by simpa using hia
  have ho := h.own
  have hf := h.fresh
  unfold curL lenL rowL at ho
  unfold curL at hf
  simp only [hd, if_true] at ho hf
  exact ⟨h.grown, ho, hf⟩
/-- What is asked of an operation. -/
abbrev AskL (q : EnvL) (ops : Array Oper) (ρ : GhE → Tmp → Value) (done : Nat → Bool) (g : GhE) (w : World) (i : Nat) (o : Oper) : Prop :=
  Region.wanted o (yieldedBy ops (ρ g)) = true ∧ Yield Try.prog (fun v w' => ∃ g', SL q (updB done i) g' w' ∧ (∀ d, o.dst = some d → ρ g' d = v) ∧ ∀ t, o.dst ≠ some t → ρ g' t = ρ g t) ((execOp (evalBy (ρ g)) o).run Try.prog w)
theorem quietL {q : EnvL} {ops : Array Oper} {done : Nat → Bool} {g : GhE} {w : World} {ρ : GhE → Tmp → Value} {i : Nat} {o : Oper} (h : SL q done g w) (d : Tmp) (hd : o.dst = some d) (h1 : i ≠ q.ib) (h2 : i ≠ q.ia) (hg : Region.wanted o (yieldedBy ops (ρ g)) = true)
    (he : (execOp (evalBy (ρ g)) o).run Try.prog w = .ok (.value (ρ g d)) w) : AskL q ops ρ done g w i o := by
  refine ⟨hg, ?_⟩
  rw [he]
  exact ⟨g, h.quiet h1 h2, fun e hE => by rw [hd] at hE; injection hE with hE; subst hE; rfl, fun _ _ => rfl⟩
theorem callL {q : EnvL} {ops : Array Oper} {done : Nat → Bool} {g : GhE} {w : World} {ρ : GhE → Tmp → Value} {i : Nat} {o : Oper} (h : SL q done g w) (d : Tmp) (hd : o.dst = some d) (h1 : i ≠ q.ib) (h2 : i ≠ q.ia) (hg : Region.wanted o (yieldedBy ops (ρ g)) = true) (f : FuncId) (args : Array Value)
    (he : (execOp (evalBy (ρ g)) o).run Try.prog w = .ok (.enter f args) w) (hc : Calls Try.prog f args w fun e w' => e = .returned (ρ g d) ∧ Below w.heap.size w w') : AskL q ops ρ done g w i o := by
  refine ⟨hg, ?_⟩
  rw [he]
  show Calls Try.prog f args w _
  refine hc.mono ?_
  rintro e w' ⟨rfl, hb⟩
  exact ⟨_, rfl, g, (h.below hb).quiet h1 h2, fun e hE => by rw [hd] at hE; injection hE with hE; subst hE; rfl, fun _ _ => rfl⟩
set_option maxRecDepth 100000 in
theorem buildL {q : EnvL} {ops : Array Oper} {done : Nat → Bool} {g : GhE} {w : World} {ρ : GhE → Tmp → Value} {i : Nat} {o : Oper} (h : SL q done g w) (d : Tmp) (hd : o.dst = some d) (hi : i = q.ib) (hg : Region.wanted o (yieldedBy ops (ρ g)) = true)
    (he : (execOp (evalBy (ρ g)) o).run Try.prog w = .ok (.value (.slice (some ⟨w.heap.size, 0, none⟩) 1 1)) (w.alloc (.cells q.ns.toArray q.T)))
    (h1 : ∀ g' : GhE, ρ g' d = g'.b 0) (h2 : ∀ (t : Tmp) (b' : Nat → Value), t ≠ d → ρ { g with b := b' } t = ρ g t) : AskL q ops ρ done g w i o := by
  subst hi
  refine ⟨hg, ?_⟩
  rw [he]
  exact ⟨_, h.build, fun e hE => by rw [hd] at hE; injection hE with hE; subst hE; rw [h1]; simp [updV], fun t ht => h2 t _ (fun e => ht (by rw [hd, e]))⟩
set_option maxRecDepth 100000 in
theorem appendL {q : EnvL} {ops : Array Oper} {done : Nat → Bool} {g : GhE} {w : World} {ρ : GhE → Tmp → Value} {i : Nat} {o : Oper} (h : SL q done g w) (d : Tmp) (hd : o.dst = some d) (hi : i = q.ia) (hu : done i = false) (hb : done q.ib = true) (hg : Region.wanted o (yieldedBy ops (ρ g)) = true)
    (s x : Tmp) (ST : TypeId) (ho : o.op = .call { callee := .builtin .append, args := #[.tmp s, .tmp x], argTypes := #[ST, ST] }) (hs : ρ g s = q.v) (hx : ρ g x = g.b 0)
    (i0 : TypeInfo) (z : Value) (bytes : Nat) (ht : Try.prog.underlying ST = some (.slice q.T)) (hi0 : Try.prog.info? q.T = some i0) (hz : i0.zero = some z) (hsz : i0.size = q.sz) (hby : i0.bytes = bytes) (hzs : z.cells.size = q.sz) (hs0 : 0 < q.sz) (hl : q.ns.length = q.sz) (hone : ∀ u ∈ q.ns, u.oneCell' = true) (hk : q.k + 1 ≤ maxLen) (hbb : (q.k + 1) * bytes ≤ 140737488355328)
    (h1 : ∀ g' : GhE, ρ g' d = g'.c 0) (h2 : ∀ (t : Tmp) (c' : Nat → Value), t ≠ d → ρ { g with c := c' } t = ρ g t) : AskL q ops ρ done g w i o := by
  subst hi
  obtain ⟨B, e1, e2, e3⟩ := h.news hb
  have oj := h.own
  have cj : curL q done g = q.v := by unfold curL; rw [hu]; rfl
  have lj : lenL q done = q.k := by unfold lenL; rw [hu]; rfl
  have rj : rowL q done = q.xs := by unfold rowL; rw [hu]; rfl
  rw [cj, lj, rj] at oj
  obtain ⟨v', w', hr, a1, a2, _, a4⟩ := run_append_own_at (P := Try.prog) w q.base ST o.type q.T i0 z q.sz bytes ht hi0 hz hsz hby hzs hs0 q.v q.k q.xs oj ⟨B, 0, none⟩ 1 1 q.ns (by rw [hl]; omega)
    (fun a u hu' => by
      have := cell_of_row w B a _ q.T (0, 0) e2
      rw [show (⟨B, 0, none⟩ : Addr).add a = ⟨B, a, none⟩ by unfold Addr.add; split <;> simp_all, this]
      simpa using hu') hone hk hbb (Nat.le_trans h.low h.grown.size)
  have he : (execOp (evalBy (ρ g)) o).run Try.prog w = .ok (.value v') w' := by
    have e2' : evalBy (ρ g) (.tmp s) = q.v := hs
    have e3' : evalBy (ρ g) (.tmp x) = .slice (some ⟨B, 0, none⟩) 1 1 := hx.trans e1
    unfold execOp
    simp only [ho, resolve, invoke, builtin, Sem.run_bind, Sem.run_pure, Result.andThen_ok, List.map_toArray, List.map_cons, List.map_nil, e2', e3', hr]
  refine ⟨hg, ?_⟩
  rw [he]
  exact ⟨_, h.append hu a1 a2 a4, fun e hE => by rw [hd] at hE; injection hE with hE; subst hE; rw [h1]; simp [updV], fun t ht => h2 t _ (fun e => ht (by rw [hd, e]))⟩
/-- A cell of another block. -/
theorem SL.cell {q : EnvL} {done : Nat → Bool} {g : GhE} {w : World} (h : SL q done g w) {b o : Nat} (hb : b < q.wS.heap.size) (hne : some b ≠ q.v.ownBlock) : w.cell? ⟨b, o, none⟩ = q.wS.cell? ⟨b, o, none⟩ :=
  World.cell?_of_block (h.grown.block b hb hne)
/-- The slots: one holds the new element, one the longer list. -/
def rhoO (sb sa : Tmp) (cv : Tmp → Value) (g : GhE) (t : Tmp) : Value := if t = sb then g.b 0 else if t = sa then g.c 0 else cv t
theorem rhoO_b {sb sa : Tmp} {cv : Tmp → Value} {g : GhE} (t : Tmp) (b' : Nat → Value) (h : t ≠ sb) : rhoO sb sa cv { g with b := b' } t = rhoO sb sa cv g t := by
  unfold rhoO
  rw [if_neg h, if_neg h]
theorem rhoO_c {sb sa : Tmp} {cv : Tmp → Value} {g : GhE} (t : Tmp) (c' : Nat → Value) (h : t ≠ sa) : rhoO sb sa cv { g with c := c' } t = rhoO sb sa cv g t := by
  unfold rhoO
  by_cases h1 : t = sb
  · rw [if_pos h1, if_pos h1]
  · rw [if_neg h1, if_neg h1, if_neg h, if_neg h]
end Go.Proofs.Ytmppiiamcpjhnaa

namespace Go
open Go.RowKit
section
variable {P : Program} {C : World → Prop} {l : List Oper} {o : Oper}

/-- Whether the last operation waits for one, by way of so many others at most. -/
def needsB (l : List Oper) (o : Oper) : Nat → Nat → Bool
  | 0, i => o.after.any fun e => Region.binds .any e && e.on == i
  | n + 1, i => needsB l o n i || (List.range l.length).any fun k => needsB l o n k && (l[k]?).any fun p => p.after.any fun e => Region.binds .any e && e.on == i
def tailXB (l : List Oper) (o : Oper) : Bool :=
  o.guard.isNone && ((List.range l.length).all fun i => needsB l o 3 i) && (o.after.all fun e => !Region.binds .any e || decide (e.on < l.length)) &&
  ((List.range l.length).all fun i => (l[i]?).all fun p => (p.after.all fun e => !Region.binds .any e || decide (e.on < i)) && (p.guard.all fun g => decide (g.1 < i)))
structure TailX (l : List Oper) (o : Oper) : Prop where
  noGuard : o.guard = none
  waits : ∀ i, i < l.length → needsB l o 3 i = true
  below : ∀ e ∈ o.after, Region.binds .any e = true → e.on < l.length
  early : ∀ i p, l[i]? = some p → (∀ e ∈ p.after, Region.binds .any e = true → e.on < i) ∧ ∀ g, p.guard = some g → g.1 < i
theorem rkt_tail_okX (h : tailXB l o = true) : TailX l o := by
  simp only [tailXB, Bool.and_eq_true] at h
  obtain ⟨⟨⟨h1, h2⟩, h3⟩, h4⟩ := h
  refine ⟨by simpa using h1, fun i hi => List.all_eq_true.1 h2 i (List.mem_range.2 hi), fun e he hb => ?_, fun i p hp => ?_⟩
  · have := Array.all_eq_true'.1 h3 e he
    rw [hb] at this
    simpa using this
  · have hi : i < l.length := (List.getElem?_eq_some_iff.1 hp).1
    have := List.all_eq_true.1 h4 i (List.mem_range.2 hi)
    rw [hp, Option.all_some, Bool.and_eq_true] at this
    obtain ⟨t1, t2⟩ := this
    refine ⟨fun e he hb => ?_, fun g hg => ?_⟩
    · have := Array.all_eq_true'.1 t1 e he
      rw [hb] at this
      simpa using this
    · rw [hg] at t2
      simpa using t2
/-- What is listed comes with all that it waits for. -/
def ClA (l : List Oper) (A : Array Bool) : Prop := ∀ i p, l[i]? = some p → A.getD i false = true → ∀ e ∈ p.after, Region.binds .any e = true → A.getD e.on false = true
theorem cl_start (l : List Oper) : ClA l (Array.replicate l.length false) := fun i p hp h => by
  have hi : i < l.length := (List.getElem?_eq_some_iff.1 hp).1
  simp [Array.getD_eq_getD_getElem?, hi] at h
theorem cl_set {A : Array Bool} (hA : A.size = l.length) (h : ClA l A) {i : Nat} (hi : i ∈ Region.ready .any l.toArray A) : ClA l (A.setIfInBounds i true) := by
  have up : ∀ k, A.getD k false = true → (A.setIfInBounds i true).getD k false = true := fun k hk => by
    simp only [Array.getD_eq_getD_getElem?, Array.getElem?_setIfInBounds] at hk ⊢
    by_cases e : i = k
    · subst e
      by_cases hs : i < A.size
      · simp [hs]
      · simp [hs]
        rw [Array.getElem?_eq_none (by omega)] at hk
        simp at hk
    · rw [if_neg e]
      exact hk
  obtain ⟨_, _, q, hq, h3⟩ := rkt_ready_mem.1 hi
  intro k p hp hk e he hb
  by_cases e1 : i = k
  · subst e1
    have : q = p := by
      have h5 : l[i]? = some q := by simpa using hq
      rw [hp] at h5
      exact (Option.some.inj h5).symm
    subst this
    exact up _ (h3 e he hb)
  · refine up _ (h k p hp ?_ e he hb)
    simp only [Array.getD_eq_getD_getElem?, Array.getElem?_setIfInBounds] at hk ⊢
    rw [if_neg e1] at hk
    exact hk
theorem needs_in {A : Array Bool} (hcl : ClA l A) (hd : ∀ e ∈ o.after, Region.binds .any e = true → A.getD e.on false = true) : ∀ n i, needsB l o n i = true → A.getD i false = true
  | 0, i, h => by
    obtain ⟨e, he, hb⟩ := Array.any_eq_true'.1 h
    rw [Bool.and_eq_true] at hb
    have h2 : e.on = i := by simpa using hb.2
    rw [← h2]
    exact hd e he hb.1
  | n + 1, i, h => by
    unfold needsB at h
    rw [Bool.or_eq_true] at h
    rcases h with h | h
    · exact needs_in hcl hd n i h
    · obtain ⟨k, _, hk⟩ := List.any_eq_true.1 h
      rw [Bool.and_eq_true] at hk
      have hA := needs_in hcl hd n k hk.1
      cases hp : l[k]? with
      | none => rw [hp] at hk; exact absurd hk.2 (by simp)
      | some p =>
        rw [hp, Option.any_some] at hk
        obtain ⟨e, he, hb⟩ := Array.any_eq_true'.1 hk.2
        rw [Bool.and_eq_true] at hb
        have h2 : e.on = i := by simpa using hb.2
        rw [← h2]
        exact hcl k p hp hA e he hb.1

theorem rkt_ready_lowX (T : TailX l o) {A : Array Bool} (hA : A.size = l.length) (b : Bool) {i : Nat} (hi : i < l.length) : i ∈ Region.ready .any (l ++ [o]).toArray (A.push b) ↔ i ∈ Region.ready .any l.toArray A := by
  rw [rkt_ready_mem, rkt_ready_mem, rkt_ops_at hi, rkt_push_getD hA b true hi]
  refine and_congr (by simp; omega) (and_congr Iff.rfl ⟨?_, ?_⟩)
  · rintro ⟨p, hp, h⟩
    refine ⟨p, hp, fun e he hb => ?_⟩
    have := (T.early i p (by simpa using hp)).1 e he hb
    rw [← rkt_push_getD hA b false (by omega : e.on < l.length)]
    exact h e he hb
  · rintro ⟨p, hp, h⟩
    refine ⟨p, hp, fun e he hb => ?_⟩
    have := (T.early i p (by simpa using hp)).1 e he hb
    rw [rkt_push_getD hA b false (by omega : e.on < l.length)]
    exact h e he hb

theorem rkt_allIn_of_lastX (T : TailX l o) {A : Array Bool} (hA : A.size = l.length) (hcl : ClA l A) {b : Bool} (h : l.length ∈ Region.ready .any (l ++ [o]).toArray (A.push b)) : AllIn l A := by
  intro i hi
  obtain ⟨_, _, p, hp, h3⟩ := rkt_ready_mem.1 h
  rw [rkt_ops_last] at hp
  injection hp with hp
  subst hp
  exact needs_in hcl (fun e he hb => by rw [← rkt_push_getD hA b false (T.below e he hb)]; exact h3 e he hb) 3 i (T.waits i hi)
theorem rkt_ready_nil_iffX (T : TailX l o) {A : Array Bool} (hA : A.size = l.length) : Region.ready .any l.toArray A = [] ↔ AllIn l A := by
  constructor
  · intro h i
    induction i using Nat.strongRecOn with
    | ind i ih =>
      intro hi
      cases hb : A.getD i false with
      | true => rfl
      | false =>
        exfalso
        have hm : i ∈ Region.ready .any l.toArray A := by
          obtain ⟨p, hp⟩ : ∃ p, l[i]? = some p := ⟨_, List.getElem?_eq_getElem hi⟩
          refine rkt_ready_mem.2 ⟨by simpa using hi, by rw [rkt_getD_both hA hi true false]; exact hb, p, by simpa using hp, fun e he hbb => ?_⟩
          have := (T.early i p hp).1 e he hbb
          exact ih _ this (by omega)
        rw [h] at hm
        simp at hm
  · intro h
    cases hr : Region.ready .any l.toArray A with
    | nil => rfl
    | cons i rs =>
      exfalso
      have hm : i ∈ Region.ready .any l.toArray A := by rw [hr]; simp
      obtain ⟨h1, h2, _⟩ := rkt_ready_mem.1 hm
      have hi : i < l.length := by simpa using h1
      rw [rkt_getD_both hA hi true false, h i hi] at h2
      exact absurd h2 (by decide)
theorem rkt_last_readyX (T : TailX l o) {A : Array Bool} (hA : A.size = l.length) (h : AllIn l A) : l.length ∈ Region.ready .any (l ++ [o]).toArray (A.push false) := by
  refine rkt_ready_mem.2 ⟨by simp, rkt_push_getD_at hA false true, o, rkt_ops_last, fun e he hb => ?_⟩
  have := T.below e he hb
  rw [rkt_push_getD hA false false this]
  exact h _ this
theorem rkt_ready_doneX (_T : TailX l o) {A : Array Bool} (hA : A.size = l.length) (h : AllIn l A) : Region.ready .any (l ++ [o]).toArray (A.push true) = [] := by
  cases hr : Region.ready .any (l ++ [o]).toArray (A.push true) with
  | nil => rfl
  | cons i rs =>
    exfalso
    have hm : i ∈ Region.ready .any (l ++ [o]).toArray (A.push true) := by rw [hr]; simp
    obtain ⟨h1, h2, _⟩ := rkt_ready_mem.1 hm
    have hi : i < l.length + 1 := by simpa using h1
    by_cases hl : i < l.length
    · rw [rkt_push_getD hA true true hl, rkt_getD_both hA hl true false, h i hl] at h2
      exact absurd h2 (by decide)
    · have : i = l.length := by omega
      subst this
      rw [rkt_push_getD_at hA] at h2
      exact absurd h2 (by decide)
theorem rkt_wanted_atX (T : TailX l o) {tmps : Array Value} {i : Nat} {p : Oper} (hp : l[i]? = some p) : Region.wanted p (yielded (l ++ [o]).toArray tmps) = Region.wanted p (yielded l.toArray tmps) := by
  have hi : i < l.length := (List.getElem?_eq_some_iff.1 hp).1
  unfold Region.wanted
  cases hg : p.guard with
  | none => rfl
  | some g =>
    obtain ⟨j, b⟩ := g
    have := (T.early i p hp).2 _ hg
    simp only
    rw [rkt_yielded_at (by omega : j < l.length)]
theorem rkt_wpOp_lowX (T : TailX l o) {Q : Exit → Act → World → Prop} {i : Nat} (hi : i < l.length) {K : Act → World → Prop} {a : Act} {w : World} (h : wpOp P l.toArray Q i K a w) : wpOp P (l ++ [o]).toArray Q i K a w := by
  obtain ⟨p, hp⟩ : ∃ p, l[i]? = some p := ⟨_, List.getElem?_eq_getElem hi⟩
  have hp' : (l.toArray)[i]? = some p := by simpa using hp
  unfold wpOp at *
  rw [rkt_ops_at hi]
  simp only [hp'] at h ⊢
  rw [rkt_wanted_atX T hp]
  exact h

theorem rkt_wp_lastX (T : TailX l o) {Q : Exit → Act → World → Prop} {A : Array Bool} (hA : A.size = l.length) (h : AllIn l A) (n : Nat) {a : Act} {w : World} (hw : C w) (hl : LastOk P C o Q a) :
    wpOp P (l ++ [o]).toArray Q l.length (wpAny P .any (l ++ [o]).toArray Q n ((A.push false).setIfInBounds l.length true)) a w := by
  unfold wpOp
  simp only [rkt_ops_last]
  have hwant : Region.wanted o (yielded (l ++ [o]).toArray a.tmps) = true := by unfold Region.wanted; rw [T.noGuard]
  rw [hwant, if_pos rfl, rkt_push_set_at hA]
  refine .inl (Oper.wp_mono (fun a' w' hq => ?_) (hl w hw))
  have hd := rkt_ready_doneX T hA h
  cases n with
  | zero => exact ⟨hd, hq⟩
  | succ n => exact ⟨fun _ => hq, fun i hi => by rw [hd] at hi; simp at hi⟩

theorem rkt_wpAny_tailX (T : TailX l o) {Q : Exit → Act → World → Prop} : ∀ (fuel : Nat) (A : Array Bool) (a : Act) (w : World), A.size = l.length → ClA l A → C w →
    wpAnyQ P .any l.toArray C (LastOk P C o Q) fuel A a → wpAny P .any (l ++ [o]).toArray Q (fuel + 1) (A.push false) a w
  | 0, A, a, w, hA, hcl, hw, h => by
    have hall := (rkt_ready_nil_iffX T hA).1 h.1
    refine ⟨fun h0 => ?_, fun i hi => ?_⟩
    · have := rkt_last_readyX T hA hall
      rw [h0] at this
      simp at this
    · by_cases hl : i < l.length
      · have := (rkt_ready_lowX T hA false hl).1 hi
        rw [h.1] at this
        simp at this
      · have hs : i < l.length + 1 := by simpa using (rkt_ready_mem.1 hi).1
        have : i = l.length := by omega
        subst this
        exact rkt_wp_lastX T hA hall 0 hw h.2
  | fuel + 1, A, a, w, hA, hcl, hw, h => by
    refine ⟨fun h0 => ?_, fun i hi => ?_⟩
    · have hn : Region.ready .any l.toArray A = [] := by
        cases hr : Region.ready .any l.toArray A with
        | nil => rfl
        | cons i rs =>
          exfalso
          have hm : i ∈ Region.ready .any l.toArray A := by rw [hr]; simp
          have := (rkt_ready_lowX T hA false (by simpa using (rkt_ready_mem.1 hm).1)).2 hm
          rw [h0] at this
          simp at this
      have := rkt_last_readyX T hA ((rkt_ready_nil_iffX T hA).1 hn)
      rw [h0] at this
      simp at this
    · by_cases hl : i < l.length
      · refine rkt_wpOp_lowX T hl ?_
        rw [rkt_push_set hA false true hl]
        exact wpOp_of_qOp hw (fun a' w' hw' => rkt_wpAny_tailX T fuel _ a' w' (by simpa using hA) (cl_set hA hcl ((rkt_ready_lowX T hA false hl).1 hi)) hw') (h.2 i ((rkt_ready_lowX T hA false hl).1 hi))
      · have hs : i < l.length + 1 := by simpa using (rkt_ready_mem.1 hi).1
        have : i = l.length := by omega
        subst this
        have hall := rkt_allIn_of_lastX T hA hcl hi
        exact rkt_wp_lastX T hA hall _ hw (h.1 ((rkt_ready_nil_iffX T hA).2 hall))

/-- **One walk over the others, and the last one behind it, serves every order.** -/
theorem rk_tailX {id : Nat} {ops : List Oper} (l : List Oper) (o : Oper) (hs : ops = l ++ [o]) {Q : Exit → Act → World → Prop} {a : Act} {w : World} (hm : P.follows .mixedOrders = true) (hB : Region.lexB .any l.toArray = true) (hT : tailXB l o = true)
    (hC : C { w with drawn := w.drawn + 1 }) (h : wpQuiet P l.toArray C (LastOk P C o Q) l a) : (Code.region id ops.toArray true).wp P Q a w := by
  subst hs
  simp only [Region.lexB, Bool.and_eq_true] at hB
  have h1 := wpAnyQ_lex (P := P) (C := C) (md := .any) (ops := l.toArray) hB.1 l 0 (Array.replicate l.length false) a (by simp) (by simpa using hB.2) h
  have h2 := rkt_wpAny_tailX (rkt_tail_okX hT) l.length (Array.replicate l.length false) a { w with drawn := w.drawn + 1 } (by simp) (cl_start l) hC h1
  refine wp_region_any hm ?_
  have e1 : (l ++ [o]).toArray.size = l.length + 1 := by simp
  rw [e1, Array.replicate_succ]
  exact h2
/-- The last operation waits for all others: the others in any order, and the last one behind them. -/
theorem tail_anyX {l : List Oper} {o : Oper} (T : TailX l o) {Q : Exit → Act → World → Prop} : ∀ (fuel : Nat) (A : Array Bool) (a : Act) (w : World), A.size = l.length → ClA l A →
    wpAny P .any l.toArray (QT P o Q) fuel A a w → wpAny P .any (l ++ [o]).toArray Q (fuel + 1) (A.push false) a w
  | 0, A, a, w, hA, hcl, h => by
    have hall := (rkt_ready_nil_iffX T hA).1 h.1
    refine ⟨fun h0 => ?_, fun i hi => ?_⟩
    · have := rkt_last_readyX T hA hall
      rw [h0] at this
      simp at this
    · by_cases hl : i < l.length
      · have := (rkt_ready_lowX T hA false hl).1 hi
        rw [h.1] at this
        simp at this
      · have hs : i < l.length + 1 := by simpa using (rkt_ready_mem.1 hi).1
        have : i = l.length := by omega
        subst this
        exact rkt_wp_lastX (C := fun w' => w' = w) T hA hall 0 rfl (fun w' e => by subst e; exact h.2)
  | fuel + 1, A, a, w, hA, hcl, h => by
    refine ⟨fun h0 => ?_, fun i hi => ?_⟩
    · have hn : Region.ready .any l.toArray A = [] := by
        cases hr : Region.ready .any l.toArray A with
        | nil => rfl
        | cons i rs =>
          exfalso
          have hm : i ∈ Region.ready .any l.toArray A := by rw [hr]; simp
          have := (rkt_ready_lowX T hA false (by simpa using (rkt_ready_mem.1 hm).1)).2 hm
          rw [h0] at this
          simp at this
      have := rkt_last_readyX T hA ((rkt_ready_nil_iffX T hA).1 hn)
      rw [h0] at this
      simp at this
    · by_cases hl : i < l.length
      · refine rkt_wpOp_lowX T hl ?_
        rw [rkt_push_set hA false true hl]
        exact wpOp_mono (fun a' w' hh => tail_anyX T fuel _ a' w' (by simpa using hA) (cl_set hA hcl ((rkt_ready_lowX T hA false hl).1 hi)) hh) (QT_op (h.2 i ((rkt_ready_lowX T hA false hl).1 hi)))
      · have hs : i < l.length + 1 := by simpa using (rkt_ready_mem.1 hi).1
        have : i = l.length := by omega
        subst this
        have hall := rkt_allIn_of_lastX T hA hcl hi
        exact rkt_wp_lastX (C := fun w' => w' = w) T hA hall _ rfl (fun w' e => by subst e; exact h.1 ((rkt_ready_nil_iffX T hA).2 hall))
theorem tail_regionX {id : Nat} {ops : List Oper} (l : List Oper) (o : Oper) (hs : ops = l ++ [o]) {Q : Exit → Act → World → Prop} {a : Act} {w : World} (hm : P.follows .mixedOrders = true) (hT : tailXB l o = true)
    (h : wpAny P .any l.toArray (QT P o Q) l.toArray.size (Array.replicate l.toArray.size false) a { w with drawn := w.drawn + 1 }) : (Code.region id ops.toArray true).wp P Q a w := by
  subst hs
  have h2 := tail_anyX (rkt_tail_okX hT) l.toArray.size (Array.replicate l.toArray.size false) a { w with drawn := w.drawn + 1 } (by simp) (by rw [show l.toArray.size = l.length by simp]; exact cl_start l) h
  refine wp_region_any hm ?_
  have e1 : (l ++ [o]).toArray.size = l.toArray.size + 1 := by simp
  rw [e1, Array.replicate_succ]
  exact h2
end
end Go

namespace Go
open Go.RowKit

variable {F : Fence} {n : Nat} {P : Program}

/-- The contract of an iterator that writes: between two rounds the world may change as St says. -/
def SeqW {α : Type} (F : Fence) (n : Nat) (P : Program) (g : Nat) (lb : Array Value) (encs : α → Array Value) (Kp St : World → World → Prop) (S Sp : List α → Prop) (w : World) : Prop :=
  ∀ (l : Nat) (J Jx : List α → World → Prop) (W : World), Below w.heap.size w W → (∀ s A B, J s A → St A B → J s B) →
    (∀ pre x W1, J pre W1 → Sp (pre ++ [x]) → YieldAt F (n - 1) P l (encs x) W1 fun e W' =>
      (e = .returned (.bool true) ∧ J (pre ++ [x]) W' ∧ Kp W1 W') ∨ (e = .returned (.bool false) ∧ Jx (pre ++ [x]) W')) →
    J [] W →
    CallsIn F n P g (#[.func (.yield l) #[] #[]] ++ lb) W fun e W' => (∃ v, e = .returned v) ∧ ((∃ xs, S xs ∧ J xs W') ∨ (∃ pre, Sp pre ∧ Jx pre W'))

/-- The two blocks that a range over a function lays: its record, and the one for what its rounds defer. -/
def LoopLaid (b : Nat) (r : Loop) (W : World) : Prop := W.heap[b + 1]? = some (.loop r) ∧ W.heap[b]? = some (.deferred (some []))
theorem LoopLaid.put {b : Nat} {r r' : Loop} {W : World} (h : LoopLaid b r W) : LoopLaid b r' (W.putObj (b + 1) (.loop r')) :=
  ⟨World.putObj_heap_same (Array.getElem?_eq_some_iff.1 h.1).1, (World.putObj_heap_other (by omega)).trans h.2⟩
theorem LoopLaid.keep {b : Nat} {r : Loop} {W W' : World} (h : LoopLaid b r W) (hk : ∀ k o, b ≤ k → W.heap[k]? = some o → o.isCells = false → W'.heap[k]? = some o) : LoopLaid b r W' :=
  ⟨hk _ _ (by omega) h.1 rfl, hk _ _ (Nat.le_refl _) h.2 rfl⟩

theorem wpIn_rangeFunc_writes {α : Type} {g : Operand} {ps : Array Tmp} {assign body : Code} {Q : Exit → Act → World → Prop} {a : Act} {w : World}
    (hro : F.round = none) (h1 : 1 ≤ n) {gf : Nat} {lb : Array Value} (hg : a.eval g = .func (.func gf) #[] lb) (hFg : F.fn gf) (eg : ∀ args w, (callFunc gf args).run P w = .ok (.enter gf args) w)
    {encs : α → Array Value} {Kp St : World → World → Prop} {S Sp : List α → Prop} {w0 : World} (hseq : SeqW F (n - 1) P gf lb encs Kp St S Sp w0)
    (hSt : ∀ A B, St A B → ∀ k o, w.heap.size ≤ k → A.heap[k]? = some o → o.isCells = false → B.heap[k]? = some o)
    (hKt : ∀ {A B C : World}, Kp A B → Kp B C → Kp A C) (hKb : ∀ (W : World) (l : Nat) (o o' : Obj), w.heap.size ≤ l → W.heap[l]? = some o → o.isCells = false → o.isWalk = false → Kp W (W.putObj l o')) (hb0 : Below w0.heap.size w0 w) (hps : ∀ x, (encs x).size = ps.size)
    (I : List α → World → Prop) (Ix : Code → List α → World → Prop) (hI : OwnFrom w.heap.size I) (hIx : ∀ c, OwnFrom w.heap.size (Ix c)) (hIS : ∀ s A B, I s A → St A B → I s B) (h0 : I [] w) (Ax : α → Act → World → Prop) (hAx : ∀ x a', OwnFrom w.heap.size (fun (_ : Unit) W => Ax x a' W))
    (hassign : ∀ (l : Nat) (pre : List α) (x : α) (W : World) (K : Act → World → Prop), I pre W → (∀ a' W', KeepsFrom w.heap.size W W' → Kp W W' → I pre W' → Ax x a' W' → K a' W') →
      assign.wpIn (F.inRound l) (n - 1 - 1) P (Exit.then K (fun _ _ _ => False)) { tmps := (ps.zip (encs x)).foldl (fun t (p, v) => t.setIfInBounds p v) a.tmps, defers := [] } W)
    (hbody : ∀ (l : Nat) (pre : List α) (x : α) (a' : Act) (W : World), I pre W → Ax x a' W → Sp (pre ++ [x]) → body.wpIn (F.inRound l) (n - 1 - 1) P (ownPostK Kp I Ix (pre ++ [x]) W) a' W)
    (hdone : ∀ (D : Nat) (xs : List α) (W : World), w.heap.size ≤ D → S xs → I xs W → W.heap[D]? = some (.deferred (some [])) → Q .normal { a with defers := { target := .collected D, args := #[] } :: a.defers } W)
    (hstop : ∀ (D : Nat) (c : Code) (pre : List α) (W : World), w.heap.size ≤ D → Sp pre → Ix c pre W → W.heap[D]? = some (.deferred (some [])) → c.wpIn F n P Q { a with defers := { target := .collected D, args := #[] } :: a.defers } W) :
    (Code.rangeFunc g ps assign body).wpIn F n P Q a w := by
  refine wpIn_rangeFunc fun fn hfn => ?_
  rw [hro]
  obtain ⟨R, hR⟩ : ∃ R : LoopState → Option Code → Loop, R = fun st pe => { state := st, pending := pe, fn, tmps := a.tmps, params := ps, assign, body, defers := w.heap.size } := ⟨_, rfl⟩
  obtain ⟨V, hV⟩ : ∃ V, (w.alloc (.deferred (some []))).alloc (.loop (R .ready none)) = V := ⟨_, rfl⟩
  have hLV : LoopLaid w.heap.size (R .ready none) V := by
    subst hV
    refine ⟨?_, (Below.heap_alloc _ _ _ (by simp)).trans (World.alloc_heap_new w _)⟩
    have := World.alloc_heap_new (w.alloc (.deferred (some []))) (.loop (R .ready none))
    rwa [World.size_alloc] at this
  have hIV : I [] V := by rw [← hV]; exact hI.alloc _ (hI.alloc _ h0)
  have hBV : Below w0.heap.size w0 V := by
    rw [← hV]
    exact hb0.trans ((((Below.refl _ w).alloc (Nat.le_refl _) _).alloc (by simp) _).mono hb0.size)
  refine ⟨w.heap.size + 1, [{ target := .collected w.heap.size, args := #[] }], V, { target := .fn (.func gf) lb, args := #[.func (.yield (w.heap.size + 1)) #[] #[]] }, V, gf,
    #[.func (.yield (w.heap.size + 1)) #[] #[]] ++ lb, V, ?_, ?_, ?_, ?_, fun _ => h1, ?_⟩
  · rw [← hV, hR]; exact run_enterLoop_outer _ _ _ _ _
  · simp only [resolve, hg]
    simp [go_sem]
  · intro f' hf'; simp [Target.leads] at hf'; subst hf'; exact hFg
  · simp [invoke, go_sem, eg]
  · refine (hseq (w.heap.size + 1) (fun pre W => I pre W ∧ LoopLaid w.heap.size (R .ready none) W) (fun pre W => ∃ c, Ix c pre W ∧ LoopLaid w.heap.size (R .done (some c)) W) V hBV
      (fun s A B h hs => ⟨hIS s A B h.1 hs, h.2.keep (hSt A B hs)⟩) ?_ ⟨hIV, hLV⟩).mono ?_
    · rintro pre x W ⟨hi, hl⟩ hlen
      have hy := run_yield (P := P) (args := encs x) hl.1 (by rw [hR]; exact hps x)
      rw [hR] at hy
      refine ⟨fn, _, assign, body, hy, roundIn_of_wpIn hfn (hassign _ pre x W _ hi fun a' Wa hka hkpa hia hax => ?_)⟩
      replace hl := hl.keep hka.same
      refine ⟨_, run_beginRound hl.1 (by rw [hR]), ?_⟩
      obtain ⟨RB, hRB⟩ : ∃ z, ({ R .ready none with state := .busy } : Loop) = z := ⟨_, rfl⟩
      have hlb := hl.put (r' := RB)
      have hkb : Kp Wa (Wa.putObj (w.heap.size + 1) (.loop RB)) := hKb _ _ _ _ (by omega) hl.1 rfl rfl
      rw [hRB]
      refine wpIn_mono (hbody _ pre x _ _ (hI.putObj _ hia (by omega) hl.1 rfl) ((hAx x a').putObj (s := ()) _ hax (by omega) hl.1 rfl) hlen) ?_
      have fin : ∀ (jump : Option Code) (W3 : World), KeepsOthers (Wa.putObj (w.heap.size + 1) (.loop RB)) W3 →
          (Instr.endRound (w.heap.size + 1) jump).run P W3 = .ok (.bool jump.isNone) (W3.putObj (w.heap.size + 1) (.loop (R (if jump.isNone then .ready else .done) jump))) ∧ LoopLaid w.heap.size RB W3 ∧
          LoopLaid w.heap.size (R (if jump.isNone then .ready else .done) jump) (W3.putObj (w.heap.size + 1) (.loop (R (if jump.isNone then .ready else .done) jump))) := fun jump W3 hk3 => by
        have h3 := hlb.keep fun k o _ => hk3.same k o
        refine ⟨?_, h3, h3.put⟩
        have := run_endRound (P := P) jump h3.1
        rw [← hRB, hR] at this
        rw [hR]
        exact this
      rintro e a3 W3 hp
      have leave : ∀ (c : Code), KeepsOthers (Wa.putObj (w.heap.size + 1) (.loop RB)) W3 → Ix c (pre ++ [x]) W3 → Ix c (pre ++ [x]) (W3.putObj (w.heap.size + 1) (.loop (R .done (some c)))) ∧ LoopLaid w.heap.size (R .done (some c)) (W3.putObj (w.heap.size + 1) (.loop (R .done (some c)))) := fun c hk hi3 => by
        obtain ⟨_, h3, h4⟩ := fin (some c) W3 hk
        exact ⟨(hIx c).putObj _ hi3 (by omega) h3.1 rfl, h4⟩
      cases e with
      | normal =>
        obtain ⟨hk3, hkp3, hi3⟩ := hp
        obtain ⟨hr, h3, h4⟩ := fin none W3 hk3
        exact ⟨_, _, hr, .inl ⟨rfl, ⟨hI.putObj _ hi3 (by omega) h3.1 rfl, h4⟩, hKt (hKt (hKt hkpa hkb) hkp3) (hKb _ _ _ _ (by omega) h3.1 rfl rfl)⟩⟩
      | ret => exact ⟨_, _, (fin (some .ret) W3 hp.1).1, .inr ⟨rfl, .ret, leave _ hp.1 hp.2⟩⟩
      | exit id => exact ⟨_, _, (fin (some (.exit id)) W3 hp.1).1, .inr ⟨rfl, .exit id, leave _ hp.1 hp.2⟩⟩
      | goto t => exact ⟨_, _, (fin (some (.goto t)) W3 hp.1).1, .inr ⟨rfl, .goto t, leave _ hp.1 hp.2⟩⟩
      | panic ch => exact hp.elim
      | outgrown => exact hp.elim
    · rintro e W2 ⟨⟨v, rfl⟩, (⟨xs, hS, hi, hl⟩ | ⟨pre, hSp, c, hi, hl⟩)⟩
      · refine ⟨none, _, by have := run_endLoop (P := P) hl.1 (by rw [hR]; simp); rw [hR] at this; exact this, ?_⟩
        exact hdone _ xs _ (Nat.le_refl _) hS (hI.putObj _ hi (by omega) hl.1 rfl) ((World.putObj_heap_other (by omega)).trans hl.2)
      · refine ⟨some c, _, by have := run_endLoop (P := P) hl.1 (by rw [hR]; simp); rw [hR] at this; exact this, ?_⟩
        exact hstop _ c pre _ (Nat.le_refl _) hSp ((hIx c).putObj _ hi (by omega) hl.1 rfl) ((World.putObj_heap_other (by omega)).trans hl.2)
end Go

namespace Go
section
variable {P : Program} {ops : Array Oper} {Q : Exit → Act → World → Prop}

def Oper.noDefer (o : Oper) : Bool := match o.op with
  | .defer _ => false
  | _ => true
theorem Oper.noDefer_spec {o : Oper} (h : o.noDefer = true) : ∀ c, o.op ≠ .defer c := fun c e => by simp [Oper.noDefer, e] at h

theorem Oper.wpIn_round_of_wp {n l : Nat} {o : Oper} {a : Act} {w : World} {K K' : Act → World → Prop} (hd : o.noDefer = true) (hK : ∀ a w, K a w → K' a w) (h : o.wp P a w K Q) :
    o.wpIn (Fence.wide.inRound l) n P a w K' Q := by
  refine ⟨fun _ _ => trivial, ?_⟩
  unfold Oper.wp at h
  rw [Oper.semAt_eq _ _ _ (Oper.noDefer_spec hd)]
  generalize (execOp a.eval o).run P w = r at *
  cases r with
  | ok x w' =>
    cases x with
    | enter f args =>
      simp only [Oper.upon, Oper.uponIn] at h ⊢
      refine ⟨(fun hh => by simp [Fence.wide] at hh), CallsIn.inRound l (callsIn_wide.2 (h.mono ?_))⟩
      intro e w'' he
      cases e
      · exact hK _ _ he
      · exact he
      · exact he
    | row r args =>
      simp only [Oper.upon, Oper.uponIn] at h ⊢
      exact ⟨(fun hh => by simp [Fence.wide] at hh), fun c cs _ => let ⟨v, w2, r, s⟩ := h c cs; ⟨v, w2, hK _ _ r, stepsIn_wide.2 s⟩⟩
    | _ => simp only [Oper.upon, Oper.uponIn] at h ⊢ <;> first | exact hK _ _ h | exact h
  | halt x w' => cases x <;> simp only [Oper.upon, Oper.uponIn] at h ⊢ <;> exact h

theorem wpAnyIn_round_of_wpAny {n l : Nat} {md : Region.Mode} (hd : ops.all Oper.noDefer = true) (hQ : ¬ LetsOut Q) : ∀ (fuel : Nat) (listed : Array Bool) (a : Act) (w : World), wpAny P md ops Q fuel listed a w →
    wpAnyIn (Fence.wide.inRound l) n P md ops Q fuel listed a w := by
  intro fuel
  induction fuel with
  | zero => intro listed a w h; exact h
  | succ fuel ih =>
    intro listed a w h
    refine ⟨h.1, fun i hi => ?_⟩
    have h2 := h.2 i hi
    unfold wpOp at h2
    unfold wpOpIn
    cases ho : ops[i]? with
    | none => rw [ho] at h2; exact ih _ _ _ h2
    | some o =>
      rw [ho] at h2
      dsimp only at h2 ⊢
      split at h2
      · rename_i hw
        rw [if_pos hw]
        rcases h2 with h2 | ⟨_, h2⟩
        · have hod : o.noDefer = true := by
            obtain ⟨hi', he⟩ := Array.getElem?_eq_some_iff.1 ho
            rw [Array.all_eq_true] at hd
            rw [← he]
            exact hd i hi'
          exact Oper.wpIn_round_of_wp hod (fun a w => ih _ a w) h2
        · exact absurd h2 hQ
      · rename_i hw
        rw [if_neg hw]
        exact ⟨fun _ _ => trivial, ih _ _ _ h2⟩

end
end Go
