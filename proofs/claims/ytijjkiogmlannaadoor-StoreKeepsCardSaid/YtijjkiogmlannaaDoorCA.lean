/- Stores: general laws of memory and of statements whose order is left open. Rows of rows that were made, for elements of any kind. -/
import Derived.Test.YtijjkiogmlannaaDoorProg
import Derived.WalkKit
import Derived.WalkSpells
import Derived.WalkLawsBesides
import Derived.Lib.Hide
import Derived.BigQuiet
import Derived.Deep.QuietTactic
import Derived.Laws.OwnMore
import Derived.Deep.AppendLies
import Derived.Deep.Draws
import Derived.Laws.Rows
import Derived.Deep.Quiet
namespace Go.Proofs.YtijjkiogmlannaaDoor
open Go.RowKit

def inB (a n b : Int) : Bool := decide (a ≤ n ∧ n ≤ b)
theorem inB_iff {a n b : Int} : inB a n b = true ↔ a ≤ n ∧ n ≤ b := by simp [inB]
def withinB (a lo hi b : Int) : Bool := decide (a ≤ lo ∧ lo ≤ hi ∧ hi ≤ b)
theorem withinB_iff {a lo hi b : Int} : withinB a lo hi b = true ↔ a ≤ lo ∧ lo ≤ hi ∧ hi ≤ b := by simp [withinB]

theorem bcell {W w1 : World} {n : Nat} (hb : Below n W w1) : (∀ b o, b < n → w1.cell? ⟨b, o, none⟩ = W.cell? ⟨b, o, none⟩) ∧ (∀ b o, b < n → w1.frozen? ⟨b, o, none⟩ = W.frozen? ⟨b, o, none⟩) :=
  ⟨fun b o h => hb.cell (p := ⟨b, o, none⟩) h, fun b o h => hb.frozen (p := ⟨b, o, none⟩) h⟩
theorem get_of_lt {α : Type} {l : List α} {k : Nat} (h : k < l.length) : ∃ x, l[k]? = some x := ⟨_, List.getElem?_eq_getElem h⟩
/-- A slice's elements, each of k cells. -/
def RowAt {α : Type} (k : Nat) (R : α → List Value) (w : World) (B : Nat) (A : Option Addr) (xs : List α) : Prop :=
  xs ≠ [] → ∃ b o, A = some ⟨b, o, none⟩ ∧ b < B ∧ ∀ i x, xs[i]? = some x → ∀ j v, (R x)[j]? = some v → w.cell? ⟨b, o + i * k + j, none⟩ = some v
theorem RowAt.next {α : Type} {k : Nat} {R : α → List Value} {w w' : World} {B : Nat} {A : Option Addr} {xs : List α} (h : RowAt k R w B A xs) (hb : Below B w w') {B' : Nat} (hB : B ≤ B') : RowAt k R w' B' A xs := fun hne => by
  obtain ⟨b, o, rfl, hlt, hc⟩ := h hne
  exact ⟨b, o, rfl, by omega, fun i x hx j v hv => ((bcell hb).1 _ _ hlt).trans (hc i x hx j v hv)⟩
theorem RowAt.up {α : Type} {k : Nat} {R : α → List Value} {w w' : World} {A : Option Addr} {xs : List α} (h : RowAt k R w w.heap.size A xs) (hb : Below w.heap.size w w') : RowAt k R w' w'.heap.size A xs := h.next hb hb.size
def prR (x : Int × Int) : List Value := [.int .i64 x.1, .int .i64 x.2]
abbrev PrsAt := RowAt 2 prR
def intR (x : Int) : List Value := [.int .i64 x]
abbrev IntsAt := RowAt 1 intR
end Go.Proofs.YtijjkiogmlannaaDoor

namespace Go
open Go.RowKit
/-- A world that keeps all that was there. -/
structure KeptW (w0 : World) where
  w : World
  h : Below w0.heap.size w0 w
instance KeptW.some_ (w0 : World) : Nonempty (KeptW w0) := ⟨⟨w0, Below.refl _ _⟩⟩
theorem rk_region {P : Program} {id : Nat} {Q : Exit → Act → World → Prop} {a : Act} {w : World} {l : List Oper} (hm : P.follows .mixedOrders = true) (hB : Region.lexB .any l.toArray = true)
    (h : wpQuiet P l.toArray (fun w' => ∃ u : KeptW w, w' = u.w) (fun a' => ∀ w', (∃ u : KeptW w, w' = u.w) → Q .normal a' w') l a) : (Code.region id l.toArray true).wp P Q a w :=
  wp_region_quiet (C := fun w' => ∃ u : KeptW w, w' = u.w) hm hB ⟨⟨w.drew, (Below.refl w.heap.size w).drew⟩, rfl⟩ (by simpa using h)
/-- A contract that keeps what was there, met in such a world. -/
theorem Calls.in_kept {P : Program} {f : FuncId} {args : Array Value} {w0 : World} {v : Value} (u : KeptW w0) (h : Calls P f args u.w fun e w' => e = .returned v ∧ Below u.w.heap.size u.w w') :
    Calls P f args u.w fun e w' => e = .returned v ∧ ∃ u' : KeptW w0, w' = u'.w :=
  h.mono fun _ w' hh => ⟨hh.1, ⟨w', u.h.trans (hh.2.mono u.h.size)⟩, rfl⟩
end Go

namespace Go
open Go.RowKit
section
variable {P : Program} {C : World → Prop} {l : List Oper} {o : Oper}

/-- Each operation waits for earlier ones alone, its guard is an earlier one; the last one waits for all others, and has no guard. -/
def tailB (l : List Oper) (o : Oper) : Bool :=
  o.guard.isNone && ((List.range l.length).all fun i => o.after.any fun e => Region.binds .any e && e.on == i) && (o.after.all fun e => !Region.binds .any e || decide (e.on < l.length)) &&
  ((List.range l.length).all fun i => (l[i]?).all fun p => (p.after.all fun e => !Region.binds .any e || decide (e.on < i)) && (p.guard.all fun g => decide (g.1 < i)))

theorem rkt_ready_mem {ops : Array Oper} {listed : Array Bool} {i : Nat} : i ∈ Region.ready .any ops listed ↔ i < ops.size ∧ listed.getD i true = false ∧ ∃ o, ops[i]? = some o ∧ ∀ e ∈ o.after, Region.binds .any e = true → listed.getD e.on false = true := by
  unfold Region.ready
  rw [List.mem_filter, List.mem_range]
  constructor
  · rintro ⟨h, h2⟩
    rw [Bool.and_eq_true] at h2
    obtain ⟨h3, h4⟩ := h2
    refine ⟨h, by simpa using h3, ?_⟩
    cases ho : ops[i]? with
    | none => simp [ho] at h4
    | some o =>
      refine ⟨o, rfl, fun e he hb => ?_⟩
      simp only [ho, Option.map_some, Option.getD_some] at h4
      have := Array.all_eq_true'.1 h4 e he
      rw [hb] at this
      simpa using this
  · rintro ⟨h, h3, o, ho, h4⟩
    refine ⟨h, ?_⟩
    rw [Bool.and_eq_true]
    refine ⟨by simp [h3], ?_⟩
    simp only [ho, Option.map_some, Option.getD_some]
    refine Array.all_eq_true'.2 fun e he => ?_
    cases hb : Region.binds .any e with
    | false => rfl
    | true => simp [h4 e he hb]

/-- What the test says. -/
structure TailOk (l : List Oper) (o : Oper) : Prop where
  noGuard : o.guard = none
  waits : ∀ i, i < l.length → ∃ e ∈ o.after, Region.binds .any e = true ∧ e.on = i
  below : ∀ e ∈ o.after, Region.binds .any e = true → e.on < l.length
  early : ∀ i p, l[i]? = some p → (∀ e ∈ p.after, Region.binds .any e = true → e.on < i) ∧ ∀ g, p.guard = some g → g.1 < i
theorem rkt_tail_ok (h : tailB l o = true) : TailOk l o := by
  simp only [tailB, Bool.and_eq_true] at h
  obtain ⟨⟨⟨h1, h2⟩, h3⟩, h4⟩ := h
  refine ⟨by simpa using h1, fun i hi => ?_, fun e he hb => ?_, fun i p hp => ?_⟩
  · have := List.all_eq_true.1 h2 i (List.mem_range.2 hi)
    obtain ⟨e, he, hb⟩ := Array.any_eq_true'.1 this
    rw [Bool.and_eq_true] at hb
    exact ⟨e, he, hb.1, by simpa using hb.2⟩
  · have := Array.all_eq_true'.1 h3 e he
    rw [hb] at this
    simpa using this
  · have hi : i < l.length := (List.getElem?_eq_some_iff.1 hp).1
    have := List.all_eq_true.1 h4 i (List.mem_range.2 hi)
    rw [hp, Option.all_some, Bool.and_eq_true] at this
    obtain ⟨t1, t2⟩ := this
    refine ⟨fun e he hb => ?_, fun g hg => ?_⟩
    · have := Array.all_eq_true'.1 t1 e he
      rw [hb] at this
      simpa using this
    · rw [hg] at t2
      simpa using t2

theorem rkt_push_getD {A : Array Bool} {n : Nat} (hA : A.size = n) (b d : Bool) {i : Nat} (hi : i < n) : (A.push b).getD i d = A.getD i d := by
  simp only [Array.getD_eq_getD_getElem?]
  rw [Array.getElem?_push_lt (by omega : i < A.size), Array.getElem?_eq_getElem (by omega : i < A.size)]
theorem rkt_push_getD_at {A : Array Bool} {n : Nat} (hA : A.size = n) (b d : Bool) : (A.push b).getD n d = b := by
  subst hA
  simp [Array.getD_eq_getD_getElem?]
theorem rkt_push_set {A : Array Bool} {n : Nat} (hA : A.size = n) (b d : Bool) {i : Nat} (hi : i < n) : (A.push b).setIfInBounds i d = (A.setIfInBounds i d).push b := by
  apply Array.ext_getElem?
  intro j
  simp only [Array.getElem?_setIfInBounds, Array.getElem?_push, Array.size_push, Array.size_setIfInBounds]
  by_cases e : i = j
  · subst e
    simp [hA, hi, show ¬ i = n by omega, show i < n + 1 by omega]
  · simp [e]
theorem rkt_push_set_at {A : Array Bool} {n : Nat} (hA : A.size = n) (b d : Bool) : (A.push b).setIfInBounds n d = A.push d := by
  subst hA
  apply Array.ext_getElem?
  intro j
  simp only [Array.getElem?_setIfInBounds, Array.getElem?_push, Array.size_push]
  by_cases e : A.size = j
  · subst e
    simp
  · simp [e, Ne.symm e]

theorem rkt_ops_at {i : Nat} (hi : i < l.length) : ((l ++ [o]).toArray)[i]? = (l.toArray)[i]? := by
  simp [List.getElem?_append_left hi]
theorem rkt_ops_last : ((l ++ [o]).toArray)[l.length]? = some o := by simp

theorem rkt_ready_low (T : TailOk l o) {A : Array Bool} (hA : A.size = l.length) (b : Bool) {i : Nat} (hi : i < l.length) : i ∈ Region.ready .any (l ++ [o]).toArray (A.push b) ↔ i ∈ Region.ready .any l.toArray A := by
  rw [rkt_ready_mem, rkt_ready_mem, rkt_ops_at hi, rkt_push_getD hA b true hi]
  refine and_congr (by simp; omega) (and_congr Iff.rfl ⟨?_, ?_⟩)
  · rintro ⟨p, hp, h⟩
    refine ⟨p, hp, fun e he hb => ?_⟩
    have := (T.early i p (by simpa using hp)).1 e he hb
    rw [← rkt_push_getD hA b false (by omega : e.on < l.length)]
    exact h e he hb
  · rintro ⟨p, hp, h⟩
    refine ⟨p, hp, fun e he hb => ?_⟩
    have := (T.early i p (by simpa using hp)).1 e he hb
    rw [rkt_push_getD hA b false (by omega : e.on < l.length)]
    exact h e he hb

/-- All of the others are listed. -/
def AllIn (l : List Oper) (A : Array Bool) : Prop := ∀ i, i < l.length → A.getD i false = true
theorem rkt_getD_both {A : Array Bool} {n i : Nat} (hA : A.size = n) (hi : i < n) (d e : Bool) : A.getD i d = A.getD i e := by
  simp only [Array.getD_eq_getD_getElem?]
  rw [Array.getElem?_eq_getElem (by omega : i < A.size)]
  rfl
theorem rkt_allIn_of_last (T : TailOk l o) {A : Array Bool} (hA : A.size = l.length) {b : Bool} (h : l.length ∈ Region.ready .any (l ++ [o]).toArray (A.push b)) : AllIn l A := by
  intro i hi
  obtain ⟨_, _, p, hp, h3⟩ := rkt_ready_mem.1 h
  rw [rkt_ops_last] at hp
  injection hp with hp
  subst hp
  obtain ⟨e, he, hb, rfl⟩ := T.waits i hi
  rw [← rkt_push_getD hA b false hi]
  exact h3 e he hb
theorem rkt_ready_nil_iff (T : TailOk l o) {A : Array Bool} (hA : A.size = l.length) : Region.ready .any l.toArray A = [] ↔ AllIn l A := by
  constructor
  · intro h i
    induction i using Nat.strongRecOn with
    | ind i ih =>
      intro hi
      cases hb : A.getD i false with
      | true => rfl
      | false =>
        exfalso
        have hm : i ∈ Region.ready .any l.toArray A := by
          obtain ⟨p, hp⟩ : ∃ p, l[i]? = some p := ⟨_, List.getElem?_eq_getElem hi⟩
          refine rkt_ready_mem.2 ⟨by simpa using hi, by rw [rkt_getD_both hA hi true false]; exact hb, p, by simpa using hp, fun e he hbb => ?_⟩
          have := (T.early i p hp).1 e he hbb
          exact ih _ this (by omega)
        rw [h] at hm
        simp at hm
  · intro h
    cases hr : Region.ready .any l.toArray A with
    | nil => rfl
    | cons i rs =>
      exfalso
      have hm : i ∈ Region.ready .any l.toArray A := by rw [hr]; simp
      obtain ⟨h1, h2, _⟩ := rkt_ready_mem.1 hm
      have hi : i < l.length := by simpa using h1
      rw [rkt_getD_both hA hi true false, h i hi] at h2
      exact absurd h2 (by decide)
theorem rkt_last_ready (T : TailOk l o) {A : Array Bool} (hA : A.size = l.length) (h : AllIn l A) : l.length ∈ Region.ready .any (l ++ [o]).toArray (A.push false) := by
  refine rkt_ready_mem.2 ⟨by simp, rkt_push_getD_at hA false true, o, rkt_ops_last, fun e he hb => ?_⟩
  have := T.below e he hb
  rw [rkt_push_getD hA false false this]
  exact h _ this
theorem rkt_ready_done (_T : TailOk l o) {A : Array Bool} (hA : A.size = l.length) (h : AllIn l A) : Region.ready .any (l ++ [o]).toArray (A.push true) = [] := by
  cases hr : Region.ready .any (l ++ [o]).toArray (A.push true) with
  | nil => rfl
  | cons i rs =>
    exfalso
    have hm : i ∈ Region.ready .any (l ++ [o]).toArray (A.push true) := by rw [hr]; simp
    obtain ⟨h1, h2, _⟩ := rkt_ready_mem.1 hm
    have hi : i < l.length + 1 := by simpa using h1
    by_cases hl : i < l.length
    · rw [rkt_push_getD hA true true hl, rkt_getD_both hA hl true false, h i hl] at h2
      exact absurd h2 (by decide)
    · have : i = l.length := by omega
      subst this
      rw [rkt_push_getD_at hA] at h2
      exact absurd h2 (by decide)
theorem rkt_yielded_at {tmps : Array Value} {i : Nat} (hi : i < l.length) : yielded (l ++ [o]).toArray tmps i = yielded l.toArray tmps i := by
  unfold yielded
  rw [rkt_ops_at hi]
theorem rkt_wanted_at (T : TailOk l o) {tmps : Array Value} {i : Nat} {p : Oper} (hp : l[i]? = some p) : Region.wanted p (yielded (l ++ [o]).toArray tmps) = Region.wanted p (yielded l.toArray tmps) := by
  have hi : i < l.length := (List.getElem?_eq_some_iff.1 hp).1
  unfold Region.wanted
  cases hg : p.guard with
  | none => rfl
  | some g =>
    obtain ⟨j, b⟩ := g
    have := (T.early i p hp).2 _ hg
    simp only
    rw [rkt_yielded_at (by omega : j < l.length)]
theorem rkt_wpOp_low (T : TailOk l o) {Q : Exit → Act → World → Prop} {i : Nat} (hi : i < l.length) {K : Act → World → Prop} {a : Act} {w : World} (h : wpOp P l.toArray Q i K a w) : wpOp P (l ++ [o]).toArray Q i K a w := by
  obtain ⟨p, hp⟩ : ∃ p, l[i]? = some p := ⟨_, List.getElem?_eq_getElem hi⟩
  have hp' : (l.toArray)[i]? = some p := by simpa using hp
  unfold wpOp at *
  rw [rkt_ops_at hi]
  simp only [hp'] at h ⊢
  rw [rkt_wanted_at T hp]
  exact h

/-- What is asked of the last operation, in every world of the class. -/
def LastOk (P : Program) (C : World → Prop) (o : Oper) (Q : Exit → Act → World → Prop) (a : Act) : Prop := ∀ w, C w → o.wp P a w (Q .normal) Q

theorem rkt_wp_last (T : TailOk l o) {Q : Exit → Act → World → Prop} {A : Array Bool} (hA : A.size = l.length) (h : AllIn l A) (n : Nat) {a : Act} {w : World} (hw : C w) (hl : LastOk P C o Q a) :
    wpOp P (l ++ [o]).toArray Q l.length (wpAny P .any (l ++ [o]).toArray Q n ((A.push false).setIfInBounds l.length true)) a w := by
  unfold wpOp
  simp only [rkt_ops_last]
  have hwant : Region.wanted o (yielded (l ++ [o]).toArray a.tmps) = true := by unfold Region.wanted; rw [T.noGuard]
  rw [hwant, if_pos rfl, rkt_push_set_at hA]
  refine .inl (Oper.wp_mono (fun a' w' hq => ?_) (hl w hw))
  have hd := rkt_ready_done T hA h
  cases n with
  | zero => exact ⟨hd, hq⟩
  | succ n => exact ⟨fun _ => hq, fun i hi => by rw [hd] at hi; simp at hi⟩

theorem rkt_wpAny_tail (T : TailOk l o) {Q : Exit → Act → World → Prop} : ∀ (fuel : Nat) (A : Array Bool) (a : Act) (w : World), A.size = l.length → C w →
    wpAnyQ P .any l.toArray C (LastOk P C o Q) fuel A a → wpAny P .any (l ++ [o]).toArray Q (fuel + 1) (A.push false) a w
  | 0, A, a, w, hA, hw, h => by
    have hall := (rkt_ready_nil_iff T hA).1 h.1
    refine ⟨fun h0 => ?_, fun i hi => ?_⟩
    · have := rkt_last_ready T hA hall
      rw [h0] at this
      simp at this
    · by_cases hl : i < l.length
      · have := (rkt_ready_low T hA false hl).1 hi
        rw [h.1] at this
        simp at this
      · have hs : i < l.length + 1 := by simpa using (rkt_ready_mem.1 hi).1
        have : i = l.length := by omega
        subst this
        exact rkt_wp_last T hA hall 0 hw h.2
  | fuel + 1, A, a, w, hA, hw, h => by
    refine ⟨fun h0 => ?_, fun i hi => ?_⟩
    · have hn : Region.ready .any l.toArray A = [] := by
        cases hr : Region.ready .any l.toArray A with
        | nil => rfl
        | cons i rs =>
          exfalso
          have hm : i ∈ Region.ready .any l.toArray A := by rw [hr]; simp
          have := (rkt_ready_low T hA false (by simpa using (rkt_ready_mem.1 hm).1)).2 hm
          rw [h0] at this
          simp at this
      have := rkt_last_ready T hA ((rkt_ready_nil_iff T hA).1 hn)
      rw [h0] at this
      simp at this
    · by_cases hl : i < l.length
      · refine rkt_wpOp_low T hl ?_
        rw [rkt_push_set hA false true hl]
        exact wpOp_of_qOp hw (fun a' w' hw' => rkt_wpAny_tail T fuel _ a' w' (by simpa using hA) hw') (h.2 i ((rkt_ready_low T hA false hl).1 hi))
      · have hs : i < l.length + 1 := by simpa using (rkt_ready_mem.1 hi).1
        have : i = l.length := by omega
        subst this
        have hall := rkt_allIn_of_last T hA hi
        exact rkt_wp_last T hA hall _ hw (h.1 ((rkt_ready_nil_iff T hA).2 hall))

/-- **One walk over the others, and the last one behind it, serves every order.** -/
theorem rk_tail {id : Nat} {ops : List Oper} (l : List Oper) (o : Oper) (hs : ops = l ++ [o]) {Q : Exit → Act → World → Prop} {a : Act} {w : World} (hm : P.follows .mixedOrders = true) (hB : Region.lexB .any l.toArray = true) (hT : tailB l o = true)
    (hC : C { w with drawn := w.drawn + 1 }) (h : wpQuiet P l.toArray C (LastOk P C o Q) l a) : (Code.region id ops.toArray true).wp P Q a w := by
  subst hs
  simp only [Region.lexB, Bool.and_eq_true] at hB
  have h1 := wpAnyQ_lex (P := P) (C := C) (md := .any) (ops := l.toArray) hB.1 l 0 (Array.replicate l.length false) a (by simp) (by simpa using hB.2) h
  have h2 := rkt_wpAny_tail (rkt_tail_ok hT) l.length (Array.replicate l.length false) a { w with drawn := w.drawn + 1 } (by simp) hC h1
  refine wp_region_any hm ?_
  have e1 : (l ++ [o]).toArray.size = l.length + 1 := by simp
  rw [e1, Array.replicate_succ]
  exact h2
end
end Go

namespace Go.Proofs.YtijjkiogmlannaaDoor
open Go.RowKit

theorem w64 {n : Int} (h : -9223372036854775808 ≤ n ∧ n ≤ 9223372036854775807) : wrap64 n = n := by unfold wrap64; omega
theorem blk_set {w : World} {g : Nat} {cs : Array Value} {t : TypeId} (h : w.heap[g]? = some (.cells cs t (0, 0))) (j : Nat) (u : Value) : (w.setCell ⟨g, j, none⟩ u).heap[g]? = some (.cells (cs.setIfInBounds j u) t (0, 0)) := by
  simp [World.setCell, Array.getElem?_modify, h]
theorem take_all {α : Type} {f : α → Bool} {xs : List α} {k : Nat} {x : α} (hx : xs[k]? = some x) (ha : (xs.take k).all f = true) (hf : f x = true) : (xs.take (k + 1)).all f = true := by
  rw [List.take_add_one, List.all_append, ha, hx]
  simp [hf]
theorem all_no {α : Type} {f : α → Bool} {xs : List α} {k : Nat} {x : α} (hx : xs[k]? = some x) (hf : f x = false) : xs.all f = false := by
  rw [List.all_eq_false]
  exact ⟨x, List.mem_of_getElem? hx, by simp [hf]⟩
theorem own_block {w : World} {base : Nat} {e : TypeId} {n g c : Nat} {xs : List Value} (h : w.ownsRow base e 1 (.slice (some ⟨g, 0, none⟩) n c) n xs) : base ≤ g ∧ n ≤ c ∧ ∃ cs, w.heap[g]? = some (.cells cs e (0, 0)) ∧ ∀ (i : Nat) (x : Value), xs[i]? = some x → cs[i]? = some x := by
  rcases h.2 with h0 | ⟨g', cap, cur, h1, h2, h3, h4, _, _, h6⟩
  · exact absurd h0.1 (by simp)
  · injection h1 with e1 e2 e3
    injection e1 with e1
    injection e1 with e1
    subst e1 e3
    refine ⟨h2, h4, cur, h3, fun i x hx => ?_⟩
    rw [← h6, List.getElem?_take] at hx
    split at hx
    · simpa using hx
    · simp at hx
theorem own_next {w w' : World} {base : Nat} {e : TypeId} {size n : Nat} {v : Value} {xs : List Value} (h : w.ownsRow base e size v n xs) (hb : Below w.heap.size w w') : w'.ownsRow base e size v n xs :=
  h.kept (row := none) ⟨hb.os, hb.tape, hb.output, hb.size, fun b hb' _ => hb.block b hb'⟩ (by
    cases hv : v.ownBlock with
    | none => exact .inl rfl
    | some _ => exact .inr (by simp))
theorem own_of_blocks {w w' : World} {base : Nat} {e : TypeId} {size n : Nat} {v : Value} {xs : List Value} (h : w.ownsRow base e size v n xs) (hk : ∀ B, v.ownBlock = some B → w'.heap[B]? = w.heap[B]?) : w'.ownsRow base e size v n xs := by
  refine ⟨h.1, ?_⟩
  rcases h.2 with h0 | ⟨k, cap, cur, rfl, hb, hh, hr⟩
  · exact .inl h0
  · exact .inr ⟨k, cap, cur, rfl, hb, (hk k rfl).trans hh, hr⟩
theorem own_at {w : World} {base : Nat} {e : TypeId} {size n : Nat} {v : Value} {xs : List Value} (h : w.ownsRow base e size v n xs) {B : Nat} (hB : v.ownBlock = some B) : base ≤ B ∧ ∃ cur, w.heap[B]? = some (.cells cur e (0, 0)) := by
  rcases h.2 with h0 | ⟨k, cap, cur, rfl, hb, hh, hr⟩
  · rw [h0.1] at hB
    simp [Value.ownBlock] at hB
  · simp [Value.ownBlock] at hB
    subst hB
    exact ⟨hb, cur, hh⟩
theorem own_mono {w : World} {base base' : Nat} {e : TypeId} {size n : Nat} {v : Value} {xs : List Value} (h : w.ownsRow base e size v n xs) (hb : base' ≤ base) : w.ownsRow base' e size v n xs := by
  refine ⟨h.1, ?_⟩
  rcases h.2 with h0 | ⟨k, cap, cur, h1, h2, h3⟩
  · exact .inl h0
  · exact .inr ⟨k, cap, cur, h1, Nat.le_trans hb h2, h3⟩
theorem own_ne {w : World} {base : Nat} {e : TypeId} {size n : Nat} {v : Value} {xs : List Value} (h : w.ownsRow base e size v n xs) {b : Nat} {o : Obj} (hb : w.heap[b]? = some o) (ho : b < base ∨ ∀ cur, o ≠ .cells cur e (0, 0)) : some b ≠ v.ownBlock := fun hv => by
  obtain ⟨h1, cur, h2⟩ := own_at h hv.symm
  rcases ho with ho | ho
  · omega
  · rw [h2] at hb
    injection hb with hb
    exact ho cur hb.symm
theorem ints_el {w : World} {B : Nat} {A : Option Addr} {row : List Int} {i : Nat} {x : Int} (h : IntsAt w B A row) (hx : row[i]? = some x) : ∃ b o, A = some ⟨b, o, none⟩ ∧ b < B ∧ w.cell? ⟨b, o + i, none⟩ = some (.int .i64 x) := by
  obtain ⟨b, o, rfl, h1, h2⟩ := h (by intro e; rw [e] at hx; simp at hx)
  exact ⟨b, o, rfl, h1, by simpa using h2 i x hx 0 _ rfl⟩
theorem heapsz {w : World} {B : Nat} {cs : Array Value} {t : TypeId} (h : w.heap[B]? = some (.cells cs t (0, 0))) : B < w.heap.size := (Array.getElem?_eq_some_iff.1 h).1
theorem box3_cells {w : World} {B : Nat} {x y z : Value} {t : TypeId} (h : w.heap[B]? = some (.cells #[x, y, z] t (0, 0))) : w.cell? ⟨B, 0, none⟩ = some x ∧ w.cell? ⟨B, 1, none⟩ = some y ∧ w.cell? ⟨B, 2, none⟩ = some z := by
  have p0 := cell_of_row w B 0 _ t (0, 0) h
  have p1 := cell_of_row w B 1 _ t (0, 0) h
  have p2 := cell_of_row w B 2 _ t (0, 0) h
  simp at p0 p1 p2
  exact ⟨p0, p1, p2⟩
theorem ret_bool {a b : Bool} (h : a = b) : Ending.returned (.bool a) = .returned (.bool b) := by rw [h]
theorem belN {w wr : World} (h : Below w.heap.size w wr) (n : Nat) : Below w.heap.size w (wr.drewN n) := ⟨h.os, h.tape, h.output, h.size, h.block⟩
theorem list_ne_of_get {α : Type} {xs ys : List α} {k : Nat} {x y : α} (hx : xs[k]? = some x) (hy : ys[k]? = some y) (h : x ≠ y) : xs ≠ ys := fun he => by
  rw [he, hy] at hx
  exact h (Option.some.inj hx).symm
theorem take_eq_succ {α : Type} {xs ys : List α} {k : Nat} {x : α} (hx : xs[k]? = some x) (hy : ys[k]? = some x) (h : xs.take k = ys.take k) : xs.take (k + 1) = ys.take (k + 1) := by
  obtain ⟨h1, e1⟩ := List.getElem?_eq_some_iff.1 hx
  obtain ⟨h2, e2⟩ := List.getElem?_eq_some_iff.1 hy
  rw [List.take_succ_eq_append_getElem h1, List.take_succ_eq_append_getElem h2, h, e1, e2]
theorem flat_get {α : Type} {k : Nat} {R : α → List Value} (hk : ∀ x, (R x).length = k) : ∀ (xs : List α) (i : Nat) (x : α) (j : Nat), xs[i]? = some x → j < k → ((xs.map R).flatten)[i * k + j]? = (R x)[j]?
  | [], i, x, j, h, _ => by simp at h
  | a :: xs, 0, x, j, h, hj => by
    simp at h
    subst h
    rw [List.map_cons, List.flatten_cons, Nat.zero_mul, Nat.zero_add, List.getElem?_append_left (by rw [hk]; exact hj)]
  | a :: xs, i + 1, x, j, h, hj => by
    rw [List.getElem?_cons_succ] at h
    rw [List.map_cons, List.flatten_cons, List.getElem?_append_right (by rw [hk, Nat.succ_mul]; omega), hk, show (i + 1) * k + j - k = i * k + j by rw [Nat.succ_mul]; omega]
    exact flat_get hk xs i x j h hj
theorem rowAt_block {α : Type} {k : Nat} {R : α → List Value} {w : World} {B b : Nat} {T : TypeId} {xs : List α} (hk : ∀ x, (R x).length = k) (h : w.heap[b]? = some (.cells ((xs.map R).flatten).toArray T (0, 0))) (hb : b < B) : RowAt k R w B (some ⟨b, 0, none⟩) xs := fun _ => by
  refine ⟨b, 0, rfl, hb, fun i x hx j v hv => ?_⟩
  have hj : j < k := by rw [← hk x]; exact (List.getElem?_eq_some_iff.1 hv).1
  rw [Nat.zero_add, cell_of_row w b _ _ T (0, 0) h, List.getElem?_toArray, flat_get hk xs i x j hx hj, hv]
end Go.Proofs.YtijjkiogmlannaaDoor

namespace Go.Proofs.YtijjkiogmlannaaDoor
open Go.RowKit

def GridAt {α : Type} (k : Nat) (R : α → List Value) (w : World) (B : Nat) (A : Option Addr) (ts : List (List α)) : Prop :=
  ts ≠ [] → ∃ b o, A = some ⟨b, o, none⟩ ∧ b < B ∧ ∀ i x, ts[i]? = some x → ∃ A' c', w.cell? ⟨b, o + i, none⟩ = some (.slice A' x.length c') ∧ RowAt k R w B A' x ∧ x.length ≤ maxLen ∧ x.length ≤ c'
theorem GridAt.next {α : Type} {k : Nat} {R : α → List Value} {w w' : World} {B B' : Nat} {A : Option Addr} {ts : List (List α)} (h : GridAt k R w B A ts) (hb : Below B w w') (hB : B ≤ B') : GridAt k R w' B' A ts := fun hne => by
  obtain ⟨b, o, rfl, hlt, hc⟩ := h hne
  refine ⟨b, o, rfl, by omega, fun i x hx => ?_⟩
  obtain ⟨A', c', h1, h2, h3⟩ := hc i x hx
  exact ⟨A', c', ((bcell hb).1 _ _ hlt).trans h1, h2.next hb hB, h3⟩
theorem GridAt.up {α : Type} {k : Nat} {R : α → List Value} {w w' : World} {A : Option Addr} {ts : List (List α)} (h : GridAt k R w w.heap.size A ts) (hb : Below w.heap.size w w') : GridAt k R w' w'.heap.size A ts := h.next hb hb.size
theorem grid_row {α : Type} {k : Nat} {R : α → List Value} {w : World} {B : Nat} {A : Option Addr} {ts : List (List α)} {t : Nat} {row : List α} (h : GridAt k R w B A ts) (ht : ts[t]? = some row) :
    ∃ b o A' m c', A = some ⟨b, o, none⟩ ∧ b < B ∧ m = row.length ∧ w.cell? ⟨b, o + t, none⟩ = some (.slice A' m c') ∧ RowAt k R w B A' row ∧ m ≤ maxLen := by
  obtain ⟨b, o, rfl, h1, h2⟩ := h (by intro e; rw [e] at ht; simp at ht)
  obtain ⟨A', c', e1, e2, e3, _⟩ := h2 t row ht
  exact ⟨b, o, A', _, c', rfl, h1, rfl, e1, e2, e3⟩

def flatR {α : Type} (R : α → List Value) (row : List α) : List Value := (row.map R).flatten
theorem flatR_snoc {α : Type} (R : α → List Value) (row : List α) (x : α) : flatR R (row ++ [x]) = flatR R row ++ R x := by simp [flatR]
theorem flatR_take {α : Type} {R : α → List Value} {row : List α} {j : Nat} {x : α} (h : row[j]? = some x) : flatR R (row.take (j + 1)) = flatR R (row.take j) ++ R x := by
  rw [List.take_add_one, h]
  exact flatR_snoc _ _ _
/-- A row that was made. -/
def RowIs {α : Type} (R : α → List Value) (eT : TypeId) (B : Nat) (row : List α) (v : Value) (w : World) : Prop :=
  (row = [] ∧ v = .slice none 0 0) ∨ ∃ b c, v = .slice (some ⟨b, 0, none⟩) row.length c ∧ B ≤ b ∧ row.length ≤ c ∧ ∃ cs, w.heap[b]? = some (.cells cs eT (0, 0)) ∧ ∀ (i : Nat) (x : Value), (flatR R row)[i]? = some x → cs[i]? = some x
theorem RowIs.of_own {α : Type} {R : α → List Value} {eT : TypeId} {B k : Nat} {row : List α} {v : Value} {w : World} (h : w.ownsRow B eT k v row.length (flatR R row)) : RowIs R eT B row v w := by
  rcases h.2 with ⟨h1, h2⟩ | ⟨g, cap, cur, h1, h2, h3, h4, _, _, h6⟩
  · exact .inl ⟨List.eq_nil_of_length_eq_zero h2, h1⟩
  · refine .inr ⟨g, cap, h1, h2, h4, cur, h3, fun i x hx => ?_⟩
    rw [← h6, List.getElem?_take] at hx
    split at hx
    · simpa using hx
    · simp at hx
theorem RowIs.keep {α : Type} {R : α → List Value} {eT : TypeId} {B : Nat} {row : List α} {v : Value} {w w' : World} (h : RowIs R eT B row v w) (hk : ∀ b cs, B ≤ b → w.heap[b]? = some (.cells cs eT (0, 0)) → w'.heap[b]? = some (.cells cs eT (0, 0))) : RowIs R eT B row v w' := by
  rcases h with h | ⟨b, c, h1, h2, h3, cs, h4, h5⟩
  · exact .inl h
  · exact .inr ⟨b, c, h1, h2, h3, cs, hk b cs h2 h4, h5⟩
theorem RowIs.at_ {α : Type} {k : Nat} {R : α → List Value} {eT : TypeId} {B : Nat} {row : List α} {v : Value} {w : World} (h : RowIs R eT B row v w) (hR : ∀ x, (R x).length = k) :
    ∃ A c, v = .slice A row.length c ∧ RowAt k R w w.heap.size A row ∧ row.length ≤ c := by
  rcases h with ⟨rfl, rfl⟩ | ⟨b, c, rfl, h2, h3, cs, h4, h5⟩
  · exact ⟨none, 0, rfl, fun h => absurd rfl h, Nat.le_refl _⟩
  · refine ⟨_, c, rfl, fun _ => ⟨b, 0, rfl, heapsz h4, fun i x hx j v hv => ?_⟩, h3⟩
    have hj : j < k := by rw [← hR x]; exact (List.getElem?_eq_some_iff.1 hv).1
    rw [Nat.zero_add, cell_of_row w b _ _ eT (0, 0) h4]
    refine h5 _ _ ?_
    unfold flatR
    rw [flat_get hR row i x j hx hj, hv]

/-- A list of rows that grows. -/
structure GrdI {α : Type} (R : α → List Value) (eT sT : TypeId) (w : World) (base : Nat) (LL : List (List α)) (lv : Value) (rows : List Value) (wr : World) : Prop where
  bel : Below w.heap.size w wr
  own : wr.ownsRow base sT 1 lv LL.length rows
  rws : rows.length = LL.length ∧ ∀ (j : Nat) (row : List α), LL[j]? = some row → ∃ v, rows[j]? = some v ∧ RowIs R eT base row v wr
  low : w.heap.size ≤ base
section
variable {α : Type} {R : α → List Value} {eT sT : TypeId} {w wr wq : World} {base : Nat} {LL : List (List α)} {lv : Value} {rows : List Value}
theorem GrdI.nil (hb : Below w.heap.size w wr) (hl : w.heap.size ≤ base) : GrdI R eT sT w base ([] : List (List α)) (.slice none 0 0) [] wr :=
  ⟨hb, World.ownsRow_nil _ _ _ _, ⟨rfl, fun j r hj => by simp at hj⟩, hl⟩
theorem GrdI.keep (h : GrdI R eT sT w base LL lv rows wr) (hb : Below w.heap.size w wq) (hk : ∀ b, base ≤ b → b < wr.heap.size → wq.heap[b]? = wr.heap[b]?) : GrdI R eT sT w base LL lv rows wq :=
  ⟨hb, Go.Proofs.YtijjkiogmlannaaDoor.own_of_blocks h.own fun B hB => hk B (own_at h.own hB).1 (by obtain ⟨_, cur, hc⟩ := own_at h.own hB; exact (Array.getElem?_eq_some_iff.1 hc).1), ⟨h.rws.1, fun j row hj => by
    obtain ⟨v, h1, h2⟩ := h.rws.2 j row hj
    exact ⟨v, h1, h2.keep fun b cs hB hc => (hk b hB (Array.getElem?_eq_some_iff.1 hc).1).trans hc⟩⟩, h.low⟩
theorem GrdI.below (h : GrdI R eT sT w base LL lv rows wr) (hb : Below wr.heap.size wr wq) : GrdI R eT sT w base LL lv rows wq :=
  h.keep (h.bel.trans (hb.mono h.bel.size)) fun b _ hlt => hb.block b hlt
/-- Another row, which was made, is appended. -/
theorem GrdI.append {v v' : Value} {row : List α} {o : Obj} (h : GrdI R eT sT w base LL lv rows wr) (hne : eT ≠ sT) (hr : RowIs R eT base row v wr)
    (ho : wq.ownsRow base sT 1 v' (LL.length + 1) (rows ++ [v])) (hq : (wr.alloc o).grownBy wq lv.ownBlock) :
    GrdI R eT sT w base (LL ++ [row]) v' (rows ++ [v]) wq := by
  have hb0 := (Below.refl wr.heap.size wr).alloc (Nat.le_refl _) o
  have hk : ∀ b cs, base ≤ b → wr.heap[b]? = some (.cells cs eT (0, 0)) → wq.heap[b]? = some (.cells cs eT (0, 0)) := fun b cs _ hx => by
    have hlt := (Array.getElem?_eq_some_iff.1 hx).1
    exact (hq.block b (by simp; omega) (own_ne h.own hx (.inr fun _ e => by injection e with _ e; exact hne e))).trans ((hb0.block b hlt).trans hx)
  refine ⟨(h.bel.trans (hb0.mono h.bel.size)).grown hq (Nat.le_trans h.bel.size hb0.size) (fun B hB => Nat.le_trans h.low (own_at h.own hB).1), by rw [List.length_append]; exact ho, ⟨by rw [List.length_append, List.length_append, h.rws.1]; rfl, fun j r hj => ?_⟩, h.low⟩
  by_cases hjl : j < LL.length
  · rw [List.getElem?_append_left hjl] at hj
    obtain ⟨u, h1, h2⟩ := h.rws.2 j r hj
    exact ⟨u, by rw [List.getElem?_append_left (by rw [h.rws.1]; exact hjl)]; exact h1, h2.keep hk⟩
  · have : j = LL.length := by
      have := (List.getElem?_eq_some_iff.1 hj).1
      simp at this
      omega
    subst this
    rw [List.getElem?_append_right (Nat.le_refl _), Nat.sub_self] at hj
    simp at hj
    subst hj
    exact ⟨v, by rw [← h.rws.1, List.getElem?_append_right (Nat.le_refl _), Nat.sub_self]; rfl, hr.keep hk⟩
/-- What was made, as rows of rows. -/
theorem GrdI.grid {k : Nat} (h : GrdI R eT sT w base LL lv rows wr) (hR : ∀ x, (R x).length = k) (h10 : ∀ row ∈ LL, row.length ≤ maxLen) :
    ∃ A3 c3, lv = .slice A3 LL.length c3 ∧ GridAt k R wr wr.heap.size A3 LL ∧ LL.length ≤ c3 ∧ Below w.heap.size w wr := by
  rcases h.own.2 with ⟨h1, h2⟩ | ⟨g, cap, cur, h1, h2, h3, h4, h5, h6, h7⟩
  · have hl : LL = [] := List.eq_nil_of_length_eq_zero h2
    subst hl
    exact ⟨none, 0, h1, fun hne => absurd rfl hne, Nat.le_refl _, h.bel⟩
  · refine ⟨_, cap, h1, fun _ => ⟨g, 0, rfl, (Array.getElem?_eq_some_iff.1 h3).1, fun i x hx => ?_⟩, h4, h.bel⟩
    obtain ⟨v, e1, e2⟩ := h.rws.2 i x hx
    obtain ⟨A, c, rfl, e3, e4⟩ := e2.at_ hR
    refine ⟨A, c, ?_, e3, h10 x (List.mem_of_getElem? hx), e4⟩
    rw [Nat.zero_add, cell_of_row wr g i _ sT (0, 0) h3]
    rw [← h7, List.getElem?_take] at e1
    split at e1
    · simpa using e1
    · simp at e1
end
end Go.Proofs.YtijjkiogmlannaaDoor
