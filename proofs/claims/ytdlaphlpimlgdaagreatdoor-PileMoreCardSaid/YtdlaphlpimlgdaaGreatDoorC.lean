/- Contracts of the small functions of package pile and of the specification: what they return, for every argument. What lies in memory: slices of piles, pairs, rows, spans, cures and ints. -/
import Derived.Test.YtdlaphlpimlgdaaGreatDoorProg
import Derived.WalkKit
import Derived.WalkSpells
import Derived.WalkLawsBesides
import Derived.Lib.Hide
import Derived.BigQuiet
import Derived.Deep.QuietTactic
import Derived.Laws.OwnMore
import Derived.Deep.AppendLies
import Derived.Deep.Draws
import Derived.Laws.Rows
import Derived.Deep.Quiet
namespace Go.Proofs.YtdlaphlpimlgdaaGreatDoor
open Go.RowKit

/-! ### Ranges -/

def inB (a n b : Int) : Bool := decide (a ≤ n ∧ n ≤ b)
theorem inB_iff {a n b : Int} : inB a n b = true ↔ a ≤ n ∧ n ≤ b := by simp [inB]
def withinB (a lo hi b : Int) : Bool := decide (a ≤ lo ∧ lo ≤ hi ∧ hi ≤ b)
theorem withinB_iff {a lo hi b : Int} : withinB a lo hi b = true ↔ a ≤ lo ∧ lo ≤ hi ∧ hi ≤ b := by simp [withinB]
set_option maxHeartbeats 400000 in
theorem from_any (a n b : Int) (w : World) :
    Calls Tryz.prog 67 #[.int .i64 a, .int .i64 n, .int .i64 b] w fun e w' => e = .returned (.bool (inB a n b)) ∧ w = w' := by
  by_cases h1 : a ≤ n <;> by_cases h3 : n ≤ b
  all_goals
    go_enter Tryz.func67, Tryz.ntmps67
    go_wp2
    go_ret
    exact ⟨by simp [inB, h1, h3], rfl⟩
set_option maxHeartbeats 400000 in
theorem in_any (n a b : Int) (w : World) :
    Calls Tryz.prog 74 #[.int .i64 n, .int .i64 a, .int .i64 b] w fun e w' => e = .returned (.bool (inB a n b)) ∧ w = w' := by
  by_cases h1 : a ≤ n <;> by_cases h3 : n ≤ b
  all_goals
    go_enter Tryz.func74, Tryz.ntmps74
    go_wp2
    go_ret
    exact ⟨by simp [inB, h1, h3], rfl⟩
set_option maxHeartbeats 400000 in
theorem inS_any (n lo hi : Int) (w : World) :
    Calls Tryz.prog 111 #[.int .i64 n, .agg #[.int .i64 lo, .int .i64 hi]] w fun e w' => e = .returned (.bool (inB lo n hi)) ∧ Below w.heap.size w w' := by
  go_enter Tryz.func111, Tryz.ntmps111
  go_wp2_with (go_at_call 67; refine (from_any _ _ _ _).mono ?_; rintro e w' ⟨rfl, rfl⟩)
  go_ret
  exact ⟨rfl, (Below.refl _ _).alloc (Nat.le_refl _) _⟩
set_option maxHeartbeats 400000 in
theorem within_any (a lo hi b : Int) (w : World) :
    Calls Tryz.prog 91 #[.int .i64 a, .agg #[.int .i64 lo, .int .i64 hi], .int .i64 b] w fun e w' => e = .returned (.bool (withinB a lo hi b)) ∧ Below w.heap.size w w' := by
  by_cases h1 : a ≤ lo <;> by_cases h2 : lo ≤ hi <;> by_cases h3 : hi ≤ b
  all_goals try (exfalso; omega)
  all_goals
    go_enter Tryz.func91, Tryz.ntmps91
    go_wp2
    go_ret
    exact ⟨by simp [withinB, h1, h2, h3], (Below.refl _ _).alloc (Nat.le_refl _) _⟩
set_option maxHeartbeats 400000 in
theorem thaw_any (lo hi : Int) (w : World) :
    Calls Tryz.prog 94 #[.agg #[.int .i64 lo, .int .i64 hi]] w fun e w' => e = .returned (.bool (withinB 0 lo hi 50000)) ∧ Below w.heap.size w w' := by
  by_cases h1 : 0 ≤ lo <;> by_cases h2 : lo ≤ hi <;> by_cases h3 : hi ≤ 50000
  all_goals try (exfalso; omega)
  all_goals
    go_enter Tryz.func94, Tryz.ntmps94
    go_wp2
    go_ret
    exact ⟨by simp [withinB, h1, h2, h3], (Below.refl _ _).alloc (Nat.le_refl _) _⟩

/-! ### What lies in memory -/

theorem bcell {W w1 : World} {n : Nat} (hb : Below n W w1) : (∀ b o, b < n → w1.cell? ⟨b, o, none⟩ = W.cell? ⟨b, o, none⟩) ∧ (∀ b o, b < n → w1.frozen? ⟨b, o, none⟩ = W.frozen? ⟨b, o, none⟩) :=
  ⟨fun b o h => hb.cell (p := ⟨b, o, none⟩) h, fun b o h => hb.frozen (p := ⟨b, o, none⟩) h⟩
theorem get_of_lt {α : Type} {l : List α} {k : Nat} (h : k < l.length) : ∃ x, l[k]? = some x := ⟨_, List.getElem?_eq_getElem h⟩
/-- A slice's elements, each of k cells. -/
def RowAt {α : Type} (k : Nat) (R : α → List Value) (w : World) (B : Nat) (A : Option Addr) (xs : List α) : Prop :=
  xs ≠ [] → ∃ b o, A = some ⟨b, o, none⟩ ∧ b < B ∧ ∀ i x, xs[i]? = some x → ∀ j v, (R x)[j]? = some v → w.cell? ⟨b, o + i * k + j, none⟩ = some v
theorem RowAt.next {α : Type} {k : Nat} {R : α → List Value} {w w' : World} {B : Nat} {A : Option Addr} {xs : List α} (h : RowAt k R w B A xs) (hb : Below B w w') {B' : Nat} (hB : B ≤ B') : RowAt k R w' B' A xs := fun hne => by
  obtain ⟨b, o, rfl, hlt, hc⟩ := h hne
  exact ⟨b, o, rfl, by omega, fun i x hx j v hv => ((bcell hb).1 _ _ hlt).trans (hc i x hx j v hv)⟩
theorem RowAt.up {α : Type} {k : Nat} {R : α → List Value} {w w' : World} {A : Option Addr} {xs : List α} (h : RowAt k R w w.heap.size A xs) (hb : Below w.heap.size w w') : RowAt k R w' w'.heap.size A xs := h.next hb hb.size

structure Pil where
  d : Int
  p : Int
  s : Int
  l : Int
  h : Int
  g : Int
  c : Int
def pilR (x : Pil) : List Value := [.int .i64 x.d, .int .i64 x.p, .int .i64 x.s, .int .i64 x.l, .int .i64 x.h, .int .i64 x.g, .int .i64 x.c]
abbrev pilV (x : Pil) : Value := .agg #[.int .i64 x.d, .int .i64 x.p, .int .i64 x.s, .int .i64 x.l, .int .i64 x.h, .int .i64 x.g, .int .i64 x.c]
abbrev PilsAt := RowAt 7 pilR
def prR (x : Int × Int) : List Value := [.int .i64 x.1, .int .i64 x.2]
abbrev PrsAt := RowAt 2 prR
structure Rw where
  u : Int
  lo : Int
  hi : Int
def rwR (x : Rw) : List Value := [.int .i64 x.u, .int .i64 x.lo, .int .i64 x.hi]
abbrev RwsAt := RowAt 3 rwR
def intR (x : Int) : List Value := [.int .i64 x]
abbrev IntsAt := RowAt 1 intR

/-! ### Piles -/

def pilB (x : Pil) : Bool := inB 1 x.d 50000 && inB 0 x.p 100000 && inB 0 x.s 10000 && withinB 1 x.l x.h 100000 && inB 0 x.g 100000 && inB 0 x.c 1000000
theorem pilB_iff {x : Pil} : pilB x = true ↔ (1 ≤ x.d ∧ x.d ≤ 50000) ∧ (0 ≤ x.p ∧ x.p ≤ 100000) ∧ (0 ≤ x.s ∧ x.s ≤ 10000) ∧ (1 ≤ x.l ∧ x.l ≤ x.h ∧ x.h ≤ 100000) ∧ (0 ≤ x.g ∧ x.g ≤ 100000) ∧ 0 ≤ x.c ∧ x.c ≤ 1000000 := by
  simp [pilB, inB_iff, withinB_iff, and_assoc]
def carI (x : Pil) (t : Int) : Int := x.p + x.s * max (x.d - t) 0 / 1000
theorem carI_b {x : Pil} {t : Int} (h : pilB x = true) (ht : 0 ≤ t) : 0 ≤ carI x t ∧ carI x t ≤ 600000 := by
  obtain ⟨h1, h2, h3, _⟩ := pilB_iff.1 h
  have a0 : 0 ≤ x.s * max (x.d - t) 0 := Int.mul_nonneg h3.1 (by omega)
  have a1 : x.s * max (x.d - t) 0 ≤ 10000 * 50000 := Int.mul_le_mul h3.2 (by omega) (by omega) (by decide)
  unfold carI
  omega
end Go.Proofs.YtdlaphlpimlgdaaGreatDoor
/- A region that draws its order, whose calls may make memory and hand back one value each: one walk in the order of the text, over the class of worlds that keep what was there. A region that draws its order and ends in one operation that waits for all others: the others by one walk in the order of the text, the last one behind them. -/
namespace Go
open Go.RowKit
/-- A world that keeps all that was there. -/
structure KeptW (w0 : World) where
  w : World
  h : Below w0.heap.size w0 w
instance KeptW.some_ (w0 : World) : Nonempty (KeptW w0) := ⟨⟨w0, Below.refl _ _⟩⟩
theorem rk_region {P : Program} {id : Nat} {Q : Exit → Act → World → Prop} {a : Act} {w : World} {l : List Oper} (hm : P.follows .mixedOrders = true) (hB : Region.lexB .any l.toArray = true)
    (h : wpQuiet P l.toArray (fun w' => ∃ u : KeptW w, w' = u.w) (fun a' => ∀ w', (∃ u : KeptW w, w' = u.w) → Q .normal a' w') l a) : (Code.region id l.toArray true).wp P Q a w :=
  wp_region_quiet (C := fun w' => ∃ u : KeptW w, w' = u.w) hm hB ⟨⟨w.drew, (Below.refl w.heap.size w).drew⟩, rfl⟩ (by simpa using h)
/-- A contract that keeps what was there, met in such a world. -/
theorem Calls.in_kept {P : Program} {f : FuncId} {args : Array Value} {w0 : World} {v : Value} (u : KeptW w0) (h : Calls P f args u.w fun e w' => e = .returned v ∧ Below u.w.heap.size u.w w') :
    Calls P f args u.w fun e w' => e = .returned v ∧ ∃ u' : KeptW w0, w' = u'.w :=
  h.mono fun _ w' hh => ⟨hh.1, ⟨w', u.h.trans (hh.2.mono u.h.size)⟩, rfl⟩
end Go

namespace Go
open Go.RowKit
section
variable {P : Program} {C : World → Prop} {l : List Oper} {o : Oper}

/-- Each operation waits for earlier ones alone, its guard is an earlier one; the last one waits for all others, and has no guard. -/
def tailB (l : List Oper) (o : Oper) : Bool :=
  o.guard.isNone && ((List.range l.length).all fun i => o.after.any fun e => Region.binds .any e && e.on == i) && (o.after.all fun e => !Region.binds .any e || decide (e.on < l.length)) &&
  ((List.range l.length).all fun i => (l[i]?).all fun p => (p.after.all fun e => !Region.binds .any e || decide (e.on < i)) && (p.guard.all fun g => decide (g.1 < i)))

theorem rkt_ready_mem {ops : Array Oper} {listed : Array Bool} {i : Nat} : i ∈ Region.ready .any ops listed ↔ i < ops.size ∧ listed.getD i true = false ∧ ∃ o, ops[i]? = some o ∧ ∀ e ∈ o.after, Region.binds .any e = true → listed.getD e.on false = true := by
  unfold Region.ready
  rw [List.mem_filter, List.mem_range]
  constructor
  · rintro ⟨h, h2⟩
    rw [Bool.and_eq_true] at h2
    obtain ⟨h3, h4⟩ := h2
    refine ⟨h, by simpa using h3, ?_⟩
    cases ho : ops[i]? with
    | none => simp [ho] at h4
    | some o =>
      refine ⟨o, rfl, fun e he hb => ?_⟩
      simp only [ho, Option.map_some, Option.getD_some] at h4
      have := Array.all_eq_true'.1 h4 e he
      rw [hb] at this
      simpa using this
  · rintro ⟨h, h3, o, ho, h4⟩
    refine ⟨h, ?_⟩
    rw [Bool.and_eq_true]
    refine ⟨by simp [h3], ?_⟩
    simp only [ho, Option.map_some, Option.getD_some]
    refine Array.all_eq_true'.2 fun e he => ?_
    cases hb : Region.binds .any e with
    | false => rfl
    | true => simp [h4 e he hb]

/-- What the test says. -/
structure TailOk (l : List Oper) (o : Oper) : Prop where
  noGuard : o.guard = none
  waits : ∀ i, i < l.length → ∃ e ∈ o.after, Region.binds .any e = true ∧ e.on = i
  below : ∀ e ∈ o.after, Region.binds .any e = true → e.on < l.length
  early : ∀ i p, l[i]? = some p → (∀ e ∈ p.after, Region.binds .any e = true → e.on < i) ∧ ∀ g, p.guard = some g → g.1 < i
theorem rkt_tail_ok (h : tailB l o = true) : TailOk l o := by
  simp only [tailB, Bool.and_eq_true] at h
  obtain ⟨⟨⟨h1, h2⟩, h3⟩, h4⟩ := h
  refine ⟨by simpa using h1, fun i hi => ?_, fun e he hb => ?_, fun i p hp => ?_⟩
  · have := List.all_eq_true.1 h2 i (List.mem_range.2 hi)
    obtain ⟨e, he, hb⟩ := Array.any_eq_true'.1 this
    rw [Bool.and_eq_true] at hb
    exact ⟨e, he, hb.1, by simpa using hb.2⟩
  · have := Array.all_eq_true'.1 h3 e he
    rw [hb] at this
    simpa using this
  · have hi : i < l.length := (List.getElem?_eq_some_iff.1 hp).1
    have := List.all_eq_true.1 h4 i (List.mem_range.2 hi)
    rw [hp, Option.all_some, Bool.and_eq_true] at this
    obtain ⟨t1, t2⟩ := this
    refine ⟨fun e he hb => ?_, fun g hg => ?_⟩
    · have := Array.all_eq_true'.1 t1 e he
      rw [hb] at this
      simpa using this
    · rw [hg] at t2
      simpa using t2

theorem rkt_push_getD {A : Array Bool} {n : Nat} (hA : A.size = n) (b d : Bool) {i : Nat} (hi : i < n) : (A.push b).getD i d = A.getD i d := by
  simp only [Array.getD_eq_getD_getElem?]
  rw [Array.getElem?_push_lt (by omega : i < A.size), Array.getElem?_eq_getElem (by omega : i < A.size)]
theorem rkt_push_getD_at {A : Array Bool} {n : Nat} (hA : A.size = n) (b d : Bool) : (A.push b).getD n d = b := by
  subst hA
  simp [Array.getD_eq_getD_getElem?]
theorem rkt_push_set {A : Array Bool} {n : Nat} (hA : A.size = n) (b d : Bool) {i : Nat} (hi : i < n) : (A.push b).setIfInBounds i d = (A.setIfInBounds i d).push b := by
  apply Array.ext_getElem?
  intro j
  simp only [Array.getElem?_setIfInBounds, Array.getElem?_push, Array.size_push, Array.size_setIfInBounds]
  by_cases e : i = j
  · subst e
    simp [hA, hi, show ¬ i = n by omega, show i < n + 1 by omega]
  · simp [e]
theorem rkt_push_set_at {A : Array Bool} {n : Nat} (hA : A.size = n) (b d : Bool) : (A.push b).setIfInBounds n d = A.push d := by
  subst hA
  apply Array.ext_getElem?
  intro j
  simp only [Array.getElem?_setIfInBounds, Array.getElem?_push, Array.size_push]
  by_cases e : A.size = j
  · subst e
    simp
  · simp [e, Ne.symm e]

theorem rkt_ops_at {i : Nat} (hi : i < l.length) : ((l ++ [o]).toArray)[i]? = (l.toArray)[i]? := by
  simp [List.getElem?_append_left hi]
theorem rkt_ops_last : ((l ++ [o]).toArray)[l.length]? = some o := by simp

theorem rkt_ready_low (T : TailOk l o) {A : Array Bool} (hA : A.size = l.length) (b : Bool) {i : Nat} (hi : i < l.length) : i ∈ Region.ready .any (l ++ [o]).toArray (A.push b) ↔ i ∈ Region.ready .any l.toArray A := by
  rw [rkt_ready_mem, rkt_ready_mem, rkt_ops_at hi, rkt_push_getD hA b true hi]
  refine and_congr (by simp; omega) (and_congr Iff.rfl ⟨?_, ?_⟩)
  · rintro ⟨p, hp, h⟩
    refine ⟨p, hp, fun e he hb => ?_⟩
    have := (T.early i p (by simpa using hp)).1 e he hb
    rw [← rkt_push_getD hA b false (by omega : e.on < l.length)]
    exact h e he hb
  · rintro ⟨p, hp, h⟩
    refine ⟨p, hp, fun e he hb => ?_⟩
    have := (T.early i p (by simpa using hp)).1 e he hb
    rw [rkt_push_getD hA b false (by omega : e.on < l.length)]
    exact h e he hb

/-- All of the others are listed. -/
def AllIn (l : List Oper) (A : Array Bool) : Prop := ∀ i, i < l.length → A.getD i false = true
theorem rkt_getD_both {A : Array Bool} {n i : Nat} (hA : A.size = n) (hi : i < n) (d e : Bool) : A.getD i d = A.getD i e := by
  simp only [Array.getD_eq_getD_getElem?]
  rw [Array.getElem?_eq_getElem (by omega : i < A.size)]
  rfl
theorem rkt_allIn_of_last (T : TailOk l o) {A : Array Bool} (hA : A.size = l.length) {b : Bool} (h : l.length ∈ Region.ready .any (l ++ [o]).toArray (A.push b)) : AllIn l A := by
  intro i hi
  obtain ⟨_, _, p, hp, h3⟩ := rkt_ready_mem.1 h
  rw [rkt_ops_last] at hp
  injection hp with hp
  subst hp
  obtain ⟨e, he, hb, rfl⟩ := T.waits i hi
  rw [← rkt_push_getD hA b false hi]
  exact h3 e he hb
theorem rkt_ready_nil_iff (T : TailOk l o) {A : Array Bool} (hA : A.size = l.length) : Region.ready .any l.toArray A = [] ↔ AllIn l A := by
  constructor
  · intro h i
    induction i using Nat.strongRecOn with
    | ind i ih =>
      intro hi
      cases hb : A.getD i false with
      | true => rfl
      | false =>
        exfalso
        have hm : i ∈ Region.ready .any l.toArray A := by
          obtain ⟨p, hp⟩ : ∃ p, l[i]? = some p := ⟨_, List.getElem?_eq_getElem hi⟩
          refine rkt_ready_mem.2 ⟨by simpa using hi, by rw [rkt_getD_both hA hi true false]; exact hb, p, by simpa using hp, fun e he hbb => ?_⟩
          have := (T.early i p hp).1 e he hbb
          exact ih _ this (by omega)
        rw [h] at hm
        simp at hm
  · intro h
    cases hr : Region.ready .any l.toArray A with
    | nil => rfl
    | cons i rs =>
      exfalso
      have hm : i ∈ Region.ready .any l.toArray A := by rw [hr]; simp
      obtain ⟨h1, h2, _⟩ := rkt_ready_mem.1 hm
      have hi : i < l.length := by simpa using h1
      rw [rkt_getD_both hA hi true false, h i hi] at h2
      exact absurd h2 (by decide)
theorem rkt_last_ready (T : TailOk l o) {A : Array Bool} (hA : A.size = l.length) (h : AllIn l A) : l.length ∈ Region.ready .any (l ++ [o]).toArray (A.push false) := by
  refine rkt_ready_mem.2 ⟨by simp, rkt_push_getD_at hA false true, o, rkt_ops_last, fun e he hb => ?_⟩
  have := T.below e he hb
  rw [rkt_push_getD hA false false this]
  exact h _ this
theorem rkt_ready_done (_T : TailOk l o) {A : Array Bool} (hA : A.size = l.length) (h : AllIn l A) : Region.ready .any (l ++ [o]).toArray (A.push true) = [] := by
  cases hr : Region.ready .any (l ++ [o]).toArray (A.push true) with
  | nil => rfl
  | cons i rs =>
    exfalso
    have hm : i ∈ Region.ready .any (l ++ [o]).toArray (A.push true) := by rw [hr]; simp
    obtain ⟨h1, h2, _⟩ := rkt_ready_mem.1 hm
    have hi : i < l.length + 1 := by simpa using h1
    by_cases hl : i < l.length
    · rw [rkt_push_getD hA true true hl, rkt_getD_both hA hl true false, h i hl] at h2
      exact absurd h2 (by decide)
    · have : i = l.length := by omega
      subst this
      rw [rkt_push_getD_at hA] at h2
      exact absurd h2 (by decide)
theorem rkt_yielded_at {tmps : Array Value} {i : Nat} (hi : i < l.length) : yielded (l ++ [o]).toArray tmps i = yielded l.toArray tmps i := by
  unfold yielded
  rw [rkt_ops_at hi]
theorem rkt_wanted_at (T : TailOk l o) {tmps : Array Value} {i : Nat} {p : Oper} (hp : l[i]? = some p) : Region.wanted p (yielded (l ++ [o]).toArray tmps) = Region.wanted p (yielded l.toArray tmps) := by
  have hi : i < l.length := (List.getElem?_eq_some_iff.1 hp).1
  unfold Region.wanted
  cases hg : p.guard with
  | none => rfl
  | some g =>
    obtain ⟨j, b⟩ := g
    have := (T.early i p hp).2 _ hg
    simp only
    rw [rkt_yielded_at (by omega : j < l.length)]
theorem rkt_wpOp_low (T : TailOk l o) {Q : Exit → Act → World → Prop} {i : Nat} (hi : i < l.length) {K : Act → World → Prop} {a : Act} {w : World} (h : wpOp P l.toArray Q i K a w) : wpOp P (l ++ [o]).toArray Q i K a w := by
  obtain ⟨p, hp⟩ : ∃ p, l[i]? = some p := ⟨_, List.getElem?_eq_getElem hi⟩
  have hp' : (l.toArray)[i]? = some p := by simpa using hp
  unfold wpOp at *
  rw [rkt_ops_at hi]
  simp only [hp'] at h ⊢
  rw [rkt_wanted_at T hp]
  exact h

/-- What is asked of the last operation, in every world of the class. -/
def LastOk (P : Program) (C : World → Prop) (o : Oper) (Q : Exit → Act → World → Prop) (a : Act) : Prop := ∀ w, C w → o.wp P a w (Q .normal) Q

theorem rkt_wp_last (T : TailOk l o) {Q : Exit → Act → World → Prop} {A : Array Bool} (hA : A.size = l.length) (h : AllIn l A) (n : Nat) {a : Act} {w : World} (hw : C w) (hl : LastOk P C o Q a) :
    wpOp P (l ++ [o]).toArray Q l.length (wpAny P .any (l ++ [o]).toArray Q n ((A.push false).setIfInBounds l.length true)) a w := by
  unfold wpOp
  simp only [rkt_ops_last]
  have hwant : Region.wanted o (yielded (l ++ [o]).toArray a.tmps) = true := by unfold Region.wanted; rw [T.noGuard]
  rw [hwant, if_pos rfl, rkt_push_set_at hA]
  refine .inl (Oper.wp_mono (fun a' w' hq => ?_) (hl w hw))
  have hd := rkt_ready_done T hA h
  cases n with
  | zero => exact ⟨hd, hq⟩
  | succ n => exact ⟨fun _ => hq, fun i hi => by rw [hd] at hi; simp at hi⟩

theorem rkt_wpAny_tail (T : TailOk l o) {Q : Exit → Act → World → Prop} : ∀ (fuel : Nat) (A : Array Bool) (a : Act) (w : World), A.size = l.length → C w →
    wpAnyQ P .any l.toArray C (LastOk P C o Q) fuel A a → wpAny P .any (l ++ [o]).toArray Q (fuel + 1) (A.push false) a w
  | 0, A, a, w, hA, hw, h => by
    have hall := (rkt_ready_nil_iff T hA).1 h.1
    refine ⟨fun h0 => ?_, fun i hi => ?_⟩
    · have := rkt_last_ready T hA hall
      rw [h0] at this
      simp at this
    · by_cases hl : i < l.length
      · have := (rkt_ready_low T hA false hl).1 hi
        rw [h.1] at this
        simp at this
      · have hs : i < l.length + 1 := by simpa using (rkt_ready_mem.1 hi).1
        have : i = l.length := by omega
        subst this
        exact rkt_wp_last T hA hall 0 hw h.2
  | fuel + 1, A, a, w, hA, hw, h => by
    refine ⟨fun h0 => ?_, fun i hi => ?_⟩
    · have hn : Region.ready .any l.toArray A = [] := by
        cases hr : Region.ready .any l.toArray A with
        | nil => rfl
        | cons i rs =>
          exfalso
          have hm : i ∈ Region.ready .any l.toArray A := by rw [hr]; simp
          have := (rkt_ready_low T hA false (by simpa using (rkt_ready_mem.1 hm).1)).2 hm
          rw [h0] at this
          simp at this
      have := rkt_last_ready T hA ((rkt_ready_nil_iff T hA).1 hn)
      rw [h0] at this
      simp at this
    · by_cases hl : i < l.length
      · refine rkt_wpOp_low T hl ?_
        rw [rkt_push_set hA false true hl]
        exact wpOp_of_qOp hw (fun a' w' hw' => rkt_wpAny_tail T fuel _ a' w' (by simpa using hA) hw') (h.2 i ((rkt_ready_low T hA false hl).1 hi))
      · have hs : i < l.length + 1 := by simpa using (rkt_ready_mem.1 hi).1
        have : i = l.length := by omega
        subst this
        have hall := rkt_allIn_of_last T hA hi
        exact rkt_wp_last T hA hall _ hw (h.1 ((rkt_ready_nil_iff T hA).2 hall))

/-- **One walk over the others, and the last one behind it, serves every order.** -/
theorem rk_tail {id : Nat} {ops : List Oper} (l : List Oper) (o : Oper) (hs : ops = l ++ [o]) {Q : Exit → Act → World → Prop} {a : Act} {w : World} (hm : P.follows .mixedOrders = true) (hB : Region.lexB .any l.toArray = true) (hT : tailB l o = true)
    (hC : C { w with drawn := w.drawn + 1 }) (h : wpQuiet P l.toArray C (LastOk P C o Q) l a) : (Code.region id ops.toArray true).wp P Q a w := by
  subst hs
  simp only [Region.lexB, Bool.and_eq_true] at hB
  have h1 := wpAnyQ_lex (P := P) (C := C) (md := .any) (ops := l.toArray) hB.1 l 0 (Array.replicate l.length false) a (by simp) (by simpa using hB.2) h
  have h2 := rkt_wpAny_tail (rkt_tail_ok hT) l.length (Array.replicate l.length false) a { w with drawn := w.drawn + 1 } (by simp) hC h1
  refine wp_region_any hm ?_
  have e1 : (l ++ [o]).toArray.size = l.length + 1 := by simp
  rw [e1, Array.replicate_succ]
  exact h2
end
end Go
/- Contracts on piles: which are as defined, what they carry. -/
namespace Go.Proofs.YtdlaphlpimlgdaaGreatDoor
open Go.RowKit

theorem w64 {n : Int} (h : -9223372036854775808 ≤ n ∧ n ≤ 9223372036854775807) : wrap64 n = n := by unfold wrap64; omega
theorem car_pos {x : Pil} {t : Int} (h : pilB x = true) (h0 : 0 ≤ t) (h1 : t ≤ 50000) (hm : 0 ≤ x.d - t) : wrap64 (x.p + wrap64 ((wrap64 (x.s * (x.d - t))).tdiv 1000)) = carI x t := by
  obtain ⟨b1, b2, b3, _⟩ := pilB_iff.1 h
  have a0 : 0 ≤ x.s * (x.d - t) := Int.mul_nonneg b3.1 hm
  have a1 : x.s * (x.d - t) ≤ 10000 * 50000 := Int.mul_le_mul b3.2 (by omega) hm (by decide)
  rw [w64 (n := x.s * (x.d - t)) (by omega), Int.tdiv_eq_ediv_of_nonneg a0, w64 (n := x.s * (x.d - t) / 1000) (by omega), w64 (by omega)]
  unfold carI
  rw [Int.max_eq_left hm]
theorem car_neg {x : Pil} {t : Int} (h : pilB x = true) (hm : x.d - t ≤ 0) : wrap64 x.p = carI x t := by
  obtain ⟨b1, b2, b3, _⟩ := pilB_iff.1 h
  rw [w64 (by omega)]
  unfold carI
  rw [Int.max_eq_right hm]
  simp
set_option maxRecDepth 100000 in
set_option maxHeartbeats 2000000 in
theorem carries_any (x : Pil) (t : Int) (w : World) (h : pilB x = true) (h0 : 0 ≤ t) (h1 : t ≤ 50000) :
    Calls Tryz.prog 93 #[pilV x, .int .i64 t] w fun e w' => e = .returned (.int .i64 (carI x t)) ∧ Below w.heap.size w w' := by
  have HB1 := Lib.hid ((Below.refl w.heap.size w).alloc (Nat.le_refl _) (.cells #[.int .i64 x.d, .int .i64 x.p, .int .i64 x.s, .int .i64 x.l, .int .i64 x.h, .int .i64 x.g, .int .i64 x.c] 45))
  have bd := (pilB_iff.1 h).1
  have v1 : Value.int .i64 (wrap64 (x.d - t)) = Value.int .i64 (x.d - t) := by congr 1; exact w64 (by omega)
  by_cases hm : 0 ≤ x.d - t
  · have P := Lib.hid (car_pos h h0 h1 hm)
    clear h h0 h1 bd
    go_enter Tryz.func93, Tryz.ntmps93
    go_wp2_with fail
    go_ret
    exact ⟨by rw [← P.out]; rfl, HB1.out⟩
  · have P := Lib.hid (car_neg h (by omega : x.d - t ≤ 0))
    clear h h0 h1 bd
    go_enter Tryz.func93, Tryz.ntmps93
    go_wp2_with fail
    go_ret
    exact ⟨by rw [← P.out]; rfl, HB1.out⟩
set_option maxRecDepth 100000 in
set_option maxHeartbeats 2000000 in
theorem refCarries_any (x : Pil) (t : Int) (w : World) (h : pilB x = true) (h0 : 0 ≤ t) (h1 : t ≤ 50000) :
    Calls Tryz.prog 26 #[pilV x, .int .i64 t] w fun e w' => e = .returned (.int .i64 (carI x t)) ∧ Below w.heap.size w w' := by
  have HB1 := Lib.hid ((Below.refl w.heap.size w).alloc (Nat.le_refl _) (.cells #[.int .i64 x.d, .int .i64 x.p, .int .i64 x.s, .int .i64 x.l, .int .i64 x.h, .int .i64 x.g, .int .i64 x.c] 45))
  have bd := (pilB_iff.1 h).1
  have v1 : Value.int .i64 (wrap64 (x.d - t)) = Value.int .i64 (x.d - t) := by congr 1; exact w64 (by omega)
  by_cases hm : 0 < x.d - t
  · have P := Lib.hid (car_pos h h0 h1 (Int.le_of_lt hm))
    clear h h0 h1 bd
    go_enter Tryz.func26, Tryz.ntmps26
    go_wp2_with fail
    go_ret
    exact ⟨by rw [← P.out]; rfl, HB1.out⟩
  · have P := Lib.hid (car_neg h (by omega : x.d - t ≤ 0))
    clear h h0 h1 bd
    go_enter Tryz.func26, Tryz.ntmps26
    go_wp2_with fail
    go_ret
    exact ⟨by rw [← P.out]; rfl, HB1.out⟩
set_option maxRecDepth 100000 in
set_option maxHeartbeats 2000000 in
theorem pileFine_any (x : Pil) (w : World) :
    Calls Tryz.prog 90 #[pilV x] w fun e w' => e = .returned (.bool (pilB x)) ∧ Below w.heap.size w w' := by
  obtain ⟨d, p, s, l, h, g, c⟩ := x
  have HB1 := Lib.hid ((Below.refl w.heap.size w).alloc (Nat.le_refl _) (.cells #[.int .i64 d, .int .i64 p, .int .i64 s, .int .i64 l, .int .i64 h, .int .i64 g, .int .i64 c] 45))
  show Calls Tryz.prog 90 #[.agg #[.int .i64 d, .int .i64 p, .int .i64 s, .int .i64 l, .int .i64 h, .int .i64 g, .int .i64 c]] w fun e w' => e = .returned (.bool (inB 1 d 50000 && inB 0 p 100000 && inB 0 s 10000 && withinB 1 l h 100000 && inB 0 g 100000 && inB 0 c 1000000)) ∧ Below w.heap.size w w'
  cases h1 : inB 1 d 50000 with
  | false =>
    go_enter Tryz.func90, Tryz.ntmps90
    go_wp2_with (first
      | (go_at_call 67; refine (from_any _ _ _ _).mono ?_; rintro e w' ⟨rfl, rfl⟩)
      | (go_at_call 91; refine (within_any _ _ _ _ _).mono ?_; rintro e w1 ⟨rfl, hb⟩; obtain ⟨hc1, hf1⟩ := bcell hb)
      | fail)
    go_ret
    exact ⟨by simp, HB1.out⟩
  | true =>
    cases h2 : inB 0 p 100000 with
    | false =>
      go_enter Tryz.func90, Tryz.ntmps90
      go_wp2_with (first
        | (go_at_call 67; refine (from_any _ _ _ _).mono ?_; rintro e w' ⟨rfl, rfl⟩)
        | (go_at_call 91; refine (within_any _ _ _ _ _).mono ?_; rintro e w1 ⟨rfl, hb⟩; obtain ⟨hc1, hf1⟩ := bcell hb)
        | fail)
      go_ret
      exact ⟨by simp, HB1.out⟩
    | true =>
      cases h3 : inB 0 s 10000 with
      | false =>
        go_enter Tryz.func90, Tryz.ntmps90
        go_wp2_with (first
          | (go_at_call 67; refine (from_any _ _ _ _).mono ?_; rintro e w' ⟨rfl, rfl⟩)
          | (go_at_call 91; refine (within_any _ _ _ _ _).mono ?_; rintro e w1 ⟨rfl, hb⟩; obtain ⟨hc1, hf1⟩ := bcell hb)
          | fail)
        go_ret
        exact ⟨by simp, HB1.out⟩
      | true =>
        cases h4 : withinB 1 l h 100000 with
        | false =>
          go_enter Tryz.func90, Tryz.ntmps90
          go_wp2_with (first
            | (go_at_call 67; refine (from_any _ _ _ _).mono ?_; rintro e w' ⟨rfl, rfl⟩)
            | (go_at_call 91; refine (within_any _ _ _ _ _).mono ?_; rintro e w1 ⟨rfl, hb⟩; obtain ⟨hc1, hf1⟩ := bcell hb)
            | fail)
          go_ret
          exact ⟨by simp, HB1.out.trans (hb.mono HB1.out.size)⟩
        | true =>
          cases h5 : inB 0 g 100000 with
          | false =>
            go_enter Tryz.func90, Tryz.ntmps90
            go_wp2_with (first
              | (go_at_call 67; refine (from_any _ _ _ _).mono ?_; rintro e w' ⟨rfl, rfl⟩)
              | (go_at_call 91; refine (within_any _ _ _ _ _).mono ?_; rintro e w1 ⟨rfl, hb⟩; obtain ⟨hc1, hf1⟩ := bcell hb)
              | fail)
            go_ret
            exact ⟨by simp, HB1.out.trans (hb.mono HB1.out.size)⟩
          | true =>
            cases h6 : inB 0 c 1000000 with
            | false =>
              go_enter Tryz.func90, Tryz.ntmps90
              go_wp2_with (first
                | (go_at_call 67; refine (from_any _ _ _ _).mono ?_; rintro e w' ⟨rfl, rfl⟩)
                | (go_at_call 91; refine (within_any _ _ _ _ _).mono ?_; rintro e w1 ⟨rfl, hb⟩; obtain ⟨hc1, hf1⟩ := bcell hb)
                | fail)
              go_ret
              exact ⟨by simp, HB1.out.trans (hb.mono HB1.out.size)⟩
            | true =>
              go_enter Tryz.func90, Tryz.ntmps90
              go_wp2_with (first
                | (go_at_call 67; refine (from_any _ _ _ _).mono ?_; rintro e w' ⟨rfl, rfl⟩)
                | (go_at_call 91; refine (within_any _ _ _ _ _).mono ?_; rintro e w1 ⟨rfl, hb⟩; obtain ⟨hc1, hf1⟩ := bcell hb)
                | fail)
              go_ret
              exact ⟨by simp, HB1.out.trans (hb.mono HB1.out.size)⟩
set_option maxRecDepth 100000 in
set_option maxHeartbeats 2000000 in
theorem refPile_any (x : Pil) (w : World) :
    Calls Tryz.prog 73 #[pilV x] w fun e w' => e = .returned (.bool (pilB x)) ∧ Below w.heap.size w w' := by
  obtain ⟨d, p, s, l, h, g, c⟩ := x
  have HB1 := Lib.hid ((Below.refl w.heap.size w).alloc (Nat.le_refl _) (.cells #[.int .i64 d, .int .i64 p, .int .i64 s, .int .i64 l, .int .i64 h, .int .i64 g, .int .i64 c] 45))
  show Calls Tryz.prog 73 #[.agg #[.int .i64 d, .int .i64 p, .int .i64 s, .int .i64 l, .int .i64 h, .int .i64 g, .int .i64 c]] w fun e w' => e = .returned (.bool (inB 1 d 50000 && inB 0 p 100000 && inB 0 s 10000 && withinB 1 l h 100000 && inB 0 g 100000 && inB 0 c 1000000)) ∧ Below w.heap.size w w'
  cases h1 : inB 1 d 50000 with
  | false =>
    go_enter Tryz.func73, Tryz.ntmps73
    go_wp2_with (first
      | (go_at_call 74; refine (in_any _ _ _ _).mono ?_; rintro e w' ⟨rfl, rfl⟩)
      | fail)
    go_ret
    exact ⟨by simp, HB1.out⟩
  | true =>
    cases h2 : inB 0 p 100000 with
    | false =>
      go_enter Tryz.func73, Tryz.ntmps73
      go_wp2_with (first
        | (go_at_call 74; refine (in_any _ _ _ _).mono ?_; rintro e w' ⟨rfl, rfl⟩)
        | fail)
      go_ret
      exact ⟨by simp, HB1.out⟩
    | true =>
      cases h3 : inB 0 s 10000 with
      | false =>
        go_enter Tryz.func73, Tryz.ntmps73
        go_wp2_with (first
          | (go_at_call 74; refine (in_any _ _ _ _).mono ?_; rintro e w' ⟨rfl, rfl⟩)
          | fail)
        go_ret
        exact ⟨by simp, HB1.out⟩
      | true =>
        by_cases h4 : 1 ≤ l
        rotate_left
        · skip
          go_enter Tryz.func73, Tryz.ntmps73
          go_wp2_with (first
            | (go_at_call 74; refine (in_any _ _ _ _).mono ?_; rintro e w' ⟨rfl, rfl⟩)
            | fail)
          go_ret
          exact ⟨by simp [withinB]; intros; exfalso; omega, HB1.out⟩
        by_cases h5 : l ≤ h
        rotate_left
        · skip
          go_enter Tryz.func73, Tryz.ntmps73
          go_wp2_with (first
            | (go_at_call 74; refine (in_any _ _ _ _).mono ?_; rintro e w' ⟨rfl, rfl⟩)
            | fail)
          go_ret
          exact ⟨by simp [withinB]; intros; exfalso; omega, HB1.out⟩
        by_cases h6 : h ≤ 100000
        rotate_left
        · skip
          go_enter Tryz.func73, Tryz.ntmps73
          go_wp2_with (first
            | (go_at_call 74; refine (in_any _ _ _ _).mono ?_; rintro e w' ⟨rfl, rfl⟩)
            | fail)
          go_ret
          exact ⟨by simp [withinB]; intros; exfalso; omega, HB1.out⟩
        cases h7 : inB 0 g 100000 with
        | false =>
          go_enter Tryz.func73, Tryz.ntmps73
          go_wp2_with (first
            | (go_at_call 74; refine (in_any _ _ _ _).mono ?_; rintro e w' ⟨rfl, rfl⟩)
            | fail)
          go_ret
          exact ⟨by simp, HB1.out⟩
        | true =>
          cases h8 : inB 0 c 1000000 with
          | false =>
            go_enter Tryz.func73, Tryz.ntmps73
            go_wp2_with (first
              | (go_at_call 74; refine (in_any _ _ _ _).mono ?_; rintro e w' ⟨rfl, rfl⟩)
              | fail)
            go_ret
            exact ⟨by simp, HB1.out⟩
          | true =>
            go_enter Tryz.func73, Tryz.ntmps73
            go_wp2_with (first
              | (go_at_call 74; refine (in_any _ _ _ _).mono ?_; rintro e w' ⟨rfl, rfl⟩)
              | fail)
            go_ret
            exact ⟨by simp [withinB, h4, h5, h6], HB1.out⟩
end Go.Proofs.YtdlaphlpimlgdaaGreatDoor
/- Contracts of the checks of sites. -/
namespace Go.Proofs.YtdlaphlpimlgdaaGreatDoor
open Go.RowKit

theorem blk_set {w : World} {g : Nat} {cs : Array Value} {t : TypeId} (h : w.heap[g]? = some (.cells cs t (0, 0))) (j : Nat) (u : Value) : (w.setCell ⟨g, j, none⟩ u).heap[g]? = some (.cells (cs.setIfInBounds j u) t (0, 0)) := by
  simp [World.setCell, Array.getElem?_modify, h]
theorem pil_cells {w : World} {B : Nat} {A : Option Addr} {xs : List Pil} (h : PilsAt w B A xs) (hne : xs ≠ []) : ∃ b o, A = some ⟨b, o, none⟩ ∧ b < B ∧ ∀ i x, xs[i]? = some x →
    w.cell? ⟨b, o + i * 7, none⟩ = some (.int .i64 x.d) ∧ w.cell? ⟨b, o + i * 7 + 1, none⟩ = some (.int .i64 x.p) ∧ w.cell? ⟨b, o + i * 7 + 2, none⟩ = some (.int .i64 x.s) ∧ w.cell? ⟨b, o + i * 7 + 3, none⟩ = some (.int .i64 x.l) ∧
    w.cell? ⟨b, o + i * 7 + 4, none⟩ = some (.int .i64 x.h) ∧ w.cell? ⟨b, o + i * 7 + 5, none⟩ = some (.int .i64 x.g) ∧ w.cell? ⟨b, o + i * 7 + 6, none⟩ = some (.int .i64 x.c) := by
  obtain ⟨b, o, rfl, hb, hc⟩ := h hne
  exact ⟨b, o, rfl, hb, fun i x hx => ⟨hc i x hx 0 _ rfl, hc i x hx 1 _ rfl, hc i x hx 2 _ rfl, hc i x hx 3 _ rfl, hc i x hx 4 _ rfl, hc i x hx 5 _ rfl, hc i x hx 6 _ rfl⟩⟩
theorem take_all {α : Type} {f : α → Bool} {xs : List α} {k : Nat} {x : α} (hx : xs[k]? = some x) (ha : (xs.take k).all f = true) (hf : f x = true) : (xs.take (k + 1)).all f = true := by
  rw [List.take_add_one, List.all_append, ha, hx]
  simp [hf]
theorem all_no {α : Type} {f : α → Bool} {xs : List α} {k : Nat} {x : α} (hx : xs[k]? = some x) (hf : f x = false) : xs.all f = false := by
  rw [List.all_eq_false]
  exact ⟨x, List.mem_of_getElem? hx, by simp [hf]⟩
def pilsB (xs : List Pil) : Bool := inB 1 (xs.length : Int) 6 && xs.all pilB
set_option maxRecDepth 100000 in
set_option maxHeartbeats 2000000 in
theorem pilesFine_any (A : Option Addr) (n c : Nat) (xs : List Pil) (w : World) (hl : xs.length = n) (hn : n ≤ maxLen) (hA : PilsAt w w.heap.size A xs) :
    Calls Tryz.prog 64 #[.slice A n c] w fun e w' => e = .returned (.bool (pilsB xs)) ∧ Below w.heap.size w w' := by
  unfold maxLen at hn
  have HL := Lib.hid hl
  have HP : Hid (pilsB xs = (inB 1 (n : Int) 6 && xs.all pilB)) := Lib.hid (by rw [← hl]; rfl)
  clear hl
  cases h1 : inB 1 (n : Int) 6 with
  | false =>
    go_enter Tryz.func64, Tryz.ntmps64
    go_wp2_with (first
      | (go_at_call 67; refine (from_any _ _ _ _).mono ?_; rintro e w' ⟨rfl, rfl⟩)
      | fail)
    go_ret
    exact ⟨by rw [HP.out, h1]; rfl, Below.refl _ _⟩
  | true =>
    obtain ⟨g1, g2⟩ := inB_iff.1 h1
    go_enter Tryz.func64, Tryz.ntmps64
    go_wp2_with (first
      | (go_at_call 67; refine (from_any _ _ _ _).mono ?_; rintro e w' ⟨rfl, rfl⟩)
      | fail)
    go_loopw [11] (fun i wr => ∃ k : Nat, k ≤ n ∧ i = .int .i64 k ∧ (xs.take k).all pilB = true ∧ Below w.heap.size w wr) (fun i _ => n - (intOf i).toNat)
    case atStart => exact ⟨0, Nat.zero_le _, rfl, by simp, Below.refl _ _⟩
    case round =>
      obtain ⟨k, hk, rfl, hall, hbr⟩ := hrel
      have HALL := Lib.hid hall; have HBR := Lib.hid hbr
      clear hall
      by_cases hlt : k < n
      · obtain ⟨x, hx⟩ := get_of_lt (l := xs) (k := k) (by rw [HL.out]; exact hlt)
        obtain ⟨b, o, rfl, hb, hcs⟩ := pil_cells hA (by intro h; rw [h] at hx; simp at hx)
        obtain ⟨c0, c1, c2, c3, c4, c5, c6⟩ := hcs k x hx
        replace c0 := ((bcell hbr).1 _ _ hb).trans c0
        replace c1 := ((bcell hbr).1 _ _ hb).trans c1
        replace c2 := ((bcell hbr).1 _ _ hb).trans c2
        replace c3 := ((bcell hbr).1 _ _ hb).trans c3
        replace c4 := ((bcell hbr).1 _ _ hb).trans c4
        replace c5 := ((bcell hbr).1 _ _ hb).trans c5
        replace c6 := ((bcell hbr).1 _ _ hb).trans c6
        have HX := Lib.hid hx
        have hk0 : (0 : Int) ≤ (k : Int) := by omega
        have hk1 : (k : Int) < (n : Int) := by omega
        clear hx hcs hbr
        go_wp2_with fail
        refine (pileFine_any x _).mono ?_
        rintro e w2 ⟨rfl, hb2⟩
        have ha1 := HBR.out.alloc HBR.out.size (.cells #[.int .i64 x.d, .int .i64 x.p, .int .i64 x.s, .int .i64 x.l, .int .i64 x.h, .int .i64 x.g, .int .i64 x.c] 45)
        have HB2 := Lib.hid (ha1.trans (hb2.mono ha1.size))
        clear ha1
        clear hb2 c0 c1 c2 c3 c4 c5 c6
        cases hf : pilB x with
        | false =>
          go_wp2_with fail
          go_ret
          exact ⟨by rw [HP.out, h1, all_no HX.out hf]; rfl, HB2.out⟩
        | true =>
          go_wp2_with fail
          exact ⟨⟨k + 1, by omega, by go_num, take_all HX.out HALL.out hf, HB2.out⟩, by simp [intOf]; omega⟩
      · have hke : k = n := by omega
        have hk1 : ¬ (k : Int) < (n : Int) := by omega
        clear hbr
        go_wp2_with fail
        go_ret
        have := HALL.out
        rw [List.take_of_length_le (by rw [HL.out]; omega)] at this
        exact ⟨by rw [HP.out, h1, this]; rfl, HBR.out⟩

theorem pr_cells {w : World} {B : Nat} {A : Option Addr} {xs : List (Int × Int)} (h : PrsAt w B A xs) (hne : xs ≠ []) : ∃ b o, A = some ⟨b, o, none⟩ ∧ b < B ∧ ∀ i x, xs[i]? = some x →
    w.cell? ⟨b, o + i * 2, none⟩ = some (.int .i64 x.1) ∧ w.cell? ⟨b, o + i * 2 + 1, none⟩ = some (.int .i64 x.2) := by
  obtain ⟨b, o, rfl, hb, hc⟩ := h hne
  exact ⟨b, o, rfl, hb, fun i x hx => ⟨hc i x hx 0 _ rfl, hc i x hx 1 _ rfl⟩⟩
def prB (n : Int) (x : Int × Int) : Bool := inB 0 x.1 (n - 1) && inB 0 x.2 (n - 1) && decide (x.1 ≠ x.2)
def prsB (xs : List (Int × Int)) (n : Int) : Bool := decide ((xs.length : Int) ≤ 10) && xs.all (prB n)
set_option maxRecDepth 100000 in
set_option maxHeartbeats 2000000 in
theorem pairsFine_any (A : Option Addr) (n c : Nat) (xs : List (Int × Int)) (m : Nat) (w : World) (hl : xs.length = n) (hn : n ≤ maxLen) (hm : m ≤ maxLen) (hA : PrsAt w w.heap.size A xs) :
    Calls Tryz.prog 65 #[.slice A n c, .int .i64 (m : Int)] w fun e w' => e = .returned (.bool (prsB xs (m : Int))) ∧ Below w.heap.size w w' := by
  unfold maxLen at hn hm
  have HL := Lib.hid hl
  have HP : Hid (prsB xs (m : Int) = (decide ((n : Int) ≤ 10) && xs.all (prB (m : Int)))) := Lib.hid (by rw [← hl]; rfl)
  clear hl
  by_cases h1 : 10 < (n : Int)
  · go_enter Tryz.func65, Tryz.ntmps65
    go_wp2_with fail
    go_ret
    exact ⟨by rw [HP.out, decide_eq_false (by omega)]; rfl, Below.refl _ _⟩
  · have H1 := Lib.hid (show (n : Int) ≤ 10 by omega)
    have hm1 : Value.int .i64 (wrap64 ((m : Int) - 1)) = Value.int .i64 ((m : Int) - 1) := by congr 1; exact w64 (by omega)
    go_enter Tryz.func65, Tryz.ntmps65
    go_wp2_with fail
    go_loopw [12] (fun i wr => ∃ k : Nat, k ≤ n ∧ i = .int .i64 k ∧ (xs.take k).all (prB (m : Int)) = true ∧ Below w.heap.size w wr) (fun i _ => n - (intOf i).toNat)
    case atStart => exact ⟨0, Nat.zero_le _, rfl, by simp, Below.refl _ _⟩
    case round =>
      obtain ⟨k, hk, rfl, hall, hbr⟩ := hrel
      have HALL := Lib.hid hall; have HBR := Lib.hid hbr
      clear hall
      by_cases hlt : k < n
      · obtain ⟨x, hx⟩ := get_of_lt (l := xs) (k := k) (by rw [HL.out]; exact hlt)
        obtain ⟨b, o, rfl, hb, hcs⟩ := pr_cells hA (by intro h; rw [h] at hx; simp at hx)
        obtain ⟨c0, c1⟩ := hcs k x hx
        replace c0 := ((bcell hbr).1 _ _ hb).trans c0
        replace c1 := ((bcell hbr).1 _ _ hb).trans c1
        have HX := Lib.hid hx
        have HA1 := Lib.hid (HBR.out.alloc HBR.out.size (.cells #[.int .i64 x.1, .int .i64 x.2] 74))
        obtain ⟨a1, e1⟩ : ∃ z, x.1 = z := ⟨_, rfl⟩
        obtain ⟨a2, e2⟩ : ∃ z, x.2 = z := ⟨_, rfl⟩
        have hpx : Hid (prB (m : Int) x = (inB 0 a1 ((m : Int) - 1) && inB 0 a2 ((m : Int) - 1) && decide (a1 ≠ a2))) := Lib.hid (by rw [← e1, ← e2]; rfl)
        rw [e1] at c0 HA1
        rw [e2] at c1 HA1
        have hk0 : (0 : Int) ≤ (k : Int) := by omega
        have hk1 : (k : Int) < (n : Int) := by omega
        clear hx hcs hbr e1 e2
        cases q1 : inB 0 a1 ((m : Int) - 1) with
        | false =>
          go_wp2_with (first
            | (go_at_call 67; refine (from_any _ _ _ _).mono ?_; rintro e w' ⟨rfl, rfl⟩)
            | fail)
          go_ret
          exact ⟨by rw [HP.out, decide_eq_true H1.out, all_no HX.out (by rw [hpx.out, q1]; rfl)]; rfl, HA1.out⟩
        | true =>
          cases q2 : inB 0 a2 ((m : Int) - 1) with
          | false =>
            go_wp2_with (first
              | (go_at_call 67; refine (from_any _ _ _ _).mono ?_; rintro e w' ⟨rfl, rfl⟩)
              | fail)
            go_ret
            exact ⟨by rw [HP.out, decide_eq_true H1.out, all_no HX.out (by rw [hpx.out, q1, q2]; rfl)]; rfl, HA1.out⟩
          | true =>
            by_cases q3 : a1 = a2
            · subst q3
              go_wp2_with (first
                | (go_at_call 67; refine (from_any _ _ _ _).mono ?_; rintro e w' ⟨rfl, rfl⟩)
                | fail)
              go_ret
              exact ⟨by rw [HP.out, decide_eq_true H1.out, all_no HX.out (by rw [hpx.out]; simp)]; rfl, HA1.out⟩
            · have Q3 := Lib.hid q3
              go_wp2_with (first
                | (go_at_call 67; refine (from_any _ _ _ _).mono ?_; rintro e w' ⟨rfl, rfl⟩)
                | fail)
              exact ⟨⟨k + 1, by omega, by go_num, take_all HX.out HALL.out (by rw [hpx.out, q1, q2]; simpa using Q3.out), HA1.out⟩, by simp [intOf]; omega⟩
      · have hke : k = n := by omega
        have hk1 : ¬ (k : Int) < (n : Int) := by omega
        clear hbr
        go_wp2_with fail
        go_ret
        have := HALL.out
        rw [List.take_of_length_le (by rw [HL.out]; omega)] at this
        exact ⟨by rw [HP.out, decide_eq_true H1.out, this]; rfl, HBR.out⟩
/-! ### Rows -/

theorem rw_cells {w : World} {B : Nat} {A : Option Addr} {xs : List Rw} (h : RwsAt w B A xs) (hne : xs ≠ []) : ∃ b o, A = some ⟨b, o, none⟩ ∧ b < B ∧ ∀ i x, xs[i]? = some x →
    w.cell? ⟨b, o + i * 3, none⟩ = some (.int .i64 x.u) ∧ w.cell? ⟨b, o + i * 3 + 1, none⟩ = some (.int .i64 x.lo) ∧ w.cell? ⟨b, o + i * 3 + 2, none⟩ = some (.int .i64 x.hi) := by
  obtain ⟨b, o, rfl, hb, hc⟩ := h hne
  exact ⟨b, o, rfl, hb, fun i x hx => ⟨hc i x hx 0 _ rfl, hc i x hx 1 _ rfl, hc i x hx 2 _ rfl⟩⟩
/-- A row behind another one. -/
def rwB (y x : Rw) : Bool := inB (y.u + 1) x.u 5000 && withinB 0 x.lo x.hi 1000 && decide (¬ (x.lo < y.lo ∨ x.hi < y.hi))
def rwsGo (y : Rw) : List Rw → Bool
  | [] => true
  | x :: xs => rwB y x && rwsGo x xs
def rwsB (xs : List Rw) : Bool := inB 1 (xs.length : Int) 6 && rwsGo ⟨-1, 0, 0⟩ xs
/-- The last one of the first k rows. -/
def rwBefore (xs : List Rw) (k : Nat) : Rw := if k = 0 then ⟨-1, 0, 0⟩ else xs.getD (k - 1) ⟨-1, 0, 0⟩
theorem rwsGo_iff : ∀ {xs : List Rw} {y : Rw}, rwsGo y xs = true ↔ ∀ k x, xs[k]? = some x → rwB (if k = 0 then y else xs.getD (k - 1) ⟨-1, 0, 0⟩) x = true
  | [], y => by simp [rwsGo]
  | z :: xs, y => by
    rw [rwsGo, Bool.and_eq_true, rwsGo_iff (xs := xs) (y := z)]
    constructor
    · rintro ⟨h1, h2⟩ k x hk
      cases k with
      | zero => simp at hk; subst hk; simpa using h1
      | succ k =>
        have := h2 k x (by simpa using hk)
        cases k with
        | zero => simpa using this
        | succ k => simpa using this
    · intro h
      refine ⟨by simpa using h 0 z rfl, fun k x hk => ?_⟩
      have := h (k + 1) x (by simpa using hk)
      cases k with
      | zero => simpa using this
      | succ k => simpa using this
theorem rwBefore_succ {xs : List Rw} {j : Nat} {x : Rw} (h : xs[j]? = some x) : rwBefore xs (j + 1) = x := by
  simp [rwBefore, List.getD, h]
theorem rw_bd {xs : List Rw} {k : Nat} (hk : k ≤ xs.length) (h : ∀ j x, j < k → xs[j]? = some x → rwB (rwBefore xs j) x = true) : ∀ j, j ≤ k → -1 ≤ (rwBefore xs j).u ∧ (rwBefore xs j).u ≤ 5000
  | 0, _ => ⟨by show (-1 : Int) ≤ -1; decide, by show (-1 : Int) ≤ 5000; decide⟩
  | j + 1, hj => by
    have ih := rw_bd hk h j (by omega)
    have hx : xs[j]? = some xs[j] := List.getElem?_eq_getElem (by omega)
    have h2 := h j _ (by omega) hx
    rw [rwBefore_succ hx]
    unfold rwB at h2
    simp only [Bool.and_eq_true, inB_iff] at h2
    omega
theorem rwsB_no {xs : List Rw} {k : Nat} {x : Rw} (hx : xs[k]? = some x) (h : rwB (rwBefore xs k) x = false) : rwsGo ⟨-1, 0, 0⟩ xs = false := by
  cases hg : rwsGo ⟨-1, 0, 0⟩ xs with
  | false => rfl
  | true =>
    have := rwsGo_iff.1 hg k x hx
    rw [show (if k = 0 then (⟨-1, 0, 0⟩ : Rw) else xs.getD (k - 1) ⟨-1, 0, 0⟩) = rwBefore xs k from rfl, h] at this
    exact absurd this (by decide)
set_option maxRecDepth 100000 in
set_option maxHeartbeats 2000000 in
theorem rowsFine_any (A : Option Addr) (n c : Nat) (xs : List Rw) (w : World) (hl : xs.length = n) (hn : n ≤ maxLen) (hA : RwsAt w w.heap.size A xs) :
    Calls Tryz.prog 66 #[.slice A n c] w fun e w' => e = .returned (.bool (rwsB xs)) ∧ Below w.heap.size w w' := by
  unfold maxLen at hn
  have HL := Lib.hid hl
  have HP : Hid (rwsB xs = (inB 1 (n : Int) 6 && rwsGo ⟨-1, 0, 0⟩ xs)) := Lib.hid (by rw [← hl]; rfl)
  clear hl
  cases h1 : inB 1 (n : Int) 6 with
  | false =>
    go_enter Tryz.func66, Tryz.ntmps66
    go_wp2_with (first
      | (go_at_call 67; refine (from_any _ _ _ _).mono ?_; rintro e w' ⟨rfl, rfl⟩)
      | fail)
    go_ret
    exact ⟨by rw [HP.out, h1]; rfl, Below.refl _ _⟩
  | true =>
    obtain ⟨g1, g2⟩ := inB_iff.1 h1
    go_enter Tryz.func66, Tryz.ntmps66
    go_wp2_with (first
      | (go_at_call 67; refine (from_any _ _ _ _).mono ?_; rintro e w' ⟨rfl, rfl⟩)
      | fail)
    have z1 := heap_alloc_new w (.cells #[.int .i64 (-1), .int .i64 0, .int .i64 0] 119)
    have hb1 := (Below.refl w.heap.size w).alloc (Nat.le_refl _) (.cells #[.int .i64 (-1), .int .i64 0, .int .i64 0] 119)
    go_loopw [13] (fun i wr => ∃ k : Nat, k ≤ n ∧ i = .int .i64 k ∧ (∀ j x, j < k → xs[j]? = some x → rwB (rwBefore xs j) x = true) ∧ Below w.heap.size w wr ∧ wr.heap[w.heap.size]? = some (.cells #[.int .i64 (rwBefore xs k).u, .int .i64 (rwBefore xs k).lo, .int .i64 (rwBefore xs k).hi] 119 (0, 0))) (fun i _ => n - (intOf i).toNat)
    case atStart => exact ⟨0, Nat.zero_le _, rfl, fun j x hj => absurd hj (Nat.not_lt_zero _), hb1, z1⟩
    case round =>
      obtain ⟨k, hk, rfl, hall, hbr, hz⟩ := hrel
      have HALL := Lib.hid hall; have HBR := Lib.hid hbr; have HZ := Lib.hid hz
      have hbd := rw_bd (by rw [HL.out]; exact hk) hall k (Nat.le_refl _)
      clear hall
      by_cases hlt : k < n
      · obtain ⟨x, hx⟩ := get_of_lt (l := xs) (k := k) (by rw [HL.out]; exact hlt)
        obtain ⟨b, o, rfl, hb, hcs⟩ := rw_cells hA (by intro h; rw [h] at hx; simp at hx)
        obtain ⟨c0, c1, c2⟩ := hcs k x hx
        replace c0 := ((bcell hbr).1 _ _ hb).trans c0
        replace c1 := ((bcell hbr).1 _ _ hb).trans c1
        replace c2 := ((bcell hbr).1 _ _ hb).trans c2
        have HX := Lib.hid hx
        obtain ⟨U, hU⟩ : ∃ z, (rwBefore xs k).u = z := ⟨_, rfl⟩
        obtain ⟨L, hL⟩ : ∃ z, (rwBefore xs k).lo = z := ⟨_, rfl⟩
        obtain ⟨H, hH⟩ : ∃ z, (rwBefore xs k).hi = z := ⟨_, rfl⟩
        obtain ⟨u, lo, hi⟩ := x
        have hbx : Hid (rwB (rwBefore xs k) ⟨u, lo, hi⟩ = (inB (U + 1) u 5000 && withinB 0 lo hi 1000 && decide (¬ (lo < L ∨ hi < H)))) := Lib.hid (by rw [← hU, ← hL, ← hH]; rfl)
        rw [hU, hL, hH] at hz
        rw [hU] at hbd
        simp only at c0 c1 c2
        obtain ⟨wB, hwB⟩ : ∃ z, wr.alloc (.cells #[.int .i64 u, .int .i64 lo, .int .i64 hi] 119) = z := ⟨_, rfl⟩
        have zB := heap_alloc_new wr (.cells #[.int .i64 u, .int .i64 lo, .int .i64 hi] 119)
        have hbB : Below wr.heap.size wr wB := by rw [← hwB]; exact (Below.refl _ _).alloc (Nat.le_refl _) _
        rw [hwB] at zB
        have HBB := Lib.hid (HBR.out.trans (hbB.mono HBR.out.size))
        have hzB := (hbB.block _ (Array.getElem?_eq_some_iff.1 hz).1).trans hz
        have ltw := (Array.getElem?_eq_some_iff.1 hz).1
        have p0 := cell_of_row wB w.heap.size 0 _ 119 (0, 0) hzB
        have p1 := cell_of_row wB w.heap.size 1 _ 119 (0, 0) hzB
        have p2 := cell_of_row wB w.heap.size 2 _ 119 (0, 0) hzB
        have r0 := cell_of_row wB wr.heap.size 0 _ 119 (0, 0) zB
        have r1 := cell_of_row wB wr.heap.size 1 _ 119 (0, 0) zB
        have r2 := cell_of_row wB wr.heap.size 2 _ 119 (0, 0) zB
        simp at p0 p1 p2 r0 r1 r2
        have hk0 : (0 : Int) ≤ (k : Int) := by omega
        have hk1 : (k : Int) < (n : Int) := by omega
        have hu1 : Value.int .i64 (wrap64 (U + 1)) = Value.int .i64 (U + 1) := by congr 1; exact w64 (by omega)
        have HZB := Lib.hid hzB; have ZB := Lib.hid zB
        clear hx hcs hbr hU hL hH hz hzB zB hbB
        cases q1 : inB (U + 1) u 5000 with
        | false =>
          go_wp2_with (first
            | (go_at_call 67; refine (from_any _ _ _ _).mono ?_; rintro e w' ⟨rfl, rfl⟩)
            | fail)
          go_ret
          exact ⟨by rw [HP.out, h1, rwsB_no HX.out (by rw [hbx.out, q1]; rfl)]; rfl, HBB.out⟩
        | true =>
          go_wp2_with (first
            | (go_at_call 67; refine (from_any _ _ _ _).mono ?_; rintro e w' ⟨rfl, rfl⟩)
            | fail)
          refine (within_any 0 lo hi 1000 _).mono ?_
          rintro e wC ⟨rfl, hbC⟩
          have HBC := Lib.hid (HBB.out.trans (hbC.mono HBB.out.size))
          have hzC := (hbC.block _ (Array.getElem?_eq_some_iff.1 HZB.out).1).trans HZB.out
          have zC := (hbC.block _ (Array.getElem?_eq_some_iff.1 ZB.out).1).trans ZB.out
          have HZC := Lib.hid hzC
          clear p0 p1 p2 r0 r1 r2 hwB c0 c1 c2
          have p0 := cell_of_row wC w.heap.size 0 _ 119 (0, 0) hzC
          have p1 := cell_of_row wC w.heap.size 1 _ 119 (0, 0) hzC
          have p2 := cell_of_row wC w.heap.size 2 _ 119 (0, 0) hzC
          have r0 := cell_of_row wC wr.heap.size 0 _ 119 (0, 0) zC
          have r1 := cell_of_row wC wr.heap.size 1 _ 119 (0, 0) zC
          have r2 := cell_of_row wC wr.heap.size 2 _ 119 (0, 0) zC
          simp at p0 p1 p2 r0 r1 r2
          have f0 : wC.frozen? ⟨w.heap.size, 0, none⟩ = false := by simp [World.frozen?, hzC]
          have f1 : wC.frozen? ⟨w.heap.size, 1, none⟩ = false := by simp [World.frozen?, hzC]
          have f2 : wC.frozen? ⟨w.heap.size, 2, none⟩ = false := by simp [World.frozen?, hzC]
          clear hzC zC hbC
          cases q2 : withinB 0 lo hi 1000 with
          | false =>
            go_wp2_with fail
            go_ret
            exact ⟨by rw [HP.out, h1, rwsB_no HX.out (by rw [hbx.out, q1, q2]; rfl)]; rfl, HBC.out⟩
          | true =>
            by_cases q3 : lo < L
            · go_wp2_with fail
              go_ret
              exact ⟨by rw [HP.out, h1, rwsB_no HX.out (by rw [hbx.out, decide_eq_false (fun h => h (.inl q3))]; simp)]; rfl, HBC.out⟩
            · by_cases q4 : hi < H
              · go_wp2_with fail
                go_ret
                exact ⟨by rw [HP.out, h1, rwsB_no HX.out (by rw [hbx.out, decide_eq_false (fun h => h (.inr q4))]; simp)]; rfl, HBC.out⟩
              · have Q3 := Lib.hid (show rwB (rwBefore xs k) ⟨u, lo, hi⟩ = true by rw [hbx.out, q1, q2, decide_eq_true (by omega)]; rfl)
                go_wp2_with fail
                refine ⟨⟨k + 1, by omega, by go_num, fun j x hj hx => ?_, ((HBC.out.setCell (p := ⟨w.heap.size, 0, none⟩) (Nat.le_refl _) _).setCell (p := ⟨w.heap.size, 1, none⟩) (Nat.le_refl _) _).setCell (p := ⟨w.heap.size, 2, none⟩) (Nat.le_refl _) _, ?_⟩, by simp [intOf]; omega⟩
                · by_cases hjk : j < k
                  · exact HALL.out j x hjk hx
                  · have : j = k := by omega
                    subst this
                    have := HX.out
                    rw [hx] at this
                    cases this
                    exact Q3.out
                · rw [rwBefore_succ HX.out]
                  exact blk_set (blk_set (blk_set HZC.out 0 _) 1 _) 2 _
      · have hke : k = n := by omega
        have hk1 : ¬ (k : Int) < (n : Int) := by omega
        clear hbr hz hbd
        go_wp2_with fail
        go_ret
        refine ⟨?_, HBR.out⟩
        have : rwsGo ⟨-1, 0, 0⟩ xs = true := rwsGo_iff.2 fun j x hj => HALL.out j x (by have := (List.getElem?_eq_some_iff.1 hj).1; rw [HL.out] at this; omega) hj
        rw [HP.out, h1, this]
        rfl

/-! ### Sites -/

structure Sit where
  ps : List Pil
  qs : List (Int × Int)
  rs : List Rw
  may : Int
  sink : Int
  tilt : Int
def sitB (s : Sit) : Bool := pilsB s.ps && prsB s.qs (s.ps.length : Int) && rwsB s.rs && inB 0 s.may 1000 && inB 0 s.sink 100000 && inB 0 s.tilt 100000
/-- A site's value, with what it leads to. -/
structure SitAt (w : World) (B : Nat) (v : Value) (s : Sit) : Prop where
  val : ∃ (AP AQ AR : Option Addr) (cp cq cr : Nat), v = .agg #[.slice AP s.ps.length cp, .slice AQ s.qs.length cq, .slice AR s.rs.length cr, .int .i64 s.may, .int .i64 s.sink, .int .i64 s.tilt] ∧ PilsAt w B AP s.ps ∧ PrsAt w B AQ s.qs ∧ RwsAt w B AR s.rs ∧ s.ps.length ≤ maxLen ∧ s.qs.length ≤ maxLen ∧ s.rs.length ≤ maxLen
def checkI (s : Sit) : Int := if sitB s then 0 else 2
set_option maxRecDepth 100000 in
set_option maxHeartbeats 2000000 in
theorem Check_any (AP AQ AR : Option Addr) (np cp nq cq nr cr : Nat) (ps : List Pil) (qs : List (Int × Int)) (rs : List Rw) (may sink tilt : Int) (w : World) (hp : ps.length = np) (hp2 : np ≤ maxLen) (hP : PilsAt w w.heap.size AP ps)
    (hq : qs.length = nq) (hq2 : nq ≤ maxLen) (hQ : PrsAt w w.heap.size AQ qs) (hr : rs.length = nr) (hr2 : nr ≤ maxLen) (hR : RwsAt w w.heap.size AR rs) :
    Calls Tryz.prog 20 #[.agg #[.slice AP np cp, .slice AQ nq cq, .slice AR nr cr, .int .i64 may, .int .i64 sink, .int .i64 tilt]] w fun e w' => e = .returned (.int .i64 (checkI ⟨ps, qs, rs, may, sink, tilt⟩)) ∧ Below w.heap.size w w' := by
  have HP := Lib.hid hp; have HQ := Lib.hid hq; have HR := Lib.hid hr
  have HP2 := Lib.hid hp2; have HQ2 := Lib.hid hq2; have HR2 := Lib.hid hr2
  have hb1 := (Below.refl w.heap.size w).alloc (Nat.le_refl _) (.cells #[.slice AP np cp, .slice AQ nq cq, .slice AR nr cr, .int .i64 may, .int .i64 sink, .int .i64 tilt] 26)
  have z1 := heap_alloc_new w (.cells #[.slice AP np cp, .slice AQ nq cq, .slice AR nr cr, .int .i64 may, .int .i64 sink, .int .i64 tilt] 26)
  obtain ⟨w1, hw1⟩ : ∃ z, w.alloc (.cells #[.slice AP np cp, .slice AQ nq cq, .slice AR nr cr, .int .i64 may, .int .i64 sink, .int .i64 tilt] 26) = z := ⟨_, rfl⟩
  rw [hw1] at hb1 z1
  have HCI : Hid (checkI ⟨ps, qs, rs, may, sink, tilt⟩ = if (pilsB ps && prsB qs (np : Int) && rwsB rs && inB 0 may 1000 && inB 0 sink 100000 && inB 0 tilt 100000) then 0 else 2) := Lib.hid (by rw [← hp]; rfl)
  have HB1 := Lib.hid hb1; have Z1 := Lib.hid z1
  have p0 := cell_of_row w1 w.heap.size 0 _ 26 (0, 0) z1
  have p1 := cell_of_row w1 w.heap.size 1 _ 26 (0, 0) z1
  have p2 := cell_of_row w1 w.heap.size 2 _ 26 (0, 0) z1
  have p3 := cell_of_row w1 w.heap.size 3 _ 26 (0, 0) z1
  have p4 := cell_of_row w1 w.heap.size 4 _ 26 (0, 0) z1
  have p5 := cell_of_row w1 w.heap.size 5 _ 26 (0, 0) z1
  simp at p0 p1 p2 p3 p4 p5
  clear hp hq hr hp2 hq2 hr2 hb1 z1
  go_enter Tryz.func20, Tryz.ntmps20
  go_wp2_with fail
  refine (pilesFine_any AP np cp ps _ HP.out HP2.out (hP.up HB1.out)).mono ?_
  rintro e w2 ⟨rfl, hb⟩
  have hlt := (Array.getElem?_eq_some_iff.1 Z1.out).1
  have Z2 := Lib.hid ((hb.block _ hlt).trans Z1.out)
  have HB2 := Lib.hid (HB1.out.trans (hb.mono HB1.out.size))
  replace p0 := ((bcell hb).1 _ _ hlt).trans p0
  replace p1 := ((bcell hb).1 _ _ hlt).trans p1
  replace p2 := ((bcell hb).1 _ _ hlt).trans p2
  replace p3 := ((bcell hb).1 _ _ hlt).trans p3
  replace p4 := ((bcell hb).1 _ _ hlt).trans p4
  replace p5 := ((bcell hb).1 _ _ hlt).trans p5
  clear hb hlt
  cases h1 : pilsB ps with
  | false =>
    go_wp2_with fail
    go_ret
    exact ⟨by rw [HCI.out, h1]; rfl, HB2.out⟩
  | true =>
    go_wp2_with fail
    refine (pairsFine_any AQ nq cq qs np _ HQ.out HQ2.out HP2.out (hQ.up HB2.out)).mono ?_
    rintro e w3 ⟨rfl, hb⟩
    have hlt := (Array.getElem?_eq_some_iff.1 Z2.out).1
    have Z3 := Lib.hid ((hb.block _ hlt).trans Z2.out)
    have HB3 := Lib.hid (HB2.out.trans (hb.mono HB2.out.size))
    replace p0 := ((bcell hb).1 _ _ hlt).trans p0
    replace p1 := ((bcell hb).1 _ _ hlt).trans p1
    replace p2 := ((bcell hb).1 _ _ hlt).trans p2
    replace p3 := ((bcell hb).1 _ _ hlt).trans p3
    replace p4 := ((bcell hb).1 _ _ hlt).trans p4
    replace p5 := ((bcell hb).1 _ _ hlt).trans p5
    clear hb hlt
    cases h2 : prsB qs (np : Int) with
    | false =>
      go_wp2_with fail
      go_ret
      exact ⟨by rw [HCI.out, h1, h2]; rfl, HB3.out⟩
    | true =>
      go_wp2_with fail
      refine (rowsFine_any AR nr cr rs _ HR.out HR2.out (hR.up HB3.out)).mono ?_
      rintro e w4 ⟨rfl, hb⟩
      have hlt := (Array.getElem?_eq_some_iff.1 Z3.out).1
      have HB4 := Lib.hid (HB3.out.trans (hb.mono HB3.out.size))
      replace p0 := ((bcell hb).1 _ _ hlt).trans p0
      replace p1 := ((bcell hb).1 _ _ hlt).trans p1
      replace p2 := ((bcell hb).1 _ _ hlt).trans p2
      replace p3 := ((bcell hb).1 _ _ hlt).trans p3
      replace p4 := ((bcell hb).1 _ _ hlt).trans p4
      replace p5 := ((bcell hb).1 _ _ hlt).trans p5
      clear hb hlt
      have hcond : Hid (checkI ⟨ps, qs, rs, may, sink, tilt⟩ = if (rwsB rs && inB 0 may 1000 && inB 0 sink 100000 && inB 0 tilt 100000) then 0 else 2) := Lib.hid (by rw [HCI.out, h1, h2]; rfl)
      cases h3 : rwsB rs with
      | false =>
        go_wp2_with fail
        go_ret
        exact ⟨by rw [hcond.out, h3]; rfl, HB4.out⟩
      | true =>
        cases h4 : inB 0 may 1000 with
        | false =>
          go_wp2_with (first
            | (go_at_call 67; refine (from_any _ _ _ _).mono ?_; rintro e w' ⟨rfl, rfl⟩)
            | fail)
          go_ret
          exact ⟨by rw [hcond.out, h3, h4]; rfl, HB4.out⟩
        | true =>
          cases h5 : inB 0 sink 100000 with
          | false =>
            go_wp2_with (first
            | (go_at_call 67; refine (from_any _ _ _ _).mono ?_; rintro e w' ⟨rfl, rfl⟩)
            | fail)
            go_ret
            exact ⟨by rw [hcond.out, h3, h4, h5]; rfl, HB4.out⟩
          | true =>
            cases h6 : inB 0 tilt 100000 with
            | false =>
              go_wp2_with (first
            | (go_at_call 67; refine (from_any _ _ _ _).mono ?_; rintro e w' ⟨rfl, rfl⟩)
            | fail)
              go_ret
              exact ⟨by rw [hcond.out, h3, h4, h5, h6]; rfl, HB4.out⟩
            | true =>
              go_wp2_with (first
            | (go_at_call 67; refine (from_any _ _ _ _).mono ?_; rintro e w' ⟨rfl, rfl⟩)
            | fail)
              go_ret
              exact ⟨by rw [hcond.out, h3, h4, h5, h6]; rfl, HB4.out⟩
end Go.Proofs.YtdlaphlpimlgdaaGreatDoor
