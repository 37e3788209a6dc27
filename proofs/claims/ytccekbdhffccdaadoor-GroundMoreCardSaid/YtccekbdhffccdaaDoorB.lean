/- Contracts of the small functions of package ground and of the specification: what they return, for every argument. What lies in memory: slices of ints, of layers and of years, and what a frame keeps of them. -/
import Derived.Test.YtccekbdhffccdaaDoorProg
import Derived.WalkKit
import Derived.WalkSpells
import Derived.WalkLawsBesides
import Derived.Lib.Hide
import Derived.BigQuiet
import Derived.Deep.QuietTactic
import Derived.Laws.OwnMore
import Derived.Deep.AppendLies
import Derived.Deep.Draws
import Derived.Laws.Rows
namespace Go.Proofs.YtccekbdhffccdaaDoor
open Go.RowKit

def withinB (lo hi a b : Int) : Bool := decide (a ≤ lo ∧ lo ≤ hi ∧ hi ≤ b)
theorem withinB_iff {lo hi a b : Int} : withinB lo hi a b = true ↔ a ≤ lo ∧ lo ≤ hi ∧ hi ≤ b := by simp [withinB]

abbrev spanV (lo hi : Int) : Value := .agg #[.int .i64 lo, .int .i64 hi]

set_option maxHeartbeats 400000 in
theorem within_any (lo hi a b : Int) (w : World) :
    Calls Tryd.prog 51 #[.agg #[.int .i64 lo, .int .i64 hi], .int .i64 a, .int .i64 b] w fun e w' => e = .returned (.bool (withinB lo hi a b)) ∧ Below w.heap.size w w' := by
  by_cases h1 : a ≤ lo <;> by_cases h2 : lo ≤ hi <;> by_cases h3 : hi ≤ b
  all_goals
    go_enter Tryd.func51, Tryd.ntmps51
    go_wp2
    go_ret
    exact ⟨by simp [withinB, h1, h2, h3], (Below.refl _ _).alloc (Nat.le_refl _) _⟩

set_option maxHeartbeats 400000 in
theorem Span_any (lo hi a b : Int) (w : World) :
    Calls Tryd.prog 59 #[.agg #[.int .i64 lo, .int .i64 hi], .int .i64 a, .int .i64 b] w fun e w' => e = .returned (.bool (withinB lo hi a b)) ∧ Below w.heap.size w w' := by
  by_cases h1 : a ≤ lo <;> by_cases h2 : lo ≤ hi <;> by_cases h3 : hi ≤ b
  all_goals
    go_enter Tryd.func59, Tryd.ntmps59
    go_wp2
    go_ret
    exact ⟨by simp [withinB, h1, h2, h3], (Below.refl _ _).alloc (Nat.le_refl _) _⟩

def inB (n a b : Int) : Bool := decide (a ≤ n ∧ n ≤ b)
theorem inB_iff {n a b : Int} : inB n a b = true ↔ a ≤ n ∧ n ≤ b := by simp [inB]

set_option maxHeartbeats 400000 in
theorem in_any (n a b : Int) (w : World) :
    Calls Tryd.prog 58 #[.int .i64 n, .int .i64 a, .int .i64 b] w fun e w' => e = .returned (.bool (inB n a b)) ∧ w = w' := by
  by_cases h1 : a ≤ n <;> by_cases h3 : n ≤ b
  all_goals
    go_enter Tryd.func58, Tryd.ntmps58
    go_wp2
    go_ret
    exact ⟨by simp [inB, h1, h3], rfl⟩

set_option maxHeartbeats 400000 in
theorem Inside_any (n lo hi : Int) (w : World) :
    Calls Tryd.prog 32 #[.int .i64 n, .agg #[.int .i64 lo, .int .i64 hi]] w fun e w' => e = .returned (.bool (inB n lo hi)) ∧ Below w.heap.size w w' := by
  go_enter Tryd.func32, Tryd.ntmps32
  go_wp2_with (go_at_call 58; refine (in_any _ _ _ _).mono ?_; rintro e w' ⟨rfl, rfl⟩)
  go_ret
  exact ⟨rfl, (Below.refl _ _).alloc (Nat.le_refl _) _⟩

set_option maxHeartbeats 400000 in
theorem low_any (lo hi : Int) (w : World) :
    Calls Tryd.prog 84 #[.agg #[.int .i64 lo, .int .i64 hi]] w fun e w' => e = .returned (.int .i64 lo) ∧ Below w.heap.size w w' := by
  go_enter Tryd.func84, Tryd.ntmps84
  go_wp2
  go_ret
  exact ⟨rfl, (Below.refl _ _).alloc (Nat.le_refl _) _⟩

set_option maxHeartbeats 400000 in
theorem high_any (lo hi : Int) (w : World) :
    Calls Tryd.prog 85 #[.agg #[.int .i64 lo, .int .i64 hi]] w fun e w' => e = .returned (.int .i64 hi) ∧ Below w.heap.size w w' := by
  go_enter Tryd.func85, Tryd.ntmps85
  go_wp2
  go_ret
  exact ⟨rfl, (Below.refl _ _).alloc (Nat.le_refl _) _⟩

def talikI (lo hi : Int) : Int := if 0 < lo then 3 else if 0 < hi then 2 else 1

set_option maxHeartbeats 400000 in
theorem talik_any (lo hi : Int) (w : World) :
    Calls Tryd.prog 57 #[.agg #[.int .i64 lo, .int .i64 hi]] w fun e w' => e = .returned (.int .i64 (talikI lo hi)) ∧ Below w.heap.size w w' := by
  by_cases h1 : 0 < lo <;> by_cases h2 : 0 < hi
  all_goals
    go_enter Tryd.func57, Tryd.ntmps57
    go_wp2
    go_ret
    exact ⟨by unfold talikI; repeat' split
              all_goals first | rfl | omega, (Below.refl _ _).alloc (Nat.le_refl _) _⟩

set_option maxHeartbeats 400000 in
theorem span_any (lo hi : Int) (w : World) :
    Calls Tryd.prog 40 #[.int .i64 lo, .int .i64 hi] w fun e w' => e = .returned (.agg #[.int .i64 lo, .int .i64 hi]) ∧ Below w.heap.size w w' := by
  go_enter Tryd.func40, Tryd.ntmps40
  go_wp2
  exact bodyPost_ret (v := .agg #[.int .i64 lo, .int .i64 hi]) (by simp [results, Tryd.results40, go_sem]) rfl ⟨rfl, (Below.refl _ _).alloc (Nat.le_refl _) _⟩

end Go.Proofs.YtccekbdhffccdaaDoor

namespace Go.Proofs.YtccekbdhffccdaaDoor
open Go.RowKit

theorem bcell {W w1 : World} {n : Nat} (hb : Below n W w1) : (∀ b o, b < n → w1.cell? ⟨b, o, none⟩ = W.cell? ⟨b, o, none⟩) ∧ (∀ b o, b < n → w1.frozen? ⟨b, o, none⟩ = W.frozen? ⟨b, o, none⟩) :=
  ⟨fun b o h => hb.cell (p := ⟨b, o, none⟩) h, fun b o h => hb.frozen (p := ⟨b, o, none⟩) h⟩

structure Lay where
  t : Int
  lo : Int
  hi : Int
structure Yr where
  sl : Int
  sh : Int
  wl : Int
  wh : Int
  nl : Int
  nh : Int

def IntsAt (w : World) (B : Nat) (A : Option Addr) (xs : List Int) : Prop :=
  xs ≠ [] → ∃ b o, A = some ⟨b, o, none⟩ ∧ b < B ∧ ∀ i x, xs[i]? = some x → w.cell? ⟨b, o + i, none⟩ = some (.int .i64 x)
def LaysAt (w : World) (B : Nat) (A : Option Addr) (xs : List Lay) : Prop :=
  xs ≠ [] → ∃ b o, A = some ⟨b, o, none⟩ ∧ b < B ∧ ∀ i x, xs[i]? = some x →
    w.cell? ⟨b, o + i * 3, none⟩ = some (.int .i64 x.t) ∧ w.cell? ⟨b, o + i * 3 + 1, none⟩ = some (.int .i64 x.lo) ∧ w.cell? ⟨b, o + i * 3 + 2, none⟩ = some (.int .i64 x.hi)
def YrsAt (w : World) (B : Nat) (A : Option Addr) (xs : List Yr) : Prop :=
  xs ≠ [] → ∃ b o, A = some ⟨b, o, none⟩ ∧ b < B ∧ ∀ i x, xs[i]? = some x →
    w.cell? ⟨b, o + i * 6, none⟩ = some (.int .i64 x.sl) ∧ w.cell? ⟨b, o + i * 6 + 1, none⟩ = some (.int .i64 x.sh) ∧ w.cell? ⟨b, o + i * 6 + 2, none⟩ = some (.int .i64 x.wl) ∧
    w.cell? ⟨b, o + i * 6 + 3, none⟩ = some (.int .i64 x.wh) ∧ w.cell? ⟨b, o + i * 6 + 4, none⟩ = some (.int .i64 x.nl) ∧ w.cell? ⟨b, o + i * 6 + 5, none⟩ = some (.int .i64 x.nh)

section
variable {w w' : World} {B B' : Nat} {A : Option Addr}
theorem IntsAt.keep {xs : List Int} (h : IntsAt w B A xs) (hk : ∀ b o, b < B → w'.cell? ⟨b, o, none⟩ = w.cell? ⟨b, o, none⟩) : IntsAt w' B A xs := fun hx => by
  obtain ⟨b, o, e, hb, hc⟩ := h hx
  exact ⟨b, o, e, hb, fun i x hi => (hk _ _ hb).trans (hc i x hi)⟩
theorem LaysAt.keep {xs : List Lay} (h : LaysAt w B A xs) (hk : ∀ b o, b < B → w'.cell? ⟨b, o, none⟩ = w.cell? ⟨b, o, none⟩) : LaysAt w' B A xs := fun hx => by
  obtain ⟨b, o, e, hb, hc⟩ := h hx
  refine ⟨b, o, e, hb, fun i x hi => ?_⟩
  obtain ⟨h0, h1, h2⟩ := hc i x hi
  exact ⟨(hk _ _ hb).trans h0, (hk _ _ hb).trans h1, (hk _ _ hb).trans h2⟩
theorem YrsAt.keep {xs : List Yr} (h : YrsAt w B A xs) (hk : ∀ b o, b < B → w'.cell? ⟨b, o, none⟩ = w.cell? ⟨b, o, none⟩) : YrsAt w' B A xs := fun hx => by
  obtain ⟨b, o, e, hb, hc⟩ := h hx
  refine ⟨b, o, e, hb, fun i x hi => ?_⟩
  obtain ⟨h0, h1, h2, h3, h4, h5⟩ := hc i x hi
  exact ⟨(hk _ _ hb).trans h0, (hk _ _ hb).trans h1, (hk _ _ hb).trans h2, (hk _ _ hb).trans h3, (hk _ _ hb).trans h4, (hk _ _ hb).trans h5⟩
theorem IntsAt.more {xs : List Int} (h : IntsAt w B A xs) (hB : B ≤ B') : IntsAt w B' A xs := fun hx => by
  obtain ⟨b, o, e, hb, hc⟩ := h hx
  exact ⟨b, o, e, by omega, hc⟩
theorem LaysAt.more {xs : List Lay} (h : LaysAt w B A xs) (hB : B ≤ B') : LaysAt w B' A xs := fun hx => by
  obtain ⟨b, o, e, hb, hc⟩ := h hx
  exact ⟨b, o, e, by omega, hc⟩
theorem YrsAt.more {xs : List Yr} (h : YrsAt w B A xs) (hB : B ≤ B') : YrsAt w B' A xs := fun hx => by
  obtain ⟨b, o, e, hb, hc⟩ := h hx
  exact ⟨b, o, e, by omega, hc⟩
theorem IntsAt.alloc {xs : List Int} (h : IntsAt w w.heap.size A xs) (o : Obj) : IntsAt (w.alloc o) (w.alloc o).heap.size A xs := (h.keep (bcell ((Below.refl _ _).alloc (Nat.le_refl _) o)).1).more (by simp)
theorem LaysAt.alloc {xs : List Lay} (h : LaysAt w w.heap.size A xs) (o : Obj) : LaysAt (w.alloc o) (w.alloc o).heap.size A xs := (h.keep (bcell ((Below.refl _ _).alloc (Nat.le_refl _) o)).1).more (by simp)
theorem YrsAt.alloc {xs : List Yr} (h : YrsAt w w.heap.size A xs) (o : Obj) : YrsAt (w.alloc o) (w.alloc o).heap.size A xs := (h.keep (bcell ((Below.refl _ _).alloc (Nat.le_refl _) o)).1).more (by simp)
theorem IntsAt.next {xs : List Int} (h : IntsAt w w.heap.size A xs) (hb : Below w.heap.size w w') : IntsAt w' w'.heap.size A xs := (h.keep (bcell hb).1).more hb.size
theorem LaysAt.next {xs : List Lay} (h : LaysAt w w.heap.size A xs) (hb : Below w.heap.size w w') : LaysAt w' w'.heap.size A xs := (h.keep (bcell hb).1).more hb.size
theorem YrsAt.next {xs : List Yr} (h : YrsAt w w.heap.size A xs) (hb : Below w.heap.size w w') : YrsAt w' w'.heap.size A xs := (h.keep (bcell hb).1).more hb.size
theorem IntsAt.below {xs : List Int} (h : IntsAt w B A xs) (hb : Below B w w') : IntsAt w' B A xs := h.keep (bcell hb).1
theorem LaysAt.below {xs : List Lay} (h : LaysAt w B A xs) (hb : Below B w w') : LaysAt w' B A xs := h.keep (bcell hb).1
theorem YrsAt.below {xs : List Yr} (h : YrsAt w B A xs) (hb : Below B w w') : YrsAt w' B A xs := h.keep (bcell hb).1
end

def layB (l : Lay) : Bool := inB l.t 1 20000 && withinB l.lo l.hi 1 1000
def yrB (y : Yr) : Bool := withinB y.sl y.sh 0 1000000 && (withinB y.wl y.wh 0 1000000 && withinB y.nl y.nh 0 1000)
def placeB (ls : List Lay) (lo hi : Int) : Bool := inB ls.length 1 6 && (withinB lo hi 0 1000000 && ls.all layB)
def checkI (ls : List Lay) (lo hi : Int) : Int := if placeB ls lo hi then 0 else 2
theorem all_of_get {α : Type} {p : α → Bool} {l : List α} {k : Nat} {x : α} (hx : l[k]? = some x) (h : p x = false) : l.all p = false := by
  rw [List.all_eq_false]
  exact ⟨x, List.mem_of_getElem? hx, by simp [h]⟩
theorem take_succ_all {α : Type} {p : α → Bool} {l : List α} {k : Nat} {x : α} (hx : l[k]? = some x) (hk : (l.take k).all p = true) (h : p x = true) : (l.take (k + 1)).all p = true := by
  rw [List.take_add_one, hx, List.all_append, hk]
  simp [h]
theorem get_of_lt {α : Type} {l : List α} {k : Nat} (h : k < l.length) : ∃ x, l[k]? = some x := ⟨_, List.getElem?_eq_getElem h⟩
theorem checkI_len {ls : List Lay} {lo hi : Int} (h : ls.length < 1 ∨ 6 < ls.length) : checkI ls lo hi = 2 := by
  have : inB ls.length 1 6 = false := by simp [inB]; omega
  simp [checkI, placeB, this]
theorem checkI_warm {ls : List Lay} {lo hi : Int} (h : withinB lo hi 0 1000000 = false) : checkI ls lo hi = 2 := by
  simp [checkI, placeB, h]
theorem checkI_lay {ls : List Lay} {lo hi : Int} {k : Nat} {x : Lay} (hx : ls[k]? = some x) (h : layB x = false) : checkI ls lo hi = 2 := by
  simp [checkI, placeB, all_of_get hx h]
theorem checkI_fine {ls : List Lay} {lo hi : Int} (h1 : 1 ≤ ls.length) (h2 : ls.length ≤ 6) (h3 : withinB lo hi 0 1000000 = true) (h4 : ls.all layB = true) : checkI ls lo hi = 0 := by
  have : inB ls.length 1 6 = true := by simp [inB]; omega
  simp [checkI, placeB, this, h3, h4]
def yearsI (ls : List Lay) (lo hi : Int) (ys : List Yr) : Int := if 12 < ys.length then 3 else if placeB ls lo hi && ys.all yrB then 0 else 2
theorem yearsI_long {ls : List Lay} {lo hi : Int} {ys : List Yr} (h : 12 < ys.length) : yearsI ls lo hi ys = 3 := by simp [yearsI, h]
theorem yearsI_place {ls : List Lay} {lo hi : Int} {ys : List Yr} (h : ys.length ≤ 12) (hp : placeB ls lo hi = false) : yearsI ls lo hi ys = 2 := by
  simp [yearsI, hp, Nat.not_lt.2 h]
theorem yearsI_year {ls : List Lay} {lo hi : Int} {ys : List Yr} {k : Nat} {y : Yr} (h : ys.length ≤ 12) (hx : ys[k]? = some y) (hy : yrB y = false) : yearsI ls lo hi ys = 2 := by
  simp [yearsI, Nat.not_lt.2 h, all_of_get hx hy]
theorem yearsI_fine {ls : List Lay} {lo hi : Int} {ys : List Yr} (h : ys.length ≤ 12) (hp : placeB ls lo hi = true) (hy : ys.all yrB = true) : yearsI ls lo hi ys = 0 := by
  simp [yearsI, hp, Nat.not_lt.2 h, hy]
def depthI (ls : List Lay) (lo hi : Int) (ys : List Yr) (d : Int) : Int := if yearsI ls lo hi ys = 0 then if 0 ≤ d ∧ d ≤ 2000000 then 0 else 2 else yearsI ls lo hi ys
theorem ret_int {k : IntKind} {a b : Int} (h : a = b) : Ending.returned (.int k a) = .returned (.int k b) := by rw [h]
theorem ret_bool {a b : Bool} (h : a = b) : Ending.returned (.bool a) = .returned (.bool b) := by rw [h]
end Go.Proofs.YtccekbdhffccdaaDoor
