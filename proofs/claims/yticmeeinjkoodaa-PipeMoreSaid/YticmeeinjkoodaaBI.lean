/- Pipes: nets of loops as numbers; contracts of the small functions. Pipes: heats together, and what is true of some hours. Pipes: which nets are as defined. Pipes: the ways of a net. Pipes: the check of a net. Pipes: checks of a loop, of a truth, of faults. Pipes: the check of a truth. Pipes: how warm a loop is in truth. Pipes: Play. -/
import Derived.Test.YticmeeinjkoodaaAD
import Derived.Deep.MidRow
namespace Go.Proofs.Yticmeeinjkoodaa
open Go.RowKit

/-! ### Nets -/
structure Lp where
  wl : Int
  wh : Int
  ll : Int
  lh : Int
  rl : Int
  rh : Int
  co : Int
  ma : Int
  gr : Int
  fe : Int
  fl : Int
  fh : Int
def lpR (l : Lp) : List Value := [.int .i64 l.wl, .int .i64 l.wh, .int .i64 l.ll, .int .i64 l.lh, .int .i64 l.rl, .int .i64 l.rh, .int .i64 l.co, .int .i64 l.ma, .int .i64 l.gr, .int .i64 l.fe, .int .i64 l.fl, .int .i64 l.fh]
abbrev lpC (l : Lp) : Array Value := #[.int .i64 l.wl, .int .i64 l.wh, .int .i64 l.ll, .int .i64 l.lh, .int .i64 l.rl, .int .i64 l.rh, .int .i64 l.co, .int .i64 l.ma, .int .i64 l.gr, .int .i64 l.fe, .int .i64 l.fl, .int .i64 l.fh]
abbrev lpV (l : Lp) : Value := .agg #[.int .i64 l.wl, .int .i64 l.wh, .int .i64 l.ll, .int .i64 l.lh, .int .i64 l.rl, .int .i64 l.rh, .int .i64 l.co, .int .i64 l.ma, .int .i64 l.gr, .int .i64 l.fe, .int .i64 l.fl, .int .i64 l.fh]
def lpB (l : Lp) : Bool :=
  withinB 1 l.wl l.wh 1000 && (withinB 0 l.ll l.lh 1000 && (withinB 0 l.rl l.rh 1000 && (decide (l.rl ≤ l.ll) && (decide (l.rh ≤ l.lh) && (inB 0 l.co 1000000 && (inB 1 l.ma 10000 && (inB 0 l.gr 1000 && (inB 0 l.fe 1000 && withinB 0 l.fl l.fh 72))))))))
structure LpOk (q : Lp) : Prop where
  w : 1 ≤ q.wl ∧ q.wl ≤ q.wh ∧ q.wh ≤ 1000
  l : 0 ≤ q.ll ∧ q.ll ≤ q.lh ∧ q.lh ≤ 1000
  r : 0 ≤ q.rl ∧ q.rl ≤ q.rh ∧ q.rh ≤ 1000
  rl : q.rl ≤ q.ll
  rh : q.rh ≤ q.lh
  co : 0 ≤ q.co ∧ q.co ≤ 1000000
  ma : 1 ≤ q.ma ∧ q.ma ≤ 10000
  gr : 0 ≤ q.gr ∧ q.gr ≤ 1000
  fe : 0 ≤ q.fe ∧ q.fe ≤ 1000
  f : 0 ≤ q.fl ∧ q.fl ≤ q.fh ∧ q.fh ≤ 72
theorem lpB_iff {l : Lp} : lpB l = true ↔ LpOk l := by
  unfold lpB
  simp only [Bool.and_eq_true, decide_eq_true_eq, withinB_iff, inB_iff]
  constructor
  · rintro ⟨h1, h2, h3, h4, h5, h6, h7, h8, h9, h10⟩
    exact ⟨h1, h2, h3, h4, h5, h6, h7, h8, h9, h10⟩
  · rintro ⟨h1, h2, h3, h4, h5, h6, h7, h8, h9, h10⟩
    exact ⟨h1, h2, h3, h4, h5, h6, h7, h8, h9, h10⟩
structure Nt where
  lo : List Lp
  fr : List (Int × Int)
  wa : List (List Int)
def frB (x : Int × Int) : Bool := withinB 0 x.1 x.2 1000
/-- The ways of one place. -/
def wrowB (m : Int) (i : Nat) (r : List Int) : Bool := decide ((r.length : Int) = m) && (decide (r.getD i 0 = 0) && r.all fun h => inB 0 h 72)
def waysB (wa : List (List Int)) (m : Int) : Bool := decide ((wa.length : Int) = m) && (List.range wa.length).all fun i => wrowB m i (wa.getD i [])
def ntB (N : Nt) : Bool := inB 1 N.lo.length 5 && (inB 1 N.fr.length 72 && (N.lo.all lpB && (N.fr.all frB && waysB N.wa (N.lo.length + 1))))
structure NtOk (N : Nt) : Prop where
  n5 : 1 ≤ N.lo.length ∧ N.lo.length ≤ 5
  h72 : 1 ≤ N.fr.length ∧ N.fr.length ≤ 72
  lo : ∀ l ∈ N.lo, LpOk l
  fr : ∀ x ∈ N.fr, 0 ≤ x.1 ∧ x.1 ≤ x.2 ∧ x.2 ≤ 1000
  wl : N.wa.length = N.lo.length + 1
  wa : ∀ (i : Nat) (r : List Int), N.wa[i]? = some r → r.length = N.lo.length + 1 ∧ r.getD i 0 = 0 ∧ ∀ h ∈ r, 0 ≤ h ∧ h ≤ 72
theorem waysB_iff {wa : List (List Int)} {m : Nat} : waysB wa (m : Int) = true ↔ wa.length = m ∧ ∀ (i : Nat) (r : List Int), wa[i]? = some r → r.length = m ∧ r.getD i 0 = 0 ∧ ∀ h ∈ r, 0 ≤ h ∧ h ≤ 72 := by
  unfold waysB
  rw [Bool.and_eq_true, decide_eq_true_eq, List.all_eq_true]
  constructor
  · rintro ⟨h1, h2⟩
    refine ⟨by omega, fun i r hr => ?_⟩
    have hi := (List.getElem?_eq_some_iff.1 hr).1
    have h3 := h2 i (List.mem_range.2 hi)
    rw [List.getD_eq_getElem?_getD, hr] at h3
    unfold wrowB at h3
    simp only [Option.getD_some, Bool.and_eq_true, decide_eq_true_eq, List.all_eq_true, inB_iff] at h3
    exact ⟨by omega, h3.2.1, h3.2.2⟩
  · rintro ⟨h1, h2⟩
    refine ⟨by omega, fun i hi => ?_⟩
    obtain ⟨r, hr⟩ := get_of_lt (List.mem_range.1 hi)
    obtain ⟨a, b, c⟩ := h2 i r hr
    rw [List.getD_eq_getElem?_getD, hr]
    unfold wrowB
    simp only [Option.getD_some, Bool.and_eq_true, decide_eq_true_eq, List.all_eq_true, inB_iff]
    exact ⟨by omega, b, c⟩
theorem ntB_iff {N : Nt} : ntB N = true ↔ NtOk N := by
  unfold ntB
  have e : ((N.lo.length : Int) + 1) = ((N.lo.length + 1 : Nat) : Int) := by simp
  rw [e]
  simp only [Bool.and_eq_true, inB_iff, List.all_eq_true, waysB_iff]
  constructor
  · rintro ⟨h1, h2, h3, h4, h5, h6⟩
    exact ⟨by omega, by omega, fun l hl => lpB_iff.1 (h3 l hl), fun x hx => withinB_iff.1 (h4 x hx), h5, h6⟩
  · rintro ⟨h1, h2, h3, h4, h5, h6⟩
    exact ⟨by omega, by omega, fun l hl => lpB_iff.2 (h3 l hl), fun x hx => withinB_iff.2 (h4 x hx), h5, h6⟩

/-! ### How warm a loop is -/
structure Th where
  lk : Int
  fr : Int
  fed : Bool
def thR (t : Th) : List Value := [.int .i64 t.lk, .int .i64 t.fr, .bool t.fed]
abbrev thC (t : Th) : Array Value := #[.int .i64 t.lk, .int .i64 t.fr, .bool t.fed]
abbrev thV (t : Th) : Value := .agg #[.int .i64 t.lk, .int .i64 t.fr, .bool t.fed]
structure Ht where
  w : Int
  b : Int
  g : Int
  s : Int
abbrev htC (h : Ht) : Array Value := #[.int .i64 h.w, .int .i64 h.b, .int .i64 h.g, .int .i64 h.s]
abbrev htV (h : Ht) : Value := .agg #[.int .i64 h.w, .int .i64 h.b, .int .i64 h.g, .int .i64 h.s]
def gainI (l : Lp) (t : Th) : Int := if t.fed then l.fe else 0
def lossI (l : Lp) (w : Int) (t : Th) : Int := min (t.lk * (w + t.fr) / 1000) (w + gainI l t)
def grndI (l : Lp) (w : Int) (t : Th) : Int := lossI l w t * l.ma * l.gr / 1000
def hourI (l : Lp) (w : Int) (t : Th) : Ht := ⟨gainI l t - lossI l w t, gainI l t * l.ma, grndI l w t, lossI l w t * l.ma - grndI l w t⟩
def addH (a b : Ht) : Ht := ⟨a.w + b.w, a.b + b.b, a.g + b.g, a.s + b.s⟩
def z4 : Ht := ⟨0, 0, 0, 0⟩
def playI (l : Lp) (w : Int) (ts : List Th) : Ht := ts.foldl (fun h t => addH h (hourI l h.w t)) ⟨w, 0, 0, 0⟩
/-- What an hour's truth can be. -/
structure ThOk (q : Th) : Prop where
  lk : 0 ≤ q.lk ∧ q.lk ≤ 1000
  fr : 0 ≤ q.fr ∧ q.fr ≤ 1000
theorem mul_in {x y a b : Int} (hx : 0 ≤ x ∧ x ≤ a) (hy : 0 ≤ y ∧ y ≤ b) : 0 ≤ x * y ∧ x * y ≤ a * b :=
  ⟨Int.mul_nonneg hx.1 hy.1, Int.mul_le_mul hx.2 hy.2 hy.1 (Int.le_trans hx.1 hx.2)⟩
theorem gain_in {l : Lp} (K : LpOk l) (t : Th) : 0 ≤ gainI l t ∧ gainI l t ≤ 1000 := by
  unfold gainI
  split
  · exact K.fe
  · omega
theorem loss_in {l : Lp} (K : LpOk l) {t : Th} (Kt : ThOk t) {w : Int} (hw : 0 ≤ w ∧ w ≤ 100000) : 0 ≤ lossI l w t ∧ lossI l w t ≤ w + gainI l t ∧ lossI l w t ≤ 101000 := by
  have hg := gain_in K t
  have hm := mul_in Kt.lk (y := w + t.fr) (b := 101000) (by have := Kt.fr; omega)
  have h1 : 0 ≤ t.lk * (w + t.fr) / 1000 := Int.ediv_nonneg hm.1 (by decide)
  unfold lossI
  omega
theorem grnd_in {l : Lp} (K : LpOk l) {t : Th} (Kt : ThOk t) {w : Int} (hw : 0 ≤ w ∧ w ≤ 100000) : 0 ≤ grndI l w t ∧ grndI l w t ≤ lossI l w t * l.ma ∧ (0 ≤ lossI l w t * l.ma ∧ lossI l w t * l.ma ≤ 101000 * 10000) ∧ (0 ≤ lossI l w t * l.ma * l.gr ∧ lossI l w t * l.ma * l.gr ≤ 101000 * 10000 * 1000) := by
  have hl := loss_in K Kt hw
  have h1 := mul_in (x := lossI l w t) (y := l.ma) (a := 101000) (b := 10000) (by omega) (by have := K.ma; omega)
  have h2 := mul_in (x := lossI l w t * l.ma) (y := l.gr) h1 K.gr
  have h3 : lossI l w t * l.ma * l.gr ≤ lossI l w t * l.ma * 1000 := Int.mul_le_mul_of_nonneg_left K.gr.2 h1.1
  unfold grndI
  refine ⟨Int.ediv_nonneg h2.1 (by decide), ?_, h1, h2⟩
  omega

/-! ### Small functions -/
theorem setCells_block {b : Nat} {T : TypeId} : ∀ (vs : List Value) (o : Nat) (w : World) (cs : Array Value), w.heap[b]? = some (.cells cs T (0, 0)) → (w.setCells b o vs).heap[b]? = some (.cells (vs.foldl (fun (a : Nat × Array Value) v => (a.1 + 1, a.2.setIfInBounds a.1 v)) (o, cs)).2 T (0, 0)) ∧ (∀ j, j ≠ b → (w.setCells b o vs).heap[j]? = w.heap[j]?) ∧ ∀ n, n ≤ b → Below n w (w.setCells b o vs)
  | [], _, w, _, h => ⟨h, fun _ _ => rfl, fun n _ => Below.refl n w⟩
  | v :: vs, o, w, cs, h => by
    obtain ⟨h1, h2, h3⟩ := setCells_block vs (o + 1) (w.setCell ⟨b, o, none⟩ v) _ (blk_set h o v)
    exact ⟨h1, fun j hj => (h2 j hj).trans (Below.heap_setCell _ _ _ _ hj), fun n hn => ((Below.refl n w).setCell (p := ⟨b, o, none⟩) hn v).trans (h3 n hn)⟩
theorem there_block {w : World} {B n : Nat} {cs : Array Value} {T : TypeId} (h : w.heap[B]? = some (.cells cs T (0, 0))) (hn : n ≤ cs.size) : w.there B 0 n := fun j hj => by
  have hc := cell_of_row w B j _ T (0, 0) h
  have hf : w.frozen? ⟨B, j, none⟩ = false := by simp [World.frozen?, h]
  rw [Nat.zero_add, hc, hf]
  refine ⟨?_, rfl⟩
  rw [Array.getElem?_eq_getElem (by omega)]
  rfl
theorem lp_cells {w : World} {b : Nat} {l : Lp} {T : TypeId} (h : w.heap[b]? = some (.cells (lpC l) T (0, 0))) :
    (w.cell? ⟨b, 0, none⟩ = some (.int .i64 l.wl) ∧ w.cell? ⟨b, 1, none⟩ = some (.int .i64 l.wh)) ∧ (w.cell? ⟨b, 2, none⟩ = some (.int .i64 l.ll) ∧ w.cell? ⟨b, 3, none⟩ = some (.int .i64 l.lh)) ∧ (w.cell? ⟨b, 4, none⟩ = some (.int .i64 l.rl) ∧ w.cell? ⟨b, 5, none⟩ = some (.int .i64 l.rh)) ∧
    (w.cell? ⟨b, 6, none⟩ = some (.int .i64 l.co) ∧ w.cell? ⟨b, 7, none⟩ = some (.int .i64 l.ma) ∧ w.cell? ⟨b, 8, none⟩ = some (.int .i64 l.gr) ∧ w.cell? ⟨b, 9, none⟩ = some (.int .i64 l.fe)) ∧ w.cell? ⟨b, 10, none⟩ = some (.int .i64 l.fl) ∧ w.cell? ⟨b, 11, none⟩ = some (.int .i64 l.fh) := by
  have p := fun k => cell_of_row w b k _ T (0, 0) h
  exact ⟨⟨p 0, p 1⟩, ⟨p 2, p 3⟩, ⟨p 4, p 5⟩, ⟨p 6, p 7, p 8, p 9⟩, p 10, p 11⟩
theorem th_cells {w : World} {b : Nat} {t : Th} {T : TypeId} (h : w.heap[b]? = some (.cells (thC t) T (0, 0))) : w.cell? ⟨b, 0, none⟩ = some (.int .i64 t.lk) ∧ w.cell? ⟨b, 1, none⟩ = some (.int .i64 t.fr) ∧ w.cell? ⟨b, 2, none⟩ = some (.bool t.fed) := by
  have p := fun k => cell_of_row w b k _ T (0, 0) h
  exact ⟨p 0, p 1, p 2⟩
theorem ht_cells {w : World} {b : Nat} {t : Ht} {T : TypeId} (h : w.heap[b]? = some (.cells (htC t) T (0, 0))) : w.cell? ⟨b, 0, none⟩ = some (.int .i64 t.w) ∧ w.cell? ⟨b, 1, none⟩ = some (.int .i64 t.b) ∧ w.cell? ⟨b, 2, none⟩ = some (.int .i64 t.g) ∧ w.cell? ⟨b, 3, none⟩ = some (.int .i64 t.s) := by
  have p := fun k => cell_of_row w b k _ T (0, 0) h
  exact ⟨p 0, p 1, p 2, p 3⟩
theorem two_new (w : World) (o0 o1 : Obj) : ((w.alloc o0).alloc o1).heap[w.heap.size]? = some o0 ∧ ((w.alloc o0).alloc o1).heap[w.heap.size + 1]? = some o1 ∧ Below w.heap.size w ((w.alloc o0).alloc o1) := by
  have z1 := heap_alloc_new w o0
  have z2 := heap_alloc_new (w.alloc o0) o1
  simp only [World.size_alloc] at z2
  have h1 := (Below.refl w.heap.size w).alloc (Nat.le_refl _) o0
  have h2 := (Below.refl (w.alloc o0).heap.size (w.alloc o0)).alloc (Nat.le_refl _) o1
  exact ⟨(h2.block _ (Array.getElem?_eq_some_iff.1 z1).1).trans z1, z2, h1.trans (h2.mono h1.size)⟩
theorem three_new (w : World) (o0 o1 o2 : Obj) : (((w.alloc o0).alloc o1).alloc o2).heap[w.heap.size]? = some o0 ∧ (((w.alloc o0).alloc o1).alloc o2).heap[w.heap.size + 1]? = some o1 ∧ (((w.alloc o0).alloc o1).alloc o2).heap[w.heap.size + 1 + 1]? = some o2 ∧ Below w.heap.size w (((w.alloc o0).alloc o1).alloc o2) := by
  obtain ⟨z0, z1, hb⟩ := two_new w o0 o1
  have z2 := heap_alloc_new ((w.alloc o0).alloc o1) o2
  simp only [World.size_alloc] at z2
  have h2 := (Below.refl ((w.alloc o0).alloc o1).heap.size ((w.alloc o0).alloc o1)).alloc (Nat.le_refl _) o2
  exact ⟨(h2.block _ (Array.getElem?_eq_some_iff.1 z0).1).trans z0, (h2.block _ (Array.getElem?_eq_some_iff.1 z1).1).trans z1, z2, hb.trans (h2.mono hb.size)⟩
theorem from_any (a n b : Int) (w : World) :
    Calls Try.prog 54 #[.int .i64 a, .int .i64 n, .int .i64 b] w fun e w' => e = .returned (.bool (inB a n b)) ∧ w = w' := by
  by_cases h1 : a ≤ n <;> by_cases h3 : n ≤ b
  all_goals
    go_enter Try.func54, Try.ntmps54
    go_wp2
    go_ret
    exact ⟨by simp [inB, h1, h3], rfl⟩
set_option maxHeartbeats 1000000 in
theorem within_any (a lo hi b : Int) (w : World) :
    Calls Try.prog 56 #[.int .i64 a, .agg #[.int .i64 lo, .int .i64 hi], .int .i64 b] w fun e w' => e = .returned (.bool (withinB a lo hi b)) ∧ Below w.heap.size w w' := by
  have z := heap_alloc_new w (.cells #[.int .i64 lo, .int .i64 hi] 47)
  have p := fun k => cell_of_row (w.alloc (.cells #[.int .i64 lo, .int .i64 hi] 47)) w.heap.size k _ 47 (0, 0) z
  have p0 := p 0; have p1 := p 1
  simp at p0 p1
  have HB := Lib.hid ((Below.refl w.heap.size w).alloc (Nat.le_refl _) (.cells #[.int .i64 lo, .int .i64 hi] 47))
  clear p z
  by_cases h1 : a ≤ lo <;> by_cases h2 : lo ≤ hi <;> by_cases h3 : hi ≤ b
  all_goals
    go_enter Try.func56, Try.ntmps56
    go_wp2
    go_ret
    exact ⟨by simp [withinB, h1, h2, h3], HB.out⟩
set_option maxHeartbeats 1000000 in
theorem in_any (n lo hi : Int) (w : World) :
    Calls Try.prog 88 #[.int .i64 n, .agg #[.int .i64 lo, .int .i64 hi]] w fun e w' => e = .returned (.bool (inB lo n hi)) ∧ Below w.heap.size w w' := by
  have z := heap_alloc_new w (.cells #[.int .i64 lo, .int .i64 hi] 47)
  have p := fun k => cell_of_row (w.alloc (.cells #[.int .i64 lo, .int .i64 hi] 47)) w.heap.size k _ 47 (0, 0) z
  have p0 := p 0; have p1 := p 1
  simp at p0 p1
  have HB := Lib.hid ((Below.refl w.heap.size w).alloc (Nat.le_refl _) (.cells #[.int .i64 lo, .int .i64 hi] 47))
  clear p z
  go_enter Try.func88, Try.ntmps88
  go_wp2_with fail
  refine (from_any _ _ _ _).mono ?_
  rintro e w' ⟨rfl, rfl⟩
  go_wp2_with fail
  go_ret
  exact ⟨rfl, HB.out⟩
theorem hour_eq {g L ma gr : Int} (hg : 0 ≤ g ∧ g ≤ 1000) (hL : 0 ≤ L ∧ L ≤ 101000) (hma : 1 ≤ ma ∧ ma ≤ 10000) (hgr : 0 ≤ gr ∧ gr ≤ 1000) :
    wrap64 (g - L) = g - L ∧ wrap64 (g * ma) = g * ma ∧ wrap64 (L * ma) = L * ma ∧ wrap64 ((wrap64 (L * ma * gr)).tdiv 1000) = L * ma * gr / 1000 ∧ wrap64 (L * ma - L * ma * gr / 1000) = L * ma - L * ma * gr / 1000 := by
  have h1 := mul_in hg (y := ma) (b := 10000) (by omega)
  have h2 := mul_in hL (y := ma) (b := 10000) (by omega)
  have h3 := mul_in h2 hgr
  have e1 : wrap64 (L * ma * gr) = L * ma * gr := w64 (by omega)
  have e2 : (L * ma * gr).tdiv 1000 = L * ma * gr / 1000 := Int.tdiv_eq_ediv_of_nonneg h3.1
  have h4 : 0 ≤ L * ma * gr / 1000 := Int.ediv_nonneg h3.1 (by decide)
  rw [e1, e2]
  exact ⟨w64 (by omega), w64 (by omega), w64 (by omega), w64 (by omega), w64 (by omega)⟩
set_option maxRecDepth 100000 in
set_option maxHeartbeats 4000000 in
theorem hour_any {l : Lp} (K : LpOk l) {t : Th} (Kt : ThOk t) {x : Int} (hx : 0 ≤ x ∧ x ≤ 100000) (w : World) :
    Calls Try.prog 68 #[lpV l, .int .i64 x, thV t] w fun e w' => e = .returned (htV (hourI l x t)) ∧ Below w.heap.size w w' := by
  obtain ⟨z0, z1, z2, hb⟩ := three_new w (.cells (lpC l) 49) (.cells (thC t) 54) (.cells (htC z4) 43)
  obtain ⟨w3, hw3⟩ : ∃ z, ((w.alloc (.cells (lpC l) 49)).alloc (.cells (thC t) 54)).alloc (.cells (htC z4) 43) = z := ⟨_, rfl⟩
  rw [hw3] at z0 z1 z2 hb
  obtain ⟨_, _, _, ⟨_, c7, c8, c9⟩, _⟩ := lp_cells z0
  obtain ⟨t0, t1, t2⟩ := th_cells z1
  obtain ⟨h0, h1, h2, h3⟩ := ht_cells z2
  have hf : ∀ k, w3.frozen? ⟨w.heap.size + 1 + 1, k, none⟩ = false := fun k => by simp [World.frozen?, z2]
  have f0 := hf 0; have f1 := hf 1; have f2 := hf 2; have f3 := hf 3
  have hls := loss_in K Kt hx
  have hgr := grnd_in K Kt hx
  have hgn := gain_in K t
  have hma := K.ma
  have hm1 := mul_in Kt.lk (y := x + t.fr) (b := 101000) (by have := Kt.fr; omega)
  have hm2 := mul_in (x := gainI l t) (y := l.ma) (a := 1000) (b := 10000) hgn (by omega)
  have hq1 : 0 ≤ t.lk * (x + t.fr) / 1000 := Int.ediv_nonneg hm1.1 (by decide)
  have hfr := Kt.fr
  obtain ⟨lk, fr, fed⟩ := t
  simp only at t0 t1 t2 hm1 hq1 hfr
  have HB := Lib.hid hb; have HW3 := Lib.hid hw3; have HL := Lib.hid hls; have HGR := Lib.hid K.gr; have HZ2 := Lib.hid z2
  have hfe := K.fe
  clear hb hw3 K Kt hls hgr z0 z1 z2 hf
  cases fed with
  | true =>
    have hgv : gainI l ⟨lk, fr, true⟩ = l.fe := rfl
    rw [hgv] at HL hgn
    have HGV := Lib.hid hgv
    have HGN := Lib.hid hgn
    clear hgv hgn hm2
    go_enter Try.func68, Try.ntmps68
    go_wp2_with fail
    · have hls := HL.out
      have hfin : lossI l x ⟨lk, fr, true⟩ = min (lk * (x + fr) / 1000) (x + l.fe) := rfl
      have hl2 : lossI l x ⟨lk, fr, true⟩ = (x + l.fe) := by rw [hfin]; omega
      rw [hl2] at hls
      obtain ⟨e1, e2, e3, e4, e5⟩ := hour_eq HGN.out (L := (x + l.fe)) (by omega) hma HGR.out
      simp only [e2, e3, e4, e5]
      have hout : Ht.mk (l.fe - (x + l.fe)) (l.fe * l.ma) ((x + l.fe) * l.ma * l.gr / 1000) ((x + l.fe) * l.ma - (x + l.fe) * l.ma * l.gr / 1000) = hourI l x ⟨lk, fr, true⟩ := by unfold hourI grndI; rw [hl2, HGV.out]
      obtain ⟨_, _, n2, nb⟩ := three_new w (.cells (lpC l) 49) (.cells (thC ⟨lk, fr, true⟩) 54) (.cells (htC ⟨l.fe - (x + l.fe), l.fe * l.ma, (x + l.fe) * l.ma * l.gr / 1000, (x + l.fe) * l.ma - (x + l.fe) * l.ma * l.gr / 1000⟩) 43)
      obtain ⟨q0, q1, q2, q3⟩ := ht_cells n2
      simp only at q0 q1 q2 q3
      exact bodyPost_ret (v := htV ⟨l.fe - (x + l.fe), l.fe * l.ma, (x + l.fe) * l.ma * l.gr / 1000, (x + l.fe) * l.ma - (x + l.fe) * l.ma * l.gr / 1000⟩) (by simp [results, Try.results68, go_sem, q0, q1, q2, q3]) rfl ⟨by rw [hout], nb⟩
    · have hls := HL.out
      have hfin : lossI l x ⟨lk, fr, true⟩ = min (lk * (x + fr) / 1000) (x + l.fe) := rfl
      have hl2 : lossI l x ⟨lk, fr, true⟩ = (lk * (x + fr) / 1000) := by rw [hfin]; omega
      rw [hl2] at hls
      obtain ⟨e1, e2, e3, e4, e5⟩ := hour_eq HGN.out (L := (lk * (x + fr) / 1000)) (by omega) hma HGR.out
      simp only [e2, e3, e4, e5]
      have hout : Ht.mk (l.fe - (lk * (x + fr) / 1000)) (l.fe * l.ma) ((lk * (x + fr) / 1000) * l.ma * l.gr / 1000) ((lk * (x + fr) / 1000) * l.ma - (lk * (x + fr) / 1000) * l.ma * l.gr / 1000) = hourI l x ⟨lk, fr, true⟩ := by unfold hourI grndI; rw [hl2, HGV.out]
      obtain ⟨_, _, n2, nb⟩ := three_new w (.cells (lpC l) 49) (.cells (thC ⟨lk, fr, true⟩) 54) (.cells (htC ⟨l.fe - (lk * (x + fr) / 1000), l.fe * l.ma, (lk * (x + fr) / 1000) * l.ma * l.gr / 1000, (lk * (x + fr) / 1000) * l.ma - (lk * (x + fr) / 1000) * l.ma * l.gr / 1000⟩) 43)
      obtain ⟨q0, q1, q2, q3⟩ := ht_cells n2
      simp only at q0 q1 q2 q3
      exact bodyPost_ret (v := htV ⟨l.fe - (lk * (x + fr) / 1000), l.fe * l.ma, (lk * (x + fr) / 1000) * l.ma * l.gr / 1000, (lk * (x + fr) / 1000) * l.ma - (lk * (x + fr) / 1000) * l.ma * l.gr / 1000⟩) (by simp [results, Try.results68, go_sem, q0, q1, q2, q3]) rfl ⟨by rw [hout], nb⟩
  | false =>
    have hgv : gainI l ⟨lk, fr, false⟩ = 0 := rfl
    rw [hgv] at HL hgn
    have HGV := Lib.hid hgv
    have HGN := Lib.hid hgn
    clear hgv hgn hm2
    go_enter Try.func68, Try.ntmps68
    go_wp2_with fail
    · have hls := HL.out
      have hfin : lossI l x ⟨lk, fr, false⟩ = min (lk * (x + fr) / 1000) (x + 0) := rfl
      have hl2 : lossI l x ⟨lk, fr, false⟩ = x := by rw [hfin]; omega
      rw [hl2] at hls
      obtain ⟨e1, e2, e3, e4, e5⟩ := hour_eq HGN.out (L := x) (by omega) hma HGR.out
      simp only [e3, e4, e5]
      have hout : Ht.mk (-x) 0 (x * l.ma * l.gr / 1000) (x * l.ma - x * l.ma * l.gr / 1000) = hourI l x ⟨lk, fr, false⟩ := by unfold hourI grndI; rw [hl2, HGV.out, Int.zero_sub, Int.zero_mul]
      obtain ⟨_, _, n2, nb⟩ := three_new w (.cells (lpC l) 49) (.cells (thC ⟨lk, fr, false⟩) 54) (.cells (htC ⟨-x, 0, x * l.ma * l.gr / 1000, x * l.ma - x * l.ma * l.gr / 1000⟩) 43)
      obtain ⟨q0, q1, q2, q3⟩ := ht_cells n2
      simp only at q0 q1 q2 q3
      exact bodyPost_ret (v := htV ⟨-x, 0, x * l.ma * l.gr / 1000, x * l.ma - x * l.ma * l.gr / 1000⟩) (by simp [results, Try.results68, go_sem, q0, q1, q2, q3]) rfl ⟨by rw [hout], nb⟩
    · have hls := HL.out
      have hfin : lossI l x ⟨lk, fr, false⟩ = min (lk * (x + fr) / 1000) (x + 0) := rfl
      have hl2 : lossI l x ⟨lk, fr, false⟩ = (lk * (x + fr) / 1000) := by rw [hfin]; omega
      rw [hl2] at hls
      obtain ⟨e1, e2, e3, e4, e5⟩ := hour_eq HGN.out (L := (lk * (x + fr) / 1000)) (by omega) hma HGR.out
      simp only [e3, e4, e5]
      have hout : Ht.mk (-(lk * (x + fr) / 1000)) 0 ((lk * (x + fr) / 1000) * l.ma * l.gr / 1000) ((lk * (x + fr) / 1000) * l.ma - (lk * (x + fr) / 1000) * l.ma * l.gr / 1000) = hourI l x ⟨lk, fr, false⟩ := by unfold hourI grndI; rw [hl2, HGV.out, Int.zero_sub, Int.zero_mul]
      obtain ⟨_, _, n2, nb⟩ := three_new w (.cells (lpC l) 49) (.cells (thC ⟨lk, fr, false⟩) 54) (.cells (htC ⟨-(lk * (x + fr) / 1000), 0, (lk * (x + fr) / 1000) * l.ma * l.gr / 1000, (lk * (x + fr) / 1000) * l.ma - (lk * (x + fr) / 1000) * l.ma * l.gr / 1000⟩) 43)
      obtain ⟨q0, q1, q2, q3⟩ := ht_cells n2
      simp only at q0 q1 q2 q3
      exact bodyPost_ret (v := htV ⟨-(lk * (x + fr) / 1000), 0, (lk * (x + fr) / 1000) * l.ma * l.gr / 1000, (lk * (x + fr) / 1000) * l.ma - (lk * (x + fr) / 1000) * l.ma * l.gr / 1000⟩) (by simp [results, Try.results68, go_sem, q0, q1, q2, q3]) rfl ⟨by rw [hout], nb⟩
end Go.Proofs.Yticmeeinjkoodaa

namespace Go.Proofs.Yticmeeinjkoodaa
open Go.RowKit

def htR (h : Ht) : List Value := [.int .i64 h.w, .int .i64 h.b, .int .i64 h.g, .int .i64 h.s]
abbrev HtsAt := RowAt 4 htR
theorem hts_el {w : World} {B : Nat} {A : Option Addr} {l : List Ht} {i : Nat} {x : Ht} (h : HtsAt w B A l) (hx : l[i]? = some x) : ∃ b o, A = some ⟨b, o, none⟩ ∧ b < B ∧ w.cell? ⟨b, o + i * 4, none⟩ = some (.int .i64 x.w) ∧ w.cell? ⟨b, o + i * 4 + 1, none⟩ = some (.int .i64 x.b) ∧ w.cell? ⟨b, o + i * 4 + 2, none⟩ = some (.int .i64 x.g) ∧ w.cell? ⟨b, o + i * 4 + 3, none⟩ = some (.int .i64 x.s) := by
  obtain ⟨b, o, rfl, h1, h2⟩ := h (by intro e; rw [e] at hx; simp at hx)
  exact ⟨b, o, rfl, h1, h2 i x hx 0 _ rfl, h2 i x hx 1 _ rfl, h2 i x hx 2 _ rfl, h2 i x hx 3 _ rfl⟩
def HtIn (m : Int) (h : Ht) : Prop := (-m ≤ h.w ∧ h.w ≤ m) ∧ (-m ≤ h.b ∧ h.b ≤ m) ∧ (-m ≤ h.g ∧ h.g ≤ m) ∧ (-m ≤ h.s ∧ h.s ≤ m)
/-- The sum of the first of some heats. -/
def sumH (l : List Ht) : Ht := l.foldl addH z4
theorem sumH_take {l : List Ht} {i : Nat} {x : Ht} (h : l[i]? = some x) : sumH (l.take (i + 1)) = addH (sumH (l.take i)) x := by
  unfold sumH
  rw [List.take_add_one, h, List.foldl_append]
  rfl
theorem sumH_in {l : List Ht} (h : ∀ x ∈ l, HtIn 1000000000000000 x) : ∀ i, i ≤ l.length → HtIn (1000000000000000 * (i : Int)) (sumH (l.take i))
  | 0, _ => by unfold HtIn sumH z4; simp
  | i + 1, hi => by
    obtain ⟨x, hx⟩ := get_of_lt (l := l) (k := i) (by omega)
    have h1 := sumH_in h i (by omega)
    have h2 := h x (List.mem_of_getElem? hx)
    rw [sumH_take hx]
    unfold HtIn addH at *
    simp only
    omega
theorem ht_frz {w : World} {b k : Nat} {h : Ht} {T : TypeId} (z : w.heap[b]? = some (.cells (htC h) T (0, 0))) : w.frozen? ⟨b, k, none⟩ = false := by simp [World.frozen?, z]
theorem ht_fill {w : World} {b : Nat} {h : Ht} {T : TypeId} (n : Ht) (z : w.heap[b]? = some (.cells (htC h) T (0, 0))) :
    ((((w.setCell ⟨b, 0, none⟩ (.int .i64 n.w)).setCell ⟨b, 1, none⟩ (.int .i64 n.b)).setCell ⟨b, 2, none⟩ (.int .i64 n.g)).setCell ⟨b, 3, none⟩ (.int .i64 n.s)).heap[b]? = some (.cells (htC n) T (0, 0)) := by
  rw [blk_set (blk_set (blk_set (blk_set z 0 _) 1 _) 2 _) 3 _]
  rfl
theorem bel_fill4 {w w' : World} {n b : Nat} {x y z u : Value} (h : Below n w w') (hb : n ≤ b) : Below n w ((((w'.setCell ⟨b, 0, none⟩ x).setCell ⟨b, 1, none⟩ y).setCell ⟨b, 2, none⟩ z).setCell ⟨b, 3, none⟩ u) :=
  (((h.setCell (p := ⟨b, 0, none⟩) hb x).setCell (p := ⟨b, 1, none⟩) hb y).setCell (p := ⟨b, 2, none⟩) hb z).setCell (p := ⟨b, 3, none⟩) hb u
theorem oth_fill4 {w : World} {b c : Nat} {x y z u : Value} (hne : c ≠ b) : ((((w.setCell ⟨b, 0, none⟩ x).setCell ⟨b, 1, none⟩ y).setCell ⟨b, 2, none⟩ z).setCell ⟨b, 3, none⟩ u).heap[c]? = w.heap[c]? :=
  (Below.heap_setCell _ _ _ _ hne).trans ((Below.heap_setCell _ _ _ _ hne).trans ((Below.heap_setCell _ _ _ _ hne).trans (Below.heap_setCell _ _ _ _ hne)))
theorem i64_in {a b : Int} {k : Nat} (ha : -1000000000000000 ≤ a ∧ a ≤ 1000000000000000) (hb : -(1000000000000000 * (k : Int)) ≤ b ∧ b ≤ 1000000000000000 * (k : Int)) (hk : k ≤ 100) : wrap64 (b + a) = b + a := by
  have h : (k : Int) ≤ 100 := by omega
  exact w64 (by omega)
set_option maxRecDepth 100000 in
set_option maxHeartbeats 4000000 in
theorem together_any (A : Option Addr) (n c : Nat) (l : List Ht) (w : World) (hl : l.length = n) (hn : n ≤ 100) (hi : ∀ x ∈ l, HtIn 1000000000000000 x) (hA : HtsAt w w.heap.size A l) :
    Calls Try.prog 67 #[.slice A n c] w fun e w' => e = .returned (htV (sumH l)) ∧ Below w.heap.size w w' := by
  obtain ⟨z2, z3, hb⟩ := two_new w (.cells (htC z4) 43) (.cells (htC z4) 43)
  obtain ⟨w2, hw2⟩ : ∃ z, (w.alloc (.cells (htC z4) 43)).alloc (.cells (htC z4) 43) = z := ⟨_, rfl⟩
  rw [hw2] at z2 z3 hb
  have HB := Lib.hid hb; have HW2 := Lib.hid hw2; have Z2 := Lib.hid z2; have Z3 := Lib.hid z3; have HA := Lib.hid hA; have HL := Lib.hid hl
  have HSI := Lib.hid fun i hi' => sumH_in hi i hi'
  have HXI := Lib.hid hi
  have hsz : w2.heap.size = w.heap.size + 2 := by rw [← hw2]; simp
  have HSZ := Lib.hid hsz
  clear hb hw2 z2 z3 hA hl hi hsz
  go_enter Try.func67, Try.ntmps67
  go_wp2_with fail
  rw [show ((w.alloc (.cells #[.int .i64 0, .int .i64 0, .int .i64 0, .int .i64 0] 43)).alloc (.cells #[.int .i64 0, .int .i64 0, .int .i64 0, .int .i64 0] 43)) = w2 from HW2.out]
  go_loopw [8] (fun i wr => ∃ k : Nat, k ≤ n ∧ i = .int .i64 k ∧ Below w.heap.size w wr ∧ wr.heap[w.heap.size]? = some (.cells (htC z4) 43 (0, 0)) ∧ wr.heap[w.heap.size + 1]? = some (.cells (htC (sumH (l.take k))) 43 (0, 0))) (fun i _ => n - (intOf i).toNat)
  case atStart => exact ⟨0, Nat.zero_le _, rfl, HB.out, Z2.out, Z3.out⟩
  case round =>
    obtain ⟨k, hk, rfl, hbr, hz2, hz3⟩ := hrel
    have HBR := Lib.hid hbr; have HZ2 := Lib.hid hz2; have HZ3 := Lib.hid hz3
    by_cases hlt : k < n
    · have k0 : (0 : Int) ≤ (k : Int) := by omega
      have k1 : (k : Int) < (n : Int) := by omega
      obtain ⟨x, hx⟩ := get_of_lt (l := l) (k := k) (by rw [HL.out]; exact hlt)
      obtain ⟨b, o, rfl, hbb, c0, c1, c2, c3⟩ := hts_el (RowAt.next (k := 4) (R := htR) HA.out hbr hbr.size) hx
      have hxi := HXI.out x (List.mem_of_getElem? hx)
      have hsi := HSI.out k (by rw [HL.out]; omega)
      have HST := Lib.hid (sumH_take hx)
      obtain ⟨S, hS⟩ : ∃ z, sumH (l.take k) = z := ⟨_, rfl⟩
      rw [hS] at hz3 hsi HST HZ3
      have hlz := heapsz hz3
      obtain ⟨s0, s1, s2, s3⟩ := ht_cells hz3
      have f0 := ht_frz (k := 0) hz3; have f1 := ht_frz (k := 1) hz3; have f2 := ht_frz (k := 2) hz3; have f3 := ht_frz (k := 3) hz3
      have hne : ¬ wr.heap.size = w.heap.size + 1 := by omega
      have hne2 : ¬ w.heap.size + 1 = wr.heap.size := by omega
      have HXS : Hid ((HtIn 1000000000000000 x ∧ HtIn (1000000000000000 * (k : Int)) S) ∧ k ≤ 100) := Lib.hid ⟨⟨hxi, hsi⟩, by omega⟩
      clear hx hbb hxi hsi hS hbr hz2 hz3
      go_wp2_with fail
      obtain ⟨⟨hxi, hsi⟩, hk100⟩ := HXS.out
      unfold HtIn at hxi hsi
      rw [i64_in (k := k) hxi.1 hsi.1 hk100, i64_in (k := k) hxi.2.1 hsi.2.1 hk100, i64_in (k := k) hxi.2.2.1 hsi.2.2.1 hk100, i64_in (k := k) hxi.2.2.2 hsi.2.2.2 hk100]
      refine ⟨⟨k + 1, by omega, rfl, ?_, ?_, ?_⟩, by simp [intOf]; omega⟩
      · exact (bel_fill4 HBR.out (Nat.le_succ _)).alloc (by have := HBR.out.size; simp [this]) _
      · rw [heap_alloc_old _ _ (by simp; have := heapsz HZ2.out; omega), oth_fill4 (by omega)]; exact HZ2.out
      · rw [heap_alloc_old _ _ (by simp; have := heapsz HZ3.out; omega)]
        rw [HST.out]
        exact ht_fill (addH S x) HZ3.out
    · have hke : k = n := by omega
      have k1 : ¬ (k : Int) < (n : Int) := by omega
      subst hke
      have hall : sumH l = sumH (l.take k) := by rw [← HL.out, List.take_length]
      obtain ⟨S, hS⟩ : ∃ z, sumH (l.take k) = z := ⟨_, rfl⟩
      rw [hS] at hz3
      obtain ⟨s0, s1, s2, s3⟩ := ht_cells hz3
      have f0 := ht_frz (k := 0) hz2; have f1 := ht_frz (k := 1) hz2; have f2 := ht_frz (k := 2) hz2; have f3 := ht_frz (k := 3) hz2
      obtain ⟨c0, c1, c2, c3⟩ := ht_cells hz2
      have HS := Lib.hid hS
      clear hS hz2 hz3
      go_wp2_with fail
      have zf := ht_fill S HZ2.out
      have hbf := bel_fill4 (x := .int .i64 S.w) (y := .int .i64 S.b) (z := .int .i64 S.g) (u := .int .i64 S.s) HBR.out (Nat.le_refl _)
      generalize ((((wr.setCell ⟨w.heap.size, 0, none⟩ (.int .i64 S.w)).setCell ⟨w.heap.size, 1, none⟩ (.int .i64 S.b)).setCell ⟨w.heap.size, 2, none⟩ (.int .i64 S.g)).setCell ⟨w.heap.size, 3, none⟩ (.int .i64 S.s)) = wf at zf hbf ⊢
      obtain ⟨q0, q1, q2, q3⟩ := ht_cells zf
      exact bodyPost_ret (v := htV S) (by simp [results, Try.results67, go_sem, q0, q1, q2, q3]) rfl ⟨by rw [HS.out], hbf⟩

end Go.Proofs.Yticmeeinjkoodaa

namespace Go.Proofs.Yticmeeinjkoodaa
open Go.RowKit

set_option maxRecDepth 100000 in
set_option maxHeartbeats 8000000 in
theorem loopFine_any (l : Lp) (w : World) :
    Calls Try.prog 55 #[lpV l] w fun e w' => e = .returned (.bool (lpB l)) ∧ Below w.heap.size w w' := by
  have z := heap_alloc_new w (.cells (lpC l) 49)
  have hb := (Below.refl w.heap.size w).alloc (Nat.le_refl _) (.cells (lpC l) 49)
  obtain ⟨w1, hw1⟩ : ∃ z, w.alloc (.cells (lpC l) 49) = z := ⟨_, rfl⟩
  rw [hw1] at z hb
  have HW := Lib.hid hw1
  obtain ⟨⟨v0, v1⟩, ⟨v2, v3⟩, ⟨v4, v5⟩, ⟨v6, v7, v8, v9⟩, v10, v11⟩ := lp_cells z
  have LW : w.heap.size < w1.heap.size := heapsz z
  have HB := Lib.hid hb
  clear z hb hw1
  go_enter Try.func55, Try.ntmps55
  go_wp2_with fail
  rw [show w.alloc (.cells #[.int .i64 l.wl, .int .i64 l.wh, .int .i64 l.ll, .int .i64 l.lh, .int .i64 l.rl, .int .i64 l.rh, .int .i64 l.co, .int .i64 l.ma, .int .i64 l.gr, .int .i64 l.fe, .int .i64 l.fl, .int .i64 l.fh] 49) = w1 from HW.out]
  refine (within_any _ _ _ _ _).mono ?_
  rintro e x0 ⟨rfl, hb0⟩
  replace v0 := ((bcell hb0).1 _ _ LW).trans v0
  replace v1 := ((bcell hb0).1 _ _ LW).trans v1
  replace v2 := ((bcell hb0).1 _ _ LW).trans v2
  replace v3 := ((bcell hb0).1 _ _ LW).trans v3
  replace v4 := ((bcell hb0).1 _ _ LW).trans v4
  replace v5 := ((bcell hb0).1 _ _ LW).trans v5
  replace v6 := ((bcell hb0).1 _ _ LW).trans v6
  replace v7 := ((bcell hb0).1 _ _ LW).trans v7
  replace v8 := ((bcell hb0).1 _ _ LW).trans v8
  replace v9 := ((bcell hb0).1 _ _ LW).trans v9
  replace v10 := ((bcell hb0).1 _ _ LW).trans v10
  replace v11 := ((bcell hb0).1 _ _ LW).trans v11
  replace HB := Lib.hid (HB.out.trans (hb0.mono HB.out.size))
  replace LW := Nat.lt_of_lt_of_le LW hb0.size
  clear hb0
  cases h0 : withinB 1 l.wl l.wh 1000
  · go_wp2_with fail
    go_ret
    exact ⟨by simp [lpB, h0], HB.out⟩
  go_wp2_with fail
  refine (within_any _ _ _ _ _).mono ?_
  rintro e x1 ⟨rfl, hb1⟩
  replace v0 := ((bcell hb1).1 _ _ LW).trans v0
  replace v1 := ((bcell hb1).1 _ _ LW).trans v1
  replace v2 := ((bcell hb1).1 _ _ LW).trans v2
  replace v3 := ((bcell hb1).1 _ _ LW).trans v3
  replace v4 := ((bcell hb1).1 _ _ LW).trans v4
  replace v5 := ((bcell hb1).1 _ _ LW).trans v5
  replace v6 := ((bcell hb1).1 _ _ LW).trans v6
  replace v7 := ((bcell hb1).1 _ _ LW).trans v7
  replace v8 := ((bcell hb1).1 _ _ LW).trans v8
  replace v9 := ((bcell hb1).1 _ _ LW).trans v9
  replace v10 := ((bcell hb1).1 _ _ LW).trans v10
  replace v11 := ((bcell hb1).1 _ _ LW).trans v11
  replace HB := Lib.hid (HB.out.trans (hb1.mono HB.out.size))
  replace LW := Nat.lt_of_lt_of_le LW hb1.size
  clear hb1
  cases h1 : withinB 0 l.ll l.lh 1000
  · go_wp2_with fail
    go_ret
    exact ⟨by simp [lpB, h0, h1], HB.out⟩
  go_wp2_with fail
  refine (within_any _ _ _ _ _).mono ?_
  rintro e x2 ⟨rfl, hb2⟩
  replace v0 := ((bcell hb2).1 _ _ LW).trans v0
  replace v1 := ((bcell hb2).1 _ _ LW).trans v1
  replace v2 := ((bcell hb2).1 _ _ LW).trans v2
  replace v3 := ((bcell hb2).1 _ _ LW).trans v3
  replace v4 := ((bcell hb2).1 _ _ LW).trans v4
  replace v5 := ((bcell hb2).1 _ _ LW).trans v5
  replace v6 := ((bcell hb2).1 _ _ LW).trans v6
  replace v7 := ((bcell hb2).1 _ _ LW).trans v7
  replace v8 := ((bcell hb2).1 _ _ LW).trans v8
  replace v9 := ((bcell hb2).1 _ _ LW).trans v9
  replace v10 := ((bcell hb2).1 _ _ LW).trans v10
  replace v11 := ((bcell hb2).1 _ _ LW).trans v11
  replace HB := Lib.hid (HB.out.trans (hb2.mono HB.out.size))
  replace LW := Nat.lt_of_lt_of_le LW hb2.size
  clear hb2
  cases h2 : withinB 0 l.rl l.rh 1000
  · go_wp2_with fail
    go_ret
    exact ⟨by simp [lpB, h0, h1, h2], HB.out⟩
  by_cases h3 : l.rl ≤ l.ll
  rotate_left
  · go_wp2_with fail
    go_ret
    exact ⟨by simp [lpB, h0, h1, h2, show ¬ l.rl ≤ l.ll by omega], HB.out⟩
  by_cases h4 : l.rh ≤ l.lh
  rotate_left
  · go_wp2_with fail
    go_ret
    exact ⟨by simp [lpB, h0, h1, h2, h3, show ¬ l.rh ≤ l.lh by omega], HB.out⟩
  go_wp2_with fail
  refine (from_any _ _ _ _).mono ?_
  rintro e x5 ⟨rfl, rfl⟩
  cases h5 : inB 0 l.co 1000000
  · go_wp2_with fail
    go_ret
    exact ⟨by simp [lpB, h0, h1, h2, h3, h4, h5], HB.out⟩
  go_wp2_with fail
  refine (from_any _ _ _ _).mono ?_
  rintro e x6 ⟨rfl, rfl⟩
  cases h6 : inB 1 l.ma 10000
  · go_wp2_with fail
    go_ret
    exact ⟨by simp [lpB, h0, h1, h2, h3, h4, h5, h6], HB.out⟩
  go_wp2_with fail
  refine (from_any _ _ _ _).mono ?_
  rintro e x7 ⟨rfl, rfl⟩
  cases h7 : inB 0 l.gr 1000
  · go_wp2_with fail
    go_ret
    exact ⟨by simp [lpB, h0, h1, h2, h3, h4, h5, h6, h7], HB.out⟩
  go_wp2_with fail
  refine (from_any _ _ _ _).mono ?_
  rintro e x8 ⟨rfl, rfl⟩
  cases h8 : inB 0 l.fe 1000
  · go_wp2_with fail
    go_ret
    exact ⟨by simp [lpB, h0, h1, h2, h3, h4, h5, h6, h7, h8], HB.out⟩
  go_wp2_with fail
  refine (within_any _ _ _ _ _).mono ?_
  rintro e x9 ⟨rfl, hb9⟩
  replace v0 := ((bcell hb9).1 _ _ LW).trans v0
  replace v1 := ((bcell hb9).1 _ _ LW).trans v1
  replace v2 := ((bcell hb9).1 _ _ LW).trans v2
  replace v3 := ((bcell hb9).1 _ _ LW).trans v3
  replace v4 := ((bcell hb9).1 _ _ LW).trans v4
  replace v5 := ((bcell hb9).1 _ _ LW).trans v5
  replace v6 := ((bcell hb9).1 _ _ LW).trans v6
  replace v7 := ((bcell hb9).1 _ _ LW).trans v7
  replace v8 := ((bcell hb9).1 _ _ LW).trans v8
  replace v9 := ((bcell hb9).1 _ _ LW).trans v9
  replace v10 := ((bcell hb9).1 _ _ LW).trans v10
  replace v11 := ((bcell hb9).1 _ _ LW).trans v11
  replace HB := Lib.hid (HB.out.trans (hb9.mono HB.out.size))
  replace LW := Nat.lt_of_lt_of_le LW hb9.size
  clear hb9
  cases h9 : withinB 0 l.fl l.fh 72
  · go_wp2_with fail
    go_ret
    exact ⟨by simp [lpB, h0, h1, h2, h3, h4, h5, h6, h7, h8, h9], HB.out⟩
  go_wp2_with fail
  go_ret
  exact ⟨by simp [lpB, h0, h1, h2, h3, h4, h5, h6, h7, h8, h9], HB.out⟩
end Go.Proofs.Yticmeeinjkoodaa

namespace Go.Proofs.Yticmeeinjkoodaa
open Go.RowKit

theorem waysB_len {wa : List (List Int)} {m : Nat} (h : wa.length ≠ m) : waysB wa m = false := by
  unfold waysB
  have : ¬ (wa.length : Int) = (m : Int) := by omega
  simp [this]
theorem waysB_no {wa : List (List Int)} {m i : Nat} {r : List Int} (hr : wa[i]? = some r) (h : wrowB m i r = false) : waysB wa m = false := by
  cases e : waysB wa m with
  | false => rfl
  | true =>
    exfalso
    obtain ⟨h1, h2⟩ := waysB_iff.1 e
    obtain ⟨a, b, c⟩ := h2 i r hr
    have : wrowB m i r = true := by
      unfold wrowB
      simp only [Bool.and_eq_true, decide_eq_true_eq, List.all_eq_true, inB_iff]
      exact ⟨by omega, b, c⟩
    rw [this] at h
    exact absurd h (by decide)
theorem waysB_yes {wa : List (List Int)} {m : Nat} (hl : wa.length = m) (h : ∀ j r, wa[j]? = some r → wrowB m j r = true) : waysB wa m = true := by
  refine waysB_iff.2 ⟨hl, fun i r hr => ?_⟩
  have h3 := h i r hr
  unfold wrowB at h3
  simp only [Bool.and_eq_true, decide_eq_true_eq, List.all_eq_true, inB_iff] at h3
  exact ⟨by omega, h3.2.1, h3.2.2⟩
theorem wrow_len {m i : Nat} {r : List Int} (h : r.length ≠ m) : wrowB m i r = false := by
  unfold wrowB
  have : ¬ (r.length : Int) = (m : Int) := by omega
  simp [this]
theorem wrow_zero {m i : Nat} {r : List Int} {x : Int} (hx : r[i]? = some x) (h : ¬ x = 0) : wrowB m i r = false := by
  unfold wrowB
  rw [List.getD_eq_getElem?_getD, hx]
  simp [h]
theorem wrow_in {m i k : Nat} {r : List Int} {x : Int} (hx : r[k]? = some x) (h : inB 0 x 72 = false) : wrowB m i r = false := by
  cases e : wrowB m i r with
  | false => rfl
  | true =>
    exfalso
    unfold wrowB at e
    simp only [Bool.and_eq_true, List.all_eq_true] at e
    rw [e.2.2 x (List.mem_of_getElem? hx)] at h
    exact absurd h (by decide)
theorem wrow_yes {m i : Nat} {r : List Int} {x : Int} (hl : r.length = m) (hx : r[i]? = some x) (h : x = 0) (hi : ∀ (k : Nat) (y : Int), r[k]? = some y → inB 0 y 72 = true) : wrowB m i r = true := by
  unfold wrowB
  rw [List.getD_eq_getElem?_getD, hx]
  simp only [Option.getD_some, Bool.and_eq_true, decide_eq_true_eq, List.all_eq_true]
  refine ⟨by omega, h, fun y hy => ?_⟩
  obtain ⟨k, hk⟩ := List.getElem?_of_mem hy
  exact hi k y hk
set_option maxRecDepth 100000 in
set_option maxHeartbeats 4000000 in
theorem waysFine_any (A : Option Addr) (n c m : Nat) (wa : List (List Int)) (w : World) (hl : wa.length = n) (hn : n ≤ maxLen) (hm : m ≤ maxLen) (hA : GridAt 1 intR w w.heap.size A wa) :
    Calls Try.prog 57 #[.slice A n c, .int .i64 m] w fun e w' => e = .returned (.bool (waysB wa m)) ∧ w = w' := by
  have HA := Lib.hid hA; have HL := Lib.hid hl
  unfold maxLen at hn hm
  by_cases hnm : (n : Int) = (m : Int)
  rotate_left
  · go_enter Try.func57, Try.ntmps57
    go_wp2_with fail
    go_ret
    exact ⟨by rw [waysB_len (by omega)]; rfl, rfl⟩
  obtain rfl : n = m := by omega
  clear hnm
  clear hA hl
  go_enter Try.func57, Try.ntmps57
  go_wp2_with fail
  go_loopw [15] (fun i wr => ∃ k : Nat, k ≤ n ∧ i = .int .i64 k ∧ (∀ j r, j < k → wa[j]? = some r → wrowB n j r = true) ∧ wr = w) (fun i _ => n - (intOf i).toNat)
  case atStart => exact ⟨0, Nat.zero_le _, rfl, fun j _ hj => absurd hj (Nat.not_lt_zero _), rfl⟩
  case round =>
    obtain ⟨k, hk, rfl, hall, rfl⟩ := hrel
    have HAL := Lib.hid hall
    clear hall
    by_cases hlt : k < n
    · have k0 : (0 : Int) ≤ (k : Int) := by omega
      have k1 : (k : Int) < (n : Int) := by omega
      obtain ⟨r, hr⟩ := get_of_lt (l := wa) (k := k) (by rw [HL.out]; exact hlt)
      obtain ⟨b, o, A', p, c', rfl, hbb, hp, c0, hrow, hpm⟩ := grid_row HA.out hr
      unfold maxLen at hpm
      have HR := Lib.hid hr; have HRW := Lib.hid hrow; have HP := Lib.hid hp
      clear hr hrow hp hbb
      by_cases hpn : (p : Int) = (n : Int)
      rotate_left
      · go_wp2_with fail
        go_ret
        exact ⟨by rw [waysB_no HR.out (wrow_len (by have := HP.out; omega))]; rfl, rfl⟩
      obtain rfl : n = p := by omega
      clear hpn
      obtain ⟨x, hx⟩ := get_of_lt (l := r) (k := k) (by have := HP.out; omega)
      obtain ⟨b1, o1, rfl, hb1, c1⟩ := ints_el HRW.out hx
      have HX := Lib.hid hx
      clear hx hb1
      by_cases hx0 : x = 0
      rotate_left
      · go_wp2_with fail
        go_ret
        exact ⟨by rw [waysB_no HR.out (wrow_zero HX.out hx0)]; rfl, rfl⟩
      subst hx0
      go_wp2_with fail
      go_loopw [33] (fun i wr' => ∃ q : Nat, q ≤ n ∧ i = .int .i64 q ∧ (∀ j y, j < q → r[j]? = some y → inB 0 y 72 = true) ∧ wr' = wr) (fun i _ => n - (intOf i).toNat)
      case atStart => exact ⟨0, Nat.zero_le _, rfl, fun j _ hj => absurd hj (Nat.not_lt_zero _), rfl⟩
      case round =>
        obtain ⟨q, hq, rfl, hal2, rfl⟩ := hrel
        have HAL2 := Lib.hid hal2
        clear hal2
        by_cases hlt2 : q < n
        · have k4 : (q : Int) < (n : Int) := by omega
          obtain ⟨y, hy⟩ := get_of_lt (l := r) (k := q) (by have := HP.out; omega)
          obtain ⟨b2, o2, hbo, hb2, c2⟩ := ints_el HRW.out hy
          injection hbo with hbo
          injection hbo with e1 e2 e3
          subst e1 e2
          have HY := Lib.hid hy
          clear hy hb2
          go_wp2_with fail
          refine (from_any _ _ _ _).mono ?_
          rintro e w' ⟨rfl, rfl⟩
          cases hin : inB 0 y 72
          · go_wp2_with fail
            go_ret
            exact ⟨by rw [waysB_no HR.out (wrow_in HY.out hin)]; rfl, rfl⟩
          · go_wp2_with fail
            refine ⟨⟨q + 1, by omega, rfl, fun j z hj hz => ?_, by first | rfl | trivial⟩, by simp [intOf]; omega⟩
            by_cases hjq : j < q
            · exact HAL2.out j z hjq hz
            · obtain rfl : j = q := by omega
              have hyz := HY.out
              rw [hz] at hyz
              injection hyz with hyz
              rw [hyz]
              exact hin
        · have hqe : q = n := by omega
          have k4 : ¬ (q : Int) < (n : Int) := by omega
          go_wp2_with fail
          refine ⟨⟨k + 1, by omega, rfl, fun j z hj hz => ?_, by first | rfl | trivial⟩, by simp [intOf]; omega⟩
          by_cases hjq : j < k
          · exact HAL.out j z hjq hz
          · obtain rfl : j = k := by omega
            have hrz := HR.out
            rw [hz] at hrz
            injection hrz with hrz
            subst hrz
            exact wrow_yes (by have := HP.out; omega) HX.out rfl (fun k y hy => HAL2.out k y (by have := HP.out; have := (List.getElem?_eq_some_iff.1 hy).1; omega) hy)
    · have hke : k = n := by omega
      have k1 : ¬ (k : Int) < (n : Int) := by omega
      go_wp2_with fail
      go_ret
      exact ⟨by rw [waysB_yes (by exact HL.out) (fun j r hr => HAL.out j r (by have := HL.out; have := (List.getElem?_eq_some_iff.1 hr).1; omega) hr)]; rfl, rfl⟩
end Go.Proofs.Yticmeeinjkoodaa

namespace Go.Proofs.Yticmeeinjkoodaa
open Go.RowKit

theorem lp_el {w : World} {B : Nat} {A : Option Addr} {l : List Lp} {i : Nat} {x : Lp} (h : RowAt 12 lpR w B A l) (hx : l[i]? = some x) : ∃ b o, A = some ⟨b, o, none⟩ ∧ b < B ∧
    ((w.cell? ⟨b, o + i * 12, none⟩ = some (.int .i64 x.wl) ∧ w.cell? ⟨b, o + i * 12 + 1, none⟩ = some (.int .i64 x.wh)) ∧ (w.cell? ⟨b, o + i * 12 + 2, none⟩ = some (.int .i64 x.ll) ∧ w.cell? ⟨b, o + i * 12 + 3, none⟩ = some (.int .i64 x.lh)) ∧ (w.cell? ⟨b, o + i * 12 + 4, none⟩ = some (.int .i64 x.rl) ∧ w.cell? ⟨b, o + i * 12 + 5, none⟩ = some (.int .i64 x.rh)) ∧
    (w.cell? ⟨b, o + i * 12 + 6, none⟩ = some (.int .i64 x.co) ∧ w.cell? ⟨b, o + i * 12 + 7, none⟩ = some (.int .i64 x.ma) ∧ w.cell? ⟨b, o + i * 12 + 8, none⟩ = some (.int .i64 x.gr) ∧ w.cell? ⟨b, o + i * 12 + 9, none⟩ = some (.int .i64 x.fe)) ∧ w.cell? ⟨b, o + i * 12 + 10, none⟩ = some (.int .i64 x.fl) ∧ w.cell? ⟨b, o + i * 12 + 11, none⟩ = some (.int .i64 x.fh)) := by
  obtain ⟨b, o, rfl, h1, h2⟩ := h (by intro e; rw [e] at hx; simp at hx)
  have p := h2 i x hx
  exact ⟨b, o, rfl, h1, ⟨p 0 _ rfl, p 1 _ rfl⟩, ⟨p 2 _ rfl, p 3 _ rfl⟩, ⟨p 4 _ rfl, p 5 _ rfl⟩, ⟨p 6 _ rfl, p 7 _ rfl, p 8 _ rfl, p 9 _ rfl⟩, p 10 _ rfl, p 11 _ rfl⟩
theorem pr_el {w : World} {B : Nat} {A : Option Addr} {l : List (Int × Int)} {i : Nat} {x : Int × Int} (h : PrsAt w B A l) (hx : l[i]? = some x) : ∃ b o, A = some ⟨b, o, none⟩ ∧ b < B ∧ w.cell? ⟨b, o + i * 2, none⟩ = some (.int .i64 x.1) ∧ w.cell? ⟨b, o + i * 2 + 1, none⟩ = some (.int .i64 x.2) := by
  obtain ⟨b, o, rfl, h1, h2⟩ := h (by intro e; rw [e] at hx; simp at hx)
  exact ⟨b, o, rfl, h1, h2 i x hx 0 _ rfl, h2 i x hx 1 _ rfl⟩
structure NV where
  al : Option Addr
  nl : Nat
  cl : Nat
  af : Option Addr
  nf : Nat
  cf : Nat
  aw : Option Addr
  nw : Nat
  cw : Nat
abbrev nvC (V : NV) : Array Value := #[.slice V.al V.nl V.cl, .slice V.af V.nf V.cf, .slice V.aw V.nw V.cw]
abbrev nvV (V : NV) : Value := .agg #[.slice V.al V.nl V.cl, .slice V.af V.nf V.cf, .slice V.aw V.nw V.cw]
structure NtAt (w : World) (B : Nat) (V : NV) (N : Nt) : Prop where
  lo : RowAt 12 lpR w B V.al N.lo
  fr : PrsAt w B V.af N.fr
  wa : GridAt 1 intR w B V.aw N.wa
  nl : N.lo.length = V.nl
  nf : N.fr.length = V.nf
  nw : N.wa.length = V.nw
  ml : V.nl ≤ maxLen
  mf : V.nf ≤ maxLen
  mw : V.nw ≤ maxLen
theorem NtAt.next {w w' : World} {B B' : Nat} {V : NV} {N : Nt} (h : NtAt w B V N) (hb : Below B w w') (hB : B ≤ B') : NtAt w' B' V N :=
  ⟨h.lo.next hb hB, h.fr.next hb hB, h.wa.next hb hB, h.nl, h.nf, h.nw, h.ml, h.mf, h.mw⟩
theorem NtAt.up {w w' : World} {V : NV} {N : Nt} (h : NtAt w w.heap.size V N) (hb : Below w.heap.size w w') : NtAt w' w'.heap.size V N := h.next hb hb.size
def checkI (N : Nt) : Int := if ntB N then 0 else 2
theorem allB_no {α : Type} {l : List α} {p : α → Bool} {k : Nat} {x : α} (hx : l[k]? = some x) (h : p x = false) : l.all p = false := by
  cases e : l.all p with
  | false => rfl
  | true =>
    exfalso
    rw [List.all_eq_true] at e
    rw [e x (List.mem_of_getElem? hx)] at h
    exact absurd h (by decide)
theorem allB_yes {α : Type} {l : List α} {p : α → Bool} (h : ∀ (k : Nat) (x : α), l[k]? = some x → p x = true) : l.all p = true := by
  rw [List.all_eq_true]
  intro x hx
  obtain ⟨k, hk⟩ := List.getElem?_of_mem hx
  exact h k x hk

set_option maxRecDepth 100000 in
set_option maxHeartbeats 4000000 in
theorem Check_any (V : NV) (N : Nt) (w : World) (hN : NtAt w w.heap.size V N) :
    Calls Try.prog 18 #[nvV V] w fun e w' => e = .returned (.int .i64 (checkI N)) ∧ Below w.heap.size w w' := by
  have z := heap_alloc_new w (.cells (nvC V) 26)
  have hb := (Below.refl w.heap.size w).alloc (Nat.le_refl _) (.cells (nvC V) 26)
  obtain ⟨w1, hw1⟩ : ∃ z, w.alloc (.cells (nvC V) 26) = z := ⟨_, rfl⟩
  rw [hw1] at z hb
  have HW := Lib.hid hw1
  have HN := Lib.hid (hN.up hb)
  obtain ⟨al, nl, cl, af, nf, cf, aw, nw, cw⟩ := V
  obtain ⟨v0, v1, v2⟩ := box3_cells z
  have hml := hN.ml; have hmf := hN.mf; have hmw := hN.mw
  unfold maxLen at hml hmf hmw
  simp only at hml hmf hmw v0 v1 v2
  have HB := Lib.hid hb; have Z := Lib.hid z
  have HNL := Lib.hid hN.nl; have HNF := Lib.hid hN.nf; have HNW := Lib.hid hN.nw
  clear z hb hw1 hN
  go_enter Try.func18, Try.ntmps18
  go_wp2_with fail
  rw [show w.alloc (.cells #[.slice al nl cl, .slice af nf cf, .slice aw nw cw] 26) = w1 from HW.out]
  refine (from_any _ _ _ _).mono ?_
  rintro e w' ⟨rfl, rfl⟩
  cases h1 : inB 1 nl 5
  · go_wp2_with fail
    go_ret
    have h1' : inB 1 N.lo.length 5 = false := by rw [HNL.out]; exact h1
    exact ⟨by unfold checkI ntB; rw [h1']; rfl, HB.out⟩
  go_wp2_with fail
  refine (from_any _ _ _ _).mono ?_
  rintro e w' ⟨rfl, rfl⟩
  cases h2 : inB 1 nf 72
  · go_wp2_with fail
    go_ret
    have h2' : inB 1 N.fr.length 72 = false := by rw [HNF.out]; exact h2
    exact ⟨by unfold checkI ntB; rw [h2']; simp, HB.out⟩
  have H1 : Hid (inB 1 N.lo.length 5 = true) := Lib.hid (by rw [HNL.out]; exact h1)
  have H2 : Hid (inB 1 N.fr.length 72 = true) := Lib.hid (by rw [HNF.out]; exact h2)
  clear h1 h2
  go_wp2_with fail
  go_loopw [22] (fun i wr => ∃ k : Nat, k ≤ nl ∧ i = .int .i64 k ∧ (∀ j x, j < k → N.lo[j]? = some x → lpB x = true) ∧ Below w1.heap.size w1 wr) (fun i _ => nl - (intOf i).toNat)
  case atStart => exact ⟨0, Nat.zero_le _, rfl, fun j _ hj => absurd hj (Nat.not_lt_zero _), Below.refl _ _⟩
  case round =>
    obtain ⟨k, hk, rfl, hall, hbr⟩ := hrel
    have HAL := Lib.hid hall; have HBR := Lib.hid hbr
    clear hall hbr
    by_cases hlt : k < nl
    · have k0 : (0 : Int) ≤ (k : Int) := by omega
      have k1 : (k : Int) < (nl : Int) := by omega
      obtain ⟨x, hx⟩ := get_of_lt (l := N.lo) (k := k) (by rw [HNL.out]; exact hlt)
      obtain ⟨b, o, rfl, hbb, ⟨c0, c1⟩, ⟨c2, c3⟩, ⟨c4, c5⟩, ⟨c6, c7, c8, c9⟩, c10, c11⟩ := lp_el (HN.out.lo.up HBR.out) hx
      have HX := Lib.hid hx
      clear hx hbb v0 v1 v2
      go_wp2_with fail
      refine (loopFine_any x _).mono ?_
      rintro e w' ⟨rfl, hb9⟩
      have HB9 := Lib.hid ((HBR.out.alloc HBR.out.size _).trans (hb9.mono (Nat.le_trans HBR.out.size (by simp))))
      clear hb9
      cases hin : lpB x
      · go_wp2_with fail
        go_ret
        exact ⟨by unfold checkI ntB; rw [allB_no HX.out hin]; simp, HB.out.trans (HB9.out.mono HB.out.size)⟩
      · go_wp2_with fail
        refine ⟨⟨k + 1, by omega, rfl, fun j z hj hz => ?_, HB9.out⟩, by simp [intOf]; omega⟩
        by_cases hjq : j < k
        · exact HAL.out j z hjq hz
        · obtain rfl : j = k := by omega
          have hyz := HX.out
          rw [hz] at hyz
          injection hyz with hyz
          rw [hyz]
          exact hin
    · obtain rfl : nl = k := by omega
      have k1 : ¬ (nl : Int) < (nl : Int) := by omega
      have v0' := ((bcell HBR.out).1 _ _ (heapsz Z.out)).trans v0
      have v1' := ((bcell HBR.out).1 _ _ (heapsz Z.out)).trans v1
      have v2' := ((bcell HBR.out).1 _ _ (heapsz Z.out)).trans v2
      have HN2 := Lib.hid (HN.out.up HBR.out)
      have HLO : Hid (N.lo.all lpB = true) := Lib.hid (allB_yes fun j x hx => HAL.out j x (by have := HNL.out; have := (List.getElem?_eq_some_iff.1 hx).1; omega) hx)
      have HB1 := Lib.hid (HB.out.trans (HBR.out.mono HB.out.size))
      have LZ := Lib.hid (Nat.lt_of_lt_of_le (heapsz Z.out) HBR.out.size)
      clear v0 v1 v2 HAL HBR HN hlt hk
      go_wp2_with fail
      go_loopw [33] (fun i wq => ∃ k : Nat, k ≤ nf ∧ i = .int .i64 k ∧ (∀ j x, j < k → N.fr[j]? = some x → frB x = true) ∧ Below wr.heap.size wr wq) (fun i _ => nf - (intOf i).toNat)
      case atStart => exact ⟨0, Nat.zero_le _, rfl, fun j _ hj => absurd hj (Nat.not_lt_zero _), Below.refl _ _⟩
      case round =>
        obtain ⟨k, hk, rfl, hall, hbr⟩ := hrel
        have HAL := Lib.hid hall; have HBR := Lib.hid hbr
        clear hall hbr
        by_cases hlt : k < nf
        · have k0 : (0 : Int) ≤ (k : Int) := by omega
          have k1 : (k : Int) < (nf : Int) := by omega
          obtain ⟨x, hx⟩ := get_of_lt (l := N.fr) (k := k) (by rw [HNF.out]; exact hlt)
          obtain ⟨b, o, rfl, hbb, c0, c1⟩ := pr_el (HN2.out.fr.up HBR.out) hx
          have HX := Lib.hid hx
          clear hx hbb v0' v1' v2'
          go_wp2_with fail
          refine (within_any 0 x.1 x.2 1000 _).mono ?_
          rintro e w' ⟨rfl, hb9⟩
          have HB9 := Lib.hid ((HBR.out.alloc HBR.out.size _).trans (hb9.mono (Nat.le_trans HBR.out.size (by simp))))
          clear hb9
          cases hin : withinB 0 x.1 x.2 1000
          · go_wp2_with fail
            go_ret
            exact ⟨by unfold checkI ntB; rw [HLO.out, allB_no (p := frB) HX.out hin]; simp, HB1.out.trans (HB9.out.mono HB1.out.size)⟩
          · go_wp2_with fail
            refine ⟨⟨k + 1, by omega, rfl, fun j z hj hz => ?_, HB9.out⟩, by simp [intOf]; omega⟩
            by_cases hjq : j < k
            · exact HAL.out j z hjq hz
            · obtain rfl : j = k := by omega
              have hyz := HX.out
              rw [hz] at hyz
              injection hyz with hyz
              rw [hyz]
              exact hin
        · obtain rfl : nf = k := by omega
          have k1 : ¬ (nf : Int) < (nf : Int) := by omega
          have v0 := ((bcell HBR.out).1 _ _ LZ.out).trans v0'
          have v1 := ((bcell HBR.out).1 _ _ LZ.out).trans v1'
          have v2 := ((bcell HBR.out).1 _ _ LZ.out).trans v2'
          have HN3 := Lib.hid (HN2.out.up HBR.out)
          have HFR : Hid (N.fr.all frB = true) := Lib.hid (allB_yes fun j x hx => HAL.out j x (by have := HNF.out; have := (List.getElem?_eq_some_iff.1 hx).1; omega) hx)
          have HB2 := Lib.hid (HB1.out.trans (HBR.out.mono HB1.out.size))
          clear v0' v1' v2' HAL HBR HN2 hlt hk
          have hn5 : nl ≤ 5 := by have := H1.out; rw [HNL.out, inB_iff] at this; omega
          go_wp2_with fail
          rw [show ((nl : Int) + 1) = ((nl + 1 : Nat) : Int) by omega]
          refine (waysFine_any aw nw cw (nl + 1) N.wa _ HNW.out (by unfold maxLen; omega) (by unfold maxLen; omega) HN3.out.wa).mono ?_
          rintro e w' ⟨rfl, rfl⟩
          have hwb : waysB N.wa ((N.lo.length : Int) + 1) = waysB N.wa ((nl + 1 : Nat) : Int) := by rw [HNL.out]; rfl
          cases hin : waysB N.wa ((nl + 1 : Nat) : Int)
          · go_wp2_with fail
            go_ret
            exact ⟨by unfold checkI ntB; rw [hwb, hin]; simp, HB2.out⟩
          · go_wp2_with fail
            go_ret
            exact ⟨by unfold checkI ntB; rw [H1.out, H2.out, HLO.out, HFR.out, hwb, hin]; rfl, HB2.out⟩
end Go.Proofs.Yticmeeinjkoodaa

namespace Go.Proofs.Yticmeeinjkoodaa
open Go.RowKit

def loopB (N : Nt) (loop : Int) : Bool := ntB N && inB 0 loop (N.lo.length - 1)
def loopI (N : Nt) (loop : Int) : Int := if loopB N loop then 0 else 2
set_option maxRecDepth 100000 in
set_option maxHeartbeats 4000000 in
theorem checkLoop_any (V : NV) (N : Nt) (loop : Int) (w : World) (hN : NtAt w w.heap.size V N) :
    Calls Try.prog 60 #[nvV V, .int .i64 loop] w fun e w' => e = .returned (.int .i64 (loopI N loop)) ∧ Below w.heap.size w w' := by
  have z := heap_alloc_new w (.cells (nvC V) 26)
  have hb := (Below.refl w.heap.size w).alloc (Nat.le_refl _) (.cells (nvC V) 26)
  obtain ⟨w1, hw1⟩ : ∃ z, w.alloc (.cells (nvC V) 26) = z := ⟨_, rfl⟩
  rw [hw1] at z hb
  have HW := Lib.hid hw1
  have HN := Lib.hid (hN.up hb)
  obtain ⟨al, nl, cl, af, nf, cf, aw, nw, cw⟩ := V
  obtain ⟨v0, v1, v2⟩ := box3_cells z
  have hml := hN.ml; have hmf := hN.mf; have hmw := hN.mw
  unfold maxLen at hml hmf hmw
  simp only at hml hmf hmw v0 v1 v2
  have HB := Lib.hid hb; have Z := Lib.hid z
  have HNL := Lib.hid hN.nl; have HNF := Lib.hid hN.nf; have HNW := Lib.hid hN.nw
  clear z hb hw1 hN
  go_enter Try.func60, Try.ntmps60
  go_wp2_with fail
  rw [show w.alloc (.cells #[.slice al nl cl, .slice af nf cf, .slice aw nw cw] 26) = w1 from HW.out]
  refine (Check_any _ N _ HN.out).mono ?_
  rintro e w2 ⟨rfl, hb2⟩
  replace v0 := ((bcell hb2).1 _ _ (heapsz Z.out)).trans v0
  have HB2 := Lib.hid (HB.out.trans (hb2.mono HB.out.size))
  clear hb2 v1 v2
  unfold checkI
  cases h1 : ntB N
  · simp only [Bool.false_eq_true, if_false]
    go_wp2_with fail
    go_ret
    exact ⟨by unfold loopI loopB; rw [h1]; rfl, HB2.out⟩
  · simp only [if_true]
    have k0 := (ntB_iff.1 h1).n5
    rw [HNL.out] at k0
    have hsub : wrap64 ((nl : Int) - 1) = (nl : Int) - 1 := w64 (by omega)
    go_wp2_with fail
    try rw [hsub]
    refine (from_any _ _ _ _).mono ?_
    rintro e w' ⟨rfl, rfl⟩
    have hl : loopB N loop = inB 0 loop ((nl : Int) - 1) := by unfold loopB; rw [h1, HNL.out, Bool.true_and]
    cases hin : inB 0 loop ((nl : Int) - 1)
    · go_wp2_with fail
      go_ret
      exact ⟨by unfold loopI; rw [hl, hin]; rfl, HB2.out⟩
    · go_wp2_with fail
      go_ret
      exact ⟨by unfold loopI; rw [hl, hin]; rfl, HB2.out⟩
theorem shl_is {n : Nat} (h : 1 ≤ n ∧ n ≤ 5) : wrap64 (wrap64 ((2 : Int) ^ min n 64) - 1) = 2 ^ n - 1 := by
  have : n = 1 ∨ n = 2 ∨ n = 3 ∨ n = 4 ∨ n = 5 := by omega
  rcases this with rfl | rfl | rfl | rfl | rfl <;> (unfold wrap64; decide +kernel)
/-- What a fault can be. -/
def faultB (nl : Nat) (f : Int) : Bool := inB 0 f (2 ^ nl - 1)
def faultsI (N : Nt) (place : Int) (fs : List Int) : Int :=
  if 12 < fs.length then 3 else if ntB N && (inB 0 place N.lo.length && fs.all (faultB N.lo.length)) then 0 else 2
set_option maxRecDepth 100000 in
set_option maxHeartbeats 4000000 in
theorem checkFaults_any (V : NV) (N : Nt) (place : Int) (A : Option Addr) (n c : Nat) (fs : List Int) (w : World) (hN : NtAt w w.heap.size V N) (hl : fs.length = n) (hn : n ≤ maxLen) (hA : IntsAt w w.heap.size A fs) :
    Calls Try.prog 70 #[nvV V, .int .i64 place, .slice A n c] w fun e w' => e = .returned (.int .i64 (faultsI N place fs)) ∧ Below w.heap.size w w' := by
  have z := heap_alloc_new w (.cells (nvC V) 26)
  have hb := (Below.refl w.heap.size w).alloc (Nat.le_refl _) (.cells (nvC V) 26)
  obtain ⟨w1, hw1⟩ : ∃ z, w.alloc (.cells (nvC V) 26) = z := ⟨_, rfl⟩
  rw [hw1] at z hb
  have HW := Lib.hid hw1
  have HN := Lib.hid (hN.up hb)
  have HA := Lib.hid (RowAt.up hA hb); have HL := Lib.hid hl
  obtain ⟨al, nl, cl, af, nf, cf, aw, nw, cw⟩ := V
  obtain ⟨v0, v1, v2⟩ := box3_cells z
  have hml := hN.ml; have hmf := hN.mf; have hmw := hN.mw
  unfold maxLen at hml hmf hmw
  simp only at hml hmf hmw v0 v1 v2
  have HB := Lib.hid hb; have Z := Lib.hid z
  have HNL := Lib.hid hN.nl; have HNF := Lib.hid hN.nf; have HNW := Lib.hid hN.nw
  clear z hb hw1 hN hl hA
  unfold maxLen at hn
  by_cases h12 : 12 < (n : Int)
  · go_enter Try.func70, Try.ntmps70
    go_wp2_with fail
    rw [show w.alloc (.cells #[.slice al nl cl, .slice af nf cf, .slice aw nw cw] 26) = w1 from HW.out]
    go_ret
    exact ⟨by unfold faultsI; rw [HL.out, if_pos (by omega)]; rfl, HB.out⟩
  have HI : Hid (faultsI N place fs = if ntB N && (inB 0 place N.lo.length && fs.all (faultB N.lo.length)) then 0 else 2) := Lib.hid (by unfold faultsI; rw [HL.out, if_neg (by omega)])
  go_enter Try.func70, Try.ntmps70
  go_wp2_with fail
  rw [show w.alloc (.cells #[.slice al nl cl, .slice af nf cf, .slice aw nw cw] 26) = w1 from HW.out]
  refine (Check_any _ N _ HN.out).mono ?_
  rintro e w2 ⟨rfl, hb2⟩
  have HZ2 := Lib.hid ((hb2.block _ (heapsz Z.out)).trans Z.out)
  replace v0 := ((bcell hb2).1 _ _ (heapsz Z.out)).trans v0
  have HB2 := Lib.hid (HB.out.trans (hb2.mono HB.out.size))
  have HA2 := Lib.hid (RowAt.up HA.out hb2)
  clear hb2 v1 v2
  unfold checkI
  cases h1 : ntB N
  · simp only [Bool.false_eq_true, if_false]
    go_wp2_with fail
    go_ret
    exact ⟨by rw [HI.out, h1]; rfl, HB2.out⟩
  have H1 := Lib.hid h1
  simp only [if_true]
  have hk := (ntB_iff.1 h1).n5
  rw [HNL.out] at hk
  have HK := Lib.hid hk
  go_wp2_with fail
  refine (from_any _ _ _ _).mono ?_
  rintro e w' ⟨rfl, rfl⟩
  cases hin : inB 0 place nl
  · go_wp2_with fail
    go_ret
    exact ⟨by rw [HI.out, h1, HNL.out, hin]; rfl, HB2.out⟩
  have H2 := Lib.hid hin
  have HS : Hid (wrap64 (wrap64 ((2 : Int) ^ min nl 64) - 1) = 2 ^ nl - 1) := Lib.hid (shl_is hk)
  clear h1 hin hk
  go_wp2_with fail
  go_loopw [25] (fun i wr => ∃ k : Nat, k ≤ n ∧ i = .int .i64 k ∧ (∀ j x, j < k → fs[j]? = some x → faultB nl x = true) ∧ wr = w2) (fun i _ => n - (intOf i).toNat)
  case atStart => exact ⟨0, Nat.zero_le _, rfl, fun j _ hj => absurd hj (Nat.not_lt_zero _), rfl⟩
  case round =>
    obtain ⟨k, hk, rfl, hall, rfl⟩ := hrel
    have HAL := Lib.hid hall
    clear hall
    by_cases hlt : k < n
    · have k0 : (0 : Int) ≤ (k : Int) := by omega
      have k1 : (k : Int) < (n : Int) := by omega
      obtain ⟨x, hx⟩ := get_of_lt (l := fs) (k := k) (by rw [HL.out]; exact hlt)
      obtain ⟨b, o, rfl, hbb, c0⟩ := ints_el HA2.out hx
      have HX := Lib.hid hx
      clear hx hbb
      go_wp2_with fail
      rw [HS.out]
      refine (from_any _ _ _ _).mono ?_
      rintro e w' ⟨rfl, rfl⟩
      cases hin : inB 0 x (2 ^ nl - 1)
      · go_wp2_with fail
        go_ret
        exact ⟨by rw [HI.out, H1.out, HNL.out, H2.out, allB_no (p := faultB nl) HX.out hin]; rfl, HB2.out⟩
      · go_wp2_with fail
        refine ⟨⟨k + 1, by omega, rfl, fun j z hj hz => ?_, by first | rfl | trivial⟩, by simp [intOf]; omega⟩
        by_cases hjq : j < k
        · exact HAL.out j z hjq hz
        · obtain rfl : j = k := by omega
          have hyz := HX.out
          rw [hz] at hyz
          injection hyz with hyz
          rw [hyz]
          exact hin
    · obtain rfl : n = k := by omega
      have k1 : ¬ (n : Int) < (n : Int) := by omega
      go_wp2_with fail
      go_ret
      exact ⟨by rw [HI.out, H1.out, HNL.out, H2.out, allB_yes fun j x hx => HAL.out j x (by have := HL.out; have := (List.getElem?_eq_some_iff.1 hx).1; omega) hx]; rfl, HB2.out⟩
end Go.Proofs.Yticmeeinjkoodaa

namespace Go.Proofs.Yticmeeinjkoodaa
open Go.RowKit

abbrev ThsAt := RowAt 3 thR
theorem th_el {w : World} {B : Nat} {A : Option Addr} {l : List Th} {i : Nat} {x : Th} (h : ThsAt w B A l) (hx : l[i]? = some x) : ∃ b o, A = some ⟨b, o, none⟩ ∧ b < B ∧ w.cell? ⟨b, o + i * 3, none⟩ = some (.int .i64 x.lk) ∧ w.cell? ⟨b, o + i * 3 + 1, none⟩ = some (.int .i64 x.fr) ∧ w.cell? ⟨b, o + i * 3 + 2, none⟩ = some (.bool x.fed) := by
  obtain ⟨b, o, rfl, h1, h2⟩ := h (by intro e; rw [e] at hx; simp at hx)
  exact ⟨b, o, rfl, h1, h2 i x hx 0 _ rfl, h2 i x hx 1 _ rfl, h2 i x hx 2 _ rfl⟩
def thOkB (l : Lp) (fr : List (Int × Int)) (h : Nat) (t : Th) : Bool := inB l.ll t.lk l.lh && inB (fr.getD h (0, 0)).1 t.fr (fr.getD h (0, 0)).2
def thsB (l : Lp) (fr : List (Int × Int)) (ts : List Th) : Bool := (List.range ts.length).all fun h => thOkB l fr h (ts.getD h ⟨0, 0, false⟩)
theorem thsB_iff {l : Lp} {fr : List (Int × Int)} {ts : List Th} : thsB l fr ts = true ↔ ∀ (h : Nat) (t : Th), ts[h]? = some t → thOkB l fr h t = true := by
  unfold thsB
  rw [List.all_eq_true]
  constructor
  · intro hh h t ht
    have := hh h (List.mem_range.2 (List.getElem?_eq_some_iff.1 ht).1)
    rwa [List.getD_eq_getElem?_getD, ht] at this
  · intro hh h hm
    obtain ⟨t, ht⟩ := get_of_lt (List.mem_range.1 hm)
    rw [List.getD_eq_getElem?_getD, ht]
    exact hh h t ht
theorem thsB_no {l : Lp} {fr : List (Int × Int)} {ts : List Th} {h : Nat} {t : Th} (ht : ts[h]? = some t) (hn : thOkB l fr h t = false) : thsB l fr ts = false := by
  cases e : thsB l fr ts with
  | false => rfl
  | true => rw [thsB_iff.1 e h t ht] at hn; exact absurd hn (by decide)
def lp0 : Lp := ⟨0, 0, 0, 0, 0, 0, 0, 0, 0, 0, 0, 0⟩
def Nt.at (N : Nt) (loop : Int) : Lp := N.lo.getD loop.toNat lp0
def truthI (N : Nt) (loop warm : Int) (ts : List Th) : Int :=
  if N.fr.length < ts.length then 3 else if loopB N loop && (inB (N.at loop).wl warm (N.at loop).wh && thsB (N.at loop) N.fr ts) then 0 else 2
theorem loopB_get {N : Nt} {loop : Int} (h : loopB N loop = true) : ∃ L : Nat, loop = L ∧ L < N.lo.length ∧ N.lo[L]? = some (N.at loop) := by
  unfold loopB at h
  rw [Bool.and_eq_true, inB_iff] at h
  have hl : loop.toNat < N.lo.length := by omega
  obtain ⟨x, hx⟩ := get_of_lt hl
  exact ⟨loop.toNat, by omega, hl, by unfold Nt.at; rw [List.getD_eq_getElem?_getD, hx]; rfl⟩
set_option maxRecDepth 100000 in
set_option maxHeartbeats 4000000 in
theorem checkTruth_any (V : NV) (N : Nt) (loop warm : Int) (A : Option Addr) (n c : Nat) (ts : List Th) (w : World) (hN : NtAt w w.heap.size V N) (hl : ts.length = n) (_hn : n ≤ maxLen) (hA : ThsAt w w.heap.size A ts) :
    Calls Try.prog 66 #[nvV V, .int .i64 loop, .int .i64 warm, .slice A n c] w fun e w' => e = .returned (.int .i64 (truthI N loop warm ts)) ∧ Below w.heap.size w w' := by
  have z := heap_alloc_new w (.cells (nvC V) 26)
  have hb := (Below.refl w.heap.size w).alloc (Nat.le_refl _) (.cells (nvC V) 26)
  obtain ⟨w1, hw1⟩ : ∃ z, w.alloc (.cells (nvC V) 26) = z := ⟨_, rfl⟩
  rw [hw1] at z hb
  have HW := Lib.hid hw1
  have HN := Lib.hid (hN.up hb)
  have HA := Lib.hid (RowAt.up hA hb); have HL := Lib.hid hl
  obtain ⟨al, nl, cl, af, nf, cf, aw, nw, cw⟩ := V
  obtain ⟨v0, v1, v2⟩ := box3_cells z
  have hml := hN.ml; have hmf := hN.mf; have hmw := hN.mw
  unfold maxLen at hml hmf hmw
  simp only at hml hmf hmw v0 v1 v2
  have HB := Lib.hid hb; have Z := Lib.hid z
  have HNL := Lib.hid hN.nl; have HNF := Lib.hid hN.nf; have HNW := Lib.hid hN.nw
  clear z hb hw1 hN hl hA
  unfold maxLen at _hn
  by_cases h12 : (nf : Int) < (n : Int)
  · go_enter Try.func66, Try.ntmps66
    go_wp2_with fail
    rw [show w.alloc (.cells #[.slice al nl cl, .slice af nf cf, .slice aw nw cw] 26) = w1 from HW.out]
    go_ret
    exact ⟨by unfold truthI; rw [HL.out, HNF.out, if_pos (by omega)]; rfl, HB.out⟩
  have HI : Hid (truthI N loop warm ts = if loopB N loop && (inB (N.at loop).wl warm (N.at loop).wh && thsB (N.at loop) N.fr ts) then 0 else 2) := Lib.hid (by unfold truthI; rw [HL.out, HNF.out, if_neg (by simp only; omega)])
  go_enter Try.func66, Try.ntmps66
  go_wp2_with fail
  rw [show w.alloc (.cells #[.slice al nl cl, .slice af nf cf, .slice aw nw cw] 26) = w1 from HW.out]
  refine (checkLoop_any _ N loop _ HN.out).mono ?_
  rintro e w2 ⟨rfl, hb2⟩
  have HZ2 := Lib.hid ((hb2.block _ (heapsz Z.out)).trans Z.out)
  replace v0 := ((bcell hb2).1 _ _ (heapsz Z.out)).trans v0
  replace v1 := ((bcell hb2).1 _ _ (heapsz Z.out)).trans v1
  have HB2 := Lib.hid (HB.out.trans (hb2.mono HB.out.size))
  have HA2 := Lib.hid (RowAt.up HA.out hb2)
  have HN2 := Lib.hid (HN.out.up hb2)
  clear hb2 v2
  unfold loopI
  cases h1 : loopB N loop
  · simp only [Bool.false_eq_true, if_false]
    go_wp2_with fail
    go_ret
    exact ⟨by rw [HI.out, h1]; rfl, HB2.out⟩
  have H1 := Lib.hid h1
  simp only [if_true]
  obtain ⟨L, rfl, hL1, hL2⟩ := loopB_get h1
  rw [HNL.out] at hL1
  have HL2 := Lib.hid hL2
  obtain ⟨X, hX⟩ : ∃ z, N.at (L : Int) = z := ⟨_, rfl⟩
  rw [hX] at HI hL2 HL2
  obtain ⟨b, o, rfl, hbb, ⟨c0, c1⟩, ⟨c2, c3⟩, _⟩ := lp_el HN2.out.lo hL2
  have k0 : (0 : Int) ≤ (L : Int) := by omega
  have k1 : (L : Int) < (nl : Int) := by omega
  have HC2 := Lib.hid c2; have HC3 := Lib.hid c3; have HBB := Lib.hid hbb
  clear c2 c3 hL2 hX h1 hbb
  go_wp2_with fail
  refine (in_any warm X.wl X.wh _).mono ?_
  rintro e w3 ⟨rfl, hb3⟩
  have HZ3 := Lib.hid ((hb3.block _ (heapsz HZ2.out)).trans HZ2.out)
  have HB3 := Lib.hid (HB2.out.trans (hb3.mono HB2.out.size))
  have HA3 := Lib.hid (RowAt.up HA2.out hb3)
  have HN3 := Lib.hid (HN2.out.up hb3)
  replace HC2 := Lib.hid (((bcell hb3).1 _ _ HBB.out).trans HC2.out)
  replace HC3 := Lib.hid (((bcell hb3).1 _ _ HBB.out).trans HC3.out)
  replace HBB := Lib.hid (Nat.lt_of_lt_of_le HBB.out hb3.size)
  clear hb3 v0 v1 c0 c1 HA2 HN2 HB2 HZ2 HA HN HB Z
  cases h2 : inB X.wl warm X.wh
  · go_wp2_with fail
    go_ret
    exact ⟨by rw [HI.out, H1.out, h2]; rfl, HB3.out⟩
  have H2 := Lib.hid h2
  clear h2
  go_wp2_with fail
  go_loopw [35] (fun i wr => ∃ k : Nat, k ≤ n ∧ i = .int .i64 k ∧ (∀ j x, j < k → ts[j]? = some x → thOkB X N.fr j x = true) ∧ Below w3.heap.size w3 wr) (fun i _ => n - (intOf i).toNat)
  case atStart => exact ⟨0, Nat.zero_le _, rfl, fun j _ hj => absurd hj (Nat.not_lt_zero _), Below.refl _ _⟩
  case round =>
    obtain ⟨k, hk, rfl, hall, hbr⟩ := hrel
    have HAL := Lib.hid hall; have HBR := Lib.hid hbr
    clear hall hbr
    by_cases hlt : k < n
    · have k2 : (0 : Int) ≤ (k : Int) := by omega
      have k3 : (k : Int) < (n : Int) := by omega
      have k4 : (k : Int) < (nf : Int) := by omega
      obtain ⟨t, ht⟩ := get_of_lt (l := ts) (k := k) (by rw [HL.out]; exact hlt)
      obtain ⟨f, hf⟩ := get_of_lt (l := N.fr) (k := k) (by rw [HNF.out]; omega)
      obtain ⟨b1, o1, rfl, hb1, t0, t1, t2⟩ := th_el (HA3.out.up HBR.out) ht
      obtain ⟨b2, o2, rfl, hb2, f0, f1⟩ := pr_el (HN3.out.fr.up HBR.out) hf
      have HX := Lib.hid ht; have HF := Lib.hid hf
      have zn := heap_alloc_new wr (.cells (thC t) 54)
      have hbn := (Below.refl wr.heap.size wr).alloc (Nat.le_refl _) (.cells (thC t) 54)
      obtain ⟨wi, hwi⟩ : ∃ z, wr.alloc (.cells (thC t) 54) = z := ⟨_, rfl⟩
      rw [hwi] at zn hbn
      have HWI := Lib.hid hwi
      obtain ⟨v0, v1, v2⟩ := box3_cells (((HBR.out.trans (hbn.mono HBR.out.size)).block _ (heapsz HZ3.out)).trans HZ3.out)
      obtain ⟨y0, y1, y2⟩ := th_cells zn
      have L0 : w.heap.size < wi.heap.size := Nat.lt_of_lt_of_le (heapsz HZ3.out) (HBR.out.trans (hbn.mono HBR.out.size)).size
      have L1 : wr.heap.size < wi.heap.size := heapsz zn
      have L2 : b < wi.heap.size := Nat.lt_of_lt_of_le HBB.out (HBR.out.trans (hbn.mono HBR.out.size)).size
      have L3 : b2 < wi.heap.size := Nat.lt_of_lt_of_le hb2 hbn.size
      have a0 : ∀ u : KeptW wi, u.w.cell? ⟨w.heap.size, 0, none⟩ = some (.slice (some ⟨b, o, none⟩) nl cl) := fun u => ((bcell u.h).1 _ _ L0).trans v0
      have a1 : ∀ u : KeptW wi, u.w.cell? ⟨w.heap.size, 1, none⟩ = some (.slice (some ⟨b2, o2, none⟩) nf cf) := fun u => ((bcell u.h).1 _ _ L0).trans v1
      have a2 : ∀ u : KeptW wi, u.w.cell? ⟨wr.heap.size, 0, none⟩ = some (.int .i64 t.lk) := fun u => ((bcell u.h).1 _ _ L1).trans y0
      have a3 : ∀ u : KeptW wi, u.w.cell? ⟨wr.heap.size, 1, none⟩ = some (.int .i64 t.fr) := fun u => ((bcell u.h).1 _ _ L1).trans y1
      have a4 : ∀ u : KeptW wi, u.w.cell? ⟨b, o + L * 12 + 2, none⟩ = some (.int .i64 X.ll) := fun u => ((bcell u.h).1 _ _ L2).trans (((bcell (HBR.out.trans (hbn.mono HBR.out.size))).1 _ _ HBB.out).trans HC2.out)
      have a5 : ∀ u : KeptW wi, u.w.cell? ⟨b, o + L * 12 + 3, none⟩ = some (.int .i64 X.lh) := fun u => ((bcell u.h).1 _ _ L2).trans (((bcell (HBR.out.trans (hbn.mono HBR.out.size))).1 _ _ HBB.out).trans HC3.out)
      have a6 : ∀ u : KeptW wi, u.w.cell? ⟨b2, o2 + k * 2, none⟩ = some (.int .i64 f.1) := fun u => ((bcell u.h).1 _ _ L3).trans (((bcell hbn).1 _ _ hb2).trans f0)
      have a7 : ∀ u : KeptW wi, u.w.cell? ⟨b2, o2 + k * 2 + 1, none⟩ = some (.int .i64 f.2) := fun u => ((bcell u.h).1 _ _ L3).trans (((bcell hbn).1 _ _ hb2).trans f1)
      have hfd : N.fr.getD k (0, 0) = f := by rw [List.getD_eq_getElem?_getD, hf]; rfl
      have HOK : Hid (thOkB X N.fr k t = (inB X.ll t.lk X.lh && inB f.1 t.fr f.2)) := Lib.hid (by unfold thOkB; rw [hfd])
      obtain ⟨B1, hB1⟩ : ∃ z, inB X.ll t.lk X.lh = z := ⟨_, rfl⟩
      obtain ⟨B2, hB2⟩ : ∃ z, inB f.1 t.fr f.2 = z := ⟨_, rfl⟩
      have HC1 := Lib.hid (fun u : KeptW wi => Calls.in_kept u (in_any t.lk X.ll X.lh u.w))
      have HC2' := Lib.hid (fun u : KeptW wi => Calls.in_kept u (in_any t.fr f.1 f.2 u.w))
      rw [hB1] at HC1 HOK
      rw [hB2] at HC2' HOK
      have HBN := Lib.hid (HBR.out.trans (hbn.mono HBR.out.size))
      clear ht hf hb1 hb2 zn hbn hwi y0 y1 y2 v0 v1 v2 hfd hB1 hB2
      go_wp2_with fail
      rw [show wr.alloc (.cells #[.int .i64 t.lk, .int .i64 t.fr, .bool t.fed] 54) = wi from HWI.out]
      clear t0 t1 t2 f0 f1
      cases B1
      · refine rk_region (by kernel_rfl) (by kernel_rfl) ?_
        repeat (go_big_quiet_step (first | (with_reducible exact HC1.out _) | (with_reducible exact HC2'.out _) | fail))
        refine wpQuiet_nil ?_
        rintro _ ⟨⟨wz, hbz⟩, rfl⟩
        have HBZ := Lib.hid (HBN.out.trans (hbz.mono HBN.out.size))
        clear hbz
        go_wp2_with fail
        go_ret
        exact ⟨by rw [HI.out, H1.out, H2.out, thsB_no HX.out HOK.out]; rfl, HB3.out.trans (HBZ.out.mono HB3.out.size)⟩
      cases B2
      · refine rk_region (by kernel_rfl) (by kernel_rfl) ?_
        repeat (go_big_quiet_step (first | (with_reducible exact HC1.out _) | (with_reducible exact HC2'.out _) | fail))
        refine wpQuiet_nil ?_
        rintro _ ⟨⟨wz, hbz⟩, rfl⟩
        have HBZ := Lib.hid (HBN.out.trans (hbz.mono HBN.out.size))
        clear hbz
        go_wp2_with fail
        go_ret
        exact ⟨by rw [HI.out, H1.out, H2.out, thsB_no HX.out HOK.out]; rfl, HB3.out.trans (HBZ.out.mono HB3.out.size)⟩
      · refine rk_region (by kernel_rfl) (by kernel_rfl) ?_
        repeat (go_big_quiet_step (first | (with_reducible exact HC1.out _) | (with_reducible exact HC2'.out _) | fail))
        refine wpQuiet_nil ?_
        rintro _ ⟨⟨wz, hbz⟩, rfl⟩
        have HBZ := Lib.hid (HBN.out.trans (hbz.mono HBN.out.size))
        clear hbz
        go_wp2_with fail
        refine ⟨⟨k + 1, by omega, rfl, fun j z hj hz => ?_, HBZ.out⟩, by simp [intOf]; omega⟩
        by_cases hjq : j < k
        · exact HAL.out j z hjq hz
        · obtain rfl : j = k := by omega
          have hyz := HX.out
          rw [hz] at hyz
          injection hyz with hyz
          rw [hyz]
          exact HOK.out
    · obtain rfl : n = k := by omega
      have k2 : ¬ (n : Int) < (n : Int) := by omega
      go_wp2_with fail
      go_ret
      exact ⟨by rw [HI.out, H1.out, H2.out, thsB_iff.2 fun j x hx => HAL.out j x (by have := HL.out; have := (List.getElem?_eq_some_iff.1 hx).1; omega) hx]; rfl, HB3.out.trans (HBR.out.mono HB3.out.size)⟩
end Go.Proofs.Yticmeeinjkoodaa

namespace Go.Proofs.Yticmeeinjkoodaa
open Go.RowKit

theorem playI_take {l : Lp} {w : Int} {ts : List Th} {k : Nat} {t : Th} (h : ts[k]? = some t) : playI l w (ts.take (k + 1)) = addH (playI l w (ts.take k)) (hourI l (playI l w (ts.take k)).w t) := by
  unfold playI
  rw [List.take_add_one, h, List.foldl_append]
  rfl
structure PlayIn (k : Nat) (S : Ht) : Prop where
  w : 0 ≤ S.w ∧ S.w ≤ 1000 + 1000 * (k : Int)
  b : 0 ≤ S.b ∧ S.b ≤ 10000000 * (k : Int)
  g : 0 ≤ S.g ∧ S.g ≤ 1010000000 * (k : Int)
  s : 0 ≤ S.s ∧ S.s ≤ 1010000000 * (k : Int)
theorem play_in {l : Lp} (K : LpOk l) {w : Int} (hw : 0 ≤ w ∧ w ≤ 1000) {ts : List Th} (ht : ∀ t ∈ ts, ThOk t) (hn : ts.length ≤ 72) : ∀ k, k ≤ ts.length → PlayIn k (playI l w (ts.take k))
  | 0, _ => by
    constructor <;> simp [playI] <;> omega
  | k + 1, hk => by
    obtain ⟨t, hx⟩ := get_of_lt (l := ts) (k := k) (by omega)
    have h := play_in K hw ht hn k (by omega)
    have hT := ht t (List.mem_of_getElem? hx)
    have hW : 0 ≤ (playI l w (ts.take k)).w ∧ (playI l w (ts.take k)).w ≤ 100000 := by have := h.w; omega
    have hl := loss_in K hT hW
    have hg := gain_in K t
    have hd := grnd_in K hT hW
    have hb := mul_in hg (y := l.ma) (b := 10000) (by have := K.ma; omega)
    obtain ⟨h1, h2, h3, h4⟩ := h
    rw [playI_take hx]
    have e : ((k + 1 : Nat) : Int) = (k : Int) + 1 := by omega
    constructor <;> (unfold addH hourI; simp only; rw [e]; omega)
def hhCv (zb xb tb : Nat) (al : Value) (L : Nat) (eb : Addr) (X : Lp) (S : Ht) (t : Th) : Tmp → Value
  | 1 => .int .i64 L
  | 4 => .pointer (some ⟨zb, 0, none⟩)
  | 11 => .pointer (some ⟨xb, 0, none⟩)
  | 13 => .pointer (some ⟨tb, 0, none⟩)
  | 31 => htV S
  | 32 => .pointer (some ⟨zb, 0, none⟩)
  | 33 => al
  | 34 => .int .i64 L
  | 35 => .pointer (some eb)
  | 36 => lpV X
  | 37 => .pointer (some ⟨xb, 0, none⟩)
  | 38 => .int .i64 S.w
  | 39 => thV t
  | 40 => htV (hourI X S.w t)
  | 42 => htV (addH S (hourI X S.w t))
  | _ => undef
end Go.Proofs.Yticmeeinjkoodaa

namespace Go.Proofs.Yticmeeinjkoodaa
open Go.RowKit

theorem th_ok {N : Nt} (K : NtOk N) {loop : Int} (hl : loopB N loop = true) {ts : List Th} (h : thsB (N.at loop) N.fr ts = true) (hn : ts.length ≤ N.fr.length) : ∀ t ∈ ts, ThOk t := fun t ht => by
  obtain ⟨k, hk⟩ := List.getElem?_of_mem ht
  obtain ⟨L, _, _, hL⟩ := loopB_get hl
  have hK := (K.lo _ (List.mem_of_getElem? hL)).l
  have h1 := thsB_iff.1 h k t hk
  obtain ⟨f, hf⟩ := get_of_lt (l := N.fr) (k := k) (by have := (List.getElem?_eq_some_iff.1 hk).1; omega)
  have hF := K.fr f (List.mem_of_getElem? hf)
  unfold thOkB at h1
  rw [List.getD_eq_getElem?_getD, hf, Bool.and_eq_true, inB_iff, inB_iff] at h1
  simp only [Option.getD_some] at h1
  exact ⟨by omega, by omega⟩
attribute [local irreducible] QT
def plaI (N : Nt) (loop warm : Int) (ts : List Th) : Ht := if truthI N loop warm ts = 0 then playI (N.at loop) warm ts else z4
set_option maxRecDepth 100000 in
set_option maxHeartbeats 4000000 in
theorem Play_any (V : NV) (N : Nt) (loop warm : Int) (A : Option Addr) (n c : Nat) (ts : List Th) (w : World) (hN : NtAt w w.heap.size V N) (hl : ts.length = n) (hn : n ≤ maxLen) (hA : ThsAt w w.heap.size A ts) :
    Calls Try.prog 26 #[nvV V, .int .i64 loop, .int .i64 warm, .slice A n c] w fun e w' => e = .returned (.tuple #[htV (plaI N loop warm ts), .int .i64 (truthI N loop warm ts)]) ∧ Below w.heap.size w w' := by
  obtain ⟨z, zt, hb⟩ := two_new w (.cells (nvC V) 26) (.cells (htC z4) 43)
  obtain ⟨w1, hw1⟩ : ∃ z, (w.alloc (.cells (nvC V) 26)).alloc (.cells (htC z4) 43) = z := ⟨_, rfl⟩
  rw [hw1] at z zt hb
  have HW := Lib.hid hw1
  have HN := Lib.hid (hN.up hb)
  have HA := Lib.hid (RowAt.up hA hb); have HL := Lib.hid hl
  obtain ⟨al, nl, cl, af, nf, cf, aw, nw, cw⟩ := V
  obtain ⟨v0, v1, v2⟩ := box3_cells z
  have hml := hN.ml; have hmf := hN.mf; have hmw := hN.mw
  unfold maxLen at hml hmf hmw
  simp only at hml hmf hmw v0 v1 v2
  have HB := Lib.hid hb; have Z := Lib.hid z; have ZT := Lib.hid zt
  have HNL := Lib.hid hN.nl; have HNF := Lib.hid hN.nf; have HNW := Lib.hid hN.nw
  have HMN := Lib.hid hn
  clear z zt hb hw1 hN hl hA
  unfold maxLen at hn
  go_enter Try.func26, Try.ntmps26
  go_wp2_with fail
  rw [show ((w.alloc (.cells #[.slice al nl cl, .slice af nf cf, .slice aw nw cw] 26)).alloc (.cells #[.int .i64 0, .int .i64 0, .int .i64 0, .int .i64 0] 43)) = w1 from HW.out]
  refine (checkTruth_any _ N loop warm A n c ts _ HN.out HL.out HMN.out HA.out).mono ?_
  rintro e w2 ⟨rfl, hb2⟩
  have HZ2 := Lib.hid ((hb2.block _ (heapsz Z.out)).trans Z.out)
  have HT2 := Lib.hid ((hb2.block _ (heapsz ZT.out)).trans ZT.out)
  have HB2 := Lib.hid (HB.out.trans (hb2.mono HB.out.size))
  have HA2 := Lib.hid (RowAt.up HA.out hb2)
  have HN2 := Lib.hid (HN.out.up hb2)
  clear hb2 v0 v1 v2
  by_cases h0 : truthI N loop warm ts = 0
  rotate_left
  · have f0 := ht_frz (k := 0) HT2.out; have f1 := ht_frz (k := 1) HT2.out; have f2 := ht_frz (k := 2) HT2.out; have f3 := ht_frz (k := 3) HT2.out
    obtain ⟨c0, c1, c2, c3⟩ := ht_cells HT2.out
    have HP : Hid (plaI N loop warm ts = z4) := Lib.hid (if_neg h0)
    obtain ⟨E, hE⟩ : ∃ z, truthI N loop warm ts = z := ⟨_, rfl⟩
    have HE := Lib.hid hE
    rw [hE] at h0 ⊢
    clear hE
    go_wp2_with fail
    have zf := ht_fill z4 HT2.out
    have hbf := bel_fill4 (b := w.heap.size + 1) (x := .int .i64 0) (y := .int .i64 0) (z := .int .i64 0) (u := .int .i64 0) HB2.out (Nat.le_succ _)
    simp only [z4] at zf
    generalize ((((w2.setCell ⟨w.heap.size + 1, 0, none⟩ (.int .i64 0)).setCell ⟨w.heap.size + 1, 1, none⟩ (.int .i64 0)).setCell ⟨w.heap.size + 1, 2, none⟩ (.int .i64 0)).setCell ⟨w.heap.size + 1, 3, none⟩ (.int .i64 0)) = wf at zf hbf ⊢
    obtain ⟨q0, q1, q2, q3⟩ := ht_cells (t := z4) zf
    simp only [z4] at q0 q1 q2 q3
    exact bodyPost_ret (v := .tuple #[htV z4, .int .i64 E]) (by simp [results, Try.results26, go_sem, q0, q1, q2, q3, z4]) rfl ⟨by rw [HP.out, HE.out], hbf⟩
  have HP : Hid (plaI N loop warm ts = playI (N.at loop) warm ts) := Lib.hid (if_pos h0)
  have hlen : ts.length ≤ N.fr.length := by
    unfold truthI at h0
    split at h0
    · exact absurd h0 (by decide)
    · omega
  have hq : (loopB N loop && (inB (N.at loop).wl warm (N.at loop).wh && thsB (N.at loop) N.fr ts)) = true := by
    unfold truthI at h0
    rw [if_neg (by omega)] at h0
    split at h0
    · assumption
    · exact absurd h0 (by decide)
  simp only [Bool.and_eq_true] at hq
  obtain ⟨hq1, hq2, hq3⟩ := hq
  have K : NtOk N := ntB_iff.1 (by unfold loopB at hq1; rw [Bool.and_eq_true] at hq1; exact hq1.1)
  have hth := th_ok K hq1 hq3 hlen
  obtain ⟨L, rfl, hL1, hL2⟩ := loopB_get hq1
  rw [HNL.out] at hL1
  obtain ⟨X, hX⟩ : ∃ z, N.at (L : Int) = z := ⟨_, rfl⟩
  rw [hX] at HP hL2 hq2
  have KX := K.lo X (List.mem_of_getElem? hL2)
  have hwm : 0 ≤ warm ∧ warm ≤ 1000 := by rw [inB_iff] at hq2; have := KX.w; omega
  have hn72 : ts.length ≤ 72 := by have := K.h72; omega
  have HPI := Lib.hid (fun k (hk : k ≤ ts.length) => play_in KX hwm hth hn72 k hk)
  have HTH := Lib.hid hth; have HKX := Lib.hid KX; have HL2 := Lib.hid hL2; have HW0 := Lib.hid hwm
  have hn7 : n ≤ 72 := by rw [HL.out] at hn72; exact hn72
  rw [h0]
  have zn := heap_alloc_new w2 (.cells (htC ⟨warm, 0, 0, 0⟩) 43)
  have hbn := (Below.refl w2.heap.size w2).alloc (Nat.le_refl _) (.cells (htC ⟨warm, 0, 0, 0⟩) 43)
  obtain ⟨w3, hw3⟩ : ∃ z, w2.alloc (.cells (htC ⟨warm, 0, 0, 0⟩) 43) = z := ⟨_, rfl⟩
  rw [hw3] at zn hbn
  have HZN := Lib.hid zn; have HBN := Lib.hid hbn; have HW3 := Lib.hid hw3
  have H0 := Lib.hid h0
  clear h0 hlen hq1 hq2 hq3 K hth hL2 hX KX hwm hn72 zn hbn hw3
  go_wp2_with fail
  rw [show w2.alloc (.cells #[.int .i64 warm, .int .i64 0, .int .i64 0, .int .i64 0] 43) = w3 from HW3.out]
  go_loopw [27] (fun i wr => ∃ k : Nat, k ≤ n ∧ i = .int .i64 k ∧ Below w2.heap.size w2 wr ∧ wr.heap[w2.heap.size]? = some (.cells (htC (playI X warm (ts.take k))) 43 (0, 0))) (fun i _ => n - (intOf i).toNat)
  case atStart => exact ⟨0, Nat.zero_le _, rfl, HBN.out, HZN.out⟩
  case round =>
    obtain ⟨k, hk, rfl, hbr, hzr⟩ := hrel
    have HBR := Lib.hid hbr; have HZR := Lib.hid hzr
    clear hbr hzr
    by_cases hlt : k < n
    · have k2 : (0 : Int) ≤ (k : Int) := by omega
      have k3 : (k : Int) < (n : Int) := by omega
      obtain ⟨t, ht⟩ := get_of_lt (l := ts) (k := k) (by rw [HL.out]; exact hlt)
      obtain ⟨b1, o1, rfl, hb1, t0, t1, t2⟩ := th_el (HA2.out.up HBR.out) ht
      have HST := Lib.hid (playI_take (l := X) (w := warm) ht)
      have hsi := HPI.out k (by rw [HL.out]; omega)
      have HTK := Lib.hid (HTH.out t (List.mem_of_getElem? ht))
      obtain ⟨S, hS⟩ : ∃ z, playI X warm (ts.take k) = z := ⟨_, rfl⟩
      rw [hS] at HST HZR hsi
      have hwi : 0 ≤ S.w ∧ S.w ≤ 100000 := by have := hsi.w; omega
      have zn := heap_alloc_new wr (.cells (thC t) 54)
      have hbn := (Below.refl wr.heap.size wr).alloc (Nat.le_refl _) (.cells (thC t) 54)
      obtain ⟨wi, hwi'⟩ : ∃ z, wr.alloc (.cells (thC t) 54) = z := ⟨_, rfl⟩
      rw [hwi'] at zn hbn
      have HWI := Lib.hid hwi'
      have HZS := Lib.hid ((hbn.block _ (heapsz HZR.out)).trans HZR.out)
      have HZT := Lib.hid zn
      have HBI := Lib.hid (HBR.out.trans (hbn.mono HBR.out.size))
      have HZB := Lib.hid ((HBI.out.block _ (heapsz HZ2.out)).trans HZ2.out)
      have HZ8 := Lib.hid ((HBI.out.block _ (heapsz HT2.out)).trans HT2.out)
      have HNI := Lib.hid (HN2.out.lo.up HBI.out)
      have HSI := Lib.hid hsi; have HWB := Lib.hid hwi
      clear ht hb1 zn hbn hwi' hsi hS hwi
      go_wp2_with fail
      rw [show wr.alloc (.cells #[.int .i64 t.lk, .int .i64 t.fr, .bool t.fed] 54) = wi from HWI.out]
      clear t0 t1 t2
      obtain ⟨b, o, rfl, hbb, ⟨c0, c1⟩, ⟨c2, c3⟩, ⟨c4, c5⟩, ⟨c6, c7, c8, c9⟩, c10, c11⟩ := lp_el HNI.out HL2.out
      obtain ⟨v0, v1, v2⟩ := box3_cells HZB.out
      obtain ⟨s0, s1, s2, s3⟩ := ht_cells HZS.out
      obtain ⟨y0, y1, y2⟩ := th_cells HZT.out
      have L0 := heapsz HZB.out; have L1 := heapsz HZS.out; have L2 := heapsz HZT.out
      have hA9 : HtIn 1000000000000000 S ∧ HtIn 1000000000000000 (hourI X S.w t) := by
        have h1 := HSI.out
        have hl := loss_in HKX.out HTK.out HWB.out
        have hg := gain_in HKX.out t
        have hd := grnd_in HKX.out HTK.out HWB.out
        have hb := mul_in hg (y := X.ma) (b := 10000) (by have := HKX.out.ma; omega)
        obtain ⟨a1, a2, a3, a4⟩ := h1
        constructor
        · unfold HtIn; omega
        · unfold HtIn hourI; simp only; omega
      have HA9 := Lib.hid hA9
      have hsum : sumH [S, hourI X S.w t] = addH S (hourI X S.w t) := by unfold sumH addH z4; simp
      have HSUM := Lib.hid hsum
      have k4 : (0 : Int) ≤ (L : Int) := by omega
      have k5 : (L : Int) < (nl : Int) := by omega
      clear hA9 hsum
      apply tail_regionX
      case hs => exact (rfl : _ = [_, _, _, _, _, _, _, _, _, _, _, _] ++ [_])
      case hm => kernel_rfl
      case hT => kernel_rfl
      refine rel_any [1, 4, 11, 13] [(41, 10)] (hhCv w.heap.size w2.heap.size wr.heap.size (.slice (some ⟨b, o, none⟩) nl cl) L ⟨b, o + L * 12, none⟩ X S t) (mkF 10 wi.heap.size (fun g => .slice (some ⟨g, 0, none⟩) 2 2) 43 (flatR htR [S, hourI X S.w t]).toArray) (by kernel_rfl) (by kernel_rfl) (by kernel_rfl) (by kernel_rfl) (by kernel_rfl) ?_ (fun i v w1 w2 h hb => mkF_keep _ _ _ _ _ i v w1 w2 h hb) ?_ ?_
      · intro t ht
        simp only [List.mem_cons, List.not_mem_nil, or_false] at ht
        rcases ht with rfl | rfl | rfl | rfl <;> rfl
      · refine allOps_array ?_
        refine ⟨?_, ?_, ?_, ?_, ?_, ?_, ?_, ?_, ?_, ?_, ?_, ?_, trivial⟩ <;> intro g u hd_ <;> have q := (bcell u.h).1
        · refine ⟨rfl, relQ 31 rfl (mkF_other (by decide)) ?_⟩
          simp [go_sem, evalBy, rhoT, relOf, hhCv, (q _ _ L1).trans s0, (q _ _ L1).trans s1, (q _ _ L1).trans s2, (q _ _ L1).trans s3]
        · refine ⟨rfl, relQ 32 rfl (mkF_other (by decide)) ?_⟩
          simp [go_sem, evalBy, rhoT, relOf, hhCv]
        · refine ⟨rfl, relQ 33 rfl (mkF_other (by decide)) ?_⟩
          simp [go_sem, evalBy, rhoT, relOf, hhCv, (q _ _ L0).trans v0]
        · refine ⟨rfl, relQ 34 rfl (mkF_other (by decide)) ?_⟩
          simp [go_sem, evalBy, rhoT, relOf, hhCv]
        · refine ⟨rfl, relQ 35 rfl (mkF_other (by decide)) ?_⟩
          simp [go_sem, evalBy, rhoT, relOf, hhCv, k4, k5]
        · refine ⟨rfl, relQ 36 rfl (mkF_other (by decide)) ?_⟩
          simp [go_sem, evalBy, rhoT, relOf, hhCv, (q _ _ hbb).trans c0, (q _ _ hbb).trans c1, (q _ _ hbb).trans c2, (q _ _ hbb).trans c3, (q _ _ hbb).trans c4, (q _ _ hbb).trans c5, (q _ _ hbb).trans c6, (q _ _ hbb).trans c7, (q _ _ hbb).trans c8, (q _ _ hbb).trans c9, (q _ _ hbb).trans c10, (q _ _ hbb).trans c11]
        · refine ⟨rfl, relQ 37 rfl (mkF_other (by decide)) ?_⟩
          simp [go_sem, evalBy, rhoT, relOf, hhCv]
        · refine ⟨rfl, relQ 38 rfl (mkF_other (by decide)) ?_⟩
          simp [go_sem, evalBy, rhoT, relOf, hhCv, (q _ _ L1).trans s0]
        · refine ⟨rfl, relQ 39 rfl (mkF_other (by decide)) ?_⟩
          simp [go_sem, evalBy, rhoT, relOf, hhCv, (q _ _ L2).trans y0, (q _ _ L2).trans y1, (q _ _ L2).trans y2]
        · refine ⟨rfl, relK 40 rfl (fun _ => mkF_other (by decide)) 68 #[lpV X, .int .i64 S.w, thV t] (by simp [go_sem, evalBy, rhoT, relOf, hhCv]) ?_⟩
          exact hour_any HKX.out HTK.out HWB.out u.w
        · refine ⟨rfl, relA (.slice (some ⟨u.w.heap.size, 0, none⟩) 2 2) (.cells (flatR htR [S, hourI X S.w t]).toArray 43) (fun d hd => by injection hd with hd; subst hd; decide) ?_ (mkF_new (f := fun g => .slice (some ⟨g, 0, none⟩) 2 2) u.h.size)⟩
          simp [go_sem, evalBy, rhoT, relOf, hhCv, flatR, htR]
        · obtain ⟨G, e2, hG, hz⟩ := hd_ ⟨10, .data⟩ (by simp) rfl rfl
          refine ⟨rfl, relK 42 rfl (fun _ => mkF_other (by decide)) 67 #[.slice (some ⟨G, 0, none⟩) 2 2] (by simp [go_sem, evalBy, rhoT, relOf, e2]) ?_⟩
          have hrow : HtsAt u.w u.w.heap.size (some ⟨G, 0, none⟩) [S, hourI X S.w t] := rowAt_block (fun _ => rfl) hz (heapsz hz)
          refine (together_any (some ⟨G, 0, none⟩) 2 2 [S, hourI X S.w t] u.w rfl (by omega) ?_ hrow).mono ?_
          · intro x hx
            simp only [List.mem_cons, List.not_mem_nil, or_false] at hx
            rcases hx with rfl | rfl
            · exact HA9.out.1
            · exact HA9.out.2
          · rintro e w' ⟨rfl, hb⟩
            exact ⟨by rw [HSUM.out]; rfl, hb⟩
      · intro g u hu
        have hzu := (u.h.block _ L1).trans HZS.out
        have HZU := Lib.hid hzu
        have HBU := Lib.hid (HBI.out.trans (u.h.mono HBI.out.size))
        have f0 := ht_frz (k := 0) hzu; have f1 := ht_frz (k := 1) hzu; have f2 := ht_frz (k := 2) hzu; have f3 := ht_frz (k := 3) hzu
        obtain ⟨p0, p1, p2, p3⟩ := ht_cells hzu
        clear hu hzu c0 c1 c2 c3 c4 c5 c6 c7 c8 c9 c10 c11 v0 v1 v2 s0 s1 s2 s3 y0 y1 y2 HWI
        simp only [QT]
        unfold Oper.wp
        simp [go_sem, putAll, Act.put, rhoT, relOf, hhCv, f0, f1, f2, f3, p0, p1, p2, p3]
        have hz5 := ht_fill (addH S (hourI X S.w t)) HZU.out
        have hb5 := bel_fill4 (x := .int .i64 (addH S (hourI X S.w t)).w) (y := .int .i64 (addH S (hourI X S.w t)).b) (z := .int .i64 (addH S (hourI X S.w t)).g) (u := .int .i64 (addH S (hourI X S.w t)).s) HBU.out (Nat.le_refl _)
        generalize ((((u.w.setCell ⟨w2.heap.size, 0, none⟩ (.int .i64 (addH S (hourI X S.w t)).w)).setCell ⟨w2.heap.size, 1, none⟩ (.int .i64 (addH S (hourI X S.w t)).b)).setCell ⟨w2.heap.size, 2, none⟩ (.int .i64 (addH S (hourI X S.w t)).g)).setCell ⟨w2.heap.size, 3, none⟩ (.int .i64 (addH S (hourI X S.w t)).s)) = w5 at hz5 hb5 ⊢
        clear f0 f1 f2 f3 p0 p1 p2 p3 L0 L1 L2
        go_wp2_with fail
        exact ⟨⟨k + 1, by omega, rfl, hb5, by rw [HST.out]; exact hz5⟩, by simp [intOf]; omega⟩
    · obtain rfl : n = k := by omega
      have k2 : ¬ (n : Int) < (n : Int) := by omega
      have hT := (HBR.out.block _ (heapsz HT2.out)).trans HT2.out
      have hall : ts.take n = ts := by rw [← HL.out, List.take_length]
      rw [hall] at HZR
      obtain ⟨S, hS⟩ : ∃ z, playI X warm ts = z := ⟨_, rfl⟩
      have HS := Lib.hid hS
      rw [hS] at HZR
      obtain ⟨s0, s1, s2, s3⟩ := ht_cells HZR.out
      have f0 := ht_frz (k := 0) hT; have f1 := ht_frz (k := 1) hT; have f2 := ht_frz (k := 2) hT; have f3 := ht_frz (k := 3) hT
      obtain ⟨c0, c1, c2, c3⟩ := ht_cells hT
      have HTT := Lib.hid hT
      have hne : ¬ w2.heap.size = w.heap.size + 1 := by have := heapsz HT2.out; omega
      have hne2 : ¬ w.heap.size + 1 = w2.heap.size := by have := heapsz HT2.out; omega
      clear hT hS hall
      go_wp2_with fail
      have zf := ht_fill S HTT.out
      have hbf := bel_fill4 (b := w.heap.size + 1) (x := .int .i64 S.w) (y := .int .i64 S.b) (z := .int .i64 S.g) (u := .int .i64 S.s) (HB2.out.trans (HBR.out.mono HB2.out.size)) (Nat.le_succ _)
      generalize ((((wr.setCell ⟨w.heap.size + 1, 0, none⟩ (.int .i64 S.w)).setCell ⟨w.heap.size + 1, 1, none⟩ (.int .i64 S.b)).setCell ⟨w.heap.size + 1, 2, none⟩ (.int .i64 S.g)).setCell ⟨w.heap.size + 1, 3, none⟩ (.int .i64 S.s)) = wf at zf hbf ⊢
      obtain ⟨q0, q1, q2, q3⟩ := ht_cells zf
      exact bodyPost_ret (v := .tuple #[htV S, .int .i64 0]) (by simp [results, Try.results26, go_sem, q0, q1, q2, q3]) rfl ⟨by rw [HP.out, HS.out, H0.out], hbf⟩
end Go.Proofs.Yticmeeinjkoodaa
