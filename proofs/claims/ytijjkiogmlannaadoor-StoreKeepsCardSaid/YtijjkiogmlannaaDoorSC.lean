/- Stores: what is landed and taken, week by week, by lists of numbers alone. Stores: the mathematics of the statements on goods, on plans that suffice, on prices. Stores: faults, the best plan, prices, more ices and winters. -/
import Derived.Test.YtijjkiogmlannaaDoorCA
namespace Go.Proofs.YtijjkiogmlannaaDoor

structure Gd where
  a : Int
  b : Int
  c : Int
def Gd.at (g : Gd) : Nat → Int
  | 0 => g.a
  | 1 => g.b
  | 2 => g.c
  | _ => 0
theorem Gd.eq {g h : Gd} (h0 : g.a = h.a) (h1 : g.b = h.b) (h2 : g.c = h.c) : g = h := by
  cases g; cases h; simp_all
instance : DecidableEq Gd := fun g h => if e : g.a = h.a ∧ g.b = h.b ∧ g.c = h.c then isTrue (Gd.eq e.1 e.2.1 e.2.2) else isFalse (fun he => e (by subst he; exact ⟨rfl, rfl, rfl⟩))
def z3 : Gd := ⟨0, 0, 0⟩
def addG (g h : Gd) : Gd := ⟨g.a + h.a, g.b + h.b, g.c + h.c⟩
def subG (g h : Gd) : Gd := ⟨g.a - h.a, g.b - h.b, g.c - h.c⟩
def minG (g h : Gd) : Gd := ⟨min g.a h.a, min g.b h.b, min g.c h.c⟩
def worG (g p : Gd) : Int := g.a * p.a + g.b * p.b + g.c * p.c
def unI (g : Gd) : Int := g.a + g.b + g.c
/-- Each number lies between 0 and most. -/
def amtB (m : Int) (g : Gd) : Bool := decide (0 ≤ g.a ∧ g.a ≤ m) && (decide (0 ≤ g.b ∧ g.b ≤ m) && decide (0 ≤ g.c ∧ g.c ≤ m))
theorem amtB_iff {m : Int} {g : Gd} : amtB m g = true ↔ (0 ≤ g.a ∧ g.a ≤ m) ∧ (0 ≤ g.b ∧ g.b ≤ m) ∧ (0 ≤ g.c ∧ g.c ≤ m) := by
  unfold amtB
  simp only [Bool.and_eq_true, decide_eq_true_eq]
def leB (g h : Gd) : Bool := decide (g.a ≤ h.a) && (decide (g.b ≤ h.b) && decide (g.c ≤ h.c))
theorem leB_iff {g h : Gd} : leB g h = true ↔ g.a ≤ h.a ∧ g.b ≤ h.b ∧ g.c ≤ h.c := by
  unfold leB
  simp only [Bool.and_eq_true, decide_eq_true_eq]
/-- A ship. -/
structure Shp where
  w : Int
  g : Gd
  c : Int
def shpB (s : Shp) : Bool := decide (0 ≤ s.w ∧ s.w ≤ 7) && (amtB 1000 s.g && decide (0 ≤ s.c ∧ s.c ≤ 1000000))
theorem shpB_iff {s : Shp} : shpB s = true ↔ (0 ≤ s.w ∧ s.w ≤ 7) ∧ amtB 1000 s.g = true ∧ (0 ≤ s.c ∧ s.c ≤ 1000000) := by
  unfold shpB
  simp only [Bool.and_eq_true, decide_eq_true_eq]
/-- A store. -/
structure Sto where
  st : Gd
  yd : Gd
  rate : Int
  weeks : Int
  land : Int
  ships : List Shp
  ices : List (List Bool)
  wins : List (List Gd)
def stoB (S : Sto) : Bool :=
  amtB 1000 S.st && (amtB 1000 S.yd && (leB S.st S.yd && (decide (0 ≤ S.rate ∧ S.rate ≤ 3000) && (decide (1 ≤ S.weeks ∧ S.weeks ≤ 30) && (decide (1 ≤ S.land ∧ S.land ≤ 8 ∧ S.land ≤ S.weeks) &&
    (decide (S.ships.length ≤ 6) && (S.ships.all shpB && (decide (1 ≤ S.ices.length ∧ S.ices.length ≤ 4) && (S.ices.all (fun i => decide ((i.length : Int) = S.land)) &&
    (decide (1 ≤ S.wins.length ∧ S.wins.length ≤ 4) && S.wins.all (fun v => decide ((v.length : Int) = S.weeks) && v.all (amtB 1000))))))))))))
/-- The first week, from some week on, in which the ice is open. -/
def arrI (ice : List Bool) (from_ : Nat) : Int := match (List.range ice.length).find? fun k => decide (from_ ≤ k) && ice.getD k false with
  | some k => (k : Int)
  | none => -1
/-- Whether a plan has a ship. -/
def hasB (plan : Nat) (j : Nat) : Bool := decide (plan / 2 ^ j % 2 = 1)
/-- What is landed of what is aboard, as there is room, and as is left. -/
def ulG (x y : Gd) (L : Int) : Gd := ⟨min (min x.a y.a) L, min (min x.b y.b) (L - min (min x.a y.a) L), min (min x.c y.c) (L - min (min x.a y.a) L - min (min x.b y.b) (L - min (min x.a y.a) L))⟩
/-- While ships are unloaded: what there is, what has been landed of each, what is left of the rate. -/
structure Ld where
  st : Gd
  ld : List Gd
  lf : Int
def lnd (q : Ld) (j : Nat) : Gd := q.ld.getD j z3
def ldS (yd : Gd) (cg : Nat → Gd) (q : Ld) (j : Nat) : Ld :=
  ⟨addG q.st (ulG (subG (cg j) (lnd q j)) (subG yd q.st) q.lf), q.ld.set j (addG (lnd q j) (ulG (subG (cg j) (lnd q j)) (subG yd q.st) q.lf)), q.lf - unI (ulG (subG (cg j) (lnd q j)) (subG yd q.st) q.lf)⟩
theorem ulG_in {x y : Gd} {L : Int} (hx : 0 ≤ x.a ∧ 0 ≤ x.b ∧ 0 ≤ x.c) (hy : 0 ≤ y.a ∧ 0 ≤ y.b ∧ 0 ≤ y.c) (hL : 0 ≤ L) :
    (0 ≤ (ulG x y L).a ∧ (ulG x y L).a ≤ x.a ∧ (ulG x y L).a ≤ y.a) ∧ (0 ≤ (ulG x y L).b ∧ (ulG x y L).b ≤ x.b ∧ (ulG x y L).b ≤ y.b) ∧ (0 ≤ (ulG x y L).c ∧ (ulG x y L).c ≤ x.c ∧ (ulG x y L).c ≤ y.c) ∧ 0 ≤ unI (ulG x y L) ∧ unI (ulG x y L) ≤ L := by
  unfold ulG unI
  simp only
  omega
/-- What holds while ships are unloaded. -/
structure LdOk (yd : Gd) (cg : Nat → Gd) (n : Nat) (q : Ld) : Prop where
  len : q.ld.length = n
  st0 : 0 ≤ q.st.a ∧ 0 ≤ q.st.b ∧ 0 ≤ q.st.c
  sty : q.st.a ≤ yd.a ∧ q.st.b ≤ yd.b ∧ q.st.c ≤ yd.c
  lf0 : 0 ≤ q.lf
  ld0 : ∀ j, j < n → (0 ≤ (lnd q j).a ∧ (lnd q j).a ≤ (cg j).a) ∧ (0 ≤ (lnd q j).b ∧ (lnd q j).b ≤ (cg j).b) ∧ (0 ≤ (lnd q j).c ∧ (lnd q j).c ≤ (cg j).c)
theorem lnd_set {q : Ld} {j i : Nat} {g : Gd} {st : Gd} {lf : Int} (hj : j < q.ld.length) : lnd ⟨st, q.ld.set j g, lf⟩ i = if i = j then g else lnd q i := by
  unfold lnd
  simp only [List.getD_eq_getElem?_getD, List.getElem?_set]
  by_cases h : i = j
  · subst h
    rw [if_pos rfl, if_pos hj, if_pos rfl]
    rfl
  · rw [if_neg (Ne.symm h), if_neg h]
theorem ldS_ok {yd : Gd} {cg : Nat → Gd} {n : Nat} {q : Ld} (h : LdOk yd cg n q) {j : Nat} (hj : j < n) : LdOk yd cg n (ldS yd cg q j) := by
  obtain ⟨h1, h2, h3, h4, h5⟩ := h
  have hx := h5 j hj
  have hu := ulG_in (x := subG (cg j) (lnd q j)) (y := subG yd q.st) (L := q.lf) (by unfold subG; simp only; omega) (by unfold subG; simp only; omega) h4
  obtain ⟨N, hN⟩ : ∃ z, ulG (subG (cg j) (lnd q j)) (subG yd q.st) q.lf = z := ⟨_, rfl⟩
  rw [hN] at hu
  unfold subG at hu
  simp only at hu
  unfold ldS
  rw [hN]
  refine ⟨by simp [h1], by unfold addG; simp only; omega, by unfold addG; simp only; omega, by simp only; omega, fun i hi => ?_⟩
  rw [lnd_set (by omega)]
  by_cases hij : i = j
  · subst hij
    rw [if_pos rfl]
    unfold addG
    simp only
    omega
  · rw [if_neg hij]
    exact h5 i hi
/-- A ship of which all is landed changes nothing. -/
theorem ldS_none {yd : Gd} {cg : Nat → Gd} {n : Nat} {q : Ld} (h : LdOk yd cg n q) {j : Nat} (hj : j < n) (he : subG (cg j) (lnd q j) = z3) : ldS yd cg q j = q := by
  obtain ⟨h1, h2, h3, h4, h5⟩ := h
  have hu : ulG z3 (subG yd q.st) q.lf = z3 := by
    unfold ulG subG z3
    simp only
    refine Gd.eq ?_ ?_ ?_ <;> simp only <;> omega
  have ha : ∀ g : Gd, addG g z3 = g := fun g => Gd.eq (by simp [addG, z3]) (by simp [addG, z3]) (by simp [addG, z3])
  unfold ldS
  rw [he, hu, ha, ha]
  have hl : q.ld.set j (lnd q j) = q.ld := by
    unfold lnd
    rw [List.getD_eq_getElem?_getD, List.getElem?_eq_getElem (by omega), Option.getD_some]
    exact List.set_getElem_self _
  rw [hl]
  simp [unI, z3]
theorem ldS_other {yd : Gd} {cg : Nat → Gd} {q : Ld} {j i : Nat} (hj : j < q.ld.length) (hij : i ≠ j) : lnd (ldS yd cg q j) i = lnd q i := by
  unfold ldS
  rw [lnd_set hj, if_neg hij]
theorem ldS_len {yd : Gd} {cg : Nat → Gd} {q : Ld} {j : Nat} : (ldS yd cg q j).ld.length = q.ld.length := by simp [ldS]
/-- All that wait are unloaded. -/
def ldF (yd : Gd) (cg : Nat → Gd) (q : Ld) (js : List Nat) : Ld := js.foldl (ldS yd cg) q
theorem ldF_ok {yd : Gd} {cg : Nat → Gd} {n : Nat} : ∀ {js : List Nat} {q : Ld}, LdOk yd cg n q → (∀ j ∈ js, j < n) → LdOk yd cg n (ldF yd cg q js)
  | [], _, h, _ => h
  | j :: js, _, h, hj => ldF_ok (js := js) (ldS_ok h (hj j (List.mem_cons_self ..))) fun i hi => hj i (List.mem_cons_of_mem _ hi)
theorem ldF_other {yd : Gd} {cg : Nat → Gd} {i : Nat} : ∀ {js : List Nat} {q : Ld}, (∀ j ∈ js, j < q.ld.length) → i ∉ js → lnd (ldF yd cg q js) i = lnd q i
  | [], _, _, _ => rfl
  | j :: js, q, hj, hi => by
    have h1 := ldF_other (yd := yd) (cg := cg) (i := i) (js := js) (q := ldS yd cg q j) (fun a ha => by rw [ldS_len]; exact hj a (List.mem_cons_of_mem _ ha)) (fun h => hi (List.mem_cons_of_mem _ h))
    exact h1.trans (ldS_other (hj j (List.mem_cons_self ..)) fun h => hi (h ▸ List.mem_cons_self ..))
/-- Those of which all is landed may be left out. -/
theorem ldF_filter {yd : Gd} {cg : Nat → Gd} {n : Nat} (q0 : Ld) : ∀ {js : List Nat} {q : Ld}, LdOk yd cg n q → (∀ j ∈ js, j < n) → js.Nodup → (∀ j ∈ js, lnd q j = lnd q0 j) → ldF yd cg q (js.filter fun j => !decide (subG (cg j) (lnd q0 j) = z3)) = ldF yd cg q js
  | [], _, _, _, _, _ => rfl
  | j :: js, q, h, hj, hn, he => by
    obtain ⟨hn1, hn2⟩ := List.nodup_cons.1 hn
    have hjn := hj j (List.mem_cons_self ..)
    have e1 : lnd q j = lnd q0 j := he j (List.mem_cons_self ..)
    by_cases hz : subG (cg j) (lnd q0 j) = z3
    · rw [List.filter_cons_of_neg (by simp [hz])]
      have e2 : ldF yd cg q (j :: js) = ldF yd cg q js := by
        show ldF yd cg (ldS yd cg q j) js = _
        rw [ldS_none h hjn (by rw [e1]; exact hz)]
      rw [e2]
      exact ldF_filter q0 h (fun a ha => hj a (List.mem_cons_of_mem _ ha)) hn2 fun a ha => he a (List.mem_cons_of_mem _ ha)
    · rw [List.filter_cons_of_pos (by simp [hz])]
      show ldF yd cg (ldS yd cg q j) _ = ldF yd cg (ldS yd cg q j) js
      refine ldF_filter q0 (ldS_ok h hjn) (fun a ha => hj a (List.mem_cons_of_mem _ ha)) hn2 fun a ha => ?_
      rw [ldS_other (by rw [h.len]; exact hjn) (fun e => by subst e; exact hn1 ha)]
      exact he a (List.mem_cons_of_mem _ ha)

/-! ### Weeks -/

def Sto.ship (S : Sto) (j : Nat) : Shp := S.ships.getD j ⟨0, z3, 0⟩
def Sto.cg (S : Sto) (j : Nat) : Gd := (S.ship j).g
/-- The ships that arrive in a week, and those that have arrived before the end of so many. -/
def Sto.comes (S : Sto) (plan : Nat) (ice : List Bool) (w : Nat) : List Nat := (List.range S.ships.length).filter fun j => hasB plan j && decide (arrI ice (S.ship j).w.toNat = (w : Int))
def Sto.queue (S : Sto) (plan : Nat) (ice : List Bool) (k : Nat) : List Nat := (List.range k).flatMap (S.comes plan ice)
/-- What is followed week by week. -/
structure Rn where
  st : Gd
  ld : List Gd
  stocks : List Gd
  lacks : List Gd
def Sto.landed (S : Sto) (plan : Nat) (ice : List Bool) (r : Rn) (w : Nat) : Ld :=
  if (w : Int) < S.land ∧ ice.getD w false = true then ldF S.yd S.cg ⟨r.st, r.ld, S.rate⟩ (S.queue plan ice (w + 1)) else ⟨r.st, r.ld, S.rate⟩
def takG (need st : Gd) : Gd := subG st (minG need st)
def lacG (need st : Gd) : Gd := subG need (minG need st)
def Sto.week (S : Sto) (plan : Nat) (ice : List Bool) (win : List Gd) (r : Rn) (w : Nat) : Rn :=
  ⟨takG (win.getD w z3) (S.landed plan ice r w).st, (S.landed plan ice r w).ld, r.stocks ++ [takG (win.getD w z3) (S.landed plan ice r w).st], r.lacks ++ [lacG (win.getD w z3) (S.landed plan ice r w).st]⟩
def Sto.start (S : Sto) : Rn := ⟨S.st, List.replicate S.ships.length z3, [], []⟩
def Sto.runN (S : Sto) (plan : Nat) (ice : List Bool) (win : List Gd) (k : Nat) : Rn := (List.range k).foldl (S.week plan ice win) S.start
def Sto.run (S : Sto) (plan : Nat) (ice : List Bool) (win : List Gd) : Rn := S.runN plan ice win S.weeks.toNat
theorem Sto.runN_0 (S : Sto) (plan : Nat) (ice : List Bool) (win : List Gd) : S.runN plan ice win 0 = S.start := rfl
theorem Sto.runN_succ (S : Sto) (plan : Nat) (ice : List Bool) (win : List Gd) (k : Nat) : S.runN plan ice win (k + 1) = S.week plan ice win (S.runN plan ice win k) k := by
  unfold Sto.runN
  rw [List.range_succ, List.foldl_append]
  rfl
theorem takG_max (need st : Gd) : takG need st = ⟨max 0 (st.a - need.a), max 0 (st.b - need.b), max 0 (st.c - need.c)⟩ := by
  unfold takG subG minG
  refine Gd.eq ?_ ?_ ?_ <;> simp only <;> omega
theorem lacG_max (need st : Gd) : lacG need st = ⟨max 0 (need.a - st.a), max 0 (need.b - st.b), max 0 (need.c - st.c)⟩ := by
  unfold lacG subG minG
  refine Gd.eq ?_ ?_ ?_ <;> simp only <;> omega
structure Sto.Ok (S : Sto) : Prop where
  st : amtB 1000 S.st = true
  yd : amtB 1000 S.yd = true
  fit : leB S.st S.yd = true
  rate : 0 ≤ S.rate ∧ S.rate ≤ 3000
  weeks : 1 ≤ S.weeks ∧ S.weeks ≤ 30
  land : 1 ≤ S.land ∧ S.land ≤ 8 ∧ S.land ≤ S.weeks
  n6 : S.ships.length ≤ 6
  ships : ∀ s ∈ S.ships, shpB s = true
  i4 : 1 ≤ S.ices.length ∧ S.ices.length ≤ 4
  ices : ∀ i ∈ S.ices, (i.length : Int) = S.land
  w4 : 1 ≤ S.wins.length ∧ S.wins.length ≤ 4
  wins : ∀ v ∈ S.wins, (v.length : Int) = S.weeks ∧ ∀ g ∈ v, amtB 1000 g = true
theorem stoB_iff {S : Sto} : stoB S = true ↔ S.Ok := by
  unfold stoB
  simp only [Bool.and_eq_true, decide_eq_true_eq, List.all_eq_true]
  constructor
  · rintro ⟨h1, h2, h3, h4, h5, h6, h7, h8, h9, h10, h11, h12⟩
    exact ⟨h1, h2, h3, h4, h5, h6, h7, h8, h9, h10, h11, h12⟩
  · rintro ⟨h1, h2, h3, h4, h5, h6, h7, h8, h9, h10, h11, h12⟩
    exact ⟨h1, h2, h3, h4, h5, h6, h7, h8, h9, h10, h11, h12⟩
theorem Sto.Ok.cgB {S : Sto} (K : S.Ok) {j : Nat} (hj : j < S.ships.length) : amtB 1000 (S.cg j) = true := by
  have h : S.ship j ∈ S.ships := by
    unfold Sto.ship
    rw [List.getD_eq_getElem?_getD, List.getElem?_eq_getElem hj, Option.getD_some]
    exact List.getElem_mem hj
  exact (shpB_iff.1 (K.ships _ h)).2.1
theorem comes_mem {S : Sto} {plan : Nat} {ice : List Bool} {w j : Nat} : j ∈ S.comes plan ice w ↔ j < S.ships.length ∧ hasB plan j = true ∧ arrI ice (S.ship j).w.toNat = (w : Int) := by
  unfold Sto.comes
  rw [List.mem_filter, List.mem_range, Bool.and_eq_true, decide_eq_true_eq]
theorem queue_mem {S : Sto} {plan : Nat} {ice : List Bool} {k j : Nat} : j ∈ S.queue plan ice k ↔ j < S.ships.length ∧ hasB plan j = true ∧ ∃ w, w < k ∧ arrI ice (S.ship j).w.toNat = (w : Int) := by
  unfold Sto.queue
  rw [List.mem_flatMap]
  constructor
  · rintro ⟨w, hw, hj⟩
    obtain ⟨h1, h2, h3⟩ := comes_mem.1 hj
    exact ⟨h1, h2, w, List.mem_range.1 hw, h3⟩
  · rintro ⟨h1, h2, w, hw, h3⟩
    exact ⟨w, List.mem_range.2 hw, comes_mem.2 ⟨h1, h2, h3⟩⟩
theorem queue_succ (S : Sto) (plan : Nat) (ice : List Bool) (k : Nat) : S.queue plan ice (k + 1) = S.queue plan ice k ++ S.comes plan ice k := by
  unfold Sto.queue
  rw [List.range_succ, List.flatMap_append]
  simp
theorem comes_nodup (S : Sto) (plan : Nat) (ice : List Bool) (w : Nat) : (S.comes plan ice w).Nodup := List.Pairwise.filter _ List.nodup_range
theorem queue_nodup (S : Sto) (plan : Nat) (ice : List Bool) : ∀ k, (S.queue plan ice k).Nodup
  | 0 => List.nodup_nil
  | k + 1 => by
    rw [queue_succ, List.nodup_append]
    refine ⟨queue_nodup S plan ice k, comes_nodup S plan ice k, fun a ha b hb hab => ?_⟩
    subst hab
    obtain ⟨_, _, w, hw, h1⟩ := queue_mem.1 ha
    obtain ⟨_, _, h2⟩ := comes_mem.1 hb
    omega
/-- What holds at the end of each week. -/
structure RnOk (S : Sto) (k : Nat) (r : Rn) : Prop where
  ld : LdOk S.yd S.cg S.ships.length ⟨r.st, r.ld, S.rate⟩
  sl : r.stocks.length = k
  ll : r.lacks.length = k
theorem landed_ok {S : Sto} {plan : Nat} {ice : List Bool} {r : Rn} {w : Nat} (h : LdOk S.yd S.cg S.ships.length ⟨r.st, r.ld, S.rate⟩) : LdOk S.yd S.cg S.ships.length (S.landed plan ice r w) := by
  unfold Sto.landed
  split
  · exact ldF_ok h fun _ hj => (queue_mem.1 hj).1
  · exact h
theorem start_ok {S : Sto} (K : S.Ok) : RnOk S 0 S.start := by
  have h1 := amtB_iff.1 K.st; have h2 := leB_iff.1 K.fit
  refine ⟨⟨by simp [Sto.start], by show 0 ≤ S.st.a ∧ 0 ≤ S.st.b ∧ 0 ≤ S.st.c; omega, h2, K.rate.1, fun j hj => ?_⟩, rfl, rfl⟩
  have h3 := amtB_iff.1 (K.cgB hj)
  have e : lnd ⟨S.start.st, S.start.ld, S.rate⟩ j = z3 := by
    unfold lnd Sto.start
    simp only [List.getD_eq_getElem?_getD, List.getElem?_replicate]
    rw [if_pos hj]
    rfl
  rw [e]
  unfold z3
  simp only
  omega
theorem week_ok {S : Sto} (K : S.Ok) {plan : Nat} {ice : List Bool} {win : List Gd} (hw : ∀ g ∈ win, amtB 1000 g = true) {r : Rn} {k : Nat} (h : RnOk S k r) : RnOk S (k + 1) (S.week plan ice win r k) := by
  obtain ⟨h1, h2, h3, _, h5⟩ := landed_ok (plan := plan) (ice := ice) (w := k) h.ld
  obtain ⟨N, hN⟩ : ∃ z, win.getD k z3 = z := ⟨_, rfl⟩
  have hn : 0 ≤ N.a ∧ 0 ≤ N.b ∧ 0 ≤ N.c := by
    rw [← hN, List.getD_eq_getElem?_getD]
    cases hg : win[k]? with
    | none => rw [Option.getD_none]; unfold z3; simp only; omega
    | some g =>
      have := amtB_iff.1 (hw g (List.mem_of_getElem? hg))
      rw [Option.getD_some]
      omega
  refine ⟨⟨h1, ?_, ?_, K.rate.1, h5⟩, by simp [Sto.week, h.sl], by simp [Sto.week, h.ll]⟩
  · unfold Sto.week
    rw [hN, takG_max]
    simp only
    omega
  · unfold Sto.week
    rw [hN, takG_max]
    simp only
    omega
theorem runN_ok {S : Sto} (K : S.Ok) {plan : Nat} {ice : List Bool} {win : List Gd} (hw : ∀ g ∈ win, amtB 1000 g = true) : ∀ k, RnOk S k (S.runN plan ice win k)
  | 0 => start_ok K
  | k + 1 => by
    rw [S.runN_succ]
    exact week_ok K hw (runN_ok K hw k)

/-! ### The ships that wait, by the code: those of which not all is landed -/

def abo (cg : Nat → Gd) (q : Ld) (j : Nat) : Bool := !decide (subG (cg j) (lnd q j) = z3)
def wfil (cg : Nat → Gd) (q : Ld) (js : List Nat) : List Nat := js.filter (abo cg q)
theorem abo_eq {cg : Nat → Gd} {q q' : Ld} {j : Nat} (h : lnd q' j = lnd q j) : abo cg q' j = abo cg q j := by unfold abo; rw [h]
theorem ldF_snoc {yd : Gd} {cg : Nat → Gd} {q : Ld} {js : List Nat} {j : Nat} : ldF yd cg q (js ++ [j]) = ldS yd cg (ldF yd cg q js) j := by
  unfold ldF
  rw [List.foldl_append]
  rfl
theorem ldF_app {yd : Gd} {cg : Nat → Gd} {q : Ld} {js ks : List Nat} : ldF yd cg q (js ++ ks) = ldF yd cg (ldF yd cg q js) ks := by
  unfold ldF
  rw [List.foldl_append]
theorem ldF_len {yd : Gd} {cg : Nat → Gd} : ∀ {js : List Nat} {q : Ld}, (ldF yd cg q js).ld.length = q.ld.length
  | [], _ => rfl
  | j :: js, q => (ldF_len (js := js) (q := ldS yd cg q j)).trans ldS_len
theorem wfil_step {yd : Gd} {cg : Nat → Gd} {q : Ld} {W : List Nat} (hn : W.Nodup) (hl : ∀ j ∈ W, j < q.ld.length) {i j : Nat} (hi : W[i]? = some j) :
    wfil cg (ldF yd cg q (W.take (i + 1))) (W.take (i + 1)) = wfil cg (ldF yd cg q (W.take i)) (W.take i) ++ if abo cg (ldS yd cg (ldF yd cg q (W.take i)) j) j = true then [j] else [] := by
  have e : W.take (i + 1) = W.take i ++ [j] := by rw [List.take_add_one, hi]; rfl
  have hjl : j < (ldF yd cg q (W.take i)).ld.length := by rw [ldF_len]; exact hl j (List.mem_of_getElem? hi)
  rw [e, ldF_snoc]
  unfold wfil
  rw [List.filter_append]
  congr 1
  · refine List.filter_congr fun a ha => ?_
    refine abo_eq (ldS_other hjl fun h => ?_)
    subst h
    have h2 : (W.take i ++ [a]).Nodup := by rw [← e]; exact List.Pairwise.sublist (List.take_sublist _ _) hn
    rw [List.nodup_append] at h2
    exact h2.2.2 a ha a (List.mem_singleton.2 rfl) rfl
  · by_cases h : abo cg (ldS yd cg (ldF yd cg q (W.take i)) j) j = true
    · rw [if_pos h, List.filter_cons_of_pos h]
      rfl
    · rw [if_neg h, List.filter_cons_of_neg h]
      rfl
/-- The code's line of ships in a week: those of before of which not all is landed, then those that arrive. -/
theorem landed_line {S : Sto} {plan : Nat} {ice : List Bool} {q : Ld} {w : Nat} (h : LdOk S.yd S.cg S.ships.length q) :
    ldF S.yd S.cg q (wfil S.cg q (S.queue plan ice w) ++ S.comes plan ice w) = ldF S.yd S.cg q (S.queue plan ice (w + 1)) := by
  rw [queue_succ, ldF_app, ldF_app]
  congr 1
  exact ldF_filter q h (fun _ hj => (queue_mem.1 hj).1) (queue_nodup _ _ _ _) fun _ _ => rfl
theorem line_nodup (S : Sto) (plan : Nat) (ice : List Bool) (q : Ld) (w : Nat) : (wfil S.cg q (S.queue plan ice w) ++ S.comes plan ice w).Nodup := by
  have h := queue_nodup S plan ice (w + 1)
  rw [queue_succ] at h
  exact List.Pairwise.sublist (List.Sublist.append_right List.filter_sublist _) h
/-- A ship of which all is landed stays so. -/
theorem ldF_done {yd : Gd} {cg : Nat → Gd} {n : Nat} {j : Nat} (hj : j < n) : ∀ {js : List Nat} {q : Ld}, LdOk yd cg n q → (∀ i ∈ js, i < n) → abo cg q j = false → lnd (ldF yd cg q js) j = lnd q j
  | [], _, _, _, _ => rfl
  | i :: js, q, h, hi, ha => by
    have hin := hi i (List.mem_cons_self ..)
    have e : lnd (ldS yd cg q i) j = lnd q j := by
      by_cases hij : j = i
      · subst hij
        have hz : subG (cg j) (lnd q j) = z3 := by unfold abo at ha; simpa using ha
        rw [ldS_none h hj hz]
      · exact ldS_other (by rw [h.len]; exact hin) hij
    show lnd (ldF yd cg (ldS yd cg q i) js) j = _
    rw [ldF_done hj (ldS_ok h hin) (fun a h => hi a (List.mem_cons_of_mem _ h)) (by rw [abo_eq e]; exact ha), e]
/-- Behind a week in which ships are unloaded. -/
theorem line_next {S : Sto} {plan : Nat} {ice : List Bool} {q : Ld} {w : Nat} (h : LdOk S.yd S.cg S.ships.length q) :
    wfil S.cg (ldF S.yd S.cg q (S.queue plan ice (w + 1))) (wfil S.cg q (S.queue plan ice w) ++ S.comes plan ice w) = wfil S.cg (ldF S.yd S.cg q (S.queue plan ice (w + 1))) (S.queue plan ice (w + 1)) := by
  obtain ⟨Q, hQ⟩ : ∃ z, ldF S.yd S.cg q (S.queue plan ice (w + 1)) = z := ⟨_, rfl⟩
  have hd : ∀ j ∈ S.queue plan ice w, abo S.cg q j = false → abo S.cg Q j = false := fun j hj ha => by
    have := ldF_done (n := S.ships.length) (queue_mem.1 hj).1 (js := S.queue plan ice (w + 1)) h (fun _ hi => (queue_mem.1 hi).1) ha
    rw [hQ] at this
    rw [abo_eq this]
    exact ha
  rw [hQ, queue_succ]
  unfold wfil
  rw [List.filter_append, List.filter_append, List.filter_filter]
  congr 1
  refine List.filter_congr fun j hj => ?_
  cases hq : abo S.cg q j with
  | true => rw [Bool.and_true]
  | false => rw [hd j hj hq]; rfl
/-- Ships arrive where the ice is open. -/
theorem arr_some {ice : List Bool} {f w : Nat} (h : arrI ice f = (w : Int)) : f ≤ w ∧ w < ice.length ∧ ice.getD w false = true := by
  unfold arrI at h
  split at h
  · rename_i k hk
    have hw : k = w := by omega
    subst hw
    have h1 := List.mem_range.1 (List.mem_of_find?_eq_some hk)
    have h2 := List.find?_some hk
    simp only [Bool.and_eq_true, decide_eq_true_eq] at h2
    exact ⟨h2.1, h1, h2.2⟩
  · omega
theorem comes_open {S : Sto} {plan : Nat} {ice : List Bool} {w : Nat} (h : ¬ (w < ice.length ∧ ice.getD w false = true)) : S.comes plan ice w = [] := by
  rw [List.eq_nil_iff_forall_not_mem]
  intro j hj
  obtain ⟨_, _, h3⟩ := comes_mem.1 hj
  obtain ⟨_, h4, h5⟩ := arr_some h3
  exact h ⟨h4, h5⟩
theorem arr_b (ice : List Bool) (f : Nat) : -1 ≤ arrI ice f ∧ arrI ice f < ice.length := by
  unfold arrI
  split
  · rename_i k hk
    have h1 := List.mem_range.1 (List.mem_of_find?_eq_some hk)
    omega
  · omega
theorem arr_found {ice : List Bool} {f k : Nat} (hk : k < ice.length) (hf : f ≤ k) (ho : ice.getD k false = true) (ha : ∀ j, f ≤ j → j < k → ice.getD j false = false) : arrI ice f = (k : Int) := by
  have : (List.range ice.length).find? (fun k => decide (f ≤ k) && ice.getD k false) = some k := List.find?_range_eq_some.2 ⟨by simp only [Bool.and_eq_true, decide_eq_true_eq]; exact ⟨hf, ho⟩, List.mem_range.2 hk, fun j hj => by
    by_cases h : f ≤ j
    · rw [ha j h hj, Bool.and_false]; rfl
    · rw [decide_eq_false h]; rfl⟩
  unfold arrI
  rw [this]
theorem arr_none {ice : List Bool} {f : Nat} (ha : ∀ j, f ≤ j → j < ice.length → ice.getD j false = false) : arrI ice f = -1 := by
  have : (List.range ice.length).find? (fun k => decide (f ≤ k) && ice.getD k false) = none := List.find?_range_eq_none.2 fun j hj => by
    by_cases h : f ≤ j
    · rw [ha j h hj, Bool.and_false]; rfl
    · rw [decide_eq_false h]; rfl
  unfold arrI
  rw [this]

/-! ### What is lacking -/

/-- The first week and kind of which something is lacking. -/
def lackG (g : Gd) : Option Nat := if 0 < g.a then some 0 else if 0 < g.b then some 1 else if 0 < g.c then some 2 else none
def lackL : List Gd → Option (Nat × Nat)
  | [] => none
  | g :: l => match lackG g with
    | some k => some (0, k)
    | none => (lackL l).map fun x => (x.1 + 1, x.2)
def Sto.lackO (S : Sto) (plan i n : Nat) : Option (Nat × Nat) := lackL (S.run plan (S.ices.getD i []) (S.wins.getD n [])).lacks
/-- All pairs of an ice and a winter, in order. -/
def Sto.pairs (S : Sto) : List (Nat × Nat) := (List.range S.ices.length).flatMap fun i => (List.range S.wins.length).map fun n => (i, n)
/-- What is lacking: the ice, the winter, the week, the kind. -/
structure Flt where
  i : Nat
  n : Nat
  w : Nat
  k : Nat
def Sto.flts (S : Sto) (plan : Nat) : List Flt := S.pairs.filterMap fun p => (S.lackO plan p.1 p.2).map fun x => ⟨p.1, p.2, x.1, x.2⟩
def Sto.fault (S : Sto) (plan : Nat) : Option Flt := (S.flts plan).head?
def Sto.cost (S : Sto) (plan : Nat) : Int := (((List.range S.ships.length).filter (hasB plan)).map fun j => (S.ship j).c).sum
/-- The first of some things that cost the least. -/
def leastBy {α : Type} (f : α → Int) : List α → Option α → Option α
  | [], o => o
  | x :: l, none => leastBy f l (some x)
  | x :: l, some y => leastBy f l (if f x < f y then some x else some y)
theorem leastBy_snoc {α : Type} (f : α → Int) (x : α) : ∀ (l : List α) (o : Option α), leastBy f (l ++ [x]) o = match leastBy f l o with
    | none => some x
    | some y => if f x < f y then some x else some y
  | [], none => rfl
  | [], some _ => rfl
  | z :: l, none => leastBy_snoc f x l (some z)
  | z :: l, some y => leastBy_snoc f x l (if f z < f y then some z else some y)
def Sto.best (S : Sto) : Option Nat := leastBy S.cost ((List.range (2 ^ S.ships.length)).filter fun p => (S.fault p).isNone) none
def Sto.first (S : Sto) (plan : Nat) : Option Flt := leastBy (fun x : Flt => (x.w : Int) * 3 + (x.k : Int)) (S.flts plan) none
end Go.Proofs.YtijjkiogmlannaaDoor

namespace Go.Proofs.YtijjkiogmlannaaDoor

/-! ### Weeks, one by one -/

theorem sub_cg_le {x y : Int} (h : 0 ≤ x) : y - x ≤ y := by omega
/-- What there was before a week: at first, or behind the week before. -/
def Sto.bef (S : Sto) (plan : Nat) (ice : List Bool) (win : List Gd) (w : Nat) : Gd := (S.runN plan ice win w).st
def Sto.aft (S : Sto) (plan : Nat) (ice : List Bool) (win : List Gd) (w : Nat) : Gd := (S.landed plan ice (S.runN plan ice win w) w).st
theorem runN_lists (S : Sto) (plan : Nat) (ice : List Bool) (win : List Gd) : ∀ k,
    (S.runN plan ice win k).stocks = (List.range k).map (fun w => takG (win.getD w z3) (S.aft plan ice win w)) ∧ (S.runN plan ice win k).lacks = (List.range k).map (fun w => lacG (win.getD w z3) (S.aft plan ice win w))
  | 0 => ⟨rfl, rfl⟩
  | k + 1 => by
    obtain ⟨h1, h2⟩ := runN_lists S plan ice win k
    rw [S.runN_succ, List.range_succ, List.map_append, List.map_append]
    constructor
    · show (S.runN plan ice win k).stocks ++ _ = _
      rw [h1]
      rfl
    · show (S.runN plan ice win k).lacks ++ _ = _
      rw [h2]
      rfl
theorem bef_succ (S : Sto) (plan : Nat) (ice : List Bool) (win : List Gd) (w : Nat) : S.bef plan ice win (w + 1) = takG (win.getD w z3) (S.aft plan ice win w) := by
  unfold Sto.bef
  rw [S.runN_succ]
  rfl
def leG (g h : Gd) : Prop := g.a ≤ h.a ∧ g.b ≤ h.b ∧ g.c ≤ h.c
theorem leG_trans {g h i : Gd} (h1 : leG g h) (h2 : leG h i) : leG g i := by unfold leG at *; omega
theorem ldS_up {yd : Gd} {cg : Nat → Gd} {n : Nat} {q : Ld} (h : LdOk yd cg n q) {j : Nat} (hj : j < n) : leG q.st (ldS yd cg q j).st := by
  obtain ⟨h1, h2, h3, h4, h5⟩ := h
  have hx := h5 j hj
  have hu := ulG_in (x := subG (cg j) (lnd q j)) (y := subG yd q.st) (L := q.lf) (by unfold subG; simp only; omega) (by unfold subG; simp only; omega) h4
  unfold leG ldS addG
  simp only
  omega
theorem ldF_up {yd : Gd} {cg : Nat → Gd} {n : Nat} : ∀ {js : List Nat} {q : Ld}, LdOk yd cg n q → (∀ j ∈ js, j < n) → leG q.st (ldF yd cg q js).st
  | [], _, _, _ => ⟨Int.le_refl _, Int.le_refl _, Int.le_refl _⟩
  | j :: js, _, h, hj => leG_trans (ldS_up h (hj j (List.mem_cons_self ..))) (ldF_up (js := js) (ldS_ok h (hj j (List.mem_cons_self ..))) fun i hi => hj i (List.mem_cons_of_mem _ hi))
theorem aft_up {S : Sto} (K : S.Ok) {plan : Nat} {ice : List Bool} {win : List Gd} (hw : ∀ g ∈ win, amtB 1000 g = true) (w : Nat) : leG (S.bef plan ice win w) (S.aft plan ice win w) := by
  unfold Sto.bef Sto.aft Sto.landed
  split
  · exact ldF_up (runN_ok K hw w).ld fun _ hj => (queue_mem.1 hj).1
  · exact ⟨Int.le_refl _, Int.le_refl _, Int.le_refl _⟩
theorem aft_shut {S : Sto} {plan : Nat} {ice : List Bool} {win : List Gd} {w : Nat} (h : ¬ ((w : Int) < S.land ∧ ice.getD w false = true)) : S.aft plan ice win w = S.bef plan ice win w := by
  unfold Sto.bef Sto.aft Sto.landed
  rw [if_neg h]
theorem aft_in {S : Sto} (K : S.Ok) {plan : Nat} {ice : List Bool} {win : List Gd} (hw : ∀ g ∈ win, amtB 1000 g = true) (w : Nat) :
    (0 ≤ (S.aft plan ice win w).a ∧ 0 ≤ (S.aft plan ice win w).b ∧ 0 ≤ (S.aft plan ice win w).c) ∧ leG (S.aft plan ice win w) S.yd := by
  obtain ⟨_, h2, h3, _, _⟩ := landed_ok (S := S) (plan := plan) (ice := ice) (w := w) (runN_ok K hw w).ld
  exact ⟨h2, h3⟩

/-! ### Sums -/

def sumK (f : Gd → Int) (l : List Gd) : Int := (l.map f).sum
theorem sumK_app (f : Gd → Int) (l m : List Gd) : sumK f (l ++ m) = sumK f l + sumK f m := by unfold sumK; rw [List.map_append, List.sum_append]
theorem sumK_set {f : Gd → Int} (g : Gd) : ∀ (l : List Gd) (j : Nat), j < l.length → sumK f (l.set j g) = sumK f l - f (l.getD j z3) + f g
  | [], j, h => by simp at h
  | x :: l, 0, _ => by simp [sumK]; omega
  | x :: l, j + 1, h => by
    have ih := sumK_set (f := f) g l j (by simpa using h)
    unfold sumK at *
    simp only [List.set_cons_succ, List.map_cons, List.sum_cons, List.getD_cons_succ]
    omega
/-- A number that is told of goods, one that adds up. -/
structure Adds (f : Gd → Int) : Prop where
  add : ∀ g h, f (addG g h) = f g + f h
  sub : ∀ g h, f (subG g h) = f g - f h
  z : f z3 = 0
theorem adds_a : Adds Gd.a := ⟨fun _ _ => rfl, fun _ _ => rfl, rfl⟩
theorem adds_b : Adds Gd.b := ⟨fun _ _ => rfl, fun _ _ => rfl, rfl⟩
theorem adds_c : Adds Gd.c := ⟨fun _ _ => rfl, fun _ _ => rfl, rfl⟩
theorem adds_un : Adds unI := ⟨fun g h => by simp [unI, addG]; omega, fun g h => by simp [unI, subG]; omega, by simp [unI, z3]⟩
theorem ldS_sum {f : Gd → Int} (A : Adds f) {yd : Gd} {cg : Nat → Gd} {q : Ld} {j : Nat} (hj : j < q.ld.length) : f (ldS yd cg q j).st - sumK f (ldS yd cg q j).ld = f q.st - sumK f q.ld := by
  unfold ldS
  simp only
  rw [sumK_set _ _ _ hj, A.add, A.add]
  show _ - (sumK f q.ld - f (lnd q j) + _) = _
  omega
theorem ldS_lf {yd : Gd} {cg : Nat → Gd} {q : Ld} {j : Nat} (hj : j < q.ld.length) : (ldS yd cg q j).lf + sumK unI (ldS yd cg q j).ld = q.lf + sumK unI q.ld := by
  unfold ldS
  simp only
  rw [sumK_set _ _ _ hj, adds_un.add]
  show _ + (sumK unI q.ld - unI (lnd q j) + _) = _
  omega
theorem ldF_sum {f : Gd → Int} (A : Adds f) {yd : Gd} {cg : Nat → Gd} : ∀ {js : List Nat} {q : Ld}, (∀ j ∈ js, j < q.ld.length) → f (ldF yd cg q js).st - sumK f (ldF yd cg q js).ld = f q.st - sumK f q.ld ∧ (ldF yd cg q js).lf + sumK unI (ldF yd cg q js).ld = q.lf + sumK unI q.ld
  | [], _, _ => ⟨rfl, rfl⟩
  | j :: js, q, h => by
    have hj := h j (List.mem_cons_self ..)
    obtain ⟨h1, h2⟩ := ldF_sum A (yd := yd) (cg := cg) (js := js) (q := ldS yd cg q j) fun i hi => by rw [ldS_len]; exact h i (List.mem_cons_of_mem _ hi)
    exact ⟨h1.trans (ldS_sum A hj), h2.trans (ldS_lf hj)⟩
/-- In how many of the first weeks the ice is open. -/
def openN (ice : List Bool) (k : Nat) : Nat := ((List.range k).filter fun w => ice.getD w false).length
theorem openN_succ (ice : List Bool) (k : Nat) : openN ice (k + 1) = openN ice k + if ice.getD k false = true then 1 else 0 := by
  unfold openN
  rw [List.range_succ, List.filter_append, List.length_append]
  congr 1
  by_cases h : ice.getD k false = true
  · rw [if_pos h, List.filter_cons, if_pos h]; rfl
  · rw [if_neg h, List.filter_cons, if_neg h]; rfl
theorem sumK_zero {f : Gd → Int} (A : Adds f) : ∀ n, sumK f (List.replicate n z3) = 0
  | 0 => rfl
  | n + 1 => by
    have h := sumK_zero A n
    unfold sumK at *
    simp only [List.replicate_succ, List.map_cons, List.sum_cons, A.z]
    omega
theorem runN_sum {S : Sto} (K : S.Ok) {f : Gd → Int} (A : Adds f) {plan : Nat} {ice : List Bool} {win : List Gd} (hw : ∀ g ∈ win, amtB 1000 g = true) : ∀ k,
    f (S.runN plan ice win k).st = f S.st + sumK f (S.runN plan ice win k).ld - sumK f ((List.range k).map fun w => win.getD w z3) + sumK f (S.runN plan ice win k).lacks
  | 0 => by
    have : sumK f (S.runN plan ice win 0).ld = 0 := by
      rw [S.runN_0]
      exact sumK_zero A _
    rw [this]
    simp [Sto.runN_0, Sto.start, sumK]
  | k + 1 => by
    have ih := runN_sum K A (plan := plan) (ice := ice) hw k
    have hl := (runN_ok K (plan := plan) (ice := ice) hw k).ld.len
    have e1 : f (S.landed plan ice (S.runN plan ice win k) k).st - sumK f (S.landed plan ice (S.runN plan ice win k) k).ld = f (S.runN plan ice win k).st - sumK f (S.runN plan ice win k).ld := by
      unfold Sto.landed
      split
      · exact (ldF_sum A fun j hj => by rw [hl]; exact (queue_mem.1 hj).1).1
      · rfl
    have e2 : f (takG (win.getD k z3) (S.landed plan ice (S.runN plan ice win k) k).st) = f (S.landed plan ice (S.runN plan ice win k) k).st - f (win.getD k z3) + f (lacG (win.getD k z3) (S.landed plan ice (S.runN plan ice win k) k).st) := by
      unfold takG lacG
      rw [A.sub, A.sub]
      omega
    rw [S.runN_succ, List.range_succ, List.map_append, sumK_app]
    unfold Sto.week
    simp only
    rw [sumK_app, e2]
    simp only [sumK, List.map_cons, List.map_nil, List.sum_cons, List.sum_nil] at *
    omega
/-- No more is landed than the rate allows in the weeks in which the ice is open. -/
theorem runN_rate {S : Sto} (K : S.Ok) {plan : Nat} {ice : List Bool} (hi : (ice.length : Int) = S.land) {win : List Gd} (hw : ∀ g ∈ win, amtB 1000 g = true) : ∀ k, sumK unI (S.runN plan ice win k).ld ≤ openN ice k * S.rate
  | 0 => by
    rw [S.runN_0, show sumK unI S.start.ld = 0 from sumK_zero adds_un _]
    simp [openN]
  | k + 1 => by
    have ih := runN_rate K hi (plan := plan) hw k
    have hl := runN_ok K (plan := plan) (ice := ice) hw k
    have hr := K.rate.1
    rw [S.runN_succ, openN_succ]
    show sumK unI (S.landed plan ice (S.runN plan ice win k) k).ld ≤ _
    unfold Sto.landed
    by_cases ho : (k : Int) < S.land ∧ ice.getD k false = true
    · rw [if_pos ho, if_pos ho.2]
      have h1 := (ldF_sum adds_un (yd := S.yd) (cg := S.cg) (js := S.queue plan ice (k + 1)) (q := ⟨(S.runN plan ice win k).st, (S.runN plan ice win k).ld, S.rate⟩) fun j hj => by rw [hl.ld.len]; exact (queue_mem.1 hj).1).2
      have h2 := (ldF_ok (js := S.queue plan ice (k + 1)) hl.ld fun _ hj => (queue_mem.1 hj).1).lf0
      simp only at h1
      have e : ((openN ice k + 1 : Nat) : Int) * S.rate = openN ice k * S.rate + S.rate := by rw [Int.natCast_add, Int.add_mul]; simp
      rw [e]
      omega
    · rw [if_neg ho]
      have hz : ice.getD k false = false := by
        by_cases h : k < ice.length
        · cases hk : ice.getD k false with
          | false => rfl
          | true => exact absurd ⟨by omega, hk⟩ ho
        · rw [List.getD_eq_getElem?_getD, List.getElem?_eq_none (by omega)]
          rfl
      rw [hz]
      simpa using ih
end Go.Proofs.YtijjkiogmlannaaDoor

namespace Go.Proofs.YtijjkiogmlannaaDoor

def noG (g : Gd) : Prop := g.a ≤ 0 ∧ g.b ≤ 0 ∧ g.c ≤ 0
theorem lackG_none {g : Gd} : lackG g = none ↔ noG g := by
  unfold lackG noG
  constructor
  · intro h
    split at h
    · cases h
    · split at h
      · cases h
      · split at h
        · cases h
        · omega
  · intro h
    rw [if_neg (by omega), if_neg (by omega), if_neg (by omega)]
theorem lackG_some {g : Gd} {k : Nat} (h : lackG g = some k) : k < 3 ∧ 0 < g.at k ∧ ∀ j, j < k → g.at j ≤ 0 := by
  unfold lackG at h
  split at h
  · cases h; exact ⟨by omega, by assumption, fun j hj => by omega⟩
  · split at h
    · cases h
      refine ⟨by omega, by assumption, fun j hj => ?_⟩
      have : j = 0 := by omega
      subst this
      show g.a ≤ 0
      omega
    · split at h
      · cases h
        refine ⟨by omega, by assumption, fun j hj => ?_⟩
        rcases (show j = 0 ∨ j = 1 by omega) with rfl | rfl
        · show g.a ≤ 0
          omega
        · show g.b ≤ 0
          omega
      · cases h
theorem lackL_none : ∀ {l : List Gd}, lackL l = none ↔ ∀ g ∈ l, noG g
  | [] => by simp [lackL]
  | g :: l => by
    have ih := lackL_none (l := l)
    unfold lackL
    cases hg : lackG g with
    | some k =>
      constructor
      · intro h; cases h
      · intro h
        rw [lackG_none.2 (h g (List.mem_cons_self ..))] at hg
        cases hg
    | none =>
      simp only [Option.map_eq_none_iff]
      rw [ih]
      constructor
      · intro h x hx
        rcases List.mem_cons.1 hx with rfl | hx
        · exact lackG_none.1 hg
        · exact h x hx
      · exact fun h x hx => h x (List.mem_cons_of_mem _ hx)
theorem lackL_some : ∀ {l : List Gd} {w k : Nat}, lackL l = some (w, k) → w < l.length ∧ lackG (l.getD w z3) = some k ∧ ∀ v, v < w → noG (l.getD v z3)
  | [], _, _, h => by cases h
  | g :: l, w, k, h => by
    unfold lackL at h
    cases hg : lackG g with
    | some j =>
      rw [hg] at h
      cases h
      exact ⟨by simp, by simpa using hg, fun v hv => by omega⟩
    | none =>
      rw [hg] at h
      simp only [Option.map_eq_some_iff] at h
      obtain ⟨⟨w', k'⟩, h1, h2⟩ := h
      cases h2
      obtain ⟨e1, e2, e3⟩ := lackL_some h1
      refine ⟨by simp; omega, by simpa using e2, fun v hv => ?_⟩
      cases v with
      | zero => simpa using lackG_none.1 hg
      | succ v => simpa using e3 v (by omega)
theorem lackL_at {l : List Gd} {w k : Nat} (hw : w < l.length) (hk : lackG (l.getD w z3) = some k) (hb : ∀ v, v < w → noG (l.getD v z3)) : lackL l = some (w, k) := by
  cases h : lackL l with
  | none =>
    have := lackL_none.1 h (l.getD w z3) (by rw [List.getD_eq_getElem?_getD, List.getElem?_eq_getElem hw]; exact List.getElem_mem hw)
    rw [lackG_none.2 this] at hk
    cases hk
  | some x =>
    obtain ⟨w', k'⟩ := x
    obtain ⟨h1, h2, h3⟩ := lackL_some h
    have e : w' = w := by
      rcases Nat.lt_trichotomy w w' with hlt | he | hlt
      · rw [lackG_none.2 (h3 w hlt)] at hk; cases hk
      · exact he.symm
      · rw [lackG_none.2 (hb w' hlt)] at h2; cases h2
    subst e
    rw [hk] at h2
    cases h2
    rfl
theorem pairs_mem {S : Sto} {i n : Nat} : (i, n) ∈ S.pairs ↔ i < S.ices.length ∧ n < S.wins.length := by
  unfold Sto.pairs
  simp only [List.mem_flatMap, List.mem_range, List.mem_map, Prod.mk.injEq]
  constructor
  · rintro ⟨a, ha, b, hb, rfl, rfl⟩
    exact ⟨ha, hb⟩
  · rintro ⟨h1, h2⟩
    exact ⟨i, h1, n, h2, rfl, rfl⟩
theorem flts_mem {S : Sto} {plan : Nat} {f : Flt} : f ∈ S.flts plan ↔ f.i < S.ices.length ∧ f.n < S.wins.length ∧ S.lackO plan f.i f.n = some (f.w, f.k) := by
  unfold Sto.flts
  rw [List.mem_filterMap]
  constructor
  · rintro ⟨⟨i, n⟩, hp, h⟩
    obtain ⟨h1, h2⟩ := pairs_mem.1 hp
    simp only [Option.map_eq_some_iff] at h
    obtain ⟨⟨w, k⟩, h3, rfl⟩ := h
    exact ⟨h1, h2, h3⟩
  · rintro ⟨h1, h2, h3⟩
    exact ⟨(f.i, f.n), pairs_mem.2 ⟨h1, h2⟩, by simp [h3]⟩
theorem fault_none {S : Sto} {plan : Nat} : S.fault plan = none ↔ ∀ i n, i < S.ices.length → n < S.wins.length → S.lackO plan i n = none := by
  unfold Sto.fault
  rw [List.head?_eq_none_iff]
  constructor
  · intro h i n hi hn
    cases hl : S.lackO plan i n with
    | none => rfl
    | some x =>
      obtain ⟨w, k⟩ := x
      have : (⟨i, n, w, k⟩ : Flt) ∈ S.flts plan := flts_mem.2 ⟨hi, hn, hl⟩
      rw [h] at this
      cases this
  · intro h
    rw [List.eq_nil_iff_forall_not_mem]
    intro f hf
    obtain ⟨h1, h2, h3⟩ := flts_mem.1 hf
    rw [h _ _ h1 h2] at h3
    cases h3
theorem fault_some {S : Sto} {plan : Nat} {f : Flt} (h : S.fault plan = some f) : f ∈ S.flts plan := List.mem_of_mem_head? (by unfold Sto.fault at h; rw [h]; rfl)
theorem leastBy_some {α : Type} (f : α → Int) : ∀ (l : List α) (y : α), ∃ x, leastBy f l (some y) = some x ∧ (x = y ∨ x ∈ l) ∧ f x ≤ f y ∧ (∀ z ∈ l, f x ≤ f z)
  | [], y => ⟨y, rfl, .inl rfl, Int.le_refl _, fun _ h => by cases h⟩
  | z :: l, y => by
    show ∃ x, leastBy f l (if f z < f y then some z else some y) = some x ∧ _
    by_cases h : f z < f y
    · rw [if_pos h]
      obtain ⟨x, h1, h2, h3, h4⟩ := leastBy_some f l z
      refine ⟨x, h1, .inr ?_, by omega, fun a ha => ?_⟩
      · rcases h2 with rfl | h2
        · exact List.mem_cons_self ..
        · exact List.mem_cons_of_mem _ h2
      · rcases List.mem_cons.1 ha with rfl | ha
        · exact h3
        · exact h4 a ha
    · rw [if_neg h]
      obtain ⟨x, h1, h2, h3, h4⟩ := leastBy_some f l y
      refine ⟨x, h1, ?_, h3, fun a ha => ?_⟩
      · rcases h2 with rfl | h2
        · exact .inl rfl
        · exact .inr (List.mem_cons_of_mem _ h2)
      · rcases List.mem_cons.1 ha with rfl | ha
        · omega
        · exact h4 a ha
theorem leastBy_none {α : Type} (f : α → Int) : ∀ (l : List α), match leastBy f l none with
    | none => l = []
    | some x => x ∈ l ∧ ∀ z ∈ l, f x ≤ f z
  | [] => rfl
  | y :: l => by
    obtain ⟨x, h1, h2, h3, h4⟩ := leastBy_some f l y
    show match leastBy f l (some y) with
    | none => y :: l = []
    | some x => x ∈ y :: l ∧ ∀ z ∈ y :: l, f x ≤ f z
    rw [h1]
    refine ⟨?_, fun z hz => ?_⟩
    · rcases h2 with rfl | h2
      · exact List.mem_cons_self ..
      · exact List.mem_cons_of_mem _ h2
    · rcases List.mem_cons.1 hz with rfl | hz
      · exact h3
      · exact h4 z hz
/-- Of an increasing list of numbers, the one that is told is the first of those that cost the least. -/
theorem leastBy_first {f : Nat → Int} : ∀ (l : List Nat) (y : Nat), (∀ z ∈ l, y < z) → l.Pairwise (· < ·) → ∀ x, leastBy f l (some y) = some x → y ≤ x ∧ (f y = f x → x = y) ∧ ∀ z ∈ l, f z = f x → x ≤ z
  | [], y, _, _, x, h => by
    cases h
    exact ⟨Nat.le_refl _, fun _ => rfl, fun _ h => by cases h⟩
  | z :: l, y, hy, hp, x, h => by
    obtain ⟨hz1, hz2⟩ := List.pairwise_cons.1 hp
    have hyz := hy z (List.mem_cons_self ..)
    by_cases hlt : f z < f y
    · have h' : leastBy f l (some z) = some x := by rw [← h]; show _ = leastBy f l (if f z < f y then some z else some y); rw [if_pos hlt]
      obtain ⟨e1, e2, e3⟩ := leastBy_first l z hz1 hz2 x h'
      obtain ⟨x', g1, _, g3, _⟩ := leastBy_some f l z
      rw [h'] at g1
      cases g1
      refine ⟨by omega, fun he => by omega, fun a ha he => ?_⟩
      rcases List.mem_cons.1 ha with rfl | ha
      · rw [e2 he]; exact Nat.le_refl _
      · exact e3 a ha he
    · have h' : leastBy f l (some y) = some x := by rw [← h]; show _ = leastBy f l (if f z < f y then some z else some y); rw [if_neg hlt]
      obtain ⟨e1, e2, e3⟩ := leastBy_first l y (fun a ha => hy a (List.mem_cons_of_mem _ ha)) hz2 x h'
      obtain ⟨x', g1, _, g3, _⟩ := leastBy_some f l y
      rw [h'] at g1
      cases g1
      refine ⟨e1, e2, fun a ha he => ?_⟩
      rcases List.mem_cons.1 ha with rfl | ha
      · have : f y = f x := by omega
        rw [e2 this]
        omega
      · exact e3 a ha he
theorem suf_pairwise (S : Sto) : ((List.range (2 ^ S.ships.length)).filter fun p => (S.fault p).isNone).Pairwise (· < ·) := List.Pairwise.filter _ List.pairwise_lt_range
theorem suf_mem {S : Sto} {p : Nat} : p ∈ (List.range (2 ^ S.ships.length)).filter (fun p => (S.fault p).isNone) ↔ p < 2 ^ S.ships.length ∧ S.fault p = none := by
  rw [List.mem_filter, List.mem_range, Option.isNone_iff_eq_none]
theorem best_none {S : Sto} (h : S.best = none) {p : Nat} (hp : p < 2 ^ S.ships.length) : S.fault p ≠ none := by
  intro hf
  have h1 := leastBy_none S.cost ((List.range (2 ^ S.ships.length)).filter fun p => (S.fault p).isNone)
  unfold Sto.best at h
  rw [h] at h1
  have := suf_mem.2 ⟨hp, hf⟩
  rw [h1] at this
  cases this
theorem best_some {S : Sto} {b : Nat} (h : S.best = some b) : (b < 2 ^ S.ships.length ∧ S.fault b = none) ∧ ∀ p, p < 2 ^ S.ships.length → S.fault p = none → S.cost b ≤ S.cost p ∧ (S.cost p = S.cost b → b ≤ p) := by
  have h1 := leastBy_none S.cost ((List.range (2 ^ S.ships.length)).filter fun p => (S.fault p).isNone)
  unfold Sto.best at h
  rw [h] at h1
  refine ⟨suf_mem.1 h1.1, fun p hp hf => ⟨h1.2 p (suf_mem.2 ⟨hp, hf⟩), fun he => ?_⟩⟩
  have hm := suf_mem.2 ⟨hp, hf⟩
  have hpw := suf_pairwise S
  cases hl : (List.range (2 ^ S.ships.length)).filter fun p => (S.fault p).isNone with
  | nil => rw [hl] at hm; cases hm
  | cons y l =>
    rw [hl] at h hm hpw
    obtain ⟨g1, g2⟩ := List.pairwise_cons.1 hpw
    obtain ⟨e1, e2, e3⟩ := leastBy_first l y g1 g2 b h
    rcases List.mem_cons.1 hm with rfl | hm
    · rw [e2 he]; exact Nat.le_refl _
    · exact e3 p hm he
theorem first_none {S : Sto} {plan : Nat} : S.first plan = none ↔ S.fault plan = none := by
  have h1 := leastBy_none (fun x : Flt => (x.w : Int) * 3 + (x.k : Int)) (S.flts plan)
  constructor
  · intro h
    unfold Sto.first at h
    rw [h] at h1
    unfold Sto.fault
    rw [List.head?_eq_none_iff]
    exact h1
  · intro h
    unfold Sto.fault at h
    rw [List.head?_eq_none_iff] at h
    unfold Sto.first
    rw [h]
    rfl
theorem first_some {S : Sto} {plan : Nat} {f : Flt} (h : S.first plan = some f) : f ∈ S.flts plan ∧ ∀ g ∈ S.flts plan, f.w ≤ g.w := by
  have h1 := leastBy_none (fun x : Flt => (x.w : Int) * 3 + (x.k : Int)) (S.flts plan)
  unfold Sto.first at h
  rw [h] at h1
  refine ⟨h1.1, fun g hg => ?_⟩
  have h2 : (f.w : Int) * 3 + (f.k : Int) ≤ (g.w : Int) * 3 + (g.k : Int) := h1.2 g hg
  have k1 := (lackG_some (lackL_some (flts_mem.1 hg).2.2).2.1).1
  omega
/-- Ships that never arrive change nothing. -/
theorem comes_strip {S : Sto} {p q : Nat} {ice : List Bool} (h : ∀ j, j < S.ships.length → hasB q j = (hasB p j && !decide (arrI ice (S.ship j).w.toNat = -1))) (w : Nat) : S.comes q ice w = S.comes p ice w := by
  unfold Sto.comes
  refine List.filter_congr fun j hj => ?_
  rw [h j (List.mem_range.1 hj)]
  cases hasB p j with
  | false => rfl
  | true =>
    by_cases ha : arrI ice (S.ship j).w.toNat = (w : Int)
    · rw [ha]; simp
    · simp [ha]
theorem run_strip {S : Sto} {p q : Nat} {ice : List Bool} (h : ∀ j, j < S.ships.length → hasB q j = (hasB p j && !decide (arrI ice (S.ship j).w.toNat = -1))) (win : List Gd) : S.run q ice win = S.run p ice win := by
  have e1 : ∀ k, S.queue q ice k = S.queue p ice k := fun k => by
    unfold Sto.queue
    rw [show S.comes q ice = S.comes p ice from funext fun w => comes_strip h w]
  have e2 : S.week q ice win = S.week p ice win := by
    funext r w
    unfold Sto.week Sto.landed
    rw [e1]
  unfold Sto.run Sto.runN
  rw [e2]

/-! ### Prices -/

def needL (win : List Gd) : Gd := ⟨sumK Gd.a win, sumK Gd.b win, sumK Gd.c win⟩
def Sto.miss (S : Sto) (win : List Gd) : Gd := subG (needL win) (minG (needL win) S.st)
def Sto.floor (S : Sto) (win : List Gd) (p : Gd) : Int := worG (S.miss win) p
def Sto.fair (S : Sto) (p : Gd) : Bool := S.ships.all fun s => decide (worG s.g p ≤ s.c)
theorem map_getD {win : List Gd} {k : Nat} (h : win.length = k) : (List.range k).map (fun w => win.getD w z3) = win := by
  subst h
  apply List.ext_getElem?
  intro i
  rw [List.getElem?_map]
  by_cases hi : i < win.length
  · rw [List.getElem?_range hi, List.getElem?_eq_getElem hi]
    simp [hi]
  · rw [List.getElem?_eq_none (by simp; omega), List.getElem?_eq_none (by omega)]
    rfl
theorem sumK_no {f : Gd → Int} (h : ∀ g, noG g → f g ≤ 0) : ∀ {l : List Gd}, (∀ g ∈ l, noG g) → sumK f l ≤ 0
  | [], _ => Int.le_refl _
  | g :: l, hl => by
    have ih := sumK_no h (l := l) fun x hx => hl x (List.mem_cons_of_mem _ hx)
    have := h g (hl g (List.mem_cons_self ..))
    unfold sumK at *
    simp only [List.map_cons, List.sum_cons]
    omega
/-- What has been landed of ships that are not ordered, is nothing. -/
theorem lnd_out {S : Sto} {plan : Nat} {ice : List Bool} {win : List Gd} {j : Nat} (hj : j < S.ships.length) (h : hasB plan j = false ∨ arrI ice (S.ship j).w.toNat < 0) : ∀ k, (S.runN plan ice win k).ld.length = S.ships.length → True → (S.runN plan ice win k).ld.getD j z3 = z3
  | 0, _, _ => by
    rw [S.runN_0]
    unfold Sto.start
    simp only [List.getD_eq_getElem?_getD, List.getElem?_replicate]
    rw [if_pos hj]
    rfl
  | k + 1, hl, _ => by
    rw [S.runN_succ] at hl ⊢
    have hl2 : (S.runN plan ice win k).ld.length = S.ships.length := by
      rw [← hl]
      show _ = (S.landed plan ice (S.runN plan ice win k) k).ld.length
      unfold Sto.landed
      split
      · rw [ldF_len]
      · rfl
    have ih := lnd_out hj h k hl2 trivial
    show (S.landed plan ice (S.runN plan ice win k) k).ld.getD j z3 = z3
    unfold Sto.landed
    split
    · have hn : j ∉ S.queue plan ice (k + 1) := fun hm => by
        obtain ⟨_, h1, w, _, h2⟩ := queue_mem.1 hm
        rcases h with h | h
        · rw [h] at h1; cases h1
        · omega
      exact (ldF_other (yd := S.yd) (cg := S.cg) (q := ⟨(S.runN plan ice win k).st, (S.runN plan ice win k).ld, S.rate⟩) (fun i hi => by show i < (S.runN plan ice win k).ld.length; rw [hl2]; exact (queue_mem.1 hi).1) hn).trans ih
    · exact ih
/-- What is landed is worth no more than what its ships cost. -/
theorem worth_le {P : Gd} (hP : 0 ≤ P.a ∧ 0 ≤ P.b ∧ 0 ≤ P.c) {cg : Nat → Gd} {c : Nat → Int} {has : Nat → Bool} : ∀ (n : Nat) (ld : Nat → Gd), (∀ j, j < n → (0 ≤ (ld j).a ∧ (ld j).a ≤ (cg j).a) ∧ (0 ≤ (ld j).b ∧ (ld j).b ≤ (cg j).b) ∧ (0 ≤ (ld j).c ∧ (ld j).c ≤ (cg j).c)) → (∀ j, j < n → has j = false → ld j = z3) → (∀ j, j < n → worG (cg j) P ≤ c j) →
    (((List.range n).map fun j => worG (ld j) P)).sum ≤ (((List.range n).filter has).map c).sum
  | 0, _, _, _, _ => Int.le_refl _
  | n + 1, ld, h1, h2, h3 => by
    have ih := worth_le hP n ld (fun j hj => h1 j (by omega)) (fun j hj => h2 j (by omega)) (fun j hj => h3 j (by omega))
    rw [List.range_succ, List.map_append, List.filter_append, List.map_append, List.sum_append, List.sum_append]
    cases hh : has n with
    | true =>
      obtain ⟨⟨a1, a2⟩, ⟨b1, b2⟩, c1, c2⟩ := h1 n (by omega)
      have h4 := h3 n (by omega)
      have e1 := Int.mul_le_mul_of_nonneg_right a2 hP.1
      have e2 := Int.mul_le_mul_of_nonneg_right b2 hP.2.1
      have e3 := Int.mul_le_mul_of_nonneg_right c2 hP.2.2
      rw [List.filter_cons_of_pos hh]
      simp only [List.map_cons, List.map_nil, List.sum_cons, List.sum_nil, List.filter_nil]
      unfold worG at *
      omega
    | false =>
      rw [List.filter_cons_of_neg (by rw [hh]; simp)]
      simp only [List.map_cons, List.map_nil, List.sum_cons, List.sum_nil, List.filter_nil]
      rw [h2 n (by omega) hh]
      have : worG z3 P = 0 := by simp [worG, z3]
      rw [this]
      omega
theorem wor_sum (P : Gd) : ∀ l : List Gd, (l.map fun g => worG g P).sum = sumK Gd.a l * P.a + sumK Gd.b l * P.b + sumK Gd.c l * P.c
  | [] => by simp [sumK]
  | g :: l => by
    have ih := wor_sum P l
    unfold sumK at *
    simp only [List.map_cons, List.sum_cons]
    rw [ih]
    unfold worG
    rw [Int.add_mul, Int.add_mul, Int.add_mul]
    omega
theorem list_getD (l : List Gd) : (List.range l.length).map (fun j => l.getD j z3) = l := map_getD rfl
theorem floor_le {S : Sto} (K : S.Ok) {P : Gd} (hP : 0 ≤ P.a ∧ 0 ≤ P.b ∧ 0 ≤ P.c) (hf : S.fair P = true) {plan n : Nat} (hs : S.fault plan = none) (hn : n < S.wins.length) : S.floor (S.wins.getD n []) P ≤ S.cost plan := by
  have hl := (fault_none.1 hs) 0 n (by have := K.i4; omega) hn
  unfold Sto.lackO at hl
  obtain ⟨ice, hice⟩ : ∃ z, S.ices.getD 0 [] = z := ⟨_, rfl⟩
  obtain ⟨win, hwin⟩ : ∃ z, S.wins.getD n [] = z := ⟨_, rfl⟩
  rw [hice, hwin] at hl
  rw [hwin]
  have hwm : win ∈ S.wins := by
    rw [← hwin, List.getD_eq_getElem?_getD, List.getElem?_eq_getElem hn]
    exact List.getElem_mem hn
  obtain ⟨hw1, hw2⟩ := K.wins win hwm
  have hno := lackL_none.1 hl
  have ok := runN_ok K (plan := plan) (ice := ice) hw2 S.weeks.toNat
  have hk : win.length = S.weeks.toNat := by have := K.weeks; omega
  have sa := runN_sum K adds_a (plan := plan) (ice := ice) hw2 S.weeks.toNat
  have sb := runN_sum K adds_b (plan := plan) (ice := ice) hw2 S.weeks.toNat
  have sc := runN_sum K adds_c (plan := plan) (ice := ice) hw2 S.weeks.toNat
  rw [map_getD hk] at sa sb sc
  have na := sumK_no (f := Gd.a) (fun g h => h.1) hno
  have nb := sumK_no (f := Gd.b) (fun g h => h.2.1) hno
  have nc := sumK_no (f := Gd.c) (fun g h => h.2.2) hno
  have hst := ok.ld.st0
  have h0 := ok.ld.ld0
  have hlen := ok.ld.len
  obtain ⟨R, hR⟩ : ∃ z, S.runN plan ice win S.weeks.toNat = z := ⟨_, rfl⟩
  unfold Sto.run at na nb nc
  rw [hR] at sa sb sc na nb nc hst h0 hlen
  simp only at hst h0 hlen
  have hout : ∀ j, j < S.ships.length → hasB plan j = false → R.ld.getD j z3 = z3 := fun j hj hh => by
    have := lnd_out (S := S) (plan := plan) (ice := ice) (win := win) hj (.inl hh) S.weeks.toNat (by rw [hR]; exact hlen) trivial
    rw [hR] at this
    exact this
  have hcost : (R.ld.map fun g => worG g P).sum ≤ S.cost plan := by
    have := worth_le hP (cg := S.cg) (c := fun j => (S.ship j).c) (has := hasB plan) S.ships.length (fun j => R.ld.getD j z3) h0 hout fun j hj => by
      have hm : S.ship j ∈ S.ships := by
        unfold Sto.ship
        rw [List.getD_eq_getElem?_getD, List.getElem?_eq_getElem hj, Option.getD_some]
        exact List.getElem_mem hj
      unfold Sto.fair at hf
      rw [List.all_eq_true] at hf
      exact of_decide_eq_true (hf _ hm)
    refine Int.le_trans (Int.le_of_eq ?_) this
    rw [← hlen]
    conv => lhs; rw [← list_getD R.ld]
    rw [List.map_map]
    rfl
  rw [wor_sum] at hcost
  refine Int.le_trans ?_ hcost
  unfold Sto.floor Sto.miss worG needL subG minG
  simp only
  have l0 : 0 ≤ sumK Gd.a R.ld ∧ 0 ≤ sumK Gd.b R.ld ∧ 0 ≤ sumK Gd.c R.ld := by
    have key : ∀ (f : Gd → Int), (∀ j, j < S.ships.length → 0 ≤ f (R.ld.getD j z3)) → 0 ≤ sumK f R.ld := fun f h => by
      unfold sumK
      have : ∀ l : List Gd, (∀ g ∈ l, 0 ≤ f g) → 0 ≤ (l.map f).sum := by
        intro l
        induction l with
        | nil => intro _; exact Int.le_refl _
        | cons x l ih =>
          intro hx
          have h1 := ih fun g hg => hx g (List.mem_cons_of_mem _ hg)
          have h2 := hx x (List.mem_cons_self ..)
          simp only [List.map_cons, List.sum_cons]
          omega
      refine this R.ld fun g hg => ?_
      obtain ⟨j, hj, rfl⟩ := List.getElem_of_mem hg
      have := h j (by omega)
      rw [List.getD_eq_getElem?_getD, List.getElem?_eq_getElem hj] at this
      exact this
    exact ⟨key Gd.a fun j hj => (h0 j hj).1.1, key Gd.b fun j hj => (h0 j hj).2.1.1, key Gd.c fun j hj => (h0 j hj).2.2.1⟩
  have e1 := Int.mul_le_mul_of_nonneg_right (show sumK Gd.a win - min (sumK Gd.a win) S.st.a ≤ sumK Gd.a R.ld by omega) hP.1
  have e2 := Int.mul_le_mul_of_nonneg_right (show sumK Gd.b win - min (sumK Gd.b win) S.st.b ≤ sumK Gd.b R.ld by omega) hP.2.1
  have e3 := Int.mul_le_mul_of_nonneg_right (show sumK Gd.c win - min (sumK Gd.c win) S.st.c ≤ sumK Gd.c R.ld by omega) hP.2.2
  omega

/-! ### More winters, more ices -/

/-- A store whose ices and winters are among those of another one. -/
structure Harder (S T : Sto) : Prop where
  same : T.st = S.st ∧ T.yd = S.yd ∧ T.rate = S.rate ∧ T.weeks = S.weeks ∧ T.land = S.land ∧ T.ships = S.ships
  ices : ∃ l, T.ices = S.ices ++ l
  wins : ∃ l, T.wins = S.wins ++ l
theorem Harder.run {S T : Sto} (h : Harder S T) (plan : Nat) (ice : List Bool) (win : List Gd) : T.run plan ice win = S.run plan ice win := by
  obtain ⟨h1, h2, h3, h4, h5, h6⟩ := h.same
  obtain ⟨a, b, c, d, e, f, g, i⟩ := T
  obtain ⟨a', b', c', d', e', f', g', i'⟩ := S
  simp only at h1 h2 h3 h4 h5 h6
  subst h1 h2 h3 h4 h5 h6
  rfl
theorem Harder.cost {S T : Sto} (h : Harder S T) (plan : Nat) : T.cost plan = S.cost plan := by
  have h6 := h.same.2.2.2.2.2
  unfold Sto.cost Sto.ship
  rw [h6]
theorem Harder.fault {S T : Sto} (h : Harder S T) {plan : Nat} (hT : T.fault plan = none) : S.fault plan = none := by
  rw [fault_none] at hT ⊢
  intro i n hi hn
  obtain ⟨l, hl⟩ := h.ices
  obtain ⟨m, hm⟩ := h.wins
  have := hT i n (by rw [hl, List.length_append]; omega) (by rw [hm, List.length_append]; omega)
  unfold Sto.lackO at this ⊢
  rw [h.run, hl, hm, List.getD_eq_getElem?_getD, List.getElem?_append_left hi, List.getD_eq_getElem?_getD (l := S.wins ++ m), List.getElem?_append_left hn] at this
  simpa [List.getD_eq_getElem?_getD] using this
theorem Harder.best {S T : Sto} (h : Harder S T) : match T.best with
    | none => True
    | some q => ∃ p, S.best = some p ∧ S.cost p ≤ T.cost q := by
  cases hq : T.best with
  | none => trivial
  | some q =>
    obtain ⟨⟨h1, h2⟩, _⟩ := best_some hq
    have hs := h.fault h2
    rw [h.same.2.2.2.2.2] at h1
    show ∃ p, S.best = some p ∧ S.cost p ≤ T.cost q
    cases hp : S.best with
    | none => exact absurd hs (best_none hp h1)
    | some p => exact ⟨p, rfl, by rw [h.cost]; exact ((best_some hp).2 q h1 hs).1⟩
end Go.Proofs.YtijjkiogmlannaaDoor
