/- Stores: contracts of the small functions on goods. Stores: sums and differences of goods, what they are worth, when ships arrive. Stores: the least of goods, sums of lists of goods, units, the week in which a ship arrives. -/
import Derived.Test.YtijjkiogmlannaaDoorSC
namespace Go.Proofs.YtijjkiogmlannaaDoor
open Go.RowKit

abbrev gV (g : Gd) : Value := .agg #[.int .i64 g.a, .int .i64 g.b, .int .i64 g.c]
abbrev gC (g : Gd) : Array Value := #[.int .i64 g.a, .int .i64 g.b, .int .i64 g.c]
def gR (g : Gd) : List Value := [.int .i64 g.a, .int .i64 g.b, .int .i64 g.c]
abbrev GdsAt := RowAt 3 gR
def boolR (b : Bool) : List Value := [.bool b]
abbrev BlsAt := RowAt 1 boolR
theorem g_at {w : World} {b : Nat} {g : Gd} {T : TypeId} (h : w.heap[b]? = some (.cells (gC g) T (0, 0))) {k : Nat} (hk : k < 3) : w.cell? ⟨b, k, none⟩ = some (.int .i64 (g.at k)) := by
  rw [cell_of_row w b k _ T (0, 0) h]
  match k, hk with
  | 0, _ => rfl
  | 1, _ => rfl
  | 2, _ => rfl
def Gd.put (g : Gd) (k : Nat) (x : Int) : Gd := ⟨if k = 0 then x else g.a, if k = 1 then x else g.b, if k = 2 then x else g.c⟩
theorem g_put {w : World} {b : Nat} {g : Gd} {T : TypeId} (h : w.heap[b]? = some (.cells (gC g) T (0, 0))) {k : Nat} (hk : k < 3) (x : Int) : (w.setCell ⟨b, k, none⟩ (.int .i64 x)).heap[b]? = some (.cells (gC (g.put k x)) T (0, 0)) := by
  rw [blk_set h k]
  match k, hk with
  | 0, _ => rfl
  | 1, _ => rfl
  | 2, _ => rfl
def mixG (k : Nat) (n o : Gd) : Gd := ⟨if 0 < k then n.a else o.a, if 1 < k then n.b else o.b, if 2 < k then n.c else o.c⟩
theorem mixG_0 (n o : Gd) : mixG 0 n o = o := rfl
theorem mixG_3 (n o : Gd) : mixG 3 n o = n := rfl
theorem mixG_at {n o : Gd} {k : Nat} (hk : k < 3) : (mixG k n o).at k = o.at k := by
  match k, hk with
  | 0, _ => rfl
  | 1, _ => rfl
  | 2, _ => rfl
theorem mixG_put {n o : Gd} {k : Nat} (hk : k < 3) : (mixG k n o).put k (n.at k) = mixG (k + 1) n o := by
  match k, hk with
  | 0, _ => rfl
  | 1, _ => rfl
  | 2, _ => rfl
theorem amtB_at {m : Int} {g : Gd} : amtB m g = true ↔ ∀ j, j < 3 → inB 0 (g.at j) m = true := by
  rw [amtB_iff]
  simp only [inB_iff]
  constructor
  · rintro ⟨h0, h1, h2⟩ j hj
    match j, hj with
    | 0, _ => exact h0
    | 1, _ => exact h1
    | 2, _ => exact h2
  · intro h
    exact ⟨h 0 (by decide), h 1 (by decide), h 2 (by decide)⟩
theorem amtB_no {m : Int} {g : Gd} {k : Nat} (hk : k < 3) (h : inB 0 (g.at k) m = false) : amtB m g = false := by
  cases hb : amtB m g with
  | false => rfl
  | true => rw [amtB_at.1 hb k hk] at h; cases h
theorem leB_at {g h : Gd} : leB g h = true ↔ ∀ j, j < 3 → g.at j ≤ h.at j := by
  rw [leB_iff]
  constructor
  · rintro ⟨h0, h1, h2⟩ j hj
    match j, hj with
    | 0, _ => exact h0
    | 1, _ => exact h1
    | 2, _ => exact h2
  · intro h
    exact ⟨h 0 (by decide), h 1 (by decide), h 2 (by decide)⟩

set_option maxHeartbeats 400000 in
theorem from_any (a n b : Int) (w : World) :
    Calls Tryd.prog 42 #[.int .i64 a, .int .i64 n, .int .i64 b] w fun e w' => e = .returned (.bool (inB a n b)) ∧ w = w' := by
  by_cases h1 : a ≤ n <;> by_cases h3 : n ≤ b
  all_goals
    go_enter Tryd.func42, Tryd.ntmps42
    go_wp2
    go_ret
    exact ⟨by simp [inB, h1, h3], rfl⟩
set_option maxRecDepth 100000 in
set_option maxHeartbeats 2000000 in
theorem within3_any (g : Gd) (m : Int) (w : World) : Calls Tryd.prog 66 #[gV g, .int .i64 m] w fun e w' => e = .returned (.bool (amtB m g)) ∧ Below w.heap.size w w' := by
  have z0 := heap_alloc_new w (.cells (gC g) 23)
  have hb0 := (Below.refl w.heap.size w).alloc (Nat.le_refl _) (.cells (gC g) 23)
  obtain ⟨w1, hw1⟩ : ∃ z, w.alloc (.cells (gC g) 23) = z := ⟨_, rfl⟩
  rw [hw1] at z0 hb0
  have Z0 := Lib.hid z0; have HB0 := Lib.hid hb0
  clear z0 hb0
  go_enter Tryd.func66, Tryd.ntmps66
  go_wp2_with fail
  try rw [hw1]
  clear hw1
  go_loopw [6] (fun i wr => ∃ k : Nat, k ≤ 3 ∧ i = .int .i64 k ∧ (∀ j, j < k → inB 0 (g.at j) m = true) ∧ wr = w1) (fun i _ => 3 - (intOf i).toNat)
  case atStart => exact ⟨0, Nat.zero_le _, rfl, fun j hj => absurd hj (Nat.not_lt_zero _), rfl⟩
  case round =>
    obtain ⟨k, hk, rfl, hall, rfl⟩ := hrel
    have HA := Lib.hid hall
    clear hall
    by_cases hlt : k < 3
    · have c := g_at Z0.out hlt
      have k0 : (0 : Int) ≤ (k : Int) := by omega
      have k1 : (k : Int) < 3 := by omega
      obtain ⟨F, hF⟩ : ∃ z, inB 0 (g.at k) m = z := ⟨_, rfl⟩
      have HF := Lib.hid hF
      have hc := from_any 0 (g.at k) m wr
      rw [hF] at hc
      have HC := Lib.hid hc
      clear hF hc
      go_wp2_with fail
      refine HC.out.mono ?_
      rintro e w' ⟨rfl, rfl⟩
      cases F with
      | true =>
        go_wp2_with fail
        refine ⟨⟨k + 1, by omega, by go_num, fun j hj => ?_, trivial⟩, by simp [intOf]; omega⟩
        rcases Nat.lt_succ_iff_lt_or_eq.1 hj with h | rfl
        · exact HA.out j h
        · exact HF.out
      | false =>
        go_wp2_with fail
        go_ret
        exact ⟨ret_bool (amtB_no hlt HF.out).symm, HB0.out⟩
    · have hke : k = 3 := by omega
      subst hke
      have HR := Lib.hid (amtB_at.2 HA.out)
      go_wp2_with fail
      go_ret
      exact ⟨ret_bool HR.out.symm, HB0.out⟩
set_option maxHeartbeats 400000 in
theorem amount_any (g : Gd) (w : World) : Calls Tryd.prog 40 #[gV g] w fun e w' => e = .returned (.bool (amtB 1000 g)) ∧ Below w.heap.size w w' := by
  have hb0 := Lib.hid ((Below.refl w.heap.size w).alloc (Nat.le_refl _) (.cells (gC g) 23))
  go_enter Tryd.func40, Tryd.ntmps40
  go_wp2_with fail
  refine (within3_any g 1000 _).mono ?_
  rintro e w' ⟨rfl, hb⟩
  have HB := Lib.hid (hb0.out.trans (hb.mono hb0.out.size))
  clear hb
  go_wp2_with fail
  go_ret
  exact ⟨rfl, HB.out⟩
set_option maxHeartbeats 400000 in
theorem prices_any (g : Gd) (w : World) : Calls Tryd.prog 58 #[gV g] w fun e w' => e = .returned (.bool (amtB 1000000 g)) ∧ Below w.heap.size w w' := by
  have hb0 := Lib.hid ((Below.refl w.heap.size w).alloc (Nat.le_refl _) (.cells (gC g) 23))
  go_enter Tryd.func58, Tryd.ntmps58
  go_wp2_with fail
  refine (within3_any g 1000000 _).mono ?_
  rintro e w' ⟨rfl, hb⟩
  have HB := Lib.hid (hb0.out.trans (hb.mono hb0.out.size))
  clear hb
  go_wp2_with fail
  go_ret
  exact ⟨rfl, HB.out⟩
theorem two_new (w : World) (o0 o1 : Obj) : ((w.alloc o0).alloc o1).heap[w.heap.size]? = some o0 ∧ ((w.alloc o0).alloc o1).heap[w.heap.size + 1]? = some o1 ∧ Below w.heap.size w ((w.alloc o0).alloc o1) := by
  have z0 := heap_alloc_new w o0
  have z1 := heap_alloc_new (w.alloc o0) o1
  simp only [World.size_alloc] at z1
  have h1 := (Below.refl (w.alloc o0).heap.size (w.alloc o0)).alloc (Nat.le_refl _) o1
  exact ⟨(h1.block _ (Array.getElem?_eq_some_iff.1 z0).1).trans z0, z1, ((Below.refl w.heap.size w).alloc (Nat.le_refl _) o0).alloc (by simp) o1⟩
set_option maxRecDepth 100000 in
set_option maxHeartbeats 2000000 in
theorem fits_any (g h : Gd) (w : World) : Calls Tryd.prog 41 #[gV g, gV h] w fun e w' => e = .returned (.bool (leB g h)) ∧ Below w.heap.size w w' := by
  obtain ⟨z0, z1, hb0⟩ := two_new w (.cells (gC g) 23) (.cells (gC h) 23)
  obtain ⟨w1, hw1⟩ : ∃ z, (w.alloc (.cells (gC g) 23)).alloc (.cells (gC h) 23) = z := ⟨_, rfl⟩
  rw [hw1] at z0 z1 hb0
  have Z0 := Lib.hid z0; have Z1 := Lib.hid z1; have HB0 := Lib.hid hb0
  clear z0 z1 hb0
  go_enter Tryd.func41, Tryd.ntmps41
  go_wp2_with fail
  try rw [hw1]
  clear hw1
  go_loopw [6] (fun i wr => ∃ k : Nat, k ≤ 3 ∧ i = .int .i64 k ∧ (∀ j, j < k → g.at j ≤ h.at j) ∧ Below w1.heap.size w1 wr) (fun i _ => 3 - (intOf i).toNat)
  case atStart => exact ⟨0, Nat.zero_le _, rfl, fun j hj => absurd hj (Nat.not_lt_zero _), Below.refl _ _⟩
  case round =>
    obtain ⟨k, hk, rfl, hall, hbr⟩ := hrel
    have HA := Lib.hid hall; have HBR := Lib.hid hbr
    clear hall
    by_cases hlt : k < 3
    · have c0 := g_at ((hbr.block _ (heapsz Z0.out)).trans Z0.out) hlt
      have c1 := g_at ((hbr.block _ (heapsz Z1.out)).trans Z1.out) hlt
      have k0 : (0 : Int) ≤ (k : Int) := by omega
      have k1 : (k : Int) < 3 := by omega
      by_cases hle : g.at k ≤ h.at k
      · have hd : decide (h.at k < g.at k) = false := decide_eq_false (by omega)
        have hd2 : ¬ h.at k < g.at k := by omega
        have HLE := Lib.hid hle
        clear hbr hle
        go_wp2_with fail
        go_quiet (fail)
        go_wp2_with fail
        refine ⟨⟨k + 1, by omega, by go_num, fun j hj => ?_, belN HBR.out _⟩, by simp [intOf]; omega⟩
        rcases Nat.lt_succ_iff_lt_or_eq.1 hj with h | rfl
        · exact HA.out j h
        · exact HLE.out
      · have hd2 : h.at k < g.at k := by omega
        have hd : decide (h.at k < g.at k) = true := decide_eq_true hd2
        have HR : Hid (leB g h = false) := Lib.hid (by
          cases hb : leB g h with
          | false => rfl
          | true => exact absurd (leB_at.1 hb k hlt) hle)
        clear hbr hle
        go_wp2_with fail
        go_quiet (fail)
        go_wp2_with fail
        go_ret
        exact ⟨ret_bool HR.out.symm, belN (HB0.out.trans (HBR.out.mono HB0.out.size)) _⟩
    · have hke : k = 3 := by omega
      subst hke
      have HR := Lib.hid (leB_at.2 HA.out)
      clear hbr
      go_wp2_with fail
      go_ret
      exact ⟨ret_bool HR.out.symm, HB0.out.trans (HBR.out.mono HB0.out.size)⟩
end Go.Proofs.YtijjkiogmlannaaDoor

namespace Go.Proofs.YtijjkiogmlannaaDoor
open Go.RowKit

def worN (g p : Gd) : Nat → Int
  | 0 => 0
  | k + 1 => worN g p k + g.at k * p.at k
theorem worN_3 (g p : Gd) : worN g p 3 = worG g p := by
  show 0 + g.a * p.a + g.b * p.b + g.c * p.c = _
  unfold worG
  omega
theorem mul_in {x y a b : Int} (hx : 0 ≤ x ∧ x ≤ a) (hy : 0 ≤ y ∧ y ≤ b) : 0 ≤ x * y ∧ x * y ≤ a * b :=
  ⟨Int.mul_nonneg hx.1 hy.1, Int.le_trans (Int.mul_le_mul_of_nonneg_right hx.2 hy.1) (Int.mul_le_mul_of_nonneg_left hy.2 (by omega))⟩
theorem worN_in {g p : Gd} (hg : amtB 100000 g = true) (hp : amtB 1000000 p = true) : ∀ k, k ≤ 3 → 0 ≤ worN g p k ∧ worN g p k ≤ 100000000000 * (k : Int)
  | 0, _ => by simp [worN]
  | k + 1, hk => by
    have ih := worN_in hg hp k (by omega)
    have h1 := inB_iff.1 (amtB_at.1 hg k (by omega)); have h2 := inB_iff.1 (amtB_at.1 hp k (by omega))
    have h3 := mul_in h1 h2
    unfold worN
    omega
set_option maxRecDepth 100000 in
set_option maxHeartbeats 2000000 in
theorem worth_any (g p : Gd) (w : World) (hg : amtB 100000 g = true) (hp : amtB 1000000 p = true) : Calls Tryd.prog 60 #[gV g, gV p] w fun e w' => e = .returned (.int .i64 (worG g p)) ∧ Below w.heap.size w w' := by
  obtain ⟨z0, z1, hb0⟩ := two_new w (.cells (gC g) 23) (.cells (gC p) 23)
  obtain ⟨w1, hw1⟩ : ∃ z, (w.alloc (.cells (gC g) 23)).alloc (.cells (gC p) 23) = z := ⟨_, rfl⟩
  rw [hw1] at z0 z1 hb0
  have Z0 := Lib.hid z0; have Z1 := Lib.hid z1; have HB0 := Lib.hid hb0; have HG := Lib.hid hg; have HP := Lib.hid hp
  clear z0 z1 hb0 hg hp
  go_enter Tryd.func60, Tryd.ntmps60
  go_wp2_with fail
  try rw [hw1]
  clear hw1
  go_loopw [5, 7] (fun v i wr => ∃ (k : Nat) (S : Int), k ≤ 3 ∧ i = .int .i64 k ∧ v = .int .i64 S ∧ S = worN g p k ∧ Below w1.heap.size w1 wr) (fun _ i _ => 3 - (intOf i).toNat)
  case atStart => exact ⟨0, 0, Nat.zero_le _, rfl, rfl, rfl, Below.refl _ _⟩
  case round =>
    obtain ⟨k, S, hk, rfl, rfl, hS, hbr⟩ := hrel
    have HBR := Lib.hid hbr; have HS := Lib.hid hS
    by_cases hlt : k < 3
    · have c0 := g_at ((hbr.block _ (heapsz Z0.out)).trans Z0.out) hlt
      have c1 := g_at ((hbr.block _ (heapsz Z1.out)).trans Z1.out) hlt
      have k0 : (0 : Int) ≤ (k : Int) := by omega
      have k1 : (k : Int) < 3 := by omega
      have i1 := inB_iff.1 (amtB_at.1 HG.out k hlt); have i2 := inB_iff.1 (amtB_at.1 HP.out k hlt)
      have i3 := mul_in i1 i2
      have i4 := worN_in HG.out HP.out k hk
      rw [← hS] at i4
      have HN : Hid (worN g p (k + 1) = S + g.at k * p.at k) := Lib.hid (by rw [hS]; rfl)
      obtain ⟨X, hX⟩ : ∃ z, g.at k = z := ⟨_, rfl⟩
      obtain ⟨Y, hY⟩ : ∃ z, p.at k = z := ⟨_, rfl⟩
      rw [hX] at c0 i3
      rw [hY] at c1 i3
      have hn := HN.out
      rw [hX, hY] at hn
      have e1 : Value.int .i64 (wrap64 (X * Y)) = Value.int .i64 (X * Y) := by congr 1; exact w64 (by omega)
      have HE2 : Hid (wrap64 (S + X * Y) = S + X * Y) := Lib.hid (w64 (by omega))
      have HNN := Lib.hid hn
      clear hbr hS i1 i2 i3 i4 HN hn hX hY
      go_wp2_with fail
      go_quiet (fail)
      go_wp2_with fail
      exact ⟨⟨k + 1, _, by omega, by go_num, rfl, HE2.out.trans HNN.out.symm, belN HBR.out _⟩, by simp [intOf]; omega⟩
    · have hke : k = 3 := by omega
      subst hke
      have HR : Hid (S = worG g p) := Lib.hid (hS.trans (worN_3 g p))
      clear hbr hS
      go_wp2_with fail
      go_ret
      exact ⟨congrArg (fun z => Ending.returned (Value.int .i64 z)) HR.out, HB0.out.trans (HBR.out.mono HB0.out.size)⟩
theorem three_new (w : World) (o0 o1 o2 : Obj) : (((w.alloc o0).alloc o1).alloc o2).heap[w.heap.size]? = some o0 ∧ (((w.alloc o0).alloc o1).alloc o2).heap[w.heap.size + 1]? = some o1 ∧ (((w.alloc o0).alloc o1).alloc o2).heap[w.heap.size + 1 + 1]? = some o2 ∧ Below w.heap.size w (((w.alloc o0).alloc o1).alloc o2) := by
  obtain ⟨z0, z1, hb⟩ := two_new w o0 o1
  have z2 := heap_alloc_new ((w.alloc o0).alloc o1) o2
  simp only [World.size_alloc] at z2
  have h2 := (Below.refl ((w.alloc o0).alloc o1).heap.size ((w.alloc o0).alloc o1)).alloc (Nat.le_refl _) o2
  exact ⟨(h2.block _ (Array.getElem?_eq_some_iff.1 z0).1).trans z0, (h2.block _ (Array.getElem?_eq_some_iff.1 z1).1).trans z1, z2, hb.trans (h2.mono hb.size)⟩
theorem g_frz {w : World} {b k : Nat} {g : Gd} {T : TypeId} (h : w.heap[b]? = some (.cells (gC g) T (0, 0))) : w.frozen? ⟨b, k, none⟩ = false := by simp [World.frozen?, h]
theorem set_other {w : World} {b c k : Nat} {v : Value} {o : Obj} (h : w.heap[c]? = some o) (hne : c ≠ b) : (w.setCell ⟨b, k, none⟩ v).heap[c]? = some o := (Below.heap_setCell _ _ _ _ hne).trans h
/-- Goods are stored, in three cells. -/
theorem g_fill {w : World} {b : Nat} {g : Gd} {T : TypeId} (n : Gd) (h : w.heap[b]? = some (.cells (gC g) T (0, 0))) :
    (((w.setCell ⟨b, 0, none⟩ (.int .i64 n.a)).setCell ⟨b, 1, none⟩ (.int .i64 n.b)).setCell ⟨b, 2, none⟩ (.int .i64 n.c)).heap[b]? = some (.cells (gC n) T (0, 0)) := blk_set (blk_set (blk_set h 0 _) 1 _) 2 _
theorem g_cells {w : World} {b : Nat} {g : Gd} {T : TypeId} (h : w.heap[b]? = some (.cells (gC g) T (0, 0))) : w.cell? ⟨b, 0, none⟩ = some (.int .i64 g.a) ∧ w.cell? ⟨b, 1, none⟩ = some (.int .i64 g.b) ∧ w.cell? ⟨b, 2, none⟩ = some (.int .i64 g.c) :=
  ⟨g_at h (k := 0) (by decide), g_at h (k := 1) (by decide), g_at h (k := 2) (by decide)⟩
theorem bel_fill {w w' : World} {n b : Nat} {x y z : Value} (h : Below n w w') (hb : n ≤ b) : Below n w (((w'.setCell ⟨b, 0, none⟩ x).setCell ⟨b, 1, none⟩ y).setCell ⟨b, 2, none⟩ z) :=
  ((h.setCell (p := ⟨b, 0, none⟩) hb _).setCell (p := ⟨b, 1, none⟩) hb _).setCell (p := ⟨b, 2, none⟩) hb _
set_option maxRecDepth 100000 in
set_option maxHeartbeats 2000000 in
theorem less_any (g h : Gd) (w : World) (hr : ∀ k, k < 3 → -1000000000 ≤ g.at k - h.at k ∧ g.at k - h.at k ≤ 1000000000) : Calls Tryd.prog 78 #[gV g, gV h] w fun e w' => e = .returned (gV (subG g h)) ∧ Below w.heap.size w w' := by
  obtain ⟨z0, z1, z2, hb0⟩ := three_new w (.cells (gC g) 23) (.cells (gC h) 23) (.cells #[.int .i64 0, .int .i64 0, .int .i64 0] 23)
  obtain ⟨w1, hw1⟩ : ∃ z, ((w.alloc (.cells (gC g) 23)).alloc (.cells (gC h) 23)).alloc (.cells #[.int .i64 0, .int .i64 0, .int .i64 0] 23) = z := ⟨_, rfl⟩
  rw [hw1] at z0 z1 z2 hb0
  have Z0 := Lib.hid z0; have Z1 := Lib.hid z1; have Z2 := Lib.hid z2; have HB0 := Lib.hid hb0; have HR := Lib.hid hr
  have hs1 := heapsz z1; have hs2 := heapsz z2
  clear z0 z1 z2 hb0 hr
  go_enter Tryd.func78, Tryd.ntmps78
  go_wp2_with fail
  try rw [hw1]
  clear hw1
  go_loopw [6] (fun i wr => ∃ k : Nat, k ≤ 3 ∧ i = .int .i64 k ∧ Below w.heap.size w wr ∧ wr.heap[w.heap.size]? = some (.cells (gC (mixG k (subG g h) g)) 23 (0, 0)) ∧ wr.heap[w.heap.size + 1]? = some (.cells (gC h) 23 (0, 0)) ∧ wr.heap[w.heap.size + 1 + 1]? = some (.cells (gC z3) 23 (0, 0))) (fun i _ => 3 - (intOf i).toNat)
  case atStart => exact ⟨0, Nat.zero_le _, rfl, HB0.out, Z0.out, Z1.out, Z2.out⟩
  case round =>
    obtain ⟨k, hk, rfl, hbr, y0, y1, y2⟩ := hrel
    have HBR := Lib.hid hbr; have Y0 := Lib.hid y0; have Y1 := Lib.hid y1; have Y2 := Lib.hid y2
    have l0 := heapsz y0; have l1 := heapsz y1
    by_cases hlt : k < 3
    · have c0 := g_at y0 hlt
      have c1 := g_at y1 hlt
      have f0 := g_frz (k := k) y0
      rw [mixG_at hlt] at c0
      have k0 : (0 : Int) ≤ (k : Int) := by omega
      have k1 : (k : Int) < 3 := by omega
      have hb := HR.out k hlt
      have HN : Hid ((subG g h).at k = g.at k - h.at k) := Lib.hid (by match k, hlt with | 0, _ => rfl | 1, _ => rfl | 2, _ => rfl)
      have e1 : Value.int .i64 (wrap64 (g.at k - h.at k)) = Value.int .i64 (g.at k - h.at k) := by congr 1; exact w64 (by omega)
      clear hbr y0 y1 y2 hb
      go_wp2_with fail
      go_region
      go_wp2_with fail
      refine ⟨⟨k + 1, by omega, by go_num, ?_, ?_, ?_, ?_⟩, by simp [intOf]; omega⟩
      · exact (HBR.out.drew).setCell (p := ⟨w.heap.size, k, none⟩) (Nat.le_refl _) _
      · have := g_put (w := wr.drew) (show wr.drew.heap[w.heap.size]? = _ from Y0.out) hlt (g.at k - h.at k)
        rw [← HN.out, mixG_put hlt, HN.out] at this
        exact this
      · exact set_other (w := wr.drew) (show wr.drew.heap[w.heap.size + 1]? = _ from Y1.out) (by omega)
      · exact set_other (w := wr.drew) (show wr.drew.heap[w.heap.size + 1 + 1]? = _ from Y2.out) (by omega)
    · have hke : k = 3 := by omega
      subst hke
      rw [mixG_3] at Y0
      obtain ⟨c0, c1, c2⟩ := g_cells Y0.out
      obtain ⟨d0, d1, d2⟩ := g_cells Y2.out
      have f0 := g_frz (k := 0) Y2.out; have f1 := g_frz (k := 1) Y2.out; have f2 := g_frz (k := 2) Y2.out
      have HV := Lib.hid (g_fill (subG g h) Y2.out); have HBF := Lib.hid (bel_fill (b := w.heap.size + 1 + 1) (x := .int .i64 (subG g h).a) (y := .int .i64 (subG g h).b) (z := .int .i64 (subG g h).c) HBR.out (by omega))
      clear hbr y0 y1 y2 l0 l1 hs1 hs2
      go_wp2_with fail
      obtain ⟨v0, v1, v2⟩ := g_cells HV.out
      exact bodyPost_ret (v := gV (subG g h)) (by simp [results, Tryd.results78, go_sem, v0, v1, v2]) rfl ⟨rfl, HBF.out⟩
end Go.Proofs.YtijjkiogmlannaaDoor

namespace Go.Proofs.YtijjkiogmlannaaDoor
open Go.RowKit

set_option maxRecDepth 100000 in
set_option maxHeartbeats 2000000 in
theorem least_any (g h : Gd) (w : World) : Calls Tryd.prog 79 #[gV g, gV h] w fun e w' => e = .returned (gV (minG g h)) ∧ Below w.heap.size w w' := by
  obtain ⟨z0, z1, z2, hb0⟩ := three_new w (.cells (gC g) 23) (.cells (gC h) 23) (.cells #[.int .i64 0, .int .i64 0, .int .i64 0] 23)
  obtain ⟨w1, hw1⟩ : ∃ z, ((w.alloc (.cells (gC g) 23)).alloc (.cells (gC h) 23)).alloc (.cells #[.int .i64 0, .int .i64 0, .int .i64 0] 23) = z := ⟨_, rfl⟩
  rw [hw1] at z0 z1 z2 hb0
  have Z0 := Lib.hid z0; have Z1 := Lib.hid z1; have Z2 := Lib.hid z2; have HB0 := Lib.hid hb0
  clear z0 z1 z2 hb0
  go_enter Tryd.func79, Tryd.ntmps79
  go_wp2_with fail
  try rw [hw1]
  clear hw1
  go_loopw [6] (fun i wr => ∃ k : Nat, k ≤ 3 ∧ i = .int .i64 k ∧ Below w.heap.size w wr ∧ wr.heap[w.heap.size]? = some (.cells (gC (mixG k (minG g h) g)) 23 (0, 0)) ∧ wr.heap[w.heap.size + 1]? = some (.cells (gC h) 23 (0, 0)) ∧ wr.heap[w.heap.size + 1 + 1]? = some (.cells (gC z3) 23 (0, 0))) (fun i _ => 3 - (intOf i).toNat)
  case atStart => exact ⟨0, Nat.zero_le _, rfl, HB0.out, Z0.out, Z1.out, Z2.out⟩
  case round =>
    obtain ⟨k, hk, rfl, hbr, y0, y1, y2⟩ := hrel
    have HBR := Lib.hid hbr; have Y0 := Lib.hid y0; have Y1 := Lib.hid y1; have Y2 := Lib.hid y2
    have l0 := heapsz y0; have l1 := heapsz y1
    by_cases hlt : k < 3
    · have c0 := g_at y0 hlt
      have c1 := g_at y1 hlt
      have f0 := g_frz (k := k) y0
      rw [mixG_at hlt] at c0
      have k0 : (0 : Int) ≤ (k : Int) := by omega
      have k1 : (k : Int) < 3 := by omega
      have HN : Hid ((minG g h).at k = if h.at k < g.at k then h.at k else g.at k) := Lib.hid (by
        have e : (minG g h).at k = min (g.at k) (h.at k) := by match k, hlt with | 0, _ => rfl | 1, _ => rfl | 2, _ => rfl
        rw [e]
        split <;> omega)
      clear hbr y0 y1 y2
      go_wp2_with fail
      go_region
      go_wp2_with fail
      refine ⟨⟨k + 1, by omega, by go_num, ?_, ?_, ?_, ?_⟩, by simp [intOf]; omega⟩
      · exact (HBR.out.drew).setCell (p := ⟨w.heap.size, k, none⟩) (Nat.le_refl _) _
      · have := g_put (w := wr.drew) (show wr.drew.heap[w.heap.size]? = _ from Y0.out) hlt ((minG g h).at k)
        rw [mixG_put hlt, HN.out] at this
        exact this
      · exact set_other (w := wr.drew) (show wr.drew.heap[w.heap.size + 1]? = _ from Y1.out) (by omega)
      · exact set_other (w := wr.drew) (show wr.drew.heap[w.heap.size + 1 + 1]? = _ from Y2.out) (by omega)
    · have hke : k = 3 := by omega
      subst hke
      rw [mixG_3] at Y0
      obtain ⟨c0, c1, c2⟩ := g_cells Y0.out
      obtain ⟨d0, d1, d2⟩ := g_cells Y2.out
      have f0 := g_frz (k := 0) Y2.out; have f1 := g_frz (k := 1) Y2.out; have f2 := g_frz (k := 2) Y2.out
      have HV := Lib.hid (g_fill (minG g h) Y2.out); have HBF := Lib.hid (bel_fill (b := w.heap.size + 1 + 1) (x := .int .i64 (minG g h).a) (y := .int .i64 (minG g h).b) (z := .int .i64 (minG g h).c) HBR.out (by omega))
      clear hbr y0 y1 y2 l0 l1
      go_wp2_with fail
      obtain ⟨v0, v1, v2⟩ := g_cells HV.out
      exact bodyPost_ret (v := gV (minG g h)) (by simp [results, Tryd.results79, go_sem, v0, v1, v2]) rfl ⟨rfl, HBF.out⟩
set_option maxHeartbeats 400000 in
theorem units_any (g : Gd) (w : World) (hg : amtB 100000 g = true) : Calls Tryd.prog 92 #[gV g] w fun e w' => e = .returned (.int .i64 (unI g)) ∧ Below w.heap.size w w' := by
  have hb0 := Lib.hid ((Below.refl w.heap.size w).alloc (Nat.le_refl _) (.cells (gC g) 23))
  have HU : Hid (worG g ⟨1, 1, 1⟩ = unI g) := Lib.hid (by simp [worG, unI])
  have HC : Hid (∀ u : World, Calls Tryd.prog 60 #[gV g, gV ⟨1, 1, 1⟩] u fun e w' => e = .returned (.int .i64 (worG g ⟨1, 1, 1⟩)) ∧ Below u.heap.size u w') := Lib.hid fun u => worth_any g ⟨1, 1, 1⟩ u hg rfl
  rw [HU.out] at HC
  clear hg
  go_enter Tryd.func92, Tryd.ntmps92
  go_wp2_with fail
  refine (HC.out _).mono ?_
  rintro e w' ⟨rfl, hb⟩
  have HB := Lib.hid (hb0.out.trans (hb.mono hb0.out.size))
  clear hb
  go_wp2_with fail
  go_ret
  exact ⟨rfl, HB.out⟩

/-! ### Sums -/

def sumL (l : List Gd) : Gd := l.foldl addG z3
theorem sumL_take {l : List Gd} {i : Nat} {x : Gd} (h : l[i]? = some x) : sumL (l.take (i + 1)) = addG (sumL (l.take i)) x := by
  unfold sumL
  rw [List.take_add_one, h, List.foldl_append]
  rfl
theorem add_at (g h : Gd) {k : Nat} (hk : k < 3) : (addG g h).at k = g.at k + h.at k := by
  match k, hk with
  | 0, _ => rfl
  | 1, _ => rfl
  | 2, _ => rfl
theorem sumL_in {l : List Gd} (h : ∀ x ∈ l, amtB 1000 x = true) : ∀ i, i ≤ l.length → ∀ k, k < 3 → 0 ≤ (sumL (l.take i)).at k ∧ (sumL (l.take i)).at k ≤ 1000 * (i : Int)
  | 0, _, k, hk => by
    match k, hk with
    | 0, _ => exact ⟨Int.le_refl _, Int.le_refl _⟩
    | 1, _ => exact ⟨Int.le_refl _, Int.le_refl _⟩
    | 2, _ => exact ⟨Int.le_refl _, Int.le_refl _⟩
  | i + 1, hi, k, hk => by
    have ih := sumL_in h i (by omega) k hk
    have hx := List.getElem?_eq_getElem (show i < l.length by omega)
    have h1 := inB_iff.1 (amtB_at.1 (h _ (List.getElem_mem (show i < l.length by omega))) k hk)
    rw [sumL_take hx, add_at _ _ hk]
    omega
theorem gds_el {w : World} {B : Nat} {A : Option Addr} {l : List Gd} {i : Nat} {x : Gd} (h : GdsAt w B A l) (hx : l[i]? = some x) : ∃ b o, A = some ⟨b, o, none⟩ ∧ b < B ∧ w.cell? ⟨b, o + i * 3, none⟩ = some (.int .i64 x.a) ∧ w.cell? ⟨b, o + i * 3 + 1, none⟩ = some (.int .i64 x.b) ∧ w.cell? ⟨b, o + i * 3 + 2, none⟩ = some (.int .i64 x.c) := by
  obtain ⟨b, o, rfl, h1, h2⟩ := h (by intro e; rw [e] at hx; simp at hx)
  exact ⟨b, o, rfl, h1, h2 i x hx 0 _ rfl, h2 i x hx 1 _ rfl, h2 i x hx 2 _ rfl⟩
set_option maxRecDepth 100000 in
set_option maxHeartbeats 4000000 in
theorem sum_any (A : Option Addr) (n c : Nat) (l : List Gd) (w : World) (hl : l.length = n) (hn : n ≤ 100) (hx : ∀ x ∈ l, amtB 1000 x = true) (hA : GdsAt w w.heap.size A l) : Calls Tryd.prog 77 #[.slice A n c] w fun e w' => e = .returned (gV (sumL l)) ∧ Below w.heap.size w w' := by
  obtain ⟨z0, z1, hb0⟩ := two_new w (.cells #[.int .i64 0, .int .i64 0, .int .i64 0] 23) (.cells #[.int .i64 0, .int .i64 0, .int .i64 0] 23)
  obtain ⟨w1, hw1⟩ : ∃ z, (w.alloc (.cells #[.int .i64 0, .int .i64 0, .int .i64 0] 23)).alloc (.cells #[.int .i64 0, .int .i64 0, .int .i64 0] 23) = z := ⟨_, rfl⟩
  rw [hw1] at z0 z1 hb0
  have Z0 := Lib.hid z0; have Z1 := Lib.hid z1; have HB0 := Lib.hid hb0; have HL := Lib.hid hl; have HX := Lib.hid hx; have HA := Lib.hid hA
  clear z0 z1 hb0 hl hx hA
  go_enter Tryd.func77, Tryd.ntmps77
  go_wp2_with fail
  try rw [hw1]
  clear hw1
  go_loopw [9] (fun i wr => ∃ k : Nat, k ≤ n ∧ i = .int .i64 k ∧ Below w.heap.size w wr ∧ wr.heap[w.heap.size]? = some (.cells (gC z3) 23 (0, 0)) ∧ wr.heap[w.heap.size + 1]? = some (.cells (gC (sumL (l.take k))) 23 (0, 0))) (fun i _ => n - (intOf i).toNat)
  case atStart => exact ⟨0, Nat.zero_le _, rfl, HB0.out, Z0.out, Z1.out⟩
  case round =>
    obtain ⟨i, hi, rfl, hbr, y0, y1⟩ := hrel
    have HBR := Lib.hid hbr; have Y0 := Lib.hid y0; have Y1 := Lib.hid y1
    by_cases hlt : i < n
    · obtain ⟨x, hx⟩ := get_of_lt (l := l) (k := i) (by rw [HL.out]; exact hlt)
      obtain ⟨b, o, rfl, hb, c0, c1, c2⟩ := gds_el HA.out hx
      replace c0 := ((bcell hbr).1 _ _ hb).trans c0
      replace c1 := ((bcell hbr).1 _ _ hb).trans c1
      replace c2 := ((bcell hbr).1 _ _ hb).trans c2
      have HXX := Lib.hid hx
      have i0 : (0 : Int) ≤ (i : Int) := by omega
      have i1 : (i : Int) < (n : Int) := by omega
      have hv := heap_alloc_new wr (.cells (gC x) 23)
      have hbi := (Below.refl wr.heap.size wr).alloc (Nat.le_refl _) (.cells (gC x) 23)
      obtain ⟨wi, hwi⟩ : ∃ z, wr.alloc (.cells (gC x) 23) = z := ⟨_, rfl⟩
      rw [hwi] at hv hbi
      have HV := Lib.hid hv; have HBI := Lib.hid (HBR.out.trans (hbi.mono HBR.out.size)); have Y0' := Lib.hid ((hbi.block _ (heapsz y0)).trans y0); have Y1' := Lib.hid ((hbi.block _ (heapsz y1)).trans y1)
      have hne : w.heap.size + 1 < wr.heap.size := heapsz y1
      have HS := Lib.hid (sumL_in HX.out i (by rw [HL.out]; omega))
      have HXI := Lib.hid (amtB_at.1 (HX.out x (List.mem_of_getElem? hx)))
      clear hbr y0 y1 hx hb hv hbi
      go_wp2_with fail
      try rw [hwi]
      obtain ⟨bx, hbx⟩ : ∃ z, wr.heap.size = z := ⟨_, rfl⟩
      rw [hbx] at HV hne
      try rw [hbx]
      obtain ⟨S, hS⟩ : ∃ z, sumL (l.take i) = z := ⟨_, rfl⟩
      have HS2 := HS.out
      rw [hS] at Y1' HS2
      have HSS := Lib.hid HS2; have HSE := Lib.hid hS
      clear hwi hbx c0 c1 c2 Y0 Y1 HBR HS HS2 hS
      go_loopw [13] (fun v wq => ∃ k : Nat, k ≤ 3 ∧ v = .int .i64 k ∧ Below w.heap.size w wq ∧ wq.heap[w.heap.size]? = some (.cells (gC z3) 23 (0, 0)) ∧ wq.heap[w.heap.size + 1]? = some (.cells (gC (mixG k (addG S x) S)) 23 (0, 0)) ∧ wq.heap[bx]? = some (.cells (gC x) 23 (0, 0))) (fun v _ => 3 - (intOf v).toNat)
      case atStart => exact ⟨0, Nat.zero_le _, rfl, HBI.out, Y0'.out, Y1'.out, HV.out⟩
      case round =>
        obtain ⟨k, hk, rfl, hbr, y0, y1, y2⟩ := hrel
        have HBR := Lib.hid hbr; have Y0 := Lib.hid y0; have Y1 := Lib.hid y1; have Y2 := Lib.hid y2
        have l1 := heapsz y1; have l2 := heapsz y2
        by_cases hltk : k < 3
        · have c0 := g_at y1 hltk
          have c1 := g_at y2 hltk
          have f0 := g_frz (k := k) y1
          rw [mixG_at hltk] at c0
          have k0 : (0 : Int) ≤ (k : Int) := by omega
          have k1 : (k : Int) < 3 := by omega
          have b1 := HSS.out k hltk; have b2 := inB_iff.1 (HXI.out k hltk)
          have HN := Lib.hid (add_at S x hltk)
          have e1 : Value.int .i64 (wrap64 (S.at k + x.at k)) = Value.int .i64 (S.at k + x.at k) := by congr 1; exact w64 (by omega)
          clear hbr y0 y1 y2 b1 b2
          go_wp2_with fail
          go_region
          go_wp2_with fail
          refine ⟨⟨k + 1, by omega, by go_num, ?_, ?_, ?_, ?_⟩, by simp [intOf]; omega⟩
          · exact (HBR.out.drew).setCell (p := ⟨w.heap.size + 1, k, none⟩) (by show _ ≤ w.heap.size + 1; omega) _
          · exact set_other (w := wr.drew) (show wr.drew.heap[w.heap.size]? = _ from Y0.out) (by omega)
          · have := g_put (w := wr.drew) (show wr.drew.heap[w.heap.size + 1]? = _ from Y1.out) hltk ((addG S x).at k)
            rw [mixG_put hltk, HN.out] at this
            exact this
          · exact set_other (w := wr.drew) (show wr.drew.heap[bx]? = _ from Y2.out) (by omega)
        · have hke : k = 3 := by omega
          subst hke
          rw [mixG_3] at Y1
          have HT := Lib.hid (sumL_take HXX.out)
          rw [HSE.out] at HT
          clear hbr y0 y1 y2 l1 l2
          go_wp2_with fail
          exact ⟨⟨i + 1, by omega, by go_num, HBR.out, Y0.out, by rw [HT.out]; exact Y1.out⟩, by simp [intOf]; omega⟩
    · have hke : i = n := by omega
      have i1 : ¬ (i : Int) < (n : Int) := by omega
      have HT : Hid (sumL (l.take i) = sumL l) := Lib.hid (by rw [List.take_of_length_le (by rw [HL.out]; omega)])
      rw [HT.out] at Y1
      obtain ⟨c0, c1, c2⟩ := g_cells Y1.out
      obtain ⟨d0, d1, d2⟩ := g_cells Y0.out
      have f0 := g_frz (k := 0) Y0.out; have f1 := g_frz (k := 1) Y0.out; have f2 := g_frz (k := 2) Y0.out
      have HV := Lib.hid (g_fill (sumL l) Y0.out); have HBF := Lib.hid (bel_fill (b := w.heap.size) (x := .int .i64 (sumL l).a) (y := .int .i64 (sumL l).b) (z := .int .i64 (sumL l).c) HBR.out (Nat.le_refl _))
      clear hbr y0 y1 hke
      go_wp2_with fail
      obtain ⟨v0, v1, v2⟩ := g_cells HV.out
      exact bodyPost_ret (v := gV (sumL l)) (by simp [results, Tryd.results77, go_sem, v0, v1, v2]) rfl ⟨rfl, HBF.out⟩

/-! ### Ships -/

abbrev sV (s : Shp) : Value := .agg #[.int .i64 s.w, .int .i64 s.g.a, .int .i64 s.g.b, .int .i64 s.g.c, .int .i64 s.c]
abbrev sC (s : Shp) : Array Value := #[.int .i64 s.w, .int .i64 s.g.a, .int .i64 s.g.b, .int .i64 s.g.c, .int .i64 s.c]
def shR (s : Shp) : List Value := [.int .i64 s.w, .int .i64 s.g.a, .int .i64 s.g.b, .int .i64 s.g.c, .int .i64 s.c]
abbrev ShsAt := RowAt 5 shR
theorem bls_el {w : World} {B : Nat} {A : Option Addr} {l : List Bool} {i : Nat} {x : Bool} (h : BlsAt w B A l) (hx : l[i]? = some x) : ∃ b o, A = some ⟨b, o, none⟩ ∧ b < B ∧ w.cell? ⟨b, o + i, none⟩ = some (.bool x) := by
  obtain ⟨b, o, rfl, h1, h2⟩ := h (by intro e; rw [e] at hx; simp at hx)
  exact ⟨b, o, rfl, h1, by simpa using h2 i x hx 0 _ rfl⟩
set_option maxRecDepth 100000 in
set_option maxHeartbeats 4000000 in
theorem arrival_nat (f : Nat) (g : Gd) (co : Int) (A : Option Addr) (n c : Nat) (ice : List Bool) (w : World) (hl : ice.length = n) (hn : n ≤ maxLen) (_hf2 : f ≤ 1000) (hA : BlsAt w w.heap.size A ice) :
    Calls Tryd.prog 81 #[sV ⟨f, g, co⟩, .slice A n c] w fun e w' => e = .returned (.int .i64 (arrI ice f)) ∧ Below w.heap.size w w' := by
  have z0 := heap_alloc_new w (.cells (sC ⟨f, g, co⟩) 44)
  have hb0 := (Below.refl w.heap.size w).alloc (Nat.le_refl _) (.cells (sC ⟨f, g, co⟩) 44)
  obtain ⟨w1, hw1⟩ : ∃ z, w.alloc (.cells (sC ⟨f, g, co⟩) 44) = z := ⟨_, rfl⟩
  rw [hw1] at z0 hb0
  have HB0 := Lib.hid hb0; have HL := Lib.hid hl; have HA := Lib.hid hA
  have c0 := cell_of_row w1 w.heap.size 0 _ 44 (0, 0) z0
  simp at c0
  unfold maxLen at hn
  clear z0 hb0 hl hA
  go_enter Tryd.func81, Tryd.ntmps81
  go_wp2_with fail
  try rw [hw1]
  clear hw1 c0
  go_loopw [5] (fun v wr => ∃ k : Nat, f ≤ k ∧ (k ≤ n ∨ k = f) ∧ v = .int .i64 k ∧ (∀ j, f ≤ j → j < k → ice.getD j false = false) ∧ wr = w1) (fun v _ => n - (intOf v).toNat)
  case atStart => exact ⟨f, Nat.le_refl _, .inr rfl, rfl, fun j h1 h2 => absurd h2 (by omega), rfl⟩
  case round =>
    obtain ⟨k, hk1, hk2, rfl, hall, rfl⟩ := hrel
    have HAL := Lib.hid hall
    clear hall
    by_cases hlt : k < n
    · obtain ⟨x, hx⟩ := get_of_lt (l := ice) (k := k) (by rw [HL.out]; exact hlt)
      obtain ⟨b, o, rfl, hb, c0⟩ := bls_el HA.out hx
      replace c0 := ((bcell HB0.out).1 _ _ hb).trans c0
      have k0 : (0 : Int) ≤ (k : Int) := by omega
      have k1 : (k : Int) < (n : Int) := by omega
      have HG : Hid (ice.getD k false = x) := Lib.hid (by rw [List.getD_eq_getElem?_getD, hx]; rfl)
      clear hx hb
      cases x with
      | true =>
        have HR := Lib.hid (arr_found (ice := ice) (f := f) (k := k) (by rw [HL.out]; exact hlt) hk1 HG.out HAL.out)
        go_wp2_with fail
        try rw [Exit.noGoto_ret]
        go_ret
        exact ⟨congrArg (fun z => Ending.returned (Value.int .i64 z)) HR.out.symm, HB0.out⟩
      | false =>
        go_wp2_with fail
        refine ⟨⟨k + 1, by omega, .inl (by omega), by go_num, fun j h1 h2 => ?_, trivial⟩, by simp [intOf]; omega⟩
        rcases Nat.lt_succ_iff_lt_or_eq.1 h2 with h | rfl
        · exact HAL.out j h1 h
        · exact HG.out
    · have k1 : ¬ (k : Int) < (n : Int) := by omega
      have HR := Lib.hid (arr_none (ice := ice) (f := f) fun j h1 h2 => HAL.out j h1 (by rw [HL.out] at h2; omega))
      go_wp2_with fail
      go_ret
      exact ⟨congrArg (fun z => Ending.returned (Value.int .i64 z)) HR.out.symm, HB0.out⟩
theorem arrival_any (s : Shp) (A : Option Addr) (n c : Nat) (ice : List Bool) (w : World) (hl : ice.length = n) (hn : n ≤ maxLen) (hs : 0 ≤ s.w ∧ s.w ≤ 1000) (hA : BlsAt w w.heap.size A ice) :
    Calls Tryd.prog 81 #[sV s, .slice A n c] w fun e w' => e = .returned (.int .i64 (arrI ice s.w.toNat)) ∧ Below w.heap.size w w' := by
  obtain ⟨sw, g, co⟩ := s
  obtain ⟨f, rfl⟩ : ∃ f : Nat, sw = (f : Int) := ⟨sw.toNat, by simp only at hs; omega⟩
  exact arrival_nat f g co A n c ice w hl hn (by simp only at hs; omega) hA
end Go.Proofs.YtijjkiogmlannaaDoor
