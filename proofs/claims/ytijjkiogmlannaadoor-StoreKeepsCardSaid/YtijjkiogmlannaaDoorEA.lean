/- Stores: traces that are equal, what is lacking first, by the statements' package. -/
import Derived.Test.YtijjkiogmlannaaDoorDA
namespace Go.Proofs.YtijjkiogmlannaaDoor
open Go.RowKit

/-- What is told of a run. -/
structure Tr where
  A1 : Option Addr
  n1 : Nat
  c1 : Nat
  l1 : List Gd
  A2 : Option Addr
  n2 : Nat
  c2 : Nat
  l2 : List Gd
  A3 : Option Addr
  n3 : Nat
  c3 : Nat
  l3 : List Gd
abbrev Tr.C (t : Tr) : Array Value := #[.slice t.A1 t.n1 t.c1, .slice t.A2 t.n2 t.c2, .slice t.A3 t.n3 t.c3]
abbrev Tr.v (t : Tr) : Value := .agg #[.slice t.A1 t.n1 t.c1, .slice t.A2 t.n2 t.c2, .slice t.A3 t.n3 t.c3]
structure Tr.In (t : Tr) (w : World) : Prop where
  e1 : t.l1.length = t.n1
  m1 : t.n1 ≤ maxLen
  g1 : GdsAt w w.heap.size t.A1 t.l1
  e2 : t.l2.length = t.n2
  m2 : t.n2 ≤ maxLen
  g2 : GdsAt w w.heap.size t.A2 t.l2
  e3 : t.l3.length = t.n3
  m3 : t.n3 ≤ maxLen
  g3 : GdsAt w w.heap.size t.A3 t.l3
theorem Tr.In.up {t : Tr} {w w' : World} (h : t.In w) (hb : Below w.heap.size w w') : t.In w' := ⟨h.e1, h.m1, RowAt.up (k := 3) (R := gR) h.g1 hb, h.e2, h.m2, RowAt.up (k := 3) (R := gR) h.g2 hb, h.e3, h.m3, RowAt.up (k := 3) (R := gR) h.g3 hb⟩
def trB (s t : Tr) : Bool := decide (s.l1 = t.l1) && (decide (s.l2 = t.l2) && decide (s.l3 = t.l3))
theorem tr_box {w : World} {B : Nat} {t : Tr} {T : TypeId} (z : w.heap[B]? = some (.cells t.C T (0, 0))) : w.cell? ⟨B, 0, none⟩ = some (.slice t.A1 t.n1 t.c1) ∧ w.cell? ⟨B, 1, none⟩ = some (.slice t.A2 t.n2 t.c2) ∧ w.cell? ⟨B, 2, none⟩ = some (.slice t.A3 t.n3 t.c3) := by
  have p := fun k => cell_of_row w B k _ T (0, 0) z
  exact ⟨p 0, p 1, p 2⟩
set_option maxRecDepth 100000 in
set_option maxHeartbeats 4000000 in
theorem sameTrace_any {s t : Tr} {w : World} (hs : s.In w) (ht : t.In w) : Calls Tryd.prog 20 #[s.v, t.v] w fun e w' => e = .returned (.bool (trB s t)) ∧ Below w.heap.size w w' := by
  obtain ⟨z0, z1, hb0⟩ := two_new w (.cells s.C 35) (.cells t.C 35)
  obtain ⟨w1, hw1⟩ : ∃ z, (w.alloc (.cells s.C 35)).alloc (.cells t.C 35) = z := ⟨_, rfl⟩
  obtain ⟨p0, p1, p2⟩ := tr_box z0
  obtain ⟨q0, q1, q2⟩ := tr_box z1
  rw [hw1] at z0 z1 hb0
  have HS := Lib.hid (hs.up hb0); have HT := Lib.hid (ht.up hb0)
  have HB0 := Lib.hid hb0; have HW1 := Lib.hid hw1; have Z0 := Lib.hid z0; have Z1 := Lib.hid z1
  obtain ⟨b1, hb1⟩ : ∃ z, decide (s.l1 = t.l1) = z := ⟨_, rfl⟩
  obtain ⟨b2, hb2⟩ : ∃ z, decide (s.l2 = t.l2) = z := ⟨_, rfl⟩
  obtain ⟨b3, hb3⟩ : ∃ z, decide (s.l3 = t.l3) = z := ⟨_, rfl⟩
  have HR : Hid (trB s t = (b1 && (b2 && b3))) := Lib.hid (by unfold trB; rw [hb1, hb2, hb3])
  have K1 : Hid (∀ u, Below w1.heap.size w1 u → Calls Tryd.prog 39 #[.slice s.A1 s.n1 s.c1, .slice t.A1 t.n1 t.c1] u fun e w' => e = .returned (.bool b1) ∧ Below u.heap.size u w') := Lib.hid fun u hu => by
    have a := HS.out.up hu; have b := HT.out.up hu
    rw [← hb1]; exact sameGoods_any _ _ _ _ _ _ _ _ u a.e1 b.e1 a.m1 b.m1 a.g1 b.g1
  have K2 : Hid (∀ u, Below w1.heap.size w1 u → Calls Tryd.prog 39 #[.slice s.A2 s.n2 s.c2, .slice t.A2 t.n2 t.c2] u fun e w' => e = .returned (.bool b2) ∧ Below u.heap.size u w') := Lib.hid fun u hu => by
    have a := HS.out.up hu; have b := HT.out.up hu
    rw [← hb2]; exact sameGoods_any _ _ _ _ _ _ _ _ u a.e2 b.e2 a.m2 b.m2 a.g2 b.g2
  have K3 : Hid (∀ u, Below w1.heap.size w1 u → Calls Tryd.prog 39 #[.slice s.A3 s.n3 s.c3, .slice t.A3 t.n3 t.c3] u fun e w' => e = .returned (.bool b3) ∧ Below u.heap.size u w') := Lib.hid fun u hu => by
    have a := HS.out.up hu; have b := HT.out.up hu
    rw [← hb3]; exact sameGoods_any _ _ _ _ _ _ _ _ u a.e3 b.e3 a.m3 b.m3 a.g3 b.g3
  clear hs ht z0 z1 hb0 hw1 hb1 hb2 hb3
  go_enter Tryd.func20, Tryd.ntmps20
  go_wp2_with fail
  rw [HW1.out]
  refine (K1.out _ (Below.refl _ _)).mono ?_
  rintro e w2 ⟨rfl, hb⟩
  have HB2 := Lib.hid hb
  obtain ⟨x0, x1, x2⟩ := tr_box ((hb.block _ (heapsz Z0.out)).trans Z0.out)
  obtain ⟨y0, y1, y2⟩ := tr_box ((hb.block _ (heapsz Z1.out)).trans Z1.out)
  clear hb p0 p1 p2 q0 q1 q2
  cases b1 with
  | false =>
    go_wp2_with fail
    go_ret
    exact ⟨by rw [HR.out]; rfl, HB0.out.trans (HB2.out.mono HB0.out.size)⟩
  | true =>
    go_wp2_with fail
    refine (K2.out _ HB2.out).mono ?_
    rintro e w3 ⟨rfl, hb⟩
    have HB3 := Lib.hid (HB2.out.trans (hb.mono HB2.out.size))
    clear hb x0 x1 x2 y0 y1 y2
    obtain ⟨x0, x1, x2⟩ := tr_box ((HB3.out.block _ (heapsz Z0.out)).trans Z0.out)
    obtain ⟨y0, y1, y2⟩ := tr_box ((HB3.out.block _ (heapsz Z1.out)).trans Z1.out)
    cases b2 with
    | false =>
      go_wp2_with fail
      go_ret
      exact ⟨by rw [HR.out]; rfl, HB0.out.trans (HB3.out.mono HB0.out.size)⟩
    | true =>
      go_wp2_with fail
      refine (K3.out _ HB3.out).mono ?_
      rintro e w4 ⟨rfl, hb⟩
      have HB4 := Lib.hid (HB3.out.trans (hb.mono HB3.out.size))
      clear hb
      go_wp2_with fail
      go_ret
      exact ⟨by rw [HR.out]; rfl, HB0.out.trans (HB4.out.mono HB0.out.size)⟩
theorem lackG_lt {g : Gd} {k : Nat} (h : ∀ j, j < k → g.at j ≤ 0) (hk : k < 3) (hp : 0 < g.at k) : lackG g = some k := by
  unfold lackG
  match k, hk with
  | 0, _ => exact if_pos hp
  | 1, _ => rw [if_neg (by have := h 0 (by omega); simp only [Gd.at] at this; omega)]; exact if_pos hp
  | 2, _ => rw [if_neg (by have := h 0 (by omega); simp only [Gd.at] at this; omega), if_neg (by have := h 1 (by omega); simp only [Gd.at] at this; omega)]; exact if_pos hp
theorem lackG_no {g : Gd} (h : ∀ j, j < 3 → g.at j ≤ 0) : lackG g = none := by
  have h0 := h 0 (by omega); have h1 := h 1 (by omega); have h2 := h 2 (by omega)
  simp only [Gd.at] at h0 h1 h2
  exact lackG_none.2 ⟨h0, h1, h2⟩
def lkT : Option (Nat × Nat) → Value
  | none => .tuple #[.int .i64 0, .int .i64 0, .bool false]
  | some (w, k) => .tuple #[.int .i64 (w : Int), .int .i64 (k : Int), .bool true]
set_option maxRecDepth 100000 in
set_option maxHeartbeats 4000000 in
theorem rlack_any (A : Option Addr) (n c : Nat) (l : List Gd) (w : World) (hl : l.length = n) (hn : n ≤ maxLen) (hA : GdsAt w w.heap.size A l) : Calls Tryd.prog 56 #[.slice A n c] w fun e w' => e = .returned (lkT (lackL l)) ∧ w = w' := by
  have HL := Lib.hid hl; have HA := Lib.hid hA
  unfold maxLen at hn
  clear hA hl
  go_enter Tryd.func56, Tryd.ntmps56
  go_wp2_with fail
  go_loopw [5] (fun i wr => ∃ k : Nat, k ≤ n ∧ i = .int .i64 k ∧ (∀ v, v < k → noG (l.getD v z3)) ∧ w = wr) (fun i _ => n - (intOf i).toNat)
  case atStart => exact ⟨0, Nat.zero_le _, rfl, fun v hv => absurd hv (by omega), rfl⟩
  case round =>
    obtain ⟨k, hk, rfl, hno, rfl⟩ := hrel
    have HNO := Lib.hid hno
    clear hno
    by_cases hlt : k < n
    · have k0 : (0 : Int) ≤ (k : Int) := by omega
      have k1 : (k : Int) < (n : Int) := by omega
      obtain ⟨g, hg⟩ := get_of_lt (l := l) (k := k) (by rw [HL.out]; exact hlt)
      have HGD : Hid (l.getD k z3 = g) := Lib.hid (by rw [List.getD_eq_getElem?_getD, hg]; rfl)
      obtain ⟨b, o, rfl, hb, hat⟩ := gds_at HA.out hg
      have HAT := Lib.hid hat
      clear hat hg hb
      go_wp2_with fail
      go_loopw [6] (fun j wq => ∃ m : Nat, m ≤ 3 ∧ j = .int .i64 m ∧ (∀ v, v < m → g.at v ≤ 0) ∧ w = wq) (fun j _ => 3 - (intOf j).toNat)
      case atStart => exact ⟨0, by omega, rfl, fun v hv => absurd hv (by omega), rfl⟩
      case round =>
        obtain ⟨m, hm, rfl, hall, rfl⟩ := hrel
        have HALL := Lib.hid hall
        clear hall
        by_cases hm3 : m < 3
        · have m0 : (0 : Int) ≤ (m : Int) := by omega
          have m1 : (m : Int) < 3 := by omega
          have hc := HAT.out m hm3
          obtain ⟨Y, hY⟩ : ∃ z, g.at m = z := ⟨_, rfl⟩
          rw [hY] at hc
          have HY := Lib.hid hY
          clear hY
          by_cases hp : Y > 0
          · have HP : Hid (lackL l = some (k, m)) := Lib.hid (lackL_at (by rw [HL.out]; exact hlt) (by rw [HGD.out]; exact lackG_lt HALL.out hm3 (by rw [HY.out]; exact hp)) HNO.out)
            have hp2 : 0 < Y := hp
            go_wp2_with fail
            exact bodyPost_ret (v := .tuple #[.int .i64 (k : Int), .int .i64 (m : Int), .bool true]) (by simp [results, Tryd.results56, go_sem]) rfl ⟨by rw [HP.out]; rfl, rfl⟩
          · have hp2 : ¬ 0 < Y := hp
            go_wp2_with fail
            exact ⟨⟨m + 1, by omega, by go_num, fun v hv => by
              by_cases e : v = m
              · rw [e, HY.out]; omega
              · exact HALL.out v (by omega), trivial⟩, by simp [intOf]; omega⟩
        · have m3 : m = 3 := by omega
          subst m3
          have HN2 : Hid (noG (l.getD k z3)) := Lib.hid (lackG_none.1 (by rw [HGD.out]; exact lackG_no HALL.out))
          go_wp2_with fail
          exact ⟨⟨k + 1, by omega, by go_num, fun v hv => by
            by_cases e : v = k
            · rw [e]; exact HN2.out
            · exact HNO.out v (by omega), trivial⟩, by simp [intOf]; omega⟩
    · have hkn : k = n := by omega
      have k1 : ¬ (k : Int) < (n : Int) := by omega
      subst hkn
      have HE : Hid (lackL l = none) := Lib.hid (lackL_none.2 fun g hg => by
        obtain ⟨j, hj⟩ := List.mem_iff_getElem?.1 hg
        have hjl := (List.getElem?_eq_some_iff.1 hj).1
        have := HNO.out j (by rw [← HL.out]; exact hjl)
        rw [List.getD_eq_getElem?_getD, hj] at this
        exact this)
      go_wp2_with fail
      exact bodyPost_ret (v := .tuple #[.int .i64 0, .int .i64 0, .bool false]) (by simp [results, Tryd.results56, go_sem]) rfl ⟨by rw [HE.out]; rfl, rfl⟩
end Go.Proofs.YtijjkiogmlannaaDoor
