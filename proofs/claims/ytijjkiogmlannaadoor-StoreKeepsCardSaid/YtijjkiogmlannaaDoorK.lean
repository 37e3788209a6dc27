/- Stores: ships, plans and stores that are as defined, by the statements' package; short lists. Stores: what a plan has, when ships arrive, short lists, by the statements' package; fair prices. Stores: which ones are as defined, and which ones have short lists, by the statements' package. -/
import Derived.Test.YtijjkiogmlannaaDoorH
namespace Go.Proofs.YtijjkiogmlannaaDoor
open Go.RowKit

set_option maxRecDepth 100000 in
set_option maxHeartbeats 1000000 in
theorem rprices_any (g : Gd) (w : World) : Calls Tryd.prog 32 #[gV g] w fun e w' => e = .returned (.bool (amtB 1000000 g)) ∧ Below w.heap.size w w' := by
  have z0 := heap_alloc_new w (.cells (gC g) 23)
  have HB := Lib.hid ((Below.refl w.heap.size w).alloc (Nat.le_refl _) (.cells (gC g) 23))
  obtain ⟨c0, c1, c2⟩ := g_cells z0
  rw [amtB_inB]
  obtain ⟨F1, hF1⟩ : ∃ z, inB 0 g.a 1000000 = z := ⟨_, rfl⟩
  obtain ⟨F2, hF2⟩ : ∃ z, inB 0 g.b 1000000 = z := ⟨_, rfl⟩
  obtain ⟨F3, hF3⟩ : ∃ z, inB 0 g.c 1000000 = z := ⟨_, rfl⟩
  have K1 : Hid (∀ u, Calls Tryd.prog 49 #[.int .i64 g.a, .int .i64 0, .int .i64 1000000] u fun e w' => e = .returned (.bool F1) ∧ u = w') := Lib.hid fun u => by rw [← hF1]; exact rin_any _ _ _ u
  have K2 : Hid (∀ u, Calls Tryd.prog 49 #[.int .i64 g.b, .int .i64 0, .int .i64 1000000] u fun e w' => e = .returned (.bool F2) ∧ u = w') := Lib.hid fun u => by rw [← hF2]; exact rin_any _ _ _ u
  have K3 : Hid (∀ u, Calls Tryd.prog 49 #[.int .i64 g.c, .int .i64 0, .int .i64 1000000] u fun e w' => e = .returned (.bool F3) ∧ u = w') := Lib.hid fun u => by rw [← hF3]; exact rin_any _ _ _ u
  rw [hF1, hF2, hF3]
  clear hF1 hF2 hF3 z0
  go_enter Tryd.func32, Tryd.ntmps32
  go_wp2_with fail
  refine (K1.out _).mono ?_
  rintro e w' ⟨rfl, rfl⟩
  cases F1 with
  | false =>
    go_wp2_with fail
    go_ret
    exact ⟨rfl, HB.out⟩
  | true =>
    go_wp2_with fail
    refine (K2.out _).mono ?_
    rintro e w' ⟨rfl, rfl⟩
    cases F2 with
    | false =>
      go_wp2_with fail
      go_ret
      exact ⟨rfl, HB.out⟩
    | true =>
      go_wp2_with fail
      refine (K3.out _).mono ?_
      rintro e w' ⟨rfl, rfl⟩
      go_wp2_with fail
      go_ret
      exact ⟨ret_bool (by cases F3 <;> rfl), HB.out⟩
set_option maxRecDepth 100000 in
set_option maxHeartbeats 4000000 in
theorem rships_any (A : Option Addr) (n c : Nat) (l : List Shp) (w : World) (hl : l.length = n) (hn : n ≤ maxLen) (hA : ShsAt w w.heap.size A l) :
    Calls Tryd.prog 50 #[.slice A n c] w fun e w' => e = .returned (.bool (l.all shpB)) ∧ Below w.heap.size w w' := by
  have HL := Lib.hid hl; have HA := Lib.hid hA; have HB0 := Lib.hid (Below.refl w.heap.size w)
  unfold maxLen at hn
  clear hl hA
  go_enter Tryd.func50, Tryd.ntmps50
  go_wp2_with fail
  go_loopw [3] (fun i wr => ∃ k : Nat, k ≤ n ∧ i = .int .i64 k ∧ (∀ j x, j < k → l[j]? = some x → shpB x = true) ∧ Below w.heap.size w wr) (fun i _ => n - (intOf i).toNat)
  case atStart => exact ⟨0, Nat.zero_le _, rfl, fun j _ hj => absurd hj (Nat.not_lt_zero _), HB0.out⟩
  case round =>
    obtain ⟨i, hi, rfl, hall, hbr⟩ := hrel
    have HBR := Lib.hid hbr; have HAL := Lib.hid hall
    clear hall
    by_cases hlt : i < n
    · obtain ⟨x, hx⟩ := get_of_lt (l := l) (k := i) (by rw [HL.out]; exact hlt)
      obtain ⟨b, o, rfl, hb, c0, c1, c2, c3, c4⟩ := sh_el HA.out hx
      replace c0 := ((bcell hbr).1 _ _ hb).trans c0
      replace c1 := ((bcell hbr).1 _ _ hb).trans c1
      replace c2 := ((bcell hbr).1 _ _ hb).trans c2
      replace c3 := ((bcell hbr).1 _ _ hb).trans c3
      replace c4 := ((bcell hbr).1 _ _ hb).trans c4
      have HX := Lib.hid hx; have HBB := Lib.hid hb; have HC4 := Lib.hid c4
      have i0 : (0 : Int) ≤ (i : Int) := by omega
      have i1 : (i : Int) < (n : Int) := by omega
      clear hbr hx hb
      obtain ⟨F1, hF1⟩ : ∃ z, inB 0 x.w 7 = z := ⟨_, rfl⟩
      obtain ⟨F2, hF2⟩ : ∃ z, amtB 1000 x.g = z := ⟨_, rfl⟩
      obtain ⟨F3, hF3⟩ : ∃ z, inB 0 x.c 1000000 = z := ⟨_, rfl⟩
      have HSB : Hid (shpB x = (F1 && (F2 && F3))) := Lib.hid (by rw [shpB_inB, hF1, hF2, hF3])
      have K1 : Hid (∀ u, Calls Tryd.prog 49 #[.int .i64 x.w, .int .i64 0, .int .i64 7] u fun e w' => e = .returned (.bool F1) ∧ u = w') := Lib.hid fun u => by rw [← hF1]; exact rin_any _ _ _ u
      have K2 : Hid (∀ u, Calls Tryd.prog 48 #[gV x.g] u fun e w' => e = .returned (.bool F2) ∧ Below u.heap.size u w') := Lib.hid fun u => by rw [← hF2]; exact rgoods_any _ u
      have K3 : Hid (∀ u, Calls Tryd.prog 49 #[.int .i64 x.c, .int .i64 0, .int .i64 1000000] u fun e w' => e = .returned (.bool F3) ∧ u = w') := Lib.hid fun u => by rw [← hF3]; exact rin_any _ _ _ u
      have HNO : Hid (shpB x = false → l.all shpB = false) := Lib.hid fun h => all_no HX.out h
      clear hF1 hF2 hF3
      go_wp2_with fail
      refine (K1.out _).mono ?_
      rintro e w' ⟨rfl, rfl⟩
      cases F1 with
      | false =>
        have HR := Lib.hid (HNO.out HSB.out)
        go_wp2_with fail
        go_ret
        exact ⟨ret_bool HR.out.symm, HBR.out⟩
      | true =>
        go_wp2_with fail
        refine (K2.out _).mono ?_
        rintro e w2 ⟨rfl, hb⟩
        have HB2 := Lib.hid (HBR.out.trans (hb.mono HBR.out.size))
        have d4 := ((bcell hb).1 _ _ (Nat.lt_of_lt_of_le HBB.out HBR.out.size)).trans HC4.out
        clear hb c0 c1 c2 c3 c4
        cases F2 with
        | false =>
          have HR := Lib.hid (HNO.out HSB.out)
          go_wp2_with fail
          go_ret
          exact ⟨ret_bool HR.out.symm, HB2.out⟩
        | true =>
          go_wp2_with fail
          refine (K3.out _).mono ?_
          rintro e w' ⟨rfl, rfl⟩
          cases F3 with
          | false =>
            have HR := Lib.hid (HNO.out HSB.out)
            go_wp2_with fail
            go_ret
            exact ⟨ret_bool HR.out.symm, HB2.out⟩
          | true =>
            go_wp2_with fail
            refine ⟨⟨i + 1, by omega, by go_num, fun j y hj hy => ?_, HB2.out⟩, by simp [intOf]; omega⟩
            rcases Nat.lt_succ_iff_lt_or_eq.1 hj with h | rfl
            · exact HAL.out j y h hy
            · rw [HX.out] at hy
              cases hy
              exact HSB.out
    · have hke : i = n := by omega
      have i1 : ¬ (i : Int) < (n : Int) := by omega
      have HR : Hid (l.all shpB = true) := Lib.hid (all_yes fun j x hj hx => HAL.out j x (by rw [HL.out] at hj; omega) hx)
      clear hbr
      go_wp2_with fail
      go_ret
      exact ⟨ret_bool HR.out.symm, HBR.out⟩
set_option maxRecDepth 100000 in
set_option maxHeartbeats 4000000 in
theorem rplans_any {X : SX} {w : World} (h6 : X.ns ≤ 6) : Calls Tryd.prog 51 #[X.v] w fun e w' => e = .returned (.int .i64 ((2 ^ X.ns : Nat) : Int)) ∧ Below w.heap.size w w' := by
  rcases X with ⟨S, AS, ns, cs, AI, ni, ci, AW, nw, cw⟩
  obtain ⟨z0, hb0⟩ := sto_new ⟨S, AS, ns, cs, AI, ni, ci, AW, nw, cw⟩ w
  obtain ⟨_, _, _, s9, _, _⟩ := sto_box z0
  simp only at s9 h6
  obtain ⟨w1, hw1⟩ : ∃ z, w.alloc (.cells (SX.cells ⟨S, AS, ns, cs, AI, ni, ci, AW, nw, cw⟩) 28) = z := ⟨_, rfl⟩
  rw [hw1] at hb0 s9
  have HB := Lib.hid hb0
  clear z0 hb0
  show Calls _ _ _ _ fun e w' => e = .returned (.int .i64 ((2 ^ ns : Nat) : Int)) ∧ _
  go_enter Tryd.func51, Tryd.ntmps51
  go_wp2_with fail
  try rw [hw1]
  clear hw1
  go_loopw [3, 4] (fun v i wr => ∃ (k P : Nat), k ≤ ns ∧ i = .int .i64 k ∧ P = 2 ^ k ∧ v = .int .i64 (P : Int) ∧ wr = w1) (fun _ i _ => ns - (intOf i).toNat)
  case atStart => exact ⟨0, 1, Nat.zero_le _, rfl, rfl, rfl, rfl⟩
  case round =>
    obtain ⟨k, P, hk, rfl, hP, rfl, rfl⟩ := hrel
    by_cases hlt : k < ns
    · have k1 : (k : Int) < (ns : Int) := by omega
      have hp : P ≤ 32 := by
        rw [hP]
        rcases (show k = 0 ∨ k = 1 ∨ k = 2 ∨ k = 3 ∨ k = 4 ∨ k = 5 by omega) with rfl | rfl | rfl | rfl | rfl | rfl <;> decide
      have e1 : Value.int .i64 (wrap64 (2 * (P : Int))) = Value.int .i64 (2 * (P : Int)) := by congr 1; exact w64 (by omega)
      have HP := Lib.hid hP
      clear hP
      go_wp2_with fail
      exact ⟨⟨k + 1, 2 * P, by omega, by go_num, by rw [HP.out, Nat.pow_succ]; omega, by go_num, trivial⟩, by simp [intOf]; omega⟩
    · have hke : k = ns := by omega
      have k1 : ¬ (k : Int) < (ns : Int) := by omega
      subst hke
      have HP := Lib.hid hP
      clear hP
      go_wp2_with fail
      go_ret
      exact ⟨congrArg (fun z : Nat => Ending.returned (Value.int .i64 (z : Int))) HP.out, HB.out⟩
set_option maxRecDepth 100000 in
set_option maxHeartbeats 1000000 in
theorem rplan_any {X : SX} {w : World} (h6 : X.ns ≤ 6) (hl : X.S.ships.length = X.ns) (p : Int) : Calls Tryd.prog 17 #[X.v, .int .i64 p] w fun e w' => e = .returned (.bool (planOk X.S p)) ∧ Below w.heap.size w w' := by
  have HP : Hid (∀ u, Calls Tryd.prog 51 #[X.v] u fun e w' => e = .returned (.int .i64 ((2 ^ X.ns : Nat) : Int)) ∧ Below u.heap.size u w') := Lib.hid fun u => rplans_any h6
  rcases X with ⟨S, AS, ns, cs, AI, ni, ci, AW, nw, cw⟩
  obtain ⟨z0, hb0⟩ := sto_new ⟨S, AS, ns, cs, AI, ni, ci, AW, nw, cw⟩ w
  obtain ⟨⟨s0, s1, s2⟩, ⟨s3, s4, s5⟩, ⟨s6, s7, s8⟩, s9, s10, s11⟩ := sto_box z0
  simp only at s0 s1 s2 s3 s4 s5 s6 s7 s8 s9 s10 s11 h6 hl HP
  have HB := Lib.hid hb0
  have hp : 1 ≤ 2 ^ ns ∧ 2 ^ ns ≤ 64 := by
    rcases (show ns = 0 ∨ ns = 1 ∨ ns = 2 ∨ ns = 3 ∨ ns = 4 ∨ ns = 5 ∨ ns = 6 by omega) with rfl | rfl | rfl | rfl | rfl | rfl | rfl <;> decide
  have HR : Hid (planOk S p = inB 0 p (((2 ^ ns : Nat) : Int) - 1)) := Lib.hid (by unfold planOk; rw [hl])
  obtain ⟨P, hP⟩ : ∃ z, 2 ^ ns = z := ⟨_, rfl⟩
  rw [hP] at HP HR hp
  have e1 : Value.int .i64 (wrap64 ((P : Int) - 1)) = Value.int .i64 ((P : Int) - 1) := by congr 1; exact w64 (by omega)
  have HE := Lib.hid e1
  clear z0 hb0 hP e1
  show Calls _ _ _ _ fun e w' => e = .returned (.bool (planOk S p)) ∧ _
  go_enter Tryd.func17, Tryd.ntmps17
  go_wp2_with fail
  refine (HP.out _).mono ?_
  rintro e w2 ⟨rfl, hb⟩
  have HB2 := Lib.hid (HB.out.trans (hb.mono HB.out.size))
  have e1 := HE.out
  clear hb
  go_wp2_with fail
  refine (rin_any _ _ _ _).mono ?_
  rintro e w' ⟨rfl, rfl⟩
  go_wp2_with fail
  go_ret
  exact ⟨ret_bool HR.out.symm, HB2.out⟩
end Go.Proofs.YtijjkiogmlannaaDoor

namespace Go.Proofs.YtijjkiogmlannaaDoor
open Go.RowKit

/-- A plan, without its first ships. -/
def halfI : Int → Nat → Int
  | s, 0 => s
  | s, k + 1 => halfI s k / 2
theorem halfI_bd {s : Int} (h : 0 ≤ s ∧ s ≤ 1000000) : ∀ k, 0 ≤ halfI s k ∧ halfI s k ≤ 1000000
  | 0 => h
  | k + 1 => by
    have := halfI_bd h k
    unfold halfI
    omega
def jackB (s : Int) (k : Nat) : Bool := decide (halfI s k % 2 = 1)
set_option maxRecDepth 100000 in
set_option maxHeartbeats 2000000 in
theorem rhas_int (s : Int) (p : Nat) (w : World) (hs : 0 ≤ s ∧ s ≤ 1000000) (hp : p ≤ maxLen) :
    Calls Tryd.prog 22 #[.int .i64 s, .int .i64 (p : Int)] w fun e w' => e = .returned (.bool (jackB s p)) ∧ w = w' := by
  unfold maxLen at hp
  have HS := Lib.hid hs
  go_enter Tryd.func22, Tryd.ntmps22
  go_wp2_with fail
  go_loopw [0, 5] (fun a i wr => ∃ k : Nat, k ≤ p ∧ i = .int .i64 k ∧ a = .int .i64 (halfI s k) ∧ wr = w) (fun _ i _ => p - (intOf i).toNat)
  case atStart => exact ⟨0, Nat.zero_le _, rfl, rfl, rfl⟩
  case round =>
    obtain ⟨k, hk, rfl, rfl, rfl⟩ := hrel
    have hb := halfI_bd HS.out k
    by_cases hlt : k < p
    · have hk1 : (k : Int) < (p : Int) := by omega
      have HN : Hid (halfI s (k + 1) = halfI s k / 2) := Lib.hid rfl
      obtain ⟨T, hT⟩ : ∃ z, halfI s k = z := ⟨_, rfl⟩
      rw [hT] at hb HN ⊢
      have sT : Value.int .i64 (wrap64 (T.tdiv 2)) = Value.int .i64 (T / 2) := by rw [Int.tdiv_eq_ediv_of_nonneg hb.1]; congr 1; exact w64 (by omega)
      clear hT
      go_wp2_with fail
      exact ⟨⟨k + 1, by omega, by go_num, by rw [HN.out], trivial⟩, by simp [intOf]; omega⟩
    · have hke : k = p := by omega
      have hk1 : ¬ (k : Int) < (p : Int) := by omega
      subst hke
      have HJ : Hid (jackB s k = decide (halfI s k % 2 = 1)) := Lib.hid rfl
      obtain ⟨T, hT⟩ : ∃ z, halfI s k = z := ⟨_, rfl⟩
      rw [hT] at hb HJ ⊢
      clear hT
      have hm : T.tmod 2 = T % 2 := Int.tmod_eq_emod_of_nonneg hb.1
      by_cases h1 : T % 2 = 1
      · have HF : Hid (jackB s k = true) := Lib.hid (by rw [HJ.out, decide_eq_true h1])
        go_wp2_with fail
        go_ret
        exact ⟨by rw [HF.out]; simp, rfl⟩
      · have HF : Hid (jackB s k = false) := Lib.hid (by rw [HJ.out, decide_eq_false h1])
        go_wp2_with fail
        go_ret
        exact ⟨by rw [HF.out]; simp [h1], rfl⟩
theorem halfI_nat (p : Nat) : ∀ k, halfI (p : Int) k = ((p / 2 ^ k : Nat) : Int)
  | 0 => by simp [halfI]
  | k + 1 => by
    have ih := halfI_nat p k
    unfold halfI
    rw [ih, Nat.pow_succ, ← Nat.div_div_eq_div_mul]
    rfl
theorem jack_has (p j : Nat) : jackB (p : Int) j = hasB p j := by
  unfold jackB hasB
  rw [halfI_nat]
  congr 1
  apply propext
  omega
theorem rhas_any (p j : Nat) (w : World) (hp : p ≤ 1000000) (hj : j ≤ maxLen) : Calls Tryd.prog 22 #[.int .i64 (p : Int), .int .i64 (j : Int)] w fun e w' => e = .returned (.bool (hasB p j)) ∧ w = w' := by
  have h := rhas_int (p : Int) j w (by omega) hj
  rw [jack_has] at h
  exact h
set_option maxRecDepth 100000 in
set_option maxHeartbeats 4000000 in
theorem rarr_any {X : SX} {w : World} (h : X.In w) (K : X.S.Ok) (j i : Nat) (hj : j < X.ns) (hi : i < X.ni) : Calls Tryd.prog 23 #[X.v, .int .i64 (j : Int), .int .i64 (i : Int)] w fun e w' => e = .returned (.int .i64 (arrI (X.S.ices.getD i []) (X.S.ship j).w.toNat)) ∧ Below w.heap.size w w' := by
  rcases X with ⟨S, AS, ns, cs, AI, ni, ci, AW, nw, cw⟩
  obtain ⟨z0, hb0⟩ := sto_new ⟨S, AS, ns, cs, AI, ni, ci, AW, nw, cw⟩ w
  obtain ⟨w1, hw1⟩ : ∃ z, w.alloc (.cells (SX.cells ⟨S, AS, ns, cs, AI, ni, ci, AW, nw, cw⟩) 28) = z := ⟨_, rfl⟩
  rw [hw1] at z0 hb0
  have HB := Lib.hid hb0
  have hI := h.up hb0
  have hls := hI.hs; have hli := hI.hi
  simp only at hj hi hls hli
  obtain ⟨s, hs⟩ := get_of_lt (l := S.ships) (k := j) (by rw [hls]; exact hj)
  obtain ⟨ice, hice⟩ := get_of_lt (l := S.ices) (k := i) (by rw [hli]; exact hi)
  have e1 : S.ship j = s := by unfold Sto.ship; rw [List.getD_eq_getElem?_getD, hs]; rfl
  have e2 : S.ices.getD i [] = ice := by rw [List.getD_eq_getElem?_getD, hice]; rfl
  have hP := hI.P; have hG := hI.I
  simp only at hP hG
  obtain ⟨bs, os, rfl, hbs, c0, _, _, _, _⟩ := sh_el hP hs
  obtain ⟨bi, oi, A', m, c', rfl, hbi, hm, d1, p1, _⟩ := grid_row hG hice
  have hsw := (shpB_iff.1 (K.ships s (List.mem_of_getElem? hs))).1
  have hland := K.ices ice (List.mem_of_getElem? hice)
  have hl8 := K.land
  obtain ⟨_, _, ⟨_, _, s8⟩, s9, s10, _⟩ := sto_box z0
  simp only at s8 s9 s10 hland hl8
  obtain ⟨f, hf⟩ : ∃ f : Nat, s.w = (f : Int) := ⟨s.w.toNat, by omega⟩
  have hfn : s.w.toNat = f := by omega
  show Calls _ _ _ _ fun e w' => e = .returned (.int .i64 (arrI (S.ices.getD i []) (S.ship j).w.toNat)) ∧ _
  rw [e1, e2, hfn]
  rw [hf] at c0
  have HLI : Hid ((ice.length : Int) = S.land) := Lib.hid hland
  have HPI := Lib.hid p1
  have HZ := Lib.hid (show f ≤ 7 by omega)
  have j0 : (0 : Int) ≤ (j : Int) := by omega
  have j1 : (j : Int) < (ns : Int) := by omega
  have i0 : (0 : Int) ≤ (i : Int) := by omega
  have i1 : (i : Int) < (ni : Int) := by omega
  rw [← hm] at hland
  have HML := Lib.hid (And.intro hm hland)
  have m8 : m ≤ 8 := by omega
  clear h z0 hb0 hI hP hG hs hice e1 e2 hsw hland hf hfn p1 hl8 hm hls hli
  go_enter Tryd.func23, Tryd.ntmps23
  go_wp2_with fail
  try rw [hw1]
  clear hw1 c0 s9
  go_loopw [7] (fun v wr => ∃ k : Nat, f ≤ k ∧ (k ≤ m ∨ k = f) ∧ v = .int .i64 k ∧ (∀ t, f ≤ t → t < k → ice.getD t false = false) ∧ wr = w1) (fun v _ => m - (intOf v).toNat)
  case atStart => exact ⟨f, Nat.le_refl _, .inr rfl, rfl, fun t h1 h2 => absurd h2 (by omega), rfl⟩
  case round =>
    obtain ⟨k, hk1, hk2, rfl, hall, rfl⟩ := hrel
    have HAL := Lib.hid hall
    clear hall
    have hlen : ice.length = m := HML.out.1.symm
    by_cases hlt : k < m
    · obtain ⟨x, hx⟩ := get_of_lt (l := ice) (k := k) (by rw [hlen]; exact hlt)
      obtain ⟨b, o, rfl, hb, c0⟩ := bls_el HPI.out hx
      have k0 : (0 : Int) ≤ (k : Int) := by omega
      have k2 : (k : Int) < (m : Int) := by omega
      have k1 : (k : Int) < S.land := by have := HML.out.2; omega
      have HG : Hid (ice.getD k false = x) := Lib.hid (by rw [List.getD_eq_getElem?_getD, hx]; rfl)
      have HLN := Lib.hid hlen
      clear hx hb hlen
      cases x with
      | true =>
        have HR := Lib.hid (arr_found (ice := ice) (f := f) (k := k) (by rw [HLN.out]; exact hlt) hk1 HG.out HAL.out)
        go_wp2_with fail
        try rw [Exit.noGoto_ret]
        go_ret
        exact ⟨congrArg (fun z => Ending.returned (Value.int .i64 z)) HR.out.symm, HB.out⟩
      | false =>
        go_wp2_with fail
        refine ⟨⟨k + 1, by omega, .inl (by omega), by go_num, fun t h1 h2 => ?_, trivial⟩, by simp [intOf]; omega⟩
        rcases Nat.lt_succ_iff_lt_or_eq.1 h2 with h | rfl
        · exact HAL.out t h1 h
        · exact HG.out
    · have k1 : ¬ (k : Int) < S.land := by have := HML.out.2; omega
      have HR := Lib.hid (arr_none (ice := ice) (f := f) fun t h1 h2 => HAL.out t h1 (by omega))
      clear hlen
      go_wp2_with fail
      go_ret
      exact ⟨congrArg (fun z => Ending.returned (Value.int .i64 z)) HR.out.symm, HB.out⟩
end Go.Proofs.YtijjkiogmlannaaDoor

namespace Go.Proofs.YtijjkiogmlannaaDoor
open Go.RowKit

theorem no_sto {S : Sto} (h : S.Ok → False) : stoB S = false := by
  cases hs : stoB S with
  | false => rfl
  | true => exact absurd (stoB_iff.1 hs) h
def shortB (X : SX) : Bool := (X.S.ices.take 10).all (fun x => decide ((x.length : Int) ≤ 15)) && ((X.S.wins.take 10).all (fun x => decide ((x.length : Int) ≤ 40)) && (decide (X.ns ≤ 10) && (decide (X.ni ≤ 8) && decide (X.nw ≤ 8))))
theorem take10 {α : Type} {l : List α} {f : α → Bool} (h : ∀ (j : Nat) (x : α), j < 10 → l[j]? = some x → f x = true) : (l.take 10).all f = true := by
  rw [List.all_eq_true]
  intro x hx
  obtain ⟨j, hj⟩ := List.mem_iff_getElem?.1 hx
  rw [List.getElem?_take] at hj
  split at hj
  · exact h j x (by assumption) hj
  · cases hj
theorem take10_no {α : Type} {l : List α} {f : α → Bool} {j : Nat} {x : α} (hj : j < 10) (hx : l[j]? = some x) (hf : f x = false) : (l.take 10).all f = false :=
  all_no (k := j) (by rw [List.getElem?_take, if_pos hj]; exact hx) hf
set_option maxRecDepth 100000 in
set_option maxHeartbeats 8000000 in
theorem short_any {X : SX} {w : World} (h : X.In w) : Calls Tryd.prog 12 #[X.v] w fun e w' => e = .returned (.bool (shortB X)) ∧ Below w.heap.size w w' := by
  rcases X with ⟨S, AS, ns, cs, AI, ni, ci, AW, nw, cw⟩
  obtain ⟨z0, hb0⟩ := sto_new ⟨S, AS, ns, cs, AI, ni, ci, AW, nw, cw⟩ w
  obtain ⟨w1, hw1⟩ : ∃ z, w.alloc (.cells (SX.cells ⟨S, AS, ns, cs, AI, ni, ci, AW, nw, cw⟩) 28) = z := ⟨_, rfl⟩
  rw [hw1] at z0 hb0
  have HB1 := Lib.hid hb0; have Z1 := Lib.hid z0; have HI1 := Lib.hid (h.up hb0)
  have hls := h.hs; have hli := h.hi; have hlw := h.hw; have hns := h.s2; have hni := h.i2; have hnw := h.w2
  simp only at hls hli hlw hns hni hnw
  unfold maxLen at hns hni hnw
  have HLS := Lib.hid hls; have HLI := Lib.hid hli; have HLW := Lib.hid hlw
  obtain ⟨⟨s0, s1, s2⟩, ⟨s3, s4, s5⟩, ⟨s6, s7, s8⟩, s9, s10, s11⟩ := sto_box z0
  simp only at s0 s1 s2 s3 s4 s5 s6 s7 s8 s9 s10 s11
  clear h z0 hb0 hls hli hlw s0 s1 s2 s3 s4 s5 s6 s7 s8
  show Calls _ _ _ _ fun e w' => e = .returned (.bool (shortB ⟨S, AS, ns, cs, AI, ni, ci, AW, nw, cw⟩)) ∧ _
  go_enter Tryd.func12, Tryd.ntmps12
  go_wp2_with fail
  try rw [hw1]
  clear hw1
  go_loopw [3] (fun i wr => ∃ k : Nat, k ≤ ni ∧ k ≤ 10 ∧ i = .int .i64 k ∧ (∀ (j : Nat) x, j < k → S.ices[j]? = some x → decide ((x.length : Int) ≤ 15) = true) ∧ w1 = wr) (fun i _ => 10 - (intOf i).toNat)
  case atStart => exact ⟨0, Nat.zero_le _, Nat.zero_le _, rfl, fun j _ hj => absurd hj (Nat.not_lt_zero _), rfl⟩
  case round =>
    obtain ⟨i, hi, hi10, rfl, hall, rfl⟩ := hrel
    have HAL := Lib.hid hall
    clear hall
    by_cases hlt : i < ni
    · by_cases hlt2 : i < 10
      · obtain ⟨x, hx⟩ := get_of_lt (l := S.ices) (k := i) (by rw [HLI.out]; exact hlt)
        obtain ⟨b, o, A', m, c', rfl, hb, hm, d1, _, hm2⟩ := grid_row HI1.out.I hx
        have i0 : (0 : Int) ≤ (i : Int) := by omega
        have i1 : (i : Int) < (ni : Int) := by omega
        have i2 : (i : Int) < 10 := by omega
        have HX := Lib.hid hx; have HM := Lib.hid hm
        by_cases hle : 15 < (m : Int)
        · have HR : Hid (shortB ⟨S, AS, ns, cs, some ⟨b, o, none⟩, ni, ci, AW, nw, cw⟩ = false) := Lib.hid (by
            unfold shortB
            have := take10_no (f := fun x : List _ => decide ((x.length : Int) ≤ 15)) hlt2 HX.out (by rw [← HM.out]; exact decide_eq_false (by omega))
            simp only
            rw [this]
            simp)
          clear hx hm hm2 hb
          go_wp2_with fail
          go_ret
          exact ⟨ret_bool HR.out.symm, HB1.out⟩
        · have HY : Hid (decide ((x.length : Int) ≤ 15) = true) := Lib.hid (by rw [← HM.out]; exact decide_eq_true (by omega))
          clear hx hm hm2 hb
          go_wp2_with fail
          refine ⟨⟨i + 1, by omega, by omega, by go_num, fun j y hj hy => ?_, trivial⟩, by simp [intOf]; omega⟩
          rcases Nat.lt_succ_iff_lt_or_eq.1 hj with h | rfl
          · exact HAL.out j y h hy
          · rw [HX.out] at hy
            cases hy
            exact HY.out
      · have i1 : (i : Int) < (ni : Int) := by omega
        have i2 : ¬ (i : Int) < 10 := by omega
        have HTI : Hid ((S.ices.take 10).all (fun x => decide ((x.length : Int) ≤ 15)) = true) := Lib.hid (take10 fun j x hj hx => HAL.out j x (by omega) hx)
        clear hlt hlt2
        go_wp2_with fail
        all_goals try (exfalso; omega)
        go_loopw [4] (fun i wr => ∃ k : Nat, k ≤ nw ∧ k ≤ 10 ∧ i = .int .i64 k ∧ (∀ (j : Nat) x, j < k → S.wins[j]? = some x → decide ((x.length : Int) ≤ 40) = true) ∧ w1 = wr) (fun i _ => 10 - (intOf i).toNat)
        case atStart => exact ⟨0, Nat.zero_le _, Nat.zero_le _, rfl, fun j _ hj => absurd hj (Nat.not_lt_zero _), rfl⟩
        case round =>
          obtain ⟨i, hi, hi10, rfl, hall, rfl⟩ := hrel
          have HAL := Lib.hid hall
          clear hall
          by_cases hlt : i < nw
          · by_cases hlt2 : i < 10
            · obtain ⟨x, hx⟩ := get_of_lt (l := S.wins) (k := i) (by rw [HLW.out]; exact hlt)
              obtain ⟨b, o, A', m, c', rfl, hb, hm, d1, _, hm2⟩ := grid_row HI1.out.W hx
              have i0 : (0 : Int) ≤ (i : Int) := by omega
              have i1 : (i : Int) < (nw : Int) := by omega
              have i2 : (i : Int) < 10 := by omega
              have HX := Lib.hid hx; have HM := Lib.hid hm
              by_cases hle : 40 < (m : Int)
              · have HR : Hid (shortB ⟨S, AS, ns, cs, AI, ni, ci, some ⟨b, o, none⟩, nw, cw⟩ = false) := Lib.hid (by
                  unfold shortB
                  have := take10_no (f := fun x : List _ => decide ((x.length : Int) ≤ 40)) hlt2 HX.out (by rw [← HM.out]; exact decide_eq_false (by omega))
                  simp only
                  rw [this]
                  simp)
                clear hx hm hm2 hb
                go_wp2_with fail
                go_ret
                exact ⟨ret_bool HR.out.symm, HB1.out⟩
              · have HY : Hid (decide ((x.length : Int) ≤ 40) = true) := Lib.hid (by rw [← HM.out]; exact decide_eq_true (by omega))
                clear hx hm hm2 hb
                go_wp2_with fail
                refine ⟨⟨i + 1, by omega, by omega, by go_num, fun j y hj hy => ?_, trivial⟩, by simp [intOf]; omega⟩
                rcases Nat.lt_succ_iff_lt_or_eq.1 hj with h | rfl
                · exact HAL.out j y h hy
                · rw [HX.out] at hy
                  cases hy
                  exact HY.out
            · have i1 : (i : Int) < (nw : Int) := by omega
              have i2 : ¬ (i : Int) < 10 := by omega
              have HTW : Hid ((S.wins.take 10).all (fun x => decide ((x.length : Int) ≤ 40)) = true) := Lib.hid (take10 fun j x hj hx => HAL.out j x (by omega) hx)
              clear hlt hlt2
              have HR : Hid (shortB ⟨S, AS, ns, cs, AI, ni, ci, AW, nw, cw⟩ = (decide (ns ≤ 10) && (decide (ni ≤ 8) && decide (nw ≤ 8)))) := Lib.hid (by unfold shortB; simp only; rw [HTI.out, HTW.out]; rfl)
              by_cases n1 : (ns : Int) ≤ 10
              · by_cases n2 : (ni : Int) ≤ 8
                · by_cases n3 : (nw : Int) ≤ 8
                  · skip
                    first
                      | (exfalso; omega)
                      | (have HF : Hid (shortB ⟨S, AS, ns, cs, AI, ni, ci, AW, nw, cw⟩ = true) := Lib.hid (HR.out.trans (by rw [decide_eq_true (show ns ≤ 10 by omega), decide_eq_true (show ni ≤ 8 by omega), decide_eq_true (show nw ≤ 8 by omega)]; rfl))
                         go_wp2_with fail
                         all_goals first
                           | (exfalso; omega)
                           | (go_ret; exact ⟨ret_bool HF.out.symm, HB1.out⟩)
                           | (go_ret; exact ⟨ret_bool ((decide_eq_false (by omega)).trans HF.out.symm), HB1.out⟩)
                           | (go_ret; exact ⟨ret_bool ((decide_eq_true (by omega)).trans HF.out.symm), HB1.out⟩))
                  · skip
                    first
                      | (exfalso; omega)
                      | (have HF : Hid (shortB ⟨S, AS, ns, cs, AI, ni, ci, AW, nw, cw⟩ = false) := Lib.hid (HR.out.trans (by rw [decide_eq_false (show ¬ nw ≤ 8 by omega)]; simp))
                         go_wp2_with fail
                         all_goals first
                           | (exfalso; omega)
                           | (go_ret; exact ⟨ret_bool HF.out.symm, HB1.out⟩)
                           | (go_ret; exact ⟨ret_bool ((decide_eq_false (by omega)).trans HF.out.symm), HB1.out⟩)
                           | (go_ret; exact ⟨ret_bool ((decide_eq_true (by omega)).trans HF.out.symm), HB1.out⟩))
                · skip
                  first
                    | (exfalso; omega)
                    | (have HF : Hid (shortB ⟨S, AS, ns, cs, AI, ni, ci, AW, nw, cw⟩ = false) := Lib.hid (HR.out.trans (by rw [decide_eq_false (show ¬ ni ≤ 8 by omega)]; simp))
                       go_wp2_with fail
                       all_goals first
                         | (exfalso; omega)
                         | (go_ret; exact ⟨ret_bool HF.out.symm, HB1.out⟩)
                         | (go_ret; exact ⟨ret_bool ((decide_eq_false (by omega)).trans HF.out.symm), HB1.out⟩)
                         | (go_ret; exact ⟨ret_bool ((decide_eq_true (by omega)).trans HF.out.symm), HB1.out⟩))
              · skip
                first
                  | (exfalso; omega)
                  | (have HF : Hid (shortB ⟨S, AS, ns, cs, AI, ni, ci, AW, nw, cw⟩ = false) := Lib.hid (HR.out.trans (by rw [decide_eq_false (show ¬ ns ≤ 10 by omega)]; simp))
                     go_wp2_with fail
                     all_goals first
                       | (exfalso; omega)
                       | (go_ret; exact ⟨ret_bool HF.out.symm, HB1.out⟩)
                       | (go_ret; exact ⟨ret_bool ((decide_eq_false (by omega)).trans HF.out.symm), HB1.out⟩)
                       | (go_ret; exact ⟨ret_bool ((decide_eq_true (by omega)).trans HF.out.symm), HB1.out⟩))
          · have i1 : ¬ (i : Int) < (nw : Int) := by omega
            have HTW : Hid ((S.wins.take 10).all (fun x => decide ((x.length : Int) ≤ 40)) = true) := Lib.hid (take10 fun j x hj hx => HAL.out j x (by
              have := (List.getElem?_eq_some_iff.1 hx).1
              rw [HLW.out] at this
              omega) hx)
            have HR : Hid (shortB ⟨S, AS, ns, cs, AI, ni, ci, AW, nw, cw⟩ = (decide (ns ≤ 10) && (decide (ni ≤ 8) && decide (nw ≤ 8)))) := Lib.hid (by unfold shortB; simp only; rw [HTI.out, HTW.out]; rfl)
            by_cases n1 : (ns : Int) ≤ 10
            · by_cases n2 : (ni : Int) ≤ 8
              · by_cases n3 : (nw : Int) ≤ 8
                · skip
                  first
                    | (exfalso; omega)
                    | (have HF : Hid (shortB ⟨S, AS, ns, cs, AI, ni, ci, AW, nw, cw⟩ = true) := Lib.hid (HR.out.trans (by rw [decide_eq_true (show ns ≤ 10 by omega), decide_eq_true (show ni ≤ 8 by omega), decide_eq_true (show nw ≤ 8 by omega)]; rfl))
                       go_wp2_with fail
                       all_goals first
                         | (exfalso; omega)
                         | (go_ret; exact ⟨ret_bool HF.out.symm, HB1.out⟩)
                         | (go_ret; exact ⟨ret_bool ((decide_eq_false (by omega)).trans HF.out.symm), HB1.out⟩)
                         | (go_ret; exact ⟨ret_bool ((decide_eq_true (by omega)).trans HF.out.symm), HB1.out⟩))
                · skip
                  first
                    | (exfalso; omega)
                    | (have HF : Hid (shortB ⟨S, AS, ns, cs, AI, ni, ci, AW, nw, cw⟩ = false) := Lib.hid (HR.out.trans (by rw [decide_eq_false (show ¬ nw ≤ 8 by omega)]; simp))
                       go_wp2_with fail
                       all_goals first
                         | (exfalso; omega)
                         | (go_ret; exact ⟨ret_bool HF.out.symm, HB1.out⟩)
                         | (go_ret; exact ⟨ret_bool ((decide_eq_false (by omega)).trans HF.out.symm), HB1.out⟩)
                         | (go_ret; exact ⟨ret_bool ((decide_eq_true (by omega)).trans HF.out.symm), HB1.out⟩))
              · skip
                first
                  | (exfalso; omega)
                  | (have HF : Hid (shortB ⟨S, AS, ns, cs, AI, ni, ci, AW, nw, cw⟩ = false) := Lib.hid (HR.out.trans (by rw [decide_eq_false (show ¬ ni ≤ 8 by omega)]; simp))
                     go_wp2_with fail
                     all_goals first
                       | (exfalso; omega)
                       | (go_ret; exact ⟨ret_bool HF.out.symm, HB1.out⟩)
                       | (go_ret; exact ⟨ret_bool ((decide_eq_false (by omega)).trans HF.out.symm), HB1.out⟩)
                       | (go_ret; exact ⟨ret_bool ((decide_eq_true (by omega)).trans HF.out.symm), HB1.out⟩))
            · skip
              first
                | (exfalso; omega)
                | (have HF : Hid (shortB ⟨S, AS, ns, cs, AI, ni, ci, AW, nw, cw⟩ = false) := Lib.hid (HR.out.trans (by rw [decide_eq_false (show ¬ ns ≤ 10 by omega)]; simp))
                   go_wp2_with fail
                   all_goals first
                     | (exfalso; omega)
                     | (go_ret; exact ⟨ret_bool HF.out.symm, HB1.out⟩)
                     | (go_ret; exact ⟨ret_bool ((decide_eq_false (by omega)).trans HF.out.symm), HB1.out⟩)
                     | (go_ret; exact ⟨ret_bool ((decide_eq_true (by omega)).trans HF.out.symm), HB1.out⟩))
    · have i1 : ¬ (i : Int) < (ni : Int) := by omega
      have HTI : Hid ((S.ices.take 10).all (fun x => decide ((x.length : Int) ≤ 15)) = true) := Lib.hid (take10 fun j x hj hx => HAL.out j x (by
        have := (List.getElem?_eq_some_iff.1 hx).1
        rw [HLI.out] at this
        omega) hx)
      go_wp2_with fail
      all_goals try (exfalso; omega)
      go_loopw [4] (fun i wr => ∃ k : Nat, k ≤ nw ∧ k ≤ 10 ∧ i = .int .i64 k ∧ (∀ (j : Nat) x, j < k → S.wins[j]? = some x → decide ((x.length : Int) ≤ 40) = true) ∧ w1 = wr) (fun i _ => 10 - (intOf i).toNat)
      case atStart => exact ⟨0, Nat.zero_le _, Nat.zero_le _, rfl, fun j _ hj => absurd hj (Nat.not_lt_zero _), rfl⟩
      case round =>
        obtain ⟨i, hi, hi10, rfl, hall, rfl⟩ := hrel
        have HAL := Lib.hid hall
        clear hall
        by_cases hlt : i < nw
        · by_cases hlt2 : i < 10
          · obtain ⟨x, hx⟩ := get_of_lt (l := S.wins) (k := i) (by rw [HLW.out]; exact hlt)
            obtain ⟨b, o, A', m, c', rfl, hb, hm, d1, _, hm2⟩ := grid_row HI1.out.W hx
            have i0 : (0 : Int) ≤ (i : Int) := by omega
            have i1 : (i : Int) < (nw : Int) := by omega
            have i2 : (i : Int) < 10 := by omega
            have HX := Lib.hid hx; have HM := Lib.hid hm
            by_cases hle : 40 < (m : Int)
            · have HR : Hid (shortB ⟨S, AS, ns, cs, AI, ni, ci, some ⟨b, o, none⟩, nw, cw⟩ = false) := Lib.hid (by
                unfold shortB
                have := take10_no (f := fun x : List _ => decide ((x.length : Int) ≤ 40)) hlt2 HX.out (by rw [← HM.out]; exact decide_eq_false (by omega))
                simp only
                rw [this]
                simp)
              clear hx hm hm2 hb
              go_wp2_with fail
              go_ret
              exact ⟨ret_bool HR.out.symm, HB1.out⟩
            · have HY : Hid (decide ((x.length : Int) ≤ 40) = true) := Lib.hid (by rw [← HM.out]; exact decide_eq_true (by omega))
              clear hx hm hm2 hb
              go_wp2_with fail
              refine ⟨⟨i + 1, by omega, by omega, by go_num, fun j y hj hy => ?_, trivial⟩, by simp [intOf]; omega⟩
              rcases Nat.lt_succ_iff_lt_or_eq.1 hj with h | rfl
              · exact HAL.out j y h hy
              · rw [HX.out] at hy
                cases hy
                exact HY.out
          · have i1 : (i : Int) < (nw : Int) := by omega
            have i2 : ¬ (i : Int) < 10 := by omega
            have HTW : Hid ((S.wins.take 10).all (fun x => decide ((x.length : Int) ≤ 40)) = true) := Lib.hid (take10 fun j x hj hx => HAL.out j x (by omega) hx)
            clear hlt hlt2
            have HR : Hid (shortB ⟨S, AS, ns, cs, AI, ni, ci, AW, nw, cw⟩ = (decide (ns ≤ 10) && (decide (ni ≤ 8) && decide (nw ≤ 8)))) := Lib.hid (by unfold shortB; simp only; rw [HTI.out, HTW.out]; rfl)
            by_cases n1 : (ns : Int) ≤ 10
            · by_cases n2 : (ni : Int) ≤ 8
              · by_cases n3 : (nw : Int) ≤ 8
                · skip
                  first
                    | (exfalso; omega)
                    | (have HF : Hid (shortB ⟨S, AS, ns, cs, AI, ni, ci, AW, nw, cw⟩ = true) := Lib.hid (HR.out.trans (by rw [decide_eq_true (show ns ≤ 10 by omega), decide_eq_true (show ni ≤ 8 by omega), decide_eq_true (show nw ≤ 8 by omega)]; rfl))
                       go_wp2_with fail
                       all_goals first
                         | (exfalso; omega)
                         | (go_ret; exact ⟨ret_bool HF.out.symm, HB1.out⟩)
                         | (go_ret; exact ⟨ret_bool ((decide_eq_false (by omega)).trans HF.out.symm), HB1.out⟩)
                         | (go_ret; exact ⟨ret_bool ((decide_eq_true (by omega)).trans HF.out.symm), HB1.out⟩))
                · skip
                  first
                    | (exfalso; omega)
                    | (have HF : Hid (shortB ⟨S, AS, ns, cs, AI, ni, ci, AW, nw, cw⟩ = false) := Lib.hid (HR.out.trans (by rw [decide_eq_false (show ¬ nw ≤ 8 by omega)]; simp))
                       go_wp2_with fail
                       all_goals first
                         | (exfalso; omega)
                         | (go_ret; exact ⟨ret_bool HF.out.symm, HB1.out⟩)
                         | (go_ret; exact ⟨ret_bool ((decide_eq_false (by omega)).trans HF.out.symm), HB1.out⟩)
                         | (go_ret; exact ⟨ret_bool ((decide_eq_true (by omega)).trans HF.out.symm), HB1.out⟩))
              · skip
                first
                  | (exfalso; omega)
                  | (have HF : Hid (shortB ⟨S, AS, ns, cs, AI, ni, ci, AW, nw, cw⟩ = false) := Lib.hid (HR.out.trans (by rw [decide_eq_false (show ¬ ni ≤ 8 by omega)]; simp))
                     go_wp2_with fail
                     all_goals first
                       | (exfalso; omega)
                       | (go_ret; exact ⟨ret_bool HF.out.symm, HB1.out⟩)
                       | (go_ret; exact ⟨ret_bool ((decide_eq_false (by omega)).trans HF.out.symm), HB1.out⟩)
                       | (go_ret; exact ⟨ret_bool ((decide_eq_true (by omega)).trans HF.out.symm), HB1.out⟩))
            · skip
              first
                | (exfalso; omega)
                | (have HF : Hid (shortB ⟨S, AS, ns, cs, AI, ni, ci, AW, nw, cw⟩ = false) := Lib.hid (HR.out.trans (by rw [decide_eq_false (show ¬ ns ≤ 10 by omega)]; simp))
                   go_wp2_with fail
                   all_goals first
                     | (exfalso; omega)
                     | (go_ret; exact ⟨ret_bool HF.out.symm, HB1.out⟩)
                     | (go_ret; exact ⟨ret_bool ((decide_eq_false (by omega)).trans HF.out.symm), HB1.out⟩)
                     | (go_ret; exact ⟨ret_bool ((decide_eq_true (by omega)).trans HF.out.symm), HB1.out⟩))
        · have i1 : ¬ (i : Int) < (nw : Int) := by omega
          have HTW : Hid ((S.wins.take 10).all (fun x => decide ((x.length : Int) ≤ 40)) = true) := Lib.hid (take10 fun j x hj hx => HAL.out j x (by
            have := (List.getElem?_eq_some_iff.1 hx).1
            rw [HLW.out] at this
            omega) hx)
          have HR : Hid (shortB ⟨S, AS, ns, cs, AI, ni, ci, AW, nw, cw⟩ = (decide (ns ≤ 10) && (decide (ni ≤ 8) && decide (nw ≤ 8)))) := Lib.hid (by unfold shortB; simp only; rw [HTI.out, HTW.out]; rfl)
          by_cases n1 : (ns : Int) ≤ 10
          · by_cases n2 : (ni : Int) ≤ 8
            · by_cases n3 : (nw : Int) ≤ 8
              · skip
                first
                  | (exfalso; omega)
                  | (have HF : Hid (shortB ⟨S, AS, ns, cs, AI, ni, ci, AW, nw, cw⟩ = true) := Lib.hid (HR.out.trans (by rw [decide_eq_true (show ns ≤ 10 by omega), decide_eq_true (show ni ≤ 8 by omega), decide_eq_true (show nw ≤ 8 by omega)]; rfl))
                     go_wp2_with fail
                     all_goals first
                       | (exfalso; omega)
                       | (go_ret; exact ⟨ret_bool HF.out.symm, HB1.out⟩)
                       | (go_ret; exact ⟨ret_bool ((decide_eq_false (by omega)).trans HF.out.symm), HB1.out⟩)
                       | (go_ret; exact ⟨ret_bool ((decide_eq_true (by omega)).trans HF.out.symm), HB1.out⟩))
              · skip
                first
                  | (exfalso; omega)
                  | (have HF : Hid (shortB ⟨S, AS, ns, cs, AI, ni, ci, AW, nw, cw⟩ = false) := Lib.hid (HR.out.trans (by rw [decide_eq_false (show ¬ nw ≤ 8 by omega)]; simp))
                     go_wp2_with fail
                     all_goals first
                       | (exfalso; omega)
                       | (go_ret; exact ⟨ret_bool HF.out.symm, HB1.out⟩)
                       | (go_ret; exact ⟨ret_bool ((decide_eq_false (by omega)).trans HF.out.symm), HB1.out⟩)
                       | (go_ret; exact ⟨ret_bool ((decide_eq_true (by omega)).trans HF.out.symm), HB1.out⟩))
            · skip
              first
                | (exfalso; omega)
                | (have HF : Hid (shortB ⟨S, AS, ns, cs, AI, ni, ci, AW, nw, cw⟩ = false) := Lib.hid (HR.out.trans (by rw [decide_eq_false (show ¬ ni ≤ 8 by omega)]; simp))
                   go_wp2_with fail
                   all_goals first
                     | (exfalso; omega)
                     | (go_ret; exact ⟨ret_bool HF.out.symm, HB1.out⟩)
                     | (go_ret; exact ⟨ret_bool ((decide_eq_false (by omega)).trans HF.out.symm), HB1.out⟩)
                     | (go_ret; exact ⟨ret_bool ((decide_eq_true (by omega)).trans HF.out.symm), HB1.out⟩))
          · skip
            first
              | (exfalso; omega)
              | (have HF : Hid (shortB ⟨S, AS, ns, cs, AI, ni, ci, AW, nw, cw⟩ = false) := Lib.hid (HR.out.trans (by rw [decide_eq_false (show ¬ ns ≤ 10 by omega)]; simp))
                 go_wp2_with fail
                 all_goals first
                   | (exfalso; omega)
                   | (go_ret; exact ⟨ret_bool HF.out.symm, HB1.out⟩)
                   | (go_ret; exact ⟨ret_bool ((decide_eq_false (by omega)).trans HF.out.symm), HB1.out⟩)
                   | (go_ret; exact ⟨ret_bool ((decide_eq_true (by omega)).trans HF.out.symm), HB1.out⟩))
end Go.Proofs.YtijjkiogmlannaaDoor
