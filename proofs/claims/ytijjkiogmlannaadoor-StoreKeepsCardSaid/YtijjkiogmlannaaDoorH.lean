/- Stores: which ones are as defined, by the code. Stores: ices and winters that are as defined; Check, by the code. Stores: Check, checks of plans, ices and winters, by the code and by the statements' package. Stores: plans, ices and winters; what the statements' package asks of ships, plans and prices. -/
import Derived.Test.YtijjkiogmlannaaDoorD
import Derived.Test.YtijjkiogmlannaaDoorCA
namespace Go.Proofs.YtijjkiogmlannaaDoor
open Go.RowKit

/-- A store that came in: where its lists lie. -/
structure SX where
  S : Sto
  AS : Option Addr
  ns : Nat
  cs : Nat
  AI : Option Addr
  ni : Nat
  ci : Nat
  AW : Option Addr
  nw : Nat
  cw : Nat
abbrev SX.cells (X : SX) : Array Value := #[.int .i64 X.S.st.a, .int .i64 X.S.st.b, .int .i64 X.S.st.c, .int .i64 X.S.yd.a, .int .i64 X.S.yd.b, .int .i64 X.S.yd.c, .int .i64 X.S.rate, .int .i64 X.S.weeks, .int .i64 X.S.land, .slice X.AS X.ns X.cs, .slice X.AI X.ni X.ci, .slice X.AW X.nw X.cw]
abbrev SX.v (X : SX) : Value := .agg #[.int .i64 X.S.st.a, .int .i64 X.S.st.b, .int .i64 X.S.st.c, .int .i64 X.S.yd.a, .int .i64 X.S.yd.b, .int .i64 X.S.yd.c, .int .i64 X.S.rate, .int .i64 X.S.weeks, .int .i64 X.S.land, .slice X.AS X.ns X.cs, .slice X.AI X.ni X.ci, .slice X.AW X.nw X.cw]
structure SX.In (X : SX) (w : World) : Prop where
  hs : X.S.ships.length = X.ns
  hi : X.S.ices.length = X.ni
  hw : X.S.wins.length = X.nw
  s2 : X.ns ≤ maxLen
  i2 : X.ni ≤ maxLen
  w2 : X.nw ≤ maxLen
  P : ShsAt w w.heap.size X.AS X.S.ships
  I : GridAt 1 boolR w w.heap.size X.AI X.S.ices
  W : GridAt 3 gR w w.heap.size X.AW X.S.wins
theorem SX.In.up {X : SX} {w w' : World} (h : X.In w) (hb : Below w.heap.size w w') : X.In w' :=
  ⟨h.hs, h.hi, h.hw, h.s2, h.i2, h.w2, RowAt.up (k := 5) (R := shR) h.P hb, h.I.up hb, h.W.up hb⟩
theorem sto_box {X : SX} {w : World} {B : Nat} {T : TypeId} (z : w.heap[B]? = some (.cells X.cells T (0, 0))) :
    (w.cell? ⟨B, 0, none⟩ = some (.int .i64 X.S.st.a) ∧ w.cell? ⟨B, 1, none⟩ = some (.int .i64 X.S.st.b) ∧ w.cell? ⟨B, 2, none⟩ = some (.int .i64 X.S.st.c)) ∧ (w.cell? ⟨B, 3, none⟩ = some (.int .i64 X.S.yd.a) ∧ w.cell? ⟨B, 4, none⟩ = some (.int .i64 X.S.yd.b) ∧ w.cell? ⟨B, 5, none⟩ = some (.int .i64 X.S.yd.c)) ∧
    (w.cell? ⟨B, 6, none⟩ = some (.int .i64 X.S.rate) ∧ w.cell? ⟨B, 7, none⟩ = some (.int .i64 X.S.weeks) ∧ w.cell? ⟨B, 8, none⟩ = some (.int .i64 X.S.land)) ∧ w.cell? ⟨B, 9, none⟩ = some (.slice X.AS X.ns X.cs) ∧ w.cell? ⟨B, 10, none⟩ = some (.slice X.AI X.ni X.ci) ∧ w.cell? ⟨B, 11, none⟩ = some (.slice X.AW X.nw X.cw) := by
  have p := fun k => cell_of_row w B k _ T (0, 0) z
  exact ⟨⟨p 0, p 1, p 2⟩, ⟨p 3, p 4, p 5⟩, ⟨p 6, p 7, p 8⟩, p 9, p 10, p 11⟩
theorem sto_new (X : SX) (w : World) : (w.alloc (.cells X.cells 28)).heap[w.heap.size]? = some (.cells X.cells 28 (0, 0)) ∧ Below w.heap.size w (w.alloc (.cells X.cells 28)) :=
  ⟨heap_alloc_new w _, (Below.refl _ _).alloc (Nat.le_refl _) _⟩
theorem sh_el {w : World} {B : Nat} {A : Option Addr} {l : List Shp} {i : Nat} {x : Shp} (h : ShsAt w B A l) (hx : l[i]? = some x) : ∃ b o, A = some ⟨b, o, none⟩ ∧ b < B ∧ w.cell? ⟨b, o + i * 5, none⟩ = some (.int .i64 x.w) ∧ w.cell? ⟨b, o + i * 5 + 1, none⟩ = some (.int .i64 x.g.a) ∧ w.cell? ⟨b, o + i * 5 + 2, none⟩ = some (.int .i64 x.g.b) ∧ w.cell? ⟨b, o + i * 5 + 3, none⟩ = some (.int .i64 x.g.c) ∧ w.cell? ⟨b, o + i * 5 + 4, none⟩ = some (.int .i64 x.c) := by
  obtain ⟨b, o, rfl, h1, h2⟩ := h (by intro e; rw [e] at hx; simp at hx)
  exact ⟨b, o, rfl, h1, h2 i x hx 0 _ rfl, h2 i x hx 1 _ rfl, h2 i x hx 2 _ rfl, h2 i x hx 3 _ rfl, h2 i x hx 4 _ rfl⟩
theorem sc_cells {w : World} {b : Nat} {s : Shp} {T : TypeId} (h : w.heap[b]? = some (.cells (sC s) T (0, 0))) : w.cell? ⟨b, 0, none⟩ = some (.int .i64 s.w) ∧ w.cell? ⟨b, 1, none⟩ = some (.int .i64 s.g.a) ∧ w.cell? ⟨b, 2, none⟩ = some (.int .i64 s.g.b) ∧ w.cell? ⟨b, 3, none⟩ = some (.int .i64 s.g.c) ∧ w.cell? ⟨b, 4, none⟩ = some (.int .i64 s.c) := by
  have p := fun k => cell_of_row w b k _ T (0, 0) h
  exact ⟨p 0, p 1, p 2, p 3, p 4⟩
theorem all_yes {α : Type} {f : α → Bool} {xs : List α} (h : ∀ j x, j < xs.length → xs[j]? = some x → f x = true) : xs.all f = true := by
  rw [List.all_eq_true]
  intro x hx
  obtain ⟨j, hj⟩ := List.mem_iff_getElem?.1 hx
  exact h j x (List.getElem?_eq_some_iff.1 hj).1 hj
theorem shpB_inB {s : Shp} : shpB s = (inB 0 s.w 7 && (amtB 1000 s.g && inB 0 s.c 1000000)) := rfl
set_option maxRecDepth 100000 in
set_option maxHeartbeats 4000000 in
theorem ships_any (A : Option Addr) (n c : Nat) (l : List Shp) (w : World) (hl : l.length = n) (hn : n ≤ maxLen) (hA : ShsAt w w.heap.size A l) :
    Calls Tryd.prog 43 #[.slice A n c] w fun e w' => e = .returned (.bool (l.all shpB)) ∧ Below w.heap.size w w' := by
  have HL := Lib.hid hl; have HA := Lib.hid hA; have HB0 := Lib.hid (Below.refl w.heap.size w)
  unfold maxLen at hn
  clear hl hA
  go_enter Tryd.func43, Tryd.ntmps43
  go_wp2_with fail
  go_loopw [7] (fun i wr => ∃ k : Nat, k ≤ n ∧ i = .int .i64 k ∧ (∀ j x, j < k → l[j]? = some x → shpB x = true) ∧ Below w.heap.size w wr) (fun i _ => n - (intOf i).toNat)
  case atStart => exact ⟨0, Nat.zero_le _, rfl, fun j _ hj => absurd hj (Nat.not_lt_zero _), HB0.out⟩
  case round =>
    obtain ⟨i, hi, rfl, hall, hbr⟩ := hrel
    have HBR := Lib.hid hbr; have HAL := Lib.hid hall
    clear hall
    by_cases hlt : i < n
    · obtain ⟨x, hx⟩ := get_of_lt (l := l) (k := i) (by rw [HL.out]; exact hlt)
      obtain ⟨b, o, rfl, hb, c0, c1, c2, c3, c4⟩ := sh_el HA.out hx
      replace c0 := ((bcell hbr).1 _ _ hb).trans c0
      replace c1 := ((bcell hbr).1 _ _ hb).trans c1
      replace c2 := ((bcell hbr).1 _ _ hb).trans c2
      replace c3 := ((bcell hbr).1 _ _ hb).trans c3
      replace c4 := ((bcell hbr).1 _ _ hb).trans c4
      have HX := Lib.hid hx
      have i0 : (0 : Int) ≤ (i : Int) := by omega
      have i1 : (i : Int) < (n : Int) := by omega
      have hv := heap_alloc_new wr (.cells (sC x) 44)
      have hbi := (Below.refl wr.heap.size wr).alloc (Nat.le_refl _) (.cells (sC x) 44)
      obtain ⟨q0, q1, q2, q3, q4⟩ := sc_cells hv
      obtain ⟨wi, hwi⟩ : ∃ z, wr.alloc (.cells (sC x) 44) = z := ⟨_, rfl⟩
      rw [hwi] at hv hbi
      have HV := Lib.hid hv; have HBI := Lib.hid (HBR.out.trans (hbi.mono HBR.out.size)); have HWI := Lib.hid hwi
      clear hbr hx hb hwi
      obtain ⟨F1, hF1⟩ : ∃ z, inB 0 x.w 7 = z := ⟨_, rfl⟩
      obtain ⟨F2, hF2⟩ : ∃ z, amtB 1000 x.g = z := ⟨_, rfl⟩
      obtain ⟨F3, hF3⟩ : ∃ z, inB 0 x.c 1000000 = z := ⟨_, rfl⟩
      have HSB : Hid (shpB x = (F1 && (F2 && F3))) := Lib.hid (by rw [shpB_inB, hF1, hF2, hF3])
      have K1 : Hid (∀ u, Calls Tryd.prog 42 #[.int .i64 0, .int .i64 x.w, .int .i64 7] u fun e w' => e = .returned (.bool F1) ∧ u = w') := Lib.hid fun u => by rw [← hF1]; exact from_any _ _ _ u
      have K2 : Hid (∀ u, Calls Tryd.prog 40 #[gV x.g] u fun e w' => e = .returned (.bool F2) ∧ Below u.heap.size u w') := Lib.hid fun u => by rw [← hF2]; exact amount_any _ u
      have K3 : Hid (∀ u, Calls Tryd.prog 42 #[.int .i64 0, .int .i64 x.c, .int .i64 1000000] u fun e w' => e = .returned (.bool F3) ∧ u = w') := Lib.hid fun u => by rw [← hF3]; exact from_any _ _ _ u
      have HNO : Hid (shpB x = false → l.all shpB = false) := Lib.hid fun h => all_no HX.out h
      clear hF1 hF2 hF3 hv hbi
      go_wp2_with fail
      rw [HWI.out]
      clear HWI c0 c1 c2 c3 c4 q0 q1 q2 q3 q4
      obtain ⟨c0, c1, c2, c3, c4⟩ := sc_cells HV.out
      refine (K1.out _).mono ?_
      rintro e w' ⟨rfl, rfl⟩
      cases F1 with
      | false =>
        have HR := Lib.hid (HNO.out HSB.out)
        go_wp2_with fail
        go_ret
        exact ⟨ret_bool HR.out.symm, HBI.out⟩
      | true =>
        go_wp2_with fail
        refine (K2.out _).mono ?_
        rintro e w2 ⟨rfl, hb⟩
        have HB2 := Lib.hid (HBI.out.trans (hb.mono HBI.out.size))
        have HV2 := Lib.hid ((hb.block _ (heapsz HV.out)).trans HV.out)
        clear hb c0 c1 c2 c3 c4
        cases F2 with
        | false =>
          have HR := Lib.hid (HNO.out HSB.out)
          go_wp2_with fail
          go_ret
          exact ⟨ret_bool HR.out.symm, HB2.out⟩
        | true =>
          obtain ⟨c0, c1, c2, c3, c4⟩ := sc_cells HV2.out
          go_wp2_with fail
          refine (K3.out _).mono ?_
          rintro e w' ⟨rfl, rfl⟩
          cases F3 with
          | false =>
            have HR := Lib.hid (HNO.out HSB.out)
            go_wp2_with fail
            go_ret
            exact ⟨ret_bool HR.out.symm, HB2.out⟩
          | true =>
            go_wp2_with fail
            refine ⟨⟨i + 1, by omega, by go_num, fun j y hj hy => ?_, HB2.out⟩, by simp [intOf]; omega⟩
            rcases Nat.lt_succ_iff_lt_or_eq.1 hj with h | rfl
            · exact HAL.out j y h hy
            · rw [HX.out] at hy
              cases hy
              exact HSB.out
    · have hke : i = n := by omega
      have i1 : ¬ (i : Int) < (n : Int) := by omega
      have HR : Hid (l.all shpB = true) := Lib.hid (all_yes fun j x hj hx => HAL.out j x (by rw [HL.out] at hj; omega) hx)
      clear hbr
      go_wp2_with fail
      go_ret
      exact ⟨ret_bool HR.out.symm, HBR.out⟩
end Go.Proofs.YtijjkiogmlannaaDoor

namespace Go.Proofs.YtijjkiogmlannaaDoor
open Go.RowKit

def icesB (S : Sto) : Bool := S.ices.all (fun i => decide ((i.length : Int) = S.land)) && inB 1 (S.ices.length : Int) 4
def winsB (S : Sto) : Bool := S.wins.all (fun v => decide ((v.length : Int) = S.weeks) && v.all (amtB 1000)) && inB 1 (S.wins.length : Int) 4
set_option maxRecDepth 100000 in
set_option maxHeartbeats 4000000 in
theorem ices_any {X : SX} {w : World} (h : X.In w) : Calls Tryd.prog 44 #[X.v] w fun e w' => e = .returned (.bool (icesB X.S)) ∧ Below w.heap.size w w' := by
  rcases X with ⟨S, AS, ns, cs, AI, ni, ci, AW, nw, cw⟩
  obtain ⟨z0, hb0⟩ := sto_new ⟨S, AS, ns, cs, AI, ni, ci, AW, nw, cw⟩ w
  obtain ⟨w1, hw1⟩ : ∃ z, w.alloc (.cells (SX.cells ⟨S, AS, ns, cs, AI, ni, ci, AW, nw, cw⟩) 28) = z := ⟨_, rfl⟩
  rw [hw1] at z0 hb0
  have HB0 := Lib.hid hb0; have Z0 := Lib.hid z0
  have hI := h.I.up hb0; have hl := h.hi; have hn := h.i2
  simp only at hI hl hn
  unfold maxLen at hn
  have HI := Lib.hid hI; have HL := Lib.hid hl
  obtain ⟨_, _, ⟨_, _, s8⟩, _, s10, _⟩ := sto_box z0
  simp only at s8 s10
  clear h z0 hb0 hI hl
  go_enter Tryd.func44, Tryd.ntmps44
  go_wp2_with fail
  clear s8 s10
  obtain ⟨_, _, ⟨_, _, s8⟩, _, s10, _⟩ := sto_box Z0.out
  simp only at s8 s10
  go_loopw [8] (fun i wr => ∃ k : Nat, k ≤ ni ∧ i = .int .i64 k ∧ (∀ j x, j < k → S.ices[j]? = some x → decide ((x.length : Int) = S.land) = true) ∧ wr = w1) (fun i _ => ni - (intOf i).toNat)
  case atStart => exact ⟨0, Nat.zero_le _, rfl, fun j _ hj => absurd hj (Nat.not_lt_zero _), rfl⟩
  case round =>
    obtain ⟨i, hi, rfl, hall, rfl⟩ := hrel
    have HAL := Lib.hid hall
    clear hall hw1
    by_cases hlt : i < ni
    · obtain ⟨x, hx⟩ := get_of_lt (l := S.ices) (k := i) (by rw [HL.out]; exact hlt)
      obtain ⟨b, o, A', m, c', rfl, hb, hm, d1, _, hm2⟩ := grid_row HI.out hx
      have i0 : (0 : Int) ≤ (i : Int) := by omega
      have i1 : (i : Int) < (ni : Int) := by omega
      have HX := Lib.hid hx; have HM := Lib.hid hm
      obtain ⟨F, hF⟩ : ∃ z, decide ((x.length : Int) = S.land) = z := ⟨_, rfl⟩
      have HF := Lib.hid hF
      have hne : ((m : Int) != S.land) = !F := by rw [← hF, hm]; rfl
      clear hx hm hF hm2
      cases F with
      | true =>
        simp only [Bool.not_true] at hne
        go_wp2_with fail
        refine ⟨⟨i + 1, by omega, by go_num, fun j y hj hy => ?_, trivial⟩, by simp [intOf]; omega⟩
        rcases Nat.lt_succ_iff_lt_or_eq.1 hj with h | rfl
        · exact HAL.out j y h hy
        · rw [HX.out] at hy
          cases hy
          exact HF.out
      | false =>
        simp only [Bool.not_false] at hne
        have HR : Hid (icesB S = false) := Lib.hid (by unfold icesB; rw [all_no HX.out HF.out]; rfl)
        go_wp2_with fail
        go_ret
        exact ⟨ret_bool HR.out.symm, HB0.out⟩
    · have hke : i = ni := by omega
      have i1 : ¬ (i : Int) < (ni : Int) := by omega
      have HR : Hid (icesB S = inB 1 (ni : Int) 4) := Lib.hid (by
        unfold icesB
        rw [all_yes fun j x hj hx => HAL.out j x (by rw [HL.out] at hj; omega) hx, HL.out]
        rfl)
      go_wp2_with fail
      refine (from_any _ _ _ _).mono ?_
      rintro e w' ⟨rfl, rfl⟩
      go_wp2_with fail
      go_ret
      exact ⟨ret_bool HR.out.symm, HB0.out⟩
set_option maxRecDepth 100000 in
set_option maxHeartbeats 4000000 in
theorem wins_any {X : SX} {w : World} (h : X.In w) : Calls Tryd.prog 45 #[X.v] w fun e w' => e = .returned (.bool (winsB X.S)) ∧ Below w.heap.size w w' := by
  rcases X with ⟨S, AS, ns, cs, AI, ni, ci, AW, nw, cw⟩
  obtain ⟨z0, hb0⟩ := sto_new ⟨S, AS, ns, cs, AI, ni, ci, AW, nw, cw⟩ w
  obtain ⟨w1, hw1⟩ : ∃ z, w.alloc (.cells (SX.cells ⟨S, AS, ns, cs, AI, ni, ci, AW, nw, cw⟩) 28) = z := ⟨_, rfl⟩
  rw [hw1] at z0 hb0
  have HB0 := Lib.hid hb0; have Z0 := Lib.hid z0
  have hI := h.W.up hb0; have hl := h.hw; have hn := h.w2
  simp only at hI hl hn
  unfold maxLen at hn
  have HI := Lib.hid hI; have HL := Lib.hid hl
  obtain ⟨_, _, ⟨_, s7, _⟩, _, _, s11⟩ := sto_box z0
  simp only at s7 s11
  clear h z0 hb0 hI hl
  go_enter Tryd.func45, Tryd.ntmps45
  go_wp2_with fail
  clear s7 s11
  go_loopw [10] (fun i wr => ∃ k : Nat, k ≤ nw ∧ i = .int .i64 k ∧ (∀ j x, j < k → S.wins[j]? = some x → (decide ((x.length : Int) = S.weeks) && x.all (amtB 1000)) = true) ∧ Below w1.heap.size w1 wr) (fun i _ => nw - (intOf i).toNat)
  case atStart => exact ⟨0, Nat.zero_le _, rfl, fun j _ hj => absurd hj (Nat.not_lt_zero _), Below.refl _ _⟩
  case round =>
    obtain ⟨i, hi, rfl, hall, hbr⟩ := hrel
    have HAL := Lib.hid hall; have HBR := Lib.hid hbr
    clear hall hw1
    by_cases hlt : i < nw
    · obtain ⟨x, hx⟩ := get_of_lt (l := S.wins) (k := i) (by rw [HL.out]; exact hlt)
      obtain ⟨b, o, A', m, c', rfl, hb, hm, d1, p1, hm2⟩ := grid_row (HI.out.up hbr) hx
      obtain ⟨_, _, ⟨_, s7, _⟩, _, _, s11⟩ := sto_box ((hbr.block _ (heapsz Z0.out)).trans Z0.out)
      simp only at s7 s11
      have i0 : (0 : Int) ≤ (i : Int) := by omega
      have i1 : (i : Int) < (nw : Int) := by omega
      have HX := Lib.hid hx; have HM := Lib.hid hm; have HP := Lib.hid p1
      obtain ⟨F, hF⟩ : ∃ z, decide ((x.length : Int) = S.weeks) = z := ⟨_, rfl⟩
      have HF := Lib.hid hF
      have hne : ((m : Int) != S.weeks) = !F := by rw [← hF, hm]; rfl
      unfold maxLen at hm2
      clear hx hm hF p1 hbr
      cases F with
      | true =>
        simp only [Bool.not_true] at hne
        go_wp2_with fail
        clear s7 s11 d1 hne
        rename World => wo
        go_loopw [21] (fun v wq => ∃ k : Nat, k ≤ m ∧ v = .int .i64 k ∧ (∀ j y, j < k → x[j]? = some y → amtB 1000 y = true) ∧ Below wo.heap.size wo wq) (fun v _ => m - (intOf v).toNat)
        case atStart => exact ⟨0, Nat.zero_le _, rfl, fun j _ hj => absurd hj (Nat.not_lt_zero _), Below.refl _ _⟩
        case round =>
          obtain ⟨k, hk, rfl, hall2, hbq⟩ := hrel
          have HA2 := Lib.hid hall2; have HBQ := Lib.hid (HBR.out.trans (hbq.mono HBR.out.size)); have HBO := Lib.hid hbq
          clear hall2
          by_cases hkt : k < m
          · obtain ⟨y, hy⟩ := get_of_lt (l := x) (k := k) (by rw [← HM.out]; exact hkt)
            obtain ⟨e1, f1, rfl, he1, x1, x2, x3⟩ := gds_el HP.out hy
            replace x1 := ((bcell hbq).1 _ _ he1).trans x1
            replace x2 := ((bcell hbq).1 _ _ he1).trans x2
            replace x3 := ((bcell hbq).1 _ _ he1).trans x3
            have k0 : (0 : Int) ≤ (k : Int) := by omega
            have k1 : (k : Int) < (m : Int) := by omega
            have HY := Lib.hid hy
            obtain ⟨q0, q1, q2⟩ := g_cells (heap_alloc_new wr (.cells (gC y) 23))
            obtain ⟨F2, hF2⟩ : ∃ z, amtB 1000 y = z := ⟨_, rfl⟩
            have HF2 := Lib.hid hF2
            have K2 : Hid (∀ u, Calls Tryd.prog 40 #[gV y] u fun e w' => e = .returned (.bool F2) ∧ Below u.heap.size u w') := Lib.hid fun u => by rw [← hF2]; exact amount_any _ u
            clear hy hF2 hbq he1
            go_wp2_with fail
            refine (K2.out _).mono ?_
            rintro e w2 ⟨rfl, hb⟩
            have hba := (Below.refl wr.heap.size wr).alloc (Nat.le_refl _) (.cells (gC y) 23)
            have HB2 := Lib.hid (hba.trans (hb.mono hba.size))
            clear hb hba q0 q1 q2 x1 x2 x3
            cases F2 with
            | true =>
              go_wp2_with fail
              refine ⟨⟨k + 1, by omega, by go_num, fun j z hj hz => ?_, HBO.out.trans (HB2.out.mono HBO.out.size)⟩, by simp [intOf]; omega⟩
              rcases Nat.lt_succ_iff_lt_or_eq.1 hj with h | rfl
              · exact HA2.out j z h hz
              · rw [HY.out] at hz
                cases hz
                exact HF2.out
            | false =>
              have HR : Hid (winsB S = false) := Lib.hid (by
                have h1 : (decide ((x.length : Int) = S.weeks) && x.all (amtB 1000)) = false := by rw [all_no HY.out HF2.out, Bool.and_false]
                unfold winsB
                rw [all_no HX.out h1]
                rfl)
              go_wp2_with fail
              go_ret
              exact ⟨ret_bool HR.out.symm, HB0.out.trans ((HBQ.out.trans (HB2.out.mono HBQ.out.size)).mono HB0.out.size)⟩
          · have hke : k = m := by omega
            have k1 : ¬ (k : Int) < (m : Int) := by omega
            have HA3 : Hid (x.all (amtB 1000) = true) := Lib.hid (all_yes fun j z hj hz => HA2.out j z (by rw [← HM.out] at hj; omega) hz)
            clear hbq
            go_wp2_with fail
            refine ⟨⟨i + 1, by omega, by go_num, fun j y hj hy => ?_, HBQ.out⟩, by simp [intOf]; omega⟩
            rcases Nat.lt_succ_iff_lt_or_eq.1 hj with h | rfl
            · exact HAL.out j y h hy
            · rw [HX.out] at hy
              cases hy
              rw [HF.out, HA3.out]
              rfl
      | false =>
        simp only [Bool.not_false] at hne
        have HR : Hid (winsB S = false) := Lib.hid (by
          have h1 : (decide ((x.length : Int) = S.weeks) && x.all (amtB 1000)) = false := by rw [HF.out, Bool.false_and]
          unfold winsB
          rw [all_no HX.out h1]
          rfl)
        go_wp2_with fail
        go_ret
        exact ⟨ret_bool HR.out.symm, HB0.out.trans (HBR.out.mono HB0.out.size)⟩
    · have hke : i = nw := by omega
      have i1 : ¬ (i : Int) < (nw : Int) := by omega
      obtain ⟨_, _, ⟨_, s7, _⟩, _, _, s11⟩ := sto_box ((hbr.block _ (heapsz Z0.out)).trans Z0.out)
      simp only at s7 s11
      have HR : Hid (winsB S = inB 1 (nw : Int) 4) := Lib.hid (by
        unfold winsB
        rw [all_yes fun j x hj hx => HAL.out j x (by rw [HL.out] at hj; omega) hx, HL.out]
        rfl)
      clear hbr
      go_wp2_with fail
      refine (from_any _ _ _ _).mono ?_
      rintro e w' ⟨rfl, rfl⟩
      go_wp2_with fail
      go_ret
      exact ⟨ret_bool HR.out.symm, HB0.out.trans (HBR.out.mono HB0.out.size)⟩
end Go.Proofs.YtijjkiogmlannaaDoor

namespace Go.Proofs.YtijjkiogmlannaaDoor
open Go.RowKit

theorem stoB_eq (S : Sto) : stoB S = (amtB 1000 S.st && (amtB 1000 S.yd && (leB S.st S.yd && (inB 0 S.rate 3000 && (inB 1 S.weeks 30 && (inB 1 S.land (min 8 S.weeks) && (!decide (6 < (S.ships.length : Int)) && (S.ships.all shpB && (icesB S && winsB S))))))))) := by
  rw [Bool.eq_iff_iff, stoB_iff]
  unfold icesB winsB
  simp only [Bool.and_eq_true, inB_iff, Bool.not_eq_true', decide_eq_false_iff_not, List.all_eq_true, decide_eq_true_eq]
  constructor
  · intro K
    have h1 := K.rate; have h2 := K.weeks; have h3 := K.land; have h4 := K.n6; have h5 := K.i4; have h6 := K.w4
    exact ⟨K.st, K.yd, K.fit, h1, h2, by omega, by omega, K.ships, ⟨K.ices, by omega⟩, K.wins, by omega⟩
  · rintro ⟨h1, h2, h3, h4, h5, h6, h7, h8, ⟨h9, h10⟩, h11, h12⟩
    exact ⟨h1, h2, h3, h4, h5, by omega, by omega, h8, by omega, h9, by omega, h11⟩
def chkI (S : Sto) : Int := if stoB S then 0 else 2
set_option maxRecDepth 100000 in
set_option maxHeartbeats 4000000 in
theorem Check_any {X : SX} {w : World} (h : X.In w) : Calls Tryd.prog 14 #[X.v] w fun e w' => e = .returned (.int .i64 (chkI X.S)) ∧ Below w.heap.size w w' := by
  rcases X with ⟨S, AS, ns, cs, AI, ni, ci, AW, nw, cw⟩
  obtain ⟨z0, hb0⟩ := sto_new ⟨S, AS, ns, cs, AI, ni, ci, AW, nw, cw⟩ w
  obtain ⟨w1, hw1⟩ : ∃ z, w.alloc (.cells (SX.cells ⟨S, AS, ns, cs, AI, ni, ci, AW, nw, cw⟩) 28) = z := ⟨_, rfl⟩
  rw [hw1] at z0 hb0
  have HB1 := Lib.hid hb0; have Z1 := Lib.hid z0; have HI1 := Lib.hid (h.up hb0)
  have hl := h.hs; have hn := h.s2
  simp only at hl hn
  unfold maxLen at hn
  obtain ⟨⟨s0, s1, s2⟩, ⟨s3, s4, s5⟩, ⟨s6, s7, s8⟩, s9, s10, s11⟩ := sto_box z0
  simp only at s0 s1 s2 s3 s4 s5 s6 s7 s8 s9 s10 s11
  have heq := stoB_eq S
  obtain ⟨C1, hC1⟩ : ∃ z, amtB 1000 S.st = z := ⟨_, rfl⟩
  obtain ⟨C2, hC2⟩ : ∃ z, amtB 1000 S.yd = z := ⟨_, rfl⟩
  obtain ⟨C3, hC3⟩ : ∃ z, leB S.st S.yd = z := ⟨_, rfl⟩
  obtain ⟨C4, hC4⟩ : ∃ z, inB 0 S.rate 3000 = z := ⟨_, rfl⟩
  obtain ⟨C5, hC5⟩ : ∃ z, inB 1 S.weeks 30 = z := ⟨_, rfl⟩
  obtain ⟨C6, hC6⟩ : ∃ z, inB 1 S.land (min 8 S.weeks) = z := ⟨_, rfl⟩
  obtain ⟨C8, hC8⟩ : ∃ z, S.ships.all shpB = z := ⟨_, rfl⟩
  obtain ⟨C9, hC9⟩ : ∃ z, icesB S = z := ⟨_, rfl⟩
  obtain ⟨C10, hC10⟩ : ∃ z, winsB S = z := ⟨_, rfl⟩
  have KC1 : Hid (∀ u, Calls Tryd.prog 40 #[gV S.st] u fun e w' => e = .returned (.bool C1) ∧ Below u.heap.size u w') := Lib.hid fun u => by rw [← hC1]; exact amount_any _ u
  have KC2 : Hid (∀ u, Calls Tryd.prog 40 #[gV S.yd] u fun e w' => e = .returned (.bool C2) ∧ Below u.heap.size u w') := Lib.hid fun u => by rw [← hC2]; exact amount_any _ u
  have KC3 : Hid (∀ u, Calls Tryd.prog 41 #[gV S.st, gV S.yd] u fun e w' => e = .returned (.bool C3) ∧ Below u.heap.size u w') := Lib.hid fun u => by rw [← hC3]; exact fits_any _ _ u
  have KC4 : Hid (∀ u, Calls Tryd.prog 42 #[.int .i64 0, .int .i64 S.rate, .int .i64 3000] u fun e w' => e = .returned (.bool C4) ∧ u = w') := Lib.hid fun u => by rw [← hC4]; exact from_any _ _ _ u
  have KC5 : Hid (∀ u, Calls Tryd.prog 42 #[.int .i64 1, .int .i64 S.weeks, .int .i64 30] u fun e w' => e = .returned (.bool C5) ∧ u = w') := Lib.hid fun u => by rw [← hC5]; exact from_any _ _ _ u
  have KC6 : Hid (∀ u, Calls Tryd.prog 42 #[.int .i64 1, .int .i64 S.land, .int .i64 (min 8 S.weeks)] u fun e w' => e = .returned (.bool C6) ∧ u = w') := Lib.hid fun u => by rw [← hC6]; exact from_any _ _ _ u
  have KC8 : Hid (∀ u, Below w1.heap.size w1 u → Calls Tryd.prog 43 #[.slice AS ns cs] u fun e w' => e = .returned (.bool C8) ∧ Below u.heap.size u w') := Lib.hid fun u hu => by rw [← hC8]; exact ships_any AS ns cs S.ships u hl (by unfold maxLen; omega) (HI1.out.up hu).P
  have KC9 : Hid (∀ u, Below w1.heap.size w1 u → Calls Tryd.prog 44 #[SX.v ⟨S, AS, ns, cs, AI, ni, ci, AW, nw, cw⟩] u fun e w' => e = .returned (.bool C9) ∧ Below u.heap.size u w') := Lib.hid fun u hu => by rw [← hC9]; exact ices_any (HI1.out.up hu)
  have KC10 : Hid (∀ u, Below w1.heap.size w1 u → Calls Tryd.prog 45 #[SX.v ⟨S, AS, ns, cs, AI, ni, ci, AW, nw, cw⟩] u fun e w' => e = .returned (.bool C10) ∧ Below u.heap.size u w') := Lib.hid fun u hu => by rw [← hC10]; exact wins_any (HI1.out.up hu)
  rw [hC1, hC2, hC3, hC4, hC5, hC6, hC8, hC9, hC10, hl] at heq
  have HEQ := Lib.hid heq
  have HBX := Lib.hid (Below.refl w1.heap.size w1)
  have HW1 := Lib.hid hw1
  clear heq hC1 hC2 hC3 hC4 hC5 hC6 hC8 hC9 hC10 h z0 hb0
  show Calls _ _ _ _ fun e w' => e = .returned (.int .i64 (chkI S)) ∧ _
  go_enter Tryd.func14, Tryd.ntmps14
  go_wp2_with fail
  try rw [HW1.out]
  clear hw1
  refine (KC1.out _).mono ?_
  rintro e wn ⟨rfl, hb⟩
  replace HBX := Lib.hid (HBX.out.trans (hb.mono HBX.out.size)); have ZN := Lib.hid ((HBX.out.block _ (heapsz Z1.out)).trans Z1.out)
  clear hb s0 s1 s2 s3 s4 s5 s6 s7 s8 s9 s10 s11
  obtain ⟨⟨s0, s1, s2⟩, ⟨s3, s4, s5⟩, ⟨s6, s7, s8⟩, s9, s10, s11⟩ := sto_box ZN.out
  simp only at s0 s1 s2 s3 s4 s5 s6 s7 s8 s9 s10 s11
  clear ZN
  cases C1 with
  | false =>
    have HR : Hid (chkI S = 2) := Lib.hid (by unfold chkI; rw [HEQ.out]; simp)
    go_wp2_with fail
    go_ret
    exact ⟨congrArg (fun z => Ending.returned (Value.int .i64 z)) HR.out.symm, HB1.out.trans (HBX.out.mono HB1.out.size)⟩
  | true =>
    go_wp2_with fail
    refine (KC2.out _).mono ?_
    rintro e wn ⟨rfl, hb⟩
    replace HBX := Lib.hid (HBX.out.trans (hb.mono HBX.out.size)); have ZN := Lib.hid ((HBX.out.block _ (heapsz Z1.out)).trans Z1.out)
    clear hb s0 s1 s2 s3 s4 s5 s6 s7 s8 s9 s10 s11
    obtain ⟨⟨s0, s1, s2⟩, ⟨s3, s4, s5⟩, ⟨s6, s7, s8⟩, s9, s10, s11⟩ := sto_box ZN.out
    simp only at s0 s1 s2 s3 s4 s5 s6 s7 s8 s9 s10 s11
    clear ZN
    cases C2 with
    | false =>
      have HR : Hid (chkI S = 2) := Lib.hid (by unfold chkI; rw [HEQ.out]; simp)
      go_wp2_with fail
      go_ret
      exact ⟨congrArg (fun z => Ending.returned (Value.int .i64 z)) HR.out.symm, HB1.out.trans (HBX.out.mono HB1.out.size)⟩
    | true =>
      go_wp2_with fail
      refine (KC3.out _).mono ?_
      rintro e wn ⟨rfl, hb⟩
      replace HBX := Lib.hid (HBX.out.trans (hb.mono HBX.out.size)); have ZN := Lib.hid ((HBX.out.block _ (heapsz Z1.out)).trans Z1.out)
      clear hb s0 s1 s2 s3 s4 s5 s6 s7 s8 s9 s10 s11
      obtain ⟨⟨s0, s1, s2⟩, ⟨s3, s4, s5⟩, ⟨s6, s7, s8⟩, s9, s10, s11⟩ := sto_box ZN.out
      simp only at s0 s1 s2 s3 s4 s5 s6 s7 s8 s9 s10 s11
      clear ZN
      cases C3 with
      | false =>
        have HR : Hid (chkI S = 2) := Lib.hid (by unfold chkI; rw [HEQ.out]; simp)
        go_wp2_with fail
        go_ret
        exact ⟨congrArg (fun z => Ending.returned (Value.int .i64 z)) HR.out.symm, HB1.out.trans (HBX.out.mono HB1.out.size)⟩
      | true =>
        go_wp2_with fail
        refine (KC4.out _).mono ?_
        rintro e w' ⟨rfl, rfl⟩
        cases C4 with
        | false =>
          have HR : Hid (chkI S = 2) := Lib.hid (by unfold chkI; rw [HEQ.out]; simp)
          go_wp2_with fail
          go_ret
          exact ⟨congrArg (fun z => Ending.returned (Value.int .i64 z)) HR.out.symm, HB1.out.trans (HBX.out.mono HB1.out.size)⟩
        | true =>
          go_wp2_with fail
          refine (KC5.out _).mono ?_
          rintro e w' ⟨rfl, rfl⟩
          cases C5 with
          | false =>
            have HR : Hid (chkI S = 2) := Lib.hid (by unfold chkI; rw [HEQ.out]; simp)
            go_wp2_with fail
            go_ret
            exact ⟨congrArg (fun z => Ending.returned (Value.int .i64 z)) HR.out.symm, HB1.out.trans (HBX.out.mono HB1.out.size)⟩
          | true =>
            by_cases h8 : S.weeks < 8
            all_goals
              first
                | (have hM : min 8 S.weeks = S.weeks := by omega
                   rw [hM] at KC6)
                | (have hM : min 8 S.weeks = 8 := by omega
                   rw [hM] at KC6)
              go_wp2_with fail
              clear h8
              refine (KC6.out _).mono ?_
              rintro e w' ⟨rfl, rfl⟩
              cases C6 with
              | false =>
                have HR : Hid (chkI S = 2) := Lib.hid (by unfold chkI; rw [HEQ.out]; simp)
                go_wp2_with fail
                go_ret
                exact ⟨congrArg (fun z => Ending.returned (Value.int .i64 z)) HR.out.symm, HB1.out.trans (HBX.out.mono HB1.out.size)⟩
              | true =>
                by_cases hc7 : 6 < (ns : Int)
                · have HR : Hid (chkI S = 2) := Lib.hid (by unfold chkI; rw [HEQ.out, decide_eq_true hc7]; simp)
                  go_wp2_with fail
                  go_ret
                  exact ⟨congrArg (fun z => Ending.returned (Value.int .i64 z)) HR.out.symm, HB1.out.trans (HBX.out.mono HB1.out.size)⟩
                rw [decide_eq_false hc7] at HEQ
                go_wp2_with fail
                refine (KC8.out _ HBX.out).mono ?_
                rintro e wn ⟨rfl, hb⟩
                replace HBX := Lib.hid (HBX.out.trans (hb.mono HBX.out.size)); have ZN := Lib.hid ((HBX.out.block _ (heapsz Z1.out)).trans Z1.out)
                clear hb s0 s1 s2 s3 s4 s5 s6 s7 s8 s9 s10 s11
                obtain ⟨⟨s0, s1, s2⟩, ⟨s3, s4, s5⟩, ⟨s6, s7, s8⟩, s9, s10, s11⟩ := sto_box ZN.out
                simp only at s0 s1 s2 s3 s4 s5 s6 s7 s8 s9 s10 s11
                clear ZN
                cases C8 with
                | false =>
                  have HR : Hid (chkI S = 2) := Lib.hid (by unfold chkI; rw [HEQ.out]; simp)
                  go_wp2_with fail
                  go_ret
                  exact ⟨congrArg (fun z => Ending.returned (Value.int .i64 z)) HR.out.symm, HB1.out.trans (HBX.out.mono HB1.out.size)⟩
                | true =>
                  go_wp2_with fail
                  refine (KC9.out _ HBX.out).mono ?_
                  rintro e wn ⟨rfl, hb⟩
                  replace HBX := Lib.hid (HBX.out.trans (hb.mono HBX.out.size)); have ZN := Lib.hid ((HBX.out.block _ (heapsz Z1.out)).trans Z1.out)
                  clear hb s0 s1 s2 s3 s4 s5 s6 s7 s8 s9 s10 s11
                  obtain ⟨⟨s0, s1, s2⟩, ⟨s3, s4, s5⟩, ⟨s6, s7, s8⟩, s9, s10, s11⟩ := sto_box ZN.out
                  simp only at s0 s1 s2 s3 s4 s5 s6 s7 s8 s9 s10 s11
                  clear ZN
                  cases C9 with
                  | false =>
                    have HR : Hid (chkI S = 2) := Lib.hid (by unfold chkI; rw [HEQ.out]; simp)
                    go_wp2_with fail
                    go_ret
                    exact ⟨congrArg (fun z => Ending.returned (Value.int .i64 z)) HR.out.symm, HB1.out.trans (HBX.out.mono HB1.out.size)⟩
                  | true =>
                    go_wp2_with fail
                    refine (KC10.out _ HBX.out).mono ?_
                    rintro e wn ⟨rfl, hb⟩
                    replace HBX := Lib.hid (HBX.out.trans (hb.mono HBX.out.size)); have ZN := Lib.hid ((HBX.out.block _ (heapsz Z1.out)).trans Z1.out)
                    clear hb s0 s1 s2 s3 s4 s5 s6 s7 s8 s9 s10 s11
                    obtain ⟨⟨s0, s1, s2⟩, ⟨s3, s4, s5⟩, ⟨s6, s7, s8⟩, s9, s10, s11⟩ := sto_box ZN.out
                    simp only at s0 s1 s2 s3 s4 s5 s6 s7 s8 s9 s10 s11
                    clear ZN
                    cases C10 with
                    | false =>
                      have HR : Hid (chkI S = 2) := Lib.hid (by unfold chkI; rw [HEQ.out]; simp)
                      go_wp2_with fail
                      go_ret
                      exact ⟨congrArg (fun z => Ending.returned (Value.int .i64 z)) HR.out.symm, HB1.out.trans (HBX.out.mono HB1.out.size)⟩
                    | true =>
                      have HR : Hid (chkI S = 0) := Lib.hid (by unfold chkI; rw [HEQ.out]; simp)
                      go_wp2_with fail
                      go_ret
                      exact ⟨congrArg (fun z => Ending.returned (Value.int .i64 z)) HR.out.symm, HB1.out.trans (HBX.out.mono HB1.out.size)⟩
end Go.Proofs.YtijjkiogmlannaaDoor

namespace Go.Proofs.YtijjkiogmlannaaDoor
open Go.RowKit

def planOk (S : Sto) (p : Int) : Bool := inB 0 p ((2 ^ S.ships.length : Nat) - 1 : Int)
def chpI (S : Sto) (p : Int) : Int := if stoB S && planOk S p then 0 else 2
set_option maxRecDepth 100000 in
set_option maxHeartbeats 4000000 in
theorem checkPlan_any {X : SX} {w : World} (h : X.In w) (p : Int) : Calls Tryd.prog 46 #[X.v, .int .i64 p] w fun e w' => e = .returned (.int .i64 (chpI X.S p)) ∧ Below w.heap.size w w' := by
  rcases X with ⟨S, AS, ns, cs, AI, ni, ci, AW, nw, cw⟩
  obtain ⟨z0, hb0⟩ := sto_new ⟨S, AS, ns, cs, AI, ni, ci, AW, nw, cw⟩ w
  obtain ⟨⟨s0, s1, s2⟩, ⟨s3, s4, s5⟩, ⟨s6, s7, s8⟩, s9, s10, s11⟩ := sto_box z0
  simp only at s0 s1 s2 s3 s4 s5 s6 s7 s8 s9 s10 s11
  obtain ⟨w1, hw1⟩ : ∃ z, w.alloc (.cells (SX.cells ⟨S, AS, ns, cs, AI, ni, ci, AW, nw, cw⟩) 28) = z := ⟨_, rfl⟩
  rw [hw1] at z0 hb0
  have HB1 := Lib.hid hb0; have Z1 := Lib.hid z0; have HI1 := Lib.hid (h.up hb0); have HW1 := Lib.hid hw1
  have hl := h.hs
  simp only at hl
  have HL := Lib.hid hl
  have hck := Check_any HI1.out
  obtain ⟨B, hB⟩ : ∃ z, stoB S = z := ⟨_, rfl⟩
  have hci : chkI S = if B then 0 else 2 := by unfold chkI; rw [hB]
  simp only at hck
  rw [hci] at hck
  have HS := Lib.hid hB
  have HCK := Lib.hid hck
  show Calls _ _ _ _ fun e w' => e = .returned (.int .i64 (chpI S p)) ∧ _
  clear h z0 hb0 hl hck hci hB hw1
  go_enter Tryd.func46, Tryd.ntmps46
  cases B with
  | false =>
    have HR : Hid (chpI S p = 2) := Lib.hid (by unfold chpI; rw [HS.out]; rfl)
    go_wp2_with fail
    rw [HW1.out]
    refine HCK.out.mono ?_
    rintro e w2 ⟨rfl, hb⟩
    have HB2 := Lib.hid (HB1.out.trans (hb.mono HB1.out.size))
    clear hb
    go_wp2_with fail
    go_ret
    exact ⟨congrArg (fun z => Ending.returned (Value.int .i64 z)) HR.out.symm, HB2.out⟩
  | true =>
    have hn6 := (stoB_iff.1 HS.out).n6
    rw [HL.out] at hn6
    go_wp2_with fail
    rw [HW1.out]
    refine HCK.out.mono ?_
    rintro e w2 ⟨rfl, hb⟩
    have HB2 := Lib.hid (HB1.out.trans (hb.mono HB1.out.size)); have Z2 := Lib.hid ((hb.block _ (heapsz Z1.out)).trans Z1.out)
    clear hb s0 s1 s2 s3 s4 s5 s6 s7 s8 s9 s10 s11
    obtain ⟨_, _, _, s9, _, _⟩ := sto_box Z2.out
    simp only at s9
    obtain ⟨F, hF⟩ : ∃ z, planOk S p = z := ⟨_, rfl⟩
    have HF := Lib.hid hF
    have HC : Hid (∀ u, Calls Tryd.prog 42 #[.int .i64 0, .int .i64 p, .int .i64 ((2 ^ ns : Nat) - 1 : Int)] u fun e w' => e = .returned (.bool F) ∧ u = w') := Lib.hid fun u => by
      rw [← hF]
      unfold planOk
      rw [HL.out]
      exact from_any _ _ _ u
    have HR : Hid (chpI S p = if F then 0 else 2) := Lib.hid (by unfold chpI; rw [HS.out, hF]; rfl)
    clear hF HL HI1 HS
    rcases (show ns = 0 ∨ ns = 1 ∨ ns = 2 ∨ ns = 3 ∨ ns = 4 ∨ ns = 5 ∨ ns = 6 by omega) with rfl | rfl | rfl | rfl | rfl | rfl | rfl
    all_goals
      go_wp2_with fail
      refine (HC.out _).mono ?_
      rintro e w' ⟨rfl, rfl⟩
      cases F with
      | false =>
        go_wp2_with fail
        go_ret
        exact ⟨congrArg (fun z => Ending.returned (Value.int .i64 z)) HR.out.symm, HB2.out⟩
      | true =>
        go_wp2_with fail
        go_ret
        exact ⟨congrArg (fun z => Ending.returned (Value.int .i64 z)) HR.out.symm, HB2.out⟩
set_option maxRecDepth 100000 in
set_option maxHeartbeats 1000000 in
theorem ice_any {X : SX} {w : World} (i : Int) : Calls Tryd.prog 18 #[X.v, .int .i64 i] w fun e w' => e = .returned (.bool (decide (0 ≤ i ∧ i < (X.ni : Int)))) ∧ Below w.heap.size w w' := by
  rcases X with ⟨S, AS, ns, cs, AI, ni, ci, AW, nw, cw⟩
  obtain ⟨z0, hb0⟩ := sto_new ⟨S, AS, ns, cs, AI, ni, ci, AW, nw, cw⟩ w
  obtain ⟨_, _, _, _, s10, _⟩ := sto_box z0
  simp only at s10
  have HB := Lib.hid hb0
  clear z0 hb0
  show Calls _ _ _ _ fun e w' => e = .returned (.bool (decide (0 ≤ i ∧ i < (ni : Int)))) ∧ _
  by_cases h1 : 0 ≤ i <;> by_cases h2 : i < (ni : Int)
  all_goals
    go_enter Tryd.func18, Tryd.ntmps18
    go_wp2_with fail
    go_ret
    exact ⟨ret_bool (by simp [h1, h2]), HB.out⟩
set_option maxRecDepth 100000 in
set_option maxHeartbeats 1000000 in
theorem winter_any {X : SX} {w : World} (i : Int) : Calls Tryd.prog 19 #[X.v, .int .i64 i] w fun e w' => e = .returned (.bool (decide (0 ≤ i ∧ i < (X.nw : Int)))) ∧ Below w.heap.size w w' := by
  rcases X with ⟨S, AS, ns, cs, AI, ni, ci, AW, nw, cw⟩
  obtain ⟨z0, hb0⟩ := sto_new ⟨S, AS, ns, cs, AI, ni, ci, AW, nw, cw⟩ w
  obtain ⟨_, _, _, _, _, s11⟩ := sto_box z0
  simp only at s11
  have HB := Lib.hid hb0
  clear z0 hb0
  show Calls _ _ _ _ fun e w' => e = .returned (.bool (decide (0 ≤ i ∧ i < (nw : Int)))) ∧ _
  by_cases h1 : 0 ≤ i <;> by_cases h2 : i < (nw : Int)
  all_goals
    go_enter Tryd.func19, Tryd.ntmps19
    go_wp2_with fail
    go_ret
    exact ⟨ret_bool (by simp [h1, h2]), HB.out⟩

/-! ### The statements' package -/

set_option maxHeartbeats 400000 in
theorem rin_any (n a b : Int) (w : World) :
    Calls Tryd.prog 49 #[.int .i64 n, .int .i64 a, .int .i64 b] w fun e w' => e = .returned (.bool (inB a n b)) ∧ w = w' := by
  by_cases h1 : a ≤ n <;> by_cases h3 : n ≤ b
  all_goals
    go_enter Tryd.func49, Tryd.ntmps49
    go_wp2
    go_ret
    exact ⟨by simp [inB, h1, h3], rfl⟩
theorem amtB_inB (m : Int) (g : Gd) : amtB m g = (inB 0 g.a m && (inB 0 g.b m && inB 0 g.c m)) := rfl
set_option maxRecDepth 100000 in
set_option maxHeartbeats 1000000 in
theorem rgoods_any (g : Gd) (w : World) : Calls Tryd.prog 48 #[gV g] w fun e w' => e = .returned (.bool (amtB 1000 g)) ∧ Below w.heap.size w w' := by
  have z0 := heap_alloc_new w (.cells (gC g) 23)
  have HB := Lib.hid ((Below.refl w.heap.size w).alloc (Nat.le_refl _) (.cells (gC g) 23))
  obtain ⟨c0, c1, c2⟩ := g_cells z0
  rw [amtB_inB]
  obtain ⟨F1, hF1⟩ : ∃ z, inB 0 g.a 1000 = z := ⟨_, rfl⟩
  obtain ⟨F2, hF2⟩ : ∃ z, inB 0 g.b 1000 = z := ⟨_, rfl⟩
  obtain ⟨F3, hF3⟩ : ∃ z, inB 0 g.c 1000 = z := ⟨_, rfl⟩
  have K1 : Hid (∀ u, Calls Tryd.prog 49 #[.int .i64 g.a, .int .i64 0, .int .i64 1000] u fun e w' => e = .returned (.bool F1) ∧ u = w') := Lib.hid fun u => by rw [← hF1]; exact rin_any _ _ _ u
  have K2 : Hid (∀ u, Calls Tryd.prog 49 #[.int .i64 g.b, .int .i64 0, .int .i64 1000] u fun e w' => e = .returned (.bool F2) ∧ u = w') := Lib.hid fun u => by rw [← hF2]; exact rin_any _ _ _ u
  have K3 : Hid (∀ u, Calls Tryd.prog 49 #[.int .i64 g.c, .int .i64 0, .int .i64 1000] u fun e w' => e = .returned (.bool F3) ∧ u = w') := Lib.hid fun u => by rw [← hF3]; exact rin_any _ _ _ u
  rw [hF1, hF2, hF3]
  clear hF1 hF2 hF3 z0
  go_enter Tryd.func48, Tryd.ntmps48
  go_wp2_with fail
  refine (K1.out _).mono ?_
  rintro e w' ⟨rfl, rfl⟩
  cases F1 with
  | false =>
    go_wp2_with fail
    go_ret
    exact ⟨rfl, HB.out⟩
  | true =>
    go_wp2_with fail
    refine (K2.out _).mono ?_
    rintro e w' ⟨rfl, rfl⟩
    cases F2 with
    | false =>
      go_wp2_with fail
      go_ret
      exact ⟨rfl, HB.out⟩
    | true =>
      go_wp2_with fail
      refine (K3.out _).mono ?_
      rintro e w' ⟨rfl, rfl⟩
      go_wp2_with fail
      go_ret
      exact ⟨ret_bool (by cases F3 <;> rfl), HB.out⟩
end Go.Proofs.YtijjkiogmlannaaDoor
