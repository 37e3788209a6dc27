/- Coolers: a truth as it lies in memory; whether it has short lists, by the statements. -/
import Derived.Test.YtmppiiamcpjhnaaDB
namespace Go.Proofs.Ytmppiiamcpjhnaa
open Go.RowKit Go.Shelf

/-- What is true of a town: needs, and what coolers give. -/
structure Tu where
  ns : List Int
  gs : List (List Int)
structure UV where
  an : Option Addr
  nn : Nat
  cn : Nat
  ag : Option Addr
  ng : Nat
  cg : Nat
abbrev uvC (U : UV) : Array Value := #[.slice U.an U.nn U.cn, .slice U.ag U.ng U.cg]
abbrev uvV (U : UV) : Value := .agg #[.slice U.an U.nn U.cn, .slice U.ag U.ng U.cg]
structure TuAt (w : World) (B : Nat) (U : UV) (X : Tu) : Prop where
  ns : IntsAt w B U.an X.ns
  gs : GridAt 1 intR w B U.ag X.gs
  nn : X.ns.length = U.nn
  ng : X.gs.length = U.ng
  mn : U.nn ≤ maxLen
  mg : U.ng ≤ maxLen
theorem TuAt.next {w w' : World} {B B' : Nat} {U : UV} {X : Tu} (h : TuAt w B U X) (hb : Below B w w') (hB : B ≤ B') : TuAt w' B' U X :=
  ⟨h.ns.next hb hB, h.gs.next hb hB, h.nn, h.ng, h.mn, h.mg⟩
theorem TuAt.up {w w' : World} {U : UV} {X : Tu} (h : TuAt w w.heap.size U X) (hb : Below w.heap.size w w') : TuAt w' w'.heap.size U X := h.next hb hb.size
def zsB (X : Tu) : Bool := (List.range (min X.gs.length 15)).all fun i => decide ((X.gs.getD i []).length ≤ 10)
def sizedB (X : Tu) : Bool := zsB X && (decide (X.ns.length ≤ 10) && decide (X.gs.length ≤ 15))
theorem zsB_no {X : Tu} {k : Nat} {r : List Int} (h : X.gs[k]? = some r) (hk : k < 15) (hr : ¬ r.length ≤ 10) : zsB X = false := by
  cases e : zsB X with
  | false => rfl
  | true =>
    exfalso
    unfold zsB at e
    rw [List.all_eq_true] at e
    have := e k (List.mem_range.2 (by have := (List.getElem?_eq_some_iff.1 h).1; omega))
    rw [List.getD_eq_getElem?_getD, h] at this
    exact hr (by simpa using this)
theorem zsB_yes {X : Tu} (h : ∀ (k : Nat) (r : List Int), k < 15 → X.gs[k]? = some r → r.length ≤ 10) : zsB X = true := by
  unfold zsB
  rw [List.all_eq_true]
  intro i hi
  have hi := List.mem_range.1 hi
  obtain ⟨r, hr⟩ := get_of_lt (l := X.gs) (k := i) (by omega)
  rw [List.getD_eq_getElem?_getD, hr]
  simpa using h i r (by omega) hr
set_option maxRecDepth 100000 in
set_option maxHeartbeats 4000000 in
theorem sized_any (U : UV) (X : Tu) (w : World) (hX : TuAt w w.heap.size U X) :
    Calls Try.prog 25 #[uvV U] w fun e w' => e = .returned (.bool (sizedB X)) ∧ Below w.heap.size w w' := by
  have z := heap_alloc_new w (.cells (uvC U) 46)
  have hb := (Below.refl w.heap.size w).alloc (Nat.le_refl _) (.cells (uvC U) 46)
  obtain ⟨w1, hw1⟩ : ∃ z, w.alloc (.cells (uvC U) 46) = z := ⟨_, rfl⟩
  rw [hw1] at z hb
  have HW := Lib.hid hw1
  have HX := Lib.hid (hX.up hb)
  obtain ⟨an, nh, cn, ag, ns, cg⟩ := U
  obtain ⟨v0, v1⟩ := box2 z
  have hmh := hX.mn; have hms := hX.mg
  unfold maxLen at hmh hms
  simp only at hmh hms v0 v1
  have HB := Lib.hid hb
  have HNH := Lib.hid hX.nn; have HNS := Lib.hid hX.ng
  clear z hb hw1 hX
  go_enter Try.func25, Try.ntmps25
  go_wp2_with fail
  rw [show w.alloc (.cells #[.slice an nh cn, .slice ag ns cg] 46) = w1 from HW.out]
  go_loopw [3] (fun ii wr => ∃ k : Nat, k ≤ ns ∧ k ≤ 15 ∧ ii = .int .i64 k ∧ w1 = wr ∧ ∀ (j : Nat) (r : List Int), j < k → X.gs[j]? = some r → r.length ≤ 10) (fun ii _ => ns - (intOf ii).toNat)
  case atStart => exact ⟨0, by omega, by omega, rfl, rfl, fun _ _ h => absurd h (Nat.not_lt_zero _)⟩
  case round =>
    obtain ⟨k, hk, hk15, rfl, rfl, hal⟩ := hrel
    have HAL := Lib.hid hal
    clear hal
    by_cases hlt : k < ns
    · have k3 : (0 : Int) ≤ (k : Int) := by omega
      have k4 : (k : Int) < (ns : Int) := by omega
      by_cases h15 : k < 15
      · have k5 : (k : Int) < 15 := by omega
        obtain ⟨x, hx⟩ := get_of_lt (l := X.gs) (k := k) (by rw [HNS.out]; exact hlt)
        obtain ⟨b, o, A', m, c', rfl, hbb, hm, c0, hpr, hmx⟩ := grid_row HX.out.gs hx
        have HXX := Lib.hid hx; have HM := Lib.hid hm
        unfold maxLen at hmx
        clear hx hm hpr hbb
        by_cases hpn : 10 < (m : Int)
        · go_wp2_with fail
          go_ret
          exact ⟨by unfold sizedB; rw [zsB_no HXX.out h15 (by have := HM.out; omega)]; rfl, HB.out⟩
        · go_wp2_with fail
          refine ⟨⟨k + 1, by omega, by omega, rfl, (by first | rfl | trivial), fun j r hj hr => ?_⟩, by simp [intOf]; omega⟩
          by_cases hjk : j < k
          · exact HAL.out j r hjk hr
          · obtain rfl : j = k := by omega
            have h2 := HXX.out
            rw [h2] at hr
            injection hr with hr
            rw [← hr, ← HM.out]
            omega
      · have k5 : ¬ (k : Int) < 15 := by omega
        have hws : zsB X = true := zsB_yes fun j r hj hr => HAL.out j r (by omega) hr
        have HWS : Hid (sizedB X = (decide (nh ≤ 10) && decide (ns ≤ 15))) := Lib.hid (by unfold sizedB; rw [hws, HNH.out, HNS.out]; rfl)
        clear hws
        go_wp2_with fail
        all_goals
          go_ret
          refine ⟨?_, HB.out⟩
          rw [HWS.out]
          simp [*]
          try (first | omega | (intros; omega) | (rw [Bool.eq_iff_iff]; simp; omega) | (rw [Bool.eq_iff_iff]; simp; intros; omega))
    · obtain rfl : ns = k := by omega
      have k4 : ¬ (ns : Int) < (ns : Int) := by omega
      have hws : zsB X = true := zsB_yes fun j r hj hr => HAL.out j r (by have := (List.getElem?_eq_some_iff.1 hr).1; have := HNS.out; omega) hr
      have HWS : Hid (sizedB X = (decide (nh ≤ 10) && decide (ns ≤ 15))) := Lib.hid (by unfold sizedB; rw [hws, HNH.out, HNS.out]; rfl)
      clear hws
      go_wp2_with fail
      all_goals
        go_ret
        refine ⟨?_, HB.out⟩
        rw [HWS.out]
        simp [*]
        try (first | omega | (intros; omega) | (rw [Bool.eq_iff_iff]; simp; omega) | (rw [Bool.eq_iff_iff]; simp; intros; omega))
/-! ### What can be true of a town -/
def needB (T : Tn) (X : Tu) (h : Nat) : Bool := match T.hs[h]?, X.ns[h]? with | some x, some n => inB x.nl n x.nh | _, _ => false
def coldAt (T : Tn) (X : Tu) (i k : Nat) : Bool := match T.ss[i]?, X.gs[i]? with | some s, some g => (match s.gv[k]?, g[k]? with | some x, some n => inB x.1 n x.2 | _, _ => false) | _, _ => false
def rowB (T : Tn) (X : Tu) (i : Nat) : Bool := decide ((X.gs.getD i []).length = T.hs.length) && (List.range T.hs.length).all fun k => coldAt T X i k
def truB (T : Tn) (X : Tu) : Bool := (decide (X.ns.length = T.hs.length) && decide (X.gs.length = T.ss.length)) && ((List.range T.hs.length).all (needB T X) && (List.range T.ss.length).all (rowB T X))
structure TuOk (T : Tn) (X : Tu) : Prop where
  n : X.ns.length = T.hs.length
  g : X.gs.length = T.ss.length
  nd : ∀ h, h < T.hs.length → needB T X h = true
  r : ∀ i, i < T.ss.length → rowB T X i = true
theorem truB_iff {T : Tn} {X : Tu} : truB T X = true ↔ TuOk T X := by
  unfold truB
  simp only [Bool.and_eq_true, decide_eq_true_eq, List.all_eq_true, List.mem_range]
  exact ⟨fun h => ⟨h.1.1, h.1.2, h.2.1, h.2.2⟩, fun h => ⟨⟨h.n, h.g⟩, h.nd, h.r⟩⟩
theorem truB_no {T : Tn} {X : Tu} (h : ¬ TuOk T X) : truB T X = false := by
  cases e : truB T X with
  | false => rfl
  | true => exact absurd (truB_iff.1 e) h
theorem all_not {n : Nat} {f : Nat → Bool} {k : Nat} (hk : k < n) (h : f k = false) : ¬ ∀ j, j < n → f j = true := fun ha => by
  rw [ha k hk] at h
  cases h
end Go.Proofs.Ytmppiiamcpjhnaa
