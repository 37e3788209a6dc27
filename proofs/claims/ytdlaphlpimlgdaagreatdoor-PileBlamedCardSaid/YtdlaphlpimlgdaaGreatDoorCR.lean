/- The levels in the truths in which all settles most, or least, by the code. -/
import Derived.Test.YtdlaphlpimlgdaaGreatDoorCQ
namespace Go.Proofs.YtdlaphlpimlgdaaGreatDoor
open Go.RowKit Go.Shelf

theorem ends_len (X : Ctx) (most : Bool) : (X.endsL most).length = X.n := by unfold Ctx.endsL gridL; simp
theorem poss_ends {X : Ctx} (K : X.Ok) (most : Bool) : possB X (X.endsL most) = true := by
  unfold possB
  rw [decide_eq_true (ends_len X most), Bool.true_and]
  refine rng_yes fun t ht => ?_
  have h1 : (X.endsL most).getD t [] = (List.range X.np).map (X.endT most t) := by
    rw [List.getD_eq_getElem?_getD]
    unfold Ctx.endsL
    rw [gridL_at _ ht]
    rfl
  rw [h1]
  unfold truRowB
  rw [decide_eq_true (by simp), Bool.true_and]
  refine rng_yes fun i hi => ?_
  rw [List.getD_eq_getElem?_getD, rowL_at _ hi, Option.getD_some]
  have hpl := (pilB_iff.1 (K.at_pile hi).2).2.2.2.1
  have hyB : 0 ≤ (X.th t i).1 ∧ (X.th t i).1 ≤ (X.th t i).2 ∧ (X.th t i).2 ≤ 50000 := by
    obtain ⟨_, _, _, _, h5⟩ := K.at_th ht hi
    exact withinB_iff.1 h5
  have hr := fun C l => rowI_in K.parts.rs (by rw [K.hr]; exact K.parts.nr6.1) C l
  unfold truB Ctx.endT endI
  cases most with
  | true =>
    have h3 := hr (carI (X.pile i) (X.th t i).2) (X.pile i).h
    simp only [if_true, Bool.and_eq_true, inB_iff]
    omega
  | false =>
    have h3 := hr (carI (X.pile i) (X.th t i).1) (X.pile i).l
    simp only [Bool.false_eq_true, if_false, Bool.and_eq_true, inB_iff]
    omega
def TupV (n : Nat) (L : List (List Int)) (v : Value) (w : World) : Prop := ∃ A c, v = .tuple #[.slice A n c, .int .i64 0] ∧ LvsAt w w.heap.size A L
theorem TupV.next {n : Nat} {L : List (List Int)} {v : Value} {w w' : World} (h : TupV n L v w) (hb : Below w.heap.size w w') : TupV n L v w' := by
  obtain ⟨A, c, e, h⟩ := h
  exact ⟨A, c, e, h.up hb⟩
theorem playT_any {X : Ctx} {w : World} (h : X.In w) (A2 : Option Addr) (c2 : Nat) (plan : List Int) (hm : plan.length = X.n) (hP : IntsAt w w.heap.size A2 plan) (h0 : planI X.sit X.ts plan = 0) (n10 : X.n ≤ 10)
    (L : List (List Tru)) (hl : L.length = X.n) (hp : possB X L = true) (v : Value) (hv : TruG X.n L v w) :
    Calls Tryz.prog 31 #[X.sv, X.tv, .slice A2 X.n c2, v] w fun e w' => ∃ v, e = .returned v ∧ Below w.heap.size w w' ∧ TupV X.n (lvT (setF L) plan X.np) v w' := by
  obtain ⟨A, c, rfl, hg⟩ := hv
  refine (Play_any h A2 A X.n c2 X.n c plan L hm (by unfold maxLen; omega) hP hl (by unfold maxLen; omega) hg).mono ?_
  rintro e w' ⟨A3, n3, c3, rfl, g1, _, hb⟩
  have hI : playI X plan L = 0 := by
    unfold playI
    rw [if_neg (by omega), if_pos h0, hp]
    rfl
  rw [hI] at g1 ⊢
  obtain ⟨rfl, g2, _⟩ := g1 rfl
  exact ⟨_, rfl, hb, A3, c3, rfl, g2⟩
def shF (n : Nat) (T : List (List Tru)) (L : List (List Int)) : Nat → Value → World → Prop
  | 5, v, w => TruG n T v w
  | 6, v, w => TupV n L v w
  | 7, v, w => TupV n L v w
  | 8, v, w => LvsV n L v w
  | 10, v, w => LvsV n L v w
  | _, _, _ => True
theorem shF_keep (n : Nat) (T : List (List Tru)) (L : List (List Int)) (i : Nat) (v : Value) (w1 w2 : World) (h : shF n T L i v w1) (hb : Below w1.heap.size w1 w2) : shF n T L i v w2 := by
  unfold shF at *
  split
  · exact TruG.next h hb
  · exact TupV.next h hb
  · exact TupV.next h hb
  · exact LvsV.next h hb
  · exact LvsV.next h hb
  · trivial
def shCv (sv tv pv : Value) (bs : Nat) : Tmp → Value
  | 3 => .pointer (some ⟨bs, 0, none⟩)
  | 2 => pv
  | 1 => tv
  | 35 => sv
  | 36 => tv
  | 37 => pv
  | 38 => sv
  | 39 => tv
  | 43 => .int .i64 0
  | 10 => .int .i64 0
  | 45 => sv
  | 46 => tv
  | 47 => pv
  | 48 => sv
  | 49 => tv
  | 53 => .int .i64 0
  | 12 => .int .i64 0
  | _ => undef
end Go.Proofs.YtdlaphlpimlgdaaGreatDoor
