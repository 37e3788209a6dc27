/- The first year whose thaw is deeper than some depth. -/
import Derived.Test.YtccekbdhffccdaaDoorM
namespace Go.Proofs.YtccekbdhffccdaaDoor
open Go.RowKit Go.Shelf

def firstI (d : Int) : List Int → Nat
  | [] => 0
  | x :: r => if d < x then 0 else firstI d r + 1
theorem first_hit {d : Int} : ∀ {l : List Int} {k : Nat} {x : Int}, l[k]? = some x → (l.take k).all (fun y => decide (y ≤ d)) = true → d < x → firstI d l = k := by
  intro l
  induction l with
  | nil => intro k x hx; simp at hx
  | cons y r ih =>
    intro k x hx ha hd
    cases k with
    | zero => simp at hx; subst hx; simp [firstI, hd]
    | succ k =>
      simp at hx ha
      have := ih hx (by simpa using ha.2) hd
      simp [firstI, this, Int.not_lt.2 ha.1]
theorem first_none {d : Int} : ∀ {l : List Int}, l.all (fun y => decide (y ≤ d)) = true → firstI d l = l.length := by
  intro l
  induction l with
  | nil => intro _; rfl
  | cons y r ih =>
    intro ha
    simp at ha
    simp [firstI, ih (by simpa using ha.2), Int.not_lt.2 ha.1]

/-- A slice that reads as ints. -/
def SlInts (w : World) (v : Value) (xs : List Int) : Prop := ∃ (A : Option Addr) (c : Nat), v = .slice A xs.length c ∧ xs.length ≤ c ∧ IntsAt w w.heap.size A xs
theorem SlInts.next {w w' : World} {v : Value} {xs : List Int} (h : SlInts w v xs) (hb : Below w.heap.size w w') : SlInts w' v xs := by
  obtain ⟨A, c, e, hc, h⟩ := h
  exact ⟨A, c, e, hc, h.next hb⟩
theorem SlInts.of_own {w : World} {base n : Nat} {v : Value} {xs : List Int} (h : w.ownsRow base 3 1 v n (ints xs)) (hn : xs.length = n) : SlInts w v xs := by
  rcases h.2 with ⟨rfl, hz⟩ | ⟨g, cap, cur, rfl, hb, hh, hc, hm, hs, ht⟩
  · have : xs = [] := List.eq_nil_of_length_eq_zero (by omega)
    subst this
    exact ⟨none, 0, rfl, Nat.le_refl _, fun h => absurd rfl h⟩
  · subst hn
    refine ⟨some ⟨g, 0, none⟩, cap, rfl, hc, fun _ => ⟨g, 0, rfl, (Array.getElem?_eq_some_iff.1 hh).1, fun i x hi => ?_⟩⟩
    have h1 := h.cells (g := g) rfl i (.int .i64 x) (by simp [ints, hi])
    have h2 : ((⟨g, 0, none⟩ : Addr).add i) = ⟨g, 0 + i, none⟩ := by unfold Addr.add; split <;> simp [*]
    rw [h2] at h1
    exact h1

set_option maxHeartbeats 1000000 in
theorem first_any (g : Nat) (th : List Int) (tv : Value) (d : Int) (w : World) (hc : w.cell? ⟨g, 13, none⟩ = some tv) (ht : SlInts w tv th) (hn : th.length ≤ 20) :
    Calls Tryd.prog 68 #[.pointer (some ⟨g, 0, none⟩), .int .i64 d] w fun e w' => e = .returned (.int .i64 (firstI d th : Nat)) ∧ w = w' := by
  obtain ⟨A, c, rfl, _, hI⟩ := ht
  obtain ⟨n, hl⟩ : ∃ n, th.length = n := ⟨_, rfl⟩
  rw [hl] at hc hn
  have HL := Lib.hid hl; clear hl
  go_enter Tryd.func68, Tryd.ntmps68
  go_wp2
  go_loop [12] (fun i => ∃ k : Nat, k ≤ n ∧ i = .int .i64 k ∧ (th.take k).all (fun y => decide (y ≤ d)) = true) (fun i => n - (intOf i).toNat)
  case atStart => exact ⟨0, Nat.zero_le _, rfl, by simp⟩
  case round =>
    obtain ⟨k, hk, rfl, ha⟩ := hrel
    have HA := Lib.hid ha; clear ha
    by_cases hlt : k < n
    · obtain ⟨x, hx⟩ := get_of_lt (l := th) (k := k) (by rw [HL.out]; exact hlt)
      obtain ⟨b, o, rfl, hb, hcs⟩ := hI (by intro h; rw [h] at hx; simp at hx)
      have c0 := hcs k x hx
      have HX := Lib.hid hx
      clear hx hcs
      by_cases hd : d < x
      · go_wp2
        go_ret
        exact ⟨ret_int (by rw [first_hit HX.out HA.out hd]), rfl⟩
      · go_wp2
        go_round
        case rel => exact ⟨k + 1, by omega, by go_num, take_succ_all HX.out HA.out (by simp; omega)⟩
        case measure => simp [intOf]; omega
    · go_wp2
      go_ret
      have hn' : k = n := by omega
      exact ⟨ret_int (by rw [first_none (by have := HA.out; rwa [List.take_of_length_le (by rw [HL.out]; omega)] at this), HL.out]), rfl⟩
end Go.Proofs.YtccekbdhffccdaaDoor
