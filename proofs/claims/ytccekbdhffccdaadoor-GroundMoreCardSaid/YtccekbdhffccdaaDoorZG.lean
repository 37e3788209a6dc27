/- The statement on the year in which a depth is exceeded: the specification's truths, rounds and first year, and the statement's function. -/
import Derived.Test.YtccekbdhffccdaaDoorZF
import Derived.Test.YtccekbdhffccdaaDoorRE
import Derived.Test.YtccekbdhffccdaaDoorZB
namespace Go.Proofs.YtccekbdhffccdaaDoor
open Go.RowKit Go.Shelf

/-- A truth in memory. -/
def TruAt (w : World) (v : Value) (T : Tru) : Prop :=
  ∃ v0 v1 v2 v3 v4 : Value, v = .agg #[v0, v1, v2, v3, v4] ∧ SlInts w v0 T.ms ∧ SlInts w v1 T.ws ∧ SlInts w v2 T.ss ∧ SlInts w v3 T.vs ∧ SlInts w v4 T.ns
theorem TruAt.next {w w' : World} {v : Value} {T : Tru} (h : TruAt w v T) (hb : Below w.heap.size w w') : TruAt w' v T := by
  obtain ⟨v0, v1, v2, v3, v4, e, h0, h1, h2, h3, h4⟩ := h
  exact ⟨v0, v1, v2, v3, v4, e, h0.next hb, h1.next hb, h2.next hb, h3.next hb, h4.next hb⟩
theorem SeenAt.next {w w' : World} {A : Option Addr} {s : St} (h : SeenAt w A s) (hb : Below w.heap.size w w') : SeenAt w' A s := fun hx => by
  obtain ⟨b, o, e, hlt, hc⟩ := h hx
  exact ⟨b, o, e, Nat.lt_of_lt_of_le hlt hb.size, fun i hi => ⟨((bcell hb).1 _ _ hlt).trans (hc i hi).1, ((bcell hb).1 _ _ hlt).trans (hc i hi).2⟩⟩
/-- What is seen of years, as a value. -/
def SnAt (w : World) (v : Value) (N : Nat) (s : St) : Prop := ∃ (B : Option Addr) (k : Nat), v = .slice B N k ∧ N ≤ k ∧ SeenAt w B s
theorem SnAt.next {w w' : World} {v : Value} {N : Nat} {s : St} (h : SnAt w v N s) (hb : Below w.heap.size w w') : SnAt w' v N s := by
  obtain ⟨B, k, e, hk, hs⟩ := h
  exact ⟨B, k, e, hk, hs.next hb⟩

theorem endT_any (warm : Bool) (A A2 : Option Addr) (n c m c' : Nat) (ls : List Lay) (ys : List Yr) (lo hi : Int) (w : World) (hl : ls.length = n) (hn : n ≤ 6) (hL : LaysAt w w.heap.size A ls)
    (hm : ys.length = m) (hm2 : m ≤ 12) (hY : YrsAt w w.heap.size A2 ys) :
    Calls Tryd.prog 33 #[.agg #[.slice A n c, .int .i64 lo, .int .i64 hi], .slice A2 m c', .bool warm] w fun e w' => ∃ v, e = .returned v ∧ Below w.heap.size w w' ∧ TruAt w' v (extT warm ls lo hi ys) := by
  refine (endR_any warm A A2 n c m c' ls ys lo hi w hl hn hL hm hm2 hY).mono ?_
  rintro e w' ⟨v0, v1, v2, v3, v4, rfl, o0, o1, o2, o3, o4, hb⟩
  exact ⟨_, rfl, hb, v0, v1, v2, v3, v4, rfl, SlInts.of_own o0 rfl, SlInts.of_own o1 rfl, SlInts.of_own o2 rfl, SlInts.of_own o3 rfl, SlInts.of_own o4 rfl⟩
theorem followT_any (A : Option Addr) (n c N : Nat) (ls : List Lay) (T : Tru) (v : Value) (lo hi mo : Int) (w : World) (hl : ls.length = n) (h1 : 1 ≤ n) (h6 : n ≤ 6) (hL : LaysAt w w.heap.size A ls) (ht : ∀ x ∈ ls, 1 ≤ x.t ∧ x.t ≤ 20000) (hT : TruOk T n N) (hN : N ≤ 12) (hmo : 0 ≤ mo ∧ mo ≤ 1000000)
    (hv : TruAt w v T) :
    Calls Tryd.prog 27 #[.agg #[.slice A n c, .int .i64 lo, .int .i64 hi], v, .int .i64 mo] w fun e w' => ∃ u, e = .returned u ∧ Below w.heap.size w w' ∧ SnAt w' u N (runS ls T mo N) := by
  obtain ⟨v0, v1, v2, v3, v4, rfl, ⟨AM, cm, rfl, _, i1⟩, ⟨AW, cw, rfl, _, i2⟩, ⟨AS, cs, rfl, _, i3⟩, ⟨AV, cv, rfl, _, i4⟩, ⟨AN, cn, rfl, _, i5⟩⟩ := hv
  rw [hT.lm, hT.lw, hT.lS, hT.lv, hT.ln]
  refine (followR_any A AM AW AS AV AN n c N cm cw cs cv cn ls T lo hi mo w hl h1 h6 hL ht hT hN hmo i1 i2 i3 i4 i5).mono ?_
  rintro e w' ⟨B, k, rfl, hk, hs, hb⟩
  exact ⟨_, rfl, hb, B, k, rfl, hk, hs⟩

theorem firstI_take {d : Int} {l : List Int} {k : Nat} (hk : k ≤ l.length) (h : ∀ i, i < k → at0 l i ≤ d) : firstI d l = k + firstI d (l.drop k) := by
  induction k with
  | zero => simp
  | succ k ih =>
    rw [ih (by omega) (fun i hi => h i (by omega))]
    obtain ⟨x, hx⟩ := get_of_lt (l := l) (k := k) (by omega)
    have hle := h k (by omega)
    have : at0 l k = x := by simp [at0, hx]
    rw [first_drop d hx, if_neg (by omega)]
    omega
set_option maxRecDepth 100000 in
set_option maxHeartbeats 1000000 in
theorem firstR_any (v : Value) (N : Nat) (s : St) (d : Int) (w : World) (hl : s.th.length = N) (hN : N ≤ 12) (hs : SnAt w v N s) :
    Calls Tryd.prog 35 #[v, .int .i64 d] w fun e w' => e = .returned (.int .i64 ((firstI d s.th : Nat) : Int)) ∧ Below w.heap.size w w' := by
  obtain ⟨B, c, rfl, hc, hS⟩ := hs
  have HL := Lib.hid hl
  have HS := Lib.hid hS
  clear hl hS
  go_enter Tryd.func35, Tryd.ntmps35
  go_wp2
  go_loopw [5] (fun i wr => ∃ k : Nat, k ≤ N ∧ i = .int .i64 k ∧ (∀ i, i < k → at0 s.th i ≤ d) ∧ Below w.heap.size w wr) (fun i _ => N - (intOf i).toNat)
  case atStart => exact ⟨0, Nat.zero_le _, rfl, fun i hi => absurd hi (Nat.not_lt_zero i), Below.refl _ _⟩
  case round =>
    obtain ⟨k, hk, rfl, hall, hbr⟩ := hrel
    have HA := Lib.hid hall
    have HBR := Lib.hid hbr
    clear hall
    by_cases hlt : k < N
    · obtain ⟨b1, o1, rfl, hb1, hcs⟩ := HS.out (by intro h; have := HL.out; rw [h] at this; simp at this; omega)
      have d1 := ((bcell hbr).1 _ _ hb1).trans (hcs k (by rw [HL.out]; exact hlt)).1
      have hk0 : (0 : Int) ≤ (k : Int) := by omega
      have hk1 : (k : Int) < (N : Int) := by omega
      obtain ⟨x, hx⟩ : ∃ x, at0 s.th k = x := ⟨_, rfl⟩
      rw [hx] at d1
      have HX := Lib.hid hx
      clear hx hcs hbr
      by_cases hxd : d < x
      · have e : firstI d s.th = k := by
          obtain ⟨y, hy⟩ := get_of_lt (l := s.th) (k := k) (by rw [HL.out]; exact hlt)
          have hyx : y = x := by have := HX.out; simp [at0, hy] at this; exact this
          rw [firstI_take (by rw [HL.out]; omega) HA.out, first_drop d hy, if_pos (by rw [hyx]; exact hxd)]
          omega
        have E := Lib.hid e
        clear e
        go_wp2_with fail
        go_ret
        exact ⟨ret_int (by rw [E.out]), HBR.out⟩
      · have e : ∀ i, i < k + 1 → at0 s.th i ≤ d := fun i hi => by
          by_cases hik : i < k
          · exact HA.out i hik
          · obtain rfl : i = k := by omega
            have := HX.out
            omega
        have E := Lib.hid e
        clear e
        go_wp2_with fail
        exact ⟨⟨k + 1, by omega, by go_num, E.out, HBR.out⟩, by simp [intOf]; omega⟩
    · obtain rfl : k = N := by omega
      have e : firstI d s.th = k := by
        rw [firstI_take (by rw [HL.out]; exact Nat.le_refl _) HA.out, List.drop_of_length_le (by rw [HL.out]; exact Nat.le_refl _)]
        rfl
      have E := Lib.hid e
      clear e
      go_wp2_with fail
      go_ret
      exact ⟨ret_int (by rw [E.out]), HBR.out⟩
end Go.Proofs.YtccekbdhffccdaaDoor
