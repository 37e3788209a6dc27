/- Lists of what is seen that are the same. -/
import Derived.Test.YtccekbdhffccdaaDoorNN
import Derived.Test.YtccekbdhffccdaaDoorCC
import Derived.Laws.StructEq
namespace Go.Proofs.YtccekbdhffccdaaDoor
open Go.RowKit

theorem eq24 (a b c d : Int) (w : World) : (Op.equalIn 9999 24 (.agg #[.int .i64 a, .int .i64 b]) (.agg #[.int .i64 c, .int .i64 d])).run Tryd.prog w = .ok (a == c && b == d) w := by
  have u3 := Tryd.underlying3
  have a3 := Tryd.isAgg3
  have z3 := Tryd.sizeOf3
  have hS : Tryd.prog.underlying 24 = some (.struct (Tryd.prog.fieldsOf 24)) := by kernel_rfl
  have hp : Tryd.prog.stoodInHeld 24 = false := by kernel_rfl
  rw [show (9999 : Nat) = 9998 + 1 from rfl, run_equalIn_agg w 9998 24 _ _ hS hp]
  simp only [Program.fieldsOf, Tryd.underlying24]
  go_simp
  by_cases h1 : a = c <;> by_cases h2 : b = d <;> simp [h1, h2]
theorem eq58 (a b c d e a' b' c' d' e' : Int) (w : World) : (Op.equalIn 10000 58 (.agg #[.int .i64 a, .int .i64 b, .int .i64 c, .int .i64 d, .int .i64 e]) (.agg #[.int .i64 a', .int .i64 b', .int .i64 c', .int .i64 d', .int .i64 e'])).run Tryd.prog w = .ok (decide ((a, b, c, d, e) = (a', b', c', d', e'))) w := by
  have u24 := Tryd.underlying24
  have a24 := Tryd.isAgg24
  have z24 := Tryd.sizeOf24
  have u56 := Tryd.underlying56
  have a56 := Tryd.isAgg56
  have z56 := Tryd.sizeOf56
  have hS : Tryd.prog.underlying 58 = some (.struct (Tryd.prog.fieldsOf 58)) := by kernel_rfl
  have hp : Tryd.prog.stoodInHeld 58 = false := by kernel_rfl
  have q24 := eq24
  rw [show (10000 : Nat) = 9999 + 1 from rfl, run_equalIn_agg w 9999 58 _ _ hS hp]
  simp only [Program.fieldsOf, Tryd.underlying58]
  go_simp
  by_cases h1 : a = a' <;> by_cases h2 : b = b' <;> by_cases h3 : c = c' <;> by_cases h4 : d = d' <;> by_cases h5 : e = e' <;> simp [h1, h2, h3, h4, h5]

def snT (x : Sn) : Int × Int × Int × Int × Int := (x.tl, x.th, x.ll, x.lh, x.tk)
theorem SnsAt.keep_ {w w' : World} {B : Nat} {A : Option Addr} {xs : List Sn} (h : SnsAt w B A xs) (hb : Below B w w') : SnsAt w' B A xs := fun hx => by
  obtain ⟨b, o, hA, hbB, hc⟩ := h hx
  refine ⟨b, o, hA, hbB, fun i x hi => ?_⟩
  obtain ⟨c0, c1, c2, c3, c4⟩ := hc i x hi
  exact ⟨((bcell hb).1 _ _ hbB).trans c0, ((bcell hb).1 _ _ hbB).trans c1, ((bcell hb).1 _ _ hbB).trans c2, ((bcell hb).1 _ _ hbB).trans c3, ((bcell hb).1 _ _ hbB).trans c4⟩

set_option maxRecDepth 100000 in
set_option maxHeartbeats 1000000 in
theorem sameSeen_any (A A2 : Option Addr) (n m c c' : Nat) (xs ys : List Sn) (w : World) (hl : xs.length = n) (hl2 : ys.length = m) (hn : n ≤ maxLen) (hn2 : m ≤ maxLen) (hX : SnsAt w w.heap.size A xs) (hY : SnsAt w w.heap.size A2 ys) :
    Calls Tryd.prog 22 #[.slice A n c, .slice A2 m c'] w fun e w' => e = .returned (.bool (decide (xs.map snT = ys.map snT))) ∧ Below w.heap.size w w' := by
  unfold maxLen at hn hn2
  have HL := Lib.hid hl; have HL2 := Lib.hid hl2
  clear hl hl2
  by_cases hnm : n = m
  · subst hnm
    have HX := Lib.hid hX; have HY := Lib.hid hY
    clear hX hY
    go_enter Tryd.func22, Tryd.ntmps22
    go_wp2
    go_loopw [5] (fun i wr => ∃ k : Nat, k ≤ n ∧ i = .int .i64 k ∧ (xs.map snT).take k = (ys.map snT).take k ∧ Below w.heap.size w wr) (fun i _ => n - (intOf i).toNat)
    case atStart => exact ⟨0, Nat.zero_le _, rfl, by simp, Below.refl _ _⟩
    case round =>
      obtain ⟨k, hk, rfl, hall, hbr⟩ := hrel
      have HA := Lib.hid hall; clear hall
      have hz := hbr.size
      by_cases hlt : k < n
      · obtain ⟨x, hx⟩ := get_of_lt (l := xs) (k := k) (by rw [HL.out]; exact hlt)
        obtain ⟨y, hy⟩ := get_of_lt (l := ys) (k := k) (by rw [HL2.out]; exact hlt)
        obtain ⟨b1, o1, rfl, hb1, hcs1⟩ := HX.out (by intro h; rw [h] at hx; simp at hx)
        obtain ⟨b2, o2, rfl, hb2, hcs2⟩ := HY.out (by intro h; rw [h] at hy; simp at hy)
        obtain ⟨c0, c1, c2, c3, c4⟩ := hcs1 k x hx
        obtain ⟨e0, e1, e2, e3, e4⟩ := hcs2 k y hy
        replace c0 := ((bcell hbr).1 _ _ hb1).trans c0
        replace c1 := ((bcell hbr).1 _ _ hb1).trans c1
        replace c2 := ((bcell hbr).1 _ _ hb1).trans c2
        replace c3 := ((bcell hbr).1 _ _ hb1).trans c3
        replace c4 := ((bcell hbr).1 _ _ hb1).trans c4
        replace e0 := ((bcell hbr).1 _ _ hb2).trans e0
        replace e1 := ((bcell hbr).1 _ _ hb2).trans e1
        replace e2 := ((bcell hbr).1 _ _ hb2).trans e2
        replace e3 := ((bcell hbr).1 _ _ hb2).trans e3
        replace e4 := ((bcell hbr).1 _ _ hb2).trans e4
        have KX := Lib.hid (show (xs.map snT)[k]? = some (snT x) by simp [hx])
        have KY := Lib.hid (show (ys.map snT)[k]? = some (snT y) by simp [hy])
        clear hx hy hcs1 hcs2
        obtain ⟨x0, x1, x2, x3, x4⟩ := x
        obtain ⟨y0, y1, y2, y3, y4⟩ := y
        simp only at c0 c1 c2 c3 c4 e0 e1 e2 e3 e4
        have hg : Tryd.prog.eqGuardType Tryd.prog.depth 58 = false := by kernel_rfl
        by_cases he : (x0, x1, x2, x3, x4) = (y0, y1, y2, y3, y4)
        · have q58 : ∀ w, (Op.equalIn 10000 58 (.agg #[.int .i64 x0, .int .i64 x1, .int .i64 x2, .int .i64 x3, .int .i64 x4]) (.agg #[.int .i64 y0, .int .i64 y1, .int .i64 y2, .int .i64 y3, .int .i64 y4])).run Tryd.prog w = .ok true w := fun w => by rw [eq58, decide_eq_true he]
          have HE := Lib.hid he
          clear he
          go_wp2
          go_quiet (fail)
          go_wp2
          go_roundw
          case rel => exact ⟨k + 1, by omega, by go_num, take_eq_succ KX.out (KY.out.trans (congrArg some HE.out.symm)) HA.out, belN hbr _⟩
          case measure => simp [intOf]; omega
        · have q58 : ∀ w, (Op.equalIn 10000 58 (.agg #[.int .i64 x0, .int .i64 x1, .int .i64 x2, .int .i64 x3, .int .i64 x4]) (.agg #[.int .i64 y0, .int .i64 y1, .int .i64 y2, .int .i64 y3, .int .i64 y4])).run Tryd.prog w = .ok false w := fun w => by rw [eq58, decide_eq_false he]
          have HNE := Lib.hid he
          clear he
          go_wp2
          go_quiet (fail)
          go_wp2
          go_ret
          exact ⟨ret_bool (decide_eq_false (list_ne_of_get KX.out KY.out HNE.out)).symm, belN hbr _⟩
      · have hkn : k = n := by omega
        have HKN := Lib.hid hkn
        clear hkn
        go_wp2
        go_ret
        exact ⟨ret_bool (by simp [take_all_eq (k := k) (by rw [List.length_map, HL.out, HKN.out]) (by rw [List.length_map, HL2.out, HKN.out]) HA.out]), hbr⟩
  · have hne : xs.map snT ≠ ys.map snT := fun h => by
      have := congrArg List.length h
      simp only [List.length_map] at this
      exact hnm (HL.out.symm.trans (this.trans HL2.out))
    have HNE := Lib.hid hne
    clear hne
    go_enter Tryd.func22, Tryd.ntmps22
    go_wp2
    go_ret
    exact ⟨ret_bool (by simp [HNE.out]), Below.refl _ _⟩
end Go.Proofs.YtccekbdhffccdaaDoor
