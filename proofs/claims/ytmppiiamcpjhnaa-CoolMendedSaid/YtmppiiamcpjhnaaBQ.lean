/- Coolers: the check of an order of repairs. Coolers: lists, orders and costs, by the specification. Coolers: lists that grow, by the specification. Coolers: what coolers cost, by the specification. Coolers: a span, by the statements. -/
import Derived.Test.YtmppiiamcpjhnaaBL
import Derived.Laws.EntriesVeiled
namespace Go.Proofs.Ytmppiiamcpjhnaa
open Go.RowKit Go.Shelf

theorem mem_take_succ {l : List Int} {k : Nat} {x y : Int} (h : l[k]? = some y) : x ∈ l.take (k + 1) ↔ x ∈ l.take k ∨ x = y := by
  rw [List.take_add_one, h]
  simp
set_option maxRecDepth 100000 in
set_option maxHeartbeats 4000000 in
theorem index_any (A : Option Addr) (n c : Nat) (cs : List Int) (x : Int) (w : World) (hl : cs.length = n) (hn : n ≤ maxLen) (hA : IntsAt w w.heap.size A cs) :
    Calls Try.prog 106 #[.slice A n c, .int .i64 x] w fun e w' => (∃ r : Int, e = .returned (.int .i64 r) ∧ (0 ≤ r ↔ x ∈ cs)) ∧ w = w' := by
  have HA := Lib.hid hA; have HL := Lib.hid hl
  unfold maxLen at hn
  clear hA hl
  go_enter Try.func106, Try.ntmps106
  go_wp2_with fail
  go_loopw [8] (fun i wr => ∃ k : Nat, k ≤ n ∧ i = .int .i64 k ∧ ¬ x ∈ cs.take k ∧ wr = w) (fun i _ => n - (intOf i).toNat)
  case atStart => exact ⟨0, Nat.zero_le _, rfl, by simp, rfl⟩
  case round =>
    obtain ⟨k, hk, rfl, hno, rfl⟩ := hrel
    have HNO := Lib.hid hno
    clear hno
    by_cases hlt : k < n
    · have k0 : (0 : Int) ≤ (k : Int) := by omega
      have k1 : (k : Int) < (n : Int) := by omega
      obtain ⟨y, hy⟩ := get_of_lt (l := cs) (k := k) (by rw [HL.out]; exact hlt)
      obtain ⟨b, o, rfl, hbb, c0⟩ := ints_el HA.out hy
      have HY := Lib.hid hy
      clear hy hbb
      by_cases he : x = y
      · subst he
        go_wp2_with fail
        go_ret
        exact ⟨⟨(k : Int), rfl, fun _ => List.mem_of_getElem? HY.out, fun _ => k0⟩, rfl⟩
      · go_wp2_with fail
        refine ⟨⟨k + 1, by omega, rfl, ?_, by first | rfl | trivial⟩, by simp [intOf]; omega⟩
        rw [mem_take_succ HY.out]
        exact fun h => h.elim HNO.out he
    · obtain rfl : n = k := by omega
      have k1 : ¬ (n : Int) < (n : Int) := by omega
      go_wp2_with fail
      go_ret
      have hno := HNO.out
      rw [List.take_of_length_le (by rw [HL.out]; omega)] at hno
      exact ⟨⟨-1, rfl, fun h => absurd h (by decide), fun h => absurd h hno⟩, rfl⟩
set_option maxHeartbeats 4000000 in
theorem contains_any (A : Option Addr) (n c : Nat) (cs : List Int) (x : Int) (w : World) (hl : cs.length = n) (hn : n ≤ maxLen) (hA : IntsAt w w.heap.size A cs) :
    Calls Try.prog 92 #[.slice A n c, .int .i64 x] w fun e w' => e = .returned (.bool (decide (x ∈ cs))) ∧ w = w' := by
  have HC := Lib.hid (index_any A n c cs x w hl hn hA)
  clear hl hn hA
  go_enter Try.func92, Try.ntmps92
  go_wp2_with fail
  refine HC.out.mono ?_
  rintro e w' ⟨⟨r, rfl, hr⟩, rfl⟩
  clear HC
  by_cases h0 : 0 ≤ r
  · go_wp2_with fail
    go_ret
    exact ⟨by simp [hr.1 h0], rfl⟩
  · have hno : ¬ x ∈ cs := fun h => h0 (hr.2 h)
    go_wp2_with fail
    go_ret
    exact ⟨by simp [hno], rfl⟩
set_option maxRecDepth 100000 in
set_option maxHeartbeats 4000000 in
theorem has_any (A : Option Addr) (n c : Nat) (cs : List Int) (x : Int) (w : World) (hl : cs.length = n) (hn : n ≤ maxLen) (hA : IntsAt w w.heap.size A cs) :
    Calls Try.prog 43 #[.slice A n c, .int .i64 x] w fun e w' => e = .returned (.bool (decide (x ∈ cs))) ∧ w = w' := by
  have HA := Lib.hid hA; have HL := Lib.hid hl
  unfold maxLen at hn
  clear hA hl
  go_enter Try.func43, Try.ntmps43
  go_wp2_with fail
  go_loopw [5] (fun i wr => ∃ k : Nat, k ≤ n ∧ i = .int .i64 k ∧ ¬ x ∈ cs.take k ∧ wr = w) (fun i _ => n - (intOf i).toNat)
  case atStart => exact ⟨0, Nat.zero_le _, rfl, by simp, rfl⟩
  case round =>
    obtain ⟨k, hk, rfl, hno, rfl⟩ := hrel
    have HNO := Lib.hid hno
    clear hno
    by_cases hlt : k < n
    · have k0 : (0 : Int) ≤ (k : Int) := by omega
      have k1 : (k : Int) < (n : Int) := by omega
      obtain ⟨y, hy⟩ := get_of_lt (l := cs) (k := k) (by rw [HL.out]; exact hlt)
      obtain ⟨b, o, rfl, hbb, c0⟩ := ints_el HA.out hy
      have HY := Lib.hid hy
      clear hy hbb
      by_cases he : y = x
      · subst he
        go_wp2_with fail
        go_ret
        exact ⟨by simp [List.mem_of_getElem? HY.out], rfl⟩
      · go_wp2_with fail
        refine ⟨⟨k + 1, by omega, rfl, ?_, by first | rfl | trivial⟩, by simp [intOf]; omega⟩
        rw [mem_take_succ HY.out]
        exact fun h => h.elim HNO.out (fun e => he e.symm)
    · obtain rfl : n = k := by omega
      have k1 : ¬ (n : Int) < (n : Int) := by omega
      go_wp2_with fail
      go_ret
      have hno := HNO.out
      rw [List.take_of_length_le (by rw [HL.out]; omega)] at hno
      exact ⟨by simp [hno], rfl⟩
/-- An order of some of the bought ones, none of them twice. -/
def ordB (bo or : List Int) : Bool := (List.range or.length).all fun i => decide (or.getD i 0 ∈ bo) && !decide (or.getD i 0 ∈ or.take i)
def ordI (T : Tn) (bo or : List Int) : Int := if 6 < or.length then 3 else if tnB T && (coolB T bo && ordB bo or) then 0 else 2
theorem ordB_iff {bo or : List Int} : ordB bo or = true ↔ ∀ i x, or[i]? = some x → x ∈ bo ∧ ¬ x ∈ or.take i := by
  unfold ordB
  rw [List.all_eq_true]
  constructor
  · intro h i x hx
    have := h i (List.mem_range.2 (List.getElem?_eq_some_iff.1 hx).1)
    rw [List.getD_eq_getElem?_getD, hx] at this
    simpa using this
  · intro h i hi
    obtain ⟨x, hx⟩ := get_of_lt (l := or) (k := i) (List.mem_range.1 hi)
    rw [List.getD_eq_getElem?_getD, hx]
    simpa using h i x hx
set_option maxRecDepth 100000 in
set_option maxHeartbeats 8000000 in
theorem checkOrder_any (V : TV) (T : Tn) (A : Option Addr) (n c : Nat) (bo : List Int) (A2 : Option Addr) (p q : Nat) (or : List Int) (w : World) (hN : TnAt w w.heap.size V T) (hl : bo.length = n) (hn : n ≤ maxLen) (hA : IntsAt w w.heap.size A bo)
    (hl2 : or.length = p) (hp : p ≤ maxLen) (hpq : p ≤ q) (hA2 : IntsAt w w.heap.size A2 or) :
    Calls Try.prog 70 #[tvV V, .slice A n c, .slice A2 p q] w fun e w' => e = .returned (.int .i64 (ordI T bo or)) ∧ Below w.heap.size w w' := by
  have z := heap_alloc_new w (.cells (tvC V) 25)
  have hb := (Below.refl w.heap.size w).alloc (Nat.le_refl _) (.cells (tvC V) 25)
  obtain ⟨w1, hw1⟩ : ∃ z, w.alloc (.cells (tvC V) 25) = z := ⟨_, rfl⟩
  rw [hw1] at z hb
  have HW := Lib.hid hw1
  have HN := Lib.hid (hN.up hb)
  have HA := Lib.hid (RowAt.up hA hb); have HL := Lib.hid hl
  have HA2 := Lib.hid (RowAt.up hA2 hb); have HL2 := Lib.hid hl2
  obtain ⟨ah, nh, ch, az, ns, cz⟩ := V
  obtain ⟨v0, v1⟩ := box2 z
  have HB := Lib.hid hb
  have HM := Lib.hid hn
  unfold maxLen at hp
  clear z hb hw1 hN hl hA hl2 hA2 hn
  by_cases h6 : 6 < (p : Int)
  · go_enter Try.func70, Try.ntmps70
    go_wp2_with fail
    rw [show w.alloc (.cells #[.slice ah nh ch, .slice az ns cz] 25) = w1 from HW.out]
    go_ret
    exact ⟨by unfold ordI; rw [HL2.out, if_pos (by omega)]; rfl, HB.out⟩
  have HI : Hid (ordI T bo or = if tnB T && (coolB T bo && ordB bo or) then 0 else 2) := Lib.hid (by unfold ordI; rw [HL2.out, if_neg (by omega)])
  go_enter Try.func70, Try.ntmps70
  go_wp2_with fail
  rw [show w.alloc (.cells #[.slice ah nh ch, .slice az ns cz] 25) = w1 from HW.out]
  go_wp2_with fail
  refine (checkCoolers_any _ T A n c bo _ HN.out HL.out HM.out HA.out).mono ?_
  rintro e w2 ⟨rfl, hb2⟩
  have HB2 := Lib.hid (HB.out.trans (hb2.mono HB.out.size))
  have HA' := Lib.hid (RowAt.up HA.out hb2)
  have HA2' := Lib.hid (RowAt.up HA2.out hb2)
  clear hb2 v0 v1
  unfold coolI
  cases h1 : tnB T && coolB T bo
  · simp only [Bool.false_eq_true, if_false]
    go_wp2_with fail
    go_ret
    exact ⟨by rw [HI.out, ← Bool.and_assoc, h1]; rfl, HB2.out⟩
  simp only [if_true]
  have H1 : Hid (ordI T bo or = if ordB bo or then 0 else 2) := Lib.hid (by rw [HI.out, ← Bool.and_assoc, h1, Bool.true_and])
  clear h1
  go_wp2_with fail
  go_loopw [21] (fun i wr => ∃ k : Nat, k ≤ p ∧ i = .int .i64 k ∧ (∀ j x, j < k → or[j]? = some x → x ∈ bo ∧ ¬ x ∈ or.take j) ∧ wr = w2) (fun i _ => p - (intOf i).toNat)
  case atStart => exact ⟨0, Nat.zero_le _, rfl, fun j _ hj => absurd hj (Nat.not_lt_zero _), rfl⟩
  case round =>
    obtain ⟨k, hk, rfl, hall, rfl⟩ := hrel
    have HAL := Lib.hid hall
    clear hall
    by_cases hlt : k < p
    · have k0 : (0 : Int) ≤ (k : Int) := by omega
      have k1 : (k : Int) < (p : Int) := by omega
      have k2 : (k : Int) ≤ (q : Int) := by omega
      obtain ⟨x, hx⟩ := get_of_lt (l := or) (k := k) (by rw [HL2.out]; exact hlt)
      obtain ⟨b, o, hA0, hbb, c0⟩ := ints_el HA2'.out hx
      subst hA0
      have HX := Lib.hid hx
      have HT : Hid (IntsAt wr wr.heap.size (some ⟨b, o, none⟩) (or.take k)) := Lib.hid (fun hne => by
        obtain ⟨b', o', e1, e2, e3⟩ := HA2'.out (fun e => hne (by rw [e]; simp))
        exact ⟨b', o', e1, e2, fun i y hi => e3 i y (by
          rw [List.getElem?_take] at hi
          split at hi
          · exact hi
          · cases hi)⟩)
      have HTL : Hid ((or.take k).length = k) := Lib.hid (by rw [List.length_take, HL2.out]; omega)
      clear hx hbb
      go_wp2_with fail
      refine (contains_any A n c bo x _ HL.out HM.out HA'.out).mono ?_
      rintro e w' ⟨rfl, rfl⟩
      by_cases hbo' : ¬ x ∈ bo
      · have hbo := hbo'
        rw [decide_eq_false hbo]
        go_wp2_with fail
        go_ret
        have hno : ordB bo or = false := by
          cases e : ordB bo or with
          | false => rfl
          | true => exact absurd (ordB_iff.1 e k x HX.out).1 hbo
        exact ⟨by rw [H1.out, hno]; rfl, HB2.out⟩
      have hbo : x ∈ bo := Classical.byContradiction hbo'
      rw [decide_eq_true hbo]
      go_wp2_with fail
      refine (contains_any _ k q (or.take k) x _ HTL.out (by unfold maxLen; omega) HT.out).mono ?_
      rintro e w' ⟨rfl, rfl⟩
      by_cases hta : x ∈ or.take k
      · rw [decide_eq_true hta]
        go_wp2_with fail
        go_ret
        have hno : ordB bo or = false := by
          cases e : ordB bo or with
          | false => rfl
          | true => exact absurd hta (ordB_iff.1 e k x HX.out).2
        exact ⟨by rw [H1.out, hno]; rfl, HB2.out⟩
      · rw [decide_eq_false hta]
        have HH := Lib.hid (And.intro hbo hta)
        clear hbo hta
        go_wp2_with fail
        refine ⟨⟨k + 1, by omega, rfl, fun j z hj hz => ?_, by first | rfl | trivial⟩, by simp [intOf]; omega⟩
        by_cases hjq : j < k
        · exact HAL.out j z hjq hz
        · obtain rfl : j = k := by omega
          have hyz := HX.out
          rw [hz] at hyz
          injection hyz with hyz
          rw [hyz]
          exact HH.out
    · obtain rfl : p = k := by omega
      have k1 : ¬ (p : Int) < (p : Int) := by omega
      have hyes : ordB bo or = true := ordB_iff.2 fun i x hx => HAL.out i x (by have := HL2.out; have := (List.getElem?_eq_some_iff.1 hx).1; omega) hx
      have HY := Lib.hid hyes
      clear hyes
      go_wp2_with fail
      go_ret
      exact ⟨by rw [H1.out, HY.out]; rfl, HB2.out⟩
end Go.Proofs.Ytmppiiamcpjhnaa

namespace Go.Proofs.Ytmppiiamcpjhnaa
open Go.RowKit Go.Shelf

def befB : List Int → List Int → Bool
  | x :: a, y :: b => if x = y then befB a b else decide (x < y)
  | _, _ => false
set_option maxRecDepth 100000 in
set_option maxHeartbeats 8000000 in
theorem before_any (a b : List Int) (A1 A2 : Option Addr) (n1 c1 n2 c2 : Nat) (w : World) (h1 : a.length = n1) (h2 : b.length = n2) (hn : n1 ≤ 1000) (ha : IntsAt w w.heap.size A1 a) (hb : IntsAt w w.heap.size A2 b) :
    Calls Try.prog 32 #[.slice A1 n1 c1, .slice A2 n2 c2] w fun e w' => e = .returned (.bool (befB a b)) ∧ Below w.heap.size w w' := by
  have HL1 := Lib.hid h1; have HL2 := Lib.hid h2; have HA := Lib.hid ha; have HB := Lib.hid hb
  clear h1 h2 ha hb
  go_enter Try.func32, Try.ntmps32
  go_wp2_with fail
  go_loopw [5] (fun ii wr => ∃ k : Nat, k ≤ n1 ∧ ii = .int .i64 k ∧ befB a b = befB (a.drop k) (b.drop k) ∧ Below w.heap.size w wr) (fun ii _ => n1 - (intOf ii).toNat)
  case atStart => exact ⟨0, by omega, rfl, rfl, Below.refl _ _⟩
  case round =>
    obtain ⟨k, hk, rfl, he, hbr⟩ := hrel
    have HE := Lib.hid he; have HBR := Lib.hid hbr
    clear he
    by_cases hlt : k < n1
    · have k3 : (0 : Int) ≤ (k : Int) := by omega
      have k4 : (k : Int) < (n1 : Int) := by omega
      by_cases hl2 : k < n2
      · have k5 : (k : Int) < (n2 : Int) := by omega
        obtain ⟨x, hx⟩ := get_of_lt (l := a) (k := k) (by rw [HL1.out]; exact hlt)
        obtain ⟨y, hy⟩ := get_of_lt (l := b) (k := k) (by rw [HL2.out]; exact hl2)
        obtain ⟨b1, o1, rfl, hb1, x0⟩ := ints_el HA.out hx
        obtain ⟨b2, o2, rfl, hb2, y0⟩ := ints_el HB.out hy
        have HD : Hid (befB a b = if x = y then befB (a.drop (k + 1)) (b.drop (k + 1)) else decide (x < y)) := Lib.hid (by rw [HE.out, drop_at hx, drop_at hy]; rfl)
        have HC : Hid (∀ u : World, Below w.heap.size w u → u.cell? ⟨b1, o1 + k, none⟩ = some (.int .i64 x) ∧ u.cell? ⟨b2, o2 + k, none⟩ = some (.int .i64 y)) := Lib.hid fun u hu => ⟨((bcell hu).1 _ _ hb1).trans x0, ((bcell hu).1 _ _ hb2).trans y0⟩
        have p0 := fun u : KeptW wr => (HC.out u.w (hbr.trans (u.h.mono hbr.size))).1
        have p1 := fun u : KeptW wr => (HC.out u.w (hbr.trans (u.h.mono hbr.size))).2
        clear hx hy hb1 hb2 x0 y0 hbr
        by_cases hxy : x = y
        all_goals
          go_wp2_with fail
          refine rk_region (by kernel_rfl) (by kernel_rfl) ?_
          repeat (go_big_quiet_step (fail))
          refine wpQuiet_nil ?_
          rintro wv ⟨⟨_, hbv⟩, rfl⟩
          have hbz := HBR.out.trans (hbv.mono HBR.out.size)
          have HBZ := Lib.hid hbz
          clear hbv p0 p1
        · subst hxy
          rw [if_pos rfl] at HD
          clear hbz
          go_wp2_with fail
          exact ⟨⟨k + 1, by omega, rfl, HD.out, HBZ.out⟩, by simp [intOf]; omega⟩
        · rw [if_neg hxy] at HD
          have p0 := fun u : KeptW wv => (HC.out u.w (hbz.trans (u.h.mono hbz.size))).1
          have p1 := fun u : KeptW wv => (HC.out u.w (hbz.trans (u.h.mono hbz.size))).2
          clear hbz
          go_wp2_with fail
          refine rk_region (by kernel_rfl) (by kernel_rfl) ?_
          repeat (go_big_quiet_step (fail))
          refine wpQuiet_nil ?_
          rintro wu ⟨⟨_, hbv⟩, rfl⟩
          have HBU := Lib.hid (HBZ.out.trans (hbv.mono HBZ.out.size))
          clear hbv p0 p1
          go_wp2_with fail
          go_ret
          exact ⟨by rw [HD.out]; rfl, HBU.out⟩
      · have k5 : ¬ (k : Int) < (n2 : Int) := by omega
        have HD : Hid (befB a b = false) := Lib.hid (by
          rw [HE.out, List.drop_of_length_le (l := b) (by rw [HL2.out]; omega)]
          cases a.drop k <;> rfl)
        clear hbr
        go_wp2_with fail
        go_ret
        exact ⟨by rw [HD.out]; rfl, HBR.out⟩
    · obtain rfl : n1 = k := by omega
      have k4 : ¬ (n1 : Int) < (n1 : Int) := by omega
      have HD : Hid (befB a b = false) := Lib.hid (by
        rw [HE.out, List.drop_of_length_le (l := a) (by rw [HL1.out]; omega)]
        rfl)
      clear hbr
      go_wp2_with fail
      go_ret
      exact ⟨by rw [HD.out]; rfl, HBR.out⟩

theorem takeS_eq {a b : List Int} {k : Nat} {x : Int} (hx : a[k]? = some x) (hy : b[k]? = some x) (h : a.take k = b.take k) : a.take (k + 1) = b.take (k + 1) := by
  rw [List.take_add_one, List.take_add_one, hx, hy, h]
set_option maxRecDepth 100000 in
set_option maxHeartbeats 8000000 in
theorem same_any (a b : List Int) (A1 A2 : Option Addr) (n1 c1 n2 c2 : Nat) (w : World) (h1 : a.length = n1) (h2 : b.length = n2) (hn : n1 ≤ maxLen) (ha : IntsAt w w.heap.size A1 a) (hb : IntsAt w w.heap.size A2 b) :
    Calls Try.prog 24 #[.slice A1 n1 c1, .slice A2 n2 c2] w fun e w' => e = .returned (.bool (decide (a = b))) ∧ Below w.heap.size w w' := by
  have HL1 := Lib.hid h1; have HL2 := Lib.hid h2; have HA := Lib.hid ha; have HB := Lib.hid hb
  unfold maxLen at hn
  clear h1 h2 ha hb
  by_cases hne : ¬ (n1 : Int) = (n2 : Int)
  · go_enter Try.func24, Try.ntmps24
    go_wp2_with fail
    go_ret
    have : ¬ a = b := fun e => hne (by rw [← HL1.out, ← HL2.out, e])
    exact ⟨by rw [decide_eq_false this]; rfl, Below.refl _ _⟩
  have heq : (n1 : Int) = (n2 : Int) := Classical.byContradiction hne
  clear hne
  go_enter Try.func24, Try.ntmps24
  go_wp2_with fail
  go_loopw [5] (fun ii wr => ∃ k : Nat, k ≤ n1 ∧ ii = .int .i64 k ∧ a.take k = b.take k ∧ Below w.heap.size w wr) (fun ii _ => n1 - (intOf ii).toNat)
  case atStart => exact ⟨0, by omega, rfl, rfl, Below.refl _ _⟩
  case round =>
    obtain ⟨k, hk, rfl, he, hbr⟩ := hrel
    have HE := Lib.hid he; have HBR := Lib.hid hbr
    clear he
    by_cases hlt : k < n1
    · have k3 : (0 : Int) ≤ (k : Int) := by omega
      have k4 : (k : Int) < (n1 : Int) := by omega
      have k5 : (k : Int) < (n2 : Int) := by omega
      obtain ⟨x, hx⟩ := get_of_lt (l := a) (k := k) (by rw [HL1.out]; exact hlt)
      obtain ⟨y, hy⟩ := get_of_lt (l := b) (k := k) (by rw [HL2.out]; omega)
      obtain ⟨b1, o1, rfl, hb1, x0⟩ := ints_el HA.out hx
      obtain ⟨b2, o2, rfl, hb2, y0⟩ := ints_el HB.out hy
      have HX := Lib.hid hx; have HY := Lib.hid hy
      have p0 : ∀ u : KeptW wr, u.w.cell? ⟨b1, o1 + k, none⟩ = some (.int .i64 x) := fun u => ((bcell (hbr.trans (u.h.mono hbr.size))).1 _ _ hb1).trans x0
      have p1 : ∀ u : KeptW wr, u.w.cell? ⟨b2, o2 + k, none⟩ = some (.int .i64 y) := fun u => ((bcell (hbr.trans (u.h.mono hbr.size))).1 _ _ hb2).trans y0
      clear hx hy x0 y0 hbr hb1 hb2
      by_cases hxy : x = y
      all_goals
        go_wp2_with fail
        refine rk_region (by kernel_rfl) (by kernel_rfl) ?_
        repeat (go_big_quiet_step (fail))
        refine wpQuiet_nil ?_
        rintro wv ⟨⟨_, hbv⟩, rfl⟩
        have HBZ := Lib.hid (HBR.out.trans (hbv.mono HBR.out.size))
        clear hbv p0 p1
      · subst hxy
        go_wp2_with fail
        exact ⟨⟨k + 1, by omega, rfl, takeS_eq HX.out HY.out HE.out, HBZ.out⟩, by simp [intOf]; omega⟩
      · go_wp2_with fail
        go_ret
        have : ¬ a = b := fun e => hxy (by
          have h1 := HX.out
          rw [e, HY.out] at h1
          injection h1 with h1
          exact h1.symm)
        exact ⟨by rw [decide_eq_false this]; rfl, HBZ.out⟩
    · obtain rfl : n1 = k := by omega
      have k4 : ¬ (n1 : Int) < (n1 : Int) := by omega
      have hab := HE.out
      rw [List.take_of_length_le (by rw [HL1.out]; omega), List.take_of_length_le (by rw [HL2.out]; omega)] at hab
      clear hbr
      have HAB := Lib.hid hab
      clear hab
      go_wp2_with fail
      go_ret
      exact ⟨by rw [decide_eq_true HAB.out]; rfl, HBR.out⟩
theorem has_b (A : Option Addr) (n c : Nat) (cs : List Int) (x : Int) (w : World) (hl : cs.length = n) (hn : n ≤ maxLen) (hA : IntsAt w w.heap.size A cs) :
    Calls Try.prog 43 #[.slice A n c, .int .i64 x] w fun e w' => e = .returned (.bool (decide (x ∈ cs))) ∧ Below w.heap.size w w' :=
  (has_any A n c cs x w hl hn hA).mono fun _ _ h => ⟨h.1, by rw [← h.2]; exact Below.refl _ _⟩
set_option maxRecDepth 100000 in
set_option maxHeartbeats 8000000 in
theorem rorder_any (bo or : List Int) (A1 A2 : Option Addr) (n1 c1 p q : Nat) (w : World) (h1 : bo.length = n1) (h2 : or.length = p) (hn : n1 ≤ maxLen) (hp : p ≤ maxLen) (hpq : p ≤ q) (ha : IntsAt w w.heap.size A1 bo) (hb : IntsAt w w.heap.size A2 or) :
    Calls Try.prog 44 #[.slice A1 n1 c1, .slice A2 p q] w fun e w' => e = .returned (.bool (ordB bo or)) ∧ Below w.heap.size w w' := by
  have HL1 := Lib.hid h1; have HL2 := Lib.hid h2; have HA := Lib.hid ha; have HB := Lib.hid hb; have HN := Lib.hid hn
  unfold maxLen at hp
  clear h1 h2 ha hb hn
  go_enter Try.func44, Try.ntmps44
  go_wp2_with fail
  go_loopw [5] (fun ii wr => ∃ k : Nat, k ≤ p ∧ ii = .int .i64 k ∧ (∀ j x, j < k → or[j]? = some x → x ∈ bo ∧ ¬ x ∈ or.take j) ∧ Below w.heap.size w wr) (fun ii _ => p - (intOf ii).toNat)
  case atStart => exact ⟨0, by omega, rfl, fun j _ hj => absurd hj (Nat.not_lt_zero _), Below.refl _ _⟩
  case round =>
    obtain ⟨k, hk, rfl, hall, hbr⟩ := hrel
    have HAL := Lib.hid hall; have HBR := Lib.hid hbr
    clear hall
    by_cases hlt : k < p
    · have k3 : (0 : Int) ≤ (k : Int) := by omega
      have k4 : (k : Int) < (p : Int) := by omega
      have k5 : (k : Int) ≤ (q : Int) := by omega
      obtain ⟨x, hx⟩ := get_of_lt (l := or) (k := k) (by rw [HL2.out]; exact hlt)
      obtain ⟨b, o, hA0, hbb, c0⟩ := ints_el HB.out hx
      subst hA0
      have HX := Lib.hid hx
      have HTL : Hid ((or.take k).length = k) := Lib.hid (by rw [List.length_take, HL2.out]; omega)
      have p0 : ∀ u : KeptW wr, u.w.cell? ⟨b, o + k, none⟩ = some (.int .i64 x) := fun u => ((bcell (hbr.trans (u.h.mono hbr.size))).1 _ _ hbb).trans c0
      have HH1 := Lib.hid (fun u : KeptW wr => Calls.in_kept u (has_b A1 n1 c1 bo x u.w HL1.out HN.out (RowAt.next HA.out (hbr.trans (u.h.mono hbr.size)) (hbr.trans (u.h.mono hbr.size)).size)))
      have HH2 := Lib.hid (fun u : KeptW wr => Calls.in_kept u (has_b (some ⟨b, o, none⟩) k q (or.take k) x u.w HTL.out (by unfold maxLen; omega) (fun hne => by
        have hu := hbr.trans (u.h.mono hbr.size)
        obtain ⟨b', o', e1, e2, e3⟩ := (RowAt.next HB.out hu hu.size) (fun e => hne (by rw [e]; simp))
        exact ⟨b', o', e1, e2, fun i y hi => e3 i y (by
          rw [List.getElem?_take] at hi
          split at hi
          · exact hi
          · cases hi)⟩)))
      clear hx hbb c0 hbr
      by_cases hbo : x ∈ bo <;> by_cases hta : x ∈ or.take k
      all_goals
        simp only [hbo, hta, decide_true, decide_false] at HH1 HH2
        go_wp2_with fail
        refine rk_region (by kernel_rfl) (by kernel_rfl) ?_
        repeat (go_big_quiet_step (first | (with_reducible exact HH1.out _) | (with_reducible exact HH2.out _) | fail))
        refine wpQuiet_nil ?_
        rintro wv ⟨⟨_, hbv⟩, rfl⟩
        have HBZ := Lib.hid (HBR.out.trans (hbv.mono HBR.out.size))
        clear hbv p0 HH1 HH2
        go_wp2_with fail
      · go_ret
        have hno : ordB bo or = false := by
          cases e : ordB bo or with
          | false => rfl
          | true => exact absurd hta (ordB_iff.1 e k x HX.out).2
        exact ⟨by rw [hno]; rfl, HBZ.out⟩
      · refine ⟨⟨k + 1, by omega, rfl, fun j z hj hz => ?_, HBZ.out⟩, by simp [intOf]; omega⟩
        by_cases hjq : j < k
        · exact HAL.out j z hjq hz
        · obtain rfl : j = k := by omega
          have hyz := HX.out
          rw [hz] at hyz
          injection hyz with hyz
          rw [hyz]
          exact ⟨hbo, hta⟩
      · go_ret
        have hno : ordB bo or = false := by
          cases e : ordB bo or with
          | false => rfl
          | true => exact absurd hta (ordB_iff.1 e k x HX.out).2
        exact ⟨by rw [hno]; rfl, HBZ.out⟩
      · go_ret
        have hno : ordB bo or = false := by
          cases e : ordB bo or with
          | false => rfl
          | true => exact absurd (ordB_iff.1 e k x HX.out).1 hbo
        exact ⟨by rw [hno]; rfl, HBZ.out⟩
    · obtain rfl : p = k := by omega
      have k1 : ¬ (p : Int) < (p : Int) := by omega
      have HY := Lib.hid (show ordB bo or = true from ordB_iff.2 fun i x hx => HAL.out i x (by have := HL2.out; have := (List.getElem?_eq_some_iff.1 hx).1; omega) hx)
      clear hbr
      go_wp2_with fail
      go_ret
      exact ⟨by rw [HY.out]; rfl, HBR.out⟩
end Go.Proofs.Ytmppiiamcpjhnaa

namespace Go.Proofs.Ytmppiiamcpjhnaa
open Go.RowKit Go.Shelf

theorem info_parts {e : TypeId} {z : Value} {s b : Nat} (h : (Try.prog.info? e).map (fun i => (i.zero, i.size, i.bytes)) = some (some z, s, b)) : ∃ i, Try.prog.info? e = some i ∧ i.zero = some z ∧ i.size = s ∧ i.bytes = b := by
  obtain ⟨i, hi, hz⟩ := Option.map_eq_some_iff.1 h
  exact ⟨i, hi, congrArg (·.1) hz, congrArg (·.2.1) hz, congrArg (·.2.2) hz⟩
theorem int_info : (Try.prog.info? 3).map (fun i => (i.zero, i.size, i.bytes)) = some (some (.int .i64 0), 1, 8) := by kernel_rfl
def remL (l failed : List Int) : List Int := l.filter fun x => !decide (x ∈ failed)
theorem remL_in {l failed : List Int} {k : Nat} {x : Int} (h : l[k]? = some x) (hx : x ∈ failed) : remL (l.take (k + 1)) failed = remL (l.take k) failed := by
  unfold remL
  rw [List.take_add_one, h, Option.toList_some, List.filter_append]
  simp [hx]
theorem remL_out {l failed : List Int} {k : Nat} {x : Int} (h : l[k]? = some x) (hx : ¬ x ∈ failed) : remL (l.take (k + 1)) failed = remL (l.take k) failed ++ [x] := by
  unfold remL
  rw [List.take_add_one, h, Option.toList_some, List.filter_append]
  simp [hx]
theorem remL_len {l failed : List Int} {k : Nat} : (remL (l.take k) failed).length ≤ k := by
  have h1 := List.length_filter_le (fun x => !decide (x ∈ failed)) (l.take k)
  have h2 := List.length_take_le k l
  unfold remL
  omega
set_option maxRecDepth 100000 in
set_option maxHeartbeats 8000000 in
theorem rwithout_any (l failed : List Int) (A1 A2 : Option Addr) (n c1 p q : Nat) (w : World) (h1 : l.length = n) (h2 : failed.length = p) (hn : n ≤ 1000) (hp : p ≤ maxLen) (ha : IntsAt w w.heap.size A1 l) (hb : IntsAt w w.heap.size A2 failed) :
    Calls Try.prog 30 #[.slice A1 n c1, .slice A2 p q] w fun e w' => ∃ v, e = .returned v ∧ Below w.heap.size w w' ∧ RowIs intR 3 w.heap.size (remL l failed) v w' := by
  have HL1 := Lib.hid h1; have HL2 := Lib.hid h2; have HA := Lib.hid ha; have HB := Lib.hid hb; have HP := Lib.hid hp
  clear h1 h2 ha hb hp
  obtain ⟨i0, hi0, hz0, hz1, hz2⟩ := info_parts int_info
  go_enter Try.func30, Try.ntmps30
  go_wp2_with fail
  go_loopw [5, 6] (fun vv ii wr => ∃ k : Nat, k ≤ n ∧ ii = .int .i64 k ∧ Below w.heap.size w wr ∧ wr.ownsRow w.heap.size 3 1 vv (remL (l.take k) failed).length (flatR intR (remL (l.take k) failed))) (fun _ ii _ => n - (intOf ii).toNat)
  case atStart => exact ⟨0, by omega, rfl, Below.refl _ _, World.ownsRow_nil _ _ _ _⟩
  case round =>
    obtain ⟨k, hk, rfl, hbr, hown⟩ := hrel
    have HBR := Lib.hid hbr; have HOWN := Lib.hid hown
    clear hown
    by_cases hlt : k < n
    · have k3 : (0 : Int) ≤ (k : Int) := by omega
      have k4 : (k : Int) < (n : Int) := by omega
      obtain ⟨x, hx⟩ := get_of_lt (l := l) (k := k) (by rw [HL1.out]; exact hlt)
      obtain ⟨b, o, rfl, hbb, c0⟩ := ints_el (RowAt.next HA.out hbr hbr.size) hx
      have HX := Lib.hid hx
      have HC := Lib.hid (has_any A2 p q failed x wr HL2.out HP.out (RowAt.next HB.out hbr hbr.size))
      have hsz : w.heap.size ≤ wr.heap.size := hbr.size
      clear hx hbb hbr
      go_wp2_with fail
      refine HC.out.mono ?_
      rintro e w2 ⟨rfl, rfl⟩
      clear HC
      by_cases hin : x ∈ failed
      · rw [decide_eq_true hin]
        have HR := Lib.hid (remL_in HX.out hin)
        clear hin
        go_wp2_with fail
        exact ⟨⟨k + 1, by omega, rfl, HBR.out, by rw [HR.out]; exact HOWN.out⟩, by simp [intOf]; omega⟩
      · rw [decide_eq_false hin]
        have HR := Lib.hid (remL_out HX.out hin)
        have hlen := @remL_len l failed k
        obtain ⟨L, hL⟩ : ∃ z, remL (l.take k) failed = z := ⟨_, rfl⟩
        rw [hL] at HR HOWN hlen
        clear hin hL
        go_wp2_with (first
          | (at_builtin
             refine wpList_append_own _ rfl _ _ 26 rfl w.heap.size 3 i0 _ 1 8 Try.underlying26 hi0 hz0 hz1 hz2 rfl (by decide) _ _ _ rfl (own_next HOWN.out ((Below.refl _ wr).alloc (Nat.le_refl _) _)) ⟨wr.heap.size, 0, none⟩ 1 1 [.int .i64 x] rfl rfl (cells_new wr [.int .i64 x] 3) (by simp [Value.oneCell']) (by unfold maxLen; omega) (by omega) (by simp; omega) ?_
             intro v' w6 hown6 hgr6 hnil6)
          | fail)
        refine ⟨⟨k + 1, by omega, rfl, ?_, ?_⟩, by simp [intOf]; omega⟩
        · have hb6 : Below w.heap.size w (wr.alloc (.cells #[.int .i64 x] 3)) := HBR.out.alloc hsz _
          exact hb6.grown hgr6 hb6.size (fun q e => (own_at HOWN.out e).1)
        · rw [HR.out, flatR_snoc, List.length_append]
          exact hown6
    · obtain rfl : n = k := by omega
      have k4 : ¬ (n : Int) < (n : Int) := by omega
      have hro := RowIs.of_own HOWN.out
      rw [List.take_of_length_le (by rw [HL1.out]; omega)] at hro
      have HRO := Lib.hid hro
      clear hbr hro
      go_wp2_with fail
      go_ret
      exact ⟨_, rfl, HBR.out, HRO.out⟩
def sitN (k : Nat) : List Int := (List.range k).map Int.ofNat
theorem sitN_succ (k : Nat) : sitN (k + 1) = sitN k ++ [(k : Int)] := by
  unfold sitN
  rw [List.range_succ, List.map_append]
  rfl
theorem sitN_len (k : Nat) : (sitN k).length = k := by simp [sitN]
set_option maxRecDepth 100000 in
set_option maxHeartbeats 8000000 in
theorem rsites_any (V : TV) (T : Tn) (w : World) (hN : TnAt w w.heap.size V T) (h10 : V.ns ≤ 1000) :
    Calls Try.prog 69 #[tvV V] w fun e w' => ∃ v, e = .returned v ∧ Below w.heap.size w w' ∧ RowIs intR 3 w.heap.size (sitN T.ss.length) v w' := by
  have z := heap_alloc_new w (.cells (tvC V) 25)
  have hb := (Below.refl w.heap.size w).alloc (Nat.le_refl _) (.cells (tvC V) 25)
  obtain ⟨w1, hw1⟩ : ∃ z, w.alloc (.cells (tvC V) 25) = z := ⟨_, rfl⟩
  rw [hw1] at z hb
  have HW := Lib.hid hw1
  obtain ⟨ah, nh, ch, az, ns, cz⟩ := V
  simp only at h10
  have HV := Lib.hid (box2 z)
  have HB := Lib.hid hb; have LZ := Lib.hid (heapsz z)
  have HNS := Lib.hid hN.ns
  clear z hb hw1 hN
  obtain ⟨i0, hi0, hz0, hz1, hz2⟩ := info_parts int_info
  go_enter Try.func69, Try.ntmps69
  go_wp2_with fail
  rw [show w.alloc (.cells #[.slice ah nh ch, .slice az ns cz] 25) = w1 from HW.out]
  go_loopw [3, 4] (fun vv ii wr => ∃ k : Nat, k ≤ ns ∧ ii = .int .i64 k ∧ Below w1.heap.size w1 wr ∧ wr.ownsRow w1.heap.size 3 1 vv k (flatR intR (sitN k))) (fun _ ii _ => ns - (intOf ii).toNat)
  case atStart => exact ⟨0, by omega, rfl, Below.refl _ _, World.ownsRow_nil _ _ _ _⟩
  case round =>
    obtain ⟨k, hk, rfl, hbr, hown⟩ := hrel
    have HBR := Lib.hid hbr; have HOWN := Lib.hid hown
    have v1 := ((bcell hbr).1 _ _ LZ.out).trans HV.out.2
    have hsz : w1.heap.size ≤ wr.heap.size := hbr.size
    clear hown hbr
    by_cases hlt : k < ns
    · have k3 : (0 : Int) ≤ (k : Int) := by omega
      have k4 : (k : Int) < (ns : Int) := by omega
      have HS := Lib.hid (sitN_succ k)
      go_wp2_with (first
          | (at_builtin
             refine wpList_append_own _ rfl _ _ 26 rfl w1.heap.size 3 i0 _ 1 8 Try.underlying26 hi0 hz0 hz1 hz2 rfl (by decide) _ _ _ rfl (own_next HOWN.out ((Below.refl _ wr).alloc (Nat.le_refl _) _)) ⟨wr.heap.size, 0, none⟩ 1 1 [.int .i64 (k : Int)] rfl rfl (cells_new wr [.int .i64 (k : Int)] 3) (by simp [Value.oneCell']) (by unfold maxLen; omega) (by omega) (by simp; omega) ?_
             intro v' w6 hown6 hgr6 hnil6)
          | fail)
      refine ⟨⟨k + 1, by omega, rfl, ?_, ?_⟩, by simp [intOf]; omega⟩
      · have hb6 : Below w1.heap.size w1 (wr.alloc (.cells #[.int .i64 (k : Int)] 3)) := HBR.out.alloc hsz _
        exact hb6.grown hgr6 hb6.size (fun q e => (own_at HOWN.out e).1)
      · rw [HS.out, flatR_snoc]
        exact hown6
    · obtain rfl : ns = k := by omega
      have k4 : ¬ (ns : Int) < (ns : Int) := by omega
      have hro : RowIs intR 3 w1.heap.size (sitN ns) u3 wr := RowIs.of_own (by rw [sitN_len]; exact HOWN.out)
      have HRO := Lib.hid (hro.low HB.out.size)
      clear hro
      go_wp2_with fail
      go_ret
      exact ⟨_, rfl, HB.out.trans (HBR.out.mono HB.out.size), by rw [HNS.out]; exact HRO.out⟩
end Go.Proofs.Ytmppiiamcpjhnaa

namespace Go.Proofs.Ytmppiiamcpjhnaa
open Go.RowKit Go.Shelf

def costL (T : Tn) (cs : List Int) : Int := (cs.map fun x => costI T x.toNat).sum
theorem costL_succ {T : Tn} {cs : List Int} {k : Nat} {x : Int} (h : cs[k]? = some x) : costL T (cs.take (k + 1)) = costL T (cs.take k) + costI T x.toNat := by
  unfold costL
  rw [List.take_add_one, h, Option.toList_some, List.map_append, List.sum_append]
  simp
theorem cost_in {T : Tn} (K : TnOk T) (x : Nat) : 0 ≤ costI T x ∧ costI T x ≤ 1000000 := by
  unfold costI
  rw [List.getD_eq_getElem?_getD]
  cases h : T.ss[x]? with
  | none => decide
  | some s => exact (K.ss s (List.mem_of_getElem? h)).co
theorem costL_in {T : Tn} (K : TnOk T) (cs : List Int) : 0 ≤ costL T cs ∧ costL T cs ≤ 1000000 * cs.length := by
  unfold costL
  have h := sum_in (l := cs.map fun x => costI T x.toNat) (fun y hy => by
    obtain ⟨x, _, rfl⟩ := List.mem_map.1 hy
    exact cost_in K _)
  rwa [List.length_map] at h
set_option maxRecDepth 100000 in
set_option maxHeartbeats 8000000 in
theorem rcost_any (V : TV) (T : Tn) (A : Option Addr) (n c : Nat) (cs : List Int) (w : World) (hN : TnAt w w.heap.size V T) (hK : TnOk T) (hl : cs.length = n) (hn : n ≤ 100) (hA : IntsAt w w.heap.size A cs) (hin : ∀ x ∈ cs, 0 ≤ x ∧ x < V.ns) :
    Calls Try.prog 37 #[tvV V, .slice A n c] w fun e w' => e = .returned (.int .i64 (costL T cs)) ∧ Below w.heap.size w w' := by
  have z := heap_alloc_new w (.cells (tvC V) 25)
  have hb := (Below.refl w.heap.size w).alloc (Nat.le_refl _) (.cells (tvC V) 25)
  obtain ⟨w1, hw1⟩ : ∃ z, w.alloc (.cells (tvC V) 25) = z := ⟨_, rfl⟩
  rw [hw1] at z hb
  have HW := Lib.hid hw1
  have HN := Lib.hid (hN.up hb); have HA := Lib.hid (RowAt.up hA hb); have HL := Lib.hid hl
  obtain ⟨ah, nh, ch, az, ns, cz⟩ := V
  simp only at hin
  have HV := Lib.hid (box2 z); have HK := Lib.hid hK; have HIN := Lib.hid hin
  have HB := Lib.hid hb; have LZ := Lib.hid (heapsz z)
  have HNS := Lib.hid hN.ns
  clear z hb hw1 hN hA hl hK hin
  go_enter Try.func37, Try.ntmps37
  go_wp2_with fail
  rw [show w.alloc (.cells #[.slice ah nh ch, .slice az ns cz] 25) = w1 from HW.out]
  go_loopw [5, 6] (fun ss ii wr => ∃ k : Nat, k ≤ n ∧ ii = .int .i64 k ∧ ss = .int .i64 (costL T (cs.take k)) ∧ Below w1.heap.size w1 wr) (fun _ ii _ => n - (intOf ii).toNat)
  case atStart => exact ⟨0, by omega, rfl, rfl, Below.refl _ _⟩
  case round =>
    obtain ⟨k, hk, rfl, rfl, hbr⟩ := hrel
    have HBR := Lib.hid hbr
    clear hbr
    by_cases hlt : k < n
    · have k3 : (0 : Int) ≤ (k : Int) := by omega
      have k4 : (k : Int) < (n : Int) := by omega
      obtain ⟨x, hx⟩ := get_of_lt (l := cs) (k := k) (by rw [HL.out]; exact hlt)
      have hxi := HIN.out x (List.mem_of_getElem? hx)
      obtain ⟨b, o, rfl, hbb, c0⟩ := ints_el (RowAt.up HA.out HBR.out) hx
      have HS := Lib.hid (costL_succ (T := T) hx)
      obtain ⟨j, rfl⟩ : ∃ j : Nat, x = j := ⟨x.toNat, by omega⟩
      obtain ⟨S, hS⟩ := get_of_lt (l := T.ss) (k := j) (by have := HNS.out; omega)
      obtain ⟨b2, o2, A', m, c', hA9, hbb2, hm, ⟨d0, d1, d2⟩, hpr, hmx⟩ := si_el (HN.out.ss.next HBR.out HBR.out.size) hS
      subst hA9
      have HCO : Hid (costI T j = S.co) := Lib.hid (by
        have e1 : T.ss.getD j ⟨0, 0, []⟩ = S := by rw [List.getD_eq_getElem?_getD, hS]; rfl
        unfold costI; rw [e1])
      have h1 := cost_in HK.out j
      have h2 := costL_in HK.out (cs.take k)
      have h3 : (cs.take k).length ≤ 100 := by rw [List.length_take, HL.out]; omega
      rw [HCO.out] at h1
      have e1 : wrap64 (costL T (cs.take k) + S.co) = costL T (cs.take k) + S.co := w64 (by omega)
      have LW := Lib.hid (Nat.lt_of_lt_of_le LZ.out HBR.out.size)
      have j0 : (0 : Int) ≤ (j : Int) := by omega
      have j1 : (j : Int) < (ns : Int) := by omega
      have a0 : ∀ u : KeptW wr, u.w.cell? ⟨w.heap.size, 1, none⟩ = some (.slice (some ⟨b2, o2, none⟩) ns cz) := fun u => ((bcell u.h).1 _ _ LW.out).trans (((bcell HBR.out).1 _ _ LZ.out).trans HV.out.2)
      have a1 : ∀ u : KeptW wr, u.w.cell? ⟨b, o + k, none⟩ = some (.int .i64 (j : Int)) := fun u => ((bcell u.h).1 _ _ hbb).trans c0
      have a2 : ∀ u : KeptW wr, u.w.cell? ⟨b2, o2 + j * 3, none⟩ = some (.int .i64 S.co) := fun u => ((bcell u.h).1 _ _ hbb2).trans d0
      rw [Int.toNat_natCast, HCO.out] at HS
      obtain ⟨Q, hQ⟩ : ∃ z, costL T (cs.take k) = z := ⟨_, rfl⟩
      rw [hQ] at e1 HS ⊢
      clear hS hbb hbb2 hm hpr hmx c0 d0 d1 d2 h1 h2 h3 hx hxi hQ
      go_wp2_with fail
      refine rk_region (by kernel_rfl) (by kernel_rfl) ?_
      repeat (go_big_quiet_step (fail))
      refine wpQuiet_nil ?_
      rintro wv ⟨⟨_, hbv⟩, rfl⟩
      have HBZ := Lib.hid (HBR.out.trans (hbv.mono HBR.out.size))
      clear hbv a0 a1 a2
      go_wp2_with fail
      exact ⟨⟨k + 1, by omega, rfl, by rw [HS.out]; first | rfl | rw [e1], HBZ.out⟩, by simp [intOf]; omega⟩
    · obtain rfl : n = k := by omega
      have k4 : ¬ (n : Int) < (n : Int) := by omega
      have HT : Hid (cs.take n = cs) := Lib.hid (List.take_of_length_le (by rw [HL.out]; omega))
      rw [HT.out]
      go_wp2_with fail
      go_ret
      exact ⟨rfl, HB.out.trans (HBR.out.mono HB.out.size)⟩
end Go.Proofs.Ytmppiiamcpjhnaa

namespace Go.Proofs.Ytmppiiamcpjhnaa
open Go.RowKit Go.Shelf

theorem info72 : (Try.prog.info? 72).map (·.size) = some 2 := by kernel_rfl
set_option maxRecDepth 100000 in
set_option maxHeartbeats 4000000 in
theorem span_any (a b : Int) (w : World) :
    Calls Try.prog 45 #[.int .i64 a, .int .i64 b] w fun e w' => e = .returned (.agg #[.int .i64 a, .int .i64 b]) ∧ Below w.heap.size w w' := by
  have hb := Lib.hid ((Below.refl w.heap.size w).alloc (Nat.le_refl _) (.cells #[.int .i64 a, .int .i64 b] 72))
  go_enter Try.func45, Try.ntmps45
  go_wp2_with fail
  refine bodyPost_ret (results_cell_row rfl _ _ w.heap.size 72 _ (0, 0) _ rfl (heap_alloc_new w _) Try.underlying72 rfl info72) rfl ?_
  exact ⟨rfl, hb.out⟩
end Go.Proofs.Ytmppiiamcpjhnaa
