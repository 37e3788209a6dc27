/- A looked-at site is made. -/
import Derived.Test.YtdlaphlpimlgdaaGreatDoorW
import Derived.RangeFuncNested
import Derived.RangeFuncBound
import Derived.RangeFuncCalls
import Derived.RangeFuncLeaves
import Derived.RangeFuncBox
import Derived.RangeFuncFrom
import Derived.Shelf.Abstract
import Derived.Shelf.RegionOpen
import Derived.OwnWalkIn
import Derived.TacticsInMore
import Derived.LoopNIn
import Derived.LoopIn
import Derived.RegionIn
import Derived.Laws.BitsLemmas
namespace Go.Proofs.YtdlaphlpimlgdaaGreatDoor
open Go.RowKit

set_option maxRecDepth 100000 in
set_option maxHeartbeats 2000000 in
theorem look_any (AP AQ AR A : Option Addr) (np cp nq cq nr cr n c : Nat) (may sink tilt : Int) (w : World) :
    Calls Tryz.prog 69 #[.agg #[.slice AP np cp, .slice AQ nq cq, .slice AR nr cr, .int .i64 may, .int .i64 sink, .int .i64 tilt], .slice A n c] w fun e w' => ∃ G, e = .returned (.pointer (some ⟨G, 0, none⟩)) ∧ LookAt w' G AP AQ AR A np cp nq cq nr cr n c may sink tilt ∧ Below w.heap.size w w' := by
  obtain ⟨z0, z1, hb0⟩ := two_boxes w (.cells #[.slice AP np cp, .slice AQ nq cq, .slice AR nr cr, .int .i64 may, .int .i64 sink, .int .i64 tilt] 26) (.cells #[.slice AP np cp, .slice AQ nq cq, .slice AR nr cr, .int .i64 may, .int .i64 sink, .int .i64 tilt, .slice A n c] 151)
  have Z1 := Lib.hid z1; have HB := Lib.hid hb0
  clear z0 z1 hb0
  go_enter Tryz.func69, Tryz.ntmps69
  go_wp2_with fail
  go_ret
  exact ⟨w.heap.size + 1, by simp, Z1.out, HB.out⟩
end Go.Proofs.YtdlaphlpimlgdaaGreatDoor
/- The statement's row of a pile's use. -/
namespace Go.Proofs.YtdlaphlpimlgdaaGreatDoor
open Go.RowKit

theorem three_boxes (w : World) (o1 o2 o3 : Obj) : (((w.alloc o1).alloc o2).alloc o3).heap[w.heap.size]? = some o1 ∧ (((w.alloc o1).alloc o2).alloc o3).heap[w.heap.size + 1]? = some o2 ∧ (((w.alloc o1).alloc o2).alloc o3).heap[w.heap.size + 1 + 1]? = some o3 ∧ Below w.heap.size w (((w.alloc o1).alloc o2).alloc o3) := by
  obtain ⟨h1, h2, h3⟩ := two_boxes w o1 o2
  exact ⟨(Below.heap_alloc _ o3 _ (heapszO h1)).trans h1, (Below.heap_alloc _ o3 _ (heapszO h2)).trans h2, by simpa using heap_alloc_last ((w.alloc o1).alloc o2) o3, h3.alloc h3.size o3⟩
set_option maxRecDepth 100000 in
set_option maxHeartbeats 4000000 in
theorem refRow_any (AP AQ AR : Option Addr) (np cp nq cq nr cr : Nat) (rs : List Rw) (may sink tilt : Int) (p : Pil) (t l : Int) (w : World)
    (hr : rs.length = nr) (hr0 : 1 ≤ nr) (hr2 : nr ≤ maxLen) (hR : RwsAt w w.heap.size AR rs) (hB : pilB p = true) (ht : 0 ≤ t ∧ t ≤ 50000) (hl : 0 ≤ l ∧ l ≤ 100000) :
    Calls Tryz.prog 84 #[.agg #[.slice AP np cp, .slice AQ nq cq, .slice AR nr cr, .int .i64 may, .int .i64 sink, .int .i64 tilt], pilV p, .int .i64 t, .int .i64 l] w fun e w' => e = .returned (.agg #[.int .i64 (rowI rs (carI p t) l).1.u, .int .i64 (rowI rs (carI p t) l).1.lo, .int .i64 (rowI rs (carI p t) l).1.hi]) ∧ Below w.heap.size w w' := by
  have HR := Lib.hid hr; have HRA := Lib.hid hR
  unfold maxLen at hr2
  have hC := carI_b hB ht.1
  have hcar := fun u => refCarries_any p t u hB ht.1 ht.2
  obtain ⟨C, eC⟩ : ∃ z, carI p t = z := ⟨_, rfl⟩
  rw [eC] at hC ⊢
  simp only [eC] at hcar
  have HCAR := Lib.hid hcar
  obtain ⟨d, pp, s, pl, ph, g, co⟩ := p
  obtain ⟨j, ej⟩ : ∃ j, nr = j + 1 := ⟨nr - 1, by omega⟩
  obtain ⟨x, hx⟩ := get_of_lt (l := rs) (k := j) (by rw [hr]; omega)
  obtain ⟨b, o, rfl, hb, hcs⟩ := rw_cells hR (by intro e; rw [e] at hx; simp at hx)
  have HLAST : Hid (lastR rs = x) := Lib.hid (by
    unfold lastR
    rw [List.getLastD_eq_getLast?, List.getLast?_eq_getElem?, show rs.length - 1 = j by omega, hx]
    rfl)
  have HCS := Lib.hid hcs
  have HX0 := Lib.hid hx
  obtain ⟨z0, z1, z2, hb0⟩ := three_boxes w (.cells #[.slice AP np cp, .slice AQ nq cq, .slice (some ⟨b, o, none⟩) nr cr, .int .i64 may, .int .i64 sink, .int .i64 tilt] 26) (.cells #[.int .i64 d, .int .i64 pp, .int .i64 s, .int .i64 pl, .int .i64 ph, .int .i64 g, .int .i64 co] 45) (.cells #[.int .i64 0, .int .i64 0, .int .i64 0] 119)
  obtain ⟨w1, hw1⟩ : ∃ z, ((w.alloc (.cells #[.slice AP np cp, .slice AQ nq cq, .slice (some ⟨b, o, none⟩) nr cr, .int .i64 may, .int .i64 sink, .int .i64 tilt] 26)).alloc (.cells #[.int .i64 d, .int .i64 pp, .int .i64 s, .int .i64 pl, .int .i64 ph, .int .i64 g, .int .i64 co] 45)).alloc (.cells #[.int .i64 0, .int .i64 0, .int .i64 0] 119) = z := ⟨_, rfl⟩
  rw [hw1] at z0 z1 z2 hb0
  have Z0 := Lib.hid z0; have Z2 := Lib.hid z2; have HB1 := Lib.hid hb0
  obtain ⟨p0, p1, p2, p3, p4, p5, p6⟩ := pil_box z1
  have HEJ := Lib.hid ej
  clear hr hR hB ht hcar eC hx hcs z0 z1 z2 hb0 ej
  go_enter Tryz.func84, Tryz.ntmps84
  go_wp2_with fail
  refine (HCAR.out w1).mono ?_
  rintro e w2 ⟨rfl, hb2⟩
  have HB2 := Lib.hid (HB1.out.trans (hb2.mono HB1.out.size))
  have Y0 := Lib.hid ((hb2.block _ (heapsz Z0.out)).trans Z0.out)
  have Y2 := Lib.hid ((hb2.block _ (heapsz Z2.out)).trans Z2.out)
  clear hb2 p0 p1 p2 p3 p4 p5 p6 hw1
  go_wp2_with fail
  go_loopw [10] (fun i wr => ∃ k : Nat, k ≤ nr ∧ i = .int .i64 k ∧ (0 < C → ∀ j y, j < k → rs[j]? = some y → ¬ (1000 * l + C - 1) / C ≤ y.u) ∧ Below w.heap.size w wr ∧ wr.heap[w.heap.size]? = some (.cells #[.slice AP np cp, .slice AQ nq cq, .slice (some ⟨b, o, none⟩) nr cr, .int .i64 may, .int .i64 sink, .int .i64 tilt] 26 (0, 0)) ∧ wr.heap[w.heap.size + 1 + 1]? = some (.cells #[.int .i64 0, .int .i64 0, .int .i64 0] 119 (0, 0))) (fun i _ => nr - (intOf i).toNat)
  case atStart => exact ⟨0, Nat.zero_le _, rfl, fun _ j y hj => absurd hj (Nat.not_lt_zero _), HB2.out, Y0.out, Y2.out⟩
  case round =>
    obtain ⟨k, hk, rfl, hall, hbr, y0, y2⟩ := hrel
    have HALL := Lib.hid hall; have HBR := Lib.hid hbr; have HY0 := Lib.hid y0; have HY2 := Lib.hid y2
    have s2 := (site_box y0).2.2.1
    clear hall
    by_cases hlt : k < nr
    · obtain ⟨y, hy⟩ := get_of_lt (l := rs) (k := k) (by rw [HR.out]; exact hlt)
      obtain ⟨c0, c1, c2⟩ := HCS.out k y hy
      have ltb : b < wr.heap.size := Nat.lt_of_lt_of_le hb hbr.size
      replace c0 := ((bcell hbr).1 _ _ hb).trans c0
      replace c1 := ((bcell hbr).1 _ _ hb).trans c1
      replace c2 := ((bcell hbr).1 _ _ hb).trans c2
      have HYY := Lib.hid hy
      obtain ⟨yu, yl, yh⟩ := y
      simp only at c0 c1 c2
      have C0 := Lib.hid c0; have C1 := Lib.hid c1; have C2 := Lib.hid c2
      have lt0 := heapsz y0
      have v0 : ∀ q : KeptW wr, q.w.cell? ⟨w.heap.size, 2, none⟩ = some (.slice (some ⟨b, o, none⟩) nr cr) := fun q => ((bcell q.h).1 _ 2 lt0).trans s2
      have m0 : ∀ q : KeptW wr, q.w.cell? ⟨b, o + k * 3, none⟩ = some (.int .i64 yu) := fun q => ((bcell q.h).1 _ _ ltb).trans c0
      have LTB := Lib.hid ltb
      have hk0 : (0 : Int) ≤ (k : Int) := by omega
      have hk1 : (k : Int) < (nr : Int) := by omega
      clear hy hbr y0 y2 c0 c1 c2 lt0 ltb
      by_cases hc0 : 0 < C
      · by_cases hu : (1000 * l + C - 1) / C ≤ yu
        · have HROW : Hid ((rowI rs C l).1 = ⟨yu, yl, yh⟩) := Lib.hid (by
            unfold rowI useI
            rw [if_neg (by omega), find_at HYY.out (decide_eq_true hu) (fun j y hj hy => decide_eq_false (HALL.out hc0 j y hj hy))])
          go_wp2_with fail
          have hc0b : 0 < C := by omega
          refine rk_region (by kernel_rfl) (by kernel_rfl) ?_
          repeat (go_big_quiet_step (fail))
          refine wpQuiet_nil ?_
          rintro _ ⟨⟨wz, hbz⟩, rfl⟩
          have BZ := Lib.hid (HBR.out.trans (hbz.mono HBR.out.size))
          have V2 := Lib.hid ((hbz.block _ (heapsz HY2.out)).trans HY2.out)
          have V0 := (site_box ((hbz.block _ (heapsz HY0.out)).trans HY0.out)).2.2.1
          have c0 := ((bcell hbz).1 _ _ LTB.out).trans C0.out
          have c1 := ((bcell hbz).1 _ _ LTB.out).trans C1.out
          have c2 := ((bcell hbz).1 _ _ LTB.out).trans C2.out
          clear hbz v0 m0 s2
          have f0 := box3_frozen V2.out 0
          have f1 := box3_frozen V2.out 1
          have f2 := box3_frozen V2.out 2
          obtain ⟨a0, a1, a2⟩ := box3_cells V2.out
          obtain ⟨q0, q1, q2⟩ := set3 V2.out (.int .i64 yu) (.int .i64 yl) (.int .i64 yh)
          have HBF := Lib.hid (((BZ.out.setCell (p := ⟨w.heap.size + 1 + 1, 0, none⟩) (by simp; omega) (.int .i64 yu)).setCell (p := ⟨w.heap.size + 1 + 1, 1, none⟩) (by simp; omega) (.int .i64 yl)).setCell (p := ⟨w.heap.size + 1 + 1, 2, none⟩) (by simp; omega) (.int .i64 yh))
          have HQ0 := Lib.hid q0; have HQ1 := Lib.hid q1; have HQ2 := Lib.hid q2
          clear q0 q1 q2
          go_wp2_with fail
          have q0 := HQ0.out; have q1 := HQ1.out; have q2 := HQ2.out
          exact bodyPost_ret (v := .agg #[.int .i64 yu, .int .i64 yl, .int .i64 yh]) (by simp [results, Tryz.results84, go_sem, q0, q1, q2]) rfl ⟨by rw [HROW.out], HBF.out⟩
        · have HNU := Lib.hid hu
          go_wp2_with fail
          have hc0b : 0 < C := by omega
          have hub : ¬ (1000 * l + C - 1) / C ≤ yu := by omega
          refine rk_region (by kernel_rfl) (by kernel_rfl) ?_
          repeat (go_big_quiet_step (fail))
          refine wpQuiet_nil ?_
          rintro _ ⟨⟨wz, hbz⟩, rfl⟩
          have BZ := Lib.hid (HBR.out.trans (hbz.mono HBR.out.size))
          have V0 := Lib.hid ((hbz.block _ (heapsz HY0.out)).trans HY0.out)
          have V2 := Lib.hid ((hbz.block _ (heapsz HY2.out)).trans HY2.out)
          clear hbz v0 m0 s2 hub
          go_wp2_with fail
          refine ⟨⟨k + 1, by omega, by go_num, fun hc j y hj hy => ?_, BZ.out, V0.out, V2.out⟩, by simp [intOf]; omega⟩
          by_cases hjk : j < k
          · first | exact HALL.out hc j y hjk hy | exact Int.not_le.2 (HALL.out hc j y hjk hy)
          · have : j = k := by omega
            subst this
            have hx := HYY.out
            rw [hy] at hx
            cases hx
            have := HNU.out
            show ¬ (1000 * l + C - 1) / C ≤ yu
            omega
      · go_wp2_with fail
        have hc0b : ¬ 0 < C := by omega
        refine rk_region (by kernel_rfl) (by kernel_rfl) ?_
        repeat (go_big_quiet_step (fail))
        refine wpQuiet_nil ?_
        rintro _ ⟨⟨wz, hbz⟩, rfl⟩
        have BZ := Lib.hid (HBR.out.trans (hbz.mono HBR.out.size))
        have V0 := Lib.hid ((hbz.block _ (heapsz HY0.out)).trans HY0.out)
        have V2 := Lib.hid ((hbz.block _ (heapsz HY2.out)).trans HY2.out)
        clear hbz v0 m0 s2
        go_wp2_with fail
        exact ⟨⟨k + 1, by omega, by go_num, fun hc => absurd hc (by omega), BZ.out, V0.out, V2.out⟩, by simp [intOf]; omega⟩
    · have hke : k = nr := by omega
      have hk1 : ¬ (k : Int) < (nr : Int) := by omega
      obtain ⟨c0, c1, c2⟩ := HCS.out j x HX0.out
      replace c0 := ((bcell hbr).1 _ _ hb).trans c0
      replace c1 := ((bcell hbr).1 _ _ hb).trans c1
      replace c2 := ((bcell hbr).1 _ _ hb).trans c2
      obtain ⟨yu, yl, yh⟩ := x
      simp only at c0 c1 c2
      have HROW : Hid ((rowI rs C l).1 = ⟨yu, yl, yh⟩) := Lib.hid (by
        by_cases hc0 : C = 0
        · unfold rowI
          rw [if_pos hc0]
          exact HLAST.out
        · unfold rowI useI
          rw [if_neg hc0, find_no (fun j y hy => decide_eq_false (HALL.out (by omega) j y (by have := (List.getElem?_eq_some_iff.1 hy).1; rw [HR.out] at this; omega) hy))]
          exact HLAST.out)
      have BZ := HBR
      have V2 := HY2
      rw [show j = nr - 1 by have := HEJ.out; omega] at c0 c1 c2
      clear hbr y0 y2
      have f0 := box3_frozen V2.out 0
      have f1 := box3_frozen V2.out 1
      have f2 := box3_frozen V2.out 2
      obtain ⟨a0, a1, a2⟩ := box3_cells V2.out
      obtain ⟨q0, q1, q2⟩ := set3 V2.out (.int .i64 yu) (.int .i64 yl) (.int .i64 yh)
      have HBF := Lib.hid (((BZ.out.setCell (p := ⟨w.heap.size + 1 + 1, 0, none⟩) (by simp; omega) (.int .i64 yu)).setCell (p := ⟨w.heap.size + 1 + 1, 1, none⟩) (by simp; omega) (.int .i64 yl)).setCell (p := ⟨w.heap.size + 1 + 1, 2, none⟩) (by simp; omega) (.int .i64 yh))
      have HQ0 := Lib.hid q0; have HQ1 := Lib.hid q1; have HQ2 := Lib.hid q2
      clear q0 q1 q2
      go_wp2_with fail
      have q0 := HQ0.out; have q1 := HQ1.out; have q2 := HQ2.out
      exact bodyPost_ret (v := .agg #[.int .i64 yu, .int .i64 yl, .int .i64 yh]) (by simp [results, Tryz.results84, go_sem, q0, q1, q2]) rfl ⟨by rw [HROW.out], HBF.out⟩
end Go.Proofs.YtdlaphlpimlgdaaGreatDoor
/- Whether a set has a pile: the statement's test. -/
namespace Go.Proofs.YtdlaphlpimlgdaaGreatDoor
open Go.RowKit

/-- A set, without its first piles. -/
def halfI : Int → Nat → Int
  | s, 0 => s
  | s, k + 1 => halfI s k / 2
theorem halfI_bd {s : Int} (h : 0 ≤ s ∧ s ≤ 1000000) : ∀ k, 0 ≤ halfI s k ∧ halfI s k ≤ 1000000
  | 0 => h
  | k + 1 => by
    have := halfI_bd h k
    unfold halfI
    omega
def jackB (s : Int) (k : Nat) : Bool := decide (halfI s k % 2 = 1)
set_option maxRecDepth 100000 in
set_option maxHeartbeats 2000000 in
theorem refJacked_any (s : Int) (p : Nat) (w : World) (hs : 0 ≤ s ∧ s ≤ 1000000) (hp : p ≤ maxLen) :
    Calls Tryz.prog 61 #[.int .i64 s, .int .i64 (p : Int)] w fun e w' => e = .returned (.bool (jackB s p)) ∧ w = w' := by
  unfold maxLen at hp
  have HS := Lib.hid hs
  go_enter Tryz.func61, Tryz.ntmps61
  go_wp2_with fail
  go_loopw [0, 5] (fun a i wr => ∃ k : Nat, k ≤ p ∧ i = .int .i64 k ∧ a = .int .i64 (halfI s k) ∧ wr = w) (fun _ i _ => p - (intOf i).toNat)
  case atStart => exact ⟨0, Nat.zero_le _, rfl, rfl, rfl⟩
  case round =>
    obtain ⟨k, hk, rfl, rfl, rfl⟩ := hrel
    have hb := halfI_bd HS.out k
    by_cases hlt : k < p
    · have hk1 : (k : Int) < (p : Int) := by omega
      have HN : Hid (halfI s (k + 1) = halfI s k / 2) := Lib.hid rfl
      obtain ⟨T, hT⟩ : ∃ z, halfI s k = z := ⟨_, rfl⟩
      rw [hT] at hb HN ⊢
      have sT : Value.int .i64 (wrap64 (T.tdiv 2)) = Value.int .i64 (T / 2) := by rw [Int.tdiv_eq_ediv_of_nonneg hb.1]; congr 1; exact w64 (by omega)
      clear hT
      go_wp2_with fail
      exact ⟨⟨k + 1, by omega, by go_num, by rw [HN.out], trivial⟩, by simp [intOf]; omega⟩
    · have hke : k = p := by omega
      have hk1 : ¬ (k : Int) < (p : Int) := by omega
      subst hke
      have HJ : Hid (jackB s k = decide (halfI s k % 2 = 1)) := Lib.hid rfl
      obtain ⟨T, hT⟩ : ∃ z, halfI s k = z := ⟨_, rfl⟩
      rw [hT] at hb HJ ⊢
      clear hT
      have hm : T.tmod 2 = T % 2 := Int.tmod_eq_emod_of_nonneg hb.1
      by_cases h1 : T % 2 = 1
      · have HF : Hid (jackB s k = true) := Lib.hid (by rw [HJ.out, decide_eq_true h1])
        go_wp2_with fail
        go_ret
        exact ⟨by rw [HF.out]; simp, rfl⟩
      · have HF : Hid (jackB s k = false) := Lib.hid (by rw [HJ.out, decide_eq_false h1])
        go_wp2_with fail
        go_ret
        exact ⟨by rw [HF.out]; simp [h1], rfl⟩
end Go.Proofs.YtdlaphlpimlgdaaGreatDoor
/- A looked-at site with all that it leads to, as one thing; how far its piles settle. -/
namespace Go.Proofs.YtdlaphlpimlgdaaGreatDoor
open Go.RowKit

structure Ctx where
  G : Nat
  AP : Option Addr
  AQ : Option Addr
  AR : Option Addr
  A : Option Addr
  np : Nat
  cp : Nat
  nq : Nat
  cq : Nat
  nr : Nat
  cr : Nat
  n : Nat
  c : Nat
  may : Int
  sink : Int
  tilt : Int
  ps : List Pil
  qs : List (Int × Int)
  rs : List Rw
  ts : List (List Sp)
def Ctx.sit (X : Ctx) : Sit := ⟨X.ps, X.qs, X.rs, X.may, X.sink, X.tilt⟩
def zP : Pil := ⟨0, 0, 0, 0, 0, 0, 0⟩
def Ctx.pile (X : Ctx) (i : Nat) : Pil := X.ps.getD i zP
def Ctx.th (X : Ctx) (t i : Nat) : Sp := (X.ts.getD t []).getD i (0, 0)
def Ctx.most (X : Ctx) (t i : Nat) : Int := (rowI X.rs (carI (X.pile i) (X.th t i).2) (X.pile i).h).1.hi
def Ctx.least (X : Ctx) (t i : Nat) : Int := (rowI X.rs (carI (X.pile i) (X.th t i).1) (X.pile i).l).1.lo
/-- Site and thaws are as defined. -/
structure Ctx.Ok (X : Ctx) : Prop where
  hp : X.ps.length = X.np
  hq : X.qs.length = X.nq
  hr : X.rs.length = X.nr
  hl : X.ts.length = X.n
  ok : thawsI X.sit X.ts = 0
/-- Where all lies. -/
structure Ctx.At (X : Ctx) (w : World) : Prop where
  g : LookAt w X.G X.AP X.AQ X.AR X.A X.np X.cp X.nq X.cq X.nr X.cr X.n X.c X.may X.sink X.tilt
  P : PilsAt w w.heap.size X.AP X.ps
  Q : PrsAt w w.heap.size X.AQ X.qs
  R : RwsAt w w.heap.size X.AR X.rs
  T : SpsAt w w.heap.size X.A X.ts
theorem Ctx.At.up {X : Ctx} {w w' : World} (h : X.At w) (hb : Below w.heap.size w w') : X.At w' :=
  ⟨(hb.block _ (heapsz h.g)).trans h.g, h.P.up hb, h.Q.up hb, h.R.up hb, h.T.up hb⟩
theorem Ctx.Ok.n10 {X : Ctx} (K : X.Ok) : X.n ≤ 10 := by
  have h := K.ok
  unfold thawsI at h
  by_cases h1 : 10 < (X.ts.length : Int)
  · rw [if_pos h1] at h
    exact absurd h (by decide)
  · rw [K.hl] at h1
    omega
theorem Ctx.Ok.sitB {X : Ctx} (K : X.Ok) : sitB X.sit = true := (thawsI_0 K.ok).1
theorem Ctx.Ok.thB {X : Ctx} (K : X.Ok) : thawsB (X.np : Int) X.ts = true := by
  have := (thawsI_0 K.ok).2
  rw [← K.hp]
  exact this
theorem Ctx.Ok.np6 {X : Ctx} (K : X.Ok) : 1 ≤ X.np ∧ X.np ≤ 6 := by
  have := sit_np K.sitB
  rw [← K.hp]
  exact this
structure Ctx.Parts (X : Ctx) : Prop where
  ps : ∀ (i : Nat) (x : Pil), X.ps[i]? = some x → pilB x = true
  qs : ∀ (i : Nat) (x : Int × Int), X.qs[i]? = some x → (0 ≤ x.1 ∧ x.1 < (X.np : Int)) ∧ (0 ≤ x.2 ∧ x.2 < (X.np : Int)) ∧ x.1 ≠ x.2
  q10 : X.nq ≤ 10
  nr6 : 1 ≤ X.nr ∧ X.nr ≤ 6
  rs : rwsGo ⟨-1, 0, 0⟩ X.rs = true
  may : 0 ≤ X.may ∧ X.may ≤ 1000
  sink : 0 ≤ X.sink ∧ X.sink ≤ 100000
  tilt : 0 ≤ X.tilt ∧ X.tilt ≤ 100000
theorem Ctx.Ok.parts {X : Ctx} (K : X.Ok) : X.Parts := by
  have h := K.sitB
  unfold Go.Proofs.YtdlaphlpimlgdaaGreatDoor.sitB pilsB prsB rwsB Ctx.sit at h
  simp only [Bool.and_eq_true, inB_iff, decide_eq_true_eq] at h
  obtain ⟨⟨⟨⟨⟨⟨_, h1⟩, h2, h3⟩, h4, h5⟩, h6⟩, h7⟩, h8⟩ := h
  refine ⟨fun i x hx => List.all_eq_true.1 h1 x (List.mem_of_getElem? hx), fun i x hx => ?_, ?_, ?_, h5, h6, h7, h8⟩
  · have := List.all_eq_true.1 h3 x (List.mem_of_getElem? hx)
    unfold prB at this
    simp only [Bool.and_eq_true, inB_iff, decide_eq_true_eq] at this
    rw [K.hp] at this
    omega
  · rw [K.hq] at h2; omega
  · rw [K.hr] at h4; omega
theorem Ctx.Ok.at_pile {X : Ctx} (K : X.Ok) {i : Nat} (hi : i < X.np) : X.ps[i]? = some (X.pile i) ∧ pilB (X.pile i) = true := by
  have h : X.ps[i]? = some (X.pile i) := by
    unfold Ctx.pile
    have : i < X.ps.length := by rw [K.hp]; exact hi
    rw [List.getD_eq_getElem?_getD, List.getElem?_eq_getElem this]
    rfl
  exact ⟨h, K.parts.ps i _ h⟩
theorem Ctx.Ok.at_th {X : Ctx} (K : X.Ok) {t i : Nat} (ht : t < X.n) (hi : i < X.np) : ∃ row, X.ts[t]? = some row ∧ row.length = X.np ∧ row[i]? = some (X.th t i) ∧ spB (X.th t i) = true := by
  have hlt : t < X.ts.length := by rw [K.hl]; exact ht
  have hx : X.ts[t]? = some X.ts[t] := List.getElem?_eq_getElem hlt
  have h1 := List.all_eq_true.1 (show X.ts.all (rowB (X.np : Int)) = true from K.thB) _ (List.mem_of_getElem? hx)
  unfold rowB at h1
  simp only [Bool.and_eq_true, decide_eq_true_eq] at h1
  have hlen : X.ts[t].length = X.np := by omega
  have h2 : X.ts[t][i]? = some (X.th t i) := by
    unfold Ctx.th
    have e1 : X.ts.getD t [] = X.ts[t] := by rw [List.getD_eq_getElem?_getD, hx]; rfl
    rw [e1, List.getD_eq_getElem?_getD, List.getElem?_eq_getElem (by rw [hlen]; exact hi)]
    rfl
  exact ⟨_, hx, hlen, h2, List.all_eq_true.1 h1.2 _ (List.mem_of_getElem? h2)⟩
/-! ### How far piles settle -/
theorem rw_in {rs : List Rw} (h : rwsGo ⟨-1, 0, 0⟩ rs = true) {k : Nat} {x : Rw} (hx : rs[k]? = some x) : 0 ≤ x.lo ∧ x.lo ≤ x.hi ∧ x.hi ≤ 1000 := by
  have := rwsGo_iff.1 h k x hx
  unfold rwB at this
  simp only [Bool.and_eq_true, withinB_iff] at this
  exact this.1.2
theorem rowI_in {rs : List Rw} (h : rwsGo ⟨-1, 0, 0⟩ rs = true) (h1 : 1 ≤ rs.length) (C l : Int) : 0 ≤ (rowI rs C l).1.lo ∧ (rowI rs C l).1.lo ≤ (rowI rs C l).1.hi ∧ (rowI rs C l).1.hi ≤ 1000 := by
  have hlast : ∃ k : Nat, rs[k]? = some (lastR rs) := ⟨rs.length - 1, by
    unfold lastR
    rw [List.getLastD_eq_getLast?, List.getLast?_eq_getElem?, List.getElem?_eq_getElem (by omega)]
    rfl⟩
  have hm : ∃ k : Nat, rs[k]? = some (rowI rs C l).1 := by
    unfold rowI
    split
    · exact hlast
    · split
      · rename_i r hr
        exact List.getElem?_of_mem (List.mem_of_find?_eq_some hr)
      · exact hlast
  obtain ⟨k, hk⟩ := hm
  exact rw_in h hk
theorem Ctx.Ok.most_in {X : Ctx} (K : X.Ok) (t i : Nat) : 0 ≤ X.most t i ∧ X.most t i ≤ 1000 := by
  have := rowI_in K.parts.rs (by rw [K.hr]; exact K.parts.nr6.1) (carI (X.pile i) (X.th t i).2) (X.pile i).h
  unfold Ctx.most
  omega
theorem Ctx.Ok.least_in {X : Ctx} (K : X.Ok) (t i : Nat) : 0 ≤ X.least t i ∧ X.least t i ≤ 1000 := by
  have := rowI_in K.parts.rs (by rw [K.hr]; exact K.parts.nr6.1) (carI (X.pile i) (X.th t i).1) (X.pile i).l
  unfold Ctx.least
  omega
theorem most_X {X : Ctx} (K : X.Ok) {w : World} (h : X.At w) {t i : Nat} (ht : t < X.n) (hi : i < X.np) :
    Calls Tryz.prog 109 #[.pointer (some ⟨X.G, 0, none⟩), .int .i64 (t : Int), .int .i64 (i : Int)] w fun e w' => e = .returned (.int .i64 (X.most t i)) ∧ Below w.heap.size w w' := by
  obtain ⟨row, h1, _, h2, h3⟩ := K.at_th ht hi
  obtain ⟨h4, h5⟩ := K.at_pile hi
  have nr6 := K.parts.nr6
  exact mostSettled_any X.G X.AP X.AQ X.AR X.A X.np X.cp X.nq X.cq X.nr X.cr X.n X.c t i X.ps X.rs X.may X.sink X.tilt X.ts row (X.pile i) (X.th t i) w h.g K.hp h.P K.hr nr6.1 (by unfold maxLen; omega) h.R K.hl h.T h1 h2 h4 h5 h3
theorem least_X {X : Ctx} (K : X.Ok) {w : World} (h : X.At w) {t i : Nat} (ht : t < X.n) (hi : i < X.np) :
    Calls Tryz.prog 110 #[.pointer (some ⟨X.G, 0, none⟩), .int .i64 (t : Int), .int .i64 (i : Int)] w fun e w' => e = .returned (.int .i64 (X.least t i)) ∧ Below w.heap.size w w' := by
  obtain ⟨row, h1, _, h2, h3⟩ := K.at_th ht hi
  obtain ⟨h4, h5⟩ := K.at_pile hi
  have nr6 := K.parts.nr6
  exact leastSettled_any X.G X.AP X.AQ X.AR X.A X.np X.cp X.nq X.cq X.nr X.cr X.n X.c t i X.ps X.rs X.may X.sink X.tilt X.ts row (X.pile i) (X.th t i) w h.g K.hp h.P K.hr nr6.1 (by unfold maxLen; omega) h.R K.hl h.T h1 h2 h4 h5 h3
end Go.Proofs.YtdlaphlpimlgdaaGreatDoor
/- Whether a set has a pile: the code's test. The piles of a set, one after the other. -/
namespace Go.Proofs.YtdlaphlpimlgdaaGreatDoor
open Go.RowKit

theorem half_pow (s : Int) : ∀ k : Nat, halfI s k = s / 2 ^ k
  | 0 => by simp [halfI]
  | k + 1 => by
    unfold halfI
    rw [half_pow s k, Int.ediv_ediv_of_nonneg (Int.pow_nonneg (by decide)), Int.pow_succ]
theorem and_one (n : Int) : bits .and .i64 n 1 = n % 2 := by
  have h1 : (BitVec.ofInt 64 1).toNat = 2 ^ 1 - 1 := by decide
  have key : (BitVec.ofInt 64 n &&& BitVec.ofInt 64 1).toNat = (n % ((2 ^ 64 : Nat) : Int)).toNat % 2 ^ 1 := by
    rw [BitVec.toNat_and, BitVec.toNat_ofInt, h1, Nat.and_two_pow_sub_one_eq_mod]
  show IntKind.i64.wrap ((BitVec.ofInt 64 n &&& BitVec.ofInt 64 1).toNat : Nat) = n % 2
  rw [key, IntKind.wrap_i64]
  omega
set_option maxHeartbeats 400000 in
theorem has_any (s : Int) (p : Nat) (w : World) (hp : p ≤ 6) :
    Calls Tryz.prog 130 #[.int .i64 s, .int .i64 (p : Int)] w fun e w' => e = .returned (.bool (jackB s p)) ∧ w = w' := by
  have HJ : Hid (jackB s p = decide (s / 2 ^ p % 2 = 1)) := Lib.hid (by unfold jackB; rw [half_pow])
  have h0 : (0 : Int) ≤ (p : Int) := by omega
  have h1 : (p : Int) ≤ 64 := by omega
  have hb := and_one (s / 2 ^ p)
  by_cases hj : s / 2 ^ p % 2 = 1
  · have HF : Hid (jackB s p = true) := Lib.hid (by rw [HJ.out, decide_eq_true hj])
    rw [hj] at hb
    go_enter Tryz.func130, Tryz.ntmps130
    go_wp2_with fail
    go_ret
    exact ⟨by rw [HF.out]; rfl, rfl⟩
  · have HF : Hid (jackB s p = false) := Lib.hid (by rw [HJ.out, decide_eq_false hj])
    have hz : s / 2 ^ p % 2 = 0 := by omega
    rw [hz] at hb
    go_enter Tryz.func130, Tryz.ntmps130
    go_wp2_with fail
    go_ret
    exact ⟨by rw [HF.out]; rfl, rfl⟩

/-! ### The piles of a set -/
def pilL (s : Int) : List Nat := (List.range 6).filter fun k => jackB s k
abbrev PX (s : Int) := { x : Nat // x < 6 ∧ jackB s x = true }
def KpB (n₀ Bn : Nat) (W W' : World) : Prop := Below n₀ W W' ∧ W'.cell? ⟨Bn, 0, none⟩ = W.cell? ⟨Bn, 0, none⟩
theorem kpB_t {n₀ Bn : Nat} {A B C : World} (h : KpB n₀ Bn A B) (k : KpB n₀ Bn B C) : KpB n₀ Bn A C := ⟨h.1.trans k.1, k.2.trans h.2⟩
theorem kpB_b {n₀ Bn : Nat} {w : World} (hn : n₀ ≤ w.heap.size) (hB : Bn < w.heap.size) (W : World) (l : Nat) (o o' : Obj) (hl : w.heap.size ≤ l) (h : W.heap[l]? = some o) (h1 : o.isCells = false) (h2 : o.isWalk = false) : KpB n₀ Bn W (W.putObj l o') :=
  ⟨belowK_b hn W l o o' hl h h1 h2, World.cell?_of_block ((grownBy_putObj' W l o').block Bn (by have := (Array.getElem?_eq_some_iff.1 h).1; omega) (by intro e; injection e; omega))⟩
theorem two {e : Ending} {A B : Prop} (h : (e = .returned (.bool true) ∧ A) ∨ (e = .returned (.bool false) ∧ B)) : ∃ b, e = .returned (.bool b) ∧ ((b = true ∧ A) ∨ (b = false ∧ B)) := by
  rcases h with ⟨rfl, h⟩ | ⟨rfl, h⟩
  · exact ⟨true, rfl, .inl ⟨rfl, h⟩⟩
  · exact ⟨false, rfl, .inr ⟨rfl, h⟩⟩
theorem pil_take {s : Int} {k : Nat} : (List.range (k + 1)).filter (fun k => jackB s k) = (List.range k).filter (fun k => jackB s k) ++ (if jackB s k then [k] else []) := by
  rw [List.range_succ, List.filter_append]
  simp [List.filter_cons]
theorem pil_len {s : Int} {k : Nat} : ((List.range k).filter (fun k => jackB s k)).length ≤ k := by
  have := List.length_filter_le (fun k => jackB s k) (List.range k)
  simpa using this
open Go.Shelf
attribute [local go_sem] Oper.semAt_some
set_option maxRecDepth 100000 in
set_option maxHeartbeats 2000000 in
theorem piles1_in (n : Nat) (hn : 1 ≤ n) (l Bn n₀ : Nat) (s : Int) (J Jx : List (PX s) → World → Prop)
    (hY : ∀ pre x W, J pre W → pre.length < 6 → YieldAt Fence.wide (n - 1) Tryz.prog l #[.int .i64 (x.1 : Int)] W fun e W' =>
      (e = .returned (.bool true) ∧ J (pre ++ [x]) W' ∧ KpB n₀ Bn W W') ∨ (e = .returned (.bool false) ∧ Jx (pre ++ [x]) W'))
    (W : World) (c0 : W.cell? ⟨Bn, 0, none⟩ = some (.int .i64 s)) (h0 : J [] W) :
    CallsIn Fence.wide n Tryz.prog 129 #[.func (.yield l) #[] #[], .pointer (some ⟨Bn, 0, none⟩)] W fun e W' => (∃ v, e = .returned v) ∧
      ((∃ ys, ys.map Subtype.val = pilL s ∧ J ys W') ∨ (∃ pre, True ∧ Jx pre W')) := by
  have C0 := Lib.hid c0
  refine callsIn_of_wp Tryz.func129 rfl trivial ?_ rfl
  simp only [Tryz.ntmps129, List.size_toArray, List.length_cons, List.length_nil, Nat.reduceAdd, Nat.reduceSub, Array.replicate_succ, Array.replicate_zero, List.push_toArray, List.append_toArray, List.nil_append, List.cons_append]
  gi_wp2
  gi_loopw [4] (fun i wr => ∃ (k : Nat) (pre : List (PX s)), k ≤ 6 ∧ i = .int .i64 k ∧ pre.map Subtype.val = (List.range k).filter (fun k => jackB s k) ∧ J pre wr ∧ wr.cell? ⟨Bn, 0, none⟩ = some (.int .i64 s)) (fun i _ => 6 - (intOf i).toNat)
  case atStart => exact ⟨0, [], by omega, rfl, by simp, h0, C0.out⟩
  case round =>
    clear c0
    obtain ⟨k, pre, hk, rfl, hpre, hJs, c0⟩ := hrel
    have HP := Lib.hid hpre; clear hpre
    by_cases hlt : k < 6
    · have hk1 : (k : Int) < 6 := by omega
      have hlen : pre.length < 6 := by
        have := congrArg List.length HP.out
        rw [List.length_map] at this
        have h2 := pil_len (s := s) (k := k)
        omega
      cases hj : jackB s k with
      | false =>
        have HJ := Lib.hid hj
        clear hj
        gi_wp2
        refine ⟨trivial, ?_⟩
        refine (callsIn_wide.2 (has_any s k _ (by omega))).mono ?_
        rintro e w' ⟨rfl, rfl⟩
        rw [HJ.out]
        gi_wp2
        refine ⟨fun _ _ => trivial, ?_⟩
        gi_wp2
        go_roundw
        case rel => exact ⟨k + 1, pre, by omega, by go_num, by rw [pil_take, HJ.out, HP.out]; simp, hJs, c0⟩
        case measure => simp [intOf]; omega
      | true =>
        have HJ := Lib.hid hj
        obtain ⟨fn, tmps, assign, body, hy, hR⟩ := hY pre ⟨k, hlt, hj⟩ _ hJs hlen
        dsimp only at hy
        gi_wp2
        refine ⟨trivial, ?_⟩
        refine (callsIn_wide.2 (has_any s k _ (by omega))).mono ?_
        rintro e w' ⟨rfl, rfl⟩
        rw [HJ.out]
        gi_wp2
        refine hR.mono ?_
        rintro e W3 h4
        obtain ⟨bv, rfl, h3⟩ := two h4
        clear h4 hy
        have hmap : (pre ++ [(⟨k, hlt, hj⟩ : PX s)]).map Subtype.val = (List.range (k + 1)).filter (fun k => jackB s k) := by
          rw [List.map_append, HP.out, pil_take, if_pos HJ.out]
          rfl
        have HB := Lib.hid hmap
        clear hmap
        rcases h3 with ⟨rfl, hJ3, hk3⟩ | ⟨rfl, hJx3⟩
        · have hcB : W3.cell? ⟨Bn, 0, none⟩ = some (.int .i64 s) := hk3.2.trans c0
          have HcB := Lib.hid hcB
          clear hcB hk3
          gi_wp2
          go_roundw
          case rel => exact ⟨k + 1, _, by omega, by go_num, HB.out, hJ3, HcB.out⟩
          case measure => simp [intOf]; omega
        · gi_wp2
          refine bodyPost_ret (results_none rfl _ _ _) rfl ?_
          exact ⟨⟨_, rfl⟩, .inr ⟨_, trivial, hJx3⟩⟩
    · have hk1 : ¬ (k : Int) < 6 := by omega
      have hk6 : k = 6 := by omega
      subst hk6
      gi_wp2
      go_end0
      exact ⟨⟨_, rfl⟩, .inl ⟨_, HP.out, hJs⟩⟩
theorem piles_stops (n : Nat) (hn : 1 ≤ n) (Bn n₀ : Nat) (s : Int) (w : World) (hBn : Bn < w.heap.size) (c0 : w.cell? ⟨Bn, 0, none⟩ = some (.int .i64 s)) :
    SeqStopsK Fence.wide n Tryz.prog 129 #[.pointer (some ⟨Bn, 0, none⟩)] (fun x : PX s => #[.int .i64 (x.1 : Int)]) (KpB n₀ Bn) (fun ys => ys.map Subtype.val = pilL s) (fun _ => True) 6 w := fun l J Jx W hW _ _ hY h0 => by
  obtain ⟨r1, _⟩ := bcell hW
  exact piles1_in n hn l Bn n₀ s J Jx hY W ((r1 _ _ hBn).trans c0) h0
set_option maxHeartbeats 400000 in
theorem pilesOf_any (s : Int) (w : World) :
    Calls Tryz.prog 114 #[.int .i64 s] w fun e w' => e = .returned (.func (.func 129) #[] #[.pointer (some ⟨w.heap.size, 0, none⟩)]) ∧ w.alloc (.cells #[.int .i64 s] 3) = w' := by
  go_enter Tryz.func114, Tryz.ntmps114
  go_wp2
  go_ret
  exact ⟨rfl, rfl⟩
end Go.Proofs.YtdlaphlpimlgdaaGreatDoor
