/- Years, for every place and years. -/
import Derived.Test.YtccekbdhffccdaaDoorX
namespace Go.Proofs.YtccekbdhffccdaaDoor
open Go.RowKit Go.Shelf
attribute [local go_sem ↓] Go.wp_at_zero Go.wp_at_succ

structure Sn where
  tl : Int
  th : Int
  ll : Int
  lh : Int
  tk : Int
def SnsAt (w : World) (B : Nat) (A : Option Addr) (xs : List Sn) : Prop :=
  xs ≠ [] → ∃ b o, A = some ⟨b, o, none⟩ ∧ b < B ∧ ∀ i x, xs[i]? = some x →
    w.cell? ⟨b, o + i * 5, none⟩ = some (.int .i64 x.tl) ∧ w.cell? ⟨b, o + i * 5 + 1, none⟩ = some (.int .i64 x.th) ∧ w.cell? ⟨b, o + i * 5 + 2, none⟩ = some (.int .i64 x.ll) ∧
    w.cell? ⟨b, o + i * 5 + 3, none⟩ = some (.int .i64 x.lh) ∧ w.cell? ⟨b, o + i * 5 + 4, none⟩ = some (.int .i64 x.tk)
def snI (a b : St) (i : Nat) : Sn := ⟨at0 a.th i, at0 b.th i, at0 a.lf i, at0 b.lf i, talikI (at0 a.lf i) (at0 b.lf i)⟩
def seenI (a b : St) (m : Nat) : List Sn := (List.range m).map (snI a b)
/-- The first k elements are told, the others are not yet. -/
def Told (cs : Array Value) (a b : St) (k : Nat) : Prop :=
  ∀ j, j < k → cs[j * 5]? = some (.int .i64 (snI a b j).tl) ∧ cs[j * 5 + 1]? = some (.int .i64 (snI a b j).th) ∧ cs[j * 5 + 2]? = some (.int .i64 (snI a b j).ll) ∧ cs[j * 5 + 3]? = some (.int .i64 (snI a b j).lh) ∧ cs[j * 5 + 4]? = some (.int .i64 (snI a b j).tk)
def put5 (cs : Array Value) (k : Nat) (v0 v1 v2 v3 v4 : Value) : Array Value := ((((cs.setIfInBounds (k * 5) v0).setIfInBounds (k * 5 + 1) v1).setIfInBounds (k * 5 + 2) v2).setIfInBounds (k * 5 + 3) v3).setIfInBounds (k * 5 + 4) v4
theorem put5_size (cs : Array Value) (k : Nat) (v0 v1 v2 v3 v4 : Value) : (put5 cs k v0 v1 v2 v3 v4).size = cs.size := by simp [put5]
theorem put5_other {cs : Array Value} {k j : Nat} {v0 v1 v2 v3 v4 : Value} (h : j < k * 5 ∨ k * 5 + 5 ≤ j) : (put5 cs k v0 v1 v2 v3 v4)[j]? = cs[j]? := by
  unfold put5
  simp only [Array.getElem?_setIfInBounds]
  repeat rw [if_neg (by omega)]
theorem told_put {cs : Array Value} {a b : St} {k m : Nat} (h : Told cs a b k) (hs : cs.size = m * 5) (hk : k < m) :
    Told (put5 cs k (.int .i64 (snI a b k).tl) (.int .i64 (snI a b k).th) (.int .i64 (snI a b k).ll) (.int .i64 (snI a b k).lh) (.int .i64 (snI a b k).tk)) a b (k + 1) := by
  intro j hj
  by_cases hjk : j = k
  · subst hjk
    unfold put5
    simp only [Array.getElem?_setIfInBounds, Array.size_setIfInBounds]
    refine ⟨?_, ?_, ?_, ?_, ?_⟩
    · rw [if_neg (by omega), if_neg (by omega), if_neg (by omega), if_neg (by omega), if_pos trivial, if_pos (by omega)]
    · rw [if_neg (by omega), if_neg (by omega), if_neg (by omega), if_pos trivial, if_pos (by omega)]
    · rw [if_neg (by omega), if_neg (by omega), if_pos trivial, if_pos (by omega)]
    · rw [if_neg (by omega), if_pos trivial, if_pos (by omega)]
    · rw [if_pos trivial, if_pos (by omega)]
  · obtain ⟨h0, h1, h2, h3, h4⟩ := h j (by omega)
    exact ⟨(put5_other (by omega)).trans h0, (put5_other (by omega)).trans h1, (put5_other (by omega)).trans h2, (put5_other (by omega)).trans h3, (put5_other (by omega)).trans h4⟩
theorem blk58_set {w : World} {g : Nat} {cs : Array Value} (h : w.heap[g]? = some (.cells cs 58 (0, 0))) (j : Nat) (u : Value) : (w.setCell ⟨g, j, none⟩ u).heap[g]? = some (.cells (cs.setIfInBounds j u) 58 (0, 0)) := by
  simp [World.setCell, Array.getElem?_modify, h]

def yearsR (ls : List Lay) (lo hi : Int) (ys : List Yr) : List Sn × Int :=
  if yearsI ls lo hi ys = 0 then (seenI (runS ls (extT false ls lo hi ys) 0 ys.length) (runS ls (extT true ls lo hi ys) 0 ys.length) ys.length, 0) else ([], yearsI ls lo hi ys)
def YearsPost (w : World) (q : List Sn × Int) (e : Ending) (w' : World) : Prop :=
  ∃ (A : Option Addr) (c : Nat), e = .returned (.tuple #[.slice A q.1.length c, .int .i64 q.2]) ∧ SnsAt w' w'.heap.size A q.1 ∧ Below w.heap.size w w'

theorem sn_info : (Tryd.prog.info? 58).map (fun i => (i.zero, i.size, i.bytes)) = some (some (.agg #[.int .i64 0, .int .i64 0, .int .i64 0, .int .i64 0, .int .i64 0]), 5, 40) := by kernel_rfl

set_option maxRecDepth 100000 in
set_option maxHeartbeats 4000000 in
theorem years_any (A A2 : Option Addr) (n c m c' : Nat) (ls : List Lay) (ys : List Yr) (lo hi : Int) (w : World) (hl : ls.length = n) (hn : n ≤ maxLen) (hcap : n ≤ c) (hL : LaysAt w w.heap.size A ls)
    (hm : ys.length = m) (hm2 : m ≤ maxLen) (hY : YrsAt w w.heap.size A2 ys) :
    Calls Tryd.prog 19 #[.agg #[.slice A n c, .int .i64 lo, .int .i64 hi], .slice A2 m c'] w (YearsPost w (yearsR ls lo hi ys)) := by
  have HL := Lib.hid hl; clear hl
  have HM := Lib.hid hm; clear hm
  have HN := Lib.hid hn; clear hn
  have HN2 := Lib.hid hm2; clear hm2
  have hB : Below w.heap.size w ((w.alloc (.cells #[.slice A n c, .int .i64 lo, .int .i64 hi] 26)).alloc (.cells #[.slice A2 m c'] 27)) :=
    ((Below.refl _ _).alloc (Nat.le_refl _) _).alloc (by simp) _
  have z0 := heap_alloc_new w (.cells #[.slice A n c, .int .i64 lo, .int .i64 hi] 26)
  have z1 := heap_alloc_new (w.alloc (.cells #[.slice A n c, .int .i64 lo, .int .i64 hi] 26)) (.cells #[.slice A2 m c'] 27)
  simp only [World.size_alloc] at z1
  have y0 := (Below.heap_alloc _ (.cells #[.slice A2 m c'] 27) _ (by simp)).trans z0
  have HB := Lib.hid hB
  have Y0 := Lib.hid y0
  have Y1 := Lib.hid z1
  clear hB z0 z1 y0
  rcases yearsI_cases ls lo hi ys with hr | hr | hr
  · obtain ⟨g1, g2, g3⟩ := yearsI_zero hr
    have hm12 : m ≤ 12 := by rw [HM.out] at g1; exact g1
    have HR := Lib.hid hr; have GP := Lib.hid g2; have GY := Lib.hid g3
    clear hr g1 g2 g3
    have hyr : yearsR ls lo hi ys = (seenI (runS ls (extT false ls lo hi ys) 0 m) (runS ls (extT true ls lo hi ys) 0 m) m, 0) := by unfold yearsR; rw [if_pos HR.out, HM.out]
    have HYR := Lib.hid hyr; clear hyr
    have hTf : TruOk (extT false ls lo hi ys) n m := by have := extT_ok false GP.out GY.out; rw [HL.out, HM.out] at this; exact this
    have hTt : TruOk (extT true ls lo hi ys) n m := by have := extT_ok true GP.out GY.out; rw [HL.out, HM.out] at this; exact this
    have TF := Lib.hid (runS_b (ls := ls) (mo := 0) hTf ⟨by omega, by omega⟩ m (Nat.le_refl _))
    have TT := Lib.hid (runS_b (ls := ls) (mo := 0) hTt ⟨by omega, by omega⟩ m (Nat.le_refl _))
    clear hTf hTt
    go_enter Tryd.func19, Tryd.ntmps19
    go_wp2_with fail
    refine (checkYears_is 0 A A2 n c m c' ls ys lo hi _ HL.out HN.out (hL.next HB.out) HM.out HN2.out (hY.next HB.out) HR.out).mono ?_
    rintro e w2 ⟨rfl, hb⟩
    have B2 := Lib.hid (HB.out.trans (hb.mono HB.out.size))
    have X0 := Lib.hid ((hb.block _ (Array.getElem?_eq_some_iff.1 Y0.out).1).trans Y0.out)
    have X1 := Lib.hid ((hb.block _ (Array.getElem?_eq_some_iff.1 Y1.out).1).trans Y1.out)
    clear hb
    go_wp2_with fail
    refine (both_any w.heap.size (w.heap.size + 1) A A2 n c m c' ls ys lo hi w2 HL.out hcap (hL.next B2.out) HM.out hm12 (hY.next B2.out) GP.out GY.out (Array.getElem?_eq_some_iff.1 X0.out).1 (Array.getElem?_eq_some_iff.1 X1.out).1
      (cell_of_row _ _ 0 _ 26 (0, 0) X0.out) (cell_of_row _ _ 1 _ 26 (0, 0) X0.out) (cell_of_row _ _ 2 _ 26 (0, 0) X0.out) (cell_of_row _ _ 0 _ 27 (0, 0) X1.out)).mono ?_
    generalize runS ls (extT false ls lo hi ys) 0 m = sa at HYR TF ⊢
    generalize runS ls (extT true ls lo hi ys) 0 m = sb at HYR TT ⊢
    rintro e w3 ⟨v1, v2, rfl, ⟨ga, a0, a1, a2, a3, a4, a5, a6, a7, a8, tva, lva, rfl, fa, ta, la, _⟩, ⟨gb, b0, b1, b2, b3, b4, b5, b6, b7, b8, tvb, lvb, rfl, fb, tb, lb, _⟩, hb⟩
    have B3 := Lib.hid (B2.out.trans (hb.mono B2.out.size))
    have hc := (bcell hb).1 (w.heap.size + 1) 0 (Array.getElem?_eq_some_iff.1 X1.out).1
    have k27 := hc.trans (cell_of_row w2 (w.heap.size + 1) 0 _ 27 (0, 0) X1.out)
    simp at k27
    clear hb hc
    have FA := Lib.hid fa; have FB_ := Lib.hid fb
    clear fa fb
    obtain ⟨i0, hi0, hz0, hz1, hz2⟩ := info_parts sn_info
    have hmk := fun W : World => run_make (P := Tryd.prog) 32 58 i0 _ Tryd.underlying32 hi0 hz0 .i64 .i64 (m : Int) (m : Int) (by omega) (by omega) (by rw [hz2]; omega) (by omega) (w := W)
    simp only [Int.toNat_natCast, hz1] at hmk
    go_wp2_with fail
    clear hmk hi0 hz0 hz1 hz2
    obtain ⟨ca, da, rfl, _, ia⟩ := ta
    obtain ⟨cb, db, rfl, _, ib⟩ := tb
    obtain ⟨ea, ga_, rfl, _, ja⟩ := la
    obtain ⟨eb, gb_, rfl, _, jb⟩ := lb
    have hM0 : (w3.alloc (.cells (madeCells (Value.agg #[.int .i64 0, .int .i64 0, .int .i64 0, .int .i64 0, .int .i64 0]).cells (m * 5)) 58)).heap[w3.heap.size]? = some (.cells (madeCells (Value.agg #[.int .i64 0, .int .i64 0, .int .i64 0, .int .i64 0, .int .i64 0]).cells (m * 5)) 58 (0, 0)) := heap_alloc_new _ _
    have hMs : (madeCells (Value.agg #[.int .i64 0, .int .i64 0, .int .i64 0, .int .i64 0, .int .i64 0]).cells (m * 5)).size = m * 5 := by simp [madeCells]
    have M0 := Lib.hid hM0; have MS := Lib.hid hMs
    clear hM0 hMs
    go_loopw [28] (fun i wr => ∃ (k : Nat) (cs : Array Value), k ≤ m ∧ i = .int .i64 k ∧ wr.heap[w3.heap.size]? = some (.cells cs 58 (0, 0)) ∧ cs.size = m * 5 ∧ Told cs sa sb k ∧ Below w3.heap.size w3 wr) (fun i _ => m - (intOf i).toNat)
    case atStart => exact ⟨0, _, Nat.zero_le _, rfl, M0.out, MS.out, fun j hj => absurd hj (by omega), (Below.refl _ _).alloc (Nat.le_refl _) _⟩
    case round =>
      obtain ⟨k, cs, hk, rfl, hblk, hcs, htold, hbr⟩ := hrel
      have HBK := Lib.hid hblk; have HCS := Lib.hid hcs; have HTO := Lib.hid htold; have HBR := Lib.hid hbr
      clear hblk hcs htold hbr M0 MS
      by_cases hlt : k < m
      · obtain ⟨xa, xa'⟩ := at0_mem (l := sa.th) (k := k) (by rw [TF.out.2.2.2.2.1]; exact hlt)
        obtain ⟨xb, xb'⟩ := at0_mem (l := sb.th) (k := k) (by rw [TT.out.2.2.2.2.1]; exact hlt)
        obtain ⟨ya, ya'⟩ := at0_mem (l := sa.lf) (k := k) (by rw [TF.out.2.2.2.2.2.1]; exact hlt)
        obtain ⟨yb, yb'⟩ := at0_mem (l := sb.lf) (k := k) (by rw [TT.out.2.2.2.2.2.1]; exact hlt)
        obtain ⟨p1, o1, rfl, l1, c1⟩ := ia (by intro h; rw [h] at xa; simp at xa)
        obtain ⟨p2, o2, rfl, l2, c2⟩ := ib (by intro h; rw [h] at xb; simp at xb)
        obtain ⟨p3, o3, rfl, l3, c3⟩ := ja (by intro h; rw [h] at ya; simp at ya)
        obtain ⟨p4, o4, rfl, l4, c4⟩ := jb (by intro h; rw [h] at yb; simp at yb)
        obtain ⟨q, q'⟩ := bcell HBR.out
        have hsz := HBR.out.size
        have hga := FA.out.lt
        have hgb := FB_.out.lt
        have n13 := (q ga 13 hga).trans (FA.out.cell 13)
        have n14 := (q ga 14 hga).trans (FA.out.cell 14)
        have m13 := (q gb 13 hgb).trans (FB_.out.cell 13)
        have m14 := (q gb 14 hgb).trans (FB_.out.cell 14)
        simp at n13 n14 m13 m14
        have r1 := (q _ _ l1).trans (c1 k _ xa)
        have r2 := (q _ _ l2).trans (c2 k _ xb)
        have r3 := (q _ _ l3).trans (c3 k _ ya)
        have r4 := (q _ _ l4).trans (c4 k _ yb)
        rw [TF.out.2.2.2.2.1] at n13
        rw [TT.out.2.2.2.2.1] at m13
        rw [TF.out.2.2.2.2.2.1] at n14
        rw [TT.out.2.2.2.2.2.1] at m14
        have hk0 : (0 : Int) ≤ (k : Int) := by omega
        have hk1 : (k : Int) < (m : Int) := by omega
        have hsb := (Array.getElem?_eq_some_iff.1 HBK.out).1
        clear q q' c1 c2 c3 c4 xa xa' xb xb' ya ya' yb yb'
        have j1 : p1 < wr.heap.size := by omega
        have j2 : p2 < wr.heap.size := by omega
        have j3 : p3 < wr.heap.size := by omega
        have j4 : p4 < wr.heap.size := by omega
        have j5 : ga < wr.heap.size := by omega
        have j6 : gb < wr.heap.size := by omega
        go_wp2_with fail
        go_region
        obtain ⟨E, hE⟩ : ∃ E, (wr.alloc (.cells #[.int .i64 (at0 sa.lf k), .int .i64 (at0 sb.lf k)] 24)).drew = E := ⟨_, rfl⟩
        obtain ⟨bl, hbl⟩ : ∃ bl, wr.heap.size = bl := ⟨_, rfl⟩
        rw [hE, hbl]
        have hBE : Below wr.heap.size wr E := by rw [← hE]; exact ((Below.refl _ _).alloc (Nat.le_refl _) _).drew
        have hLE : E.heap[bl]? = some (.cells #[.int .i64 (at0 sa.lf k), .int .i64 (at0 sb.lf k)] 24 (0, 0)) := by rw [← hE, ← hbl]; exact heap_alloc_new wr _
        obtain ⟨q, q'⟩ := bcell hBE
        replace n13 := (q _ _ j5).trans n13
        replace m13 := (q _ _ j6).trans m13
        replace r1 := (q _ _ j1).trans r1
        replace r2 := (q _ _ j2).trans r2
        have s0 := cell_of_row E bl 0 _ 24 (0, 0) hLE
        have s1 := cell_of_row E bl 1 _ 24 (0, 0) hLE
        simp at s0 s1
        have hBK := (hBE.block _ hsb).trans HBK.out
        have eX : ∀ r, r < 5 → ∃ v, E.cell? ⟨w3.heap.size, k * 5 + r, none⟩ = some v := fun r hr => by
          rw [cell_of_row E w3.heap.size (k * 5 + r) _ 58 (0, 0) hBK]
          exact ⟨_, Array.getElem?_eq_getElem (by have := HCS.out; omega)⟩
        obtain ⟨t0, e0⟩ := eX 0 (by omega)
        obtain ⟨t1, e1⟩ := eX 1 (by omega)
        obtain ⟨t2, e2⟩ := eX 2 (by omega)
        obtain ⟨t3, e3⟩ := eX 3 (by omega)
        obtain ⟨t4, e4⟩ := eX 4 (by omega)
        rw [Nat.add_zero] at e0
        have LE := Lib.hid hLE; have BE := Lib.hid hBE; have BK := Lib.hid hBK
        have x1 : ¬ w3.heap.size = ga := by omega
        have x2 : ¬ w3.heap.size = gb := by omega
        have x3 : ¬ w3.heap.size = p1 := by omega
        have x4 : ¬ w3.heap.size = p2 := by omega
        have x5 : ¬ w3.heap.size = bl := by omega
        have x6 : ¬ ga = w3.heap.size := by omega
        have x7 : ¬ gb = w3.heap.size := by omega
        have x8 : ¬ p1 = w3.heap.size := by omega
        have x9 : ¬ p2 = w3.heap.size := by omega
        have x10 : ¬ bl = w3.heap.size := by omega
        have hsE : bl < E.heap.size := (Array.getElem?_eq_some_iff.1 hLE).1
        clear q q' eX hLE hBE hBK n14 m14 r3 r4 hE
        have j7 : ga < E.heap.size := by omega
        have j8 : gb < E.heap.size := by omega
        have j9 : p1 < E.heap.size := by omega
        have j10 : p2 < E.heap.size := by omega
        have j11 : w3.heap.size < E.heap.size := by omega
        have HBL := Lib.hid hbl
        clear hbl
        go_wp2_with fail
        go_region_held3 (fun w' => w'.cell? ⟨ga, 13, none⟩ = some (.slice (some ⟨p1, o1, none⟩) m da) ∧ w'.cell? ⟨gb, 13, none⟩ = some (.slice (some ⟨p2, o2, none⟩) m db) ∧ w'.cell? ⟨p1, o1 + k, none⟩ = some (.int .i64 (at0 sa.th k)) ∧ w'.cell? ⟨p2, o2 + k, none⟩ = some (.int .i64 (at0 sb.th k)) ∧
            w'.cell? ⟨bl, 0, none⟩ = some (.int .i64 (at0 sa.lf k)) ∧ w'.cell? ⟨bl, 1, none⟩ = some (.int .i64 (at0 sb.lf k))) (go_keep)
          (first
            | (go_at_call 57
               refine (talik_any (at0 sa.lf k) (at0 sb.lf k) _).mono ?_
               rintro e w4 ⟨rfl, hb4⟩
               have B4 := Lib.hid ((Below.refl E.heap.size E).drew.trans hb4)
               obtain ⟨q, q'⟩ := bcell B4.out
               have n13' := (q _ _ j7).trans n13
               have m13' := (q _ _ j8).trans m13
               have r1' := (q _ _ j9).trans r1
               have r2' := (q _ _ j10).trans r2
               have s0' := (q _ _ hsE).trans s0
               have s1' := (q _ _ hsE).trans s1
               have e0' := (q _ _ j11).trans e0
               have e1' := (q _ _ j11).trans e1
               have e2' := (q _ _ j11).trans e2
               have e3' := (q _ _ j11).trans e3
               have e4' := (q _ _ j11).trans e4
               have K4 := Lib.hid ((B4.out.block _ j11).trans BK.out)
               have fz : ∀ i, w4.frozen? ⟨w3.heap.size, i, none⟩ = false := fun i => by simp [World.frozen?, K4.out]
               have fz0 := fz (k * 5)
               have fz1 := fz (k * 5 + 1)
               have fz2 := fz (k * 5 + 2)
               have fz3 := fz (k * 5 + 3)
               have fz4 := fz (k * 5 + 4)
               clear q q' hb4 fz)
            | fail)
        all_goals
          go_wp2_with fail
          go_roundw
          case rel =>
            exact ⟨k + 1, put5 cs k _ _ _ _ _, by omega, by go_num, blk58_set (blk58_set (blk58_set (blk58_set (blk58_set K4.out (k * 5) _) (k * 5 + 1) _) (k * 5 + 2) _) (k * 5 + 3) _) (k * 5 + 4) _, (put5_size _ _ _ _ _ _ _).trans HCS.out, told_put HTO.out HCS.out hlt,
              (((((HBR.out.trans ((BE.out.mono HBR.out.size).trans (B4.out.mono (Nat.le_trans HBR.out.size BE.out.size)))).setCell (p := ⟨w3.heap.size, k * 5, none⟩) (Nat.le_refl _) _).setCell (p := ⟨w3.heap.size, k * 5 + 1, none⟩) (Nat.le_refl _) _).setCell (p := ⟨w3.heap.size, k * 5 + 2, none⟩) (Nat.le_refl _) _).setCell (p := ⟨w3.heap.size, k * 5 + 3, none⟩) (Nat.le_refl _) _).setCell (p := ⟨w3.heap.size, k * 5 + 4, none⟩) (Nat.le_refl _) _⟩
          case measure => simp [intOf]; omega
      · have hkm : k = m := by omega
        have HK := Lib.hid hkm; clear hkm
        go_wp2
        go_ret2
        rw [HYR.out]
        have hln : (seenI sa sb m).length = m := by simp [seenI]
        refine ⟨some ⟨w3.heap.size, 0, none⟩, m, by rw [hln]; rfl, fun _ => ⟨w3.heap.size, 0, rfl, (Array.getElem?_eq_some_iff.1 HBK.out).1, fun i x hi => ?_⟩, B3.out.trans (HBR.out.mono B3.out.size)⟩
        have him : i < m := by have := (List.getElem?_eq_some_iff.1 hi).1; rw [hln] at this; exact this
        have hx : x = snI sa sb i := by
          have := hi
          simp only [seenI, List.getElem?_map, List.getElem?_range him, Option.map_some] at this
          injection this with this
          exact this.symm
        subst hx
        obtain ⟨h0, h1, h2, h3, h4⟩ := HTO.out i (by rw [HK.out]; exact him)
        rw [Nat.zero_add]
        exact ⟨(cell_of_row _ _ _ _ 58 (0, 0) HBK.out).trans h0, (cell_of_row _ _ _ _ 58 (0, 0) HBK.out).trans h1, (cell_of_row _ _ _ _ 58 (0, 0) HBK.out).trans h2, (cell_of_row _ _ _ _ 58 (0, 0) HBK.out).trans h3, (cell_of_row _ _ _ _ 58 (0, 0) HBK.out).trans h4⟩
  all_goals
    have HR := Lib.hid hr
    clear hr
    have hyr : yearsR ls lo hi ys = ([], yearsI ls lo hi ys) := by unfold yearsR; rw [if_neg (by rw [HR.out]; decide)]
    have HYR := Lib.hid hyr; clear hyr
    go_enter Tryd.func19, Tryd.ntmps19
    go_wp2_with fail
    refine (checkYears_is _ A A2 n c m c' ls ys lo hi _ HL.out HN.out (hL.next HB.out) HM.out HN2.out (hY.next HB.out) HR.out).mono ?_
    rintro e w2 ⟨rfl, hb⟩
    have B2 := Lib.hid (HB.out.trans (hb.mono HB.out.size))
    clear hb
    go_wp2_with fail
    go_ret2
    rw [HYR.out, HR.out]
    exact ⟨none, 0, rfl, fun h => absurd rfl h, B2.out⟩
end Go.Proofs.YtccekbdhffccdaaDoor
