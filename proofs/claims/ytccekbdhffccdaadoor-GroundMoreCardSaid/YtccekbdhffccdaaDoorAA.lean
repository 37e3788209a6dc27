/- How much heat may come, and how much cold is needed. -/
import Derived.Test.YtccekbdhffccdaaDoorZ
namespace Go.Proofs.YtccekbdhffccdaaDoor
open Go.RowKit Go.Shelf

/-- Can the depth be exceeded if a building gives j? -/
def allowH (ls : List Lay) (_lo _hi : Int) (ys : List Yr) (d : Int) (j : Int) : Bool := decide (firstI d (runS ls (extT true ls j j ys) 0 ys.length).th < ys.length)
/-- Is the depth surely kept if j more can go out? -/
def needH (ls : List Lay) (lo hi : Int) (ys : List Yr) (d : Int) (j : Int) : Bool := !decide (firstI d (runS ls (extT true ls lo hi ys) j ys.length).th < ys.length)
def allowI (ls : List Lay) (lo hi : Int) (ys : List Yr) (d : Int) : Int × Int :=
  if depthI ls lo hi ys d = 0 then
    if allowH ls lo hi ys d (leastF (allowH ls lo hi ys d)) then if leastF (allowH ls lo hi ys d) = 0 then (0, 5) else (leastF (allowH ls lo hi ys d) - 1, 0) else (1000000, 0)
  else (0, depthI ls lo hi ys d)
def needI (ls : List Lay) (lo hi : Int) (ys : List Yr) (d : Int) : Int × Int :=
  if depthI ls lo hi ys d = 0 then if needH ls lo hi ys d (leastF (needH ls lo hi ys d)) then (leastF (needH ls lo hi ys d), 0) else (0, 5) else (0, depthI ls lo hi ys d)
theorem placeB_warm {ls : List Lay} {lo hi j : Int} (h : placeB ls lo hi = true) (h0 : 0 ≤ j) (h1 : j ≤ 1000000) : placeB ls j j = true := by
  simp only [placeB, Bool.and_eq_true, withinB_iff] at h ⊢
  exact ⟨h.1, ⟨h0, by omega, h1⟩, h.2.2⟩
theorem bsF_b (hf : Int → Bool) : ∀ (f : Nat) (l h : Int), l ≤ h → l ≤ Go.Proofs.YtccekbdhffccdaaDoor.bsF hf f l h ∧ Go.Proofs.YtccekbdhffccdaaDoor.bsF hf f l h ≤ h := by
  intro f
  induction f with
  | zero => intro l h hl; exact ⟨Int.le_refl _, hl⟩
  | succ f ih =>
    intro l h hl
    unfold bsF
    split
    · split
      · have := ih l ((l + h) / 2) (by omega)
        omega
      · have := ih ((l + h) / 2 + 1) h (by omega)
        omega
    · omega
theorem leastF_b (hf : Int → Bool) : 0 ≤ leastF hf ∧ leastF hf ≤ 1000000 := bsF_b hf 1000000 0 1000000 (by decide)

set_option maxRecDepth 100000 in
set_option maxHeartbeats 1000000 in
theorem allow1 (bp by_ bd : Nat) (A A2 : Option Addr) (n c m c' : Nat) (ls : List Lay) (ys : List Yr) (lo hi d : Int) (j : Int) (w : World) (hl : ls.length = n) (hcap : n ≤ c) (hL : LaysAt w w.heap.size A ls) (hm : ys.length = m) (hm2 : m ≤ 12) (hY : YrsAt w w.heap.size A2 ys)
    (hp : placeB ls lo hi = true) (hy : ys.all yrB = true) (h0 : 0 ≤ j) (h1 : j ≤ 1000000) (_hbp : bp < w.heap.size) (hby : by_ < w.heap.size) (hbd : bd < w.heap.size)
    (c0 : w.cell? ⟨bp, 0, none⟩ = some (.slice A n c)) (_c1 : w.cell? ⟨bp, 1, none⟩ = some (.int .i64 lo)) (_c2 : w.cell? ⟨bp, 2, none⟩ = some (.int .i64 hi)) (d0 : w.cell? ⟨by_, 0, none⟩ = some (.slice A2 m c')) (d1 : w.cell? ⟨bd, 0, none⟩ = some (.int .i64 d)) :
    Calls Tryd.prog 70 #[.int .i64 j, .pointer (some ⟨bp, 0, none⟩), .pointer (some ⟨by_, 0, none⟩), .pointer (some ⟨bd, 0, none⟩)] w fun e w' => e = .returned (.bool (allowH ls lo hi ys d j)) ∧ Below w.heap.size w w' := by
  have HL := Lib.hid hl; clear hl
  have HM := Lib.hid hm; clear hm
  have HP := Lib.hid hp; clear hp
  have HY := Lib.hid hy; clear hy
  have HR : Hid (allowH ls lo hi ys d j = decide (firstI d (runS ls (extT true ls j j ys) 0 m).th < m)) := Lib.hid (by rw [allowH, HM.out])
  have hbd' : bd < w.heap.size + 1 := by omega
  have hby' : by_ < w.heap.size + 1 := by omega
  go_enter Tryd.func70, Tryd.ntmps70
  go_wp2_with fail
  refine (can_any A A2 n c m c' ls ys j j d 0 _ HL.out hcap (hL.alloc _) HM.out hm2 (hY.alloc _) (placeB_warm HP.out h0 h1) HY.out ⟨by omega, by omega⟩).mono ?_
  rintro e w2 ⟨rfl, hb⟩
  have B2 := Lib.hid hb; clear hb
  go_wp2_with fail
  go_ret
  exact ⟨ret_bool HR.out.symm, ((Below.refl _ _).alloc (Nat.le_refl _) _).trans (B2.out.mono (by simp))⟩

set_option maxRecDepth 100000 in
set_option maxHeartbeats 1000000 in
theorem need1 (bp by_ bd : Nat) (A A2 : Option Addr) (n c m c' : Nat) (ls : List Lay) (ys : List Yr) (lo hi d : Int) (j : Int) (w : World) (hl : ls.length = n) (hcap : n ≤ c) (hL : LaysAt w w.heap.size A ls) (hm : ys.length = m) (hm2 : m ≤ 12) (hY : YrsAt w w.heap.size A2 ys)
    (hp : placeB ls lo hi = true) (hy : ys.all yrB = true) (h0 : 0 ≤ j) (h1 : j ≤ 1000000) (_hbp : bp < w.heap.size) (hby : by_ < w.heap.size) (hbd : bd < w.heap.size)
    (c0 : w.cell? ⟨bp, 0, none⟩ = some (.slice A n c)) (c1 : w.cell? ⟨bp, 1, none⟩ = some (.int .i64 lo)) (c2 : w.cell? ⟨bp, 2, none⟩ = some (.int .i64 hi)) (d0 : w.cell? ⟨by_, 0, none⟩ = some (.slice A2 m c')) (d1 : w.cell? ⟨bd, 0, none⟩ = some (.int .i64 d)) :
    Calls Tryd.prog 72 #[.int .i64 j, .pointer (some ⟨bp, 0, none⟩), .pointer (some ⟨by_, 0, none⟩), .pointer (some ⟨bd, 0, none⟩)] w fun e w' => e = .returned (.bool (needH ls lo hi ys d j)) ∧ Below w.heap.size w w' := by
  have HL := Lib.hid hl; clear hl
  have HM := Lib.hid hm; clear hm
  have HP := Lib.hid hp; clear hp
  have HY := Lib.hid hy; clear hy
  have HR : Hid (needH ls lo hi ys d j = !decide (firstI d (runS ls (extT true ls lo hi ys) j m).th < m)) := Lib.hid (by rw [needH, HM.out])
  have hbd' : bd < w.heap.size + 1 := by omega
  have hby' : by_ < w.heap.size + 1 := by omega
  go_enter Tryd.func72, Tryd.ntmps72
  go_wp2_with fail
  refine (can_any A A2 n c m c' ls ys lo hi d j _ HL.out hcap hL HM.out hm2 hY HP.out HY.out ⟨h0, h1⟩).mono ?_
  rintro e w2 ⟨rfl, hb⟩
  have B2 := Lib.hid hb; clear hb
  go_wp2_with fail
  go_ret
  exact ⟨ret_bool HR.out.symm, B2.out⟩

set_option maxRecDepth 100000 in
set_option maxHeartbeats 2000000 in
theorem allow_any (A A2 : Option Addr) (n c m c' : Nat) (ls : List Lay) (ys : List Yr) (lo hi d : Int) (w : World) (hl : ls.length = n) (hn : n ≤ maxLen) (hcap : n ≤ c) (hL : LaysAt w w.heap.size A ls)
    (hm : ys.length = m) (hm2 : m ≤ maxLen) (hY : YrsAt w w.heap.size A2 ys) :
    Calls Tryd.prog 36 #[.agg #[.slice A n c, .int .i64 lo, .int .i64 hi], .slice A2 m c', .int .i64 d] w fun e w' =>
      e = .returned (.tuple #[.int .i64 (allowI ls lo hi ys d).1, .int .i64 (allowI ls lo hi ys d).2]) ∧ Below w.heap.size w w' := by
  have HL := Lib.hid hl; clear hl
  have HM := Lib.hid hm; clear hm
  have HN := Lib.hid hn; clear hn
  have HN2 := Lib.hid hm2; clear hm2
  have hB : Below w.heap.size w (((w.alloc (.cells #[.slice A n c, .int .i64 lo, .int .i64 hi] 26)).alloc (.cells #[.slice A2 m c'] 27)).alloc (.cells #[.int .i64 d] 3)) :=
    (((Below.refl _ _).alloc (Nat.le_refl _) _).alloc (by simp) _).alloc (by simp; omega) _
  have z0 := heap_alloc_new w (.cells #[.slice A n c, .int .i64 lo, .int .i64 hi] 26)
  have z1 := heap_alloc_new (w.alloc (.cells #[.slice A n c, .int .i64 lo, .int .i64 hi] 26)) (.cells #[.slice A2 m c'] 27)
  have z2 := heap_alloc_new ((w.alloc (.cells #[.slice A n c, .int .i64 lo, .int .i64 hi] 26)).alloc (.cells #[.slice A2 m c'] 27)) (.cells #[.int .i64 d] 3)
  simp only [World.size_alloc] at z1 z2
  have y0 := (Below.heap_alloc _ (.cells #[.int .i64 d] 3) _ (by simp; omega)).trans ((Below.heap_alloc _ (.cells #[.slice A2 m c'] 27) _ (by simp)).trans z0)
  have y1 := (Below.heap_alloc _ (.cells #[.int .i64 d] 3) _ (by simp)).trans z1
  have HB := Lib.hid hB
  have Y0 := Lib.hid y0
  have Y1 := Lib.hid y1
  have Y2 := Lib.hid z2
  clear hB z0 z1 z2 y0 y1
  rcases depthI_cases ls lo hi ys d with hr | hr | hr
  · obtain ⟨h1, h2, h3⟩ := depthI_zero hr
    obtain ⟨g1, g2, g3⟩ := yearsI_zero h1
    have hm12 : m ≤ 12 := by rw [HM.out] at g1; exact g1
    have HR := Lib.hid hr; have GP := Lib.hid g2; have GY := Lib.hid g3
    clear hr h1 g1 g2 g3
    go_enter Tryd.func36, Tryd.ntmps36
    go_wp2_with fail
    refine (checkDepth_is 0 A A2 n c m c' ls ys lo hi d _ HL.out HN.out (hL.next HB.out) HM.out HN2.out (hY.next HB.out) HR.out).mono ?_
    rintro e w2 ⟨rfl, hb⟩
    have B2 := Lib.hid (HB.out.trans (hb.mono HB.out.size))
    have X0 := Lib.hid ((hb.block _ (Array.getElem?_eq_some_iff.1 Y0.out).1).trans Y0.out)
    have X1 := Lib.hid ((hb.block _ (Array.getElem?_eq_some_iff.1 Y1.out).1).trans Y1.out)
    have X2 := Lib.hid ((hb.block _ (Array.getElem?_eq_some_iff.1 Y2.out).1).trans Y2.out)
    clear hb
    have l0 := (Array.getElem?_eq_some_iff.1 X0.out).1
    have l1 := (Array.getElem?_eq_some_iff.1 X1.out).1
    have l2 := (Array.getElem?_eq_some_iff.1 X2.out).1
    have HK := Lib.hid (least70 (.pointer (some ⟨w.heap.size, 0, none⟩)) (.pointer (some ⟨w.heap.size + 1, 0, none⟩)) (.pointer (some ⟨w.heap.size + 1 + 1, 0, none⟩)) (allowH ls lo hi ys d) w2 (fun w3 j hb h0 h1 => by
      have hs := hb.size
      exact allow1 w.heap.size (w.heap.size + 1) (w.heap.size + 1 + 1) A A2 n c m c' ls ys lo hi d j w3 HL.out hcap ((hL.next B2.out).next hb) HM.out hm12 ((hY.next B2.out).next hb) GP.out GY.out h0 h1 (by omega) (by omega) (by omega)
        (((bcell hb).1 _ _ l0).trans (cell_of_row _ _ 0 _ 26 (0, 0) X0.out)) (((bcell hb).1 _ _ l0).trans (cell_of_row _ _ 1 _ 26 (0, 0) X0.out)) (((bcell hb).1 _ _ l0).trans (cell_of_row _ _ 2 _ 26 (0, 0) X0.out))
        (((bcell hb).1 _ _ l1).trans (cell_of_row _ _ 0 _ 27 (0, 0) X1.out)) (((bcell hb).1 _ _ l2).trans (cell_of_row _ _ 0 _ 3 (0, 0) X2.out))))
    cases hfl : allowH ls lo hi ys d (leastF (allowH ls lo hi ys d)) with
    | false =>
      have HF := Lib.hid hfl; clear hfl
      rw [HF.out] at HK
      go_wp2_with fail
      refine HK.out.mono ?_
      rintro e w3 ⟨rfl, hb⟩
      have B3 := Lib.hid (B2.out.trans (hb.mono B2.out.size))
      clear hb
      go_wp2_with fail
      go_ret2
      exact ⟨by simp [allowI, HR.out, HF.out], B3.out⟩
    | true =>
      have HF := Lib.hid hfl; clear hfl
      rw [HF.out, if_pos rfl] at HK
      have hR0 := leastF_b (allowH ls lo hi ys d)
      obtain ⟨hR1, hR2⟩ := hR0
      obtain ⟨R, hR⟩ : ∃ R, leastF (allowH ls lo hi ys d) = R := ⟨_, rfl⟩
      rw [hR] at hR1 hR2 HK
      have HRR := Lib.hid hR; clear hR
      by_cases hz : R = 0
      · have hb0 : (R == 0) = true := beq_iff_eq.2 hz
        have HZ := Lib.hid hz; clear hz
        go_wp2_with fail
        refine HK.out.mono ?_
        rintro e w3 ⟨rfl, hb⟩
        have B3 := Lib.hid (B2.out.trans (hb.mono B2.out.size))
        clear hb
        go_wp2_with fail
        go_ret2
        have hA : allowI ls lo hi ys d = (0, 5) := by unfold allowI; rw [HR.out, if_pos rfl, HF.out, if_pos rfl, HRR.out, if_pos HZ.out]
        exact ⟨by rw [hA]; rfl, B3.out⟩
      · have hb0 : (R == 0) = false := beq_eq_false_iff_ne.2 hz
        have HZ := Lib.hid hz; clear hz
        go_wp2_with fail
        refine HK.out.mono ?_
        rintro e w3 ⟨rfl, hb⟩
        have B3 := Lib.hid (B2.out.trans (hb.mono B2.out.size))
        clear hb
        go_wp2_with fail
        go_ret2
        have hA : allowI ls lo hi ys d = (R - 1, 0) := by unfold allowI; rw [HR.out, if_pos rfl, HF.out, if_pos rfl, HRR.out, if_neg HZ.out]
        exact ⟨by rw [hA]; rfl, B3.out⟩
  all_goals
    have HR := Lib.hid hr
    clear hr
    go_enter Tryd.func36, Tryd.ntmps36
    go_wp2_with fail
    refine (checkDepth_is _ A A2 n c m c' ls ys lo hi d _ HL.out HN.out (hL.next HB.out) HM.out HN2.out (hY.next HB.out) HR.out).mono ?_
    rintro e w2 ⟨rfl, hb⟩
    have B2 := Lib.hid (HB.out.trans (hb.mono HB.out.size))
    clear hb
    go_wp2_with fail
    go_ret2
    exact ⟨by simp [allowI, HR.out], B2.out⟩

set_option maxRecDepth 100000 in
set_option maxHeartbeats 2000000 in
theorem need_any (A A2 : Option Addr) (n c m c' : Nat) (ls : List Lay) (ys : List Yr) (lo hi d : Int) (w : World) (hl : ls.length = n) (hn : n ≤ maxLen) (hcap : n ≤ c) (hL : LaysAt w w.heap.size A ls)
    (hm : ys.length = m) (hm2 : m ≤ maxLen) (hY : YrsAt w w.heap.size A2 ys) :
    Calls Tryd.prog 37 #[.agg #[.slice A n c, .int .i64 lo, .int .i64 hi], .slice A2 m c', .int .i64 d] w fun e w' =>
      e = .returned (.tuple #[.int .i64 (needI ls lo hi ys d).1, .int .i64 (needI ls lo hi ys d).2]) ∧ Below w.heap.size w w' := by
  have HL := Lib.hid hl; clear hl
  have HM := Lib.hid hm; clear hm
  have HN := Lib.hid hn; clear hn
  have HN2 := Lib.hid hm2; clear hm2
  have hB : Below w.heap.size w (((w.alloc (.cells #[.slice A n c, .int .i64 lo, .int .i64 hi] 26)).alloc (.cells #[.slice A2 m c'] 27)).alloc (.cells #[.int .i64 d] 3)) :=
    (((Below.refl _ _).alloc (Nat.le_refl _) _).alloc (by simp) _).alloc (by simp; omega) _
  have z0 := heap_alloc_new w (.cells #[.slice A n c, .int .i64 lo, .int .i64 hi] 26)
  have z1 := heap_alloc_new (w.alloc (.cells #[.slice A n c, .int .i64 lo, .int .i64 hi] 26)) (.cells #[.slice A2 m c'] 27)
  have z2 := heap_alloc_new ((w.alloc (.cells #[.slice A n c, .int .i64 lo, .int .i64 hi] 26)).alloc (.cells #[.slice A2 m c'] 27)) (.cells #[.int .i64 d] 3)
  simp only [World.size_alloc] at z1 z2
  have y0 := (Below.heap_alloc _ (.cells #[.int .i64 d] 3) _ (by simp; omega)).trans ((Below.heap_alloc _ (.cells #[.slice A2 m c'] 27) _ (by simp)).trans z0)
  have y1 := (Below.heap_alloc _ (.cells #[.int .i64 d] 3) _ (by simp)).trans z1
  have HB := Lib.hid hB
  have Y0 := Lib.hid y0
  have Y1 := Lib.hid y1
  have Y2 := Lib.hid z2
  clear hB z0 z1 z2 y0 y1
  rcases depthI_cases ls lo hi ys d with hr | hr | hr
  · obtain ⟨h1, h2, h3⟩ := depthI_zero hr
    obtain ⟨g1, g2, g3⟩ := yearsI_zero h1
    have hm12 : m ≤ 12 := by rw [HM.out] at g1; exact g1
    have HR := Lib.hid hr; have GP := Lib.hid g2; have GY := Lib.hid g3
    clear hr h1 g1 g2 g3
    go_enter Tryd.func37, Tryd.ntmps37
    go_wp2_with fail
    refine (checkDepth_is 0 A A2 n c m c' ls ys lo hi d _ HL.out HN.out (hL.next HB.out) HM.out HN2.out (hY.next HB.out) HR.out).mono ?_
    rintro e w2 ⟨rfl, hb⟩
    have B2 := Lib.hid (HB.out.trans (hb.mono HB.out.size))
    have X0 := Lib.hid ((hb.block _ (Array.getElem?_eq_some_iff.1 Y0.out).1).trans Y0.out)
    have X1 := Lib.hid ((hb.block _ (Array.getElem?_eq_some_iff.1 Y1.out).1).trans Y1.out)
    have X2 := Lib.hid ((hb.block _ (Array.getElem?_eq_some_iff.1 Y2.out).1).trans Y2.out)
    clear hb
    have l0 := (Array.getElem?_eq_some_iff.1 X0.out).1
    have l1 := (Array.getElem?_eq_some_iff.1 X1.out).1
    have l2 := (Array.getElem?_eq_some_iff.1 X2.out).1
    have HK := Lib.hid (least72 (.pointer (some ⟨w.heap.size, 0, none⟩)) (.pointer (some ⟨w.heap.size + 1, 0, none⟩)) (.pointer (some ⟨w.heap.size + 1 + 1, 0, none⟩)) (needH ls lo hi ys d) w2 (fun w3 j hb h0 h1 => by
      have hs := hb.size
      exact need1 w.heap.size (w.heap.size + 1) (w.heap.size + 1 + 1) A A2 n c m c' ls ys lo hi d j w3 HL.out hcap ((hL.next B2.out).next hb) HM.out hm12 ((hY.next B2.out).next hb) GP.out GY.out h0 h1 (by omega) (by omega) (by omega)
        (((bcell hb).1 _ _ l0).trans (cell_of_row _ _ 0 _ 26 (0, 0) X0.out)) (((bcell hb).1 _ _ l0).trans (cell_of_row _ _ 1 _ 26 (0, 0) X0.out)) (((bcell hb).1 _ _ l0).trans (cell_of_row _ _ 2 _ 26 (0, 0) X0.out))
        (((bcell hb).1 _ _ l1).trans (cell_of_row _ _ 0 _ 27 (0, 0) X1.out)) (((bcell hb).1 _ _ l2).trans (cell_of_row _ _ 0 _ 3 (0, 0) X2.out))))
    cases hfl : needH ls lo hi ys d (leastF (needH ls lo hi ys d)) with
    | false =>
      have HF := Lib.hid hfl; clear hfl
      rw [HF.out] at HK
      go_wp2_with fail
      refine HK.out.mono ?_
      rintro e w3 ⟨rfl, hb⟩
      have B3 := Lib.hid (B2.out.trans (hb.mono B2.out.size))
      clear hb
      go_wp2_with fail
      go_ret2
      exact ⟨by simp [needI, HR.out, HF.out], B3.out⟩
    | true =>
      have HF := Lib.hid hfl; clear hfl
      rw [HF.out, if_pos rfl] at HK
      go_wp2_with fail
      refine HK.out.mono ?_
      rintro e w3 ⟨rfl, hb⟩
      have B3 := Lib.hid (B2.out.trans (hb.mono B2.out.size))
      clear hb
      go_wp2_with fail
      go_ret2
      exact ⟨by simp [needI, HR.out, HF.out], B3.out⟩
  all_goals
    have HR := Lib.hid hr
    clear hr
    go_enter Tryd.func37, Tryd.ntmps37
    go_wp2_with fail
    refine (checkDepth_is _ A A2 n c m c' ls ys lo hi d _ HL.out HN.out (hL.next HB.out) HM.out HN2.out (hY.next HB.out) HR.out).mono ?_
    rintro e w2 ⟨rfl, hb⟩
    have B2 := Lib.hid (HB.out.trans (hb.mono HB.out.size))
    clear hb
    go_wp2_with fail
    go_ret2
    exact ⟨by simp [needI, HR.out], B2.out⟩
end Go.Proofs.YtccekbdhffccdaaDoor
