/- The statement on heat that may come and cold that is needed: the statement's function, by its cases. -/
import Derived.Test.YtccekbdhffccdaaDoorZO
namespace Go.Proofs.YtccekbdhffccdaaDoor
open Go.RowKit Go.Shelf

set_option maxRecDepth 100000 in
set_option maxHeartbeats 4000000 in
theorem alw_far (A A2 : Option Addr) (n c m c' : Nat) (lo hi d : Int) (w : World) (ht : Tab w) (hn : n ≤ maxLen) (hm : m ≤ maxLen) (hs : decide (n ≤ 12 ∧ m ≤ 17) = false) :
    Calls Tryd.prog 10 #[.agg #[.slice A n c, .int .i64 lo, .int .i64 hi], .slice A2 m c', .int .i64 d] w fun e w' => e = .returned (.bool true) ∧ Below w.heap.size w w' := by
  have HT := Lib.hid ht
  have HN := Lib.hid hn; have HM := Lib.hid hm
  have HS := Lib.hid hs
  clear hn hm ht hs
  have HB1 := Lib.hid ((Below.refl w.heap.size w).alloc (Nat.le_refl _) (.cells #[.slice A n c, .int .i64 lo, .int .i64 hi] 26))
  go_enter Tryd.func10, Tryd.ntmps10
  go_wp2_with fail
  refine (short_any A A2 n m c c' lo hi _ HN.out HM.out).mono ?_
  rintro e w2 ⟨rfl, hb2⟩
  rw [HS.out]
  have HB2 := Lib.hid (HB1.out.trans (hb2.mono HB1.out.size))
  clear hb2
  go_wp2_with fail
  refine (known_any _ (HT.out.next HB2.out)).mono ?_
  rintro e w3 ⟨rfl, hb3⟩
  have HB3 := Lib.hid (HB2.out.trans (hb3.mono HB2.out.size))
  clear hb3
  go_wp2_with fail
  go_ret
  exact ⟨rfl, HB3.out⟩

theorem allow_err (r : Int) (A A2 : Option Addr) (n c m c' : Nat) (ls : List Lay) (ys : List Yr) (lo hi d : Int) (w : World) (hl : ls.length = n) (hn : n ≤ maxLen) (hcap : n ≤ c) (hL : LaysAt w w.heap.size A ls)
    (hm : ys.length = m) (hm2 : m ≤ maxLen) (hY : YrsAt w w.heap.size A2 ys) (hd : depthI ls lo hi ys d = r) (hr : ¬ r = 0) :
    Calls Tryd.prog 36 #[.agg #[.slice A n c, .int .i64 lo, .int .i64 hi], .slice A2 m c', .int .i64 d] w fun e w' => e = .returned (.tuple #[.int .i64 0, .int .i64 r]) ∧ Below w.heap.size w w' := by
  refine (allow_any A A2 n c m c' ls ys lo hi d w hl hn hcap hL hm hm2 hY).mono ?_
  have hq : allowI ls lo hi ys d = (0, r) := by unfold allowI; rw [hd, if_neg hr]
  rw [hq]
  exact fun _ _ h => h
theorem allow_ok (p q : Int) (A A2 : Option Addr) (n c m c' : Nat) (ls : List Lay) (ys : List Yr) (lo hi d : Int) (w : World) (hl : ls.length = n) (hn : n ≤ maxLen) (hcap : n ≤ c) (hL : LaysAt w w.heap.size A ls)
    (hm : ys.length = m) (hm2 : m ≤ maxLen) (hY : YrsAt w w.heap.size A2 ys) (hq : allowI ls lo hi ys d = (p, q)) :
    Calls Tryd.prog 36 #[.agg #[.slice A n c, .int .i64 lo, .int .i64 hi], .slice A2 m c', .int .i64 d] w fun e w' => e = .returned (.tuple #[.int .i64 p, .int .i64 q]) ∧ Below w.heap.size w w' := by
  refine (allow_any A A2 n c m c' ls ys lo hi d w hl hn hcap hL hm hm2 hY).mono ?_
  rw [hq]
  exact fun _ _ h => h
theorem need_err (r : Int) (A A2 : Option Addr) (n c m c' : Nat) (ls : List Lay) (ys : List Yr) (lo hi d : Int) (w : World) (hl : ls.length = n) (hn : n ≤ maxLen) (hcap : n ≤ c) (hL : LaysAt w w.heap.size A ls)
    (hm : ys.length = m) (hm2 : m ≤ maxLen) (hY : YrsAt w w.heap.size A2 ys) (hd : depthI ls lo hi ys d = r) (hr : ¬ r = 0) :
    Calls Tryd.prog 37 #[.agg #[.slice A n c, .int .i64 lo, .int .i64 hi], .slice A2 m c', .int .i64 d] w fun e w' => e = .returned (.tuple #[.int .i64 0, .int .i64 r]) ∧ Below w.heap.size w w' := by
  refine (need_any A A2 n c m c' ls ys lo hi d w hl hn hcap hL hm hm2 hY).mono ?_
  have hq : needI ls lo hi ys d = (0, r) := by unfold needI; rw [hd, if_neg hr]
  rw [hq]
  exact fun _ _ h => h
theorem need_ok (p q : Int) (A A2 : Option Addr) (n c m c' : Nat) (ls : List Lay) (ys : List Yr) (lo hi d : Int) (w : World) (hl : ls.length = n) (hn : n ≤ maxLen) (hcap : n ≤ c) (hL : LaysAt w w.heap.size A ls)
    (hm : ys.length = m) (hm2 : m ≤ maxLen) (hY : YrsAt w w.heap.size A2 ys) (hq : needI ls lo hi ys d = (p, q)) :
    Calls Tryd.prog 37 #[.agg #[.slice A n c, .int .i64 lo, .int .i64 hi], .slice A2 m c', .int .i64 d] w fun e w' => e = .returned (.tuple #[.int .i64 p, .int .i64 q]) ∧ Below w.heap.size w w' := by
  refine (need_any A A2 n c m c' ls ys lo hi d w hl hn hcap hL hm hm2 hY).mono ?_
  rw [hq]
  exact fun _ _ h => h
set_option maxRecDepth 100000 in
set_option maxHeartbeats 4000000 in
theorem alw_bad (r y : Int) (A A2 : Option Addr) (n c m c' : Nat) (ls : List Lay) (ys : List Yr) (lo hi d : Int) (w : World) (ht : Tab w) (hl : ls.length = n) (hcap : n ≤ c) (hn : n ≤ maxLen) (hL : LaysAt w w.heap.size A ls) (hy : ys.length = m) (hm : m ≤ maxLen) (hY : YrsAt w w.heap.size A2 ys)
    (hs : decide (n ≤ 12 ∧ m ≤ 17) = true) (hr : depthI ls lo hi ys d = r) (hr0 : ¬ r = 0) (hyr : yearsI ls lo hi ys = y) (hw : (¬ y = 0 ∧ r = y) ∨ (y = 0 ∧ r = 2 ∧ (d < 0 ∨ (¬ d < 0 ∧ 2000000 < d)))) :
    Calls Tryd.prog 10 #[.agg #[.slice A n c, .int .i64 lo, .int .i64 hi], .slice A2 m c', .int .i64 d] w fun e w' => e = .returned (.bool true) ∧ Below w.heap.size w w' := by
  have HT := Lib.hid ht; have HS := Lib.hid hs; have HR := Lib.hid hr; have HYR := Lib.hid hyr; have HR0 := Lib.hid hr0
  have HL := Lib.hid hl; have HY := Lib.hid hy
  have HN := Lib.hid hn; have HM := Lib.hid hm; have HCAP := Lib.hid hcap
  clear hl hy hn hm ht hcap hs hr hyr
  have HB1 := Lib.hid ((Below.refl w.heap.size w).alloc (Nat.le_refl _) (.cells #[.slice A n c, .int .i64 lo, .int .i64 hi] 26))
  have Z1 := Lib.hid (heap_alloc_new w (.cells #[.slice A n c, .int .i64 lo, .int .i64 hi] 26))
  go_enter Tryd.func10, Tryd.ntmps10
  go_wp2_with fail
  refine (short_any A A2 n m c c' lo hi _ HN.out HM.out).mono ?_
  rintro e w2 ⟨rfl, hb2⟩
  rw [HS.out]
  have HB2 := Lib.hid (HB1.out.trans (hb2.mono HB1.out.size))
  have Z2 := Lib.hid ((hb2.block _ (Array.getElem?_eq_some_iff.1 Z1.out).1).trans Z1.out)
  clear hb2
  have p0 := cell_of_row w2 w.heap.size 0 _ 26 (0, 0) Z2.out
  have p1 := cell_of_row w2 w.heap.size 1 _ 26 (0, 0) Z2.out
  have p2 := cell_of_row w2 w.heap.size 2 _ 26 (0, 0) Z2.out
  simp at p0 p1 p2
  go_wp2_with fail
  refine (allow_err r A A2 n c m c' ls ys lo hi d _ HL.out HN.out HCAP.out (hL.next HB2.out) HY.out HM.out (hY.next HB2.out) HR.out HR0.out).mono ?_
  rintro e wa ⟨rfl, hba⟩
  have HBA := Lib.hid (HB2.out.trans (hba.mono HB2.out.size))
  have ZA_ := Lib.hid ((hba.block _ (Array.getElem?_eq_some_iff.1 Z2.out).1).trans Z2.out)
  clear hba p0 p1 p2
  have p0 := cell_of_row wa w.heap.size 0 _ 26 (0, 0) ZA_.out
  have p1 := cell_of_row wa w.heap.size 1 _ 26 (0, 0) ZA_.out
  have p2 := cell_of_row wa w.heap.size 2 _ 26 (0, 0) ZA_.out
  simp at p0 p1 p2
  go_wp2_with fail
  refine (need_err r A A2 n c m c' ls ys lo hi d _ HL.out HN.out HCAP.out (hL.next HBA.out) HY.out HM.out (hY.next HBA.out) HR.out HR0.out).mono ?_
  rintro e w3 ⟨rfl, hb3⟩
  have HB3 := Lib.hid (HBA.out.trans (hb3.mono HBA.out.size))
  have Z3 := Lib.hid ((hb3.block _ (Array.getElem?_eq_some_iff.1 ZA_.out).1).trans ZA_.out)
  clear hb3 p0 p1 p2
  have p0 := cell_of_row w3 w.heap.size 0 _ 26 (0, 0) Z3.out
  have p1 := cell_of_row w3 w.heap.size 1 _ 26 (0, 0) Z3.out
  have p2 := cell_of_row w3 w.heap.size 2 _ 26 (0, 0) Z3.out
  simp at p0 p1 p2
  go_wp2_with fail
  refine (wanted_is y A A2 n c m c' ls ys lo hi _ HL.out HN.out (hL.next HB3.out) HY.out HM.out (hY.next HB3.out) HYR.out).mono ?_
  rintro e w4 ⟨rfl, hb4⟩
  have HB4 := Lib.hid (HB3.out.trans (hb4.mono HB3.out.size))
  clear hb4 p0 p1 p2
  rcases hw with ⟨hy0, rfl⟩ | ⟨rfl, rfl, hd | ⟨hd0, hd⟩⟩
  all_goals
    go_wp2_with fail
    refine (known_any _ (HT.out.next HB4.out)).mono ?_
    rintro e w5 ⟨rfl, hb5⟩
    have HB5 := Lib.hid (HB4.out.trans (hb5.mono HB4.out.size))
    clear hb5
    go_wp2_with fail
    go_ret
    exact ⟨rfl, HB5.out⟩

def alCv (PV Y : Value) (pb : Nat) (d : Int) : Tmp → Value
  | 1 => Y
  | 2 => .int .i64 d
  | 3 => .pointer (some ⟨pb, 0, none⟩)
  | 67 => PV
  | 68 => Y
  | 69 => .int .i64 d
  | 71 => PV
  | 72 => Y
  | 73 => .int .i64 d
  | _ => undef
def alF (ha hn : Int → Bool) : Nat → Value → World → Prop
  | 3, v, _ => ∃ x : Int, v = .int .i64 x ∧ CutAt ha x
  | 7, v, _ => ∃ y : Int, v = .int .i64 y ∧ LeastAt hn y
  | 8, v, _ => ∃ x : Int, v = .int .i64 x ∧ CutAt ha x
  | 9, v, _ => ∃ y : Int, v = .int .i64 y ∧ LeastAt hn y
  | _, _, _ => True
theorem alF_keep (ha hn : Int → Bool) (i : Nat) (v : Value) (w1 w2 : World) (h : alF ha hn i v w1) (_ : Below w1.heap.size w1 w2) : alF ha hn i v w2 := by
  unfold alF at *
  split
  · exact h
  · exact h
  · exact h
  · exact h
  · trivial
set_option maxRecDepth 100000 in
set_option maxHeartbeats 4000000 in
theorem alw_good (A A2 : Option Addr) (n c m c' : Nat) (ls : List Lay) (ys : List Yr) (lo hi d : Int) (w : World) (ht : Tab w) (hl : ls.length = n) (hcap : n ≤ c) (hn : n ≤ maxLen) (hL : LaysAt w w.heap.size A ls) (hy : ys.length = m) (hm : m ≤ maxLen) (hY : YrsAt w w.heap.size A2 ys)
    (hs : decide (n ≤ 12 ∧ m ≤ 17) = true) (hr : depthI ls lo hi ys d = 0) :
    Calls Tryd.prog 10 #[.agg #[.slice A n c, .int .i64 lo, .int .i64 hi], .slice A2 m c', .int .i64 d] w fun e w' => e = .returned (.bool true) ∧ Below w.heap.size w w' := by
  obtain ⟨hyr, d0, d1⟩ := depthI_zero hr
  obtain ⟨v1, v2, v3⟩ := yearsI_zero hyr
  have UA := Lib.hid (allowH_up (d := d) v2 v3 v1)
  have UN := Lib.hid (needH_up (d := d) v2 v3 v1)
  obtain ⟨⟨p, q⟩, hpq⟩ : ∃ x, allowI ls lo hi ys d = x := ⟨_, rfl⟩
  obtain ⟨⟨p2_, q2_⟩, hpq2⟩ : ∃ x, needI ls lo hi ys d = x := ⟨_, rfl⟩
  have HPQ := Lib.hid hpq; have HPQ2 := Lib.hid hpq2
  have HT := Lib.hid ht; have HS := Lib.hid hs; have HR := Lib.hid hr; have HYR := Lib.hid hyr
  have HL := Lib.hid hl; have HY := Lib.hid hy
  have HN := Lib.hid hn; have HM := Lib.hid hm; have HCAP := Lib.hid hcap
  clear hl hy hn hm ht hcap hs hr hyr v1 v2 v3 hpq hpq2
  have HB1 := Lib.hid ((Below.refl w.heap.size w).alloc (Nat.le_refl _) (.cells #[.slice A n c, .int .i64 lo, .int .i64 hi] 26))
  have Z1 := Lib.hid (heap_alloc_new w (.cells #[.slice A n c, .int .i64 lo, .int .i64 hi] 26))
  go_enter Tryd.func10, Tryd.ntmps10
  go_wp2_with fail
  refine (short_any A A2 n m c c' lo hi _ HN.out HM.out).mono ?_
  rintro e w2 ⟨rfl, hb2⟩
  rw [HS.out]
  have HB2 := Lib.hid (HB1.out.trans (hb2.mono HB1.out.size))
  have Z2 := Lib.hid ((hb2.block _ (Array.getElem?_eq_some_iff.1 Z1.out).1).trans Z1.out)
  clear hb2
  have p0 := cell_of_row w2 w.heap.size 0 _ 26 (0, 0) Z2.out
  have p1 := cell_of_row w2 w.heap.size 1 _ 26 (0, 0) Z2.out
  have p2 := cell_of_row w2 w.heap.size 2 _ 26 (0, 0) Z2.out
  simp at p0 p1 p2
  go_wp2_with fail
  refine (allow_ok p q A A2 n c m c' ls ys lo hi d _ HL.out HN.out HCAP.out (hL.next HB2.out) HY.out HM.out (hY.next HB2.out) HPQ.out).mono ?_
  rintro e wa ⟨rfl, hba⟩
  have HBA := Lib.hid (HB2.out.trans (hba.mono HB2.out.size))
  have ZA_ := Lib.hid ((hba.block _ (Array.getElem?_eq_some_iff.1 Z2.out).1).trans Z2.out)
  clear hba p0 p1 p2
  have p0 := cell_of_row wa w.heap.size 0 _ 26 (0, 0) ZA_.out
  have p1 := cell_of_row wa w.heap.size 1 _ 26 (0, 0) ZA_.out
  have p2 := cell_of_row wa w.heap.size 2 _ 26 (0, 0) ZA_.out
  simp at p0 p1 p2
  go_wp2_with fail
  refine (need_ok p2_ q2_ A A2 n c m c' ls ys lo hi d _ HL.out HN.out HCAP.out (hL.next HBA.out) HY.out HM.out (hY.next HBA.out) HPQ2.out).mono ?_
  rintro e w3 ⟨rfl, hb3⟩
  have HB3 := Lib.hid (HBA.out.trans (hb3.mono HBA.out.size))
  have Z3 := Lib.hid ((hb3.block _ (Array.getElem?_eq_some_iff.1 ZA_.out).1).trans ZA_.out)
  clear hb3 p0 p1 p2
  have p0 := cell_of_row w3 w.heap.size 0 _ 26 (0, 0) Z3.out
  have p1 := cell_of_row w3 w.heap.size 1 _ 26 (0, 0) Z3.out
  have p2 := cell_of_row w3 w.heap.size 2 _ 26 (0, 0) Z3.out
  simp at p0 p1 p2
  go_wp2_with fail
  refine (wanted_is 0 A A2 n c m c' ls ys lo hi _ HL.out HN.out (hL.next HB3.out) HY.out HM.out (hY.next HB3.out) HYR.out).mono ?_
  rintro e w4 ⟨rfl, hb4⟩
  have HB4 := Lib.hid (HB3.out.trans (hb4.mono HB3.out.size))
  have Z4 := Lib.hid ((hb4.block _ (Array.getElem?_eq_some_iff.1 Z3.out).1).trans Z3.out)
  clear hb4 p0 p1 p2
  have ltp := (Array.getElem?_eq_some_iff.1 Z4.out).1
  have hd0 : ¬ d < 0 := by omega
  have hd1 : ¬ 2000000 < d := by omega
  go_wp2_with fail
  refine rel_region [1, 2, 3] [(70, 3), (74, 7), (12, 8), (13, 9)] (alCv (.agg #[.slice A n c, .int .i64 lo, .int .i64 hi]) (.slice A2 m c') w.heap.size d) (alF (allowH ls lo hi ys d) (needH ls lo hi ys d)) (by kernel_rfl) (by kernel_rfl) (by kernel_rfl) (by kernel_rfl) (by kernel_rfl) (by kernel_rfl) ?_ (alF_keep _ _) ?_ ?_
  · intro t ht
    simp only [List.mem_cons, List.not_mem_nil, or_false] at ht
    rcases ht with rfl | rfl | rfl <;> rfl
  · refine allOps_array ?_
    have hp : ∀ u : KeptW w4, u.w.cell? ⟨w.heap.size, 0, none⟩ = some (.slice A n c) ∧ u.w.cell? ⟨w.heap.size, 1, none⟩ = some (.int .i64 lo) ∧ u.w.cell? ⟨w.heap.size, 2, none⟩ = some (.int .i64 hi) := fun u => by
      have hz := (u.h.block _ ltp).trans Z4.out
      have q0 := cell_of_row u.w w.heap.size 0 _ 26 (0, 0) hz
      have q1 := cell_of_row u.w w.heap.size 1 _ 26 (0, 0) hz
      have q2 := cell_of_row u.w w.heap.size 2 _ 26 (0, 0) hz
      simp at q0 q1 q2
      exact ⟨q0, q1, q2⟩
    have hbu : ∀ u : KeptW w4, Below w.heap.size w u.w := fun u => HB4.out.trans (u.h.mono HB4.out.size)
    refine ⟨?_, ?_, ?_, ?_, ?_, ?_, ?_, ?_, ?_, ?_, trivial⟩
    · intro g u hd_
      refine ⟨rfl, relQ 67 rfl trivial ?_⟩
      obtain ⟨q0, q1, q2⟩ := hp u
      simp [go_sem, evalBy, rhoT, relOf, alCv, q0, q1, q2]
    · intro g u hd_
      refine ⟨rfl, relQ 68 rfl trivial ?_⟩
      simp [go_sem, evalBy, rhoT, relOf, alCv]
    · intro g u hd_
      refine ⟨rfl, relQ 69 rfl trivial ?_⟩
      simp [go_sem, evalBy, rhoT, relOf, alCv]
    · intro g u hd_
      refine ⟨rfl, relC 38 #[.agg #[.slice A n c, .int .i64 lo, .int .i64 hi], .slice A2 m c', .int .i64 d] (by simp [go_sem, evalBy, rhoT, relOf, alCv]) ?_⟩
      refine (allowR_any A A2 n c m c' ls ys lo hi d _ HL.out (hL.next (hbu u)) HY.out (hY.next (hbu u)) HYR.out).mono ?_
      rintro e w' ⟨x, rfl, hx, hb⟩
      exact ⟨_, rfl, hb, ⟨x, rfl, hx⟩, fun e he hn => by injection he with he; subst he; exact absurd hn (by simp [relOf])⟩
    · intro g u hd_
      refine ⟨rfl, relQ 71 rfl trivial ?_⟩
      obtain ⟨q0, q1, q2⟩ := hp u
      simp [go_sem, evalBy, rhoT, relOf, alCv, q0, q1, q2]
    · intro g u hd_
      refine ⟨rfl, relQ 72 rfl trivial ?_⟩
      simp [go_sem, evalBy, rhoT, relOf, alCv]
    · intro g u hd_
      refine ⟨rfl, relQ 73 rfl trivial ?_⟩
      simp [go_sem, evalBy, rhoT, relOf, alCv]
    · intro g u hd_
      refine ⟨rfl, relC 39 #[.agg #[.slice A n c, .int .i64 lo, .int .i64 hi], .slice A2 m c', .int .i64 d] (by simp [go_sem, evalBy, rhoT, relOf, alCv]) ?_⟩
      refine (needR_any A A2 n c m c' ls ys lo hi d _ HL.out (hL.next (hbu u)) HY.out (hY.next (hbu u)) HYR.out).mono ?_
      rintro e w' ⟨x, rfl, hx, hb⟩
      exact ⟨_, rfl, hb, ⟨x, rfl, hx⟩, fun e he hn => by injection he with he; subst he; exact absurd hn (by simp [relOf])⟩
    · intro g u hd_
      have hv := hd_ ⟨3, .data⟩ (by simp) rfl
      refine ⟨rfl, relM (g 3) hv (fun e he hn => by injection he with he; subst he; exact absurd hn (by simp [relOf])) ?_⟩
      simp [go_sem, evalBy, rhoT, relOf]
    · intro g u hd_
      have hv := hd_ ⟨7, .data⟩ (by simp) rfl
      refine ⟨rfl, relM (g 7) hv (fun e he hn => by injection he with he; subst he; exact absurd hn (by simp [relOf])) ?_⟩
      simp [go_sem, evalBy, rhoT, relOf]
  · intro g u hf
    obtain ⟨x, eg1, hx⟩ : ∃ x : Int, g 8 = .int .i64 x ∧ CutAt (allowH ls lo hi ys d) x := hf 8 (by decide)
    obtain ⟨y, eg2, hy⟩ : ∃ y : Int, g 9 = .int .i64 y ∧ LeastAt (needH ls lo hi ys d) y := hf 9 (by decide)
    have ha := allowI_cut HR.out UA.out hx
    have hn := needI_least HR.out UN.out hy
    rw [HPQ.out] at ha
    rw [HPQ2.out] at hn
    have HBU := Lib.hid (HB4.out.trans (u.h.mono HB4.out.size))
    simp [putAll, Act.put, rhoT, relOf, alCv, eg1, eg2]
    obtain ⟨w5, hw5⟩ : ∃ z, u.w = z := ⟨_, rfl⟩
    rw [hw5] at HBU ⊢
    clear hw5 hf eg1 eg2 hx hy Z4 ltp
    by_cases hx0 : x < 0
    all_goals
      by_cases hy0 : y < 0
      all_goals
        first | rw [if_pos hx0] at ha | rw [if_neg hx0] at ha
        first | rw [if_pos hy0] at hn | rw [if_neg hy0] at hn
        obtain ⟨rfl, rfl⟩ := Prod.mk.inj ha
        obtain ⟨rfl, rfl⟩ := Prod.mk.inj hn
        clear ha hn
        go_wp2_with fail
        refine (known_any _ (HT.out.next HBU.out)).mono ?_
        rintro e w6 ⟨rfl, hb6⟩
        have HB6 := Lib.hid (HBU.out.trans (hb6.mono HBU.out.size))
        clear hb6
        go_wp2_with fail
        go_ret
        exact ⟨rfl, HB6.out⟩
theorem alw_any (A A2 : Option Addr) (n c m c' : Nat) (ls : List Lay) (ys : List Yr) (lo hi d : Int) (w : World) (ht : Tab w) (hl : ls.length = n) (hcap : n ≤ c) (hn : n ≤ maxLen) (hL : LaysAt w w.heap.size A ls) (hy : ys.length = m) (hm : m ≤ maxLen) (hY : YrsAt w w.heap.size A2 ys) :
    Calls Tryd.prog 10 #[.agg #[.slice A n c, .int .i64 lo, .int .i64 hi], .slice A2 m c', .int .i64 d] w fun e w' => e = .returned (.bool true) ∧ Below w.heap.size w w' := by
  cases hs : decide (n ≤ 12 ∧ m ≤ 17) with
  | false => exact alw_far A A2 n c m c' lo hi d w ht hn hm hs
  | true =>
    by_cases hr : depthI ls lo hi ys d = 0
    · exact alw_good A A2 n c m c' ls ys lo hi d w ht hl hcap hn hL hy hm hY hs hr
    · refine alw_bad _ _ A A2 n c m c' ls ys lo hi d w ht hl hcap hn hL hy hm hY hs rfl hr rfl ?_
      unfold depthI at hr ⊢
      by_cases h0 : yearsI ls lo hi ys = 0
      · rw [if_pos h0] at hr ⊢
        by_cases hd : 0 ≤ d ∧ d ≤ 2000000
        · rw [if_pos hd] at hr
          exact absurd rfl hr
        · rw [if_neg hd]
          exact .inr ⟨h0, rfl, by omega⟩
      · rw [if_neg h0]
        exact .inl ⟨h0, rfl⟩
end Go.Proofs.YtccekbdhffccdaaDoor
