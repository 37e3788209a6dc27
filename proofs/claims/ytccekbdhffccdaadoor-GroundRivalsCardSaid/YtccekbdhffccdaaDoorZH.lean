/- The statement on the year in which a depth is exceeded: the statement's function, by its cases. -/
import Derived.Test.YtccekbdhffccdaaDoorZG
namespace Go.Proofs.YtccekbdhffccdaaDoor
open Go.RowKit Go.Shelf

set_option maxRecDepth 100000 in
set_option maxHeartbeats 4000000 in
theorem excl_far (A A2 : Option Addr) (n c m c' : Nat) (lo hi d : Int) (w : World) (ht : Tab w) (hn : n ≤ maxLen) (hm : m ≤ maxLen) (hs : decide (n ≤ 12 ∧ m ≤ 17) = false) :
    Calls Tryd.prog 8 #[.agg #[.slice A n c, .int .i64 lo, .int .i64 hi], .slice A2 m c', .int .i64 d] w fun e w' => e = .returned (.bool true) ∧ Below w.heap.size w w' := by
  have HT := Lib.hid ht
  have HN := Lib.hid hn; have HM := Lib.hid hm
  have HS := Lib.hid hs
  clear hn hm ht hs
  have HB1 := Lib.hid ((Below.refl w.heap.size w).alloc (Nat.le_refl _) (.cells #[.slice A n c, .int .i64 lo, .int .i64 hi] 26))
  go_enter Tryd.func8, Tryd.ntmps8
  go_wp2_with fail
  refine (short_any A A2 n m c c' lo hi _ HN.out HM.out).mono ?_
  rintro e w2 ⟨rfl, hb2⟩
  rw [HS.out]
  have HB2 := Lib.hid (HB1.out.trans (hb2.mono HB1.out.size))
  clear hb2
  go_wp2_with fail
  refine (known_any _ (HT.out.next HB2.out)).mono ?_
  rintro e w3 ⟨rfl, hb3⟩
  have HB3 := Lib.hid (HB2.out.trans (hb3.mono HB2.out.size))
  clear hb3
  go_wp2_with fail
  go_ret
  exact ⟨rfl, HB3.out⟩

theorem exceeds_err (r : Int) (A A2 : Option Addr) (n c m c' : Nat) (ls : List Lay) (ys : List Yr) (lo hi d : Int) (w : World) (hl : ls.length = n) (hn : n ≤ maxLen) (hcap : n ≤ c) (hL : LaysAt w w.heap.size A ls)
    (hm : ys.length = m) (hm2 : m ≤ maxLen) (hY : YrsAt w w.heap.size A2 ys) (hd : depthI ls lo hi ys d = r) (hr : ¬ r = 0) :
    Calls Tryd.prog 34 #[.agg #[.slice A n c, .int .i64 lo, .int .i64 hi], .slice A2 m c', .int .i64 d] w fun e w' => e = .returned (.tuple #[.int .i64 0, .int .i64 0, .int .i64 r]) ∧ Below w.heap.size w w' := by
  refine (exceeds_any A A2 n c m c' ls ys lo hi d w hl hn hcap hL hm hm2 hY).mono ?_
  rintro e w' ⟨rfl, h⟩
  refine ⟨?_, h⟩
  rw [hd, if_neg hr, if_neg hr]

set_option maxRecDepth 100000 in
set_option maxHeartbeats 4000000 in
theorem excl_bad (r y : Int) (A A2 : Option Addr) (n c m c' : Nat) (ls : List Lay) (ys : List Yr) (lo hi d : Int) (w : World) (ht : Tab w) (hl : ls.length = n) (hcap : n ≤ c) (hn : n ≤ maxLen) (hL : LaysAt w w.heap.size A ls) (hy : ys.length = m) (hm : m ≤ maxLen) (hY : YrsAt w w.heap.size A2 ys)
    (hs : decide (n ≤ 12 ∧ m ≤ 17) = true) (hr : depthI ls lo hi ys d = r) (hr0 : ¬ r = 0) (hyr : yearsI ls lo hi ys = y) (hw : (¬ y = 0 ∧ r = y) ∨ (y = 0 ∧ r = 2 ∧ (d < 0 ∨ (¬ d < 0 ∧ 2000000 < d)))) :
    Calls Tryd.prog 8 #[.agg #[.slice A n c, .int .i64 lo, .int .i64 hi], .slice A2 m c', .int .i64 d] w fun e w' => e = .returned (.bool true) ∧ Below w.heap.size w w' := by
  have HT := Lib.hid ht; have HS := Lib.hid hs; have HR := Lib.hid hr; have HYR := Lib.hid hyr; have HR0 := Lib.hid hr0
  have HL := Lib.hid hl; have HY := Lib.hid hy
  have HN := Lib.hid hn; have HM := Lib.hid hm; have HCAP := Lib.hid hcap
  clear hl hy hn hm ht hcap hs hr hyr
  have HB1 := Lib.hid ((Below.refl w.heap.size w).alloc (Nat.le_refl _) (.cells #[.slice A n c, .int .i64 lo, .int .i64 hi] 26))
  have Z1 := Lib.hid (heap_alloc_new w (.cells #[.slice A n c, .int .i64 lo, .int .i64 hi] 26))
  go_enter Tryd.func8, Tryd.ntmps8
  go_wp2_with fail
  refine (short_any A A2 n m c c' lo hi _ HN.out HM.out).mono ?_
  rintro e w2 ⟨rfl, hb2⟩
  rw [HS.out]
  have HB2 := Lib.hid (HB1.out.trans (hb2.mono HB1.out.size))
  have Z2 := Lib.hid ((hb2.block _ (Array.getElem?_eq_some_iff.1 Z1.out).1).trans Z1.out)
  clear hb2
  have p0 := cell_of_row w2 w.heap.size 0 _ 26 (0, 0) Z2.out
  have p1 := cell_of_row w2 w.heap.size 1 _ 26 (0, 0) Z2.out
  have p2 := cell_of_row w2 w.heap.size 2 _ 26 (0, 0) Z2.out
  simp at p0 p1 p2
  go_wp2_with fail
  refine (exceeds_err r A A2 n c m c' ls ys lo hi d _ HL.out HN.out HCAP.out (hL.next HB2.out) HY.out HM.out (hY.next HB2.out) HR.out HR0.out).mono ?_
  rintro e w3 ⟨rfl, hb3⟩
  have HB3 := Lib.hid (HB2.out.trans (hb3.mono HB2.out.size))
  have Z3 := Lib.hid ((hb3.block _ (Array.getElem?_eq_some_iff.1 Z2.out).1).trans Z2.out)
  clear hb3 p0 p1 p2
  have p0 := cell_of_row w3 w.heap.size 0 _ 26 (0, 0) Z3.out
  have p1 := cell_of_row w3 w.heap.size 1 _ 26 (0, 0) Z3.out
  have p2 := cell_of_row w3 w.heap.size 2 _ 26 (0, 0) Z3.out
  simp at p0 p1 p2
  go_wp2_with fail
  refine (wanted_is y A A2 n c m c' ls ys lo hi _ HL.out HN.out (hL.next HB3.out) HY.out HM.out (hY.next HB3.out) HYR.out).mono ?_
  rintro e w4 ⟨rfl, hb4⟩
  have HB4 := Lib.hid (HB3.out.trans (hb4.mono HB3.out.size))
  clear hb4 p0 p1 p2
  rcases hw with ⟨hy0, rfl⟩ | ⟨rfl, rfl, hd | ⟨hd0, hd⟩⟩
  all_goals
    go_wp2_with fail
    refine (known_any _ (HT.out.next HB4.out)).mono ?_
    rintro e w5 ⟨rfl, hb5⟩
    have HB5 := Lib.hid (HB4.out.trans (hb5.mono HB4.out.size))
    clear hb5
    go_wp2_with fail
    go_ret
    exact ⟨rfl, HB5.out⟩

/-- An operation that leaves a fixed value, and the world as it is. -/
theorem relQ {P : Program} {w : World} {rels : List (Tmp × Nat)} {cv : Tmp → Value} {F : Nat → Value → World → Prop} {i : Nat} {o : Oper} {g : Nat → Value} {u : KeptW w} (d : Tmp) (hd : o.dst = some d) (hF : F i (cv d) u.w)
    (he : (execOp (evalBy (rhoT rels cv g)) o).run P u.w = .ok (.value (cv d)) u.w) :
    Yield P (fun v w' => Below u.w.heap.size u.w w' ∧ F i v w' ∧ ∀ d, o.dst = some d → relOf rels d = none → v = cv d) ((execOp (evalBy (rhoT rels cv g)) o).run P u.w) := by
  rw [he]
  exact ⟨Below.refl _ _, hF, fun e he' _ => by rw [hd] at he'; injection he' with he'; subst he'; rfl⟩
/-- A call. -/
theorem relC {P : Program} {w : World} {rels : List (Tmp × Nat)} {cv : Tmp → Value} {F : Nat → Value → World → Prop} {i : Nat} {o : Oper} {g : Nat → Value} {u : KeptW w} (f : FuncId) (args : Array Value)
    (he : (execOp (evalBy (rhoT rels cv g)) o).run P u.w = .ok (.enter f args) u.w)
    (hc : Calls P f args u.w fun e w' => ∃ v, e = .returned v ∧ Below u.w.heap.size u.w w' ∧ F i v w' ∧ ∀ d, o.dst = some d → relOf rels d = none → v = cv d) :
    Yield P (fun v w' => Below u.w.heap.size u.w w' ∧ F i v w' ∧ ∀ d, o.dst = some d → relOf rels d = none → v = cv d) ((execOp (evalBy (rhoT rels cv g)) o).run P u.w) := by
  rw [he]
  exact hc
def exCv (PV : Value) (Y : Value) (pb : Nat) (d : Int) (a b : Nat) : Tmp → Value
  | 1 => Y
  | 2 => .int .i64 d
  | 3 => .pointer (some ⟨pb, 0, none⟩)
  | 7 => .int .i64 (a : Int)
  | 8 => .int .i64 (b : Int)
  | 9 => .int .i64 0
  | 53 => .int .i64 0
  | 56 => .int .i64 (a : Int)
  | 57 => PV
  | 58 => PV
  | 59 => Y
  | 62 => .int .i64 d
  | 63 => .int .i64 (a : Int)
  | 67 => .int .i64 (b : Int)
  | 68 => PV
  | 69 => PV
  | 70 => Y
  | 73 => .int .i64 d
  | 74 => .int .i64 (b : Int)
  | _ => .bool true
def exF (m : Nat) (T1 T2 : Tru) (S1 S2 : St) : Nat → Value → World → Prop
  | 7, v, w => TruAt w v T1
  | 8, v, w => SnAt w v m S1
  | 18, v, w => TruAt w v T2
  | 19, v, w => SnAt w v m S2
  | _, _, _ => True
theorem exF_keep (m : Nat) (T1 T2 : Tru) (S1 S2 : St) (i : Nat) (v : Value) (w1 w2 : World) (h : exF m T1 T2 S1 S2 i v w1) (hb : Below w1.heap.size w1 w2) : exF m T1 T2 S1 S2 i v w2 := by
  unfold exF at *
  split
  · exact TruAt.next h hb
  · exact SnAt.next h hb
  · exact TruAt.next h hb
  · exact SnAt.next h hb
  · trivial

set_option maxRecDepth 100000 in
set_option maxHeartbeats 4000000 in
theorem excl_good (A A2 : Option Addr) (n c m c' : Nat) (ls : List Lay) (ys : List Yr) (lo hi d : Int) (w : World) (ht : Tab w) (hl : ls.length = n) (hcap : n ≤ c) (hn : n ≤ maxLen) (hL : LaysAt w w.heap.size A ls) (hy : ys.length = m) (hm : m ≤ maxLen) (hY : YrsAt w w.heap.size A2 ys)
    (hs : decide (n ≤ 12 ∧ m ≤ 17) = true) (hr : depthI ls lo hi ys d = 0) :
    Calls Tryd.prog 8 #[.agg #[.slice A n c, .int .i64 lo, .int .i64 hi], .slice A2 m c', .int .i64 d] w fun e w' => e = .returned (.bool true) ∧ Below w.heap.size w w' := by
  obtain ⟨hyr, d0, d1⟩ := depthI_zero hr
  obtain ⟨v1, v2, v3⟩ := yearsI_zero hyr
  have hT1 := extT_ok true v2 v3
  have hT2 := extT_ok false v2 v3
  obtain ⟨⟨v4, v5⟩, _, v6⟩ := placeB_spec v2
  rw [hl, hy] at hT1 hT2
  have N1 : Hid (1 ≤ n) := Lib.hid (by omega)
  have N6 : Hid (n ≤ 6) := Lib.hid (by omega)
  have M12 : Hid (m ≤ 12) := Lib.hid (by omega)
  have TT_ : Hid (∀ x ∈ ls, 1 ≤ x.t ∧ x.t ≤ 20000) := Lib.hid (fun x hx => (v6 x hx).1)
  have L1 := Lib.hid (runS_len ls (extT true ls lo hi ys) 0 m).1
  have L2 := Lib.hid (runS_len ls (extT false ls lo hi ys) 0 m).1
  obtain ⟨T1, e1⟩ : ∃ T, extT true ls lo hi ys = T := ⟨_, rfl⟩
  obtain ⟨T2, e2⟩ : ∃ T, extT false ls lo hi ys = T := ⟨_, rfl⟩
  rw [e1] at hT1 L1
  rw [e2] at hT2 L2
  obtain ⟨S1, f1⟩ : ∃ S, runS ls T1 0 m = S := ⟨_, rfl⟩
  obtain ⟨S2, f2⟩ : ∃ S, runS ls T2 0 m = S := ⟨_, rfl⟩
  rw [f1] at L1
  rw [f2] at L2
  obtain ⟨a, ha⟩ : ∃ a, firstI d S1.th = a := ⟨_, rfl⟩
  obtain ⟨b, hb⟩ : ∃ b, firstI d S2.th = b := ⟨_, rfl⟩
  have E1 := Lib.hid e1; have E2 := Lib.hid e2; have F1 := Lib.hid f1; have F2 := Lib.hid f2; have AA := Lib.hid ha; have BB := Lib.hid hb; have TK1 := Lib.hid hT1; have TK2 := Lib.hid hT2
  have HT := Lib.hid ht; have HS := Lib.hid hs; have HR := Lib.hid hr; have HYR := Lib.hid hyr
  have HL := Lib.hid hl; have HY := Lib.hid hy
  have HN := Lib.hid hn; have HM := Lib.hid hm; have HCAP := Lib.hid hcap
  clear hl hy hn hm ht hcap hs hr hyr v1 v2 v3 v4 v5 v6 e1 e2 f1 f2 ha hb hT1 hT2
  have HB1 := Lib.hid ((Below.refl w.heap.size w).alloc (Nat.le_refl _) (.cells #[.slice A n c, .int .i64 lo, .int .i64 hi] 26))
  have Z1 := Lib.hid (heap_alloc_new w (.cells #[.slice A n c, .int .i64 lo, .int .i64 hi] 26))
  go_enter Tryd.func8, Tryd.ntmps8
  go_wp2_with fail
  refine (short_any A A2 n m c c' lo hi _ HN.out HM.out).mono ?_
  rintro e w2 ⟨rfl, hb2⟩
  rw [HS.out]
  have HB2 := Lib.hid (HB1.out.trans (hb2.mono HB1.out.size))
  have Z2 := Lib.hid ((hb2.block _ (Array.getElem?_eq_some_iff.1 Z1.out).1).trans Z1.out)
  clear hb2
  have p0 := cell_of_row w2 w.heap.size 0 _ 26 (0, 0) Z2.out
  have p1 := cell_of_row w2 w.heap.size 1 _ 26 (0, 0) Z2.out
  have p2 := cell_of_row w2 w.heap.size 2 _ 26 (0, 0) Z2.out
  simp at p0 p1 p2
  go_wp2_with fail
  refine (exceeds_ok A A2 n c m c' ls ys lo hi d _ HL.out HN.out HCAP.out (hL.next HB2.out) HY.out HM.out (hY.next HB2.out) HR.out a b (by rw [E1.out, F1.out]; exact AA.out) (by rw [E2.out, F2.out]; exact BB.out)).mono ?_
  rintro e w3 ⟨rfl, hb3⟩
  have HB3 := Lib.hid (HB2.out.trans (hb3.mono HB2.out.size))
  have Z3 := Lib.hid ((hb3.block _ (Array.getElem?_eq_some_iff.1 Z2.out).1).trans Z2.out)
  clear hb3 p0 p1 p2
  have p0 := cell_of_row w3 w.heap.size 0 _ 26 (0, 0) Z3.out
  have p1 := cell_of_row w3 w.heap.size 1 _ 26 (0, 0) Z3.out
  have p2 := cell_of_row w3 w.heap.size 2 _ 26 (0, 0) Z3.out
  simp at p0 p1 p2
  go_wp2_with fail
  refine (wanted_is 0 A A2 n c m c' ls ys lo hi _ HL.out HN.out (hL.next HB3.out) HY.out HM.out (hY.next HB3.out) HYR.out).mono ?_
  rintro e w4 ⟨rfl, hb4⟩
  have HB4 := Lib.hid (HB3.out.trans (hb4.mono HB3.out.size))
  have Z4 := Lib.hid ((hb4.block _ (Array.getElem?_eq_some_iff.1 Z3.out).1).trans Z3.out)
  clear hb4 p0 p1 p2
  have ltp := (Array.getElem?_eq_some_iff.1 Z4.out).1
  have hd0 : ¬ d < 0 := by omega
  have hd1 : ¬ 2000000 < d := by omega
  go_wp2_with fail
  refine rel_region [1, 2, 3, 7, 8, 9] [(60, 7), (61, 8), (71, 18), (72, 19)] (exCv (.agg #[.slice A n c, .int .i64 lo, .int .i64 hi]) (.slice A2 m c') w.heap.size d a b) (exF m T1 T2 S1 S2) (by kernel_rfl) (by kernel_rfl) (by kernel_rfl) (by kernel_rfl) (by kernel_rfl) (by kernel_rfl) ?_ (exF_keep m T1 T2 S1 S2) ?_ ?_
  · intro t ht
    simp only [List.mem_cons, List.not_mem_nil, or_false] at ht
    rcases ht with rfl | rfl | rfl | rfl | rfl | rfl <;> rfl
  · refine allOps_array ?_
    have hp : ∀ u : KeptW w4, u.w.cell? ⟨w.heap.size, 0, none⟩ = some (.slice A n c) ∧ u.w.cell? ⟨w.heap.size, 1, none⟩ = some (.int .i64 lo) ∧ u.w.cell? ⟨w.heap.size, 2, none⟩ = some (.int .i64 hi) := fun u => by
      have hz := (u.h.block _ ltp).trans Z4.out
      have q0 := cell_of_row u.w w.heap.size 0 _ 26 (0, 0) hz
      have q1 := cell_of_row u.w w.heap.size 1 _ 26 (0, 0) hz
      have q2 := cell_of_row u.w w.heap.size 2 _ 26 (0, 0) hz
      simp at q0 q1 q2
      exact ⟨q0, q1, q2⟩
    have hbu : ∀ u : KeptW w4, Below w.heap.size w u.w := fun u => HB4.out.trans (u.h.mono HB4.out.size)
    refine ⟨?_, ?_, ?_, ?_, ?_, ?_, ?_, ?_, ?_, ?_, ?_, ?_, ?_, ?_, ?_, ?_, ?_, ?_, ?_, ?_, ?_, ?_, ?_, ?_, ?_, ?_, ?_, ?_, trivial⟩
    · intro g u hd_
      refine ⟨rfl, relQ 53 rfl trivial ?_⟩
      simp [go_sem, evalBy, rhoT, relOf, exCv]
    · intro g u hd_
      refine ⟨rfl, relQ 54 rfl trivial ?_⟩
      simp [go_sem, evalBy, rhoT, relOf, exCv]
    · intro g u hd_
      refine ⟨rfl, relQ 55 rfl trivial ?_⟩
      simp [go_sem, evalBy, rhoT, relOf, exCv]
    · intro g u hd_
      refine ⟨rfl, relQ 56 rfl trivial ?_⟩
      simp [go_sem, evalBy, rhoT, relOf, exCv]
    · intro g u hd_
      refine ⟨rfl, relQ 57 rfl trivial ?_⟩
      obtain ⟨q0, q1, q2⟩ := hp u
      simp [go_sem, evalBy, rhoT, relOf, exCv, q0, q1, q2]
    · intro g u hd_
      refine ⟨rfl, relQ 58 rfl trivial ?_⟩
      obtain ⟨q0, q1, q2⟩ := hp u
      simp [go_sem, evalBy, rhoT, relOf, exCv, q0, q1, q2]
    · intro g u hd_
      refine ⟨rfl, relQ 59 rfl trivial ?_⟩
      simp [go_sem, evalBy, rhoT, relOf, exCv]
    · intro g u hd_
      refine ⟨rfl, relC 33 #[.agg #[.slice A n c, .int .i64 lo, .int .i64 hi], .slice A2 m c', .bool true] (by simp [go_sem, evalBy, rhoT, relOf, exCv]) ?_⟩
      refine (endT_any true A A2 n c m c' ls ys lo hi _ HL.out N6.out (hL.next (hbu u)) HY.out M12.out (hY.next (hbu u))).mono ?_
      rintro e w' ⟨v, rfl, hb, hv⟩
      rw [E1.out] at hv
      exact ⟨v, rfl, hb, hv, fun e he hn => by injection he with he; subst he; exact absurd hn (by simp [relOf])⟩
    · intro g u hd_
      refine ⟨rfl, relC 27 #[.agg #[.slice A n c, .int .i64 lo, .int .i64 hi], g 7, .int .i64 0] (by simp [go_sem, evalBy, rhoT, relOf, exCv]) ?_⟩
      refine (followT_any A n c m ls T1 (g 7) lo hi 0 _ HL.out N1.out N6.out (hL.next (hbu u)) TT_.out TK1.out M12.out ⟨Int.le_refl 0, by decide⟩ (hd_ ⟨7, .data⟩ (by simp) rfl)).mono ?_
      rintro e w' ⟨v, rfl, hb, hv⟩
      rw [F1.out] at hv
      exact ⟨v, rfl, hb, hv, fun e he hn => by injection he with he; subst he; exact absurd hn (by simp [relOf])⟩
    · intro g u hd_
      refine ⟨rfl, relQ 62 rfl trivial ?_⟩
      simp [go_sem, evalBy, rhoT, relOf, exCv]
    · intro g u hd_
      refine ⟨rfl, relC 35 #[g 8, .int .i64 d] (by simp [go_sem, evalBy, rhoT, relOf, exCv]) ?_⟩
      refine (firstR_any (g 8) m S1 d _ L1.out M12.out (hd_ ⟨8, .data⟩ (by simp) rfl)).mono ?_
      rintro e w' ⟨rfl, hb⟩
      rw [AA.out]
      exact ⟨_, rfl, hb, trivial, fun e he _ => by injection he with he; subst he; rfl⟩
    · intro g u hd_
      refine ⟨rfl, relQ 64 rfl trivial ?_⟩
      simp [go_sem, evalBy, rhoT, relOf, exCv]
    · intro g u hd_
      refine ⟨rfl, relQ 65 rfl trivial ?_⟩
      simp [go_sem, evalBy, rhoT, relOf, exCv]
    · intro g u hd_
      refine ⟨rfl, relQ 66 rfl trivial ?_⟩
      simp [go_sem, evalBy, rhoT, relOf, exCv]
    · intro g u hd_
      refine ⟨rfl, relQ 67 rfl trivial ?_⟩
      simp [go_sem, evalBy, rhoT, relOf, exCv]
    · intro g u hd_
      refine ⟨rfl, relQ 68 rfl trivial ?_⟩
      obtain ⟨q0, q1, q2⟩ := hp u
      simp [go_sem, evalBy, rhoT, relOf, exCv, q0, q1, q2]
    · intro g u hd_
      refine ⟨rfl, relQ 69 rfl trivial ?_⟩
      obtain ⟨q0, q1, q2⟩ := hp u
      simp [go_sem, evalBy, rhoT, relOf, exCv, q0, q1, q2]
    · intro g u hd_
      refine ⟨rfl, relQ 70 rfl trivial ?_⟩
      simp [go_sem, evalBy, rhoT, relOf, exCv]
    · intro g u hd_
      refine ⟨rfl, relC 33 #[.agg #[.slice A n c, .int .i64 lo, .int .i64 hi], .slice A2 m c', .bool false] (by simp [go_sem, evalBy, rhoT, relOf, exCv]) ?_⟩
      refine (endT_any false A A2 n c m c' ls ys lo hi _ HL.out N6.out (hL.next (hbu u)) HY.out M12.out (hY.next (hbu u))).mono ?_
      rintro e w' ⟨v, rfl, hb, hv⟩
      rw [E2.out] at hv
      exact ⟨v, rfl, hb, hv, fun e he hn => by injection he with he; subst he; exact absurd hn (by simp [relOf])⟩
    · intro g u hd_
      refine ⟨rfl, relC 27 #[.agg #[.slice A n c, .int .i64 lo, .int .i64 hi], g 18, .int .i64 0] (by simp [go_sem, evalBy, rhoT, relOf, exCv]) ?_⟩
      refine (followT_any A n c m ls T2 (g 18) lo hi 0 _ HL.out N1.out N6.out (hL.next (hbu u)) TT_.out TK2.out M12.out ⟨Int.le_refl 0, by decide⟩ (hd_ ⟨18, .data⟩ (by simp) rfl)).mono ?_
      rintro e w' ⟨v, rfl, hb, hv⟩
      rw [F2.out] at hv
      exact ⟨v, rfl, hb, hv, fun e he hn => by injection he with he; subst he; exact absurd hn (by simp [relOf])⟩
    · intro g u hd_
      refine ⟨rfl, relQ 73 rfl trivial ?_⟩
      simp [go_sem, evalBy, rhoT, relOf, exCv]
    · intro g u hd_
      refine ⟨rfl, relC 35 #[g 19, .int .i64 d] (by simp [go_sem, evalBy, rhoT, relOf, exCv]) ?_⟩
      refine (firstR_any (g 19) m S2 d _ L2.out M12.out (hd_ ⟨19, .data⟩ (by simp) rfl)).mono ?_
      rintro e w' ⟨rfl, hb⟩
      rw [BB.out]
      exact ⟨_, rfl, hb, trivial, fun e he _ => by injection he with he; subst he; rfl⟩
    · intro g u hd_
      refine ⟨rfl, relQ 75 rfl trivial ?_⟩
      simp [go_sem, evalBy, rhoT, relOf, exCv]
    · intro g u hd_
      refine ⟨rfl, relQ 76 rfl trivial ?_⟩
      simp [go_sem, evalBy, rhoT, relOf, exCv]
    · intro g u hd_
      refine ⟨rfl, relQ 77 rfl trivial ?_⟩
      simp [go_sem, evalBy, rhoT, relOf, exCv]
    · intro g u hd_
      refine ⟨rfl, relC 17 #[] (by simp [go_sem, evalBy]) ?_⟩
      refine (known_any _ (HT.out.next (hbu u))).mono ?_
      rintro e w' ⟨rfl, hb⟩
      exact ⟨_, rfl, hb, trivial, fun e he _ => by injection he with he; subst he; rfl⟩
    · intro g u hd_
      refine ⟨rfl, relQ 79 rfl trivial ?_⟩
      simp [go_sem, evalBy, rhoT, relOf, exCv]
    · intro g u hd_
      refine ⟨rfl, relQ 6 rfl trivial ?_⟩
      simp [go_sem, evalBy, rhoT, relOf, exCv]
  · intro g u hf
    simp [putAll, Act.put, rhoT, relOf, exCv]
    go_wp2_with fail
    go_ret
    exact ⟨rfl, HB4.out.trans (u.h.mono HB4.out.size)⟩

theorem excl_any (A A2 : Option Addr) (n c m c' : Nat) (ls : List Lay) (ys : List Yr) (lo hi d : Int) (w : World) (ht : Tab w) (hl : ls.length = n) (hcap : n ≤ c) (hn : n ≤ maxLen) (hL : LaysAt w w.heap.size A ls) (hy : ys.length = m) (hm : m ≤ maxLen) (hY : YrsAt w w.heap.size A2 ys) :
    Calls Tryd.prog 8 #[.agg #[.slice A n c, .int .i64 lo, .int .i64 hi], .slice A2 m c', .int .i64 d] w fun e w' => e = .returned (.bool true) ∧ Below w.heap.size w w' := by
  cases hs : decide (n ≤ 12 ∧ m ≤ 17) with
  | false => exact excl_far A A2 n c m c' lo hi d w ht hn hm hs
  | true =>
    by_cases hr : depthI ls lo hi ys d = 0
    · exact excl_good A A2 n c m c' ls ys lo hi d w ht hl hcap hn hL hy hm hY hs hr
    · refine excl_bad _ _ A A2 n c m c' ls ys lo hi d w ht hl hcap hn hL hy hm hY hs rfl hr rfl ?_
      unfold depthI at hr ⊢
      by_cases h0 : yearsI ls lo hi ys = 0
      · rw [if_pos h0] at hr ⊢
        by_cases hd : 0 ≤ d ∧ d ≤ 2000000
        · rw [if_pos hd] at hr
          exact absurd rfl hr
        · rw [if_neg hd]
          exact .inr ⟨h0, rfl, by omega⟩
      · rw [if_neg h0]
        exact .inl ⟨h0, rfl⟩
end Go.Proofs.YtccekbdhffccdaaDoor
