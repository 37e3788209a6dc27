/- How much heat may come, and how much cold is needed, as the specification finds it: the searches, over integers; Kept, Allow and Need. -/
import Derived.Test.YtccekbdhffccdaaDoorZL
namespace Go.Proofs.YtccekbdhffccdaaDoor
open Go.RowKit Go.Shelf

/-- What holds for a number holds for all greater ones. -/
def Up (hf : Int → Bool) : Prop := ∀ i j, 0 ≤ i → i ≤ j → j ≤ 1000000 → hf i = true → hf j = true
theorem bsF_spec {hf : Int → Bool} (hu : Up hf) : ∀ (f : Nat) (l h : Int), 0 ≤ l → l ≤ h → h ≤ 1000000 → h - l ≤ f → (∀ j, 0 ≤ j → j < l → hf j = false) → (h = 1000000 ∨ hf h = true) →
    (∀ j, 0 ≤ j → j < bsF hf f l h → hf j = false) ∧ (bsF hf f l h = 1000000 ∨ hf (bsF hf f l h) = true)
  | 0, l, h, h0, hl, _, hf', hlow, hh => by
    have : l = h := by omega
    subst this
    exact ⟨hlow, hh⟩
  | f + 1, l, h, h0, hl, h1, hf', hlow, hh => by
    unfold bsF
    by_cases hlt : l < h
    · rw [if_pos hlt]
      cases hm : hf ((l + h) / 2) with
      | true =>
        rw [if_pos rfl]
        exact bsF_spec hu f l _ h0 (by omega) (by omega) (by omega) hlow (.inr hm)
      | false =>
        rw [if_neg (by simp)]
        refine bsF_spec hu f _ h (by omega) (by omega) h1 (by omega) (fun j j0 j1 => ?_) hh
        cases hj : hf j with
        | false => rfl
        | true =>
          have := hu j ((l + h) / 2) j0 (by omega) (by omega) hj
          rw [hm] at this
          exact absurd this (by decide)
    · rw [if_neg hlt]
      have : l = h := by omega
      subst this
      exact ⟨hlow, hh⟩
theorem leastF_spec {hf : Int → Bool} (hu : Up hf) : (∀ j, 0 ≤ j → j < leastF hf → hf j = false) ∧ (leastF hf = 1000000 ∨ hf (leastF hf) = true) :=
  bsF_spec hu 1000000 0 1000000 (by decide) (by decide) (by decide) (by decide) (fun j h0 h1 => by omega) (.inl rfl)
/-- A number at which it turns: it holds for all greater ones alone. -/
def CutAt (hf : Int → Bool) (x : Int) : Prop := -1 ≤ x ∧ x ≤ 1000000 ∧ (∀ j, 0 ≤ j → j ≤ x → hf j = false) ∧ ∀ j, 0 ≤ j → x < j → j ≤ 1000000 → hf j = true
theorem allowI_cut {ls : List Lay} {lo hi : Int} {ys : List Yr} {d x : Int} (hd : depthI ls lo hi ys d = 0) (hu : Up (allowH ls lo hi ys d)) (hx : CutAt (allowH ls lo hi ys d) x) :
    allowI ls lo hi ys d = if x < 0 then (0, 5) else (x, 0) := by
  obtain ⟨x0, x1, a1, a2⟩ := hx
  obtain ⟨b1, b2⟩ := leastF_spec hu
  obtain ⟨c1, c2⟩ := leastF_b (allowH ls lo hi ys d)
  unfold allowI
  rw [if_pos hd]
  generalize leastF (allowH ls lo hi ys d) = r at *
  cases hr : allowH ls lo hi ys d r with
  | false =>
    rw [if_neg (by simp)]
    have hr1 : r = 1000000 := by
      rcases b2 with h | h
      · exact h
      · rw [hr] at h; exact absurd h (by decide)
    have : x = 1000000 := by
      by_cases h : x < r
      · have := a2 r c1 h c2
        rw [hr] at this
        exact absurd this (by decide)
      · omega
    rw [if_neg (by omega), this]
  | true =>
    rw [if_pos rfl]
    have hxr : x = r - 1 := by
      by_cases h : r ≤ x
      · have := a1 r c1 h
        rw [hr] at this
        exact absurd this (by decide)
      · by_cases h2 : x + 1 < r
        · have e1 := b1 (x + 1) (by omega) h2
          have e2 := a2 (x + 1) (by omega) (by omega) (by omega)
          rw [e1] at e2
          exact absurd e2 (by decide)
        · omega
    by_cases h0 : r = 0
    · rw [if_pos h0, if_pos (by omega)]
    · rw [if_neg h0, if_neg (by omega), hxr]
/-- The least number for which it holds, -1 if there is none. -/
def LeastAt (hf : Int → Bool) (y : Int) : Prop := (y = -1 ∧ hf 1000000 = false) ∨ (0 ≤ y ∧ y ≤ 1000000 ∧ hf y = true ∧ ∀ j, 0 ≤ j → j < y → hf j = false)
theorem needI_least {ls : List Lay} {lo hi : Int} {ys : List Yr} {d y : Int} (hd : depthI ls lo hi ys d = 0) (hu : Up (needH ls lo hi ys d)) (hy : LeastAt (needH ls lo hi ys d) y) :
    needI ls lo hi ys d = if y < 0 then (0, 5) else (y, 0) := by
  obtain ⟨b1, b2⟩ := leastF_spec hu
  obtain ⟨c1, c2⟩ := leastF_b (needH ls lo hi ys d)
  unfold needI
  rw [if_pos hd]
  generalize leastF (needH ls lo hi ys d) = r at *
  rcases hy with ⟨rfl, h1⟩ | ⟨y0, y1, h1, h2⟩
  · cases hr : needH ls lo hi ys d r with
    | false => rw [if_neg (by simp), if_pos (by decide)]
    | true =>
      have := hu r 1000000 c1 c2 (by decide) hr
      rw [h1] at this
      exact absurd this (by decide)
  · have hry : r = y := by
      by_cases h : r < y
      · rcases b2 with h3 | h3
        · omega
        · have := h2 r c1 h
          rw [h3] at this
          exact absurd this (by decide)
      · by_cases h3 : y < r
        · have := b1 y y0 h3
          rw [h1] at this
          exact absurd this (by decide)
        · omega
    rw [hry, h1, if_pos rfl, if_neg (by omega)]
theorem allowH_up {ls : List Lay} {lo hi : Int} {ys : List Yr} {d : Int} (hp : placeB ls lo hi = true) (hy : ys.all yrB = true) (hm : ys.length ≤ 12) : Up (allowH ls lo hi ys d) := by
  intro i j h0 hij h1 hi'
  obtain ⟨⟨p1, p2⟩, _, hx⟩ := placeB_spec hp
  have Ti := extT_ok true (placeB_warm hp h0 (by omega)) hy
  have Tj := extT_ok true (placeB_warm hp (by omega : 0 ≤ j) h1) hy
  have hW : Warmer (extT true ls i i ys) (extT true ls j j ys) ys.length := by
    refine ⟨?_, fun k hk => ?_, fun k hk => ?_, fun k hk => ?_, fun k hk => ?_⟩
    all_goals first
      | exact allLe_map fun x _ => Int.le_refl _
      | (obtain ⟨y, hy'⟩ := get_of_lt (l := ys) hk
         simp only [extT, at0_map hy']
         first | exact Int.le_refl _ | exact hij | simp; omega)
  have hmono := runS_mono (mo := 0) (mo' := 0) rfl rfl p1 (fun x hm => (hx x hm).1.1) Ti Tj hm ⟨by omega, by omega⟩ ⟨by omega, by omega⟩ (Int.le_refl _) hW ys.length (Nat.le_refl _)
  have l1 := (runS_len ls (extT true ls i i ys) 0 ys.length).1
  have l2 := (runS_len ls (extT true ls j j ys) 0 ys.length).1
  have hf := firstI_mono d _ _ (l1.trans l2.symm) (fun k hk => (hmono.2.2 k (by rw [l1] at hk; exact hk)).1)
  unfold allowH at *
  simp only [decide_eq_true_eq] at *
  omega
theorem needH_up {ls : List Lay} {lo hi : Int} {ys : List Yr} {d : Int} (hp : placeB ls lo hi = true) (hy : ys.all yrB = true) (hm : ys.length ≤ 12) : Up (needH ls lo hi ys d) := by
  intro i j h0 hij h1 hi'
  obtain ⟨⟨p1, p2⟩, _, hx⟩ := placeB_spec hp
  have T := extT_ok true hp hy
  have hmono := runS_mono (mo := j) (mo' := i) rfl rfl p1 (fun x hm => (hx x hm).1.1) T T hm ⟨by omega, by omega⟩ ⟨by omega, by omega⟩ hij ⟨by
    have : ∀ l : List Int, allLe l l := fun l => by
      have := allLe_map (l := l) (f := id) (g := id) (fun x _ => Int.le_refl _)
      simpa using this
    exact this _, fun k _ => Int.le_refl _, fun k _ => Int.le_refl _, fun k _ => Int.le_refl _, fun k _ => Int.le_refl _⟩ ys.length (Nat.le_refl _)
  have l1 := (runS_len ls (extT true ls lo hi ys) j ys.length).1
  have l2 := (runS_len ls (extT true ls lo hi ys) i ys.length).1
  have hf := firstI_mono d _ _ (l1.trans l2.symm) (fun k hk => (hmono.2.2 k (by rw [l1] at hk; exact hk)).1)
  unfold needH at *
  simp only [Bool.not_eq_true', decide_eq_false_iff_not] at *
  omega

theorem blkx_set {w : World} {g : Nat} {cs : Array Value} {t : TypeId} (h : w.heap[g]? = some (.cells cs t (0, 0))) (j : Nat) (u : Value) : (w.setCell ⟨g, j, none⟩ u).heap[g]? = some (.cells (cs.setIfInBounds j u) t (0, 0)) := by
  simp [World.setCell, Array.getElem?_modify, h]
def keptB (ls : List Lay) (lo hi : Int) (ys : List Yr) (d mo : Int) (m : Nat) : Bool := decide (((firstI d (runS ls (extT true ls lo hi ys) mo m).th : Nat) : Int) = (m : Int))
theorem keptB_allow {ls : List Lay} {lo hi j : Int} {ys : List Yr} {d : Int} {m : Nat} (hm : ys.length = m) : keptB ls j j ys d 0 m = !allowH ls lo hi ys d j := by
  have hl := firstI_le d (runS ls (extT true ls j j ys) 0 m).th
  rw [(runS_len ls (extT true ls j j ys) 0 m).1] at hl
  unfold keptB allowH
  rw [hm]
  by_cases h : firstI d (runS ls (extT true ls j j ys) 0 m).th < m
  · rw [decide_eq_true h, decide_eq_false (by omega)]; rfl
  · rw [decide_eq_false h, decide_eq_true (by omega)]; rfl
theorem keptB_need {ls : List Lay} {lo hi j : Int} {ys : List Yr} {d : Int} {m : Nat} (hm : ys.length = m) : keptB ls lo hi ys d j m = needH ls lo hi ys d j := by
  have hl := firstI_le d (runS ls (extT true ls lo hi ys) j m).th
  rw [(runS_len ls (extT true ls lo hi ys) j m).1] at hl
  unfold keptB needH
  rw [hm]
  by_cases h : firstI d (runS ls (extT true ls lo hi ys) j m).th < m
  · rw [decide_eq_true h, decide_eq_false (by omega)]; rfl
  · rw [decide_eq_false h, decide_eq_true (by omega)]; rfl
def keCv (PV Y : Value) (xb : Nat) (d mo : Int) (a m : Nat) : Tmp → Value
  | 1 => Y
  | 2 => .int .i64 d
  | 4 => .int .i64 mo
  | 11 => .pointer (some ⟨xb, 0, none⟩)
  | 19 => PV
  | 20 => PV
  | 21 => Y
  | 23 => .int .i64 mo
  | 25 => .int .i64 d
  | 26 => .int .i64 (a : Int)
  | 27 => Y
  | 28 => .int .i64 (m : Int)
  | 29 => .bool ((a : Int) == (m : Int))
  | 10 => .bool ((a : Int) == (m : Int))
  | _ => undef
def keF (m : Nat) (T : Tru) (S : St) : Nat → Value → World → Prop
  | 3, v, w => TruAt w v T
  | 5, v, w => SnAt w v m S
  | _, _, _ => True
theorem keF_keep (m : Nat) (T : Tru) (S : St) (i : Nat) (v : Value) (w1 w2 : World) (h : keF m T S i v w1) (hb : Below w1.heap.size w1 w2) : keF m T S i v w2 := by
  unfold keF at *
  split
  · exact TruAt.next h hb
  · exact SnAt.next h hb
  · trivial
set_option maxRecDepth 100000 in
set_option maxHeartbeats 4000000 in
theorem kept_any (A A2 : Option Addr) (n c m c' : Nat) (ls : List Lay) (ys : List Yr) (lo hi lo2 hi2 d wm mo : Int) (w : World) (hl : ls.length = n) (hL : LaysAt w w.heap.size A ls) (hy : ys.length = m) (hY : YrsAt w w.heap.size A2 ys)
    (hp : placeB ls lo2 hi2 = true) (hyr : ys.all yrB = true) (hm12 : m ≤ 12) (hmo : 0 ≤ mo ∧ mo ≤ 1000000) (hw : (wm < 0 ∧ lo2 = lo ∧ hi2 = hi) ∨ (0 ≤ wm ∧ lo2 = wm ∧ hi2 = wm)) :
    Calls Tryd.prog 73 #[.agg #[.slice A n c, .int .i64 lo, .int .i64 hi], .slice A2 m c', .int .i64 d, .int .i64 wm, .int .i64 mo] w fun e w' => e = .returned (.bool (keptB ls lo2 hi2 ys d mo m)) ∧ Below w.heap.size w w' := by
  have hT := extT_ok true hp hyr
  obtain ⟨⟨v4, v5⟩, _, v6⟩ := placeB_spec hp
  rw [hl, hy] at hT
  have N1 : Hid (1 ≤ n) := Lib.hid (by omega)
  have N6 : Hid (n ≤ 6) := Lib.hid (by omega)
  have M12 : Hid (m ≤ 12) := Lib.hid hm12
  have MO := Lib.hid hmo
  have TT_ : Hid (∀ x ∈ ls, 1 ≤ x.t ∧ x.t ≤ 20000) := Lib.hid (fun x hx => (v6 x hx).1)
  have L1 := Lib.hid (runS_len ls (extT true ls lo2 hi2 ys) mo m).1
  obtain ⟨T, e1⟩ : ∃ T, extT true ls lo2 hi2 ys = T := ⟨_, rfl⟩
  have KB : Hid (keptB ls lo2 hi2 ys d mo m = decide (((firstI d (runS ls T mo m).th : Nat) : Int) = (m : Int))) := Lib.hid (by unfold keptB; rw [e1])
  rw [e1] at hT L1
  obtain ⟨S, f1⟩ : ∃ S, runS ls T mo m = S := ⟨_, rfl⟩
  rw [f1] at L1 KB
  obtain ⟨a, ha⟩ : ∃ a, firstI d S.th = a := ⟨_, rfl⟩
  rw [ha] at KB
  have E1 := Lib.hid e1; have F1 := Lib.hid f1; have AA := Lib.hid ha; have TK := Lib.hid hT
  have HL := Lib.hid hl; have HY := Lib.hid hy
  clear hl hy hp hyr hm12 v4 v5 v6 e1 f1 ha hT hmo
  rcases hw with ⟨hw0, e1, e2⟩ | ⟨hw0, e1, e2⟩
  · have hw1 : ¬ 0 ≤ wm := by omega
    replace e1 := e1.symm
    replace e2 := e2.symm
    subst e1 e2
    go_enter Tryd.func73, Tryd.ntmps73
    go_wp2_with fail
    obtain ⟨W, hW⟩ : ∃ x, (w.alloc (.cells #[.slice A n c, .int .i64 lo, .int .i64 hi] 26)).alloc (.cells #[.slice A n c, .int .i64 lo, .int .i64 hi] 26) = x := ⟨_, rfl⟩
    rw [hW]
    have hz : W.heap[w.heap.size + 1]? = some (.cells #[.slice A n c, .int .i64 lo, .int .i64 hi] 26 (0, 0)) := by
      rw [← hW]
      have := heap_alloc_new (w.alloc (.cells #[.slice A n c, .int .i64 lo, .int .i64 hi] 26)) (.cells #[.slice A n c, .int .i64 lo, .int .i64 hi] 26)
      simp only [World.size_alloc] at this
      exact this
    have hb : Below w.heap.size w W := by rw [← hW]; exact ((Below.refl _ _).alloc (Nat.le_refl _) _).alloc (by simp) _
    have HZ := Lib.hid hz; have HB := Lib.hid hb
    clear hW hz hb
    have ltp := (Array.getElem?_eq_some_iff.1 HZ.out).1
    refine rel_region [1, 2, 4, 11] [(22, 3), (24, 5)] (keCv (.agg #[.slice A n c, .int .i64 lo, .int .i64 hi]) (.slice A2 m c') (w.heap.size + 1) d mo a m) (keF m T S) (by kernel_rfl) (by kernel_rfl) (by kernel_rfl) (by kernel_rfl) (by kernel_rfl) (by kernel_rfl) ?_ (keF_keep m T S) ?_ ?_
    · intro t ht
      simp only [List.mem_cons, List.not_mem_nil, or_false] at ht
      rcases ht with rfl | rfl | rfl | rfl <;> rfl
    · refine allOps_array ?_
      have hp : ∀ u : KeptW W, u.w.cell? ⟨w.heap.size + 1, 0, none⟩ = some (.slice A n c) ∧ u.w.cell? ⟨w.heap.size + 1, 1, none⟩ = some (.int .i64 lo) ∧ u.w.cell? ⟨w.heap.size + 1, 2, none⟩ = some (.int .i64 hi) := fun u => by
        have hz := (u.h.block _ ltp).trans HZ.out
        have q0 := cell_of_row u.w (w.heap.size + 1) 0 _ 26 (0, 0) hz
        have q1 := cell_of_row u.w (w.heap.size + 1) 1 _ 26 (0, 0) hz
        have q2 := cell_of_row u.w (w.heap.size + 1) 2 _ 26 (0, 0) hz
        simp at q0 q1 q2
        exact ⟨q0, q1, q2⟩
      have hbu : ∀ u : KeptW W, Below w.heap.size w u.w := fun u => HB.out.trans (u.h.mono HB.out.size)
      refine ⟨?_, ?_, ?_, ?_, ?_, ?_, ?_, ?_, ?_, ?_, ?_, ?_, trivial⟩
      · intro g u hd_
        refine ⟨rfl, relQ 19 rfl trivial ?_⟩
        obtain ⟨q0, q1, q2⟩ := hp u
        simp [go_sem, evalBy, rhoT, relOf, keCv, q0, q1, q2]
      · intro g u hd_
        refine ⟨rfl, relQ 20 rfl trivial ?_⟩
        obtain ⟨q0, q1, q2⟩ := hp u
        simp [go_sem, evalBy, rhoT, relOf, keCv, q0, q1, q2]
      · intro g u hd_
        refine ⟨rfl, relQ 21 rfl trivial ?_⟩
        simp [go_sem, evalBy, rhoT, relOf, keCv]
      · intro g u hd_
        refine ⟨rfl, relC 33 #[.agg #[.slice A n c, .int .i64 lo, .int .i64 hi], .slice A2 m c', .bool true] (by simp [go_sem, evalBy, rhoT, relOf, keCv]) ?_⟩
        refine (endT_any true A A2 n c m c' ls ys lo hi _ HL.out N6.out (hL.next (hbu u)) HY.out M12.out (hY.next (hbu u))).mono ?_
        rintro e w' ⟨v, rfl, hb, hv⟩
        rw [E1.out] at hv
        exact ⟨v, rfl, hb, hv, fun e he hn => by injection he with he; subst he; exact absurd hn (by simp [relOf])⟩
      · intro g u hd_
        refine ⟨rfl, relQ 23 rfl trivial ?_⟩
        simp [go_sem, evalBy, rhoT, relOf, keCv]
      · intro g u hd_
        refine ⟨rfl, relC 27 #[.agg #[.slice A n c, .int .i64 lo, .int .i64 hi], g 3, .int .i64 mo] (by simp [go_sem, evalBy, rhoT, relOf, keCv]) ?_⟩
        refine (followT_any A n c m ls T (g 3) lo hi mo _ HL.out N1.out N6.out (hL.next (hbu u)) TT_.out TK.out M12.out MO.out (hd_ ⟨3, .data⟩ (by simp) rfl)).mono ?_
        rintro e w' ⟨v, rfl, hb, hv⟩
        rw [F1.out] at hv
        exact ⟨v, rfl, hb, hv, fun e he hn => by injection he with he; subst he; exact absurd hn (by simp [relOf])⟩
      · intro g u hd_
        refine ⟨rfl, relQ 25 rfl trivial ?_⟩
        simp [go_sem, evalBy, rhoT, relOf, keCv]
      · intro g u hd_
        refine ⟨rfl, relC 35 #[g 5, .int .i64 d] (by simp [go_sem, evalBy, rhoT, relOf, keCv]) ?_⟩
        refine (firstR_any (g 5) m S d _ L1.out M12.out (hd_ ⟨5, .data⟩ (by simp) rfl)).mono ?_
        rintro e w' ⟨rfl, hb⟩
        rw [AA.out]
        exact ⟨_, rfl, hb, trivial, fun e he _ => by injection he with he; subst he; rfl⟩
      · intro g u hd_
        refine ⟨rfl, relQ 27 rfl trivial ?_⟩
        simp [go_sem, evalBy, rhoT, relOf, keCv]
      · intro g u hd_
        refine ⟨rfl, relQ 28 rfl trivial ?_⟩
        simp [go_sem, evalBy, rhoT, relOf, keCv]
      · intro g u hd_
        refine ⟨rfl, relQ 29 rfl trivial ?_⟩
        simp [go_sem, evalBy, rhoT, relOf, keCv]
      · intro g u hd_
        refine ⟨rfl, relQ 10 rfl trivial ?_⟩
        simp [go_sem, evalBy, rhoT, relOf, keCv]
    · intro g u _
      simp [putAll, Act.put, rhoT, relOf, keCv]
      go_wp2_with fail
      go_ret
      exact ⟨ret_bool (by rw [KB.out]; rfl), HB.out.trans (u.h.mono HB.out.size)⟩
  · replace e1 := e1.symm
    replace e2 := e2.symm
    subst e1 e2
    go_enter Tryd.func73, Tryd.ntmps73
    go_wp2_with fail
    obtain ⟨W, hW⟩ : ∃ x, (w.alloc (.cells #[.slice A n c, .int .i64 lo, .int .i64 hi] 26)).alloc (.cells #[.slice A n c, .int .i64 wm, .int .i64 wm] 26) = x := ⟨_, rfl⟩
    rw [hW]
    have hz : W.heap[w.heap.size + 1]? = some (.cells #[.slice A n c, .int .i64 wm, .int .i64 wm] 26 (0, 0)) := by
      rw [← hW]
      have := heap_alloc_new (w.alloc (.cells #[.slice A n c, .int .i64 lo, .int .i64 hi] 26)) (.cells #[.slice A n c, .int .i64 wm, .int .i64 wm] 26)
      simp only [World.size_alloc] at this
      exact this
    have hb : Below w.heap.size w W := by rw [← hW]; exact ((Below.refl _ _).alloc (Nat.le_refl _) _).alloc (by simp) _
    have HZ := Lib.hid hz; have HB := Lib.hid hb
    clear hW hz hb
    have ltp := (Array.getElem?_eq_some_iff.1 HZ.out).1
    refine rel_region [1, 2, 4, 11] [(22, 3), (24, 5)] (keCv (.agg #[.slice A n c, .int .i64 wm, .int .i64 wm]) (.slice A2 m c') (w.heap.size + 1) d mo a m) (keF m T S) (by kernel_rfl) (by kernel_rfl) (by kernel_rfl) (by kernel_rfl) (by kernel_rfl) (by kernel_rfl) ?_ (keF_keep m T S) ?_ ?_
    · intro t ht
      simp only [List.mem_cons, List.not_mem_nil, or_false] at ht
      rcases ht with rfl | rfl | rfl | rfl <;> rfl
    · refine allOps_array ?_
      have hp : ∀ u : KeptW W, u.w.cell? ⟨w.heap.size + 1, 0, none⟩ = some (.slice A n c) ∧ u.w.cell? ⟨w.heap.size + 1, 1, none⟩ = some (.int .i64 wm) ∧ u.w.cell? ⟨w.heap.size + 1, 2, none⟩ = some (.int .i64 wm) := fun u => by
        have hz := (u.h.block _ ltp).trans HZ.out
        have q0 := cell_of_row u.w (w.heap.size + 1) 0 _ 26 (0, 0) hz
        have q1 := cell_of_row u.w (w.heap.size + 1) 1 _ 26 (0, 0) hz
        have q2 := cell_of_row u.w (w.heap.size + 1) 2 _ 26 (0, 0) hz
        simp at q0 q1 q2
        exact ⟨q0, q1, q2⟩
      have hbu : ∀ u : KeptW W, Below w.heap.size w u.w := fun u => HB.out.trans (u.h.mono HB.out.size)
      refine ⟨?_, ?_, ?_, ?_, ?_, ?_, ?_, ?_, ?_, ?_, ?_, ?_, trivial⟩
      · intro g u hd_
        refine ⟨rfl, relQ 19 rfl trivial ?_⟩
        obtain ⟨q0, q1, q2⟩ := hp u
        simp [go_sem, evalBy, rhoT, relOf, keCv, q0, q1, q2]
      · intro g u hd_
        refine ⟨rfl, relQ 20 rfl trivial ?_⟩
        obtain ⟨q0, q1, q2⟩ := hp u
        simp [go_sem, evalBy, rhoT, relOf, keCv, q0, q1, q2]
      · intro g u hd_
        refine ⟨rfl, relQ 21 rfl trivial ?_⟩
        simp [go_sem, evalBy, rhoT, relOf, keCv]
      · intro g u hd_
        refine ⟨rfl, relC 33 #[.agg #[.slice A n c, .int .i64 wm, .int .i64 wm], .slice A2 m c', .bool true] (by simp [go_sem, evalBy, rhoT, relOf, keCv]) ?_⟩
        refine (endT_any true A A2 n c m c' ls ys wm wm _ HL.out N6.out (hL.next (hbu u)) HY.out M12.out (hY.next (hbu u))).mono ?_
        rintro e w' ⟨v, rfl, hb, hv⟩
        rw [E1.out] at hv
        exact ⟨v, rfl, hb, hv, fun e he hn => by injection he with he; subst he; exact absurd hn (by simp [relOf])⟩
      · intro g u hd_
        refine ⟨rfl, relQ 23 rfl trivial ?_⟩
        simp [go_sem, evalBy, rhoT, relOf, keCv]
      · intro g u hd_
        refine ⟨rfl, relC 27 #[.agg #[.slice A n c, .int .i64 wm, .int .i64 wm], g 3, .int .i64 mo] (by simp [go_sem, evalBy, rhoT, relOf, keCv]) ?_⟩
        refine (followT_any A n c m ls T (g 3) wm wm mo _ HL.out N1.out N6.out (hL.next (hbu u)) TT_.out TK.out M12.out MO.out (hd_ ⟨3, .data⟩ (by simp) rfl)).mono ?_
        rintro e w' ⟨v, rfl, hb, hv⟩
        rw [F1.out] at hv
        exact ⟨v, rfl, hb, hv, fun e he hn => by injection he with he; subst he; exact absurd hn (by simp [relOf])⟩
      · intro g u hd_
        refine ⟨rfl, relQ 25 rfl trivial ?_⟩
        simp [go_sem, evalBy, rhoT, relOf, keCv]
      · intro g u hd_
        refine ⟨rfl, relC 35 #[g 5, .int .i64 d] (by simp [go_sem, evalBy, rhoT, relOf, keCv]) ?_⟩
        refine (firstR_any (g 5) m S d _ L1.out M12.out (hd_ ⟨5, .data⟩ (by simp) rfl)).mono ?_
        rintro e w' ⟨rfl, hb⟩
        rw [AA.out]
        exact ⟨_, rfl, hb, trivial, fun e he _ => by injection he with he; subst he; rfl⟩
      · intro g u hd_
        refine ⟨rfl, relQ 27 rfl trivial ?_⟩
        simp [go_sem, evalBy, rhoT, relOf, keCv]
      · intro g u hd_
        refine ⟨rfl, relQ 28 rfl trivial ?_⟩
        simp [go_sem, evalBy, rhoT, relOf, keCv]
      · intro g u hd_
        refine ⟨rfl, relQ 29 rfl trivial ?_⟩
        simp [go_sem, evalBy, rhoT, relOf, keCv]
      · intro g u hd_
        refine ⟨rfl, relQ 10 rfl trivial ?_⟩
        simp [go_sem, evalBy, rhoT, relOf, keCv]
    · intro g u _
      simp [putAll, Act.put, rhoT, relOf, keCv]
      go_wp2_with fail
      go_ret
      exact ⟨ret_bool (by rw [KB.out]; rfl), HB.out.trans (u.h.mono HB.out.size)⟩

set_option maxRecDepth 100000 in
set_option maxHeartbeats 4000000 in
theorem allowR_any (A A2 : Option Addr) (n c m c' : Nat) (ls : List Lay) (ys : List Yr) (lo hi d : Int) (w : World) (hl : ls.length = n) (hL : LaysAt w w.heap.size A ls) (hy : ys.length = m) (hY : YrsAt w w.heap.size A2 ys)
    (hr : yearsI ls lo hi ys = 0) :
    Calls Tryd.prog 38 #[.agg #[.slice A n c, .int .i64 lo, .int .i64 hi], .slice A2 m c', .int .i64 d] w fun e w' => ∃ x : Int, e = .returned (.int .i64 x) ∧ CutAt (allowH ls lo hi ys d) x ∧ Below w.heap.size w w' := by
  obtain ⟨v1, v2, v3⟩ := yearsI_zero hr
  have UP := Lib.hid (allowH_up (d := d) v2 v3 v1)
  have PL := Lib.hid v2; have YB := Lib.hid v3
  have M12 : Hid (m ≤ 12) := Lib.hid (by omega)
  have HL := Lib.hid hl; have HY := Lib.hid hy
  have KA : Hid (∀ j, keptB ls j j ys d 0 m = !allowH ls lo hi ys d j) := Lib.hid (fun j => keptB_allow hy)
  clear hl hy hr v1 v2 v3
  have HB1 := Lib.hid ((Below.refl w.heap.size w).alloc (Nat.le_refl _) (.cells #[.slice A n c, .int .i64 lo, .int .i64 hi] 26))
  have Z1 := Lib.hid (heap_alloc_new w (.cells #[.slice A n c, .int .i64 lo, .int .i64 hi] 26))
  go_enter Tryd.func38, Tryd.ntmps38
  go_wp2_with fail
  obtain ⟨w4, hw4⟩ : ∃ x, w.alloc (.cells #[.slice A n c, .int .i64 lo, .int .i64 hi] 26) = x := ⟨_, rfl⟩
  rw [hw4] at HB1 Z1 ⊢
  clear hw4
  go_loopw [7, 8] (fun a b wr => ∃ l h : Int, a = .int .i64 l ∧ b = .int .i64 h ∧ -1 ≤ l ∧ l ≤ h ∧ h ≤ 1000000 ∧ (∀ j, 0 ≤ j → j ≤ l → allowH ls lo hi ys d j = false) ∧ (∀ j, 0 ≤ j → h < j → j ≤ 1000000 → allowH ls lo hi ys d j = true) ∧ Below w4.heap.size w4 wr) (fun a b _ => (intOf b - intOf a).toNat)
  case atStart => exact ⟨-1, 1000000, rfl, rfl, by decide, by decide, by decide, fun j h0 h1 => by omega, fun j _ h1 h2 => by omega, Below.refl _ _⟩
  case round =>
    obtain ⟨l, h, rfl, rfl, l0, lh, h1, hlow, hhigh, hbr⟩ := hrel
    have LOW := Lib.hid hlow; have HIGH := Lib.hid hhigh; have HBR := Lib.hid hbr
    have hz := (hbr.block _ (Array.getElem?_eq_some_iff.1 Z1.out).1).trans Z1.out
    have p0 := cell_of_row wr w.heap.size 0 _ 26 (0, 0) hz
    have p1 := cell_of_row wr w.heap.size 1 _ 26 (0, 0) hz
    have p2 := cell_of_row wr w.heap.size 2 _ 26 (0, 0) hz
    simp at p0 p1 p2
    clear hlow hhigh hbr hz
    have hbw : Hid (Below w.heap.size w wr) := Lib.hid (HB1.out.trans (HBR.out.mono HB1.out.size))
    by_cases hlt : l < h
    · obtain ⟨md, hmd⟩ : ∃ x, h - (h - l) / 2 = x := ⟨_, rfl⟩
      have m0 : 0 ≤ md := by omega
      have m1 : l < md := by omega
      have m2 : md ≤ h := by omega
      have s0 : 0 ≤ h - l := by omega
      have s1 : h - l ≤ 1000001 := by omega
      have MD := Lib.hid hmd
      clear hmd
      go_wp2_with fail
      simp only [MD.out]
      refine (kept_any A A2 n c m c' ls ys lo hi md md d md 0 _ HL.out (hL.next hbw.out) HY.out (hY.next hbw.out) (placeB_warm PL.out m0 (by omega)) YB.out M12.out ⟨Int.le_refl 0, by decide⟩ (.inr ⟨m0, rfl, rfl⟩)).mono ?_
      rintro e w5 ⟨rfl, hb5⟩
      rw [KA.out]
      have HB5 := Lib.hid (HBR.out.trans (hb5.mono HBR.out.size))
      clear hb5 p0 p1 p2
      cases ha : allowH ls lo hi ys d md
      · have NL : Hid (∀ j, 0 ≤ j → j ≤ md → allowH ls lo hi ys d j = false) := Lib.hid (fun j j0 j1 => by
          cases hj : allowH ls lo hi ys d j with
          | false => rfl
          | true => have := UP.out j md j0 j1 (by omega) hj; rw [ha] at this; exact absurd this (by decide))
        clear ha
        go_wp2_with fail
        exact ⟨⟨md, h, rfl, rfl, by omega, m2, h1, NL.out, HIGH.out, HB5.out⟩, by simp [intOf]; omega⟩
      · have NH : Hid (∀ j, 0 ≤ j → md - 1 < j → j ≤ 1000000 → allowH ls lo hi ys d j = true) := Lib.hid (fun j j0 j1 j2 => UP.out md j m0 (by omega) j2 ha)
        clear ha
        go_wp2_with fail
        exact ⟨⟨l, md - 1, rfl, rfl, l0, by omega, by omega, LOW.out, NH.out, HB5.out⟩, by simp [intOf]; omega⟩
    · have hlh : l = h := by omega
      subst hlh
      go_wp2_with fail
      go_ret
      exact ⟨l, rfl, ⟨l0, h1, LOW.out, HIGH.out⟩, hbw.out⟩
set_option maxRecDepth 100000 in
set_option maxHeartbeats 4000000 in
theorem needR_any (A A2 : Option Addr) (n c m c' : Nat) (ls : List Lay) (ys : List Yr) (lo hi d : Int) (w : World) (hl : ls.length = n) (hL : LaysAt w w.heap.size A ls) (hy : ys.length = m) (hY : YrsAt w w.heap.size A2 ys)
    (hr : yearsI ls lo hi ys = 0) :
    Calls Tryd.prog 39 #[.agg #[.slice A n c, .int .i64 lo, .int .i64 hi], .slice A2 m c', .int .i64 d] w fun e w' => ∃ y : Int, e = .returned (.int .i64 y) ∧ LeastAt (needH ls lo hi ys d) y ∧ Below w.heap.size w w' := by
  obtain ⟨v1, v2, v3⟩ := yearsI_zero hr
  have UP := Lib.hid (needH_up (d := d) v2 v3 v1)
  have PL := Lib.hid v2; have YB := Lib.hid v3
  have M12 : Hid (m ≤ 12) := Lib.hid (by omega)
  have HL := Lib.hid hl; have HY := Lib.hid hy
  have KN : Hid (∀ j, keptB ls lo hi ys d j m = needH ls lo hi ys d j) := Lib.hid (fun j => keptB_need hy)
  clear hl hy hr v1 v2 v3
  have HB1 := Lib.hid ((Below.refl w.heap.size w).alloc (Nat.le_refl _) (.cells #[.slice A n c, .int .i64 lo, .int .i64 hi] 26))
  have Z1 := Lib.hid (heap_alloc_new w (.cells #[.slice A n c, .int .i64 lo, .int .i64 hi] 26))
  have hneg : (-1 : Int) < 0 := by decide
  have HNEG := Lib.hid hneg
  clear hneg
  go_enter Tryd.func39, Tryd.ntmps39
  go_wp2_with fail
  refine (kept_any A A2 n c m c' ls ys lo hi lo hi d (-1) 1000000 _ HL.out (hL.next HB1.out) HY.out (hY.next HB1.out) PL.out YB.out M12.out ⟨by decide, by decide⟩ (.inl ⟨HNEG.out, rfl, rfl⟩)).mono ?_
  rintro e w4 ⟨rfl, hb4⟩
  rw [KN.out]
  have HB4 := Lib.hid (HB1.out.trans (hb4.mono HB1.out.size))
  have Z4 := Lib.hid ((hb4.block _ (Array.getElem?_eq_some_iff.1 Z1.out).1).trans Z1.out)
  clear hb4
  cases hmax : needH ls lo hi ys d 1000000
  · have HMX := Lib.hid hmax
    clear hmax
    go_wp2_with fail
    go_ret
    exact ⟨-1, rfl, .inl ⟨rfl, HMX.out⟩, HB4.out⟩
  have HMX := Lib.hid hmax
  clear hmax
  go_wp2_with fail
  go_loopw [7, 8] (fun a b wr => ∃ l h : Int, a = .int .i64 l ∧ b = .int .i64 h ∧ 0 ≤ l ∧ l ≤ h ∧ h ≤ 1000000 ∧ (∀ j, 0 ≤ j → j < l → needH ls lo hi ys d j = false) ∧ needH ls lo hi ys d h = true ∧ Below w4.heap.size w4 wr) (fun a b _ => (intOf b - intOf a).toNat)
  case atStart => exact ⟨0, 1000000, rfl, rfl, by decide, by decide, by decide, fun j h0 h1 => by omega, HMX.out, Below.refl _ _⟩
  case round =>
    obtain ⟨l, h, rfl, rfl, l0, lh, h1, hlow, hhigh, hbr⟩ := hrel
    have LOW := Lib.hid hlow; have HIGH := Lib.hid hhigh; have HBR := Lib.hid hbr
    have hz := (hbr.block _ (Array.getElem?_eq_some_iff.1 Z4.out).1).trans Z4.out
    have p0 := cell_of_row wr w.heap.size 0 _ 26 (0, 0) hz
    have p1 := cell_of_row wr w.heap.size 1 _ 26 (0, 0) hz
    have p2 := cell_of_row wr w.heap.size 2 _ 26 (0, 0) hz
    simp at p0 p1 p2
    clear hlow hhigh hbr hz
    have hbw : Hid (Below w.heap.size w wr) := Lib.hid (HB4.out.trans (HBR.out.mono HB4.out.size))
    by_cases hlt : l < h
    · obtain ⟨md, hmd⟩ : ∃ x, l + (h - l) / 2 = x := ⟨_, rfl⟩
      have m0 : 0 ≤ md := by omega
      have m1 : l ≤ md := by omega
      have m2 : md < h := by omega
      have s0 : 0 ≤ h - l := by omega
      have s1 : h - l ≤ 1000001 := by omega
      have MD := Lib.hid hmd
      clear hmd
      go_wp2_with fail
      simp only [MD.out]
      refine (kept_any A A2 n c m c' ls ys lo hi lo hi d (-1) md _ HL.out (hL.next hbw.out) HY.out (hY.next hbw.out) PL.out YB.out M12.out ⟨m0, by omega⟩ (.inl ⟨HNEG.out, rfl, rfl⟩)).mono ?_
      rintro e w5 ⟨rfl, hb5⟩
      rw [KN.out]
      have HB5 := Lib.hid (HBR.out.trans (hb5.mono HBR.out.size))
      clear hb5 p0 p1 p2
      cases ha : needH ls lo hi ys d md
      · have NL : Hid (∀ j, 0 ≤ j → j < md + 1 → needH ls lo hi ys d j = false) := Lib.hid (fun j j0 j1 => by
          cases hj : needH ls lo hi ys d j with
          | false => rfl
          | true => have := UP.out j md j0 (by omega) (by omega) hj; rw [ha] at this; exact absurd this (by decide))
        clear ha
        go_wp2_with fail
        exact ⟨⟨md + 1, h, rfl, rfl, by omega, by omega, h1, NL.out, HIGH.out, HB5.out⟩, by simp [intOf]; omega⟩
      · have NH := Lib.hid ha
        clear ha
        go_wp2_with fail
        exact ⟨⟨l, md, rfl, rfl, l0, m1, by omega, LOW.out, NH.out, HB5.out⟩, by simp [intOf]; omega⟩
    · have hlh : l = h := by omega
      subst hlh
      go_wp2_with fail
      go_ret
      exact ⟨l, rfl, .inr ⟨l0, h1, HIGH.out, LOW.out⟩, hbw.out⟩
end Go.Proofs.YtccekbdhffccdaaDoor
