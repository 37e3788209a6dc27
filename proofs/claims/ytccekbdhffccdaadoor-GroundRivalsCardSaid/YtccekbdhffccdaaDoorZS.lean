/- The statement on heat that may come and cold that is needed, whatever somebody proposes: the statement's function. -/
import Derived.Test.YtccekbdhffccdaaDoorZQ
import Derived.Test.YtccekbdhffccdaaDoorZC
namespace Go.Proofs.YtccekbdhffccdaaDoor
open Go.RowKit Go.Shelf

theorem cut_exists {hf : Int → Bool} (hu : Up hf) : ∃ x, CutAt hf x := by
  obtain ⟨b1, b2⟩ := leastF_spec hu
  obtain ⟨c1, c2⟩ := leastF_b hf
  generalize leastF hf = r at *
  cases hr : hf r with
  | true => exact ⟨r - 1, by omega, by omega, fun j j0 j1 => b1 j j0 (by omega), fun j j0 j1 j2 => hu r j c1 (by omega) j2 hr⟩
  | false =>
    have : r = 1000000 := by
      rcases b2 with h | h
      · exact h
      · rw [hr] at h; exact absurd h (by decide)
    subst this
    refine ⟨1000000, by decide, by decide, fun j j0 j1 => ?_, fun j _ j1 j2 => by omega⟩
    by_cases h : j < 1000000
    · exact b1 j j0 h
    · have : j = 1000000 := by omega
      subst this
      exact hr
theorem least_exists {hf : Int → Bool} (hu : Up hf) : ∃ y, LeastAt hf y := by
  obtain ⟨b1, b2⟩ := leastF_spec hu
  obtain ⟨c1, c2⟩ := leastF_b hf
  generalize leastF hf = r at *
  cases hr : hf r with
  | true => exact ⟨r, .inr ⟨c1, c2, hr, b1⟩⟩
  | false =>
    have : r = 1000000 := by
      rcases b2 with h | h
      · exact h
      · rw [hr] at h; exact absurd h (by decide)
    subst this
    exact ⟨-1, .inl ⟨rfl, hr⟩⟩
set_option maxRecDepth 100000 in
set_option maxHeartbeats 4000000 in
theorem deep_ok (A A2 : Option Addr) (n c m c' : Nat) (ls : List Lay) (ys : List Yr) (lo hi d : Int) (B : Bool) (w : World) (hl : ls.length = n) (hn : n ≤ maxLen) (hcap : n ≤ c) (hL : LaysAt w w.heap.size A ls)
    (hm : ys.length = m) (hm2 : m ≤ maxLen) (hY : YrsAt w w.heap.size A2 ys) (hd : depthI ls lo hi ys d = 0) (hB : decide (firstI d (runS ls (extT true ls lo hi ys) 0 m).th < m) = B) :
    Calls Tryd.prog 41 #[.agg #[.slice A n c, .int .i64 lo, .int .i64 hi], .slice A2 m c', .int .i64 d] w fun e w' => e = .returned (.tuple #[.bool B, .bool true]) ∧ Below w.heap.size w w' := by
  obtain ⟨a, ha⟩ : ∃ a, firstI d (runS ls (extT true ls lo hi ys) 0 m).th = a := ⟨_, rfl⟩
  obtain ⟨b, hb⟩ : ∃ b, firstI d (runS ls (extT false ls lo hi ys) 0 m).th = b := ⟨_, rfl⟩
  rw [ha] at hB
  have HA := Lib.hid ha; have HBB := Lib.hid hb; have HB := Lib.hid hB; have HD := Lib.hid hd
  have HL := Lib.hid hl; have HM := Lib.hid hm; have HN := Lib.hid hn; have HM2 := Lib.hid hm2; have HCAP := Lib.hid hcap
  clear ha hb hB hd hl hm hn hm2 hcap
  have HB1 := Lib.hid ((Below.refl w.heap.size w).alloc (Nat.le_refl _) (.cells #[.slice A n c, .int .i64 lo, .int .i64 hi] 26))
  cases B
  all_goals
    have hlt := HB.out
    simp only [decide_eq_true_eq, decide_eq_false_iff_not] at hlt
    go_enter Tryd.func41, Tryd.ntmps41
    go_wp2_with fail
    refine (exceeds_ok A A2 n c m c' ls ys lo hi d _ HL.out HN.out HCAP.out (hL.next HB1.out) HM.out HM2.out (hY.next HB1.out) HD.out a b HA.out HBB.out).mono ?_
    rintro e w2 ⟨rfl, hb2⟩
    have HB2 := Lib.hid (HB1.out.trans (hb2.mono HB1.out.size))
    clear hb2
    go_wp2_with fail
    go_ret2
    exact ⟨rfl, HB2.out⟩
set_option maxRecDepth 100000 in
set_option maxHeartbeats 4000000 in
theorem riv_unfair (A A2 AM AW AS AV AN : Option Addr) (n c m c' nm cm nw cw ns_ cs nv cv nn cn : Nat) (ls : List Lay) (ys : List Yr) (lo hi d he co : Int) (ms ws ss vs ns : List Int) (w : World) (ht : Tab w) (hl : ls.length = n) (hcap : n ≤ c) (hn : n ≤ maxLen) (hL : LaysAt w w.heap.size A ls) (hy : ys.length = m) (hm : m ≤ maxLen) (hY : YrsAt w w.heap.size A2 ys)
    (h1 : ms.length = nm) (q1 : nm ≤ cm) (g1 : nm ≤ maxLen) (i1 : IntsAt w w.heap.size AM ms) (h2 : ws.length = nw) (q2 : nw ≤ cw) (g2 : nw ≤ maxLen) (i2 : IntsAt w w.heap.size AW ws) (h3 : ss.length = ns_) (q3 : ns_ ≤ cs) (g3 : ns_ ≤ maxLen) (i3 : IntsAt w w.heap.size AS ss) (h4 : vs.length = nv) (q4 : nv ≤ cv) (g4 : nv ≤ maxLen) (i4 : IntsAt w w.heap.size AV vs) (h5 : ns.length = nn) (q5 : nn ≤ cn) (g5 : nn ≤ maxLen) (i5 : IntsAt w w.heap.size AN ns)
    (hf : fairB ls lo hi ys ms ws ss vs ns = false) :
    Calls Tryd.prog 11 #[.agg #[.slice A n c, .int .i64 lo, .int .i64 hi], .slice A2 m c', .int .i64 d, .int .i64 he, .int .i64 co, .agg #[.slice AM nm cm, .slice AW nw cw, .slice AS ns_ cs, .slice AV nv cv, .slice AN nn cn]] w fun e w' => e = .returned (.bool true) ∧ Below w.heap.size w w' := by
  have HT := Lib.hid ht
  have HL := Lib.hid hl; have HY := Lib.hid hy; have H1 := Lib.hid h1; have H2 := Lib.hid h2; have H3 := Lib.hid h3; have H4 := Lib.hid h4; have H5 := Lib.hid h5
  have HN := Lib.hid hn; have HM := Lib.hid hm; have HCAP := Lib.hid hcap
  have G1 := Lib.hid g1; have G2 := Lib.hid g2; have G3 := Lib.hid g3; have G4 := Lib.hid g4; have G5 := Lib.hid g5
  have Q1 := Lib.hid q1; have Q2 := Lib.hid q2; have Q3 := Lib.hid q3; have Q4 := Lib.hid q4; have Q5 := Lib.hid q5
  clear hl hy h1 h2 h3 h4 h5 hn hm g1 g2 g3 g4 g5 ht hcap q1 q2 q3 q4 q5
  have hB1 : Below w.heap.size w ((w.alloc (.cells #[.slice A n c, .int .i64 lo, .int .i64 hi] 26)).alloc (.cells #[.slice AM nm cm, .slice AW nw cw, .slice AS ns_ cs, .slice AV nv cv, .slice AN nn cn] 41)) := ((Below.refl _ _).alloc (Nat.le_refl _) _).alloc (by simp) _
  have z1 : ((w.alloc (.cells #[.slice A n c, .int .i64 lo, .int .i64 hi] 26)).alloc (.cells #[.slice AM nm cm, .slice AW nw cw, .slice AS ns_ cs, .slice AV nv cv, .slice AN nn cn] 41)).heap[w.heap.size]? = some (.cells #[.slice A n c, .int .i64 lo, .int .i64 hi] 26 (0, 0)) := (Below.heap_alloc _ _ _ (by simp)).trans (heap_alloc_new w _)
  have y0 := heap_alloc_new (w.alloc (.cells #[.slice A n c, .int .i64 lo, .int .i64 hi] 26)) (.cells #[.slice AM nm cm, .slice AW nw cw, .slice AS ns_ cs, .slice AV nv cv, .slice AN nn cn] 41)
  simp only [World.size_alloc] at y0
  have HB1 := Lib.hid hB1
  have Z1 := Lib.hid z1
  have Y1 := Lib.hid y0
  clear hB1 z1 y0
  have HF := Lib.hid hf; clear hf
  go_enter Tryd.func11, Tryd.ntmps11
  go_wp2_with fail
  refine (fair_any A A2 AM AW AS AV AN n c m c' nm cm nw cw ns_ cs nv cv nn cn ls ys lo hi ms ws ss vs ns _ HL.out HN.out (hL.next HB1.out) HY.out HM.out (hY.next HB1.out) H1.out G1.out (i1.next HB1.out) H2.out G2.out (i2.next HB1.out) H3.out G3.out (i3.next HB1.out) H4.out G4.out (i4.next HB1.out) H5.out G5.out (i5.next HB1.out)).mono ?_
  rintro e w2 ⟨rfl, hb2⟩
  rw [HF.out]
  have HB2 := Lib.hid (HB1.out.trans (hb2.mono HB1.out.size))
  clear hb2
  go_wp2_with fail
  refine (known_any _ (HT.out.next HB2.out)).mono ?_
  rintro e w3 ⟨rfl, hb3⟩
  have HB3 := Lib.hid (HB2.out.trans (hb3.mono HB2.out.size))
  clear hb3
  go_wp2_with fail
  go_ret
  exact ⟨rfl, HB3.out⟩
set_option maxRecDepth 100000 in
set_option maxHeartbeats 4000000 in
theorem riv_out (A A2 AM AW AS AV AN : Option Addr) (n c m c' nm cm nw cw ns_ cs nv cv nn cn : Nat) (ls : List Lay) (ys : List Yr) (lo hi d he co : Int) (ms ws ss vs ns : List Int) (w : World) (ht : Tab w) (hl : ls.length = n) (hcap : n ≤ c) (hn : n ≤ maxLen) (hL : LaysAt w w.heap.size A ls) (hy : ys.length = m) (hm : m ≤ maxLen) (hY : YrsAt w w.heap.size A2 ys)
    (h1 : ms.length = nm) (q1 : nm ≤ cm) (g1 : nm ≤ maxLen) (i1 : IntsAt w w.heap.size AM ms) (h2 : ws.length = nw) (q2 : nw ≤ cw) (g2 : nw ≤ maxLen) (i2 : IntsAt w w.heap.size AW ws) (h3 : ss.length = ns_) (q3 : ns_ ≤ cs) (g3 : ns_ ≤ maxLen) (i3 : IntsAt w w.heap.size AS ss) (h4 : vs.length = nv) (q4 : nv ≤ cv) (g4 : nv ≤ maxLen) (i4 : IntsAt w w.heap.size AV vs) (h5 : ns.length = nn) (q5 : nn ≤ cn) (g5 : nn ≤ maxLen) (i5 : IntsAt w w.heap.size AN ns)
    (hf : fairB ls lo hi ys ms ws ss vs ns = true) (ho : d < 0 ∨ (¬ d < 0 ∧ 2000000 < d) ∨ (¬ d < 0 ∧ ¬ 2000000 < d ∧ he < 0) ∨ (¬ d < 0 ∧ ¬ 2000000 < d ∧ ¬ he < 0 ∧ 1000000 < he) ∨ (¬ d < 0 ∧ ¬ 2000000 < d ∧ ¬ he < 0 ∧ ¬ 1000000 < he ∧ co < 0) ∨ (¬ d < 0 ∧ ¬ 2000000 < d ∧ ¬ he < 0 ∧ ¬ 1000000 < he ∧ ¬ co < 0 ∧ 1000000 < co)) :
    Calls Tryd.prog 11 #[.agg #[.slice A n c, .int .i64 lo, .int .i64 hi], .slice A2 m c', .int .i64 d, .int .i64 he, .int .i64 co, .agg #[.slice AM nm cm, .slice AW nw cw, .slice AS ns_ cs, .slice AV nv cv, .slice AN nn cn]] w fun e w' => e = .returned (.bool true) ∧ Below w.heap.size w w' := by
  have HT := Lib.hid ht
  have HL := Lib.hid hl; have HY := Lib.hid hy; have H1 := Lib.hid h1; have H2 := Lib.hid h2; have H3 := Lib.hid h3; have H4 := Lib.hid h4; have H5 := Lib.hid h5
  have HN := Lib.hid hn; have HM := Lib.hid hm; have HCAP := Lib.hid hcap
  have G1 := Lib.hid g1; have G2 := Lib.hid g2; have G3 := Lib.hid g3; have G4 := Lib.hid g4; have G5 := Lib.hid g5
  have Q1 := Lib.hid q1; have Q2 := Lib.hid q2; have Q3 := Lib.hid q3; have Q4 := Lib.hid q4; have Q5 := Lib.hid q5
  clear hl hy h1 h2 h3 h4 h5 hn hm g1 g2 g3 g4 g5 ht hcap q1 q2 q3 q4 q5
  have hB1 : Below w.heap.size w ((w.alloc (.cells #[.slice A n c, .int .i64 lo, .int .i64 hi] 26)).alloc (.cells #[.slice AM nm cm, .slice AW nw cw, .slice AS ns_ cs, .slice AV nv cv, .slice AN nn cn] 41)) := ((Below.refl _ _).alloc (Nat.le_refl _) _).alloc (by simp) _
  have z1 : ((w.alloc (.cells #[.slice A n c, .int .i64 lo, .int .i64 hi] 26)).alloc (.cells #[.slice AM nm cm, .slice AW nw cw, .slice AS ns_ cs, .slice AV nv cv, .slice AN nn cn] 41)).heap[w.heap.size]? = some (.cells #[.slice A n c, .int .i64 lo, .int .i64 hi] 26 (0, 0)) := (Below.heap_alloc _ _ _ (by simp)).trans (heap_alloc_new w _)
  have y0 := heap_alloc_new (w.alloc (.cells #[.slice A n c, .int .i64 lo, .int .i64 hi] 26)) (.cells #[.slice AM nm cm, .slice AW nw cw, .slice AS ns_ cs, .slice AV nv cv, .slice AN nn cn] 41)
  simp only [World.size_alloc] at y0
  have HB1 := Lib.hid hB1
  have Z1 := Lib.hid z1
  have Y1 := Lib.hid y0
  clear hB1 z1 y0
  have HF := Lib.hid hf; clear hf
  rcases ho with o1 | ⟨o1, o2⟩ | ⟨o1, o2, o3⟩ | ⟨o1, o2, o3, o4⟩ | ⟨o1, o2, o3, o4, o5⟩ | ⟨o1, o2, o3, o4, o5, o6⟩
  all_goals
    go_enter Tryd.func11, Tryd.ntmps11
    go_wp2_with fail
    refine (fair_any A A2 AM AW AS AV AN n c m c' nm cm nw cw ns_ cs nv cv nn cn ls ys lo hi ms ws ss vs ns _ HL.out HN.out (hL.next HB1.out) HY.out HM.out (hY.next HB1.out) H1.out G1.out (i1.next HB1.out) H2.out G2.out (i2.next HB1.out) H3.out G3.out (i3.next HB1.out) H4.out G4.out (i4.next HB1.out) H5.out G5.out (i5.next HB1.out)).mono ?_
    rintro e w2 ⟨rfl, hb2⟩
    rw [HF.out]
    have HB2 := Lib.hid (HB1.out.trans (hb2.mono HB1.out.size))
    clear hb2
    go_wp2_with fail
    refine (known_any _ (HT.out.next HB2.out)).mono ?_
    rintro e w3 ⟨rfl, hb3⟩
    have HB3 := Lib.hid (HB2.out.trans (hb3.mono HB2.out.size))
    clear hb3
    go_wp2_with fail
    go_ret
    exact ⟨rfl, HB3.out⟩
def rvCv (PV Y : Value) (pb : Nat) (d co : Int) (fw m : Nat) (WB : Bool) : Tmp → Value
  | 1 => Y
  | 2 => .int .i64 d
  | 4 => .int .i64 co
  | 6 => .pointer (some ⟨pb, 0, none⟩)
  | 122 => PV
  | 123 => PV
  | 124 => Y
  | 126 => .int .i64 co
  | 128 => .int .i64 d
  | 129 => .int .i64 (fw : Int)
  | 130 => Y
  | 131 => .int .i64 (m : Int)
  | _ => .bool WB
set_option maxRecDepth 100000 in
set_option maxHeartbeats 4000000 in
theorem riv_good (A A2 AM AW AS AV AN : Option Addr) (n c m c' nm cm nw cw ns_ cs nv cv nn cn : Nat) (ls : List Lay) (ys : List Yr) (lo hi d he co : Int) (ms ws ss vs ns : List Int) (w : World) (ht : Tab w) (hl : ls.length = n) (hcap : n ≤ c) (hn : n ≤ maxLen) (hL : LaysAt w w.heap.size A ls) (hy : ys.length = m) (hm : m ≤ maxLen) (hY : YrsAt w w.heap.size A2 ys)
    (h1 : ms.length = nm) (q1 : nm ≤ cm) (g1 : nm ≤ maxLen) (i1 : IntsAt w w.heap.size AM ms) (h2 : ws.length = nw) (q2 : nw ≤ cw) (g2 : nw ≤ maxLen) (i2 : IntsAt w w.heap.size AW ws) (h3 : ss.length = ns_) (q3 : ns_ ≤ cs) (g3 : ns_ ≤ maxLen) (i3 : IntsAt w w.heap.size AS ss) (h4 : vs.length = nv) (q4 : nv ≤ cv) (g4 : nv ≤ maxLen) (i4 : IntsAt w w.heap.size AV vs) (h5 : ns.length = nn) (q5 : nn ≤ cn) (g5 : nn ≤ maxLen) (i5 : IntsAt w w.heap.size AN ns)
    (hf : fairB ls lo hi ys ms ws ss vs ns = true) (o1 : ¬ d < 0) (o2 : ¬ 2000000 < d) (o3 : ¬ he < 0) (o4 : ¬ 1000000 < he) (o5 : ¬ co < 0) (o6 : ¬ 1000000 < co) :
    Calls Tryd.prog 11 #[.agg #[.slice A n c, .int .i64 lo, .int .i64 hi], .slice A2 m c', .int .i64 d, .int .i64 he, .int .i64 co, .agg #[.slice AM nm cm, .slice AW nw cw, .slice AS ns_ cs, .slice AV nv cv, .slice AN nn cn]] w fun e w' => e = .returned (.bool true) ∧ Below w.heap.size w w' := by
  obtain ⟨hyr, hpos⟩ := fair_spec hf
  obtain ⟨v1, v2, v3⟩ := yearsI_zero hyr
  obtain ⟨⟨v4, v5⟩, _, v6⟩ := placeB_spec v2
  have hT := possT_ok v2 v3 hpos
  have hE := extT_ok true v2 v3
  have hdep : depthI ls lo hi ys d = 0 := by unfold depthI; rw [if_pos hyr, if_pos ⟨by omega, by omega⟩]
  have hyh : yearsI ls he he ys = 0 := by
    have hp := placeB_warm (j := he) v2 (by omega) (by omega)
    exact yearsI_fine v1 hp v3
  have hdeh : depthI ls he he ys d = 0 := by unfold depthI; rw [if_pos hyh, if_pos ⟨by omega, by omega⟩]
  obtain ⟨x, hx⟩ := cut_exists (allowH_up (d := d) v2 v3 v1)
  obtain ⟨y, hy_⟩ := least_exists (needH_up (d := d) v2 v3 v1)
  have ha := allowI_cut hdep (allowH_up (d := d) v2 v3 v1) hx
  have hnd := needI_least hdep (needH_up (d := d) v2 v3 v1) hy_
  obtain ⟨⟨p, q⟩, hpq⟩ : ∃ z, allowI ls lo hi ys d = z := ⟨_, rfl⟩
  obtain ⟨⟨p2_, q2_⟩, hpq2⟩ : ∃ z, needI ls lo hi ys d = z := ⟨_, rfl⟩
  obtain ⟨CB, hCB⟩ : ∃ z, allowH ls lo hi ys d he = z := ⟨_, rfl⟩
  have hCB2 : decide (firstI d (runS ls (extT true ls he he ys) 0 m).th < m) = CB := by rw [← hCB, ← hy]; rfl
  have c7 : (q = 5 ∧ CB = true) ∨ (q = 0 ∧ CB = true ∧ p < he) ∨ (q = 0 ∧ CB = false ∧ ¬ p < he) := by
    rw [hpq] at ha
    obtain ⟨x0, x1, a1, a2⟩ := hx
    by_cases hx0 : x < 0
    · rw [if_pos hx0] at ha
      obtain ⟨rfl, rfl⟩ := Prod.mk.inj ha
      exact .inl ⟨rfl, by rw [← hCB]; exact a2 he (by omega) (by omega) (by omega)⟩
    · rw [if_neg hx0] at ha
      obtain ⟨rfl, rfl⟩ := Prod.mk.inj ha
      by_cases h : p < he
      · exact .inr (.inl ⟨rfl, by rw [← hCB]; exact a2 he (by omega) h (by omega), h⟩)
      · exact .inr (.inr ⟨rfl, by rw [← hCB]; exact a1 he (by omega) (by omega), h⟩)
  have hlen1 := (runS_len ls ⟨ms, ws, ss, vs, ns⟩ co m).1
  have hlen2 := (runS_len ls (extT true ls lo hi ys) co m).1
  have hown : firstI d (runS ls (extT true ls lo hi ys) co m).th ≤ firstI d (runS ls ⟨ms, ws, ss, vs, ns⟩ co m).th := by
    have hmono := runS_mono (mo := co) (mo' := co) rfl rfl v4 (fun z hz => (v6 z hz).1.1) hT hE v1 ⟨by omega, by omega⟩ ⟨by omega, by omega⟩ (Int.le_refl _) (warmer_warm hpos) m (by rw [hy]; exact Nat.le_refl _)
    exact firstI_mono d _ _ (hlen1.trans hlen2.symm) (fun k hk => (hmono.2.2 k (by rw [hlen1] at hk; exact hk)).1)
  obtain ⟨fo, hfo⟩ : ∃ z, firstI d (runS ls ⟨ms, ws, ss, vs, ns⟩ co m).th = z := ⟨_, rfl⟩
  obtain ⟨fw, hfw⟩ : ∃ z, firstI d (runS ls (extT true ls lo hi ys) co m).th = z := ⟨_, rfl⟩
  have hneed : needH ls lo hi ys d co = !decide (fw < m) := by unfold needH; rw [hy, hfw]
  have c15 : (q2_ = 5 ∧ fw < m) ∨ (q2_ = 0 ∧ co < p2_ ∧ fw < m) ∨ (q2_ = 0 ∧ ¬ co < p2_ ∧ ¬ fw < m ∧ ¬ fo < m) := by
    rw [hpq2] at hnd
    rcases hy_ with ⟨rfl, h1_⟩ | ⟨y0, y1, h1_, h2_⟩
    · rw [if_pos (by decide)] at hnd
      obtain ⟨rfl, rfl⟩ := Prod.mk.inj hnd
      refine .inl ⟨rfl, ?_⟩
      by_cases h : fw < m
      · exact h
      · exfalso
        rw [decide_eq_false h] at hneed
        have := needH_up (d := d) v2 v3 v1 co 1000000 (by omega) (by omega) (by decide) hneed
        rw [h1_] at this
        exact absurd this (by decide)
    · rw [if_neg (by omega)] at hnd
      obtain ⟨rfl, rfl⟩ := Prod.mk.inj hnd
      by_cases h : co < p2_
      · refine .inr (.inl ⟨rfl, h, ?_⟩)
        have := h2_ co (by omega) h
        rw [hneed] at this
        simpa using this
      · have h3 := needH_up (d := d) v2 v3 v1 p2_ co y0 (by omega) (by omega) h1_
        rw [hneed] at h3
        have h4 : ¬ fw < m := by simpa using h3
        exact .inr (.inr ⟨rfl, h, h4, by rw [hfo, hfw] at hown; omega⟩)
  have N1 : Hid (1 ≤ n) := Lib.hid (by omega)
  have N6 : Hid (n ≤ 6) := Lib.hid (by omega)
  have M12 : Hid (m ≤ 12) := Lib.hid (by omega)
  have TT_ : Hid (∀ z ∈ ls, 1 ≤ z.t ∧ z.t ≤ 20000) := Lib.hid (fun z hz => (v6 z hz).1)
  rw [hl, hy] at hT hE
  obtain ⟨T, hTT⟩ : ∃ T : Tru, (⟨ms, ws, ss, vs, ns⟩ : Tru) = T := ⟨_, rfl⟩
  obtain ⟨T1, e1⟩ : ∃ T, extT true ls lo hi ys = T := ⟨_, rfl⟩
  rw [hTT] at hT hfo hlen1
  rw [e1] at hE hfw hlen2
  obtain ⟨S, f0⟩ : ∃ S, runS ls T co m = S := ⟨_, rfl⟩
  obtain ⟨S1, f1⟩ : ∃ S, runS ls T1 co m = S := ⟨_, rfl⟩
  rw [f0] at hfo hlen1
  rw [f1] at hfw hlen2
  have HTT := Lib.hid hTT; have E1 := Lib.hid e1; have F0 := Lib.hid f0; have F1 := Lib.hid f1; have FO := Lib.hid hfo; have FW := Lib.hid hfw; have TK := Lib.hid hT; have TK1 := Lib.hid hE; have L0 := Lib.hid hlen1; have L1 := Lib.hid hlen2
  have HPQ := Lib.hid hpq; have HPQ2 := Lib.hid hpq2; have C7 := Lib.hid c7; have C15 := Lib.hid c15; have HCB := Lib.hid hCB2; have HDH := Lib.hid hdeh
  have MO : Hid (0 ≤ co ∧ co ≤ 1000000) := Lib.hid ⟨by omega, by omega⟩
  clear hyr hpos v1 v2 v3 v4 v5 v6 hT hE hdep hyh hdeh hx hy_ ha hnd hpq hpq2 hCB hCB2 c7 hown hneed c15 hTT e1 f0 f1 hfo hfw hlen1 hlen2
  have HT := Lib.hid ht
  have HL := Lib.hid hl; have HY := Lib.hid hy; have H1 := Lib.hid h1; have H2 := Lib.hid h2; have H3 := Lib.hid h3; have H4 := Lib.hid h4; have H5 := Lib.hid h5
  have HN := Lib.hid hn; have HM := Lib.hid hm; have HCAP := Lib.hid hcap
  have G1 := Lib.hid g1; have G2 := Lib.hid g2; have G3 := Lib.hid g3; have G4 := Lib.hid g4; have G5 := Lib.hid g5
  have Q1 := Lib.hid q1; have Q2 := Lib.hid q2; have Q3 := Lib.hid q3; have Q4 := Lib.hid q4; have Q5 := Lib.hid q5
  clear hl hy h1 h2 h3 h4 h5 hn hm g1 g2 g3 g4 g5 ht hcap q1 q2 q3 q4 q5
  have hB1 : Below w.heap.size w ((w.alloc (.cells #[.slice A n c, .int .i64 lo, .int .i64 hi] 26)).alloc (.cells #[.slice AM nm cm, .slice AW nw cw, .slice AS ns_ cs, .slice AV nv cv, .slice AN nn cn] 41)) := ((Below.refl _ _).alloc (Nat.le_refl _) _).alloc (by simp) _
  have z1 : ((w.alloc (.cells #[.slice A n c, .int .i64 lo, .int .i64 hi] 26)).alloc (.cells #[.slice AM nm cm, .slice AW nw cw, .slice AS ns_ cs, .slice AV nv cv, .slice AN nn cn] 41)).heap[w.heap.size]? = some (.cells #[.slice A n c, .int .i64 lo, .int .i64 hi] 26 (0, 0)) := (Below.heap_alloc _ _ _ (by simp)).trans (heap_alloc_new w _)
  have y0 := heap_alloc_new (w.alloc (.cells #[.slice A n c, .int .i64 lo, .int .i64 hi] 26)) (.cells #[.slice AM nm cm, .slice AW nw cw, .slice AS ns_ cs, .slice AV nv cv, .slice AN nn cn] 41)
  simp only [World.size_alloc] at y0
  have HB1 := Lib.hid hB1
  have Z1 := Lib.hid z1
  have Y1 := Lib.hid y0
  clear hB1 z1 y0
  have HF := Lib.hid hf; clear hf
  go_enter Tryd.func11, Tryd.ntmps11
  go_wp2_with fail
  refine (fair_any A A2 AM AW AS AV AN n c m c' nm cm nw cw ns_ cs nv cv nn cn ls ys lo hi ms ws ss vs ns _ HL.out HN.out (hL.next HB1.out) HY.out HM.out (hY.next HB1.out) H1.out G1.out (i1.next HB1.out) H2.out G2.out (i2.next HB1.out) H3.out G3.out (i3.next HB1.out) H4.out G4.out (i4.next HB1.out) H5.out G5.out (i5.next HB1.out)).mono ?_
  rintro e w2 ⟨rfl, hb2⟩
  rw [HF.out]
  have HB_w1 := HB1; have Z_w1 := Z1; have Y_w1 := Y1
  have HB_w2 := Lib.hid (HB_w1.out.trans (hb2.mono HB_w1.out.size))
  have Z_w2 := Lib.hid ((hb2.block _ (Array.getElem?_eq_some_iff.1 Z_w1.out).1).trans Z_w1.out)
  have Y_w2 := Lib.hid ((hb2.block _ (Array.getElem?_eq_some_iff.1 Y_w1.out).1).trans Y_w1.out)
  clear hb2
  have p0 := cell_of_row w2 w.heap.size 0 _ 26 (0, 0) Z_w2.out
  have p1 := cell_of_row w2 w.heap.size 1 _ 26 (0, 0) Z_w2.out
  have p2 := cell_of_row w2 w.heap.size 2 _ 26 (0, 0) Z_w2.out
  simp at p0 p1 p2
  go_wp2_with fail
  refine (allow_ok p q A A2 n c m c' ls ys lo hi d _ HL.out HN.out HCAP.out (hL.next HB_w2.out) HY.out HM.out (hY.next HB_w2.out) HPQ.out).mono ?_
  rintro e w3 ⟨rfl, hb3⟩
  have HB_w3 := Lib.hid (HB_w2.out.trans (hb3.mono HB_w2.out.size))
  have Z_w3 := Lib.hid ((hb3.block _ (Array.getElem?_eq_some_iff.1 Z_w2.out).1).trans Z_w2.out)
  have Y_w3 := Lib.hid ((hb3.block _ (Array.getElem?_eq_some_iff.1 Y_w2.out).1).trans Y_w2.out)
  clear hb3 p0 p1 p2
  have p0 := cell_of_row w3 w.heap.size 0 _ 26 (0, 0) Z_w3.out
  have p1 := cell_of_row w3 w.heap.size 1 _ 26 (0, 0) Z_w3.out
  have p2 := cell_of_row w3 w.heap.size 2 _ 26 (0, 0) Z_w3.out
  simp at p0 p1 p2
  go_wp2_with fail
  obtain ⟨w4, hw4⟩ : ∃ z, w3.alloc (.cells #[.slice A n c, .int .i64 lo, .int .i64 hi] 26) = z := ⟨_, rfl⟩
  rw [hw4]
  have hx4 : w4.heap[w3.heap.size]? = some (.cells #[.slice A n c, .int .i64 lo, .int .i64 hi] 26 (0, 0)) := by rw [← hw4]; exact heap_alloc_new w3 _
  have hb4 : Below w3.heap.size w3 w4 := by rw [← hw4]; exact (Below.refl _ _).alloc (Nat.le_refl _) _
  have X4 := Lib.hid hx4
  have hlt1 : w.heap.size + 1 < w3.heap.size := (Array.getElem?_eq_some_iff.1 Y_w3.out).1
  have HB_w4 := Lib.hid (HB_w3.out.trans (hb4.mono HB_w3.out.size))
  have Z_w4 := Lib.hid ((hb4.block _ (Array.getElem?_eq_some_iff.1 Z_w3.out).1).trans Z_w3.out)
  have Y_w4 := Lib.hid ((hb4.block _ (Array.getElem?_eq_some_iff.1 Y_w3.out).1).trans Y_w3.out)
  clear hw4 hx4 hb4 p0 p1 p2
  refine (span_any he he _).mono ?_
  rintro e w5 ⟨rfl, hb5⟩
  have X5 := Lib.hid ((hb5.block _ (Array.getElem?_eq_some_iff.1 X4.out).1).trans X4.out)
  have HB_w5 := Lib.hid (HB_w4.out.trans (hb5.mono HB_w4.out.size))
  have Z_w5 := Lib.hid ((hb5.block _ (Array.getElem?_eq_some_iff.1 Z_w4.out).1).trans Z_w4.out)
  have Y_w5 := Lib.hid ((hb5.block _ (Array.getElem?_eq_some_iff.1 Y_w4.out).1).trans Y_w4.out)
  clear hb5
  have c0_ := cell_of_row w5 w3.heap.size 0 _ 26 (0, 0) X5.out
  have c1_ := cell_of_row w5 w3.heap.size 1 _ 26 (0, 0) X5.out
  have c2_ := cell_of_row w5 w3.heap.size 2 _ 26 (0, 0) X5.out
  simp at c0_ c1_ c2_
  have z1_ : w5.frozen? ⟨w3.heap.size, 1, none⟩ = false := by simp [World.frozen?, X5.out]
  have z2_ : w5.frozen? ⟨w3.heap.size, 2, none⟩ = false := by simp [World.frozen?, X5.out]
  have hx6 : ((w5.setCell ⟨w3.heap.size, 1, none⟩ (.int .i64 he)).setCell ⟨w3.heap.size, 2, none⟩ (.int .i64 he)).heap[w3.heap.size]? = some (.cells #[.slice A n c, .int .i64 he, .int .i64 he] 26 (0, 0)) := blkx_set (blkx_set X5.out 1 _) 2 _
  have X6 := Lib.hid hx6
  have Z_w6 := Lib.hid (keep_two (g := w3.heap.size) (i := 1) (j := 2) (x := .int .i64 he) (y := .int .i64 he) Z_w5.out (by omega))
  have Y_w6 := Lib.hid (keep_two (g := w3.heap.size) (i := 1) (j := 2) (x := .int .i64 he) (y := .int .i64 he) Y_w5.out (by omega))
  have HB_w6 := Lib.hid ((HB_w5.out.setCell (p := ⟨w3.heap.size, 1, none⟩) (by show _ ≤ w3.heap.size; omega) (.int .i64 he)).setCell (p := ⟨w3.heap.size, 2, none⟩) (by show _ ≤ w3.heap.size; omega) (.int .i64 he))
  clear hx6
  go_wp2_with fail
  clear c0_ c1_ c2_ z1_ z2_ X5
  generalize (w5.setCell ⟨w3.heap.size, 1, none⟩ (Value.int .i64 he)).setCell ⟨w3.heap.size, 2, none⟩ (Value.int .i64 he) = w6 at X6 Z_w6 Y_w6 HB_w6 ⊢
  refine (deep_ok A A2 n c m c' ls ys he he d CB _ HL.out HN.out HCAP.out (hL.next HB_w6.out) HY.out HM.out (hY.next HB_w6.out) HDH.out HCB.out).mono ?_
  rintro e w7 ⟨rfl, hb7⟩
  have HB_w7 := Lib.hid (HB_w6.out.trans (hb7.mono HB_w6.out.size))
  have Z_w7 := Lib.hid ((hb7.block _ (Array.getElem?_eq_some_iff.1 Z_w6.out).1).trans Z_w6.out)
  have Y_w7 := Lib.hid ((hb7.block _ (Array.getElem?_eq_some_iff.1 Y_w6.out).1).trans Y_w6.out)
  clear hb7 X6 X4 hlt1 Z_w6 Y_w6 Z_w5 Y_w5 Z_w4 Y_w4 Z_w3 Y_w3 Z_w2 Y_w2 Z_w1 Y_w1 HB_w6 HB_w5 HB_w4 HB_w3 HB_w2 HB_w1 Z1 Y1 HB1
  have p0 := cell_of_row w7 w.heap.size 0 _ 26 (0, 0) Z_w7.out
  have p1 := cell_of_row w7 w.heap.size 1 _ 26 (0, 0) Z_w7.out
  have p2 := cell_of_row w7 w.heap.size 2 _ 26 (0, 0) Z_w7.out
  simp at p0 p1 p2
  rcases C7.out with ⟨rfl, rfl⟩ | ⟨rfl, rfl, hph⟩ | ⟨rfl, rfl, hph⟩
  all_goals
    go_wp2_with fail
    refine (need_ok p2_ q2_ A A2 n c m c' ls ys lo hi d _ HL.out HN.out HCAP.out (hL.next HB_w7.out) HY.out HM.out (hY.next HB_w7.out) HPQ2.out).mono ?_
    rintro e w8 ⟨rfl, hb8⟩
    have HB_w8 := Lib.hid (HB_w7.out.trans (hb8.mono HB_w7.out.size))
    have Z_w8 := Lib.hid ((hb8.block _ (Array.getElem?_eq_some_iff.1 Z_w7.out).1).trans Z_w7.out)
    have Y_w8 := Lib.hid ((hb8.block _ (Array.getElem?_eq_some_iff.1 Y_w7.out).1).trans Y_w7.out)
    clear hb8 p0 p1 p2
    have hTr : TruAt w8 (.agg #[.slice AM nm cm, .slice AW nw cw, .slice AS ns_ cs, .slice AV nv cv, .slice AN nn cn]) T := by
      rw [← HTT.out]
      exact ⟨_, _, _, _, _, rfl, sl_of H1.out Q1.out (i1.next HB_w8.out), sl_of H2.out Q2.out (i2.next HB_w8.out), sl_of H3.out Q3.out (i3.next HB_w8.out), sl_of H4.out Q4.out (i4.next HB_w8.out), sl_of H5.out Q5.out (i5.next HB_w8.out)⟩
    have HTR := Lib.hid hTr
    clear hTr
    have p0 := cell_of_row w8 w.heap.size 0 _ 26 (0, 0) Z_w8.out
    have p1 := cell_of_row w8 w.heap.size 1 _ 26 (0, 0) Z_w8.out
    have p2 := cell_of_row w8 w.heap.size 2 _ 26 (0, 0) Z_w8.out
    have t0 := cell_of_row w8 (w.heap.size + 1) 0 _ 41 (0, 0) Y_w8.out
    have t1 := cell_of_row w8 (w.heap.size + 1) 1 _ 41 (0, 0) Y_w8.out
    have t2 := cell_of_row w8 (w.heap.size + 1) 2 _ 41 (0, 0) Y_w8.out
    have t3 := cell_of_row w8 (w.heap.size + 1) 3 _ 41 (0, 0) Y_w8.out
    have t4 := cell_of_row w8 (w.heap.size + 1) 4 _ 41 (0, 0) Y_w8.out
    simp at p0 p1 p2 t0 t1 t2 t3 t4
    rcases C15.out with ⟨rfl, hfw⟩ | ⟨rfl, hco, hfw⟩ | ⟨rfl, hco, hfw, hfo⟩
    · go_wp2_with fail
      refine (followT_any A n c m ls T _ lo hi co _ HL.out N1.out N6.out (hL.next HB_w8.out) TT_.out TK.out M12.out MO.out HTR.out).mono ?_
      rintro e w9 ⟨v, rfl, hb9, hv9⟩
      rw [F0.out] at hv9
      have HB_w9 := Lib.hid (HB_w8.out.trans (hb9.mono HB_w8.out.size))
      have Z_w9 := Lib.hid ((hb9.block _ (Array.getElem?_eq_some_iff.1 Z_w8.out).1).trans Z_w8.out)
      have Y_w9 := Lib.hid ((hb9.block _ (Array.getElem?_eq_some_iff.1 Y_w8.out).1).trans Y_w8.out)
      have V9 := Lib.hid hv9
      clear hb9 hv9 p0 p1 p2 t0 t1 t2 t3 t4
      go_wp2_with fail
      refine (firstR_any v m S d _ L0.out M12.out V9.out).mono ?_
      rintro e w4 ⟨rfl, hb4⟩
      rw [FO.out]
      have HB_w4 := Lib.hid (HB_w9.out.trans (hb4.mono HB_w9.out.size))
      have Z_w4 := Lib.hid ((hb4.block _ (Array.getElem?_eq_some_iff.1 Z_w9.out).1).trans Z_w9.out)
      have Y_w4 := Lib.hid ((hb4.block _ (Array.getElem?_eq_some_iff.1 Y_w9.out).1).trans Y_w9.out)
      clear hb4
      have ltp := (Array.getElem?_eq_some_iff.1 Z_w4.out).1
      go_wp2_with fail
      refine rel_region [1, 2, 4, 6] [(125, 3), (127, 5)] (rvCv (.agg #[.slice A n c, .int .i64 lo, .int .i64 hi]) (.slice A2 m c') w.heap.size d co fw m true) (keF m T1 S1) (by kernel_rfl) (by kernel_rfl) (by kernel_rfl) (by kernel_rfl) (by kernel_rfl) (by kernel_rfl) ?_ (keF_keep m T1 S1) ?_ ?_
      · intro t ht
        simp only [List.mem_cons, List.not_mem_nil, or_false] at ht
        rcases ht with rfl | rfl | rfl | rfl <;> rfl
      · refine allOps_array ?_
        have hp : ∀ u : KeptW w4, u.w.cell? ⟨w.heap.size, 0, none⟩ = some (.slice A n c) ∧ u.w.cell? ⟨w.heap.size, 1, none⟩ = some (.int .i64 lo) ∧ u.w.cell? ⟨w.heap.size, 2, none⟩ = some (.int .i64 hi) := fun u => by
          have hz := (u.h.block _ ltp).trans Z_w4.out
          have q0 := cell_of_row u.w w.heap.size 0 _ 26 (0, 0) hz
          have q1 := cell_of_row u.w w.heap.size 1 _ 26 (0, 0) hz
          have q2 := cell_of_row u.w w.heap.size 2 _ 26 (0, 0) hz
          simp at q0 q1 q2
          exact ⟨q0, q1, q2⟩
        have hbu : ∀ u : KeptW w4, Below w.heap.size w u.w := fun u => HB_w4.out.trans (u.h.mono HB_w4.out.size)
        refine ⟨?_, ?_, ?_, ?_, ?_, ?_, ?_, ?_, ?_, ?_, ?_, ?_, trivial⟩
        · intro g u hd_
          refine ⟨rfl, relQ 122 rfl trivial ?_⟩
          obtain ⟨q0, q1, q2⟩ := hp u
          simp [go_sem, evalBy, rhoT, relOf, rvCv, q0, q1, q2]
        · intro g u hd_
          refine ⟨rfl, relQ 123 rfl trivial ?_⟩
          obtain ⟨q0, q1, q2⟩ := hp u
          simp [go_sem, evalBy, rhoT, relOf, rvCv, q0, q1, q2]
        · intro g u hd_
          refine ⟨rfl, relQ 124 rfl trivial ?_⟩
          simp [go_sem, evalBy, rhoT, relOf, rvCv]
        · intro g u hd_
          refine ⟨rfl, relC 33 #[.agg #[.slice A n c, .int .i64 lo, .int .i64 hi], .slice A2 m c', .bool true] (by simp [go_sem, evalBy, rhoT, relOf, rvCv]) ?_⟩
          refine (endT_any true A A2 n c m c' ls ys lo hi _ HL.out N6.out (hL.next (hbu u)) HY.out M12.out (hY.next (hbu u))).mono ?_
          rintro e w' ⟨v, rfl, hb, hv⟩
          rw [E1.out] at hv
          exact ⟨v, rfl, hb, hv, fun e he hn => by injection he with he; subst he; exact absurd hn (by simp [relOf])⟩
        · intro g u hd_
          refine ⟨rfl, relQ 126 rfl trivial ?_⟩
          simp [go_sem, evalBy, rhoT, relOf, rvCv]
        · intro g u hd_
          refine ⟨rfl, relC 27 #[.agg #[.slice A n c, .int .i64 lo, .int .i64 hi], g 3, .int .i64 co] (by simp [go_sem, evalBy, rhoT, relOf, rvCv]) ?_⟩
          refine (followT_any A n c m ls T1 (g 3) lo hi co _ HL.out N1.out N6.out (hL.next (hbu u)) TT_.out TK1.out M12.out MO.out (hd_ ⟨3, .data⟩ (by simp) rfl)).mono ?_
          rintro e w' ⟨v, rfl, hb, hv⟩
          rw [F1.out] at hv
          exact ⟨v, rfl, hb, hv, fun e he hn => by injection he with he; subst he; exact absurd hn (by simp [relOf])⟩
        · intro g u hd_
          refine ⟨rfl, relQ 128 rfl trivial ?_⟩
          simp [go_sem, evalBy, rhoT, relOf, rvCv]
        · intro g u hd_
          refine ⟨rfl, relC 35 #[g 5, .int .i64 d] (by simp [go_sem, evalBy, rhoT, relOf, rvCv]) ?_⟩
          refine (firstR_any (g 5) m S1 d _ L1.out M12.out (hd_ ⟨5, .data⟩ (by simp) rfl)).mono ?_
          rintro e w' ⟨rfl, hb⟩
          rw [FW.out]
          exact ⟨_, rfl, hb, trivial, fun e he _ => by injection he with he; subst he; rfl⟩
        · intro g u hd_
          refine ⟨rfl, relQ 130 rfl trivial ?_⟩
          simp [go_sem, evalBy, rhoT, relOf, rvCv]
        · intro g u hd_
          refine ⟨rfl, relQ 131 rfl trivial ?_⟩
          simp [go_sem, evalBy, rhoT, relOf, rvCv]
        · intro g u hd_
          refine ⟨rfl, relQ 132 rfl trivial ?_⟩
          simp [go_sem, evalBy, rhoT, relOf, rvCv, hfw]
        · intro g u hd_
          refine ⟨rfl, relQ 21 rfl trivial ?_⟩
          simp [go_sem, evalBy, rhoT, relOf, rvCv]
      · intro g u _
        simp [putAll, Act.put, rhoT, relOf, rvCv]
        have HBU := Lib.hid (HB_w4.out.trans (u.h.mono HB_w4.out.size))
        go_wp2_with fail
        refine (known_any _ (HT.out.next HBU.out)).mono ?_
        rintro e w6 ⟨rfl, hb6⟩
        have HB6 := Lib.hid (HBU.out.trans (hb6.mono HBU.out.size))
        clear hb6
        go_wp2_with fail
        go_ret
        exact ⟨rfl, HB6.out⟩
    · go_wp2_with fail
      refine (followT_any A n c m ls T _ lo hi co _ HL.out N1.out N6.out (hL.next HB_w8.out) TT_.out TK.out M12.out MO.out HTR.out).mono ?_
      rintro e w9 ⟨v, rfl, hb9, hv9⟩
      rw [F0.out] at hv9
      have HB_w9 := Lib.hid (HB_w8.out.trans (hb9.mono HB_w8.out.size))
      have Z_w9 := Lib.hid ((hb9.block _ (Array.getElem?_eq_some_iff.1 Z_w8.out).1).trans Z_w8.out)
      have Y_w9 := Lib.hid ((hb9.block _ (Array.getElem?_eq_some_iff.1 Y_w8.out).1).trans Y_w8.out)
      have V9 := Lib.hid hv9
      clear hb9 hv9 p0 p1 p2 t0 t1 t2 t3 t4
      go_wp2_with fail
      refine (firstR_any v m S d _ L0.out M12.out V9.out).mono ?_
      rintro e w4 ⟨rfl, hb4⟩
      rw [FO.out]
      have HB_w4 := Lib.hid (HB_w9.out.trans (hb4.mono HB_w9.out.size))
      have Z_w4 := Lib.hid ((hb4.block _ (Array.getElem?_eq_some_iff.1 Z_w9.out).1).trans Z_w9.out)
      have Y_w4 := Lib.hid ((hb4.block _ (Array.getElem?_eq_some_iff.1 Y_w9.out).1).trans Y_w9.out)
      clear hb4
      have ltp := (Array.getElem?_eq_some_iff.1 Z_w4.out).1
      go_wp2_with fail
      refine rel_region [1, 2, 4, 6] [(125, 3), (127, 5)] (rvCv (.agg #[.slice A n c, .int .i64 lo, .int .i64 hi]) (.slice A2 m c') w.heap.size d co fw m true) (keF m T1 S1) (by kernel_rfl) (by kernel_rfl) (by kernel_rfl) (by kernel_rfl) (by kernel_rfl) (by kernel_rfl) ?_ (keF_keep m T1 S1) ?_ ?_
      · intro t ht
        simp only [List.mem_cons, List.not_mem_nil, or_false] at ht
        rcases ht with rfl | rfl | rfl | rfl <;> rfl
      · refine allOps_array ?_
        have hp : ∀ u : KeptW w4, u.w.cell? ⟨w.heap.size, 0, none⟩ = some (.slice A n c) ∧ u.w.cell? ⟨w.heap.size, 1, none⟩ = some (.int .i64 lo) ∧ u.w.cell? ⟨w.heap.size, 2, none⟩ = some (.int .i64 hi) := fun u => by
          have hz := (u.h.block _ ltp).trans Z_w4.out
          have q0 := cell_of_row u.w w.heap.size 0 _ 26 (0, 0) hz
          have q1 := cell_of_row u.w w.heap.size 1 _ 26 (0, 0) hz
          have q2 := cell_of_row u.w w.heap.size 2 _ 26 (0, 0) hz
          simp at q0 q1 q2
          exact ⟨q0, q1, q2⟩
        have hbu : ∀ u : KeptW w4, Below w.heap.size w u.w := fun u => HB_w4.out.trans (u.h.mono HB_w4.out.size)
        refine ⟨?_, ?_, ?_, ?_, ?_, ?_, ?_, ?_, ?_, ?_, ?_, ?_, trivial⟩
        · intro g u hd_
          refine ⟨rfl, relQ 122 rfl trivial ?_⟩
          obtain ⟨q0, q1, q2⟩ := hp u
          simp [go_sem, evalBy, rhoT, relOf, rvCv, q0, q1, q2]
        · intro g u hd_
          refine ⟨rfl, relQ 123 rfl trivial ?_⟩
          obtain ⟨q0, q1, q2⟩ := hp u
          simp [go_sem, evalBy, rhoT, relOf, rvCv, q0, q1, q2]
        · intro g u hd_
          refine ⟨rfl, relQ 124 rfl trivial ?_⟩
          simp [go_sem, evalBy, rhoT, relOf, rvCv]
        · intro g u hd_
          refine ⟨rfl, relC 33 #[.agg #[.slice A n c, .int .i64 lo, .int .i64 hi], .slice A2 m c', .bool true] (by simp [go_sem, evalBy, rhoT, relOf, rvCv]) ?_⟩
          refine (endT_any true A A2 n c m c' ls ys lo hi _ HL.out N6.out (hL.next (hbu u)) HY.out M12.out (hY.next (hbu u))).mono ?_
          rintro e w' ⟨v, rfl, hb, hv⟩
          rw [E1.out] at hv
          exact ⟨v, rfl, hb, hv, fun e he hn => by injection he with he; subst he; exact absurd hn (by simp [relOf])⟩
        · intro g u hd_
          refine ⟨rfl, relQ 126 rfl trivial ?_⟩
          simp [go_sem, evalBy, rhoT, relOf, rvCv]
        · intro g u hd_
          refine ⟨rfl, relC 27 #[.agg #[.slice A n c, .int .i64 lo, .int .i64 hi], g 3, .int .i64 co] (by simp [go_sem, evalBy, rhoT, relOf, rvCv]) ?_⟩
          refine (followT_any A n c m ls T1 (g 3) lo hi co _ HL.out N1.out N6.out (hL.next (hbu u)) TT_.out TK1.out M12.out MO.out (hd_ ⟨3, .data⟩ (by simp) rfl)).mono ?_
          rintro e w' ⟨v, rfl, hb, hv⟩
          rw [F1.out] at hv
          exact ⟨v, rfl, hb, hv, fun e he hn => by injection he with he; subst he; exact absurd hn (by simp [relOf])⟩
        · intro g u hd_
          refine ⟨rfl, relQ 128 rfl trivial ?_⟩
          simp [go_sem, evalBy, rhoT, relOf, rvCv]
        · intro g u hd_
          refine ⟨rfl, relC 35 #[g 5, .int .i64 d] (by simp [go_sem, evalBy, rhoT, relOf, rvCv]) ?_⟩
          refine (firstR_any (g 5) m S1 d _ L1.out M12.out (hd_ ⟨5, .data⟩ (by simp) rfl)).mono ?_
          rintro e w' ⟨rfl, hb⟩
          rw [FW.out]
          exact ⟨_, rfl, hb, trivial, fun e he _ => by injection he with he; subst he; rfl⟩
        · intro g u hd_
          refine ⟨rfl, relQ 130 rfl trivial ?_⟩
          simp [go_sem, evalBy, rhoT, relOf, rvCv]
        · intro g u hd_
          refine ⟨rfl, relQ 131 rfl trivial ?_⟩
          simp [go_sem, evalBy, rhoT, relOf, rvCv]
        · intro g u hd_
          refine ⟨rfl, relQ 132 rfl trivial ?_⟩
          simp [go_sem, evalBy, rhoT, relOf, rvCv, hfw]
        · intro g u hd_
          refine ⟨rfl, relQ 21 rfl trivial ?_⟩
          simp [go_sem, evalBy, rhoT, relOf, rvCv]
      · intro g u _
        simp [putAll, Act.put, rhoT, relOf, rvCv]
        have HBU := Lib.hid (HB_w4.out.trans (u.h.mono HB_w4.out.size))
        go_wp2_with fail
        refine (known_any _ (HT.out.next HBU.out)).mono ?_
        rintro e w6 ⟨rfl, hb6⟩
        have HB6 := Lib.hid (HBU.out.trans (hb6.mono HBU.out.size))
        clear hb6
        go_wp2_with fail
        go_ret
        exact ⟨rfl, HB6.out⟩
    · go_wp2_with fail
      refine (followT_any A n c m ls T _ lo hi co _ HL.out N1.out N6.out (hL.next HB_w8.out) TT_.out TK.out M12.out MO.out HTR.out).mono ?_
      rintro e w9 ⟨v, rfl, hb9, hv9⟩
      rw [F0.out] at hv9
      have HB_w9 := Lib.hid (HB_w8.out.trans (hb9.mono HB_w8.out.size))
      have Z_w9 := Lib.hid ((hb9.block _ (Array.getElem?_eq_some_iff.1 Z_w8.out).1).trans Z_w8.out)
      have Y_w9 := Lib.hid ((hb9.block _ (Array.getElem?_eq_some_iff.1 Y_w8.out).1).trans Y_w8.out)
      have V9 := Lib.hid hv9
      clear hb9 hv9 p0 p1 p2 t0 t1 t2 t3 t4
      go_wp2_with fail
      refine (firstR_any v m S d _ L0.out M12.out V9.out).mono ?_
      rintro e w4 ⟨rfl, hb4⟩
      rw [FO.out]
      have HB_w4 := Lib.hid (HB_w9.out.trans (hb4.mono HB_w9.out.size))
      have Z_w4 := Lib.hid ((hb4.block _ (Array.getElem?_eq_some_iff.1 Z_w9.out).1).trans Z_w9.out)
      have Y_w4 := Lib.hid ((hb4.block _ (Array.getElem?_eq_some_iff.1 Y_w9.out).1).trans Y_w9.out)
      clear hb4
      have ltp := (Array.getElem?_eq_some_iff.1 Z_w4.out).1
      go_wp2_with fail
      refine rel_region [1, 2, 4, 6] [(125, 3), (127, 5)] (rvCv (.agg #[.slice A n c, .int .i64 lo, .int .i64 hi]) (.slice A2 m c') w.heap.size d co fw m false) (keF m T1 S1) (by kernel_rfl) (by kernel_rfl) (by kernel_rfl) (by kernel_rfl) (by kernel_rfl) (by kernel_rfl) ?_ (keF_keep m T1 S1) ?_ ?_
      · intro t ht
        simp only [List.mem_cons, List.not_mem_nil, or_false] at ht
        rcases ht with rfl | rfl | rfl | rfl <;> rfl
      · refine allOps_array ?_
        have hp : ∀ u : KeptW w4, u.w.cell? ⟨w.heap.size, 0, none⟩ = some (.slice A n c) ∧ u.w.cell? ⟨w.heap.size, 1, none⟩ = some (.int .i64 lo) ∧ u.w.cell? ⟨w.heap.size, 2, none⟩ = some (.int .i64 hi) := fun u => by
          have hz := (u.h.block _ ltp).trans Z_w4.out
          have q0 := cell_of_row u.w w.heap.size 0 _ 26 (0, 0) hz
          have q1 := cell_of_row u.w w.heap.size 1 _ 26 (0, 0) hz
          have q2 := cell_of_row u.w w.heap.size 2 _ 26 (0, 0) hz
          simp at q0 q1 q2
          exact ⟨q0, q1, q2⟩
        have hbu : ∀ u : KeptW w4, Below w.heap.size w u.w := fun u => HB_w4.out.trans (u.h.mono HB_w4.out.size)
        refine ⟨?_, ?_, ?_, ?_, ?_, ?_, ?_, ?_, ?_, ?_, ?_, ?_, trivial⟩
        · intro g u hd_
          refine ⟨rfl, relQ 122 rfl trivial ?_⟩
          obtain ⟨q0, q1, q2⟩ := hp u
          simp [go_sem, evalBy, rhoT, relOf, rvCv, q0, q1, q2]
        · intro g u hd_
          refine ⟨rfl, relQ 123 rfl trivial ?_⟩
          obtain ⟨q0, q1, q2⟩ := hp u
          simp [go_sem, evalBy, rhoT, relOf, rvCv, q0, q1, q2]
        · intro g u hd_
          refine ⟨rfl, relQ 124 rfl trivial ?_⟩
          simp [go_sem, evalBy, rhoT, relOf, rvCv]
        · intro g u hd_
          refine ⟨rfl, relC 33 #[.agg #[.slice A n c, .int .i64 lo, .int .i64 hi], .slice A2 m c', .bool true] (by simp [go_sem, evalBy, rhoT, relOf, rvCv]) ?_⟩
          refine (endT_any true A A2 n c m c' ls ys lo hi _ HL.out N6.out (hL.next (hbu u)) HY.out M12.out (hY.next (hbu u))).mono ?_
          rintro e w' ⟨v, rfl, hb, hv⟩
          rw [E1.out] at hv
          exact ⟨v, rfl, hb, hv, fun e he hn => by injection he with he; subst he; exact absurd hn (by simp [relOf])⟩
        · intro g u hd_
          refine ⟨rfl, relQ 126 rfl trivial ?_⟩
          simp [go_sem, evalBy, rhoT, relOf, rvCv]
        · intro g u hd_
          refine ⟨rfl, relC 27 #[.agg #[.slice A n c, .int .i64 lo, .int .i64 hi], g 3, .int .i64 co] (by simp [go_sem, evalBy, rhoT, relOf, rvCv]) ?_⟩
          refine (followT_any A n c m ls T1 (g 3) lo hi co _ HL.out N1.out N6.out (hL.next (hbu u)) TT_.out TK1.out M12.out MO.out (hd_ ⟨3, .data⟩ (by simp) rfl)).mono ?_
          rintro e w' ⟨v, rfl, hb, hv⟩
          rw [F1.out] at hv
          exact ⟨v, rfl, hb, hv, fun e he hn => by injection he with he; subst he; exact absurd hn (by simp [relOf])⟩
        · intro g u hd_
          refine ⟨rfl, relQ 128 rfl trivial ?_⟩
          simp [go_sem, evalBy, rhoT, relOf, rvCv]
        · intro g u hd_
          refine ⟨rfl, relC 35 #[g 5, .int .i64 d] (by simp [go_sem, evalBy, rhoT, relOf, rvCv]) ?_⟩
          refine (firstR_any (g 5) m S1 d _ L1.out M12.out (hd_ ⟨5, .data⟩ (by simp) rfl)).mono ?_
          rintro e w' ⟨rfl, hb⟩
          rw [FW.out]
          exact ⟨_, rfl, hb, trivial, fun e he _ => by injection he with he; subst he; rfl⟩
        · intro g u hd_
          refine ⟨rfl, relQ 130 rfl trivial ?_⟩
          simp [go_sem, evalBy, rhoT, relOf, rvCv]
        · intro g u hd_
          refine ⟨rfl, relQ 131 rfl trivial ?_⟩
          simp [go_sem, evalBy, rhoT, relOf, rvCv]
        · intro g u hd_
          refine ⟨rfl, relQ 132 rfl trivial ?_⟩
          simp [go_sem, evalBy, rhoT, relOf, rvCv, hfw]
        · intro g u hd_
          refine ⟨rfl, relQ 21 rfl trivial ?_⟩
          simp [go_sem, evalBy, rhoT, relOf, rvCv]
      · intro g u _
        simp [putAll, Act.put, rhoT, relOf, rvCv]
        have HBU := Lib.hid (HB_w4.out.trans (u.h.mono HB_w4.out.size))
        go_wp2_with fail
        refine (known_any _ (HT.out.next HBU.out)).mono ?_
        rintro e w6 ⟨rfl, hb6⟩
        have HB6 := Lib.hid (HBU.out.trans (hb6.mono HBU.out.size))
        clear hb6
        go_wp2_with fail
        go_ret
        exact ⟨ret_bool (by simp [hco]), HB6.out⟩
theorem riv_any (A A2 AM AW AS AV AN : Option Addr) (n c m c' nm cm nw cw ns_ cs nv cv nn cn : Nat) (ls : List Lay) (ys : List Yr) (lo hi d he co : Int) (ms ws ss vs ns : List Int) (w : World) (ht : Tab w) (hl : ls.length = n) (hcap : n ≤ c) (hn : n ≤ maxLen) (hL : LaysAt w w.heap.size A ls) (hy : ys.length = m) (hm : m ≤ maxLen) (hY : YrsAt w w.heap.size A2 ys)
    (h1 : ms.length = nm) (q1 : nm ≤ cm) (g1 : nm ≤ maxLen) (i1 : IntsAt w w.heap.size AM ms) (h2 : ws.length = nw) (q2 : nw ≤ cw) (g2 : nw ≤ maxLen) (i2 : IntsAt w w.heap.size AW ws) (h3 : ss.length = ns_) (q3 : ns_ ≤ cs) (g3 : ns_ ≤ maxLen) (i3 : IntsAt w w.heap.size AS ss) (h4 : vs.length = nv) (q4 : nv ≤ cv) (g4 : nv ≤ maxLen) (i4 : IntsAt w w.heap.size AV vs) (h5 : ns.length = nn) (q5 : nn ≤ cn) (g5 : nn ≤ maxLen) (i5 : IntsAt w w.heap.size AN ns) :
    Calls Tryd.prog 11 #[.agg #[.slice A n c, .int .i64 lo, .int .i64 hi], .slice A2 m c', .int .i64 d, .int .i64 he, .int .i64 co, .agg #[.slice AM nm cm, .slice AW nw cw, .slice AS ns_ cs, .slice AV nv cv, .slice AN nn cn]] w fun e w' => e = .returned (.bool true) ∧ Below w.heap.size w w' := by
  cases hf : fairB ls lo hi ys ms ws ss vs ns with
  | false => exact riv_unfair A A2 AM AW AS AV AN n c m c' nm cm nw cw ns_ cs nv cv nn cn ls ys lo hi d he co ms ws ss vs ns w ht hl hcap hn hL hy hm hY h1 q1 g1 i1 h2 q2 g2 i2 h3 q3 g3 i3 h4 q4 g4 i4 h5 q5 g5 i5 hf
  | true =>
    by_cases ho : d < 0 ∨ (¬ d < 0 ∧ 2000000 < d) ∨ (¬ d < 0 ∧ ¬ 2000000 < d ∧ he < 0) ∨ (¬ d < 0 ∧ ¬ 2000000 < d ∧ ¬ he < 0 ∧ 1000000 < he) ∨ (¬ d < 0 ∧ ¬ 2000000 < d ∧ ¬ he < 0 ∧ ¬ 1000000 < he ∧ co < 0) ∨ (¬ d < 0 ∧ ¬ 2000000 < d ∧ ¬ he < 0 ∧ ¬ 1000000 < he ∧ ¬ co < 0 ∧ 1000000 < co)
    · exact riv_out A A2 AM AW AS AV AN n c m c' nm cm nw cw ns_ cs nv cv nn cn ls ys lo hi d he co ms ws ss vs ns w ht hl hcap hn hL hy hm hY h1 q1 g1 i1 h2 q2 g2 i2 h3 q3 g3 i3 h4 q4 g4 i4 h5 q5 g5 i5 hf ho
    · exact riv_good A A2 AM AW AS AV AN n c m c' nm cm nw cw ns_ cs nv cv nn cn ls ys lo hi d he co ms ws ss vs ns w ht hl hcap hn hL hy hm hY h1 q1 g1 i1 h2 q2 g2 i2 h3 q3 g3 i3 h4 q4 g4 i4 h5 q5 g5 i5 hf (by omega) (by omega) (by omega) (by omega) (by omega) (by omega)
end Go.Proofs.YtccekbdhffccdaaDoor
