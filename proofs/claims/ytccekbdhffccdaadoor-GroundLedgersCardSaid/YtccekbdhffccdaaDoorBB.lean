/- Play, for every place, years and truth. -/
import Derived.Test.YtccekbdhffccdaaDoorX
namespace Go.Proofs.YtccekbdhffccdaaDoor
open Go.RowKit Go.Shelf

theorem allB_spec {xs : List Int} {ss : List (Int × Int)} (h : allB xs ss = true) : xs.length = ss.length ∧ ∀ x ∈ xs, ∃ s ∈ ss, s.1 ≤ x ∧ x ≤ s.2 := by
  simp only [allB, Bool.and_eq_true, decide_eq_true_eq, List.all_eq_true] at h
  refine ⟨h.1, fun x hx => ?_⟩
  obtain ⟨k, hk⟩ := List.mem_iff_getElem?.1 hx
  have hkl : k < ss.length := by rw [← h.1]; exact (List.getElem?_eq_some_iff.1 hk).1
  obtain ⟨s, hs⟩ := get_of_lt hkl
  have := h.2 (x, s) (List.mem_of_getElem? (i := k) (by rw [List.getElem?_zip_eq_some]; exact ⟨hk, hs⟩))
  simp only [okB, inB_iff] at this
  exact ⟨s, List.mem_of_getElem? hs, this.1, this.2⟩
def possT (ls : List Lay) (lo hi : Int) (ys : List Yr) (t : Tru) : Bool := possB ls lo hi ys t.ms t.ws t.ss t.vs t.ns
theorem possT_ok {ls : List Lay} {lo hi : Int} {ys : List Yr} {t : Tru} (hp : placeB ls lo hi = true) (hy : ys.all yrB = true) (h : possT ls lo hi ys t = true) : TruOk t ls.length ys.length := by
  obtain ⟨_, ⟨a1, a2, a3⟩, hl⟩ := placeB_spec hp
  have hq := yrB_spec hy
  simp only [possT, possB, Bool.and_eq_true] at h
  obtain ⟨h1, h2, h3, h4, h5⟩ := h
  obtain ⟨l1, m1⟩ := allB_spec h1
  obtain ⟨l2, m2⟩ := allB_spec h2
  obtain ⟨l3, m3⟩ := allB_spec h3
  obtain ⟨l4, m4⟩ := allB_spec h4
  obtain ⟨l5, m5⟩ := allB_spec h5
  simp only [laySpans, warmSpans, sumSpans, winSpans, snowSpans, List.length_map] at l1 l2 l3 l4 l5
  refine ⟨l1, l2, l3, l4, l5, ?_, ?_, ?_, ?_, ?_⟩ <;> intro x hx
  · obtain ⟨s, hs, b1, b2⟩ := m1 x hx
    simp only [laySpans, List.mem_map] at hs
    obtain ⟨y, hm, rfl⟩ := hs
    have := hl y hm
    simp at b1 b2; omega
  · obtain ⟨s, hs, b1, b2⟩ := m2 x hx
    simp only [warmSpans, List.mem_map] at hs
    obtain ⟨y, hm, rfl⟩ := hs
    simp at b1 b2; omega
  · obtain ⟨s, hs, b1, b2⟩ := m3 x hx
    simp only [sumSpans, List.mem_map] at hs
    obtain ⟨y, hm, rfl⟩ := hs
    have := hq y hm
    simp at b1 b2; omega
  · obtain ⟨s, hs, b1, b2⟩ := m4 x hx
    simp only [winSpans, List.mem_map] at hs
    obtain ⟨y, hm, rfl⟩ := hs
    have := hq y hm
    simp at b1 b2; omega
  · obtain ⟨s, hs, b1, b2⟩ := m5 x hx
    simp only [snowSpans, List.mem_map] at hs
    obtain ⟨y, hm, rfl⟩ := hs
    have := hq y hm
    simp at b1 b2; omega

theorem own44_ne {w : World} {T : Nat} {cs : Array Value} (h : w.heap[T]? = some (.cells cs 44 (0, 0))) {base size n : Nat} {v : Value} {xs : List Value} (ho : w.ownsRow base 3 size v n xs) : v.ownBlock ≠ some T := by
  rcases ho.2 with ⟨rfl, _⟩ | ⟨g', cap, cur, rfl, _, hh, _⟩
  · simp [Value.ownBlock]
  · intro he
    have : g' = T := by simpa [Value.ownBlock] using he
    subst this
    rw [hh] at h
    injection h with h
    injection h with _ ht
    exact absurd ht (by decide)
theorem follow_own (A : Option Addr) (n c : Nat) (ls : List Lay) (t : Tru) (v0 v1 v2 v3 v4 : Value) (lo hi mo : Int) (N : Nat) (w : World) (hl : ls.length = n) (hcap : n ≤ c) (hp : placeB ls lo hi = true) (hL : LaysAt w w.heap.size A ls) (hT : TruOk t n N) (hN : N ≤ 12) (hmo : 0 ≤ mo ∧ mo ≤ 1000000)
    (h0 : SlInts w v0 t.ms) (h1 : SlInts w v1 t.ws) (h2 : SlInts w v2 t.ss) (h3 : SlInts w v3 t.vs) (h4 : SlInts w v4 t.ns) :
    Calls Tryd.prog 55 #[.agg #[.slice A n c, .int .i64 lo, .int .i64 hi], .agg #[v0, v1, v2, v3, v4], .int .i64 mo] w fun e w' => ∃ (g : Nat) (u0 u1 u2 u3 u4 u5 u6 u7 u8 tv lv : Value), e = .returned (.pointer (some ⟨g, 0, none⟩)) ∧ FB w' g #[u0, u1, u2, u3, u4, u5, u6, u7, u8, .int .i64 (runS ls t mo N).R, .int .i64 (runS ls t mo N).Lf, .int .i64 (runS ls t mo N).In, .int .i64 (runS ls t mo N).Out, tv, lv] ∧
      w'.ownsRow w.heap.size 3 1 tv N (ints (runS ls t mo N).th) ∧ (runS ls t mo N).th.length = N ∧ Below w.heap.size w w' := by
  subst hl
  obtain ⟨⟨p1, p2⟩, _, hx⟩ := placeB_spec hp
  obtain ⟨A0, d0, rfl, _, i0⟩ := h0
  obtain ⟨A1, d1, rfl, _, i1⟩ := h1
  obtain ⟨A2, d2, rfl, _, i2⟩ := h2
  obtain ⟨A3, d3, rfl, _, i3⟩ := h3
  obtain ⟨A4, d4, rfl, _, i4⟩ := h4
  obtain ⟨bl, ol, rfl, hbl, c3⟩ := hL (by intro h; rw [h] at p1; simp at p1)
  obtain ⟨bm, om, rfl, hbm, c4⟩ := i0 (by intro h; have := hT.lm; rw [h] at this; simp at this; omega)
  rw [hT.lm, hT.lw, hT.lS, hT.lv, hT.ln]
  refine (follow_any bl ol c bm om ls.length d0 N d1 d2 d3 d4 A1 A2 A3 A4 ls t lo hi mo w hbl hbm rfl p1 p2 hcap (fun x hm => (hx x hm).1) hT hN hmo c3 c4 i1 i2 i3 i4).mono ?_
  rintro e w' ⟨g, tv, lv, rfl, hf, o1, o2, hb, _⟩
  have hr := runS_b (ls := ls) hT hmo N (Nat.le_refl _)
  exact ⟨g, _, _, _, _, _, _, _, _, _, tv, lv, rfl, hf, o1, hr.2.2.2.2.1, hb⟩

/-- What Play returns: depths, the ledger, the error. -/
def playI (ls : List Lay) (lo hi : Int) (ys : List Yr) (t : Tru) : List Int × (Int × Int × Int) × Int :=
  if yearsI ls lo hi ys = 0 then
    if possT ls lo hi ys t then ((runS ls t 0 ys.length).th, ((runS ls t 0 ys.length).In, (runS ls t 0 ys.length).Out, (runS ls t 0 ys.length).Lf), 0) else ([], (0, 0, 0), 2)
  else ([], (0, 0, 0), yearsI ls lo hi ys)
def PlayPost (w : World) (q : List Int × (Int × Int × Int) × Int) (e : Ending) (w' : World) : Prop :=
  ∃ v, e = .returned (.tuple #[v, .agg #[.int .i64 q.2.1.1, .int .i64 q.2.1.2.1, .int .i64 q.2.1.2.2], .int .i64 q.2.2]) ∧ SlInts w' v q.1 ∧ Below w.heap.size w w'
theorem SlInts.nil_ (w : World) : SlInts w (.slice none 0 0) [] := ⟨none, 0, rfl, Nat.le_refl _, fun h => absurd rfl h⟩

set_option maxRecDepth 100000 in
set_option maxHeartbeats 2000000 in
theorem play_any (A A2 : Option Addr) (n c m c' : Nat) (ls : List Lay) (ys : List Yr) (lo hi : Int) (t : Tru) (v0 v1 v2 v3 v4 : Value) (w : World) (hl : ls.length = n) (hn : n ≤ maxLen) (hcap : n ≤ c) (hL : LaysAt w w.heap.size A ls)
    (hm : ys.length = m) (hm2 : m ≤ maxLen) (hY : YrsAt w w.heap.size A2 ys) (s0 : SlInts w v0 t.ms) (s1 : SlInts w v1 t.ws) (s2 : SlInts w v2 t.ss) (s3 : SlInts w v3 t.vs) (s4 : SlInts w v4 t.ns)
    (n0 : t.ms.length ≤ maxLen) (n1 : t.ws.length ≤ maxLen) (n2 : t.ss.length ≤ maxLen) (n3 : t.vs.length ≤ maxLen) (n4 : t.ns.length ≤ maxLen) :
    Calls Tryd.prog 25 #[.agg #[.slice A n c, .int .i64 lo, .int .i64 hi], .slice A2 m c', .agg #[v0, v1, v2, v3, v4]] w (PlayPost w (playI ls lo hi ys t)) := by
  have HL := Lib.hid hl; clear hl
  have HM := Lib.hid hm; clear hm
  have HN := Lib.hid hn; clear hn
  have HN2 := Lib.hid hm2; clear hm2
  have N0 := Lib.hid n0; have N1 := Lib.hid n1; have N2 := Lib.hid n2; have N3 := Lib.hid n3; have N4 := Lib.hid n4
  have S0 := Lib.hid s0; have S1 := Lib.hid s1; have S2 := Lib.hid s2; have S3 := Lib.hid s3; have S4 := Lib.hid s4
  obtain ⟨A0, d0, rfl, _, i0⟩ := s0
  obtain ⟨A1, d1, rfl, _, i1⟩ := s1
  obtain ⟨A3, d2, rfl, _, i2⟩ := s2
  obtain ⟨A4, d3, rfl, _, i3⟩ := s3
  obtain ⟨A5, d4, rfl, _, i4⟩ := s4
  clear n0 n1 n2 n3 n4
  obtain ⟨T, hT⟩ : ∃ T : Array Value, #[Value.slice A0 t.ms.length d0, .slice A1 t.ws.length d1, .slice A3 t.ss.length d2, .slice A4 t.vs.length d3, .slice A5 t.ns.length d4] = T := ⟨_, rfl⟩
  have hB : Below w.heap.size w (((w.alloc (.cells #[.slice A n c, .int .i64 lo, .int .i64 hi] 26)).alloc (.cells #[.slice A0 t.ms.length d0, .slice A1 t.ws.length d1, .slice A3 t.ss.length d2, .slice A4 t.vs.length d3, .slice A5 t.ns.length d4] 41)).alloc (.cells #[.int .i64 0, .int .i64 0, .int .i64 0] 44)) :=
    (((Below.refl _ _).alloc (Nat.le_refl _) _).alloc (by simp) _).alloc (by simp; omega) _
  have z0 := heap_alloc_new w (.cells #[.slice A n c, .int .i64 lo, .int .i64 hi] 26)
  have z1 := heap_alloc_new (w.alloc (.cells #[.slice A n c, .int .i64 lo, .int .i64 hi] 26)) (.cells #[.slice A0 t.ms.length d0, .slice A1 t.ws.length d1, .slice A3 t.ss.length d2, .slice A4 t.vs.length d3, .slice A5 t.ns.length d4] 41)
  have z2 := heap_alloc_new ((w.alloc (.cells #[.slice A n c, .int .i64 lo, .int .i64 hi] 26)).alloc (.cells #[.slice A0 t.ms.length d0, .slice A1 t.ws.length d1, .slice A3 t.ss.length d2, .slice A4 t.vs.length d3, .slice A5 t.ns.length d4] 41)) (.cells #[.int .i64 0, .int .i64 0, .int .i64 0] 44)
  simp only [World.size_alloc] at z1 z2
  have y0 := (Below.heap_alloc _ (.cells #[.int .i64 0, .int .i64 0, .int .i64 0] 44) _ (by simp; omega)).trans ((Below.heap_alloc _ (.cells #[.slice A0 t.ms.length d0, .slice A1 t.ws.length d1, .slice A3 t.ss.length d2, .slice A4 t.vs.length d3, .slice A5 t.ns.length d4] 41) _ (by simp)).trans z0)
  have y1 := (Below.heap_alloc _ (.cells #[.int .i64 0, .int .i64 0, .int .i64 0] 44) _ (by simp)).trans z1
  have HB := Lib.hid hB
  have Y0 := Lib.hid y0
  have Y1 := Lib.hid y1
  have Y2 := Lib.hid z2
  clear hB z0 z1 z2 y0 y1 hT T
  rcases yearsI_cases ls lo hi ys with hr | hr | hr
  · obtain ⟨g1, g2, g3⟩ := yearsI_zero hr
    have hm12 : m ≤ 12 := by rw [HM.out] at g1; exact g1
    have HR := Lib.hid hr; have GP := Lib.hid g2; have GY := Lib.hid g3
    have hn6 : n ≤ 6 := by have := (placeB_spec GP.out).1.2; rw [HL.out] at this; exact this
    clear hr g1 g2 g3
    go_enter Tryd.func25, Tryd.ntmps25
    go_wp2_with fail
    refine (checkYears_is 0 A A2 n c m c' ls ys lo hi _ HL.out HN.out (hL.next HB.out) HM.out HN2.out (hY.next HB.out) HR.out).mono ?_
    rintro e w2 ⟨rfl, hb⟩
    have B2 := Lib.hid (HB.out.trans (hb.mono HB.out.size))
    have X0 := Lib.hid ((hb.block _ (Array.getElem?_eq_some_iff.1 Y0.out).1).trans Y0.out)
    have X1 := Lib.hid ((hb.block _ (Array.getElem?_eq_some_iff.1 Y1.out).1).trans Y1.out)
    have X2 := Lib.hid ((hb.block _ (Array.getElem?_eq_some_iff.1 Y2.out).1).trans Y2.out)
    clear hb
    have p0 := cell_of_row w2 w.heap.size 0 _ 26 (0, 0) X0.out
    have p1 := cell_of_row w2 w.heap.size 1 _ 26 (0, 0) X0.out
    have p2 := cell_of_row w2 w.heap.size 2 _ 26 (0, 0) X0.out
    have q0 := cell_of_row w2 (w.heap.size + 1) 0 _ 41 (0, 0) X1.out
    have q1 := cell_of_row w2 (w.heap.size + 1) 1 _ 41 (0, 0) X1.out
    have q2 := cell_of_row w2 (w.heap.size + 1) 2 _ 41 (0, 0) X1.out
    have q3 := cell_of_row w2 (w.heap.size + 1) 3 _ 41 (0, 0) X1.out
    have q4 := cell_of_row w2 (w.heap.size + 1) 4 _ 41 (0, 0) X1.out
    simp at p0 p1 p2 q0 q1 q2 q3 q4
    go_wp2_with fail
    have hps := poss_any A A2 A0 A1 A3 A4 A5 n c m c' _ d0 _ d1 _ d2 _ d3 _ d4 ls ys lo hi t.ms t.ws t.ss t.vs t.ns w2 HL.out hn6 (hL.next B2.out) HM.out hm12 (hY.next B2.out) rfl N0.out (i0.next B2.out) rfl N1.out (i1.next B2.out) rfl N2.out (i2.next B2.out) rfl N3.out (i3.next B2.out) rfl N4.out (i4.next B2.out)
    cases hpo : possT ls lo hi ys t with
    | false =>
      have HO := Lib.hid hpo
      rw [show possB ls lo hi ys t.ms t.ws t.ss t.vs t.ns = false from hpo] at hps
      refine hps.mono ?_
      clear hps hpo
      rintro e w3 ⟨rfl, hb⟩
      have B3 := Lib.hid (B2.out.trans (hb.mono B2.out.size))
      have X3 := Lib.hid ((hb.block _ (Array.getElem?_eq_some_iff.1 X2.out).1).trans X2.out)
      clear hb
      have r0 := cell_of_row w3 (w.heap.size + 1 + 1) 0 _ 44 (0, 0) X3.out
      have r1 := cell_of_row w3 (w.heap.size + 1 + 1) 1 _ 44 (0, 0) X3.out
      have r2 := cell_of_row w3 (w.heap.size + 1 + 1) 2 _ 44 (0, 0) X3.out
      have f0 : ∀ i, w3.frozen? ⟨w.heap.size + 1 + 1, i, none⟩ = false := fun i => by simp [World.frozen?, X3.out]
      have f1 := f0 0
      have f2 := f0 1
      have f3 := f0 2
      clear f0
      simp at r0 r1 r2
      have hpl : playI ls lo hi ys t = ([], (0, 0, 0), 2) := by unfold playI; rw [HR.out, if_pos rfl, HO.out]; rfl
      have HPL := Lib.hid hpl
      clear hpl
      go_wp2_with fail
      exact bodyPost_ret (v := .tuple #[.slice none 0 0, .agg #[.int .i64 0, .int .i64 0, .int .i64 0], .int .i64 2]) (by simp [results, Tryd.results25, go_sem, r0, r1, r2]) rfl
        (by rw [HPL.out]; exact ⟨_, rfl, SlInts.nil_ _, ((B3.out.setCell (p := ⟨w.heap.size + 1 + 1, 0, none⟩) (by show _ ≤ w.heap.size + 1 + 1; omega) _).setCell (p := ⟨w.heap.size + 1 + 1, 1, none⟩) (by show _ ≤ w.heap.size + 1 + 1; omega) _).setCell (p := ⟨w.heap.size + 1 + 1, 2, none⟩) (by show _ ≤ w.heap.size + 1 + 1; omega) _⟩)
    | true =>
      have HO := Lib.hid hpo
      have hTk : TruOk t n m := by have := possT_ok GP.out GY.out hpo; rw [HL.out, HM.out] at this; exact this
      have HT := Lib.hid hTk; clear hTk
      rw [show possB ls lo hi ys t.ms t.ws t.ss t.vs t.ns = true from hpo] at hps
      refine hps.mono ?_
      clear hps hpo
      rintro e w3 ⟨rfl, hb⟩
      have B3 := Lib.hid (B2.out.trans (hb.mono B2.out.size))
      have hbs := hb.size
      have X3 := Lib.hid ((hb.block _ (Array.getElem?_eq_some_iff.1 X2.out).1).trans X2.out)
      have l0 := (Array.getElem?_eq_some_iff.1 X0.out).1
      have l1 := (Array.getElem?_eq_some_iff.1 X1.out).1
      replace p0 := ((bcell hb).1 _ 0 l0).trans p0
      replace p1 := ((bcell hb).1 _ 1 l0).trans p1
      replace p2 := ((bcell hb).1 _ 2 l0).trans p2
      replace q0 := ((bcell hb).1 _ 0 l1).trans q0
      replace q1 := ((bcell hb).1 _ 1 l1).trans q1
      replace q2 := ((bcell hb).1 _ 2 l1).trans q2
      replace q3 := ((bcell hb).1 _ 3 l1).trans q3
      replace q4 := ((bcell hb).1 _ 4 l1).trans q4
      clear hb
      go_wp2_with fail
      refine (follow_own A n c ls t _ _ _ _ _ lo hi 0 m w3 HL.out hcap GP.out (hL.next B3.out) HT.out hm12 ⟨by omega, by omega⟩ (S0.out.next B3.out) (S1.out.next B3.out) (S2.out.next B3.out) (S3.out.next B3.out) (S4.out.next B3.out)).mono ?_
      rintro e w4 ⟨g, u0, u1, u2, u3, u4, u5, u6, u7, u8, tv, lv, rfl, hF, hth, hln, hb⟩
      have B4 := Lib.hid (B3.out.trans (hb.mono B3.out.size))
      have X4 := Lib.hid ((hb.block _ (Array.getElem?_eq_some_iff.1 X3.out).1).trans X3.out)
      clear hb p0 p1 p2 q0 q1 q2 q3 q4
      have hpl : playI ls lo hi ys t = ((runS ls t 0 m).th, ((runS ls t 0 m).In, (runS ls t 0 m).Out, (runS ls t 0 m).Lf), 0) := by unfold playI; rw [HR.out, if_pos rfl, HO.out, HM.out]; rfl
      have HPL := Lib.hid hpl
      clear hpl
      have k13 := hF.cell 13
      have k11 := hF.cell 11
      have k12 := hF.cell 12
      have k10 := hF.cell 10
      simp at k13 k11 k12 k10
      have r0 := cell_of_row w4 (w.heap.size + 1 + 1) 0 _ 44 (0, 0) X4.out
      have r1 := cell_of_row w4 (w.heap.size + 1 + 1) 1 _ 44 (0, 0) X4.out
      have r2 := cell_of_row w4 (w.heap.size + 1 + 1) 2 _ 44 (0, 0) X4.out
      have f0 : ∀ i, w4.frozen? ⟨w.heap.size + 1 + 1, i, none⟩ = false := fun i => by simp [World.frozen?, X4.out]
      have f1 := f0 0
      have f2 := f0 1
      have f3 := f0 2
      clear f0
      simp at r0 r1 r2
      have HTH := Lib.hid hth
      have hgT : g ≠ w.heap.size + 1 + 1 := fun e => by
        have h1 := X4.out
        rw [← e, show w4.heap[g]? = _ from hF] at h1
        injection h1 with h1
        injection h1 with _ h2
        exact absurd h2 (by decide)
      have HGT := Lib.hid hgT
      have HLN := Lib.hid hln
      clear hF hth hln hgT
      go_wp2_with fail
      go_region
      go_wp2
      have hfr : ∀ row, Frm w4.heap.size (w.heap.size + 1 + 1) row w4 (((w4.setCell ⟨w.heap.size + 1 + 1, 0, none⟩ (.int .i64 (runS ls t 0 m).In)).setCell ⟨w.heap.size + 1 + 1, 1, none⟩ (.int .i64 (runS ls t 0 m).Out)).setCell ⟨w.heap.size + 1 + 1, 2, none⟩ (.int .i64 (runS ls t 0 m).Lf)) := fun row =>
        ((Frm.set_ _ 0 _).trans (Frm.set_ _ 1 _)).trans (Frm.set_ _ 2 _)
      have hoN := own_frm (row := some (w.heap.size + 1 + 1)) (g := w.heap.size + 1 + 1) HTH.out (hfr _) (own44_ne X4.out HTH.out) (.inr (own44_ne X4.out HTH.out))
      exact bodyPost_ret (v := .tuple #[tv, .agg #[.int .i64 (runS ls t 0 m).In, .int .i64 (runS ls t 0 m).Out, .int .i64 (runS ls t 0 m).Lf], .int .i64 0]) (by simp [results, Tryd.results25, go_sem, r0, r1, r2]) rfl
        (by rw [HPL.out]; exact ⟨_, rfl, SlInts.of_own (World.ownsRow.drew hoN) HLN.out, (B4.out.trans ((hfr none).below B4.out.size (by omega) (by simp))).drew⟩)
  all_goals
    have HR := Lib.hid hr
    clear hr
    have hpl : playI ls lo hi ys t = ([], (0, 0, 0), yearsI ls lo hi ys) := by unfold playI; rw [if_neg (by rw [HR.out]; decide)]
    have HPL := Lib.hid hpl
    clear hpl
    go_enter Tryd.func25, Tryd.ntmps25
    go_wp2_with fail
    refine (checkYears_is _ A A2 n c m c' ls ys lo hi _ HL.out HN.out (hL.next HB.out) HM.out HN2.out (hY.next HB.out) HR.out).mono ?_
    rintro e w2 ⟨rfl, hb⟩
    have B3 := Lib.hid (HB.out.trans (hb.mono HB.out.size))
    have X3 := Lib.hid ((hb.block _ (Array.getElem?_eq_some_iff.1 Y2.out).1).trans Y2.out)
    clear hb
    have r0 := cell_of_row w2 (w.heap.size + 1 + 1) 0 _ 44 (0, 0) X3.out
    have r1 := cell_of_row w2 (w.heap.size + 1 + 1) 1 _ 44 (0, 0) X3.out
    have r2 := cell_of_row w2 (w.heap.size + 1 + 1) 2 _ 44 (0, 0) X3.out
    have f0 : ∀ i, w2.frozen? ⟨w.heap.size + 1 + 1, i, none⟩ = false := fun i => by simp [World.frozen?, X3.out]
    have f1 := f0 0
    have f2 := f0 1
    have f3 := f0 2
    clear f0
    simp at r0 r1 r2
    go_wp2_with fail
    refine bodyPost_ret (v := .tuple #[.slice none 0 0, .agg #[.int .i64 0, .int .i64 0, .int .i64 0], .int .i64 _]) (by simp [results, Tryd.results25, go_sem, r0, r1, r2]; rfl) rfl ?_
    rw [HPL.out, HR.out]
    exact ⟨_, rfl, SlInts.nil_ _, ((B3.out.setCell (p := ⟨w.heap.size + 1 + 1, 0, none⟩) (by show _ ≤ w.heap.size + 1 + 1; omega) _).setCell (p := ⟨w.heap.size + 1 + 1, 1, none⟩) (by show _ ≤ w.heap.size + 1 + 1; omega) _).setCell (p := ⟨w.heap.size + 1 + 1, 2, none⟩) (by show _ ≤ w.heap.size + 1 + 1; omega) _⟩
end Go.Proofs.YtccekbdhffccdaaDoor
