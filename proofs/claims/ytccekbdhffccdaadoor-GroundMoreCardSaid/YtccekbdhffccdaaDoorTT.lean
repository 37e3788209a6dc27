/- Play, for every place, years and truth. Whatever is true lies between both ends: integers alone. -/
import Derived.Test.YtccekbdhffccdaaDoorX
namespace Go.Proofs.YtccekbdhffccdaaDoor
open Go.RowKit Go.Shelf

theorem allB_spec {xs : List Int} {ss : List (Int × Int)} (h : allB xs ss = true) : xs.length = ss.length ∧ ∀ x ∈ xs, ∃ s ∈ ss, s.1 ≤ x ∧ x ≤ s.2 := by
  simp only [allB, Bool.and_eq_true, decide_eq_true_eq, List.all_eq_true] at h
  refine ⟨h.1, fun x hx => ?_⟩
  obtain ⟨k, hk⟩ := List.mem_iff_getElem?.1 hx
  have hkl : k < ss.length := by rw [← h.1]; exact (List.getElem?_eq_some_iff.1 hk).1
  obtain ⟨s, hs⟩ := get_of_lt hkl
  have := h.2 (x, s) (List.mem_of_getElem? (i := k) (by rw [List.getElem?_zip_eq_some]; exact ⟨hk, hs⟩))
  simp only [okB, inB_iff] at this
  exact ⟨s, List.mem_of_getElem? hs, this.1, this.2⟩
def possT (ls : List Lay) (lo hi : Int) (ys : List Yr) (t : Tru) : Bool := possB ls lo hi ys t.ms t.ws t.ss t.vs t.ns
theorem possT_ok {ls : List Lay} {lo hi : Int} {ys : List Yr} {t : Tru} (hp : placeB ls lo hi = true) (hy : ys.all yrB = true) (h : possT ls lo hi ys t = true) : TruOk t ls.length ys.length := by
  obtain ⟨_, ⟨a1, a2, a3⟩, hl⟩ := placeB_spec hp
  have hq := yrB_spec hy
  simp only [possT, possB, Bool.and_eq_true] at h
  obtain ⟨h1, h2, h3, h4, h5⟩ := h
  obtain ⟨l1, m1⟩ := allB_spec h1
  obtain ⟨l2, m2⟩ := allB_spec h2
  obtain ⟨l3, m3⟩ := allB_spec h3
  obtain ⟨l4, m4⟩ := allB_spec h4
  obtain ⟨l5, m5⟩ := allB_spec h5
  simp only [laySpans, warmSpans, sumSpans, winSpans, snowSpans, List.length_map] at l1 l2 l3 l4 l5
  refine ⟨l1, l2, l3, l4, l5, ?_, ?_, ?_, ?_, ?_⟩ <;> intro x hx
  · obtain ⟨s, hs, b1, b2⟩ := m1 x hx
    simp only [laySpans, List.mem_map] at hs
    obtain ⟨y, hm, rfl⟩ := hs
    have := hl y hm
    simp at b1 b2; omega
  · obtain ⟨s, hs, b1, b2⟩ := m2 x hx
    simp only [warmSpans, List.mem_map] at hs
    obtain ⟨y, hm, rfl⟩ := hs
    simp at b1 b2; omega
  · obtain ⟨s, hs, b1, b2⟩ := m3 x hx
    simp only [sumSpans, List.mem_map] at hs
    obtain ⟨y, hm, rfl⟩ := hs
    have := hq y hm
    simp at b1 b2; omega
  · obtain ⟨s, hs, b1, b2⟩ := m4 x hx
    simp only [winSpans, List.mem_map] at hs
    obtain ⟨y, hm, rfl⟩ := hs
    have := hq y hm
    simp at b1 b2; omega
  · obtain ⟨s, hs, b1, b2⟩ := m5 x hx
    simp only [snowSpans, List.mem_map] at hs
    obtain ⟨y, hm, rfl⟩ := hs
    have := hq y hm
    simp at b1 b2; omega

theorem own44_ne {w : World} {T : Nat} {cs : Array Value} (h : w.heap[T]? = some (.cells cs 44 (0, 0))) {base size n : Nat} {v : Value} {xs : List Value} (ho : w.ownsRow base 3 size v n xs) : v.ownBlock ≠ some T := by
  rcases ho.2 with ⟨rfl, _⟩ | ⟨g', cap, cur, rfl, _, hh, _⟩
  · simp [Value.ownBlock]
  · intro he
    have : g' = T := by simpa [Value.ownBlock] using he
    subst this
    rw [hh] at h
    injection h with h
    injection h with _ ht
    exact absurd ht (by decide)
theorem follow_own (A : Option Addr) (n c : Nat) (ls : List Lay) (t : Tru) (v0 v1 v2 v3 v4 : Value) (lo hi mo : Int) (N : Nat) (w : World) (hl : ls.length = n) (hcap : n ≤ c) (hp : placeB ls lo hi = true) (hL : LaysAt w w.heap.size A ls) (hT : TruOk t n N) (hN : N ≤ 12) (hmo : 0 ≤ mo ∧ mo ≤ 1000000)
    (h0 : SlInts w v0 t.ms) (h1 : SlInts w v1 t.ws) (h2 : SlInts w v2 t.ss) (h3 : SlInts w v3 t.vs) (h4 : SlInts w v4 t.ns) :
    Calls Tryd.prog 55 #[.agg #[.slice A n c, .int .i64 lo, .int .i64 hi], .agg #[v0, v1, v2, v3, v4], .int .i64 mo] w fun e w' => ∃ (g : Nat) (u0 u1 u2 u3 u4 u5 u6 u7 u8 tv lv : Value), e = .returned (.pointer (some ⟨g, 0, none⟩)) ∧ FB w' g #[u0, u1, u2, u3, u4, u5, u6, u7, u8, .int .i64 (runS ls t mo N).R, .int .i64 (runS ls t mo N).Lf, .int .i64 (runS ls t mo N).In, .int .i64 (runS ls t mo N).Out, tv, lv] ∧
      w'.ownsRow w.heap.size 3 1 tv N (ints (runS ls t mo N).th) ∧ (runS ls t mo N).th.length = N ∧ Below w.heap.size w w' := by
  subst hl
  obtain ⟨⟨p1, p2⟩, _, hx⟩ := placeB_spec hp
  obtain ⟨A0, d0, rfl, _, i0⟩ := h0
  obtain ⟨A1, d1, rfl, _, i1⟩ := h1
  obtain ⟨A2, d2, rfl, _, i2⟩ := h2
  obtain ⟨A3, d3, rfl, _, i3⟩ := h3
  obtain ⟨A4, d4, rfl, _, i4⟩ := h4
  obtain ⟨bl, ol, rfl, hbl, c3⟩ := hL (by intro h; rw [h] at p1; simp at p1)
  obtain ⟨bm, om, rfl, hbm, c4⟩ := i0 (by intro h; have := hT.lm; rw [h] at this; simp at this; omega)
  rw [hT.lm, hT.lw, hT.lS, hT.lv, hT.ln]
  refine (follow_any bl ol c bm om ls.length d0 N d1 d2 d3 d4 A1 A2 A3 A4 ls t lo hi mo w hbl hbm rfl p1 p2 hcap (fun x hm => (hx x hm).1) hT hN hmo c3 c4 i1 i2 i3 i4).mono ?_
  rintro e w' ⟨g, tv, lv, rfl, hf, o1, o2, hb, _⟩
  have hr := runS_b (ls := ls) hT hmo N (Nat.le_refl _)
  exact ⟨g, _, _, _, _, _, _, _, _, _, tv, lv, rfl, hf, o1, hr.2.2.2.2.1, hb⟩

/-- What Play returns: depths, the ledger, the error. -/
def playI (ls : List Lay) (lo hi : Int) (ys : List Yr) (t : Tru) : List Int × (Int × Int × Int) × Int :=
  if yearsI ls lo hi ys = 0 then
    if possT ls lo hi ys t then ((runS ls t 0 ys.length).th, ((runS ls t 0 ys.length).In, (runS ls t 0 ys.length).Out, (runS ls t 0 ys.length).Lf), 0) else ([], (0, 0, 0), 2)
  else ([], (0, 0, 0), yearsI ls lo hi ys)
def PlayPost (w : World) (q : List Int × (Int × Int × Int) × Int) (e : Ending) (w' : World) : Prop :=
  ∃ v, e = .returned (.tuple #[v, .agg #[.int .i64 q.2.1.1, .int .i64 q.2.1.2.1, .int .i64 q.2.1.2.2], .int .i64 q.2.2]) ∧ SlInts w' v q.1 ∧ Below w.heap.size w w'
theorem SlInts.nil_ (w : World) : SlInts w (.slice none 0 0) [] := ⟨none, 0, rfl, Nat.le_refl _, fun h => absurd rfl h⟩

set_option maxRecDepth 100000 in
set_option maxHeartbeats 2000000 in
theorem play_any (A A2 : Option Addr) (n c m c' : Nat) (ls : List Lay) (ys : List Yr) (lo hi : Int) (t : Tru) (v0 v1 v2 v3 v4 : Value) (w : World) (hl : ls.length = n) (hn : n ≤ maxLen) (hcap : n ≤ c) (hL : LaysAt w w.heap.size A ls)
    (hm : ys.length = m) (hm2 : m ≤ maxLen) (hY : YrsAt w w.heap.size A2 ys) (s0 : SlInts w v0 t.ms) (s1 : SlInts w v1 t.ws) (s2 : SlInts w v2 t.ss) (s3 : SlInts w v3 t.vs) (s4 : SlInts w v4 t.ns)
    (n0 : t.ms.length ≤ maxLen) (n1 : t.ws.length ≤ maxLen) (n2 : t.ss.length ≤ maxLen) (n3 : t.vs.length ≤ maxLen) (n4 : t.ns.length ≤ maxLen) :
    Calls Tryd.prog 25 #[.agg #[.slice A n c, .int .i64 lo, .int .i64 hi], .slice A2 m c', .agg #[v0, v1, v2, v3, v4]] w (PlayPost w (playI ls lo hi ys t)) := by
  have HL := Lib.hid hl; clear hl
  have HM := Lib.hid hm; clear hm
  have HN := Lib.hid hn; clear hn
  have HN2 := Lib.hid hm2; clear hm2
  have N0 := Lib.hid n0; have N1 := Lib.hid n1; have N2 := Lib.hid n2; have N3 := Lib.hid n3; have N4 := Lib.hid n4
  have S0 := Lib.hid s0; have S1 := Lib.hid s1; have S2 := Lib.hid s2; have S3 := Lib.hid s3; have S4 := Lib.hid s4
  obtain ⟨A0, d0, rfl, _, i0⟩ := s0
  obtain ⟨A1, d1, rfl, _, i1⟩ := s1
  obtain ⟨A3, d2, rfl, _, i2⟩ := s2
  obtain ⟨A4, d3, rfl, _, i3⟩ := s3
  obtain ⟨A5, d4, rfl, _, i4⟩ := s4
  clear n0 n1 n2 n3 n4
  obtain ⟨T, hT⟩ : ∃ T : Array Value, #[Value.slice A0 t.ms.length d0, .slice A1 t.ws.length d1, .slice A3 t.ss.length d2, .slice A4 t.vs.length d3, .slice A5 t.ns.length d4] = T := ⟨_, rfl⟩
  have hB : Below w.heap.size w (((w.alloc (.cells #[.slice A n c, .int .i64 lo, .int .i64 hi] 26)).alloc (.cells #[.slice A0 t.ms.length d0, .slice A1 t.ws.length d1, .slice A3 t.ss.length d2, .slice A4 t.vs.length d3, .slice A5 t.ns.length d4] 41)).alloc (.cells #[.int .i64 0, .int .i64 0, .int .i64 0] 44)) :=
    (((Below.refl _ _).alloc (Nat.le_refl _) _).alloc (by simp) _).alloc (by simp; omega) _
  have z0 := heap_alloc_new w (.cells #[.slice A n c, .int .i64 lo, .int .i64 hi] 26)
  have z1 := heap_alloc_new (w.alloc (.cells #[.slice A n c, .int .i64 lo, .int .i64 hi] 26)) (.cells #[.slice A0 t.ms.length d0, .slice A1 t.ws.length d1, .slice A3 t.ss.length d2, .slice A4 t.vs.length d3, .slice A5 t.ns.length d4] 41)
  have z2 := heap_alloc_new ((w.alloc (.cells #[.slice A n c, .int .i64 lo, .int .i64 hi] 26)).alloc (.cells #[.slice A0 t.ms.length d0, .slice A1 t.ws.length d1, .slice A3 t.ss.length d2, .slice A4 t.vs.length d3, .slice A5 t.ns.length d4] 41)) (.cells #[.int .i64 0, .int .i64 0, .int .i64 0] 44)
  simp only [World.size_alloc] at z1 z2
  have y0 := (Below.heap_alloc _ (.cells #[.int .i64 0, .int .i64 0, .int .i64 0] 44) _ (by simp; omega)).trans ((Below.heap_alloc _ (.cells #[.slice A0 t.ms.length d0, .slice A1 t.ws.length d1, .slice A3 t.ss.length d2, .slice A4 t.vs.length d3, .slice A5 t.ns.length d4] 41) _ (by simp)).trans z0)
  have y1 := (Below.heap_alloc _ (.cells #[.int .i64 0, .int .i64 0, .int .i64 0] 44) _ (by simp)).trans z1
  have HB := Lib.hid hB
  have Y0 := Lib.hid y0
  have Y1 := Lib.hid y1
  have Y2 := Lib.hid z2
  clear hB z0 z1 z2 y0 y1 hT T
  rcases yearsI_cases ls lo hi ys with hr | hr | hr
  · obtain ⟨g1, g2, g3⟩ := yearsI_zero hr
    have hm12 : m ≤ 12 := by rw [HM.out] at g1; exact g1
    have HR := Lib.hid hr; have GP := Lib.hid g2; have GY := Lib.hid g3
    have hn6 : n ≤ 6 := by have := (placeB_spec GP.out).1.2; rw [HL.out] at this; exact this
    clear hr g1 g2 g3
    go_enter Tryd.func25, Tryd.ntmps25
    go_wp2_with fail
    refine (checkYears_is 0 A A2 n c m c' ls ys lo hi _ HL.out HN.out (hL.next HB.out) HM.out HN2.out (hY.next HB.out) HR.out).mono ?_
    rintro e w2 ⟨rfl, hb⟩
    have B2 := Lib.hid (HB.out.trans (hb.mono HB.out.size))
    have X0 := Lib.hid ((hb.block _ (Array.getElem?_eq_some_iff.1 Y0.out).1).trans Y0.out)
    have X1 := Lib.hid ((hb.block _ (Array.getElem?_eq_some_iff.1 Y1.out).1).trans Y1.out)
    have X2 := Lib.hid ((hb.block _ (Array.getElem?_eq_some_iff.1 Y2.out).1).trans Y2.out)
    clear hb
    have p0 := cell_of_row w2 w.heap.size 0 _ 26 (0, 0) X0.out
    have p1 := cell_of_row w2 w.heap.size 1 _ 26 (0, 0) X0.out
    have p2 := cell_of_row w2 w.heap.size 2 _ 26 (0, 0) X0.out
    have q0 := cell_of_row w2 (w.heap.size + 1) 0 _ 41 (0, 0) X1.out
    have q1 := cell_of_row w2 (w.heap.size + 1) 1 _ 41 (0, 0) X1.out
    have q2 := cell_of_row w2 (w.heap.size + 1) 2 _ 41 (0, 0) X1.out
    have q3 := cell_of_row w2 (w.heap.size + 1) 3 _ 41 (0, 0) X1.out
    have q4 := cell_of_row w2 (w.heap.size + 1) 4 _ 41 (0, 0) X1.out
    simp at p0 p1 p2 q0 q1 q2 q3 q4
    go_wp2_with fail
    have hps := poss_any A A2 A0 A1 A3 A4 A5 n c m c' _ d0 _ d1 _ d2 _ d3 _ d4 ls ys lo hi t.ms t.ws t.ss t.vs t.ns w2 HL.out hn6 (hL.next B2.out) HM.out hm12 (hY.next B2.out) rfl N0.out (i0.next B2.out) rfl N1.out (i1.next B2.out) rfl N2.out (i2.next B2.out) rfl N3.out (i3.next B2.out) rfl N4.out (i4.next B2.out)
    cases hpo : possT ls lo hi ys t with
    | false =>
      have HO := Lib.hid hpo
      rw [show possB ls lo hi ys t.ms t.ws t.ss t.vs t.ns = false from hpo] at hps
      refine hps.mono ?_
      clear hps hpo
      rintro e w3 ⟨rfl, hb⟩
      have B3 := Lib.hid (B2.out.trans (hb.mono B2.out.size))
      have X3 := Lib.hid ((hb.block _ (Array.getElem?_eq_some_iff.1 X2.out).1).trans X2.out)
      clear hb
      have r0 := cell_of_row w3 (w.heap.size + 1 + 1) 0 _ 44 (0, 0) X3.out
      have r1 := cell_of_row w3 (w.heap.size + 1 + 1) 1 _ 44 (0, 0) X3.out
      have r2 := cell_of_row w3 (w.heap.size + 1 + 1) 2 _ 44 (0, 0) X3.out
      have f0 : ∀ i, w3.frozen? ⟨w.heap.size + 1 + 1, i, none⟩ = false := fun i => by simp [World.frozen?, X3.out]
      have f1 := f0 0
      have f2 := f0 1
      have f3 := f0 2
      clear f0
      simp at r0 r1 r2
      have hpl : playI ls lo hi ys t = ([], (0, 0, 0), 2) := by unfold playI; rw [HR.out, if_pos rfl, HO.out]; rfl
      have HPL := Lib.hid hpl
      clear hpl
      go_wp2_with fail
      exact bodyPost_ret (v := .tuple #[.slice none 0 0, .agg #[.int .i64 0, .int .i64 0, .int .i64 0], .int .i64 2]) (by simp [results, Tryd.results25, go_sem, r0, r1, r2]) rfl
        (by rw [HPL.out]; exact ⟨_, rfl, SlInts.nil_ _, ((B3.out.setCell (p := ⟨w.heap.size + 1 + 1, 0, none⟩) (by show _ ≤ w.heap.size + 1 + 1; omega) _).setCell (p := ⟨w.heap.size + 1 + 1, 1, none⟩) (by show _ ≤ w.heap.size + 1 + 1; omega) _).setCell (p := ⟨w.heap.size + 1 + 1, 2, none⟩) (by show _ ≤ w.heap.size + 1 + 1; omega) _⟩)
    | true =>
      have HO := Lib.hid hpo
      have hTk : TruOk t n m := by have := possT_ok GP.out GY.out hpo; rw [HL.out, HM.out] at this; exact this
      have HT := Lib.hid hTk; clear hTk
      rw [show possB ls lo hi ys t.ms t.ws t.ss t.vs t.ns = true from hpo] at hps
      refine hps.mono ?_
      clear hps hpo
      rintro e w3 ⟨rfl, hb⟩
      have B3 := Lib.hid (B2.out.trans (hb.mono B2.out.size))
      have hbs := hb.size
      have X3 := Lib.hid ((hb.block _ (Array.getElem?_eq_some_iff.1 X2.out).1).trans X2.out)
      have l0 := (Array.getElem?_eq_some_iff.1 X0.out).1
      have l1 := (Array.getElem?_eq_some_iff.1 X1.out).1
      replace p0 := ((bcell hb).1 _ 0 l0).trans p0
      replace p1 := ((bcell hb).1 _ 1 l0).trans p1
      replace p2 := ((bcell hb).1 _ 2 l0).trans p2
      replace q0 := ((bcell hb).1 _ 0 l1).trans q0
      replace q1 := ((bcell hb).1 _ 1 l1).trans q1
      replace q2 := ((bcell hb).1 _ 2 l1).trans q2
      replace q3 := ((bcell hb).1 _ 3 l1).trans q3
      replace q4 := ((bcell hb).1 _ 4 l1).trans q4
      clear hb
      go_wp2_with fail
      refine (follow_own A n c ls t _ _ _ _ _ lo hi 0 m w3 HL.out hcap GP.out (hL.next B3.out) HT.out hm12 ⟨by omega, by omega⟩ (S0.out.next B3.out) (S1.out.next B3.out) (S2.out.next B3.out) (S3.out.next B3.out) (S4.out.next B3.out)).mono ?_
      rintro e w4 ⟨g, u0, u1, u2, u3, u4, u5, u6, u7, u8, tv, lv, rfl, hF, hth, hln, hb⟩
      have B4 := Lib.hid (B3.out.trans (hb.mono B3.out.size))
      have X4 := Lib.hid ((hb.block _ (Array.getElem?_eq_some_iff.1 X3.out).1).trans X3.out)
      clear hb p0 p1 p2 q0 q1 q2 q3 q4
      have hpl : playI ls lo hi ys t = ((runS ls t 0 m).th, ((runS ls t 0 m).In, (runS ls t 0 m).Out, (runS ls t 0 m).Lf), 0) := by unfold playI; rw [HR.out, if_pos rfl, HO.out, HM.out]; rfl
      have HPL := Lib.hid hpl
      clear hpl
      have k13 := hF.cell 13
      have k11 := hF.cell 11
      have k12 := hF.cell 12
      have k10 := hF.cell 10
      simp at k13 k11 k12 k10
      have r0 := cell_of_row w4 (w.heap.size + 1 + 1) 0 _ 44 (0, 0) X4.out
      have r1 := cell_of_row w4 (w.heap.size + 1 + 1) 1 _ 44 (0, 0) X4.out
      have r2 := cell_of_row w4 (w.heap.size + 1 + 1) 2 _ 44 (0, 0) X4.out
      have f0 : ∀ i, w4.frozen? ⟨w.heap.size + 1 + 1, i, none⟩ = false := fun i => by simp [World.frozen?, X4.out]
      have f1 := f0 0
      have f2 := f0 1
      have f3 := f0 2
      clear f0
      simp at r0 r1 r2
      have HTH := Lib.hid hth
      have hgT : g ≠ w.heap.size + 1 + 1 := fun e => by
        have h1 := X4.out
        rw [← e, show w4.heap[g]? = _ from hF] at h1
        injection h1 with h1
        injection h1 with _ h2
        exact absurd h2 (by decide)
      have HGT := Lib.hid hgT
      have HLN := Lib.hid hln
      clear hF hth hln hgT
      go_wp2_with fail
      go_region
      go_wp2
      have hfr : ∀ row, Frm w4.heap.size (w.heap.size + 1 + 1) row w4 (((w4.setCell ⟨w.heap.size + 1 + 1, 0, none⟩ (.int .i64 (runS ls t 0 m).In)).setCell ⟨w.heap.size + 1 + 1, 1, none⟩ (.int .i64 (runS ls t 0 m).Out)).setCell ⟨w.heap.size + 1 + 1, 2, none⟩ (.int .i64 (runS ls t 0 m).Lf)) := fun row =>
        ((Frm.set_ _ 0 _).trans (Frm.set_ _ 1 _)).trans (Frm.set_ _ 2 _)
      have hoN := own_frm (row := some (w.heap.size + 1 + 1)) (g := w.heap.size + 1 + 1) HTH.out (hfr _) (own44_ne X4.out HTH.out) (.inr (own44_ne X4.out HTH.out))
      exact bodyPost_ret (v := .tuple #[tv, .agg #[.int .i64 (runS ls t 0 m).In, .int .i64 (runS ls t 0 m).Out, .int .i64 (runS ls t 0 m).Lf], .int .i64 0]) (by simp [results, Tryd.results25, go_sem, r0, r1, r2]) rfl
        (by rw [HPL.out]; exact ⟨_, rfl, SlInts.of_own (World.ownsRow.drew hoN) HLN.out, (B4.out.trans ((hfr none).below B4.out.size (by omega) (by simp))).drew⟩)
  all_goals
    have HR := Lib.hid hr
    clear hr
    have hpl : playI ls lo hi ys t = ([], (0, 0, 0), yearsI ls lo hi ys) := by unfold playI; rw [if_neg (by rw [HR.out]; decide)]
    have HPL := Lib.hid hpl
    clear hpl
    go_enter Tryd.func25, Tryd.ntmps25
    go_wp2_with fail
    refine (checkYears_is _ A A2 n c m c' ls ys lo hi _ HL.out HN.out (hL.next HB.out) HM.out HN2.out (hY.next HB.out) HR.out).mono ?_
    rintro e w2 ⟨rfl, hb⟩
    have B3 := Lib.hid (HB.out.trans (hb.mono HB.out.size))
    have X3 := Lib.hid ((hb.block _ (Array.getElem?_eq_some_iff.1 Y2.out).1).trans Y2.out)
    clear hb
    have r0 := cell_of_row w2 (w.heap.size + 1 + 1) 0 _ 44 (0, 0) X3.out
    have r1 := cell_of_row w2 (w.heap.size + 1 + 1) 1 _ 44 (0, 0) X3.out
    have r2 := cell_of_row w2 (w.heap.size + 1 + 1) 2 _ 44 (0, 0) X3.out
    have f0 : ∀ i, w2.frozen? ⟨w.heap.size + 1 + 1, i, none⟩ = false := fun i => by simp [World.frozen?, X3.out]
    have f1 := f0 0
    have f2 := f0 1
    have f3 := f0 2
    clear f0
    simp at r0 r1 r2
    go_wp2_with fail
    refine bodyPost_ret (v := .tuple #[.slice none 0 0, .agg #[.int .i64 0, .int .i64 0, .int .i64 0], .int .i64 _]) (by simp [results, Tryd.results25, go_sem, r0, r1, r2]; rfl) rfl ?_
    rw [HPL.out, HR.out]
    exact ⟨_, rfl, SlInts.nil_ _, ((B3.out.setCell (p := ⟨w.heap.size + 1 + 1, 0, none⟩) (by show _ ≤ w.heap.size + 1 + 1; omega) _).setCell (p := ⟨w.heap.size + 1 + 1, 1, none⟩) (by show _ ≤ w.heap.size + 1 + 1; omega) _).setCell (p := ⟨w.heap.size + 1 + 1, 2, none⟩) (by show _ ≤ w.heap.size + 1 + 1; omega) _⟩
end Go.Proofs.YtccekbdhffccdaaDoor

namespace Go.Proofs.YtccekbdhffccdaaDoor
open Go.RowKit

/-- The depth of some heat, layer by layer: thickness and ice. -/
def depthC : List (Int × Int) → Int → Int
  | [], _ => 0
  | [(_, m)], h => h / m
  | (t, m) :: p :: r, h => if h < t * m then h / m else t + depthC (p :: r) (h - t * m)
theorem depthC_zero : ∀ (l : List (Int × Int)), (∀ p ∈ l, 1 ≤ p.1 ∧ 1 ≤ p.2) → depthC l 0 = 0 := by
  intro l
  cases l with
  | nil => intro _; rfl
  | cons p r =>
    intro h
    obtain ⟨t, m⟩ := p
    have := h (t, m) (by simp)
    have hp : 0 < t * m := Int.mul_pos (by omega) (by omega)
    cases r with
    | nil => simp [depthC]
    | cons q r => simp [depthC, hp]
theorem depthC_nonneg : ∀ (l : List (Int × Int)) (h : Int), (∀ p ∈ l, 1 ≤ p.1 ∧ 1 ≤ p.2) → 0 ≤ h → 0 ≤ depthC l h := by
  intro l
  induction l with
  | nil => intro _ _ _; exact Int.le_refl _
  | cons p r ih =>
    intro h hp hh
    obtain ⟨t, m⟩ := p
    have h1 := hp (t, m) (by simp)
    cases r with
    | nil => exact Int.ediv_nonneg hh (by omega)
    | cons q r =>
      simp only [depthC]
      split
      · exact Int.ediv_nonneg hh (by omega)
      · have := ih (h - t * m) (fun x hx => hp x (by simp [hx])) (by omega)
        omega
theorem fold_zero (ms : List Int) : ∀ (l : List (Nat × Int)) (d : Int), (∀ p ∈ l, 0 ≤ p.2) → (l.foldl (dstep ms) (d, 0)).1 = d := by
  intro l
  induction l with
  | nil => intro d _; rfl
  | cons p r ih =>
    intro d hp
    have h1 := hp p (by simp)
    have : dstep ms (d, 0) p = (d, 0) := by simp [dstep, Int.min_eq_left h1]
    rw [List.foldl_cons, this]
    exact ih d (fun x hx => hp x (by simp [hx]))
def lpOf (ls : List Lay) (ms : List Int) : List (Int × Int) := (ls.map (·.t)).zip ms
theorem lpOf_get {ls : List Lay} {ms : List Int} {k : Nat} {x : Lay} {m : Int} (hx : ls[k]? = some x) (hm : ms[k]? = some m) : (lpOf ls ms)[k]? = some (x.t, m) := by
  unfold lpOf
  rw [List.getElem?_zip_eq_some]
  simp [hx, hm]
theorem fold_depthC {ls : List Lay} {ms : List Int} (hl : ms.length = ls.length) (ht : ∀ x ∈ ls, 1 ≤ x.t) (hm : ∀ x ∈ ms, 1 ≤ x) : ∀ n k d h, k + n + 1 = ls.length → 0 ≤ h → h ≤ 9223372036854775807 →
    (((List.range' k n).map (fun k => (k, heatOf ls ms k)) ++ [(ls.length - 1, 9223372036854775807)]).foldl (dstep ms) (d, h)).1 = d + depthC ((lpOf ls ms).drop k) h := by
  intro n
  induction n with
  | zero =>
    intro k d h hk h0 h1
    obtain ⟨x, hx⟩ := get_of_lt (l := ls) (k := k) (by omega)
    obtain ⟨m, hm'⟩ := get_of_lt (l := ms) (k := k) (by omega)
    have hlen : (lpOf ls ms).length = k + 1 := by simp [lpOf]; omega
    have hd : (lpOf ls ms).drop k = [(x.t, m)] := by
      have hg := lpOf_get hx hm'
      have hk' : k < (lpOf ls ms).length := by omega
      rw [List.drop_eq_getElem_cons hk', List.drop_of_length_le (by omega)]
      rw [List.getElem?_eq_getElem hk'] at hg
      injection hg with hg
      rw [hg]
    rw [hd]
    have hk2 : ls.length - 1 = k := by omega
    simp only [List.range'_zero, List.map_nil, List.nil_append, List.foldl_cons, List.foldl_nil, dstep, depthC, hk2, hm', Option.getD_some]
    rw [Int.min_eq_left h1]
  | succ n ih =>
    intro k d h hk h0 h1
    obtain ⟨x, hx⟩ := get_of_lt (l := ls) (k := k) (by omega)
    obtain ⟨m, hm'⟩ := get_of_lt (l := ms) (k := k) (by omega)
    have hlen : (lpOf ls ms).length = ls.length := by simp [lpOf]; omega
    have hk' : k < (lpOf ls ms).length := by omega
    have hk2 : k + 1 < (lpOf ls ms).length := by omega
    have hd : (lpOf ls ms).drop k = (x.t, m) :: (lpOf ls ms).drop (k + 1) := by
      have hg := lpOf_get hx hm'
      rw [List.drop_eq_getElem_cons hk']
      rw [List.getElem?_eq_getElem hk'] at hg
      injection hg with hg
      rw [hg]
    have tx := ht x (List.mem_of_getElem? hx)
    have mx := hm m (List.mem_of_getElem? hm')
    have hp : 1 ≤ x.t * m := Int.mul_pos (by omega) (by omega)
    have hC : depthC ((lpOf ls ms).drop k) h = if h < x.t * m then h / m else x.t + depthC ((lpOf ls ms).drop (k + 1)) (h - x.t * m) := by
      rw [hd, List.drop_eq_getElem_cons hk2]
      simp only [depthC]
    rw [hC, List.range'_succ, List.map_cons, List.cons_append, List.foldl_cons]
    have hs : dstep ms (d, h) (k, heatOf ls ms k) = (d + min h (x.t * m) / m, h - min h (x.t * m)) := by simp [dstep, heatOf, hx, hm']
    rw [hs]
    split
    · rename_i hlt
      rw [Int.min_eq_left (by omega), Int.sub_self]
      refine fold_zero ms _ _ (fun p hp => ?_)
      rw [List.mem_append, List.mem_map, List.mem_singleton] at hp
      rcases hp with ⟨i, hi, rfl⟩ | rfl
      · simp only [heatOf]
        rw [List.mem_range'_1] at hi
        obtain ⟨y, hy⟩ := get_of_lt (l := ls) (k := i) (by omega)
        obtain ⟨z, hz⟩ := get_of_lt (l := ms) (k := i) (by omega)
        have t1 := ht y (List.mem_of_getElem? hy)
        have t2 := hm z (List.mem_of_getElem? hz)
        simp only [hy, hz, Option.elim_some, Option.getD_some]
        exact Int.mul_nonneg (by omega) (by omega)
      · exact (by decide : (0 : Int) ≤ 9223372036854775807)
    · rename_i hlt
      rw [Int.min_eq_right (by omega), Int.mul_ediv_cancel _ (by omega), ih (k + 1) _ _ (by omega) (by omega) (by omega)]
      omega
theorem depthF_C {ls : List Lay} {ms : List Int} {h : Int} (hl : ms.length = ls.length) (h1 : 1 ≤ ls.length) (ht : ∀ x ∈ ls, 1 ≤ x.t) (hm : ∀ x ∈ ms, 1 ≤ x) (h0 : 0 ≤ h) (hb : h ≤ 1000000000) : depthF ls ms h = depthC (lpOf ls ms) h := by
  have := fold_depthC hl ht hm (ls.length - 1) 0 0 h (by omega) h0 (by omega)
  rw [List.drop_zero, Int.zero_add, ← List.range_eq_range'] at this
  exact this

def allLe : List Int → List Int → Prop
  | [], [] => True
  | a :: r, b :: s => a ≤ b ∧ allLe r s
  | _, _ => False
theorem allLe_map {α : Type} {f g : α → Int} : ∀ {l : List α}, (∀ x ∈ l, f x ≤ g x) → allLe (l.map f) (l.map g) := by
  intro l
  induction l with
  | nil => intro _; trivial
  | cons a r ih => intro h; exact ⟨h a (by simp), ih (fun x hx => h x (by simp [hx]))⟩
theorem allLe_at : ∀ {a b : List Int}, a.length = b.length → (∀ i, i < a.length → at0 a i ≤ at0 b i) → allLe a b := by
  intro a
  induction a with
  | nil => intro b hb _; cases b with | nil => trivial | cons _ _ => simp at hb
  | cons x r ih =>
    intro b hb h
    cases b with
    | nil => simp at hb
    | cons y s => exact ⟨by simpa [at0] using h 0 (by simp), ih (by simpa using hb) (fun i hi => by simpa [at0] using h (i + 1) (by simpa using hi))⟩
theorem div_mono {h h' m m' : Int} (h0 : 0 ≤ h) (hh : h ≤ h') (hm : 1 ≤ m') (hmm : m' ≤ m) : h / m ≤ h' / m' := by
  refine Int.le_trans (Int.ediv_le_ediv (by omega) hh) (Int.le_ediv_of_mul_le (by omega) ?_)
  have q0 : 0 ≤ h' / m := Int.ediv_nonneg (by omega) (by omega)
  exact Int.le_trans (Int.mul_le_mul_of_nonneg_left hmm q0) (Int.ediv_mul_le _ (by omega))
theorem depthC_mono : ∀ (ts ms ms' : List Int) (h h' : Int), ts.length = ms.length → (∀ t ∈ ts, 1 ≤ t) → (∀ m ∈ ms', 1 ≤ m) → allLe ms' ms → 0 ≤ h → h ≤ h' → depthC (ts.zip ms) h ≤ depthC (ts.zip ms') h' := by
  intro ts
  induction ts with
  | nil => intro ms ms' h h' _ _ _ _ _ _; simp [depthC]
  | cons t r ih =>
    intro ms ms' h h' hl ht hm hle h0 hh
    match ms, ms', hl, hle with
    | m :: s, m' :: s', hl, ⟨ha, hb⟩ =>
      have t1 := ht t (by simp)
      have m1 := hm m' (by simp)
      have hd := div_mono h0 hh m1 ha
      match r, s, s', hl, hb with
      | [], [], s', hl, hb =>
        simp only [List.zip_cons_cons, List.zip_nil_left, depthC]
        exact hd
      | t2 :: r, n :: s, n' :: s', hl, hb =>
        have hmm : t * m' ≤ t * m := Int.mul_le_mul_of_nonneg_left ha (by omega)
        have hp : 1 ≤ t * m' := Int.mul_pos (by omega) (by omega)
        have hi := fun a b => ih (n :: s) (n' :: s') a b (by simpa using hl) (fun x hx => ht x (List.mem_cons_of_mem _ hx)) (fun x hx => hm x (List.mem_cons_of_mem _ hx)) hb
        simp only [List.zip_cons_cons] at hi ⊢
        simp only [depthC]
        by_cases c1 : h < t * m
        · rw [if_pos c1]
          by_cases c2 : h' < t * m'
          · rw [if_pos c2]; exact hd
          · rw [if_neg c2]
            have hq : h / m ≤ t := Int.ediv_le_of_le_mul (by omega) (by omega)
            have hn : 0 ≤ depthC ((t2, n') :: r.zip s') (h' - t * m') := by
              refine depthC_nonneg _ _ (fun p hp => ?_) (by omega)
              have : p ∈ (t2 :: r).zip (n' :: s') := by simpa using hp
              obtain ⟨a1, a2⟩ := List.of_mem_zip this
              exact ⟨ht _ (List.mem_cons_of_mem _ a1), hm _ (List.mem_cons_of_mem _ a2)⟩
            omega
        · rw [if_neg c1, if_neg (by omega)]
          have := hi (h - t * m) (h' - t * m') (by omega) (by omega)
          omega

/-- One truth is as warm as another one, or warmer. -/
structure Warmer (t t' : Tru) (N : Nat) : Prop where
  ms : allLe t'.ms t.ms
  ws : ∀ i, i < N → at0 t.ws i ≤ at0 t'.ws i
  ss : ∀ i, i < N → at0 t.ss i ≤ at0 t'.ss i
  vs : ∀ i, i < N → at0 t'.vs i ≤ at0 t.vs i
  ns : ∀ i, i < N → at0 t.ns i ≤ at0 t'.ns i
theorem letsI_mono {w w' n n' mo mo' : Int} (hw : 0 ≤ w') (hww : w' ≤ w) (hn : n' ≤ 1000) (hnn : n ≤ n') (hmo : mo' ≤ mo) : letsI w' n' mo' ≤ letsI w n mo := by
  have h1 : w' * (1000 - n') ≤ w * (1000 - n) := Int.le_trans (Int.mul_le_mul_of_nonneg_left (by omega) hw) (Int.mul_le_mul_of_nonneg_right hww (by omega))
  unfold letsI
  omega
theorem at0_snoc (l : List Int) (x : Int) (i : Nat) : at0 (l ++ [x]) i = if i < l.length then at0 l i else if i = l.length then x else 0 := by
  unfold at0
  split
  · rw [List.getElem?_append_left (by assumption)]
  · rw [List.getElem?_append_right (by omega)]
    split
    · subst_vars; simp
    · rename_i h1 h2
      rw [List.getElem?_eq_none (by simp; omega)]; rfl
theorem runS_mono {ls ls' : List Lay} {t t' : Tru} {mo mo' : Int} {L N : Nat} (hL : ls.length = L) (hL' : ls.map (·.t) = ls'.map (·.t)) (h1 : 1 ≤ L) (ht : ∀ x ∈ ls, 1 ≤ x.t) (hT : TruOk t L N) (hT' : TruOk t' L N) (hN : N ≤ 12) (hm : 0 ≤ mo ∧ mo ≤ 1000000) (hm' : 0 ≤ mo' ∧ mo' ≤ 1000000) (hmo : mo' ≤ mo) (hW : Warmer t t' N) :
    ∀ k, k ≤ N → (runS ls t mo k).R ≤ (runS ls' t' mo' k).R ∧ (runS ls t mo k).Lf ≤ (runS ls' t' mo' k).Lf ∧ (∀ i, i < k → at0 (runS ls t mo k).th i ≤ at0 (runS ls' t' mo' k).th i ∧ at0 (runS ls t mo k).lf i ≤ at0 (runS ls' t' mo' k).lf i) := by
  intro k
  induction k with
  | zero => intro _; exact ⟨Int.le_refl _, Int.le_refl _, fun i hi => absurd hi (by omega)⟩
  | succ k ih =>
    intro hk
    obtain ⟨i1, i2, i3⟩ := ih (by omega)
    obtain ⟨⟨a1, a2⟩, ⟨b1, b2⟩, _, _, e1, e2, _⟩ := runS_b (ls := ls) hT hm k (by omega)
    obtain ⟨⟨c1, c2⟩, ⟨d1, d2⟩, _, _, f1, f2, _⟩ := runS_b (ls := ls') hT' hm' k (by omega)
    have w1 := hT.bw _ (at0_mem (l := t.ws) (k := k) (by rw [hT.lw]; omega)).2
    have s1 := hT.bS _ (at0_mem (l := t.ss) (k := k) (by rw [hT.lS]; omega)).2
    have w2 := hT'.bw _ (at0_mem (l := t'.ws) (k := k) (by rw [hT'.lw]; omega)).2
    have s2 := hT'.bS _ (at0_mem (l := t'.ss) (k := k) (by rw [hT'.lS]; omega)).2
    have v1 := hT.bv _ (at0_mem (l := t.vs) (k := k) (by rw [hT.lv]; omega)).2
    have n1 := hT.bn _ (at0_mem (l := t.ns) (k := k) (by rw [hT.ln]; omega)).2
    have v2 := hT'.bv _ (at0_mem (l := t'.vs) (k := k) (by rw [hT'.lv]; omega)).2
    have n2 := hT'.bn _ (at0_mem (l := t'.ns) (k := k) (by rw [hT'.ln]; omega)).2
    have hlets : letsI (at0 t'.vs k) (at0 t'.ns k) mo' ≤ letsI (at0 t.vs k) (at0 t.ns k) mo := letsI_mono v2.1 (hW.vs k (by omega)) n2.2 (hW.ns k (by omega)) hmo
    have hws := hW.ws k (by omega)
    have hss := hW.ss k (by omega)
    have l1 : ls'.length = L := by have := congrArg List.length hL'; simpa [hL] using this.symm
    have ht' : ∀ x ∈ ls', 1 ≤ x.t := fun x hx => by
      have : x.t ∈ ls.map (·.t) := by rw [hL']; exact List.mem_map.2 ⟨x, hx, rfl⟩
      obtain ⟨y, hy, e⟩ := List.mem_map.1 this
      rw [← e]; exact ht y hy
    have hdep : ∀ h h' : Int, 0 ≤ h → h ≤ h' → h' ≤ 1000000000 → depthF ls t.ms h ≤ depthF ls' t'.ms h' := fun h h' q1 q2 q3 => by
      rw [depthF_C (by rw [hT.lm, hL]) (by omega) ht (fun x hx => (hT.bm x hx).1) q1 (by omega), depthF_C (by rw [hT'.lm, l1]) (by omega) ht' (fun x hx => (hT'.bm x hx).1) (by omega) q3]
      unfold lpOf
      rw [← hL']
      refine depthC_mono _ _ _ _ _ (by simp [hT.lm, hL]) ?_ (fun x hx => (hT'.bm x hx).1) hW.ms q1 q2
      intro x hx
      obtain ⟨y, hy, e⟩ := List.mem_map.1 hx
      rw [← e]; exact ht y hy
    simp only [runS]
    generalize letsI (at0 t.vs k) (at0 t.ns k) mo = lt at *
    generalize letsI (at0 t'.vs k) (at0 t'.ns k) mo' = lt' at *
    generalize hq : at0 t.ws k + at0 t.ss k = heat
    generalize hq' : at0 t'.ws k + at0 t'.ss k = heat'
    generalize runS ls t mo k = s at *
    generalize runS ls' t' mo' k = s' at *
    have hX : 0 ≤ reachI s.R (s.Lf + heat) ∧ reachI s.R (s.Lf + heat) ≤ reachI s'.R (s'.Lf + heat') ∧ reachI s'.R (s'.Lf + heat') ≤ 1000000000 := by
      unfold reachI
      split <;> split <;> omega
    have hD := hdep _ _ hX.1 hX.2.1 hX.2.2
    refine ⟨?_, ?_, ?_⟩
    · unfold stepS
      split <;> split <;> simp only [] <;> omega
    · unfold stepS
      split <;> split <;> simp only [] <;> omega
    · intro i hi
      unfold stepS
      split <;> split <;> simp only [at0_snoc, e1, e2, f1, f2] <;> by_cases hik : i < k
      all_goals first
        | (rw [if_pos hik, if_pos hik, if_pos hik, if_pos hik]; exact i3 i hik)
        | (have : i = k := by omega
           subst this
           simp only [Nat.lt_irrefl, if_false, if_true]
           exact ⟨hD, by omega⟩)
theorem at0_map {α : Type} {f : α → Int} {l : List α} {i : Nat} {x : α} (h : l[i]? = some x) : at0 (l.map f) i = f x := by simp [at0, h]
theorem allB_at {xs : List Int} {ss : List (Int × Int)} (h : allB xs ss = true) {k : Nat} (hk : k < xs.length) : ∃ s, ss[k]? = some s ∧ s.1 ≤ at0 xs k ∧ at0 xs k ≤ s.2 := by
  simp only [allB, Bool.and_eq_true, decide_eq_true_eq, List.all_eq_true] at h
  obtain ⟨hx, _⟩ := at0_mem hk
  obtain ⟨s, hs⟩ := get_of_lt (l := ss) (k := k) (by rw [← h.1]; exact hk)
  have := h.2 (at0 xs k, s) (List.mem_of_getElem? (i := k) (by rw [List.getElem?_zip_eq_some]; exact ⟨hx, hs⟩))
  simp only [okB, inB_iff] at this
  exact ⟨s, hs, this.1, this.2⟩
theorem allB_map {α : Type} {xs : List Int} {l : List α} {f : α → Int × Int} (h : allB xs (l.map f) = true) {k : Nat} {y : α} (hy : l[k]? = some y) : (f y).1 ≤ at0 xs k ∧ at0 xs k ≤ (f y).2 := by
  have hl : xs.length = l.length := by
    simp only [allB, Bool.and_eq_true, decide_eq_true_eq, List.length_map] at h
    exact h.1
  obtain ⟨s, hs, h1, h2⟩ := allB_at h (k := k) (by rw [hl]; exact (List.getElem?_eq_some_iff.1 hy).1)
  rw [List.getElem?_map, hy] at hs
  injection hs with hs
  subst hs
  exact ⟨h1, h2⟩
theorem possT_at {ls : List Lay} {lo hi : Int} {ys : List Yr} {t : Tru} (h : possT ls lo hi ys t = true) :
    (t.ms.length = ls.length ∧ ∀ k x, ls[k]? = some x → x.lo ≤ at0 t.ms k ∧ at0 t.ms k ≤ x.hi) ∧
    ∀ k y, ys[k]? = some y → (lo ≤ at0 t.ws k ∧ at0 t.ws k ≤ hi) ∧ (y.sl ≤ at0 t.ss k ∧ at0 t.ss k ≤ y.sh) ∧ (y.wl ≤ at0 t.vs k ∧ at0 t.vs k ≤ y.wh) ∧ (y.nl ≤ at0 t.ns k ∧ at0 t.ns k ≤ y.nh) := by
  simp only [possT, possB, Bool.and_eq_true] at h
  obtain ⟨h1, h2, h3, h4, h5⟩ := h
  refine ⟨⟨?_, fun k x hx => allB_map (f := fun l : Lay => (l.lo, l.hi)) h1 hx⟩, fun k y hy => ⟨allB_map (f := fun _ : Yr => (lo, hi)) h2 hy, allB_map (f := fun y : Yr => (y.sl, y.sh)) h3 hy, allB_map (f := fun y : Yr => (y.wl, y.wh)) h4 hy, allB_map (f := fun y : Yr => (y.nl, y.nh)) h5 hy⟩⟩
  simp only [allB, Bool.and_eq_true, decide_eq_true_eq, laySpans, List.length_map] at h1
  exact h1.1
theorem warmer_cold {ls : List Lay} {lo hi : Int} {ys : List Yr} {t : Tru} (h : possT ls lo hi ys t = true) : Warmer (extT false ls lo hi ys) t ys.length := by
  obtain ⟨⟨hl, hm⟩, hy⟩ := possT_at h
  refine ⟨?_, ?_, ?_, ?_, ?_⟩
  · refine allLe_at (by simp [extT, hl]) fun i hi' => ?_
    obtain ⟨x, hx⟩ := get_of_lt (l := ls) (k := i) (by omega)
    rw [show (extT false ls lo hi ys).ms = ls.map (fun l => l.hi) by simp [extT], at0_map hx]
    exact (hm i x hx).2
  all_goals
    intro i hi'
    obtain ⟨y, hy'⟩ := get_of_lt (l := ys) (k := i) hi'
    obtain ⟨⟨a1, a2⟩, ⟨b1, b2⟩, ⟨c1, c2⟩, d1, d2⟩ := hy i y hy'
    simp only [extT, at0_map hy']
    simp
    assumption
theorem warmer_warm {ls : List Lay} {lo hi : Int} {ys : List Yr} {t : Tru} (h : possT ls lo hi ys t = true) : Warmer t (extT true ls lo hi ys) ys.length := by
  obtain ⟨⟨hl, hm⟩, hy⟩ := possT_at h
  refine ⟨?_, ?_, ?_, ?_, ?_⟩
  · refine allLe_at (by simp [extT, hl]) fun i hi' => ?_
    obtain ⟨x, hx⟩ := get_of_lt (l := ls) (k := i) (by simp [extT] at hi'; omega)
    rw [show (extT true ls lo hi ys).ms = ls.map (fun l => l.lo) by simp [extT], at0_map hx]
    exact (hm i x hx).1
  all_goals
    intro i hi'
    obtain ⟨y, hy'⟩ := get_of_lt (l := ys) (k := i) hi'
    obtain ⟨⟨a1, a2⟩, ⟨b1, b2⟩, ⟨c1, c2⟩, d1, d2⟩ := hy i y hy'
    simp only [extT, at0_map hy']
    simp
    assumption
/-- Whatever is true: thaw, and the heat that is left, lie between those of both ends. -/
theorem between {ls : List Lay} {lo hi : Int} {ys : List Yr} {t : Tru} (hp : placeB ls lo hi = true) (hy : ys.all yrB = true) (hn : ys.length ≤ 12) (h : possT ls lo hi ys t = true) :
    ∀ k, k ≤ ys.length → ((runS ls (extT false ls lo hi ys) 0 k).Lf ≤ (runS ls t 0 k).Lf ∧ (runS ls t 0 k).Lf ≤ (runS ls (extT true ls lo hi ys) 0 k).Lf) ∧
      ∀ i, i < k → (at0 (runS ls (extT false ls lo hi ys) 0 k).th i ≤ at0 (runS ls t 0 k).th i ∧ at0 (runS ls t 0 k).th i ≤ at0 (runS ls (extT true ls lo hi ys) 0 k).th i) := by
  intro k hk
  obtain ⟨⟨p1, p2⟩, _, hx⟩ := placeB_spec hp
  have T := possT_ok hp hy h
  have C := extT_ok (lo := lo) (hi := hi) false hp hy
  have M := extT_ok (lo := lo) (hi := hi) true hp hy
  obtain ⟨_, a2, a3⟩ := runS_mono (mo := 0) (mo' := 0) rfl rfl p1 (fun x hm => (hx x hm).1.1) C T hn ⟨by omega, by omega⟩ ⟨by omega, by omega⟩ (Int.le_refl _) (warmer_cold h) k hk
  obtain ⟨_, b2, b3⟩ := runS_mono (mo := 0) (mo' := 0) rfl rfl p1 (fun x hm => (hx x hm).1.1) T M hn ⟨by omega, by omega⟩ ⟨by omega, by omega⟩ (Int.le_refl _) (warmer_warm h) k hk
  exact ⟨⟨a2, b2⟩, fun i hi' => ⟨(a3 i hi').1, (b3 i hi').1⟩⟩
theorem run_len (ls : List Lay) (t : Tru) (mo : Int) : ∀ k, (runS ls t mo k).th.length = k ∧ (runS ls t mo k).lf.length = k := by
  intro k
  induction k with
  | zero => simp [runS, st0]
  | succ k ih =>
    simp only [runS, step_eq]
    simp [ih]
theorem lf_at (ls : List Lay) (t : Tru) (mo : Int) : ∀ k i, i < k → at0 (runS ls t mo k).lf i = (runS ls t mo (i + 1)).Lf ∧ at0 (runS ls t mo k).th i = at0 (runS ls t mo (i + 1)).th i := by
  intro k
  induction k with
  | zero => intro i hi; omega
  | succ k ih =>
    intro i hi
    by_cases hik : i = k
    · subst hik
      obtain ⟨l1, l2⟩ := run_len ls t mo i
      refine ⟨?_, rfl⟩
      simp only [runS, step_eq, at0_snoc, l2]
      simp
    · obtain ⟨h1, h2⟩ := ih i (by omega)
      obtain ⟨l1, l2⟩ := run_len ls t mo k
      rw [← h1, ← h2]
      simp only [runS, step_eq, at0_snoc, l1, l2]
      rw [if_pos (by omega), if_pos (by omega)]
      exact ⟨rfl, rfl⟩
/-- The first years of a truth alone. -/
def cutT (t : Tru) (n : Nat) : Tru := ⟨t.ms, t.ws.take n, t.ss.take n, t.vs.take n, t.ns.take n⟩
theorem at0_take {l : List Int} {n i : Nat} (h : i < n) : at0 (l.take n) i = at0 l i := by simp [at0, h]
theorem run_cut (ls : List Lay) (t : Tru) (mo : Int) (n : Nat) : ∀ k, k ≤ n → runS ls (cutT t n) mo k = runS ls t mo k := by
  intro k
  induction k with
  | zero => intro _; rfl
  | succ k ih =>
    intro hk
    have e := ih (by omega)
    simp only [runS]
    rw [e]
    simp only [cutT]
    rw [at0_take (by omega), at0_take (by omega), at0_take (by omega), at0_take (by omega)]
theorem allB_take {xs : List Int} {ss : List (Int × Int)} (h : allB xs ss = true) (n : Nat) : allB (xs.take n) (ss.take n) = true := by
  simp only [allB, Bool.and_eq_true, decide_eq_true_eq, List.all_eq_true] at h ⊢
  refine ⟨by simp [h.1], fun p hp => h.2 p ?_⟩
  rw [List.zip_eq_zipWith, ← List.take_zipWith, ← List.zip_eq_zipWith] at hp
  exact List.mem_of_mem_take hp
theorem possT_cut {ls : List Lay} {lo hi : Int} {ys : List Yr} {t : Tru} (h : possT ls lo hi ys t = true) (n : Nat) : possT ls lo hi (ys.take n) (cutT t n) = true := by
  simp only [possT, possB, Bool.and_eq_true, cutT, warmSpans, sumSpans, winSpans, snowSpans, List.map_take] at h ⊢
  obtain ⟨h1, h2, h3, h4, h5⟩ := h
  exact ⟨h1, allB_take h2 n, allB_take h3 n, allB_take h4 n, allB_take h5 n⟩
end Go.Proofs.YtccekbdhffccdaaDoor
