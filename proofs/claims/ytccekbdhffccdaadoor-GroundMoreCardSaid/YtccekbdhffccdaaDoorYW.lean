/- The statement on thaw: whatever is true lies within what is told, year by year. The walk. -/
import Derived.Test.YtccekbdhffccdaaDoorXW
import Derived.StillTailTactics
import Derived.Deep.RegionHeld3
import Derived.Outline
import Derived.IntWalk
namespace Go.Proofs.YtccekbdhffccdaaDoor
open Go.RowKit Go.Shelf

/-- What Play leaves: the depths lie in a row of the call's own. -/
def PlayOwn (w : World) (q : List Int × (Int × Int × Int) × Int) (e : Ending) (w' : World) : Prop :=
  ∃ v, e = .returned (.tuple #[v, .agg #[.int .i64 q.2.1.1, .int .i64 q.2.1.2.1, .int .i64 q.2.1.2.2], .int .i64 q.2.2]) ∧ w'.ownsRow w.heap.size 3 1 v q.1.length (ints q.1) ∧ Below w.heap.size w w'
theorem own_len {w : World} {base n : Nat} {v : Value} {xs : List Int} (h : w.ownsRow base 3 1 v n (ints xs)) (hn : xs.length = n) : w.ownsRow base 3 1 v xs.length (ints xs) := by rw [hn]; exact h
theorem own_base {w : World} {base base' : Nat} {e : TypeId} {size n : Nat} {v : Value} {xs : List Value} (h : w.ownsRow base' e size v n xs) (hb : base ≤ base') : w.ownsRow base e size v n xs :=
  ⟨h.1, h.2.imp id fun ⟨g, cap, cur, a, b, r⟩ => ⟨g, cap, cur, a, Nat.le_trans hb b, r⟩⟩
/-- A slice of ints in a block that is new. -/
def NewInts (B : Nat) (w : World) (A : Option Addr) (xs : List Int) : Prop :=
  xs ≠ [] → ∃ b, A = some ⟨b, 0, none⟩ ∧ B ≤ b ∧ b < w.heap.size ∧ ∀ i x, xs[i]? = some x → w.cell? ⟨b, i, none⟩ = some (.int .i64 x)
set_option maxRecDepth 100000 in
set_option maxHeartbeats 2000000 in
theorem play_own (A A2 : Option Addr) (n c m c' : Nat) (ls : List Lay) (ys : List Yr) (lo hi : Int) (t : Tru) (v0 v1 v2 v3 v4 : Value) (w : World) (hl : ls.length = n) (hn : n ≤ maxLen) (hcap : n ≤ c) (hL : LaysAt w w.heap.size A ls)
    (hm : ys.length = m) (hm2 : m ≤ maxLen) (hY : YrsAt w w.heap.size A2 ys) (s0 : SlInts w v0 t.ms) (s1 : SlInts w v1 t.ws) (s2 : SlInts w v2 t.ss) (s3 : SlInts w v3 t.vs) (s4 : SlInts w v4 t.ns)
    (n0 : t.ms.length ≤ maxLen) (n1 : t.ws.length ≤ maxLen) (n2 : t.ss.length ≤ maxLen) (n3 : t.vs.length ≤ maxLen) (n4 : t.ns.length ≤ maxLen) :
    Calls Tryd.prog 25 #[.agg #[.slice A n c, .int .i64 lo, .int .i64 hi], .slice A2 m c', .agg #[v0, v1, v2, v3, v4]] w (PlayOwn w (playI ls lo hi ys t)) := by
  have HL := Lib.hid hl; clear hl
  have HM := Lib.hid hm; clear hm
  have HN := Lib.hid hn; clear hn
  have HN2 := Lib.hid hm2; clear hm2
  have N0 := Lib.hid n0; have N1 := Lib.hid n1; have N2 := Lib.hid n2; have N3 := Lib.hid n3; have N4 := Lib.hid n4
  have S0 := Lib.hid s0; have S1 := Lib.hid s1; have S2 := Lib.hid s2; have S3 := Lib.hid s3; have S4 := Lib.hid s4
  obtain ⟨A0, d0, rfl, _, i0⟩ := s0
  obtain ⟨A1, d1, rfl, _, i1⟩ := s1
  obtain ⟨A3, d2, rfl, _, i2⟩ := s2
  obtain ⟨A4, d3, rfl, _, i3⟩ := s3
  obtain ⟨A5, d4, rfl, _, i4⟩ := s4
  clear n0 n1 n2 n3 n4
  obtain ⟨T, hT⟩ : ∃ T : Array Value, #[Value.slice A0 t.ms.length d0, .slice A1 t.ws.length d1, .slice A3 t.ss.length d2, .slice A4 t.vs.length d3, .slice A5 t.ns.length d4] = T := ⟨_, rfl⟩
  have hB : Below w.heap.size w (((w.alloc (.cells #[.slice A n c, .int .i64 lo, .int .i64 hi] 26)).alloc (.cells #[.slice A0 t.ms.length d0, .slice A1 t.ws.length d1, .slice A3 t.ss.length d2, .slice A4 t.vs.length d3, .slice A5 t.ns.length d4] 41)).alloc (.cells #[.int .i64 0, .int .i64 0, .int .i64 0] 44)) :=
    (((Below.refl _ _).alloc (Nat.le_refl _) _).alloc (by simp) _).alloc (by simp; omega) _
  have z0 := heap_alloc_new w (.cells #[.slice A n c, .int .i64 lo, .int .i64 hi] 26)
  have z1 := heap_alloc_new (w.alloc (.cells #[.slice A n c, .int .i64 lo, .int .i64 hi] 26)) (.cells #[.slice A0 t.ms.length d0, .slice A1 t.ws.length d1, .slice A3 t.ss.length d2, .slice A4 t.vs.length d3, .slice A5 t.ns.length d4] 41)
  have z2 := heap_alloc_new ((w.alloc (.cells #[.slice A n c, .int .i64 lo, .int .i64 hi] 26)).alloc (.cells #[.slice A0 t.ms.length d0, .slice A1 t.ws.length d1, .slice A3 t.ss.length d2, .slice A4 t.vs.length d3, .slice A5 t.ns.length d4] 41)) (.cells #[.int .i64 0, .int .i64 0, .int .i64 0] 44)
  simp only [World.size_alloc] at z1 z2
  have y0 := (Below.heap_alloc _ (.cells #[.int .i64 0, .int .i64 0, .int .i64 0] 44) _ (by simp; omega)).trans ((Below.heap_alloc _ (.cells #[.slice A0 t.ms.length d0, .slice A1 t.ws.length d1, .slice A3 t.ss.length d2, .slice A4 t.vs.length d3, .slice A5 t.ns.length d4] 41) _ (by simp)).trans z0)
  have y1 := (Below.heap_alloc _ (.cells #[.int .i64 0, .int .i64 0, .int .i64 0] 44) _ (by simp)).trans z1
  have HB := Lib.hid hB
  have Y0 := Lib.hid y0
  have Y1 := Lib.hid y1
  have Y2 := Lib.hid z2
  clear hB z0 z1 z2 y0 y1 hT T
  rcases yearsI_cases ls lo hi ys with hr | hr | hr
  · obtain ⟨g1, g2, g3⟩ := yearsI_zero hr
    have hm12 : m ≤ 12 := by rw [HM.out] at g1; exact g1
    have HR := Lib.hid hr; have GP := Lib.hid g2; have GY := Lib.hid g3
    have hn6 : n ≤ 6 := by have := (placeB_spec GP.out).1.2; rw [HL.out] at this; exact this
    clear hr g1 g2 g3
    go_enter Tryd.func25, Tryd.ntmps25
    go_wp2_with fail
    refine (checkYears_is 0 A A2 n c m c' ls ys lo hi _ HL.out HN.out (hL.next HB.out) HM.out HN2.out (hY.next HB.out) HR.out).mono ?_
    rintro e w2 ⟨rfl, hb⟩
    have B2 := Lib.hid (HB.out.trans (hb.mono HB.out.size))
    have X0 := Lib.hid ((hb.block _ (Array.getElem?_eq_some_iff.1 Y0.out).1).trans Y0.out)
    have X1 := Lib.hid ((hb.block _ (Array.getElem?_eq_some_iff.1 Y1.out).1).trans Y1.out)
    have X2 := Lib.hid ((hb.block _ (Array.getElem?_eq_some_iff.1 Y2.out).1).trans Y2.out)
    clear hb
    have p0 := cell_of_row w2 w.heap.size 0 _ 26 (0, 0) X0.out
    have p1 := cell_of_row w2 w.heap.size 1 _ 26 (0, 0) X0.out
    have p2 := cell_of_row w2 w.heap.size 2 _ 26 (0, 0) X0.out
    have q0 := cell_of_row w2 (w.heap.size + 1) 0 _ 41 (0, 0) X1.out
    have q1 := cell_of_row w2 (w.heap.size + 1) 1 _ 41 (0, 0) X1.out
    have q2 := cell_of_row w2 (w.heap.size + 1) 2 _ 41 (0, 0) X1.out
    have q3 := cell_of_row w2 (w.heap.size + 1) 3 _ 41 (0, 0) X1.out
    have q4 := cell_of_row w2 (w.heap.size + 1) 4 _ 41 (0, 0) X1.out
    simp at p0 p1 p2 q0 q1 q2 q3 q4
    go_wp2_with fail
    have hps := poss_any A A2 A0 A1 A3 A4 A5 n c m c' _ d0 _ d1 _ d2 _ d3 _ d4 ls ys lo hi t.ms t.ws t.ss t.vs t.ns w2 HL.out hn6 (hL.next B2.out) HM.out hm12 (hY.next B2.out) rfl N0.out (i0.next B2.out) rfl N1.out (i1.next B2.out) rfl N2.out (i2.next B2.out) rfl N3.out (i3.next B2.out) rfl N4.out (i4.next B2.out)
    cases hpo : possT ls lo hi ys t with
    | false =>
      have HO := Lib.hid hpo
      rw [show possB ls lo hi ys t.ms t.ws t.ss t.vs t.ns = false from hpo] at hps
      refine hps.mono ?_
      clear hps hpo
      rintro e w3 ⟨rfl, hb⟩
      have B3 := Lib.hid (B2.out.trans (hb.mono B2.out.size))
      have X3 := Lib.hid ((hb.block _ (Array.getElem?_eq_some_iff.1 X2.out).1).trans X2.out)
      clear hb
      have r0 := cell_of_row w3 (w.heap.size + 1 + 1) 0 _ 44 (0, 0) X3.out
      have r1 := cell_of_row w3 (w.heap.size + 1 + 1) 1 _ 44 (0, 0) X3.out
      have r2 := cell_of_row w3 (w.heap.size + 1 + 1) 2 _ 44 (0, 0) X3.out
      have f0 : ∀ i, w3.frozen? ⟨w.heap.size + 1 + 1, i, none⟩ = false := fun i => by simp [World.frozen?, X3.out]
      have f1 := f0 0
      have f2 := f0 1
      have f3 := f0 2
      clear f0
      simp at r0 r1 r2
      have hpl : playI ls lo hi ys t = ([], (0, 0, 0), 2) := by unfold playI; rw [HR.out, if_pos rfl, HO.out]; rfl
      have HPL := Lib.hid hpl
      clear hpl
      go_wp2_with fail
      exact bodyPost_ret (v := .tuple #[.slice none 0 0, .agg #[.int .i64 0, .int .i64 0, .int .i64 0], .int .i64 2]) (by simp [results, Tryd.results25, go_sem, r0, r1, r2]) rfl
        (by rw [HPL.out]; exact ⟨_, rfl, World.ownsRow_nil _ _ _ _, ((B3.out.setCell (p := ⟨w.heap.size + 1 + 1, 0, none⟩) (by show _ ≤ w.heap.size + 1 + 1; omega) _).setCell (p := ⟨w.heap.size + 1 + 1, 1, none⟩) (by show _ ≤ w.heap.size + 1 + 1; omega) _).setCell (p := ⟨w.heap.size + 1 + 1, 2, none⟩) (by show _ ≤ w.heap.size + 1 + 1; omega) _⟩)
    | true =>
      have HO := Lib.hid hpo
      have hTk : TruOk t n m := by have := possT_ok GP.out GY.out hpo; rw [HL.out, HM.out] at this; exact this
      have HT := Lib.hid hTk; clear hTk
      rw [show possB ls lo hi ys t.ms t.ws t.ss t.vs t.ns = true from hpo] at hps
      refine hps.mono ?_
      clear hps hpo
      rintro e w3 ⟨rfl, hb⟩
      have B3 := Lib.hid (B2.out.trans (hb.mono B2.out.size))
      have hbs := hb.size
      have X3 := Lib.hid ((hb.block _ (Array.getElem?_eq_some_iff.1 X2.out).1).trans X2.out)
      have l0 := (Array.getElem?_eq_some_iff.1 X0.out).1
      have l1 := (Array.getElem?_eq_some_iff.1 X1.out).1
      replace p0 := ((bcell hb).1 _ 0 l0).trans p0
      replace p1 := ((bcell hb).1 _ 1 l0).trans p1
      replace p2 := ((bcell hb).1 _ 2 l0).trans p2
      replace q0 := ((bcell hb).1 _ 0 l1).trans q0
      replace q1 := ((bcell hb).1 _ 1 l1).trans q1
      replace q2 := ((bcell hb).1 _ 2 l1).trans q2
      replace q3 := ((bcell hb).1 _ 3 l1).trans q3
      replace q4 := ((bcell hb).1 _ 4 l1).trans q4
      clear hb
      go_wp2_with fail
      refine (follow_own A n c ls t _ _ _ _ _ lo hi 0 m w3 HL.out hcap GP.out (hL.next B3.out) HT.out hm12 ⟨by omega, by omega⟩ (S0.out.next B3.out) (S1.out.next B3.out) (S2.out.next B3.out) (S3.out.next B3.out) (S4.out.next B3.out)).mono ?_
      rintro e w4 ⟨g, u0, u1, u2, u3, u4, u5, u6, u7, u8, tv, lv, rfl, hF, hth, hln, hb⟩
      have B4 := Lib.hid (B3.out.trans (hb.mono B3.out.size))
      have X4 := Lib.hid ((hb.block _ (Array.getElem?_eq_some_iff.1 X3.out).1).trans X3.out)
      clear hb p0 p1 p2 q0 q1 q2 q3 q4
      have hpl : playI ls lo hi ys t = ((runS ls t 0 m).th, ((runS ls t 0 m).In, (runS ls t 0 m).Out, (runS ls t 0 m).Lf), 0) := by unfold playI; rw [HR.out, if_pos rfl, HO.out, HM.out]; rfl
      have HPL := Lib.hid hpl
      clear hpl
      have k13 := hF.cell 13
      have k11 := hF.cell 11
      have k12 := hF.cell 12
      have k10 := hF.cell 10
      simp at k13 k11 k12 k10
      have r0 := cell_of_row w4 (w.heap.size + 1 + 1) 0 _ 44 (0, 0) X4.out
      have r1 := cell_of_row w4 (w.heap.size + 1 + 1) 1 _ 44 (0, 0) X4.out
      have r2 := cell_of_row w4 (w.heap.size + 1 + 1) 2 _ 44 (0, 0) X4.out
      have f0 : ∀ i, w4.frozen? ⟨w.heap.size + 1 + 1, i, none⟩ = false := fun i => by simp [World.frozen?, X4.out]
      have f1 := f0 0
      have f2 := f0 1
      have f3 := f0 2
      clear f0
      simp at r0 r1 r2
      have HTH := Lib.hid hth
      have hgT : g ≠ w.heap.size + 1 + 1 := fun e => by
        have h1 := X4.out
        rw [← e, show w4.heap[g]? = _ from hF] at h1
        injection h1 with h1
        injection h1 with _ h2
        exact absurd h2 (by decide)
      have HGT := Lib.hid hgT
      have HLN := Lib.hid hln
      clear hF hth hln hgT
      go_wp2_with fail
      go_region
      go_wp2
      have hfr : ∀ row, Frm w4.heap.size (w.heap.size + 1 + 1) row w4 (((w4.setCell ⟨w.heap.size + 1 + 1, 0, none⟩ (.int .i64 (runS ls t 0 m).In)).setCell ⟨w.heap.size + 1 + 1, 1, none⟩ (.int .i64 (runS ls t 0 m).Out)).setCell ⟨w.heap.size + 1 + 1, 2, none⟩ (.int .i64 (runS ls t 0 m).Lf)) := fun row =>
        ((Frm.set_ _ 0 _).trans (Frm.set_ _ 1 _)).trans (Frm.set_ _ 2 _)
      have hoN := own_frm (row := some (w.heap.size + 1 + 1)) (g := w.heap.size + 1 + 1) HTH.out (hfr _) (own44_ne X4.out HTH.out) (.inr (own44_ne X4.out HTH.out))
      exact bodyPost_ret (v := .tuple #[tv, .agg #[.int .i64 (runS ls t 0 m).In, .int .i64 (runS ls t 0 m).Out, .int .i64 (runS ls t 0 m).Lf], .int .i64 0]) (by simp [results, Tryd.results25, go_sem, r0, r1, r2]) rfl
        (by rw [HPL.out]; exact ⟨_, rfl, own_len (own_base (World.ownsRow.drew hoN) B3.out.size) HLN.out, (B4.out.trans ((hfr none).below B4.out.size (by omega) (by simp))).drew⟩)
  all_goals
    have HR := Lib.hid hr
    clear hr
    have hpl : playI ls lo hi ys t = ([], (0, 0, 0), yearsI ls lo hi ys) := by unfold playI; rw [if_neg (by rw [HR.out]; decide)]
    have HPL := Lib.hid hpl
    clear hpl
    go_enter Tryd.func25, Tryd.ntmps25
    go_wp2_with fail
    refine (checkYears_is _ A A2 n c m c' ls ys lo hi _ HL.out HN.out (hL.next HB.out) HM.out HN2.out (hY.next HB.out) HR.out).mono ?_
    rintro e w2 ⟨rfl, hb⟩
    have B3 := Lib.hid (HB.out.trans (hb.mono HB.out.size))
    have X3 := Lib.hid ((hb.block _ (Array.getElem?_eq_some_iff.1 Y2.out).1).trans Y2.out)
    clear hb
    have r0 := cell_of_row w2 (w.heap.size + 1 + 1) 0 _ 44 (0, 0) X3.out
    have r1 := cell_of_row w2 (w.heap.size + 1 + 1) 1 _ 44 (0, 0) X3.out
    have r2 := cell_of_row w2 (w.heap.size + 1 + 1) 2 _ 44 (0, 0) X3.out
    have f0 : ∀ i, w2.frozen? ⟨w.heap.size + 1 + 1, i, none⟩ = false := fun i => by simp [World.frozen?, X3.out]
    have f1 := f0 0
    have f2 := f0 1
    have f3 := f0 2
    clear f0
    simp at r0 r1 r2
    go_wp2_with fail
    refine bodyPost_ret (v := .tuple #[.slice none 0 0, .agg #[.int .i64 0, .int .i64 0, .int .i64 0], .int .i64 _]) (by simp [results, Tryd.results25, go_sem, r0, r1, r2]; rfl) rfl ?_
    rw [HPL.out, HR.out]
    exact ⟨_, rfl, World.ownsRow_nil _ _ _ _, ((B3.out.setCell (p := ⟨w.heap.size + 1 + 1, 0, none⟩) (by show _ ≤ w.heap.size + 1 + 1; omega) _).setCell (p := ⟨w.heap.size + 1 + 1, 1, none⟩) (by show _ ≤ w.heap.size + 1 + 1; omega) _).setCell (p := ⟨w.heap.size + 1 + 1, 2, none⟩) (by show _ ≤ w.heap.size + 1 + 1; omega) _⟩

theorem play_new (A A2 : Option Addr) (n c m c' : Nat) (ls : List Lay) (ys : List Yr) (lo hi : Int) (t : Tru) (v0 v1 v2 v3 v4 : Value) (w : World) (hl : ls.length = n) (hn : n ≤ maxLen) (hcap : n ≤ c) (hL : LaysAt w w.heap.size A ls)
    (hm : ys.length = m) (hm2 : m ≤ maxLen) (hY : YrsAt w w.heap.size A2 ys) (s0 : SlInts w v0 t.ms) (s1 : SlInts w v1 t.ws) (s2 : SlInts w v2 t.ss) (s3 : SlInts w v3 t.vs) (s4 : SlInts w v4 t.ns)
    (n0 : t.ms.length ≤ maxLen) (n1 : t.ws.length ≤ maxLen) (n2 : t.ss.length ≤ maxLen) (n3 : t.vs.length ≤ maxLen) (n4 : t.ns.length ≤ maxLen) (hr : yearsI ls lo hi ys = 0) (hp : possT ls lo hi ys t = true) (S : St) (hS : runS ls t 0 m = S) :
    Calls Tryd.prog 25 #[.agg #[.slice A n c, .int .i64 lo, .int .i64 hi], .slice A2 m c', .agg #[v0, v1, v2, v3, v4]] w fun e w' => ∃ (B : Option Addr) (k : Nat), e = .returned (.tuple #[.slice B m k, .agg #[.int .i64 S.In, .int .i64 S.Out, .int .i64 S.Lf], .int .i64 0]) ∧ NewInts w.heap.size w' B S.th ∧ Below w.heap.size w w' := by
  refine (play_own A A2 n c m c' ls ys lo hi t v0 v1 v2 v3 v4 w hl hn hcap hL hm hm2 hY s0 s1 s2 s3 s4 n0 n1 n2 n3 n4).mono ?_
  rintro e w' ⟨v, rfl, ho, hb⟩
  have hq : playI ls lo hi ys t = (S.th, (S.In, S.Out, S.Lf), 0) := by unfold playI; rw [hr, if_pos rfl, hp, hm, hS]; rfl
  have hlen : S.th.length = m := by rw [← hS]; exact (run_len _ _ _ _).1
  rw [hq] at ho ⊢
  simp only [hlen] at ho
  rcases Nat.eq_zero_or_pos m with h0 | h0
  · subst h0
    have hnil : S.th = [] := List.eq_nil_of_length_eq_zero hlen
    obtain ⟨a, n', c0, rfl⟩ := own_slice ho
    rcases ho.2 with ⟨h1, _⟩ | ⟨g, cap, cur, h1, _⟩
    · cases h1
      exact ⟨none, 0, rfl, fun h => absurd hnil h, hb⟩
    · cases h1
      exact ⟨_, _, rfl, fun h => absurd hnil h, hb⟩
  · obtain ⟨g, cap, rfl, h1, h2⟩ := ho.form h0
    refine ⟨_, _, rfl, fun _ => ⟨g, rfl, h1, h2, fun i x hi => ?_⟩, hb⟩
    have := ho.cells (g := g) rfl i (.int .i64 x) (by simp [ints, hi])
    rwa [show (⟨g, 0, none⟩ : Addr).add i = ⟨g, i, none⟩ by simp only [Addr.add]; split <;> simp <;> omega] at this
theorem NewInts.set_ {B : Nat} {w : World} {A : Option Addr} {xs : List Int} (h : NewInts B w A xs) {b i : Nat} (hb : b < B) (v : Value) : NewInts B (w.setCell ⟨b, i, none⟩ v) A xs := fun hne => by
  obtain ⟨g, e, h1, h2, h3⟩ := h hne
  exact ⟨g, e, h1, by simpa [World.setCell] using h2, fun j x hj => (World.cell?_setCell_other w _ _ _ (fun e => by injection e; omega)).trans (h3 j x hj)⟩
theorem NewInts.al_ {B : Nat} {w : World} {A : Option Addr} {xs : List Int} (h : NewInts B w A xs) (o : Obj) : NewInts B (w.alloc o) A xs := fun hne => by
  obtain ⟨g, e, h1, h2, h3⟩ := h hne
  exact ⟨g, e, h1, by simp; omega, fun j x hj => (World.cell?_alloc_lt w o _ h2).trans (h3 j x hj)⟩
theorem blk44_set {w : World} {g : Nat} {cs : Array Value} (h : w.heap[g]? = some (.cells cs 44 (0, 0))) (j : Nat) (u : Value) : (w.setCell ⟨g, j, none⟩ u).heap[g]? = some (.cells (cs.setIfInBounds j u) 44 (0, 0)) := by
  simp [World.setCell, Array.getElem?_modify, h]

theorem IntsAt.cut {w : World} {B : Nat} {A : Option Addr} {xs : List Int} (h : IntsAt w B A xs) (j : Nat) : IntsAt w B A (xs.take j) := fun hne => by
  obtain ⟨b, o, e, hb, hc⟩ := h (by intro h0; rw [h0] at hne; simp at hne)
  exact ⟨b, o, e, hb, fun i x hi => hc i x (by rw [List.getElem?_take] at hi; split at hi; exact hi; cases hi)⟩
theorem YrsAt.cut {w : World} {B : Nat} {A : Option Addr} {xs : List Yr} (h : YrsAt w B A xs) (j : Nat) : YrsAt w B A (xs.take j) := fun hne => by
  obtain ⟨b, o, e, hb, hc⟩ := h (by intro h0; rw [h0] at hne; simp at hne)
  exact ⟨b, o, e, hb, fun i x hi => hc i x (by rw [List.getElem?_take] at hi; split at hi; exact hi; cases hi)⟩
theorem le_of_len {α : Type} {xs : List α} {n N : Nat} (h : xs.length = n) (hn : n ≤ N) : xs.length ≤ N := by rw [h]; exact hn
theorem yearsI_cut {ls : List Lay} {lo hi : Int} {ys : List Yr} (h : yearsI ls lo hi ys = 0) (j : Nat) : yearsI ls lo hi (ys.take j) = 0 := by
  obtain ⟨h1, h2, h3⟩ := yearsI_zero h
  refine yearsI_fine (by simp; omega) h2 ?_
  rw [List.all_eq_true] at h3 ⊢
  exact fun x hx => h3 x (List.mem_of_mem_take hx)

set_option maxRecDepth 100000 in
set_option maxHeartbeats 4000000 in
theorem true_any (A A2 AM AW AS AV AN : Option Addr) (n c m c' nm cm nw cw ns_ cs nv cv nn cn : Nat) (ls : List Lay) (ys : List Yr) (lo hi : Int) (ms ws ss vs ns : List Int) (w : World) (ht : Tab w) (hl : ls.length = n) (hcap : n ≤ c) (hn : n ≤ maxLen) (hL : LaysAt w w.heap.size A ls) (hy : ys.length = m) (hcm : m ≤ c') (hm : m ≤ maxLen) (hY : YrsAt w w.heap.size A2 ys)
    (h1 : ms.length = nm) (q1 : nm ≤ cm) (g1 : nm ≤ maxLen) (i1 : IntsAt w w.heap.size AM ms) (h2 : ws.length = nw) (q2 : nw ≤ cw) (g2 : nw ≤ maxLen) (i2 : IntsAt w w.heap.size AW ws) (h3 : ss.length = ns_) (q3 : ns_ ≤ cs) (g3 : ns_ ≤ maxLen) (i3 : IntsAt w w.heap.size AS ss) (h4 : vs.length = nv) (q4 : nv ≤ cv) (g4 : nv ≤ maxLen) (i4 : IntsAt w w.heap.size AV vs) (h5 : ns.length = nn) (q5 : nn ≤ cn) (g5 : nn ≤ maxLen) (i5 : IntsAt w w.heap.size AN ns) :
    Calls Tryd.prog 6 #[.agg #[.slice A n c, .int .i64 lo, .int .i64 hi], .slice A2 m c', .agg #[.slice AM nm cm, .slice AW nw cw, .slice AS ns_ cs, .slice AV nv cv, .slice AN nn cn]] w fun e w' => e = .returned (.bool true) ∧ Below w.heap.size w w' := by
  have HT := Lib.hid ht
  have HL := Lib.hid hl; have HY := Lib.hid hy; have H1 := Lib.hid h1; have H2 := Lib.hid h2; have H3 := Lib.hid h3; have H4 := Lib.hid h4; have H5 := Lib.hid h5
  have HN := Lib.hid hn; have HM := Lib.hid hm; have HCAP := Lib.hid hcap; have HCM := Lib.hid hcm
  have G1 := Lib.hid g1; have G2 := Lib.hid g2; have G3 := Lib.hid g3; have G4 := Lib.hid g4; have G5 := Lib.hid g5
  have Q1 := Lib.hid q1; have Q2 := Lib.hid q2; have Q3 := Lib.hid q3; have Q4 := Lib.hid q4; have Q5 := Lib.hid q5
  clear hl hy h1 h2 h3 h4 h5 hn hm g1 g2 g3 g4 g5 ht hcap hcm q1 q2 q3 q4 q5
  have hB1 : Below w.heap.size w ((w.alloc (.cells #[.slice A n c, .int .i64 lo, .int .i64 hi] 26)).alloc (.cells #[.slice AM nm cm, .slice AW nw cw, .slice AS ns_ cs, .slice AV nv cv, .slice AN nn cn] 41)) := ((Below.refl _ _).alloc (Nat.le_refl _) _).alloc (by simp) _
  have z1 : ((w.alloc (.cells #[.slice A n c, .int .i64 lo, .int .i64 hi] 26)).alloc (.cells #[.slice AM nm cm, .slice AW nw cw, .slice AS ns_ cs, .slice AV nv cv, .slice AN nn cn] 41)).heap[w.heap.size]? = some (.cells #[.slice A n c, .int .i64 lo, .int .i64 hi] 26 (0, 0)) := (Below.heap_alloc _ _ _ (by simp)).trans (heap_alloc_new w _)
  have y0 := heap_alloc_new (w.alloc (.cells #[.slice A n c, .int .i64 lo, .int .i64 hi] 26)) (.cells #[.slice AM nm cm, .slice AW nw cw, .slice AS ns_ cs, .slice AV nv cv, .slice AN nn cn] 41)
  simp only [World.size_alloc] at y0
  have HB1 := Lib.hid hB1
  have Z1 := Lib.hid z1
  have Y1 := Lib.hid y0
  clear hB1 z1 y0
  cases hf : fairB ls lo hi ys ms ws ss vs ns with
  | false =>
    have HF := Lib.hid hf; clear hf
    go_enter Tryd.func6, Tryd.ntmps6
    go_wp2_with fail
    refine (fair_any A A2 AM AW AS AV AN n c m c' nm cm nw cw ns_ cs nv cv nn cn ls ys lo hi ms ws ss vs ns _ HL.out HN.out (hL.next HB1.out) HY.out HM.out (hY.next HB1.out) H1.out G1.out (i1.next HB1.out) H2.out G2.out (i2.next HB1.out) H3.out G3.out (i3.next HB1.out) H4.out G4.out (i4.next HB1.out) H5.out G5.out (i5.next HB1.out)).mono ?_
    rintro e w2 ⟨rfl, hb2⟩
    rw [HF.out]
    have HB2 := Lib.hid (HB1.out.trans (hb2.mono HB1.out.size))
    clear hb2
    go_wp2_with fail
    refine (known_any _ (HT.out.next HB2.out)).mono ?_
    rintro e w3 ⟨rfl, hb3⟩
    have HB3 := Lib.hid (HB2.out.trans (hb3.mono HB2.out.size))
    clear hb3
    go_wp2_with fail
    go_ret
    exact ⟨rfl, HB3.out⟩
  | true =>
    have HF := Lib.hid hf; clear hf
    obtain ⟨r0, rp⟩ := fair_spec HF.out
    obtain ⟨e1, e2, e3⟩ := yearsI_zero r0
    have hm12 : m ≤ 12 := by rw [HY.out] at e1; exact e1
    have hT : TruOk ⟨ms, ws, ss, vs, ns⟩ n m := by have := possT_ok e2 e3 rp; rw [HL.out, HY.out] at this; exact this
    obtain rfl : m = nw := by have := hT.lw; have := H2.out; simp at *; omega
    obtain rfl : m = ns_ := by have := hT.lS; have := H3.out; simp at *; omega
    obtain rfl : m = nv := by have := hT.lv; have := H4.out; simp at *; omega
    obtain rfl : m = nn := by have := hT.ln; have := H5.out; simp at *; omega
    obtain ⟨T, hTT⟩ : ∃ T : Tru, (⟨ms, ws, ss, vs, ns⟩ : Tru) = T := ⟨_, rfl⟩
    rw [hTT] at hT rp
    have bt := between e2 e3 e1 rp
    obtain ⟨SC, hSC⟩ : ∃ s, runS ls (extT false ls lo hi ys) 0 m = s := ⟨_, rfl⟩
    obtain ⟨SW, hSW⟩ : ∃ s, runS ls (extT true ls lo hi ys) 0 m = s := ⟨_, rfl⟩
    have BT := Lib.hid bt; have HTT := Lib.hid hTT; have HSC := Lib.hid hSC; have HSW := Lib.hid hSW; have HTK := Lib.hid hT; have HR0 := Lib.hid r0; have HRP := Lib.hid rp
    clear bt hTT hSC hSW hT r0 rp e1 e2 e3
    have mb := HM.out
    unfold maxLen at mb
    go_enter Tryd.func6, Tryd.ntmps6
    go_wp2_with fail
    refine (fair_any A A2 AM AW AS AV AN n c m c' nm cm m cw m cs m cv m cn ls ys lo hi ms ws ss vs ns _ HL.out HN.out (hL.next HB1.out) HY.out HM.out (hY.next HB1.out) H1.out G1.out (i1.next HB1.out) H2.out G2.out (i2.next HB1.out) H3.out G3.out (i3.next HB1.out) H4.out G4.out (i4.next HB1.out) H5.out G5.out (i5.next HB1.out)).mono ?_
    rintro e w2 ⟨rfl, hb2⟩
    rw [HF.out]
    have HB2 := Lib.hid (HB1.out.trans (hb2.mono HB1.out.size))
    have Z2 := Lib.hid ((hb2.block _ (Array.getElem?_eq_some_iff.1 Z1.out).1).trans Z1.out)
    have Y2 := Lib.hid ((hb2.block _ (Array.getElem?_eq_some_iff.1 Y1.out).1).trans Y1.out)
    clear hb2
    have p0 := cell_of_row w2 w.heap.size 0 _ 26 (0, 0) Z2.out
    have p1 := cell_of_row w2 w.heap.size 1 _ 26 (0, 0) Z2.out
    have p2 := cell_of_row w2 w.heap.size 2 _ 26 (0, 0) Z2.out
    simp at p0 p1 p2
    go_wp2_with fail
    refine (years_ok A A2 n c m c' ls ys lo hi _ HL.out HN.out HCAP.out (hL.next HB2.out) HY.out HM.out (hY.next HB2.out) HR0.out).mono ?_
    rw [HSC.out, HSW.out]
    clear p0 p1 p2
    rintro e w3 ⟨SB, sk, rfl, hs, hb3⟩
    have HB3 := Lib.hid (HB2.out.trans (hb3.mono HB2.out.size))
    have Z3 := Lib.hid ((hb3.block _ (Array.getElem?_eq_some_iff.1 Z2.out).1).trans Z2.out)
    have Y3 := Lib.hid ((hb3.block _ (Array.getElem?_eq_some_iff.1 Y2.out).1).trans Y2.out)
    have HSN := Lib.hid hs
    clear hb3 hs
    go_wp2_with fail
    have hm0 : (0 : Int) ≤ (m : Int) := by omega
    go_loopw [9] (fun i wr => ∃ k : Nat, k ≤ m ∧ i = .int .i64 k ∧ Below w3.heap.size w3 wr) (fun i _ => m - (intOf i).toNat)
    case atStart => exact ⟨0, Nat.zero_le _, rfl, Below.refl _ _⟩
    case round =>
      obtain ⟨k, hk, rfl, hbr⟩ := hrel
      have HBR := Lib.hid hbr
      have X3 := Lib.hid ((hbr.block _ (Array.getElem?_eq_some_iff.1 Y3.out).1).trans Y3.out)
      have U3 := Lib.hid ((hbr.block _ (Array.getElem?_eq_some_iff.1 Z3.out).1).trans Z3.out)
      have SN := Lib.hid (HSN.out.next_ hbr)
      clear hbr
      by_cases hlt : k < m
      · have ne : ∀ {xs : List Int}, xs.length = m → xs ≠ [] := fun h1 h2 => by rw [h2] at h1; simp at h1; omega
        obtain ⟨b1, o1, rfl, _, _⟩ := i2 (ne H2.out)
        obtain ⟨b2, o2, rfl, _, _⟩ := i3 (ne H3.out)
        obtain ⟨b3, o3, rfl, _, _⟩ := i4 (ne H4.out)
        obtain ⟨b4, o4, rfl, _, _⟩ := i5 (ne H5.out)
        obtain ⟨b5, o5, rfl, _, _⟩ := hY (by intro h; have := HY.out; rw [h] at this; simp at this; omega)
        clear ne
        have t0 := cell_of_row wr (w.heap.size + 1) 0 _ 41 (0, 0) X3.out
        have t1 := cell_of_row wr (w.heap.size + 1) 1 _ 41 (0, 0) X3.out
        have t2 := cell_of_row wr (w.heap.size + 1) 2 _ 41 (0, 0) X3.out
        have t3 := cell_of_row wr (w.heap.size + 1) 3 _ 41 (0, 0) X3.out
        have t4 := cell_of_row wr (w.heap.size + 1) 4 _ 41 (0, 0) X3.out
        simp at t0 t1 t2 t3 t4
        have q2 := Q2.out; have q3 := Q3.out; have q4 := Q4.out; have q5 := Q5.out
        have hk0 : (0 : Int) ≤ (k : Int) := by omega
        have hk1 : (k : Int) < (m : Int) := by omega
        have ha0 : (0 : Int) ≤ (k : Int) + 1 := by omega
        have ha1 : (k : Int) + 1 ≤ (m : Int) := by omega
        have ha2 : (k : Int) + 1 ≤ (cw : Int) := by omega
        have ha3 : (k : Int) + 1 ≤ (cs : Int) := by omega
        have ha4 : (k : Int) + 1 ≤ (cv : Int) := by omega
        have ha5 : (k : Int) + 1 ≤ (cn : Int) := by omega
        go_wp2_with fail
        have hwr : IntKind.i64.wrap ((k : Int) + 1) = (k : Int) + 1 := IntWalk.i64_in _ (by omega)
        have htn : ((k : Int) + 1).toNat = k + 1 := by omega
        have n0 := World.new_ne wr _ t0
        have n1 := World.new_ne wr _ t1
        have n2 := World.new_ne wr _ t2
        have n3 := World.new_ne wr _ t3
        have n4 := World.new_ne wr _ t4
        go_region_held3 (fun w' => w'.cell? ⟨w.heap.size + 1, 0, none⟩ = some (.slice AM nm cm) ∧ w'.cell? ⟨w.heap.size + 1, 1, none⟩ = some (.slice (some ⟨b1, o1, none⟩) m cw) ∧ w'.cell? ⟨w.heap.size + 1, 2, none⟩ = some (.slice (some ⟨b2, o2, none⟩) m cs) ∧ w'.cell? ⟨w.heap.size + 1, 3, none⟩ = some (.slice (some ⟨b3, o3, none⟩) m cv) ∧ w'.cell? ⟨w.heap.size + 1, 4, none⟩ = some (.slice (some ⟨b4, o4, none⟩) m cn)) (go_keep) (fail)
        clear hwr n0 n1 n2 n3 n4
        obtain ⟨Wa, hWa⟩ : ∃ W, (wr.alloc (.cells #[.slice AM nm cm, .slice (some ⟨b1, o1, none⟩) (k + 1) cw, .slice (some ⟨b2, o2, none⟩) (k + 1) cs, .slice (some ⟨b3, o3, none⟩) (k + 1) cv, .slice (some ⟨b4, o4, none⟩) (k + 1) cn] 41)).drew = W := ⟨_, rfl⟩
        obtain ⟨bx, hbx⟩ : ∃ b, wr.heap.size = b := ⟨_, rfl⟩
        rw [hWa, hbx]
        have hba : Below wr.heap.size wr Wa := by rw [← hWa]; exact ((Below.refl _ _).alloc (Nat.le_refl _) _).drew
        have hxa : Wa.heap[bx]? = some (.cells #[.slice AM nm cm, .slice (some ⟨b1, o1, none⟩) (k + 1) cw, .slice (some ⟨b2, o2, none⟩) (k + 1) cs, .slice (some ⟨b3, o3, none⟩) (k + 1) cv, .slice (some ⟨b4, o4, none⟩) (k + 1) cn] 41 (0, 0)) := by rw [← hWa, ← hbx]; exact heap_alloc_new wr _
        have BA := Lib.hid (HB3.out.trans ((HBR.out.trans (hba.mono HBR.out.size)).mono HB3.out.size))
        have XA := Lib.hid hxa
        have UA := Lib.hid ((hba.block _ (Array.getElem?_eq_some_iff.1 U3.out).1).trans U3.out)
        have SA := Lib.hid (SN.out.next_ hba)
        have RA_ := Lib.hid (HBR.out.trans (hba.mono HBR.out.size))
        clear hWa hbx hba hxa t0 t1 t2 t3 t4 ha2 ha3 ha4 ha5 q2 q3 q4 q5
        have t0 := cell_of_row Wa bx 0 _ 41 (0, 0) XA.out
        have t1 := cell_of_row Wa bx 1 _ 41 (0, 0) XA.out
        have t2 := cell_of_row Wa bx 2 _ 41 (0, 0) XA.out
        have t3 := cell_of_row Wa bx 3 _ 41 (0, 0) XA.out
        have t4 := cell_of_row Wa bx 4 _ 41 (0, 0) XA.out
        have p0 := cell_of_row Wa w.heap.size 0 _ 26 (0, 0) UA.out
        have p1 := cell_of_row Wa w.heap.size 1 _ 26 (0, 0) UA.out
        have p2 := cell_of_row Wa w.heap.size 2 _ 26 (0, 0) UA.out
        simp at t0 t1 t2 t3 t4 p0 p1 p2
        obtain ⟨S, hS⟩ : ∃ S, runS ls T 0 (k + 1) = S := ⟨_, rfl⟩
        have hS' : runS ls (cutT ⟨ms, ws, ss, vs, ns⟩ (k + 1)) 0 (k + 1) = S := by rw [HTT.out, run_cut _ _ _ _ _ (Nat.le_refl _), hS]
        have hp' : possT ls lo hi (ys.take (k + 1)) (cutT ⟨ms, ws, ss, vs, ns⟩ (k + 1)) = true := by rw [HTT.out]; exact possT_cut HRP.out (k + 1)
        have CS := Lib.hid hS'; have HS := Lib.hid hS; have CP := Lib.hid hp'
        have hcy : (k : Int) + 1 ≤ (c' : Int) := by have := HCM.out; omega
        have tk : ∀ {α : Type} {xs : List α}, xs.length = m → (xs.take (k + 1)).length = k + 1 := fun h => by rw [List.length_take, h]; omega
        have T1 := Lib.hid (tk HY.out); have T2 := Lib.hid (tk H2.out); have T3 := Lib.hid (tk H3.out); have T4 := Lib.hid (tk H4.out); have T5 := Lib.hid (tk H5.out)
        have KM : Hid (k + 1 ≤ maxLen) := Lib.hid (by unfold maxLen; omega)
        have C2 : Hid (k + 1 ≤ cw) := Lib.hid (by have := Q2.out; omega)
        have C3 : Hid (k + 1 ≤ cs) := Lib.hid (by have := Q3.out; omega)
        have C4 : Hid (k + 1 ≤ cv) := Lib.hid (by have := Q4.out; omega)
        have C5 : Hid (k + 1 ≤ cn) := Lib.hid (by have := Q5.out; omega)
        have lx := (Array.getElem?_eq_some_iff.1 XA.out).1
        have lu := (Array.getElem?_eq_some_iff.1 UA.out).1
        have hwr : IntKind.i64.wrap ((k : Int) + 1) = (k : Int) + 1 := IntWalk.i64_in _ (by omega)
        have hAB : Below w.heap.size w (Wa.alloc (.cells #[.int .i64 0, .int .i64 0, .int .i64 0] 44)).drew := (BA.out.alloc BA.out.size _).drew
        have hAW : Below Wa.heap.size Wa (Wa.alloc (.cells #[.int .i64 0, .int .i64 0, .int .i64 0] 44)).drew := ((Below.refl _ _).alloc (Nat.le_refl _) _).drew
        have hZB : (Wa.alloc (.cells #[.int .i64 0, .int .i64 0, .int .i64 0] 44)).drew.heap[Wa.heap.size]? = some (.cells #[.int .i64 0, .int .i64 0, .int .i64 0] 44 (0, 0)) := heap_alloc_new Wa _
        have AB := Lib.hid hAB; have AW_ := Lib.hid hAW; have ZB := Lib.hid hZB
        have m0 := World.new_ne Wa _ t0
        have m1 := World.new_ne Wa _ t1
        have m2 := World.new_ne Wa _ t2
        have m3 := World.new_ne Wa _ t3
        have m4 := World.new_ne Wa _ t4
        have m5 := World.new_ne Wa _ p0
        have m6 := World.new_ne Wa _ p1
        have m7 := World.new_ne Wa _ p2
        clear hS hS' hp' tk hAB hAW hZB
        go_wp2_with fail
        go_region_held3 (fun w' => w'.cell? ⟨bx, 0, none⟩ = some (.slice AM nm cm) ∧ w'.cell? ⟨bx, 1, none⟩ = some (.slice (some ⟨b1, o1, none⟩) (k + 1) cw) ∧ w'.cell? ⟨bx, 2, none⟩ = some (.slice (some ⟨b2, o2, none⟩) (k + 1) cs) ∧ w'.cell? ⟨bx, 3, none⟩ = some (.slice (some ⟨b3, o3, none⟩) (k + 1) cv) ∧ w'.cell? ⟨bx, 4, none⟩ = some (.slice (some ⟨b4, o4, none⟩) (k + 1) cn) ∧
            w'.cell? ⟨w.heap.size, 0, none⟩ = some (.slice A n c) ∧ w'.cell? ⟨w.heap.size, 1, none⟩ = some (.int .i64 lo) ∧ w'.cell? ⟨w.heap.size, 2, none⟩ = some (.int .i64 hi)) (go_keep)
          (first
            | (go_at_call 25
               with_reducible refine (play_new A (some ⟨b5, o5, none⟩) n c (k + 1) c' ls (ys.take (k + 1)) lo hi (cutT ⟨ms, ws, ss, vs, ns⟩ (k + 1)) _ _ _ _ _ _ HL.out HN.out HCAP.out (hL.next BA.out.drew) T1.out KM.out ((hY.next BA.out.drew).cut (k + 1)) ?_ ?_ ?_ ?_ ?_ ?_ ?_ ?_ ?_ ?_ (yearsI_cut HR0.out (k + 1)) CP.out S CS.out).mono ?_
               · exact sl_of H1.out Q1.out (i1.next BA.out.drew)
               · exact sl_of T2.out C2.out ((i2.next BA.out.drew).cut (k + 1))
               · exact sl_of T3.out C3.out ((i3.next BA.out.drew).cut (k + 1))
               · exact sl_of T4.out C4.out ((i4.next BA.out.drew).cut (k + 1))
               · exact sl_of T5.out C5.out ((i5.next BA.out.drew).cut (k + 1))
               · exact le_of_len H1.out G1.out
               · exact le_of_len T2.out KM.out
               · exact le_of_len T3.out KM.out
               · exact le_of_len T4.out KM.out
               · exact le_of_len T5.out KM.out
               rintro e wb ⟨B, kk, rfl, hB, hbb⟩
               have QB := Lib.hid ((Below.refl Wa.heap.size Wa).drew.trans hbb)
               have BI := Lib.hid hB
               obtain ⟨q, q'⟩ := bcell QB.out
               have e0 := (q _ 0 lx).trans t0
               have e1 := (q _ 1 lx).trans t1
               have e2 := (q _ 2 lx).trans t2
               have e3 := (q _ 3 lx).trans t3
               have e4 := (q _ 4 lx).trans t4
               have e5 := (q _ 0 lu).trans p0
               have e6 := (q _ 1 lu).trans p1
               have e7 := (q _ 2 lu).trans p2
               have n0 := World.new_ne wb _ e0
               have n1 := World.new_ne wb _ e1
               have n2 := World.new_ne wb _ e2
               have n3 := World.new_ne wb _ e3
               have n4 := World.new_ne wb _ e4
               have n5 := World.new_ne wb _ e5
               have n6 := World.new_ne wb _ e6
               have n7 := World.new_ne wb _ e7
               clear q q' hbb hB)
            | (go_at_call 25
               with_reducible refine (play_new A (some ⟨b5, o5, none⟩) n c (k + 1) c' ls (ys.take (k + 1)) lo hi (cutT ⟨ms, ws, ss, vs, ns⟩ (k + 1)) _ _ _ _ _ _ HL.out HN.out HCAP.out (hL.next AB.out) T1.out KM.out ((hY.next AB.out).cut (k + 1)) ?_ ?_ ?_ ?_ ?_ ?_ ?_ ?_ ?_ ?_ (yearsI_cut HR0.out (k + 1)) CP.out S CS.out).mono ?_
               · exact sl_of H1.out Q1.out (i1.next AB.out)
               · exact sl_of T2.out C2.out ((i2.next AB.out).cut (k + 1))
               · exact sl_of T3.out C3.out ((i3.next AB.out).cut (k + 1))
               · exact sl_of T4.out C4.out ((i4.next AB.out).cut (k + 1))
               · exact sl_of T5.out C5.out ((i5.next AB.out).cut (k + 1))
               · exact le_of_len H1.out G1.out
               · exact le_of_len T2.out KM.out
               · exact le_of_len T3.out KM.out
               · exact le_of_len T4.out KM.out
               · exact le_of_len T5.out KM.out
               rintro e wb ⟨B, kk, rfl, hB, hbb⟩
               have QB := Lib.hid (AW_.out.trans (hbb.mono AW_.out.size))
               have zb := (hbb.block _ (Array.getElem?_eq_some_iff.1 ZB.out).1).trans ZB.out
               have z0 := cell_of_row wb Wa.heap.size 0 _ 44 (0, 0) zb
               have z1 := cell_of_row wb Wa.heap.size 1 _ 44 (0, 0) zb
               have z2 := cell_of_row wb Wa.heap.size 2 _ 44 (0, 0) zb
               simp at z0 z1 z2
               have ZZ := Lib.hid zb
               have y0 : wb.frozen? ⟨Wa.heap.size, 0, none⟩ = false := by simp [World.frozen?, zb]
               have y1 : wb.frozen? ⟨Wa.heap.size, 1, none⟩ = false := by simp [World.frozen?, zb]
               have y2 : wb.frozen? ⟨Wa.heap.size, 2, none⟩ = false := by simp [World.frozen?, zb]
               clear zb
               have BI := Lib.hid hB
               obtain ⟨q, q'⟩ := bcell QB.out
               have e0 := (q _ 0 lx).trans t0
               have e1 := (q _ 1 lx).trans t1
               have e2 := (q _ 2 lx).trans t2
               have e3 := (q _ 3 lx).trans t3
               have e4 := (q _ 4 lx).trans t4
               have e5 := (q _ 0 lu).trans p0
               have e6 := (q _ 1 lu).trans p1
               have e7 := (q _ 2 lu).trans p2
               have n0 : ¬ Wa.heap.size = bx := by omega
               have n1 : ¬ bx = Wa.heap.size := by omega
               have n2 : ¬ Wa.heap.size = w.heap.size := by omega
               have n3 : ¬ w.heap.size = Wa.heap.size := by omega
               clear q q' hbb hB)
            | fail)
        · obtain ⟨We, hWe⟩ : ∃ W, wb.alloc (.cells #[.int .i64 S.In, .int .i64 S.Out, .int .i64 S.Lf] 44) = W := ⟨_, rfl⟩
          rw [hWe]
          have hN : NewInts Wa.heap.size We B S.th := by
            rw [← hWe]
            have h0 : NewInts Wa.heap.size wb B S.th := by simpa using BI.out
            exact h0.al_ _
          have hZ : We.heap[wb.heap.size]? = some (.cells #[.int .i64 S.In, .int .i64 S.Out, .int .i64 S.Lf] 44 (0, 0)) := by
            rw [← hWe]
            exact heap_alloc_new wb _
          have hBe : Below Wa.heap.size Wa We := by
            rw [← hWe]
            exact QB.out.alloc QB.out.size _
          obtain ⟨bz, hbz⟩ : ∃ b, wb.heap.size = b := ⟨_, rfl⟩
          rw [hbz] at hZ ⊢
          have HN_ := Lib.hid hN; have HZ_ := Lib.hid hZ; have BE := Lib.hid hBe
          clear hWe hN hZ hBe hbz m0 m1 m2 m3 m4 m5 m6 m7 n0 n1 n2 n3 n4 n5 n6 n7 e0 e1 e2 e3 e4 e5 e6 e7 t0 t1 t2 t3 t4 p0 p1 p2 hwr lx lu
          have bt := BT.out (k + 1) (by rw [HY.out]; omega)
          rw [HS.out] at bt
          have c1 := (lf_at ls (extT false ls lo hi ys) 0 m k hlt)
          have c2 := (lf_at ls (extT true ls lo hi ys) 0 m k hlt)
          rw [HSC.out] at c1
          rw [HSW.out] at c2
          obtain ⟨bl, bth⟩ := bt
          have bk := bth k (by omega)
          rw [← c1.1, ← c2.1] at bl
          rw [← c1.2, ← c2.2] at bk
          have rb := runS_b (ls := ls) HTK.out ⟨Int.le_refl 0, by decide⟩ (k + 1) (by omega)
          rw [HS.out] at rb
          have lth : S.th.length = k + 1 := by rw [← HS.out]; exact (run_len _ _ _ _).1
          obtain ⟨x, hx⟩ := get_of_lt (l := S.th) (k := k) (by omega)
          have ex : at0 S.th k = x := by simp [at0, hx]
          rw [ex] at bk
          obtain ⟨gb, rfl, hg1, hg2, hg3⟩ := HN_.out (by intro h; rw [h] at hx; simp at hx)
          have dx := hg3 k x hx
          have sne : seenI SC SW m ≠ [] := by intro h; have := congrArg List.length h; simp [seenI] at this; omega
          obtain ⟨sb, so, rfl, lsb, hcs⟩ := (SA.out.next_ BE.out) sne
          obtain ⟨s0, s1, s2, s3, s4⟩ := hcs k _ (seenI_get hlt)
          simp only [snI] at s0 s1 s2 s3 s4
          obtain ⟨v0, hv0⟩ : ∃ v, at0 SC.th k = v := ⟨_, rfl⟩
          obtain ⟨v1, hv1⟩ : ∃ v, at0 SW.th k = v := ⟨_, rfl⟩
          obtain ⟨v2, hv2⟩ : ∃ v, at0 SC.lf k = v := ⟨_, rfl⟩
          obtain ⟨v3, hv3⟩ : ∃ v, at0 SW.lf k = v := ⟨_, rfl⟩
          rw [hv0] at s0 bk
          rw [hv1] at s1 bk
          rw [hv2] at s2 s4 bl
          rw [hv3] at s3 s4 bl
          obtain ⟨e, he⟩ : ∃ e, S.Lf = e := ⟨_, rfl⟩
          rw [he] at bl rb
          have z2 := cell_of_row We bz 2 _ 44 (0, 0) HZ_.out
          simp at z2
          rw [he] at z2
          have GT : Hid (inB x v0 v1 = true) := Lib.hid (by rw [inB_iff]; exact bk)
          have GL : Hid (inB e v2 v3 = true) := Lib.hid (by rw [inB_iff]; exact bl)
          have e0 : 0 ≤ e := rb.2.1.1
          have lz := (Array.getElem?_eq_some_iff.1 HZ_.out).1
          have BW := Lib.hid (BA.out.trans (BE.out.mono BA.out.size))
          have RW := Lib.hid (RA_.out.trans (BE.out.mono RA_.out.size))
          clear c1 c2 bth bk rb lth hx ex hg3 sne hcs hv0 hv1 hv2 hv3 he hg1
          go_wp2_with fail
          have u0 : ∀ u : KeptW We, u.w.cell? ⟨gb, k, none⟩ = some (.int .i64 x) := fun u => ((bcell u.h).1 _ _ hg2).trans dx
          have u1 : ∀ u : KeptW We, u.w.cell? ⟨sb, so + k * 5, none⟩ = some (.int .i64 v0) := fun u => ((bcell u.h).1 _ _ lsb).trans s0
          have u2 : ∀ u : KeptW We, u.w.cell? ⟨sb, so + k * 5 + 1, none⟩ = some (.int .i64 v1) := fun u => ((bcell u.h).1 _ _ lsb).trans s1
          have u3 : ∀ u : KeptW We, u.w.cell? ⟨sb, so + k * 5 + 2, none⟩ = some (.int .i64 v2) := fun u => ((bcell u.h).1 _ _ lsb).trans s2
          have u4 : ∀ u : KeptW We, u.w.cell? ⟨sb, so + k * 5 + 3, none⟩ = some (.int .i64 v3) := fun u => ((bcell u.h).1 _ _ lsb).trans s3
          have u5 : ∀ u : KeptW We, u.w.cell? ⟨bz, 2, none⟩ = some (.int .i64 e) := fun u => ((bcell u.h).1 _ _ lz).trans z2
          refine rk_region (by kernel_rfl) (by kernel_rfl) ?_
          repeat (go_big_quiet_step (first | (with_reducible exact inside_kept GT.out _) | (with_reducible exact inside_kept GL.out _) | fail))
          refine wpQuiet_nil ?_
          rintro wy ⟨⟨_, hby⟩, rfl⟩
          have RY := Lib.hid (RW.out.trans (hby.mono RW.out.size))
          replace s4 := ((bcell hby).1 _ _ lsb).trans s4
          replace z2 := ((bcell hby).1 _ _ lz).trans z2
          clear hby u0 u1 u2 u3 u4 u5 s0 s1 s2 s3 dx hg2 lsb lz
          obtain ⟨bl1, bl2⟩ := bl
          by_cases h2 : 0 < v2
          · have ht : talikI v2 v3 = 3 := by unfold talikI; rw [if_pos h2]
            rw [ht] at s4
            have h3 : 0 < e := by omega
            clear ht
            go_wp2_with fail
            exact ⟨⟨k + 1, by omega, by go_num, RY.out⟩, by simp [intOf]; omega⟩
          · by_cases h3 : 0 < v3
            · have ht : talikI v2 v3 = 2 := by unfold talikI; rw [if_neg h2, if_pos h3]
              rw [ht] at s4
              clear ht
              go_wp2_with fail
              exact ⟨⟨k + 1, by omega, by go_num, RY.out⟩, by simp [intOf]; omega⟩
            · have ht : talikI v2 v3 = 1 := by unfold talikI; rw [if_neg h2, if_neg h3]
              rw [ht] at s4
              obtain rfl : e = 0 := by omega
              clear ht
              go_wp2_with fail
              exact ⟨⟨k + 1, by omega, by go_num, RY.out⟩, by simp [intOf]; omega⟩
        · obtain ⟨We, hWe⟩ : ∃ W, (((wb.setCell ⟨Wa.heap.size, 0, none⟩ (.int .i64 S.In)).setCell ⟨Wa.heap.size, 1, none⟩ (.int .i64 S.Out)).setCell ⟨Wa.heap.size, 2, none⟩ (.int .i64 S.Lf)) = W := ⟨_, rfl⟩
          rw [hWe]
          have hN : NewInts (Wa.heap.size + 1) We B S.th := by
            rw [← hWe]
            have h0 : NewInts (Wa.heap.size + 1) wb B S.th := by simpa using BI.out
            exact ((h0.set_ (by omega) _).set_ (by omega) _).set_ (by omega) _
          have hZ : We.heap[Wa.heap.size]? = some (.cells #[.int .i64 S.In, .int .i64 S.Out, .int .i64 S.Lf] 44 (0, 0)) := by
            rw [← hWe]
            exact blk44_set (blk44_set (blk44_set ZZ.out 0 _) 1 _) 2 _
          have hBe : Below Wa.heap.size Wa We := by
            rw [← hWe]
            exact ((QB.out.setCell (p := ⟨Wa.heap.size, 0, none⟩) (Nat.le_refl _) _).setCell (p := ⟨Wa.heap.size, 1, none⟩) (Nat.le_refl _) _).setCell (p := ⟨Wa.heap.size, 2, none⟩) (Nat.le_refl _) _
          obtain ⟨bz, hbz⟩ : ∃ b, Wa.heap.size = b := ⟨_, rfl⟩
          rw [hbz] at hZ ⊢
          have HN_ := Lib.hid hN; have HZ_ := Lib.hid hZ; have BE := Lib.hid hBe
          clear hWe hN hZ hBe hbz m0 m1 m2 m3 m4 m5 m6 m7 n0 n1 n2 n3 e0 e1 e2 e3 e4 e5 e6 e7 z0 z1 z2 y0 y1 y2 t0 t1 t2 t3 t4 p0 p1 p2 hwr lx lu
          have bt := BT.out (k + 1) (by rw [HY.out]; omega)
          rw [HS.out] at bt
          have c1 := (lf_at ls (extT false ls lo hi ys) 0 m k hlt)
          have c2 := (lf_at ls (extT true ls lo hi ys) 0 m k hlt)
          rw [HSC.out] at c1
          rw [HSW.out] at c2
          obtain ⟨bl, bth⟩ := bt
          have bk := bth k (by omega)
          rw [← c1.1, ← c2.1] at bl
          rw [← c1.2, ← c2.2] at bk
          have rb := runS_b (ls := ls) HTK.out ⟨Int.le_refl 0, by decide⟩ (k + 1) (by omega)
          rw [HS.out] at rb
          have lth : S.th.length = k + 1 := by rw [← HS.out]; exact (run_len _ _ _ _).1
          obtain ⟨x, hx⟩ := get_of_lt (l := S.th) (k := k) (by omega)
          have ex : at0 S.th k = x := by simp [at0, hx]
          rw [ex] at bk
          obtain ⟨gb, rfl, hg1, hg2, hg3⟩ := HN_.out (by intro h; rw [h] at hx; simp at hx)
          have dx := hg3 k x hx
          have sne : seenI SC SW m ≠ [] := by intro h; have := congrArg List.length h; simp [seenI] at this; omega
          obtain ⟨sb, so, rfl, lsb, hcs⟩ := (SA.out.next_ BE.out) sne
          obtain ⟨s0, s1, s2, s3, s4⟩ := hcs k _ (seenI_get hlt)
          simp only [snI] at s0 s1 s2 s3 s4
          obtain ⟨v0, hv0⟩ : ∃ v, at0 SC.th k = v := ⟨_, rfl⟩
          obtain ⟨v1, hv1⟩ : ∃ v, at0 SW.th k = v := ⟨_, rfl⟩
          obtain ⟨v2, hv2⟩ : ∃ v, at0 SC.lf k = v := ⟨_, rfl⟩
          obtain ⟨v3, hv3⟩ : ∃ v, at0 SW.lf k = v := ⟨_, rfl⟩
          rw [hv0] at s0 bk
          rw [hv1] at s1 bk
          rw [hv2] at s2 s4 bl
          rw [hv3] at s3 s4 bl
          obtain ⟨e, he⟩ : ∃ e, S.Lf = e := ⟨_, rfl⟩
          rw [he] at bl rb
          have z2 := cell_of_row We bz 2 _ 44 (0, 0) HZ_.out
          simp at z2
          rw [he] at z2
          have GT : Hid (inB x v0 v1 = true) := Lib.hid (by rw [inB_iff]; exact bk)
          have GL : Hid (inB e v2 v3 = true) := Lib.hid (by rw [inB_iff]; exact bl)
          have e0 : 0 ≤ e := rb.2.1.1
          have lz := (Array.getElem?_eq_some_iff.1 HZ_.out).1
          have BW := Lib.hid (BA.out.trans (BE.out.mono BA.out.size))
          have RW := Lib.hid (RA_.out.trans (BE.out.mono RA_.out.size))
          clear c1 c2 bth bk rb lth hx ex hg3 sne hcs hv0 hv1 hv2 hv3 he hg1
          go_wp2_with fail
          have u0 : ∀ u : KeptW We, u.w.cell? ⟨gb, k, none⟩ = some (.int .i64 x) := fun u => ((bcell u.h).1 _ _ hg2).trans dx
          have u1 : ∀ u : KeptW We, u.w.cell? ⟨sb, so + k * 5, none⟩ = some (.int .i64 v0) := fun u => ((bcell u.h).1 _ _ lsb).trans s0
          have u2 : ∀ u : KeptW We, u.w.cell? ⟨sb, so + k * 5 + 1, none⟩ = some (.int .i64 v1) := fun u => ((bcell u.h).1 _ _ lsb).trans s1
          have u3 : ∀ u : KeptW We, u.w.cell? ⟨sb, so + k * 5 + 2, none⟩ = some (.int .i64 v2) := fun u => ((bcell u.h).1 _ _ lsb).trans s2
          have u4 : ∀ u : KeptW We, u.w.cell? ⟨sb, so + k * 5 + 3, none⟩ = some (.int .i64 v3) := fun u => ((bcell u.h).1 _ _ lsb).trans s3
          have u5 : ∀ u : KeptW We, u.w.cell? ⟨bz, 2, none⟩ = some (.int .i64 e) := fun u => ((bcell u.h).1 _ _ lz).trans z2
          refine rk_region (by kernel_rfl) (by kernel_rfl) ?_
          repeat (go_big_quiet_step (first | (with_reducible exact inside_kept GT.out _) | (with_reducible exact inside_kept GL.out _) | fail))
          refine wpQuiet_nil ?_
          rintro wy ⟨⟨_, hby⟩, rfl⟩
          have RY := Lib.hid (RW.out.trans (hby.mono RW.out.size))
          replace s4 := ((bcell hby).1 _ _ lsb).trans s4
          replace z2 := ((bcell hby).1 _ _ lz).trans z2
          clear hby u0 u1 u2 u3 u4 u5 s0 s1 s2 s3 dx hg2 lsb lz
          obtain ⟨bl1, bl2⟩ := bl
          by_cases h2 : 0 < v2
          · have ht : talikI v2 v3 = 3 := by unfold talikI; rw [if_pos h2]
            rw [ht] at s4
            have h3 : 0 < e := by omega
            clear ht
            go_wp2_with fail
            exact ⟨⟨k + 1, by omega, by go_num, RY.out⟩, by simp [intOf]; omega⟩
          · by_cases h3 : 0 < v3
            · have ht : talikI v2 v3 = 2 := by unfold talikI; rw [if_neg h2, if_pos h3]
              rw [ht] at s4
              clear ht
              go_wp2_with fail
              exact ⟨⟨k + 1, by omega, by go_num, RY.out⟩, by simp [intOf]; omega⟩
            · have ht : talikI v2 v3 = 1 := by unfold talikI; rw [if_neg h2, if_neg h3]
              rw [ht] at s4
              obtain rfl : e = 0 := by omega
              clear ht
              go_wp2_with fail
              exact ⟨⟨k + 1, by omega, by go_num, RY.out⟩, by simp [intOf]; omega⟩
      · obtain rfl : k = m := by omega
        go_wp2_with fail
        refine (known_any _ (HT.out.next (HB3.out.trans (HBR.out.mono HB3.out.size)))).mono ?_
        rintro e w6 ⟨rfl, hb6⟩
        have HB6 := Lib.hid ((HB3.out.trans (HBR.out.mono HB3.out.size)).trans (hb6.mono (HB3.out.trans (HBR.out.mono HB3.out.size)).size))
        clear hb6
        go_wp2_with fail
        go_ret
        exact ⟨rfl, HB6.out⟩
end Go.Proofs.YtccekbdhffccdaaDoor
