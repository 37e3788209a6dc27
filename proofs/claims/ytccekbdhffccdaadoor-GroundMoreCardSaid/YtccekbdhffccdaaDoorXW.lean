/- The statement on heat: the ledger of whatever is true. The walk. -/
import Derived.Test.YtccekbdhffccdaaDoorUU
import Derived.Test.YtccekbdhffccdaaDoorCC
namespace Go.Proofs.YtccekbdhffccdaaDoor
open Go.RowKit

theorem goes_any (W S : Int) (hW : 0 ≤ W ∧ W ≤ 1000000) (hS : 0 ≤ S ∧ S ≤ 1000) (w : World) :
    Calls Tryd.prog 31 #[.int .i64 W, .int .i64 S] w fun e w' => e = .returned (.int .i64 (W * (1000 - S) / 1000)) ∧ w = w' := by
  have hp0 : 0 ≤ W * (1000 - S) := Int.mul_nonneg hW.1 (by omega)
  have hp1 : W * (1000 - S) ≤ 1000000000 := Int.le_trans (Int.mul_le_mul hW.2 (show 1000 - S ≤ 1000 by omega) (by omega) (by omega)) (by decide)
  obtain ⟨w1, w2⟩ := hW
  obtain ⟨s1, s2⟩ := hS
  go_enter Tryd.func31, Tryd.ntmps31
  go_wp2
  go_ret
  exact ⟨rfl, rfl⟩

theorem goes_kept {W S g : Int} {w0 : World} (hg : W * (1000 - S) / 1000 = g) (hW : 0 ≤ W ∧ W ≤ 1000000) (hS : 0 ≤ S ∧ S ≤ 1000) (u : KeptW w0) :
    Calls Tryd.prog 31 #[.int .i64 W, .int .i64 S] u.w fun e w' => e = .returned (.int .i64 g) ∧ ∃ u' : KeptW w0, w' = u'.w :=
  Calls.in_kept u ((goes_any W S hW hS u.w).mono fun e w' hh => ⟨by rw [hh.1, hg], by rw [← hh.2]; exact Below.refl _ _⟩)
theorem ret_val {k : IntKind} {a b : Int} (h : a = b) : Value.int k a = Value.int k b := by rw [h]
def mostI (t : Tru) : Nat → Int
  | 0 => 0
  | k + 1 => mostI t k + at0 t.vs k * (1000 - at0 t.ns k) / 1000
theorem mostI_b {t : Tru} {L N : Nat} (h : TruOk t L N) (ls : List Lay) : ∀ k, k ≤ N → 0 ≤ mostI t k ∧ mostI t k ≤ 1000000 * k ∧ (runS ls t 0 k).Out ≤ mostI t k := by
  intro k
  induction k with
  | zero => intro _; simp [mostI, runS, st0]
  | succ k ih =>
    intro hk
    obtain ⟨i1, i2, i3⟩ := ih (by omega)
    have v1 := h.bv _ (at0_mem (l := t.vs) (k := k) (by rw [h.lv]; omega)).2
    have n1 := h.bn _ (at0_mem (l := t.ns) (k := k) (by rw [h.ln]; omega)).2
    have hp0 : 0 ≤ at0 t.vs k * (1000 - at0 t.ns k) := Int.mul_nonneg v1.1 (by omega)
    have hp1 : at0 t.vs k * (1000 - at0 t.ns k) ≤ 1000000000 := Int.le_trans (Int.mul_le_mul v1.2 (show 1000 - at0 t.ns k ≤ 1000 by omega) (by omega) (by omega)) (by decide)
    simp only [mostI, runS, step_eq, letsI]
    generalize at0 t.vs k * (1000 - at0 t.ns k) = p at *
    refine ⟨by omega, by omega, ?_⟩
    split <;> omega
theorem in_next (ls : List Lay) (t : Tru) (k : Nat) : (runS ls t 0 (k + 1)).In = (runS ls t 0 k).In + (at0 t.ws k + at0 t.ss k) := by
  simp only [runS, step_eq]

theorem years_ok (A A2 : Option Addr) (n c m c' : Nat) (ls : List Lay) (ys : List Yr) (lo hi : Int) (w : World) (hl : ls.length = n) (hn : n ≤ maxLen) (hcap : n ≤ c) (hL : LaysAt w w.heap.size A ls)
    (hm : ys.length = m) (hm2 : m ≤ maxLen) (hY : YrsAt w w.heap.size A2 ys) (hr : yearsI ls lo hi ys = 0) :
    Calls Tryd.prog 19 #[.agg #[.slice A n c, .int .i64 lo, .int .i64 hi], .slice A2 m c'] w fun e w' => ∃ (B : Option Addr) (k : Nat), e = .returned (.tuple #[.slice B m k, .int .i64 0]) ∧
      SnsAt w' w'.heap.size B (seenI (runS ls (extT false ls lo hi ys) 0 m) (runS ls (extT true ls lo hi ys) 0 m) m) ∧ Below w.heap.size w w' := by
  refine (years_any A A2 n c m c' ls ys lo hi w hl hn hcap hL hm hm2 hY).mono ?_
  rintro e w' ⟨B, k, rfl, hs, hb⟩
  have hq : yearsR ls lo hi ys = (seenI (runS ls (extT false ls lo hi ys) 0 m) (runS ls (extT true ls lo hi ys) 0 m) m, 0) := by unfold yearsR; rw [if_pos hr, hm]
  rw [hq] at hs ⊢
  exact ⟨B, k, by simp [seenI], hs, hb⟩
theorem seenI_get {a b : St} {m i : Nat} (h : i < m) : (seenI a b m)[i]? = some (snI a b i) := by
  simp only [seenI, List.getElem?_map, List.getElem?_range h, Option.map_some]

set_option maxRecDepth 100000 in
set_option maxHeartbeats 4000000 in
theorem ledgers_any (A A2 AM AW AS AV AN : Option Addr) (n c m c' nm cm nw cw ns_ cs nv cv nn cn : Nat) (ls : List Lay) (ys : List Yr) (lo hi : Int) (ms ws ss vs ns : List Int) (w : World) (ht : Tab w) (hl : ls.length = n) (hcap : n ≤ c) (hn : n ≤ maxLen) (hL : LaysAt w w.heap.size A ls) (hy : ys.length = m) (hm : m ≤ maxLen) (hY : YrsAt w w.heap.size A2 ys)
    (h1 : ms.length = nm) (q1 : nm ≤ cm) (g1 : nm ≤ maxLen) (i1 : IntsAt w w.heap.size AM ms) (h2 : ws.length = nw) (q2 : nw ≤ cw) (g2 : nw ≤ maxLen) (i2 : IntsAt w w.heap.size AW ws) (h3 : ss.length = ns_) (q3 : ns_ ≤ cs) (g3 : ns_ ≤ maxLen) (i3 : IntsAt w w.heap.size AS ss) (h4 : vs.length = nv) (q4 : nv ≤ cv) (g4 : nv ≤ maxLen) (i4 : IntsAt w w.heap.size AV vs) (h5 : ns.length = nn) (q5 : nn ≤ cn) (g5 : nn ≤ maxLen) (i5 : IntsAt w w.heap.size AN ns) :
    Calls Tryd.prog 5 #[.agg #[.slice A n c, .int .i64 lo, .int .i64 hi], .slice A2 m c', .agg #[.slice AM nm cm, .slice AW nw cw, .slice AS ns_ cs, .slice AV nv cv, .slice AN nn cn]] w fun e w' => e = .returned (.bool true) ∧ Below w.heap.size w w' := by
  have HT := Lib.hid ht
  have HL := Lib.hid hl; have HY := Lib.hid hy; have H1 := Lib.hid h1; have H2 := Lib.hid h2; have H3 := Lib.hid h3; have H4 := Lib.hid h4; have H5 := Lib.hid h5
  have HN := Lib.hid hn; have HM := Lib.hid hm; have HCAP := Lib.hid hcap
  have G1 := Lib.hid g1; have G2 := Lib.hid g2; have G3 := Lib.hid g3; have G4 := Lib.hid g4; have G5 := Lib.hid g5
  have Q1 := Lib.hid q1; have Q2 := Lib.hid q2; have Q3 := Lib.hid q3; have Q4 := Lib.hid q4; have Q5 := Lib.hid q5
  clear hl hy h1 h2 h3 h4 h5 hn hm g1 g2 g3 g4 g5 ht hcap q1 q2 q3 q4 q5
  have hB1 : Below w.heap.size w ((w.alloc (.cells #[.slice A n c, .int .i64 lo, .int .i64 hi] 26)).alloc (.cells #[.slice AM nm cm, .slice AW nw cw, .slice AS ns_ cs, .slice AV nv cv, .slice AN nn cn] 41)) := ((Below.refl _ _).alloc (Nat.le_refl _) _).alloc (by simp) _
  have z1 : ((w.alloc (.cells #[.slice A n c, .int .i64 lo, .int .i64 hi] 26)).alloc (.cells #[.slice AM nm cm, .slice AW nw cw, .slice AS ns_ cs, .slice AV nv cv, .slice AN nn cn] 41)).heap[w.heap.size]? = some (.cells #[.slice A n c, .int .i64 lo, .int .i64 hi] 26 (0, 0)) := (Below.heap_alloc _ _ _ (by simp)).trans (heap_alloc_new w _)
  have y0 := heap_alloc_new (w.alloc (.cells #[.slice A n c, .int .i64 lo, .int .i64 hi] 26)) (.cells #[.slice AM nm cm, .slice AW nw cw, .slice AS ns_ cs, .slice AV nv cv, .slice AN nn cn] 41)
  simp only [World.size_alloc] at y0
  have HB1 := Lib.hid hB1
  have Z1 := Lib.hid z1
  have Y1 := Lib.hid y0
  clear hB1 z1 y0
  cases hf : fairB ls lo hi ys ms ws ss vs ns with
  | false =>
    have HF := Lib.hid hf; clear hf
    go_enter Tryd.func5, Tryd.ntmps5
    go_wp2_with fail
    refine (fair_any A A2 AM AW AS AV AN n c m c' nm cm nw cw ns_ cs nv cv nn cn ls ys lo hi ms ws ss vs ns _ HL.out HN.out (hL.next HB1.out) HY.out HM.out (hY.next HB1.out) H1.out G1.out (i1.next HB1.out) H2.out G2.out (i2.next HB1.out) H3.out G3.out (i3.next HB1.out) H4.out G4.out (i4.next HB1.out) H5.out G5.out (i5.next HB1.out)).mono ?_
    rintro e w2 ⟨rfl, hb2⟩
    rw [HF.out]
    have HB2 := Lib.hid (HB1.out.trans (hb2.mono HB1.out.size))
    clear hb2
    go_wp2_with fail
    refine (known_any _ (HT.out.next HB2.out)).mono ?_
    rintro e w3 ⟨rfl, hb3⟩
    have HB3 := Lib.hid (HB2.out.trans (hb3.mono HB2.out.size))
    clear hb3
    go_wp2_with fail
    go_ret
    exact ⟨rfl, HB3.out⟩
  | true =>
    have HF := Lib.hid hf; clear hf
    obtain ⟨r0, rp⟩ := fair_spec HF.out
    obtain ⟨e1, e2, e3⟩ := yearsI_zero r0
    have hm12 : m ≤ 12 := by rw [HY.out] at e1; exact e1
    have bt := (between e2 e3 e1 rp m (by rw [HY.out]; exact Nat.le_refl _)).1
    have hT : TruOk ⟨ms, ws, ss, vs, ns⟩ n m := by have := possT_ok e2 e3 rp; rw [HL.out, HY.out] at this; exact this
    obtain rfl : m = nw := by have := hT.lw; have := H2.out; simp at *; omega
    obtain rfl : m = ns_ := by have := hT.lS; have := H3.out; simp at *; omega
    obtain rfl : m = nv := by have := hT.lv; have := H4.out; simp at *; omega
    obtain rfl : m = nn := by have := hT.ln; have := H5.out; simp at *; omega
    obtain ⟨T, hTT⟩ : ∃ T : Tru, (⟨ms, ws, ss, vs, ns⟩ : Tru) = T := ⟨_, rfl⟩
    rw [hTT] at bt hT rp
    obtain ⟨S, hS⟩ : ∃ S, runS ls T 0 m = S := ⟨_, rfl⟩
    rw [hS] at bt
    have rb := runS_b (ls := ls) hT ⟨Int.le_refl 0, by decide⟩ m (Nat.le_refl _)
    have mb := mostI_b hT ls m (Nat.le_refl _)
    rw [hS] at rb mb
    obtain ⟨I, hI⟩ : ∃ I, S.In = I := ⟨_, rfl⟩
    obtain ⟨O, hO⟩ : ∃ O, S.Out = O := ⟨_, rfl⟩
    have hLf : S.Lf = I - O := by omega
    rw [hLf] at bt rb
    rw [hI, hO] at rb
    rw [hO] at mb
    obtain ⟨M, hM⟩ : ∃ M, mostI T m = M := ⟨_, rfl⟩
    rw [hM] at mb
    obtain ⟨SC, hSC⟩ : ∃ s, runS ls (extT false ls lo hi ys) 0 m = s := ⟨_, rfl⟩
    obtain ⟨SW, hSW⟩ : ∃ s, runS ls (extT true ls lo hi ys) 0 m = s := ⟨_, rfl⟩
    rw [hSC, hSW] at bt
    have o1 : 0 ≤ O := rb.2.2.2.1.1
    have o2 : O ≤ M := mb.2.2
    have o3 : O ≤ I := by have := rb.2.1.1; omega
    have o4 : I ≤ 24000000 := by have := rb.2.2.1.2; omega
    have BT := Lib.hid bt; have HTT := Lib.hid hTT; have HS := Lib.hid hS; have HI := Lib.hid hI; have HO := Lib.hid hO; have HLF := Lib.hid hLf; have HMM := Lib.hid hM; have HSC := Lib.hid hSC; have HSW := Lib.hid hSW; have HTK := Lib.hid hT; have HR0 := Lib.hid r0; have HRP := Lib.hid rp
    clear bt hTT hS hI hO hLf hM hSC hSW hT r0 rp rb mb e1 e2 e3
    have mb := HM.out
    unfold maxLen at mb
    go_enter Tryd.func5, Tryd.ntmps5
    go_wp2_with fail
    refine (fair_any A A2 AM AW AS AV AN n c m c' nm cm m cw m cs m cv m cn ls ys lo hi ms ws ss vs ns _ HL.out HN.out (hL.next HB1.out) HY.out HM.out (hY.next HB1.out) H1.out G1.out (i1.next HB1.out) H2.out G2.out (i2.next HB1.out) H3.out G3.out (i3.next HB1.out) H4.out G4.out (i4.next HB1.out) H5.out G5.out (i5.next HB1.out)).mono ?_
    rintro e w2 ⟨rfl, hb2⟩
    rw [HF.out]
    have HB2 := Lib.hid (HB1.out.trans (hb2.mono HB1.out.size))
    have Z2 := Lib.hid ((hb2.block _ (Array.getElem?_eq_some_iff.1 Z1.out).1).trans Z1.out)
    have Y2 := Lib.hid ((hb2.block _ (Array.getElem?_eq_some_iff.1 Y1.out).1).trans Y1.out)
    clear hb2
    have p0 := cell_of_row w2 w.heap.size 0 _ 26 (0, 0) Z2.out
    have p1 := cell_of_row w2 w.heap.size 1 _ 26 (0, 0) Z2.out
    have p2 := cell_of_row w2 w.heap.size 2 _ 26 (0, 0) Z2.out
    have t0 := cell_of_row w2 (w.heap.size + 1) 0 _ 41 (0, 0) Y2.out
    have t1 := cell_of_row w2 (w.heap.size + 1) 1 _ 41 (0, 0) Y2.out
    have t2 := cell_of_row w2 (w.heap.size + 1) 2 _ 41 (0, 0) Y2.out
    have t3 := cell_of_row w2 (w.heap.size + 1) 3 _ 41 (0, 0) Y2.out
    have t4 := cell_of_row w2 (w.heap.size + 1) 4 _ 41 (0, 0) Y2.out
    simp at p0 p1 p2 t0 t1 t2 t3 t4
    go_wp2_with fail
    refine (play_ok A A2 n c m c' ls ys lo hi ⟨ms, ws, ss, vs, ns⟩ _ _ _ _ _ _ HL.out HN.out HCAP.out (hL.next HB2.out) HY.out HM.out (hY.next HB2.out) (sl_of H1.out Q1.out (i1.next HB2.out)) (sl_of H2.out Q2.out (i2.next HB2.out)) (sl_of H3.out Q3.out (i3.next HB2.out)) (sl_of H4.out Q4.out (i4.next HB2.out)) (sl_of H5.out Q5.out (i5.next HB2.out))
      (by rw [H1.out]; exact G1.out) (by rw [H2.out]; exact G2.out) (by rw [H3.out]; exact G3.out) (by rw [H4.out]; exact G4.out) (by rw [H5.out]; exact G5.out) HR0.out (by rw [HTT.out]; exact HRP.out) S (by rw [HTT.out]; exact HS.out)).mono ?_
    clear p0 p1 p2 t0 t1 t2 t3 t4
    rintro e w3 ⟨B, kk, rfl, _, hb3⟩
    rw [HI.out, HO.out, HLF.out]
    have HB3 := Lib.hid (HB2.out.trans (hb3.mono HB2.out.size))
    have Z3 := Lib.hid ((hb3.block _ (Array.getElem?_eq_some_iff.1 Z2.out).1).trans Z2.out)
    have Y3 := Lib.hid ((hb3.block _ (Array.getElem?_eq_some_iff.1 Y2.out).1).trans Y2.out)
    clear hb3
    have p0 := cell_of_row w3 w.heap.size 0 _ 26 (0, 0) Z3.out
    have p1 := cell_of_row w3 w.heap.size 1 _ 26 (0, 0) Z3.out
    have p2 := cell_of_row w3 w.heap.size 2 _ 26 (0, 0) Z3.out
    have lp : w.heap.size < w3.heap.size := (Array.getElem?_eq_some_iff.1 Z3.out).1
    simp at p0 p1 p2
    go_wp2_with fail
    obtain ⟨W4, hW4⟩ : ∃ W, w3.alloc (.cells #[.int .i64 I, .int .i64 O, .int .i64 (I - O)] 44) = W := ⟨_, rfl⟩
    rw [hW4]
    have z8 : W4.heap[w3.heap.size]? = some (.cells #[.int .i64 I, .int .i64 O, .int .i64 (I - O)] 44 (0, 0)) := by rw [← hW4]; exact heap_alloc_new w3 _
    have hb4 : Below w3.heap.size w3 W4 := by rw [← hW4]; exact (Below.refl _ _).alloc (Nat.le_refl _) _
    have HB4 := Lib.hid (HB3.out.trans (hb4.mono HB3.out.size))
    have Y4 := Lib.hid ((hb4.block _ (Array.getElem?_eq_some_iff.1 Y3.out).1).trans Y3.out)
    have Z8 := Lib.hid z8
    clear hW4 hb4 z8 p0 p1 p2
    refine (years_ok A A2 n c m c' ls ys lo hi _ HL.out HN.out HCAP.out (hL.next HB4.out) HY.out HM.out (hY.next HB4.out) HR0.out).mono ?_
    rw [HSC.out, HSW.out]
    rintro e w5 ⟨SB, sk, rfl, hs, hb5⟩
    have HB5 := Lib.hid (HB4.out.trans (hb5.mono HB4.out.size))
    have Y5 := Lib.hid ((hb5.block _ (Array.getElem?_eq_some_iff.1 Y4.out).1).trans Y4.out)
    have Z9 := Lib.hid ((hb5.block _ (Array.getElem?_eq_some_iff.1 Z8.out).1).trans Z8.out)
    have HSN := Lib.hid hs
    clear hb5 hs
    go_wp2_with fail
    have IW := Lib.hid (i2.next HB5.out); have IS := Lib.hid (i3.next HB5.out); have IV := Lib.hid (i4.next HB5.out); have IN := Lib.hid (i5.next HB5.out)
    have hm0 : (0 : Int) ≤ (m : Int) := by omega
    go_loopw [12, 13, 14] (fun a b i wr => ∃ k : Nat, k ≤ m ∧ i = .int .i64 k ∧ a = .int .i64 (runS ls T 0 k).In ∧ b = .int .i64 (mostI T k) ∧ Below w5.heap.size w5 wr) (fun _ _ i _ => m - (intOf i).toNat)
    case atStart => exact ⟨0, Nat.zero_le _, rfl, rfl, rfl, Below.refl _ _⟩
    case round =>
      obtain ⟨k, hk, rfl, rfl, rfl, hbr⟩ := hrel
      have HBR := Lib.hid hbr
      have X5 := Lib.hid ((hbr.block _ (Array.getElem?_eq_some_iff.1 Y5.out).1).trans Y5.out)
      by_cases hlt : k < m
      · have rb := runS_b (ls := ls) HTK.out ⟨Int.le_refl 0, by decide⟩ k (by omega)
        have mo := mostI_b HTK.out ls k (by omega)
        have ew : T.ws = ws := by rw [← HTT.out]
        have es : T.ss = ss := by rw [← HTT.out]
        have ev : T.vs = vs := by rw [← HTT.out]
        have en : T.ns = ns := by rw [← HTT.out]
        obtain ⟨x1, x1'⟩ := at0_mem (l := T.ws) (k := k) (by rw [HTK.out.lw]; exact hlt)
        obtain ⟨x2, x2'⟩ := at0_mem (l := T.ss) (k := k) (by rw [HTK.out.lS]; exact hlt)
        obtain ⟨x3, x3'⟩ := at0_mem (l := T.vs) (k := k) (by rw [HTK.out.lv]; exact hlt)
        obtain ⟨x4, x4'⟩ := at0_mem (l := T.ns) (k := k) (by rw [HTK.out.ln]; exact hlt)
        have w1 := HTK.out.bw _ x1'
        have w2' := HTK.out.bS _ x2'
        have w3' := HTK.out.bv _ x3'
        have w4' := HTK.out.bn _ x4'
        have nx := in_next ls T k
        have mx : mostI T (k + 1) = mostI T k + at0 T.vs k * (1000 - at0 T.ns k) / 1000 := rfl
        have NX := Lib.hid nx; have MX := Lib.hid mx
        clear nx mx x1' x2' x3' x4'
        obtain ⟨b1, u1, rfl, lb1, c1⟩ := IW.out (by intro h; rw [ew, h] at x1; simp at x1)
        obtain ⟨b2, u2, rfl, lb2, c2⟩ := IS.out (by intro h; rw [es, h] at x2; simp at x2)
        obtain ⟨b3, u3, rfl, lb3, c3⟩ := IV.out (by intro h; rw [ev, h] at x3; simp at x3)
        obtain ⟨b4, u4, rfl, lb4, c4⟩ := IN.out (by intro h; rw [en, h] at x4; simp at x4)
        replace c1 := ((bcell hbr).1 _ _ lb1).trans (c1 k _ (by rw [← ew]; exact x1))
        replace c2 := ((bcell hbr).1 _ _ lb2).trans (c2 k _ (by rw [← es]; exact x2))
        replace c3 := ((bcell hbr).1 _ _ lb3).trans (c3 k _ (by rw [← ev]; exact x3))
        replace c4 := ((bcell hbr).1 _ _ lb4).trans (c4 k _ (by rw [← en]; exact x4))
        replace lb1 := Nat.lt_of_lt_of_le lb1 hbr.size
        replace lb2 := Nat.lt_of_lt_of_le lb2 hbr.size
        replace lb3 := Nat.lt_of_lt_of_le lb3 hbr.size
        replace lb4 := Nat.lt_of_lt_of_le lb4 hbr.size
        have ltT := (Array.getElem?_eq_some_iff.1 X5.out).1
        have d1 := cell_of_row wr (w.heap.size + 1) 1 _ 41 (0, 0) X5.out
        have d2 := cell_of_row wr (w.heap.size + 1) 2 _ 41 (0, 0) X5.out
        have d3 := cell_of_row wr (w.heap.size + 1) 3 _ 41 (0, 0) X5.out
        have d4 := cell_of_row wr (w.heap.size + 1) 4 _ 41 (0, 0) X5.out
        simp at d1 d2 d3 d4
        clear x1 x2 x3 x4 ew es ev en hbr
        obtain ⟨e1, he1⟩ : ∃ x, at0 T.ws k = x := ⟨_, rfl⟩
        obtain ⟨e2, he2⟩ : ∃ x, at0 T.ss k = x := ⟨_, rfl⟩
        obtain ⟨e3, he3⟩ : ∃ x, at0 T.vs k = x := ⟨_, rfl⟩
        obtain ⟨e4, he4⟩ : ∃ x, at0 T.ns k = x := ⟨_, rfl⟩
        obtain ⟨Ik, hIk⟩ : ∃ x, (runS ls T 0 k).In = x := ⟨_, rfl⟩
        obtain ⟨Mk, hMk⟩ : ∃ x, mostI T k = x := ⟨_, rfl⟩
        rw [hIk, hMk]
        rw [he1] at c1 w1
        rw [he2] at c2 w2'
        rw [he3] at c3 w3'
        rw [he4] at c4 w4'
        have rI : 0 ≤ Ik ∧ Ik ≤ 24000000 := by rw [← hIk]; have := rb.2.2.1; omega
        have rM : 0 ≤ Mk ∧ Mk ≤ 12000000 := by rw [← hMk]; omega
        obtain ⟨rI0, rI1⟩ := rI
        obtain ⟨rM0, rM1⟩ := rM
        have E1 := Lib.hid he1; have E2 := Lib.hid he2; have E3 := Lib.hid he3; have E4 := Lib.hid he4; have EI := Lib.hid hIk; have EM := Lib.hid hMk
        clear he1 he2 he3 he4 hIk hMk rb mo
        have hp0 : 0 ≤ e3 * (1000 - e4) := Int.mul_nonneg w3'.1 (by omega)
        have hp1 : e3 * (1000 - e4) ≤ 1000000000 := Int.le_trans (Int.mul_le_mul w3'.2 (show 1000 - e4 ≤ 1000 by omega) (by omega) (by omega)) (by decide)
        obtain ⟨g, hg⟩ : ∃ g, e3 * (1000 - e4) / 1000 = g := ⟨_, rfl⟩
        have g0 : 0 ≤ g := by omega
        have g1' : g ≤ 1000000 := by omega
        have GG := Lib.hid hg
        clear hg hp0 hp1
        have W3' := Lib.hid w3'; have W4' := Lib.hid w4'
        obtain ⟨w1a, w1b⟩ := w1
        obtain ⟨w2a, w2b⟩ := w2'
        have hk0 : (0 : Int) ≤ (k : Int) := by omega
        have hk1 : (k : Int) < (m : Int) := by omega
        clear w3' w4'
        go_wp2_with fail
        replace c1 : ∀ u : KeptW wr, u.w.cell? ⟨b1, u1 + k, none⟩ = some (.int .i64 e1) := fun u => ((bcell u.h).1 _ _ lb1).trans c1
        replace c2 : ∀ u : KeptW wr, u.w.cell? ⟨b2, u2 + k, none⟩ = some (.int .i64 e2) := fun u => ((bcell u.h).1 _ _ lb2).trans c2
        replace d1 : ∀ u : KeptW wr, u.w.cell? ⟨w.heap.size + 1, 1, none⟩ = some (.slice (some ⟨b1, u1, none⟩) m cw) := fun u => ((bcell u.h).1 _ _ ltT).trans d1
        replace d2 : ∀ u : KeptW wr, u.w.cell? ⟨w.heap.size + 1, 2, none⟩ = some (.slice (some ⟨b2, u2, none⟩) m cs) := fun u => ((bcell u.h).1 _ _ ltT).trans d2
        refine rk_region (by kernel_rfl) (by kernel_rfl) ?_
        repeat (go_big_quiet_step (fail))
        refine wpQuiet_nil ?_
        rintro wz ⟨⟨_, hbz⟩, rfl⟩
        have BZ := Lib.hid (HBR.out.trans (hbz.mono HBR.out.size))
        replace c3 := ((bcell hbz).1 _ _ lb3).trans c3
        replace c4 := ((bcell hbz).1 _ _ lb4).trans c4
        replace d3 := ((bcell hbz).1 _ 3 ltT).trans d3
        replace d4 := ((bcell hbz).1 _ 4 ltT).trans d4
        replace lb3 := Nat.lt_of_lt_of_le lb3 hbz.size
        replace lb4 := Nat.lt_of_lt_of_le lb4 hbz.size
        replace ltT := Nat.lt_of_lt_of_le ltT hbz.size
        clear c1 c2 d1 d2 lb1 lb2 hbz
        go_wp2_with fail
        replace c3 : ∀ u : KeptW wz, u.w.cell? ⟨b3, u3 + k, none⟩ = some (.int .i64 e3) := fun u => ((bcell u.h).1 _ _ lb3).trans c3
        replace c4 : ∀ u : KeptW wz, u.w.cell? ⟨b4, u4 + k, none⟩ = some (.int .i64 e4) := fun u => ((bcell u.h).1 _ _ lb4).trans c4
        replace d3 : ∀ u : KeptW wz, u.w.cell? ⟨w.heap.size + 1, 3, none⟩ = some (.slice (some ⟨b3, u3, none⟩) m cv) := fun u => ((bcell u.h).1 _ _ ltT).trans d3
        replace d4 : ∀ u : KeptW wz, u.w.cell? ⟨w.heap.size + 1, 4, none⟩ = some (.slice (some ⟨b4, u4, none⟩) m cn) := fun u => ((bcell u.h).1 _ _ ltT).trans d4
        refine rk_region (by kernel_rfl) (by kernel_rfl) ?_
        repeat (go_big_quiet_step (with_reducible exact goes_kept GG.out W3'.out W4'.out _))
        refine wpQuiet_nil ?_
        rintro wy ⟨⟨_, hby⟩, rfl⟩
        have BY := Lib.hid (BZ.out.trans (hby.mono BZ.out.size))
        clear c3 c4 d3 d4 hby
        go_wp2_with fail
        go_roundw
        case rel => exact ⟨k + 1, by omega, by go_num, ret_val (by rw [NX.out, EI.out, E1.out, E2.out]; omega), ret_val (by rw [MX.out, EM.out, E3.out, E4.out, GG.out]), BY.out⟩
        case measure => simp [intOf]; omega
      · obtain rfl : k = m := by omega
        have e1 : (runS ls T 0 k).In = I := by rw [HS.out]; exact HI.out
        have e2 : mostI T k = M := HMM.out
        rw [e1, e2]
        have q0 := cell_of_row wr w3.heap.size 0 _ 44 (0, 0) (((hbr.block _ (Array.getElem?_eq_some_iff.1 Z9.out).1)).trans Z9.out)
        have q1 := cell_of_row wr w3.heap.size 1 _ 44 (0, 0) (((hbr.block _ (Array.getElem?_eq_some_iff.1 Z9.out).1)).trans Z9.out)
        have q2 := cell_of_row wr w3.heap.size 2 _ 44 (0, 0) (((hbr.block _ (Array.getElem?_eq_some_iff.1 Z9.out).1)).trans Z9.out)
        have l8 : w3.heap.size < wr.heap.size := Nat.lt_of_lt_of_le (Array.getElem?_eq_some_iff.1 Z9.out).1 hbr.size
        have SN := Lib.hid (HSN.out.next_ hbr)
        simp at q0 q1 q2
        clear e1 e2 hbr
        by_cases hk0 : k = 0
        · have hz : ((k : Int)) = 0 := by omega
          clear hk0
          go_wp2_with fail
          refine rk_region (by kernel_rfl) (by kernel_rfl) ?_
          repeat (go_big_quiet_step (fail))
          refine wpQuiet_nil ?_
          rintro wy ⟨⟨_, hby⟩, rfl⟩
          have BY := Lib.hid (HB5.out.trans ((HBR.out.trans (hby.mono HBR.out.size)).mono HB5.out.size))
          clear hby
          go_wp2_with fail
          refine (known_any _ (HT.out.next BY.out)).mono ?_
          rintro e w6 ⟨rfl, hb6⟩
          have HB6 := Lib.hid (BY.out.trans (hb6.mono BY.out.size))
          clear hb6
          go_wp2_with fail
          go_ret
          exact ⟨rfl, HB6.out⟩
        · obtain ⟨j, hj⟩ : ∃ j : Nat, k = j + 1 := ⟨k - 1, by omega⟩
          have hj1 : j < k := by omega
          have hs := SN.out
          obtain ⟨sb, so, rfl, lsb, hcs⟩ := hs (by intro h; have := congrArg List.length h; simp [seenI] at this; omega)
          obtain ⟨_, _, s2, s3, _⟩ := hcs j _ (seenI_get hj1)
          have f1 : (snI SC SW j).ll = SC.Lf := by
            have := (lf_at ls (extT false ls lo hi ys) 0 k j hj1).1
            rw [HSC.out, ← hj, HSC.out] at this
            exact this
          have f2 : (snI SC SW j).lh = SW.Lf := by
            have := (lf_at ls (extT true ls lo hi ys) 0 k j hj1).1
            rw [HSW.out, ← hj, HSW.out] at this
            exact this
          rw [f1] at s2
          rw [f2] at s3
          have GI : Hid (inB (I - O) SC.Lf SW.Lf = true) := Lib.hid (by rw [inB_iff]; exact BT.out)
          obtain ⟨x1, hx1⟩ : ∃ x, SC.Lf = x := ⟨_, rfl⟩
          obtain ⟨x2, hx2⟩ : ∃ x, SW.Lf = x := ⟨_, rfl⟩
          rw [hx1, hx2] at GI
          rw [hx1] at s2
          rw [hx2] at s3
          have hz : ((k : Int)) - 1 = (j : Int) := by omega
          have hp : (0 : Int) < (k : Int) := by omega
          have hpn : 0 < k := by omega
          have hj2 : (j : Int) < (k : Int) := by omega
          have hj0 : (0 : Int) ≤ (j : Int) := by omega
          clear hj hk0 hcs hs f1 f2 hx1 hx2
          go_wp2_with fail
          replace s2 : ∀ u : KeptW wr, u.w.cell? ⟨sb, so + j * 5 + 2, none⟩ = some (.int .i64 x1) := fun u => ((bcell u.h).1 _ _ lsb).trans s2
          replace s3 : ∀ u : KeptW wr, u.w.cell? ⟨sb, so + j * 5 + 3, none⟩ = some (.int .i64 x2) := fun u => ((bcell u.h).1 _ _ lsb).trans s3
          replace q2 : ∀ u : KeptW wr, u.w.cell? ⟨w3.heap.size, 2, none⟩ = some (.int .i64 (I - O)) := fun u => ((bcell u.h).1 _ _ l8).trans q2
          refine rk_region (by kernel_rfl) (by kernel_rfl) ?_
          repeat (go_big_quiet_step (with_reducible exact inside_kept GI.out _))
          refine wpQuiet_nil ?_
          rintro wy ⟨⟨_, hby⟩, rfl⟩
          have BY := Lib.hid (HB5.out.trans ((HBR.out.trans (hby.mono HBR.out.size)).mono HB5.out.size))
          clear hby s2 s3 q2
          go_wp2_with fail
          refine (known_any _ (HT.out.next BY.out)).mono ?_
          rintro e w6 ⟨rfl, hb6⟩
          have HB6 := Lib.hid (BY.out.trans (hb6.mono BY.out.size))
          clear hb6
          go_wp2_with fail
          go_ret
          exact ⟨rfl, HB6.out⟩
end Go.Proofs.YtccekbdhffccdaaDoor
