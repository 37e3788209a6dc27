/- The statement on warnings, walked. -/
import Derived.Test.YtccekbdhffccdaaDoorUU
namespace Go.Proofs.YtccekbdhffccdaaDoor
open Go.RowKit

set_option maxRecDepth 100000 in
set_option maxHeartbeats 4000000 in
theorem warned_any (A A2 AM AW AS AV AN : Option Addr) (n c m c' nm cm nw cw ns_ cs nv cv nn cn : Nat) (ls : List Lay) (ys : List Yr) (lo hi d : Int) (ms ws ss vs ns : List Int) (w : World) (ht : Tab w) (hl : ls.length = n) (hcap : n ≤ c) (hn : n ≤ maxLen) (hL : LaysAt w w.heap.size A ls) (hy : ys.length = m) (hm : m ≤ maxLen) (hY : YrsAt w w.heap.size A2 ys)
    (h1 : ms.length = nm) (q1 : nm ≤ cm) (g1 : nm ≤ maxLen) (i1 : IntsAt w w.heap.size AM ms) (h2 : ws.length = nw) (q2 : nw ≤ cw) (g2 : nw ≤ maxLen) (i2 : IntsAt w w.heap.size AW ws) (h3 : ss.length = ns_) (q3 : ns_ ≤ cs) (g3 : ns_ ≤ maxLen) (i3 : IntsAt w w.heap.size AS ss) (h4 : vs.length = nv) (q4 : nv ≤ cv) (g4 : nv ≤ maxLen) (i4 : IntsAt w w.heap.size AV vs) (h5 : ns.length = nn) (q5 : nn ≤ cn) (g5 : nn ≤ maxLen) (i5 : IntsAt w w.heap.size AN ns) :
    Calls Tryd.prog 9 #[.agg #[.slice A n c, .int .i64 lo, .int .i64 hi], .slice A2 m c', .agg #[.slice AM nm cm, .slice AW nw cw, .slice AS ns_ cs, .slice AV nv cv, .slice AN nn cn], .int .i64 d] w fun e w' => e = .returned (.bool true) ∧ Below w.heap.size w w' := by
  have HT := Lib.hid ht
  have HL := Lib.hid hl; have HY := Lib.hid hy; have H1 := Lib.hid h1; have H2 := Lib.hid h2; have H3 := Lib.hid h3; have H4 := Lib.hid h4; have H5 := Lib.hid h5
  have HN := Lib.hid hn; have HM := Lib.hid hm; have HCAP := Lib.hid hcap
  have G1 := Lib.hid g1; have G2 := Lib.hid g2; have G3 := Lib.hid g3; have G4 := Lib.hid g4; have G5 := Lib.hid g5
  have Q1 := Lib.hid q1; have Q2 := Lib.hid q2; have Q3 := Lib.hid q3; have Q4 := Lib.hid q4; have Q5 := Lib.hid q5
  clear hl hy h1 h2 h3 h4 h5 hn hm g1 g2 g3 g4 g5 ht hcap q1 q2 q3 q4 q5
  have hB1 : Below w.heap.size w ((w.alloc (.cells #[.slice A n c, .int .i64 lo, .int .i64 hi] 26)).alloc (.cells #[.slice AM nm cm, .slice AW nw cw, .slice AS ns_ cs, .slice AV nv cv, .slice AN nn cn] 41)) := ((Below.refl _ _).alloc (Nat.le_refl _) _).alloc (by simp) _
  have z1 : ((w.alloc (.cells #[.slice A n c, .int .i64 lo, .int .i64 hi] 26)).alloc (.cells #[.slice AM nm cm, .slice AW nw cw, .slice AS ns_ cs, .slice AV nv cv, .slice AN nn cn] 41)).heap[w.heap.size]? = some (.cells #[.slice A n c, .int .i64 lo, .int .i64 hi] 26 (0, 0)) := (Below.heap_alloc _ _ _ (by simp)).trans (heap_alloc_new w _)
  have y0 := heap_alloc_new (w.alloc (.cells #[.slice A n c, .int .i64 lo, .int .i64 hi] 26)) (.cells #[.slice AM nm cm, .slice AW nw cw, .slice AS ns_ cs, .slice AV nv cv, .slice AN nn cn] 41)
  simp only [World.size_alloc] at y0
  have HB1 := Lib.hid hB1
  have Z1 := Lib.hid z1
  have Y1 := Lib.hid y0
  clear hB1 z1 y0
  cases hf : fairB ls lo hi ys ms ws ss vs ns with
  | false =>
    have HF := Lib.hid hf; clear hf
    go_enter Tryd.func9, Tryd.ntmps9
    go_wp2_with fail
    refine (fair_any A A2 AM AW AS AV AN n c m c' nm cm nw cw ns_ cs nv cv nn cn ls ys lo hi ms ws ss vs ns _ HL.out HN.out (hL.next HB1.out) HY.out HM.out (hY.next HB1.out) H1.out G1.out (i1.next HB1.out) H2.out G2.out (i2.next HB1.out) H3.out G3.out (i3.next HB1.out) H4.out G4.out (i4.next HB1.out) H5.out G5.out (i5.next HB1.out)).mono ?_
    rintro e w2 ⟨rfl, hb2⟩
    rw [HF.out]
    have HB2 := Lib.hid (HB1.out.trans (hb2.mono HB1.out.size))
    clear hb2
    go_wp2_with fail
    refine (known_any _ (HT.out.next HB2.out)).mono ?_
    rintro e w3 ⟨rfl, hb3⟩
    have HB3 := Lib.hid (HB2.out.trans (hb3.mono HB2.out.size))
    clear hb3
    go_wp2_with fail
    go_ret
    exact ⟨rfl, HB3.out⟩
  | true =>
    have HF := Lib.hid hf; clear hf
    by_cases hd0 : d < 0
    · go_enter Tryd.func9, Tryd.ntmps9
      go_wp2_with fail
      refine (fair_any A A2 AM AW AS AV AN n c m c' nm cm nw cw ns_ cs nv cv nn cn ls ys lo hi ms ws ss vs ns _ HL.out HN.out (hL.next HB1.out) HY.out HM.out (hY.next HB1.out) H1.out G1.out (i1.next HB1.out) H2.out G2.out (i2.next HB1.out) H3.out G3.out (i3.next HB1.out) H4.out G4.out (i4.next HB1.out) H5.out G5.out (i5.next HB1.out)).mono ?_
      rintro e w2 ⟨rfl, hb2⟩
      rw [HF.out]
      have HB2 := Lib.hid (HB1.out.trans (hb2.mono HB1.out.size))
      clear hb2
      go_wp2_with fail
      refine (known_any _ (HT.out.next HB2.out)).mono ?_
      rintro e w3 ⟨rfl, hb3⟩
      have HB3 := Lib.hid (HB2.out.trans (hb3.mono HB2.out.size))
      clear hb3
      go_wp2_with fail
      go_ret
      exact ⟨rfl, HB3.out⟩
    · by_cases hd1 : 2000000 < d
      · go_enter Tryd.func9, Tryd.ntmps9
        go_wp2_with fail
        refine (fair_any A A2 AM AW AS AV AN n c m c' nm cm nw cw ns_ cs nv cv nn cn ls ys lo hi ms ws ss vs ns _ HL.out HN.out (hL.next HB1.out) HY.out HM.out (hY.next HB1.out) H1.out G1.out (i1.next HB1.out) H2.out G2.out (i2.next HB1.out) H3.out G3.out (i3.next HB1.out) H4.out G4.out (i4.next HB1.out) H5.out G5.out (i5.next HB1.out)).mono ?_
        rintro e w2 ⟨rfl, hb2⟩
        rw [HF.out]
        have HB2 := Lib.hid (HB1.out.trans (hb2.mono HB1.out.size))
        clear hb2
        go_wp2_with fail
        refine (known_any _ (HT.out.next HB2.out)).mono ?_
        rintro e w3 ⟨rfl, hb3⟩
        have HB3 := Lib.hid (HB2.out.trans (hb3.mono HB2.out.size))
        clear hb3
        go_wp2_with fail
        go_ret
        exact ⟨rfl, HB3.out⟩
      · obtain ⟨r0, rp⟩ := fair_spec HF.out
        obtain ⟨e1, e2, e3⟩ := yearsI_zero r0
        have hm12 : m ≤ 12 := by rw [HY.out] at e1; exact e1
        have bt := (between e2 e3 e1 rp m (by rw [HY.out]; exact Nat.le_refl _)).2
        have hdI : depthI ls lo hi ys d = 0 := by unfold depthI; rw [if_pos r0, if_pos ⟨by omega, by omega⟩]
        obtain ⟨a, ha⟩ : ∃ a, firstI d (runS ls (extT true ls lo hi ys) 0 m).th = a := ⟨_, rfl⟩
        obtain ⟨b, hb⟩ : ∃ b, firstI d (runS ls (extT false ls lo hi ys) 0 m).th = b := ⟨_, rfl⟩
        obtain ⟨S, hS⟩ : ∃ S, runS ls ⟨ms, ws, ss, vs, ns⟩ 0 m = S := ⟨_, rfl⟩
        have l1 := (run_len ls (extT true ls lo hi ys) 0 m).1
        have l2 := (run_len ls (extT false ls lo hi ys) 0 m).1
        have l3 : S.th.length = m := by rw [← hS]; exact (run_len _ _ _ _).1
        obtain ⟨f, hfi⟩ : ∃ f, firstI d S.th = f := ⟨_, rfl⟩
        have o1 : a ≤ f := by
          rw [← ha, ← hfi]
          exact firstI_mono d _ _ (by rw [l3, l1]) (fun i hi => by rw [l3] at hi; rw [← hS]; exact (bt i hi).2)
        have o2 : f ≤ b := by
          rw [← hb, ← hfi]
          exact firstI_mono d _ _ (by rw [l3, l2]) (fun i hi => by rw [l2] at hi; rw [← hS]; exact (bt i hi).1)
        have o3 : b ≤ m := by have := firstI_le d (runS ls (extT false ls lo hi ys) 0 m).th; omega
        have HA := Lib.hid ha; have HBb := Lib.hid hb; have HS := Lib.hid hS; have HFI := Lib.hid hfi; have HDI := Lib.hid hdI; have HR0 := Lib.hid r0; have HRP := Lib.hid rp; have L3 := Lib.hid l3
        clear ha hb hS hfi hdI r0 rp l1 l2 l3 bt e1 e2 e3
        have mb := HM.out
        unfold maxLen at mb
        go_enter Tryd.func9, Tryd.ntmps9
        go_wp2_with fail
        refine (fair_any A A2 AM AW AS AV AN n c m c' nm cm nw cw ns_ cs nv cv nn cn ls ys lo hi ms ws ss vs ns _ HL.out HN.out (hL.next HB1.out) HY.out HM.out (hY.next HB1.out) H1.out G1.out (i1.next HB1.out) H2.out G2.out (i2.next HB1.out) H3.out G3.out (i3.next HB1.out) H4.out G4.out (i4.next HB1.out) H5.out G5.out (i5.next HB1.out)).mono ?_
        rintro e w2 ⟨rfl, hb2⟩
        rw [HF.out]
        have HB2 := Lib.hid (HB1.out.trans (hb2.mono HB1.out.size))
        have Z2 := Lib.hid ((hb2.block _ (Array.getElem?_eq_some_iff.1 Z1.out).1).trans Z1.out)
        have Y2 := Lib.hid ((hb2.block _ (Array.getElem?_eq_some_iff.1 Y1.out).1).trans Y1.out)
        clear hb2
        have p0 := cell_of_row w2 w.heap.size 0 _ 26 (0, 0) Z2.out
        have p1 := cell_of_row w2 w.heap.size 1 _ 26 (0, 0) Z2.out
        have p2 := cell_of_row w2 w.heap.size 2 _ 26 (0, 0) Z2.out
        simp at p0 p1 p2
        go_wp2_with fail
        refine (exceeds_ok A A2 n c m c' ls ys lo hi d _ HL.out HN.out HCAP.out (hL.next HB2.out) HY.out HM.out (hY.next HB2.out) HDI.out a b HA.out HBb.out).mono ?_
        clear p0 p1 p2
        rintro e w3 ⟨rfl, hb3⟩
        have HB3 := Lib.hid (HB2.out.trans (hb3.mono HB2.out.size))
        have Z3 := Lib.hid ((hb3.block _ (Array.getElem?_eq_some_iff.1 Z2.out).1).trans Z2.out)
        have Y3 := Lib.hid ((hb3.block _ (Array.getElem?_eq_some_iff.1 Y2.out).1).trans Y2.out)
        clear hb3
        have p0 := cell_of_row w3 w.heap.size 0 _ 26 (0, 0) Z3.out
        have p1 := cell_of_row w3 w.heap.size 1 _ 26 (0, 0) Z3.out
        have p2 := cell_of_row w3 w.heap.size 2 _ 26 (0, 0) Z3.out
        have t0 := cell_of_row w3 (w.heap.size + 1) 0 _ 41 (0, 0) Y3.out
        have t1 := cell_of_row w3 (w.heap.size + 1) 1 _ 41 (0, 0) Y3.out
        have t2 := cell_of_row w3 (w.heap.size + 1) 2 _ 41 (0, 0) Y3.out
        have t3 := cell_of_row w3 (w.heap.size + 1) 3 _ 41 (0, 0) Y3.out
        have t4 := cell_of_row w3 (w.heap.size + 1) 4 _ 41 (0, 0) Y3.out
        simp at p0 p1 p2 t0 t1 t2 t3 t4
        go_wp2_with fail
        refine (play_ok A A2 n c m c' ls ys lo hi ⟨ms, ws, ss, vs, ns⟩ _ _ _ _ _ _ HL.out HN.out HCAP.out (hL.next HB3.out) HY.out HM.out (hY.next HB3.out) (sl_of H1.out Q1.out (i1.next HB3.out)) (sl_of H2.out Q2.out (i2.next HB3.out)) (sl_of H3.out Q3.out (i3.next HB3.out)) (sl_of H4.out Q4.out (i4.next HB3.out)) (sl_of H5.out Q5.out (i5.next HB3.out))
          (by rw [H1.out]; exact G1.out) (by rw [H2.out]; exact G2.out) (by rw [H3.out]; exact G3.out) (by rw [H4.out]; exact G4.out) (by rw [H5.out]; exact G5.out) HR0.out HRP.out S HS.out).mono ?_
        clear p0 p1 p2 t0 t1 t2 t3 t4
        rintro e w4 ⟨B, kk, rfl, hB, hb4⟩
        have HB4 := Lib.hid (HB3.out.trans (hb4.mono HB3.out.size))
        have HBI := Lib.hid hB
        clear hb4 hB
        go_wp2_with fail
        obtain ⟨W5, hW5⟩ : ∃ W, w4.alloc (.cells #[.int .i64 S.In, .int .i64 S.Out, .int .i64 S.Lf] 44) = W := ⟨_, rfl⟩
        rw [hW5]
        have hb5 : Below w4.heap.size w4 W5 := by rw [← hW5]; exact (Below.refl _ _).alloc (Nat.le_refl _) _
        have HB5 := Lib.hid (HB4.out.trans (hb5.mono HB4.out.size))
        have HBI5 := Lib.hid (HBI.out.next hb5)
        clear hW5 hb5 HBI
        go_loop [15, 16] (fun f i => DownI m d S.th f i) (fun _ i => (intOf i + 1).toNat)
        case atStart => exact down_start L3.out
        case round =>
          rcases hrel with ⟨k, hk, rfl, rfl⟩ | ⟨rfl, rfl⟩
          · obtain ⟨x, hx⟩ := get_of_lt (l := S.th) (k := k) (by rw [L3.out]; exact hk)
            obtain ⟨b1, o1, rfl, hb1, hc1⟩ := HBI5.out (by intro h; rw [h] at hx; simp at hx)
            have d1 := hc1 k x hx
            have HX := Lib.hid hx
            have hk0 : (0 : Int) ≤ (k : Int) := by omega
            have hk1 : (k : Int) < (m : Int) := by omega
            clear hx hc1
            by_cases hdx : d < x
            · go_wp2_with fail
              go_round
              case rel => exact down_next hk HX.out _ (by rw [if_pos hdx])
              case measure => simp [intOf]
            · go_wp2_with fail
              go_round
              case rel => exact down_next hk HX.out _ (by rw [if_neg hdx])
              case measure => simp [intOf]
          · rw [HFI.out]
            go_wp2_with fail
            refine (known_any _ (HT.out.next HB5.out)).mono ?_
            rintro e w6 ⟨rfl, hb6⟩
            have HB6 := Lib.hid (HB5.out.trans (hb6.mono HB5.out.size))
            clear hb6
            go_wp2_with fail
            go_ret
            exact ⟨rfl, HB6.out⟩
end Go.Proofs.YtccekbdhffccdaaDoor
