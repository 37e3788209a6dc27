/- The statement on playing: where all is as defined, and the statement's function by its cases. -/
import Derived.Test.YtccekbdhffccdaaDoorYW
import Derived.Test.YtccekbdhffccdaaDoorZD
import Derived.Test.YtccekbdhffccdaaDoorZC
namespace Go.Proofs.YtccekbdhffccdaaDoor
open Go.RowKit Go.Shelf
theorem info3 : (Tryd.prog.info? 3).map (fun i => (i.zero, i.size, i.bytes)) = some (some (.int .i64 0), 1, 8) := by kernel_rfl
theorem ints_take {l : List Int} {k : Nat} (h : k < l.length) : ints (l.take (k + 1)) = ints (l.take k) ++ [.int .i64 (at0 l k)] := by
  rw [List.take_add_one, (at0_mem h).1]
  simp [ints]
set_option maxRecDepth 100000 in
set_option maxHeartbeats 4000000 in
theorem plays_good (A A2 AM AW AS AV AN : Option Addr) (n c m c' nm cm nw cw ns_ cs nv cv nn cn : Nat) (ls : List Lay) (ys : List Yr) (lo hi : Int) (ms ws ss vs ns : List Int) (w : World) (ht : Tab w) (hl : ls.length = n) (hcap : n ≤ c) (hn : n ≤ maxLen) (hL : LaysAt w w.heap.size A ls) (hy : ys.length = m) (hm : m ≤ maxLen) (hY : YrsAt w w.heap.size A2 ys)
    (h1 : ms.length = nm) (q1 : nm ≤ cm) (g1 : nm ≤ maxLen) (i1 : IntsAt w w.heap.size AM ms) (h2 : ws.length = nw) (q2 : nw ≤ cw) (g2 : nw ≤ maxLen) (i2 : IntsAt w w.heap.size AW ws) (h3 : ss.length = ns_) (q3 : ns_ ≤ cs) (g3 : ns_ ≤ maxLen) (i3 : IntsAt w w.heap.size AS ss) (h4 : vs.length = nv) (q4 : nv ≤ cv) (g4 : nv ≤ maxLen) (i4 : IntsAt w w.heap.size AV vs) (h5 : ns.length = nn) (q5 : nn ≤ cn) (g5 : nn ≤ maxLen) (i5 : IntsAt w w.heap.size AN ns)
    (hs : decide (n ≤ 12 ∧ m ≤ 17) = true) (hz : sizedB nm nw ns_ nv nn = true) (hr : yearsI ls lo hi ys = 0) (hp : possB ls lo hi ys ms ws ss vs ns = true) :
    Calls Tryd.prog 4 #[.agg #[.slice A n c, .int .i64 lo, .int .i64 hi], .slice A2 m c', .agg #[.slice AM nm cm, .slice AW nw cw, .slice AS ns_ cs, .slice AV nv cv, .slice AN nn cn]] w fun e w' => e = .returned (.bool true) ∧ Below w.heap.size w w' := by
  obtain ⟨v1, v2, v3⟩ := yearsI_zero hr
  have hp' : possT ls lo hi ys ⟨ms, ws, ss, vs, ns⟩ = true := hp
  have hT : TruOk ⟨ms, ws, ss, vs, ns⟩ n m := by have := possT_ok v2 v3 hp'; rw [hl, hy] at this; exact this
  obtain rfl : n = nm := by have := hT.lm; simp at *; omega
  obtain rfl : m = nw := by have := hT.lw; simp at *; omega
  obtain rfl : m = ns_ := by have := hT.lS; simp at *; omega
  obtain rfl : m = nv := by have := hT.lv; simp at *; omega
  obtain rfl : m = nn := by have := hT.ln; simp at *; omega
  obtain ⟨T, hTT⟩ : ∃ T : Tru, (⟨ms, ws, ss, vs, ns⟩ : Tru) = T := ⟨_, rfl⟩
  obtain ⟨S, hS⟩ : ∃ S, runS ls T 0 m = S := ⟨_, rfl⟩
  have hlen := runS_len ls T 0 m
  rw [hS] at hlen
  have hq : playI ls lo hi ys ⟨ms, ws, ss, vs, ns⟩ = (S.th, (S.In, S.Out, S.Lf), 0) := by unfold playI; rw [if_pos hr, hp', hTT, hy, hS]; rfl
  rw [hTT] at hT
  obtain ⟨⟨v4, v5⟩, _, v6⟩ := placeB_spec v2
  have N1 : Hid (1 ≤ n) := Lib.hid (by omega)
  have TT_ : Hid (∀ x ∈ ls, 1 ≤ x.t ∧ x.t ≤ 20000) := Lib.hid (fun x hx => (v6 x hx).1)
  have HTT := Lib.hid hTT; have HSS := Lib.hid hS; have HTK := Lib.hid hT; have LEN := Lib.hid hlen
  obtain ⟨j0, hj0, jz0, jz1, jz2⟩ := info_parts info3
  have J0 := Lib.hid hj0; have JZ0 := Lib.hid jz0; have JZ1 := Lib.hid jz1; have JZ2 := Lib.hid jz2
  clear hj0 jz0 jz1 jz2
  have N6 : Hid (n ≤ 6) := Lib.hid (by omega)
  have M12 : Hid (m ≤ 12) := Lib.hid (by omega)
  have HQ := Lib.hid hq; have HR := Lib.hid hr; have HP := Lib.hid hp
  clear hq hr hp hp' v1 v2 v3 v4 v5 v6 hTT hS hT hlen
  have HT := Lib.hid ht; have HS := Lib.hid hs; have HZ := Lib.hid hz
  have HL := Lib.hid hl; have HY := Lib.hid hy; have H1 := Lib.hid h1; have H2 := Lib.hid h2; have H3 := Lib.hid h3; have H4 := Lib.hid h4; have H5 := Lib.hid h5
  have HN := Lib.hid hn; have HM := Lib.hid hm; have HCAP := Lib.hid hcap
  have G1 := Lib.hid g1; have G2 := Lib.hid g2; have G3 := Lib.hid g3; have G4 := Lib.hid g4; have G5 := Lib.hid g5
  have Q1 := Lib.hid q1; have Q2 := Lib.hid q2; have Q3 := Lib.hid q3; have Q4 := Lib.hid q4; have Q5 := Lib.hid q5
  clear hl hy h1 h2 h3 h4 h5 hn hm g1 g2 g3 g4 g5 ht hcap q1 q2 q3 q4 q5 hs hz
  have q44 : ∀ w, (Op.equalIn 10000 44 (.agg #[.int .i64 S.In, .int .i64 S.Out, .int .i64 S.Lf]) (.agg #[.int .i64 S.In, .int .i64 S.Out, .int .i64 S.Lf])).run Tryd.prog w = .ok true w := fun w => by rw [eq44]; simp
  have hg : Tryd.prog.eqGuardType Tryd.prog.depth 44 = false := by kernel_rfl
  have hB1 : Below w.heap.size w ((w.alloc (.cells #[.slice A n c, .int .i64 lo, .int .i64 hi] 26)).alloc (.cells #[.slice AM n cm, .slice AW m cw, .slice AS m cs, .slice AV m cv, .slice AN m cn] 41)) := ((Below.refl _ _).alloc (Nat.le_refl _) _).alloc (by simp) _
  have z1 : ((w.alloc (.cells #[.slice A n c, .int .i64 lo, .int .i64 hi] 26)).alloc (.cells #[.slice AM n cm, .slice AW m cw, .slice AS m cs, .slice AV m cv, .slice AN m cn] 41)).heap[w.heap.size]? = some (.cells #[.slice A n c, .int .i64 lo, .int .i64 hi] 26 (0, 0)) := (Below.heap_alloc _ _ _ (by simp)).trans (heap_alloc_new w _)
  have y0 := heap_alloc_new (w.alloc (.cells #[.slice A n c, .int .i64 lo, .int .i64 hi] 26)) (.cells #[.slice AM n cm, .slice AW m cw, .slice AS m cs, .slice AV m cv, .slice AN m cn] 41)
  simp only [World.size_alloc] at y0
  have HB1 := Lib.hid hB1
  have Z1 := Lib.hid z1
  have Y1 := Lib.hid y0
  clear hB1 z1 y0
  go_enter Tryd.func4, Tryd.ntmps4
  go_wp2_with fail
  refine (short_any A A2 n m c c' lo hi _ HN.out HM.out).mono ?_
  rintro e w2 ⟨rfl, hb2⟩
  rw [HS.out]
  have HB2 := Lib.hid (HB1.out.trans (hb2.mono HB1.out.size))
  have Y2 := Lib.hid ((hb2.block _ (Array.getElem?_eq_some_iff.1 Y1.out).1).trans Y1.out)
  have Z2 := Lib.hid ((hb2.block _ (Array.getElem?_eq_some_iff.1 Z1.out).1).trans Z1.out)
  clear hb2
  have t0 := cell_of_row w2 (w.heap.size + 1) 0 _ 41 (0, 0) Y2.out
  have t1 := cell_of_row w2 (w.heap.size + 1) 1 _ 41 (0, 0) Y2.out
  have t2 := cell_of_row w2 (w.heap.size + 1) 2 _ 41 (0, 0) Y2.out
  have t3 := cell_of_row w2 (w.heap.size + 1) 3 _ 41 (0, 0) Y2.out
  have t4 := cell_of_row w2 (w.heap.size + 1) 4 _ 41 (0, 0) Y2.out
  simp at t0 t1 t2 t3 t4
  go_wp2_with fail
  refine (sized_any AM AW AS AV AN n cm m cw m cs m cv m cn _ G1.out G2.out G3.out G4.out G5.out).mono ?_
  rintro e w3 ⟨rfl, hb3⟩
  rw [HZ.out]
  have HB3 := Lib.hid (HB2.out.trans (hb3.mono HB2.out.size))
  have Y3 := Lib.hid ((hb3.block _ (Array.getElem?_eq_some_iff.1 Y2.out).1).trans Y2.out)
  have Z3 := Lib.hid ((hb3.block _ (Array.getElem?_eq_some_iff.1 Z2.out).1).trans Z2.out)
  clear hb3 t0 t1 t2 t3 t4
  have t0 := cell_of_row w3 (w.heap.size + 1) 0 _ 41 (0, 0) Y3.out
  have t1 := cell_of_row w3 (w.heap.size + 1) 1 _ 41 (0, 0) Y3.out
  have t2 := cell_of_row w3 (w.heap.size + 1) 2 _ 41 (0, 0) Y3.out
  have t3 := cell_of_row w3 (w.heap.size + 1) 3 _ 41 (0, 0) Y3.out
  have t4 := cell_of_row w3 (w.heap.size + 1) 4 _ 41 (0, 0) Y3.out
  have p0 := cell_of_row w3 w.heap.size 0 _ 26 (0, 0) Z3.out
  have p1 := cell_of_row w3 w.heap.size 1 _ 26 (0, 0) Z3.out
  have p2 := cell_of_row w3 w.heap.size 2 _ 26 (0, 0) Z3.out
  simp at t0 t1 t2 t3 t4 p0 p1 p2
  go_wp2_with fail
  refine (play_any A A2 n c m c' ls ys lo hi ⟨ms, ws, ss, vs, ns⟩ _ _ _ _ _ _ HL.out HN.out HCAP.out (hL.next HB3.out) HY.out HM.out (hY.next HB3.out) (sl_of H1.out Q1.out (i1.next HB3.out)) (sl_of H2.out Q2.out (i2.next HB3.out)) (sl_of H3.out Q3.out (i3.next HB3.out)) (sl_of H4.out Q4.out (i4.next HB3.out)) (sl_of H5.out Q5.out (i5.next HB3.out))
    (le_of_len H1.out G1.out) (le_of_len H2.out G2.out) (le_of_len H3.out G3.out) (le_of_len H4.out G4.out) (le_of_len H5.out G5.out)).mono ?_
  rw [HQ.out]
  rintro e w4 ⟨_, rfl, ⟨B, kk, rfl, _, hBi⟩, hb4⟩
  simp only [LEN.out.1]
  have DB := Lib.hid hBi
  clear hBi
  have HB4 := Lib.hid (HB3.out.trans (hb4.mono HB3.out.size))
  have Y4 := Lib.hid ((hb4.block _ (Array.getElem?_eq_some_iff.1 Y3.out).1).trans Y3.out)
  have Z4 := Lib.hid ((hb4.block _ (Array.getElem?_eq_some_iff.1 Z3.out).1).trans Z3.out)
  clear hb4 t0 t1 t2 t3 t4 p0 p1 p2
  have p0 := cell_of_row w4 w.heap.size 0 _ 26 (0, 0) Z4.out
  have p1 := cell_of_row w4 w.heap.size 1 _ 26 (0, 0) Z4.out
  have p2 := cell_of_row w4 w.heap.size 2 _ 26 (0, 0) Z4.out
  simp at p0 p1 p2
  have n0 := World.new_ne w4 _ p0
  have n1 := World.new_ne w4 _ p1
  have n2 := World.new_ne w4 _ p2
  have ltp := (Array.getElem?_eq_some_iff.1 Z4.out).1
  have k1 : ¬ w.heap.size = w4.heap.size := by omega
  have k2 : ¬ w4.heap.size = w.heap.size := by omega
  have hA := (Below.refl w4.heap.size w4).alloc (Nat.le_refl _) (.cells #[.int .i64 S.In, .int .i64 S.Out, .int .i64 S.Lf] 44)
  have a0 := ((bcell hA).1 _ 0 ltp).trans p0
  have a1 := ((bcell hA).1 _ 1 ltp).trans p1
  have a2 := ((bcell hA).1 _ 2 ltp).trans p2
  have D5 := Lib.hid (DB.out.next hA)
  have Y5 := Lib.hid ((hA.block _ (Array.getElem?_eq_some_iff.1 Y4.out).1).trans Y4.out)
  have Z5 := Lib.hid ((hA.block _ ltp).trans Z4.out)
  clear hA p0 p1 p2 n0 n1 n2
  have HB5 := Lib.hid (HB4.out.alloc HB4.out.size (.cells #[.int .i64 S.In, .int .i64 S.Out, .int .i64 S.Lf] 44))
  have X5 := Lib.hid (heap_alloc_new w4 (.cells #[.int .i64 S.In, .int .i64 S.Out, .int .i64 S.Lf] 44))
  go_wp2_with fail
  refine (wanted_is 0 A A2 n c m c' ls ys lo hi _ HL.out HN.out (hL.next HB5.out) HY.out HM.out (hY.next HB5.out) HR.out).mono ?_
  rintro e w6 ⟨rfl, hb6⟩
  have HB6 := Lib.hid (HB5.out.trans (hb6.mono HB5.out.size))
  have D6 := Lib.hid (D5.out.next hb6)
  have X6 := Lib.hid ((hb6.block _ (Array.getElem?_eq_some_iff.1 X5.out).1).trans X5.out)
  have Y6 := Lib.hid ((hb6.block _ (Array.getElem?_eq_some_iff.1 Y5.out).1).trans Y5.out)
  have Z6 := Lib.hid ((hb6.block _ (Array.getElem?_eq_some_iff.1 Z5.out).1).trans Z5.out)
  clear hb6 a0 a1 a2 k1 k2 ltp
  have t0 := cell_of_row w6 (w.heap.size + 1) 0 _ 41 (0, 0) Y6.out
  have t1 := cell_of_row w6 (w.heap.size + 1) 1 _ 41 (0, 0) Y6.out
  have t2 := cell_of_row w6 (w.heap.size + 1) 2 _ 41 (0, 0) Y6.out
  have t3 := cell_of_row w6 (w.heap.size + 1) 3 _ 41 (0, 0) Y6.out
  have t4 := cell_of_row w6 (w.heap.size + 1) 4 _ 41 (0, 0) Y6.out
  have p0 := cell_of_row w6 w.heap.size 0 _ 26 (0, 0) Z6.out
  have p1 := cell_of_row w6 w.heap.size 1 _ 26 (0, 0) Z6.out
  have p2 := cell_of_row w6 w.heap.size 2 _ 26 (0, 0) Z6.out
  simp at t0 t1 t2 t3 t4 p0 p1 p2
  go_wp2_with fail
  refine (truth_any A A2 AM AW AS AV AN n c m c' n cm m cw m cs m cv m cn ls ys lo hi ms ws ss vs ns _ HL.out N6.out (hL.next HB6.out) HY.out M12.out (hY.next HB6.out) H1.out G1.out (i1.next HB6.out) H2.out G2.out (i2.next HB6.out) H3.out G3.out (i3.next HB6.out) H4.out G4.out (i4.next HB6.out) H5.out G5.out (i5.next HB6.out)).mono ?_
  rintro e w8 ⟨rfl, hb8⟩
  rw [HP.out]
  have HB8 := Lib.hid (HB6.out.trans (hb8.mono HB6.out.size))
  have X8 := Lib.hid ((hb8.block _ (Array.getElem?_eq_some_iff.1 X6.out).1).trans X6.out)
  have Y8 := Lib.hid ((hb8.block _ (Array.getElem?_eq_some_iff.1 Y6.out).1).trans Y6.out)
  have Z8 := Lib.hid ((hb8.block _ (Array.getElem?_eq_some_iff.1 Z6.out).1).trans Z6.out)
  have D8 := Lib.hid (D6.out.next hb8)
  clear hb8
  clear t0 t1 t2 t3 t4 p0 p1 p2
  have t0 := cell_of_row w8 (w.heap.size + 1) 0 _ 41 (0, 0) Y8.out
  have t1 := cell_of_row w8 (w.heap.size + 1) 1 _ 41 (0, 0) Y8.out
  have t2 := cell_of_row w8 (w.heap.size + 1) 2 _ 41 (0, 0) Y8.out
  have t3 := cell_of_row w8 (w.heap.size + 1) 3 _ 41 (0, 0) Y8.out
  have t4 := cell_of_row w8 (w.heap.size + 1) 4 _ 41 (0, 0) Y8.out
  have p0 := cell_of_row w8 w.heap.size 0 _ 26 (0, 0) Z8.out
  have p1 := cell_of_row w8 w.heap.size 1 _ 26 (0, 0) Z8.out
  have p2 := cell_of_row w8 w.heap.size 2 _ 26 (0, 0) Z8.out
  simp at t0 t1 t2 t3 t4 p0 p1 p2
  go_wp2_with fail
  refine (followR_any A AM AW AS AV AN n c m cm cw cs cv cn ls T lo hi 0 _ HL.out N1.out N6.out (hL.next HB8.out) TT_.out HTK.out M12.out (by omega) (by rw [← HTT.out]; exact i1.next HB8.out) (by rw [← HTT.out]; exact i2.next HB8.out) (by rw [← HTT.out]; exact i3.next HB8.out) (by rw [← HTT.out]; exact i4.next HB8.out) (by rw [← HTT.out]; exact i5.next HB8.out)).mono ?_
  rw [HSS.out]
  rintro e w9 ⟨B2, k2, rfl, _, hseen, hb9⟩
  have HB9 := Lib.hid (HB8.out.trans (hb9.mono HB8.out.size))
  have X9 := Lib.hid ((hb9.block _ (Array.getElem?_eq_some_iff.1 X8.out).1).trans X8.out)
  have Y9 := Lib.hid ((hb9.block _ (Array.getElem?_eq_some_iff.1 Y8.out).1).trans Y8.out)
  have D9 := Lib.hid (D8.out.next hb9)
  have SN := Lib.hid hseen
  clear hb9 hseen t0 t1 t2 t3 t4 p0 p1 p2
  have M12' := M12.out
  go_wp2_with fail
  go_loopw [11, 13] (fun dv i wr => ∃ k : Nat, k ≤ m ∧ i = .int .i64 k ∧ wr.ownsRow w9.heap.size 3 1 dv k (ints (S.th.take k)) ∧ Below w9.heap.size w9 wr) (fun _ i _ => m - (intOf i).toNat)
  case atStart => exact ⟨0, Nat.zero_le _, rfl, World.ownsRow_nil _ _ _ _, Below.refl _ _⟩
  case round =>
    obtain ⟨k, hk, rfl, hown, hbr⟩ := hrel
    have HO := Lib.hid hown
    have HBR := Lib.hid hbr
    clear hown hbr
    by_cases hlt : k < m
    · obtain ⟨b, o, rfl, hbl, hcs⟩ := SN.out (by intro h; have := LEN.out.1; rw [h] at this; simp at this; omega)
      have c0 := ((bcell HBR.out).1 _ _ hbl).trans (hcs k (by rw [LEN.out.1]; exact hlt)).1
      clear hcs
      obtain ⟨x, hx⟩ : ∃ x, at0 S.th k = x := ⟨_, rfl⟩
      rw [hx] at c0
      have HX := Lib.hid hx
      clear hx
      have hk0 : (0 : Int) ≤ (k : Int) := by omega
      have hk1 : (k : Int) < (m : Int) := by omega
      go_wp2_with (first
        | (at_builtin
           refine wpList_append_own _ rfl _ _ 39 rfl w9.heap.size 3 j0 _ 1 8 Tryd.underlying39 J0.out JZ0.out JZ1.out JZ2.out rfl (by decide) _ _ _ rfl (HO.out.alloc _) ⟨wr.heap.size, 0, none⟩ 1 1 [.int .i64 x] rfl rfl (cell_one_new _ _ _) (by simp [Value.oneCell']) (by unfold maxLen; omega) (by omega) (by have := HBR.out.size; simp; omega) ?_
           intro v' w' hown' hgrow' _)
        | fail)
      refine ⟨⟨k + 1, by omega, rfl, ?_, ?_⟩, by simp [intOf]; omega⟩
      · rw [ints_take (by rw [LEN.out.1]; exact hlt), HX.out]
        exact hown'
      · exact (HBR.out.alloc HBR.out.size _).grown hgrow' (by have := HBR.out.size; simp; omega) (fun j hj => (HO.out.lt _ hj).1)
    · have hkm : k = m := by omega
      subst hkm
      obtain ⟨B3, k3, rfl, _, hd⟩ := SlInts.of_own HO.out (by rw [List.length_take, LEN.out.1]; omega)
      have HD3 := Lib.hid hd
      have DR := Lib.hid (D9.out.next HBR.out)
      clear hd
      have htk : S.th.take k = S.th := List.take_of_length_le (by rw [LEN.out.1]; exact Nat.le_refl _)
      rw [htk] at HD3
      simp only [htk, LEN.out.1]
      have K12 : Hid (k ≤ maxLen) := HM
      go_wp2_with fail
      have BW := Lib.hid (HB9.out.trans (HBR.out.mono HB9.out.size))
      have XR := Lib.hid ((HBR.out.block _ (Array.getElem?_eq_some_iff.1 X9.out).1).trans X9.out)
      have YR := Lib.hid ((HBR.out.block _ (Array.getElem?_eq_some_iff.1 Y9.out).1).trans Y9.out)
      have cs28 : ∀ u : KeptW wr, Calls Tryd.prog 28 #[.slice B k kk, .slice B3 k k3] u.w fun e w' => e = .returned (.bool true) ∧ ∃ u' : KeptW wr, w' = u'.w := fun u =>
        Calls.in_kept u (by
          have h := same_any B B3 k k kk k3 S.th S.th u.w LEN.out.1 LEN.out.1 K12.out K12.out (DR.out.next u.h) (HD3.out.next u.h)
          rw [decide_eq_true rfl] at h
          exact h)
      have cs29 : ∀ u : KeptW wr, Calls Tryd.prog 29 #[.agg #[.slice AM n cm, .slice AW k cw, .slice AS k cs, .slice AV k cv, .slice AN k cn]] u.w fun e w' => e = .returned (.agg #[.int .i64 S.In, .int .i64 S.Out, .int .i64 S.Lf]) ∧ ∃ u' : KeptW wr, w' = u'.w := fun u =>
        Calls.in_kept u (by
          have hb := BW.out.trans (u.h.mono BW.out.size)
          have h := ledgerR_any AM AW AS AV AN n k cm cw cs cv cn ls T u.w HTK.out M12' (by rw [← HTT.out]; exact i2.next hb) (by rw [← HTT.out]; exact i3.next hb) (by rw [← HTT.out]; exact i4.next hb) (by rw [← HTT.out]; exact i5.next hb)
          rw [HSS.out] at h
          exact h)
      have cs17 : ∀ u : KeptW wr, Calls Tryd.prog 17 #[] u.w fun e w' => e = .returned (.bool true) ∧ ∃ u' : KeptW wr, w' = u'.w := fun u =>
        Calls.in_kept u (known_any _ (HT.out.next (BW.out.trans (u.h.mono BW.out.size))))
      have C28 := Lib.hid cs28; have C29 := Lib.hid cs29; have C17 := Lib.hid cs17
      clear cs28 cs29 cs17
      have ltx := (Array.getElem?_eq_some_iff.1 XR.out).1
      have lty := (Array.getElem?_eq_some_iff.1 YR.out).1
      have x0 := cell_of_row wr w4.heap.size 0 _ 44 (0, 0) XR.out
      have x1 := cell_of_row wr w4.heap.size 1 _ 44 (0, 0) XR.out
      have x2 := cell_of_row wr w4.heap.size 2 _ 44 (0, 0) XR.out
      have t0 := cell_of_row wr (w.heap.size + 1) 0 _ 41 (0, 0) YR.out
      have t1 := cell_of_row wr (w.heap.size + 1) 1 _ 41 (0, 0) YR.out
      have t2 := cell_of_row wr (w.heap.size + 1) 2 _ 41 (0, 0) YR.out
      have t3 := cell_of_row wr (w.heap.size + 1) 3 _ 41 (0, 0) YR.out
      have t4 := cell_of_row wr (w.heap.size + 1) 4 _ 41 (0, 0) YR.out
      simp at x0 x1 x2 t0 t1 t2 t3 t4
      replace x0 : ∀ u : KeptW wr, u.w.cell? ⟨w4.heap.size, 0, none⟩ = some (.int .i64 S.In) := fun u => ((bcell u.h).1 _ _ ltx).trans x0
      replace x1 : ∀ u : KeptW wr, u.w.cell? ⟨w4.heap.size, 1, none⟩ = some (.int .i64 S.Out) := fun u => ((bcell u.h).1 _ _ ltx).trans x1
      replace x2 : ∀ u : KeptW wr, u.w.cell? ⟨w4.heap.size, 2, none⟩ = some (.int .i64 S.Lf) := fun u => ((bcell u.h).1 _ _ ltx).trans x2
      replace t0 : ∀ u : KeptW wr, u.w.cell? ⟨w.heap.size + 1, 0, none⟩ = some (.slice AM n cm) := fun u => ((bcell u.h).1 _ _ lty).trans t0
      replace t1 : ∀ u : KeptW wr, u.w.cell? ⟨w.heap.size + 1, 1, none⟩ = some (.slice AW k cw) := fun u => ((bcell u.h).1 _ _ lty).trans t1
      replace t2 : ∀ u : KeptW wr, u.w.cell? ⟨w.heap.size + 1, 2, none⟩ = some (.slice AS k cs) := fun u => ((bcell u.h).1 _ _ lty).trans t2
      replace t3 : ∀ u : KeptW wr, u.w.cell? ⟨w.heap.size + 1, 3, none⟩ = some (.slice AV k cv) := fun u => ((bcell u.h).1 _ _ lty).trans t3
      replace t4 : ∀ u : KeptW wr, u.w.cell? ⟨w.heap.size + 1, 4, none⟩ = some (.slice AN k cn) := fun u => ((bcell u.h).1 _ _ lty).trans t4
      refine rk_region (by kernel_rfl) (by kernel_rfl) ?_
      repeat (go_big_quiet_step (first | (with_reducible exact C28.out _) | (with_reducible exact C29.out _) | (with_reducible exact C17.out _) | fail))
      refine wpQuiet_nil ?_
      rintro _ ⟨u, rfl⟩
      have BZ := Lib.hid (BW.out.trans (u.h.mono BW.out.size))
      clear x0 x1 x2 t0 t1 t2 t3 t4
      go_wp2_with fail
      go_ret
      exact ⟨rfl, BZ.out⟩

theorem plays_any (A A2 AM AW AS AV AN : Option Addr) (n c m c' nm cm nw cw ns_ cs nv cv nn cn : Nat) (ls : List Lay) (ys : List Yr) (lo hi : Int) (ms ws ss vs ns : List Int) (w : World) (ht : Tab w) (hl : ls.length = n) (hcap : n ≤ c) (hn : n ≤ maxLen) (hL : LaysAt w w.heap.size A ls) (hy : ys.length = m) (hm : m ≤ maxLen) (hY : YrsAt w w.heap.size A2 ys)
    (h1 : ms.length = nm) (q1 : nm ≤ cm) (g1 : nm ≤ maxLen) (i1 : IntsAt w w.heap.size AM ms) (h2 : ws.length = nw) (q2 : nw ≤ cw) (g2 : nw ≤ maxLen) (i2 : IntsAt w w.heap.size AW ws) (h3 : ss.length = ns_) (q3 : ns_ ≤ cs) (g3 : ns_ ≤ maxLen) (i3 : IntsAt w w.heap.size AS ss) (h4 : vs.length = nv) (q4 : nv ≤ cv) (g4 : nv ≤ maxLen) (i4 : IntsAt w w.heap.size AV vs) (h5 : ns.length = nn) (q5 : nn ≤ cn) (g5 : nn ≤ maxLen) (i5 : IntsAt w w.heap.size AN ns) :
    Calls Tryd.prog 4 #[.agg #[.slice A n c, .int .i64 lo, .int .i64 hi], .slice A2 m c', .agg #[.slice AM nm cm, .slice AW nw cw, .slice AS ns_ cs, .slice AV nv cv, .slice AN nn cn]] w fun e w' => e = .returned (.bool true) ∧ Below w.heap.size w w' := by
  cases hs : decide (n ≤ 12 ∧ m ≤ 17) with
  | false => exact plays_far A A2 AM AW AS AV AN n c m c' nm cm nw cw ns_ cs nv cv nn cn lo hi w ht hn hm g1 g2 g3 g4 g5 (.inl hs)
  | true =>
    cases hz : sizedB nm nw ns_ nv nn with
    | false => exact plays_far A A2 AM AW AS AV AN n c m c' nm cm nw cw ns_ cs nv cv nn cn lo hi w ht hn hm g1 g2 g3 g4 g5 (.inr hz)
    | true =>
      by_cases hr : yearsI ls lo hi ys = 0
      · cases hp : possB ls lo hi ys ms ws ss vs ns with
        | false => exact plays_odd A A2 AM AW AS AV AN n c m c' nm cm nw cw ns_ cs nv cv nn cn ls ys lo hi ms ws ss vs ns w ht hl hcap hn hL hy hm hY h1 q1 g1 i1 h2 q2 g2 i2 h3 q3 g3 i3 h4 q4 g4 i4 h5 q5 g5 i5 hs hz hr hp
        | true => exact plays_good A A2 AM AW AS AV AN n c m c' nm cm nw cw ns_ cs nv cv nn cn ls ys lo hi ms ws ss vs ns w ht hl hcap hn hL hy hm hY h1 q1 g1 i1 h2 q2 g2 i2 h3 q3 g3 i3 h4 q4 g4 i4 h5 q5 g5 i5 hs hz hr hp
      · exact plays_bad _ A A2 AM AW AS AV AN n c m c' nm cm nw cw ns_ cs nv cv nn cn ls ys lo hi ms ws ss vs ns w ht hl hcap hn hL hy hm hY h1 q1 g1 i1 h2 q2 g2 i2 h3 q3 g3 i3 h4 q4 g4 i4 h5 q5 g5 i5 hs hz rfl hr
end Go.Proofs.YtccekbdhffccdaaDoor
