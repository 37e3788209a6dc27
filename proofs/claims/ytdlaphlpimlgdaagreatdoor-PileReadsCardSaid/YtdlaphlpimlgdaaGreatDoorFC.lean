/- The specification's reader of books. -/
import Derived.Test.YtdlaphlpimlgdaaGreatDoorFB
namespace Go.Proofs.YtdlaphlpimlgdaaGreatDoor
open Go.RowKit Go.Shelf

def RefP (T : List UInt8) (w : World) (e : Ending) (w' : World) : Prop :=
  Below w.heap.size w w' ∧ ∃ (A : Option Addr) (n c : Nat) (z : Bool), e = .returned (.tuple #[.slice A n c, .bool z]) ∧ ((z = true ∧ ∃ ts ps, Doc ts ps ∧ T = docT ts ps ∧ ts.length = n ∧ n ≤ 30001 ∧ LvsAt w' w'.heap.size A ts) ∨ (z = false ∧ NoDoc T))
theorem cut_nl (s : ByteArray) (hs : s.size ≤ 30000) (w : World) : Calls Tryz.prog 104 #[.string s, .int .u8 10] w fun e w' => Below w.heap.size w w' ∧ ∃ g cap, e = .returned (.slice (some ⟨g, 0, none⟩) (pieces 10 s.data.toList).length cap) ∧ g < w'.heap.size ∧ ∀ j p, (pieces 10 s.data.toList)[j]? = some p → w'.cell? ⟨g, j, none⟩ = some (.string ⟨p.toArray⟩) := by
  refine (cutAt_any s 10 hs w).mono ?_
  rintro e w' ⟨hb, v, rfl, ho⟩
  obtain ⟨g, cap, rfl, hg1, hg2⟩ := ho.form (List.length_pos_iff.2 (pieces_ne 10 s.data.toList))
  refine ⟨hb, g, cap, rfl, hg2, fun j p hp => ?_⟩
  rcases ho.2 with ⟨hv, _⟩ | ⟨g', cap', cur, hv, hb', hg, hn, hc, hs', ht⟩
  · exact absurd hv (by simp)
  · simp only [Value.slice.injEq, Option.some.injEq, Addr.mk.injEq, and_true, true_and] at hv
    obtain ⟨rfl, rfl⟩ := hv
    have hj : (strs (pieces 10 s.data.toList))[j]? = some (.string ⟨p.toArray⟩) := by rw [strs, List.getElem?_map, hp]; rfl
    have hlt := (List.getElem?_eq_some_iff.1 hp).1
    rw [← ht, List.getElem?_take_of_lt (by omega)] at hj
    rw [cell_of_row w' g j cur 9 (0, 0) hg]
    simpa using hj
theorem cut_sp (s : ByteArray) (hs : s.size ≤ 30000) (w : World) : Calls Tryz.prog 104 #[.string s, .int .u8 32] w fun e w' => Below w.heap.size w w' ∧ ∃ g cap, e = .returned (.slice (some ⟨g, 0, none⟩) (pieces 32 s.data.toList).length cap) ∧ g < w'.heap.size ∧ ∀ j p, (pieces 32 s.data.toList)[j]? = some p → w'.cell? ⟨g, j, none⟩ = some (.string ⟨p.toArray⟩) := by
  refine (cutAt_any s 32 hs w).mono ?_
  rintro e w' ⟨hb, v, rfl, ho⟩
  obtain ⟨g, cap, rfl, hg1, hg2⟩ := ho.form (List.length_pos_iff.2 (pieces_ne 32 s.data.toList))
  refine ⟨hb, g, cap, rfl, hg2, fun j p hp => ?_⟩
  rcases ho.2 with ⟨hv, _⟩ | ⟨g', cap', cur, hv, hb', hg, hn, hc, hs', ht⟩
  · exact absurd hv (by simp)
  · simp only [Value.slice.injEq, Option.some.injEq, Addr.mk.injEq, and_true, true_and] at hv
    obtain ⟨rfl, rfl⟩ := hv
    have hj : (strs (pieces 32 s.data.toList))[j]? = some (.string ⟨p.toArray⟩) := by rw [strs, List.getElem?_map, hp]; rfl
    have hlt := (List.getElem?_eq_some_iff.1 hp).1
    rw [← ht, List.getElem?_take_of_lt (by omega)] at hj
    rw [cell_of_row w' g j cur 9 (0, 0) hg]
    simpa using hj
theorem mk_size (p : List UInt8) {n : Nat} (h : p.length ≤ n) : (ByteArray.mk p.toArray).size ≤ n := by
  show p.toArray.size ≤ n
  rw [List.size_toArray]
  exact h
set_option maxRecDepth 100000 in
set_option maxHeartbeats 4000000 in
theorem refRead_any (s : ByteArray) (hs : s.size ≤ 30000) (w : World) : Calls Tryz.prog 58 #[.string s] w (RefP s.data.toList w) := by
  obtain ⟨T, hT⟩ : ∃ z, s.data.toList = z := ⟨_, rfl⟩
  have hTl : T.length ≤ 30000 := by rw [← hT, Array.length_toList]; exact hs
  have hcut := cut_nl s hs w
  rw [hT] at hcut ⊢
  have HTT := Lib.hid hT
  obtain ⟨L, hL⟩ : ∃ z, pieces 10 T = z := ⟨_, rfl⟩
  have hLl := pieces_len (c := 10) T
  rw [hL] at hcut hLl
  obtain ⟨N, hN⟩ : ∃ z, L.length = z := ⟨_, rfl⟩
  rw [hN] at hcut hLl
  have HL := Lib.hid hL; have HN := Lib.hid hN; have HLL := Lib.hid hLl.2; have HTL := Lib.hid hTl
  have hN3 : N ≤ 30001 := by omega
  clear hT hL hN hLl hTl hs
  go_enter Tryz.func58, Tryz.ntmps58
  go_wp2_with fail
  refine hcut.mono ?_
  rintro e wA ⟨hb1, g, cap, rfl, hg, hc1⟩
  have HB1 := Lib.hid hb1; have HC1 := Lib.hid hc1
  clear hcut hb1 hc1
  by_cases h3 : N < 3
  · have h3' : (N : Int) < 3 := by omega
    have HNO : Hid (NoDoc T) := Lib.hid (noDoc_few (by rw [HL.out, HN.out]; exact h3))
    go_wp2_with fail
    go_ret2
    exact ⟨HB1.out, none, 0, 0, false, rfl, .inr ⟨rfl, HNO.out⟩⟩
  have h3' : ¬ (N : Int) < 3 := by omega
  have h0N : (0 : Int) < (N : Int) := by omega
  obtain ⟨f0, hf0⟩ := get_of_lt (l := L) (k := 0) (by rw [HN.out]; omega)
  have hc0 := HC1.out 0 f0 hf0
  have hfl : f0.length ≤ 30000 := Nat.le_trans (HLL.out f0 (List.mem_of_getElem? hf0)) HTL.out
  have hcut := cut_sp ⟨f0.toArray⟩ (mk_size f0 hfl) wA
  rw [show (ByteArray.mk f0.toArray).data.toList = f0 from rfl] at hcut
  have HH0 : Hid ((pieces 10 T).getD 0 [] = f0) := Lib.hid (by rw [HL.out, List.getD_eq_getElem?_getD, hf0]; rfl)
  have hwl := pieces_len (c := 32) f0
  obtain ⟨hs, hhs⟩ : ∃ z, pieces 32 f0 = z := ⟨_, rfl⟩
  rw [hhs] at hcut hwl
  have HHS := Lib.hid hhs; have HWL : Hid (∀ p ∈ hs, p.length ≤ 30000) := Lib.hid fun p hp => Nat.le_trans (hwl.2 p hp) hfl
  have hwn : hs.length ≤ 30001 := by omega
  have HCUT := Lib.hid hcut
  clear hf0 hcut hwl hhs h3 hfl
  go_wp2_with fail
  refine HCUT.out.mono ?_
  rintro e wB ⟨hb2, g2, cap2, rfl, hg2, hc2⟩
  have HB2 := Lib.hid (HB1.out.trans (hb2.mono HB1.out.size))
  have hgu := Nat.lt_of_lt_of_le hg hb2.size
  have HC2 := Lib.hid hc2
  have HC1 : Hid (∀ j p, L[j]? = some p → wB.cell? ⟨g, j, none⟩ = some (.string ⟨p.toArray⟩)) := Lib.hid fun j p hj => ((bcell hb2).1 _ _ hg).trans (HC1.out j p hj)
  clear hb2 hc2 HCUT hc0 hg
  by_cases hh3 : hs.length = 3
  case neg =>
    have hh3' : ¬ (hs.length : Int) = 3 := by omega
    have HNO : Hid (NoDoc T) := Lib.hid (noDoc_head (by rw [HH0.out, HHS.out]; exact hh3))
    clear hh3
    go_wp2_with fail
    go_ret2
    exact ⟨HB2.out, none, 0, 0, false, rfl, .inr ⟨rfl, HNO.out⟩⟩
  rw [hh3]
  obtain ⟨w0, w1, w2, rfl⟩ : ∃ a b c, hs = [a, b, c] := by
    match hs, hh3 with
    | [a, b, c], _ => exact ⟨a, b, c, rfl⟩
  have HHD : Hid (pieces 32 ((pieces 10 T).getD 0 []) = [w0, w1, w2]) := Lib.hid (by rw [HH0.out, HHS.out])
  have hc2 := HC2.out 2 w2 rfl
  have HNUM := Lib.hid (num_any ⟨w2.toArray⟩ (mk_size w2 (HWL.out w2 (by simp))) wB)
  clear hh3 hwn
  go_wp2_with fail
  refine HNUM.out.mono ?_
  rintro e wC ⟨hb3, P, z, rfl, hz⟩
  have HB3 := Lib.hid (HB2.out.trans (hb3.mono HB2.out.size))
  have hgu3 := Nat.lt_of_lt_of_le hgu hb3.size
  have HC1 : Hid (∀ j p, L[j]? = some p → wC.cell? ⟨g, j, none⟩ = some (.string ⟨p.toArray⟩)) := Lib.hid fun j p hj => ((bcell hb3).1 _ _ hgu).trans (HC1.out j p hj)
  clear hb3 hc2 HNUM hgu HC2
  rcases hz with ⟨rfl, hP, hw2⟩ | ⟨rfl, hz⟩
  case inr =>
    have HNO : Hid (NoDoc T) := Lib.hid (noDoc_piles HHD.out fun ⟨x, _, hx, e⟩ => hz ⟨x, hx, e⟩)
    clear hz
    go_wp2_with fail
    go_ret2
    exact ⟨HB3.out, none, 0, 0, false, rfl, .inr ⟨rfl, HNO.out⟩⟩
  by_cases hPn : P < 0
  · have HNO : Hid (NoDoc T) := Lib.hid (noDoc_piles HHD.out fun ⟨x, h0, hx, e⟩ => by
      have := itoa_injZ (hw2.symm.trans e)
      omega)
    clear hw2
    go_wp2_with fail
    go_ret2
    exact ⟨HB3.out, none, 0, 0, false, rfl, .inr ⟨rfl, HNO.out⟩⟩
  subst hw2
  have hP1 := hP.2
  obtain ⟨M, rfl⟩ : ∃ M, N = M + 3 := ⟨N - 3, by omega⟩
  have wN : (((M + 3 : Nat) : Int) - 3) = (M : Int) := by omega
  have HPP := Lib.hid hP
  have hM : M ≤ 29998 := by omega
  clear hP h3' h0N
  go_wp2_with fail
  have hP0 : 0 ≤ P := by omega
  have e2 : wrap64 (P + 2) = P + 2 := w64 (by omega)
  obtain ⟨i0, hi0, hz0, hz1, hz2⟩ := info_parts int_info
  obtain ⟨j0, hj0, jz0, jz1, jz2⟩ := info_parts ints_info
  have HI := Lib.hid (And.intro hi0 (And.intro hz0 (And.intro hz1 hz2)))
  have HJ := Lib.hid (And.intro hj0 (And.intro jz0 (And.intro jz1 jz2)))
  have HG3 := Lib.hid hgu3
  clear hi0 hz0 hz1 hz2 hj0 jz0 jz1 jz2 hgu3
  go_loopw [8, 9] (fun v i wr => ∃ (k : Nat) (out : List (List Int)) (rows : List Value), k ≤ M ∧ i = .int .i64 k ∧ out.length = k ∧ SeenR T P out ∧ GrdI intR 3 34 wC wC.heap.size out v rows wr) (fun _ i _ => M - (intOf i).toNat)
  case atStart => exact ⟨0, [], [], Nat.zero_le _, rfl, rfl, fun t row h => by simp at h, GrdI.nil (Below.refl _ _) (Nat.le_refl _)⟩
  case round =>
    obtain ⟨k, out, rows, hk, rfl, hol, hse, hgr⟩ := hrel
    have HOL := Lib.hid hol; have HSE := Lib.hid hse; have HGR := Lib.hid hgr
    clear hol hse hgr
    by_cases hlt : k < M
    · have k1 : (k : Int) < (M : Int) := by omega
      obtain ⟨f, hf⟩ := get_of_lt (l := L) (k := k + 1) (by rw [HN.out]; omega)
      have d1 := ((bcell HGR.out.bel).1 _ _ HG3.out).trans (HC1.out (k + 1) f hf)
      have hfl : f.length ≤ 30000 := Nat.le_trans (HLL.out f (List.mem_of_getElem? hf)) HTL.out
      have hcut := cut_sp ⟨f.toArray⟩ (mk_size f hfl) wr
      rw [show (ByteArray.mk f.toArray).data.toList = f from rfl] at hcut
      have HF : Hid ((pieces 10 T).getD (k + 1) [] = f) := Lib.hid (by rw [HL.out, List.getD_eq_getElem?_getD, hf]; rfl)
      have hwl := pieces_len (c := 32) f
      obtain ⟨ws, hws⟩ : ∃ z, pieces 32 f = z := ⟨_, rfl⟩
      rw [hws] at hcut hwl
      obtain ⟨m, hm⟩ : ∃ z, ws.length = z := ⟨_, rfl⟩
      rw [hm] at hcut hwl
      have HWS := Lib.hid hws; have HM := Lib.hid hm
      have HWL : Hid (∀ p ∈ ws, p.length ≤ 30000) := Lib.hid fun p hp => Nat.le_trans (hwl.2 p hp) hfl
      have hmb : m ≤ 30001 := by omega
      have HCUT := Lib.hid hcut
      have t0 : (0 : Int) ≤ (k : Int) + 1 := by omega
      have t1 : (k : Int) + 1 < ((M + 3 : Nat) : Int) := by omega
      have t2 : ((k : Int) + 1).toNat = k + 1 := by omega
      clear hf hcut hwl hws hm hfl
      go_wp2_with fail
      refine HCUT.out.mono ?_
      rintro e wD ⟨hb4, g4, cap4, rfl, hg4, hc4⟩
      have HB4 := Lib.hid hb4; have HC4 := Lib.hid hc4; have HG4 := Lib.hid hg4
      have HGR4 := Lib.hid (HGR.out.below hb4)
      clear hb4 hc4 hg4 HCUT d1 HGR
      by_cases hmP : (m : Int) = P + 2
      case neg =>
        have hm2 : ((m : Int) != P + 2) = true := by simpa using hmP
        have HNO : Hid (NoDoc T) := Lib.hid (noDoc_row HHD.out (t := k) (by rw [HL.out, HN.out]; omega) fun h => hmP (by rw [HF.out, HWS.out, HM.out] at h; exact h.1))
        clear t0 t1 t2
        go_wp2_with fail
        go_ret2
        exact ⟨HB3.out.trans (HGR4.out.bel.mono HB3.out.size), none, 0, 0, false, rfl, .inr ⟨rfl, HNO.out⟩⟩
      have hm2 : ((m : Int) != P + 2) = false := by simpa using hmP
      have HMP := Lib.hid hmP
      have hmge : 2 ≤ m := by omega
      clear t0 t1 t2 hmP
      go_wp2_with fail
      go_loopw [11, 12] (fun v i wr => ∃ (j : Nat) (row : List Int), j + 2 ≤ m ∧ i = .int .i64 ((j + 2 : Nat) : Int) ∧ row.length = j ∧ (∀ x ∈ row, OkL x) ∧ (ws.drop 2).take j = row.map Lib.itoa ∧ Below wD.heap.size wD wr ∧ wr.ownsRow wD.heap.size 3 1 v j (flatR intR row)) (fun _ i _ => m - (intOf i).toNat)
      case atStart => exact ⟨0, [], hmge, rfl, rfl, by simp, rfl, Below.refl _ _, World.ownsRow_nil _ _ _ _⟩
      case round =>
        obtain ⟨j, row, hj, rfl, hrl, hok, htk, hbr, hown⟩ := hrel
        have HBR := Lib.hid hbr; have HOWN := Lib.hid hown; have HRW := Lib.hid hrl; have HOK := Lib.hid hok; have HTK := Lib.hid htk
        clear hbr hown hrl hok htk
        obtain ⟨q, hq⟩ : ∃ z, j + 2 = z := ⟨_, rfl⟩
        rw [hq]
        by_cases hlq : q < m
        · have q0 : (0 : Int) ≤ (q : Int) := by omega
          have q1 : (q : Int) < (m : Int) := by omega
          obtain ⟨p, hp⟩ := get_of_lt (l := ws) (k := q) (by rw [HM.out]; exact hlq)
          have d1 := ((bcell HBR.out).1 _ _ HG4.out).trans (HC4.out q p hp)
          have HNUM := Lib.hid (num_any ⟨p.toArray⟩ (mk_size p (HWL.out p (List.mem_of_getElem? hp))) wr)
          have HPJ : Hid ((ws.drop 2)[j]? = some p) := Lib.hid (by rw [List.getElem?_drop, show 2 + j = q by omega]; exact hp)
          have HQ := Lib.hid hq
          clear hp hq
          go_wp2_with fail
          refine HNUM.out.mono ?_
          rintro e w5 ⟨hb5, x, z, rfl, hz⟩
          replace hz : z = true ∧ OkL x ∧ p = Lib.itoa x ∨ z = false ∧ ¬LevW p := hz
          have HB5 := Lib.hid hb5
          clear hb5 d1 HNUM
          rcases hz with ⟨rfl, hx1, hx2⟩ | ⟨rfl, hx⟩
          · have HX1 := Lib.hid hx1; have HX2 := Lib.hid hx2
            clear hx1 hx2
            have hjb : j ≤ 30000 := by have := HQ.out; omega
            go_wp2_with (first | (at_builtin; refine Hid.out ?_) | fail)
            refine Lib.hid ?_
            refine wpList_append_own _ rfl _ _ 34 rfl wD.heap.size 3 i0 _ 1 8 Tryz.underlying34 HI.out.1 HI.out.2.1 HI.out.2.2.1 HI.out.2.2.2 rfl (by decide) _ _ _ rfl (Go.Proofs.YtdlaphlpimlgdaaGreatDoor.own_next (Go.Proofs.YtdlaphlpimlgdaaGreatDoor.own_next HOWN.out HB5.out) ((Below.refl _ w5).alloc (Nat.le_refl _) _)) ⟨w5.heap.size, 0, none⟩ 1 1 [.int .i64 x] rfl rfl (cell_one_new _ _ _) (by simp [Value.oneCell']) (by unfold maxLen; omega) (by omega) (by have := HBR.out.size; have := HB5.out.size; simp; omega) ?_
            intro v6 w6 hown6 hgrow6 _
            go_wp2_with fail
            refine ⟨⟨j + 1, row ++ [x], by have := HQ.out; omega, by have h7 := HQ.out; rw [← h7]; go_num, by rw [List.length_append, HRW.out]; rfl, fun y hy => ?_, ?_, ?_, ?_⟩, by simp [intOf]; omega⟩
            · rcases List.mem_append.1 hy with hy | hy
              · exact HOK.out y hy
              · rw [List.mem_singleton.1 hy]
                exact HX1.out
            · rw [List.take_add_one, HPJ.out, HTK.out, HX2.out, List.map_append]
              rfl
            · have h1 := HBR.out.trans (HB5.out.mono HBR.out.size)
              have h2 := (Below.refl w5.heap.size w5).alloc (Nat.le_refl _) (.cells #[.int .i64 x] 3)
              exact (h1.trans (h2.mono h1.size)).grown hgrow6 (Nat.le_trans h1.size h2.size) (fun B hB => (own_at HOWN.out hB).1)
            · rw [flatR_snoc]
              exact hown6
          · have HNO : Hid (NoDoc T) := Lib.hid (noDoc_row HHD.out (t := k) (by rw [HL.out, HN.out]; omega) fun h => hx (by
              rw [HF.out, HWS.out] at h
              exact h.2 p (List.mem_of_getElem? HPJ.out)))
            have HBZ := Lib.hid ((HBR.out.trans (HB5.out.mono HBR.out.size)))
            clear hx
            go_wp2_with fail
            go_ret2
            have h8 := HB3.out.trans (HGR4.out.bel.mono HB3.out.size)
            exact ⟨h8.trans (HBZ.out.mono h8.size), none, 0, 0, false, rfl, .inr ⟨rfl, HNO.out⟩⟩
        · have hqm : q = m := by omega
          subst hqm
          have q1 : ¬ (q : Int) < (q : Int) := by omega
          have hfull : (ws.drop 2).take j = ws.drop 2 := List.take_of_length_le (by rw [List.length_drop, HM.out]; omega)
          rw [hfull] at HTK
          have hjb : j ≤ 30000 := by omega
          have HQ := Lib.hid hq
          have hrj := HRW.out
          rw [← hrj] at HOWN
          have HGR5 := Lib.hid (HGR4.out.below HBR.out)
          have HRI := Lib.hid ((RowIs.of_own (k := 1) HOWN.out).lower (B' := wC.heap.size) HGR4.out.bel.size)
          obtain ⟨Ar, cr, hv_, _⟩ := HRI.out.at_ intR_len
          rw [hrj] at hv_
          subst hv_
          have HRJ := Lib.hid hrj
          have hkb : out.length ≤ 30001 := by have := HOL.out; omega
          have h9 := HGR5.out.bel.size
          clear hrj hfull HOWN hq HGR4
          go_wp2_with (first | (at_builtin; refine Hid.out ?_) | fail)
          refine Lib.hid ?_
          refine wpList_append_own _ rfl _ _ 53 rfl wC.heap.size 34 j0 _ 1 24 Tryz.underlying53 HJ.out.1 HJ.out.2.1 HJ.out.2.2.1 HJ.out.2.2.2 rfl (by decide) _ _ _ rfl (Go.Proofs.YtdlaphlpimlgdaaGreatDoor.own_next HGR5.out.own ((Below.refl _ wr).alloc (Nat.le_refl _) _)) ⟨wr.heap.size, 0, none⟩ 1 1 [.slice Ar j cr] rfl rfl (cell_one_new _ _ _) (by simp [Value.oneCell']) (by unfold maxLen; omega) (by omega) (by simp; omega) ?_
          intro v6 w6 hown6 hgrow6 _
          have HA := Lib.hid (HGR5.out.append (by decide) HRI.out hown6 hgrow6)
          clear hown6 hgrow6 h9
          go_wp2_with fail
          refine ⟨⟨k + 1, out ++ [row], _, by omega, by go_num, by rw [List.length_append, HOL.out]; rfl, ?_, HA.out⟩, by simp [intOf]; omega⟩
          intro t r hr
          by_cases htk : t < out.length
          · rw [List.getElem?_append_left htk] at hr
            exact HSE.out t r hr
          · have h5 := (List.getElem?_eq_some_iff.1 hr).1
            rw [List.length_append, List.length_singleton] at h5
            have h6 : t = out.length := by omega
            subst h6
            rw [List.getElem?_append_right (Nat.le_refl _), Nat.sub_self] at hr
            simp only [List.getElem?_cons_zero, Option.some.injEq] at hr
            subst hr
            refine ⟨⟨by have := HRJ.out; have := HQ.out; have := HMP.out; omega, HOK.out⟩, ?_⟩
            rw [HOL.out, HF.out, HWS.out, ← HTK.out]
            have h7 := HM.out
            match ws, h7 with
            | a :: b :: l, _ => exact ⟨a, b, rfl⟩
            | [a], h7 => simp at h7; omega
            | [], h7 => simp at h7; omega
    · have hke : k = M := by omega
      subst hke
      have k1 : ¬ (k : Int) < (k : Int) := by omega
      have hdoc := seen_ok HSE.out ⟨hP0, HPP.out⟩ (by rw [HOL.out]; omega)
      have hrl : ∀ row ∈ out, row.length ≤ 30000 := fun row hr => by
        obtain ⟨t, ht⟩ := List.mem_iff_getElem?.1 hr
        obtain ⟨_, a, b, h5⟩ := HSE.out t row ht
        have h6 := (pieces_len (c := 32) ((pieces 10 T).getD (t + 1) [])).1
        have h7 : ((pieces 10 T).getD (t + 1) []).length ≤ 30000 := by
          rw [List.getD_eq_getElem?_getD]
          cases hq : (pieces 10 T)[t + 1]? with
          | none => simp
          | some z => exact Nat.le_trans ((pieces_len (c := 10) T).2 z (List.mem_of_getElem? hq)) HTL.out
        rw [h5] at h6
        simp only [List.length_cons, List.length_map] at h6
        omega
      obtain ⟨A3, c3, hv_, hgd, hc3, _⟩ := HGR.out.grid (k := 1) intR_len fun row hr => by have := hrl row hr; unfold maxLen; omega
      subst hv_
      have hon : out.length ≤ 30000 := by have := HOL.out; omega
      have HBW := Lib.hid (HB3.out.trans (HGR.out.bel.mono HB3.out.size))
      have HPR := Lib.hid (prn_all A3 out.length c3 out P wr rfl hon hgd ⟨hP0, by have := HPP.out.2; omega⟩ fun row hr => ⟨hrl row hr, fun x hx => by
        have := (hdoc.rows row hr).2 x hx
        exact ⟨by have := this.1; omega, by have := this.2; omega⟩⟩)
      have HGD := Lib.hid hgd; have HDOC := Lib.hid hdoc
      have HEQ := Lib.hid (byte_list_eq (docT out P) s)
      obtain ⟨DD, hDD⟩ : ∃ D : ByteArray, ByteArray.mk (docT out P).toArray = D := ⟨_, rfl⟩
      rw [hDD] at HEQ HPR
      clear hrl hc3 hgd hdoc hDD
      go_wp2_with fail
      refine HPR.out.mono ?_
      rintro e wZ ⟨rfl, hbz⟩
      have HBZ := Lib.hid (HBW.out.trans (hbz.mono HBW.out.size))
      have HGZ : Hid (LvsAt wZ wZ.heap.size A3 out) := Lib.hid (LvsAt.up HGD.out hbz)
      clear hbz
      go_wp2_with fail
      go_ret2
      refine ⟨HBZ.out, A3, out.length, c3, _, rfl, ?_⟩
      have heq := HEQ.out
      rw [HTT.out] at heq
      by_cases he : docT out P = T
      · rw [decide_eq_true he] at heq
        exact .inl ⟨heq, out, P, HDOC.out, he.symm, rfl, by omega, HGZ.out⟩
      · rw [decide_eq_false he] at heq
        refine .inr ⟨heq, fun ts ps d e => he ?_⟩
        obtain ⟨h1, h2⟩ := seen_doc HHD.out HSE.out (by rw [HOL.out, HL.out, HN.out]) d e
        rw [h1, h2, e]
end Go.Proofs.YtdlaphlpimlgdaaGreatDoor
