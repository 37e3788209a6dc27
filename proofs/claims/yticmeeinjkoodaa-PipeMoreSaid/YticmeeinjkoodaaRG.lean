/- Pipes: when a loop freezes, and how warm all loops are, by the specification. -/
import Derived.Test.YticmeeinjkoodaaRF
namespace Go.Proofs.Yticmeeinjkoodaa
open Go.RowKit Go.Shelf

theorem firstZ_snoc (ys : List Int) (x : Int) : firstZ (ys ++ [x]) = if firstZ ys < 0 ∧ x = 0 then (ys.length : Int) + 1 else firstZ ys := by
  unfold firstZ
  rw [List.findIdx?_append]
  cases h : ys.findIdx? (fun x => decide (x = 0)) with
  | some i => simp; omega
  | none =>
    by_cases hx : x = 0
    · simp [hx, List.findIdx?_cons]
    · simp [hx, List.findIdx?_cons]
theorem firstZ_take {xs : List Int} {k : Nat} {x : Int} (h : xs[k]? = some x) : firstZ (xs.take (k + 1)) = if firstZ (xs.take k) < 0 ∧ x = 0 then (k : Int) + 1 else firstZ (xs.take k) := by
  have hk := (List.getElem?_eq_some_iff.1 h).1
  rw [List.take_add_one, h, Option.toList_some, firstZ_snoc, List.length_take, Nat.min_eq_left (by omega)]
set_option maxRecDepth 100000 in
set_option maxHeartbeats 8000000 in
theorem rfreezes_any (V : NV) (N : Nt) {L : Nat} {l : Lp} (w : World) (hN : NtAt w w.heap.size V N) (hK : NtOk N) (hL : N.lo[L]? = some l) :
    Calls Try.prog 25 #[nvV V, .int .i64 L] w fun e w' => e = .returned (.tuple #[.int .i64 (frzI l false N.fr 0), .int .i64 (frzI l false N.fr 1)]) ∧ Below w.heap.size w w' := by
  have HK := Lib.hid hK; have HL := Lib.hid hL
  have z := heap_alloc_new w (.cells (nvC V) 26)
  have hb := (Below.refl w.heap.size w).alloc (Nat.le_refl _) (.cells (nvC V) 26)
  obtain ⟨w1, hw1⟩ : ∃ z, w.alloc (.cells (nvC V) 26) = z := ⟨_, rfl⟩
  rw [hw1] at z hb
  have HW := Lib.hid hw1
  have HN := Lib.hid (hN.up hb)
  obtain ⟨al, nl, cl, af, nf, cf, aw, nw, cw⟩ := V
  obtain ⟨v0, v1, v2⟩ := box3_cells z
  have hml := hN.ml; have hmf := hN.mf; have hmw := hN.mw
  unfold maxLen at hml hmf hmw
  simp only at hml hmf hmw v0 v1 v2
  have HB := Lib.hid hb; have Z := Lib.hid z
  have HNL := Lib.hid hN.nl; have HNF := Lib.hid hN.nf; have HNW := Lib.hid hN.nw
  clear z hb hw1 hN
  clear hK hL
  have hnf72 : nf ≤ 72 := by have h1 := HNF.out; have h2 := HK.out.h72; first | omega | (simp only at h1; omega)
  go_enter Try.func25, Try.ntmps25
  go_wp2_with fail
  rw [show w.alloc (.cells #[.slice al nl cl, .slice af nf cf, .slice aw nw cw] 26) = w1 from HW.out]
  go_loopw [6, 7, 8, 9] (fun aa bb ii _ wr => ∃ k : Nat, k ≤ nf ∧ aa = .int .i64 (firstZ ((endL l false N.fr 0).take k)) ∧ bb = .int .i64 (firstZ ((endL l false N.fr 1).take k)) ∧ ii = .int .i64 ((k : Int) + 1) ∧ Below w1.heap.size w1 wr) (fun _ _ ii _ _ => nf + 1 - (intOf ii).toNat)
  case atStart => exact ⟨0, by omega, rfl, rfl, rfl, Below.refl _ _⟩
  case round =>
    obtain ⟨k, hk, rfl, rfl, rfl, hbr⟩ := hrel
    have HBR := Lib.hid hbr
    have u0 := ((bcell hbr).1 _ _ (heapsz Z.out)).trans v0
    have u1 := ((bcell hbr).1 _ _ (heapsz Z.out)).trans v1
    have u2 := ((bcell hbr).1 _ _ (heapsz Z.out)).trans v2
    clear v0 v1 v2
    by_cases hlt : k < nf
    · have k4 : (k : Int) + 1 ≤ (nf : Int) := by omega
      have hkf : k < N.fr.length := by rw [HNF.out]; exact hlt
      have HE0 := Lib.hid (firstZ_take (endL_at (l := l) (b := false) (i := 0) hkf))
      have HE1 := Lib.hid (firstZ_take (endL_at (l := l) (b := false) (i := 1) hkf))
      have HWM := Lib.hid (rwarm_any ⟨al, nl, cl, af, nf, cf, aw, nw, cw⟩ N (k + 1) wr (HN.out.up hbr) HK.out HL.out hkf)
      rw [show ((k + 1 : Nat) : Int) = (k : Int) + 1 from rfl] at HWM
      obtain ⟨m0, hm0⟩ : ∃ z, firstZ ((endL l false N.fr 0).take k) = z := ⟨_, rfl⟩
      obtain ⟨m1, hm1⟩ : ∃ z, firstZ ((endL l false N.fr 1).take k) = z := ⟨_, rfl⟩
      obtain ⟨x, hx⟩ : ∃ z, wK l false N.fr 0 (k + 1) = z := ⟨_, rfl⟩
      obtain ⟨y, hy⟩ : ∃ z, wK l false N.fr 1 (k + 1) = z := ⟨_, rfl⟩
      rw [hm0, hx] at HE0
      rw [hm1, hy] at HE1
      rw [hx, hy] at HWM
      rw [hm0, hm1]
      clear hm0 hm1 hx hy hbr hkf
      have hw1 : wrap64 ((k : Int) + 1 + 1) = ((k + 1 : Nat) : Int) + 1 := by rw [w64 (by omega)]; omega
      go_wp2_with fail
      refine HWM.out.mono ?_
      rintro e w2 ⟨rfl, hb2⟩
      have HB2 := Lib.hid (HBR.out.trans (hb2.mono HBR.out.size))
      clear hb2 HWM u0 u1 u2
      by_cases c0 : m0 < 0 <;> by_cases c1 : x = 0 <;> by_cases c2 : m1 < 0 <;> by_cases c3 : y = 0
      all_goals
        first | subst c1 | skip
        first | subst c3 | skip
        go_wp2_with fail
        refine ⟨⟨k + 1, by omega, ?_, ?_, (by first | rfl | (rw [hw1])), HB2.out.alloc HB2.out.size _⟩, by simp [intOf]; omega⟩
        · rw [HE0.out]; simp [*]
        · rw [HE1.out]; simp [*]
    · obtain rfl : nf = k := by omega
      have k4 : ¬ (nf : Int) + 1 ≤ (nf : Int) := by omega
      have HF0 : Hid (firstZ ((endL l false N.fr 0).take nf) = frzI l false N.fr 0) := Lib.hid (by unfold frzI; rw [List.take_of_length_le (by rw [endL_len, HNF.out]; exact Nat.le_refl _)])
      have HF1 : Hid (firstZ ((endL l false N.fr 1).take nf) = frzI l false N.fr 1) := Lib.hid (by unfold frzI; rw [List.take_of_length_le (by rw [endL_len, HNF.out]; exact Nat.le_refl _)])
      rw [HF0.out, HF1.out]
      clear hbr
      go_wp2_with fail
      exact bodyPost_ret (v := .tuple #[.int .i64 (frzI l false N.fr 0), .int .i64 (frzI l false N.fr 1)]) (by simp [results, Try.results25, go_sem]) rfl ⟨rfl, HB.out.trans (HBR.out.mono HB.out.size)⟩
set_option maxRecDepth 100000 in
set_option maxHeartbeats 8000000 in
theorem rwarmth_any (V : NV) (N : Nt) (w : World) (hN : NtAt w w.heap.size V N) (hK : NtOk N) :
    Calls Try.prog 23 #[nvV V] w fun e w' => ∃ lv rows w0, e = .returned lv ∧ Below w.heap.size w w' ∧ GrdI prR 47 23 w0 w0.heap.size (warL N N.lo.length) lv rows w' ∧ w.heap.size ≤ w0.heap.size := by
  have HK := Lib.hid hK
  have z := heap_alloc_new w (.cells (nvC V) 26)
  have hb := (Below.refl w.heap.size w).alloc (Nat.le_refl _) (.cells (nvC V) 26)
  obtain ⟨w1, hw1⟩ : ∃ z, w.alloc (.cells (nvC V) 26) = z := ⟨_, rfl⟩
  rw [hw1] at z hb
  have HW := Lib.hid hw1
  have HN := Lib.hid (hN.up hb)
  obtain ⟨al, nl, cl, af, nf, cf, aw, nw, cw⟩ := V
  obtain ⟨v0, v1, v2⟩ := box3_cells z
  have hml := hN.ml; have hmf := hN.mf; have hmw := hN.mw
  unfold maxLen at hml hmf hmw
  simp only at hml hmf hmw v0 v1 v2
  have HB := Lib.hid hb; have Z := Lib.hid z
  have HNL := Lib.hid hN.nl; have HNF := Lib.hid hN.nf; have HNW := Lib.hid hN.nw
  clear z hb hw1 hN
  clear hK
  have hnf72 : nf ≤ 72 := by have h1 := HNF.out; have h2 := HK.out.h72; first | omega | (simp only at h1; omega)
  have hnl5 : nl ≤ 5 := by have h1 := HNL.out; have h2 := HK.out.n5; first | omega | (simp only at h1; omega)
  obtain ⟨i0, hi0, hz0, hz1, hz2⟩ := info_parts (show (Try.prog.info? 23).map (fun i => (i.zero, i.size, i.bytes)) = some (some (.slice none 0 0), 1, 24) by kernel_rfl)
  obtain ⟨j0, hj0, jz0, jz1, jz2⟩ := info_parts span_info
  go_enter Try.func23, Try.ntmps23
  go_wp2_with fail
  rw [show w.alloc (.cells #[.slice al nl cl, .slice af nf cf, .slice aw nw cw] 26) = w1 from HW.out]
  go_loopw [3, 4, 5, 6] (fun vv ii _ _ wr => ∃ k : Nat, k ≤ nl ∧ ii = .int .i64 k ∧ ∃ rows, GrdI prR 47 23 w1 w1.heap.size (warL N k) vv rows wr) (fun _ ii _ _ _ => nl - (intOf ii).toNat)
  case atStart => exact ⟨0, by omega, rfl, [], GrdI.nil (Below.refl _ _) (Nat.le_refl _)⟩
  case round =>
    obtain ⟨k, hk, rfl, rows, hG⟩ := hrel
    have HG := Lib.hid hG
    have u0 := ((bcell hG.bel).1 _ _ (heapsz Z.out)).trans v0
    have u1 := ((bcell hG.bel).1 _ _ (heapsz Z.out)).trans v1
    have u2 := ((bcell hG.bel).1 _ _ (heapsz Z.out)).trans v2
    clear hG v0 v1 v2
    by_cases hlt : k < nl
    · have k3 : (0 : Int) ≤ (k : Int) := by omega
      have k4 : (k : Int) < (nl : Int) := by omega
      obtain ⟨l, hl⟩ := get_of_lt (l := N.lo) (k := k) (by rw [HNL.out]; exact hlt)
      have HL := Lib.hid hl
      clear hl
      obtain ⟨wo, rfl⟩ : ∃ z : World, z = wr := ⟨_, rfl⟩
      go_wp2_with fail
      go_loopw [5, 6] (fun rr jj wz => ∃ j : Nat, j ≤ nf ∧ jj = .int .i64 ((j : Int) + 1) ∧ Below wo.heap.size wo wz ∧ wz.ownsRow wo.heap.size 47 2 rr j (flatR prR ((spansL l false N.fr).take j))) (fun _ jj _ => nf + 1 - (intOf jj).toNat)
      case atStart => exact ⟨0, by omega, rfl, Below.refl _ _, World.ownsRow_nil _ _ _ _⟩
      case round =>
        obtain ⟨j, hj, rfl, hbq, hown⟩ := hrel
        have HBQ := Lib.hid hbq; have HOWN := Lib.hid hown
        clear hown
        have t0 := ((bcell hbq).1 _ _ (Nat.lt_of_lt_of_le (heapsz Z.out) HG.out.bel.size)).trans u0
        have t1 := ((bcell hbq).1 _ _ (Nat.lt_of_lt_of_le (heapsz Z.out) HG.out.bel.size)).trans u1
        have t2 := ((bcell hbq).1 _ _ (Nat.lt_of_lt_of_le (heapsz Z.out) HG.out.bel.size)).trans u2
        clear u0 u1 u2
        by_cases hjt : j < nf
        · have j4 : (j : Int) + 1 ≤ (nf : Int) := by omega
          have hjf : j < N.fr.length := by rw [HNF.out]; exact hjt
          have HSP := Lib.hid (spansL_at (l := l) (b := false) hjf)
          have HWM := Lib.hid (rwarm_any ⟨al, nl, cl, af, nf, cf, aw, nw, cw⟩ N (j + 1) wr (HN.out.next (HG.out.bel.trans (hbq.mono HG.out.bel.size)) (Nat.le_trans HG.out.bel.size hbq.size)) HK.out HL.out hjf)
          rw [show ((j + 1 : Nat) : Int) = (j : Int) + 1 from rfl] at HWM
          obtain ⟨x, hx⟩ : ∃ z, wK l false N.fr 0 (j + 1) = z := ⟨_, rfl⟩
          obtain ⟨y, hy⟩ : ∃ z, wK l false N.fr 1 (j + 1) = z := ⟨_, rfl⟩
          rw [hx, hy] at HWM HSP
          clear hx hy hbq hjf
          have hw1 : wrap64 ((j : Int) + 1 + 1) = ((j + 1 : Nat) : Int) + 1 := by rw [w64 (by omega)]; omega
          go_wp2_with fail
          refine HWM.out.mono ?_
          rintro e w2 ⟨rfl, hb2⟩
          have HOW := Lib.hid (own_next HOWN.out hb2)
          have HBU := Lib.hid (HBQ.out.trans (hb2.mono HBQ.out.size))
          have hsz : wo.heap.size ≤ w2.heap.size := HBU.out.size
          clear hb2 HWM t0 t1 t2
          go_wp2_with (first
            | (at_builtin
               refine wpList_append_own _ rfl _ _ 23 rfl wo.heap.size 47 j0 _ 2 16 Try.underlying23 hj0 jz0 jz1 jz2 rfl (by decide) _ _ _ rfl (own_next HOW.out ((Below.refl _ w2).alloc (Nat.le_refl _) _)) ⟨w2.heap.size, 0, none⟩ 1 1 [.int .i64 x, .int .i64 y] rfl rfl (cells_new w2 [.int .i64 x, .int .i64 y] 47) (by simp [Value.oneCell']) (by unfold maxLen; omega) (by omega) (by simp; omega) ?_
               intro v' w6 hown6 hgr6 hnil6)
            | fail)
          refine ⟨⟨j + 1, by omega, (by first | rfl | rw [hw1]), ?_, ?_⟩, by simp [intOf]; omega⟩
          · have hb6 : Below wo.heap.size wo (w2.alloc (.cells #[.int .i64 x, .int .i64 y] 47)) := HBU.out.alloc hsz _
            exact hb6.grown hgr6 hb6.size (fun q e => (own_at HOW.out e).1)
          · rw [flatR_take HSP.out]
            exact hown6
        · obtain rfl : nf = j := by omega
          have j4 : ¬ (nf : Int) + 1 ≤ (nf : Int) := by omega
          have hro : RowIs prR 47 wo.heap.size (spansL l false N.fr) u5 wr := RowIs.of_own (by
            have := HOWN.out
            rw [List.take_of_length_le (by rw [spansL_len, HNF.out]; exact Nat.le_refl _)] at this
            rwa [show (spansL l false N.fr).length = nf by rw [spansL_len]; exact HNF.out])
          have HG4 := Lib.hid (HG.out.below hbq)
          have HRW := Lib.hid (hro.low HG.out.bel.size)
          have hlow : w1.heap.size ≤ wr.heap.size := Nat.le_trans HG.out.bel.size hbq.size
          have hlen : (warL N k).length = k := by simp [warL]; rw [HNL.out]; omega
          have hown := HG4.out.own
          rw [hlen] at hown
          have HOW := Lib.hid hown
          obtain ⟨A, c, rfl, _, _⟩ := hro.at_ (k := 2) (fun _ => rfl)
          have HLN := Lib.hid hlen
          clear hbq hro hown hlen t0 t2
          go_wp2_with (first
            | (at_builtin
               refine wpList_append_own_at _ rfl _ _ 31 rfl w1.heap.size 23 i0 _ 1 24 Try.underlying31 hi0 hz0 hz1 hz2 rfl (by decide) _ _ _ rfl (HOW.out.alloc _) ⟨wr.heap.size, 0, none⟩ 1 1 [.slice A (spansL l false N.fr).length c] rfl rfl (Go.cell_one_new _ _ _) (by simp [Value.oneCell']) (by unfold maxLen; omega) (by omega) (by simp; omega) ?_
               intro v' w6 hown6 hgr6 hnil6 hat6)
            | fail)
          refine ⟨⟨k + 1, by omega, rfl, rows ++ [.slice A (spansL l false N.fr).length c], ?_⟩, by simp [intOf]; omega⟩
          rw [warL_succ HL.out]
          exact HG4.out.append (by decide) HRW.out (by rw [HLN.out]; exact hown6) hgr6
    · obtain rfl : nl = k := by omega
      have k4 : ¬ (nl : Int) < (nl : Int) := by omega
      go_wp2_with fail
      exact bodyPost_ret (v := u3) (by simp [results, Try.results23, go_sem]) rfl ⟨u3, rfl, HB.out.trans (HG.out.bel.mono HB.out.size), rows, w1, by rw [HNL.out]; exact HG.out, HB.out.size⟩
end Go.Proofs.Yticmeeinjkoodaa
