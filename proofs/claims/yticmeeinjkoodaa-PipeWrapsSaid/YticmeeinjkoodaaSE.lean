/- Pipes: when loops are due, by the specification. -/
import Derived.Test.YticmeeinjkoodaaSC
namespace Go.Proofs.Yticmeeinjkoodaa
open Go.RowKit Go.Shelf

set_option maxRecDepth 100000 in
set_option maxHeartbeats 8000000 in
theorem rdue_any (V : NV) (N : Nt) {k : Nat} (w : World) (hN : NtAt w w.heap.size V N) (hK : NtOk N) (hk : k < N.lo.length) :
    Calls Try.prog 93 #[nvV V, .int .i64 k] w fun e w' => e = .returned (.int .i64 (N.due 0 k)) ∧ Below w.heap.size w w' := by
  have HK := Lib.hid hK; have HKL := Lib.hid hk
  have z := heap_alloc_new w (.cells (nvC V) 26)
  have hb := (Below.refl w.heap.size w).alloc (Nat.le_refl _) (.cells (nvC V) 26)
  obtain ⟨w1, hw1⟩ : ∃ z, w.alloc (.cells (nvC V) 26) = z := ⟨_, rfl⟩
  rw [hw1] at z hb
  have HW := Lib.hid hw1
  have HN := Lib.hid (hN.up hb)
  obtain ⟨al, nl, cl, af, nf, cf, aw, nw, cw⟩ := V
  obtain ⟨v0, v1, v2⟩ := box3_cells z
  have hml := hN.ml; have hmf := hN.mf; have hmw := hN.mw
  unfold maxLen at hml hmf hmw
  simp only at hml hmf hmw v0 v1 v2
  have HB := Lib.hid hb; have Z := Lib.hid z
  have HNL := Lib.hid hN.nl; have HNF := Lib.hid hN.nf; have HNW := Lib.hid hN.nw
  clear z hb hw1 hN
  clear hK hk
  have hnf72 : nf ≤ 72 := by have h1 := HNF.out; have h2 := HK.out.h72; first | omega | (simp only at h1; omega)
  obtain ⟨l, hl⟩ := get_of_lt HKL.out
  have hfz := frz_in l false N.fr 0
  have HD : Hid (N.due 0 k = if 0 ≤ frzI l false N.fr 0 then frzI l false N.fr 0 - 1 else N.fr.length) := Lib.hid (by unfold Nt.due dueI; rw [Nat.zero_testBit, List.getD_eq_getElem?_getD, hl]; rfl)
  have HFZ := Lib.hid (rfreezes_any ⟨al, nl, cl, af, nf, cf, aw, nw, cw⟩ N w1 HN.out HK.out hl)
  obtain ⟨a, ha⟩ : ∃ z, frzI l false N.fr 0 = z := ⟨_, rfl⟩
  obtain ⟨a2, ha2⟩ : ∃ z, frzI l false N.fr 1 = z := ⟨_, rfl⟩
  rw [ha, ha2] at HFZ
  rw [ha] at hfz HD
  rw [HNF.out] at hfz HD
  clear hl ha ha2
  go_enter Try.func93, Try.ntmps93
  go_wp2_with fail
  rw [show w.alloc (.cells #[.slice al nl cl, .slice af nf cf, .slice aw nw cw] 26) = w1 from HW.out]
  refine HFZ.out.mono ?_
  rintro e w2 ⟨rfl, hb2⟩
  obtain ⟨q0, q1, q2⟩ := box3_cells ((hb2.block _ (heapsz Z.out)).trans Z.out)
  have HB2 := Lib.hid (HB.out.trans (hb2.mono HB.out.size))
  clear hb2 HFZ v0 v1 v2
  simp only at q0 q1 q2
  rcases hfz with rfl | ⟨ha1, ha2⟩
  · rw [if_neg (by omega)] at HD
    go_wp2_with fail
    go_ret
    exact ⟨by rw [HD.out]; rfl, HB2.out⟩
  · rw [if_pos (by omega)] at HD
    have c4 : ¬ a < 0 := by omega
    have c5 : wrap64 (a - 1) = a - 1 := w64 (by omega)
    go_wp2_with fail
    go_ret
    exact ⟨by rw [HD.out]; first | rfl | simp [c5], HB2.out⟩
set_option maxRecDepth 100000 in
set_option maxHeartbeats 8000000 in
theorem rdues_any (V : NV) (N : Nt) (w : World) (hN : NtAt w w.heap.size V N) (hK : NtOk N) :
    Calls Try.prog 75 #[nvV V] w fun e w' => ∃ v, e = .returned v ∧ Below w.heap.size w w' ∧ RowIs intR 3 w.heap.size (dueN N N.lo.length) v w' := by
  have HK := Lib.hid hK
  have z := heap_alloc_new w (.cells (nvC V) 26)
  have hb := (Below.refl w.heap.size w).alloc (Nat.le_refl _) (.cells (nvC V) 26)
  obtain ⟨w1, hw1⟩ : ∃ z, w.alloc (.cells (nvC V) 26) = z := ⟨_, rfl⟩
  rw [hw1] at z hb
  have HW := Lib.hid hw1
  have HN := Lib.hid (hN.up hb)
  obtain ⟨al, nl, cl, af, nf, cf, aw, nw, cw⟩ := V
  obtain ⟨v0, v1, v2⟩ := box3_cells z
  have hml := hN.ml; have hmf := hN.mf; have hmw := hN.mw
  unfold maxLen at hml hmf hmw
  simp only at hml hmf hmw v0 v1 v2
  have HB := Lib.hid hb; have Z := Lib.hid z
  have HNL := Lib.hid hN.nl; have HNF := Lib.hid hN.nf; have HNW := Lib.hid hN.nw
  clear z hb hw1 hN
  clear hK
  have hnl5 : nl ≤ 5 := by have h1 := HNL.out; have h2 := HK.out.n5; first | omega | (simp only at h1; omega)
  have hnf72 : nf ≤ 72 := by have h1 := HNF.out; have h2 := HK.out.h72; first | omega | (simp only at h1; omega)
  obtain ⟨i0, hi0, hz0, hz1, hz2⟩ := info_parts int_info
  go_enter Try.func75, Try.ntmps75
  go_wp2_with fail
  rw [show w.alloc (.cells #[.slice al nl cl, .slice af nf cf, .slice aw nw cw] 26) = w1 from HW.out]
  go_loopw [3, 4] (fun vv ii wr => ∃ k : Nat, k ≤ nl ∧ ii = .int .i64 k ∧ Below w1.heap.size w1 wr ∧ wr.ownsRow w1.heap.size 3 1 vv k (flatR intR (dueN N k))) (fun _ ii _ => nl - (intOf ii).toNat)
  case atStart => exact ⟨0, by omega, rfl, Below.refl _ _, World.ownsRow_nil _ _ _ _⟩
  case round =>
    obtain ⟨k, hk, rfl, hbr, hown⟩ := hrel
    have HBR := Lib.hid hbr; have HOWN := Lib.hid hown
    have t0 := ((bcell hbr).1 _ _ (heapsz Z.out)).trans v0
    have t1 := ((bcell hbr).1 _ _ (heapsz Z.out)).trans v1
    have t2 := ((bcell hbr).1 _ _ (heapsz Z.out)).trans v2
    clear hown v0 v1 v2
    by_cases hlt : k < nl
    · have k4 : (k : Int) < (nl : Int) := by omega
      have HFZ := Lib.hid (rdue_any ⟨al, nl, cl, af, nf, cf, aw, nw, cw⟩ N (k := k) wr (HN.out.up hbr) HK.out (by rw [HNL.out]; exact hlt))
      have HS := Lib.hid (dueN_succ N k)
      obtain ⟨a, ha⟩ : ∃ z, N.due 0 k = z := ⟨_, rfl⟩
      rw [ha] at HFZ HS
      clear ha hbr
      go_wp2_with fail
      refine HFZ.out.mono ?_
      rintro e w2 ⟨rfl, hb2⟩
      have HOW := Lib.hid (own_next HOWN.out hb2)
      have HBU := Lib.hid (HBR.out.trans (hb2.mono HBR.out.size))
      have hsz : w1.heap.size ≤ w2.heap.size := HBU.out.size
      clear hb2 HFZ t0 t1 t2
      go_wp2_with (first
        | (at_builtin
           refine wpList_append_own _ rfl _ _ 57 rfl w1.heap.size 3 i0 _ 1 8 Try.underlying57 hi0 hz0 hz1 hz2 rfl (by decide) _ _ _ rfl (own_next HOW.out ((Below.refl _ w2).alloc (Nat.le_refl _) _)) ⟨w2.heap.size, 0, none⟩ 1 1 [.int .i64 a] rfl rfl (cells_new w2 [.int .i64 a] 3) (by simp [Value.oneCell']) (by unfold maxLen; omega) (by omega) (by simp; omega) ?_
           intro v' w6 hown6 hgr6 hnil6)
        | fail)
      refine ⟨⟨k + 1, by omega, rfl, ?_, ?_⟩, by simp [intOf]; omega⟩
      · have hb6 : Below w1.heap.size w1 (w2.alloc (.cells #[.int .i64 a] 3)) := HBU.out.alloc hsz _
        exact hb6.grown hgr6 hb6.size (fun q e => (own_at HOW.out e).1)
      · rw [HS.out, flatR_snoc]
        exact hown6
    · obtain rfl : nl = k := by omega
      have k4 : ¬ (nl : Int) < (nl : Int) := by omega
      have hro : RowIs intR 3 w1.heap.size (dueN N nl) u3 wr := RowIs.of_own (by
        have := HOWN.out
        rwa [show (dueN N nl).length = nl by simp [dueN]])
      have HRO := Lib.hid (hro.low HB.out.size)
      clear hbr hro
      go_wp2_with fail
      exact bodyPost_ret (v := u3) (by simp [results, Try.results75, go_sem]) rfl ⟨_, rfl, HB.out.trans (HBR.out.mono HB.out.size), by rw [HNL.out]; exact HRO.out⟩
end Go.Proofs.Yticmeeinjkoodaa
