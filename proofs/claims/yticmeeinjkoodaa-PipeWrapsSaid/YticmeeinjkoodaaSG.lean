/- Pipes: the best order, by the specification. -/
import Derived.Test.YticmeeinjkoodaaSF
namespace Go.Proofs.Yticmeeinjkoodaa
open Go.RowKit Go.Shelf

def odCv (Z : Nat) (nv : Value) (s : Nat) : Tmp → Value
  | 3 => .pointer (some ⟨Z, 0, none⟩)
  | 2 => .int .i64 s
  | 16 => nv
  | 17 => .int .i64 s
  | 19 => nv
  | _ => default
def odF (N : Nt) (s B : Nat) (i : Nat) (v : Value) (w : World) : Prop :=
  (i = 2 ∨ i = 5 → ∃ rows w0, GrdI intR 3 57 w0 w0.heap.size (gI (ordsK (pilL (s : Int)) (pilL (s : Int)).length)) v rows w ∧ B ≤ w0.heap.size) ∧ (i = 4 ∨ i = 6 → RowIs intR 3 B (dueN N N.lo.length) v w)
theorem odF_keep {N : Nt} {s B : Nat} (i : Nat) (v : Value) (w1 w2 : World) (h : odF N s B i v w1) (hb : Below w1.heap.size w1 w2) : odF N s B i v w2 :=
  ⟨fun hi => by
    obtain ⟨rows, w0, h1, h2⟩ := h.1 hi
    exact ⟨rows, w0, h1.below hb, h2⟩, fun hi => (h.2 hi).below hb⟩
theorem odF_no {N : Nt} {s B i : Nat} {v : Value} {w : World} (h : i < 2 ∨ i = 3) : odF N s B i v w := ⟨fun hi => by omega, fun hi => by omega⟩
set_option maxRecDepth 100000 in
set_option maxHeartbeats 16000000 in
theorem rorder_any (V : NV) (N : Nt) {a s : Nat} (w : World) (hN : NtAt w w.heap.size V N) (hK : NtOk N) (ha : a ≤ N.lo.length) (hs : s < 2 ^ N.lo.length) {sl : Int} (hsl : slk N 0 s a 0 = sl) :
    Calls Try.prog 37 #[nvV V, .int .i64 a, .int .i64 s] w fun e w' => ∃ v, e = .returned (.tuple #[v, .int .i64 (if sl = -1 then 0 else sl), .bool (decide (sl ≠ -1))]) ∧ Below w.heap.size w w' ∧ RowIs intR 3 w.heap.size (if sl = -1 then [] else (ordI N 0 sl s a 0).map fun k : Nat => (k : Int)) v w' := by
  have HK := Lib.hid hK; have HSL := Lib.hid hs; have HAL := Lib.hid ha
  have z := heap_alloc_new w (.cells (nvC V) 26)
  have hb := (Below.refl w.heap.size w).alloc (Nat.le_refl _) (.cells (nvC V) 26)
  obtain ⟨w1, hw1⟩ : ∃ z, w.alloc (.cells (nvC V) 26) = z := ⟨_, rfl⟩
  rw [hw1] at z hb
  have HW := Lib.hid hw1
  have HN := Lib.hid (hN.up hb)
  obtain ⟨al, nl, cl, af, nf, cf, aw, nw, cw⟩ := V
  obtain ⟨v0, v1, v2⟩ := box3_cells z
  have hml := hN.ml; have hmf := hN.mf; have hmw := hN.mw
  unfold maxLen at hml hmf hmw
  simp only at hml hmf hmw v0 v1 v2
  have HB := Lib.hid hb; have Z := Lib.hid z
  have HNL := Lib.hid hN.nl; have HNF := Lib.hid hN.nf; have HNW := Lib.hid hN.nw
  clear z hb hw1 hN
  have HBO := Lib.hid (best_order hK hs hsl)
  clear hK hs ha hsl
  have hnl5 : nl ≤ 5 := by have h1 := HNL.out; have h2 := HK.out.n5; first | omega | (simp only at h1; omega)
  have hs32 : s < 32 := Nat.lt_of_lt_of_le HSL.out (Nat.pow_le_pow_right (show 0 < 2 by decide) HK.out.n5.2)
  have hnf72 : nf ≤ 72 := by have h1 := HNF.out; have h2 := HK.out.h72; first | omega | (simp only at h1; omega)
  have HZF : Hid (N.fr.length = nf) := Lib.hid (by have h1 := HNF.out; first | omega | (simp only at h1; omega))
  have HNU : Hid (∀ u : World, Below w1.heap.size w1 u → NtAt u u.heap.size ⟨al, nl, cl, af, nf, cf, aw, nw, cw⟩ N) := Lib.hid fun u hu => HN.out.next hu hu.size
  have HCU : Hid (∀ u : World, Below w1.heap.size w1 u → u.cell? ⟨w.heap.size, 0, none⟩ = some (.slice al nl cl) ∧ u.cell? ⟨w.heap.size, 1, none⟩ = some (.slice af nf cf) ∧ u.cell? ⟨w.heap.size, 2, none⟩ = some (.slice aw nw cw)) := Lib.hid fun u hu => box3_cells ((hu.block _ (heapsz Z.out)).trans Z.out)
  go_enter Try.func37, Try.ntmps37
  go_wp2_with fail
  rw [show w.alloc (.cells #[.slice al nl cl, .slice af nf cf, .slice aw nw cw] 26) = w1 from HW.out]
  refine rel_region [2, 3] [(18, 2), (20, 4), (9, 5), (10, 6)] (odCv w.heap.size (nvV ⟨al, nl, cl, af, nf, cf, aw, nw, cw⟩) s) (odF N s w1.heap.size) (by kernel_rfl) (by kernel_rfl) (by kernel_rfl) (by kernel_rfl) (by kernel_rfl) (by kernel_rfl) ?_ odF_keep ?_ ?_
  · intro t ht
    simp only [List.mem_cons, List.not_mem_nil, or_false] at ht
    rcases ht with rfl | rfl <;> rfl
  · refine allOps_array ?_
    refine ⟨?_, ?_, ?_, ?_, ?_, ?_, ?_, trivial⟩
    · intro g u hd
      obtain ⟨p0, p1, p2⟩ := HCU.out u.w u.h
      exact ⟨rfl, relQ 16 rfl (odF_no (by omega)) (by simp [go_sem, evalBy, rhoT, relOf, odCv, p0, p1, p2])⟩
    · intro g u hd
      exact ⟨rfl, relQ 17 rfl (odF_no (by omega)) (by simp [go_sem, evalBy, rhoT, relOf, odCv])⟩
    · intro g u hd
      refine ⟨rfl, relC 74 #[nvV ⟨al, nl, cl, af, nf, cf, aw, nw, cw⟩, .int .i64 s] (by simp [go_sem, evalBy, rhoT, relOf, odCv]) ((rorders_any _ N u.w (HNU.out u.w u.h) HK.out HSL.out).mono ?_)⟩
      rintro e w' ⟨lv, rows, w0, rfl, hb, hg, hl⟩
      exact ⟨lv, rfl, hb, ⟨fun _ => ⟨rows, w0, hg, Nat.le_trans u.h.size hl⟩, fun hi => by omega⟩, fun d hd hr => by injection hd with hd; subst hd; simp [relOf] at hr⟩
    · intro g u hd
      obtain ⟨p0, p1, p2⟩ := HCU.out u.w u.h
      exact ⟨rfl, relQ 19 rfl (odF_no (by omega)) (by simp [go_sem, evalBy, rhoT, relOf, odCv, p0, p1, p2])⟩
    · intro g u hd
      refine ⟨rfl, relC 75 #[nvV ⟨al, nl, cl, af, nf, cf, aw, nw, cw⟩] (by simp [go_sem, evalBy, rhoT, relOf, odCv]) ((rdues_any _ N u.w (HNU.out u.w u.h) HK.out).mono ?_)⟩
      rintro e w' ⟨v, rfl, hb, hr⟩
      exact ⟨v, rfl, hb, ⟨fun hi => by omega, fun _ => hr.low u.h.size⟩, fun d hd hr => by injection hd with hd; subst hd; simp [relOf] at hr⟩
    · intro g u hd
      have h := hd ⟨2, .data⟩ (by simp) rfl
      exact ⟨rfl, relM (g 2) ⟨fun _ => h.1 (.inl rfl), fun hi => by omega⟩ (fun d hd hr => by injection hd with hd; subst hd; simp [relOf] at hr) (by simp [go_sem, evalBy, rhoT, relOf])⟩
    · intro g u hd
      have h := hd ⟨4, .data⟩ (by simp) rfl
      exact ⟨rfl, relM (g 4) ⟨fun hi => by omega, fun _ => h.2 (.inl rfl)⟩ (fun d hd hr => by injection hd with hd; subst hd; simp [relOf] at hr) (by simp [go_sem, evalBy, rhoT, relOf])⟩
  · intro g u hall
    obtain ⟨rows, w0, hG, hlow⟩ := (hall 5 (by decide)).1 (.inr rfl)
    have hD := (hall 6 (by decide)).2 (.inr rfl)
    obtain ⟨wb, hwb⟩ := u
    simp only at hG hD
    obtain ⟨lo, hlo⟩ : ∃ z, g 5 = z := ⟨_, rfl⟩
    obtain ⟨ld, hld⟩ : ∃ z, g 6 = z := ⟨_, rfl⟩
    simp [putAll, Act.put, rhoT, relOf, odCv]
    rw [hlo] at hG
    rw [hld] at hD
    rw [hlo, hld]
    obtain ⟨P, hP⟩ : ∃ P, pilL (s : Int) = P := ⟨_, rfl⟩
    have HPL : Hid (P.length ≤ 5) := Lib.hid (by rw [← hP]; exact pil_len (s := (s : Int)) (k := 5))
    have HVM : Hid (∀ o ∈ ordsK P P.length, (∀ j ∈ o, j < N.lo.length) ∧ o.length = P.length ∧ ordV s o) := Lib.hid fun o ho => by
      rw [← hP] at ho
      have hv := (ordV_mem hs32).2 ho
      have hi := isOrd_of hs32 HSL.out hv
      refine ⟨fun j hj => ?_, by rw [← hP]; exact ((mem_ordsK _ o).1 ho).2.2, hv⟩
      have := (hi.inn (j : Int) (List.mem_map.2 ⟨j, hj, rfl⟩)).2.1
      omega
    rw [hP] at hG HBO
    have HLN : Hid ((ordsK P P.length).length ≤ 3125) := Lib.hid (Nat.le_trans (ords_len HPL.out _) (Nat.le_trans (Nat.pow_le_pow_right (by decide) HPL.out) (by decide)))
    obtain ⟨A3, c3, rfl, _, _, _⟩ := hG.grid (k := 1) (fun _ => rfl) (fun row hrow => by
      obtain ⟨o, ho, rfl⟩ := List.mem_map.1 hrow
      have := (HVM.out o ho).2.1
      have := HPL.out
      rw [List.length_map]
      unfold maxLen
      omega)
    obtain ⟨m, hm⟩ : ∃ m, (gI (ordsK P P.length)).length = m := ⟨_, rfl⟩
    have HMM : Hid ((ordsK P P.length).length = m) := Lib.hid (by rw [← hm, gI_len])
    have hm3 : m ≤ 3125 := by have h1 := HLN.out; have h3 := HMM.out; omega
    rw [hm]
    have HGM := Lib.hid hm
    obtain ⟨D, dc, rfl, hDA, _⟩ := hD.at_ (k := 1) (fun _ => rfl)
    have hdl : (dueN N N.lo.length).length = nl := by have h1 := HNL.out; simp [dueN]; first | omega | (simp only at h1; omega)
    rw [hdl]
    have HG := Lib.hid hG; have HDA := Lib.hid hDA; have HWB := Lib.hid hwb
    clear hG hD hDA hall hlo hld hP hm hdl v0 v1 v2 hwb
    go_wp2_with fail
    go_loopw [11, 12, 13, 14, 15] (fun bb mm ff ii _ wr => ∃ (k : Nat) (x : List Nat) (c : Int) (f : Bool), k ≤ m ∧ ii = .int .i64 k ∧ mm = .int .i64 c ∧ ff = .bool f ∧ (-1000000 ≤ c ∧ c ≤ 72) ∧ bestO (ordS N a 0) ((ordsK P P.length).take k) = (x, c, f) ∧ RowIs intR 3 w1.heap.size (x.map fun k : Nat => (k : Int)) bb wr ∧ Below wb.heap.size wb wr) (fun _ _ _ ii _ _ => m - (intOf ii).toNat)
    case atStart => exact ⟨0, [], 0, false, by omega, rfl, rfl, rfl, by omega, rfl, .inl ⟨rfl, rfl⟩, Below.refl _ _⟩
    case round =>
      obtain ⟨k, x, c, f, hk, rfl, rfl, rfl, hc, hbo, hrx, hbr⟩ := hrel
      have HBOK := Lib.hid hbo; have HRX := Lib.hid hrx; have HBR := Lib.hid hbr
      clear hbo hrx
      by_cases hlt : k < m
      · have k3 : (0 : Int) ≤ (k : Int) := by omega
        have k4 : (k : Int) < (m : Int) := by omega
        obtain ⟨o, ho⟩ := get_of_lt (l := ordsK P P.length) (k := k) (by rw [HMM.out]; exact hlt)
        obtain ⟨hj1, hj2, _⟩ := HVM.out o (List.mem_of_getElem? ho)
        obtain ⟨g7, c7, v7, hlv, hglt, hgc, hri⟩ := HG.out.cell (gI_at ho)
        injection hlv with hlv _ hl3
        subst hlv hl3
        have HST : Hid (bestO (ordS N a 0) ((ordsK P P.length).take (k + 1)) = bestF (ordS N a 0) (x, c, f) o) := Lib.hid (by rw [List.take_add_one, ho, ← HBOK.out]; exact bestO_succ _ _ _)
        have hle := ordS_le N o a 0
        rw [HZF.out] at hle
        obtain ⟨A', c', hv7, hra, _⟩ := hri.at_ (k := 1) (fun _ => rfl)
        rw [List.length_map] at hv7
        subst hv7
        have HRI : Hid (RowIs intR 3 w1.heap.size (o.map fun k : Nat => (k : Int)) (.slice A' o.length c') wb) := Lib.hid (by
          have h := hri.low hlow
          exact h)
        have hol5 : o.length ≤ 5 := by rw [hj2]; exact HPL.out
        have HSC : Hid (∀ u : World, Below wr.heap.size wr u → Calls Try.prog 41 #[nvV ⟨al, nl, cl, af, nf, cf, aw, nw, cw⟩, .slice D nl dc, .int .i64 a, .slice A' o.length c'] u fun e w' => e = .returned (.int .i64 (ordS N a 0 o)) ∧ Below u.heap.size u w') := Lib.hid fun u hu => by
          have hbu := HBR.out.trans (hu.mono HBR.out.size)
          refine rslack_any _ N a D A' nl dc o.length c' o u (HNU.out u (HWB.out.trans (hbu.mono HWB.out.size))) HK.out HAL.out (by have h1 := HNL.out; first | omega | (simp only at h1; omega)) (RowAt.next HDA.out hbu hbu.size) rfl (by omega) hj1 (RowAt.next hra hbu hbu.size)
        obtain ⟨n7, hn7⟩ : ∃ z, o.length = z := ⟨_, rfl⟩
        obtain ⟨V, hV⟩ : ∃ z, ordS N a 0 o = z := ⟨_, rfl⟩
        rw [hn7] at HSC HRI
        rw [hV] at HSC hle
        have HVV := Lib.hid hV
        have HQ : Hid (∀ u : World, Below wr.heap.size wr u → (u.cell? ⟨w.heap.size, 0, none⟩ = some (.slice al nl cl) ∧ u.cell? ⟨w.heap.size, 1, none⟩ = some (.slice af nf cf) ∧ u.cell? ⟨w.heap.size, 2, none⟩ = some (.slice aw nw cw)) ∧ u.cell? ⟨g7, k, none⟩ = some (.slice A' n7 c')) := Lib.hid fun u hu => by
          have hbu := HBR.out.trans (hu.mono HBR.out.size)
          exact ⟨HCU.out u (HWB.out.trans (hbu.mono HWB.out.size)), ((bcell hbu).1 _ _ hglt).trans (by rw [← hn7]; exact hgc)⟩
        clear ho hj1 hj2 hglt hgc hri hra hn7 hV hbr hol5
        have HC := Lib.hid (fun u : KeptW wr => Calls.in_kept u (HSC.out u.w u.h))
        have p0 := fun u : KeptW wr => (HQ.out u.w u.h).1.1
        have p1 := fun u : KeptW wr => (HQ.out u.w u.h).1.2.1
        have p2 := fun u : KeptW wr => (HQ.out u.w u.h).1.2.2
        have s1 := fun u : KeptW wr => (HQ.out u.w u.h).2
        go_wp2_with fail
        refine rk_region (by kernel_rfl) (by kernel_rfl) ?_
        repeat (go_big_quiet_step (first | (with_reducible exact HC.out _) | fail))
        refine wpQuiet_nil ?_
        rintro wv ⟨⟨_, hbv⟩, rfl⟩
        have HBV := Lib.hid (HBR.out.trans (hbv.mono HBR.out.size))
        have HRV := Lib.hid (HRX.out.below hbv)
        have s2 := (HQ.out wv hbv).2
        clear hbv p0 p1 p2 s1 HC
        by_cases h0 : 0 ≤ V
        · cases f with
          | false =>
            have HR2 : Hid (bestO (ordS N a 0) ((ordsK P P.length).take (k + 1)) = (o, V, true)) := Lib.hid (by rw [HST.out]; unfold bestF; rw [HVV.out, if_pos (by simp [h0])])
            go_wp2_with fail
            exact ⟨⟨k + 1, o, V, true, by omega, rfl, rfl, rfl, by omega, HR2.out, HRI.out.below HBV.out, HBV.out⟩, by simp [intOf]; omega⟩
          | true =>
            by_cases hcv : c < V
            · have HR2 : Hid (bestO (ordS N a 0) ((ordsK P P.length).take (k + 1)) = (o, V, true)) := Lib.hid (by rw [HST.out]; unfold bestF; rw [HVV.out, if_pos (by simp [h0, hcv])])
              go_wp2_with fail
              exact ⟨⟨k + 1, o, V, true, by omega, rfl, rfl, rfl, by omega, HR2.out, HRI.out.below HBV.out, HBV.out⟩, by simp [intOf]; omega⟩
            · have HR2 : Hid (bestO (ordS N a 0) ((ordsK P P.length).take (k + 1)) = (x, c, true)) := Lib.hid (by rw [HST.out]; unfold bestF; rw [HVV.out, if_neg (by simp; omega)])
              go_wp2_with fail
              exact ⟨⟨k + 1, x, c, true, by omega, rfl, rfl, rfl, hc, HR2.out, HRV.out, HBV.out⟩, by simp [intOf]; omega⟩
        · have HR2 : Hid (bestO (ordS N a 0) ((ordsK P P.length).take (k + 1)) = (x, c, f)) := Lib.hid (by rw [HST.out]; unfold bestF; rw [HVV.out, if_neg (by simp [h0])])
          go_wp2_with fail
          exact ⟨⟨k + 1, x, c, f, by omega, rfl, rfl, rfl, hc, HR2.out, HRV.out, HBV.out⟩, by simp [intOf]; omega⟩
      · obtain rfl : m = k := by omega
        have k4 : ¬ (m : Int) < (m : Int) := by omega
        have HE : Hid ((x, c, f) = (if sl = -1 then ([], 0, false) else (ordI N 0 sl s a 0, sl, true))) := Lib.hid (by
          rw [← HBO.out, ← HBOK.out, List.take_of_length_le (by rw [HMM.out]; exact Nat.le_refl _)])
        have HBW := Lib.hid (HB.out.trans ((HWB.out.trans (HBR.out.mono HWB.out.size)).mono HB.out.size))
        have HRW := Lib.hid (HRX.out.low HB.out.size)
        clear hbr
        have he := HE.out
        by_cases hs1 : sl = -1
        · rw [if_pos hs1] at he
          injection he with e1 he
          injection he with e2 e3
          subst e1 e2 e3
          have HRW2 : Hid (RowIs intR 3 w.heap.size [] u11 wr) := Lib.hid HRW.out
          go_wp2_with fail
          exact bodyPost_ret (v := .tuple #[u11, .int .i64 0, .bool false]) (by simp [results, Try.results37, go_sem]) rfl ⟨u11, by first | rfl | simp [hs1], HBW.out, by first | exact HRW2.out | (rw [if_pos hs1]; exact HRW2.out)⟩
        · rw [if_neg hs1] at he
          injection he with e1 he
          injection he with e2 e3
          subst e1 e3
          have HRW2 : Hid (RowIs intR 3 w.heap.size ((ordI N 0 sl s a 0).map fun k : Nat => (k : Int)) u11 wr) := Lib.hid HRW.out
          subst e2
          go_wp2_with fail
          exact bodyPost_ret (v := .tuple #[u11, .int .i64 c, .bool true]) (by simp [results, Try.results37, go_sem]) rfl ⟨u11, by first | rfl | simp [hs1], HBW.out, by first | exact HRW2.out | (rw [if_neg hs1]; exact HRW2.out)⟩
end Go.Proofs.Yticmeeinjkoodaa
