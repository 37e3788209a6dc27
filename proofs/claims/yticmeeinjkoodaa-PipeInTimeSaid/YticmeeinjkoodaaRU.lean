/- Pipes: a truth without heat by percentages, by the statements. -/
import Derived.Test.YticmeeinjkoodaaRT
namespace Go.Proofs.Yticmeeinjkoodaa
open Go.RowKit Go.Shelf

def tr1 (l : Lp) (fr : List (Int × Int)) (wh : List Int) (h : Nat) : Th := ⟨partI (l.ll, l.lh) (wh.getD ((2 * h + 1) % wh.length) 0), partI (fr.getD h (0, 0)) (wh.getD ((2 * h + 2) % wh.length) 0), false⟩
def truL (l : Lp) (fr : List (Int × Int)) (wh : List Int) (H : Nat) : List Th := (List.range H).map (tr1 l fr wh)
theorem truL_succ (l : Lp) (fr : List (Int × Int)) (wh : List Int) (k : Nat) : truL l fr wh (k + 1) = truL l fr wh k ++ [tr1 l fr wh k] := by
  unfold truL
  rw [List.range_succ, List.map_append]
  rfl
def trCv (Z L k : Nat) (v : Value) (al af ad : Addr) (nl cl nf cf n c i1 i2 : Nat) (a b f1 f2 p1 p2 q1 q2 : Int) : Tmp → Value
  | 1 => .int .i64 L
  | 3 => .slice (some ad) n c
  | 4 => .pointer (some ⟨Z, 0, none⟩)
  | 9 => v
  | 10 => .int .i64 k
  | 16 => v
  | 17 => .pointer (some ⟨Z, 0, none⟩)
  | 18 => .slice (some al) nl cl
  | 19 => .int .i64 L
  | 20 => .pointer (some ⟨al.block, al.off + L * 12, none⟩)
  | 21 => .pointer (some ⟨al.block, al.off + L * 12 + 2, none⟩)
  | 22 => .agg #[.int .i64 a, .int .i64 b]
  | 23 => .slice (some ad) n c
  | 24 => .int .i64 k
  | 25 => .int .i64 (2 * k)
  | 26 => .int .i64 (2 * k + 1)
  | 27 => .slice (some ad) n c
  | 28 => .int .i64 n
  | 29 => .int .i64 i1
  | 30 => .pointer (some ⟨ad.block, ad.off + i1, none⟩)
  | 31 => .int .i64 p1
  | 32 => .int .i64 q1
  | 33 => .pointer (some ⟨Z, 1, none⟩)
  | 34 => .slice (some af) nf cf
  | 35 => .int .i64 k
  | 36 => .pointer (some ⟨af.block, af.off + k * 2, none⟩)
  | 37 => .agg #[.int .i64 f1, .int .i64 f2]
  | 38 => .slice (some ad) n c
  | 39 => .int .i64 k
  | 40 => .int .i64 (2 * k)
  | 41 => .int .i64 (2 * k + 2)
  | 42 => .slice (some ad) n c
  | 43 => .int .i64 n
  | 44 => .int .i64 i2
  | 45 => .pointer (some ⟨ad.block, ad.off + i2, none⟩)
  | 46 => .int .i64 p2
  | 47 => .int .i64 q2
  | 48 => thV ⟨q1, q2, false⟩
  | _ => default
set_option maxRecDepth 100000 in
set_option maxHeartbeats 8000000 in
theorem ltruth_any (V : NV) (N : Nt) {L : Nat} {l : Lp} (H : Nat) (A : Option Addr) (n c : Nat) (wh : List Int) (w : World) (hN : NtAt w w.heap.size V N) (hK : NtOk N) (hL : N.lo[L]? = some l) (hH : H ≤ N.fr.length) (hl : wh.length = n) (hn : 1 ≤ n ∧ n ≤ 200) (hp : ∀ p ∈ wh, 0 ≤ p ∧ p ≤ 100) (hA : IntsAt w w.heap.size A wh) :
    Calls Try.prog 32 #[nvV V, .int .i64 L, .int .i64 H, .slice A n c] w fun e w' => ∃ v, e = .returned v ∧ Below w.heap.size w w' ∧ RowIs thR 54 w.heap.size (truL l N.fr wh H) v w' := by
  have HA := Lib.hid (RowAt.up hA ((Below.refl w.heap.size w).alloc (Nat.le_refl _) (.cells (nvC V) 26))); have HL := Lib.hid hl; have HLL := Lib.hid hL; have HH := Lib.hid hH; have HK := Lib.hid hK; have HP := Lib.hid hp
  have z := heap_alloc_new w (.cells (nvC V) 26)
  have hb := (Below.refl w.heap.size w).alloc (Nat.le_refl _) (.cells (nvC V) 26)
  obtain ⟨w1, hw1⟩ : ∃ z, w.alloc (.cells (nvC V) 26) = z := ⟨_, rfl⟩
  rw [hw1] at z hb
  have HW := Lib.hid hw1
  have HN := Lib.hid (hN.up hb)
  obtain ⟨al, nl, cl, af, nf, cf, aw, nw, cw⟩ := V
  obtain ⟨v0, v1, v2⟩ := box3_cells z
  have hml := hN.ml; have hmf := hN.mf; have hmw := hN.mw
  unfold maxLen at hml hmf hmw
  simp only at hml hmf hmw v0 v1 v2
  have HB := Lib.hid hb; have Z := Lib.hid z
  have HNL := Lib.hid hN.nl; have HNF := Lib.hid hN.nf; have HNW := Lib.hid hN.nw
  clear z hb hw1 hN
  clear hA hl hL hH hK hp
  rw [show w.alloc (.cells (nvC ⟨al, nl, cl, af, nf, cf, aw, nw, cw⟩) 26) = w1 from HW.out] at HA
  obtain ⟨b1, o1, hal1, hb1, ⟨_, _⟩, ⟨e2, e3⟩, _⟩ := lp_el HN.out.lo HLL.out
  have hLn : L < nl := by have h1 := HNL.out; have h2 := (List.getElem?_eq_some_iff.1 HLL.out).1; first | omega | (simp only at h1; omega)
  have L0 : (0 : Int) ≤ (L : Int) := by omega
  have L1 : (L : Int) < (nl : Int) := by omega
  have hHf : H ≤ nf := by have h1 := HNF.out; have h2 := HH.out; first | omega | (simp only at h1; omega)
  have hH72 : H ≤ 72 := by have h1 := HK.out.h72; have h2 := HH.out; omega
  have hal2 : al = some ⟨b1, o1, none⟩ := hal1
  subst hal2
  have H1 := Lib.hid hb1
  have KL := Lib.hid (HK.out.lo l (List.mem_of_getElem? HLL.out)).l
  obtain ⟨i0, hi0, hz0, hz1, hz2⟩ := info_parts th_info2
  clear hal1 hb1 v2
  go_enter Try.func32, Try.ntmps32
  go_wp2_with fail
  rw [show w.alloc (.cells #[.slice (some ⟨b1, o1, none⟩) nl cl, .slice af nf cf, .slice aw nw cw] 26) = w1 from HW.out]
  go_loopw [9, 10] (fun oo ii wr => ∃ k : Nat, k ≤ H ∧ ii = .int .i64 k ∧ Below w1.heap.size w1 wr ∧ wr.ownsRow w1.heap.size 54 3 oo k (flatR thR (truL l N.fr wh k))) (fun _ ii _ => H - (intOf ii).toNat)
  case atStart => exact ⟨0, by omega, rfl, Below.refl _ _, World.ownsRow_nil _ _ _ _⟩
  case round =>
    obtain ⟨k, hk, rfl, hbr, hown⟩ := hrel
    have HBR := Lib.hid hbr; have HOWN := Lib.hid hown
    by_cases hlt : k < H
    · have k3 : (0 : Int) ≤ (k : Int) := by omega
      have k4 : (k : Int) < (H : Int) := by omega
      have k5 : (k : Int) < (nf : Int) := by omega
      obtain ⟨f, hf⟩ := get_of_lt (l := N.fr) (k := k) (by have h1 := HNF.out; first | omega | (simp only at h1; omega))
      obtain ⟨b3, o3, rfl, hb3, g0, g1⟩ := pr_el HN.out.fr hf
      obtain ⟨i1, hi1⟩ : ∃ i, (2 * k + 1) % n = i := ⟨_, rfl⟩
      obtain ⟨i2, hi2⟩ : ∃ i, (2 * k + 2) % n = i := ⟨_, rfl⟩
      have hi1n : i1 < n := by rw [← hi1]; exact Nat.mod_lt _ (by omega)
      have hi2n : i2 < n := by rw [← hi2]; exact Nat.mod_lt _ (by omega)
      obtain ⟨p1, hp1⟩ := get_of_lt (l := wh) (k := i1) (by rw [HL.out]; exact hi1n)
      obtain ⟨p2, hp2⟩ := get_of_lt (l := wh) (k := i2) (by rw [HL.out]; exact hi2n)
      obtain ⟨b4, o4, rfl, hb4, x0⟩ := ints_el HA.out hp1
      obtain ⟨b5, o5, ho5, _, x1⟩ := ints_el HA.out hp2
      injection ho5 with ho5
      injection ho5 with ho5 ho6
      subst ho5 ho6
      have hq1 := HP.out p1 (List.mem_of_getElem? hp1)
      have hq2 := HP.out p2 (List.mem_of_getElem? hp2)
      have HC1 := Lib.hid (fun u : World => part_any (s := (l.ll, l.lh)) (p := p1) (by have := KL.out; exact ⟨this.1, this.2.1, this.2.2⟩) hq1 u)
      have HC2 := Lib.hid (fun u : World => part_any (s := f) (p := p2) (HK.out.fr f (List.mem_of_getElem? hf)) hq2 u)
      have HT : Hid (tr1 l N.fr wh k = ⟨partI (l.ll, l.lh) p1, partI f p2, false⟩) := Lib.hid (by
        unfold tr1
        rw [HL.out, hi1, hi2, List.getD_eq_getElem?_getD, List.getD_eq_getElem?_getD, List.getD_eq_getElem?_getD, hp1, hp2, hf]
        rfl)
      have HTS := Lib.hid (truL_succ l N.fr wh k)
      obtain ⟨q1, hqq1⟩ : ∃ z, partI (l.ll, l.lh) p1 = z := ⟨_, rfl⟩
      obtain ⟨q2, hqq2⟩ : ∃ z, partI f p2 = z := ⟨_, rfl⟩
      rw [hqq1] at HC1 HT
      rw [hqq2] at HC2 HT
      have m1 : (2 * (k : Int) + 1).tmod (n : Int) = (i1 : Int) := by rw [Int.tmod_eq_emod_of_nonneg (by omega), ← hi1]; rfl
      have m2 : (2 * (k : Int) + 2).tmod (n : Int) = (i2 : Int) := by rw [Int.tmod_eq_emod_of_nonneg (by omega), ← hi2]; rfl
      have n0 : ¬ n = 0 := by omega
      have w1' : IntKind.i64.wrap (2 * (k : Int)) = 2 * k := IntWalk.i64_in _ (by omega)
      have w2' : IntKind.i64.wrap (2 * (k : Int) + 1) = 2 * k + 1 := IntWalk.i64_in _ (by omega)
      have w3' : IntKind.i64.wrap (2 * (k : Int) + 2) = 2 * k + 2 := IntWalk.i64_in _ (by omega)
      have w4' : IntKind.i64.wrap (i1 : Int) = i1 := IntWalk.i64_in _ (by omega)
      have w5' : IntKind.i64.wrap (i2 : Int) = i2 := IntWalk.i64_in _ (by omega)
      have j1 : (0 : Int) ≤ (i1 : Int) := by omega
      have j2 : (i1 : Int) < (n : Int) := by omega
      have j3 : (0 : Int) ≤ (i2 : Int) := by omega
      have j4 : (i2 : Int) < (n : Int) := by omega
      have HFC : Hid (∀ u : World, wr.grownBy u u9.ownBlock → (u.cell? ⟨w.heap.size, 0, none⟩ = some (.slice (some ⟨b1, o1, none⟩) nl cl) ∧ u.cell? ⟨w.heap.size, 1, none⟩ = some (.slice (some ⟨b3, o3, none⟩) nf cf)) ∧ (u.cell? ⟨b1, o1 + L * 12 + 2, none⟩ = some (.int .i64 l.ll) ∧ u.cell? ⟨b1, o1 + L * 12 + 3, none⟩ = some (.int .i64 l.lh)) ∧ (u.cell? ⟨b3, o3 + k * 2, none⟩ = some (.int .i64 f.1) ∧ u.cell? ⟨b3, o3 + k * 2 + 1, none⟩ = some (.int .i64 f.2)) ∧ u.cell? ⟨b4, o4 + i1, none⟩ = some (.int .i64 p1) ∧ u.cell? ⟨b4, o4 + i2, none⟩ = some (.int .i64 p2)) := Lib.hid fun u hu => by
        have hc : ∀ b o, b < w1.heap.size → u.cell? ⟨b, o, none⟩ = w1.cell? ⟨b, o, none⟩ := fun b o hb => (World.cell?_of_block (hu.block b (Nat.lt_of_lt_of_le hb HBR.out.size) (fun e => by have := (own_at HOWN.out e.symm).1; omega))).trans ((bcell HBR.out).1 _ _ hb)
        exact ⟨⟨(hc _ _ (heapsz Z.out)).trans v0, (hc _ _ (heapsz Z.out)).trans v1⟩, ⟨(hc _ _ H1.out).trans e2, (hc _ _ H1.out).trans e3⟩, ⟨(hc _ _ hb3).trans g0, (hc _ _ hb3).trans g1⟩, (hc _ _ hb4).trans x0, (hc _ _ hb4).trans x1⟩
      have hlow := hbr.size
      clear hf g0 g1 hb3 hi1 hi2 hp1 hp2 hb4 x0 x1 hqq1 hqq2 v0 v1 e2 e3 hbr
      go_wp2_with fail
      apply tail_regionX
      case hs => exact (rfl : _ = [_, _, _, _, _, _, _, _, _, _, _, _, _, _, _, _, _, _, _, _, _, _, _, _, _, _, _, _, _, _, _, _, _, _, _] ++ [_])
      case hm => kernel_rfl
      case hT => kernel_rfl
      refine plan_guarded_any (γ := GhE) [1, 3, 4, 9, 10] (rhoO 49 50 (trCv w.heap.size L k u9 ⟨b1, o1, none⟩ ⟨b3, o3, none⟩ ⟨b4, o4, none⟩ nl cl nf cf n c i1 i2 l.ll l.lh f.1 f.2 p1 p2 q1 q2)) (SL ⟨wr, w1.heap.size, 54, 3, k, u9, flatR thR (truL l N.fr wh k), thR ⟨q1, q2, false⟩, 33, 34⟩) ⟨fun _ => undef, fun _ => undef⟩ (by kernel_rfl) (by kernel_rfl) (by kernel_rfl) (by kernel_rfl) ?_ (SL.start hown hlow (by decide)) ?_ ?_
      · intro t ht
        simp only [List.mem_cons, List.not_mem_nil, or_false] at ht
        rcases ht with rfl | rfl | rfl | rfl | rfl <;> rfl
      · refine allOps_array ?_
        refine ⟨?_, ?_, ?_, ?_, ?_, ?_, ?_, ?_, ?_, ?_, ?_, ?_, ?_, ?_, ?_, ?_, ?_, ?_, ?_, ?_, ?_, ?_, ?_, ?_, ?_, ?_, ?_, ?_, ?_, ?_, ?_, ?_, ?_, ?_, ?_, trivial⟩ <;> intro done g wS hS hu hdep _ <;> obtain ⟨⟨c0, c1⟩, ⟨c2, c3⟩, ⟨c4, c5⟩, c6, c7⟩ := HFC.out wS hS.grown
        · refine quietL hS 16 rfl (by simp) (by simp) rfl ?_
          simp [go_sem, evalBy, rhoO, trCv]
        · refine quietL hS 17 rfl (by simp) (by simp) rfl ?_
          simp [go_sem, evalBy, rhoO, trCv]
        · refine quietL hS 18 rfl (by simp) (by simp) rfl ?_
          simp [go_sem, evalBy, rhoO, trCv, c0]
        · refine quietL hS 19 rfl (by simp) (by simp) rfl ?_
          simp [go_sem, evalBy, rhoO, trCv]
        · refine quietL hS 20 rfl (by simp) (by simp) rfl ?_
          simp [go_sem, evalBy, rhoO, trCv, L0, L1]
        · refine quietL hS 21 rfl (by simp) (by simp) rfl ?_
          simp [go_sem, evalBy, rhoO, trCv]
        · refine quietL hS 22 rfl (by simp) (by simp) rfl ?_
          simp [go_sem, evalBy, rhoO, trCv, c2, c3]
        · refine quietL hS 23 rfl (by simp) (by simp) rfl ?_
          simp [go_sem, evalBy, rhoO, trCv]
        · refine quietL hS 24 rfl (by simp) (by simp) rfl ?_
          simp [go_sem, evalBy, rhoO, trCv]
        · refine quietL hS 25 rfl (by simp) (by simp) rfl ?_
          simp [go_sem, evalBy, rhoO, trCv, w1']
        · refine quietL hS 26 rfl (by simp) (by simp) rfl ?_
          simp [go_sem, evalBy, rhoO, trCv, w2']
        · refine quietL hS 27 rfl (by simp) (by simp) rfl ?_
          simp [go_sem, evalBy, rhoO, trCv]
        · refine quietL hS 28 rfl (by simp) (by simp) rfl ?_
          simp [go_sem, evalBy, rhoO, trCv]
        · refine quietL hS 29 rfl (by simp) (by simp) rfl ?_
          simp [go_sem, evalBy, rhoO, trCv, m1, n0]
        · refine quietL hS 30 rfl (by simp) (by simp) rfl ?_
          simp [go_sem, evalBy, rhoO, trCv, j1, j2]
        · refine quietL hS 31 rfl (by simp) (by simp) rfl ?_
          simp [go_sem, evalBy, rhoO, trCv, c6]
        · exact callL hS 32 rfl (by simp) (by simp) rfl 31 #[.agg #[.int .i64 l.ll, .int .i64 l.lh], .int .i64 p1] (by simp [go_sem, evalBy, rhoO, trCv]) (HC1.out wS)
        · refine quietL hS 33 rfl (by simp) (by simp) rfl ?_
          simp [go_sem, evalBy, rhoO, trCv]
        · refine quietL hS 34 rfl (by simp) (by simp) rfl ?_
          simp [go_sem, evalBy, rhoO, trCv, c1]
        · refine quietL hS 35 rfl (by simp) (by simp) rfl ?_
          simp [go_sem, evalBy, rhoO, trCv]
        · refine quietL hS 36 rfl (by simp) (by simp) rfl ?_
          simp [go_sem, evalBy, rhoO, trCv, k3, k5]
        · refine quietL hS 37 rfl (by simp) (by simp) rfl ?_
          simp [go_sem, evalBy, rhoO, trCv, c4, c5]
        · refine quietL hS 38 rfl (by simp) (by simp) rfl ?_
          simp [go_sem, evalBy, rhoO, trCv]
        · refine quietL hS 39 rfl (by simp) (by simp) rfl ?_
          simp [go_sem, evalBy, rhoO, trCv]
        · refine quietL hS 40 rfl (by simp) (by simp) rfl ?_
          simp [go_sem, evalBy, rhoO, trCv, w1']
        · refine quietL hS 41 rfl (by simp) (by simp) rfl ?_
          simp [go_sem, evalBy, rhoO, trCv, w3']
        · refine quietL hS 42 rfl (by simp) (by simp) rfl ?_
          simp [go_sem, evalBy, rhoO, trCv]
        · refine quietL hS 43 rfl (by simp) (by simp) rfl ?_
          simp [go_sem, evalBy, rhoO, trCv]
        · refine quietL hS 44 rfl (by simp) (by simp) rfl ?_
          simp [go_sem, evalBy, rhoO, trCv, m2, n0]
        · refine quietL hS 45 rfl (by simp) (by simp) rfl ?_
          simp [go_sem, evalBy, rhoO, trCv, j3, j4]
        · refine quietL hS 46 rfl (by simp) (by simp) rfl ?_
          simp [go_sem, evalBy, rhoO, trCv, c7]
        · exact callL hS 47 rfl (by simp) (by simp) rfl 31 #[.agg #[.int .i64 f.1, .int .i64 f.2], .int .i64 p2] (by simp [go_sem, evalBy, rhoO, trCv]) (HC2.out wS)
        · refine quietL hS 48 rfl (by simp) (by simp) rfl ?_
          simp [go_sem, evalBy, rhoO, trCv]
        · refine buildL hS 49 rfl rfl rfl ?_ (fun _ => rfl) (fun t b' ht => rhoO_b t b' ht)
          simp [go_sem, evalBy, rhoO, trCv, thR]
        · exact appendL hS 50 rfl rfl hu (hdep ⟨33, .data⟩ (by simp) rfl) rfl 16 49 41 rfl rfl rfl i0 _ 24 Try.underlying41 hi0 hz0 hz1 hz2 rfl (by show 0 < 3; decide) rfl (by simp [Value.oneCell', thR]) (by unfold maxLen; show k + 1 ≤ _; omega) (by show (k + 1) * 24 ≤ _; omega) (fun _ => rfl) (fun t c' ht => rhoO_c t c' ht)
      · intro g wC hS
        have hA := SL.after hS (show 34 < _ by decide)
        have HBC : Hid (Below w1.heap.size w1 wC) := Lib.hid (HBR.out.grown hA.1 HBR.out.size (fun q e => (own_at HOWN.out e).1))
        have HOC := Lib.hid hA.2.1
        clear hA hS
        simp only [QT]
        unfold Oper.wp
        simp [go_sem, putAll, Act.put, rhoO, trCv]
        go_wp2_with fail
        refine ⟨⟨k + 1, by omega, rfl, HBC.out, ?_⟩, by simp [intOf]; omega⟩
        rw [HTS.out, flatR_snoc, HT.out]
        exact HOC.out
    · obtain rfl : H = k := by omega
      have k4 : ¬ (H : Int) < (H : Int) := by omega
      have hro : RowIs thR 54 w1.heap.size (truL l N.fr wh H) u9 wr := RowIs.of_own (by
        have := HOWN.out
        rwa [show (truL l N.fr wh H).length = H by simp [truL]])
      have HRO := Lib.hid (hro.low HB.out.size)
      clear hbr hro hown
      go_wp2_with fail
      go_ret
      exact ⟨_, rfl, HB.out.trans (HBR.out.mono HB.out.size), HRO.out⟩
end Go.Proofs.Yticmeeinjkoodaa
