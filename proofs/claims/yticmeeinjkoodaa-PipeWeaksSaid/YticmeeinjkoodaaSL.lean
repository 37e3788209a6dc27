/- Pipes: the best place, by the specification. -/
import Derived.Test.YticmeeinjkoodaaSK
import Derived.Test.YticmeeinjkoodaaRC
namespace Go.Proofs.Yticmeeinjkoodaa
open Go.RowKit Go.Shelf

theorem grL_succ (f : Nat → Int) (n : Nat) : grL f (List.range (n + 1)) = grF f (grL f (List.range n)) n := by
  unfold grL
  rw [List.range_succ, List.foldl_append]
  rfl
set_option maxRecDepth 100000 in
set_option maxHeartbeats 16000000 in
theorem rpost_any (V : NV) (N : Nt) (A : Option Addr) (n c : Nat) (fs : List Int) (w : World) (hN : NtAt w w.heap.size V N) (hl : fs.length = n) (hn : n ≤ maxLen) (hA : IntsAt w w.heap.size A fs) (hK : FsOk N 0 fs) :
    Calls Try.prog 47 #[nvV V, .slice A n c] w fun e w' => e = .returned (.tuple #[.int .i64 (if (postI N fs).2 = -1 then -1 else ((postI N fs).1 : Int)), .int .i64 (if (postI N fs).2 = -1 then 0 else (postI N fs).2), .bool (decide ((postI N fs).2 ≠ -1))]) ∧ Below w.heap.size w w' := by
  have HA := Lib.hid (RowAt.up hA ((Below.refl w.heap.size w).alloc (Nat.le_refl _) (.cells (nvC V) 26))); have HL := Lib.hid hl; have HK := Lib.hid hK
  have z := heap_alloc_new w (.cells (nvC V) 26)
  have hb := (Below.refl w.heap.size w).alloc (Nat.le_refl _) (.cells (nvC V) 26)
  obtain ⟨w1, hw1⟩ : ∃ z, w.alloc (.cells (nvC V) 26) = z := ⟨_, rfl⟩
  rw [hw1] at z hb
  have HW := Lib.hid hw1
  have HN := Lib.hid (hN.up hb)
  obtain ⟨al, nl, cl, af, nf, cf, aw, nw, cw⟩ := V
  obtain ⟨v0, v1, v2⟩ := box3_cells z
  have hml := hN.ml; have hmf := hN.mf; have hmw := hN.mw
  unfold maxLen at hml hmf hmw
  simp only at hml hmf hmw v0 v1 v2
  have HB := Lib.hid hb; have Z := Lib.hid z
  have HNL := Lib.hid hN.nl; have HNF := Lib.hid hN.nf; have HNW := Lib.hid hN.nw
  clear z hb hw1 hN
  have HZ1 := Z; have HB1 := HB; have HN1 := HN
  clear Z HB HN
  have HA1 := HA
  clear HA
  unfold maxLen at hn
  clear hA hl hK
  rw [show w.alloc (.cells (nvC ⟨al, nl, cl, af, nf, cf, aw, nw, cw⟩) 26) = w1 from HW.out] at HA1
  have HNW2 : Hid (N.wa.length = nl + 1) := Lib.hid (by have h1 := HNL.out; have h2 := HK.out.ok.wl; first | omega | (simp only at h1; omega))
  have HNL2 : Hid (N.lo.length = nl) := Lib.hid (by have h1 := HNL.out; first | omega | (simp only at h1; omega))
  have hnl5 : nl ≤ 5 := by have h1 := HNL2.out; have h2 := HK.out.ok.n5; omega
  obtain ⟨X, hX⟩ : ∃ z, postI N fs = z := ⟨_, rfl⟩
  have HX := Lib.hid hX
  rw [hX]
  clear hX
  go_enter Try.func47, Try.ntmps47
  go_wp2_with fail
  rw [show w.alloc (.cells #[.slice al nl cl, .slice af nf cf, .slice aw nw cw] 26) = w1 from HW.out]
  go_loopw [7, 8, 9, 10, 11] (fun bb mm pp _ _ wr => ∃ (k x : Nat) (y : Int), k ≤ nl + 1 ∧ pp = .int .i64 k ∧ grL (sofI N 0 fs) (List.range k) = (x, y) ∧ -1 ≤ y ∧ ((y = -1 ∧ bb = .int .i64 (-1) ∧ mm = .int .i64 0) ∨ (0 ≤ y ∧ bb = .int .i64 x ∧ mm = .int .i64 y)) ∧ Below w1.heap.size w1 wr) (fun _ _ pp _ _ _ => nl + 1 - (intOf pp).toNat)
  case atStart => exact ⟨0, 0, -1, by omega, rfl, rfl, by omega, .inl ⟨rfl, rfl, rfl⟩, Below.refl _ _⟩
  case round =>
    obtain ⟨k, x, y, hk, rfl, hg, hy, hbm, hbr⟩ := hrel
    have HBR := Lib.hid hbr; have HG := Lib.hid hg
    have t0 := ((bcell hbr).1 _ _ (heapsz HZ1.out)).trans v0
    have t1 := ((bcell hbr).1 _ _ (heapsz HZ1.out)).trans v1
    have t2 := ((bcell hbr).1 _ _ (heapsz HZ1.out)).trans v2
    clear hg v0 v1 v2 hbr
    by_cases hlt : k < nl + 1
    · have k4 : (k : Int) ≤ (nl : Int) := by omega
      have HGS := Lib.hid (grL_succ (sofI N 0 fs) k)
      rw [HG.out] at HGS
      have hsi := sof_in HK.out.ok 0 k fs
      have HNR := Lib.hid (rleasts_any ⟨al, nl, cl, af, nf, cf, aw, nw, cw⟩ N (a := k) A n c fs wr (HN1.out.up HBR.out) HL.out (by unfold maxLen; omega) (RowAt.up HA1.out HBR.out) (HK.out.at ⟨by omega, by have h1 := HNL2.out; omega⟩))
      have HLI : Hid (lstI N k fs = if sofI N 0 fs k = -1 then (0, false) else (sofI N 0 fs k, true)) := Lib.hid rfl
      obtain ⟨s, hs⟩ : ∃ z, sofI N 0 fs k = z := ⟨_, rfl⟩
      have HSS : Hid (sofI N 0 fs k = s) := Lib.hid hs
      rw [hs] at HLI hsi
      clear hs
      by_cases h1 : s = -1
      · rw [if_pos h1] at HLI
        rw [HLI.out] at HNR
        have HG2 : Hid (grL (sofI N 0 fs) (List.range (k + 1)) = (x, y)) := Lib.hid (by rw [HGS.out]; unfold grF; rw [HSS.out, if_neg (by omega)])
        go_wp2_with fail
        refine HNR.out.mono ?_
        rintro e w2 ⟨rfl, hb2⟩
        have HB2 := Lib.hid (HBR.out.trans (hb2.mono HBR.out.size))
        clear hb2 t0 t1 t2 HNR
        rcases hbm with ⟨rfl, rfl, rfl⟩ | ⟨hy0, rfl, rfl⟩
        · go_wp2_with fail
          exact ⟨⟨k + 1, x, -1, by omega, rfl, HG2.out, by omega, .inl ⟨rfl, rfl, rfl⟩, HB2.out⟩, by simp [intOf]; omega⟩
        · go_wp2_with fail
          exact ⟨⟨k + 1, x, y, by omega, rfl, HG2.out, by omega, .inr ⟨hy0, rfl, rfl⟩, HB2.out⟩, by simp [intOf]; omega⟩
      · rw [if_neg h1] at HLI
        rw [HLI.out] at HNR
        have h0 : 0 ≤ s := by have := hsi.1; omega
        have HG2 : Hid (grL (sofI N 0 fs) (List.range (k + 1)) = if y < s then (k, s) else (x, y)) := Lib.hid (by rw [HGS.out]; unfold grF; rw [HSS.out])
        clear hsi
        go_wp2_with fail
        refine HNR.out.mono ?_
        rintro e w2 ⟨rfl, hb2⟩
        have HB2 := Lib.hid (HBR.out.trans (hb2.mono HBR.out.size))
        clear hb2 t0 t1 t2 HNR
        rcases hbm with ⟨rfl, rfl, rfl⟩ | ⟨hy0, rfl, rfl⟩
        · rw [if_pos (by omega)] at HG2
          go_wp2_with fail
          exact ⟨⟨k + 1, k, s, by omega, rfl, HG2.out, by omega, .inr ⟨h0, rfl, rfl⟩, HB2.out⟩, by simp [intOf]; omega⟩
        · have hxn : ¬ (x : Int) < 0 := by omega
          by_cases hys : y < s
          · rw [if_pos hys] at HG2
            go_wp2_with fail
            exact ⟨⟨k + 1, k, s, by omega, rfl, HG2.out, by omega, .inr ⟨h0, rfl, rfl⟩, HB2.out⟩, by simp [intOf]; omega⟩
          · rw [if_neg hys] at HG2
            go_wp2_with fail
            exact ⟨⟨k + 1, x, y, by omega, rfl, HG2.out, by omega, .inr ⟨hy0, rfl, rfl⟩, HB2.out⟩, by simp [intOf]; omega⟩
    · obtain rfl : k = nl + 1 := by omega
      have k4 : ¬ ((nl + 1 : Nat) : Int) ≤ (nl : Int) := by omega
      have HP : Hid (postI N fs = (x, y)) := Lib.hid (by unfold postI; rw [HNW2.out]; exact HG.out)
      obtain rfl : X = (x, y) := by rw [← HX.out, HP.out]
      rcases hbm with ⟨rfl, rfl, rfl⟩ | ⟨hy0, rfl, rfl⟩
      · go_wp2_with fail
        exact bodyPost_ret (v := .tuple #[.int .i64 (-1), .int .i64 0, .bool false]) (by simp [results, Try.results47, go_sem]) rfl ⟨by first | rfl | simp, HB1.out.trans (HBR.out.mono HB1.out.size)⟩
      · have hy1 : ¬ y = -1 := by omega
        have hxn : (0 : Int) ≤ (x : Int) := by omega
        go_wp2_with fail
        exact bodyPost_ret (v := .tuple #[.int .i64 x, .int .i64 y, .bool true]) (by simp [results, Try.results47, go_sem]) rfl ⟨by first | rfl | simp [hy1], HB1.out.trans (HBR.out.mono HB1.out.size)⟩
end Go.Proofs.Yticmeeinjkoodaa
