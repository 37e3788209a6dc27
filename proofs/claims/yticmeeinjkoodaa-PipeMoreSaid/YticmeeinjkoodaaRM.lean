/- Pipes: the slack of an order, by the specification. -/
import Derived.Test.YticmeeinjkoodaaRL
namespace Go.Proofs.Yticmeeinjkoodaa
open Go.RowKit Go.Shelf

theorem ordS_le (N : Nt) : ∀ (l : List Nat) (a : Nat) (t : Int), ordS N a t l ≤ N.fr.length
  | [], _, _ => Int.le_refl _
  | k :: r, a, t => by
    have h1 : ordS N a t (k :: r) = min (N.due 0 k - N.arr a t k) (ordS N (k + 1) (N.arr a t k) r) := rfl
    have h2 := ordS_le N r (k + 1) (N.arr a t k)
    rw [h1]
    omega
theorem dropN_at {l : List Nat} {k x : Nat} (h : l[k]? = some x) : l.drop k = x :: l.drop (k + 1) := by
  obtain ⟨hk, hx⟩ := List.getElem?_eq_some_iff.1 h
  rw [List.drop_eq_getElem_cons hk, hx]
theorem dueN_at {N : Nt} {n k : Nat} (h : k < n) : (dueN N n)[k]? = some (N.due 0 k) := by
  unfold dueN
  rw [List.getElem?_map, List.getElem?_range h]
  rfl
set_option maxRecDepth 100000 in
set_option maxHeartbeats 8000000 in
theorem rslack_any (V : NV) (N : Nt) (a : Nat) (D A : Option Addr) (dn dc n c : Nat) (js : List Nat) (w : World) (hN : NtAt w w.heap.size V N) (hK : NtOk N) (ha : a ≤ N.lo.length) (hd : dn = N.lo.length) (hD : IntsAt w w.heap.size D (dueN N N.lo.length)) (hl : js.length = n) (hn : n ≤ 1000) (hj : ∀ j ∈ js, j < N.lo.length) (hA : IntsAt w w.heap.size A (js.map fun k : Nat => (k : Int))) :
    Calls Try.prog 41 #[nvV V, .slice D dn dc, .int .i64 a, .slice A n c] w fun e w' => e = .returned (.int .i64 (ordS N a 0 js)) ∧ Below w.heap.size w w' := by
  have hbz := (Below.refl w.heap.size w).alloc (Nat.le_refl _) (.cells (nvC V) 26)
  have HA := Lib.hid (RowAt.up hA hbz); have HD := Lib.hid (RowAt.up hD hbz); have HL := Lib.hid hl; have HK := Lib.hid hK; have HJ := Lib.hid hj; have HWY := Lib.hid (wayOk hK)
  have HDN := Lib.hid hd
  have z := heap_alloc_new w (.cells (nvC V) 26)
  have hb := (Below.refl w.heap.size w).alloc (Nat.le_refl _) (.cells (nvC V) 26)
  obtain ⟨w1, hw1⟩ : ∃ z, w.alloc (.cells (nvC V) 26) = z := ⟨_, rfl⟩
  rw [hw1] at z hb
  have HW := Lib.hid hw1
  have HN := Lib.hid (hN.up hb)
  obtain ⟨al, nl, cl, af, nf, cf, aw, nw, cw⟩ := V
  obtain ⟨v0, v1, v2⟩ := box3_cells z
  have hml := hN.ml; have hmf := hN.mf; have hmw := hN.mw
  unfold maxLen at hml hmf hmw
  simp only at hml hmf hmw v0 v1 v2
  have HB := Lib.hid hb; have Z := Lib.hid z
  have HNL := Lib.hid hN.nl; have HNF := Lib.hid hN.nf; have HNW := Lib.hid hN.nw
  clear z hb hw1 hN
  clear hA hl hK hj hD hbz hd
  rw [show w.alloc (.cells (nvC ⟨al, nl, cl, af, nf, cf, aw, nw, cw⟩) 26) = w1 from HW.out] at HA HD
  have hnl5 : nl ≤ 5 := by have h1 := HNL.out; have h2 := HK.out.n5; first | omega | (simp only at h1; omega)
  have hnf72 : nf ≤ 72 := by have h1 := HNF.out; have h2 := HK.out.h72; first | omega | (simp only at h1; omega)
  have hal : a ≤ nl := by have h1 := HNL.out; first | omega | (simp only at h1; omega)
  have hdn : dn = nl := by have h1 := HNL.out; have h2 := HDN.out; first | omega | (simp only at h1; omega)
  have hnw : nw = nl + 1 := by have h1 := HNL.out; have h2 := HNW.out; have h3 := HK.out.wl; first | omega | (simp only at h1 h2; omega)
  subst hdn hnw
  have HZF : Hid (((N.fr.length : Nat) : Int) = (nf : Int)) := Lib.hid (by have h1 := HNF.out; first | omega | (simp only at h1; omega))
  go_enter Try.func41, Try.ntmps41
  go_wp2_with fail
  rw [show w.alloc (.cells #[.slice al dn cl, .slice af nf cf, .slice aw (dn + 1) cw] 26) = w1 from HW.out]
  go_loopw [9, 10, 11, 12, 13] (fun oo aa tt ii _ wr => ∃ (k ak : Nat) (tk out : Int), k ≤ n ∧ ak ≤ dn ∧ (0 ≤ tk ∧ tk ≤ 144 * k) ∧ (-1000000 ≤ out ∧ out ≤ nf) ∧ oo = .int .i64 out ∧ aa = .int .i64 ak ∧ tt = .int .i64 tk ∧ ii = .int .i64 k ∧ (k = 0 → out = nf) ∧ ordS N a 0 js = min out (ordS N ak tk (js.drop k)) ∧ Below w1.heap.size w1 wr) (fun _ _ _ ii _ _ => n - (intOf ii).toNat)
  case atStart => exact ⟨0, a, 0, nf, by omega, hal, ⟨by omega, by omega⟩, ⟨by omega, by omega⟩, rfl, rfl, rfl, rfl, fun _ => rfl, by have := ordS_le N js a 0; have h := HZF.out; rw [List.drop_zero]; omega, Below.refl _ _⟩
  case round =>
    obtain ⟨k, ak, tk, out, hk, hak, htk, hout, rfl, rfl, rfl, rfl, hk0, heq, hbr⟩ := hrel
    have HBR := Lib.hid hbr; have HEQ := Lib.hid heq
    clear heq
    by_cases hlt : k < n
    · have k3 : (0 : Int) ≤ (k : Int) := by omega
      have k4 : (k : Int) < (n : Int) := by omega
      obtain ⟨j, hj⟩ := get_of_lt (l := js) (k := k) (by rw [HL.out]; exact hlt)
      have hjx : (js.map fun k : Nat => (k : Int))[k]? = some (j : Int) := by rw [List.getElem?_map, hj]; rfl
      have hjn : j < N.lo.length := HJ.out j (List.mem_of_getElem? hj)
      have hjn2 : j < dn := by have h1 := HNL.out; first | omega | (simp only at h1; omega)
      obtain ⟨b2, o2, rfl, hb2, x0⟩ := ints_el HA.out hjx
      obtain ⟨b3, o3, rfl, hb3, y0⟩ := ints_el HD.out (dueN_at hjn)
      obtain ⟨l, hl⟩ := get_of_lt hjn
      obtain ⟨b1, o1, hal1, hb1, _, _, _, _, _, c11⟩ := lp_el HN.out.lo hl
      have hal2 : al = some ⟨b1, o1, none⟩ := hal1
      subst hal2
      have hfx : N.fix j = l.fh := by unfold Nt.fix; rw [List.getD_eq_getElem?_getD, hl]; rfl
      have hwl := HK.out.wl
      obtain ⟨row, hrow⟩ := get_of_lt (l := N.wa) (k := ak) (by have h1 := HNL.out; first | omega | (simp only at h1; omega))
      have hrl := (HK.out.wa ak row hrow).1
      obtain ⟨bw, ow, A', m, c', haw, hbw, hm, hcw, hra, _⟩ := grid_row HN.out.wa hrow
      have haw2 : aw = some ⟨bw, ow, none⟩ := haw
      subst haw2
      obtain ⟨y, hy⟩ := get_of_lt (l := row) (k := j + 1) (by omega)
      obtain ⟨b5, o5, rfl, hb5, z0⟩ := ints_el hra hy
      have hmm : m = dn + 1 := by have h1 := HNL.out; first | omega | (simp only at h1; omega)
      subst hmm
      have hway : N.way ak (j + 1) = y := by unfold Nt.way; rw [List.getD_eq_getElem?_getD, List.getD_eq_getElem?_getD, hrow]; simp only [Option.getD_some]; rw [hy]; rfl
      have HDR := Lib.hid (dropN_at hj)
      have harr := arr_in HWY.out (a := ak) htk.1 j
      have HAR : Hid (N.arr ak tk j = tk + (y + l.fh)) := Lib.hid (by unfold Nt.arr; rw [hway, hfx])
      have hw0 := HWY.out.w ak (j + 1)
      have hf0 := HWY.out.f j
      rw [hway] at hw0
      rw [hfx] at hf0
      have hdu := due_N N 0 j
      rw [HNF.out] at hdu
      first | simp only at hdu | skip
      obtain ⟨du, hdu2⟩ : ∃ z, N.due 0 j = z := ⟨_, rfl⟩
      rw [hdu2] at hdu y0
      have HDU := Lib.hid hdu2
      obtain ⟨fx, hfx2⟩ : ∃ z, l.fh = z := ⟨_, rfl⟩
      rw [hfx2] at hf0 c11 HAR
      rw [show tk + (y + fx) = tk + y + fx by omega] at HAR
      rw [HAR.out] at harr
      have HC : Hid (∀ u : World, Below w1.heap.size w1 u → (u.cell? ⟨w.heap.size, 0, none⟩ = some (.slice (some ⟨b1, o1, none⟩) dn cl) ∧ u.cell? ⟨w.heap.size, 1, none⟩ = some (.slice af nf cf) ∧ u.cell? ⟨w.heap.size, 2, none⟩ = some (.slice (some ⟨bw, ow, none⟩) (dn + 1) cw)) ∧ u.cell? ⟨b2, o2 + k, none⟩ = some (.int .i64 j) ∧ u.cell? ⟨b3, o3 + j, none⟩ = some (.int .i64 du) ∧ u.cell? ⟨b1, o1 + j * 12 + 11, none⟩ = some (.int .i64 fx) ∧ u.cell? ⟨bw, ow + ak, none⟩ = some (.slice (some ⟨b5, o5, none⟩) (dn + 1) c') ∧ u.cell? ⟨b5, o5 + (j + 1), none⟩ = some (.int .i64 y)) := Lib.hid fun u hu =>
        ⟨box3_cells ((hu.block _ (heapsz Z.out)).trans Z.out), ((bcell hu).1 _ _ hb2).trans x0, ((bcell hu).1 _ _ hb3).trans y0, ((bcell hu).1 _ _ hb1).trans c11, ((bcell hu).1 _ _ hbw).trans hcw, ((bcell hu).1 _ _ hb5).trans z0⟩
      have hcc := fun u : KeptW wr => HC.out u.w (hbr.trans (u.h.mono hbr.size))
      have p0 := fun u : KeptW wr => (hcc u).1.1
      have p2 := fun u : KeptW wr => (hcc u).1.2.2
      have s1 := fun u : KeptW wr => (hcc u).2.1
      have s3 := fun u : KeptW wr => (hcc u).2.2.2.1
      have s4 := fun u : KeptW wr => (hcc u).2.2.2.2.1
      have s5 := fun u : KeptW wr => (hcc u).2.2.2.2.2
      have a1 : (0 : Int) ≤ (ak : Int) := by omega
      have a2 : (ak : Int) < ((dn + 1 : Nat) : Int) := by omega
      have j1 : (0 : Int) ≤ (j : Int) := by omega
      have j2 : (j : Int) < (dn : Int) := by omega
      have q1 : (0 : Int) ≤ (j : Int) + 1 := by omega
      have q2 : (j : Int) + 1 < ((dn + 1 : Nat) : Int) := by omega
      have e1 : wrap64 ((j : Int) + 1) = (j : Int) + 1 := w64 (by omega)
      have e2 : wrap64 (tk + y) = tk + y := w64 (by omega)
      have e3 : wrap64 (tk + y + fx) = tk + y + fx := w64 (by omega)
      have e4 : wrap64 (du - (tk + y + fx)) = du - (tk + y + fx) := w64 (by omega)
      have HT3 : Hid (0 ≤ (tk + y + fx) ∧ (tk + y + fx) ≤ 144 * ((k + 1 : Nat) : Int)) := Lib.hid (by omega)
      have HSL2 : Hid (-1000000 ≤ (du - (tk + y + fx)) ∧ (du - (tk + y + fx)) ≤ nf) := Lib.hid (by omega)
      have HOU := Lib.hid hout; have HTK := Lib.hid htk; have HK0 := Lib.hid hk0
      clear harr hw0 hf0 hdu hout htk hk0
      obtain ⟨d1, hd1⟩ : ∃ d, dn + 1 = d := ⟨_, rfl⟩
      rw [hd1] at a2 q2 p2 s4 ⊢
      have HQQ := Lib.hid hd1
      clear hj hjx hjn hb2 x0 hb3 y0 hl hal1 hb1 c11 hfx hrow hrl haw hbw hm hcw hra hy hb5 z0 hway hdu2 hfx2 hbr hcc v0 v1 v2 hwl hd1
      go_wp2_with fail
      refine rk_region (by kernel_rfl) (by kernel_rfl) ?_
      repeat (go_big_quiet_step (fail))
      refine wpQuiet_nil ?_
      rintro wv ⟨⟨_, hbv⟩, rfl⟩
      have HBV := Lib.hid (HBR.out.trans (hbv.mono HBR.out.size))
      clear hbv p0 p2 s1 s3 s4 s5
      obtain ⟨⟨p0, p1, p2⟩, s1, s2, s3, s4, s5⟩ := HC.out wv HBV.out
      clear s3 s4 s5 p0 p1 p2
      have HST : Hid (ordS N a 0 js = min out (min (du - (tk + y + fx)) (ordS N (j + 1) (tk + y + fx) (js.drop (k + 1))))) := Lib.hid (by
        rw [HEQ.out, HDR.out]
        show min out (min (N.due 0 j - N.arr ak tk j) (ordS N (j + 1) (N.arr ak tk j) (js.drop (k + 1)))) = _
        rw [HAR.out, HDU.out])
      have HR := Lib.hid (ordS_le N (js.drop (k + 1)) (j + 1) (tk + y + fx))
      have hqd : j + 1 ≤ dn := by omega
      by_cases hkz : k = 0
      · subst hkz
        replace s1 : wv.cell? ⟨b2, o2, none⟩ = some (.int .i64 j) := s1
        have ho := HK0.out rfl
        have HST2 : Hid (ordS N a 0 js = min (du - (tk + y + fx)) (ordS N (j + 1) (tk + y + fx) (js.drop (0 + 1)))) := Lib.hid (by rw [HST.out]; have h1 := HZF.out; have h2 := HR.out; omega)
        go_wp2_with fail
        exact ⟨⟨0 + 1, j + 1, (tk + y + fx), (du - (tk + y + fx)), by omega, hqd, HT3.out, HSL2.out, (by first | rfl | (rw [e3]; done) | (rw [e3, e4]; done) | simp [e4]), rfl, (by first | rfl | (rw [e3]; done) | (rw [e3, e4]; done) | simp [e2, e3, e4]), rfl, fun h => absurd h (by omega), HST2.out, HBV.out⟩, by simp [intOf]; omega⟩
      · have hkz2 : ¬ (k : Int) = 0 := by omega
        by_cases hso : (du - (tk + y + fx)) < out
        · have HST2 : Hid (ordS N a 0 js = min (du - (tk + y + fx)) (ordS N (j + 1) (tk + y + fx) (js.drop (k + 1)))) := Lib.hid (by rw [HST.out]; omega)
          go_wp2_with fail
          exact ⟨⟨k + 1, j + 1, (tk + y + fx), (du - (tk + y + fx)), by omega, hqd, HT3.out, HSL2.out, (by first | rfl | (rw [e3]; done) | (rw [e3, e4]; done) | simp [e2, e3, e4]), rfl, (by first | rfl | (rw [e3]; done) | (rw [e3, e4]; done) | simp [e2, e3, e4]), rfl, fun h => absurd h (by omega), HST2.out, HBV.out⟩, by simp [intOf]; omega⟩
        · have HST2 : Hid (ordS N a 0 js = min out (ordS N (j + 1) (tk + y + fx) (js.drop (k + 1)))) := Lib.hid (by rw [HST.out]; omega)
          go_wp2_with fail
          exact ⟨⟨k + 1, j + 1, (tk + y + fx), out, by omega, hqd, HT3.out, HOU.out, (by first | rfl | (rw [e3]; done) | (rw [e3, e4]; done) | simp [e2, e3, e4]), rfl, (by first | rfl | (rw [e3]; done) | (rw [e3, e4]; done) | simp [e2, e3, e4]), rfl, fun h => absurd h (by omega), HST2.out, HBV.out⟩, by simp [intOf]; omega⟩
    · obtain rfl : n = k := by omega
      have k4 : ¬ (n : Int) < (n : Int) := by omega
      have HST2 : Hid (ordS N a 0 js = out) := Lib.hid (by
        have h := HEQ.out
        rw [List.drop_of_length_le (by rw [HL.out]; exact Nat.le_refl _)] at h
        have h2 : ordS N ak tk [] = N.fr.length := rfl
        have h3 := HZF.out
        have h4 := HK.out.h72
        rw [h2] at h
        omega)
      clear hbr
      go_wp2_with fail
      go_ret
      exact ⟨by rw [HST2.out]; rfl, HB.out.trans (HBR.out.mono HB.out.size)⟩
end Go.Proofs.Yticmeeinjkoodaa
