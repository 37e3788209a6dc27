/- Pipes: the law PipeTrue. -/
import Derived.Test.YticmeeinjkoodaaRU
namespace Go.Proofs.Yticmeeinjkoodaa
open Go.RowKit Go.Shelf

theorem truL_at {l : Lp} {fr : List (Int × Int)} {wh : List Int} {H k : Nat} {t : Th} (h : (truL l fr wh H)[k]? = some t) : k < H ∧ t = tr1 l fr wh k := by
  unfold truL at h
  have hk := (List.getElem?_eq_some_iff.1 h).1
  rw [List.length_map, List.length_range] at hk
  rw [List.getElem?_map, List.getElem?_range hk] at h
  exact ⟨hk, by injection h with h; exact h.symm⟩
theorem truL_len (l : Lp) (fr : List (Int × Int)) (wh : List Int) (H : Nat) : (truL l fr wh H).length = H := by simp [truL]
theorem truL_ok {N : Nt} (K : NtOk N) {l : Lp} (hl : l ∈ N.lo) {wh : List Int} {n : Nat} (hn : 1 ≤ n ∧ n ≤ 200) (hlen : wh.length = n) (hp : ∀ p ∈ wh, 0 ≤ p ∧ p ≤ 100) {H : Nat} (hH : H ≤ N.fr.length) : thsB l N.fr (truL l N.fr wh H) = true := by
  refine thsB_iff.2 fun k t hk => ?_
  obtain ⟨hkH, rfl⟩ := truL_at hk
  obtain ⟨f, hf⟩ := get_of_lt (l := N.fr) (k := k) (by omega)
  have hg : ∀ i, 0 ≤ wh.getD (i % wh.length) 0 ∧ wh.getD (i % wh.length) 0 ≤ 100 := fun i => by
    obtain ⟨p, hpp⟩ := get_of_lt (l := wh) (k := i % wh.length) (Nat.mod_lt _ (by omega))
    rw [List.getD_eq_getElem?_getD, hpp]
    exact hp p (List.mem_of_getElem? hpp)
  have KL := (K.lo l hl).l
  have KF := K.fr f (List.mem_of_getElem? hf)
  have h1 := part_in (s := (l.ll, l.lh)) KL.2.1 (hg (2 * k + 1))
  have h2 := part_in (s := f) KF.2.1 (hg (2 * k + 2))
  have hd : N.fr.getD k (0, 0) = f := by rw [List.getD_eq_getElem?_getD, hf]; rfl
  unfold thOkB tr1
  rw [hd, Bool.and_eq_true, inB_iff, inB_iff]
  exact ⟨h1, h2⟩
theorem wK_le {N : Nt} (K : NtOk N) {l : Lp} (hl : l ∈ N.lo) (i : Nat) (k : Nat) : ∀ d, k + d ≤ N.fr.length → wK l false N.fr i (k + d) ≤ wK l false N.fr i k
  | 0, _ => Int.le_refl _
  | d + 1, hd => by
    have ih := wK_le K hl i k d (by omega)
    obtain ⟨f, hf⟩ := get_of_lt (l := N.fr) (k := k + d) (by omega)
    have h0 := wK_in K hl false i (k + d) (by omega)
    have hc := cool_in (K.lo l hl) (x := wK l false N.fr i (k + d)) (by omega) (th_any K hl false i (List.mem_of_getElem? hf))
    have e : wK l false N.fr i (k + (d + 1)) = coolI l (wK l false N.fr i (k + d)) (sel i (leakI false l)) (sel i f) := by
      show coolI l (wK l false N.fr i (k + d)) (sel i (leakI false l)) (sel i (N.fr.getD (k + d) (0, 0))) = _
      rw [List.getD_eq_getElem?_getD, hf]
      rfl
    rw [e]
    omega
theorem firstZ_hit {xs : List Int} {k : Nat} (h : xs[k]? = some 0) : 1 ≤ firstZ xs ∧ firstZ xs ≤ (k : Int) + 1 := by
  unfold firstZ
  cases hq : xs.findIdx? (fun x => decide (x = 0)) with
  | none =>
    rw [List.findIdx?_eq_none_iff] at hq
    have := hq 0 (List.mem_of_getElem? h)
    simp at this
  | some i =>
    obtain ⟨hi, _, hj⟩ := List.findIdx?_eq_some_iff_getElem.1 hq
    by_cases hik : i ≤ k
    · simp only
      omega
    · obtain ⟨hk, hx⟩ := List.getElem?_eq_some_iff.1 h
      have := hj k (by omega)
      simp [hx] at this
theorem firstZ_val {xs : List Int} (h : 0 ≤ firstZ xs) : ∃ k : Nat, firstZ xs = (k : Int) + 1 ∧ xs[k]? = some 0 := by
  unfold firstZ at h ⊢
  cases hq : xs.findIdx? (fun x => decide (x = 0)) with
  | none => rw [hq] at h; simp at h
  | some i =>
    obtain ⟨hi, hx, _⟩ := List.findIdx?_eq_some_iff_getElem.1 hq
    exact ⟨i, rfl, by rw [List.getElem?_eq_getElem hi]; simpa using hx⟩
theorem true_math {N : Nt} (K : NtOk N) {l : Lp} (hl : l ∈ N.lo) {H : Nat} (h1 : 1 ≤ H) (hH : H ≤ N.fr.length) {x : Int} (hx : l.wl ≤ x ∧ x ≤ l.wh) {wh : List Int} {n : Nat} (hn : 1 ≤ n ∧ n ≤ 200) (hlen : wh.length = n) (hp : ∀ p ∈ wh, 0 ≤ p ∧ p ≤ 100) :
    wK l false N.fr 0 H ≤ (playI l x (truL l N.fr wh H)).w ∧ (playI l x (truL l N.fr wh H)).w ≤ wK l false N.fr 1 H ∧ 0 ≤ (playI l x (truL l N.fr wh H)).w ∧ ((playI l x (truL l N.fr wh H)).w = 0 → 1 ≤ frzI l false N.fr 0 ∧ frzI l false N.fr 0 ≤ H) ∧ (0 ≤ frzI l false N.fr 1 → frzI l false N.fr 1 ≤ H → (playI l x (truL l N.fr wh H)).w = 0) := by
  have hfed : ∀ t ∈ truL l N.fr wh H, t.fed = false := fun t ht => by
    obtain ⟨k, hk⟩ := List.getElem?_of_mem ht
    rw [(truL_at hk).2]
    rfl
  have hb := true_play K hl hx (truL_ok K hl hn hlen hp hH) hfed H (by rw [truL_len]; exact Nat.le_refl _) hH
  rw [List.take_of_length_le (by rw [truL_len]; exact Nat.le_refl _)] at hb
  have w0 := wK_in K hl false 0 H hH
  have w1 := wK_in K hl false 1 H hH
  refine ⟨hb.1, hb.2, by omega, fun h0 => ?_, fun f0 fH => ?_⟩
  · have hz : (endL l false N.fr 0)[H - 1]? = some 0 := by
      rw [endL_at (by omega), show H - 1 + 1 = H by omega]
      congr 1
      omega
    have := firstZ_hit hz
    unfold frzI
    omega
  · obtain ⟨k, e1, e2⟩ := firstZ_val (xs := endL l false N.fr 1) f0
    have e3 : frzI l false N.fr 1 = (k : Int) + 1 := e1
    have hk : k < N.fr.length := by
      have := (List.getElem?_eq_some_iff.1 e2).1
      rwa [endL_len] at this
    rw [endL_at hk] at e2
    injection e2 with e2
    have h := wK_le K hl 1 (k + 1) (H - (k + 1)) (by omega)
    rw [show k + 1 + (H - (k + 1)) = H by omega, e2] at h
    omega
def tyCv (Z L H : Nat) (al ad : Addr) (nl cl n c : Nat) (nv : Value) (a b p x : Int) (S : Ht) (g : Nat × Value) : Tmp → Value
  | 1 => .int .i64 L
  | 2 => .int .i64 H
  | 3 => .slice (some ad) n c
  | 4 => .pointer (some ⟨Z, 0, none⟩)
  | 61 => nv
  | 62 => .int .i64 L
  | 63 => .pointer (some ⟨Z, 0, none⟩)
  | 64 => .slice (some al) nl cl
  | 65 => .int .i64 L
  | 66 => .pointer (some ⟨al.block, al.off + L * 12, none⟩)
  | 67 => .pointer (some ⟨al.block, al.off + L * 12, none⟩)
  | 68 => .agg #[.int .i64 a, .int .i64 b]
  | 69 => .slice (some ad) n c
  | 70 => .pointer (some ⟨ad.block, ad.off, none⟩)
  | 71 => .int .i64 p
  | 72 => .int .i64 x
  | 73 => nv
  | 74 => .int .i64 L
  | 75 => .int .i64 H
  | 76 => .slice (some ad) n c
  | 77 => g.2
  | 78 => .tuple #[htV S, .int .i64 0]
  | 60 => .tuple #[htV S, .int .i64 0]
  | 79 => htV S
  | 80 => .int .i64 0
  | 14 => .pointer (some ⟨g.1, 0, none⟩)
  | 15 => .int .i64 0
  | _ => default
set_option maxRecDepth 100000 in
set_option maxHeartbeats 16000000 in
theorem true_law (V : NV) (N : Nt) (loop hours : Int) (A : Option Addr) (n c : Nat) (wh : List Int) (w : World) (hN : NtAt w w.heap.size V N) (hl : wh.length = n) (hn : n ≤ maxLen) (hA : IntsAt w w.heap.size A wh) :
    Calls Try.prog 6 #[nvV V, .int .i64 loop, .int .i64 hours, .slice A n c] w fun e w' => e = .returned (.bool true) ∧ Below w.heap.size w w' := by
  have HA1 := Lib.hid (RowAt.up hA ((Below.refl w.heap.size w).alloc (Nat.le_refl _) (.cells (nvC V) 26))); have HL := Lib.hid hl; have HNN := Lib.hid hn
  have z := heap_alloc_new w (.cells (nvC V) 26)
  have hb := (Below.refl w.heap.size w).alloc (Nat.le_refl _) (.cells (nvC V) 26)
  obtain ⟨w1, hw1⟩ : ∃ z, w.alloc (.cells (nvC V) 26) = z := ⟨_, rfl⟩
  rw [hw1] at z hb
  have HW := Lib.hid hw1
  have HN := Lib.hid (hN.up hb)
  obtain ⟨al, nl, cl, af, nf, cf, aw, nw, cw⟩ := V
  obtain ⟨v0, v1, v2⟩ := box3_cells z
  have hml := hN.ml; have hmf := hN.mf; have hmw := hN.mw
  unfold maxLen at hml hmf hmw
  simp only at hml hmf hmw v0 v1 v2
  have HB := Lib.hid hb; have Z := Lib.hid z
  have HNL := Lib.hid hN.nl; have HNF := Lib.hid hN.nf; have HNW := Lib.hid hN.nw
  clear z hb hw1 hN
  have HZ1 := Z; have HB1 := HB; have HN1 := HN
  clear Z HB HN
  unfold maxLen at hn
  clear hA hl
  rw [show w.alloc (.cells (nvC ⟨al, nl, cl, af, nf, cf, aw, nw, cw⟩) 26) = w1 from HW.out] at HA1
  go_enter Try.func6, Try.ntmps6
  go_wp2_with fail
  rw [show w.alloc (.cells #[.slice al nl cl, .slice af nf cf, .slice aw nw cw] 26) = w1 from HW.out]
  refine (short_any _ N _ HN1.out).mono ?_
  rintro e w2 ⟨rfl, hb⟩
  have HZ2 := Lib.hid ((hb.block _ (heapsz HZ1.out)).trans HZ1.out)
  have HB2 := Lib.hid (HB1.out.trans (hb.mono HB1.out.size))
  have HN2 := Lib.hid (HN1.out.up hb)
  have HA2 := Lib.hid (RowAt.up HA1.out hb)
  clear hb
  clear v0 v1 v2
  obtain ⟨v0, v1, v2⟩ := box3_cells HZ2.out
  cases hsh : shortB N
  · clear v0 v1 v2 hsh
    go_wp2_with fail
    refine (known_any _).mono ?_
    rintro e wk ⟨rfl, hbk⟩
    have HBK := Lib.hid (HB2.out.trans (hbk.mono HB2.out.size))
    clear hbk
    go_wp2_with fail
    go_ret
    exact ⟨rfl, HBK.out⟩
  have h8 : nl ≤ 8 := by
    unfold shortB at hsh
    simp only [Bool.and_eq_true, decide_eq_true_eq] at hsh
    have := hsh.2.1
    have h1 := HNL.out
    first | omega | (simp only at h1; omega)
  clear hsh
  go_wp2_with fail
  refine (rnet_any _ N _ HN2.out (by simp only; omega)).mono ?_
  rintro e w3 ⟨rfl, hb⟩
  have HZ3 := Lib.hid ((hb.block _ (heapsz HZ2.out)).trans HZ2.out)
  have HB3 := Lib.hid (HB2.out.trans (hb.mono HB2.out.size))
  have HN3 := Lib.hid (HN2.out.up hb)
  have HA3 := Lib.hid (RowAt.up HA2.out hb)
  clear hb
  clear v0 v1 v2
  obtain ⟨v0, v1, v2⟩ := box3_cells HZ3.out
  cases hnt : ntB N
  · clear v0 v1 v2 hnt
    go_wp2_with fail
    refine (known_any _).mono ?_
    rintro e wk ⟨rfl, hbk⟩
    have HBK := Lib.hid (HB3.out.trans (hbk.mono HB3.out.size))
    clear hbk
    go_wp2_with fail
    go_ret
    exact ⟨rfl, HBK.out⟩
  have HOK := Lib.hid (ntB_iff.1 hnt)
  have HNT := Lib.hid hnt
  clear hnt
  go_wp2_with fail
  refine (risLoop_any _ N loop _ HN3.out).mono ?_
  rintro e w4 ⟨rfl, hb⟩
  have HZ4 := Lib.hid ((hb.block _ (heapsz HZ3.out)).trans HZ3.out)
  have HB4 := Lib.hid (HB3.out.trans (hb.mono HB3.out.size))
  have HN4 := Lib.hid (HN3.out.up hb)
  have HA4 := Lib.hid (RowAt.up HA3.out hb)
  clear hb
  clear v0 v1 v2
  obtain ⟨v0, v1, v2⟩ := box3_cells HZ4.out
  cases hil : inB 0 loop (N.lo.length - 1)
  · clear v0 v1 v2 hil
    go_wp2_with fail
    refine (known_any _).mono ?_
    rintro e wk ⟨rfl, hbk⟩
    have HBK := Lib.hid (HB4.out.trans (hbk.mono HB4.out.size))
    clear hbk
    go_wp2_with fail
    go_ret
    exact ⟨rfl, HBK.out⟩
  have hlb : loopB N loop = true := by unfold loopB; rw [ntB_iff.2 HOK.out, hil]; rfl
  obtain ⟨L, rfl, hL1, hL2⟩ := loopB_get hlb
  obtain ⟨l, hll⟩ : ∃ z, N.at (L : Int) = z := ⟨_, rfl⟩
  rw [hll] at hL2
  have HL2 := Lib.hid hL2
  have HLB := Lib.hid hlb
  have HAT := Lib.hid hll
  clear hlb hil hL1
  by_cases hh1 : hours < 1
  · go_wp2_with fail
    refine (known_any _).mono ?_
    rintro e wk ⟨rfl, hbk⟩
    have HBK := Lib.hid (HB4.out.trans (hbk.mono HB4.out.size))
    clear hbk
    go_wp2_with fail
    go_ret
    exact ⟨rfl, HBK.out⟩
  by_cases hh2 : (nf : Int) < hours
  · go_wp2_with fail
    refine (known_any _).mono ?_
    rintro e wk ⟨rfl, hbk⟩
    have HBK := Lib.hid (HB4.out.trans (hbk.mono HB4.out.size))
    clear hbk
    go_wp2_with fail
    go_ret
    exact ⟨rfl, HBK.out⟩
  go_wp2_with fail
  refine (percents_any wh _ n c _ HL.out HNN.out HA4.out).mono ?_
  rintro e w5 ⟨rfl, hb⟩
  have HZ5 := Lib.hid ((hb.block _ (heapsz HZ4.out)).trans HZ4.out)
  have HB5 := Lib.hid (HB4.out.trans (hb.mono HB4.out.size))
  have HN5 := Lib.hid (HN4.out.up hb)
  have HA5 := Lib.hid (RowAt.up HA4.out hb)
  clear hb
  clear v0 v1 v2
  obtain ⟨v0, v1, v2⟩ := box3_cells HZ5.out
  cases hpc : pctB wh
  · clear v0 v1 v2 hpc
    go_wp2_with fail
    refine (known_any _).mono ?_
    rintro e wk ⟨rfl, hbk⟩
    have HBK := Lib.hid (HB5.out.trans (hbk.mono HB5.out.size))
    clear hbk
    go_wp2_with fail
    go_ret
    exact ⟨rfl, HBK.out⟩
  have HPC : Hid ((1 ≤ n ∧ n ≤ 200) ∧ ∀ p ∈ wh, 0 ≤ p ∧ p ≤ 100) := Lib.hid (by
    unfold pctB at hpc
    rw [Bool.and_eq_true, List.all_eq_true, decide_eq_true_eq, HL.out] at hpc
    refine ⟨hpc.2, fun p hp => ?_⟩
    have := hpc.1 p hp
    unfold pct1 at this
    exact of_decide_eq_true this)
  clear hpc
  obtain ⟨H, rfl⟩ : ∃ p : Nat, hours = p := ⟨hours.toNat, by omega⟩
  have hH1 : 1 ≤ H := by omega
  have HHF : Hid (H ≤ N.fr.length) := Lib.hid (by have h1 := HNF.out; first | omega | (simp only at h1; omega))
  have hH72 : H ≤ 72 := by have h1 := HHF.out; have h2 := HOK.out.h72; omega
  clear hll hL2
  go_wp2_with fail
  refine (Warmth_any _ N _ HN5.out).mono ?_
  rintro e w6 ⟨hb, ⟨hf, _⟩ | ⟨_, lv, rows, w0, rfl, hg, _⟩⟩
  · rw [HNT.out] at hf
    cases hf
  have HZ6 := Lib.hid ((hb.block _ (heapsz HZ5.out)).trans HZ5.out)
  have HB6 := Lib.hid (HB5.out.trans (hb.mono HB5.out.size))
  have HN6 := Lib.hid (HN5.out.up hb)
  have HA6 := Lib.hid (RowAt.up HA5.out hb)
  clear hb
  clear v0 v1 v2
  obtain ⟨v0, v1, v2⟩ := box3_cells HZ6.out
  obtain ⟨A3, c3, rfl, hgr, hlc, _⟩ := hg.grid (k := 2) (fun _ => rfl) (fun row hr => by
    unfold warL at hr
    obtain ⟨q, hq, rfl⟩ := List.mem_map.1 hr
    have := HOK.out.h72
    rw [spansL_len]
    unfold maxLen
    omega)
  have hwl : (warL N N.lo.length).length = nl := by unfold warL; rw [List.length_map, List.take_length]; exact HNL.out
  have hrow : (warL N N.lo.length)[L]? = some (spansL l false N.fr) := by unfold warL; rw [List.take_length, List.getElem?_map, HL2.out]; rfl
  obtain ⟨gb, go, A', m, c', rfl, hgb, hm, hgc, hra, _⟩ := grid_row hgr hrow
  have hsp : (spansL l false N.fr)[H - 1]? = some (wK l false N.fr 0 H, wK l false N.fr 1 H) := by
    rw [spansL_at (by have := HHF.out; omega), show H - 1 + 1 = H by omega]
  obtain ⟨rb, ro, rfl, hrb, hr0, hr1⟩ := pr_el hra hsp
  rw [spansL_len] at hm
  rw [hwl] at hlc ⊢
  have hmf2 : m = nf := by rw [hm]; exact HNF.out
  subst hmf2
  obtain ⟨b1, o1, hal1, hb1, ⟨c0, c1⟩, _⟩ := lp_el HN6.out.lo HL2.out
  have hal2 : al = some ⟨b1, o1, none⟩ := hal1
  subst hal2
  have hLn : L < nl := by have h1 := HNL.out; have h2 := (List.getElem?_eq_some_iff.1 HL2.out).1; first | omega | (simp only at h1; omega)
  have L0 : (0 : Int) ≤ (L : Int) := by omega
  have L1 : (L : Int) < (nl : Int) := by omega
  have HF : Hid (∀ u : World, Below w6.heap.size w6 u → u.cell? ⟨w.heap.size, 0, none⟩ = some (.slice (some ⟨b1, o1, none⟩) nl cl) ∧ u.cell? ⟨w.heap.size, 1, none⟩ = some (.slice af m cf) ∧ u.cell? ⟨w.heap.size, 2, none⟩ = some (.slice aw nw cw) ∧ u.cell? ⟨b1, o1 + L * 12, none⟩ = some (.int .i64 l.wl) ∧ u.cell? ⟨b1, o1 + L * 12 + 1, none⟩ = some (.int .i64 l.wh)) := Lib.hid fun u hu => by
    obtain ⟨p0, p1, p2⟩ := box3_cells ((hu.block _ (heapsz HZ6.out)).trans HZ6.out)
    exact ⟨p0, p1, p2, ((bcell hu).1 _ _ hb1).trans c0, ((bcell hu).1 _ _ hb1).trans c1⟩
  have HG : Hid (∀ u : World, Below w6.heap.size w6 u → u.cell? ⟨gb, go + L, none⟩ = some (.slice (some ⟨rb, ro, none⟩) m c') ∧ u.cell? ⟨rb, ro + (H - 1) * 2, none⟩ = some (.int .i64 (wK l false N.fr 0 H)) ∧ u.cell? ⟨rb, ro + (H - 1) * 2 + 1, none⟩ = some (.int .i64 (wK l false N.fr 1 H))) := Lib.hid fun u hu =>
    ⟨((bcell hu).1 _ _ hgb).trans hgc, ((bcell hu).1 _ _ hrb).trans hr0, ((bcell hu).1 _ _ hrb).trans hr1⟩
  have HNU : Hid (∀ u : World, Below w6.heap.size w6 u → NtAt u u.heap.size ⟨some ⟨b1, o1, none⟩, nl, cl, af, m, cf, aw, nw, cw⟩ N) := Lib.hid fun u hu => HN6.out.next hu hu.size
  have HKL := Lib.hid (HOK.out.lo l (List.mem_of_getElem? HL2.out)).w
  have HBG6 := Lib.hid (Below.refl w6.heap.size w6)
  obtain ⟨p0, hp0⟩ := get_of_lt (l := wh) (k := 0) (by rw [HL.out]; exact HPC.out.1.1)
  obtain ⟨bA, oA, rfl, hbA, hA0⟩ := ints_el HA6.out hp0
  have HPP := Lib.hid (HPC.out.2 p0 (List.mem_of_getElem? hp0))
  have HAZ : Hid (∀ u : World, Below w6.heap.size w6 u → u.cell? ⟨bA, oA, none⟩ = some (.int .i64 p0)) := Lib.hid fun u hu => ((bcell hu).1 _ _ hbA).trans hA0
  have HAU : Hid (∀ u : World, Below w6.heap.size w6 u → IntsAt u u.heap.size (some ⟨bA, oA, none⟩) wh) := Lib.hid fun u hu => RowAt.next HA6.out hu hu.size
  have HXR := Lib.hid (part_in (s := (l.wl, l.wh)) (p := p0) (by have := HKL.out; omega) HPP.out)
  have HXC := Lib.hid (fun u : World => part_any (s := (l.wl, l.wh)) (p := p0) (by have := HKL.out; exact ⟨by omega, this.2.1, this.2.2⟩) HPP.out u)
  obtain ⟨x0, hx0⟩ : ∃ z, partI (l.wl, l.wh) p0 = z := ⟨_, rfl⟩
  rw [hx0] at HXR HXC
  have HTM := Lib.hid (true_math HOK.out (List.mem_of_getElem? HL2.out) hH1 HHF.out HXR.out HPC.out.1 HL.out HPC.out.2)
  obtain ⟨S1, hS1⟩ : ∃ z, playI l x0 (truL l N.fr wh H) = z := ⟨_, rfl⟩
  rw [hS1] at HTM
  have HS1 := Lib.hid hS1
  have HFA : Hid (frzA N L = frzI l false N.fr 0 ∧ frzB N L = frzI l false N.fr 1 ∧ loopI N L = 0) := Lib.hid (by
    unfold frzA frzB loopI
    rw [if_pos HLB.out, if_pos HLB.out, if_pos HLB.out, HAT.out]
    exact ⟨rfl, rfl, rfl⟩)
  obtain ⟨fa, hfa⟩ : ∃ z, frzI l false N.fr 0 = z := ⟨_, rfl⟩
  obtain ⟨fb, hfb⟩ : ∃ z, frzI l false N.fr 1 = z := ⟨_, rfl⟩
  obtain ⟨y0, hy0⟩ : ∃ z, wK l false N.fr 0 H = z := ⟨_, rfl⟩
  obtain ⟨y1, hy1⟩ : ∃ z, wK l false N.fr 1 H = z := ⟨_, rfl⟩
  rw [hfa, hfb] at HFA
  rw [hfa, hfb, hy0, hy1] at HTM
  rw [hy0, hy1] at HG
  clear hp0 hbA hA0 hx0 hfa hfb hy0 hy1
  clear hg hgr hlc hwl hrow hgb hm hgc hra hsp hrb hr0 hr1 hal1 hb1 c0 c1 hS1 v0 v1 v2
  obtain ⟨v0, v1, v2, _⟩ := HF.out w6 (Below.refl _ _)
  go_wp2_with fail
  refine (Freezes_any _ N L _ HN6.out).mono ?_
  rintro e w7 ⟨rfl, hb⟩
  have HZ7 := Lib.hid ((hb.block _ (heapsz HZ6.out)).trans HZ6.out)
  have HB7 := Lib.hid (HB6.out.trans (hb.mono HB6.out.size))
  have HN7 := Lib.hid (HN6.out.up hb)
  have HA7 := Lib.hid (RowAt.up HA6.out hb)
  have HBG7 := Lib.hid (HBG6.out.trans (hb.mono HBG6.out.size))
  clear hb
  clear v0 v1 v2
  rw [HFA.out.1, HFA.out.2.1, HFA.out.2.2]
  go_wp2_with fail
  have HPY : Hid (∀ (u : World) (v : Value), Below w7.heap.size w7 u → RowIs thR 54 w7.heap.size (truL l N.fr wh H) v u → Calls Try.prog 26 #[nvV ⟨some ⟨b1, o1, none⟩, nl, cl, af, m, cf, aw, nw, cw⟩, .int .i64 L, .int .i64 x0, v] u fun e w' => e = .returned (.tuple #[htV S1, .int .i64 0]) ∧ Below u.heap.size u w') := Lib.hid fun u v hu hr => by
    obtain ⟨A, cx, rfl, hA, _⟩ := hr.at_ (k := 3) (fun _ => rfl)
    have h := Play_any _ N L x0 A _ cx (truL l N.fr wh H) u (HNU.out u (HBG7.out.trans (hu.mono HBG7.out.size))) rfl (by rw [truL_len]; unfold maxLen; omega) hA
    have hE0 : truthI N L x0 (truL l N.fr wh H) = 0 := by
      unfold truthI
      rw [if_neg (by rw [truL_len]; have := HHF.out; omega), HLB.out, HAT.out, inB_iff.2 HXR.out, truL_ok HOK.out (List.mem_of_getElem? HL2.out) HPC.out.1 HL.out HPC.out.2 HHF.out]
      rfl
    have hX0 : plaI N L x0 (truL l N.fr wh H) = S1 := by unfold plaI; rw [if_pos hE0, HAT.out, HS1.out]
    rw [hX0, hE0] at h
    exact h
  have HND : Hid (∀ u : World, Below w7.heap.size w7 u → Calls Try.prog 32 #[nvV ⟨some ⟨b1, o1, none⟩, nl, cl, af, m, cf, aw, nw, cw⟩, .int .i64 L, .int .i64 H, .slice (some ⟨bA, oA, none⟩) n c] u fun e w' => ∃ v, e = .returned v ∧ Below u.heap.size u w' ∧ RowIs thR 54 w7.heap.size (truL l N.fr wh H) v w') := Lib.hid fun u hu =>
    (ltruth_any _ N H _ n c wh u (HNU.out u (HBG7.out.trans (hu.mono HBG7.out.size))) HOK.out HL2.out HHF.out HL.out HPC.out.1 HPC.out.2 (HAU.out u (HBG7.out.trans (hu.mono HBG7.out.size)))).mono fun e w' ⟨v, h1, h2, h3⟩ => ⟨v, h1, h2, h3.low hu.size⟩
  have hX : ∀ (v : Value) (A B : World), RowIs thR 54 w7.heap.size (truL l N.fr wh H) v A → Below A.heap.size A B → RowIs thR 54 w7.heap.size (truL l N.fr wh H) v B := fun v A B h hb => h.below hb
  have hn1 : (0 : Int) < (n : Int) := by have := HPC.out.1.1; omega
  have hnz : ¬ n = 0 := by have := HPC.out.1.1; omega
  refine wp_region_any (by kernel_rfl) (plan_guarded_any (γ := Nat × Value) [1, 2, 3, 4] (tyCv w.heap.size L H ⟨b1, o1, none⟩ ⟨bA, oA, none⟩ nl cl n c (nvV ⟨some ⟨b1, o1, none⟩, nl, cl, af, m, cf, aw, nw, cw⟩) l.wl l.wh p0 x0 S1) (fun done q w' => NewX w7 21 22 16 17 43 (htC z4) (htC S1) (fun v u => RowIs thR 54 w7.heap.size (truL l N.fr wh H) v u) done q w') (0, .int .i64 0) (by kernel_rfl) (by kernel_rfl) (by kernel_rfl) (by kernel_rfl) ?_ ?_ ?_ ?_)
  · intro t ht
    simp only [List.mem_cons, List.not_mem_nil, or_false] at ht
    rcases ht with rfl | rfl | rfl | rfl <;> rfl
  · exact ⟨⟨(Below.refl w7.heap.size w7).drew, fun h => by simp at h, fun h => by simp at h⟩, fun h => by simp at h, fun h => by simp at h⟩
  · refine allOps_array ?_
    refine ⟨?_, ?_, ?_, ?_, ?_, ?_, ?_, ?_, ?_, ?_, ?_, ?_, ?_, ?_, ?_, ?_, ?_, ?_, ?_, ?_, ?_, ?_, ?_, ?_, trivial⟩
    · intro done q u hS hu hdep _
      obtain ⟨p0', p1', p2', p3', p4'⟩ := HF.out u (HBG7.out.trans (hS.a.keep.mono HBG7.out.size))
      have z0' := HAZ.out u (HBG7.out.trans (hS.a.keep.mono HBG7.out.size))
      refine quietX hX hS 61 rfl (by decide) (by decide) (by decide) rfl ?_
      simp [go_sem, evalBy, tyCv, p0', p1', p2']
    · intro done q u hS hu hdep _
      obtain ⟨p0', p1', p2', p3', p4'⟩ := HF.out u (HBG7.out.trans (hS.a.keep.mono HBG7.out.size))
      have z0' := HAZ.out u (HBG7.out.trans (hS.a.keep.mono HBG7.out.size))
      refine quietX hX hS 62 rfl (by decide) (by decide) (by decide) rfl ?_
      simp [go_sem, evalBy, tyCv]
    · intro done q u hS hu hdep _
      obtain ⟨p0', p1', p2', p3', p4'⟩ := HF.out u (HBG7.out.trans (hS.a.keep.mono HBG7.out.size))
      have z0' := HAZ.out u (HBG7.out.trans (hS.a.keep.mono HBG7.out.size))
      refine quietX hX hS 63 rfl (by decide) (by decide) (by decide) rfl ?_
      simp [go_sem, evalBy, tyCv]
    · intro done q u hS hu hdep _
      obtain ⟨p0', p1', p2', p3', p4'⟩ := HF.out u (HBG7.out.trans (hS.a.keep.mono HBG7.out.size))
      have z0' := HAZ.out u (HBG7.out.trans (hS.a.keep.mono HBG7.out.size))
      refine quietX hX hS 64 rfl (by decide) (by decide) (by decide) rfl ?_
      simp [go_sem, evalBy, tyCv, p0']
    · intro done q u hS hu hdep _
      obtain ⟨p0', p1', p2', p3', p4'⟩ := HF.out u (HBG7.out.trans (hS.a.keep.mono HBG7.out.size))
      have z0' := HAZ.out u (HBG7.out.trans (hS.a.keep.mono HBG7.out.size))
      refine quietX hX hS 65 rfl (by decide) (by decide) (by decide) rfl ?_
      simp [go_sem, evalBy, tyCv]
    · intro done q u hS hu hdep _
      obtain ⟨p0', p1', p2', p3', p4'⟩ := HF.out u (HBG7.out.trans (hS.a.keep.mono HBG7.out.size))
      have z0' := HAZ.out u (HBG7.out.trans (hS.a.keep.mono HBG7.out.size))
      refine quietX hX hS 66 rfl (by decide) (by decide) (by decide) rfl ?_
      simp [go_sem, evalBy, tyCv, L0, L1]
    · intro done q u hS hu hdep _
      obtain ⟨p0', p1', p2', p3', p4'⟩ := HF.out u (HBG7.out.trans (hS.a.keep.mono HBG7.out.size))
      have z0' := HAZ.out u (HBG7.out.trans (hS.a.keep.mono HBG7.out.size))
      refine quietX hX hS 67 rfl (by decide) (by decide) (by decide) rfl ?_
      simp [go_sem, evalBy, tyCv]
    · intro done q u hS hu hdep _
      obtain ⟨p0', p1', p2', p3', p4'⟩ := HF.out u (HBG7.out.trans (hS.a.keep.mono HBG7.out.size))
      have z0' := HAZ.out u (HBG7.out.trans (hS.a.keep.mono HBG7.out.size))
      refine quietX hX hS 68 rfl (by decide) (by decide) (by decide) rfl ?_
      simp [go_sem, evalBy, tyCv, p3', p4']
    · intro done q u hS hu hdep _
      obtain ⟨p0', p1', p2', p3', p4'⟩ := HF.out u (HBG7.out.trans (hS.a.keep.mono HBG7.out.size))
      have z0' := HAZ.out u (HBG7.out.trans (hS.a.keep.mono HBG7.out.size))
      refine quietX hX hS 69 rfl (by decide) (by decide) (by decide) rfl ?_
      simp [go_sem, evalBy, tyCv]
    · intro done q u hS hu hdep _
      obtain ⟨p0', p1', p2', p3', p4'⟩ := HF.out u (HBG7.out.trans (hS.a.keep.mono HBG7.out.size))
      have z0' := HAZ.out u (HBG7.out.trans (hS.a.keep.mono HBG7.out.size))
      refine quietX hX hS 70 rfl (by decide) (by decide) (by decide) rfl ?_
      simp [go_sem, evalBy, tyCv, hnz]
    · intro done q u hS hu hdep _
      obtain ⟨p0', p1', p2', p3', p4'⟩ := HF.out u (HBG7.out.trans (hS.a.keep.mono HBG7.out.size))
      have z0' := HAZ.out u (HBG7.out.trans (hS.a.keep.mono HBG7.out.size))
      refine quietX hX hS 71 rfl (by decide) (by decide) (by decide) rfl ?_
      simp [go_sem, evalBy, tyCv, z0']
    · intro done q u hS hu hdep _
      exact callX hX hS 72 rfl (by decide) (by decide) (by decide) rfl 31 #[.agg #[.int .i64 l.wl, .int .i64 l.wh], .int .i64 p0] (by simp [go_sem, evalBy, tyCv]) (HXC.out u)
    · intro done q u hS hu hdep _
      obtain ⟨p0', p1', p2', p3', p4'⟩ := HF.out u (HBG7.out.trans (hS.a.keep.mono HBG7.out.size))
      have z0' := HAZ.out u (HBG7.out.trans (hS.a.keep.mono HBG7.out.size))
      refine quietX hX hS 73 rfl (by decide) (by decide) (by decide) rfl ?_
      simp [go_sem, evalBy, tyCv, p0', p1', p2']
    · intro done q u hS hu hdep _
      obtain ⟨p0', p1', p2', p3', p4'⟩ := HF.out u (HBG7.out.trans (hS.a.keep.mono HBG7.out.size))
      have z0' := HAZ.out u (HBG7.out.trans (hS.a.keep.mono HBG7.out.size))
      refine quietX hX hS 74 rfl (by decide) (by decide) (by decide) rfl ?_
      simp [go_sem, evalBy, tyCv]
    · intro done q u hS hu hdep _
      obtain ⟨p0', p1', p2', p3', p4'⟩ := HF.out u (HBG7.out.trans (hS.a.keep.mono HBG7.out.size))
      have z0' := HAZ.out u (HBG7.out.trans (hS.a.keep.mono HBG7.out.size))
      refine quietX hX hS 75 rfl (by decide) (by decide) (by decide) rfl ?_
      simp [go_sem, evalBy, tyCv]
    · intro done q u hS hu hdep _
      obtain ⟨p0', p1', p2', p3', p4'⟩ := HF.out u (HBG7.out.trans (hS.a.keep.mono HBG7.out.size))
      have z0' := HAZ.out u (HBG7.out.trans (hS.a.keep.mono HBG7.out.size))
      refine quietX hX hS 76 rfl (by decide) (by decide) (by decide) rfl ?_
      simp [go_sem, evalBy, tyCv]
    · intro done q u hS hu hdep _
      exact listX hS 77 rfl (by decide) (by decide) rfl 32 #[nvV ⟨some ⟨b1, o1, none⟩, nl, cl, af, m, cf, aw, nw, cw⟩, .int .i64 L, .int .i64 H, .slice (some ⟨bA, oA, none⟩) n c] (fun _ => rfl) (fun g' t ht => by unfold tyCv; split <;> first | rfl | exact absurd rfl ht) (by simp [go_sem, evalBy, tyCv]) (HND.out u hS.a.keep)
    · intro done q u hS hu hdep _
      have hsi : done 22 = false := by
        cases hq : done 22 with
        | false => rfl
        | true => rw [hS.os hq] at hu; cases hu
      exact callX hX hS 78 rfl (by decide) (by decide) (by decide) rfl 26 #[nvV ⟨some ⟨b1, o1, none⟩, nl, cl, af, m, cf, aw, nw, cw⟩, .int .i64 L, .int .i64 x0, q.2] (by simp [go_sem, evalBy, tyCv]) (HPY.out u q.2 hS.a.keep (hS.x (hdep ⟨16, .data⟩ (by simp) rfl) hsi))
    · intro done q u hS hu hdep _
      obtain ⟨p0', p1', p2', p3', p4'⟩ := HF.out u (HBG7.out.trans (hS.a.keep.mono HBG7.out.size))
      have z0' := HAZ.out u (HBG7.out.trans (hS.a.keep.mono HBG7.out.size))
      refine quietX hX hS 60 rfl (by decide) (by decide) (by decide) rfl ?_
      simp [go_sem, evalBy, tyCv]
    · intro done q u hS hu hdep _
      obtain ⟨p0', p1', p2', p3', p4'⟩ := HF.out u (HBG7.out.trans (hS.a.keep.mono HBG7.out.size))
      have z0' := HAZ.out u (HBG7.out.trans (hS.a.keep.mono HBG7.out.size))
      refine quietX hX hS 79 rfl (by decide) (by decide) (by decide) rfl ?_
      simp [go_sem, evalBy, tyCv]
    · intro done q u hS hu hdep _
      obtain ⟨p0', p1', p2', p3', p4'⟩ := HF.out u (HBG7.out.trans (hS.a.keep.mono HBG7.out.size))
      have z0' := HAZ.out u (HBG7.out.trans (hS.a.keep.mono HBG7.out.size))
      refine quietX hX hS 80 rfl (by decide) (by decide) (by decide) rfl ?_
      simp [go_sem, evalBy, tyCv]
    · intro done q u hS hu hdep _
      refine allocX hX hS 14 rfl hu (by decide) (by decide) rfl (fun _ => rfl) (fun g' t ht => by unfold tyCv; split <;> first | rfl | exact absurd rfl ht) (by simp [go_sem, z4])
    · intro done q u hS hu hdep _
      refine storeX hS rfl (hdep ⟨21, .data⟩ (by simp) rfl) (hdep ⟨17, .chain⟩ (by simp) rfl) hu rfl (fun hb => ?_)
      obtain ⟨w2, h1, h2, h3, _, h5⟩ := store4 hb (.int .i64 S1.w) (.int .i64 S1.b) (.int .i64 S1.g) (.int .i64 S1.s)
      exact ⟨w2, by rw [← h1]; exact exec_store_mid 43 _ _ rfl q.1 #[.int .i64 S1.w, .int .i64 S1.b, .int .i64 S1.g, .int .i64 S1.s] rfl (by simp [evalBy, tyCv]) h2 heat_info (one4 ⟨rfl, rfl, rfl, rfl⟩), h5, h3⟩
    · intro done q u hS hu hdep _
      obtain ⟨p0', p1', p2', p3', p4'⟩ := HF.out u (HBG7.out.trans (hS.a.keep.mono HBG7.out.size))
      have z0' := HAZ.out u (HBG7.out.trans (hS.a.keep.mono HBG7.out.size))
      refine quietX hX hS 15 rfl (by decide) (by decide) (by decide) rfl ?_
      simp [go_sem, evalBy, tyCv]
  · intro q w8 hS
    have hb := hS.a.keep
    obtain ⟨hq, zq⟩ := hS.a.box (by decide)
    rw [if_pos (by decide)] at zq
    obtain ⟨q, qv⟩ := q
    clear hS hX HPY HND
    have HZ8 := Lib.hid ((hb.block _ (heapsz HZ7.out)).trans HZ7.out)
    have HB8 := Lib.hid (HB7.out.trans (hb.mono HB7.out.size))
    have HN8 := Lib.hid (HN7.out.up hb)
    have HA8 := Lib.hid (RowAt.up HA7.out hb)
    have HBG8 := Lib.hid (HBG7.out.trans (hb.mono HBG7.out.size))
    have HQS18 := Lib.hid zq
    clear hb zq hq
    simp [putAll, Act.put, tyCv]
    go_wp2_with fail
    have hq0 := fun u : KeptW w8 => HF.out u.w (HBG8.out.trans (u.h.mono HBG8.out.size))
    have hq1 := fun u : KeptW w8 => HG.out u.w (HBG8.out.trans (u.h.mono HBG8.out.size))
    have p0' := fun u : KeptW w8 => (hq0 u).1
    have p1' := fun u : KeptW w8 => (hq0 u).2.1
    have r0 := fun u : KeptW w8 => (hq1 u).1
    refine rk_region (by kernel_rfl) (by kernel_rfl) ?_
    repeat (go_big_quiet_step (fail))
    refine wpQuiet_nil ?_
    rintro w9 ⟨⟨_, hbz⟩, rfl⟩
    clear p0' p1' r0 hq0 hq1
    have HZ9 := Lib.hid ((hbz.block _ (heapsz HZ8.out)).trans HZ8.out)
    have HB9 := Lib.hid (HB8.out.trans (hbz.mono HB8.out.size))
    have HN9 := Lib.hid (HN8.out.up hbz)
    have HA9 := Lib.hid (RowAt.up HA8.out hbz)
    have HBG9 := Lib.hid (HBG8.out.trans (hbz.mono HBG8.out.size))
    have HQS19 := Lib.hid ((hbz.block _ (heapsz HQS18.out)).trans HQS18.out)
    clear hbz
    obtain ⟨r0, r1, r2⟩ := HG.out w9 HBG9.out
    obtain ⟨⟨s0, _⟩, _⟩ := box4 HQS19.out
    have hqlt := heapsz HQS19.out
    have HBX := Lib.hid (HB9.out.alloc HB9.out.size (.cells #[.int .i64 y0, .int .i64 y1] 47))
    have hw1 : wrap64 ((H : Int) - 1) = ((H - 1 : Nat) : Int) := by rw [w64 (by omega)]; omega
    have hw2 : (0 : Int) ≤ ((H - 1 : Nat) : Int) := by omega
    have hw3 : ((H - 1 : Nat) : Int) < (m : Int) := by omega
    obtain ⟨W, hW⟩ : ∃ z, S1.w = z := ⟨_, rfl⟩
    have htm := HTM.out
    rw [hW] at htm s0
    obtain ⟨t1, t2, t3, t4, t5⟩ := htm
    clear hW
    by_cases hz : W = 0
    · obtain ⟨t6, t7⟩ := t4 hz
      subst hz
      clear t4 t5
      go_wp2_with fail
      all_goals
        refine (known_any _).mono ?_
        rintro e wk ⟨rfl, hbk⟩
        have HBK := Lib.hid (HBX.out.trans (hbk.mono HBX.out.size))
        clear hbk
        go_wp2_with fail
        go_ret
        exact ⟨rfl, HBK.out⟩
    · have t8 : 0 < W := by omega
      have t9 : fb < 0 ∨ (0 ≤ fb ∧ (H : Int) < fb) := by
        by_cases hf : 0 ≤ fb
        · exact .inr ⟨hf, by
            by_cases hh : fb ≤ H
            · exact absurd (t5 hf hh) hz
            · omega⟩
        · exact .inl (by omega)
      clear t4 t5
      rcases t9 with t9 | ⟨t9, t10⟩
      · go_wp2_with fail
        refine (known_any _).mono ?_
        rintro e wk ⟨rfl, hbk⟩
        have HBK := Lib.hid (HBX.out.trans (hbk.mono HBX.out.size))
        clear hbk
        go_wp2_with fail
        go_ret
        exact ⟨rfl, HBK.out⟩
      · have t11 : ¬ fb < 0 := by omega
        go_wp2_with fail
        refine (known_any _).mono ?_
        rintro e wk ⟨rfl, hbk⟩
        have HBK := Lib.hid (HBX.out.trans (hbk.mono HBX.out.size))
        clear hbk
        go_wp2_with fail
        go_ret
        exact ⟨rfl, HBK.out⟩
end Go.Proofs.Yticmeeinjkoodaa
