/- Pipes: the law PipeOrders. -/
import Derived.Test.YticmeeinjkoodaaSG
namespace Go.Proofs.Yticmeeinjkoodaa
open Go.RowKit Go.Shelf

theorem refused {N : Nt} {p f : Int} (h : ¬ (ntB N = true ∧ inB 0 p N.lo.length = true ∧ faultB N.lo.length f = true)) : orderE N p f = 2 ∧ orderS N p f = 0 ∧ orderL N p f = [] := by
  have e : faultsI N p [f] = 2 := by
    unfold faultsI
    rw [if_neg (by simp : ¬ 12 < [f].length), if_neg]
    intro q
    rw [Bool.and_eq_true, Bool.and_eq_true] at q
    exact h ⟨q.1, q.2.1, by simpa using q.2.2⟩
  unfold orderE orderS orderL
  rw [e]
  exact ⟨rfl, rfl, rfl⟩
/-- The order of a fault. -/
theorem told_best {N : Nt} {a s : Nat} (K : NtOk N) (ha : a ≤ N.lo.length) (hs : s < 2 ^ N.lo.length) {sl : Int} (hsl : slk N 0 s a 0 = sl) :
    (sl = -1 → orderE N a s = 5 ∧ orderS N a s = 0 ∧ orderL N a s = []) ∧ (sl ≠ -1 → orderE N a s = 0 ∧ orderS N a s = sl ∧ orderL N a s = (ordI N 0 sl s a 0).map fun k : Nat => (k : Int)) := by
  have h0 : faultsI N a [(s : Int)] = 0 := faults_zero.2 ⟨by simp, K, by omega, fun g hg => by
    rw [List.mem_singleton] at hg
    rw [hg]
    have hpow : (2 : Int) ^ N.lo.length = ((2 ^ N.lo.length : Nat) : Int) := by simp
    omega⟩
  unfold orderE orderS orderL
  rw [if_pos h0, if_pos h0, if_pos h0, Int.toNat_natCast, Int.toNat_natCast, hsl]
  refine ⟨fun h => ?_, fun h => ?_⟩
  · rw [if_pos h, if_pos h, if_pos h]
    exact ⟨rfl, rfl, rfl⟩
  · rw [if_neg h, if_neg h, if_neg h]
    exact ⟨rfl, rfl, rfl⟩
set_option maxRecDepth 100000 in
set_option maxHeartbeats 16000000 in
theorem orders_law (V : NV) (N : Nt) (p f : Int) (w : World) (hN : NtAt w w.heap.size V N) :
    Calls Try.prog 8 #[nvV V, .int .i64 p, .int .i64 f] w fun e w' => e = .returned (.bool true) ∧ Below w.heap.size w w' := by
  have z := heap_alloc_new w (.cells (nvC V) 26)
  have hb := (Below.refl w.heap.size w).alloc (Nat.le_refl _) (.cells (nvC V) 26)
  obtain ⟨w1, hw1⟩ : ∃ z, w.alloc (.cells (nvC V) 26) = z := ⟨_, rfl⟩
  rw [hw1] at z hb
  have HW := Lib.hid hw1
  have HN := Lib.hid (hN.up hb)
  obtain ⟨al, nl, cl, af, nf, cf, aw, nw, cw⟩ := V
  obtain ⟨v0, v1, v2⟩ := box3_cells z
  have hml := hN.ml; have hmf := hN.mf; have hmw := hN.mw
  unfold maxLen at hml hmf hmw
  simp only at hml hmf hmw v0 v1 v2
  have HB := Lib.hid hb; have Z := Lib.hid z
  have HNL := Lib.hid hN.nl; have HNF := Lib.hid hN.nf; have HNW := Lib.hid hN.nw
  clear z hb hw1 hN
  have HZ1 := Z; have HB1 := HB; have HN1 := HN
  clear Z HB HN
  go_enter Try.func8, Try.ntmps8
  go_wp2_with fail
  rw [show w.alloc (.cells #[.slice al nl cl, .slice af nf cf, .slice aw nw cw] 26) = w1 from HW.out]
  refine (short_any _ N _ HN1.out).mono ?_
  rintro e w2 ⟨rfl, hb⟩
  have HZ2 := Lib.hid ((hb.block _ (heapsz HZ1.out)).trans HZ1.out)
  have HB2 := Lib.hid (HB1.out.trans (hb.mono HB1.out.size))
  have HN2 := Lib.hid (HN1.out.up hb)
  clear hb
  clear v0 v1 v2
  obtain ⟨v0, v1, v2⟩ := box3_cells HZ2.out
  cases hsh : shortB N
  · clear v0 v1 v2 hsh
    go_wp2_with fail
    refine (known_any _).mono ?_
    rintro e wk ⟨rfl, hbk⟩
    have HBK := Lib.hid (HB2.out.trans (hbk.mono HB2.out.size))
    clear hbk
    go_wp2_with fail
    go_ret
    exact ⟨rfl, HBK.out⟩
  have h8 : nl ≤ 8 := by
    unfold shortB at hsh
    simp only [Bool.and_eq_true, decide_eq_true_eq] at hsh
    have := hsh.2.1
    have h1 := HNL.out
    first | omega | (simp only at h1; omega)
  clear hsh
  go_wp2_with fail
  refine (rnet_any _ N _ HN2.out (by simp only; omega)).mono ?_
  rintro e w3 ⟨rfl, hb⟩
  have HZ3 := Lib.hid ((hb.block _ (heapsz HZ2.out)).trans HZ2.out)
  have HB3 := Lib.hid (HB2.out.trans (hb.mono HB2.out.size))
  have HN3 := Lib.hid (HN2.out.up hb)
  clear hb
  clear v0 v1 v2
  obtain ⟨v0, v1, v2⟩ := box3_cells HZ3.out
  cases hnt : ntB N
  · have HNT := Lib.hid hnt
    have HRF := Lib.hid (refused (N := N) (p := p) (f := f) fun h => by rw [hnt] at h; cases h.1)
    clear hnt
    go_wp2_with fail
    refine (Order_any _ N p f _ HN3.out).mono ?_
    rintro e w4 ⟨v, rfl, hb, hro⟩
    have HZ4 := Lib.hid ((hb.block _ (heapsz HZ3.out)).trans HZ3.out)
    have HB4 := Lib.hid (HB3.out.trans (hb.mono HB3.out.size))
    have HN4 := Lib.hid (HN3.out.up hb)
    rw [HRF.out.1, HRF.out.2.1]
    rw [HRF.out.2.2] at hro
    obtain ⟨O, oc, rfl, _, _⟩ := hro.at_ (k := 1) (fun _ => rfl)
    clear hro
    rw [show ([] : List Int).length = 0 from rfl]
    clear hb
    clear v0 v1 v2
    obtain ⟨v0, v1, v2⟩ := box3_cells HZ4.out
    go_wp2_with fail
    refine (rnet_any _ N _ HN4.out (by simp only; omega)).mono ?_
    rintro e w5 ⟨rfl, hb⟩
    have HZ5 := Lib.hid ((hb.block _ (heapsz HZ4.out)).trans HZ4.out)
    have HB5 := Lib.hid (HB4.out.trans (hb.mono HB4.out.size))
    have HN5 := Lib.hid (HN4.out.up hb)
    clear hb
    clear v0 v1 v2
    obtain ⟨v0, v1, v2⟩ := box3_cells HZ5.out
    rw [HNT.out]
    go_wp2_with fail
    refine (known_any _).mono ?_
    rintro e wk ⟨rfl, hbk⟩
    have HBK := Lib.hid (HB5.out.trans (hbk.mono HB5.out.size))
    clear hbk
    go_wp2_with fail
    go_ret
    exact ⟨rfl, HBK.out⟩
  have HOK := Lib.hid (ntB_iff.1 hnt)
  have HNT := Lib.hid hnt
  by_cases h4 : (4 : Int) < (nl : Int)
  · clear hnt
    go_wp2_with fail
    refine (known_any _).mono ?_
    rintro e wk ⟨rfl, hbk⟩
    have HBK := Lib.hid (HB3.out.trans (hbk.mono HB3.out.size))
    clear hbk
    go_wp2_with fail
    go_ret
    exact ⟨rfl, HBK.out⟩
  cases hpl : inB 0 p N.lo.length
  · have HPL := Lib.hid hpl
    have HRF := Lib.hid (refused (N := N) (p := p) (f := f) fun h => by rw [hpl] at h; cases h.2.1)
    clear hnt hpl
    go_wp2_with fail
    refine (Order_any _ N p f _ HN3.out).mono ?_
    rintro e w4 ⟨v, rfl, hb, hro⟩
    have HZ4 := Lib.hid ((hb.block _ (heapsz HZ3.out)).trans HZ3.out)
    have HB4 := Lib.hid (HB3.out.trans (hb.mono HB3.out.size))
    have HN4 := Lib.hid (HN3.out.up hb)
    rw [HRF.out.1, HRF.out.2.1]
    rw [HRF.out.2.2] at hro
    obtain ⟨O, oc, rfl, _, _⟩ := hro.at_ (k := 1) (fun _ => rfl)
    clear hro
    rw [show ([] : List Int).length = 0 from rfl]
    clear hb
    clear v0 v1 v2
    obtain ⟨v0, v1, v2⟩ := box3_cells HZ4.out
    go_wp2_with fail
    refine (rnet_any _ N _ HN4.out (by simp only; omega)).mono ?_
    rintro e w5 ⟨rfl, hb⟩
    have HZ5 := Lib.hid ((hb.block _ (heapsz HZ4.out)).trans HZ4.out)
    have HB5 := Lib.hid (HB4.out.trans (hb.mono HB4.out.size))
    have HN5 := Lib.hid (HN4.out.up hb)
    clear hb
    clear v0 v1 v2
    obtain ⟨v0, v1, v2⟩ := box3_cells HZ5.out
    rw [HNT.out]
    go_wp2_with fail
    refine (rplace_any _ N p _ HN5.out).mono ?_
    rintro e w6 ⟨rfl, hb⟩
    have HZ6 := Lib.hid ((hb.block _ (heapsz HZ5.out)).trans HZ5.out)
    have HB6 := Lib.hid (HB5.out.trans (hb.mono HB5.out.size))
    have HN6 := Lib.hid (HN5.out.up hb)
    clear hb
    clear v0 v1 v2
    obtain ⟨v0, v1, v2⟩ := box3_cells HZ6.out
    rw [HPL.out]
    go_wp2_with fail
    refine (known_any _).mono ?_
    rintro e wk ⟨rfl, hbk⟩
    have HBK := Lib.hid (HB6.out.trans (hbk.mono HB6.out.size))
    clear hbk
    go_wp2_with fail
    go_ret
    exact ⟨rfl, HBK.out⟩
  have HPL := Lib.hid hpl
  cases hfb : faultB N.lo.length f
  · have HFB := Lib.hid hfb
    have HRF := Lib.hid (refused (N := N) (p := p) (f := f) fun h => by rw [hfb] at h; cases h.2.2)
    clear hnt hpl hfb
    go_wp2_with fail
    refine (Order_any _ N p f _ HN3.out).mono ?_
    rintro e w4 ⟨v, rfl, hb, hro⟩
    have HZ4 := Lib.hid ((hb.block _ (heapsz HZ3.out)).trans HZ3.out)
    have HB4 := Lib.hid (HB3.out.trans (hb.mono HB3.out.size))
    have HN4 := Lib.hid (HN3.out.up hb)
    rw [HRF.out.1, HRF.out.2.1]
    rw [HRF.out.2.2] at hro
    obtain ⟨O, oc, rfl, _, _⟩ := hro.at_ (k := 1) (fun _ => rfl)
    clear hro
    rw [show ([] : List Int).length = 0 from rfl]
    clear hb
    clear v0 v1 v2
    obtain ⟨v0, v1, v2⟩ := box3_cells HZ4.out
    go_wp2_with fail
    refine (rnet_any _ N _ HN4.out (by simp only; omega)).mono ?_
    rintro e w5 ⟨rfl, hb⟩
    have HZ5 := Lib.hid ((hb.block _ (heapsz HZ4.out)).trans HZ4.out)
    have HB5 := Lib.hid (HB4.out.trans (hb.mono HB4.out.size))
    have HN5 := Lib.hid (HN4.out.up hb)
    clear hb
    clear v0 v1 v2
    obtain ⟨v0, v1, v2⟩ := box3_cells HZ5.out
    rw [HNT.out]
    go_wp2_with fail
    refine (rplace_any _ N p _ HN5.out).mono ?_
    rintro e w6 ⟨rfl, hb⟩
    have HZ6 := Lib.hid ((hb.block _ (heapsz HZ5.out)).trans HZ5.out)
    have HB6 := Lib.hid (HB5.out.trans (hb.mono HB5.out.size))
    have HN6 := Lib.hid (HN5.out.up hb)
    clear hb
    clear v0 v1 v2
    obtain ⟨v0, v1, v2⟩ := box3_cells HZ6.out
    rw [HPL.out]
    go_wp2_with fail
    refine (rfault_any _ N f _ HN6.out HOK.out.n5.2).mono ?_
    rintro e w7 ⟨rfl, hb⟩
    have HZ7 := Lib.hid ((hb.block _ (heapsz HZ6.out)).trans HZ6.out)
    have HB7 := Lib.hid (HB6.out.trans (hb.mono HB6.out.size))
    have HN7 := Lib.hid (HN6.out.up hb)
    clear hb
    clear v0 v1 v2
    obtain ⟨v0, v1, v2⟩ := box3_cells HZ7.out
    rw [HFB.out]
    go_wp2_with fail
    refine (known_any _).mono ?_
    rintro e wk ⟨rfl, hbk⟩
    have HBK := Lib.hid (HB7.out.trans (hbk.mono HB7.out.size))
    clear hbk
    go_wp2_with fail
    go_ret
    exact ⟨rfl, HBK.out⟩
  have HFB := Lib.hid hfb
  have HFF : Hid (0 ≤ f ∧ f < 2 ^ N.lo.length) := Lib.hid (by
    unfold faultB at hfb
    rw [inB_iff] at hfb
    omega)
  have HPP := Lib.hid (inB_iff.1 hpl)
  obtain ⟨s, rfl⟩ : ∃ s : Nat, f = s := ⟨f.toNat, by have := HFF.out; omega⟩
  obtain ⟨a, rfl⟩ : ∃ a : Nat, p = a := ⟨p.toNat, by have := HPP.out; omega⟩
  have HS : Hid (s < 2 ^ N.lo.length) := Lib.hid (by
    have h1 := HFF.out
    have hpow : (2 : Int) ^ N.lo.length = ((2 ^ N.lo.length : Nat) : Int) := by simp
    omega)
  have HA : Hid (a ≤ N.lo.length) := Lib.hid (by have h1 := HPP.out; omega)
  obtain ⟨sl, hsl⟩ : ∃ z, slk N 0 s a 0 = z := ⟨_, rfl⟩
  have HSL := Lib.hid hsl
  have HTB := Lib.hid (told_best HOK.out HA.out HS.out hsl)
  have HL5 : Hid (sl ≠ -1 → ((ordI N 0 sl s a 0).map fun k : Nat => (k : Int)).length ≤ 5) := Lib.hid fun h => by
    have hs32 : s < 32 := Nat.lt_of_lt_of_le HS.out (Nat.pow_le_pow_right (show 0 < 2 by decide) HOK.out.n5.2)
    have hge := slk_ge N 0 s a 0
    have hle := slk_le (wayOk HOK.out) 0 s a (t := 0) (Int.le_refl _)
    rw [hsl] at hge hle
    have t1 := (ord_told (N := N) (e := sl) (by omega) hle s s a 0 (Nat.le_refl _) (by rw [hsl]; exact Int.le_refl _)).1
    rw [List.length_map, (ordV_bits _ _ hs32 t1).2.2]
    exact pil_len (s := (s : Int)) (k := 5)
  clear hnt hpl hfb hsl
  by_cases hs1 : sl = -1
  · have HT := Lib.hid (HTB.out.1 hs1)
    subst hs1
    go_wp2_with fail
    refine (Order_any _ N a s _ HN3.out).mono ?_
    rintro e w4 ⟨v, rfl, hb, hro⟩
    have HZ4 := Lib.hid ((hb.block _ (heapsz HZ3.out)).trans HZ3.out)
    have HB4 := Lib.hid (HB3.out.trans (hb.mono HB3.out.size))
    have HN4 := Lib.hid (HN3.out.up hb)
    rw [HT.out.1, HT.out.2.1]
    rw [HT.out.2.2] at hro
    obtain ⟨O, oc, rfl, _, _⟩ := hro.at_ (k := 1) (fun _ => rfl)
    clear hro
    rw [show ([] : List Int).length = 0 from rfl]
    clear hb
    clear v0 v1 v2
    obtain ⟨v0, v1, v2⟩ := box3_cells HZ4.out
    go_wp2_with fail
    refine (rnet_any _ N _ HN4.out (by simp only; omega)).mono ?_
    rintro e w5 ⟨rfl, hb⟩
    have HZ5 := Lib.hid ((hb.block _ (heapsz HZ4.out)).trans HZ4.out)
    have HB5 := Lib.hid (HB4.out.trans (hb.mono HB4.out.size))
    have HN5 := Lib.hid (HN4.out.up hb)
    clear hb
    clear v0 v1 v2
    obtain ⟨v0, v1, v2⟩ := box3_cells HZ5.out
    rw [HNT.out]
    go_wp2_with fail
    refine (rplace_any _ N _ _ HN5.out).mono ?_
    rintro e w6 ⟨rfl, hb⟩
    have HZ6 := Lib.hid ((hb.block _ (heapsz HZ5.out)).trans HZ5.out)
    have HB6 := Lib.hid (HB5.out.trans (hb.mono HB5.out.size))
    have HN6 := Lib.hid (HN5.out.up hb)
    clear hb
    clear v0 v1 v2
    obtain ⟨v0, v1, v2⟩ := box3_cells HZ6.out
    rw [HPL.out]
    go_wp2_with fail
    refine (rfault_any _ N _ _ HN6.out HOK.out.n5.2).mono ?_
    rintro e w7 ⟨rfl, hb⟩
    have HZ7 := Lib.hid ((hb.block _ (heapsz HZ6.out)).trans HZ6.out)
    have HB7 := Lib.hid (HB6.out.trans (hb.mono HB6.out.size))
    have HN7 := Lib.hid (HN6.out.up hb)
    clear hb
    clear v0 v1 v2
    obtain ⟨v0, v1, v2⟩ := box3_cells HZ7.out
    rw [HFB.out]
    go_wp2_with fail
    refine (rorder_any _ N _ HN7.out HOK.out HA.out HS.out HSL.out).mono ?_
    rintro e w8 ⟨v, rfl, hb, hrr⟩
    have HZ8 := Lib.hid ((hb.block _ (heapsz HZ7.out)).trans HZ7.out)
    have HB8 := Lib.hid (HB7.out.trans (hb.mono HB7.out.size))
    have HN8 := Lib.hid (HN7.out.up hb)
    rw [if_pos rfl] at hrr ⊢
    obtain ⟨X, xc, rfl, _, _⟩ := hrr.at_ (k := 1) (fun _ => rfl)
    clear hb hrr
    rw [show ([] : List Int).length = 0 from rfl, show decide ((-1 : Int) ≠ -1) = false from rfl]
    clear v0 v1 v2
    obtain ⟨v0, v1, v2⟩ := box3_cells HZ8.out
    go_wp2_with fail
    refine (known_any _).mono ?_
    rintro e wk ⟨rfl, hbk⟩
    have HBK := Lib.hid (HB8.out.trans (hbk.mono HB8.out.size))
    clear hbk
    go_wp2_with fail
    go_ret
    exact ⟨rfl, HBK.out⟩
  have HT := Lib.hid (HTB.out.2 hs1)
  have hl5 := HL5.out hs1
  obtain ⟨xs, hxs⟩ : ∃ z, ((ordI N 0 sl s a 0).map fun k : Nat => (k : Int)) = z := ⟨_, rfl⟩
  rw [hxs] at HT hl5
  have HXS := Lib.hid hxs
  obtain ⟨on, hon⟩ : ∃ z, xs.length = z := ⟨_, rfl⟩
  rw [hon] at hl5
  have HON := Lib.hid hon
  have HS1 := Lib.hid hs1
  clear hxs hon hs1
  go_wp2_with fail
  refine (Order_any _ N a s _ HN3.out).mono ?_
  rintro e w4 ⟨v, rfl, hb, hro⟩
  have HZ4 := Lib.hid ((hb.block _ (heapsz HZ3.out)).trans HZ3.out)
  have HB4 := Lib.hid (HB3.out.trans (hb.mono HB3.out.size))
  have HN4 := Lib.hid (HN3.out.up hb)
  rw [HT.out.1, HT.out.2.1]
  rw [HT.out.2.2] at hro
  obtain ⟨O, oc, rfl, hO, _⟩ := hro.at_ (k := 1) (fun _ => rfl)
  rw [HON.out]
  have HO4 := Lib.hid hO
  clear hro hO
  clear hb
  clear v0 v1 v2
  obtain ⟨v0, v1, v2⟩ := box3_cells HZ4.out
  go_wp2_with fail
  refine (rnet_any _ N _ HN4.out (by simp only; omega)).mono ?_
  rintro e w5 ⟨rfl, hb⟩
  have HZ5 := Lib.hid ((hb.block _ (heapsz HZ4.out)).trans HZ4.out)
  have HB5 := Lib.hid (HB4.out.trans (hb.mono HB4.out.size))
  have HN5 := Lib.hid (HN4.out.up hb)
  have HO5 := Lib.hid (RowAt.up HO4.out hb)
  clear hb
  clear v0 v1 v2
  obtain ⟨v0, v1, v2⟩ := box3_cells HZ5.out
  rw [HNT.out]
  go_wp2_with fail
  refine (rplace_any _ N _ _ HN5.out).mono ?_
  rintro e w6 ⟨rfl, hb⟩
  have HZ6 := Lib.hid ((hb.block _ (heapsz HZ5.out)).trans HZ5.out)
  have HB6 := Lib.hid (HB5.out.trans (hb.mono HB5.out.size))
  have HN6 := Lib.hid (HN5.out.up hb)
  have HO6 := Lib.hid (RowAt.up HO5.out hb)
  clear hb
  clear v0 v1 v2
  obtain ⟨v0, v1, v2⟩ := box3_cells HZ6.out
  rw [HPL.out]
  go_wp2_with fail
  refine (rfault_any _ N _ _ HN6.out HOK.out.n5.2).mono ?_
  rintro e w7 ⟨rfl, hb⟩
  have HZ7 := Lib.hid ((hb.block _ (heapsz HZ6.out)).trans HZ6.out)
  have HB7 := Lib.hid (HB6.out.trans (hb.mono HB6.out.size))
  have HN7 := Lib.hid (HN6.out.up hb)
  have HO7 := Lib.hid (RowAt.up HO6.out hb)
  clear hb
  clear v0 v1 v2
  obtain ⟨v0, v1, v2⟩ := box3_cells HZ7.out
  rw [HFB.out]
  go_wp2_with fail
  refine (rorder_any _ N _ HN7.out HOK.out HA.out HS.out HSL.out).mono ?_
  rintro e w8 ⟨v, rfl, hb, hrr⟩
  have HZ8 := Lib.hid ((hb.block _ (heapsz HZ7.out)).trans HZ7.out)
  have HB8 := Lib.hid (HB7.out.trans (hb.mono HB7.out.size))
  have HN8 := Lib.hid (HN7.out.up hb)
  have HO8 := Lib.hid (RowAt.up HO7.out hb)
  rw [if_neg HS1.out, HXS.out] at hrr
  rw [if_neg HS1.out, show decide (sl ≠ -1) = true from decide_eq_true HS1.out]
  obtain ⟨X, xc, rfl, hX, _⟩ := hrr.at_ (k := 1) (fun _ => rfl)
  rw [HON.out]
  have HX8 := Lib.hid hX
  clear hb hrr hX
  clear v0 v1 v2
  obtain ⟨v0, v1, v2⟩ := box3_cells HZ8.out
  go_wp2_with fail
  refine (Same_any _ HON.out (by unfold maxLen; omega) HO8.out HON.out (by unfold maxLen; omega) HX8.out).mono ?_
  rintro e w9 ⟨rfl, hb⟩
  have HZ9 := Lib.hid ((hb.block _ (heapsz HZ8.out)).trans HZ8.out)
  have HB9 := Lib.hid (HB8.out.trans (hb.mono HB8.out.size))
  have HN9 := Lib.hid (HN8.out.up hb)
  have HO9 := Lib.hid (RowAt.up HO8.out hb)
  have HX9 := Lib.hid (RowAt.up HX8.out hb)
  clear hb
  rw [show decide (xs = xs) = true from decide_eq_true rfl]
  clear v0 v1 v2
  obtain ⟨v0, v1, v2⟩ := box3_cells HZ9.out
  go_wp2_with fail
  refine (known_any _).mono ?_
  rintro e wk ⟨rfl, hbk⟩
  have HBK := Lib.hid (HB9.out.trans (hbk.mono HB9.out.size))
  clear hbk
  go_wp2_with fail
  go_ret
  exact ⟨rfl, HBK.out⟩
end Go.Proofs.Yticmeeinjkoodaa
