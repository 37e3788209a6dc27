/- Pipes: the law PipeBalance. -/
import Derived.Test.YticmeeinjkoodaaQD
namespace Go.Proofs.Yticmeeinjkoodaa
open Go.RowKit Go.Shelf

def bCv (Z L : Nat) (x : Int) (a : Nat) (sv sv2 nv : Value) (S : Ht) (q : Nat) : Tmp → Value
  | 1 => .int .i64 L
  | 2 => .int .i64 x
  | 3 => sv
  | 4 => .int .i64 a
  | 5 => .pointer (some ⟨Z, 0, none⟩)
  | 95 => nv
  | 96 => .int .i64 L
  | 97 => .int .i64 x
  | 98 => sv
  | 99 => .int .i64 a
  | 100 => sv2
  | 101 => .tuple #[htV S, .int .i64 0]
  | 94 => .tuple #[htV S, .int .i64 0]
  | 102 => htV S
  | 103 => .int .i64 0
  | 14 => .pointer (some ⟨q, 0, none⟩)
  | 15 => .int .i64 0
  | _ => undef
set_option maxRecDepth 100000 in
set_option maxHeartbeats 8000000 in
theorem balance_law (V : NV) (N : Nt) (loop x : Int) (A : Option Addr) (n c : Nat) (ts : List Th) (a : Int) (w : World) (hN : NtAt w w.heap.size V N) (hl : ts.length = n) (hn : n ≤ maxLen) (hnc : n ≤ c) (hA : ThsAt w w.heap.size A ts) :
    Calls Try.prog 5 #[nvV V, .int .i64 loop, .int .i64 x, .slice A n c, .int .i64 a] w fun e w' => e = .returned (.bool true) ∧ Below w.heap.size w w' := by
  have HA1 := Lib.hid (RowAt.up hA ((Below.refl w.heap.size w).alloc (Nat.le_refl _) (.cells (nvC V) 26))); have HLT := Lib.hid hl; have HNN := Lib.hid hn
  have z := heap_alloc_new w (.cells (nvC V) 26)
  have hb := (Below.refl w.heap.size w).alloc (Nat.le_refl _) (.cells (nvC V) 26)
  obtain ⟨w1, hw1⟩ : ∃ z, w.alloc (.cells (nvC V) 26) = z := ⟨_, rfl⟩
  rw [hw1] at z hb
  have HW := Lib.hid hw1
  have HN := Lib.hid (hN.up hb)
  obtain ⟨al, nl, cl, af, nf, cf, aw, nw, cw⟩ := V
  obtain ⟨v0, v1, v2⟩ := box3_cells z
  have hml := hN.ml; have hmf := hN.mf; have hmw := hN.mw
  unfold maxLen at hml hmf hmw
  simp only at hml hmf hmw v0 v1 v2
  have HB := Lib.hid hb; have Z := Lib.hid z
  have HNL := Lib.hid hN.nl; have HNF := Lib.hid hN.nf; have HNW := Lib.hid hN.nw
  clear z hb hw1 hN
  have HZ1 := Z; have HB1 := HB; have HN1 := HN
  clear Z HB HN
  unfold maxLen at hn
  clear hA hl
  rw [show w.alloc (.cells (nvC ⟨al, nl, cl, af, nf, cf, aw, nw, cw⟩) 26) = w1 from HW.out] at HA1
  go_enter Try.func5, Try.ntmps5
  go_wp2_with fail
  rw [show w.alloc (.cells #[.slice al nl cl, .slice af nf cf, .slice aw nw cw] 26) = w1 from HW.out]
  refine (short_any _ N _ HN1.out).mono ?_
  rintro e w2 ⟨rfl, hb⟩
  have HZ2 := Lib.hid ((hb.block _ (heapsz HZ1.out)).trans HZ1.out)
  have HB2 := Lib.hid (HB1.out.trans (hb.mono HB1.out.size))
  have HN2 := Lib.hid (HN1.out.up hb)
  have HA2 := Lib.hid (RowAt.up HA1.out hb)
  clear hb
  clear v0 v1 v2
  obtain ⟨v0, v1, v2⟩ := box3_cells HZ2.out
  cases hsh : shortB N
  · clear v0 v1 v2 hsh
    go_wp2_with fail
    refine (known_any _).mono ?_
    rintro e wk ⟨rfl, hbk⟩
    have HBK := Lib.hid (HB2.out.trans (hbk.mono HB2.out.size))
    clear hbk
    go_wp2_with fail
    go_ret
    exact ⟨rfl, HBK.out⟩
  have h8 : nl ≤ 8 := by
    unfold shortB at hsh
    simp only [Bool.and_eq_true, decide_eq_true_eq] at hsh
    have := hsh.2.1
    have h1 := HNL.out
    first | omega | (simp only at h1; omega)
  clear hsh
  by_cases hlong : (nf : Int) < (n : Int)
  · go_wp2_with fail
    refine (known_any _).mono ?_
    rintro e wk ⟨rfl, hbk⟩
    have HBK := Lib.hid (HB2.out.trans (hbk.mono HB2.out.size))
    clear hbk
    go_wp2_with fail
    go_ret
    exact ⟨rfl, HBK.out⟩
  go_wp2_with fail
  refine (rnet_any _ N _ HN2.out (by simp only; omega)).mono ?_
  rintro e w3 ⟨rfl, hb⟩
  have HZ3 := Lib.hid ((hb.block _ (heapsz HZ2.out)).trans HZ2.out)
  have HB3 := Lib.hid (HB2.out.trans (hb.mono HB2.out.size))
  have HN3 := Lib.hid (HN2.out.up hb)
  have HA3 := Lib.hid (RowAt.up HA2.out hb)
  clear hb
  clear v0 v1 v2
  obtain ⟨v0, v1, v2⟩ := box3_cells HZ3.out
  cases hnt : ntB N
  · clear v0 v1 v2 hnt
    go_wp2_with fail
    refine (known_any _).mono ?_
    rintro e wk ⟨rfl, hbk⟩
    have HBK := Lib.hid (HB3.out.trans (hbk.mono HB3.out.size))
    clear hbk
    go_wp2_with fail
    go_ret
    exact ⟨rfl, HBK.out⟩
  have HOK := Lib.hid (ntB_iff.1 hnt)
  clear hnt
  go_wp2_with fail
  refine (risLoop_any _ N loop _ HN3.out).mono ?_
  rintro e w4 ⟨rfl, hb⟩
  have HZ4 := Lib.hid ((hb.block _ (heapsz HZ3.out)).trans HZ3.out)
  have HB4 := Lib.hid (HB3.out.trans (hb.mono HB3.out.size))
  have HN4 := Lib.hid (HN3.out.up hb)
  have HA4 := Lib.hid (RowAt.up HA3.out hb)
  clear hb
  clear v0 v1 v2
  obtain ⟨v0, v1, v2⟩ := box3_cells HZ4.out
  cases hil : inB 0 loop (N.lo.length - 1)
  · clear v0 v1 v2 hil
    go_wp2_with fail
    refine (known_any _).mono ?_
    rintro e wk ⟨rfl, hbk⟩
    have HBK := Lib.hid (HB4.out.trans (hbk.mono HB4.out.size))
    clear hbk
    go_wp2_with fail
    go_ret
    exact ⟨rfl, HBK.out⟩
  have hlb : loopB N loop = true := by unfold loopB; rw [ntB_iff.2 HOK.out, hil]; rfl
  obtain ⟨L, rfl, hL1, hL2⟩ := loopB_get hlb
  obtain ⟨l, hll⟩ : ∃ z, N.at (L : Int) = z := ⟨_, rfl⟩
  rw [hll] at hL2
  have HLB := Lib.hid hlb; have HLA := Lib.hid hll; have HL2 := Lib.hid hL2
  obtain ⟨b1, o1, hal1, hb1, ⟨c0, c1⟩, _⟩ := lp_el HN4.out.lo hL2
  have hal2 : al = some ⟨b1, o1, none⟩ := hal1
  subst hal2
  have hLn : L < nl := by have h1 := HNL.out; first | omega | (simp only at h1; omega)
  have L0 : (0 : Int) ≤ (L : Int) := by omega
  have L1 : (L : Int) < (nl : Int) := by omega
  have HKL := Lib.hid (HOK.out.lo l (List.mem_of_getElem? hL2))
  clear hal1 hb1 hlb hll hil hL1 hL2
  by_cases hw1 : x < l.wl
  · go_wp2_with fail
    refine (known_any _).mono ?_
    rintro e wk ⟨rfl, hbk⟩
    have HBK := Lib.hid (HB4.out.trans (hbk.mono HB4.out.size))
    clear hbk
    go_wp2_with fail
    go_ret
    exact ⟨rfl, HBK.out⟩
  by_cases hw2 : l.wh < x
  · go_wp2_with fail
    refine (known_any _).mono ?_
    rintro e wk ⟨rfl, hbk⟩
    have HBK := Lib.hid (HB4.out.trans (hbk.mono HB4.out.size))
    clear hbk
    go_wp2_with fail
    go_ret
    exact ⟨rfl, HBK.out⟩
  have HWI : Hid (inB l.wl x l.wh = true) := Lib.hid (inB_iff.2 (by omega))
  have HWB : Hid (0 ≤ x ∧ x ≤ 1000) := Lib.hid (by have := HKL.out.w; omega)
  have HN72 : Hid (ts.length ≤ N.fr.length ∧ n ≤ 72) := Lib.hid (by have h1 := HNF.out; have h2 := HLT.out; have h3 := HOK.out.h72; first | omega | (simp only at h1; omega))
  have HRT := Lib.hid (rtruth_any _ N (c := c) w4 HN4.out HL2.out HLT.out (by have h1 := HNF.out; first | omega | (simp only at h1; omega)) HA4.out)
  go_wp2_with fail
  clear c0 c1
  refine (HRT.out).mono ?_
  rintro e w5 ⟨rfl, hb⟩
  have HZ5 := Lib.hid ((hb.block _ (heapsz HZ4.out)).trans HZ4.out)
  have HB5 := Lib.hid (HB4.out.trans (hb.mono HB4.out.size))
  have HN5 := Lib.hid (HN4.out.up hb)
  have HA5 := Lib.hid (RowAt.up HA4.out hb)
  clear hb
  clear v0 v1 v2
  obtain ⟨v0, v1, v2⟩ := box3_cells HZ5.out
  clear HRT
  cases hts : thsB l N.fr ts
  · clear v0 v1 v2 hts
    go_wp2_with fail
    refine (known_any _).mono ?_
    rintro e wk ⟨rfl, hbk⟩
    have HBK := Lib.hid (HB5.out.trans (hbk.mono HB5.out.size))
    clear hbk
    go_wp2_with fail
    go_ret
    exact ⟨rfl, HBK.out⟩
  have HTS := Lib.hid (ths_ok HOK.out (List.mem_of_getElem? HL2.out) hts HN72.out.1)
  have HTB := Lib.hid hts
  clear hts
  by_cases ha1 : a < 0
  · clear v0 v1 v2
    go_wp2_with fail
    refine (known_any _).mono ?_
    rintro e wk ⟨rfl, hbk⟩
    have HBK := Lib.hid (HB5.out.trans (hbk.mono HB5.out.size))
    clear hbk
    go_wp2_with fail
    go_ret
    exact ⟨rfl, HBK.out⟩
  by_cases ha2 : (n : Int) < a
  · clear v0 v1 v2
    go_wp2_with fail
    refine (known_any _).mono ?_
    rintro e wk ⟨rfl, hbk⟩
    have HBK := Lib.hid (HB5.out.trans (hbk.mono HB5.out.size))
    clear hbk
    go_wp2_with fail
    go_ret
    exact ⟨rfl, HBK.out⟩
  obtain ⟨at_, rfl⟩ : ∃ p : Nat, a = p := ⟨a.toNat, by omega⟩
  have hat : at_ ≤ n := by omega
  obtain ⟨b9, o9, hal9, hb9, ⟨c0, c1⟩, ⟨c2, c3⟩, ⟨c4, c5⟩, ⟨c6, c7, c8, c9⟩, c10, c11⟩ := lp_el HN5.out.lo HL2.out
  injection hal9 with hal9
  injection hal9 with hbe hoe
  subst hbe hoe
  have zl := heap_alloc_new w5 (.cells (lpC l) 49)
  have bl := (Below.refl w5.heap.size w5).alloc (Nat.le_refl _) (.cells (lpC l) 49)
  obtain ⟨w6, hwl⟩ : ∃ z, w5.alloc (.cells (lpC l) 49) = z := ⟨_, rfl⟩
  rw [hwl] at zl bl
  have HWl := Lib.hid hwl
  have HZ6 := Lib.hid ((bl.block _ (heapsz HZ5.out)).trans HZ5.out)
  have HB6 := Lib.hid (HB5.out.trans (bl.mono HB5.out.size))
  have HN6 := Lib.hid (HN5.out.up bl)
  have HA6 := Lib.hid (RowAt.up HA5.out bl)
  have HQl6 := Lib.hid zl
  clear hwl zl bl
  obtain ⟨u0, u1, u2⟩ := box3_cells HZ6.out
  rw [← HWl.out] at u0 u1 u2
  have HPY := Lib.hid (Play_any ⟨some ⟨b1, o1, none⟩, nl, cl, af, nf, cf, aw, nw, cw⟩ N L x A n c ts w6 HN6.out HLT.out HNN.out HA6.out)
  have hE0 : truthI N L x ts = 0 := by unfold truthI; rw [if_neg (by have := HN72.out.1; omega), HLB.out, HLA.out, HWI.out, HTB.out]; rfl
  have hX0 : plaI N L x ts = playI l x (ts.take n) := by unfold plaI; rw [if_pos hE0, HLA.out, ← HLT.out, List.take_length]
  rw [hX0, hE0] at HPY
  clear hE0 hX0 hb9
  go_wp2_with fail
  rw [show w5.alloc (.cells #[.int .i64 l.wl, .int .i64 l.wh, .int .i64 l.ll, .int .i64 l.lh, .int .i64 l.rl, .int .i64 l.rh, .int .i64 l.co, .int .i64 l.ma, .int .i64 l.gr, .int .i64 l.fe, .int .i64 l.fl, .int .i64 l.fh] 49) = w6 from HWl.out]
  clear u0 u1 u2 c0 c1 c2 c3 c4 c5 c6 c7 c8 c9 c10 c11
  clear v0 v1 v2
  refine (HPY.out).mono ?_
  rintro e w7 ⟨rfl, hb⟩
  have HZ7 := Lib.hid ((hb.block _ (heapsz HZ6.out)).trans HZ6.out)
  have HB7 := Lib.hid (HB6.out.trans (hb.mono HB6.out.size))
  have HN7 := Lib.hid (HN6.out.up hb)
  have HA7 := Lib.hid (RowAt.up HA6.out hb)
  have HQl7 := Lib.hid ((hb.block _ (heapsz HQl6.out)).trans HQl6.out)
  clear hb
  clear HPY
  obtain ⟨S, hS⟩ : ∃ z, playI l x (ts.take n) = z := ⟨_, rfl⟩
  have HS := Lib.hid hS
  rw [hS]
  clear hS
  have zs := heap_alloc_new w7 (.cells (htC S) 43)
  have bs := (Below.refl w7.heap.size w7).alloc (Nat.le_refl _) (.cells (htC S) 43)
  obtain ⟨w8, hws⟩ : ∃ z, w7.alloc (.cells (htC S) 43) = z := ⟨_, rfl⟩
  rw [hws] at zs bs
  have HWs := Lib.hid hws
  have HZ8 := Lib.hid ((bs.block _ (heapsz HZ7.out)).trans HZ7.out)
  have HB8 := Lib.hid (HB7.out.trans (bs.mono HB7.out.size))
  have HN8 := Lib.hid (HN7.out.up bs)
  have HA8 := Lib.hid (RowAt.up HA7.out bs)
  have HQl8 := Lib.hid ((bs.block _ (heapsz HQl7.out)).trans HQl7.out)
  have HQs8 := Lib.hid zs
  clear hws zs bs
  obtain ⟨u0, u1, u2⟩ := box3_cells HZ8.out
  rw [← HWs.out] at u0 u1 u2
  go_wp2_with fail
  rw [show w7.alloc (.cells #[.int .i64 S.w, .int .i64 S.b, .int .i64 S.g, .int .i64 S.s] 43) = w8 from HWs.out]
  clear u0 u1 u2
  have hq := fun u : World => fun (hu : Below w8.heap.size w8 u) => (hu.block _ (heapsz HZ8.out)).trans HZ8.out
  have HF : Hid (∀ u : World, Below w8.heap.size w8 u → u.cell? ⟨w.heap.size, 0, none⟩ = some (.slice (some ⟨b1, o1, none⟩) nl cl) ∧ u.cell? ⟨w.heap.size, 1, none⟩ = some (.slice af nf cf) ∧ u.cell? ⟨w.heap.size, 2, none⟩ = some (.slice aw nw cw)) := Lib.hid fun u hu => box3_cells (hq u hu)
  obtain ⟨S2, hS2⟩ : ∃ z, playI l x (ts.take at_) = z := ⟨_, rfl⟩
  have HS2 := Lib.hid hS2
  have HPY : Hid (∀ u : World, Below w8.heap.size w8 u → Calls Try.prog 26 #[nvV ⟨some ⟨b1, o1, none⟩, nl, cl, af, nf, cf, aw, nw, cw⟩, .int .i64 L, .int .i64 x, .slice A at_ c] u fun e w' => e = .returned (.tuple #[htV S2, .int .i64 0]) ∧ Below u.heap.size u w') := Lib.hid fun u hu => by
    have hlt : (ts.take at_).length = at_ := by rw [List.length_take, HLT.out]; omega
    have hE0 : truthI N L x (ts.take at_) = 0 := by
      unfold truthI
      have hb : thsB l N.fr (ts.take at_) = true := thsB_iff.2 fun k t hk => thsB_iff.1 HTB.out k t (by
        rw [List.getElem?_take] at hk
        split at hk
        · exact hk
        · cases hk)
      rw [if_neg (by rw [hlt]; have := HN72.out.1; have := HLT.out; omega), HLB.out, HLA.out, HWI.out, hb]; rfl
    have hX0 : plaI N L x (ts.take at_) = S2 := by unfold plaI; rw [if_pos hE0, HLA.out, hS2]
    have h := Play_any ⟨some ⟨b1, o1, none⟩, nl, cl, af, nf, cf, aw, nw, cw⟩ N L x A at_ c (ts.take at_) u (HN8.out.next hu hu.size) hlt (by unfold maxLen; omega) (by
      refine RowAt.next (xs := ts.take at_) (fun hne => ?_) hu hu.size
      obtain ⟨b, o, e1, e2, e3⟩ := HA8.out (fun e => hne (by rw [e]; simp))
      exact ⟨b, o, e1, e2, fun i y hi => e3 i y (by
        rw [List.getElem?_take] at hi
        split at hi
        · exact hi
        · cases hi)⟩)
    rw [hX0, hE0] at h
    exact h
  clear hq hS2
  refine wp_region_any (by kernel_rfl) (plan_guarded_any (γ := Nat) [1, 2, 3, 4, 5] (bCv w.heap.size L x at_ (.slice A n c) (.slice A at_ c) (nvV ⟨some ⟨b1, o1, none⟩, nl, cl, af, nf, cf, aw, nw, cw⟩) S2) (fun done q w' => NewA w8 10 11 43 (htC z4) (htC S2) done q w') 0 (by kernel_rfl) (by kernel_rfl) (by kernel_rfl) (by kernel_rfl) ?_ ?_ ?_ ?_)
  · intro t ht
    simp only [List.mem_cons, List.not_mem_nil, or_false] at ht
    rcases ht with rfl | rfl | rfl | rfl | rfl <;> rfl
  · exact ⟨(Below.refl w8.heap.size w8).drew, fun h => by simp at h, fun h => by simp at h⟩
  · refine allOps_array ?_
    refine ⟨?_, ?_, ?_, ?_, ?_, ?_, ?_, ?_, ?_, ?_, ?_, ?_, ?_, trivial⟩
    · intro done q u hS hu hdep _
      obtain ⟨p0, p1, p2⟩ := HF.out u hS.keep
      refine quietN hS 95 rfl (by decide) (by decide) rfl ?_
      simp [go_sem, evalBy, bCv, p0, p1, p2]
    · intro done q u hS hu hdep _
      obtain ⟨p0, p1, p2⟩ := HF.out u hS.keep
      refine quietN hS 96 rfl (by decide) (by decide) rfl ?_
      simp [go_sem, evalBy, bCv]
    · intro done q u hS hu hdep _
      obtain ⟨p0, p1, p2⟩ := HF.out u hS.keep
      refine quietN hS 97 rfl (by decide) (by decide) rfl ?_
      simp [go_sem, evalBy, bCv]
    · intro done q u hS hu hdep _
      obtain ⟨p0, p1, p2⟩ := HF.out u hS.keep
      refine quietN hS 98 rfl (by decide) (by decide) rfl ?_
      simp [go_sem, evalBy, bCv]
    · intro done q u hS hu hdep _
      obtain ⟨p0, p1, p2⟩ := HF.out u hS.keep
      refine quietN hS 99 rfl (by decide) (by decide) rfl ?_
      simp [go_sem, evalBy, bCv]
    · intro done q u hS hu hdep _
      refine quietN hS 100 rfl (by decide) (by decide) rfl ?_
      have h1 : (0 : Int) ≤ (at_ : Int) := by omega
      have h2 : (at_ : Int) ≤ (c : Int) := by omega
      cases A <;> simp [go_sem, evalBy, bCv, h1, h2]
    · intro done q u hS hu hdep _
      exact callN hS 101 rfl (by decide) (by decide) rfl 26 #[nvV ⟨some ⟨b1, o1, none⟩, nl, cl, af, nf, cf, aw, nw, cw⟩, .int .i64 L, .int .i64 x, .slice A at_ c] (by simp [go_sem, evalBy, bCv]) (HPY.out u hS.keep)
    · intro done q u hS hu hdep _
      refine quietN hS 94 rfl (by decide) (by decide) rfl ?_
      simp [go_sem, evalBy, bCv]
    · intro done q u hS hu hdep _
      refine quietN hS 102 rfl (by decide) (by decide) rfl ?_
      simp [go_sem, evalBy, bCv]
    · intro done q u hS hu hdep _
      refine quietN hS 103 rfl (by decide) (by decide) rfl ?_
      simp [go_sem, evalBy, bCv]
    · intro done q u hS hu hdep _
      refine allocN hS 14 rfl hu (by decide) rfl (fun _ => rfl) (fun g' t ht => by unfold bCv; split <;> first | rfl | exact absurd rfl ht) (by simp [go_sem, z4])
    · intro done q u hS hu hdep _
      refine storeN hS rfl (hdep ⟨10, .data⟩ (by simp) rfl) hu rfl (fun hb => ?_)
      obtain ⟨w2, h1, h2, h3, _, h5⟩ := store4 hb (.int .i64 S2.w) (.int .i64 S2.b) (.int .i64 S2.g) (.int .i64 S2.s)
      exact ⟨w2, by rw [← h1]; exact exec_store_mid 43 _ _ rfl q #[.int .i64 S2.w, .int .i64 S2.b, .int .i64 S2.g, .int .i64 S2.s] rfl (by simp [evalBy, bCv]) h2 heat_info (one4 ⟨rfl, rfl, rfl, rfl⟩), h5, h3⟩
    · intro done q u hS hu hdep _
      refine quietN hS 15 rfl (by decide) (by decide) rfl ?_
      simp [go_sem, evalBy, bCv]
  · intro q w9 hS
    have hb := hS.keep
    obtain ⟨hq, zq⟩ := hS.box (by decide)
    rw [if_pos (by decide)] at zq
    have HZ9 := Lib.hid ((hb.block _ (heapsz HZ8.out)).trans HZ8.out)
    have HB9 := Lib.hid (HB8.out.trans (hb.mono HB8.out.size))
    have HN9 := Lib.hid (HN8.out.up hb)
    have HA9 := Lib.hid (RowAt.up HA8.out hb)
    have HQl9 := Lib.hid ((hb.block _ (heapsz HQl8.out)).trans HQl8.out)
    have HQs9 := Lib.hid ((hb.block _ (heapsz HQs8.out)).trans HQs8.out)
    have HQt9 := Lib.hid zq
    clear hS hb zq hq HF HPY
    simp [putAll, Act.put, bCv]
    go_wp2_with fail
    go_loopw [16, 17, 18] (fun ff bb ii wr => ∃ k : Nat, k ≤ n ∧ ii = .int .i64 k ∧ ff = .int .i64 (fedK ts k) ∧ bb = .int .i64 (fedK ts (min k at_)) ∧ w9 = wr) (fun _ _ ii _ => n - (intOf ii).toNat)
    case atStart => exact ⟨0, by omega, rfl, rfl, by rw [Nat.zero_min]; rfl, rfl⟩
    case round =>
      obtain ⟨k, hk, rfl, rfl, rfl, rfl⟩ := hrel
      have HF1 := Lib.hid (fed_in ts k (by rw [HLT.out]; exact hk))
      have HF2 := Lib.hid (fed_in ts (min k at_) (by rw [HLT.out]; omega))
      by_cases hlt : k < n
      · have k3 : (0 : Int) ≤ (k : Int) := by omega
        have k4 : (k : Int) < (n : Int) := by omega
        obtain ⟨t, ht⟩ := get_of_lt (l := ts) (k := k) (by rw [HLT.out]; exact hlt)
        obtain ⟨b, o, rfl, hbb, t0, t1, t2⟩ := th_el HA9.out ht
        have HSU := Lib.hid (fed_succ ht)
        have HTT := Lib.hid ht
        obtain ⟨lk, fr, fed⟩ := t
        simp only at t2
        clear ht hbb t0 t1
        obtain ⟨F1, hF1⟩ : ∃ z, fedK ts k = z := ⟨_, rfl⟩
        have HFF := Lib.hid hF1
        rw [hF1] at HF1 HSU ⊢
        by_cases hka : k < at_
        · have k5 : (k : Int) < (at_ : Int) := by omega
          have hm1 : min k at_ = k := by omega
          have hm2 : min (k + 1) at_ = k + 1 := by omega
          rw [hm1, hF1]
          have hw1 : wrap64 (F1 + 1) = F1 + 1 := w64 (by have := HF1.out; omega)
          clear hF1
          cases fed with
          | true =>
            go_wp2_with fail
            exact ⟨⟨k + 1, by omega, rfl, by rw [hw1, HSU.out]; rfl, by rw [hw1, hm2, HSU.out]; rfl, (by first | rfl | trivial)⟩, by simp [intOf]; omega⟩
          | false =>
            go_wp2_with fail
            exact ⟨⟨k + 1, by omega, rfl, by rw [HSU.out]; simp, by rw [hm2, HSU.out]; simp, (by first | rfl | trivial)⟩, by simp [intOf]; omega⟩
        · have k5 : ¬ (k : Int) < (at_ : Int) := by omega
          have hm1 : min k at_ = at_ := by omega
          have hm2 : min (k + 1) at_ = at_ := by omega
          rw [hm1] at HF2 ⊢
          have hw1 : wrap64 (F1 + 1) = F1 + 1 := w64 (by have := HF1.out; omega)
          clear hF1
          cases fed with
          | true =>
            go_wp2_with fail
            exact ⟨⟨k + 1, by omega, rfl, by rw [hw1, HSU.out]; rfl, by rw [hm2], (by first | rfl | trivial)⟩, by simp [intOf]; omega⟩
          | false =>
            go_wp2_with fail
            exact ⟨⟨k + 1, by omega, rfl, by rw [HSU.out]; simp, by rw [hm2], (by first | rfl | trivial)⟩, by simp [intOf]; omega⟩
      · obtain rfl : n = k := by omega
        have k4 : ¬ (n : Int) < (n : Int) := by omega
        have hm1 : min n at_ = at_ := by omega
        rw [hm1] at HF2 ⊢
        have HSN := Lib.hid (sane_of HKL.out HWB.out HTS.out (by have := HN72.out.2; have := HLT.out; omega) (k := n) (by rw [HLT.out]; exact Nat.le_refl _))
        have HSA := Lib.hid (sane_of HKL.out HWB.out HTS.out (by have := HN72.out.2; have := HLT.out; omega) (k := at_) (by rw [HLT.out]; exact hat))
        have HMO := Lib.hid (play_mono HKL.out HWB.out HTS.out (by have := HN72.out.2; have := HLT.out; omega) at_ (n - at_) (by rw [HLT.out]; omega))
        rw [show at_ + (n - at_) = n by omega] at HMO
        rw [HS.out] at HSN HMO
        rw [HS2.out] at HSA HMO
        have HN7 : Hid ((n : Int) ≤ 72 ∧ (at_ : Int) ≤ 72) := Lib.hid (by have := HN72.out.2; omega)
        obtain ⟨F1, hF1⟩ : ∃ z, fedK ts n = z := ⟨_, rfl⟩
        obtain ⟨F2, hF2⟩ : ∃ z, fedK ts at_ = z := ⟨_, rfl⟩
        rw [hF1] at HF1 HSN ⊢
        rw [hF2] at HF2 HSA ⊢
        clear hF1 hF2 hm1
        obtain ⟨⟨x0, x1⟩, ⟨x2, x3⟩, ⟨x4, x5⟩, ⟨x6, x7, x8, x9⟩, x10, x11⟩ := lp_cells HQl9.out
        obtain ⟨⟨s0, s1, s2, s3⟩, _⟩ := box4 HQs9.out
        obtain ⟨⟨r0, r1, r2, r3⟩, _⟩ := box4 HQt9.out
        go_wp2_with fail
        refine (sane_any HKL.out HSN.out HWB.out (by have := HF1.out; have := HN7.out; omega) _).mono ?_
        rintro e w10 ⟨rfl, hb⟩
        have HZ10 := Lib.hid ((hb.block _ (heapsz HZ9.out)).trans HZ9.out)
        have HB10 := Lib.hid (HB9.out.trans (hb.mono HB9.out.size))
        have HN10 := Lib.hid (HN9.out.up hb)
        have HA10 := Lib.hid (RowAt.up HA9.out hb)
        have HQl10 := Lib.hid ((hb.block _ (heapsz HQl9.out)).trans HQl9.out)
        have HQs10 := Lib.hid ((hb.block _ (heapsz HQs9.out)).trans HQs9.out)
        have HQt10 := Lib.hid ((hb.block _ (heapsz HQt9.out)).trans HQt9.out)
        clear hb
        clear x0 x1 x2 x3 x4 x5 x6 x7 x8 x9 x10 x11 s0 s1 s2 s3 r0 r1 r2 r3
        obtain ⟨⟨x0, x1⟩, ⟨x2, x3⟩, ⟨x4, x5⟩, ⟨x6, x7, x8, x9⟩, x10, x11⟩ := lp_cells HQl10.out
        obtain ⟨⟨s0, s1, s2, s3⟩, _⟩ := box4 HQs10.out
        obtain ⟨⟨r0, r1, r2, r3⟩, _⟩ := box4 HQt10.out
        go_wp2_with fail
        refine (sane_any HKL.out HSA.out HWB.out (by have := HF2.out; have := HN7.out; omega) _).mono ?_
        rintro e w11 ⟨rfl, hb⟩
        have HZ11 := Lib.hid ((hb.block _ (heapsz HZ10.out)).trans HZ10.out)
        have HB11 := Lib.hid (HB10.out.trans (hb.mono HB10.out.size))
        have HN11 := Lib.hid (HN10.out.up hb)
        have HA11 := Lib.hid (RowAt.up HA10.out hb)
        have HQl11 := Lib.hid ((hb.block _ (heapsz HQl10.out)).trans HQl10.out)
        have HQs11 := Lib.hid ((hb.block _ (heapsz HQs10.out)).trans HQs10.out)
        have HQt11 := Lib.hid ((hb.block _ (heapsz HQt10.out)).trans HQt10.out)
        clear hb
        clear x0 x1 x2 x3 x4 x5 x6 x7 x8 x9 x10 x11 s0 s1 s2 s3 r0 r1 r2 r3
        obtain ⟨⟨x0, x1⟩, ⟨x2, x3⟩, ⟨x4, x5⟩, ⟨x6, x7, x8, x9⟩, x10, x11⟩ := lp_cells HQl11.out
        obtain ⟨⟨s0, s1, s2, s3⟩, _⟩ := box4 HQs11.out
        obtain ⟨⟨r0, r1, r2, r3⟩, _⟩ := box4 HQt11.out
        have hge1 : S2.g ≤ S.g := HMO.out.1
        have hge2 : S2.s ≤ S.s := HMO.out.2
        go_wp2_with fail
        refine (known_any _).mono ?_
        rintro e wk ⟨rfl, hbk⟩
        have HBK := Lib.hid (HB11.out.trans (hbk.mono HB11.out.size))
        clear hbk
        go_wp2_with fail
        go_ret
        exact ⟨rfl, HBK.out⟩
end Go.Proofs.Yticmeeinjkoodaa
