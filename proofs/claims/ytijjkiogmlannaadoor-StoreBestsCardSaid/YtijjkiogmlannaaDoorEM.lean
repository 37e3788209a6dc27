/- Stores: faults, the first thing to run out, the best plan, by the statements' package. -/
import Derived.Test.YtijjkiogmlannaaDoorEK
namespace Go.Proofs.YtijjkiogmlannaaDoor
open Go.RowKit

theorem range_at {k m : Nat} (h : k < m) : ∃ r, List.range m = List.range k ++ k :: r := by
  obtain ⟨d, rfl⟩ : ∃ d, m = k + (d + 1) := ⟨m - k - 1, by omega⟩
  exact ⟨_, by rw [List.range_add, List.range_succ_eq_map, List.map_cons, Nat.add_zero]⟩
/-- The pairs before one. -/
def pairsQ (nw i n : Nat) : List (Nat × Nat) := (List.range i).flatMap (fun a => (List.range nw).map fun b => (a, b)) ++ (List.range n).map fun b => (i, b)
theorem pairsQ_n (nw i n : Nat) : pairsQ nw i (n + 1) = pairsQ nw i n ++ [(i, n)] := by
  unfold pairsQ
  rw [List.range_succ, List.map_append, List.append_assoc]
  rfl
theorem pairsQ_i (nw i : Nat) : pairsQ nw (i + 1) 0 = pairsQ nw i nw := by
  unfold pairsQ
  rw [List.range_succ, List.flatMap_append]
  simp
theorem pairsQ_all (S : Sto) : pairsQ S.wins.length S.ices.length 0 = S.pairs := by
  unfold pairsQ Sto.pairs
  simp
theorem pairsQ_at {S : Sto} {i n : Nat} (hi : i < S.ices.length) (hn : n < S.wins.length) : ∃ r, S.pairs = pairsQ S.wins.length i n ++ (i, n) :: r := by
  obtain ⟨r, hr⟩ := range_at hi
  obtain ⟨q, hq⟩ := range_at hn
  unfold Sto.pairs pairsQ
  rw [hr, List.flatMap_append, List.flatMap_cons]
  refine ⟨q.map (fun b => (i, b)) ++ r.flatMap (fun a => (List.range S.wins.length).map fun b => (a, b)), ?_⟩
  rw [List.append_assoc]
  congr 1
  conv => lhs; arg 1; rw [hq]
  rw [List.map_append, List.map_cons]
  simp
def fltG (S : Sto) (p : Nat) (x : Nat × Nat) : Option Flt := (S.lackO p x.1 x.2).map fun y => ⟨x.1, x.2, y.1, y.2⟩
/-- What is lacking in the pairs before one. -/
def fltQ (S : Sto) (p i n : Nat) : List Flt := (pairsQ S.wins.length i n).filterMap (fltG S p)
theorem fltQ_n (S : Sto) (p i n : Nat) : fltQ S p i (n + 1) = fltQ S p i n ++ (match S.lackO p i n with | none => [] | some y => [⟨i, n, y.1, y.2⟩]) := by
  unfold fltQ
  rw [pairsQ_n, List.filterMap_append]
  congr 1
  simp only [List.filterMap_cons, List.filterMap_nil, fltG]
  cases S.lackO p i n <;> rfl
theorem fltQ_i (S : Sto) (p i : Nat) : fltQ S p (i + 1) 0 = fltQ S p i S.wins.length := by unfold fltQ; rw [pairsQ_i]
theorem fltQ_all (S : Sto) (p : Nat) : fltQ S p S.ices.length 0 = S.flts p := by unfold fltQ Sto.flts; rw [pairsQ_all]; rfl
theorem fltQ_0 (S : Sto) (p : Nat) : fltQ S p 0 0 = [] := rfl
theorem fltQ_at {S : Sto} {p i n : Nat} {y : Nat × Nat} (hi : i < S.ices.length) (hn : n < S.wins.length) (h0 : fltQ S p i n = []) (hl : S.lackO p i n = some y) : S.fault p = some ⟨i, n, y.1, y.2⟩ := by
  obtain ⟨r, hr⟩ := pairsQ_at hi hn
  unfold Sto.fault Sto.flts
  rw [hr, List.filterMap_append]
  have e : (pairsQ S.wins.length i n).filterMap (fun x => (S.lackO p x.1 x.2).map fun y => (⟨x.1, x.2, y.1, y.2⟩ : Flt)) = [] := h0
  rw [e, List.filterMap_cons, hl]
  rfl
def keyI (x : Flt) : Int := (x.w : Int) * 3 + (x.k : Int)
theorem leastF_n (S : Sto) (p i n : Nat) : leastBy keyI (fltQ S p i (n + 1)) none = match S.lackO p i n with
    | none => leastBy keyI (fltQ S p i n) none
    | some y => match leastBy keyI (fltQ S p i n) none with
      | none => some ⟨i, n, y.1, y.2⟩
      | some f => if keyI ⟨i, n, y.1, y.2⟩ < keyI f then some ⟨i, n, y.1, y.2⟩ else some f := by
  rw [fltQ_n]
  cases S.lackO p i n with
  | none => exact congrArg (fun l => leastBy keyI l none) (List.append_nil _)
  | some y =>
    simp only
    rw [leastBy_snoc]
    cases leastBy keyI (fltQ S p i n) none <;> rfl
theorem fld35 (a b c : Value) (w : World) : (Instr.field 35 (.agg #[a, b, c]) 2).run Tryd.prog w = .ok c w := by
  have a33 := Tryd.isAgg33
  have s33 := Tryd.sizeOf33
  simp [Instr.field, go_sem, part, asAgg, a33, s33]
theorem lacks_bound {S : Sto} {p i n : Nat} {y : Nat × Nat} (h : S.lackO p i n = some y) : y.1 < S.weeks.toNat ∧ y.2 < 3 := by
  obtain ⟨h4, h5, _⟩ := lackL_some h
  exact ⟨by rw [← lacks_len (S := S) (p := p)]; exact h4, (lackG_some h5).1⟩
theorem leastF_bound {S : Sto} {p i n : Nat} {f : Flt} (h : leastBy keyI (fltQ S p i n) none = some f) : f.w < S.weeks.toNat ∧ f.k < 3 := by
  have h1 := leastBy_none keyI (fltQ S p i n)
  rw [h] at h1
  obtain ⟨⟨a, b⟩, _, hx⟩ := List.mem_filterMap.1 h1.1
  unfold fltG at hx
  obtain ⟨y, hy, rfl⟩ := Option.map_eq_some_iff.1 hx
  exact lacks_bound hy
/-- A run and what it lacks, together. -/
theorem rlack_run {X : SX} {w : World} (h : X.In w) (K : X.S.Ok) (p i n : Nat) (hp : p ≤ 1000000) (hi : i < X.ni) (hn : n < X.nw) : Calls Tryd.prog 21 #[X.v, .int .i64 (p : Int), .int .i64 (i : Int), .int .i64 (n : Int)] w fun e w' =>
    ∃ t : Tr, e = .returned t.v ∧ Below w.heap.size w w' ∧ ∀ u, Below w'.heap.size w' u → Calls Tryd.prog 56 #[.slice t.A3 t.n3 t.c3] u fun e w'' => e = .returned (lkT (X.S.lackO p i n)) ∧ u = w'' := by
  refine (rrgood h K p i n hp hi hn).mono fun e w' hh => ?_
  obtain ⟨t, he, hb, ht, _, _, h3⟩ := hh
  refine ⟨t, he, hb, fun u hu => ?_⟩
  have h4 := ht.up hu
  have := rlack_any t.A3 t.n3 t.c3 t.l3 u h4.e3 h4.m3 h4.g3
  rw [h3] at this
  exact this
set_option maxRecDepth 100000 in
set_option maxHeartbeats 4000000 in
theorem rfault_any {X : SX} {w : World} (h : X.In w) (K : X.S.Ok) (p : Nat) (hp : p ≤ 1000000) : Calls Tryd.prog 26 #[X.v, .int .i64 (p : Int)] w fun e w' => e = .returned (fltO (X.S.fault p)) ∧ Below w.heap.size w w' := by
  have n6 := K.n6
  rcases X with ⟨S, AS, ns, cs, AI, ni, ci, AW, nw, cw⟩
  obtain ⟨z0, hb0⟩ := sto_new ⟨S, AS, ns, cs, AI, ni, ci, AW, nw, cw⟩ w
  obtain ⟨w1, hw1⟩ : ∃ z, w.alloc (.cells (SX.cells ⟨S, AS, ns, cs, AI, ni, ci, AW, nw, cw⟩) 28) = z := ⟨_, rfl⟩
  rw [hw1] at z0 hb0
  have hls := h.hs; have hli := h.hi; have hlw := h.hw
  simp only at hls hli hlw n6 K
  have al1 := (Below.refl w1.heap.size w1).alloc (Nat.le_refl _) (.cells #[.bool false, .int .i64 0, .int .i64 0, .int .i64 0, .int .i64 0] 48)
  have z8 := heap_alloc_new w1 (.cells #[.bool false, .int .i64 0, .int .i64 0, .int .i64 0, .int .i64 0] 48)
  obtain ⟨w2, hw2⟩ : ∃ z, w1.alloc (.cells #[.bool false, .int .i64 0, .int .i64 0, .int .i64 0, .int .i64 0] 48) = z := ⟨_, rfl⟩
  rw [hw2] at al1 z8
  have HB0 := Lib.hid (hb0.trans (al1.mono hb0.size)); have Z0 := Lib.hid ((al1.block _ (heapsz z0)).trans z0); have Z8 := Lib.hid z8; have HI := Lib.hid h; have HK := Lib.hid K; have HW1 := Lib.hid hw1; have HW2 := Lib.hid hw2; have HLI := Lib.hid hli; have HLW := Lib.hid hlw
  have hw8 : w.heap.size + 1 = w1.heap.size := by rw [← hw1]; simp
  obtain ⟨b8, hb8⟩ : ∃ z, w1.heap.size = z := ⟨_, rfl⟩
  have HB8 : Hid (w.heap.size ≤ b8) := Lib.hid (by omega)
  rw [hb8] at Z8
  have hE8 := hw8.trans hb8
  have KR : Hid (∀ u, Below w2.heap.size w2 u → ∀ i n, i < ni → n < nw → Calls Tryd.prog 21 #[.agg #[.int .i64 S.st.a, .int .i64 S.st.b, .int .i64 S.st.c, .int .i64 S.yd.a, .int .i64 S.yd.b, .int .i64 S.yd.c, .int .i64 S.rate, .int .i64 S.weeks, .int .i64 S.land, .slice AS ns cs, .slice AI ni ci, .slice AW nw cw], .int .i64 (p : Int), .int .i64 (i : Int), .int .i64 (n : Int)] u fun e w' =>
    ∃ t : Tr, e = .returned t.v ∧ Below u.heap.size u w' ∧ ∀ v, Below w'.heap.size w' v → Calls Tryd.prog 56 #[.slice t.A3 t.n3 t.c3] v fun e w'' => e = .returned (lkT (S.lackO p i n)) ∧ v = w'') := Lib.hid fun u hu i n hi hn => rlack_run (X := ⟨S, AS, ns, cs, AI, ni, ci, AW, nw, cw⟩) (HI.out.up (HB0.out.trans (hu.mono HB0.out.size))) HK.out p i n hp hi hn
  have n4 : ni ≤ 4 ∧ nw ≤ 4 := by have h1 := K.i4.2; have h2 := K.w4.2; omega
  have HP0 : Hid (fltQ S p 0 0 = []) := Lib.hid rfl
  show Calls _ _ _ _ fun e w' => e = .returned (fltO (S.fault p)) ∧ _
  clear h K z0 hb0 hw1 hw2 al1 z8 hls hli hlw n6 hw8
  go_enter Tryd.func26, Tryd.ntmps26
  go_wp2_with fail
  rw [HW1.out, HW2.out]
  try rw [hE8]
  try rw [hb8]
  clear hE8 hb8
  go_loopw [5] (fun a wr => ∃ i : Nat, i ≤ ni ∧ a = .int .i64 i ∧ fltQ S p i 0 = [] ∧ Below w2.heap.size w2 wr) (fun a _ => ni - (intOf a).toNat)
  case atStart => exact ⟨0, Nat.zero_le _, rfl, HP0.out, Below.refl _ _⟩
  case round =>
    obtain ⟨i, hi, rfl, hp0, hbr⟩ := hrel
    have HP := Lib.hid hp0; have HBR := Lib.hid hbr
    obtain ⟨⟨s0, s1, s2⟩, ⟨s3, s4, s5⟩, ⟨s6, s7, s8⟩, s9, s10, s11⟩ := sto_box ((hbr.block _ (heapsz Z0.out)).trans Z0.out)
    simp only at s0 s1 s2 s3 s4 s5 s6 s7 s8 s9 s10 s11
    clear hp0 hbr
    by_cases hlt : i < ni
    · have i1 : (i : Int) < (ni : Int) := by omega
      go_wp2_with fail
      rename World => wt
      go_loopw [6] (fun a wr => ∃ n : Nat, n ≤ nw ∧ a = .int .i64 n ∧ fltQ S p i n = [] ∧ Below w2.heap.size w2 wr) (fun a _ => nw - (intOf a).toNat)
      case atStart => exact ⟨0, Nat.zero_le _, rfl, HP.out, HBR.out⟩
      case round =>
        clear s0 s1 s2 s3 s4 s5 s6 s7 s8 s9 s10 s11 HP
        obtain ⟨n, hn, rfl, hp0, hbr⟩ := hrel
        have HP := Lib.hid hp0; have HBN := Lib.hid hbr
        obtain ⟨⟨s0, s1, s2⟩, ⟨s3, s4, s5⟩, ⟨s6, s7, s8⟩, s9, s10, s11⟩ := sto_box ((hbr.block _ (heapsz Z0.out)).trans Z0.out)
        simp only at s0 s1 s2 s3 s4 s5 s6 s7 s8 s9 s10 s11
        clear hp0 hbr
        by_cases hnn : n < nw
        · have n1 : (n : Int) < (nw : Int) := by omega
          have HC := Lib.hid (KR.out wr HBN.out i n hlt hnn)
          have HFN := Lib.hid (fltQ_n S p i n)
          go_wp2_with fail
          refine HC.out.mono ?_
          rintro e w5 ⟨t, rfl, hb5, hk5⟩
          have HK5 := Lib.hid hk5; have HB5 := Lib.hid (HBN.out.trans (hb5.mono HBN.out.size))
          have hfl : (Instr.field 35 t.v 2).run Tryd.prog w5 = .ok (.slice t.A3 t.n3 t.c3) w5 := fld35 _ _ _ w5
          clear hb5 hk5 s0 s1 s2 s3 s4 s5 s6 s7 s8 s9 s10 s11 HC
          obtain ⟨y, hy⟩ : ∃ z, S.lackO p i n = z := ⟨_, rfl⟩
          have HY := Lib.hid hy
          rw [hy] at HFN HK5
          clear hy
          cases y with
          | none =>
            go_wp2_with fail
            refine (HK5.out _ (Below.refl _ _)).mono ?_
            rintro e w' ⟨rfl, rfl⟩
            simp only [lkT]
            go_wp2_with fail
            exact ⟨⟨n + 1, by omega, by go_num, by rw [HFN.out, List.append_nil]; exact HP.out, HB5.out⟩, by simp [intOf]; omega⟩
          | some y =>
            obtain ⟨yw, yk⟩ := y
            have hfau := fltQ_at (S := S) (p := p) (by rw [HLI.out]; exact hlt) (by rw [HLW.out]; exact hnn) HP.out HY.out
            have HFA := Lib.hid hfau
            clear hfau
            have z5 := (HB5.out.block b8 (heapsz Z8.out)).trans Z8.out
            obtain ⟨w8, hs8, ht8, z88, o8, hb8', s8⟩ := store5 z5 (.bool true) (.int .i64 (i : Int)) (.int .i64 (n : Int)) (.int .i64 (yw : Int)) (.int .i64 (yk : Int))
            have HS8 := Lib.hid hs8; have HT8 := Lib.hid ht8; have Z88 := Lib.hid z88
            have HBF := Lib.hid ((HB0.out.trans (HB5.out.mono HB0.out.size)).trans (hb8' w.heap.size HB8.out))
            clear hs8 ht8 z88 o8 hb8' s8 z5
            go_wp2_with fail
            refine (HK5.out _ (Below.refl _ _)).mono ?_
            rintro e w' ⟨rfl, rfl⟩
            simp only [lkT]
            go_wp2_with (first
              | (refine wpList_store_mid rfl 48 _ _ rfl b8 0 #[.bool true, .int .i64 (i : Int), .int .i64 (n : Int), .int .i64 (yw : Int), .int .i64 (yk : Int)] (by rfl) (by rfl) HT8.out flt_info (one5 ⟨rfl, rfl, rfl, rfl, rfl⟩) ?_; rw [HS8.out])
              | fail)
            have q := fun k => cell_of_row w8 b8 k _ 48 (0, 0) Z88.out
            have q0 := q 0; have q1 := q 1; have q2 := q 2; have q3 := q 3; have q4 := q 4
            simp at q0 q1 q2 q3 q4
            exact bodyPost_ret (v := .agg #[.bool true, .int .i64 (i : Int), .int .i64 (n : Int), .int .i64 (yw : Int), .int .i64 (yk : Int)]) (by simp [results, Tryd.results26, go_sem, q0, q1, q2, q3, q4]) rfl ⟨by rw [HFA.out]; rfl, HBF.out⟩
        · have hne : n = nw := by omega
          have n1 : ¬ (n : Int) < (nw : Int) := by omega
          have hfi := fltQ_i S p i
          rw [HLW.out] at hfi
          have HFI := Lib.hid hfi
          clear hfi
          subst hne
          go_wp2_with fail
          exact ⟨⟨i + 1, by omega, by go_num, by rw [HFI.out]; exact HP.out, HBN.out⟩, by simp [intOf]; omega⟩
    · have hie : i = ni := by omega
      have i1 : ¬ (i : Int) < (ni : Int) := by omega
      have hfn : S.fault p = none := by
        unfold Sto.fault
        have h1 := fltQ_all S p
        rw [HLI.out, ← hie] at h1
        rw [← h1, HP.out]
        rfl
      have HFN := Lib.hid hfn
      clear hfn
      have z5 := (HBR.out.block b8 (heapsz Z8.out)).trans Z8.out
      obtain ⟨w8, hs8, ht8, z88, o8, hb8', s8'⟩ := store5 z5 (.bool false) (.int .i64 0) (.int .i64 0) (.int .i64 0) (.int .i64 0)
      have HS8 := Lib.hid hs8; have HT8 := Lib.hid ht8; have Z88 := Lib.hid z88
      have HBF := Lib.hid ((HB0.out.trans (HBR.out.mono HB0.out.size)).trans (hb8' w.heap.size HB8.out))
      clear hs8 ht8 z88 o8 hb8' s8' z5
      go_wp2_with (first
        | (refine wpList_store_mid rfl 48 _ _ rfl b8 0 #[.bool false, .int .i64 0, .int .i64 0, .int .i64 0, .int .i64 0] (by rfl) (by rfl) HT8.out flt_info (one5 ⟨rfl, rfl, rfl, rfl, rfl⟩) ?_; rw [HS8.out])
        | fail)
      have q := fun k => cell_of_row w8 b8 k _ 48 (0, 0) Z88.out
      have q0 := q 0; have q1 := q 1; have q2 := q 2; have q3 := q 3; have q4 := q 4
      simp at q0 q1 q2 q3 q4
      exact bodyPost_ret (v := .agg #[.bool false, .int .i64 0, .int .i64 0, .int .i64 0, .int .i64 0]) (by simp [results, Tryd.results26, go_sem, q0, q1, q2, q3, q4]) rfl ⟨by rw [HFN.out]; rfl, HBF.out⟩
def fsW : Option Flt → Int
  | none => 0
  | some f => (f.w : Int)
def fsK : Option Flt → Int
  | none => 0
  | some f => (f.k : Int)
def bet (y f : Flt) : Option Flt := if keyI y < keyI f then some y else some f
set_option maxRecDepth 100000 in
set_option maxHeartbeats 4000000 in
theorem rfirst_any {X : SX} {w : World} (h : X.In w) (K : X.S.Ok) (p : Nat) (hp : p ≤ 1000000) : Calls Tryd.prog 27 #[X.v, .int .i64 (p : Int)] w fun e w' => e = .returned (.tuple #[.int .i64 (fsW (X.S.first p)), .int .i64 (fsK (X.S.first p)), .bool (X.S.first p).isSome]) ∧ Below w.heap.size w w' := by
  have n6 := K.n6
  rcases X with ⟨S, AS, ns, cs, AI, ni, ci, AW, nw, cw⟩
  obtain ⟨z0, hb0⟩ := sto_new ⟨S, AS, ns, cs, AI, ni, ci, AW, nw, cw⟩ w
  obtain ⟨w1, hw1⟩ : ∃ z, w.alloc (.cells (SX.cells ⟨S, AS, ns, cs, AI, ni, ci, AW, nw, cw⟩) 28) = z := ⟨_, rfl⟩
  rw [hw1] at z0 hb0
  have hls := h.hs; have hli := h.hi; have hlw := h.hw
  simp only at hls hli hlw n6 K
  have HB0 := Lib.hid hb0; have Z0 := Lib.hid z0; have HI := Lib.hid h; have HK := Lib.hid K; have HW1 := Lib.hid hw1; have HLI := Lib.hid hli; have HLW := Lib.hid hlw
  have KR : Hid (∀ u, Below w1.heap.size w1 u → ∀ i n, i < ni → n < nw → Calls Tryd.prog 21 #[.agg #[.int .i64 S.st.a, .int .i64 S.st.b, .int .i64 S.st.c, .int .i64 S.yd.a, .int .i64 S.yd.b, .int .i64 S.yd.c, .int .i64 S.rate, .int .i64 S.weeks, .int .i64 S.land, .slice AS ns cs, .slice AI ni ci, .slice AW nw cw], .int .i64 (p : Int), .int .i64 (i : Int), .int .i64 (n : Int)] u fun e w' =>
    ∃ t : Tr, e = .returned t.v ∧ Below u.heap.size u w' ∧ ∀ v, Below w'.heap.size w' v → Calls Tryd.prog 56 #[.slice t.A3 t.n3 t.c3] v fun e w'' => e = .returned (lkT (S.lackO p i n)) ∧ v = w'') := Lib.hid fun u hu i n hi hn => rlack_run (X := ⟨S, AS, ns, cs, AI, ni, ci, AW, nw, cw⟩) (HI.out.up (HB0.out.trans (hu.mono HB0.out.size))) HK.out p i n hp hi hn
  have n4 : ni ≤ 4 ∧ nw ≤ 4 := by have h1 := K.i4.2; have h2 := K.w4.2; omega
  have HLF := Lib.hid fun i n => leastF_n S p i n
  have HBD := Lib.hid fun i n f => leastF_bound (S := S) (p := p) (i := i) (n := n) (f := f)
  have HLB := Lib.hid fun i n y => lacks_bound (S := S) (p := p) (i := i) (n := n) (y := y)
  show Calls _ _ _ _ fun e w' => e = .returned (.tuple #[.int .i64 (fsW (S.first p)), .int .i64 (fsK (S.first p)), .bool (S.first p).isSome]) ∧ _
  clear h K z0 hb0 hw1 hls hli hlw n6
  go_enter Tryd.func27, Tryd.ntmps27
  go_wp2_with fail
  rw [HW1.out]
  go_loopw [7, 8, 9, 10] (fun x y z a wr => ∃ (i : Nat) (o : Option Flt), i ≤ ni ∧ a = .int .i64 i ∧ leastBy keyI (fltQ S p i 0) none = o ∧ x = .int .i64 (fsW o) ∧ y = .int .i64 (fsK o) ∧ z = .bool o.isSome ∧ Below w1.heap.size w1 wr) (fun _ _ _ a _ => ni - (intOf a).toNat)
  case atStart => exact ⟨0, none, Nat.zero_le _, rfl, rfl, rfl, rfl, rfl, Below.refl _ _⟩
  case round =>
    obtain ⟨i, o, hi, rfl, ho, rfl, rfl, rfl, hbr⟩ := hrel
    have HO := Lib.hid ho; have HBR := Lib.hid hbr
    obtain ⟨⟨s0, s1, s2⟩, ⟨s3, s4, s5⟩, ⟨s6, s7, s8⟩, s9, s10, s11⟩ := sto_box ((hbr.block _ (heapsz Z0.out)).trans Z0.out)
    simp only at s0 s1 s2 s3 s4 s5 s6 s7 s8 s9 s10 s11
    clear ho hbr
    by_cases hlt : i < ni
    · have i1 : (i : Int) < (ni : Int) := by omega
      go_wp2_with fail
      rename World => wt
      go_loopw [7, 8, 9, 11] (fun x y z a wr => ∃ (n : Nat) (o : Option Flt), n ≤ nw ∧ a = .int .i64 n ∧ leastBy keyI (fltQ S p i n) none = o ∧ x = .int .i64 (fsW o) ∧ y = .int .i64 (fsK o) ∧ z = .bool o.isSome ∧ Below w1.heap.size w1 wr) (fun _ _ _ a _ => nw - (intOf a).toNat)
      case atStart => exact ⟨0, o, Nat.zero_le _, rfl, HO.out, rfl, rfl, rfl, HBR.out⟩
      case round =>
        clear s0 s1 s2 s3 s4 s5 s6 s7 s8 s9 s10 s11 HO
        obtain ⟨n, o, hn, rfl, ho, rfl, rfl, rfl, hbr⟩ := hrel
        have HO := Lib.hid ho; have HBN := Lib.hid hbr
        obtain ⟨⟨s0, s1, s2⟩, ⟨s3, s4, s5⟩, ⟨s6, s7, s8⟩, s9, s10, s11⟩ := sto_box ((hbr.block _ (heapsz Z0.out)).trans Z0.out)
        simp only at s0 s1 s2 s3 s4 s5 s6 s7 s8 s9 s10 s11
        clear ho hbr
        by_cases hnn : n < nw
        · have n1 : (n : Int) < (nw : Int) := by omega
          have HC := Lib.hid (KR.out wr HBN.out i n hlt hnn)
          have hln := HLF.out i n
          rw [HO.out] at hln
          have HLN := Lib.hid hln
          clear hln
          go_wp2_with fail
          refine HC.out.mono ?_
          rintro e w5 ⟨t, rfl, hb5, hk5⟩
          have HK5 := Lib.hid hk5; have HB5 := Lib.hid (HBN.out.trans (hb5.mono HBN.out.size))
          have hfl : (Instr.field 35 t.v 2).run Tryd.prog w5 = .ok (.slice t.A3 t.n3 t.c3) w5 := fld35 _ _ _ w5
          clear hb5 hk5 s0 s1 s2 s3 s4 s5 s6 s7 s8 s9 s10 s11 HC
          obtain ⟨y, hy⟩ : ∃ z, S.lackO p i n = z := ⟨_, rfl⟩
          have HY := Lib.hid hy
          rw [hy] at HLN HK5
          clear hy
          cases y with
          | none =>
            go_wp2_with fail
            refine (HK5.out _ (Below.refl _ _)).mono ?_
            rintro e w' ⟨rfl, rfl⟩
            simp only [lkT]
            go_wp2_with fail
            exact ⟨⟨n + 1, o, by omega, by go_num, HLN.out, rfl, rfl, rfl, HB5.out⟩, by simp [intOf]; omega⟩
          | some y =>
            obtain ⟨yw, yk⟩ := y
            have hyb := HLB.out i n (yw, yk) HY.out
            obtain ⟨a, ha⟩ : ∃ z : Int, (yw : Int) = z := ⟨_, rfl⟩
            obtain ⟨b, hb⟩ : ∃ z : Int, (yk : Int) = z := ⟨_, rfl⟩
            have HA := Lib.hid ha; have HBB := Lib.hid hb
            have hb3 : 0 ≤ b ∧ b < 3 := by have := hyb.2; simp only at this; omega
            have HB3 := Lib.hid hb3
            clear hyb ha hb hb3
            cases o with
            | none =>
              simp only [fsW, fsK, Option.isSome_none]
              go_wp2_with fail
              refine (HK5.out _ (Below.refl _ _)).mono ?_
              rintro e w' ⟨rfl, rfl⟩
              simp only [lkT]
              rw [HA.out, HBB.out]
              go_wp2_with fail
              exact ⟨⟨n + 1, some ⟨i, n, yw, yk⟩, by omega, by go_num, HLN.out, by rw [← HA.out]; rfl, by rw [← HBB.out]; rfl, rfl, HB5.out⟩, by simp [intOf]; omega⟩
            | some f =>
              simp only [fsW, fsK, Option.isSome_some]
              have hfb := HBD.out i n f HO.out
              obtain ⟨fi, fn, fw, fk⟩ := f
              simp only at hfb
              obtain ⟨c, hc⟩ : ∃ z : Int, (fw : Int) = z := ⟨_, rfl⟩
              obtain ⟨d, hd⟩ : ∃ z : Int, (fk : Int) = z := ⟨_, rfl⟩
              have HC := Lib.hid hc; have HD := Lib.hid hd
              have hd3 : 0 ≤ d ∧ d < 3 := by omega
              have HD3 := Lib.hid hd3
              simp only
              rw [hc, hd]
              clear hfb hc hd hd3
              have HLN2 : Hid (leastBy keyI (fltQ S p i (n + 1)) none = bet ⟨i, n, yw, yk⟩ ⟨fi, fn, fw, fk⟩) := Lib.hid HLN.out
              clear HLN
              have HBT : Hid (bet ⟨i, n, yw, yk⟩ ⟨fi, fn, fw, fk⟩ = if a * 3 + b < c * 3 + d then some ⟨i, n, yw, yk⟩ else some ⟨fi, fn, fw, fk⟩) := Lib.hid (by unfold bet keyI; simp only; rw [HA.out, HBB.out, HC.out, HD.out])
              by_cases h1 : a < c
              · go_wp2_with fail
                refine (HK5.out _ (Below.refl _ _)).mono ?_
                rintro e w' ⟨rfl, rfl⟩
                simp only [lkT]
                rw [HA.out, HBB.out]
                go_wp2_with fail
                have hb3 := HB3.out; have hd3 := HD3.out
                exact ⟨⟨n + 1, some ⟨i, n, yw, yk⟩, by omega, by go_num, by rw [HLN2.out, HBT.out, if_pos (by omega)], by rw [← HA.out]; rfl, by rw [← HBB.out]; rfl, rfl, HB5.out⟩, by simp [intOf]; omega⟩
              · by_cases h2 : a = c
                · subst h2
                  by_cases h3 : b < d
                  · go_wp2_with fail
                    refine (HK5.out _ (Below.refl _ _)).mono ?_
                    rintro e w' ⟨rfl, rfl⟩
                    simp only [lkT]
                    rw [HA.out, HBB.out]
                    go_wp2_with fail
                    exact ⟨⟨n + 1, some ⟨i, n, yw, yk⟩, by omega, by go_num, by rw [HLN2.out, HBT.out, if_pos (by omega)], by rw [← HA.out]; rfl, by rw [← HBB.out]; rfl, rfl, HB5.out⟩, by simp [intOf]; omega⟩
                  · go_wp2_with fail
                    refine (HK5.out _ (Below.refl _ _)).mono ?_
                    rintro e w' ⟨rfl, rfl⟩
                    simp only [lkT]
                    rw [HA.out, HBB.out]
                    go_wp2_with fail
                    exact ⟨⟨n + 1, some ⟨fi, fn, fw, fk⟩, by omega, by go_num, by rw [HLN2.out, HBT.out, if_neg (by omega)], by rw [← HC.out]; rfl, by rw [← HD.out]; rfl, rfl, HB5.out⟩, by simp [intOf]; omega⟩
                · have h2' : (a == c) = false := by simpa using h2
                  go_wp2_with fail
                  refine (HK5.out _ (Below.refl _ _)).mono ?_
                  rintro e w' ⟨rfl, rfl⟩
                  simp only [lkT]
                  rw [HA.out, HBB.out]
                  go_wp2_with fail
                  have hb3 := HB3.out; have hd3 := HD3.out
                  exact ⟨⟨n + 1, some ⟨fi, fn, fw, fk⟩, by omega, by go_num, by rw [HLN2.out, HBT.out, if_neg (by omega)], by rw [← HC.out]; rfl, by rw [← HD.out]; rfl, rfl, HB5.out⟩, by simp [intOf]; omega⟩
        · have hne : n = nw := by omega
          have n1 : ¬ (n : Int) < (nw : Int) := by omega
          have hfi := fltQ_i S p i
          rw [HLW.out] at hfi
          have HFI := Lib.hid hfi
          clear hfi
          subst hne
          go_wp2_with fail
          exact ⟨⟨i + 1, o, by omega, by go_num, by rw [HFI.out]; exact HO.out, rfl, rfl, rfl, HBN.out⟩, by simp [intOf]; omega⟩
    · have hie : i = ni := by omega
      have i1 : ¬ (i : Int) < (ni : Int) := by omega
      have hfn : S.first p = o := by
        have h1 := fltQ_all S p
        rw [HLI.out, ← hie] at h1
        rw [← HO.out, h1]
        rfl
      have HFN := Lib.hid hfn
      clear hfn
      go_wp2_with fail
      exact bodyPost_ret (v := .tuple #[.int .i64 (fsW o), .int .i64 (fsK o), .bool o.isSome]) (by simp [results, Tryd.results27, go_sem]) rfl ⟨by rw [HFN.out], HB0.out.trans (HBR.out.mono HB0.out.size)⟩
/-- The best plan among the first ones. -/
def bstP (S : Sto) (k : Nat) : Option Nat := leastBy S.cost ((List.range k).filter fun p => (S.fault p).isNone) none
theorem bstP_0 (S : Sto) : bstP S 0 = none := rfl
theorem bstP_succ (S : Sto) (k : Nat) : bstP S (k + 1) = if (S.fault k).isNone = true then (match bstP S k with | none => some k | some y => if S.cost k < S.cost y then some k else some y) else bstP S k := by
  unfold bstP
  rw [List.range_succ, List.filter_append]
  cases h : (S.fault k).isNone with
  | true =>
    rw [if_pos rfl, List.filter_cons, if_pos h, List.filter_nil]
    rw [leastBy_snoc]
    cases leastBy S.cost ((List.range k).filter fun p => (S.fault p).isNone) none <;> rfl
  | false =>
    rw [if_neg Bool.false_ne_true, List.filter_cons, if_neg (by rw [h]; exact Bool.false_ne_true), List.filter_nil, List.append_nil]
theorem bstP_lt {S : Sto} {k b : Nat} (h : bstP S k = some b) : b < k := by
  have h1 := leastBy_none S.cost ((List.range k).filter fun p => (S.fault p).isNone)
  unfold bstP at h
  rw [h] at h1
  exact List.mem_range.1 (List.mem_filter.1 h1.1).1
def bsI : Option Nat → Int
  | none => -1
  | some b => (b : Int)
set_option maxRecDepth 100000 in
set_option maxHeartbeats 4000000 in
theorem rbest_any {X : SX} {w : World} (h : X.In w) (K : X.S.Ok) : Calls Tryd.prog 29 #[X.v] w fun e w' => e = .returned (.int .i64 (bsI X.S.best)) ∧ Below w.heap.size w w' := by
  have n6 := K.n6
  rcases X with ⟨S, AS, ns, cs, AI, ni, ci, AW, nw, cw⟩
  obtain ⟨z0, hb0⟩ := sto_new ⟨S, AS, ns, cs, AI, ni, ci, AW, nw, cw⟩ w
  obtain ⟨w1, hw1⟩ : ∃ z, w.alloc (.cells (SX.cells ⟨S, AS, ns, cs, AI, ni, ci, AW, nw, cw⟩) 28) = z := ⟨_, rfl⟩
  rw [hw1] at z0 hb0
  have hls := h.hs; have hli := h.hi; have hlw := h.hw
  simp only at hls hli hlw n6 K
  have HB0 := Lib.hid hb0; have Z0 := Lib.hid z0; have HI := Lib.hid h; have HK := Lib.hid K; have HW1 := Lib.hid hw1
  have h64 := two_six (n := ns) (by omega)
  obtain ⟨M, hM⟩ : ∃ z, 2 ^ ns = z := ⟨_, rfl⟩
  have KP : Hid (∀ u, Calls Tryd.prog 51 #[.agg #[.int .i64 S.st.a, .int .i64 S.st.b, .int .i64 S.st.c, .int .i64 S.yd.a, .int .i64 S.yd.b, .int .i64 S.yd.c, .int .i64 S.rate, .int .i64 S.weeks, .int .i64 S.land, .slice AS ns cs, .slice AI ni ci, .slice AW nw cw]] u fun e w' => e = .returned (.int .i64 (M : Int)) ∧ Below u.heap.size u w') := Lib.hid fun u => by rw [← hM]; exact rplans_any (X := ⟨S, AS, ns, cs, AI, ni, ci, AW, nw, cw⟩) (by show ns ≤ 6; omega)
  have KC : Hid (∀ u, Below w1.heap.size w1 u → ∀ p, p < M → Calls Tryd.prog 30 #[.agg #[.int .i64 S.st.a, .int .i64 S.st.b, .int .i64 S.st.c, .int .i64 S.yd.a, .int .i64 S.yd.b, .int .i64 S.yd.c, .int .i64 S.rate, .int .i64 S.weeks, .int .i64 S.land, .slice AS ns cs, .slice AI ni ci, .slice AW nw cw], .int .i64 (p : Int)] u fun e w' => e = .returned (.int .i64 (S.cost p)) ∧ Below u.heap.size u w') := Lib.hid fun u hu p hp => rcost_any (X := ⟨S, AS, ns, cs, AI, ni, ci, AW, nw, cw⟩) (HI.out.up (HB0.out.trans (hu.mono HB0.out.size))) HK.out p (by omega)
  have KF : Hid (∀ u, Below w1.heap.size w1 u → ∀ p, p < M → Calls Tryd.prog 26 #[.agg #[.int .i64 S.st.a, .int .i64 S.st.b, .int .i64 S.st.c, .int .i64 S.yd.a, .int .i64 S.yd.b, .int .i64 S.yd.c, .int .i64 S.rate, .int .i64 S.weeks, .int .i64 S.land, .slice AS ns cs, .slice AI ni ci, .slice AW nw cw], .int .i64 (p : Int)] u fun e w' => e = .returned (fltO (S.fault p)) ∧ Below u.heap.size u w') := Lib.hid fun u hu p hp => rfault_any (X := ⟨S, AS, ns, cs, AI, ni, ci, AW, nw, cw⟩) (HI.out.up (HB0.out.trans (hu.mono HB0.out.size))) HK.out p (by omega)
  have hbe : S.best = bstP S M := by unfold Sto.best bstP; rw [hls, hM]
  have HBE := Lib.hid hbe
  have HBS := Lib.hid fun k => bstP_succ S k
  have HBL := Lib.hid fun k b => bstP_lt (S := S) (k := k) (b := b)
  rw [hM] at h64
  show Calls _ _ _ _ fun e w' => e = .returned (.int .i64 (bsI S.best)) ∧ _
  clear h K z0 hb0 hw1 hls hli hlw n6 hM hbe
  go_enter Tryd.func29, Tryd.ntmps29
  go_wp2_with fail
  rw [HW1.out]
  go_loopw [3, 4] (fun x a wr => ∃ (k : Nat) (o : Option Nat), k ≤ M ∧ a = .int .i64 k ∧ bstP S k = o ∧ x = .int .i64 (bsI o) ∧ Below w1.heap.size w1 wr) (fun _ a _ => M - (intOf a).toNat)
  case atStart => exact ⟨0, none, Nat.zero_le _, rfl, rfl, rfl, Below.refl _ _⟩
  case round =>
    obtain ⟨k, o, hk, rfl, ho, rfl, hbr⟩ := hrel
    have HO := Lib.hid ho; have HBR := Lib.hid hbr
    obtain ⟨⟨s0, s1, s2⟩, ⟨s3, s4, s5⟩, ⟨s6, s7, s8⟩, s9, s10, s11⟩ := sto_box ((hbr.block _ (heapsz Z0.out)).trans Z0.out)
    simp only at s0 s1 s2 s3 s4 s5 s6 s7 s8 s9 s10 s11
    clear ho hbr
    have hks := HBS.out k
    rw [HO.out] at hks
    have HKS := Lib.hid hks
    clear hks
    go_wp2_with fail
    refine (KP.out _).mono ?_
    rintro e w2 ⟨rfl, hb2⟩
    have HB2 := Lib.hid (HBR.out.trans (hb2.mono HBR.out.size))
    clear hb2 s0 s1 s2 s3 s4 s5 s6 s7 s8 s9 s10 s11
    by_cases hlt : k < M
    · have k1 : (k : Int) < (M : Int) := by omega
      have z2 := (HB2.out.block _ (heapsz Z0.out)).trans Z0.out
      have l2 := heapsz z2
      have hp : ∀ u : KeptW w2, _ := fun u => sto_box ((u.h.block _ l2).trans z2)
      have hbu : ∀ u : KeptW w2, Below w1.heap.size w1 u.w := fun u => HB2.out.trans (u.h.mono HB2.out.size)
      have s0 := fun u => (hp u).1.1; have s1 := fun u => (hp u).1.2.1; have s2 := fun u => (hp u).1.2.2
      have s3 := fun u => (hp u).2.1.1; have s4 := fun u => (hp u).2.1.2.1; have s5 := fun u => (hp u).2.1.2.2
      have s6 := fun u => (hp u).2.2.1.1; have s7 := fun u => (hp u).2.2.1.2.1; have s8 := fun u => (hp u).2.2.1.2.2
      have s9 := fun u => (hp u).2.2.2.1; have s10 := fun u => (hp u).2.2.2.2.1; have s11 := fun u => (hp u).2.2.2.2.2
      simp only at s0 s1 s2 s3 s4 s5 s6 s7 s8 s9 s10 s11
      clear hp z2 l2
      cases o with
      | none =>
        obtain ⟨F, hF⟩ : ∃ z, S.fault k = z := ⟨_, rfl⟩
        have hfk := fun u : KeptW w2 => Calls.in_kept u (KF.out u.w (hbu u) k hlt)
        rw [hF] at HKS
        rw [hF] at hfk
        cases F with
        | none =>
          simp only [fltO] at hfk
          have HFk := Lib.hid hfk
          have FL : ∀ u : KeptW w2, (Instr.field 48 (.agg #[.bool false, .int .i64 0, .int .i64 0, .int .i64 0, .int .i64 0]) 0).run Tryd.prog u.w = .ok (.bool false) u.w := fun u => fld48 _ _ _ _ _ u.w
          clear hfk hF hbu
          simp only [bsI]
          go_wp2_with fail
          refine rk_region (by kernel_rfl) (by kernel_rfl) ?_
          repeat (go_big_quiet_step (first | (with_reducible exact HFk.out _) | fail))
          refine wpQuiet_nil ?_
          rintro _ ⟨⟨wz, hbz⟩, rfl⟩
          have HBZ := Lib.hid (HB2.out.trans (hbz.mono HB2.out.size))
          clear hbz s0 s1 s2 s3 s4 s5 s6 s7 s8 s9 s10 s11
          go_wp2_with fail
          exact ⟨⟨k + 1, some k, by omega, by go_num, by rw [HKS.out]; rfl, rfl, HBZ.out⟩, by simp [intOf]; omega⟩
        | some f =>
          simp only [fltO] at hfk
          have HFk := Lib.hid hfk
          have FL : ∀ u : KeptW w2, (Instr.field 48 (.agg #[.bool true, .int .i64 (f.i : Int), .int .i64 (f.n : Int), .int .i64 (f.w : Int), .int .i64 (f.k : Int)]) 0).run Tryd.prog u.w = .ok (.bool true) u.w := fun u => fld48 _ _ _ _ _ u.w
          clear hfk hF hbu
          simp only [bsI]
          go_wp2_with fail
          refine rk_region (by kernel_rfl) (by kernel_rfl) ?_
          repeat (go_big_quiet_step (first | (with_reducible exact HFk.out _) | fail))
          refine wpQuiet_nil ?_
          rintro _ ⟨⟨wz, hbz⟩, rfl⟩
          have HBZ := Lib.hid (HB2.out.trans (hbz.mono HB2.out.size))
          clear hbz s0 s1 s2 s3 s4 s5 s6 s7 s8 s9 s10 s11
          go_wp2_with fail
          exact ⟨⟨k + 1, none, by omega, by go_num, by rw [HKS.out]; rfl, rfl, HBZ.out⟩, by simp [intOf]; omega⟩
      | some y =>
        have hyk : y < M := by have := HBL.out k y HO.out; omega
        have hck := fun u : KeptW w2 => Calls.in_kept u (KC.out u.w (hbu u) k hlt)
        have hcy := fun u : KeptW w2 => Calls.in_kept u (KC.out u.w (hbu u) y hyk)
        obtain ⟨a, ha⟩ : ∃ z, S.cost k = z := ⟨_, rfl⟩
        obtain ⟨b, hb⟩ : ∃ z, S.cost y = z := ⟨_, rfl⟩
        have HA := Lib.hid ha; have HB := Lib.hid hb
        rw [ha] at hck; rw [hb] at hcy
        have HCk := Lib.hid hck; have HCy := Lib.hid hcy
        have y0 : ¬ (y : Int) < 0 := by omega
        clear hck hcy ha hb hyk
        by_cases hab : a < b
        · have hcm : (if S.cost k < S.cost y then some k else some y) = some k := by rw [HA.out, HB.out, if_pos hab]
          have HCM := Lib.hid hcm
          clear hcm
          obtain ⟨F, hF⟩ : ∃ z, S.fault k = z := ⟨_, rfl⟩
          have hfk := fun u : KeptW w2 => Calls.in_kept u (KF.out u.w (hbu u) k hlt)
          rw [hF] at HKS
          rw [hF] at hfk
          cases F with
          | none =>
            simp only [fltO] at hfk
            have HFk := Lib.hid hfk
            have FL : ∀ u : KeptW w2, (Instr.field 48 (.agg #[.bool false, .int .i64 0, .int .i64 0, .int .i64 0, .int .i64 0]) 0).run Tryd.prog u.w = .ok (.bool false) u.w := fun u => fld48 _ _ _ _ _ u.w
            clear hfk hF hbu
            simp only [bsI]
            go_wp2_with fail
            have y1 : ¬ (y : Int) < 0 := by omega
            refine rk_region (by kernel_rfl) (by kernel_rfl) ?_
            repeat (go_big_quiet_step (first | (with_reducible exact HFk.out _) | (with_reducible exact HCk.out _) | (with_reducible exact HCy.out _) | fail))
            refine wpQuiet_nil ?_
            rintro _ ⟨⟨wz, hbz⟩, rfl⟩
            have HBZ := Lib.hid (HB2.out.trans (hbz.mono HB2.out.size))
            clear hbz s0 s1 s2 s3 s4 s5 s6 s7 s8 s9 s10 s11
            go_wp2_with fail
            exact ⟨⟨k + 1, some k, by omega, by go_num, by rw [HKS.out]; exact HCM.out, rfl, HBZ.out⟩, by simp [intOf]; omega⟩
          | some f =>
            simp only [fltO] at hfk
            have HFk := Lib.hid hfk
            have FL : ∀ u : KeptW w2, (Instr.field 48 (.agg #[.bool true, .int .i64 (f.i : Int), .int .i64 (f.n : Int), .int .i64 (f.w : Int), .int .i64 (f.k : Int)]) 0).run Tryd.prog u.w = .ok (.bool true) u.w := fun u => fld48 _ _ _ _ _ u.w
            clear hfk hF hbu
            simp only [bsI]
            go_wp2_with fail
            have y1 : ¬ (y : Int) < 0 := by omega
            refine rk_region (by kernel_rfl) (by kernel_rfl) ?_
            repeat (go_big_quiet_step (first | (with_reducible exact HFk.out _) | (with_reducible exact HCk.out _) | (with_reducible exact HCy.out _) | fail))
            refine wpQuiet_nil ?_
            rintro _ ⟨⟨wz, hbz⟩, rfl⟩
            have HBZ := Lib.hid (HB2.out.trans (hbz.mono HB2.out.size))
            clear hbz s0 s1 s2 s3 s4 s5 s6 s7 s8 s9 s10 s11
            go_wp2_with fail
            exact ⟨⟨k + 1, some y, by omega, by go_num, by rw [HKS.out]; rfl, rfl, HBZ.out⟩, by simp [intOf]; omega⟩
        · have hcm : (if (S.fault k).isNone = true then (if S.cost k < S.cost y then some k else some y) else some y) = some y := by rw [HA.out, HB.out, if_neg hab]; split <;> rfl
          have HCM := Lib.hid hcm
          clear hcm hbu
          simp only [bsI]
          go_wp2_with fail
          have y1 : ¬ (y : Int) < 0 := by omega
          have c1 : ¬ a < b := by omega
          refine rk_region (by kernel_rfl) (by kernel_rfl) ?_
          repeat (go_big_quiet_step (first | (with_reducible exact HCk.out _) | (with_reducible exact HCy.out _) | fail))
          refine wpQuiet_nil ?_
          rintro _ ⟨⟨wz, hbz⟩, rfl⟩
          have HBZ := Lib.hid (HB2.out.trans (hbz.mono HB2.out.size))
          clear hbz s0 s1 s2 s3 s4 s5 s6 s7 s8 s9 s10 s11
          go_wp2_with fail
          exact ⟨⟨k + 1, some y, by omega, by go_num, by rw [HKS.out]; exact HCM.out, rfl, HBZ.out⟩, by simp [intOf]; omega⟩
    · have hkm : k = M := by omega
      have k1 : ¬ (k : Int) < (M : Int) := by omega
      subst hkm
      go_wp2_with fail
      go_ret
      exact ⟨by rw [HBE.out, HO.out]; rfl, HB0.out.trans (HB2.out.mono HB0.out.size)⟩
end Go.Proofs.YtijjkiogmlannaaDoor
