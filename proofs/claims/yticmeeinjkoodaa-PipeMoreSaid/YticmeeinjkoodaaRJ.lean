/- Pipes: sets and lists, by the specification; when loops are due, by the statements. -/
import Derived.Test.YticmeeinjkoodaaRG
namespace Go.Proofs.Yticmeeinjkoodaa
open Go.RowKit Go.Shelf

set_option maxRecDepth 100000 in
set_option maxHeartbeats 8000000 in
theorem has_any {s L : Nat} (hs : s < 32) (hL : L ≤ 5) (w : World) : Calls Try.prog 76 #[.int .i64 s, .int .i64 L] w fun e w' => e = .returned (.bool (s.testBit L)) ∧ w = w' := by
  go_enter Try.func76, Try.ntmps76
  go_wp2_with fail
  go_loopw [0, 5] (fun ss ii wr => ∃ k : Nat, k ≤ L ∧ ss = .int .i64 ((s / 2 ^ k : Nat) : Int) ∧ ii = .int .i64 k ∧ w = wr) (fun _ ii _ => L - (intOf ii).toNat)
  case atStart => exact ⟨0, by omega, by simp, rfl, rfl⟩
  case round =>
    obtain ⟨k, hk, rfl, rfl, rfl⟩ := hrel
    have hle : s / 2 ^ k ≤ s := Nat.div_le_self _ _
    have hss : s / 2 ^ (k + 1) = s / 2 ^ k / 2 := by rw [Nat.pow_succ, Nat.div_div_eq_div_mul]
    have hbt : s.testBit k = decide (s / 2 ^ k % 2 = 1) := Nat.testBit_eq_decide_div_mod_eq
    obtain ⟨x, hx⟩ : ∃ z, s / 2 ^ k = z := ⟨_, rfl⟩
    rw [hx] at hle hss hbt ⊢
    have HSS := Lib.hid hss; have HBT := Lib.hid hbt
    clear hx hss hbt
    have hq : ((x : Int)).tdiv 2 = ((x / 2 : Nat) : Int) := by rw [Int.tdiv_eq_ediv_of_nonneg (by omega)]; rfl
    have hm : ((x : Int)).tmod 2 = ((x % 2 : Nat) : Int) := by rw [Int.tmod_eq_emod_of_nonneg (by omega)]; rfl
    by_cases hlt : k < L
    · have k4 : (k : Int) < (L : Int) := by omega
      have hw : wrap64 ((x / 2 : Nat) : Int) = ((x / 2 : Nat) : Int) := w64 (by omega)
      go_wp2_with fail
      exact ⟨⟨k + 1, by omega, (by rw [HSS.out]; first | rfl | simp [hq, hw] | simp), rfl, by first | rfl | trivial⟩, by simp [intOf]; omega⟩
    · obtain rfl : L = k := by omega
      have k4 : ¬ (L : Int) < (L : Int) := by omega
      have hw : wrap64 ((x % 2 : Nat) : Int) = ((x % 2 : Nat) : Int) := w64 (by omega)
      rcases (show x % 2 = 0 ∨ x % 2 = 1 by omega) with h0 | h0
      all_goals
        have HB : Hid (s.testBit L = decide (x % 2 = 1)) := HBT
        rw [h0] at hm hw HB
        go_wp2_with fail
        go_ret
        refine ⟨by rw [HB.out]; simp [], by first | rfl | trivial⟩
def befB : List Int → List Int → Bool
  | x :: a, y :: b => if x = y then befB a b else decide (x < y)
  | _, _ => false
theorem drop_at {l : List Int} {k : Nat} {x : Int} (h : l[k]? = some x) : l.drop k = x :: l.drop (k + 1) := by
  obtain ⟨hk, hx⟩ := List.getElem?_eq_some_iff.1 h
  rw [List.drop_eq_getElem_cons hk, hx]
set_option maxRecDepth 100000 in
set_option maxHeartbeats 8000000 in
theorem before_any (a b : List Int) (A1 A2 : Option Addr) (n1 c1 n2 c2 : Nat) (w : World) (h1 : a.length = n1) (h2 : b.length = n2) (hn : n1 ≤ 1000) (ha : IntsAt w w.heap.size A1 a) (hb : IntsAt w w.heap.size A2 b) :
    Calls Try.prog 42 #[.slice A1 n1 c1, .slice A2 n2 c2] w fun e w' => e = .returned (.bool (befB a b)) ∧ Below w.heap.size w w' := by
  have HL1 := Lib.hid h1; have HL2 := Lib.hid h2; have HA := Lib.hid ha; have HB := Lib.hid hb
  clear h1 h2 ha hb
  go_enter Try.func42, Try.ntmps42
  go_wp2_with fail
  go_loopw [5] (fun ii wr => ∃ k : Nat, k ≤ n1 ∧ ii = .int .i64 k ∧ befB a b = befB (a.drop k) (b.drop k) ∧ Below w.heap.size w wr) (fun ii _ => n1 - (intOf ii).toNat)
  case atStart => exact ⟨0, by omega, rfl, rfl, Below.refl _ _⟩
  case round =>
    obtain ⟨k, hk, rfl, he, hbr⟩ := hrel
    have HE := Lib.hid he; have HBR := Lib.hid hbr
    clear he
    by_cases hlt : k < n1
    · have k3 : (0 : Int) ≤ (k : Int) := by omega
      have k4 : (k : Int) < (n1 : Int) := by omega
      by_cases hl2 : k < n2
      · have k5 : (k : Int) < (n2 : Int) := by omega
        obtain ⟨x, hx⟩ := get_of_lt (l := a) (k := k) (by rw [HL1.out]; exact hlt)
        obtain ⟨y, hy⟩ := get_of_lt (l := b) (k := k) (by rw [HL2.out]; exact hl2)
        obtain ⟨b1, o1, rfl, hb1, x0⟩ := ints_el HA.out hx
        obtain ⟨b2, o2, rfl, hb2, y0⟩ := ints_el HB.out hy
        have HD : Hid (befB a b = if x = y then befB (a.drop (k + 1)) (b.drop (k + 1)) else decide (x < y)) := Lib.hid (by rw [HE.out, drop_at hx, drop_at hy]; rfl)
        have HC : Hid (∀ u : World, Below w.heap.size w u → u.cell? ⟨b1, o1 + k, none⟩ = some (.int .i64 x) ∧ u.cell? ⟨b2, o2 + k, none⟩ = some (.int .i64 y)) := Lib.hid fun u hu => ⟨((bcell hu).1 _ _ hb1).trans x0, ((bcell hu).1 _ _ hb2).trans y0⟩
        have p0 := fun u : KeptW wr => (HC.out u.w (hbr.trans (u.h.mono hbr.size))).1
        have p1 := fun u : KeptW wr => (HC.out u.w (hbr.trans (u.h.mono hbr.size))).2
        clear hx hy hb1 hb2 x0 y0 hbr
        by_cases hxy : x = y
        all_goals
          go_wp2_with fail
          refine rk_region (by kernel_rfl) (by kernel_rfl) ?_
          repeat (go_big_quiet_step (fail))
          refine wpQuiet_nil ?_
          rintro wv ⟨⟨_, hbv⟩, rfl⟩
          have hbz := HBR.out.trans (hbv.mono HBR.out.size)
          have HBZ := Lib.hid hbz
          clear hbv p0 p1
        · subst hxy
          rw [if_pos rfl] at HD
          clear hbz
          go_wp2_with fail
          exact ⟨⟨k + 1, by omega, rfl, HD.out, HBZ.out⟩, by simp [intOf]; omega⟩
        · rw [if_neg hxy] at HD
          have p0 := fun u : KeptW wv => (HC.out u.w (hbz.trans (u.h.mono hbz.size))).1
          have p1 := fun u : KeptW wv => (HC.out u.w (hbz.trans (u.h.mono hbz.size))).2
          clear hbz
          go_wp2_with fail
          refine rk_region (by kernel_rfl) (by kernel_rfl) ?_
          repeat (go_big_quiet_step (fail))
          refine wpQuiet_nil ?_
          rintro wu ⟨⟨_, hbv⟩, rfl⟩
          have HBU := Lib.hid (HBZ.out.trans (hbv.mono HBZ.out.size))
          clear hbv p0 p1
          go_wp2_with fail
          go_ret
          exact ⟨by rw [HD.out]; rfl, HBU.out⟩
      · have k5 : ¬ (k : Int) < (n2 : Int) := by omega
        have HD : Hid (befB a b = false) := Lib.hid (by
          rw [HE.out, List.drop_of_length_le (l := b) (by rw [HL2.out]; omega)]
          cases a.drop k <;> rfl)
        clear hbr
        go_wp2_with fail
        go_ret
        exact ⟨by rw [HD.out]; rfl, HBR.out⟩
    · obtain rfl : n1 = k := by omega
      have k4 : ¬ (n1 : Int) < (n1 : Int) := by omega
      have HD : Hid (befB a b = false) := Lib.hid (by
        rw [HE.out, List.drop_of_length_le (l := a) (by rw [HL1.out]; omega)]
        rfl)
      clear hbr
      go_wp2_with fail
      go_ret
      exact ⟨by rw [HD.out]; rfl, HBR.out⟩
def dueN (N : Nt) (k : Nat) : List Int := (List.range k).map fun i => N.due 0 i
theorem dueN_succ (N : Nt) (k : Nat) : dueN N (k + 1) = dueN N k ++ [N.due 0 k] := by
  unfold dueN
  rw [List.range_succ, List.map_append]
  rfl
set_option maxRecDepth 100000 in
set_option maxHeartbeats 8000000 in
theorem dues_any (V : NV) (N : Nt) (w : World) (hN : NtAt w w.heap.size V N) (hK : NtOk N) :
    Calls Try.prog 40 #[nvV V] w fun e w' => ∃ v, e = .returned (.tuple #[v, .bool true]) ∧ Below w.heap.size w w' ∧ RowIs intR 3 w.heap.size (dueN N N.lo.length) v w' := by
  have HK := Lib.hid hK
  have z := heap_alloc_new w (.cells (nvC V) 26)
  have hb := (Below.refl w.heap.size w).alloc (Nat.le_refl _) (.cells (nvC V) 26)
  obtain ⟨w1, hw1⟩ : ∃ z, w.alloc (.cells (nvC V) 26) = z := ⟨_, rfl⟩
  rw [hw1] at z hb
  have HW := Lib.hid hw1
  have HN := Lib.hid (hN.up hb)
  obtain ⟨al, nl, cl, af, nf, cf, aw, nw, cw⟩ := V
  obtain ⟨v0, v1, v2⟩ := box3_cells z
  have hml := hN.ml; have hmf := hN.mf; have hmw := hN.mw
  unfold maxLen at hml hmf hmw
  simp only at hml hmf hmw v0 v1 v2
  have HB := Lib.hid hb; have Z := Lib.hid z
  have HNL := Lib.hid hN.nl; have HNF := Lib.hid hN.nf; have HNW := Lib.hid hN.nw
  clear z hb hw1 hN
  clear hK
  have hnl5 : nl ≤ 5 := by have h1 := HNL.out; have h2 := HK.out.n5; first | omega | (simp only at h1; omega)
  have hnf72 : nf ≤ 72 := by have h1 := HNF.out; have h2 := HK.out.h72; first | omega | (simp only at h1; omega)
  obtain ⟨i0, hi0, hz0, hz1, hz2⟩ := info_parts int_info
  go_enter Try.func40, Try.ntmps40
  go_wp2_with fail
  rw [show w.alloc (.cells #[.slice al nl cl, .slice af nf cf, .slice aw nw cw] 26) = w1 from HW.out]
  go_loopw [4, 5, 6, 7, 8] (fun vv ii _ _ _ wr => ∃ k : Nat, k ≤ nl ∧ ii = .int .i64 k ∧ Below w1.heap.size w1 wr ∧ wr.ownsRow w1.heap.size 3 1 vv k (flatR intR (dueN N k))) (fun _ ii _ _ _ _ => nl - (intOf ii).toNat)
  case atStart => exact ⟨0, by omega, rfl, Below.refl _ _, World.ownsRow_nil _ _ _ _⟩
  case round =>
    obtain ⟨k, hk, rfl, hbr, hown⟩ := hrel
    have HBR := Lib.hid hbr; have HOWN := Lib.hid hown
    have t0 := ((bcell hbr).1 _ _ (heapsz Z.out)).trans v0
    have t1 := ((bcell hbr).1 _ _ (heapsz Z.out)).trans v1
    have t2 := ((bcell hbr).1 _ _ (heapsz Z.out)).trans v2
    clear hown v0 v1 v2
    by_cases hlt : k < nl
    · have k4 : (k : Int) < (nl : Int) := by omega
      have hkl : k < N.lo.length := by rw [HNL.out]; exact hlt
      have hlb : loopB N (k : Int) = true := by unfold loopB; rw [ntB_iff.2 HK.out, inB_iff.2 ⟨by omega, by omega⟩]; rfl
      have hat : N.at (k : Int) = N.lo.getD k lp0 := by unfold Nt.at; rw [Int.toNat_natCast]
      have hfz := frz_in (N.lo.getD k lp0) false N.fr 0
      have HD : Hid (N.due 0 k = if 0 ≤ frzI (N.lo.getD k lp0) false N.fr 0 then frzI (N.lo.getD k lp0) false N.fr 0 - 1 else N.fr.length) := Lib.hid (by unfold Nt.due dueI; rw [Nat.zero_testBit])
      have HFZ := Lib.hid (Freezes_any ⟨al, nl, cl, af, nf, cf, aw, nw, cw⟩ N k wr (HN.out.up hbr))
      rw [show frzA N (k : Int) = frzI (N.lo.getD k lp0) false N.fr 0 by unfold frzA; rw [if_pos hlb, hat], show loopI N (k : Int) = 0 by unfold loopI; rw [if_pos hlb]] at HFZ
      obtain ⟨a, ha⟩ : ∃ z, frzI (N.lo.getD k lp0) false N.fr 0 = z := ⟨_, rfl⟩
      obtain ⟨a2, ha2⟩ : ∃ z, frzB N (k : Int) = z := ⟨_, rfl⟩
      rw [ha, ha2] at HFZ
      rw [ha] at hfz HD
      rw [HNF.out] at hfz HD
      have HS := Lib.hid (dueN_succ N k)
      clear hkl hlb hat ha ha2 hbr
      go_wp2_with fail
      refine HFZ.out.mono ?_
      rintro e w2 ⟨rfl, hb2⟩
      have r1 := ((bcell hb2).1 _ _ (Nat.lt_of_lt_of_le (heapsz Z.out) HBR.out.size)).trans t1
      have HOW := Lib.hid (own_next HOWN.out hb2)
      have HBU := Lib.hid (HBR.out.trans (hb2.mono HBR.out.size))
      have hsz : w1.heap.size ≤ w2.heap.size := HBU.out.size
      clear hb2 HFZ t0 t1 t2
      rcases hfz with rfl | ⟨ha1, ha2⟩
      · rw [if_neg (by omega)] at HD
        go_wp2_with (first
          | (at_builtin
             refine wpList_append_own _ rfl _ _ 57 rfl w1.heap.size 3 i0 _ 1 8 Try.underlying57 hi0 hz0 hz1 hz2 rfl (by decide) _ _ _ rfl (own_next HOW.out ((Below.refl _ w2).alloc (Nat.le_refl _) _)) ⟨w2.heap.size, 0, none⟩ 1 1 [.int .i64 (nf : Int)] rfl rfl (cells_new w2 [.int .i64 (nf : Int)] 3) (by simp [Value.oneCell']) (by unfold maxLen; omega) (by omega) (by simp; omega) ?_
             intro v' w6 hown6 hgr6 hnil6)
          | fail)
        refine ⟨⟨k + 1, by omega, rfl, ?_, ?_⟩, by simp [intOf]; omega⟩
        · have hb6 : Below w1.heap.size w1 (w2.alloc (.cells #[.int .i64 (nf : Int)] 3)) := HBU.out.alloc hsz _
          exact hb6.grown hgr6 hb6.size (fun q e => (own_at HOW.out e).1)
        · rw [HS.out, flatR_snoc, HD.out]
          exact hown6
      · rw [if_pos (by omega)] at HD
        have c1 : ¬ a < -1 := by omega
        have c2 : ¬ a = 0 := by omega
        have c3 : ¬ (nf : Int) < a := by omega
        have c4 : ¬ a < 0 := by omega
        go_wp2_with (first
          | (at_builtin
             refine wpList_append_own _ rfl _ _ 57 rfl w1.heap.size 3 i0 _ 1 8 Try.underlying57 hi0 hz0 hz1 hz2 rfl (by decide) _ _ _ rfl (own_next HOW.out ((Below.refl _ w2).alloc (Nat.le_refl _) _)) ⟨w2.heap.size, 0, none⟩ 1 1 [.int .i64 (a - 1)] rfl rfl (cells_new w2 [.int .i64 (a - 1)] 3) (by simp [Value.oneCell']) (by unfold maxLen; omega) (by omega) (by simp; omega) ?_
             intro v' w6 hown6 hgr6 hnil6)
          | fail)
        all_goals try (exfalso; rename_i hx; simp at hx; omega)
        refine ⟨⟨k + 1, by omega, rfl, ?_, ?_⟩, by simp [intOf]; omega⟩
        · have hb6 : Below w1.heap.size w1 (w2.alloc (.cells #[.int .i64 (a - 1)] 3)) := HBU.out.alloc hsz _
          exact hb6.grown hgr6 hb6.size (fun q e => (own_at HOW.out e).1)
        · rw [HS.out, flatR_snoc, HD.out]
          exact hown6
    · obtain rfl : nl = k := by omega
      have k4 : ¬ (nl : Int) < (nl : Int) := by omega
      have hro : RowIs intR 3 w1.heap.size (dueN N nl) u4 wr := RowIs.of_own (by
        have := HOWN.out
        rwa [show (dueN N nl).length = nl by simp [dueN]])
      have HRO := Lib.hid (hro.low HB.out.size)
      clear hbr hro
      go_wp2_with fail
      exact bodyPost_ret (v := .tuple #[u4, .bool true]) (by simp [results, Try.results40, go_sem]) rfl ⟨_, rfl, HB.out.trans (HBR.out.mono HB.out.size), by rw [HNL.out]; exact HRO.out⟩
end Go.Proofs.Yticmeeinjkoodaa
