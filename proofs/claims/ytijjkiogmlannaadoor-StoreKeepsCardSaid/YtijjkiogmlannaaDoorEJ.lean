/- Stores: the statements' own run of a store. -/
import Derived.Test.YtijjkiogmlannaaDoorEI
namespace Go.Proofs.YtijjkiogmlannaaDoor
open Go.RowKit

def rho2 (cv : Tmp → Value) (g : GhE) (t : Tmp) : Value := if t = 160 then g.b 0 else if t = 161 then g.c 0 else if t = 165 then g.b 1 else if t = 166 then g.c 1 else cv t
theorem rho2_b0 {cv : Tmp → Value} {g : GhE} (t : Tmp) (b' : Value) (h : t ≠ 160) : rho2 cv { g with b := updV g.b 0 b' } t = rho2 cv g t := by
  unfold rho2
  rw [if_neg h, if_neg h]
  rfl
theorem rho2_c0 {cv : Tmp → Value} {g : GhE} (t : Tmp) (b' : Value) (h : t ≠ 161) : rho2 cv { g with c := updV g.c 0 b' } t = rho2 cv g t := by
  unfold rho2
  simp only [if_neg h]
  rfl
theorem rho2_b1 {cv : Tmp → Value} {g : GhE} (t : Tmp) (b' : Value) (h : t ≠ 165) : rho2 cv { g with b := updV g.b 1 b' } t = rho2 cv g t := by
  unfold rho2
  simp only [if_neg h]
  rfl
theorem rho2_c1 {cv : Tmp → Value} {g : GhE} (t : Tmp) (b' : Value) (h : t ≠ 166) : rho2 cv { g with c := updV g.c 1 b' } t = rho2 cv g t := by
  unfold rho2
  simp only [if_neg h]
  rfl
def grCv (ob kb lb : Nat) (sv lv : Value) (T L : Gd) : Tmp → Value
  | 10 => .pointer (some ⟨ob, 0, none⟩)
  | 11 => .pointer (some ⟨kb, 0, none⟩)
  | 18 => .pointer (some ⟨lb, 0, none⟩)
  | 157 => .pointer (some ⟨ob, 1, none⟩)
  | 158 => sv
  | 159 => gV T
  | 162 => .pointer (some ⟨ob, 2, none⟩)
  | 163 => lv
  | 164 => gV L
  | 167 => .pointer (some ⟨ob, 1, none⟩)
  | 168 => .pointer (some ⟨ob, 2, none⟩)
  | _ => undef
set_option maxRecDepth 1000000 in
set_option maxHeartbeats 40000000 in
theorem rrun_any {X : SX} {w : World} (h : X.In w) (K : X.S.Ok) (p i n : Nat) (hp : p ≤ 1000000) (hi : i < X.ni) (hn : n < X.nw) : Calls Tryd.prog 21 #[X.v, .int .i64 (p : Int), .int .i64 (i : Int), .int .i64 (n : Int)] w fun e w' => ∃ D A2 c2 A3 c3, e = .returned (.agg #[.slice (some ⟨D, 0, none⟩) X.ns X.ns, .slice A2 (X.S.run p (X.S.ices.getD i []) (X.S.wins.getD n [])).stocks.length c2, .slice A3 (X.S.run p (X.S.ices.getD i []) (X.S.wins.getD n [])).lacks.length c3]) ∧ Below w.heap.size w w' ∧
    GdsAt w' w'.heap.size (some ⟨D, 0, none⟩) (X.S.run p (X.S.ices.getD i []) (X.S.wins.getD n [])).ld ∧ GdsAt w' w'.heap.size A2 (X.S.run p (X.S.ices.getD i []) (X.S.wins.getD n [])).stocks ∧ GdsAt w' w'.heap.size A3 (X.S.run p (X.S.ices.getD i []) (X.S.wins.getD n [])).lacks := by
  have n6 := K.n6
  rcases X with ⟨S, AS, ns, cs, AI, ni, ci, AW, nw, cw⟩
  obtain ⟨z0, hb0⟩ := sto_new ⟨S, AS, ns, cs, AI, ni, ci, AW, nw, cw⟩ w
  obtain ⟨w1, hw1⟩ : ∃ z, w.alloc (.cells (SX.cells ⟨S, AS, ns, cs, AI, ni, ci, AW, nw, cw⟩) 28) = z := ⟨_, rfl⟩
  rw [hw1] at z0 hb0
  have hls := h.hs
  simp only at hls n6 hi hn K
  obtain ⟨ice, hice⟩ : ∃ z, S.ices.getD i [] = z := ⟨_, rfl⟩
  obtain ⟨win, hwin⟩ : ∃ z, S.wins.getD n [] = z := ⟨_, rfl⟩
  obtain ⟨lk, hlk⟩ : ∃ lk : Nat, S.land.toNat = lk := ⟨_, rfl⟩
  obtain ⟨wk, hwk⟩ : ∃ wk : Nat, S.weeks = (wk : Int) := ⟨S.weeks.toNat, by have := K.weeks; omega⟩
  have hwk30 : wk ≤ 30 := by have := K.weeks; omega
  have ns6 : ns ≤ 6 := by omega
  show Calls _ _ _ _ fun e w' => ∃ D A2 c2 A3 c3, e = .returned (.agg #[.slice (some ⟨D, 0, none⟩) ns ns, .slice A2 (S.run p (S.ices.getD i []) (S.wins.getD n [])).stocks.length c2, .slice A3 (S.run p (S.ices.getD i []) (S.wins.getD n [])).lacks.length c3]) ∧ Below w.heap.size w w' ∧
    GdsAt w' w'.heap.size (some ⟨D, 0, none⟩) (S.run p (S.ices.getD i []) (S.wins.getD n [])).ld ∧ GdsAt w' w'.heap.size A2 (S.run p (S.ices.getD i []) (S.wins.getD n [])).stocks ∧ GdsAt w' w'.heap.size A3 (S.run p (S.ices.getD i []) (S.wins.getD n [])).lacks
  rw [hice, hwin]
  have al1 := (Below.refl w1.heap.size w1).alloc (Nat.le_refl _) (.cells #[.slice none 0 0, .slice none 0 0, .slice none 0 0] 35)
  have z8 := heap_alloc_new w1 (.cells #[.slice none 0 0, .slice none 0 0, .slice none 0 0] 35)
  obtain ⟨w2, hw2⟩ : ∃ z, w1.alloc (.cells #[.slice none 0 0, .slice none 0 0, .slice none 0 0] 35) = z := ⟨_, rfl⟩
  rw [hw2] at al1 z8
  have HB0 := Lib.hid (hb0.trans (al1.mono hb0.size)); have Z0 := Lib.hid ((al1.block _ (heapsz z0)).trans z0); have Z8 := Lib.hid z8
  have HI := Lib.hid h; have HK := Lib.hid K; have HW1 := Lib.hid hw1; have HW2 := Lib.hid hw2
  have h18 : w.heap.size < w1.heap.size := heapsz z0
  have KQ : Hid (Calls Tryd.prog 52 #[.agg #[.int .i64 S.st.a, .int .i64 S.st.b, .int .i64 S.st.c, .int .i64 S.yd.a, .int .i64 S.yd.b, .int .i64 S.yd.c, .int .i64 S.rate, .int .i64 S.weeks, .int .i64 S.land, .slice AS ns cs, .slice AI ni ci, .slice AW nw cw], .int .i64 (p : Int), .int .i64 (i : Int)] w2 fun e w' => ∃ v, e = .returned v ∧ Below w2.heap.size w2 w' ∧ w'.ownsRow w2.heap.size 3 1 v (S.queue p ice lk).length (qsL (S.queue p ice lk))) := Lib.hid (by
    have := rqueue_any (h.up HB0.out) K p i hp hi
    simp only at this
    rw [hice, hlk] at this
    exact this)
  have HICE := Lib.hid hice; have HWIN := Lib.hid hwin; have HLK := Lib.hid hlk; have HWK := Lib.hid hwk
  obtain ⟨⟨s0, s1, s2⟩, ⟨s3, s4, s5⟩, ⟨s6, s7, s8⟩, s9, s10, s11⟩ := sto_box Z0.out
  simp only at s0 s1 s2 s3 s4 s5 s6 s7 s8 s9 s10 s11
  have HLS := Lib.hid hls
  clear h K z0 hb0 hw1 hice hwin hlk hls hw2 al1 z8 hwk
  go_enter Tryd.func21, Tryd.ntmps21
  go_wp2_with fail
  rw [HW1.out, HW2.out]
  refine KQ.out.mono ?_
  rintro e w3 ⟨qv, rfl, hb3, hown⟩
  have HB3 := Lib.hid (HB0.out.trans (hb3.mono HB0.out.size)); have Z3 := Lib.hid ((hb3.block _ (heapsz Z0.out)).trans Z0.out); have Z83 := Lib.hid ((hb3.block _ (heapsz Z8.out)).trans Z8.out); have HOW := Lib.hid hown; have hb3' := Lib.hid hb3; have Z80 := Z8
  clear s0 s1 s2 s3 s4 s5 s6 s7 s8 s9 s10 s11 hb3 hown Z0 Z8
  obtain ⟨⟨s0, s1, s2⟩, ⟨s3, s4, s5⟩, ⟨s6, s7, s8⟩, s9, s10, s11⟩ := sto_box Z3.out
  simp only at s0 s1 s2 s3 s4 s5 s6 s7 s8 s9 s10 s11
  obtain ⟨i0, ji0, hz0, hz1, hz2⟩ := info_parts goods_info
  have hmk := fun W : World => run_make (P := Tryd.prog) 33 23 i0 _ Tryd.underlying33 ji0 hz0 .i64 .i64 (ns : Int) (ns : Int) (by omega) (by omega) (by rw [hz2]; omega) (by omega) (w := W)
  simp only [Int.toNat_natCast, hz1] at hmk
  have hmk3 := hmk w3
  have hz3 : w.heap.size < w3.heap.size := heapsz Z3.out
  clear hmk
  go_wp2_with fail
  obtain ⟨m0, m1, m2, mb⟩ := three_new w3 (.cells (flatR gR (List.replicate ns z3)).toArray 23) (.cells #[.slice (some ⟨w3.heap.size, 0, none⟩) ns ns, .slice none 0 0, .slice none 0 0] 35) (.cells #[.int .i64 S.st.a, .int .i64 S.st.b, .int .i64 S.st.c] 23)
  rw [made_goods]
  obtain ⟨w6, hw6⟩ : ∃ z, ((w3.alloc (.cells (flatR gR (List.replicate ns z3)).toArray 23)).alloc (.cells #[.slice (some ⟨w3.heap.size, 0, none⟩) ns ns, .slice none 0 0, .slice none 0 0] 35)).alloc (.cells #[.int .i64 S.st.a, .int .i64 S.st.b, .int .i64 S.st.c] 23) = z := ⟨_, rfl⟩
  rw [hw6] at m0 m1 m2 mb
  rw [hw6]
  have hw8 : w.heap.size + 1 = w1.heap.size := by rw [← HW1.out]; simp
  obtain ⟨C, hC⟩ : ∃ z : RQ, (⟨⟨S, AS, ns, cs, AI, ni, ci, AW, nw, cw⟩, w.heap.size, w3.heap.size + 1, w3.heap.size + 1 + 1, w3.heap.size, w2, S.queue p ice lk⟩ : RQ) = z := ⟨_, rfl⟩
  have hsz23 : w2.heap.size ≤ w3.heap.size := hb3'.out.size
  have HCK : Hid C.Ok := Lib.hid (by subst hC; exact ⟨by show w2.heap.size ≤ w3.heap.size + 1; omega, by show w2.heap.size ≤ w3.heap.size + 1 + 1; omega, hsz23⟩)
  have HRR0 : Hid (RR C (S.runN p ice win 0).st (S.runN p ice win 0).ld (S.runN p ice win 0).stocks (S.runN p ice win 0).lacks qv (.slice none 0 0) (.slice none 0 0) w6) := Lib.hid (by
    subst hC
    exact ⟨hb3'.out.trans (mb.mono hsz23), (mb.block _ (heapsz Z3.out)).trans Z3.out, m1, m2, by show w6.heap[w3.heap.size]? = some (.cells (flatR gR (List.replicate S.ships.length z3)).toArray 23 (0, 0)); rw [HLS.out]; exact m0, by show (List.replicate S.ships.length z3).length = ns; rw [List.length_replicate, HLS.out],
      own_next HOW.out mb, World.ownsRow_nil _ _ _ _, World.ownsRow_nil _ _ _ _, by simp [Value.ownBlock], by simp [Value.ownBlock], by simp [Value.ownBlock], by simp [Value.ownBlock], fun b hb => by simp [Value.ownBlock] at hb, by show w3.heap.size + 1 + 1 ≠ w3.heap.size; omega⟩)
  have HCX : Hid (C.X = ⟨S, AS, ns, cs, AI, ni, ci, AW, nw, cw⟩ ∧ C.w0 = w2 ∧ C.q = S.queue p ice lk) := Lib.hid (by subst hC; exact ⟨rfl, rfl, rfl⟩)
  have HCP : Hid (C.zb = w.heap.size ∧ C.ob = w3.heap.size + 1 ∧ C.kb = w3.heap.size + 1 + 1 ∧ C.D = w3.heap.size) := Lib.hid (by subst hC; exact ⟨rfl, rfl, rfl, rfl⟩)
  have HCI : Hid (C.X.In C.w0) := Lib.hid (by subst hC; exact HI.out.up HB0.out)
  have HCO : Hid C.X.S.Ok := Lib.hid (by subst hC; exact HK.out)
  have hZ8 := HCP.out
  obtain ⟨e1, e2, e3, e4⟩ := hZ8
  obtain ⟨b8, hb8⟩ : ∃ z, w.heap.size + 1 = z := ⟨_, rfl⟩
  rw [hw8] at hb8
  have HZ8 : Hid (w2.heap[b8]? = some (.cells #[.slice none 0 0, .slice none 0 0, .slice none 0 0] 35 (0, 0))) := Lib.hid (by rw [← hb8]; exact Z80.out)
  have hb82 := heapsz HZ8.out
  have HW8 : Hid (w.heap.size ≤ b8) := Lib.hid (by omega)
  rw [hw8, hb8, ← e3, ← e2, ← e4, ← e1]
  clear m0 m1 m2 mb hw6 hC s0 s1 s2 s3 s4 s5 s6 s7 s8 s9 s10 s11 hmk3 hz3 e1 e2 e3 e4 hw8 hb8 hb82 hsz23 h18
  go_loopw [12] (fun v wr => ∃ k : Nat, k ≤ wk ∧ v = .int .i64 k ∧ ∃ sv lv, RR C (S.runN p ice win k).st (S.runN p ice win k).ld (S.runN p ice win k).stocks (S.runN p ice win k).lacks qv sv lv wr) (fun v _ => wk - (intOf v).toNat)
  case atStart => exact ⟨0, Nat.zero_le _, rfl, _, _, HRR0.out⟩
  case round =>
    rename World => wt
    obtain ⟨k, hk, rfl, sv, lv, hrr⟩ := hrel
    have HRR := Lib.hid hrr
    obtain ⟨⟨s0, s1, s2⟩, ⟨s3, s4, s5⟩, ⟨s6, s7, s8⟩, s9, s10, s11⟩ := sto_box hrr.box
    rw [HCX.out.1] at s0 s1 s2 s3 s4 s5 s6 s7 s8 s9 s10 s11
    simp only at s0 s1 s2 s3 s4 s5 s6 s7 s8 s9 s10 s11
    rw [HWK.out] at s7
    clear hrr
    by_cases hlt : k < wk
    · have k1 : (k : Int) < (wk : Int) := by omega
      have hwl : win.length = wk := by
        have := (HK.out.wins win (by rw [← HWIN.out, List.getD_eq_getElem?_getD]; obtain ⟨x, hx⟩ := get_of_lt (l := S.wins) (k := n) (by have := HI.out.hw; simp only at this; omega); rw [hx]; exact List.mem_of_getElem? hx)).1
        have h2 := HWK.out
        omega
      have hwa : ∀ g ∈ win, amtB 1000 g = true := by
        exact (HK.out.wins win (by rw [← HWIN.out, List.getD_eq_getElem?_getD]; obtain ⟨x, hx⟩ := get_of_lt (l := S.wins) (k := n) (by have := HI.out.hw; simp only at this; omega); rw [hx]; exact List.mem_of_getElem? hx)).2
      have hrn := runN_ok HK.out (plan := p) (ice := ice) hwa k
      have HSC := Lib.hid (S.runN_succ p ice win k)
      obtain ⟨r, hr⟩ : ∃ z, S.runN p ice win k = z := ⟨_, rfl⟩
      rw [hr] at HRR HSC hrn
      have hld := hrn.ld
      have hlan := landed_ok (plan := p) (ice := ice) (w := k) hld
      have HRN := Lib.hid hrn; have HLD := Lib.hid hld; have HLAN := Lib.hid hlan; have HWL := Lib.hid hwl
      clear hr hrn hld hlan hwl hwa s0 s1 s2 s3 s4 s5 s8 s9 s10 s11
      go_wp2_with fail
      refine (fun (h : ∀ C : Code, C = bodyRQ → Code.wp Tryd.prog (Code.loop C) _ _ _) => h _ (by kernel_rfl)) ?_
      rintro _ rfl
      have hrt : S.rate = C.X.S.rate := by rw [HCX.out.1]
      rw [hrt]
      refine loopRQ C HCK.out HCI.out HCO.out p i k ice r (by rw [HCX.out.1]; exact hi) (by rw [HCX.out.1]; exact HICE.out) (by rw [HCX.out.2.2, HCX.out.1, HLK.out]) (by rw [HCX.out.1]; show LdOk S.yd S.cg ns _; have := HLS.out; rw [← this]; exact HLD.out) (by omega) _ _ qv sv lv _ HRR.out ?_
      intro w7
      intros
      rename_i h7
      rw [← hrt]
      rw [HCX.out.1] at h7
      have H7 := Lib.hid h7
      clear h7 HRR s6 s7 hrt
      have al := (Below.refl w7.heap.size w7).alloc (Nat.le_refl _) (.cells #[.int .i64 0, .int .i64 0, .int .i64 0] 23)
      have zl := heap_alloc_new w7 (.cells #[.int .i64 0, .int .i64 0, .int .i64 0] 23)
      obtain ⟨wa, hwa⟩ : ∃ z, w7.alloc (.cells #[.int .i64 0, .int .i64 0, .int .i64 0] 23) = z := ⟨_, rfl⟩
      rw [hwa] at al zl
      have HWA := Lib.hid hwa; have HAL := Lib.hid al; have HZL := Lib.hid zl
      clear hwa al zl
      go_wp2_with fail
      rw [HWA.out]
      refine (fun (h : ∀ C : Code, C = bodyRN → Code.wp Tryd.prog (Code.loop C) _ _ _) => h _ (by kernel_rfl)) ?_
      rintro _ rfl
      have hR7 := H7.out
      refine loopRN C HCK.out HCI.out HCO.out (S.landed p ice r k).st (by
          have h1 := HLAN.out.st0; have h2 := HLAN.out.sty; have h3 := amtB_iff.1 HK.out.yd
          exact amtB_iff.2 (by omega)) w7.heap.size n k win (by rw [HCX.out.1]; exact hn) (by rw [HCX.out.1]; exact HWIN.out) (by rw [HWL.out]; exact hlt) (S.landed p ice r k).ld r.stocks r.lacks qv sv lv _ (hR7.below HAL.out) HZL.out (Nat.le_of_lt (Nat.lt_of_le_of_lt HCK.out.kb (heapsz hR7.stk))) (by have := heapsz hR7.stk; omega) (by have := heapsz hR7.lnd; omega) (fun e => by have := (own_size hR7.so e).2; omega) (fun e => by have := (own_size hR7.lo e).2; omega) ?_
      intro w8
      intros
      rename_i h8
      have H8 := Lib.hid h8
      clear h8 hR7
      obtain ⟨Lg, hLg⟩ : ∃ z, S.landed p ice r k = z := ⟨_, rfl⟩
      rw [hLg] at H8
      have HLg := Lib.hid hLg
      obtain ⟨T, hT⟩ : ∃ z, takG (win.getD k z3) Lg.st = z := ⟨_, rfl⟩
      obtain ⟨L, hL⟩ : ∃ z, lacG (win.getD k z3) Lg.st = z := ⟨_, rfl⟩
      have HTL := Lib.hid (And.intro hT hL)
      rw [hT, hL] at H8
      have HR8 := Lib.hid H8.out.1; have HL8 := Lib.hid H8.out.2
      have HLBN : Hid (w7.heap.size ≠ C.kb ∧ sv.ownBlock ≠ some w7.heap.size ∧ lv.ownBlock ≠ some w7.heap.size ∧ w7.heap.size ≠ C.ob) := Lib.hid ⟨by have := heapsz H7.out.stk; omega, fun e => by have := (own_size H7.out.so e).2; omega, fun e => by have := (own_size H7.out.lo e).2; omega, by have := heapsz H7.out.out; omega⟩
      obtain ⟨lb, hlb⟩ : ∃ z, w7.heap.size = z := ⟨_, rfl⟩
      rw [hlb] at HLBN HL8
      rw [hlb]
      clear hLg hT hL H8 hlb HAL HZL HWA H7
      have hkc := g_cells HR8.out.stk
      have hlc := g_cells HL8.out
      have HKC := Lib.hid hkc; have HLC := Lib.hid hlc
      clear hkc hlc
      go_wp2_with fail
      have HLT : Hid (C.kb < w8.heap.size ∧ C.kb ≠ C.ob ∧ (∀ j, j < 2 → (two2 sv lv j).ownBlock ≠ some C.kb) ∧ True) := Lib.hid ⟨heapsz HR8.out.stk, ne_type HR8.out.stk HR8.out.out (by decide), fun j hj => by
        match j, hj with
        | 0, _ => exact HR8.out.sk
        | 1, _ => exact HR8.out.lk, trivial⟩
      have HLB : Hid (lb < w8.heap.size ∧ lb ≠ C.ob ∧ (∀ j, j < 2 → (two2 sv lv j).ownBlock ≠ some lb) ∧ True) := Lib.hid ⟨heapsz HL8.out, HLBN.out.2.2.2, fun j hj => by
        match j, hj with
        | 0, _ => exact HLBN.out.2.1
        | 1, _ => exact HLBN.out.2.2.1, trivial⟩
      have HSL : Hid (r.stocks.length + 1 ≤ 1000) := Lib.hid (by rw [HRN.out.sl]; omega)
      have hll : r.lacks.length = r.stocks.length := by rw [HRN.out.sl, HRN.out.ll]
      have hXns : C.X.ns = ns := by rw [HCX.out.1]
      have HXN := Lib.hid hXns; have HLL := Lib.hid hll
      clear hXns hll
      refine wp_region_any (by kernel_rfl) (plan_guarded_any (γ := GhE) [10, 11, 18] (rho2 (grCv C.ob C.kb lb sv lv T L)) (S2E ⟨w8, C.w0.heap.size, C.ob, .slice (some ⟨C.D, 0, none⟩) C.X.ns C.X.ns, r.stocks.length, two2 sv lv, two2 (flatR gR r.stocks) (flatR gR r.lacks), two2 T L⟩) ⟨fun _ => undef, fun _ => undef⟩ (by kernel_rfl) (by kernel_rfl) (by kernel_rfl) (by kernel_rfl) ?_ ?_ ?_ ?_)
      · intro t ht
        simp only [List.mem_cons, List.not_mem_nil, or_false] at ht
        rcases ht with rfl | rfl | rfl <;> rfl
      · refine S2E.start HR8.out.out (fun j hj => ?_) HR8.out.sl HR8.out.bel.size
        match j, hj with
        | 0, _ => exact HR8.out.so
        | 1, _ => have := HR8.out.lo; rw [HLL.out] at this; exact this
      · refine allOps_array ?_
        refine ⟨?_, ?_, ?_, ?_, ?_, ?_, ?_, ?_, ?_, ?_, ?_, ?_, ?_, ?_, trivial⟩ <;> intro done g u hS hu hdep _
        · refine quiet2 hS 157 rfl (by intro j hj; omega) rfl ?_
          simp [go_sem, evalBy, rho2, grCv]
        · have hd : done 11 = false := by
            cases hd : done 11 with
            | false => rfl
            | true => have := (hS.ord 0 (by decide) hd).2.1; rw [hu] at this; cases this
          have r1 := cell_of_row u C.ob 1 _ 35 (0, 0) hS.box
          simp [s2E, hd, two2] at r1
          refine quiet2 hS 158 rfl (by intro j hj; omega) rfl ?_
          simp [go_sem, evalBy, rho2, grCv, r1]
        · have r0 := (hS.cell (o := 0) HLT.out.1 HLT.out.2.1 HLT.out.2.2.1).trans HKC.out.1; have r1 := (hS.cell (o := 1) HLT.out.1 HLT.out.2.1 HLT.out.2.2.1).trans HKC.out.2.1; have r2 := (hS.cell (o := 2) HLT.out.1 HLT.out.2.1 HLT.out.2.2.1).trans HKC.out.2.2
          refine quiet2 hS 159 rfl (by intro j hj; omega) rfl ?_
          simp [go_sem, evalBy, rho2, grCv, r0, r1, r2]
        · refine build2 hS (j := 0) (by decide) 160 rfl rfl rfl (by simp [go_sem, evalBy, rho2, grCv, two2]) (fun _ => rfl) (fun t b' h => rho2_b0 t b' h)
        · refine append2 hS (j := 0) (by decide) 161 rfl rfl hu (hdep ⟨3, .data⟩ (by simp) rfl) rfl 158 160 rfl rfl rfl HSL.out (fun _ => rfl) (fun t b' h => rho2_c0 t b' h)
        · refine quiet2 hS 162 rfl (by intro j hj; omega) rfl ?_
          simp [go_sem, evalBy, rho2, grCv]
        · have hd : done 13 = false := by
            cases hd : done 13 with
            | false => rfl
            | true => have := (hS.ord 1 (by decide) hd).2.2; rw [hu] at this; cases this
          have r1 := cell_of_row u C.ob 2 _ 35 (0, 0) hS.box
          simp [s2E, hd, two2] at r1
          refine quiet2 hS 163 rfl (by intro j hj; omega) rfl ?_
          simp [go_sem, evalBy, rho2, grCv, r1]
        · have r0 := (hS.cell (o := 0) HLB.out.1 HLB.out.2.1 HLB.out.2.2.1).trans HLC.out.1; have r1 := (hS.cell (o := 1) HLB.out.1 HLB.out.2.1 HLB.out.2.2.1).trans HLC.out.2.1; have r2 := (hS.cell (o := 2) HLB.out.1 HLB.out.2.1 HLB.out.2.2.1).trans HLC.out.2.2
          refine quiet2 hS 164 rfl (by intro j hj; omega) rfl ?_
          simp [go_sem, evalBy, rho2, grCv, r0, r1, r2]
        · refine build2 hS (j := 1) (by decide) 165 rfl rfl rfl (by simp [go_sem, evalBy, rho2, grCv, two2]) (fun _ => rfl) (fun t b' h => rho2_b1 t b' h)
        · refine append2 hS (j := 1) (by decide) 166 rfl rfl hu (hdep ⟨8, .data⟩ (by simp) rfl) rfl 163 165 rfl rfl rfl HSL.out (fun _ => rfl) (fun t b' h => rho2_c1 t b' h)
        · refine quiet2 hS 167 rfl (by intro j hj; omega) rfl ?_
          simp [go_sem, evalBy, rho2, grCv]
        · have r1 := cell_of_row u C.ob 1 _ 35 (0, 0) hS.box
          have f1 : u.frozen? ⟨C.ob, 1, none⟩ = false := by simp [World.frozen?, hS.box]
          simp at r1
          have d4 : done 4 = true := hdep ⟨4, .data⟩ (by simp) rfl
          refine store2 hS (j := 0) (by decide) rfl ⟨d4, hdep ⟨1, .phase⟩ (by simp) rfl, hdep ⟨6, .phase⟩ (by simp) rfl⟩ rfl rfl ?_
          have ho := hS.own 0 (by decide)
          simp only [c2E, l2E, d4, if_true] at ho
          obtain ⟨_, _, hf, _⟩ := ho.form (Nat.succ_pos _)
          simp [go_sem, evalBy, rho2, grCv, r1, f1, hf]
        · refine quiet2 hS 168 rfl (by intro j hj; omega) rfl ?_
          simp [go_sem, evalBy, rho2, grCv]
        · have r1 := cell_of_row u C.ob 2 _ 35 (0, 0) hS.box
          have f1 : u.frozen? ⟨C.ob, 2, none⟩ = false := by simp [World.frozen?, hS.box]
          simp at r1
          have d4 : done 9 = true := hdep ⟨9, .data⟩ (by simp) rfl
          refine store2 hS (j := 1) (by decide) rfl ⟨d4, hdep ⟨1, .phase⟩ (by simp) rfl, hdep ⟨6, .phase⟩ (by simp) rfl⟩ rfl rfl ?_
          have ho := hS.own 1 (by decide)
          simp only [c2E, l2E, d4, if_true] at ho
          obtain ⟨_, _, hf, _⟩ := ho.form (Nat.succ_pos _)
          simp [go_sem, evalBy, rho2, grCv, r1, f1, hf]
      · intro g u hS
        have hRg := RR.grow HCK.out HR8.out HLL.out hS
        have HRG := Lib.hid hRg
        clear hS hRg
        simp [putAll, Act.put, rho2, grCv]
        go_wp2_with fail
        exact ⟨⟨k + 1, by omega, by go_num, g.c 0, g.c 1, by
          rw [HSC.out]
          unfold Sto.week
          rw [HLg.out, HTL.out.1, HTL.out.2]
          exact HRG.out⟩, by simp [intOf]; omega⟩
    · have hkw : k = wk := by omega
      have k1 : ¬ (k : Int) < (wk : Int) := by omega
      subst hkw
      have hrun : S.run p ice win = S.runN p ice win k := by unfold Sto.run; congr 1; rw [HWK.out]; rfl
      have HRUN := Lib.hid hrun
      clear hrun s0 s1 s2 s3 s4 s5 s6 s8 s9 s10 s11
      have z8 : wt.heap[b8]? = some (.cells #[.slice none 0 0, .slice none 0 0, .slice none 0 0] 35 (0, 0)) := by have hb := HRR.out.bel; rw [HCX.out.2.1] at hb; exact (hb.block b8 (heapsz HZ8.out)).trans HZ8.out
      have x0 := cell_of_row wt C.ob 0 _ 35 (0, 0) HRR.out.out; have x1 := cell_of_row wt C.ob 1 _ 35 (0, 0) HRR.out.out; have x2 := cell_of_row wt C.ob 2 _ 35 (0, 0) HRR.out.out
      have y0 := cell_of_row wt b8 0 _ 35 (0, 0) z8; have y1 := cell_of_row wt b8 1 _ 35 (0, 0) z8; have y2 := cell_of_row wt b8 2 _ 35 (0, 0) z8
      simp at x0 x1 x2 y0 y1 y2
      have hfz : ∀ j, wt.frozen? ⟨b8, j, none⟩ = false := fun j => by simp [World.frozen?, z8]
      have f0 := hfz 0; have f1 := hfz 1; have f2 := hfz 2
      obtain ⟨A2, c2, e2, g2, _⟩ := (RowIs.of_own HRR.out.so).at_ (k := 3) gR_len
      obtain ⟨A3, c3, e3, g3, _⟩ := (RowIs.of_own HRR.out.lo).at_ (k := 3) gR_len
      have G1 := rowAt_block gR_len HRR.out.lnd (heapsz HRR.out.lnd)
      subst e2 e3
      have hw1 : w.heap.size ≤ b8 := HW8.out
      have hbw : Below w.heap.size w wt := HB0.out.trans ((by have hb := HRR.out.bel; rw [HCX.out.2.1] at hb; exact hb : Below w2.heap.size w2 wt).mono HB0.out.size)
      have hXn : C.X.ns = ns := by rw [HCX.out.1]
      rw [hXn] at x0
      obtain ⟨o1, o2⟩ := set3_only wt b8 0 (.slice (some ⟨C.D, 0, none⟩) ns ns) (.slice A2 (S.runN p ice win k).stocks.length c2) (.slice A3 (S.runN p ice win k).lacks.length c3)
      simp only [Nat.zero_add] at o1 o2
      have z9 := blk_set (blk_set (blk_set z8 0 (.slice (some ⟨C.D, 0, none⟩) ns ns)) 1 (.slice A2 (S.runN p ice win k).stocks.length c2)) 2 (.slice A3 (S.runN p ice win k).lacks.length c3)
      have hty : ∀ b cs, wt.heap[b]? = some (.cells cs 23 (0, 0)) → b ≠ b8 := fun b cs hb => ne_type hb z8 (by decide)
      have hlnd := (o2 _ (hty _ _ HRR.out.lnd)).trans HRR.out.lnd
      have hso := own_of_blocks HRR.out.so fun B hB => o2 B (by obtain ⟨_, cur, hc⟩ := own_at HRR.out.so hB; exact hty _ _ hc)
      have hlo := own_of_blocks HRR.out.lo fun B hB => o2 B (by obtain ⟨_, cur, hc⟩ := own_at HRR.out.lo hB; exact hty _ _ hc)
      have hbel := ((hbw.setCell (p := ⟨b8, 0, none⟩) hw1 (.slice (some ⟨C.D, 0, none⟩) ns ns)).setCell (p := ⟨b8, 1, none⟩) hw1 (.slice A2 (S.runN p ice win k).stocks.length c2)).setCell (p := ⟨b8, 2, none⟩) hw1 (.slice A3 (S.runN p ice win k).lacks.length c3)
      obtain ⟨A2', c2', e2, g2', _⟩ := (RowIs.of_own hso).at_ (k := 3) gR_len
      obtain ⟨A3', c3', e3, g3', _⟩ := (RowIs.of_own hlo).at_ (k := 3) gR_len
      injection e2 with e2 _ e2c
      injection e3 with e3 _ e3c
      subst e2 e2c e3 e3c
      have g1' := rowAt_block gR_len hlnd (heapsz hlnd)
      have GG := Lib.hid (And.intro hbel (And.intro g1' (And.intro g2' (And.intro g3' z9))))
      clear hw1 hbw hXn o1 o2 z9 hty hlnd hso hlo hbel g1' g2' g3' g2 g3 G1 z8 hfz
      go_wp2_with fail
      obtain ⟨hbel, g1, g2, g3, z9⟩ := GG.out
      have q0 := cell_of_row _ b8 0 _ 35 (0, 0) z9; have q1 := cell_of_row _ b8 1 _ 35 (0, 0) z9; have q2 := cell_of_row _ b8 2 _ 35 (0, 0) z9
      simp at q0 q1 q2
      exact bodyPost_ret (v := .agg #[.slice (some ⟨C.D, 0, none⟩) ns ns, .slice A2 (S.runN p ice win k).stocks.length c2, .slice A3 (S.runN p ice win k).lacks.length c3]) (by simp [results, Tryd.results21, go_sem, q0, q1, q2]) rfl (by rw [HRUN.out]; exact ⟨C.D, A2, c2, A3, ⟨c3, rfl⟩, hbel, g1, g2, g3⟩)
end Go.Proofs.YtijjkiogmlannaaDoor
