/- Stores: a store is run, by the code. Stores: what happens, or the error, by the code. -/
import Derived.Test.YtijjkiogmlannaaDoorVK
namespace Go.Proofs.YtijjkiogmlannaaDoor
open Go.RowKit

/-- What is run, at first. -/
abbrev rnC (X : SX) (p : Nat) (vi vw : Value) : Array Value := #[.int .i64 X.S.st.a, .int .i64 X.S.st.b, .int .i64 X.S.st.c, .int .i64 X.S.yd.a, .int .i64 X.S.yd.b, .int .i64 X.S.yd.c, .int .i64 X.S.rate, .int .i64 X.S.weeks, .int .i64 X.S.land, .slice X.AS X.ns X.cs, .slice X.AI X.ni X.ci, .slice X.AW X.nw X.cw, .int .i64 (p : Int), vi, vw, .slice none 0 0, .slice none 0 0, .slice none 0 0, .slice none 0 0]
def rnCv (X : SX) (a p i n bi oi bw ow : Nat) (vi vw : Value) : Tmp → Value
  | 1 => .int .i64 (p : Int)
  | 2 => .int .i64 (i : Int)
  | 3 => .int .i64 (n : Int)
  | 4 => .pointer (some ⟨a, 0, none⟩)
  | 14 => X.v
  | 15 => .int .i64 (p : Int)
  | 16 => .pointer (some ⟨a, 10, none⟩)
  | 17 => .slice X.AI X.ni X.ci
  | 18 => .int .i64 (i : Int)
  | 19 => .pointer (some ⟨bi, oi + i, none⟩)
  | 20 => vi
  | 21 => .pointer (some ⟨a, 11, none⟩)
  | 22 => .slice X.AW X.nw X.cw
  | 23 => .int .i64 (n : Int)
  | 24 => .pointer (some ⟨bw, ow + n, none⟩)
  | 25 => vw
  | 26 => .agg (rnC X p vi vw)
  | _ => undef
/-- Two operations tell of one block that is made. -/
def mkG (j1 j2 B : Nat) (T : TypeId) (cs : Array Value) : Nat → Value → World → Prop := fun i v w => i = j1 ∨ i = j2 → ∃ g, v = .pointer (some ⟨g, 0, none⟩) ∧ B ≤ g ∧ w.heap[g]? = some (.cells cs T (0, 0))
theorem mkG_keep (j1 j2 B : Nat) (T : TypeId) (cs : Array Value) (i : Nat) (v : Value) (w1 w2 : World) (h : mkG j1 j2 B T cs i v w1) (hb : Below w1.heap.size w1 w2) : mkG j1 j2 B T cs i v w2 := fun e => by
  obtain ⟨g, h1, h2, h3⟩ := h e
  exact ⟨g, h1, h2, (hb.block _ (heapsz h3)).trans h3⟩
theorem mkG_other {j1 j2 B : Nat} {T : TypeId} {cs : Array Value} {i : Nat} {v : Value} {w : World} (h : i ≠ j1 ∧ i ≠ j2) : mkG j1 j2 B T cs i v w := fun e => by omega
theorem ix_funcs (f0 f1 f2 : Value) (u : World) : (Instr.index 101 (.agg #[f0, f1, f2]) (.int .i64 0)).run Tryd.prog u = .ok f0 u ∧ (Instr.index 101 (.agg #[f0, f1, f2]) (.int .i64 1)).run Tryd.prog u = .ok f1 u ∧ (Instr.index 101 (.agg #[f0, f1, f2]) (.int .i64 2)).run Tryd.prog u = .ok f2 u := by
  refine ⟨?_, ?_, ?_⟩ <;> simp [Instr.index, go_sem]
theorem made_goods (n : Nat) : madeCells #[.int .i64 0, .int .i64 0, .int .i64 0] (n * 3) = (flatR gR (List.replicate n z3)).toArray := by
  have e : ∀ n, flatR gR (List.replicate n z3) = List.replicate (n * 3) (.int .i64 0) := fun n => by
    induction n with
    | zero => rfl
    | succ n ih =>
      show [Value.int .i64 0, .int .i64 0, .int .i64 0] ++ flatR gR (List.replicate n z3) = _
      rw [ih, show (n + 1) * 3 = 3 + n * 3 by omega, ← List.replicate_append_replicate]
      rfl
  rw [e]
  apply Array.ext
  · simp [madeCells]
  · intro i h1 h2
    have h3 : (#[Value.int .i64 0, .int .i64 0, .int .i64 0] : Array Value)[i % 3]! = .int .i64 0 := by
      have : i % 3 < 3 := Nat.mod_lt _ (by decide)
      rcases (show i % 3 = 0 ∨ i % 3 = 1 ∨ i % 3 = 2 by omega) with h | h | h <;> rw [h] <;> rfl
    rw [Array.getElem!_eq_getD, Array.getD_eq_getD_getElem?] at h3
    simp [madeCells]
    simpa using h3
set_option maxRecDepth 100000 in
set_option maxHeartbeats 8000000 in
theorem run_any {X : SX} {w : World} (h : X.In w) (K : X.S.Ok) (p i n : Nat) (hp : p < 2 ^ X.ns) (hi : i < X.ni) (hn : n < X.nw) :
    Calls Tryd.prog 47 #[X.v, .int .i64 (p : Int), .int .i64 (i : Int), .int .i64 (n : Int)] w fun e w' => ∃ D A2 c2 A3 c3, e = .returned (.agg #[.slice (some ⟨D, 0, none⟩) X.ns X.ns, .slice A2 (X.S.run p (X.S.ices.getD i []) (X.S.wins.getD n [])).stocks.length c2, .slice A3 (X.S.run p (X.S.ices.getD i []) (X.S.wins.getD n [])).lacks.length c3]) ∧ Below w.heap.size w w' ∧ GdsAt w' w'.heap.size (some ⟨D, 0, none⟩) (X.S.run p (X.S.ices.getD i []) (X.S.wins.getD n [])).ld ∧ GdsAt w' w'.heap.size A2 (X.S.run p (X.S.ices.getD i []) (X.S.wins.getD n [])).stocks ∧ GdsAt w' w'.heap.size A3 (X.S.run p (X.S.ices.getD i []) (X.S.wins.getD n [])).lacks := by
  rcases X with ⟨S, AS, ns, cs, AI, ni, ci, AW, nw, cw⟩
  obtain ⟨z0, z1, hb1⟩ := two_new w (.cells (SX.cells ⟨S, AS, ns, cs, AI, ni, ci, AW, nw, cw⟩) 28) (.cells #[.slice none 0 0, .slice none 0 0, .slice none 0 0] 35)
  obtain ⟨w1, hw1⟩ : ∃ z, (w.alloc (.cells (SX.cells ⟨S, AS, ns, cs, AI, ni, ci, AW, nw, cw⟩) 28)).alloc (.cells #[.slice none 0 0, .slice none 0 0, .slice none 0 0] 35) = z := ⟨_, rfl⟩
  rw [hw1] at z0 z1 hb1
  have hI1 := h.up hb1
  have hli := h.hi; have hlw := h.hw; have hls := h.hs; have hs2 := h.s2
  simp only at hi hn hli hlw hls hs2 hp
  obtain ⟨ice, hice⟩ := get_of_lt (l := S.ices) (k := i) (by rw [hli]; exact hi)
  obtain ⟨win, hwin⟩ := get_of_lt (l := S.wins) (k := n) (by rw [hlw]; exact hn)
  have e1 : S.ices.getD i [] = ice := by rw [List.getD_eq_getElem?_getD, hice]; rfl
  have e2 : S.wins.getD n [] = win := by rw [List.getD_eq_getElem?_getD, hwin]; rfl
  show Calls _ _ _ _ fun e w' => ∃ D A2 c2 A3 c3, e = .returned (.agg #[.slice (some ⟨D, 0, none⟩) ns ns, .slice A2 (S.run p (S.ices.getD i []) (S.wins.getD n [])).stocks.length c2, .slice A3 (S.run p (S.ices.getD i []) (S.wins.getD n [])).lacks.length c3]) ∧ Below w.heap.size w w' ∧ GdsAt w' w'.heap.size (some ⟨D, 0, none⟩) (S.run p (S.ices.getD i []) (S.wins.getD n [])).ld ∧ GdsAt w' w'.heap.size A2 (S.run p (S.ices.getD i []) (S.wins.getD n [])).stocks ∧ GdsAt w' w'.heap.size A3 (S.run p (S.ices.getD i []) (S.wins.getD n [])).lacks
  rw [e1, e2]
  have hGI := h.I; have hGW := h.W
  simp only at hGI hGW
  obtain ⟨bi, oi, Ai, mi, cii, eAI, hbi, hmi, d1, p1, _⟩ := grid_row hGI hice
  obtain ⟨bw, ow, Aw, mw, cww, eAW, hbw, hmw, d2, p2, _⟩ := grid_row hGW hwin
  have ei : AI = some ⟨bi, oi, none⟩ := eAI; have ew : AW = some ⟨bw, ow, none⟩ := eAW
  clear eAI eAW
  subst ei
  subst ew
  replace d1 := ((bcell hb1).1 _ _ hbi).trans d1
  replace d2 := ((bcell hb1).1 _ _ hbw).trans d2
  have hland := K.ices ice (List.mem_of_getElem? hice)
  have hwk := K.wins win (List.mem_of_getElem? hwin)
  simp only at hland hwk
  have hOK : ∀ R D fx, w.heap.size ≤ R → w.heap.size ≤ D → (∀ x ∈ fx, x.2.2 ≠ 3 ∧ x.2.2 ≠ 23 ∧ x.2.2 ≠ 99) → RC.Ok ⟨⟨S, AS, ns, cs, some ⟨bi, oi, none⟩, ni, ci, some ⟨bw, ow, none⟩, nw, cw⟩, p, ice, win, Ai, mi, cii, Aw, mw, cww, R, D, w, fx⟩ := fun R D fx hR hD hfx => ⟨h, K, p1, hmi.symm, by rw [hmi]; exact hland, p2, hmw.symm, by rw [hmw]; exact hwk.1, hwk.2, by
    have : p < 64 := Nat.lt_of_lt_of_le hp (by have h6 := K.n6; simp only at h6; rw [hls] at h6; exact Nat.le_trans (Nat.pow_le_pow_right (by decide) h6) (by decide))
    exact this, hR, hD, hfx⟩
  have HOK := Lib.hid hOK; have HI1 := Lib.hid hI1; have HB1 := Lib.hid hb1; have Z0 := Lib.hid z0; have Z1 := Lib.hid z1; have HP := Lib.hid hp
  have hi0 : (0 : Int) ≤ (i : Int) := by omega
  have hi1 : (i : Int) < (ni : Int) := by omega
  have hn0 : (0 : Int) ≤ (n : Int) := by omega
  have hn1 : (n : Int) < (nw : Int) := by omega
  have HD1 := Lib.hid d1; have HD2 := Lib.hid d2
  have LBI : bi < w1.heap.size := Nat.lt_of_lt_of_le hbi hb1.size
  have LBW : bw < w1.heap.size := Nat.lt_of_lt_of_le hbw hb1.size
  have LZ := heapsz z0
  clear hI1 hb1 z0 z1 h hli hlw hls hice hwin e1 e2 hGI hGW hbi hbw hmi hmw p1 p2 hland hwk hOK d1 d2 hp hi hn
  subst hw1
  go_enter Tryd.func47, Tryd.ntmps47
  go_wp2_with fail
  refine rel_region [1, 2, 3, 4] [(27, 13), (9, 14)] (rnCv ⟨S, AS, ns, cs, some ⟨bi, oi, none⟩, ni, ci, some ⟨bw, ow, none⟩, nw, cw⟩ w.heap.size p i n bi oi bw ow (.slice Ai mi cii) (.slice Aw mw cww)) (mkG 13 14 ((w.alloc (.cells (SX.cells ⟨S, AS, ns, cs, some ⟨bi, oi, none⟩, ni, ci, some ⟨bw, ow, none⟩, nw, cw⟩) 28)).alloc (.cells #[.slice none 0 0, .slice none 0 0, .slice none 0 0] 35)).heap.size 99 (rnC ⟨S, AS, ns, cs, some ⟨bi, oi, none⟩, ni, ci, some ⟨bw, ow, none⟩, nw, cw⟩ p (.slice Ai mi cii) (.slice Aw mw cww))) (by kernel_rfl) (by kernel_rfl) (by kernel_rfl) (by kernel_rfl) (by kernel_rfl) (by kernel_rfl) ?_ (mkG_keep _ _ _ _ _) ?_ ?_
  · intro t ht
    simp only [List.mem_cons, List.not_mem_nil, or_false] at ht
    rcases ht with rfl | rfl | rfl | rfl <;> rfl
  · refine allOps_array ?_
    have hp : ∀ u : KeptW ((w.alloc (.cells (SX.cells ⟨S, AS, ns, cs, some ⟨bi, oi, none⟩, ni, ci, some ⟨bw, ow, none⟩, nw, cw⟩) 28)).alloc (.cells #[.slice none 0 0, .slice none 0 0, .slice none 0 0] 35)), _ := fun u => sto_box ((u.h.block _ LZ).trans Z0.out)
    refine ⟨?_, ?_, ?_, ?_, ?_, ?_, ?_, ?_, ?_, ?_, ?_, ?_, ?_, ?_, ?_, trivial⟩ <;> intro g u hd_ <;> obtain ⟨⟨s0, s1, s2⟩, ⟨s3, s4, s5⟩, ⟨s6, s7, s8⟩, s9, s10, s11⟩ := hp u <;> simp only at s0 s1 s2 s3 s4 s5 s6 s7 s8 s9 s10 s11 <;> have d1 := ((bcell u.h).1 _ _ LBI).trans HD1.out <;> have d2 := ((bcell u.h).1 _ _ LBW).trans HD2.out
    · refine ⟨rfl, relQ 14 rfl (mkG_other (by decide)) ?_⟩
      simp [go_sem, evalBy, rhoT, relOf, rnCv, s0, s1, s2, s3, s4, s5, s6, s7, s8, s9, s10, s11]
    · refine ⟨rfl, relQ 15 rfl (mkG_other (by decide)) ?_⟩
      simp [go_sem, evalBy, rhoT, relOf, rnCv]
    · refine ⟨rfl, relQ 16 rfl (mkG_other (by decide)) ?_⟩
      simp [go_sem, evalBy, rhoT, relOf, rnCv]
    · refine ⟨rfl, relQ 17 rfl (mkG_other (by decide)) ?_⟩
      simp [go_sem, evalBy, rhoT, relOf, rnCv, s10]
    · refine ⟨rfl, relQ 18 rfl (mkG_other (by decide)) ?_⟩
      simp [go_sem, evalBy, rhoT, relOf, rnCv]
    · refine ⟨rfl, relQ 19 rfl (mkG_other (by decide)) ?_⟩
      simp [go_sem, evalBy, rhoT, relOf, rnCv, hi0, hi1]
    · refine ⟨rfl, relQ 20 rfl (mkG_other (by decide)) ?_⟩
      simp [go_sem, evalBy, rhoT, relOf, rnCv, d1]
    · refine ⟨rfl, relQ 21 rfl (mkG_other (by decide)) ?_⟩
      simp [go_sem, evalBy, rhoT, relOf, rnCv]
    · refine ⟨rfl, relQ 22 rfl (mkG_other (by decide)) ?_⟩
      simp [go_sem, evalBy, rhoT, relOf, rnCv, s11]
    · refine ⟨rfl, relQ 23 rfl (mkG_other (by decide)) ?_⟩
      simp [go_sem, evalBy, rhoT, relOf, rnCv]
    · refine ⟨rfl, relQ 24 rfl (mkG_other (by decide)) ?_⟩
      simp [go_sem, evalBy, rhoT, relOf, rnCv, hn0, hn1]
    · refine ⟨rfl, relQ 25 rfl (mkG_other (by decide)) ?_⟩
      simp [go_sem, evalBy, rhoT, relOf, rnCv, d2]
    · refine ⟨rfl, relQ 26 rfl (mkG_other (by decide)) ?_⟩
      simp [go_sem, evalBy, rhoT, relOf, rnCv]
    · refine ⟨rfl, relA (.pointer (some ⟨u.w.heap.size, 0, none⟩)) (.cells (rnC ⟨S, AS, ns, cs, some ⟨bi, oi, none⟩, ni, ci, some ⟨bw, ow, none⟩, nw, cw⟩ p (.slice Ai mi cii) (.slice Aw mw cww)) 99) (fun d hd => by injection hd with hd; subst hd; simp [relOf]) (by simp [go_sem, evalBy, rhoT, relOf, rnCv]) (fun _ => ⟨_, rfl, u.h.size, heap_alloc_new _ _⟩)⟩
    · obtain ⟨g9, e9, b9, z9⟩ := hd_ ⟨13, .data⟩ (by simp) rfl (.inl rfl)
      refine ⟨rfl, relM (g 13) (fun _ => ⟨g9, e9, b9, z9⟩) (fun e he hn => by injection he with he; subst he; exact absurd hn (by simp [relOf])) ?_⟩
      simp [go_sem, evalBy, rhoT, relOf]
  · intro g u hf
    obtain ⟨R, e9, b9, z9⟩ := hf 14 (by decide) (.inr rfl)
    have HUB := Lib.hid u.h
    obtain ⟨w2, hwo⟩ : ∃ z, u.w = z := ⟨_, rfl⟩
    rw [hwo] at z9 HUB ⊢
    have HR := Lib.hid z9
    simp [putAll, Act.put, rhoT, relOf, rnCv, e9]
    clear hf e9 hwo HD1 HD2 z9
    have HB2 := Lib.hid (HB1.out.trans (HUB.out.mono HB1.out.size))
    have N8 := Lib.hid ((HUB.out.block _ (heapsz Z1.out)).trans Z1.out)
    obtain ⟨_, _, _, s9, _, _⟩ := sto_box ((HUB.out.block _ LZ).trans Z0.out)
    simp only at s9
    have hRw : w.heap.size ≤ R := Nat.le_trans HB1.out.size b9
    have hR8 : w.heap.size + 1 < R := Nat.lt_of_lt_of_le (heapsz Z1.out) b9
    clear HUB HB1 Z0 Z1 LBI LBW LZ HI1 b9 u
    have n6 : ns ≤ 6 := by have := (HOK.out R R [] hRw hRw (fun _ h => by cases h)).K.n6; have h2 := (HOK.out R R [] hRw hRw (fun _ h => by cases h)).X.hs; simp only at this h2; omega
    obtain ⟨i0, ji0, hz0, hz1, hz2⟩ := info_parts goods_info
    have hmk := fun W : World => run_make (P := Tryd.prog) 33 23 i0 _ Tryd.underlying33 ji0 hz0 .i64 .i64 (ns : Int) (ns : Int) (by omega) (by omega) (by rw [hz2]; omega) (by omega) (w := W)
    simp only [Int.toNat_natCast, hz1] at hmk
    have cR := fun k => cell_of_row w2 R k _ 99 (0, 0) HR.out
    have r7 := cR 7; have r16 := cR 16
    simp at r7 r16
    have fR : w2.frozen? ⟨R, 16, none⟩ = false := by simp [World.frozen?, HR.out]
    have LR : R < w2.heap.size := heapsz HR.out
    clear cR
    obtain ⟨wm, hwm⟩ : ∃ z, ((w2.setCell ⟨R, 16, none⟩ (.slice (some ⟨w2.heap.size, 0, none⟩) ns ns)).alloc (.cells (madeCells #[.int .i64 0, .int .i64 0, .int .i64 0] (ns * 3)) 23)).alloc (.cells #[.nilFunc, .nilFunc, .nilFunc] 101) = z := ⟨_, rfl⟩
    have hsz : (w2.setCell ⟨R, 16, none⟩ (.slice (some ⟨w2.heap.size, 0, none⟩) ns ns)).heap.size = w2.heap.size := by simp [World.setCell]
    obtain ⟨m0, m1, mb⟩ := two_new (w2.setCell ⟨R, 16, none⟩ (.slice (some ⟨w2.heap.size, 0, none⟩) ns ns)) (.cells (madeCells #[.int .i64 0, .int .i64 0, .int .i64 0] (ns * 3)) 23) (.cells #[.nilFunc, .nilFunc, .nilFunc] 101)
    rw [hsz] at m0 m1 mb
    have x0 := cell_of_row _ (w2.heap.size + 1) 0 _ 101 (0, 0) m1; have x1 := cell_of_row _ (w2.heap.size + 1) 1 _ 101 (0, 0) m1; have x2 := cell_of_row _ (w2.heap.size + 1) 2 _ 101 (0, 0) m1
    simp only [List.getElem?_toArray, List.getElem?_cons_zero, List.getElem?_cons_succ] at x0 x1 x2
    have hfz : ∀ k, (((w2.setCell ⟨R, 16, none⟩ (.slice (some ⟨w2.heap.size, 0, none⟩) ns ns)).alloc (.cells (madeCells #[.int .i64 0, .int .i64 0, .int .i64 0] (ns * 3)) 23)).alloc (.cells #[.nilFunc, .nilFunc, .nilFunc] 101)).frozen? ⟨w2.heap.size + 1, k, none⟩ = false := fun k => by simp only [World.frozen?, m1]; rfl
    have f0 := hfz 0; have f1 := hfz 1; have f2 := hfz 2
    have HWM := Lib.hid hwm
    rw [made_goods] at m0
    have M0 := Lib.hid m0; have M1 := Lib.hid m1; have MB := Lib.hid mb
    clear hfz hwm m0 m1 mb
    have hst : ∀ (cs : Array Value) (k : Nat) (f : FuncId) (x : Value), cs[k]? = some x → (store ⟨w2.heap.size + 1, k, none⟩ (.func (.func f) #[.pointer (some ⟨R, 0, none⟩)] #[])).run Tryd.prog (((w2.setCell ⟨R, 16, none⟩ (.slice (some ⟨w2.heap.size, 0, none⟩) ns ns)).alloc (.cells (madeCells #[.int .i64 0, .int .i64 0, .int .i64 0] (ns * 3)) 23)).alloc (.cells cs 101)) = .ok () ((((w2.setCell ⟨R, 16, none⟩ (.slice (some ⟨w2.heap.size, 0, none⟩) ns ns)).alloc (.cells (madeCells #[.int .i64 0, .int .i64 0, .int .i64 0] (ns * 3)) 23)).alloc (.cells cs 101)).setCell ⟨w2.heap.size + 1, k, none⟩ (.func (.func f) #[.pointer (some ⟨R, 0, none⟩)] #[])) := fun cs k f x hx => by
      obtain ⟨_, mz, _⟩ := two_new (w2.setCell ⟨R, 16, none⟩ (.slice (some ⟨w2.heap.size, 0, none⟩) ns ns)) (.cells (madeCells #[.int .i64 0, .int .i64 0, .int .i64 0] (ns * 3)) 23) (.cells cs 101)
      rw [hsz] at mz
      have hx2 := (cell_of_row _ (w2.heap.size + 1) k _ 101 (0, 0) mz).trans hx
      rw [run_store Tryd.prog _ _ _ _ rfl]
      simp only [hx2, World.frozen?, mz]
      rfl
    have hs0 := hst #[.nilFunc, .nilFunc, .nilFunc] 0 67 _ rfl
    have hs1 := hst #[.func (.func 67) #[.pointer (some ⟨R, 0, none⟩)] #[], .nilFunc, .nilFunc] 1 68 _ rfl
    have hs2 := hst #[.func (.func 67) #[.pointer (some ⟨R, 0, none⟩)] #[], .func (.func 68) #[.pointer (some ⟨R, 0, none⟩)] #[], .nilFunc] 2 69 _ rfl
    clear x0 x1 x2 f0 f1 f2 hst
    go_wp2_with fail
    clear hs0 hs1 hs2 M0 M1 MB HWM r16 fR s9 hmk
    obtain ⟨m0, m1, mb⟩ := two_new (w2.setCell ⟨R, 16, none⟩ (.slice (some ⟨w2.heap.size, 0, none⟩) ns ns)) (.cells (madeCells #[.int .i64 0, .int .i64 0, .int .i64 0] (ns * 3)) 23) (.cells #[.func (.func 67) #[.pointer (some ⟨R, 0, none⟩)] #[], .func (.func 68) #[.pointer (some ⟨R, 0, none⟩)] #[], .func (.func 69) #[.pointer (some ⟨R, 0, none⟩)] #[]] 101)
    rw [hsz] at m0 m1 mb
    have hbox := blk_set HR.out 16 (.slice (some ⟨w2.heap.size, 0, none⟩) ns ns)
    have hsetD : Below w.heap.size w (w2.setCell ⟨R, 16, none⟩ (.slice (some ⟨w2.heap.size, 0, none⟩) ns ns)) := HB2.out.setCell (p := ⟨R, 16, none⟩) hRw _
    have hn8 := (Below.heap_setCell w2 ⟨R, 16, none⟩ (.slice (some ⟨w2.heap.size, 0, none⟩) ns ns) (w.heap.size + 1) (by show w.heap.size + 1 ≠ R; omega)).trans N8.out
    have hls : S.ships.length = ns := (HOK.out R R [] hRw hRw (fun _ h => by cases h)).X.hs
    have hC := HOK.out R w2.heap.size [(w.heap.size + 1, #[.slice none 0 0, .slice none 0 0, .slice none 0 0], 35), (w2.heap.size + 1, #[.func (.func 67) #[.pointer (some ⟨R, 0, none⟩)] #[], .func (.func 68) #[.pointer (some ⟨R, 0, none⟩)] #[], .func (.func 69) #[.pointer (some ⟨R, 0, none⟩)] #[]], 101)] hRw (by omega) (fun x hx => by
      simp only [List.mem_cons, List.not_mem_nil, or_false] at hx
      rcases hx with rfl | rfl <;> simp)
    obtain ⟨w5, hw5⟩ : ∃ z, ((w2.setCell ⟨R, 16, none⟩ (.slice (some ⟨w2.heap.size, 0, none⟩) ns ns)).alloc (.cells (madeCells #[.int .i64 0, .int .i64 0, .int .i64 0] (ns * 3)) 23)).alloc (.cells #[.func (.func 67) #[.pointer (some ⟨R, 0, none⟩)] #[], .func (.func 68) #[.pointer (some ⟨R, 0, none⟩)] #[], .func (.func 69) #[.pointer (some ⟨R, 0, none⟩)] #[]] 101) = z := ⟨_, rfl⟩
    rw [hw5]
    rw [hw5] at m0 m1 mb
    rw [made_goods] at m0
    obtain ⟨C, hCC⟩ : ∃ z : RC, (⟨⟨S, AS, ns, cs, some ⟨bi, oi, none⟩, ni, ci, some ⟨bw, ow, none⟩, nw, cw⟩, p, ice, win, Ai, mi, cii, Aw, mw, cww, R, w2.heap.size, w, [(w.heap.size + 1, #[.slice none 0 0, .slice none 0 0, .slice none 0 0], 35), (w2.heap.size + 1, #[.func (.func 67) #[.pointer (some ⟨R, 0, none⟩)] #[], .func (.func 68) #[.pointer (some ⟨R, 0, none⟩)] #[], .func (.func 69) #[.pointer (some ⟨R, 0, none⟩)] #[]], 101)]⟩ : RC) = z := ⟨_, rfl⟩
    have HWK : Hid (weekAt C 0 0 w5) := Lib.hid (by
      subst hCC
      refine ⟨.slice none 0 0, .slice none 0 0, .slice none 0 0, ?_⟩
      refine ⟨hsetD.trans (mb.mono (by rw [hsz] at *; exact HB2.out.size)), ?_, ?_, ?_, QAt.nil _ _, World.ownsRow_nil _ _ _ _, World.ownsRow_nil _ _ _ _, by simp [Value.ownBlock], by simp [Value.ownBlock], by simp [Value.ownBlock], fun x hx => ?_⟩
      · exact (mb.block R LR).trans hbox
      · show w5.heap[w2.heap.size]? = some (.cells (flatR gR (List.replicate S.ships.length z3)).toArray 23 (0, 0))
        rw [hls]
        exact m0
      · show (List.replicate S.ships.length z3).length = ns
        rw [List.length_replicate, hls]
      · simp only [List.mem_cons, List.not_mem_nil, or_false] at hx
        rcases hx with rfl | rfl
        · exact (mb.block _ (by omega)).trans hn8
        · exact m1)
    have HCK : Hid C.Ok := Lib.hid (by subst hCC; exact hC)
    have HCP : Hid (C.plan < 2 ^ C.X.ns) := Lib.hid (by subst hCC; exact HP.out)
    have HCW : Hid ((C.mw : Int) = S.weeks) := Lib.hid (by have := HCK.out.winn; subst hCC; exact this)
    have HFX : Hid (∀ wr, weekAt C 0 0 wr ∨ True → True) := Lib.hid fun _ _ => trivial
    have HCR : Hid (C.R = R) := Lib.hid (by subst hCC; rfl)
    have HFU : Hid (∀ k s wr, weekAt C k s wr → wr.heap[w2.heap.size + 1]? = some (.cells #[.func (.func 67) #[.pointer (some ⟨R, 0, none⟩)] #[], .func (.func 68) #[.pointer (some ⟨R, 0, none⟩)] #[], .func (.func 69) #[.pointer (some ⟨R, 0, none⟩)] #[]] 101 (0, 0)) ∧ wr.heap[w.heap.size + 1]? = some (.cells #[.slice none 0 0, .slice none 0 0, .slice none 0 0] 35 (0, 0))) := Lib.hid fun k s wr hh => by
      obtain ⟨qv, sv, lv, hh⟩ := hh
      have hfix : ∀ x ∈ C.fx, wr.heap[x.1]? = some (.cells x.2.1 x.2.2 (0, 0)) := by
        match s with
        | 0 => exact hh.fix
        | 1 => exact hh.fix
        | 2 => exact hh.fix
        | s + 3 => exact hh.fix
      subst hCC
      exact ⟨hfix _ (List.mem_cons_of_mem _ List.mem_cons_self), hfix _ List.mem_cons_self⟩
    have HWP : Hid (1 ≤ S.weeks ∧ S.weeks ≤ 30) := Lib.hid K.weeks
    have HRUN : Hid (∀ k wr, weekAt C k 0 wr → (k : Int) = S.weeks → ∃ st qv sv lv W, RunAt C st (S.run p ice win).ld W (S.run p ice win).stocks (S.run p ice win).lacks qv sv lv wr) := Lib.hid fun k wr hh hk => by
      obtain ⟨qv, sv, lv, hh⟩ := hh
      subst hCC
      have e : S.run p ice win = S.runN p ice win k := by unfold Sto.run; congr 1; omega
      rw [e]
      exact ⟨_, qv, sv, lv, _, hh⟩
    have HCX : Hid (C.X = ⟨S, AS, ns, cs, some ⟨bi, oi, none⟩, ni, ci, some ⟨bw, ow, none⟩, nw, cw⟩ ∧ C.w0 = w ∧ C.D = w2.heap.size) := Lib.hid (by subst hCC; exact ⟨rfl, rfl, rfl⟩)
    clear hCC hC hw5 m0 m1 mb hbox hsetD hn8 hls HR N8 HB2 HFX HOK hsz r7 hs2 hi0 hi1 hn0 hn1
    go_loopw [48] (fun v wr => ∃ k : Nat, (k : Int) ≤ S.weeks ∧ v = .int .i64 k ∧ weekAt C k 0 wr) (fun v _ => 30 - (intOf v).toNat)
    case atStart => exact ⟨0, by have := HWP.out; omega, rfl, HWK.out⟩
    case round =>
      rename World => wt
      obtain ⟨k, hk, rfl, hwk⟩ := hrel
      have HWT := Lib.hid hwk
      have hw30 := HWP.out
      have hfu := (HFU.out _ _ _ hwk).1
      have x0 := cell_of_row wt (w2.heap.size + 1) 0 _ 101 (0, 0) hfu; have x1 := cell_of_row wt (w2.heap.size + 1) 1 _ 101 (0, 0) hfu; have x2 := cell_of_row wt (w2.heap.size + 1) 2 _ 101 (0, 0) hfu
      simp at x0 x1 x2
      clear hwk hfu
      by_cases hlt : (k : Int) < S.weeks
      · go_wp2_with fail
        clear x0 x1 x2
        go_loopw [52] (fun v wq => ∃ s : Nat, s ≤ 3 ∧ v = .int .i64 s ∧ weekAt C k s wq) (fun v _ => 3 - (intOf v).toNat)
        case atStart => exact ⟨0, by omega, rfl, HWT.out⟩
        case round =>
          rename World => wq
          obtain ⟨s, hs, rfl, hwk⟩ := hrel
          have HWQ := Lib.hid hwk
          clear hwk
          by_cases hs3 : s < 3
          · have HST := Lib.hid (step_any HCK.out HCP.out (by have := HCW.out; omega) hs3 HWQ.out)
            rw [HCR.out] at HST
            have ix0 := fun u => (ix_funcs (.func (.func 67) #[.pointer (some ⟨R, 0, none⟩)] #[]) (.func (.func 68) #[.pointer (some ⟨R, 0, none⟩)] #[]) (.func (.func 69) #[.pointer (some ⟨R, 0, none⟩)] #[]) u).1
            have ix1 := fun u => (ix_funcs (.func (.func 67) #[.pointer (some ⟨R, 0, none⟩)] #[]) (.func (.func 68) #[.pointer (some ⟨R, 0, none⟩)] #[]) (.func (.func 69) #[.pointer (some ⟨R, 0, none⟩)] #[]) u).2.1
            have ix2 := fun u => (ix_funcs (.func (.func 67) #[.pointer (some ⟨R, 0, none⟩)] #[]) (.func (.func 68) #[.pointer (some ⟨R, 0, none⟩)] #[]) (.func (.func 69) #[.pointer (some ⟨R, 0, none⟩)] #[]) u).2.2
            rcases (show s = 0 ∨ s = 1 ∨ s = 2 by omega) with rfl | rfl | rfl
            all_goals
              go_wp2_with fail
              refine HST.out.mono ?_
              rintro e w6 ⟨rfl, h6⟩
              have H6 := Lib.hid h6
              clear h6
              go_wp2_with fail
              exact ⟨⟨_, by omega, by go_num, H6.out⟩, by simp [intOf]⟩
          · have hse : s = 3 := by omega
            subst hse
            go_wp2_with fail
            exact ⟨⟨k + 1, by omega, by go_num, HWQ.out⟩, by simp [intOf]; omega⟩
      · have hke : (k : Int) = S.weeks := by omega
        obtain ⟨st, qv, sv, lv, W, hh⟩ := HRUN.out k wt HWT.out hke
        have z8 := (HFU.out _ _ _ HWT.out).2
        obtain ⟨_, _, _, _, _, _, _, _, r16, r17, r18⟩ := run_cells hh
        obtain ⟨A2, c2, rfl, _, _⟩ := (RowIs.of_own hh.so).at_ (k := 3) gR_len
        obtain ⟨A3, c3, rfl, _, _⟩ := (RowIs.of_own hh.lo).at_ (k := 3) gR_len
        have y0 := cell_of_row wt (w.heap.size + 1) 0 _ 35 (0, 0) z8; have y1 := cell_of_row wt (w.heap.size + 1) 1 _ 35 (0, 0) z8; have y2 := cell_of_row wt (w.heap.size + 1) 2 _ 35 (0, 0) z8
        simp at y0 y1 y2
        have hfz : ∀ j, wt.frozen? ⟨w.heap.size + 1, j, none⟩ = false := fun j => by simp [World.frozen?, z8]
        have f0 := hfz 0; have f1 := hfz 1; have f2 := hfz 2
        have eD : C.D = w2.heap.size := HCX.out.2.2
        have eN : C.X.ns = ns := by rw [HCX.out.1]
        rw [HCR.out] at r16 r17 r18
        rw [eD, eN] at r16
        obtain ⟨o1, o2⟩ := set3_only wt (w.heap.size + 1) 0 (.slice (some ⟨w2.heap.size, 0, none⟩) ns ns) (.slice A2 (S.run p ice win).stocks.length c2) (.slice A3 (S.run p ice win).lacks.length c3)
        simp only [Nat.zero_add] at o1 o2
        have z9 := blk_set (blk_set (blk_set z8 0 (.slice (some ⟨w2.heap.size, 0, none⟩) ns ns)) 1 (.slice A2 (S.run p ice win).stocks.length c2)) 2 (.slice A3 (S.run p ice win).lacks.length c3)
        have hty : ∀ b cs, wt.heap[b]? = some (.cells cs 23 (0, 0)) → b ≠ w.heap.size + 1 := fun b cs hb e => by
          rw [e, z8] at hb
          injection hb with hb
          injection hb with _ hb _
          exact absurd hb (by decide)
        have hlnd := (o2 _ (hty _ _ hh.lnd)).trans hh.lnd
        have hso := own_of_blocks hh.so fun B hB => o2 B (by obtain ⟨_, cur, hc⟩ := own_at hh.so hB; exact hty _ _ hc)
        have hlo := own_of_blocks hh.lo fun B hB => o2 B (by obtain ⟨_, cur, hc⟩ := own_at hh.lo hB; exact hty _ _ hc)
        have hbw : Below w.heap.size w wt := by have := hh.bel; rw [HCX.out.2.1] at this; exact this
        have hbel := ((hbw.setCell (p := ⟨w.heap.size + 1, 0, none⟩) (by simp) (.slice (some ⟨w2.heap.size, 0, none⟩) ns ns)).setCell (p := ⟨w.heap.size + 1, 1, none⟩) (by simp) (.slice A2 (S.run p ice win).stocks.length c2)).setCell (p := ⟨w.heap.size + 1, 2, none⟩) (by simp) (.slice A3 (S.run p ice win).lacks.length c3)
        obtain ⟨A2', c2', e2, g2, _⟩ := (RowIs.of_own hso).at_ (k := 3) gR_len
        obtain ⟨A3', c3', e3, g3, _⟩ := (RowIs.of_own hlo).at_ (k := 3) gR_len
        injection e2 with e2 _ e2c
        injection e3 with e3 _ e3c
        subst e2 e2c e3 e3c
        rw [eD] at hlnd
        have g1 := rowAt_block gR_len hlnd (heapsz hlnd)
        have G := Lib.hid (And.intro hbel (And.intro g1 (And.intro g2 (And.intro g3 z9))))
        clear hh z8 hfz o1 o2 z9 hty hlnd hso hlo hbw hbel g1 g2 g3 x0 x1 x2
        go_wp2_with fail
        obtain ⟨hbel, g1, g2, g3, z9⟩ := G.out
        have q0 := cell_of_row _ (w.heap.size + 1) 0 _ 35 (0, 0) z9; have q1 := cell_of_row _ (w.heap.size + 1) 1 _ 35 (0, 0) z9; have q2 := cell_of_row _ (w.heap.size + 1) 2 _ 35 (0, 0) z9
        simp at q0 q1 q2
        exact bodyPost_ret (v := .agg #[.slice (some ⟨w2.heap.size, 0, none⟩) ns ns, .slice A2 (S.run p ice win).stocks.length c2, .slice A3 (S.run p ice win).lacks.length c3]) (by simp [results, Tryd.results47, go_sem, q0, q1, q2]) rfl ⟨w2.heap.size, A2, c2, A3, ⟨c3, rfl⟩, hbel, g1, g2, g3⟩
end Go.Proofs.YtijjkiogmlannaaDoor

namespace Go.Proofs.YtijjkiogmlannaaDoor
open Go.RowKit

/-- Whether what is asked for can be run. -/
def askB (S : Sto) (p i n : Int) : Bool := stoB S && (planOk S p && (inB 0 i ((S.ices.length : Int) - 1) && inB 0 n ((S.wins.length : Int) - 1)))
theorem gds_set {w w' : World} {B b1 : Nat} {A : Option Addr} {l : List Gd} (h : GdsAt w B A l) (hz : w.heap[b1]? = some (.cells #[.slice none 0 0, .slice none 0 0, .slice none 0 0] 35 (0, 0))) (hk : ∀ b, b ≠ b1 → w'.heap[b]? = w.heap[b]?) : GdsAt w' B A l := fun hne => by
  obtain ⟨b, o, rfl, hb, hc⟩ := h hne
  have hn : b ≠ b1 := fun e => by
    cases l with
    | nil => exact hne rfl
    | cons x l =>
      have h1 := hc 0 x rfl 0 _ rfl
      rw [e, cell_of_row w b1 _ _ 35 (0, 0) hz] at h1
      rcases (show o + 0 * 3 + 0 = 0 ∨ o + 0 * 3 + 0 = 1 ∨ o + 0 * 3 + 0 = 2 ∨ 3 ≤ o + 0 * 3 + 0 by omega) with h | h | h | h
      · rw [h] at h1; cases h1
      · rw [h] at h1; cases h1
      · rw [h] at h1; cases h1
      · rw [Array.getElem?_eq_none (by simpa using h)] at h1; cases h1
  refine ⟨b, o, rfl, hb, fun i x hx j v hv => ?_⟩
  exact (World.cell?_of_block (hk b hn)).trans (hc i x hx j v hv)
set_option maxRecDepth 100000 in
set_option maxHeartbeats 8000000 in
theorem Run_any {X : SX} {w : World} (h : X.In w) (p i n : Int) : Calls Tryd.prog 15 #[X.v, .int .i64 p, .int .i64 i, .int .i64 n] w fun e w' => Below w.heap.size w w' ∧
    ((askB X.S p i n = false ∧ e = .returned (.tuple #[.agg #[.slice none 0 0, .slice none 0 0, .slice none 0 0], .int .i64 2])) ∨
     (askB X.S p i n = true ∧ ∃ D A2 c2 A3 c3, e = .returned (.tuple #[.agg #[.slice (some ⟨D, 0, none⟩) X.ns X.ns, .slice A2 (X.S.run p.toNat (X.S.ices.getD i.toNat []) (X.S.wins.getD n.toNat [])).stocks.length c2, .slice A3 (X.S.run p.toNat (X.S.ices.getD i.toNat []) (X.S.wins.getD n.toNat [])).lacks.length c3], .int .i64 0]) ∧
      GdsAt w' w'.heap.size (some ⟨D, 0, none⟩) (X.S.run p.toNat (X.S.ices.getD i.toNat []) (X.S.wins.getD n.toNat [])).ld ∧ GdsAt w' w'.heap.size A2 (X.S.run p.toNat (X.S.ices.getD i.toNat []) (X.S.wins.getD n.toNat [])).stocks ∧ GdsAt w' w'.heap.size A3 (X.S.run p.toNat (X.S.ices.getD i.toNat []) (X.S.wins.getD n.toNat [])).lacks)) := by
  have HIN := Lib.hid h
  have hw2 := h.w2; have hi2 := h.i2; have hli := h.hi; have hlw := h.hw; have hls := h.hs
  rcases X with ⟨S, AS, ns, cs, AI, ni, ci, AW, nw, cw⟩
  simp only at hw2 hi2 hli hlw hls
  obtain ⟨z0, z1, hb1⟩ := two_new w (.cells (SX.cells ⟨S, AS, ns, cs, AI, ni, ci, AW, nw, cw⟩) 28) (.cells #[.slice none 0 0, .slice none 0 0, .slice none 0 0] 35)
  obtain ⟨⟨s0, s1, s2⟩, ⟨s3, s4, s5⟩, ⟨s6, s7, s8⟩, s9, s10, s11⟩ := sto_box z0
  simp only at s0 s1 s2 s3 s4 s5 s6 s7 s8 s9 s10 s11
  have HI1 := Lib.hid (h.up hb1)
  have HCK := Lib.hid (checkPlan_any HI1.out p)
  have HZ0 := Lib.hid z0; have HZ1 := Lib.hid z1; have HB1 := Lib.hid hb1
  have hci : chpI S p = if (stoB S && planOk S p) then 0 else 2 := rfl
  have HCI := Lib.hid hci
  have HLI := Lib.hid hli; have HLW := Lib.hid hlw; have HLS := Lib.hid hls
  unfold maxLen at hw2 hi2
  clear h z0 z1 hb1 hci
  go_enter Tryd.func15, Tryd.ntmps15
  go_wp2_with fail
  refine HCK.out.mono ?_
  rintro e w2 ⟨rfl, hb⟩
  rw [HCI.out]
  have HB2 := Lib.hid (HB1.out.trans (hb.mono HB1.out.size)); have HZ02 := Lib.hid ((hb.block _ (heapsz HZ0.out)).trans HZ0.out); have HZ12 := Lib.hid ((hb.block _ (heapsz HZ1.out)).trans HZ1.out)
  have HI2 := Lib.hid (HI1.out.up hb)
  clear hb s0 s1 s2 s3 s4 s5 s6 s7 s8 s9 s10 s11 HZ0 HZ1 HCK HI1 HB1 HCI
  obtain ⟨B, hB⟩ : ∃ z, (stoB S && planOk S p) = z := ⟨_, rfl⟩
  have HBB := Lib.hid hB
  rw [hB]
  clear hB
  obtain ⟨⟨s0, s1, s2⟩, ⟨s3, s4, s5⟩, ⟨s6, s7, s8⟩, s9, s10, s11⟩ := sto_box HZ02.out
  simp only at s0 s1 s2 s3 s4 s5 s6 s7 s8 s9 s10 s11
  cases B with
  | false =>
    have HBAD : Hid (askB S p i n = false) := Lib.hid (by unfold askB; have hb := HBB.out; revert hb; cases stoB S <;> cases planOk S p <;> simp)
    have y0 := cell_of_row _ (w.heap.size + 1) 0 _ 35 (0, 0) HZ12.out; have y1 := cell_of_row _ (w.heap.size + 1) 1 _ 35 (0, 0) HZ12.out; have y2 := cell_of_row _ (w.heap.size + 1) 2 _ 35 (0, 0) HZ12.out
    simp at y0 y1 y2
    have hfz : ∀ j, w2.frozen? ⟨w.heap.size + 1, j, none⟩ = false := fun j => by simp [World.frozen?, HZ12.out]
    have f0 := hfz 0; have f1 := hfz 1; have f2 := hfz 2
    have HZ9 := Lib.hid (blk_set (blk_set (blk_set HZ12.out 0 (.slice none 0 0)) 1 (.slice none 0 0)) 2 (.slice none 0 0))
    have HBE := Lib.hid (bel_fill (b := w.heap.size + 1) (x := .slice none 0 0) (y := .slice none 0 0) (z := .slice none 0 0) HB2.out (by omega))
    clear hfz
    go_wp2_with fail
    have q0 := cell_of_row _ (w.heap.size + 1) 0 _ 35 (0, 0) HZ9.out; have q1 := cell_of_row _ (w.heap.size + 1) 1 _ 35 (0, 0) HZ9.out; have q2 := cell_of_row _ (w.heap.size + 1) 2 _ 35 (0, 0) HZ9.out
    simp at q0 q1 q2
    exact bodyPost_ret (v := .tuple #[.agg #[.slice none 0 0, .slice none 0 0, .slice none 0 0], .int .i64 2]) (by simp [results, Tryd.results15, go_sem, q0, q1, q2]) rfl ⟨HBE.out, .inl ⟨HBAD.out, rfl⟩⟩
  | true =>
    have hok := stoB_iff.1 (Bool.and_eq_true _ _ ▸ HBB.out).1
    have hi4 := hok.i4; have hw4 := hok.w4
    rw [HLI.out] at hi4
    rw [HLW.out] at hw4
    have HOK := Lib.hid hok
    have HSB : Hid (stoB S = true) := Lib.hid (Bool.and_eq_true _ _ ▸ HBB.out).1
    have HPO : Hid (planOk S p = true) := Lib.hid (Bool.and_eq_true _ _ ▸ HBB.out).2
    clear hok
    have eI : Value.int .i64 (wrap64 ((ni : Int) - 1)) = Value.int .i64 ((ni : Int) - 1) := by congr 1; exact w64 (by omega)
    have eW : Value.int .i64 (wrap64 ((nw : Int) - 1)) = Value.int .i64 ((nw : Int) - 1) := by congr 1; exact w64 (by omega)
    obtain ⟨F, hF⟩ : ∃ z, inB 0 i ((ni : Int) - 1) = z := ⟨_, rfl⟩
    obtain ⟨G, hG⟩ : ∃ z, inB 0 n ((nw : Int) - 1) = z := ⟨_, rfl⟩
    have KF : Hid (∀ u, Calls Tryd.prog 42 #[.int .i64 0, .int .i64 i, .int .i64 ((ni : Int) - 1)] u fun e w' => e = .returned (.bool F) ∧ u = w') := Lib.hid fun u => by rw [← hF]; exact from_any _ _ _ u
    have KG : Hid (∀ u, Calls Tryd.prog 42 #[.int .i64 0, .int .i64 n, .int .i64 ((nw : Int) - 1)] u fun e w' => e = .returned (.bool G) ∧ u = w') := Lib.hid fun u => by rw [← hG]; exact from_any _ _ _ u
    have HF := Lib.hid hF; have HG := Lib.hid hG
    clear hF hG
    go_wp2_with fail
    refine (KF.out _).mono ?_
    rintro e w' ⟨rfl, rfl⟩
    cases F with
    | false =>
      have HBAD : Hid (askB S p i n = false) := Lib.hid (by unfold askB; rw [HLI.out, HF.out]; simp)
      have y0 := cell_of_row _ (w.heap.size + 1) 0 _ 35 (0, 0) HZ12.out; have y1 := cell_of_row _ (w.heap.size + 1) 1 _ 35 (0, 0) HZ12.out; have y2 := cell_of_row _ (w.heap.size + 1) 2 _ 35 (0, 0) HZ12.out
      simp at y0 y1 y2
      have hfz : ∀ j, w2.frozen? ⟨w.heap.size + 1, j, none⟩ = false := fun j => by simp [World.frozen?, HZ12.out]
      have f0 := hfz 0; have f1 := hfz 1; have f2 := hfz 2
      have HZ9 := Lib.hid (blk_set (blk_set (blk_set HZ12.out 0 (.slice none 0 0)) 1 (.slice none 0 0)) 2 (.slice none 0 0))
      have HBE := Lib.hid (bel_fill (b := w.heap.size + 1) (x := .slice none 0 0) (y := .slice none 0 0) (z := .slice none 0 0) HB2.out (by omega))
      clear hfz
      go_wp2_with fail
      have q0 := cell_of_row _ (w.heap.size + 1) 0 _ 35 (0, 0) HZ9.out; have q1 := cell_of_row _ (w.heap.size + 1) 1 _ 35 (0, 0) HZ9.out; have q2 := cell_of_row _ (w.heap.size + 1) 2 _ 35 (0, 0) HZ9.out
      simp at q0 q1 q2
      exact bodyPost_ret (v := .tuple #[.agg #[.slice none 0 0, .slice none 0 0, .slice none 0 0], .int .i64 2]) (by simp [results, Tryd.results15, go_sem, q0, q1, q2]) rfl ⟨HBE.out, .inl ⟨HBAD.out, rfl⟩⟩
    | true =>
      go_wp2_with fail
      refine (KG.out _).mono ?_
      rintro e w' ⟨rfl, rfl⟩
      cases G with
      | false =>
        have HBAD : Hid (askB S p i n = false) := Lib.hid (by unfold askB; rw [HLW.out, HG.out]; simp)
        have y0 := cell_of_row _ (w.heap.size + 1) 0 _ 35 (0, 0) HZ12.out; have y1 := cell_of_row _ (w.heap.size + 1) 1 _ 35 (0, 0) HZ12.out; have y2 := cell_of_row _ (w.heap.size + 1) 2 _ 35 (0, 0) HZ12.out
        simp at y0 y1 y2
        have hfz : ∀ j, w2.frozen? ⟨w.heap.size + 1, j, none⟩ = false := fun j => by simp [World.frozen?, HZ12.out]
        have f0 := hfz 0; have f1 := hfz 1; have f2 := hfz 2
        have HZ9 := Lib.hid (blk_set (blk_set (blk_set HZ12.out 0 (.slice none 0 0)) 1 (.slice none 0 0)) 2 (.slice none 0 0))
        have HBE := Lib.hid (bel_fill (b := w.heap.size + 1) (x := .slice none 0 0) (y := .slice none 0 0) (z := .slice none 0 0) HB2.out (by omega))
        clear hfz
        go_wp2_with fail
        have q0 := cell_of_row _ (w.heap.size + 1) 0 _ 35 (0, 0) HZ9.out; have q1 := cell_of_row _ (w.heap.size + 1) 1 _ 35 (0, 0) HZ9.out; have q2 := cell_of_row _ (w.heap.size + 1) 2 _ 35 (0, 0) HZ9.out
        simp at q0 q1 q2
        exact bodyPost_ret (v := .tuple #[.agg #[.slice none 0 0, .slice none 0 0, .slice none 0 0], .int .i64 2]) (by simp [results, Tryd.results15, go_sem, q0, q1, q2]) rfl ⟨HBE.out, .inl ⟨HBAD.out, rfl⟩⟩
      | true =>
        have h1 := inB_iff.1 HF.out; have h2 := inB_iff.1 HG.out; have h3 := inB_iff.1 HPO.out
        obtain ⟨P, rfl⟩ : ∃ P : Nat, p = (P : Int) := ⟨p.toNat, by omega⟩
        obtain ⟨I, rfl⟩ : ∃ I : Nat, i = (I : Int) := ⟨i.toNat, by omega⟩
        obtain ⟨N, rfl⟩ : ∃ N : Nat, n = (N : Int) := ⟨n.toNat, by omega⟩
        have hPn : P < 2 ^ ns := by rw [HLS.out] at h3; omega
        have HGD : Hid (askB S P I N = true) := Lib.hid (by unfold askB; rw [HSB.out, HPO.out, HLI.out, HLW.out, HF.out, HG.out]; rfl)
        have HRN := Lib.hid (run_any HI2.out HOK.out P I N hPn (by show I < ni; omega) (by show N < nw; omega))
        clear h1 h2 h3 hPn
        go_wp2_with fail
        refine HRN.out.mono ?_
        rintro e w3 ⟨D, A2, c2, A3, c3, rfl, hb, g1, g2, g3⟩
        have HB3 := Lib.hid (HB2.out.trans (hb.mono HB2.out.size)); have HZ13 := Lib.hid ((hb.block _ (heapsz HZ12.out)).trans HZ12.out)
        have y0 := cell_of_row _ (w.heap.size + 1) 0 _ 35 (0, 0) HZ13.out; have y1 := cell_of_row _ (w.heap.size + 1) 1 _ 35 (0, 0) HZ13.out; have y2 := cell_of_row _ (w.heap.size + 1) 2 _ 35 (0, 0) HZ13.out
        simp at y0 y1 y2
        have hfz : ∀ j, w3.frozen? ⟨w.heap.size + 1, j, none⟩ = false := fun j => by simp [World.frozen?, HZ13.out]
        have f0 := hfz 0; have f1 := hfz 1; have f2 := hfz 2
        obtain ⟨T, hT⟩ : ∃ z, S.run P (S.ices.getD I []) (S.wins.getD N []) = z := ⟨_, rfl⟩
        have G1 := Lib.hid g1; have G2 := Lib.hid g2; have G3 := Lib.hid g3
        obtain ⟨v0, hv0⟩ : ∃ z : Value, .slice (some ⟨D, 0, none⟩) ns ns = z := ⟨_, rfl⟩
        have HTT := Lib.hid hT
        have HZ9 := fun a b c => Lib.hid (blk_set (blk_set (blk_set HZ13.out 0 a) 1 b) 2 c)
        have HO := fun a b c => Lib.hid (set3_only w3 (w.heap.size + 1) 0 a b c)
        have HBE := fun a b c => Lib.hid (bel_fill (b := w.heap.size + 1) (x := a) (y := b) (z := c) HB3.out (by omega))
        clear hfz hb g1 g2 g3 hT hv0 v0
        go_wp2_with fail
        have z9 := (HZ9 (.slice (some ⟨D, 0, none⟩) ns ns) (.slice A2 (S.run P (S.ices.getD I []) (S.wins.getD N [])).stocks.length c2) (.slice A3 (S.run P (S.ices.getD I []) (S.wins.getD N [])).lacks.length c3)).out
        have o9 := (HO (.slice (some ⟨D, 0, none⟩) ns ns) (.slice A2 (S.run P (S.ices.getD I []) (S.wins.getD N [])).stocks.length c2) (.slice A3 (S.run P (S.ices.getD I []) (S.wins.getD N [])).lacks.length c3)).out
        have e9 := (HBE (.slice (some ⟨D, 0, none⟩) ns ns) (.slice A2 (S.run P (S.ices.getD I []) (S.wins.getD N [])).stocks.length c2) (.slice A3 (S.run P (S.ices.getD I []) (S.wins.getD N [])).lacks.length c3)).out
        simp only [Nat.zero_add] at o9
        have q0 := cell_of_row _ (w.heap.size + 1) 0 _ 35 (0, 0) z9; have q1 := cell_of_row _ (w.heap.size + 1) 1 _ 35 (0, 0) z9; have q2 := cell_of_row _ (w.heap.size + 1) 2 _ 35 (0, 0) z9
        simp at q0 q1 q2
        have k1 := gds_set G1.out HZ13.out o9.2; have k2 := gds_set G2.out HZ13.out o9.2; have k3 := gds_set G3.out HZ13.out o9.2
        rw [← o9.1.2.2.2] at k1 k2 k3
        exact bodyPost_ret (v := .tuple #[.agg #[.slice (some ⟨D, 0, none⟩) ns ns, .slice A2 (S.run P (S.ices.getD I []) (S.wins.getD N [])).stocks.length c2, .slice A3 (S.run P (S.ices.getD I []) (S.wins.getD N [])).lacks.length c3], .int .i64 0]) (by simp [results, Tryd.results15, go_sem, q0, q1, q2]) rfl ⟨e9, .inr ⟨HGD.out, D, A2, c2, A3, c3, rfl, k1, k2, k3⟩⟩
end Go.Proofs.YtijjkiogmlannaaDoor
