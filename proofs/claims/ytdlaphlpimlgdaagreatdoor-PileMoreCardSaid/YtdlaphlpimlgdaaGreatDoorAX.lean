/- The planner: the jackings of the one group of the example. -/
import Derived.LoopN
import Derived.Test.YtdlaphlpimlgdaaGreatDoorAT
namespace Go.Proofs.YtdlaphlpimlgdaaGreatDoor
open Go.RowKit Go.Shelf

def zero6 : Array Value := #[.int .i64 0, .int .i64 0, .int .i64 0, .int .i64 0, .int .i64 0, .int .i64 0]
theorem st_ok {xs : List Int} (h : xs.all (fun x => decide (0 ≤ x ∧ x ≤ 1)) = true) (i : Nat) : 0 ≤ xs.getD i 0 ∧ xs.getD i 0 ≤ ((1 : Nat) : Int) := by
  rw [List.getD_eq_getElem?_getD]
  cases hx : xs[i]? with
  | none => simp
  | some x => simpa using of_decide_eq_true (List.all_eq_true.1 h x (List.mem_of_getElem? hx))
theorem and_not3 (s : Nat) (hs : s ≤ 3) : bits .andNot .i64 (s : Int) ((3 : Nat) : Int) = 0 := by
  have : s = 0 ∨ s = 1 ∨ s = 2 ∨ s = 3 := by omega
  rcases this with rfl | rfl | rfl | rfl <;> decide
theorem jk0 : jakL [0, 0, 0, 0, 0, 0] ((0 : Nat) : Int) 1 = [0, 0, 0, 0, 0, 0] := by kernel_rfl
theorem jk1 : jakL [0, 0, 0, 0, 0, 0] ((1 : Nat) : Int) 1 = [1, 0, 0, 0, 0, 0] := by kernel_rfl
theorem jk2 : jakL [0, 0, 0, 0, 0, 0] ((2 : Nat) : Int) 1 = [0, 1, 0, 0, 0, 0] := by kernel_rfl
theorem jk3 : jakL [0, 0, 0, 0, 0, 0] ((3 : Nat) : Int) 1 = [1, 1, 0, 0, 0, 0] := by kernel_rfl
theorem pk0 : plaI [0, 0, 0, 0, 0, 0] 3 1 = ((0 : Nat) : Int) := by kernel_rfl
theorem pk1 : plaI [1, 0, 0, 0, 0, 0] 3 1 = ((2 : Nat) : Int) := by kernel_rfl
theorem pk2 : plaI [0, 1, 0, 0, 0, 0] 3 1 = ((1 : Nat) : Int) := by kernel_rfl
theorem pk3 : plaI [1, 1, 0, 0, 0, 0] 3 1 = ((3 : Nat) : Int) := by kernel_rfl
set_option maxRecDepth 100000 in
set_option maxHeartbeats 2000000 in
theorem jack_X {X : Ctx} (K : X.Ok) (hnp : X.np = 2) (hn : X.n = 2) {LL : List (List Sp)} {p : Nat} {A3 : Option Addr} {c3 bm bc cc bp : Nat} {w : World} (h : PlAt X LL p A3 c3 (.map (some bm)) w) (es : Array MapEntry) (clock : Nat) (hm : w.heap[bm]? = some (.map es clock))
    (hget : ∀ u : World, u.heap[bm]? = some (.map es clock) → (Instr.lookup 165 (.map (some bm)) (.agg #[.int .i64 3, .int .i64 1]) false).run Tryz.prog u = .ok (.slice (some ⟨bc, 0, none⟩) 4 cc) u)
    (cs : Array Value) (V0 V1 V2 V3 : Int) (hc : w.heap[bc]? = some (.cells cs 3 (0, 0))) (hc0 : cs[0]? = some (.int .i64 V0)) (hc1 : cs[1]? = some (.int .i64 V1)) (hc2 : cs[2]? = some (.int .i64 V2)) (hc3 : cs[3]? = some (.int .i64 V3))
    (hV : (0 ≤ V0 ∧ V0 ≤ 1000000000) ∧ (0 ≤ V1 ∧ V1 ≤ 1000000000) ∧ (0 ≤ V2 ∧ V2 ≤ 1000000000) ∧ (0 ≤ V3 ∧ V3 ≤ 1000000000))
    (hp : w.heap[bp]? = some (.cells #[.int .i64 0, .int .i64 0] 3 (0, 0))) (f : Nat → Int) (hf : f 0 = priI X 0 + V0 ∧ f 1 = priI X 1 + V2 ∧ f 2 = priI X 2 + V1 ∧ f 3 = priI X 3 + V3) (B : Int) (hB : chI f 3 = B) (hor : bits .or .i64 0 B = B) :
    Calls Tryz.prog 120 #[.pointer (some ⟨p, 0, none⟩), .int .i64 3, .slice (some ⟨bp, 0, none⟩) 2 2] w fun e w' => (∃ v, e = .returned v) ∧ w'.heap[bp]? = some (.cells #[.int .i64 B, .int .i64 0] 3 (0, 0)) ∧ ∀ N, N ≤ bp → N ≤ w.heap.size → Below N w w' := by
  obtain ⟨z0, z1, z2, z3, hb⟩ := four_new w (.cells #[.pointer (some ⟨p, 0, none⟩)] 164) (.cells #[.int .i64 3] 3) (.cells #[.int .i64 0, .int .i64 0, .int .i64 0, .int .i64 0, .int .i64 0, .int .i64 0] 192) (.cells #[.int .i64 1] 3)
  have HP := Lib.hid h; have HK := Lib.hid K; have HB := Lib.hid hb
  have Z0 := Lib.hid z0; have Z1 := Lib.hid z1; have Z2 := Lib.hid z2; have Z3 := Lib.hid z3
  have HM := Lib.hid ((hb.block _ (Array.getElem?_eq_some_iff.1 hm).1).trans hm)
  have HPW := h.up hb
  obtain ⟨p0, _, p2⟩ := HPW.cells
  obtain ⟨_, _, _, _, _, _, g6⟩ := look_cells HPW.x.g
  rw [hn] at g6
  have a0 := cell_of_row _ w.heap.size 0 _ 164 (0, 0) z0
  have a1 := cell_of_row _ (w.heap.size + 1) 0 _ 3 (0, 0) z1
  have a3 := cell_of_row _ (w.heap.size + 1 + 1 + 1) 0 _ 3 (0, 0) z3
  simp only [List.getElem?_toArray, List.getElem?_cons_zero] at a0 a1 a3
  clear z0 z1 z2 z3 hb h K hm HPW
  go_enter Tryz.func120, Tryz.ntmps120
  go_wp2_with fail
  generalize (((w.alloc (.cells #[.pointer (some ⟨p, 0, none⟩)] 164)).alloc (.cells #[.int .i64 3] 3)).alloc (.cells #[.int .i64 0, .int .i64 0, .int .i64 0, .int .i64 0, .int .i64 0, .int .i64 0] 192)).alloc (.cells #[.int .i64 1] 3) = W at *
  refine wp_loop_rounds 2 ?_
  rw [rounds_succ]
  go_wp2_with fail
  go_quiet (fail)
  go_wp2_with fail
  have HBD : Hid (Below W.heap.size W (W.drewN nq)) := Lib.hid (drew_b _ _ _)
  have HMD : Hid ((W.drewN nq).heap[bm]? = some (.map es clock)) := Lib.hid HM.out
  have Z0D : Hid ((W.drewN nq).heap[w.heap.size]? = _) := Lib.hid Z0.out
  have Z1D : Hid ((W.drewN nq).heap[w.heap.size + 1]? = _) := Lib.hid Z1.out
  have Z2D : Hid ((W.drewN nq).heap[w.heap.size + 1 + 1]? = _) := Lib.hid Z2.out
  have Z3D : Hid ((W.drewN nq).heap[w.heap.size + 1 + 1 + 1]? = _) := Lib.hid Z3.out
  have HBW : Hid (Below w.heap.size w (W.drewN nq)) := Lib.hid (HB.out.trans (drew_b _ _ _))
  clear p0 p2 g6 a0 a1 a3 HM Z0 Z1 Z2 Z3 HBD HB
  generalize W.drewN nq = W1 at *
  have hl1 := hget W1.drew HMD.out
  have hl2 := fun o : Obj => hget ((W1.alloc o).drew) ((Below.heap_alloc _ _ _ (Array.getElem?_eq_some_iff.1 HMD.out).1).trans HMD.out)
  have hl3 := fun o : Obj => hget ((W1.drew.alloc o)) ((Below.heap_alloc _ _ _ (Array.getElem?_eq_some_iff.1 HMD.out).1).trans HMD.out)
  obtain ⟨_, _, p2⟩ := (HP.out.up HBW.out).cells
  have lp := heapsz (HP.out.up HBW.out).z
  have lm := (Array.getElem?_eq_some_iff.1 HMD.out).1
  have a0 := cell_of_row _ w.heap.size 0 _ 164 (0, 0) Z0D.out
  have a1 := cell_of_row _ (w.heap.size + 1) 0 _ 3 (0, 0) Z1D.out
  have a3 := cell_of_row _ (w.heap.size + 1 + 1 + 1) 0 _ 3 (0, 0) Z3D.out
  have l0 := heapsz Z0D.out; have l1 := heapsz Z1D.out; have l3 := heapsz Z3D.out
  simp only [List.getElem?_toArray, List.getElem?_cons_zero] at a0 a1 a3
  go_region
  have hbV : Below W1.heap.size W1 (W1.alloc (.cells #[.slice (some ⟨bc, 0, none⟩) 4 cc] 34)).drew := ((Below.refl W1.heap.size W1).alloc (Nat.le_refl _) (.cells #[.slice (some ⟨bc, 0, none⟩) 4 cc] 34)).drew
  have z4 : (W1.alloc (.cells #[.slice (some ⟨bc, 0, none⟩) 4 cc] 34)).drew.heap[W1.heap.size]? = some (.cells #[.slice (some ⟨bc, 0, none⟩) 4 cc] 34 (0, 0)) := heap_alloc_last W1 (.cells #[.slice (some ⟨bc, 0, none⟩) 4 cc] 34)
  have HV := Lib.hid (HBW.out.trans (hbV.mono HBW.out.size))
  have Z4 := Lib.hid z4
  have Z0V := Lib.hid ((hbV.block _ (heapsz Z0D.out)).trans Z0D.out)
  have Z1V := Lib.hid ((hbV.block _ (heapsz Z1D.out)).trans Z1D.out)
  have Z2V := Lib.hid ((hbV.block _ (heapsz Z2D.out)).trans Z2D.out)
  have Z3V := Lib.hid ((hbV.block _ (heapsz Z3D.out)).trans Z3D.out)
  have HW1 : Hid (w.heap.size + 1 + 1 + 1 < W1.heap.size) := Lib.hid l3
  have a1 := cell_of_row _ (w.heap.size + 1) 0 _ 3 (0, 0) Z1V.out
  simp only [List.getElem?_toArray, List.getElem?_cons_zero] at a1
  obtain ⟨b4, hb4⟩ : ∃ z, W1.heap.size = z := ⟨_, rfl⟩
  rw [hb4] at Z4 HW1
  clear p2 lp lm a0 a3 l0 l1 l3 hl1 hl2 hl3 hbV z4 Z0D Z1D Z2D Z3D HMD HBW hget
  generalize (W1.alloc (.cells #[.slice (some ⟨bc, 0, none⟩) 4 cc] 34)).drew = V at *
  go_wp2_with (first
    | (go_at_call 140; refine (setsOf_any _ _).mono ?_; rintro e w' ⟨rfl, rfl⟩)
    | fail)
  have hbS := (Below.refl V.heap.size V).alloc (Nat.le_refl _) (.cells #[.int .i64 3] 3)
  have zS := heap_alloc_new V (.cells #[.int .i64 3] 3)
  have HCP := cheapest_any V.heap.size 3 (by decide) and_not3 141 #[.pointer (some ⟨w.heap.size, 0, none⟩), .pointer (some ⟨b4, 0, none⟩), .pointer (some ⟨w.heap.size + 1 + 1, 0, none⟩), .pointer (some ⟨w.heap.size + 1 + 1 + 1, 0, none⟩), .pointer (some ⟨w.heap.size + 1, 0, none⟩)] f (V.alloc (.cells #[.int .i64 3] 3)) (heapsz zS)
    (cell_of_row _ V.heap.size 0 _ 3 (0, 0) zS) (enters_of Tryz.func141 (by kernel_rfl) rfl) (fun u hu s hs => by
      have hU := hbS.trans (hu.mono hbS.size)
      have hPu := HP.out.up (HV.out.trans (hU.mono HV.out.size))
      have k0 := (hU.block _ (heapsz Z0V.out)).trans Z0V.out
      have k1 := (hU.block _ (heapsz Z1V.out)).trans Z1V.out
      have k2 := (hU.block _ (heapsz Z2V.out)).trans Z2V.out
      have k3 := (hU.block _ (heapsz Z3V.out)).trans Z3V.out
      have k4 := (hU.block _ (heapsz Z4.out)).trans Z4.out
      have hWu := HV.out.trans (hU.mono HV.out.size)
      have kc := (hWu.block _ (heapsz hc)).trans hc
      have hbc := heapsz kc
      have s3 : (s : Int) ≤ (2 ^ X.np : Int) - 1 := by rw [hnp]; show (s : Int) ≤ 3; omega
      have hcase : s = 0 ∨ s = 1 ∨ s = 2 ∨ s = 3 := by omega
      rcases hcase with rfl | rfl | rfl | rfl
      · rw [hf.1]
        exact jcost_X HK.out hPu _ _ _ _ _ bc 0 4 cc 0 1 3 V0 0 0 0 0 0 0 k0 k4 k2 k3 k1 s3 (by decide) (by rw [jk0]; exact st_ok (by decide)) 0 (by rw [jk0]; exact pk0) (by decide) hbc ((cell_of_row _ bc 0 _ 3 (0, 0) kc).trans hc0) hV.1
      · rw [hf.2.1]
        exact jcost_X HK.out hPu _ _ _ _ _ bc 0 4 cc 1 1 3 V2 0 0 0 0 0 0 k0 k4 k2 k3 k1 s3 (by decide) (by rw [jk1]; exact st_ok (by decide)) 2 (by rw [jk1]; exact pk1) (by decide) hbc ((cell_of_row _ bc 2 _ 3 (0, 0) kc).trans hc2) hV.2.2.1
      · rw [hf.2.2.1]
        exact jcost_X HK.out hPu _ _ _ _ _ bc 0 4 cc 2 1 3 V1 0 0 0 0 0 0 k0 k4 k2 k3 k1 s3 (by decide) (by rw [jk2]; exact st_ok (by decide)) 1 (by rw [jk2]; exact pk2) (by decide) hbc ((cell_of_row _ bc 1 _ 3 (0, 0) kc).trans hc1) hV.2.1
      · rw [hf.2.2.2]
        exact jcost_X HK.out hPu _ _ _ _ _ bc 0 4 cc 3 1 3 V3 0 0 0 0 0 0 k0 k4 k2 k3 k1 s3 (by decide) (by rw [jk3]; exact st_ok (by decide)) 3 (by rw [jk3]; exact pk3) (by decide) hbc ((cell_of_row _ bc 3 _ 3 (0, 0) kc).trans hc3) hV.2.2.2)
  rw [hB] at HCP
  refine HCP.mono ?_
  rintro e w3 ⟨rfl, hb3⟩
  have hU := hbS.trans (hb3.mono hbS.size)
  have HB3 := Lib.hid (HV.out.trans (hU.mono HV.out.size))
  have k0 := Lib.hid ((hU.block _ (heapsz Z0V.out)).trans Z0V.out)
  have k2 := Lib.hid ((hU.block _ (heapsz Z2V.out)).trans Z2V.out)
  have k3 := Lib.hid ((hU.block _ (heapsz Z3V.out)).trans Z3V.out)
  have kp := Lib.hid ((HB3.out.block _ (heapsz hp)).trans hp)
  clear HCP zS hbS hU hb3 a1 Z0V Z1V Z2V Z3V Z4
  have hpl := heapsz hp
  have c0 := cell_of_row _ bp 0 _ 3 (0, 0) kp.out
  have y0 := cell_of_row _ (w.heap.size + 1 + 1 + 1) 0 _ 3 (0, 0) k3.out
  simp only [List.getElem?_toArray, List.getElem?_cons_zero] at c0 y0
  have fp : w3.frozen? ⟨bp, 0, none⟩ = false := by simp [World.frozen?, kp.out]
  have HPS : Hid ((w3.setCell ⟨bp, 0, none⟩ (.int .i64 B)).heap[bp]? = some (.cells #[.int .i64 B, .int .i64 0] 3 (0, 0))) := Lib.hid (by simpa using blk_set kp.out 0 (.int .i64 B))
  have HS0 := Lib.hid ((Below.heap_setCell w3 ⟨bp, 0, none⟩ (.int .i64 B) w.heap.size (by show w.heap.size ≠ bp; omega)).trans k0.out)
  have HS2 := Lib.hid ((Below.heap_setCell w3 ⟨bp, 0, none⟩ (.int .i64 B) (w.heap.size + 1 + 1) (by show w.heap.size + 1 + 1 ≠ bp; omega)).trans k2.out)
  have HS3 := Lib.hid ((Below.heap_setCell w3 ⟨bp, 0, none⟩ (.int .i64 B) (w.heap.size + 1 + 1 + 1) (by show w.heap.size + 1 + 1 + 1 ≠ bp; omega)).trans k3.out)
  have HSB : Hid (∀ N, N ≤ bp → N ≤ w.heap.size → Below N w (w3.setCell ⟨bp, 0, none⟩ (.int .i64 B))) := Lib.hid fun N h1 h2 => (HB3.out.mono h2).setCell (p := ⟨bp, 0, none⟩) h1 _
  have HSO : Hid (∀ b, b < w.heap.size → b ≠ bp → (w3.setCell ⟨bp, 0, none⟩ (.int .i64 B)).heap[b]? = w.heap[b]?) := Lib.hid fun b h1 h2 => (Below.heap_setCell w3 ⟨bp, 0, none⟩ (.int .i64 B) b h2).trans (HB3.out.block b h1)
  have Q (j : Nat) : w3.cell? ⟨w.heap.size + 1 + 1, j, none⟩ = #[Value.int .i64 0, .int .i64 0, .int .i64 0, .int .i64 0, .int .i64 0, .int .i64 0][j]? := cell_of_row w3 _ j _ 192 (0, 0) k2.out
  have q0 : w3.cell? ⟨w.heap.size + 1 + 1, 0, none⟩ = some (.int .i64 0) := Q 0
  have q1 : w3.cell? ⟨w.heap.size + 1 + 1, 1, none⟩ = some (.int .i64 0) := Q 1
  have q2 : w3.cell? ⟨w.heap.size + 1 + 1, 2, none⟩ = some (.int .i64 0) := Q 2
  have q3 : w3.cell? ⟨w.heap.size + 1 + 1, 3, none⟩ = some (.int .i64 0) := Q 3
  have q4 : w3.cell? ⟨w.heap.size + 1 + 1, 4, none⟩ = some (.int .i64 0) := Q 4
  have q5 : w3.cell? ⟨w.heap.size + 1 + 1, 5, none⟩ = some (.int .i64 0) := Q 5
  have HPL := Lib.hid hpl
  clear Q
  go_wp2_with fail
  have hJK := jacked_any 0 0 0 0 0 0 B 1 (w3.setCell ⟨bp, 0, none⟩ (.int .i64 B))
  obtain ⟨a', b', c', d', e', f', h7⟩ := six_list (show (jakL [0, 0, 0, 0, 0, 0] B 1).length = 6 from jak_len 1 _ _)
  rw [h7, show iV [a', b', c', d', e', f'] = #[.int .i64 a', .int .i64 b', .int .i64 c', .int .i64 d', .int .i64 e', .int .i64 f'] from rfl] at hJK
  refine hJK.mono ?_
  rintro e w4 ⟨rfl, hb4'⟩
  clear hJK q0 q1 q2 q3 q4 q5 c0 y0 fp h7 hpl
  have K0 := Lib.hid ((hb4'.block _ (heapsz HS0.out)).trans HS0.out)
  have K2 := Lib.hid ((hb4'.block _ (heapsz HS2.out)).trans HS2.out)
  have K3 := Lib.hid ((hb4'.block _ (heapsz HS3.out)).trans HS3.out)
  have KP := Lib.hid ((hb4'.block _ (heapsz HPS.out)).trans HPS.out)
  have HB4 : Hid (∀ N, N ≤ bp → N ≤ w.heap.size → Below N w w4) := Lib.hid fun N h1 h2 => (HSB.out N h1 h2).trans (hb4'.mono (Nat.le_trans h2 (HSB.out N h1 h2).size))
  have HO4 : Hid (∀ b, b < w.heap.size → b ≠ bp → w4.heap[b]? = w.heap[b]?) := Lib.hid fun b h1 h2 => (hb4'.block b (Nat.lt_of_lt_of_le h1 (HSB.out 0 (Nat.zero_le _) (Nat.zero_le _)).size)).trans (HSO.out b h1 h2)
  clear hb4' HS0 HS2 HS3 HPS HSB HSO
  have Z (j : Nat) : w4.cell? ⟨w.heap.size + 1 + 1, j, none⟩ = #[Value.int .i64 0, .int .i64 0, .int .i64 0, .int .i64 0, .int .i64 0, .int .i64 0][j]? := cell_of_row w4 (w.heap.size + 1 + 1) j _ 192 (0, 0) K2.out
  have r0 : w4.cell? ⟨w.heap.size + 1 + 1, 0, none⟩ = some (.int .i64 0) := Z 0
  have r1 : w4.cell? ⟨w.heap.size + 1 + 1, 1, none⟩ = some (.int .i64 0) := Z 1
  have r2 : w4.cell? ⟨w.heap.size + 1 + 1, 2, none⟩ = some (.int .i64 0) := Z 2
  have r3 : w4.cell? ⟨w.heap.size + 1 + 1, 3, none⟩ = some (.int .i64 0) := Z 3
  have r4 : w4.cell? ⟨w.heap.size + 1 + 1, 4, none⟩ = some (.int .i64 0) := Z 4
  have r5 : w4.cell? ⟨w.heap.size + 1 + 1, 5, none⟩ = some (.int .i64 0) := Z 5
  have fz : ∀ j, w4.frozen? ⟨w.heap.size + 1 + 1, j, none⟩ = false := fun j => by simp [World.frozen?, K2.out]
  have fz0 := fz 0; have fz1 := fz 1; have fz2 := fz 2; have fz3 := fz 3; have fz4 := fz 4; have fz5 := fz 5
  have yc := cell_of_row w4 (w.heap.size + 1 + 1 + 1) 0 _ 3 (0, 0) K3.out
  simp only [List.getElem?_toArray, List.getElem?_cons_zero] at yc
  have kb (W : World) (v0 v1 v2 v3 v4 v5 : Value) (b : Nat) (hne : b ≠ w.heap.size + 1 + 1) : ((((((W.setCell ⟨w.heap.size + 1 + 1, 0, none⟩ v0).setCell ⟨w.heap.size + 1 + 1, 1, none⟩ v1).setCell ⟨w.heap.size + 1 + 1, 2, none⟩ v2).setCell ⟨w.heap.size + 1 + 1, 3, none⟩ v3).setCell ⟨w.heap.size + 1 + 1, 4, none⟩ v4).setCell ⟨w.heap.size + 1 + 1, 5, none⟩ v5).heap[b]? = W.heap[b]? :=
    (Below.heap_setCell _ _ _ _ hne).trans ((Below.heap_setCell _ _ _ _ hne).trans ((Below.heap_setCell _ _ _ _ hne).trans ((Below.heap_setCell _ _ _ _ hne).trans ((Below.heap_setCell _ _ _ _ hne).trans (Below.heap_setCell _ _ _ _ hne)))))
  have J0 := Lib.hid ((kb w4 (.int .i64 a') (.int .i64 b') (.int .i64 c') (.int .i64 d') (.int .i64 e') (.int .i64 f') w.heap.size (by omega)).trans K0.out)
  have J3 := Lib.hid ((kb w4 (.int .i64 a') (.int .i64 b') (.int .i64 c') (.int .i64 d') (.int .i64 e') (.int .i64 f') (w.heap.size + 1 + 1 + 1) (by omega)).trans K3.out)
  have JP := Lib.hid ((kb w4 (.int .i64 a') (.int .i64 b') (.int .i64 c') (.int .i64 d') (.int .i64 e') (.int .i64 f') bp (by have := HPL.out; omega)).trans KP.out)
  have JB : Hid (∀ N, N ≤ bp → N ≤ w.heap.size → Below N w ((((((w4.setCell ⟨w.heap.size + 1 + 1, 0, none⟩ (.int .i64 a')).setCell ⟨w.heap.size + 1 + 1, 1, none⟩ (.int .i64 b')).setCell ⟨w.heap.size + 1 + 1, 2, none⟩ (.int .i64 c')).setCell ⟨w.heap.size + 1 + 1, 3, none⟩ (.int .i64 d')).setCell ⟨w.heap.size + 1 + 1, 4, none⟩ (.int .i64 e')).setCell ⟨w.heap.size + 1 + 1, 5, none⟩ (.int .i64 f'))) :=
    Lib.hid fun N h1 h2 => ((((((HB4.out N h1 h2).setCell (p := ⟨w.heap.size + 1 + 1, 0, none⟩) (by simp; omega) _).setCell (p := ⟨w.heap.size + 1 + 1, 1, none⟩) (by simp; omega) _).setCell (p := ⟨w.heap.size + 1 + 1, 2, none⟩) (by simp; omega) _).setCell (p := ⟨w.heap.size + 1 + 1, 3, none⟩) (by simp; omega) _).setCell (p := ⟨w.heap.size + 1 + 1, 4, none⟩) (by simp; omega) _).setCell (p := ⟨w.heap.size + 1 + 1, 5, none⟩) (by simp; omega) _
  have JO : Hid (∀ b, b < w.heap.size → b ≠ bp → ((((((w4.setCell ⟨w.heap.size + 1 + 1, 0, none⟩ (.int .i64 a')).setCell ⟨w.heap.size + 1 + 1, 1, none⟩ (.int .i64 b')).setCell ⟨w.heap.size + 1 + 1, 2, none⟩ (.int .i64 c')).setCell ⟨w.heap.size + 1 + 1, 3, none⟩ (.int .i64 d')).setCell ⟨w.heap.size + 1 + 1, 4, none⟩ (.int .i64 e')).setCell ⟨w.heap.size + 1 + 1, 5, none⟩ (.int .i64 f')).heap[b]? = w.heap[b]?) := Lib.hid fun b h1 h2 => (kb w4 (.int .i64 a') (.int .i64 b') (.int .i64 c') (.int .i64 d') (.int .i64 e') (.int .i64 f') b (by omega)).trans (HO4.out b h1 h2)
  clear Z fz kb K0 K2 K3 KP HB4 k0 k2 k3 kp HB3 HO4
  go_wp2_with fail
  clear r0 r1 r2 r3 r4 r5 fz0 fz1 fz2 fz3 fz4 fz5 yc
  have hsz5 : w4.heap.size = ((((((w4.setCell ⟨w.heap.size + 1 + 1, 0, none⟩ (.int .i64 a')).setCell ⟨w.heap.size + 1 + 1, 1, none⟩ (.int .i64 b')).setCell ⟨w.heap.size + 1 + 1, 2, none⟩ (.int .i64 c')).setCell ⟨w.heap.size + 1 + 1, 3, none⟩ (.int .i64 d')).setCell ⟨w.heap.size + 1 + 1, 4, none⟩ (.int .i64 e')).setCell ⟨w.heap.size + 1 + 1, 5, none⟩ (.int .i64 f')).heap.size := by simp
  rw [hsz5]
  clear hsz5
  generalize (((((w4.setCell ⟨w.heap.size + 1 + 1, 0, none⟩ (.int .i64 a')).setCell ⟨w.heap.size + 1 + 1, 1, none⟩ (.int .i64 b')).setCell ⟨w.heap.size + 1 + 1, 2, none⟩ (.int .i64 c')).setCell ⟨w.heap.size + 1 + 1, 3, none⟩ (.int .i64 d')).setCell ⟨w.heap.size + 1 + 1, 4, none⟩ (.int .i64 e')).setCell ⟨w.heap.size + 1 + 1, 5, none⟩ (.int .i64 f') = W5 at *
  have zN := heap_alloc_new W5 (.cells #[.int .i64 2] 3)
  have hbN := (Below.refl W5.heap.size W5).alloc (Nat.le_refl _) (.cells #[.int .i64 2] 3)
  have hpne : p ≠ bp := fun e => by
    have := HP.out.z
    rw [e, hp] at this
    cases this
  have hGne : X.G ≠ bp := fun e => by
    have := HP.out.x.g
    unfold LookAt at this
    rw [e, hp] at this
    cases this
  have szp := (HP.out.z)
  have e5 := (JO.out p (heapsz HP.out.z) hpne).trans HP.out.z
  have e6 := (JO.out X.G (heapsz HP.out.x.g) hGne).trans HP.out.x.g
  have E5 := (hbN.block _ (heapsz e5)).trans e5
  have E6 : LookAt (W5.alloc (.cells #[.int .i64 2] 3)) X.G X.AP X.AQ X.AR X.A X.np X.cp X.nq X.cq X.nr X.cr X.n X.c X.may X.sink X.tilt := (hbN.block _ (heapsz e6)).trans e6
  have p0 := cell_of_row _ p 0 _ 167 (0, 0) E5
  obtain ⟨_, _, _, _, _, _, g6⟩ := look_cells E6
  have a0 := cell_of_row _ w.heap.size 0 _ 164 (0, 0) ((hbN.block _ (heapsz J0.out)).trans J0.out)
  have a3 := cell_of_row _ W5.heap.size 0 _ 3 (0, 0) zN
  simp only [List.getElem?_toArray, List.getElem?_cons_zero] at p0 a0 a3
  rw [hn] at g6
  have JP2 := Lib.hid ((hbN.block _ (heapsz JP.out)).trans JP.out)
  have JB2 : Hid (∀ N, N ≤ bp → N ≤ w.heap.size → Below N w (W5.alloc (.cells #[.int .i64 2] 3))) := Lib.hid fun N h1 h2 => (JB.out N h1 h2).trans (hbN.mono (Nat.le_trans h2 (JB.out N h1 h2).size))
  clear e5 e6 E5 E6 zN hbN J0 J3 JP JB JO szp
  generalize hgs : W5.heap.size = b5 at *
  generalize W5.alloc (.cells #[.int .i64 2] 3) = W6 at *
  rw [rounds_succ]
  go_wp2_with fail
  go_quiet (fail)
  go_wp2_with fail
  go_end0
  exact ⟨⟨_, rfl⟩, JP2.out, fun N h1 h2 => (JB2.out N h1 h2).trans (drew_b _ _ _)⟩
end Go.Proofs.YtdlaphlpimlgdaaGreatDoor
/- The first year in which something is wrong with a pile: none. -/
namespace Go.Proofs.YtdlaphlpimlgdaaGreatDoor
open Go.RowKit Go.Shelf

set_option maxRecDepth 100000 in
set_option maxHeartbeats 2000000 in
theorem firstYear_none {X : Ctx} (n10 : X.n ≤ 10) (fid : Nat) (fs cs : Array Value) (i : Int) (w : World) (hX : X.At w)
    (hE : ∀ args w, (callFunc fid args).run Tryz.prog w = .ok (.enter fid args) w)
    (hC : ∀ u, Below w.heap.size w u → ∀ t : Nat, t < X.n → Calls Tryz.prog fid (fs ++ (#[.int .i64 (t : Int), .int .i64 i] ++ cs)) u fun e w' => e = .returned (.bool false) ∧ Below u.heap.size u w') :
    Calls Tryz.prog 71 #[.pointer (some ⟨X.G, 0, none⟩), .int .i64 i, .func (.func fid) fs cs] w fun e w' => e = .returned (.int .i64 (-1)) ∧ Below w.heap.size w w' := by
  obtain ⟨_, _, _, _, _, _, g6⟩ := look_cells hX.g
  have HC := Lib.hid hC
  clear hC hX
  go_enter Tryz.func71, Tryz.ntmps71
  go_wp2_with fail
  clear g6
  go_loopw [13] (fun k wr => ∃ t : Nat, t ≤ X.n ∧ k = .int .i64 t ∧ Below w.heap.size w wr) (fun k _ => X.n - (intOf k).toNat)
  case atStart => exact ⟨0, Nat.zero_le _, rfl, Below.refl _ _⟩
  case round =>
    obtain ⟨t, ht, rfl, hbr⟩ := hrel
    have HBR := Lib.hid hbr
    by_cases hlt : t < X.n
    · have ht1 : (t : Int) < (X.n : Int) := by omega
      have hcall := Lib.hid (HC.out wr hbr t hlt)
      clear hbr
      go_wp2_with fail
      refine Calls.mono (by simpa using hcall.out) ?_
      rintro e w1 ⟨rfl, hb1⟩
      have HB1 := Lib.hid (HBR.out.trans (hb1.mono HBR.out.size))
      clear hb1 hcall
      go_wp2_with fail
      exact ⟨⟨t + 1, by omega, by go_num, HB1.out⟩, by simp [intOf]; omega⟩
    · have ht1 : ¬ (t : Int) < (X.n : Int) := by omega
      clear hbr
      go_wp2_with fail
      try rw [Exit.noGoto_ret]
      exact bodyPost_ret (v := .int .i64 (-1)) (by simp [results, Tryz.results71, go_sem]) rfl ⟨rfl, HBR.out⟩
end Go.Proofs.YtdlaphlpimlgdaaGreatDoor
/- A region that draws its order, with guards, in which one call waits for all before it and may change memory. -/
namespace Go
open Go.RowKit
section
variable {P : Program}
/-- Each operation before c is waited for by a later one, up to c; c has a place. -/
def succB (ops : Array Oper) (c : Nat) : Bool :=
  (List.range c).all fun i => (List.range (c + 1)).any fun j => decide (i < j) && (ops[j]?).any fun o => o.after.any fun e => Region.binds .any e && e.on == i
def ClosedD (ops : Array Oper) (done : Nat → Bool) : Prop := ∀ i o, ops[i]? = some o → done i = true → ∀ e ∈ o.after, Region.binds .any e = true → done e.on = true
theorem all_before {ops : Array Oper} {c : Nat} (h : succB ops c = true) {done : Nat → Bool} (hC : ClosedD ops done) (hc : ∀ o, ops[c]? = some o → ∀ e ∈ o.after, Region.binds .any e = true → done e.on = true) : ∀ n i, i < c → c - i ≤ n → done i = true
  | 0, i, hi, hn => by omega
  | n + 1, i, hi, hn => by
    have h1 := List.all_eq_true.1 h i (List.mem_range.2 hi)
    obtain ⟨j, hj, h2⟩ := List.any_eq_true.1 h1
    rw [Bool.and_eq_true, Option.any_eq_true] at h2
    obtain ⟨h3, o, ho, h4⟩ := h2
    obtain ⟨e, he, h5⟩ := Array.any_eq_true'.1 h4
    rw [Bool.and_eq_true] at h5
    have hon : e.on = i := by simpa using h5.2
    have hij : i < j := of_decide_eq_true h3
    have hjc : j ≤ c := by have := List.mem_range.1 hj; omega
    by_cases hjc2 : j = c
    · subst hjc2
      rw [← hon]
      exact hc o ho e he h5.1
    · rw [← hon]
      exact hC j o ho (all_before h hC hc n j (by omega) (by omega)) e he h5.1
theorem closed_upd {ops : Array Oper} {done : Nat → Bool} (hC : ClosedD ops done) {i : Nat} {o : Oper} (ho : ops[i]? = some o) (hdep : ∀ e ∈ o.after, Region.binds .any e = true → done e.on = true) : ClosedD ops (updB done i) := fun j p hp hj e he hb => by
  unfold updB at hj ⊢
  split
  · rfl
  · by_cases hji : j = i
    · subst hji
      rw [ho] at hp
      injection hp with hp
      subst hp
      exact hdep e he hb
    · rw [if_neg hji] at hj
      exact hC j p hp hj e he hb
/-- Each operation behind c waits for one from c on. -/
def tailC (ops : Array Oper) (c : Nat) : Bool := (List.range ops.size).all fun i => decide (i ≤ c) || (ops[i]?).any fun o => o.after.any fun e => Region.binds .any e && decide (c ≤ e.on) && decide (e.on < i)
theorem done_c {ops : Array Oper} {c : Nat} (h : tailC ops c = true) {done : Nat → Bool} (hC : ClosedD ops done) : ∀ i o, c < i → ops[i]? = some o → (∀ e ∈ o.after, Region.binds .any e = true → done e.on = true) → done c = true := by
  intro i
  induction i using Nat.strongRecOn with
  | ind i ih =>
    intro o hi ho hdep
    have h1 := List.all_eq_true.1 h i (List.mem_range.2 (Array.getElem?_eq_some_iff.1 ho).1)
    rw [Bool.or_eq_true, ho] at h1
    rcases h1 with h1 | h1
    · have := of_decide_eq_true h1; omega
    · rw [Option.any_some] at h1
      obtain ⟨e, he, h2⟩ := Array.any_eq_true'.1 h1
      rw [Bool.and_eq_true, Bool.and_eq_true] at h2
      have h3 : c ≤ e.on := of_decide_eq_true h2.1.2
      have h4 : e.on < i := of_decide_eq_true h2.2
      have hd := hdep e he h2.1.1
      by_cases hec : e.on = c
      · rw [← hec]; exact hd
      · cases hp : ops[e.on]? with
        | none => exact absurd (Array.getElem?_eq_none_iff.1 hp) (by have := (Array.getElem?_eq_some_iff.1 ho).1; omega)
        | some p => exact ih e.on h4 p (by omega) hp (fun e' he' hb' => hC e.on p hp hd e' he' hb')
theorem Yield.mono {R R' : Value → World → Prop} {r : Result Next} (h : Yield P R r) (k : ∀ v w', R v w' → R' v w') : Yield P R' r := by
  cases r with
  | ok n w' =>
    cases n with
    | value v => exact k _ _ h
    | skip => exact k _ _ h
    | enter f args => exact Calls.mono h (by rintro e w2 ⟨v, rfl, hv⟩; exact ⟨v, rfl, k _ _ hv⟩)
    | _ => exact h
  | _ => exact h
structure CallS (ops : Array Oper) (c : Nat) (w0 : World) (R : World → Prop) (done : Nat → Bool) (w' : World) : Prop where
  clo : ClosedD ops done
  before : done c = false → Below w0.heap.size w0 w'
  after : done c = true → R w'
theorem plan_call {id : Nat} {ops : Array Oper} {Q : Exit → Act → World → Prop} {a0 : Act} {w : World} (c : Nat) (outs : List Tmp) (ρ : Tmp → Value) (R : World → Prop) (hm : P.follows .mixedOrders = true)
    (hE : earlyB ops = true) (hN : Region.noSelect ops = true) (hD : planGB ops a0.tmps.size outs = true) (hU : outs.all (fun t => (whoPuts ops t).isNone) = true) (hS : succB ops c = true) (hT : tailC ops c = true) (hcs : c < ops.size) (hout : ∀ t ∈ outs, a0.eval (.tmp t) = ρ t)
    (hs : ∀ i o, ops[i]? = some o → (i < c → ∀ u, Below w.heap.size w u → Region.wanted o (yieldedBy ops ρ) = true ∧ Yield P (fun v w' => Below u.heap.size u w' ∧ ∀ d, o.dst = some d → ρ d = v) ((execOp (evalBy ρ) o).run P u)) ∧
      (i = c → ∀ u, Below w.heap.size w u → Region.wanted o (yieldedBy ops ρ) = true ∧ Yield P (fun v w' => R w' ∧ ∀ d, o.dst = some d → ρ d = v) ((execOp (evalBy ρ) o).run P u)) ∧
      (c < i → ∀ u, R u → Region.wanted o (yieldedBy ops ρ) = true ∧ Yield P (fun v w' => R w' ∧ ∀ d, o.dst = some d → ρ d = v) ((execOp (evalBy ρ) o).run P u)))
    (he : ∀ u, R u → Q .normal (putAll ρ ops.toList a0) u) : (Code.region id ops true).wp P Q a0 w := by
  refine wp_region_any hm (plan_guarded_any (γ := Unit) outs (fun _ => ρ) (fun done _ w' => CallS ops c w R done w') () hE hN hD hU hout ?_ ?_ ?_)
  · exact ⟨fun i o _ h => by simp at h, fun _ => (Below.refl w.heap.size w).drew, fun h => by simp at h⟩
  · intro i o ho done _ u hS' hu hdep _
    have hclo := closed_upd hS'.clo ho hdep
    have hsame (hne : i ≠ c) : updB done i c = done c := by simp [updB, Ne.symm hne]
    rcases Nat.lt_trichotomy i c with hlt | heq | hgt
    · have hdc : done c = false := by
        cases hq : done c with
        | false => rfl
        | true =>
          have := all_before hS hS'.clo (fun p hp e he hb => hS'.clo c p hp hq e he hb) (c - i) i hlt (Nat.le_refl _)
          rw [hu] at this
          cases this
      obtain ⟨h1, h2⟩ := (hs i o ho).1 hlt u (hS'.before hdc)
      refine ⟨h1, Yield.mono h2 ?_⟩
      rintro v w' ⟨hb, hv⟩
      exact ⟨(), ⟨hclo, fun _ => (hS'.before hdc).trans (hb.mono (hS'.before hdc).size), fun h => by rw [hsame (by omega), hdc] at h; cases h⟩, hv, fun _ _ => rfl⟩
    · subst heq
      obtain ⟨h1, h2⟩ := (hs i o ho).2.1 rfl u (hS'.before hu)
      refine ⟨h1, Yield.mono h2 ?_⟩
      rintro v w' ⟨hb, hv⟩
      exact ⟨(), ⟨hclo, fun h => by simp [updB] at h, fun _ => hb⟩, hv, fun _ _ => rfl⟩
    · cases hdc : done c with
      | false => rw [done_c hT hS'.clo i o hgt ho hdep] at hdc; cases hdc
      | true =>
        obtain ⟨h1, h2⟩ := (hs i o ho).2.2 hgt u (hS'.after hdc)
        refine ⟨h1, Yield.mono h2 ?_⟩
        rintro v w' ⟨hb, hv⟩
        exact ⟨(), ⟨hclo, fun h => (by rw [hsame (by omega), hdc] at h; cases h), fun _ => hb⟩, hv, fun _ _ => rfl⟩
  · intro _ u hS'
    exact he u (hS'.after (by simp [hcs]))
end
end Go
/- A range over an iterator that writes memory of its own: the caller's invariant speaks of what lay before the loop alone. -/
namespace Go
open Go.RowKit
section
variable {P : Program} {n : Nat}
/-- An iterator that hands over the elements of some list; between two rounds it may write whatever was made behind the loop's begin. -/
def SeqFree {α : Type} (n : Nat) (P : Program) (g : Nat) (lb : Array Value) (encs : α → Array Value) (Kp : World → World → Prop) (S : List α → Prop) (w : World) : Prop :=
  ∀ (l : Nat) (J : List α → World → Prop) (W : World), Below w.heap.size w W → (∀ s A B, J s A → Below W.heap.size A B → J s B) →
    (∀ pre x W1, J pre W1 → YieldAt Fence.wide (n - 1) P l (encs x) W1 fun e W' => e = .returned (.bool true) ∧ J (pre ++ [x]) W' ∧ Kp W1 W') →
    J [] W → CallsIn Fence.wide n P g (#[.func (.yield l) #[] #[]] ++ lb) W fun e W' => (∃ v, e = .returned v) ∧ ∃ xs, S xs ∧ J xs W'
def freePost {α : Type} (Kp : World → World → Prop) (I : List α → World → Prop) (xs : List α) (W : World) : Exit → Act → World → Prop
  | .normal, _, W' => KeepsOthers W W' ∧ Kp W W' ∧ I xs W'
  | _, _, _ => False
theorem below_put {N : Nat} {W : World} {l : Nat} {o : Obj} (o' : Obj) (hl : N ≤ l) (_h : W.heap[l]? = some o) (hN : N ≤ W.heap.size) : Below N W (W.putObj l o') :=
  (Below.refl N W).grown (grownBy_putObj' W l o') hN (fun k e => by cases e; exact hl)
theorem wpIn_range_free {α : Type} {g : Operand} {ps : Array Tmp} {assign body : Code} {Q : Exit → Act → World → Prop} {a : Act} {w : World}
    (h1 : 1 ≤ n) {gf : Nat} {lb : Array Value} (hg : a.eval g = .func (.func gf) #[] lb) (eg : ∀ args w, (callFunc gf args).run P w = .ok (.enter gf args) w)
    {encs : α → Array Value} {Kp : World → World → Prop} {S : List α → Prop} (hseq : SeqFree (n - 1) P gf lb encs Kp S w)
    (hKt : ∀ {A B C : World}, Kp A B → Kp B C → Kp A C) (hKb : ∀ (W : World) (l : Nat) (o o' : Obj), w.heap.size ≤ l → W.heap[l]? = some o → o.isCells = false → Kp W (W.putObj l o')) (hps : ∀ x, (encs x).size = ps.size)
    (I : List α → World → Prop) (hI : ∀ s A B, I s A → w.heap.size ≤ A.heap.size → Below w.heap.size A B → I s B) (h0 : I [] w) (a₁ : α → Act)
    (hassign : ∀ (l : Nat) (x : α) (W : World) (K : Act → World → Prop), K (a₁ x) W →
      assign.wpIn (Fence.wide.inRound l) (n - 1 - 1) P (Exit.then K (fun _ _ _ => False)) { tmps := (ps.zip (encs x)).foldl (fun t (p, v) => t.setIfInBounds p v) a.tmps, defers := [] } W)
    (hbody : ∀ (l : Nat) (pre : List α) (x : α) (W : World), I pre W → body.wpIn (Fence.wide.inRound l) (n - 1 - 1) P (freePost Kp I (pre ++ [x]) W) (a₁ x) W)
    (hdone : ∀ (D : Nat) (xs : List α) (W : World), w.heap.size ≤ D → S xs → I xs W → W.heap[D]? = some (.deferred (some [])) → Q .normal { a with defers := { target := .collected D, args := #[] } :: a.defers } W) :
    (Code.rangeFunc g ps assign body).wpIn Fence.wide n P Q a w := by
  refine wpIn_rangeFunc ?_
  intro fn hfn
  obtain ⟨rec, hrec⟩ : ∃ rec : LoopState → Option Code → Loop, rec = fun st pe => { state := st, pending := pe, fn, tmps := a.tmps, params := ps, assign, body, defers := w.heap.size } := ⟨_, rfl⟩
  obtain ⟨W1, hW1⟩ : ∃ W1, (w.alloc (.deferred (some []))).alloc (.loop (rec .ready none)) = W1 := ⟨_, rfl⟩
  have hs1 : W1.heap.size = w.heap.size + 1 + 1 := by rw [← hW1]; simp
  have hL1 : W1.heap[w.heap.size + 1]? = some (.loop (rec .ready none)) := by
    rw [← hW1]; have := World.alloc_heap_new (w.alloc (.deferred (some []))) (.loop (rec .ready none)); rwa [World.size_alloc] at this
  have hK1 : W1.heap[w.heap.size]? = some (.deferred (some [])) := by
    rw [← hW1]; exact (Below.heap_alloc _ _ _ (by simp)).trans (World.alloc_heap_new w _)
  have hb1 : Below w.heap.size w W1 := by
    rw [← hW1]; exact ((Below.refl _ w).alloc (Nat.le_refl _) _).alloc (by simp) _
  refine ⟨w.heap.size + 1, [{ target := .collected w.heap.size, args := #[] }], W1, { target := .fn (.func gf) lb, args := #[.func (.yield (w.heap.size + 1)) #[] #[]] }, W1, gf,
    #[.func (.yield (w.heap.size + 1)) #[] #[]] ++ lb, W1, ?_, ?_, ?_, ?_, fun _ => h1, ?_⟩
  · rw [← hW1, hrec]; exact run_enterLoop_outer _ _ _ _ _
  · simp only [resolve, hg]
    simp [go_sem]
  · intro f' hf'; simp [Target.leads] at hf'; subst hf'; trivial
  · simp [invoke, go_sem, eg]
  · refine (hseq (w.heap.size + 1)
      (fun pre W => I pre W ∧ w.heap.size + 1 + 1 ≤ W.heap.size ∧ W.heap[w.heap.size + 1]? = some (.loop (rec .ready none)) ∧ W.heap[w.heap.size]? = some (.deferred (some [])))
      W1 hb1
      (fun s A B hs hb => ⟨hI s A B hs.1 (by omega) (hb.mono (by omega)), by have := hb.size; omega, (hb.block _ (by omega)).trans hs.2.2.1, (hb.block _ (by omega)).trans hs.2.2.2⟩)
      ?_ ⟨hI [] w W1 h0 (Nat.le_refl _) hb1, by omega, hL1, hK1⟩).mono ?_
    · rintro pre x W ⟨hi, hsz, hl, hk⟩
      have hy := run_yield (P := P) (args := encs x) hl (by rw [hrec]; exact hps x)
      rw [hrec] at hy
      refine ⟨fn, _, assign, body, hy, roundIn_of_wpIn hfn (hassign _ x W _ ⟨_, run_beginRound hl (by rw [hrec]), ?_⟩)⟩
      have hb2 := below_put (N := w.heap.size) (.loop { rec .ready none with state := .busy }) (by omega : w.heap.size ≤ w.heap.size + 1) hl (by omega)
      have hl2 : (W.putObj (w.heap.size + 1) (.loop { rec .ready none with state := .busy })).heap[w.heap.size + 1]? = some (.loop { rec .ready none with state := .busy }) := World.putObj_heap_same (by omega)
      have hk2 : (W.putObj (w.heap.size + 1) (.loop { rec .ready none with state := .busy })).heap[w.heap.size]? = some (.deferred (some [])) := (World.putObj_heap_other (by omega)).trans hk
      have hw2 : Kp W (W.putObj (w.heap.size + 1) (.loop { rec .ready none with state := .busy })) := hKb _ _ _ _ (by omega) hl rfl
      refine wpIn_mono (hbody _ pre x _ (hI _ _ _ hi (by omega) hb2)) ?_
      rintro e a3 W3 hp
      cases e with
      | normal =>
        obtain ⟨hk3, hkp3, hi3⟩ := hp
        have hl3 := hk3.same _ _ hl2 rfl
        have hsz3 : w.heap.size + 1 + 1 ≤ W3.heap.size := Nat.le_trans (Nat.le_trans hsz hb2.size) hk3.size
        have hr := run_endRound (P := P) none hl3
        have hb3 := below_put (N := w.heap.size) (.loop (rec .ready none)) (by omega : w.heap.size ≤ w.heap.size + 1) hl3 (by omega)
        rw [hrec] at hr
        refine ⟨_, W3.putObj (w.heap.size + 1) (.loop (rec .ready none)), by rw [hrec]; exact hr, rfl, ⟨hI _ _ _ hi3 (by omega) hb3, Nat.le_trans hsz3 hb3.size, World.putObj_heap_same (by omega), (World.putObj_heap_other (by omega)).trans (hk3.same _ _ hk2 rfl)⟩, hKt (hKt hw2 hkp3) (hKb _ _ _ _ (by omega) hl3 rfl)⟩
      | _ => exact hp.elim
    · rintro e W2 ⟨⟨v, rfl⟩, xs, hS, hi, hsz, hl, hk⟩
      have hb3 := below_put (N := w.heap.size) (.loop (rec .done none)) (by omega : w.heap.size ≤ w.heap.size + 1) hl (by omega)
      refine ⟨none, _, by have := run_endLoop (P := P) hl (by rw [hrec]; simp); rw [hrec] at this; exact this, hdone _ xs _ (Nat.le_refl _) hS (hI _ _ _ hi (by omega) ?_) ((World.putObj_heap_other (by omega)).trans hk)⟩
      exact below_put (N := w.heap.size) _ (by omega : w.heap.size ≤ w.heap.size + 1) hl (by omega)
end
end Go
