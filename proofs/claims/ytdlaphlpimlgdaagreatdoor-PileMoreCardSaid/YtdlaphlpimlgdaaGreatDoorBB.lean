/- The planner: all starts that stand, one after the other. -/
import Derived.Test.YtdlaphlpimlgdaaGreatDoorAX
namespace Go.Proofs.YtdlaphlpimlgdaaGreatDoor
open Go.RowKit Go.Shelf
attribute [local go_sem] Oper.semAt_some

/-- What a round keeps: all that was there at the year's begin, and all blocks of cells but one. -/
def KpC (w2 : World) (bc : Nat) (A B : World) : Prop := Below w2.heap.size A B ∧ A.heap.size ≤ B.heap.size ∧ ∀ (b : Nat) (cs : Array Value) (t : TypeId), b ≠ bc → A.heap[b]? = some (.cells cs t (0, 0)) → B.heap[b]? = some (.cells cs t (0, 0))
theorem kpC_t {w2 : World} {bc : Nat} {A B C : World} (h : KpC w2 bc A B) (k : KpC w2 bc B C) : KpC w2 bc A C :=
  ⟨h.1.trans k.1, Nat.le_trans h.2.1 k.2.1, fun b cs t hb hc => k.2.2 b cs t hb (h.2.2 b cs t hb hc)⟩
theorem kpC_b {w2 w : World} {bc : Nat} (hn : w2.heap.size ≤ w.heap.size) (W : World) (l : Nat) (o o' : Obj) (hl : w.heap.size ≤ l) (h : W.heap[l]? = some o) (h1 : o.isCells = false) : KpC w2 bc W (W.putObj l o') := by
  have hlt := (Array.getElem?_eq_some_iff.1 h).1
  refine ⟨below_put o' (by omega) h (by omega), by simp [World.putObj], fun b cs t _ hc => (World.putObj_heap_other (fun e => ?_)).trans hc⟩
  subst e
  rw [h] at hc
  injection hc with hc
  subst hc
  cases h1
/-- Where the iterator's things lie. -/
structure ItC where
  w2 : World
  n0 : Nat
  bq : Nat
  bpl : Nat
  cpl : Nat
  yb : Nat
  pb : Nat
  p : Nat
  y : Nat
  bc : Nat
  l : Nat
  cs : Array Value
def ItC.caps (c : ItC) : Array Value := #[.pointer (some ⟨c.bq, 0, none⟩), .pointer (some ⟨c.n0, 0, none⟩), .pointer (some ⟨c.yb, 0, none⟩), .pointer (some ⟨c.n0 + 1, 0, none⟩), .pointer (some ⟨c.pb, 0, none⟩), .pointer (some ⟨c.n0 + 1 + 1, 0, none⟩)]
structure ItC.Ok (c : ItC) : Prop where
  c0 : c.cs[0]? = some (.int .i64 0)
  c1 : c.cs[1]? = some (.int .i64 1)
  nq : c.bq < c.n0 ∧ c.bq ≠ c.bc
  npl : c.bpl < c.n0 ∧ c.bpl ≠ c.bc
  ny : c.yb < c.n0 ∧ c.yb ≠ c.bc
  np : c.pb < c.n0 ∧ c.pb ≠ c.bc
  nc : c.bc < c.n0
  n2 : c.w2.heap.size ≤ c.n0
structure ItS (c : ItC) (a b : Int) (W : World) : Prop where
  bel : Below c.w2.heap.size c.w2 W
  q : W.heap[c.bq]? = some (.cells #[.slice (some ⟨c.bpl, 0, none⟩) 2 c.cpl] 34 (0, 0))
  pl : W.heap[c.bpl]? = some (.cells c.cs 3 (0, 0))
  y : W.heap[c.yb]? = some (.cells #[.int .i64 (c.y : Int)] 3 (0, 0))
  p : W.heap[c.pb]? = some (.cells #[.pointer (some ⟨c.p, 0, none⟩)] 164 (0, 0))
  f : W.heap[c.n0]? = some (.cells #[.func (.yield c.l) #[] #[]] 103 (0, 0))
  s : W.heap[c.n0 + 1]? = some (.cells #[.int .i64 a, .int .i64 b, .int .i64 0, .int .i64 0, .int .i64 0, .int .i64 0] 192 (0, 0))
  r : W.heap[c.n0 + 1 + 1]? = some (.cells #[.func (.func 155) #[] c.caps] 112 (0, 0))
theorem ItS.up {c : ItC} {a b : Int} {W W' : World} (h : ItS c a b W) (hb : Below W.heap.size W W') : ItS c a b W' :=
  ⟨h.bel.trans (hb.mono h.bel.size), (hb.block _ (heapsz h.q)).trans h.q, (hb.block _ (heapsz h.pl)).trans h.pl, (hb.block _ (heapsz h.y)).trans h.y, (hb.block _ (heapsz h.p)).trans h.p, (hb.block _ (heapsz h.f)).trans h.f, (hb.block _ (heapsz h.s)).trans h.s, (hb.block _ (heapsz h.r)).trans h.r⟩
theorem ItS.kp {c : ItC} (k : c.Ok) {a b : Int} {W W' : World} (h : ItS c a b W) (hk : KpC c.w2 c.bc W W') : ItS c a b W' := by
  have := k.nc
  exact ⟨h.bel.trans hk.1, hk.2.2 _ _ _ k.nq.2 h.q, hk.2.2 _ _ _ k.npl.2 h.pl, hk.2.2 _ _ _ k.ny.2 h.y, hk.2.2 _ _ _ k.np.2 h.p, hk.2.2 _ _ _ (by omega) h.f, hk.2.2 _ _ _ (by omega) h.s, hk.2.2 _ _ _ (by omega) h.r⟩
theorem ItS.set_b {c : ItC} (k : c.Ok) {a b : Int} {W : World} (h : ItS c a b W) (v : Int) : ItS c a v (W.setCell ⟨c.n0 + 1, 1, none⟩ (.int .i64 v)) := by
  have h1 := k.nq.1; have h2 := k.npl.1; have h3 := k.ny.1; have h4 := k.np.1; have h5 := k.n2
  have kb (b : Nat) (hb : b ≠ c.n0 + 1) : (W.setCell ⟨c.n0 + 1, 1, none⟩ (.int .i64 v)).heap[b]? = W.heap[b]? := Below.heap_setCell _ _ _ _ hb
  exact ⟨h.bel.setCell (p := ⟨c.n0 + 1, 1, none⟩) (by show _ ≤ c.n0 + 1; omega) _, (kb _ (by omega)).trans h.q, (kb _ (by omega)).trans h.pl, (kb _ (by omega)).trans h.y, (kb _ (by omega)).trans h.p, (kb _ (by omega)).trans h.f, by simpa using blk_set h.s 1 (.int .i64 v), (kb _ (by omega)).trans h.r⟩
theorem ItS.set_a {c : ItC} (k : c.Ok) {a b : Int} {W : World} (h : ItS c a b W) (v : Int) : ItS c v b (W.setCell ⟨c.n0 + 1, 0, none⟩ (.int .i64 v)) := by
  have h1 := k.nq.1; have h2 := k.npl.1; have h3 := k.ny.1; have h4 := k.np.1; have h5 := k.n2
  have kb (b : Nat) (hb : b ≠ c.n0 + 1) : (W.setCell ⟨c.n0 + 1, 0, none⟩ (.int .i64 v)).heap[b]? = W.heap[b]? := Below.heap_setCell _ _ _ _ hb
  exact ⟨h.bel.setCell (p := ⟨c.n0 + 1, 0, none⟩) (by show _ ≤ c.n0 + 1; omega) _, (kb _ (by omega)).trans h.q, (kb _ (by omega)).trans h.pl, (kb _ (by omega)).trans h.y, (kb _ (by omega)).trans h.p, (kb _ (by omega)).trans h.f, by simpa using blk_set h.s 0 (.int .i64 v), (kb _ (by omega)).trans h.r⟩
set_option maxRecDepth 100000 in
set_option maxHeartbeats 2000000 in
theorem from_2 {c : ItC} (k : c.Ok) {α : Type} {encs : α → Array Value} (n : Nat) {J : List α → World → Prop}
    (hY : ∀ pre x W1, J pre W1 → YieldAt Fence.wide (n - 1) Tryz.prog c.l (encs x) W1 fun e W' => e = .returned (.bool true) ∧ J (pre ++ [x]) W' ∧ KpC c.w2 c.bc W1 W')
    {a b : Int} {W : World} (h : ItS c a b W) {pre : List α} (hJ : J pre W) (x : α) (u v : Int) (hx : encs x = #[.int .i64 u, .int .i64 v]) :
    Calls Tryz.prog 155 (#[.int .i64 2, .int .i64 u, .int .i64 v] ++ c.caps) W fun e W' => e = .returned (.bool true) ∧ J (pre ++ [x]) W' ∧ ItS c a b W' := by
  obtain ⟨fn, tmps, assign, body, hy, hR⟩ := hY pre x W hJ
  rw [hx] at hy
  have HS := Lib.hid h
  have q0 := cell_of_row W c.bq 0 _ 34 (0, 0) h.q
  have f0 := cell_of_row W c.n0 0 _ 103 (0, 0) h.f
  simp only [List.getElem?_toArray, List.getElem?_cons_zero] at q0 f0
  clear h hJ hY hx
  unfold ItC.caps
  refine callsIn_wide.1 (callsIn_of_wp (n := n) Tryz.func155 rfl trivial ?_ rfl)
  simp only [Tryz.ntmps155, List.size_toArray, List.length_cons, List.length_nil, Nat.reduceAdd, Nat.reduceSub, Array.replicate_succ, Array.replicate_zero, List.push_toArray, List.append_toArray, List.nil_append, List.cons_append]
  gi_wp2
  refine ⟨fun h => by simp [Fence.wide] at h, hR.mono ?_⟩
  rintro e W3 ⟨rfl, h3, h4⟩
  have H3 := Lib.hid h3; have H4 := Lib.hid (HS.out.kp k h4)
  clear h3 h4 hy q0 f0 HS
  gi_wp2
  exact bodyPost_ret (v := .bool true) (by simp [results, Tryz.results155, go_sem]) rfl ⟨rfl, H3.out, H4.out⟩
def enL {α : Type} (q : Nat → Bool) (E : Nat → α) (k : Nat) : List α := ((List.range k).filter q).map E
theorem enL_yes {α : Type} {q : Nat → Bool} {E : Nat → α} {k : Nat} (h : q k = true) : enL q E (k + 1) = enL q E k ++ [E k] := by
  unfold enL
  rw [List.range_succ, List.filter_append, List.map_append]
  simp [h]
theorem enL_no {α : Type} {q : Nat → Bool} {E : Nat → α} {k : Nat} (h : q k = false) : enL q E (k + 1) = enL q E k := by
  unfold enL
  rw [List.range_succ, List.filter_append, List.map_append]
  simp [h]
def ro155 (c : ItC) (i nx : Int) (o : Nat) (u v : Int) (S : Value) (Y t M1 M2 : Int) : Tmp → Value
  | 0 => .int .i64 i
  | 1 => .int .i64 u
  | 2 => .int .i64 v
  | 3 => .pointer (some ⟨c.bq, 0, none⟩)
  | 5 => .pointer (some ⟨c.yb, 0, none⟩)
  | 6 => .pointer (some ⟨c.n0 + 1, 0, none⟩)
  | 7 => .pointer (some ⟨c.pb, 0, none⟩)
  | 8 => .pointer (some ⟨c.n0 + 1 + 1, 0, none⟩)
  | 13 => .int .i64 t
  | 33 => .pointer (some ⟨c.p, 0, none⟩)
  | 34 => S
  | 35 => .int .i64 Y
  | 36 => .slice (some ⟨c.bpl, 0, none⟩) 2 c.cpl
  | 37 => .int .i64 i
  | 38 => .pointer (some ⟨c.bpl, o, none⟩)
  | 39 => .int .i64 i
  | 40 => .bool true
  | 41 => .bool true
  | 42 => .func (.func 155) #[] c.caps
  | 43 => .int .i64 i
  | 44 => .int .i64 nx
  | 45 => .int .i64 u
  | 46 => .int .i64 Y
  | 47 => .int .i64 (Y + 1)
  | 48 => .int .i64 M1
  | 49 => .int .i64 t
  | 50 => .int .i64 (M1 + t)
  | 51 => .int .i64 v
  | 52 => .int .i64 Y
  | 53 => .int .i64 (Y + 2)
  | 54 => .int .i64 M2
  | 55 => .int .i64 t
  | 56 => .int .i64 (M2 + t)
  | 57 => .bool true
  | 58 => .bool false
  | 59 => .bool false
  | _ => undef
section
variable {ops : Array Oper} {ρ : Tmp → Value} {w : World} {R : World → Prop} {i c : Nat} {o : Oper}
abbrev Ask (ops : Array Oper) (ρ : Tmp → Value) (w : World) (R : World → Prop) (c i : Nat) (o : Oper) : Prop :=
  (i < c → ∀ u, Below w.heap.size w u → Region.wanted o (yieldedBy ops ρ) = true ∧ Yield Tryz.prog (fun v w' => Below u.heap.size u w' ∧ ∀ d, o.dst = some d → ρ d = v) ((execOp (evalBy ρ) o).run Tryz.prog u)) ∧
  (i = c → ∀ u, Below w.heap.size w u → Region.wanted o (yieldedBy ops ρ) = true ∧ Yield Tryz.prog (fun v w' => R w' ∧ ∀ d, o.dst = some d → ρ d = v) ((execOp (evalBy ρ) o).run Tryz.prog u)) ∧
  (c < i → ∀ u, R u → Region.wanted o (yieldedBy ops ρ) = true ∧ Yield Tryz.prog (fun v w' => R w' ∧ ∀ d, o.dst = some d → ρ d = v) ((execOp (evalBy ρ) o).run Tryz.prog u))
theorem ask_q (d : Tmp) (hd : o.dst = some d) (hi : i < c) (hg : Region.wanted o (yieldedBy ops ρ) = true) (h : ∀ u, Below w.heap.size w u → (execOp (evalBy ρ) o).run Tryz.prog u = .ok (.value (ρ d)) u) : Ask ops ρ w R c i o :=
  ⟨fun _ u hu => ⟨hg, by rw [h u hu]; exact ⟨Below.refl _ _, fun e he => by rw [hd] at he; injection he with he; subst he; rfl⟩⟩, fun e => by omega, fun e => by omega⟩
theorem ask_c (d : Tmp) (hd : o.dst = some d) (hi : i < c) (hg : Region.wanted o (yieldedBy ops ρ) = true) (f : FuncId) (args : Array Value) (h : ∀ u, Below w.heap.size w u → (execOp (evalBy ρ) o).run Tryz.prog u = .ok (.enter f args) u)
    (hc : ∀ u, Below w.heap.size w u → Calls Tryz.prog f args u fun e w' => e = .returned (ρ d) ∧ Below u.heap.size u w') : Ask ops ρ w R c i o :=
  ⟨fun _ u hu => ⟨hg, by rw [h u hu]; exact (hc u hu).mono (by rintro e w' ⟨rfl, hb⟩; exact ⟨_, rfl, hb, fun e he => by rw [hd] at he; injection he with he; subst he; rfl⟩)⟩, fun e => by omega, fun e => by omega⟩
theorem ask_m (d : Tmp) (hd : o.dst = some d) (hi : i = c) (hg : Region.wanted o (yieldedBy ops ρ) = true) (f : FuncId) (args : Array Value) (h : ∀ u, Below w.heap.size w u → (execOp (evalBy ρ) o).run Tryz.prog u = .ok (.enter f args) u)
    (hc : ∀ u, Below w.heap.size w u → Calls Tryz.prog f args u fun e w' => e = .returned (ρ d) ∧ R w') : Ask ops ρ w R c i o :=
  ⟨fun e => by omega, fun _ u hu => ⟨hg, by rw [h u hu]; exact (hc u hu).mono (by rintro e w' ⟨rfl, hb⟩; exact ⟨_, rfl, hb, fun e he => by rw [hd] at he; injection he with he; subst he; rfl⟩)⟩, fun e => by omega⟩
theorem ask_r (d : Tmp) (hd : o.dst = some d) (hi : c < i) (hg : Region.wanted o (yieldedBy ops ρ) = true) (h : ∀ u, (execOp (evalBy ρ) o).run Tryz.prog u = .ok (.value (ρ d)) u) : Ask ops ρ w R c i o :=
  ⟨fun e => by omega, fun e => by omega, fun _ u hu => ⟨hg, by rw [h u]; exact ⟨hu, fun e he => by rw [hd] at he; injection he with he; subst he; rfl⟩⟩⟩
end
structure F1P {α : Type} (c : ItC) (J : List α → World → Prop) (q : Nat → Bool) (E : Nat → α) (pre : List α) (a : Int) (k : Nat) (W : World) : Prop where
  j : J (pre ++ enL q E k) W
  s : ∃ b : Nat, b ≤ c.y ∧ ItS c a (b : Int) W
set_option maxRecDepth 100000 in
set_option maxHeartbeats 4000000 in
theorem from_1 {c : ItC} (k : c.Ok) {X : Ctx} (K : X.Ok) (hord : ∀ q ∈ X.qs, q.1 < q.2) (hnp : X.np = 2) {LL : List (List Sp)} {A3 : Option Addr} {c3 : Nat} {mv : Value} (hP : PlAt X LL c.p A3 c3 mv c.w2) (hy9 : c.y ≤ 9) (hyn : c.y < X.n)
    {α : Type} {encs : α → Array Value} (n : Nat) {J : List α → World → Prop} (hJ : ∀ s A B, J s A → Below c.n0 A B → J s B)
    (hY : ∀ pre x W1, J pre W1 → YieldAt Fence.wide (n - 1) Tryz.prog c.l (encs x) W1 fun e W' => e = .returned (.bool true) ∧ J (pre ++ [x]) W' ∧ KpC c.w2 c.bc W1 W')
    (a : Nat) (ha : a ≤ c.y) (q : Nat → Bool) (hq : ∀ b, b ≤ c.y → standB X LL [(a : Int), (b : Int), 0, 0, 0, 0] c.y 1 = q b) (E : Nat → α) (M1 M2 : Int) (hM1 : (a : Int) * ((c.y : Int) + 1) = M1) (hM2 : (a : Int) * ((c.y : Int) + 2) = M2) (hM : (0 ≤ M1 ∧ M1 ≤ 1000) ∧ 0 ≤ M2 ∧ M2 ≤ 1000)
    (hE : ∀ b, b ≤ c.y → q b = true → encs (E b) = #[.int .i64 (M1 + (b : Int)), .int .i64 (M2 + (b : Int))]) {b : Nat} (hb : b ≤ c.y) {W : World} (h : ItS c (a : Int) (b : Int) W) {pre : List α} (hj : J pre W) :
    Calls Tryz.prog 155 (#[.int .i64 1, .int .i64 (a : Int), .int .i64 (a : Int)] ++ c.caps) W fun e W' => e = .returned (.bool true) ∧ F1P c J q E pre (a : Int) (c.y + 1) W' := by
  have HS := Lib.hid h
  have HJ := Lib.hid hj
  have q0 := cell_of_row W c.bq 0 _ 34 (0, 0) h.q
  have y0 := cell_of_row W c.yb 0 _ 3 (0, 0) h.y
  simp only [List.getElem?_toArray, List.getElem?_cons_zero] at q0 y0
  obtain ⟨Y, hYe⟩ : ∃ z : Nat, c.y = z := ⟨_, rfl⟩
  have HYE := Lib.hid hYe
  have y1 : Value.int .i64 (wrap64 ((Y : Int) + 1)) = Value.int .i64 ((Y : Int) + 1) := by congr 1; exact w64 (by omega)
  have hcaps : c.caps = #[.pointer (some ⟨c.bq, 0, none⟩), .pointer (some ⟨c.n0, 0, none⟩), .pointer (some ⟨c.yb, 0, none⟩), .pointer (some ⟨c.n0 + 1, 0, none⟩), .pointer (some ⟨c.pb, 0, none⟩), .pointer (some ⟨c.n0 + 1 + 1, 0, none⟩)] := rfl
  have HCP := Lib.hid hcaps
  rw [hYe] at y0 hy9 hyn ha hb hM1 hM2 hq hE ⊢
  have HQ := Lib.hid hq; have HEE := Lib.hid hE
  have HM1 := Lib.hid hM1; have HM2 := Lib.hid hM2
  clear h hj hq hE hYe hM1 hM2
  rw [hcaps]
  clear hcaps
  go_enter Tryz.func155, Tryz.ntmps155
  go_wp2_with fail
  clear q0 y0
  go_loopw [24] (fun i wr => ∃ t : Nat, t ≤ Y + 1 ∧ i = .int .i64 t ∧ F1P c J q E pre (a : Int) t wr) (fun i _ => Y + 1 - (intOf i).toNat)
  case atStart => exact ⟨0, Nat.zero_le _, rfl, by simpa [enL] using HJ.out, b, by have := HYE.out; omega, HS.out⟩
  case round =>
    clear HS HJ hb b
    obtain ⟨t, ht, rfl, hf⟩ := hrel
    have HF := Lib.hid hf
    clear hf
    by_cases hlt : t ≤ Y
    · have ht1 : (t : Int) < (Y : Int) + 1 := by omega
      obtain ⟨b, hb, h⟩ := HF.out.s
      have HJ := Lib.hid HF.out.j
      have HS := Lib.hid h
      have q0 := cell_of_row wr c.bq 0 _ 34 (0, 0) h.q
      have l1 := (cell_of_row wr c.bpl 1 _ 3 (0, 0) h.pl).trans k.c1
      have s1 := cell_of_row wr (c.n0 + 1) 1 _ 192 (0, 0) h.s
      simp only [List.getElem?_toArray, List.getElem?_cons_zero, List.getElem?_cons_succ] at q0 s1
      have f1 : wr.frozen? ⟨c.n0 + 1, 1, none⟩ = false := by simp [World.frozen?, h.s]
      have HS1 := Lib.hid (h.set_b k (t : Int))
      have HJ1 := Lib.hid (hJ _ _ _ HJ.out ((Below.refl c.n0 wr).setCell (p := ⟨c.n0 + 1, 1, none⟩) (by show c.n0 ≤ c.n0 + 1; omega) (.int .i64 (t : Int))))
      clear h HJ HS HF hb
      go_wp2_with fail
      clear q0 l1 s1 f1
      generalize wr.setCell ⟨c.n0 + 1, 1, none⟩ (.int .i64 (t : Int)) = W1 at *
      have F : Hid (∀ u : World, Below W1.heap.size W1 u → ItS c (a : Int) (t : Int) u) := Lib.hid fun u hu => HS1.out.up hu
      have HST : Hid (∀ u : World, Below W1.heap.size W1 u → Calls Tryz.prog 156 #[.pointer (some ⟨c.p, 0, none⟩), .agg #[.int .i64 (a : Int), .int .i64 (t : Int), .int .i64 0, .int .i64 0, .int .i64 0, .int .i64 0], .int .i64 (Y : Int), .int .i64 1] u fun e w' => e = .returned (.bool (q t)) ∧ Below u.heap.size u w') := Lib.hid fun u hu => by
        rw [← HQ.out t hlt]
        exact stands_X K hord (hP.up (HS1.out.up hu).bel) (a : Int) (t : Int) 0 0 0 0 (t := Y) (i := 1) hyn (by rw [hnp]; decide) (fun j hj => by
          have : j = 0 ∨ j = 1 := by omega
          rcases this with rfl | rfl <;> simp <;> omega)
      cases hqt : q t with
      | false =>
        have HQT := Lib.hid hqt
        rw [hqt] at HST
        have HC := Lib.hid (fun u : KeptW W1 => Calls.in_kept u (HST.out u.w u.h))
        have P0 : ∀ u : KeptW W1, u.w.cell? ⟨c.pb, 0, none⟩ = some (.pointer (some ⟨c.p, 0, none⟩)) := fun u => cell_of_row u.w c.pb 0 _ 164 (0, 0) (F.out u.w u.h).p
        have Q0 : ∀ u : KeptW W1, u.w.cell? ⟨c.bq, 0, none⟩ = some (.slice (some ⟨c.bpl, 0, none⟩) 2 c.cpl) := fun u => cell_of_row u.w c.bq 0 _ 34 (0, 0) (F.out u.w u.h).q
        have L1 : ∀ u : KeptW W1, u.w.cell? ⟨c.bpl, 1, none⟩ = some (.int .i64 1) := fun u => (cell_of_row u.w c.bpl 1 _ 3 (0, 0) (F.out u.w u.h).pl).trans k.c1
        have Y0 : ∀ u : KeptW W1, u.w.cell? ⟨c.yb, 0, none⟩ = some (.int .i64 (Y : Int)) := fun u => by rw [← HYE.out]; exact cell_of_row u.w c.yb 0 _ 3 (0, 0) (F.out u.w u.h).y
        have S0 : ∀ u : KeptW W1, u.w.cell? ⟨c.n0 + 1, 0, none⟩ = some (.int .i64 (a : Int)) := fun u => cell_of_row u.w (c.n0 + 1) 0 _ 192 (0, 0) (F.out u.w u.h).s
        have S1 : ∀ u : KeptW W1, u.w.cell? ⟨c.n0 + 1, 1, none⟩ = some (.int .i64 (t : Int)) := fun u => cell_of_row u.w (c.n0 + 1) 1 _ 192 (0, 0) (F.out u.w u.h).s
        have S2 : ∀ u : KeptW W1, u.w.cell? ⟨c.n0 + 1, 2, none⟩ = some (.int .i64 0) := fun u => cell_of_row u.w (c.n0 + 1) 2 _ 192 (0, 0) (F.out u.w u.h).s
        have S3 : ∀ u : KeptW W1, u.w.cell? ⟨c.n0 + 1, 3, none⟩ = some (.int .i64 0) := fun u => cell_of_row u.w (c.n0 + 1) 3 _ 192 (0, 0) (F.out u.w u.h).s
        have S4 : ∀ u : KeptW W1, u.w.cell? ⟨c.n0 + 1, 4, none⟩ = some (.int .i64 0) := fun u => cell_of_row u.w (c.n0 + 1) 4 _ 192 (0, 0) (F.out u.w u.h).s
        have S5 : ∀ u : KeptW W1, u.w.cell? ⟨c.n0 + 1, 5, none⟩ = some (.int .i64 0) := fun u => cell_of_row u.w (c.n0 + 1) 5 _ 192 (0, 0) (F.out u.w u.h).s
        refine rk_region (by kernel_rfl) (by kernel_rfl) ?_
        repeat (go_big_quiet_step (first | (with_reducible exact HC.out _) | fail))
        refine wpQuiet_nil ?_
        rintro _ ⟨u, rfl⟩
        have HSU := Lib.hid (F.out u.w u.h)
        have hn0 : c.n0 ≤ W1.heap.size := Nat.le_of_lt (Nat.lt_of_succ_lt (Nat.lt_of_succ_lt (heapsz HS1.out.r)))
        have HJU := Lib.hid (hJ _ _ _ HJ1.out (u.h.mono hn0))
        clear hn0
        generalize u.w = W2 at HSU HJU ⊢
        go_wp2_with fail
        exact ⟨⟨t + 1, by omega, by go_num, ⟨by rw [enL_no HQT.out]; exact HJU.out, t, by rw [HYE.out]; exact hlt, HSU.out⟩⟩, by simp [intOf]; omega⟩
      | true =>
        have HQT := Lib.hid hqt
        rw [hqt] at HST
        have he1 := HEE.out t hlt hqt
        clear hqt
        have w1 : IntKind.i64.wrap ((Y : Int) + 1) = (Y : Int) + 1 := by rw [IntKind.wrap_i64]; omega
        have w2 : IntKind.i64.wrap ((Y : Int) + 2) = (Y : Int) + 2 := by rw [IntKind.wrap_i64]; omega
        have w3 : IntKind.i64.wrap ((a : Int) * ((Y : Int) + 1)) = M1 := by rw [HM1.out, IntKind.wrap_i64]; omega
        have w4 : IntKind.i64.wrap ((a : Int) * ((Y : Int) + 2)) = M2 := by rw [HM2.out, IntKind.wrap_i64]; omega
        have w5 : IntKind.i64.wrap (M1 + (t : Int)) = M1 + (t : Int) := by rw [IntKind.wrap_i64]; omega
        have w6 : IntKind.i64.wrap (M2 + (t : Int)) = M2 + (t : Int) := by rw [IntKind.wrap_i64]; omega
        have FP : Hid (∀ u, Below W1.heap.size W1 u → u.cell? ⟨c.pb, 0, none⟩ = some (.pointer (some ⟨c.p, 0, none⟩))) := Lib.hid fun u hu => cell_of_row u c.pb 0 _ 164 (0, 0) (F.out u hu).p
        have FQ : Hid (∀ u, Below W1.heap.size W1 u → u.cell? ⟨c.bq, 0, none⟩ = some (.slice (some ⟨c.bpl, 0, none⟩) 2 c.cpl)) := Lib.hid fun u hu => cell_of_row u c.bq 0 _ 34 (0, 0) (F.out u hu).q
        have FL : Hid (∀ u, Below W1.heap.size W1 u → u.cell? ⟨c.bpl, 1, none⟩ = some (.int .i64 1)) := Lib.hid fun u hu => (cell_of_row u c.bpl 1 _ 3 (0, 0) (F.out u hu).pl).trans k.c1
        have FY : Hid (∀ u, Below W1.heap.size W1 u → u.cell? ⟨c.yb, 0, none⟩ = some (.int .i64 (Y : Int))) := Lib.hid fun u hu => by rw [← HYE.out]; exact cell_of_row u c.yb 0 _ 3 (0, 0) (F.out u hu).y
        have FR : Hid (∀ u, Below W1.heap.size W1 u → u.cell? ⟨c.n0 + 1 + 1, 0, none⟩ = some (.func (.func 155) #[] c.caps)) := Lib.hid fun u hu => cell_of_row u (c.n0 + 1 + 1) 0 _ 112 (0, 0) (F.out u hu).r
        have FS : Hid (∀ u, Below W1.heap.size W1 u → u.cell? ⟨c.n0 + 1, 0, none⟩ = some (.int .i64 (a : Int)) ∧ u.cell? ⟨c.n0 + 1, 1, none⟩ = some (.int .i64 (t : Int)) ∧ u.cell? ⟨c.n0 + 1, 2, none⟩ = some (.int .i64 0) ∧ u.cell? ⟨c.n0 + 1, 3, none⟩ = some (.int .i64 0) ∧ u.cell? ⟨c.n0 + 1, 4, none⟩ = some (.int .i64 0) ∧ u.cell? ⟨c.n0 + 1, 5, none⟩ = some (.int .i64 0)) := Lib.hid fun u hu =>
          ⟨cell_of_row u (c.n0 + 1) 0 _ 192 (0, 0) (F.out u hu).s, cell_of_row u (c.n0 + 1) 1 _ 192 (0, 0) (F.out u hu).s, cell_of_row u (c.n0 + 1) 2 _ 192 (0, 0) (F.out u hu).s, cell_of_row u (c.n0 + 1) 3 _ 192 (0, 0) (F.out u hu).s, cell_of_row u (c.n0 + 1) 4 _ 192 (0, 0) (F.out u hu).s, cell_of_row u (c.n0 + 1) 5 _ 192 (0, 0) (F.out u hu).s⟩
        have hn0 : c.n0 ≤ W1.heap.size := Nat.le_of_lt (Nat.lt_of_succ_lt (Nat.lt_of_succ_lt (heapsz HS1.out.r)))
        have HREC : Hid (∀ u, Below W1.heap.size W1 u → Calls Tryz.prog 155 (#[.int .i64 2, .int .i64 (M1 + (t : Int)), .int .i64 (M2 + (t : Int))] ++ c.caps) u fun e w' => e = .returned (.bool true) ∧ J (pre ++ enL q E t ++ [E t]) w' ∧ ItS c (a : Int) (t : Int) w') := Lib.hid fun u hu =>
          from_2 k n hY (F.out u hu) (hJ _ _ _ HJ1.out (hu.mono hn0)) (E t) _ _ he1
        have hE155 : ∀ (args : Array Value) (w : World), (callFunc 155 args).run Tryz.prog w = .ok (.enter 155 args) w := enters_of Tryz.func155 (by kernel_rfl) rfl
        refine plan_call (P := Tryz.prog) 24 [0, 1, 2, 3, 5, 6, 7, 8, 13] (ro155 c 1 2 1 (a : Int) (a : Int) (.agg #[.int .i64 (a : Int), .int .i64 (t : Int), .int .i64 0, .int .i64 0, .int .i64 0, .int .i64 0]) (Y : Int) (t : Int) M1 M2) (fun u => J (pre ++ enL q E t ++ [E t]) u ∧ ItS c (a : Int) (t : Int) u) (by kernel_rfl) (by kernel_rfl) (by kernel_rfl) (by kernel_rfl) (by kernel_rfl) (by kernel_rfl) (by kernel_rfl) (by decide) ?_ ?_ ?_
        · intro x hx
          simp only [List.mem_cons, List.not_mem_nil, or_false] at hx
          rcases hx with rfl | rfl | rfl | rfl | rfl | rfl | rfl | rfl | rfl <;> rfl
        · refine allOps_array ?_
          refine ⟨?_, ?_, ?_, ?_, ?_, ?_, ?_, ?_, ?_, ?_, ?_, ?_, ?_, ?_, ?_, ?_, ?_, ?_, ?_, ?_, ?_, ?_, ?_, ?_, ?_, ?_, ?_, trivial⟩
          · exact ask_q 33 rfl (by decide) rfl (fun u hu => by
              have x0 := FP.out u hu
              simp [go_sem, evalBy, ro155, x0])
          · exact ask_q 34 rfl (by decide) rfl (fun u hu => by
              obtain ⟨x0, x1, x2, x3, x4, x5⟩ := FS.out u hu
              simp [go_sem, evalBy, ro155, x0, x1, x2, x3, x4, x5])
          · exact ask_q 35 rfl (by decide) rfl (fun u hu => by
              have x0 := FY.out u hu
              simp [go_sem, evalBy, ro155, x0])
          · exact ask_q 36 rfl (by decide) rfl (fun u hu => by
              have x0 := FQ.out u hu
              simp [go_sem, evalBy, ro155, x0])
          · exact ask_q 37 rfl (by decide) rfl (fun u hu => by
              simp [go_sem, evalBy, ro155])
          · exact ask_q 38 rfl (by decide) rfl (fun u hu => by
              simp [go_sem, evalBy, ro155])
          · exact ask_q 39 rfl (by decide) rfl (fun u hu => by
              have x0 := FL.out u hu
              simp [go_sem, evalBy, ro155, x0])
          · exact ask_c 40 rfl (by decide) rfl 156 _ (fun u _ => by simp [go_sem, evalBy, ro155]) HST.out
          · exact ask_q 41 rfl (by decide) rfl (fun u hu => by
              simp [go_sem, evalBy, ro155])
          · exact ask_q 42 rfl (by decide) rfl (fun u hu => by
              have x0 := FR.out u hu
              simp [go_sem, evalBy, ro155, x0])
          · exact ask_q 43 rfl (by decide) rfl (fun u hu => by
              simp [go_sem, evalBy, ro155])
          · exact ask_q 44 rfl (by decide) rfl (fun u hu => by
              have x0 : IntKind.i64.wrap 2 = 2 := by decide
              simp [go_sem, evalBy, ro155, x0])
          · exact ask_q 45 rfl (by decide) rfl (fun u hu => by
              simp [go_sem, evalBy, ro155])
          · exact ask_q 46 rfl (by decide) rfl (fun u hu => by
              have x0 := FY.out u hu
              simp [go_sem, evalBy, ro155, x0])
          · exact ask_q 47 rfl (by decide) rfl (fun u hu => by
              skip
              simp [go_sem, evalBy, ro155, w1])
          · exact ask_q 48 rfl (by decide) rfl (fun u hu => by
              skip
              simp [go_sem, evalBy, ro155, w3])
          · exact ask_q 49 rfl (by decide) rfl (fun u hu => by
              simp [go_sem, evalBy, ro155])
          · exact ask_q 50 rfl (by decide) rfl (fun u hu => by
              skip
              simp [go_sem, evalBy, ro155, w5])
          · exact ask_q 51 rfl (by decide) rfl (fun u hu => by
              simp [go_sem, evalBy, ro155])
          · exact ask_q 52 rfl (by decide) rfl (fun u hu => by
              have x0 := FY.out u hu
              simp [go_sem, evalBy, ro155, x0])
          · exact ask_q 53 rfl (by decide) rfl (fun u hu => by
              skip
              simp [go_sem, evalBy, ro155, w2])
          · exact ask_q 54 rfl (by decide) rfl (fun u hu => by
              skip
              simp [go_sem, evalBy, ro155, w4])
          · exact ask_q 55 rfl (by decide) rfl (fun u hu => by
              simp [go_sem, evalBy, ro155])
          · exact ask_q 56 rfl (by decide) rfl (fun u hu => by
              skip
              simp [go_sem, evalBy, ro155, w6])
          · exact ask_m 57 rfl rfl rfl 155 _ (fun u _ => by simp [go_sem, evalBy, ro155, hE155]) HREC.out
          · exact ask_r 58 rfl (by decide) rfl (fun u => by simp [go_sem, evalBy, ro155])
          · exact ask_r 59 rfl (by decide) rfl (fun u => by simp [go_sem, evalBy, ro155])
        · rintro u ⟨hju, hsu⟩
          have HJU := Lib.hid hju; have HSU := Lib.hid hsu
          clear hju hsu
          simp [putAll, Act.put, ro155]
          go_wp2_with fail
          exact ⟨⟨t + 1, by omega, by go_num, ⟨by rw [enL_yes HQT.out, ← List.append_assoc]; exact HJU.out, t, by rw [HYE.out]; exact hlt, HSU.out⟩⟩, by simp [intOf]; omega⟩
    · have hte : t = Y + 1 := by omega
      have ht1 : ¬ (t : Int) < (Y : Int) + 1 := by omega
      subst hte
      go_wp2_with fail
      exact bodyPost_ret (v := .bool true) (by simp [results, Tryz.results155, go_sem]) rfl ⟨rfl, HF.out⟩
end Go.Proofs.YtdlaphlpimlgdaaGreatDoor
/- The planner: all starts that stand, first pile. -/
namespace Go.Proofs.YtdlaphlpimlgdaaGreatDoor
open Go.RowKit Go.Shelf

def en2 {α : Type} (q : Nat → Bool) (q1 : Nat → Nat → Bool) (E : Nat → Nat → α) (y k : Nat) : List α := ((List.range k).filter q).flatMap fun a => enL (q1 a) (E a) (y + 1)
theorem en2_yes {α : Type} {q : Nat → Bool} {q1 : Nat → Nat → Bool} {E : Nat → Nat → α} {y k : Nat} (h : q k = true) : en2 q q1 E y (k + 1) = en2 q q1 E y k ++ enL (q1 k) (E k) (y + 1) := by
  unfold en2
  rw [List.range_succ, List.filter_append, List.flatMap_append]
  simp [h]
theorem en2_no {α : Type} {q : Nat → Bool} {q1 : Nat → Nat → Bool} {E : Nat → Nat → α} {y k : Nat} (h : q k = false) : en2 q q1 E y (k + 1) = en2 q q1 E y k := by
  unfold en2
  rw [List.range_succ, List.filter_append, List.flatMap_append]
  simp [h]
structure F0P {α : Type} (c : ItC) (J : List α → World → Prop) (q : Nat → Bool) (q1 : Nat → Nat → Bool) (E : Nat → Nat → α) (pre : List α) (k : Nat) (W : World) : Prop where
  j : J (pre ++ en2 q q1 E c.y k) W
  s : ∃ a b : Nat, a ≤ c.y ∧ b ≤ c.y ∧ ItS c (a : Int) (b : Int) W
set_option maxRecDepth 100000 in
set_option maxHeartbeats 4000000 in
theorem from_0 {c : ItC} (k : c.Ok) {X : Ctx} (K : X.Ok) (hord : ∀ q ∈ X.qs, q.1 < q.2) (hnp : X.np = 2) {LL : List (List Sp)} {A3 : Option Addr} {c3 : Nat} {mv : Value} (hP : PlAt X LL c.p A3 c3 mv c.w2) (hy9 : c.y ≤ 9) (hyn : c.y < X.n)
    {α : Type} {encs : α → Array Value} (n : Nat) {J : List α → World → Prop} (hJ : ∀ s A B, J s A → Below c.n0 A B → J s B)
    (hY : ∀ pre x W1, J pre W1 → YieldAt Fence.wide (n - 1) Tryz.prog c.l (encs x) W1 fun e W' => e = .returned (.bool true) ∧ J (pre ++ [x]) W' ∧ KpC c.w2 c.bc W1 W')
    (q : Nat → Bool) (q1 : Nat → Nat → Bool) (hq : ∀ a b, a ≤ c.y → b ≤ c.y → standB X LL [(a : Int), (b : Int), 0, 0, 0, 0] c.y 0 = q a) (hq1 : ∀ a b, a ≤ c.y → b ≤ c.y → standB X LL [(a : Int), (b : Int), 0, 0, 0, 0] c.y 1 = q1 a b) (E : Nat → Nat → α)
    (hE : ∀ a b, a ≤ c.y → b ≤ c.y → q1 a b = true → encs (E a b) = #[.int .i64 ((a : Int) * ((c.y : Int) + 1) + (b : Int)), .int .i64 ((a : Int) * ((c.y : Int) + 2) + (b : Int))]) {a b : Nat} (ha : a ≤ c.y) (hb : b ≤ c.y) {W : World} (h : ItS c (a : Int) (b : Int) W) {pre : List α} (hj : J pre W) :
    Calls Tryz.prog 155 (#[.int .i64 0, .int .i64 0, .int .i64 0] ++ c.caps) W fun e W' => e = .returned (.bool true) ∧ F0P c J q q1 E pre (c.y + 1) W' := by
  have HS := Lib.hid h
  have HJ := Lib.hid hj
  have q0 := cell_of_row W c.bq 0 _ 34 (0, 0) h.q
  have y0 := cell_of_row W c.yb 0 _ 3 (0, 0) h.y
  simp only [List.getElem?_toArray, List.getElem?_cons_zero] at q0 y0
  obtain ⟨Y, hYe⟩ : ∃ z : Nat, c.y = z := ⟨_, rfl⟩
  have HYE := Lib.hid hYe
  have y1 : Value.int .i64 (wrap64 ((Y : Int) + 1)) = Value.int .i64 ((Y : Int) + 1) := by congr 1; exact w64 (by omega)
  have hcaps : c.caps = #[.pointer (some ⟨c.bq, 0, none⟩), .pointer (some ⟨c.n0, 0, none⟩), .pointer (some ⟨c.yb, 0, none⟩), .pointer (some ⟨c.n0 + 1, 0, none⟩), .pointer (some ⟨c.pb, 0, none⟩), .pointer (some ⟨c.n0 + 1 + 1, 0, none⟩)] := rfl
  have HCP := Lib.hid hcaps
  have hq1Y := Lib.hid hq1; have hEY := Lib.hid hE; have hy9Y := hy9; have hynY := hyn
  rw [hYe] at y0 hy9 hyn ha hb hq ⊢
  have HQ := Lib.hid hq
  clear h hj hq hq1 hE hYe
  rw [hcaps]
  clear hcaps
  go_enter Tryz.func155, Tryz.ntmps155
  go_wp2_with fail
  clear q0 y0
  go_loopw [24] (fun i wr => ∃ t : Nat, t ≤ Y + 1 ∧ i = .int .i64 t ∧ F0P c J q q1 E pre t wr) (fun i _ => Y + 1 - (intOf i).toNat)
  case atStart => exact ⟨0, Nat.zero_le _, rfl, by simpa [en2] using HJ.out, a, b, by have := HYE.out; omega, by have := HYE.out; omega, HS.out⟩
  case round =>
    clear HS HJ hb ha b a
    obtain ⟨t, ht, rfl, hf⟩ := hrel
    have HF := Lib.hid hf
    clear hf
    by_cases hlt : t ≤ Y
    · have ht1 : (t : Int) < (Y : Int) + 1 := by omega
      obtain ⟨a, b, ha, hb, h⟩ := HF.out.s
      have HJ := Lib.hid HF.out.j
      have HS := Lib.hid h
      have q0 := cell_of_row wr c.bq 0 _ 34 (0, 0) h.q
      have l1 := (cell_of_row wr c.bpl 0 _ 3 (0, 0) h.pl).trans k.c0
      have s1 := cell_of_row wr (c.n0 + 1) 0 _ 192 (0, 0) h.s
      simp only [List.getElem?_toArray, List.getElem?_cons_zero] at q0 s1
      have f1 : wr.frozen? ⟨c.n0 + 1, 0, none⟩ = false := by simp [World.frozen?, h.s]
      have HS1 := Lib.hid (h.set_a k (t : Int))
      have HJ1 := Lib.hid (hJ _ _ _ HJ.out ((Below.refl c.n0 wr).setCell (p := ⟨c.n0 + 1, 0, none⟩) (by show c.n0 ≤ c.n0 + 1; omega) (.int .i64 (t : Int))))
      rw [HYE.out] at ha hb
      clear h HJ HS HF ha
      go_wp2_with fail
      clear q0 l1 s1 f1
      generalize wr.setCell ⟨c.n0 + 1, 0, none⟩ (.int .i64 (t : Int)) = W1 at *
      have F : Hid (∀ u : World, Below W1.heap.size W1 u → ItS c (t : Int) (b : Int) u) := Lib.hid fun u hu => HS1.out.up hu
      have HST : Hid (∀ u : World, Below W1.heap.size W1 u → Calls Tryz.prog 156 #[.pointer (some ⟨c.p, 0, none⟩), .agg #[.int .i64 (t : Int), .int .i64 (b : Int), .int .i64 0, .int .i64 0, .int .i64 0, .int .i64 0], .int .i64 (Y : Int), .int .i64 0] u fun e w' => e = .returned (.bool (q t)) ∧ Below u.heap.size u w') := Lib.hid fun u hu => by
        rw [← HQ.out t b hlt hb]
        exact stands_X K hord (hP.up (HS1.out.up hu).bel) (t : Int) (b : Int) 0 0 0 0 (t := Y) (i := 0) hyn (by rw [hnp]; decide) (fun j hj => by
          have : j = 0 := by omega
          subst this
          simp; omega)
      cases hqt : q t with
      | false =>
        have HQT := Lib.hid hqt
        rw [hqt] at HST
        have HC := Lib.hid (fun u : KeptW W1 => Calls.in_kept u (HST.out u.w u.h))
        have P0 : ∀ u : KeptW W1, u.w.cell? ⟨c.pb, 0, none⟩ = some (.pointer (some ⟨c.p, 0, none⟩)) := fun u => cell_of_row u.w c.pb 0 _ 164 (0, 0) (F.out u.w u.h).p
        have Q0 : ∀ u : KeptW W1, u.w.cell? ⟨c.bq, 0, none⟩ = some (.slice (some ⟨c.bpl, 0, none⟩) 2 c.cpl) := fun u => cell_of_row u.w c.bq 0 _ 34 (0, 0) (F.out u.w u.h).q
        have L1 : ∀ u : KeptW W1, u.w.cell? ⟨c.bpl, 0, none⟩ = some (.int .i64 0) := fun u => (cell_of_row u.w c.bpl 0 _ 3 (0, 0) (F.out u.w u.h).pl).trans k.c0
        have Y0 : ∀ u : KeptW W1, u.w.cell? ⟨c.yb, 0, none⟩ = some (.int .i64 (Y : Int)) := fun u => by rw [← HYE.out]; exact cell_of_row u.w c.yb 0 _ 3 (0, 0) (F.out u.w u.h).y
        have S0 : ∀ u : KeptW W1, u.w.cell? ⟨c.n0 + 1, 0, none⟩ = some (.int .i64 (t : Int)) := fun u => cell_of_row u.w (c.n0 + 1) 0 _ 192 (0, 0) (F.out u.w u.h).s
        have S1 : ∀ u : KeptW W1, u.w.cell? ⟨c.n0 + 1, 1, none⟩ = some (.int .i64 (b : Int)) := fun u => cell_of_row u.w (c.n0 + 1) 1 _ 192 (0, 0) (F.out u.w u.h).s
        have S2 : ∀ u : KeptW W1, u.w.cell? ⟨c.n0 + 1, 2, none⟩ = some (.int .i64 0) := fun u => cell_of_row u.w (c.n0 + 1) 2 _ 192 (0, 0) (F.out u.w u.h).s
        have S3 : ∀ u : KeptW W1, u.w.cell? ⟨c.n0 + 1, 3, none⟩ = some (.int .i64 0) := fun u => cell_of_row u.w (c.n0 + 1) 3 _ 192 (0, 0) (F.out u.w u.h).s
        have S4 : ∀ u : KeptW W1, u.w.cell? ⟨c.n0 + 1, 4, none⟩ = some (.int .i64 0) := fun u => cell_of_row u.w (c.n0 + 1) 4 _ 192 (0, 0) (F.out u.w u.h).s
        have S5 : ∀ u : KeptW W1, u.w.cell? ⟨c.n0 + 1, 5, none⟩ = some (.int .i64 0) := fun u => cell_of_row u.w (c.n0 + 1) 5 _ 192 (0, 0) (F.out u.w u.h).s
        refine rk_region (by kernel_rfl) (by kernel_rfl) ?_
        repeat (go_big_quiet_step (first | (with_reducible exact HC.out _) | fail))
        refine wpQuiet_nil ?_
        rintro _ ⟨u, rfl⟩
        have HSU := Lib.hid (F.out u.w u.h)
        have hn0 : c.n0 ≤ W1.heap.size := Nat.le_of_lt (Nat.lt_of_succ_lt (Nat.lt_of_succ_lt (heapsz HS1.out.r)))
        have HJU := Lib.hid (hJ _ _ _ HJ1.out (u.h.mono hn0))
        clear hn0
        generalize u.w = W2 at HSU HJU ⊢
        go_wp2_with fail
        exact ⟨⟨t + 1, by omega, by go_num, ⟨by rw [en2_no HQT.out]; exact HJU.out, t, b, by rw [HYE.out]; exact hlt, by rw [HYE.out]; exact hb, HSU.out⟩⟩, by simp [intOf]; omega⟩
      | true =>
        have HQT := Lib.hid hqt
        rw [hqt] at HST
        clear hqt
        have w1 : IntKind.i64.wrap ((Y : Int) + 1) = (Y : Int) + 1 := by rw [IntKind.wrap_i64]; omega
        have w2 : IntKind.i64.wrap ((Y : Int) + 2) = (Y : Int) + 2 := by rw [IntKind.wrap_i64]; omega
        have w0 : IntKind.i64.wrap 0 = 0 := by decide
        have w00 : IntKind.i64.wrap 1 = 1 := by decide
        have w5 : IntKind.i64.wrap (t : Int) = (t : Int) := by rw [IntKind.wrap_i64]; omega
        have FP : Hid (∀ u, Below W1.heap.size W1 u → u.cell? ⟨c.pb, 0, none⟩ = some (.pointer (some ⟨c.p, 0, none⟩))) := Lib.hid fun u hu => cell_of_row u c.pb 0 _ 164 (0, 0) (F.out u hu).p
        have FQ : Hid (∀ u, Below W1.heap.size W1 u → u.cell? ⟨c.bq, 0, none⟩ = some (.slice (some ⟨c.bpl, 0, none⟩) 2 c.cpl)) := Lib.hid fun u hu => cell_of_row u c.bq 0 _ 34 (0, 0) (F.out u hu).q
        have FL : Hid (∀ u, Below W1.heap.size W1 u → u.cell? ⟨c.bpl, 0, none⟩ = some (.int .i64 0)) := Lib.hid fun u hu => (cell_of_row u c.bpl 0 _ 3 (0, 0) (F.out u hu).pl).trans k.c0
        have FY : Hid (∀ u, Below W1.heap.size W1 u → u.cell? ⟨c.yb, 0, none⟩ = some (.int .i64 (Y : Int))) := Lib.hid fun u hu => by rw [← HYE.out]; exact cell_of_row u c.yb 0 _ 3 (0, 0) (F.out u hu).y
        have FR : Hid (∀ u, Below W1.heap.size W1 u → u.cell? ⟨c.n0 + 1 + 1, 0, none⟩ = some (.func (.func 155) #[] c.caps)) := Lib.hid fun u hu => cell_of_row u (c.n0 + 1 + 1) 0 _ 112 (0, 0) (F.out u hu).r
        have FS : Hid (∀ u, Below W1.heap.size W1 u → u.cell? ⟨c.n0 + 1, 0, none⟩ = some (.int .i64 (t : Int)) ∧ u.cell? ⟨c.n0 + 1, 1, none⟩ = some (.int .i64 (b : Int)) ∧ u.cell? ⟨c.n0 + 1, 2, none⟩ = some (.int .i64 0) ∧ u.cell? ⟨c.n0 + 1, 3, none⟩ = some (.int .i64 0) ∧ u.cell? ⟨c.n0 + 1, 4, none⟩ = some (.int .i64 0) ∧ u.cell? ⟨c.n0 + 1, 5, none⟩ = some (.int .i64 0)) := Lib.hid fun u hu =>
          ⟨cell_of_row u (c.n0 + 1) 0 _ 192 (0, 0) (F.out u hu).s, cell_of_row u (c.n0 + 1) 1 _ 192 (0, 0) (F.out u hu).s, cell_of_row u (c.n0 + 1) 2 _ 192 (0, 0) (F.out u hu).s, cell_of_row u (c.n0 + 1) 3 _ 192 (0, 0) (F.out u hu).s, cell_of_row u (c.n0 + 1) 4 _ 192 (0, 0) (F.out u hu).s, cell_of_row u (c.n0 + 1) 5 _ 192 (0, 0) (F.out u hu).s⟩
        have hn0 : c.n0 ≤ W1.heap.size := Nat.le_of_lt (Nat.lt_of_succ_lt (Nat.lt_of_succ_lt (heapsz HS1.out.r)))
        have HREC : Hid (∀ u, Below W1.heap.size W1 u → Calls Tryz.prog 155 (#[.int .i64 1, .int .i64 (t : Int), .int .i64 (t : Int)] ++ c.caps) u fun e w' => e = .returned (.bool true) ∧ J (pre ++ en2 q q1 E c.y t ++ enL (q1 t) (E t) (c.y + 1)) w' ∧ ∃ b : Nat, b ≤ c.y ∧ ItS c (t : Int) (b : Int) w') := Lib.hid fun u hu =>
          (from_1 k K hord hnp hP hy9Y hynY n hJ hY t (by rw [HYE.out]; exact hlt) (q1 t) (fun b hb => hq1Y.out t b (by rw [HYE.out]; exact hlt) hb) (E t) _ _ rfl rfl
            (by
              have m1 := mul_bd (a := (t : Int)) (b := (c.y : Int) + 1) (A := 9) (B := 10) (by omega) (by omega) (by omega) (by omega)
              have m2 := mul_bd (a := (t : Int)) (b := (c.y : Int) + 2) (A := 9) (B := 11) (by omega) (by omega) (by omega) (by omega)
              omega)
            (fun b hb hqb => hEY.out t b (by rw [HYE.out]; exact hlt) hb hqb) (by rw [HYE.out]; exact hb) (F.out u hu) (hJ _ _ _ HJ1.out (hu.mono hn0))).mono (by
            rintro e w' ⟨rfl, hf⟩
            exact ⟨rfl, hf.j, hf.s⟩)
        have hE155 : ∀ (args : Array Value) (w : World), (callFunc 155 args).run Tryz.prog w = .ok (.enter 155 args) w := enters_of Tryz.func155 (by kernel_rfl) rfl
        refine plan_call (P := Tryz.prog) 24 [0, 1, 2, 3, 5, 6, 7, 8, 13] (ro155 c 0 1 0 0 0 (.agg #[.int .i64 (t : Int), .int .i64 (b : Int), .int .i64 0, .int .i64 0, .int .i64 0, .int .i64 0]) (Y : Int) (t : Int) 0 0) (fun u => J (pre ++ en2 q q1 E c.y t ++ enL (q1 t) (E t) (c.y + 1)) u ∧ ∃ b : Nat, b ≤ c.y ∧ ItS c (t : Int) (b : Int) u) (by kernel_rfl) (by kernel_rfl) (by kernel_rfl) (by kernel_rfl) (by kernel_rfl) (by kernel_rfl) (by kernel_rfl) (by decide) ?_ ?_ ?_
        · intro x hx
          simp only [List.mem_cons, List.not_mem_nil, or_false] at hx
          rcases hx with rfl | rfl | rfl | rfl | rfl | rfl | rfl | rfl | rfl <;> rfl
        · refine allOps_array ?_
          refine ⟨?_, ?_, ?_, ?_, ?_, ?_, ?_, ?_, ?_, ?_, ?_, ?_, ?_, ?_, ?_, ?_, ?_, ?_, ?_, ?_, ?_, ?_, ?_, ?_, ?_, ?_, ?_, trivial⟩
          · exact ask_q 33 rfl (by decide) rfl (fun u hu => by
              have x0 := FP.out u hu
              simp [go_sem, evalBy, ro155, x0])
          · exact ask_q 34 rfl (by decide) rfl (fun u hu => by
              obtain ⟨x0, x1, x2, x3, x4, x5⟩ := FS.out u hu
              simp [go_sem, evalBy, ro155, x0, x1, x2, x3, x4, x5])
          · exact ask_q 35 rfl (by decide) rfl (fun u hu => by
              have x0 := FY.out u hu
              simp [go_sem, evalBy, ro155, x0])
          · exact ask_q 36 rfl (by decide) rfl (fun u hu => by
              have x0 := FQ.out u hu
              simp [go_sem, evalBy, ro155, x0])
          · exact ask_q 37 rfl (by decide) rfl (fun u hu => by
              simp [go_sem, evalBy, ro155])
          · exact ask_q 38 rfl (by decide) rfl (fun u hu => by
              simp [go_sem, evalBy, ro155])
          · exact ask_q 39 rfl (by decide) rfl (fun u hu => by
              have x0 := FL.out u hu
              simp [go_sem, evalBy, ro155, x0])
          · exact ask_c 40 rfl (by decide) rfl 156 _ (fun u _ => by simp [go_sem, evalBy, ro155]) HST.out
          · exact ask_q 41 rfl (by decide) rfl (fun u hu => by
              simp [go_sem, evalBy, ro155])
          · exact ask_q 42 rfl (by decide) rfl (fun u hu => by
              have x0 := FR.out u hu
              simp [go_sem, evalBy, ro155, x0])
          · exact ask_q 43 rfl (by decide) rfl (fun u hu => by
              simp [go_sem, evalBy, ro155])
          · exact ask_q 44 rfl (by decide) rfl (fun u hu => by
              simp [go_sem, evalBy, ro155, w00])
          · exact ask_q 45 rfl (by decide) rfl (fun u hu => by
              simp [go_sem, evalBy, ro155])
          · exact ask_q 46 rfl (by decide) rfl (fun u hu => by
              have x0 := FY.out u hu
              simp [go_sem, evalBy, ro155, x0])
          · exact ask_q 47 rfl (by decide) rfl (fun u hu => by
              skip
              simp [go_sem, evalBy, ro155, w1])
          · exact ask_q 48 rfl (by decide) rfl (fun u hu => by
              skip
              simp [go_sem, evalBy, ro155, w0])
          · exact ask_q 49 rfl (by decide) rfl (fun u hu => by
              simp [go_sem, evalBy, ro155])
          · exact ask_q 50 rfl (by decide) rfl (fun u hu => by
              skip
              simp [go_sem, evalBy, ro155, w5])
          · exact ask_q 51 rfl (by decide) rfl (fun u hu => by
              simp [go_sem, evalBy, ro155])
          · exact ask_q 52 rfl (by decide) rfl (fun u hu => by
              have x0 := FY.out u hu
              simp [go_sem, evalBy, ro155, x0])
          · exact ask_q 53 rfl (by decide) rfl (fun u hu => by
              skip
              simp [go_sem, evalBy, ro155, w2])
          · exact ask_q 54 rfl (by decide) rfl (fun u hu => by
              skip
              simp [go_sem, evalBy, ro155, w0])
          · exact ask_q 55 rfl (by decide) rfl (fun u hu => by
              simp [go_sem, evalBy, ro155])
          · exact ask_q 56 rfl (by decide) rfl (fun u hu => by
              skip
              simp [go_sem, evalBy, ro155, w5])
          · exact ask_m 57 rfl rfl rfl 155 _ (fun u _ => by simp [go_sem, evalBy, ro155, hE155]) HREC.out
          · exact ask_r 58 rfl (by decide) rfl (fun u => by simp [go_sem, evalBy, ro155])
          · exact ask_r 59 rfl (by decide) rfl (fun u => by simp [go_sem, evalBy, ro155])
        · rintro u ⟨hju, hsu⟩
          obtain ⟨b2, hb2, hsu⟩ := hsu
          have HJU := Lib.hid hju; have HSU := Lib.hid hsu
          clear hju hsu
          simp [putAll, Act.put, ro155]
          go_wp2_with fail
          exact ⟨⟨t + 1, by omega, by go_num, ⟨by rw [en2_yes HQT.out, ← List.append_assoc]; exact HJU.out, t, b2, by rw [HYE.out]; exact hlt, hb2, HSU.out⟩⟩, by simp [intOf]; omega⟩
    · have hte : t = Y + 1 := by omega
      have ht1 : ¬ (t : Int) < (Y : Int) + 1 := by omega
      subst hte
      go_wp2_with fail
      exact bodyPost_ret (v := .bool true) (by simp [results, Tryz.results155, go_sem]) rfl ⟨rfl, HF.out⟩
end Go.Proofs.YtdlaphlpimlgdaaGreatDoor
/- The planner: the iterator over all starts that stand. -/
namespace Go.Proofs.YtdlaphlpimlgdaaGreatDoor
open Go.RowKit Go.Shelf

set_option maxRecDepth 100000 in
set_option maxHeartbeats 2000000 in
theorem stand_free {X : Ctx} (K : X.Ok) (hord : ∀ q ∈ X.qs, q.1 < q.2) (hnp : X.np = 2) {LL : List (List Sp)} {p : Nat} {A3 : Option Addr} {c3 : Nat} {mv : Value} {w2 w : World} (hP : PlAt X LL p A3 c3 mv w2) (hw : Below w2.heap.size w2 w)
    (bq bpl cpl yb pb y bc : Nat) (cs : Array Value) (hcs0 : cs[0]? = some (.int .i64 0)) (hcs1 : cs[1]? = some (.int .i64 1)) (hne : bq ≠ bc ∧ bpl ≠ bc ∧ yb ≠ bc ∧ pb ≠ bc) (hbc : bc < w.heap.size)
    (zq : w.heap[bq]? = some (.cells #[.slice (some ⟨bpl, 0, none⟩) 2 cpl] 34 (0, 0))) (zl : w.heap[bpl]? = some (.cells cs 3 (0, 0))) (zy : w.heap[yb]? = some (.cells #[.int .i64 (y : Int)] 3 (0, 0))) (zp : w.heap[pb]? = some (.cells #[.pointer (some ⟨p, 0, none⟩)] 164 (0, 0)))
    (hy9 : y ≤ 9) (hyn : y < X.n) {α : Type} {encs : α → Array Value} (n : Nat)
    (q : Nat → Bool) (q1 : Nat → Nat → Bool) (hq : ∀ a b, a ≤ y → b ≤ y → standB X LL [(a : Int), (b : Int), 0, 0, 0, 0] y 0 = q a) (hq1 : ∀ a b, a ≤ y → b ≤ y → standB X LL [(a : Int), (b : Int), 0, 0, 0, 0] y 1 = q1 a b) (E : Nat → Nat → α)
    (hE : ∀ a b, a ≤ y → b ≤ y → q1 a b = true → encs (E a b) = #[.int .i64 ((a : Int) * ((y : Int) + 1) + (b : Int)), .int .i64 ((a : Int) * ((y : Int) + 2) + (b : Int))]) :
    SeqFree n Tryz.prog 154 #[.pointer (some ⟨bq, 0, none⟩), .pointer (some ⟨yb, 0, none⟩), .pointer (some ⟨pb, 0, none⟩)] encs (KpC w2 bc) (fun xs => xs = en2 q q1 E y (y + 1)) w := by
  intro l J W hW hJ hY h0
  obtain ⟨c, hc⟩ : ∃ c : ItC, c = ⟨w2, W.heap.size, bq, bpl, cpl, yb, pb, p, y, bc, l, cs⟩ := ⟨_, rfl⟩
  have k1 := (hW.block _ (heapsz zq)).trans zq
  have k2 := (hW.block _ (heapsz zl)).trans zl
  have k3 := (hW.block _ (heapsz zy)).trans zy
  have k4 := (hW.block _ (heapsz zp)).trans zp
  have hsz := hW.size
  have ok : c.Ok := by
    subst hc
    exact ⟨hcs0, hcs1, ⟨heapsz k1, hne.1⟩, ⟨heapsz k2, hne.2.1⟩, ⟨heapsz k3, hne.2.2.1⟩, ⟨heapsz k4, hne.2.2.2⟩, by show bc < W.heap.size; omega, by have := hw.size; show w2.heap.size ≤ W.heap.size; omega⟩
  obtain ⟨z0, z1, z2, hb⟩ := three_new W (.cells #[.func (.yield l) #[] #[]] 103) (.cells #[.int .i64 0, .int .i64 0, .int .i64 0, .int .i64 0, .int .i64 0, .int .i64 0] 192) (.cells #[.func (.func 155) #[] #[.pointer (some ⟨bq, 0, none⟩), .pointer (some ⟨W.heap.size, 0, none⟩), .pointer (some ⟨yb, 0, none⟩), .pointer (some ⟨W.heap.size + 1, 0, none⟩), .pointer (some ⟨pb, 0, none⟩), .pointer (some ⟨W.heap.size + 1 + 1, 0, none⟩)]] 112)
  have hS : ItS c ((0 : Nat) : Int) ((0 : Nat) : Int) (((W.alloc (.cells #[.func (.yield l) #[] #[]] 103)).alloc (.cells #[.int .i64 0, .int .i64 0, .int .i64 0, .int .i64 0, .int .i64 0, .int .i64 0] 192)).alloc (.cells #[.func (.func 155) #[] #[.pointer (some ⟨bq, 0, none⟩), .pointer (some ⟨W.heap.size, 0, none⟩), .pointer (some ⟨yb, 0, none⟩), .pointer (some ⟨W.heap.size + 1, 0, none⟩), .pointer (some ⟨pb, 0, none⟩), .pointer (some ⟨W.heap.size + 1 + 1, 0, none⟩)]] 112)) := by
    subst hc
    exact ⟨(hw.trans (hW.mono hw.size)).trans (hb.mono (by have := hw.size; omega)), (hb.block _ (heapsz k1)).trans k1, (hb.block _ (heapsz k2)).trans k2, (hb.block _ (heapsz k3)).trans k3, (hb.block _ (heapsz k4)).trans k4, z0, z1, z2⟩
  have hf : ∀ (s : List α) (A B : World), J s A → Below c.n0 A B → J s B := by subst hc; exact hJ
  have hP' : PlAt X LL c.p A3 c3 mv c.w2 := by subst hc; exact hP
  have hY' : ∀ pre x W1, J pre W1 → YieldAt Fence.wide (n - 1) Tryz.prog c.l (encs x) W1 fun e W' => e = .returned (.bool true) ∧ J (pre ++ [x]) W' ∧ KpC c.w2 c.bc W1 W' := by subst hc; exact hY
  have hcy : c.y = y := by rw [hc]
  have HCALL := from_0 ok K hord hnp hP' (by rw [hcy]; exact hy9) (by rw [hcy]; exact hyn) n hf hY' q q1 (by rw [hcy]; exact hq) (by rw [hcy]; exact hq1) E (by rw [hcy]; exact hE) (a := 0) (b := 0) (Nat.zero_le _) (Nat.zero_le _) hS (pre := []) (hJ _ _ _ h0 hb)
  have hcaps : c.caps = #[.pointer (some ⟨bq, 0, none⟩), .pointer (some ⟨W.heap.size, 0, none⟩), .pointer (some ⟨yb, 0, none⟩), .pointer (some ⟨W.heap.size + 1, 0, none⟩), .pointer (some ⟨pb, 0, none⟩), .pointer (some ⟨W.heap.size + 1 + 1, 0, none⟩)] := by rw [hc]; rfl
  rw [hcaps] at HCALL
  have HC := Lib.hid HCALL
  have HCY := Lib.hid hcy
  have hE155 : ∀ (args : Array Value) (w : World), (callFunc 155 args).run Tryz.prog w = .ok (.enter 155 args) w := enters_of Tryz.func155 (by kernel_rfl) rfl
  clear HCALL hS hP' hY' hf hcaps z0 z1 z2 hb k1 k2 k3 k4 zq zl zy zp hY h0 hJ ok hq hq1 hE hcy
  refine callsIn_wide.2 ?_
  go_enter Tryz.func154, Tryz.ntmps154
  go_wp2_with fail
  refine Calls.mono (by simpa using HC.out) ?_
  rintro e w' ⟨rfl, hf⟩
  have HF := Lib.hid hf.j
  clear hf HC
  go_wp2_with fail
  go_end0
  exact ⟨⟨_, rfl⟩, _, rfl, by rw [← HCY.out]; simpa using HF.out⟩
end Go.Proofs.YtdlaphlpimlgdaaGreatDoor
/- The planner: a group's piles as a slice; the function that makes the iterator. -/
namespace Go.Proofs.YtdlaphlpimlgdaaGreatDoor
open Go.RowKit Go.Shelf
attribute [local go_sem] Oper.semAt_some

def nV (xs : List Nat) : List Value := xs.map fun (x : Nat) => Value.int .i64 (x : Int)
set_option maxRecDepth 100000 in
set_option maxHeartbeats 2000000 in
theorem appendSeq_any (s : Int) (Bn : Nat) (w : World) (hBn : Bn < w.heap.size) (c0 : w.cell? ⟨Bn, 0, none⟩ = some (.int .i64 s)) :
    Calls Tryz.prog 178 #[.slice none 0 0, .func (.func 129) #[] #[.pointer (some ⟨Bn, 0, none⟩)]] w fun e w' => ∃ v, e = .returned v ∧ w'.ownsRow w.heap.size 3 1 v (pilL s).length (nV (pilL s)) ∧ Below w.heap.size w w' := by
  have b0 := Boxed.new w 34 (.slice none 0 0)
  have hb0 := (Below.refl w.heap.size w).alloc (Nat.le_refl _) (.cells #[.slice none 0 0] 34)
  have HB0 := Lib.hid b0; have HB := Lib.hid hb0
  have HCB := Lib.hid (((bcell hb0).1 _ 0 hBn).trans c0)
  have HSZ : Hid (w.heap.size < (w.alloc (.cells #[.slice none 0 0] 34)).heap.size) := Lib.hid (by simp)
  have hown0 : (w.alloc (.cells #[.slice none 0 0] 34)).ownsRow w.heap.size 3 1 (.slice none 0 0) 0 [] := World.ownsRow_nil _ _ _ _
  have HO := Lib.hid hown0
  clear b0 hb0 c0 hown0
  refine callsIn_wide.1 (callsIn_of_wp_marks (n := 5) Tryz.func178 rfl trivial (wpIn_wide.2 ?_) rfl)
  simp only [Tryz.ntmps178, List.size_toArray, List.length_cons, List.length_nil, Nat.reduceAdd, Nat.reduceSub, Array.replicate_succ, Array.replicate_zero, List.push_toArray, List.append_toArray, List.nil_append, List.cons_append]
  go_wp2_with fail
  generalize w.alloc (.cells #[.slice none 0 0] 34) = w5 at *
  refine (wpIn_wide (n := 3)).1 ?_
  refine wpIn_rangeFunc_ownF rfl (by decide) (gf := 129) (lb := #[.pointer (some ⟨Bn, 0, none⟩)]) rfl trivial (enters_of Tryz.func129 (by kernel_rfl) rfl)
    (piles_stops (3 - 1) (by decide) Bn w.heap.size s w5 (by have := HSZ.out; omega) HCB.out)
    kpB_t (kpB_b (by have := HSZ.out; omega) (by have := HSZ.out; omega)) (Below.refl _ _) (fun _ => rfl)
    (fun pre W => (∃ v, Boxed W w.heap.size 34 v ∧ W.ownsRow w.heap.size 3 1 v pre.length (nV (pre.map Subtype.val)) ∧ True) ∧ Below w.heap.size w W)
    (fun _ _ _ => False)
    (OwnFrom.and (Own.from (holdsRow_own w.heap.size w.heap.size 34 3 1 (fun pre : List (PX s) => pre.length) (fun pre => nV (pre.map Subtype.val)) (fun _ _ => True)) _) (ownFrom_below (Nat.le_refl _) (by have := HSZ.out; omega)))
    (fun _ _ _ _ _ hs _ _ => hs)
    ⟨⟨_, HB0.out, by simpa [nV] using HO.out, trivial⟩, HB.out⟩
    (fun x => { tmps := List.toArray ((Value.slice none 0 0) :: (Value.func (.func 129) #[] #[.pointer (some ⟨Bn, 0, none⟩)]) :: (Value.pointer (some ⟨w.heap.size, 0, none⟩)) :: undef :: (Value.slice none 0 0) :: (Value.int .i64 (x.1 : Int)) :: (Value.func (.func 129) #[] #[.pointer (some ⟨Bn, 0, none⟩)]) :: (Value.int .i64 (x.1 : Int)) :: undef :: undef :: undef :: undef :: undef :: []), defers := [] }) ?assign ?body ?done ?stop
  case assign =>
    intro l x W K hK
    gi_wp2
    exact hK
  case body =>
    rintro l pre ⟨x, hx6, hxj⟩ W ⟨⟨v, hv, ho, _⟩, hbW⟩ hlen
    have HV := Lib.hid hv; have HO := Lib.hid ho; have HBW := Lib.hid hbW
    have v0 := hv.cell
    have hsz := hbW.size
    have hmp : nV ((pre ++ [(⟨x, hx6, hxj⟩ : PX s)]).map Subtype.val) = nV (pre.map Subtype.val) ++ [.int .i64 (x : Int)] := by rw [List.map_append]; unfold nV; rw [List.map_append]; rfl
    have HMP := Lib.hid hmp
    have hlt : w.heap.size < W.heap.size := hv.lt
    have HLT := Lib.hid hlt
    clear hv ho hbW hmp
    obtain ⟨i0, hi0, hz0, hz1, hz2⟩ := info_parts int_info
    dsimp only
    gi_wp2_with (first
      | (gi_at_builtin
         refine wpListIn_append_own _ rfl _ _ 34 rfl w.heap.size 3 i0 _ 1 8 Tryz.underlying34 hi0 hz0 hz1 hz2 rfl (by decide) _ _ _ rfl (own_next HO.out ((Below.refl _ W).alloc (Nat.le_refl _) _)) ⟨W.heap.size, 0, none⟩ 1 1 [.int .i64 (x : Int)] rfl rfl (cell_one_new _ _ _) (by simp [Value.oneCell']) (by unfold maxLen; omega) (by omega) (by simp; omega) ?_
         intro v' w4 hown4 hgrow4 _
         obtain ⟨g, cap, rfl⟩ := ownsRow_succ hown4
         have HA := Lib.hid (Boxed.appended HV.out (by decide) HO.out HBW.out.size (Nat.le_refl _) hown4 hgrow4)
         have v1 := HA.out.1.cell
         have f1 := HA.out.1.frozen
         clear hown4 hgrow4)
      | fail)
    obtain ⟨a1, a2, a3, a4, a5⟩ := HA.out
    refine ⟨a4, ⟨a5, (bcell a5).1 _ 0 hBn⟩, ⟨_, a2, ?_, trivial⟩, HBW.out.trans a5⟩
    rw [HMP.out, List.length_append]
    exact a3
  case done =>
    rintro D ys W hD hys ⟨⟨v, hv, ho, _⟩, hbW⟩ hK
    have hlen : ys.length = (pilL s).length := by rw [← hys, List.length_map]
    rw [hys, hlen] at ho
    have v0 := hv.cell
    have HW := Lib.hid hbW; have HO := Lib.hid ho
    have HK := Lib.hid hK
    have HM : Hid (Marks W w.heap.size [D]) := Lib.hid ⟨by simp, fun E hE => by rw [List.mem_singleton.1 hE]; exact ⟨by have := HSZ.out; omega, hK⟩⟩
    clear hK hys hlen ho hv hbW
    simp only [Exit.inBlock, Exit.then]
    go_wp2_with fail
    refine leaves_marks [D] W HM.out (fun w' hk => ⟨_, results_tmp rfl _ _ _, ?_⟩)
    refine ⟨_, rfl, own_of_blocks HO.out (fun B hB => ?_), HW.out.trans hk.1⟩
    obtain ⟨_, cur, h2⟩ := own_at HO.out hB
    rw [hk.2 _ _ _ _ h2, h2]
  case stop =>
    rintro D c pre W _ _ h _
    exact h.elim
theorem collect_any (s : Int) (Bn : Nat) (w : World) (hBn : Bn < w.heap.size) (c0 : w.cell? ⟨Bn, 0, none⟩ = some (.int .i64 s)) :
    Calls Tryz.prog 153 #[.func (.func 129) #[] #[.pointer (some ⟨Bn, 0, none⟩)]] w fun e w' => ∃ v, e = .returned v ∧ w'.ownsRow w.heap.size 3 1 v (pilL s).length (nV (pilL s)) ∧ Below w.heap.size w w' := by
  have HC := Lib.hid (appendSeq_any s Bn w hBn c0)
  clear hBn c0
  go_enter Tryz.func153, Tryz.ntmps153
  go_wp2_with fail
  refine HC.out.mono ?_
  rintro e w' ⟨v, rfl, h1, h2⟩
  have H1 := Lib.hid h1; have H2 := Lib.hid h2
  clear h1 h2
  go_wp2_with fail
  go_ret
  exact ⟨v, rfl, H1.out, H2.out⟩
theorem pil3 : pilL 3 = [0, 1] := by kernel_rfl
/-- What the iterator over the starts holds. -/
structure StIt (w : World) (p y : Nat) (bq bpl cpl yb pb : Nat) (cs : Array Value) (w' : World) : Prop where
  bel : Below w.heap.size w w'
  c0 : cs[0]? = some (.int .i64 0)
  c1 : cs[1]? = some (.int .i64 1)
  q : w'.heap[bq]? = some (.cells #[.slice (some ⟨bpl, 0, none⟩) 2 cpl] 34 (0, 0))
  pl : w'.heap[bpl]? = some (.cells cs 3 (0, 0))
  y : w'.heap[yb]? = some (.cells #[.int .i64 (y : Int)] 3 (0, 0))
  p : w'.heap[pb]? = some (.cells #[.pointer (some ⟨p, 0, none⟩)] 164 (0, 0))
  ge : w.heap.size ≤ bq ∧ w.heap.size ≤ bpl ∧ w.heap.size ≤ yb ∧ w.heap.size ≤ pb
set_option maxRecDepth 100000 in
set_option maxHeartbeats 2000000 in
theorem standing_any (p y : Nat) (w : World) :
    Calls Tryz.prog 137 #[.pointer (some ⟨p, 0, none⟩), .int .i64 3, .int .i64 (y : Int)] w fun e w' => ∃ bq bpl cpl yb pb cs, e = .returned (.func (.func 154) #[] #[.pointer (some ⟨bq, 0, none⟩), .pointer (some ⟨yb, 0, none⟩), .pointer (some ⟨pb, 0, none⟩)]) ∧ StIt w p y bq bpl cpl yb pb cs w' := by
  obtain ⟨z0, z1, z2, hb⟩ := three_new w (.cells #[.pointer (some ⟨p, 0, none⟩)] 164) (.cells #[.int .i64 (y : Int)] 3) (.cells #[.int .i64 3] 3)
  have HC := Lib.hid (collect_any 3 (w.heap.size + 1 + 1) _ (heapsz z2) (cell_of_row _ (w.heap.size + 1 + 1) 0 _ 3 (0, 0) z2))
  have Z0 := Lib.hid z0; have Z1 := Lib.hid z1; have HB := Lib.hid hb
  clear z0 z1 z2 hb
  go_enter Tryz.func137, Tryz.ntmps137
  go_wp2_with (first
    | (go_at_call 114; refine (pilesOf_any _ _).mono ?_; rintro e w' ⟨rfl, rfl⟩)
    | fail)
  refine HC.out.mono ?_
  rintro e w' ⟨v, rfl, h1, h2⟩
  rw [pil3] at h1
  obtain ⟨g, cap, rfl⟩ := ownsRow_succ (k := 1) h1
  obtain ⟨e1, _, cur, e3, e4⟩ := own_block h1
  have hsz := HB.out.size
  have E3 := Lib.hid e3; have E4 := Lib.hid (e4 0 _ rfl); have E5 := Lib.hid (e4 1 _ rfl)
  have Y0 := Lib.hid ((h2.block _ (heapsz Z0.out)).trans Z0.out)
  have Y1 := Lib.hid ((h2.block _ (heapsz Z1.out)).trans Z1.out)
  have HB2 := Lib.hid (HB.out.trans (h2.mono HB.out.size))
  have HG : Hid (w.heap.size ≤ g) := Lib.hid (Nat.le_trans hsz e1)
  clear h1 h2 e3 e4 HC HB Z0 Z1 e1
  have hbn := (Below.refl w'.heap.size w').alloc (Nat.le_refl _) (.cells #[.slice (some ⟨g, 0, none⟩) (1 + 1) cap] 34)
  have zn := heap_alloc_new w' (.cells #[.slice (some ⟨g, 0, none⟩) (1 + 1) cap] 34)
  have HBN := Lib.hid hbn; have HZN := Lib.hid zn
  clear hbn zn
  go_wp2_with fail
  go_ret
  exact ⟨w'.heap.size, g, cap, w.heap.size + 1, w.heap.size, cur, rfl, HB2.out.trans (HBN.out.mono HB2.out.size), E4.out, E5.out, HZN.out, (HBN.out.block _ (heapsz E3.out)).trans E3.out, (HBN.out.block _ (heapsz Y1.out)).trans Y1.out, (HBN.out.block _ (heapsz Y0.out)).trans Y0.out, HB2.out.size, HG.out, by omega, Nat.le_refl _⟩
end Go.Proofs.YtdlaphlpimlgdaaGreatDoor
