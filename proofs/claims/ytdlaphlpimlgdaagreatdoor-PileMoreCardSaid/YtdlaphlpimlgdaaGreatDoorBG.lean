/- The planner: costs with jackings chosen: the reckoning. -/
import Derived.Test.YtdlaphlpimlgdaaGreatDoorBE
namespace Go.Proofs.YtdlaphlpimlgdaaGreatDoor
open Go.RowKit Go.Shelf
attribute [local go_sem] Oper.semAt_some

def chS (C : Int) (same y base : Nat) (L : List Int) (i : Nat) : List Int := L.set (base + i) (min (L.getD (base + i) 0) (C + L.getD (base + same * y + i % same) 0))
def chP (C : Int) (same y base k : Nat) (L : List Int) : List Int := (List.range k).foldl (chS C same y base) L
def chK (C : Int) (same y m : Nat) (qs : List Nat) (L : List Int) : List Int := qs.foldl (fun L q => chP C same y (q * m) m L) L
def chW (X : Ctx) (y M : Nat) (S : List Int × Nat) (i : Nat) : List Int × Nat := (chK (X.pile i).c (S.2 / (y + 1)) y S.2 (List.range (M / S.2)) S.1, S.2 / (y + 1))
def chosenF (X : Ctx) (s : Int) (y : Nat) (L : List Int) : List Int := ((pilL s).foldl (chW X y L.length) (L, L.length)).1
def costs_ok (L : List Int) : Prop := ∀ x ∈ L, 0 ≤ x ∧ x ≤ 1000000000
theorem ok_getD {L : List Int} (h : costs_ok L) (i : Nat) : 0 ≤ L.getD i 0 ∧ L.getD i 0 ≤ 1000000000 := by
  rw [List.getD_eq_getElem?_getD]
  cases hx : L[i]? with
  | none => simp
  | some x => exact h x (List.mem_of_getElem? hx)
theorem chS_len (C : Int) (same y base : Nat) (L : List Int) (i : Nat) : (chS C same y base L i).length = L.length := by simp [chS]
theorem chS_ok {C : Int} (hC : 0 ≤ C) {same y base : Nat} {L : List Int} (h : costs_ok L) (i : Nat) : costs_ok (chS C same y base L i) := fun x hx => by
  unfold chS at hx
  rcases List.mem_or_eq_of_mem_set hx with hx | rfl
  · exact h x hx
  · have h1 := ok_getD h (base + i)
    have h2 := ok_getD h (base + same * y + i % same)
    omega
theorem chP_succ (C : Int) (same y base k : Nat) (L : List Int) : chP C same y base (k + 1) L = chS C same y base (chP C same y base k L) k := by
  unfold chP
  rw [List.range_succ, List.foldl_append]
  rfl
theorem chP_inv {C : Int} (hC : 0 ≤ C) (same y base : Nat) : ∀ (k : Nat) (L : List Int), costs_ok L → costs_ok (chP C same y base k L) ∧ (chP C same y base k L).length = L.length
  | 0, L, h => ⟨h, rfl⟩
  | k + 1, L, h => by
    obtain ⟨h1, h2⟩ := chP_inv hC same y base k L h
    rw [chP_succ]
    exact ⟨chS_ok hC h1 k, by rw [chS_len, h2]⟩
theorem chK_inv {C : Int} (hC : 0 ≤ C) (same y m : Nat) : ∀ (qs : List Nat) (L : List Int), costs_ok L → costs_ok (chK C same y m qs L) ∧ (chK C same y m qs L).length = L.length
  | [], L, h => ⟨h, rfl⟩
  | q :: qs, L, h => by
    obtain ⟨h1, h2⟩ := chP_inv hC same y (q * m) m L h
    obtain ⟨h3, h4⟩ := chK_inv hC same y m qs _ h1
    exact ⟨h3, h4.trans h2⟩
theorem chK_snoc (C : Int) (same y m : Nat) (qs : List Nat) (q : Nat) (L : List Int) : chK C same y m (qs ++ [q]) L = chP C same y (q * m) m (chK C same y m qs L) := by
  unfold chK
  rw [List.foldl_append]
  rfl
theorem chW_snoc (X : Ctx) (y M : Nat) (xs : List Nat) (x : Nat) (S : List Int × Nat) : (xs ++ [x]).foldl (chW X y M) S = chW X y M (xs.foldl (chW X y M) S) x := by rw [List.foldl_append]; rfl
theorem chW_inv {X : Ctx} (K : X.Ok) (y M : Nat) : ∀ (xs : List Nat) (S : List Int × Nat), (∀ x ∈ xs, x < X.np) → costs_ok S.1 → costs_ok (xs.foldl (chW X y M) S).1 ∧ (xs.foldl (chW X y M) S).1.length = S.1.length
  | [], S, _, h => ⟨h, rfl⟩
  | x :: xs, S, hx, h => by
    obtain ⟨_, h5⟩ := K.at_pile (hx x List.mem_cons_self)
    have hc := (pilB_iff.1 h5).2.2.2.2.2
    obtain ⟨h1, h2⟩ := chK_inv (C := (X.pile x).c) hc.1 (S.2 / (y + 1)) y S.2 (List.range (M / S.2)) S.1 h
    obtain ⟨h3, h4⟩ := chW_inv K y M xs (chW X y M S x) (fun z hz => hx z (List.mem_cons_of_mem _ hz)) h1
    exact ⟨h3, h4.trans h2⟩
theorem chW_many (X : Ctx) (y M T : Nat) : ∀ (xs : List Nat) (L : List Int) (k : Nat), xs.length ≤ k → (xs.foldl (chW X y M) (L, (y + 1) ^ k)).2 = (y + 1) ^ (k - xs.length)
  | [], L, k, _ => rfl
  | x :: xs, L, k, h => by
    rw [List.length_cons] at h
    rw [List.foldl_cons]
    have e1 : (y + 1) ^ k / (y + 1) = (y + 1) ^ (k - 1) := by
      rw [show k = (k - 1) + 1 by omega, Nat.pow_succ, Nat.mul_div_cancel _ (by omega)]
      rfl
    unfold chW
    rw [e1]
    have := chW_many X y M T xs (chK (X.pile x).c ((y + 1) ^ (k - 1)) y ((y + 1) ^ k) (List.range (M / (y + 1) ^ k)) L) (k - 1) (by omega)
    unfold chW at this
    rw [this, List.length_cons, show k - 1 - xs.length = k - (xs.length + 1) by omega]
/-- Some blocks that stay, the box of how many places there are, the costs. -/
structure ChI (n0 : Nat) (w : World) (fs : List (Nat × Array Value × TypeId)) (bm g : Nat) (mv : Int) (L : List Int) (W : World) : Prop where
  bel : Below n0 w W
  fix : ∀ x ∈ fs, W.heap[x.1]? = some (.cells x.2.1 x.2.2 (0, 0))
  mb : W.heap[bm]? = some (.cells #[.int .i64 mv] 3 (0, 0))
  row : ∃ cs, W.heap[g]? = some (.cells cs 3 (0, 0)) ∧ ∀ (i : Nat) (x : Int), L[i]? = some x → cs[i]? = some (.int .i64 x)
theorem ChI.keep {n0 n1 : Nat} {w A B : World} {fs : List (Nat × Array Value × TypeId)} {bm g : Nat} {mv : Int} {L : List Int} (h : ChI n0 w fs bm g mv L A) (hb : Below n1 A B) (h01 : n0 ≤ n1) (hk : ∀ (b : Nat) (cs : Array Value) (ty : TypeId), A.heap[b]? = some (.cells cs ty (0, 0)) → B.heap[b]? = some (.cells cs ty (0, 0))) : ChI n0 w fs bm g mv L B := by
  obtain ⟨cs, h1, h2⟩ := h.row
  exact ⟨h.bel.trans (hb.mono h01), fun x hx => hk _ _ _ (h.fix x hx), hk _ _ _ h.mb, cs, hk _ _ _ h1, h2⟩
theorem ChI.below {n0 : Nat} {w A B : World} {fs : List (Nat × Array Value × TypeId)} {bm g : Nat} {mv : Int} {L : List Int} (h : ChI n0 w fs bm g mv L A) (h0 : n0 ≤ A.heap.size) (hb : Below A.heap.size A B) : ChI n0 w fs bm g mv L B :=
  h.keep hb h0 (fun _ _ _ e => (hb.block _ (heapsz e)).trans e)
theorem ChI.own {n0 N : Nat} {w A B : World} {fs : List (Nat × Array Value × TypeId)} {bm g : Nat} {mv : Int} {L : List Int} {row : Option Nat} (hN : n0 ≤ N) (h : ChI n0 w fs bm g mv L A) (hA : n0 ≤ A.heap.size) (hg : A.grownBy B row) (hr : ∀ r, row = some r → N ≤ r ∧ ∃ o : Obj, A.heap[r]? = some o ∧ o.isCells = false) : ChI n0 w fs bm g mv L B := by
  refine h.keep ((Below.refl _ _).grown hg hA (fun k e => by have := (hr k e).1; omega)) (Nat.le_refl _) (fun b cs ty hb => ?_)
  refine (hg.block b (Array.getElem?_eq_some_iff.1 hb).1 (fun e => ?_)).trans hb
  obtain ⟨_, o, h2, h3⟩ := hr b e.symm
  rw [hb] at h2
  injection h2 with h2
  rw [← h2] at h3
  cases h3
theorem ChI.drew {n0 : Nat} {w A : World} {fs : List (Nat × Array Value × TypeId)} {bm g : Nat} {mv : Int} {L : List Int} (h : ChI n0 w fs bm g mv L A) : ChI n0 w fs bm g mv L A.drew := ⟨h.bel.drew, h.fix, h.mb, h.row⟩
/-- One cost is set. -/
theorem ChI.set {n0 : Nat} {w A : World} {fs : List (Nat × Array Value × TypeId)} {bm g : Nat} {mv : Int} {L : List Int} (h : ChI n0 w fs bm g mv L A) (hg : n0 ≤ g) (hne : bm ≠ g) (hf : ∀ x ∈ fs, x.1 ≠ g) (j : Nat) (hj : j < L.length) (v : Int) : ChI n0 w fs bm g mv (L.set j v) (A.setCell ⟨g, j, none⟩ (.int .i64 v)) := by
  obtain ⟨cs, h1, h2⟩ := h.row
  refine ⟨h.bel.setCell (p := ⟨g, j, none⟩) hg _, fun x hx => (Below.heap_setCell _ _ _ _ (hf x hx)).trans (h.fix x hx), (Below.heap_setCell _ _ _ _ hne).trans h.mb, _, blk_set h1 j _, fun i x hx => ?_⟩
  have hjc : j < cs.size := by
    obtain ⟨y, hy⟩ := get_of_lt hj
    exact (Array.getElem?_eq_some_iff.1 (h2 j y hy)).1
  rw [List.getElem?_set] at hx
  rw [Array.getElem?_setIfInBounds]
  by_cases hij : j = i
  · subst hij
    rw [if_pos rfl, if_pos hj] at hx
    rw [if_pos rfl, if_pos hjc]
    injection hx with hx
    rw [hx]
  · rw [if_neg hij] at hx
    rw [if_neg hij]
    exact h2 i x hx
/-- How many places are left. -/
theorem ChI.many {n0 : Nat} {w A : World} {fs : List (Nat × Array Value × TypeId)} {bm g : Nat} {mv : Int} {L : List Int} (h : ChI n0 w fs bm g mv L A) (hb : n0 ≤ bm) (hne : g ≠ bm) (hf : ∀ x ∈ fs, x.1 ≠ bm) (v : Int) : ChI n0 w fs bm g v L (A.setCell ⟨bm, 0, none⟩ (.int .i64 v)) := by
  obtain ⟨cs, h1, h2⟩ := h.row
  exact ⟨h.bel.setCell (p := ⟨bm, 0, none⟩) hb _, fun x hx => (Below.heap_setCell _ _ _ _ (hf x hx)).trans (h.fix x hx), by simpa using blk_set h.mb 0 (.int .i64 v), cs, (Below.heap_setCell _ _ _ _ hne).trans h1, h2⟩
theorem ChI.more {n0 : Nat} {w A : World} {fs : List (Nat × Array Value × TypeId)} {bm g : Nat} {mv : Int} {L : List Int} (h : ChI n0 w fs bm g mv L A) (x : Nat × Array Value × TypeId) (hx : A.heap[x.1]? = some (.cells x.2.1 x.2.2 (0, 0))) : ChI n0 w (x :: fs) bm g mv L A :=
  ⟨h.bel, fun z hz => by
    rcases List.mem_cons.1 hz with rfl | hz
    · exact hx
    · exact h.fix z hz, h.mb, h.row⟩
theorem ChI.less {n0 : Nat} {w A : World} {fs : List (Nat × Array Value × TypeId)} {bm g : Nat} {mv : Int} {L : List Int} {x : Nat × Array Value × TypeId} (h : ChI n0 w (x :: fs) bm g mv L A) : ChI n0 w fs bm g mv L A := ⟨h.bel, fun z hz => h.fix z (List.mem_cons_of_mem _ hz), h.mb, h.row⟩
theorem ChI.at_ {n0 : Nat} {w A : World} {fs : List (Nat × Array Value × TypeId)} {bm g : Nat} {mv : Int} {L : List Int} (h : ChI n0 w fs bm g mv L A) {i : Nat} (hi : i < L.length) : A.cell? ⟨g, i, none⟩ = some (.int .i64 (L.getD i 0)) ∧ A.frozen? ⟨g, i, none⟩ = false := by
  obtain ⟨cs, h1, h2⟩ := h.row
  obtain ⟨x, hx⟩ := get_of_lt hi
  refine ⟨(cell_of_row A g i _ 3 (0, 0) h1).trans ?_, by simp [World.frozen?, h1]⟩
  rw [h2 i x hx, List.getD_eq_getElem?_getD, hx]
  rfl
end Go.Proofs.YtdlaphlpimlgdaaGreatDoor
/- The planner: costs with jackings chosen: the code. -/
namespace Go.Proofs.YtdlaphlpimlgdaaGreatDoor
open Go.RowKit Go.Shelf
attribute [local go_sem] Oper.semAt_some

theorem pil_more {s : Int} {k : Nat} (hk : k < 6) (hj : jackB s k = true) : ((List.range k).filter (fun k => jackB s k)).length + 1 ≤ (pilL s).length := by
  have h1 : ((List.range (k + 1)).filter (fun k => jackB s k)).length = ((List.range k).filter (fun k => jackB s k)).length + 1 := by
    rw [pil_take, hj, if_pos rfl, List.length_append]
    rfl
  rw [← h1]
  have h2 : (List.range (k + 1)).Sublist (List.range 6) := List.range_sublist.2 hk
  exact (h2.filter _).length_le
set_option maxRecDepth 100000 in
set_option maxHeartbeats 2000000 in
theorem piles2_in (n : Nat) (hn : 1 ≤ n) (l Bn n₀ : Nat) (s : Int) (J Jx : List (PX s) → World → Prop)
    (hY : ∀ pre x W, J pre W → pre.length < (pilL s).length → YieldAt Fence.wide (n - 1) Tryz.prog l #[.int .i64 (x.1 : Int)] W fun e W' =>
      (e = .returned (.bool true) ∧ J (pre ++ [x]) W' ∧ KpB n₀ Bn W W') ∨ (e = .returned (.bool false) ∧ Jx (pre ++ [x]) W'))
    (W : World) (c0 : W.cell? ⟨Bn, 0, none⟩ = some (.int .i64 s)) (h0 : J [] W) :
    CallsIn Fence.wide n Tryz.prog 129 #[.func (.yield l) #[] #[], .pointer (some ⟨Bn, 0, none⟩)] W fun e W' => (∃ v, e = .returned v) ∧
      ((∃ ys, ys.map Subtype.val = pilL s ∧ J ys W') ∨ (∃ pre, True ∧ Jx pre W')) := by
  have C0 := Lib.hid c0
  refine callsIn_of_wp Tryz.func129 rfl trivial ?_ rfl
  simp only [Tryz.ntmps129, List.size_toArray, List.length_cons, List.length_nil, Nat.reduceAdd, Nat.reduceSub, Array.replicate_succ, Array.replicate_zero, List.push_toArray, List.append_toArray, List.nil_append, List.cons_append]
  gi_wp2
  gi_loopw [4] (fun i wr => ∃ (k : Nat) (pre : List (PX s)), k ≤ 6 ∧ i = .int .i64 k ∧ pre.map Subtype.val = (List.range k).filter (fun k => jackB s k) ∧ J pre wr ∧ wr.cell? ⟨Bn, 0, none⟩ = some (.int .i64 s)) (fun i _ => 6 - (intOf i).toNat)
  case atStart => exact ⟨0, [], by omega, rfl, by simp, h0, C0.out⟩
  case round =>
    clear c0
    obtain ⟨k, pre, hk, rfl, hpre, hJs, c0⟩ := hrel
    have HP := Lib.hid hpre; clear hpre
    by_cases hlt : k < 6
    · have hk1 : (k : Int) < 6 := by omega
      cases hj : jackB s k with
      | false =>
        have HJ := Lib.hid hj
        clear hj
        gi_wp2
        refine ⟨trivial, ?_⟩
        refine (callsIn_wide.2 (has_any s k _ (by omega))).mono ?_
        rintro e w' ⟨rfl, rfl⟩
        rw [HJ.out]
        gi_wp2
        refine ⟨fun _ _ => trivial, ?_⟩
        gi_wp2
        go_roundw
        case rel => exact ⟨k + 1, pre, by omega, by go_num, by rw [pil_take, HJ.out, HP.out]; simp, hJs, c0⟩
        case measure => simp [intOf]; omega
      | true =>
        have HJ := Lib.hid hj
        have hlen : pre.length < (pilL s).length := by
          have := congrArg List.length HP.out
          rw [List.length_map] at this
          have h2 := pil_more (s := s) hlt hj
          omega
        obtain ⟨fn, tmps, assign, body, hy, hR⟩ := hY pre ⟨k, hlt, hj⟩ _ hJs hlen
        dsimp only at hy
        gi_wp2
        refine ⟨trivial, ?_⟩
        refine (callsIn_wide.2 (has_any s k _ (by omega))).mono ?_
        rintro e w' ⟨rfl, rfl⟩
        rw [HJ.out]
        gi_wp2
        refine hR.mono ?_
        rintro e W3 h4
        obtain ⟨bv, rfl, h3⟩ := two h4
        clear h4 hy
        have hmap : (pre ++ [(⟨k, hlt, hj⟩ : PX s)]).map Subtype.val = (List.range (k + 1)).filter (fun k => jackB s k) := by
          rw [List.map_append, HP.out, pil_take, if_pos HJ.out]
          rfl
        have HB := Lib.hid hmap
        clear hmap
        rcases h3 with ⟨rfl, hJ3, hk3⟩ | ⟨rfl, hJx3⟩
        · have hcB : W3.cell? ⟨Bn, 0, none⟩ = some (.int .i64 s) := hk3.2.trans c0
          have HcB := Lib.hid hcB
          clear hcB hk3
          gi_wp2
          go_roundw
          case rel => exact ⟨k + 1, _, by omega, by go_num, HB.out, hJ3, HcB.out⟩
          case measure => simp [intOf]; omega
        · gi_wp2
          refine bodyPost_ret (results_none rfl _ _ _) rfl ?_
          exact ⟨⟨_, rfl⟩, .inr ⟨_, trivial, hJx3⟩⟩
    · have hk1 : ¬ (k : Int) < 6 := by omega
      have hk6 : k = 6 := by omega
      subst hk6
      gi_wp2
      go_end0
      exact ⟨⟨_, rfl⟩, .inl ⟨_, HP.out, hJs⟩⟩
theorem piles2_stops (n : Nat) (hn : 1 ≤ n) (Bn n₀ : Nat) (s : Int) (w : World) (hBn : Bn < w.heap.size) (c0 : w.cell? ⟨Bn, 0, none⟩ = some (.int .i64 s)) :
    SeqStopsK Fence.wide n Tryz.prog 129 #[.pointer (some ⟨Bn, 0, none⟩)] (fun x : PX s => #[.int .i64 (x.1 : Int)]) (KpB n₀ Bn) (fun ys => ys.map Subtype.val = pilL s) (fun _ => True) (pilL s).length w := fun l J Jx W hW _ _ hY h0 => by
  obtain ⟨r1, _⟩ := bcell hW
  exact piles2_in n hn l Bn n₀ s J Jx hY W ((r1 _ _ hBn).trans c0) h0
theorem keepsFrom_alloc (B : Nat) (W : World) (o : Obj) : KeepsFrom B W (W.alloc o) := ⟨by simp, fun k _ _ hk _ => (Below.heap_alloc _ _ _ (Array.getElem?_eq_some_iff.1 hk).1).trans hk⟩
theorem keepsFrom_below (B : Nat) {W W' : World} (h : Below W.heap.size W W') : KeepsFrom B W W' := (ko_below h).from B
theorem below_mid {n : Nat} {w A B : World} (h1 : Below n w A) (h2 : Below n w B) (hs : A.heap.size ≤ B.heap.size) : Below n A B :=
  ⟨h2.os.trans h1.os.symm, h2.tape.trans h1.tape.symm, h2.output.trans h1.output.symm, hs, fun b hb => (h2.block b hb).trans (h1.block b hb).symm⟩
def chFS (h h1 : Nat) (p y g M c' : Nat) (s : Int) : List (Nat × Array Value × TypeId) :=
  [(h, #[.pointer (some ⟨p, 0, none⟩)], 164), (h + 1, #[.int .i64 (y : Int)], 3), (h1, #[.slice (some ⟨g, 0, none⟩) M c'], 34), (h1 + 1 + 1, #[.int .i64 s], 3)]
/-- What is reckoned before a pile. -/
def chN (X : Ctx) (y : Nat) (L : List Int) (xs : List Nat) : List Int × Nat := xs.foldl (chW X y L.length) (L, L.length)
def chOuter (X : Ctx) (w w5 : World) (h1 p y g c' : Nat) (s : Int) (L : List Int) (xs : List Nat) (W : World) : Prop :=
  w5.heap.size ≤ W.heap.size ∧ ChI w.heap.size w (chFS w.heap.size h1 p y g L.length c' s) (h1 + 1) g ((chN X y L xs).2 : Nat) (chN X y L xs).1 W
set_option maxRecDepth 100000 in
set_option maxHeartbeats 4000000 in
theorem chosen_X {X : Ctx} (K : X.Ok) {LL : List (List Sp)} {p : Nat} {A3 : Option Addr} {c3 : Nat} {mv : Value} {w : World} (h : PlAt X LL p A3 c3 mv w) (s : Int) (hs0 : 0 ≤ s) (hs1 : s ≤ (2 ^ X.np : Int) - 1) (y : Nat) (hy : y ≤ 9)
    (bc o cc : Nat) (L : List Int) (hM : L.length = (y + 1) ^ (pilL s).length) (hM2 : L.length ≤ 1000) (hL : costs_ok L) (hbc : bc < w.heap.size) (hA : ∀ i x, L[i]? = some x → w.cell? ⟨bc, o + i, none⟩ = some (.int .i64 x)) :
    Calls Tryz.prog 138 #[.pointer (some ⟨p, 0, none⟩), .int .i64 s, .int .i64 (y : Int), .slice (some ⟨bc, o, none⟩) L.length cc] w fun e w' => ∃ g c', e = .returned (.slice (some ⟨g, 0, none⟩) L.length c') ∧ (∃ cs, w'.heap[g]? = some (.cells cs 3 (0, 0)) ∧ ∀ (i : Nat) (x : Int), (chosenF X s y L)[i]? = some x → cs[i]? = some (.int .i64 x)) ∧ w.heap.size ≤ g ∧ Below w.heap.size w w' := by
  obtain ⟨z0, z1, hb⟩ := two_boxes w (.cells #[.pointer (some ⟨p, 0, none⟩)] 164) (.cells #[.int .i64 (y : Int)] 3)
  have hM1 : 1 ≤ L.length := by rw [hM]; exact Nat.pow_pos (by omega)
  have HC := Lib.hid (clone_any bc o L.length cc L ((w.alloc (.cells #[.pointer (some ⟨p, 0, none⟩)] 164)).alloc (.cells #[.int .i64 (y : Int)] 3)) rfl hM1 hM2 (fun i x hx => ((bcell hb).1 _ _ hbc).trans (hA i x hx)))
  have HP := Lib.hid h; have HK := Lib.hid K; have HB := Lib.hid hb; have Z0 := Lib.hid z0; have Z1 := Lib.hid z1
  have HM := Lib.hid hM; have HLO := Lib.hid hL
  have HLL : Hid ((chosenF X s y L) = (chN X y L (pilL s)).1) := Lib.hid rfl
  obtain ⟨M, hMM⟩ : ∃ z, L.length = z := ⟨_, rfl⟩
  have HMM := Lib.hid hMM
  rw [hMM] at HC HM hM2 hM1 ⊢
  clear z0 z1 hb h K hA hbc hM hL hMM
  refine callsIn_wide.1 (callsIn_of_wp_marks (n := 9) Tryz.func138 rfl trivial (wpIn_wide.2 ?_) rfl)
  simp only [Tryz.ntmps138, List.size_toArray, List.length_cons, List.length_nil, Nat.reduceAdd, Nat.reduceSub, Array.replicate_succ, Array.replicate_zero, List.push_toArray, List.append_toArray, List.nil_append, List.cons_append]
  go_wp2_with fail
  refine HC.out.mono ?_
  rintro e w1 ⟨g, c', rfl, hown, hb1⟩
  obtain ⟨e1, e2, cs, e3, e4⟩ := own_block hown
  obtain ⟨z0, z1, z2, hb3⟩ := three_new w1 (.cells #[.slice (some ⟨g, 0, none⟩) M c'] 34) (.cells #[.int .i64 (M : Int)] 3) (.cells #[.int .i64 s] 3)
  have hbW := (HB.out.trans (hb1.mono HB.out.size)).trans (hb3.mono (HB.out.trans (hb1.mono HB.out.size)).size)
  have HG : Hid (w.heap.size + 1 + 1 ≤ g ∧ g < w1.heap.size) := Lib.hid ⟨by simpa using e1, heapsz e3⟩
  have hch : ChI w.heap.size w (chFS w.heap.size w1.heap.size p y g M c' s) (w1.heap.size + 1) g (M : Int) L (((w1.alloc (.cells #[.slice (some ⟨g, 0, none⟩) M c'] 34)).alloc (.cells #[.int .i64 (M : Int)] 3)).alloc (.cells #[.int .i64 s] 3)) := by
    refine ⟨hbW, fun x hx => ?_, z1, cs, (hb3.block _ (heapsz e3)).trans e3, fun i x hx => e4 i _ (by rw [List.getElem?_map, hx]; rfl)⟩
    unfold chFS at hx
    simp only [List.mem_cons, List.not_mem_nil, or_false] at hx
    rcases hx with rfl | rfl | rfl | rfl
    · exact (hb3.block _ (heapsz ((hb1.block _ (heapsz Z0.out)).trans Z0.out))).trans ((hb1.block _ (heapsz Z0.out)).trans Z0.out)
    · exact (hb3.block _ (heapsz ((hb1.block _ (heapsz Z1.out)).trans Z1.out))).trans ((hb1.block _ (heapsz Z1.out)).trans Z1.out)
    · exact z0
    · exact z2
  have HCH := Lib.hid hch
  have HSZ : Hid (w1.heap.size + 1 + 1 < (((w1.alloc (.cells #[.slice (some ⟨g, 0, none⟩) M c'] 34)).alloc (.cells #[.int .i64 (M : Int)] 3)).alloc (.cells #[.int .i64 s] 3)).heap.size) := Lib.hid (heapsz z2)
  have HSC : Hid ((((w1.alloc (.cells #[.slice (some ⟨g, 0, none⟩) M c'] 34)).alloc (.cells #[.int .i64 (M : Int)] 3)).alloc (.cells #[.int .i64 s] 3)).cell? ⟨w1.heap.size + 1 + 1, 0, none⟩ = some (.int .i64 s)) := Lib.hid (by simpa using cell_of_row _ (w1.heap.size + 1 + 1) 0 _ 3 (0, 0) z2)
  have HH1 : Hid (w.heap.size ≤ w1.heap.size) := Lib.hid (HB.out.trans (hb1.mono HB.out.size)).size
  have HMC : Hid (M ≤ c') := Lib.hid e2
  clear z0 z1 z2 hb3 hbW hch e1 e2 e3 e4 hown hb1 HC HB Z0 Z1
  go_wp2_with (first
    | (go_at_call 114; refine (pilesOf_any _ _).mono ?_; rintro e w' ⟨rfl, rfl⟩)
    | fail)
  generalize ((w1.alloc (.cells #[.slice (some ⟨g, 0, none⟩) M c'] 34)).alloc (.cells #[.int .i64 (M : Int)] 3)).alloc (.cells #[.int .i64 s] 3) = w5 at *
  obtain ⟨h1, hh1⟩ : ∃ z, w1.heap.size = z := ⟨_, rfl⟩
  rw [hh1] at HG HCH HSZ HSC HH1
  rw [hh1]
  clear hh1
  refine (wpIn_wide (n := 9)).1 ?_
  refine wpIn_rangeFunc_ownH rfl (by decide) (gf := 129) (lb := #[.pointer (some ⟨h1 + 1 + 1, 0, none⟩)]) rfl trivial (enters_of Tryz.func129 (by kernel_rfl) rfl)
    (piles2_stops (9 - 1) (by decide) (h1 + 1 + 1) w.heap.size s w5 HSZ.out HSC.out)
    kpB_t (kpB_b (by have := HSZ.out; have := HH1.out; omega) HSZ.out) (Below.refl _ _) (fun _ => rfl)
    (fun pre W => chOuter X w w5 h1 p y g c' s L (pre.map Subtype.val) W)
    (fun _ _ _ => False)
    (fun pre A B row hs hg hr => ⟨Nat.le_trans hs.1 hg.size, hs.2.own (N := w5.heap.size) (by have := HSZ.out; have := HH1.out; omega) (by have := hs.1; have := HSZ.out; have := HH1.out; omega) hg hr⟩)
    (fun _ _ _ _ _ hs _ _ => hs)
    (show chOuter _ _ _ _ _ _ _ _ _ _ _ _ from ⟨Nat.le_refl _, by have hh := HCH.out; rw [← HMM.out] at hh; exact hh⟩)
    (fun x a' W => ∃ bp, a' = { tmps := List.toArray ((Value.pointer (some ⟨p, 0, none⟩)) :: (Value.int .i64 s) :: (Value.int .i64 (y : Int)) :: (Value.slice (some ⟨bc, o, none⟩) M cc) :: (Value.pointer (some ⟨w.heap.size, 0, none⟩)) :: undef :: (Value.pointer (some ⟨w.heap.size + 1, 0, none⟩)) :: undef :: (Value.slice none 0 0) :: (Value.pointer (some ⟨h1, 0, none⟩)) :: (Value.pointer (some ⟨h1 + 1, 0, none⟩)) :: (Value.pointer (some ⟨bp, 0, none⟩)) :: undef :: undef :: undef :: undef :: undef :: (Value.slice (some ⟨bc, o, none⟩) M cc) :: (Value.slice (some ⟨g, 0, none⟩) M c') :: (Value.slice (some ⟨g, 0, none⟩) M c') :: (Value.int .i64 (M : Int)) :: (Value.int .i64 s) :: (Value.func (.func 129) #[] #[.pointer (some ⟨h1 + 1 + 1, 0, none⟩)]) :: (Value.int .i64 (x.1 : Int)) :: undef :: undef :: undef :: undef :: undef :: undef :: undef :: undef :: undef :: undef :: undef :: undef :: undef :: undef :: undef :: undef :: undef :: undef :: undef :: undef :: undef :: undef :: undef :: undef :: undef :: undef :: undef :: undef :: undef :: undef :: undef :: undef :: undef :: undef :: undef :: undef :: undef :: undef :: undef :: undef :: undef :: undef :: undef :: undef :: undef :: undef :: undef :: []), defers := [] } ∧ w5.heap.size ≤ bp ∧ W.heap[bp]? = some (.cells #[.int .i64 (x.1 : Int)] 3 (0, 0)))
    (fun x a' _ A B row hs hg hr => by
      obtain ⟨bp, h2, h3, h4⟩ := hs
      refine ⟨bp, h2, h3, ?_⟩
      refine (hg.block bp (Array.getElem?_eq_some_iff.1 h4).1 (fun e => ?_)).trans h4
      obtain ⟨_, o, h5, h6⟩ := hr bp e.symm
      rw [h4] at h5
      injection h5 with h5
      rw [← h5] at h6
      cases h6)
    ?assign ?body ?done ?stop
  case assign =>
    intro l pre x W K hI hK
    gi_wp2
    exact hK _ _ (keepsFrom_alloc _ _ _) ⟨(Below.refl _ _).alloc (by have := hI.1; have := HSZ.out; have := HH1.out; omega) _, (bcell ((Below.refl W.heap.size W).alloc (Nat.le_refl _) _)).1 _ 0 (by have := hI.1; have := HSZ.out; omega)⟩
      ⟨Nat.le_trans hI.1 (by simp), hI.2.below (by have := hI.1; have := HSZ.out; have := HH1.out; omega) ((Below.refl W.heap.size W).alloc (Nat.le_refl _) _)⟩ ⟨W.heap.size, rfl, hI.1, heap_alloc_new W _⟩
  case body =>
    rintro l pre ⟨x, hx6, hxj⟩ a' W hl ⟨r, hr⟩ ⟨hsz, hI⟩ ⟨bp, rfl, hbp, hpz⟩ hlen
    have HI := Lib.hid hI; have HR := Lib.hid hr; have HL := Lib.hid hl; have HSW := Lib.hid hsz; have HBP := Lib.hid hbp; have HPZ : Hid (W.heap[bp]? = some (.cells #[.int .i64 (x : Int)] 3 (0, 0))) := Lib.hid hpz
    have hxn := jack_lt hs0 hs1 hxj
    have hpre : ∀ z ∈ pre.map Subtype.val, z < X.np := fun z hz => by
      obtain ⟨⟨k, hk, hkj⟩, _, rfl⟩ := List.mem_map.1 hz
      exact jack_lt hs0 hs1 hkj
    have HE : Hid (chN X y L ((pre ++ [(⟨x, hx6, hxj⟩ : PX s)]).map Subtype.val) = chW X y L.length (chN X y L (pre.map Subtype.val)) x) := Lib.hid (by unfold chN; rw [List.map_append]; exact chW_snoc X y L.length (pre.map Subtype.val) x _)
    have hmany : (chN X y L (pre.map Subtype.val)).2 = (y + 1) ^ ((pilL s).length - pre.length) := by
      unfold chN
      rw [HMM.out, HM.out]
      have := chW_many X y ((y + 1) ^ (pilL s).length) 0 (pre.map Subtype.val) L (pilL s).length (by rw [List.length_map]; omega)
      rw [this, List.length_map]
    have hinv := chW_inv HK.out y L.length (pre.map Subtype.val) (L, L.length) hpre HLO.out
    obtain ⟨L0, hL0⟩ : ∃ z, (chN X y L (pre.map Subtype.val)).1 = z := ⟨_, rfl⟩
    have hinv0 : costs_ok L0 ∧ L0.length = M := by rw [← hL0, ← HMM.out]; exact hinv
    obtain ⟨m, hm⟩ : ∃ z, (chN X y L (pre.map Subtype.val)).2 = z := ⟨_, rfl⟩
    rw [hm] at hmany
    obtain ⟨sm, hsm⟩ : ∃ z, (y + 1) ^ ((pilL s).length - pre.length - 1) = z := ⟨_, rfl⟩
    have hms : m = sm * (y + 1) := by
      rw [hmany, ← hsm, ← Nat.pow_succ]
      congr 1
      omega
    have hsm1 : 1 ≤ sm := by rw [← hsm]; exact Nat.pow_pos (by omega)
    obtain ⟨Kc, hKc⟩ : ∃ z, (y + 1) ^ pre.length = z := ⟨_, rfl⟩
    have hKM : Kc * m = M := by
      rw [← hKc, hmany, HM.out, ← Nat.pow_add]
      congr 1
      omega
    have hm1 : 1 ≤ m := by rw [hmany]; exact Nat.pow_pos (by omega)
    have hmM : m ≤ M := by rw [← hKM]; exact Nat.le_mul_of_pos_left m (by rw [← hKc]; exact Nat.pow_pos (by omega))
    have hsmm : sm ≤ m := by rw [hms]; exact Nat.le_mul_of_pos_right sm (by omega)
    have HWX : Hid (chW X y L.length (chN X y L (pre.map Subtype.val)) x = (chK (X.pile x).c sm y m (List.range Kc) L0, sm)) := Lib.hid (by
      unfold chW
      rw [hm, hL0, HMM.out]
      have e1 : m / (y + 1) = sm := by rw [hms, Nat.mul_div_cancel _ (by omega)]
      have e2 : M / m = Kc := by rw [← hKM, Nat.mul_div_cancel _ (by omega)]
      rw [e1, e2])
    rw [hm, hL0] at hI HI
    rw [HMM.out] at hI
    have a6 := cell_of_row W (w.heap.size + 1) 0 _ 3 (0, 0) (hI.fix (w.heap.size + 1, #[.int .i64 (y : Int)], 3) (by simp [chFS]))
    have a9 := cell_of_row W h1 0 _ 34 (0, 0) (hI.fix (h1, #[.slice (some ⟨g, 0, none⟩) M c'], 34) (by simp [chFS]))
    have a10 := cell_of_row W (h1 + 1) 0 _ 3 (0, 0) hI.mb
    simp only [List.getElem?_toArray, List.getElem?_cons_zero] at a6 a9 a10
    have y1 : Value.int .i64 (wrap64 ((y : Int) + 1)) = Value.int .i64 ((y : Int) + 1) := by congr 1; exact w64 (by omega)
    have yw : IntKind.i64.wrap ((y : Int) + 1) = (y : Int) + 1 := by rw [IntKind.wrap_i64]; omega
    have hq : (m : Int) / ((y : Int) + 1) = (sm : Int) := by
      rw [hms]
      have : ((sm * (y + 1) : Nat) : Int) = (sm : Int) * ((y : Int) + 1) := by rw [Int.natCast_mul]; rfl
      rw [this, Int.mul_ediv_cancel _ (by omega)]
    have lt6 := heapsz (hI.fix (w.heap.size + 1, #[.int .i64 (y : Int)], 3) (by simp [chFS]))
    have lt9 := heapsz (hI.fix (h1, #[.slice (some ⟨g, 0, none⟩) M c'], 34) (by simp [chFS]))
    have lt10 := heapsz hI.mb
    simp only at lt6 lt9 lt10
    have HQ : Hid (wrap64 ((m : Int) / ((y : Int) + 1)) = (sm : Int)) := Lib.hid (by rw [hq]; exact w64 (by omega))
    have HMS := Lib.hid hms
    have HKMM := Lib.hid hKM
    have HKC : Hid (Kc * m ≤ c' ∧ Kc * m ≤ 100000) := Lib.hid ⟨by rw [hKM]; exact HMC.out, by omega⟩
    have HIN0 := Lib.hid hinv0
    have HCX : Hid (0 ≤ (X.pile x).c ∧ (X.pile x).c ≤ 1000000) := Lib.hid (pilB_iff.1 (HK.out.at_pile hxn).2).2.2.2.2.2
    clear hms hKM hinv0 hI hr hl hpz hinv hL0 hm hmany hsm hpre hKc hq
    dsimp only
    gi_wp2
    rw [HQ.out]
    refine ⟨trivial, CallsIn.inRound l (callsIn_wide.2 ((chunk_any _ m hm1 _ _ _ _ rfl).mono ?_))⟩
    rintro e w' ⟨rfl, rfl⟩
    gi_wp2
    obtain ⟨z0, z1, z2, hb3⟩ := three_new W (.cells #[.int .i64 (sm : Int)] 3) (.cells #[.slice (some ⟨g, 0, none⟩) M c'] 34) (.cells #[.int .i64 (m : Int)] 3)
    have hI2 : ChI w.heap.size w ((bp, #[.int .i64 (x : Int)], 3) :: (W.heap.size, #[.int .i64 (sm : Int)], 3) :: chFS w.heap.size h1 p y g M c' s) (h1 + 1) g (m : Nat) L0 (((W.alloc (.cells #[.int .i64 (sm : Int)] 3)).alloc (.cells #[.slice (some ⟨g, 0, none⟩) M c'] 34)).alloc (.cells #[.int .i64 (m : Int)] 3)) := by
      have h2 := HI.out
      rw [HMM.out] at h2
      exact (((h2.below (by have := HSW.out; have := HSZ.out; have := HH1.out; omega) hb3).more (W.heap.size, _, 3) z0).more (bp, _, 3) ((hb3.block _ (heapsz HPZ.out)).trans HPZ.out))
    have HI2 := Lib.hid hI2
    have HKF : Hid (KeepsFrom w5.heap.size W (((W.alloc (.cells #[.int .i64 (sm : Int)] 3)).alloc (.cells #[.slice (some ⟨g, 0, none⟩) M c'] 34)).alloc (.cells #[.int .i64 (m : Int)] 3))) := Lib.hid (keepsFrom_below _ hb3)
    have HR2 := Lib.hid ((hb3.block _ (Array.getElem?_eq_some_iff.1 HR.out).1).trans HR.out)
    have HB1 := Lib.hid (cell_of_row _ (W.heap.size + 1) 0 _ 34 (0, 0) z1)
    have HB2 := Lib.hid (cell_of_row _ (W.heap.size + 1 + 1) 0 _ 3 (0, 0) z2)
    have HS2 : Hid (W.heap.size + 1 + 1 < (((W.alloc (.cells #[.int .i64 (sm : Int)] 3)).alloc (.cells #[.slice (some ⟨g, 0, none⟩) M c'] 34)).alloc (.cells #[.int .i64 (m : Int)] 3)).heap.size) := Lib.hid (heapsz z2)
    have HBW : Hid (Below W.heap.size W (((W.alloc (.cells #[.int .i64 (sm : Int)] 3)).alloc (.cells #[.slice (some ⟨g, 0, none⟩) M c'] 34)).alloc (.cells #[.int .i64 (m : Int)] 3))) := Lib.hid hb3
    simp only [List.getElem?_toArray, List.getElem?_cons_zero] at HB1 HB2
    have HBEL := Lib.hid HI.out.bel
    have HBS1 := Lib.hid (cell_of_row W (h1 + 1 + 1) 0 _ 3 (0, 0) (HI.out.fix (h1 + 1 + 1, #[.int .i64 s], 3) (by simp [chFS])))
    have HGW : Hid (h1 + 1 + 1 < W.heap.size ∧ h1 < bp) := Lib.hid (by have := HSZ.out; have := HSW.out; have := HBP.out; omega)
    clear z0 z1 z2 hb3 hI2 HI a6 a9 a10
    have HBPW : Hid (bp < W.heap.size) := Lib.hid (heapsz HPZ.out)
    generalize ((W.alloc (.cells #[.int .i64 (sm : Int)] 3)).alloc (.cells #[.slice (some ⟨g, 0, none⟩) M c'] 34)).alloc (.cells #[.int .i64 (m : Int)] 3) = W7 at *
    refine wpIn_rangeFunc_ownN (l₀ := l) rfl HR2.out (by decide) (gf := 180) (lb := #[.pointer (some ⟨W.heap.size + 1, 0, none⟩), .pointer (some ⟨W.heap.size + 1 + 1, 0, none⟩)]) rfl trivial (enters_of Tryz.func180 (by kernel_rfl) rfl)
      (SeqStopsK.inRound l (chunk_stops (9 - 1 - 1 - 1) (by decide) (W.heap.size + 1) (W.heap.size + 1 + 1) w.heap.size g c' Kc m hm1 HKC.out.1 HKC.out.2 (by omega) W7 (by have := HS2.out; omega) HS2.out (by rw [HKMM.out]; exact HB1.out) HB2.out))
      kpT_t (kpT_b (by have := HS2.out; have := HSW.out; have := HSZ.out; have := HH1.out; omega) (by have := HS2.out; omega) HS2.out) (Below.refl _ _) (fun _ => rfl)
      (fun pre2 V => (W7.heap.size ≤ V.heap.size ∧ KeepsFrom w5.heap.size W V) ∧ ChI w.heap.size w ((bp, #[.int .i64 (x : Int)], 3) :: (W.heap.size, #[.int .i64 (sm : Int)], 3) :: chFS w.heap.size h1 p y g M c' s) (h1 + 1) g (m : Nat) (chK (X.pile x).c sm y m (pre2.map Subtype.val) L0) V)
      (fun _ _ _ => False)
      (fun pre2 A B row hs hg hr => ⟨⟨Nat.le_trans hs.1.1 hg.size, ownFrom_keepsFrom (β := Unit) (B := w5.heap.size) (B' := W7.heap.size) (w₀ := W) (by have := HS2.out; omega) () A B row hs.1.2 hg hr⟩, hs.2.own (N := W7.heap.size) (by have := HS2.out; have := HSW.out; have := HSZ.out; have := HH1.out; omega) (by have := hs.1.1; have := HS2.out; have := HSW.out; have := HSZ.out; have := HH1.out; omega) hg hr⟩)
      (fun _ _ _ _ _ hs _ _ => hs)
      ⟨⟨Nat.le_refl _, HKF.out⟩, HI2.out⟩
      (fun (z : CX Kc) a' V => a' = { tmps := List.toArray ((Value.pointer (some ⟨p, 0, none⟩)) :: (Value.int .i64 s) :: (Value.int .i64 (y : Int)) :: (Value.slice (some ⟨bc, o, none⟩) M cc) :: (Value.pointer (some ⟨w.heap.size, 0, none⟩)) :: undef :: (Value.pointer (some ⟨w.heap.size + 1, 0, none⟩)) :: undef :: (Value.slice none 0 0) :: (Value.pointer (some ⟨h1, 0, none⟩)) :: (Value.pointer (some ⟨h1 + 1, 0, none⟩)) :: (Value.pointer (some ⟨bp, 0, none⟩)) :: (Value.pointer (some ⟨W.heap.size, 0, none⟩)) :: (Value.slice (some ⟨g, z.1 * m, none⟩) m m) :: undef :: undef :: undef :: (Value.slice (some ⟨bc, o, none⟩) M cc) :: (Value.slice (some ⟨g, 0, none⟩) M c') :: (Value.slice (some ⟨g, 0, none⟩) M c') :: (Value.int .i64 (M : Int)) :: (Value.int .i64 s) :: (Value.func (.func 129) #[] #[.pointer (some ⟨h1 + 1 + 1, 0, none⟩)]) :: (Value.int .i64 (x : Int)) :: (Value.int .i64 (m : Int)) :: (Value.int .i64 (y : Int)) :: (Value.int .i64 ((y : Int) + 1)) :: (Value.int .i64 (sm : Int)) :: (Value.slice (some ⟨g, 0, none⟩) M c') :: (Value.int .i64 (m : Int)) :: (Value.func (.func 180) #[] #[.pointer (some ⟨W.heap.size + 1, 0, none⟩), .pointer (some ⟨W.heap.size + 1 + 1, 0, none⟩)]) :: (Value.slice (some ⟨g, z.1 * m, none⟩) m m) :: undef :: undef :: undef :: undef :: undef :: undef :: undef :: undef :: undef :: undef :: undef :: undef :: undef :: undef :: undef :: undef :: undef :: undef :: undef :: undef :: undef :: undef :: undef :: undef :: undef :: undef :: undef :: undef :: undef :: undef :: undef :: undef :: undef :: undef :: undef :: undef :: undef :: undef :: undef :: []), defers := [] })
      (fun _ _ _ _ _ _ hs _ _ => hs)
      ?assign2 ?body2 ?done2 ?stop2
    case assign2 =>
      intro l2 pre2 z V K hI hK
      gi_wp2
      exact hK _ _ (KeepsFrom.refl _ _) ⟨Below.refl _ _, rfl, rfl⟩ hI rfl
    case body2 =>
      rintro l2 pre2 ⟨q, hqk⟩ a' V hl2 ⟨r2, hr2⟩ ⟨⟨hsz2, hkf⟩, hI⟩ rfl hlen2
      have HIV := Lib.hid hI; have HSV := Lib.hid hsz2; have HKV := Lib.hid hkf
      have hokv := chK_inv (C := (X.pile x).c) HCX.out.1 sm y m (pre2.map Subtype.val) L0 HIN0.out.1
      have HEQ : Hid (chK (X.pile x).c sm y m ((pre2 ++ [(⟨q, hqk⟩ : CX Kc)]).map Subtype.val) L0 = chP (X.pile x).c sm y (q * m) m (chK (X.pile x).c sm y m (pre2.map Subtype.val) L0)) := Lib.hid (by rw [List.map_append]; exact chK_snoc _ _ _ _ _ _ _)
      obtain ⟨Lq, hLq⟩ : ∃ z, chK (X.pile x).c sm y m (pre2.map Subtype.val) L0 = z := ⟨_, rfl⟩
      rw [hLq] at HEQ hokv hI HIV
      obtain ⟨T, hT⟩ : ∃ z, q * m = z := ⟨_, rfl⟩
      rw [hT] at HEQ
      have hTM : T + m ≤ M := by
        rw [← hT, ← HKMM.out]
        have := Nat.mul_le_mul_right m (show q + 1 ≤ Kc from hqk)
        rwa [Nat.succ_mul] at this
      have HLQ : Hid (costs_ok Lq ∧ Lq.length = M) := Lib.hid ⟨hokv.1, hokv.2.trans HIN0.out.2⟩
      obtain ⟨D, hD⟩ : ∃ z, sm * y = z := ⟨_, rfl⟩
      have hDm : D + sm = m := by rw [HMS.out, ← hD, Nat.mul_succ]
      have d1 : Value.int .i64 (wrap64 ((sm : Int) * (y : Int))) = Value.int .i64 (D : Int) := by
        congr 1
        rw [← hD, Int.natCast_mul]
        exact w64 (by rw [← Int.natCast_mul, hD]; omega)
      have a6 := cell_of_row V (w.heap.size + 1) 0 _ 3 (0, 0) (hI.fix (w.heap.size + 1, #[.int .i64 (y : Int)], 3) (by simp [chFS]))
      have a12 := cell_of_row V W.heap.size 0 _ 3 (0, 0) (hI.fix (W.heap.size, #[.int .i64 (sm : Int)], 3) (by simp [chFS]))
      simp only [List.getElem?_toArray, List.getElem?_cons_zero] at a6 a12
      have D0 : (0 : Int) ≤ (D : Int) := by omega
      have D1 : (D : Int) ≤ (m : Int) := by omega
      have D2 : ¬ m = D := by omega
      have HDM := Lib.hid hDm
      have HD := Lib.hid hD
      have HTM := Lib.hid hTM
      clear hI hLq hokv hr2 hD hDm
      dsimp only
      rw [hT]
      clear hT hTM
      show Code.wpIn (Fence.wide.inRound l2) (9 - 1 - 1 - 1 - 1) Tryz.prog _ _ _ _
      gi_wp2
      clear a6 a12 d1 D0 D1
      gi_loopw [39] (fun i V2 => ∃ k : Nat, k ≤ m ∧ i = .int .i64 k ∧ KeepsOthers V V2 ∧ KpT w.heap.size (W.heap.size + 1) (W.heap.size + 1 + 1) V V2 ∧ ChI w.heap.size w ((bp, #[.int .i64 (x : Int)], 3) :: (W.heap.size, #[.int .i64 (sm : Int)], 3) :: chFS w.heap.size h1 p y g M c' s) (h1 + 1) g (m : Nat) (chP (X.pile x).c sm y T k Lq) V2) (fun i _ => m - (intOf i).toNat)
      case atStart => exact ⟨0, Nat.zero_le _, rfl, KeepsOthers.refl _, ⟨Below.refl _ _, rfl, rfl⟩, HIV.out⟩
      case round =>
        obtain ⟨k, hk, rfl, hko, hkp, hI⟩ := hrel
        have HKO := Lib.hid hko; have HKP := Lib.hid hkp; have HI2 := Lib.hid hI
        by_cases hlt : k < m
        · obtain ⟨hok, hlen⟩ := chP_inv (C := (X.pile x).c) HCX.out.1 sm y T k Lq HLQ.out.1
          rw [HLQ.out.2] at hlen
          have HSU : Hid (chP (X.pile x).c sm y T (k + 1) Lq = (chP (X.pile x).c sm y T k Lq).set (T + k) (min ((chP (X.pile x).c sm y T k Lq).getD (T + k) 0) ((X.pile x).c + (chP (X.pile x).c sm y T k Lq).getD (T + D + k % sm) 0))) := Lib.hid (by rw [chP_succ, ← HD.out]; rfl)
          obtain ⟨L1, hL1⟩ : ∃ z, chP (X.pile x).c sm y T k Lq = z := ⟨_, rfl⟩
          rw [hL1] at hok hlen hI HI2 HSU
          obtain ⟨rm, hrm⟩ : ∃ z, k % sm = z := ⟨_, rfl⟩
          have hrs : rm < sm := by rw [← hrm]; exact Nat.mod_lt _ (by omega)
          have hTM := HTM.out
          have hDM := HDM.out
          obtain ⟨e1, f1⟩ := hI.at_ (i := T + k) (by omega)
          obtain ⟨e2, _⟩ := hI.at_ (i := T + D + rm) (by omega)
          have hA := ok_getD hok (T + k)
          have hB := ok_getD hok (T + D + rm)
          have HLN : Hid (T + k < L1.length) := Lib.hid (by omega)
          rw [hrm] at HSU
          obtain ⟨A, hAe⟩ : ∃ z, L1.getD (T + k) 0 = z := ⟨_, rfl⟩
          obtain ⟨B, hBe⟩ : ∃ z, L1.getD (T + D + rm) 0 = z := ⟨_, rfl⟩
          rw [hAe] at e1 hA HSU
          rw [hBe] at e2 hB HSU
          have hPW := HP.out.up hI.bel
          obtain ⟨p0, _, _⟩ := hPW.cells
          obtain ⟨g0, _⟩ := look_cells hPW.x.g
          obtain ⟨h4, h5⟩ := HK.out.at_pile hxn
          obtain ⟨b3, o3, hAP, hb3, hcs⟩ := pil_cells hPW.x.P (by intro e; rw [e] at h4; simp at h4)
          have c6 := (hcs x _ h4).2.2.2.2.2.2
          rw [hAP] at g0
          have hC := HCX.out
          obtain ⟨S, hS⟩ : ∃ z, (X.pile x).c = z := ⟨_, rfl⟩
          have HSC := Lib.hid hS
          rw [hS] at c6 hC HSU
          have s1 : Value.int .i64 (wrap64 (S + B)) = Value.int .i64 (S + B) := by congr 1; exact w64 (by omega)
          have HW1 : Hid (wrap64 (S + B) = S + B) := Lib.hid (w64 (by omega))
          have a4 := cell_of_row wr w.heap.size 0 _ 164 (0, 0) (hI.fix (w.heap.size, #[.pointer (some ⟨p, 0, none⟩)], 164) (by simp [chFS]))
          have a11 := cell_of_row wr bp 0 _ 3 (0, 0) (hI.fix (bp, #[.int .i64 (x : Int)], 3) (by simp))
          have a12 := cell_of_row wr W.heap.size 0 _ 3 (0, 0) (hI.fix (W.heap.size, #[.int .i64 (sm : Int)], 3) (by simp [chFS]))
          simp only [List.getElem?_toArray, List.getElem?_cons_zero] at a4 a11 a12
          have k0 : (0 : Int) ≤ (k : Int) := by omega
          have k1 : (k : Int) < (m : Int) := by omega
          have r0 : (0 : Int) ≤ (rm : Int) := by omega
          have r1 : (rm : Int) < ((m - D : Nat) : Int) := by omega
          have hmod : (k : Int) % (sm : Int) = (rm : Int) := by rw [← hrm]; rfl
          have htmod : (k : Int).tmod (sm : Int) = (rm : Int) := by rw [Int.tmod_eq_emod_of_nonneg k0, hmod]
          have sm0 : ¬ sm = 0 := by omega
          have x1 : (x : Int) < (X.np : Int) := by omega
          have x0 : (0 : Int) ≤ (x : Int) := by omega
          have HMD := Lib.hid hmod; have HTD := Lib.hid htmod
          clear hI hko hkp hok hlen hL1 hrm hrs hTM hDM hA hB hAe hBe hPW h4 h5 hcs hAP hC hS
          gi_wp2
          have fol : Tryz.prog.follows Departure.mixedOrders = true := by kernel_rfl
          refine wpIn_round_still_tail 24 fol (by kernel_rfl) (by kernel_rfl) (by rintro ⟨_, _, hq⟩; exact hq) ?_
          simp only [List.take_succ_cons, List.take_zero, List.drop_succ_cons, List.drop_zero]
          repeat still_step
          refine wpStill_nil ?_
          go_wp2
          gi_wp2
          rw [HW1.out]
          refine ⟨⟨k + 1, by omega, by go_num, (HKO.out.trans (KeepsOthers.setCell _ _ _)).trans (KeepsOthers.drew _), kpT_t HKP.out ⟨((Below.refl _ _).setCell (p := ⟨g, T + k, none⟩) (by have := HG.out; show _ ≤ g; omega) _).drew, World.cell?_setCell_other wr _ _ _ (fun e => by injection e with e; have := HG.out; have := HGW.out; omega), World.cell?_setCell_other wr _ _ _ (fun e => by injection e with e; have := HG.out; have := HGW.out; omega)⟩, ?_⟩, by simp [intOf]; omega⟩
          rw [HSC.out, HSU.out]
          refine (HI2.out.set (by have := HG.out; omega) (by have := HG.out; have := HGW.out; omega) (fun z hz => ?_) (T + k) HLN.out _).drew
          have hG := HG.out; have hGW := HGW.out; have hBPg := HBP.out
          unfold chFS at hz
          simp only [List.mem_cons, List.not_mem_nil, or_false] at hz
          rcases hz with rfl | rfl | rfl | rfl | rfl | rfl <;> simp only <;> omega
        · have hke : k = m := by omega
          subst hke
          have k1 : ¬ (k : Int) < (k : Int) := by omega
          clear hI hko hkp
          gi_wp2
          refine ⟨HKO.out.from _, HKP.out, ⟨Nat.le_trans HSV.out HKO.out.size, HKV.out.trans (HKO.out.from _)⟩, ?_⟩
          refine (show ChI _ _ _ _ _ _ (chK (X.pile x).c sm y k ((pre2 ++ [(⟨q, hqk⟩ : CX Kc)]).map Subtype.val) L0) wr from ?_)
          rw [HEQ.out]
          exact HI2.out
    case done2 =>
      rintro ys V hys ⟨⟨hsz2, hkf⟩, hI⟩
      rw [show ys.map Subtype.val = List.range Kc from hys] at hI
      have HKV := Lib.hid hkf
      have a12 := cell_of_row V W.heap.size 0 _ 3 (0, 0) (hI.fix (W.heap.size, #[.int .i64 (sm : Int)], 3) (by simp [chFS]))
      simp only [List.getElem?_toArray, List.getElem?_cons_zero] at a12
      have f10 : V.frozen? ⟨h1 + 1, 0, none⟩ = false := by simp [World.frozen?, hI.mb]
      have a10 := cell_of_row V (h1 + 1) 0 _ 3 (0, 0) hI.mb
      simp only [List.getElem?_toArray, List.getElem?_cons_zero] at a10
      have hbs : V.heap[h1 + 1 + 1]? = some (.cells #[.int .i64 s] 3 (0, 0)) := hI.fix (h1 + 1 + 1, #[.int .i64 s], 3) (by simp [chFS])
      have HBS2 := Lib.hid (cell_of_row V (h1 + 1 + 1) 0 _ 3 (0, 0) hbs)
      have HN := Lib.hid (hI.less.less.many (by have := HH1.out; omega) (by have := HG.out; omega) (fun z hz => by
        have hG := HG.out
        unfold chFS at hz
        simp only [List.mem_cons, List.not_mem_nil, or_false] at hz
        rcases hz with rfl | rfl | rfl | rfl <;> simp only <;> omega) (sm : Int))
      have HSV : Hid (w5.heap.size ≤ V.heap.size) := Lib.hid (Nat.le_trans HSW.out hkf.size)
      clear hI hkf hsz2 hbs hys
      simp only [Exit.inBlock, Exit.then]
      gi_wp2
      refine ⟨HKV.out.trans ((KeepsOthers.setCell _ _ _).from _), ⟨below_mid HBEL.out HN.out.bel (by have := HKV.out.size; simpa using this), ?_⟩, by simpa using HSV.out, ?_⟩
      · rw [World.cell?_setCell_other V _ _ _ (fun e => by injection e with e; omega), HBS2.out, HBS1.out]
      · refine (show ChI _ _ _ _ _ ((chN X y L ((pre ++ [(⟨x, hx6, hxj⟩ : PX s)]).map Subtype.val)).2 : Nat) (chN X y L ((pre ++ [(⟨x, hx6, hxj⟩ : PX s)]).map Subtype.val)).1 _ from ?_)
        rw [HE.out, HWX.out, HMM.out]
        exact HN.out
    case stop2 =>
      rintro c pre V _ h
      exact h.elim
  case done =>
    rintro D ys W hD hys ⟨hsz, hI⟩ hK
    rw [hys, HMM.out] at hI
    have a9 := cell_of_row W h1 0 _ 34 (0, 0) (hI.fix (h1, #[.slice (some ⟨g, 0, none⟩) M c'], 34) (by simp [chFS]))
    simp only [List.getElem?_toArray, List.getElem?_cons_zero] at a9
    have HW := Lib.hid hI.bel
    have HRW := Lib.hid hI.row
    have HM2 : Hid (Marks W w.heap.size [D]) := Lib.hid ⟨by simp, fun E hE => by rw [List.mem_singleton.1 hE]; exact ⟨by have := HSZ.out; have := HH1.out; omega, hK⟩⟩
    clear hI hK hys hsz
    simp only [Exit.inBlock, Exit.then]
    go_wp2_with fail
    refine leaves_marks [D] W HM2.out (fun w' hk => ⟨_, results_tmp rfl _ _ _, ?_⟩)
    obtain ⟨cs2, h2, h3⟩ := HRW.out
    exact ⟨g, c', rfl, ⟨cs2, hk.2 _ _ _ _ h2, fun i z hz => h3 i z (by rw [← HLL.out]; exact hz)⟩, by have := HG.out; omega, HW.out.trans hk.1⟩
  case stop =>
    rintro D c pre W _ _ h _
    exact h.elim
end Go.Proofs.YtdlaphlpimlgdaaGreatDoor
