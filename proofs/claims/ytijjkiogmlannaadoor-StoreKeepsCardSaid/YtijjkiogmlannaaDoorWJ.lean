/- Stores: the fault of a plan, by the code. Stores: the plans that suffice, one after the other: the iterator. Stores: what a plan costs, by the code. -/
import Derived.Test.YtijjkiogmlannaaDoorWG
namespace Go
theorem wpListIn_store_mid {F : Fence} {n : Nat} {P : Program} {ops : Array Oper} {rest : List Oper} {o : Oper} {a : Act} {w : World} {Q : Exit → Act → World → Prop} (hgd : o.guard = none) (ty : TypeId) (x y : Operand) (ho : o.op = .store ty x y)
    (b : Nat) (cells : Array Value) (hx : a.eval x = .pointer (some ⟨b, 0, none⟩)) (hy : a.eval y = .agg cells)
    (ht : w.there b 0 cells.size) (hi : (P.info? ty).map (·.size) = some cells.size) (h1 : cells.all (·.oneCell') = true)
    (h : wpListIn F n P ops Q rest (a.put o.dst undef) (w.setCells b 0 cells.toList)) : wpListIn F n P ops Q (o :: rest) a w := by
  refine wpListIn_plain hgd fun K hK => ?_
  unfold Oper.wpIn
  refine ⟨?_, ?_⟩
  · simp [Oper.about, ho]
  · rw [Oper.semAt_plain F _ _ (by rw [ho]; intro c hc'; cases hc'), exec_store_mid ty x y ho b cells hx hy ht hi h1]
    exact hK _ _ h
end Go
namespace Go.Proofs.YtijjkiogmlannaaDoor
open Go.RowKit Go.Shelf
attribute [local go_sem] Oper.semAt_some

theorem faults_seq {X : SX} {w0 : World} (hX : X.In w0) (K : X.S.Ok) (n : Nat) (hn : 1 ≤ n) {B M b1 b2 p : Nat} (hp : p < 2 ^ X.ns) {w : World} (h : ItA X w0 B M b1 b2 p w) :
    SeqW Fence.wide n Tryd.prog 87 #[.pointer (some ⟨b1, 0, none⟩), .pointer (some ⟨b2, 0, none⟩)] (fun x : Flt => #[.agg #[.bool true, .int .i64 (x.i : Int), .int .i64 (x.n : Int), .int .i64 (x.w : Int), .int .i64 (x.k : Int)]]) (KpW w0 [B, M, b1, b2]) (StW X w0 B M) (fun ys => ys = X.S.flts p) (fun pre => ∃ l, X.S.flts p = pre ++ l) w :=
  fun l J Jx W hW hJ hY h0 => faults1_in hX K n hn l B M b1 b2 p hp J Jx hJ hY W ⟨h.lk.up hW, (hW.block _ (heapsz h.c1)).trans h.c1, (hW.block _ (heapsz h.c2)).trans h.c2⟩ h0
theorem faults_any (a p : Value) (ha : a.oneCell' = true) (w : World) (B P : Nat) (he : a = .pointer (some ⟨B, 0, none⟩)) (hp : p = .int .i64 (P : Int)) :
    Calls Tryd.prog 70 #[a, p] w fun e w' => e = .returned (.func (.func 87) #[] #[.pointer (some ⟨w.heap.size, 0, none⟩), .pointer (some ⟨w.heap.size + 1, 0, none⟩)]) ∧ (w.alloc (.cells #[.pointer (some ⟨B, 0, none⟩)] 79)).alloc (.cells #[.int .i64 (P : Int)] 3) = w' := by
  subst he hp
  clear ha
  go_enter Tryd.func70, Tryd.ntmps70
  go_wp2
  go_ret
  exact ⟨rfl, rfl⟩
def fltO : Option Flt → Value
  | none => .agg #[.bool false, .int .i64 0, .int .i64 0, .int .i64 0, .int .i64 0]
  | some f => .agg #[.bool true, .int .i64 (f.i : Int), .int .i64 (f.n : Int), .int .i64 (f.w : Int), .int .i64 (f.k : Int)]
def fltC (f : Flt) : Array Value := #[.bool true, .int .i64 (f.i : Int), .int .i64 (f.n : Int), .int .i64 (f.w : Int), .int .i64 (f.k : Int)]
theorem LkAt.own {X : SX} {w0 A A' : World} {B M N : Nat} {row : Option Nat} (h : LkAt X w0 B M A) (hN : w0.heap.size ≤ N) (hM : M < N) (hg : A.grownBy A' row) (hr : ∀ r, row = some r → N ≤ r ∧ ∃ o : Obj, A.heap[r]? = some o ∧ o.isCells = false) : LkAt X w0 B M A' := by
  obtain ⟨es, c, hm, ho⟩ := h.map
  refine ⟨h.bel.grown hg h.bel.size (fun k e => by have := (hr k e).1; omega), (hg.block B (heapsz h.box) (fun e => ?_)).trans h.box, h.b0, h.m0, es, c, (hg.block M (Array.getElem?_eq_some_iff.1 hm).1 (fun e => by have := (hr M e.symm).1; omega)).trans hm, ho⟩
  obtain ⟨_, o, h2, h3⟩ := hr B e.symm
  rw [h.box] at h2
  injection h2 with h2
  rw [← h2] at h3
  cases h3
theorem cells_own {A A' : World} {N b : Nat} {row : Option Nat} {cs : Array Value} {t : TypeId} (h : A.heap[b]? = some (.cells cs t (0, 0))) (hg : A.grownBy A' row) (hr : ∀ r, row = some r → N ≤ r ∧ ∃ o : Obj, A.heap[r]? = some o ∧ o.isCells = false) : A'.heap[b]? = some (.cells cs t (0, 0)) := by
  refine (hg.block b (heapsz h) (fun e => ?_)).trans h
  obtain ⟨_, o, h2, h3⟩ := hr b e.symm
  rw [h] at h2
  injection h2 with h2
  rw [← h2] at h3
  cases h3
/-- While the first fault is looked for: what is kept, and the box of the result. -/
structure FaI (X : SX) (w0 w : World) (B M : Nat) (cs : Array Value) (W : World) : Prop where
  lk : LkAt X w0 B M W
  gr : w.grownBy W (some M)
  box : W.heap[w.heap.size]? = some (.cells cs 48 (0, 0))
theorem grown_own {w A A' : World} {N M : Nat} {row : Option Nat} (h : w.grownBy A (some M)) (hN : w.heap.size ≤ N) (hg : A.grownBy A' row) (hr : ∀ r, row = some r → N ≤ r ∧ ∃ o : Obj, A.heap[r]? = some o ∧ o.isCells = false) : w.grownBy A' (some M) :=
  ⟨hg.os.trans h.os, hg.tape.trans h.tape, hg.output.trans h.output, Nat.le_trans h.size hg.size, fun k hk hne => (hg.block k (Nat.lt_of_lt_of_le hk h.size) (fun e => by have := (hr k e.symm).1; omega)).trans (h.block k hk hne)⟩
theorem FaI.own {X : SX} {w0 w A A' : World} {B M N : Nat} {cs : Array Value} {row : Option Nat} (h : FaI X w0 w B M cs A) (h0 : w0.heap.size ≤ N) (hN : w.heap.size ≤ N) (hM : M < N) (hg : A.grownBy A' row) (hr : ∀ r, row = some r → N ≤ r ∧ ∃ o : Obj, A.heap[r]? = some o ∧ o.isCells = false) : FaI X w0 w B M cs A' :=
  ⟨h.lk.own h0 hM hg hr, grown_own h.gr hN hg hr, cells_own h.box hg hr⟩
theorem FaI.st {X : SX} {w0 w A A' : World} {B M : Nat} {cs : Array Value} (h : FaI X w0 w B M cs A) (hs : StW X w0 B M A A') : FaI X w0 w B M cs A' := by
  obtain ⟨es, c, hm, _⟩ := h.lk.map
  exact ⟨hs.2, grown_trans h.gr hs.1, (hs.1.block _ (heapsz h.box) (fun e => by injection e with e; have := h.box; rw [e, hm] at this; cases this)).trans h.box⟩
theorem FaI.up {X : SX} {w0 w A A' : World} {B M : Nat} {cs : Array Value} (h : FaI X w0 w B M cs A) (hb : Below A.heap.size A A') : FaI X w0 w B M cs A' :=
  ⟨h.lk.up hb, grown_trans h.gr (below_grown hb _), (hb.block _ (heapsz h.box)).trans h.box⟩
theorem FaI.cellsK {X : SX} {w0 w A A' : World} {B M N : Nat} {cs : Array Value} (h : FaI X w0 w B M cs A) (h0 : w0.heap.size ≤ N) (hN : w.heap.size ≤ N) (hM : M < N) (hk : CellsK N A A') : FaI X w0 w B M cs A' := by
  obtain ⟨es, c, hm, ho⟩ := h.lk.map
  exact ⟨⟨h.lk.bel.trans (hk.1.mono h0), hk.2 _ _ _ _ h.lk.box, h.lk.b0, h.lk.m0, es, c, (hk.1.block M hM).trans hm, ho⟩, ⟨hk.1.os.trans h.gr.os, hk.1.tape.trans h.gr.tape, hk.1.output.trans h.gr.output, Nat.le_trans h.gr.size hk.1.size, fun j hj hne => (hk.1.block j (by omega)).trans (h.gr.block j hj hne)⟩, hk.2 _ _ _ _ h.box⟩
/-- A store of a fault into the box of the result. -/
theorem FaI.fill {X : SX} {w0 w A : World} {B M : Nat} {a b c d e v0 v1 v2 v3 v4 : Value} (h : FaI X w0 w B M #[a, b, c, d, e] A) (hw : w0.heap.size ≤ w.heap.size) : ∃ A', A.setCells w.heap.size 0 (#[v0, v1, v2, v3, v4] : Array Value).toList = A' ∧ A.there w.heap.size 0 (#[v0, v1, v2, v3, v4] : Array Value).size ∧ FaI X w0 w B M #[v0, v1, v2, v3, v4] A' ∧ ∀ j, j ≠ w.heap.size → A'.heap[j]? = A.heap[j]? := by
  obtain ⟨A', h1, h2, h3, h4, h5, h6⟩ := store5 h.box v0 v1 v2 v3 v4
  obtain ⟨es, cl, hm, ho⟩ := h.lk.map
  have hne1 : B ≠ w.heap.size := fun e => by have := h.lk.box; rw [e, h.box] at this; cases this
  have hne2 : M ≠ w.heap.size := fun e => by rw [e, h.box] at hm; cases hm
  have hb := h5 w.heap.size (Nat.le_refl _)
  exact ⟨A', h1, h2, ⟨⟨h.lk.bel.trans (hb.mono hw), (h4 _ hne1).trans h.lk.box, h.lk.b0, h.lk.m0, es, cl, (h4 _ hne2).trans hm, ho⟩, ⟨hb.os.trans h.gr.os, hb.tape.trans h.gr.tape, hb.output.trans h.gr.output, Nat.le_trans h.gr.size hb.size, fun j hj hne => (hb.block j hj).trans (h.gr.block j hj hne)⟩, h3⟩, h4⟩
set_option maxRecDepth 100000 in
set_option maxHeartbeats 4000000 in
theorem fault_any {X : SX} {w0 w : World} {B M : Nat} (h : LkAt X w0 B M w) (hX : X.In w0) (K : X.S.Ok) (p : Nat) (hp : p < 2 ^ X.ns) :
    Calls Tryd.prog 54 #[.pointer (some ⟨B, 0, none⟩), .int .i64 (p : Int)] w fun e w' => e = .returned (fltO (X.S.fault p)) ∧ LkAt X w0 B M w' ∧ w.grownBy w' (some M) := by
  obtain ⟨z0, z1, z2, hb3⟩ := three_new w (.cells fltA 48) (.cells #[.pointer (some ⟨B, 0, none⟩)] 79) (.cells #[.int .i64 (p : Int)] 3)
  obtain ⟨w1, hw1⟩ : ∃ z, w.alloc (.cells fltA 48) = z := ⟨_, rfl⟩
  have hs1 : w1.heap.size = w.heap.size + 1 := by rw [← hw1]; simp
  rw [hw1] at z0 z1 z2 hb3
  obtain ⟨w3, hw3⟩ : ∃ z, (w1.alloc (.cells #[.pointer (some ⟨B, 0, none⟩)] 79)).alloc (.cells #[.int .i64 (p : Int)] 3) = z := ⟨_, rfl⟩
  rw [hw3] at z0 z1 z2 hb3
  have hl3 := h.up hb3
  have HFI : Hid (FaI X w0 w B M fltA w3) := Lib.hid ⟨hl3, below_grown hb3 _, z0⟩
  have HIT : Hid (ItA X w0 B M (w.heap.size + 1) (w.heap.size + 1 + 1) p w3) := Lib.hid ⟨hl3, z1, z2⟩
  have hMw : M < w3.heap.size := by obtain ⟨es, c, hm, _⟩ := hl3.map; exact (Array.getElem?_eq_some_iff.1 hm).1
  have HSZ : Hid (M < w3.heap.size ∧ B < w3.heap.size ∧ w.heap.size + 1 + 1 < w3.heap.size ∧ w0.heap.size ≤ w.heap.size) := Lib.hid ⟨hMw, heapsz hl3.box, heapsz z2, h.bel.size⟩
  have HW1 := Lib.hid hw1; have HW3 := Lib.hid hw3; have HS1 := Lib.hid hs1; have HX := Lib.hid hX; have HK := Lib.hid K; have HP := Lib.hid hp
  clear z0 z1 z2 hb3 hw1 hw3 hs1 hl3 hMw h hX K hp
  refine callsIn_wide.1 (callsIn_of_wp_marks (n := 5) Tryd.func54 rfl trivial (wpIn_wide.2 ?_) rfl)
  simp only [Tryd.ntmps54, List.size_toArray, List.length_cons, List.length_nil, Nat.reduceAdd, Nat.reduceSub, Array.replicate_succ, Array.replicate_zero, List.push_toArray, List.append_toArray, List.nil_append, List.cons_append]
  unfold fltA at HW1
  go_wp2_with fail
  rw [HW1.out]
  refine (faults_any _ _ rfl _ B p rfl rfl).mono ?_
  rintro e w' ⟨rfl, rfl⟩
  rw [HW3.out, HS1.out]
  go_wp2_with fail
  refine (wpIn_wide (n := 3)).1 ?_
  refine wpIn_rangeFunc_writes rfl (by decide) (gf := 87) (lb := #[.pointer (some ⟨w.heap.size + 1, 0, none⟩), .pointer (some ⟨w.heap.size + 1 + 1, 0, none⟩)]) rfl trivial (enters_of Tryd.func87 (by kernel_rfl) rfl)
    (faults_seq HX.out HK.out (3 - 1) (by decide) HP.out HIT.out)
    (fun A A' hs k o hk ho hc => (hs.1.block k (Array.getElem?_eq_some_iff.1 ho).1 (fun e => by injection e with e; have := HSZ.out.1; omega)).trans ho)
    kpW_t (kpW_b (by have := HSZ.out; omega) (fun b hb => by
      have := HSZ.out
      simp only [List.mem_cons, List.not_mem_nil, or_false] at hb
      rcases hb with rfl | rfl | rfl | rfl <;> omega)) (Below.refl _ _) (fun _ => rfl)
    (fun pre Wt => pre = [] ∧ w3.heap.size ≤ Wt.heap.size ∧ FaI X w0 w B M fltA Wt)
    (fun c pre Wt => c = .ret ∧ ∃ f, pre = [f] ∧ FaI X w0 w B M (fltC f) Wt)
    (fun pre A A' row hs hg hr => ⟨hs.1, Nat.le_trans hs.2.1 hg.size, hs.2.2.own (N := w3.heap.size) (by have := HSZ.out; omega) (by have := HSZ.out; omega) HSZ.out.1 hg hr⟩)
    (fun c pre A A' row hs hg hr => ⟨hs.1, by
      obtain ⟨f, h1, h2⟩ := hs.2
      exact ⟨f, h1, h2.own (N := w3.heap.size) (by have := HSZ.out; omega) (by have := HSZ.out; omega) HSZ.out.1 hg hr⟩⟩)
    (fun pre A A' hs hst => ⟨hs.1, Nat.le_trans hs.2.1 hst.1.size, hs.2.2.st hst⟩)
    ⟨rfl, Nat.le_refl _, HFI.out⟩
    (fun x a' Wt => ∃ Q, Wt.heap[Q]? = some (.cells (fltC x) 48 (0, 0)) ∧ a' = { tmps := List.toArray ((Value.pointer (some ⟨B, 0, none⟩)) :: (Value.int .i64 (p : Int)) :: undef :: undef :: (Value.pointer (some ⟨w.heap.size, 0, none⟩)) :: (Value.pointer (some ⟨Q, 0, none⟩)) :: (Value.pointer (some ⟨B, 0, none⟩)) :: (Value.int .i64 (p : Int)) :: (Value.func (.func 87) #[] #[.pointer (some ⟨w.heap.size + 1, 0, none⟩), .pointer (some ⟨w.heap.size + 1 + 1, 0, none⟩)]) :: (Value.agg (fltC x)) :: undef :: undef :: []), defers := [] })
    (fun x a' _ A A' row hs hg hr => by
      obtain ⟨Q, h1, h2⟩ := hs
      exact ⟨Q, cells_own h1 hg hr, h2⟩)
    ?assign ?body ?done ?stop
  case assign =>
    intro l pre x Wt Kk hI hK
    have hb := (Below.refl Wt.heap.size Wt).alloc (Nat.le_refl _) (.cells (fltC x) 48)
    have HH := Lib.hid (hK { tmps := List.toArray ((Value.pointer (some ⟨B, 0, none⟩)) :: (Value.int .i64 (p : Int)) :: undef :: undef :: (Value.pointer (some ⟨w.heap.size, 0, none⟩)) :: (Value.pointer (some ⟨Wt.heap.size, 0, none⟩)) :: (Value.pointer (some ⟨B, 0, none⟩)) :: (Value.int .i64 (p : Int)) :: (Value.func (.func 87) #[] #[.pointer (some ⟨w.heap.size + 1, 0, none⟩), .pointer (some ⟨w.heap.size + 1 + 1, 0, none⟩)]) :: (Value.agg (fltC x)) :: undef :: undef :: []), defers := [] } (Wt.alloc (.cells (fltC x) 48))
      ⟨hb.size, fun k o _ ho _ => (hb.block k (Array.getElem?_eq_some_iff.1 ho).1).trans ho⟩
      ⟨hb.mono (Nat.le_trans HSZ.out.2.2.2 hI.2.2.gr.size), fun b hbm => hb.block b (by
        have := hI.2.1; have := HSZ.out
        simp only [List.mem_cons, List.not_mem_nil, or_false] at hbm
        rcases hbm with rfl | rfl | rfl | rfl <;> omega)⟩ ⟨hI.1, Nat.le_trans hI.2.1 hb.size, hI.2.2.up hb⟩ ⟨Wt.heap.size, heap_alloc_new Wt _, rfl⟩)
    clear hK hb hI
    unfold fltC at HH
    gi_wp2
    exact HH.out
  case body =>
    rintro l pre x a' Wt ⟨rfl, _, hI⟩ ⟨Q, hQ, rfl⟩ _
    unfold fltA at hI
    obtain ⟨W6, hs6, ht6, hf6, ho6⟩ := hI.fill (v0 := .bool true) (v1 := .int .i64 (x.i : Int)) (v2 := .int .i64 (x.n : Int)) (v3 := .int .i64 (x.w : Int)) (v4 := .int .i64 (x.k : Int)) HSZ.out.2.2.2
    unfold fltC at hQ
    obtain ⟨⟨y0, y1, y2, y3, y4⟩, _⟩ := box5_cells hQ
    have HKO : Hid (KeepsOthers Wt W6) := Lib.hid ⟨by have := hf6.gr.size; have h2 := ho6; rw [← hs6]; simp [World.setCells, World.setCell], fun k o hk ho => (ho6 k (fun e => by
      rw [e, hI.box] at hk
      injection hk with hk
      rw [← hk] at ho
      cases ho)).trans hk⟩
    have HS6 := Lib.hid hs6; have HT6 := Lib.hid ht6; have HF6 := Lib.hid hf6
    clear hs6 ht6 hf6 ho6 hI hQ
    unfold fltC
    gi_wp2_with (first
      | (refine wpListIn_store_mid rfl 48 _ _ rfl w.heap.size #[.bool true, .int .i64 (x.i : Int), .int .i64 (x.n : Int), .int .i64 (x.w : Int), .int .i64 (x.k : Int)] (by rfl) (by rfl) HT6.out flt_info (one5 ⟨rfl, rfl, rfl, rfl, rfl⟩) ?_; rw [HS6.out])
      | fail)
    exact ⟨HKO.out, rfl, x, rfl, HF6.out⟩
  case done =>
    rintro D ys Wt hD rfl ⟨hys, _, hI⟩ hK
    unfold fltA at hI
    obtain ⟨W6, hs6, ht6, hf6, ho6⟩ := hI.fill (v0 := .bool false) (v1 := .int .i64 0) (v2 := .int .i64 0) (v3 := .int .i64 0) (v4 := .int .i64 0) HSZ.out.2.2.2
    have hD6 : W6.heap[D]? = some (.deferred (some [])) := (ho6 D (by have := HSZ.out; omega)).trans hK
    have HM : Hid (Marks W6 w3.heap.size [D]) := Lib.hid ⟨by simp, fun E hE => by rw [List.mem_singleton.1 hE]; exact ⟨hD, hD6⟩⟩
    have HE : Hid (X.S.fault p = none) := Lib.hid (by unfold Sto.fault; rw [hys]; rfl)
    have HS6 := Lib.hid hs6; have HT6 := Lib.hid ht6; have HF6 := Lib.hid hf6
    clear hs6 ht6 hf6 ho6 hI hK hD6 hys
    simp only [Exit.inBlock, Exit.then]
    go_wp2_with (first
      | (refine wpList_store_mid rfl 48 _ _ rfl w.heap.size 0 #[.bool false, .int .i64 0, .int .i64 0, .int .i64 0, .int .i64 0] (by rfl) (by rfl) HT6.out flt_info (one5 ⟨rfl, rfl, rfl, rfl, rfl⟩) ?_; rw [HS6.out])
      | fail)
    refine leaves_marks [D] W6 HM.out (fun w' hk => ?_)
    have hf := HF6.out.cellsK (N := w3.heap.size) (by have := HSZ.out; omega) (by have := HSZ.out; omega) HSZ.out.1 hk
    obtain ⟨⟨e0, e1, e2, e3, e4⟩, _⟩ := box5_cells hf.box
    exact ⟨.agg #[.bool false, .int .i64 0, .int .i64 0, .int .i64 0, .int .i64 0], by simp [results, Tryd.results54, go_sem, e0, e1, e2, e3, e4], by rw [HE.out]; rfl, hf.lk, hf.gr⟩
  case stop =>
    rintro D c pre Wt hD ⟨l, hl⟩ ⟨rfl, f, rfl, hI⟩ hK
    have HM : Hid (Marks Wt w3.heap.size [D]) := Lib.hid ⟨by simp, fun E hE => by rw [List.mem_singleton.1 hE]; exact ⟨hD, hK⟩⟩
    have HE : Hid (X.S.fault p = some f) := Lib.hid (by unfold Sto.fault; rw [hl]; rfl)
    have HF6 := Lib.hid hI
    clear hI hK hl
    simp only []
    refine (wpIn_wide (n := 3)).2 ?_
    go_wp2_with fail
    refine leaves_marks [D] Wt HM.out (fun w' hk => ?_)
    have hf := HF6.out.cellsK (N := w3.heap.size) (by have := HSZ.out; omega) (by have := HSZ.out; omega) HSZ.out.1 hk
    have hb := hf.box
    unfold fltC at hb
    obtain ⟨⟨e0, e1, e2, e3, e4⟩, _⟩ := box5_cells hb
    exact ⟨.agg #[.bool true, .int .i64 (f.i : Int), .int .i64 (f.n : Int), .int .i64 (f.w : Int), .int .i64 (f.k : Int)], by simp [results, Tryd.results54, go_sem, e0, e1, e2, e3, e4], by rw [HE.out]; rfl, hf.lk, hf.gr⟩
end Go.Proofs.YtijjkiogmlannaaDoor

namespace Go.Proofs.YtijjkiogmlannaaDoor
open Go.RowKit Go.Shelf
attribute [local go_sem] Oper.semAt_some

def sufP (S : Sto) (k : Nat) : List Nat := (List.range k).filter fun p => (S.fault p).isNone
theorem sufP_no {S : Sto} {k : Nat} {f : Flt} (h : S.fault k = some f) : sufP S (k + 1) = sufP S k := by
  unfold sufP
  rw [List.range_succ, List.filter_append]
  simp [h]
theorem sufP_yes {S : Sto} {k : Nat} (h : S.fault k = none) : sufP S (k + 1) = sufP S k ++ [k] := by
  unfold sufP
  rw [List.range_succ, List.filter_append]
  simp [h]
theorem sufP_pre (S : Sto) {k m : Nat} (h : k ≤ m) : ∃ l, sufP S m = sufP S k ++ l := by
  obtain ⟨d, rfl⟩ : ∃ d, m = k + d := ⟨m - k, by omega⟩
  refine ⟨((List.range d).map (k + ·)).filter fun p => (S.fault p).isNone, ?_⟩
  unfold sufP
  rw [List.range_add, List.filter_append]
theorem bool_size : (Tryd.prog.info? 4).map (fun i => i.size) = some 1 := by kernel_rfl
theorem fld48 (a b c d e : Value) (w : World) : (Instr.field 48 (.agg #[a, b, c, d, e]) 0).run Tryd.prog w = .ok a w := by
  obtain ⟨i, hi, hs⟩ := Option.map_eq_some_iff.1 bool_size
  simp [Instr.field, asAgg, go_sem, part, isAgg, sizeOf, typeInfo, hi, hs]
/-- The iterator's things. -/
structure ItB (X : SX) (w0 : World) (B M b1 : Nat) (W : World) : Prop where
  lk : LkAt X w0 B M W
  c1 : W.heap[b1]? = some (.cells #[.pointer (some ⟨B, 0, none⟩)] 79 (0, 0))
theorem ItB.kp {X : SX} {w0 : World} {B M b1 : Nat} {W W' : World} (h : ItB X w0 B M b1 W) (hk : KpW w0 [B, M, b1] W W') : ItB X w0 B M b1 W' := by
  obtain ⟨es, c, hm, ho⟩ := h.lk.map
  exact ⟨⟨h.lk.bel.trans hk.1, (hk.2 B (by simp)).trans h.lk.box, h.lk.b0, h.lk.m0, es, c, (hk.2 M (by simp)).trans hm, ho⟩, (hk.2 b1 (by simp)).trans h.c1⟩
theorem ItB.st {X : SX} {w0 : World} {B M b1 : Nat} {W W' : World} (h : ItB X w0 B M b1 W) (hk : StW X w0 B M W W') : ItB X w0 B M b1 W' := by
  obtain ⟨es, c, hm, ho⟩ := h.lk.map
  have n1 : some b1 ≠ some M := fun e => by injection e with e; have := h.c1; rw [e, hm] at this; cases this
  exact ⟨hk.2, (hk.1.block _ (heapsz h.c1) n1).trans h.c1⟩
set_option maxRecDepth 100000 in
set_option maxHeartbeats 4000000 in
theorem suff1_in {X : SX} {w0 : World} (hX : X.In w0) (K : X.S.Ok) (n : Nat) (hn : 1 ≤ n) (l B M b1 : Nat) (J Jx : List Nat → World → Prop) (hJ : ∀ s A A', J s A → StW X w0 B M A A' → J s A')
    (hY : ∀ (pre : List Nat) (x : Nat) (W : World), J pre W → (∃ l, sufP X.S (2 ^ X.ns) = (pre ++ [x]) ++ l) → YieldAt Fence.wide (n - 1) Tryd.prog l #[.int .i64 (x : Int)] W fun e W' =>
      (e = .returned (.bool true) ∧ J (pre ++ [x]) W' ∧ KpW w0 [B, M, b1] W W') ∨ (e = .returned (.bool false) ∧ Jx (pre ++ [x]) W'))
    (W : World) (hW : ItB X w0 B M b1 W) (h0 : J [] W) :
    CallsIn Fence.wide n Tryd.prog 89 #[.func (.yield l) #[] #[], .pointer (some ⟨b1, 0, none⟩)] W fun e W' => (∃ v, e = .returned v) ∧
      ((∃ ys, ys = sufP X.S (2 ^ X.ns) ∧ J ys W') ∨ (∃ pre, (∃ l, sufP X.S (2 ^ X.ns) = pre ++ l) ∧ Jx pre W')) := by
  rcases X with ⟨S, AS, ns, cs, AI, ni, ci, AW, nw, cw⟩
  have hls := hX.hs; have n6 := K.n6
  simp only at hls n6
  have hns : ns ≤ 6 := by omega
  have HN64 : Hid (2 ^ ns ≤ 64) := Lib.hid (Nat.le_trans (Nat.pow_le_pow_right (by decide) hns) (by decide))
  have hn0 : (ns : Int) ≤ 64 := by omega
  have hsl : IntKind.i64.wrap ((2 : Int) ^ ns) = (2 : Int) ^ ns := by
    rcases (show ns = 0 ∨ ns = 1 ∨ ns = 2 ∨ ns = 3 ∨ ns = 4 ∨ ns = 5 ∨ ns = 6 by omega) with rfl | rfl | rfl | rfl | rfl | rfl | rfl <;> decide
  have HPW : Hid (((2 ^ ns : Nat) : Int) = (2 : Int) ^ ns) := Lib.hid (by simp)
  have HW := Lib.hid hW; have HX := Lib.hid hX; have HK := Lib.hid K; have HJ := Lib.hid hJ
  have c1 := cell_of_row W b1 0 _ 79 (0, 0) hW.c1
  obtain ⟨_, _, _, r9, _⟩ := lk_cells hW.lk
  simp at c1
  simp only at r9
  clear hW hX K hls n6 hns hJ
  refine callsIn_of_wp Tryd.func89 rfl trivial ?_ rfl
  simp only [Tryd.ntmps89, List.size_toArray, List.length_cons, List.length_nil, Nat.reduceAdd, Nat.reduceSub, Array.replicate_succ, Array.replicate_zero, List.push_toArray, List.append_toArray, List.nil_append, List.cons_append]
  gi_wp2
  clear hsl hn0
  gi_loopw [11] (fun i wr => ∃ k : Nat, k ≤ 2 ^ ns ∧ i = .int .i64 k ∧ J (sufP S k) wr ∧ ItB ⟨S, AS, ns, cs, AI, ni, ci, AW, nw, cw⟩ w0 B M b1 wr) (fun i _ => 2 ^ ns - (intOf i).toNat)
  case atStart => exact ⟨0, Nat.zero_le _, rfl, h0, HW.out⟩
  case round =>
    clear c1 r9
    obtain ⟨k, hk, rfl, hJs, hI⟩ := hrel
    have HNX : Hid (k ≤ 2 ^ ns) := Lib.hid hk
    by_cases hlt : k < 2 ^ ns
    · have hk64 : k < 64 := by have := HN64.out; omega
      have hk0 : (k : Int) < (2 : Int) ^ ns := by rw [← HPW.out]; exact Int.ofNat_lt.2 hlt
      have c1 := cell_of_row wr b1 0 _ 79 (0, 0) hI.c1
      simp at c1
      have HL := Lib.hid (fault_any hI.lk HX.out HK.out k hlt)
      have HI := Lib.hid hI; have HJS := Lib.hid hJs; have HLT := Lib.hid hlt
      clear hI hJs hlt hk
      gi_wp2
      refine ⟨trivial, callsIn_wide.2 (HL.out.mono ?_)⟩
      rintro e W2 ⟨rfl, hl2, hg2⟩
      have hs2 : StW ⟨S, AS, ns, cs, AI, ni, ci, AW, nw, cw⟩ w0 B M wr W2 := ⟨hg2, hl2⟩
      have HI2 := Lib.hid (HI.out.st hs2)
      have HJ2 := Lib.hid (HJ.out _ _ _ HJS.out hs2)
      clear hl2 hg2 hs2 HL c1
      simp only
      cases ho : S.fault k with
      | some f =>
        have HE := Lib.hid (sufP_no ho)
        clear ho
        simp only [fltO]
        have hfd := fld48 (.bool true) (.int .i64 (f.i : Int)) (.int .i64 (f.n : Int)) (.int .i64 (f.w : Int)) (.int .i64 (f.k : Int)) W2
        gi_wp2
        refine ⟨fun _ _ => trivial, ?_⟩
        gi_wp2
        go_roundw
        case rel => exact ⟨k + 1, HLT.out, by go_num, by rw [HE.out]; exact HJ2.out, HI2.out⟩
        case measure => have := HLT.out; simp [intOf]; omega
      | none =>
        have HE := Lib.hid (sufP_yes ho)
        clear ho
        simp only [fltO]
        have hlen : ∃ l, sufP S (2 ^ ns) = (sufP S k ++ [k]) ++ l := by rw [← HE.out]; exact sufP_pre S HLT.out
        have hfd := fld48 (.bool false) (.int .i64 0) (.int .i64 0) (.int .i64 0) (.int .i64 0) W2
        obtain ⟨fn, tmps, assign, body, hy, hR⟩ := hY (sufP S k) k _ HJ2.out hlen
        gi_wp2
        refine hR.mono ?_
        rintro e W4 h4
        obtain ⟨bv, rfl, h3⟩ := two h4
        clear h4 hy
        rcases h3 with ⟨rfl, hJ3, hk3⟩ | ⟨rfl, hJx3⟩
        · have HI4 := Lib.hid (HI2.out.kp hk3)
          have HJ4 := Lib.hid hJ3
          clear hk3 hJ3
          gi_wp2
          go_roundw
          case rel => exact ⟨k + 1, HLT.out, by go_num, by rw [HE.out]; exact HJ4.out, HI4.out⟩
          case measure => have := HLT.out; simp [intOf]; omega
        · have HJX := Lib.hid hJx3
          clear hJx3
          gi_wp2
          refine bodyPost_ret (results_none rfl _ _ _) rfl ?_
          exact ⟨⟨_, rfl⟩, .inr ⟨_, by rw [← HE.out]; exact sufP_pre S HLT.out, HJX.out⟩⟩
    · have hkk : k = 2 ^ ns := by omega
      have hk0 : ¬ (k : Int) < (2 : Int) ^ ns := by rw [← HPW.out, hkk]; omega
      have HJS : Hid (J (sufP S (2 ^ ns)) wr) := Lib.hid (by rw [hkk] at hJs; exact hJs)
      clear hJs hI hkk
      gi_wp2
      go_end0
      exact ⟨⟨_, rfl⟩, .inl HJS.out⟩
theorem sufficing_any (B : Nat) (w : World) :
    Calls Tryd.prog 74 #[.pointer (some ⟨B, 0, none⟩)] w fun e w' => e = .returned (.func (.func 89) #[] #[.pointer (some ⟨w.heap.size, 0, none⟩)]) ∧ w.alloc (.cells #[.pointer (some ⟨B, 0, none⟩)] 79) = w' := by
  go_enter Tryd.func74, Tryd.ntmps74
  go_wp2
  go_ret
  exact ⟨rfl, rfl⟩
end Go.Proofs.YtijjkiogmlannaaDoor

namespace Go.Proofs.YtijjkiogmlannaaDoor
open Go.RowKit Go.Shelf
attribute [local go_sem] Oper.semAt_some

theorem pil_is {p m : Nat} (hp : p < 2 ^ m) (hm : m ≤ 6) : pilL (p : Int) = (List.range m).filter (hasB p) := by
  unfold pilL
  obtain ⟨d, hd⟩ : ∃ d, 6 = m + d := ⟨6 - m, by omega⟩
  rw [hd, List.range_add, List.filter_append]
  have h2 : ((List.range d).map (m + ·)).filter (fun a => jackB (p : Int) a) = [] := by
    rw [List.filter_eq_nil_iff]
    intro x hx
    obtain ⟨y, _, rfl⟩ := List.mem_map.1 hx
    intro hh
    have h5 : ((p : Nat) : Int) ≤ (2 ^ m : Int) - 1 := by
      have : ((p : Nat) : Int) < ((2 ^ m : Nat) : Int) := Int.ofNat_lt.2 hp
      have e : ((2 ^ m : Nat) : Int) = (2 : Int) ^ m := by simp
      omega
    have := jack_lt (np := m) (Int.natCast_nonneg p) h5 hh
    omega
  rw [h2, List.append_nil]
  exact List.filter_congr fun j _ => jack_has p j
def cosL (S : Sto) (js : List Nat) : Int := (js.map fun j => (S.ship j).c).sum
theorem cosL_snoc (S : Sto) (js : List Nat) (j : Nat) : cosL S (js ++ [j]) = cosL S js + (S.ship j).c := by
  unfold cosL
  rw [List.map_append, List.sum_append]
  simp
theorem cosL_in {S : Sto} (K : S.Ok) : ∀ js : List Nat, 0 ≤ cosL S js ∧ cosL S js ≤ 1000000 * (js.length : Int)
  | [] => by simp [cosL]
  | j :: js => by
    have ih := cosL_in K js
    have hj : 0 ≤ (S.ship j).c ∧ (S.ship j).c ≤ 1000000 := by
      unfold Sto.ship
      rw [List.getD_eq_getElem?_getD]
      cases hg : S.ships[j]? with
      | none => simp
      | some s => exact (shpB_iff.1 (K.ships s (List.mem_of_getElem? hg))).2.2
    have e : cosL S (j :: js) = (S.ship j).c + cosL S js := by simp [cosL]
    rw [e]
    simp only [List.length_cons]
    omega
theorem cost_pil {S : Sto} {p : Nat} (hp : p < 2 ^ S.ships.length) (h6 : S.ships.length ≤ 6) : cosL S (pilL (p : Int)) = S.cost p := by
  rw [pil_is hp h6]
  rfl
def coCv (n b1 B b o ns cs x : Nat) (A c : Int) : Tmp → Value
  | 1 => .pointer (some ⟨b1, 0, none⟩)
  | 4 => .pointer (some ⟨n, 0, none⟩)
  | 5 => .int .i64 (x : Int)
  | 9 => .int .i64 A
  | 10 => .pointer (some ⟨B, 0, none⟩)
  | 11 => .pointer (some ⟨B, 0, none⟩)
  | 12 => .pointer (some ⟨B, 0, none⟩)
  | 13 => .pointer (some ⟨B, 9, none⟩)
  | 14 => .slice (some ⟨b, o, none⟩) ns cs
  | 15 => .int .i64 (x : Int)
  | 16 => .pointer (some ⟨b, o + x * 5, none⟩)
  | 17 => .pointer (some ⟨b, o + x * 5 + 4, none⟩)
  | 18 => .int .i64 c
  | 19 => .int .i64 (A + c)
  | _ => undef
def coL (n p : Nat) (A : Int) : List (Nat × Array Value × TypeId) := [(n, #[.int .i64 A], 3), (n + 1, #[.int .i64 (p : Int)], 3)]
theorem co_set {n p : Nat} {A A' : Int} {w W : World} (h : FI n w (coL n p A) W) : FI n w (coL n p A') (W.setCell ⟨n, 0, none⟩ (.int .i64 A')) :=
  h.put (b := n) (cs := #[.int .i64 A]) (t := 3) (by simp [coL]) (Nat.le_refl _) fun x hx => by
    simp only [coL, List.mem_cons, List.not_mem_nil, or_false] at hx ⊢
    rcases hx with rfl | rfl
    · exact .inl rfl
    · exact .inr ⟨.inr rfl, by show n + 1 ≠ n; omega⟩
section
attribute [local irreducible] QT
set_option maxRecDepth 100000 in
set_option maxHeartbeats 8000000 in
theorem bcost_any {X : SX} {w0 w : World} {B M b1 : Nat} (h : ItB X w0 B M b1 w) (hX : X.In w0) (K : X.S.Ok) (p : Nat) (hp : p < 2 ^ X.ns) :
    Calls Tryd.prog 75 #[.int .i64 (p : Int), .pointer (some ⟨b1, 0, none⟩)] w fun e w' => e = .returned (.int .i64 (X.S.cost p)) ∧ Below w.heap.size w w' := by
  have n6 := K.n6; have hsl := hX.hs
  obtain ⟨z0, z1, hb2⟩ := two_new w (.cells #[.int .i64 0] 3) (.cells #[.int .i64 (p : Int)] 3)
  obtain ⟨w1, hw1⟩ : ∃ z, w.alloc (.cells #[.int .i64 0] 3) = z := ⟨_, rfl⟩
  have hs1 : w1.heap.size = w.heap.size + 1 := by rw [← hw1]; simp
  rw [hw1] at z0 z1 hb2
  obtain ⟨w5, hw5⟩ : ∃ z, w1.alloc (.cells #[.int .i64 (p : Int)] 3) = z := ⟨_, rfl⟩
  rw [hw5] at z0 z1 hb2
  have HI5 : Hid (FI w.heap.size w (coL w.heap.size p 0) w5) := Lib.hid ⟨hb2, fun x hx => by
    simp only [coL, List.mem_cons, List.not_mem_nil, or_false] at hx
    rcases hx with rfl | rfl
    · exact z0
    · exact z1⟩
  have HCB : Hid (w5.cell? ⟨w.heap.size + 1, 0, none⟩ = some (.int .i64 (p : Int))) := Lib.hid (by have := cell_of_row w5 (w.heap.size + 1) 0 _ 3 (0, 0) z1; simpa using this)
  have HSZ : Hid (w.heap.size + 1 < w5.heap.size) := Lib.hid (heapsz z1)
  have HCO : Hid (cosL X.S (pilL (p : Int)) = X.S.cost p) := Lib.hid (cost_pil (by rw [hsl]; exact hp) n6)
  have HPN : Hid (((p : Nat) : Int) ≤ (2 ^ X.ns : Int) - 1) := Lib.hid (by
    have : ((p : Nat) : Int) < ((2 ^ X.ns : Nat) : Int) := Int.ofNat_lt.2 hp
    have e : ((2 ^ X.ns : Nat) : Int) = (2 : Int) ^ X.ns := by simp
    omega)
  have HW1 := Lib.hid hw1; have HW5 := Lib.hid hw5; have HS1 := Lib.hid hs1; have HK := Lib.hid K; have HIT := Lib.hid h; have HXX := Lib.hid hX
  clear z0 z1 hb2 hw1 hw5 hs1 K h hX hp n6 hsl
  refine callsIn_wide.1 (callsIn_of_wp_marks (n := 5) Tryd.func75 rfl trivial (wpIn_wide.2 ?_) rfl)
  simp only [Tryd.ntmps75, List.size_toArray, List.length_cons, List.length_nil, Nat.reduceAdd, Nat.reduceSub, Array.replicate_succ, Array.replicate_zero, List.push_toArray, List.append_toArray, List.nil_append, List.cons_append]
  go_wp2_with fail
  rw [HW1.out]
  refine (shipsOf_any _ _).mono ?_
  rintro e w' ⟨rfl, rfl⟩
  rw [HW5.out, HS1.out]
  go_wp2_with fail
  refine (wpIn_wide (n := 3)).1 ?_
  refine wpIn_rangeFunc_ownF rfl (by decide) (gf := 90) (lb := #[.pointer (some ⟨w.heap.size + 1, 0, none⟩)]) rfl trivial (enters_of Tryd.func90 (by kernel_rfl) rfl)
    (plan_stops (3 - 1) (by decide) (w.heap.size + 1) w.heap.size (p : Int) w5 HSZ.out HCB.out)
    kpB_t (kpB_b (by have := HSZ.out; omega) HSZ.out) (Below.refl _ _) (fun _ => rfl)
    (fun pre Wt => FI w.heap.size w (coL w.heap.size p (cosL X.S (pre.map Subtype.val))) Wt)
    (fun _ _ _ => False)
    (fun pre A B row hs hg hr => hs.own (N := w5.heap.size) (by have := HSZ.out; omega) hs.bel.size hg hr)
    (fun _ _ _ _ _ hs _ _ => hs)
    (show FI _ _ _ _ from HI5.out)
    (fun x => { tmps := List.toArray ((Value.int .i64 (p : Int)) :: (Value.pointer (some ⟨b1, 0, none⟩)) :: undef :: (Value.int .i64 0) :: (Value.pointer (some ⟨w.heap.size, 0, none⟩)) :: (Value.int .i64 (x.1 : Int)) :: (Value.int .i64 (p : Int)) :: (Value.func (.func 90) #[] #[.pointer (some ⟨w.heap.size + 1, 0, none⟩)]) :: (Value.int .i64 (x.1 : Int)) :: undef :: undef :: undef :: undef :: undef :: undef :: undef :: undef :: undef :: undef :: undef :: undef :: []), defers := [] }) ?assign ?body ?done ?stop
  case assign =>
    intro l x Wt Kk hK
    gi_wp2
    exact hK
  case body =>
    rintro l pre ⟨x, hx6, hxj⟩ Wt hI hlen
    have HI := Lib.hid hI
    have hxn := jack_lt (np := X.ns) (Int.natCast_nonneg p) HPN.out hxj
    have hx0 : (0 : Int) ≤ (x : Int) := by omega
    have hx1 : (x : Int) < (X.ns : Int) := by omega
    obtain ⟨s, hs⟩ := get_of_lt (l := X.S.ships) (k := x) (by rw [HXX.out.hs]; exact hxn)
    have hsh : X.S.ship x = s := by unfold Sto.ship; rw [List.getD_eq_getElem?_getD, hs]; rfl
    have hsw := (shpB_iff.1 (HK.out.ships s (List.mem_of_getElem? hs))).2.2
    have hL := HIT.out.lk
    obtain ⟨b, o, hA, hbb, _, _, _, _, c4⟩ := sh_el (RowAt.next (k := 5) (R := shR) HXX.out.P (hL.bel.trans (hI.bel.mono hL.bel.size)) (Nat.le_trans hL.bel.size hI.bel.size)) hs
    have HST := Lib.hid (And.intro hA hbb); have HC4 := Lib.hid c4
    obtain ⟨A, hAA⟩ : ∃ z, cosL X.S (pre.map Subtype.val) = z := ⟨_, rfl⟩
    have HQ : Hid (cosL X.S ((pre ++ [(⟨x, hx6, hxj⟩ : PX (p : Int))]).map Subtype.val) = A + s.c) := Lib.hid (by rw [List.map_append, ← hAA, ← hsh]; exact cosL_snoc _ _ _)
    have hAb := cosL_in HK.out (pre.map Subtype.val)
    rw [List.length_map, hAA] at hAb
    rw [hAA] at HI hI
    obtain ⟨c, hc⟩ : ∃ z, s.c = z := ⟨_, rfl⟩
    rw [hc] at HC4 HQ hsw
    have hadd : IntKind.i64.wrap (A + c) = A + c := by rw [IntKind.wrap_i64]; omega
    have fol : Tryd.prog.follows .mixedOrders = true := by kernel_rfl
    clear hI hs hsh hsw hA hbb c4 hAA hAb hc hL
    dsimp only
    gi_wp2
    refine wpIn_region_any fol (wpAnyIn_round_of_wpAny (by kernel_rfl) (by rintro ⟨_, _, hq⟩; exact hq) _ _ _ _ ?_)
    refine tail_startX [_, _, _, _, _, _, _, _, _, _, _] _ rfl (by kernel_rfl) ?_
    refine rel_any [1, 4, 5] [] (coCv w.heap.size b1 B b o X.ns X.cs x A c) noF (by kernel_rfl) (by kernel_rfl) (by kernel_rfl) (by kernel_rfl) (by kernel_rfl) ?_ (fun _ _ _ _ _ _ => trivial) ?_ ?_
    · intro t ht
      simp only [List.mem_cons, List.not_mem_nil, or_false] at ht
      rcases ht with rfl | rfl | rfl <;> rfl
    · refine allOps_array ?_
      have hI2 : ∀ u : KeptW Wt, FI w.heap.size w (coL w.heap.size p A) u.w := fun u => HI.out.up HI.out.bel.size u.h
      have hL2 : ∀ u : KeptW Wt, LkAt X w0 B M u.w ∧ u.w.heap[b1]? = some (.cells #[.pointer (some ⟨B, 0, none⟩)] 79 (0, 0)) := fun u => ⟨(HIT.out.lk.up HI.out.bel).up u.h, (u.h.block _ (Nat.lt_of_lt_of_le (heapsz HIT.out.c1) HI.out.bel.size)).trans ((HI.out.bel.block _ (heapsz HIT.out.c1)).trans HIT.out.c1)⟩
      refine ⟨?_, ?_, ?_, ?_, ?_, ?_, ?_, ?_, ?_, ?_, ?_, trivial⟩ <;> intro g u hd_ <;> obtain ⟨_, _, _, r9, _⟩ := lk_cells (hL2 u).1 <;> rw [HST.out.1] at r9 <;> have x0 := cell_of_row u.w b1 0 _ 79 (0, 0) (hL2 u).2 <;> have xq := cell_of_row u.w w.heap.size 0 _ 3 (0, 0) ((hI2 u).fix (w.heap.size, #[.int .i64 A], 3) (by simp [coL])) <;> simp at x0 xq <;> have c4 := ((bcell u.h).1 _ _ HST.out.2).trans HC4.out
      · refine ⟨rfl, relQ 9 rfl trivial ?_⟩
        simp [go_sem, evalBy, rhoT, relOf, coCv, xq]
      · refine ⟨rfl, relQ 10 rfl trivial ?_⟩
        simp [go_sem, evalBy, rhoT, relOf, coCv, x0]
      · refine ⟨rfl, relQ 11 rfl trivial ?_⟩
        simp [go_sem, evalBy, rhoT, relOf, coCv]
      · refine ⟨rfl, relQ 12 rfl trivial ?_⟩
        simp [go_sem, evalBy, rhoT, relOf, coCv]
      · refine ⟨rfl, relQ 13 rfl trivial ?_⟩
        simp [go_sem, evalBy, rhoT, relOf, coCv]
      · refine ⟨rfl, relQ 14 rfl trivial ?_⟩
        simp [go_sem, evalBy, rhoT, relOf, coCv, r9]
      · refine ⟨rfl, relQ 15 rfl trivial ?_⟩
        simp [go_sem, evalBy, rhoT, relOf, coCv]
      · refine ⟨rfl, relQ 16 rfl trivial ?_⟩
        simp [go_sem, evalBy, rhoT, relOf, coCv, hx0, hx1]
      · refine ⟨rfl, relQ 17 rfl trivial ?_⟩
        simp [go_sem, evalBy, rhoT, relOf, coCv]
      · refine ⟨rfl, relQ 18 rfl trivial ?_⟩
        simp [go_sem, evalBy, rhoT, relOf, coCv, c4]
      · refine ⟨rfl, relQ 19 rfl trivial ?_⟩
        simp [go_sem, evalBy, rhoT, relOf, coCv, hadd]
    · intro g u hf
      have HU2 := HI.out.up HI.out.bel.size u.h
      have h3 := HU2.fix (w.heap.size, #[.int .i64 A], 3) (by simp [coL])
      simp only at h3
      have x3 := cell_of_row u.w w.heap.size 0 _ 3 (0, 0) h3
      simp at x3
      have f3 : u.w.frozen? ⟨w.heap.size, 0, none⟩ = false := by simp [World.frozen?, h3]
      have HS2 := co_set (A' := A + c) HU2
      have hub := u.h
      simp only [QT]
      unfold Oper.wp
      simp [go_sem, putAll, Act.put, rhoT, relOf, coCv, x3, f3, Exit.inBlock]
      refine ⟨(ko_below hub).trans (KeepsOthers.setCell _ _ _), ⟨(hub.mono HI.out.bel.size).setCell (p := ⟨w.heap.size, 0, none⟩) (Nat.le_refl _) _, ?_⟩, ?_⟩
      · exact (World.cell?_setCell_other _ _ _ _ (fun e => by injection e with e; omega)).trans ((bcell hub).1 _ 0 (heapsz (HI.out.fix (w.heap.size + 1, #[.int .i64 (p : Int)], 3) (by simp [coL]))))
      · show FI _ _ (coL _ p (cosL X.S ((pre ++ [(⟨x, hx6, hxj⟩ : PX (p : Int))]).map Subtype.val))) _
        rw [HQ.out]
        exact HS2
  case done =>
    rintro D ys Wt hD hys hI hK
    rw [hys, HCO.out] at hI
    have x3 := cell_of_row Wt w.heap.size 0 _ 3 (0, 0) (hI.fix (w.heap.size, #[.int .i64 (X.S.cost p)], 3) (by simp [coL]))
    simp at x3
    have HI := Lib.hid hI
    have HM : Hid (Marks Wt w5.heap.size [D]) := Lib.hid ⟨by simp, fun E hE => by rw [List.mem_singleton.1 hE]; exact ⟨hD, hK⟩⟩
    clear hI hK hys
    simp only [Exit.inBlock, Exit.then]
    go_wp2_with fail
    refine leaves_marks [D] Wt HM.out (fun w' hk => ⟨_, results_tmp rfl _ _ _, ?_⟩)
    exact ⟨rfl, HI.out.bel.trans (hk.1.mono (by have := HSZ.out; omega))⟩
  case stop =>
    rintro D c pre W _ _ h _
    exact h.elim
end
end Go.Proofs.YtijjkiogmlannaaDoor
