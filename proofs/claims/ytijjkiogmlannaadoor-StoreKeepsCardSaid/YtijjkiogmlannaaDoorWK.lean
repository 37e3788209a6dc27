/- Stores: the cheapest of the plans that suffice, by the code. -/
import Derived.Test.YtijjkiogmlannaaDoorWJ
namespace Go.Proofs.YtijjkiogmlannaaDoor
open Go.RowKit Go.Shelf
attribute [local go_sem] Oper.semAt_some

/-- A store that is looked at, and some blocks, as they are. -/
structure FW (X : SX) (w0 w : World) (B M : Nat) (fs : List (Nat × Array Value × TypeId)) (W : World) : Prop where
  lk : LkAt X w0 B M W
  gr : w.grownBy W (some M)
  fix : ∀ x ∈ fs, W.heap[x.1]? = some (.cells x.2.1 x.2.2 (0, 0))
section
variable {X : SX} {w0 w A A' : World} {B M N : Nat} {fs fs' : List (Nat × Array Value × TypeId)}
theorem FW.own {row : Option Nat} (h : FW X w0 w B M fs A) (h0 : w0.heap.size ≤ N) (hN : w.heap.size ≤ N) (hM : M < N) (hg : A.grownBy A' row) (hr : ∀ r, row = some r → N ≤ r ∧ ∃ o : Obj, A.heap[r]? = some o ∧ o.isCells = false) : FW X w0 w B M fs A' :=
  ⟨h.lk.own h0 hM hg hr, grown_own h.gr hN hg hr, fun x hx => cells_own (h.fix x hx) hg hr⟩
theorem FW.st (h : FW X w0 w B M fs A) (hs : StW X w0 B M A A') : FW X w0 w B M fs A' := by
  obtain ⟨es, c, hm, _⟩ := h.lk.map
  exact ⟨hs.2, grown_trans h.gr hs.1, fun x hx => (hs.1.block _ (heapsz (h.fix x hx)) (fun e => by injection e with e; have := h.fix x hx; rw [e, hm] at this; cases this)).trans (h.fix x hx)⟩
theorem FW.up (h : FW X w0 w B M fs A) (hb : Below A.heap.size A A') : FW X w0 w B M fs A' :=
  ⟨h.lk.up hb, grown_trans h.gr (below_grown hb _), fun x hx => (hb.block _ (heapsz (h.fix x hx))).trans (h.fix x hx)⟩
theorem FW.cellsK (h : FW X w0 w B M fs A) (h0 : w0.heap.size ≤ N) (hN : w.heap.size ≤ N) (hM : M < N) (hk : CellsK N A A') : FW X w0 w B M fs A' := by
  obtain ⟨es, c, hm, ho⟩ := h.lk.map
  exact ⟨⟨h.lk.bel.trans (hk.1.mono h0), hk.2 _ _ _ _ h.lk.box, h.lk.b0, h.lk.m0, es, c, (hk.1.block M hM).trans hm, ho⟩, ⟨hk.1.os.trans h.gr.os, hk.1.tape.trans h.gr.tape, hk.1.output.trans h.gr.output, Nat.le_trans h.gr.size hk.1.size, fun j hj hne => (hk.1.block j (by omega)).trans (h.gr.block j hj hne)⟩, fun x hx => hk.2 _ _ _ _ (h.fix x hx)⟩
theorem lk_ne (h : LkAt X w0 B M A) {b : Nat} {cs : Array Value} {t : TypeId} (hb : A.heap[b]? = some (.cells cs t (0, 0))) (ht : t ≠ 104) : B ≠ b ∧ M ≠ b := by
  obtain ⟨es, c, hm, _⟩ := h.map
  refine ⟨fun e => ?_, fun e => by rw [e, hb] at hm; cases hm⟩
  have := h.box
  rw [e, hb] at this
  injection this with this
  injection this with _ this _
  exact ht this
theorem FW.put {b k : Nat} {v : Value} {cs : Array Value} {t : TypeId} (h : FW X w0 w B M fs A) (hb : (b, cs, t) ∈ fs) (ht : t ≠ 104) (h0 : w0.heap.size ≤ w.heap.size) (hn : w.heap.size ≤ b) (hf : ∀ x ∈ fs', x = (b, cs.setIfInBounds k v, t) ∨ (x ∈ fs ∧ x.1 ≠ b)) : FW X w0 w B M fs' (A.setCell ⟨b, k, none⟩ v) := by
  have hz := h.fix _ hb
  obtain ⟨n1, n2⟩ := lk_ne h.lk hz ht
  obtain ⟨es, c, hm, ho⟩ := h.lk.map
  refine ⟨⟨h.lk.bel.setCell (p := ⟨b, k, none⟩) (Nat.le_trans h0 hn) v, (Below.heap_setCell _ _ _ _ n1).trans h.lk.box, h.lk.b0, h.lk.m0, es, c, (Below.heap_setCell _ _ _ _ n2).trans hm, ho⟩, ⟨h.gr.os, h.gr.tape, h.gr.output, by simpa [World.setCell] using h.gr.size, fun j hj hne => (Below.heap_setCell _ _ _ _ (show j ≠ b by omega)).trans (h.gr.block j hj hne)⟩, fun x hx => ?_⟩
  rcases hf x hx with rfl | ⟨hm, hne⟩
  · exact blk_set hz k v
  · exact (Below.heap_setCell _ _ _ _ hne).trans (h.fix x hm)
end
/-- The first of some things that cost the least, as the code follows it. -/
def chF {α : Type} (f : α → Int) (a : Option (α × Int)) (s : α) : Option (α × Int) := match a with
  | none => some (s, f s)
  | some (y, c) => if f s < c then some (s, f s) else some (y, c)
theorem chF_some {α : Type} (f : α → Int) : ∀ (l : List α) (y : α), l.foldl (chF f) (some (y, f y)) = (leastBy f l (some y)).map fun x => (x, f x)
  | [], y => rfl
  | z :: l, y => by
    show l.foldl (chF f) (if f z < f y then some (z, f z) else some (y, f y)) = (leastBy f l (if f z < f y then some z else some y)).map fun x => (x, f x)
    by_cases h : f z < f y
    · rw [if_pos h, if_pos h]; exact chF_some f l z
    · rw [if_neg h, if_neg h]; exact chF_some f l y
theorem chF_all {α : Type} (f : α → Int) : ∀ l : List α, l.foldl (chF f) none = (leastBy f l none).map fun x => (x, f x)
  | [] => rfl
  | z :: l => chF_some f l z
def chB (a : Option (Nat × Int)) : Value × Value × Value := match a with
  | none => (.int .i64 0, .int .i64 0, .bool false)
  | some (y, c) => (.int .i64 (y : Int), .int .i64 c, .bool true)
def ciL (n b2 B : Nat) (fv : Value) (a : Option (Nat × Int)) : List (Nat × Array Value × TypeId) := [(n, #[fv], 116), (n + 1, #[(chB a).1], 3), (n + 1 + 1, #[(chB a).2.1], 3), (n + 1 + 1 + 1, #[(chB a).2.2], 4), (b2, #[.pointer (some ⟨B, 0, none⟩)], 79)]
theorem ci_set {X : SX} {w0 w A : World} {B M n b2 : Nat} {fv : Value} {a : Option (Nat × Int)} (h : FW X w0 w B M (ciL n b2 B fv a) A) (h0 : w0.heap.size ≤ w.heap.size) (hn : w.heap.size ≤ n) (hb : b2 < n) (y : Nat) (c : Int) :
    FW X w0 w B M (ciL n b2 B fv (some (y, c))) (((A.setCell ⟨n + 1, 0, none⟩ (.int .i64 (y : Int))).setCell ⟨n + 1 + 1, 0, none⟩ (.int .i64 c)).setCell ⟨n + 1 + 1 + 1, 0, none⟩ (.bool true)) := by
  have h1 := h.put (b := n + 1) (k := 0) (v := .int .i64 (y : Int)) (cs := #[(chB a).1]) (t := 3) (fs' := [(n, #[fv], 116), (n + 1, #[.int .i64 (y : Int)], 3), (n + 1 + 1, #[(chB a).2.1], 3), (n + 1 + 1 + 1, #[(chB a).2.2], 4), (b2, #[.pointer (some ⟨B, 0, none⟩)], 79)]) (by simp [ciL]) (by decide) h0 (by omega) fun x hx => by
    simp only [ciL, List.mem_cons, List.not_mem_nil, or_false] at hx ⊢
    rcases hx with rfl | rfl | rfl | rfl | rfl
    · exact .inr ⟨.inl rfl, by show n ≠ n + 1; omega⟩
    · exact .inl rfl
    · exact .inr ⟨.inr (.inr (.inl rfl)), by show n + 1 + 1 ≠ n + 1; omega⟩
    · exact .inr ⟨.inr (.inr (.inr (.inl rfl))), by show n + 1 + 1 + 1 ≠ n + 1; omega⟩
    · exact .inr ⟨.inr (.inr (.inr (.inr rfl))), by show b2 ≠ n + 1; omega⟩
  have h2 := h1.put (b := n + 1 + 1) (k := 0) (v := .int .i64 c) (cs := #[(chB a).2.1]) (t := 3) (fs' := [(n, #[fv], 116), (n + 1, #[.int .i64 (y : Int)], 3), (n + 1 + 1, #[.int .i64 c], 3), (n + 1 + 1 + 1, #[(chB a).2.2], 4), (b2, #[.pointer (some ⟨B, 0, none⟩)], 79)]) (by simp) (by decide) h0 (by omega) fun x hx => by
    simp only [List.mem_cons, List.not_mem_nil, or_false] at hx ⊢
    rcases hx with rfl | rfl | rfl | rfl | rfl
    · exact .inr ⟨.inl rfl, by show n ≠ n + 1 + 1; omega⟩
    · exact .inr ⟨.inr (.inl rfl), by show n + 1 ≠ n + 1 + 1; omega⟩
    · exact .inl rfl
    · exact .inr ⟨.inr (.inr (.inr (.inl rfl))), by show n + 1 + 1 + 1 ≠ n + 1 + 1; omega⟩
    · exact .inr ⟨.inr (.inr (.inr (.inr rfl))), by show b2 ≠ n + 1 + 1; omega⟩
  exact h2.put (b := n + 1 + 1 + 1) (k := 0) (v := .bool true) (cs := #[(chB a).2.2]) (t := 4) (by simp) (by decide) h0 (by omega) fun x hx => by
    simp only [ciL, chB, List.mem_cons, List.not_mem_nil, or_false] at hx ⊢
    rcases hx with rfl | rfl | rfl | rfl | rfl
    · exact .inr ⟨.inl rfl, by show n ≠ n + 1 + 1 + 1; omega⟩
    · exact .inr ⟨.inr (.inl rfl), by show n + 1 ≠ n + 1 + 1 + 1; omega⟩
    · exact .inr ⟨.inr (.inr (.inl rfl)), by show n + 1 + 1 ≠ n + 1 + 1 + 1; omega⟩
    · exact .inl rfl
    · exact .inr ⟨.inr (.inr (.inr (.inr rfl))), by show b2 ≠ n + 1 + 1 + 1; omega⟩
theorem suff_seq {X : SX} {w0 : World} (hX : X.In w0) (K : X.S.Ok) (n : Nat) (hn : 1 ≤ n) {B M b1 : Nat} {w : World} (h : ItB X w0 B M b1 w) :
    SeqW Fence.wide n Tryd.prog 89 #[.pointer (some ⟨b1, 0, none⟩)] (fun x : Nat => #[.int .i64 (x : Int)]) (KpW w0 [B, M, b1]) (StW X w0 B M) (fun ys => ys = sufP X.S (2 ^ X.ns)) (fun pre => ∃ l, sufP X.S (2 ^ X.ns) = pre ++ l) w :=
  fun l J Jx W hW hJ hY h0 => suff1_in hX K n hn l B M b1 J Jx hJ hY W ⟨h.lk.up hW, (hW.block _ (heapsz h.c1)).trans h.c1⟩ h0
def ceCv (n : Nat) (v1 v2 v3 : Value) : Tmp → Value
  | 4 => .pointer (some ⟨n + 1, 0, none⟩)
  | 5 => .pointer (some ⟨n + 1 + 1, 0, none⟩)
  | 6 => .pointer (some ⟨n + 1 + 1 + 1, 0, none⟩)
  | 23 => v1
  | 24 => v2
  | 25 => v3
  | _ => undef
theorem four_new (w : World) (o0 o1 o2 o3 : Obj) : ((((w.alloc o0).alloc o1).alloc o2).alloc o3).heap[w.heap.size]? = some o0 ∧ ((((w.alloc o0).alloc o1).alloc o2).alloc o3).heap[w.heap.size + 1]? = some o1 ∧ ((((w.alloc o0).alloc o1).alloc o2).alloc o3).heap[w.heap.size + 1 + 1]? = some o2 ∧ ((((w.alloc o0).alloc o1).alloc o2).alloc o3).heap[w.heap.size + 1 + 1 + 1]? = some o3 ∧ Below w.heap.size w ((((w.alloc o0).alloc o1).alloc o2).alloc o3) := by
  obtain ⟨h0, h1, hb⟩ := two_new w o0 o1
  obtain ⟨h2, h3, hc⟩ := two_new ((w.alloc o0).alloc o1) o2 o3
  have es : ((w.alloc o0).alloc o1).heap.size = w.heap.size + 1 + 1 := by simp
  rw [es] at h2 h3 hc
  exact ⟨(hc.block _ (by omega)).trans h0, (hc.block _ (by omega)).trans h1, h2, h3, hb.trans (hc.mono (by omega))⟩
/-- Operations that read, and stores that leave what they find: the worlds of one kind T. -/
theorem sameQ {T : World → Prop} {ops : Array Oper} {cv : Tmp → Value} {o : Oper} {u : World} (hT : T u) (d : Tmp) (hd : o.dst = some d) (hg : Region.wanted o (yieldedBy ops cv) = true) (he : (execOp (evalBy cv) o).run Tryd.prog u = .ok (.value (cv d)) u) :
    Region.wanted o (yieldedBy ops cv) = true ∧ Yield Tryd.prog (fun v w' => ∃ _ : Unit, T w' ∧ (∀ d, o.dst = some d → cv d = v) ∧ ∀ t, o.dst ≠ some t → cv t = cv t) ((execOp (evalBy cv) o).run Tryd.prog u) := by
  refine ⟨hg, ?_⟩
  rw [he]
  exact ⟨(), hT, fun e hE => by rw [hd] at hE; injection hE with hE; subst hE; rfl, fun _ _ => rfl⟩
theorem sameS {T : World → Prop} {ops : Array Oper} {cv : Tmp → Value} {o : Oper} {u u' : World} (hT : T u') (hd : o.dst = none) (hg : Region.wanted o (yieldedBy ops cv) = true) (he : (execOp (evalBy cv) o).run Tryd.prog u = .ok .skip u') :
    Region.wanted o (yieldedBy ops cv) = true ∧ Yield Tryd.prog (fun v w' => ∃ _ : Unit, T w' ∧ (∀ d, o.dst = some d → cv d = v) ∧ ∀ t, o.dst ≠ some t → cv t = cv t) ((execOp (evalBy cv) o).run Tryd.prog u) := by
  refine ⟨hg, ?_⟩
  rw [he]
  exact ⟨(), hT, fun e hE => by rw [hd] at hE; exact absurd hE (by simp), fun _ _ => rfl⟩
theorem chB_form (R : Option (Nat × Int)) : ∃ r1 r2 r3, chB R = (.int .i64 r1, .int .i64 r2, .bool r3) := by
  cases R with
  | none => exact ⟨_, _, _, rfl⟩
  | some x => exact ⟨_, _, _, rfl⟩
set_option maxRecDepth 100000 in
set_option maxHeartbeats 4000000 in
theorem cheapI_any {X : SX} {w0 w : World} {B M c1 c2 : Nat} (h1 : ItB X w0 B M c1 w) (h2 : ItB X w0 B M c2 w) (hX : X.In w0) (K : X.S.Ok) :
    Calls Tryd.prog 73 #[.func (.func 89) #[] #[.pointer (some ⟨c1, 0, none⟩)], .func (.func 75) #[] #[.pointer (some ⟨c2, 0, none⟩)]] w fun e w' => e = .returned (.tuple #[(chB ((sufP X.S (2 ^ X.ns)).foldl (chF X.S.cost) none)).1, (chB ((sufP X.S (2 ^ X.ns)).foldl (chF X.S.cost) none)).2.1, (chB ((sufP X.S (2 ^ X.ns)).foldl (chF X.S.cost) none)).2.2]) ∧ LkAt X w0 B M w' ∧ w.grownBy w' (some M) := by
  obtain ⟨z0, z1, z2, z3, hb⟩ := four_new w (.cells #[.func (.func 75) #[] #[.pointer (some ⟨c2, 0, none⟩)]] 116) (.cells #[.int .i64 0] 3) (.cells #[.int .i64 0] 3) (.cells #[.bool false] 4)
  obtain ⟨w5, hw5⟩ : ∃ z, (((w.alloc (.cells #[.func (.func 75) #[] #[.pointer (some ⟨c2, 0, none⟩)]] 116)).alloc (.cells #[.int .i64 0] 3)).alloc (.cells #[.int .i64 0] 3)).alloc (.cells #[.bool false] 4) = z := ⟨_, rfl⟩
  rw [hw5] at z0 z1 z2 z3 hb
  have HFI : Hid (FW X w0 w B M (ciL w.heap.size c2 B (.func (.func 75) #[] #[.pointer (some ⟨c2, 0, none⟩)]) none) w5) := Lib.hid ⟨h1.lk.up hb, below_grown hb _, fun x hx => by
    simp only [ciL, chB, List.mem_cons, List.not_mem_nil, or_false] at hx
    rcases hx with rfl | rfl | rfl | rfl | rfl
    · exact z0
    · exact z1
    · exact z2
    · exact z3
    · exact (hb.block _ (heapsz h2.c1)).trans h2.c1⟩
  have HIT : Hid (ItB X w0 B M c1 w5) := Lib.hid ⟨h1.lk.up hb, (hb.block _ (heapsz h1.c1)).trans h1.c1⟩
  have HSZ : Hid (M < w5.heap.size ∧ B < w5.heap.size ∧ c1 < w.heap.size ∧ c2 < w.heap.size ∧ w.heap.size + 1 + 1 + 1 < w5.heap.size ∧ w0.heap.size ≤ w.heap.size ∧ M < w.heap.size ∧ B < w.heap.size) := Lib.hid (by
    obtain ⟨es, c, hm, _⟩ := h1.lk.map
    have e1 := (Array.getElem?_eq_some_iff.1 hm).1; have e2 := heapsz h1.lk.box; have e3 := heapsz z3
    exact ⟨by omega, by omega, heapsz h1.c1, heapsz h2.c1, e3, h1.lk.bel.size, e1, e2⟩)
  have HW5 := Lib.hid hw5; have HX := Lib.hid hX; have HK := Lib.hid K
  obtain ⟨R, hR⟩ : ∃ z, (sufP X.S (2 ^ X.ns)).foldl (chF X.S.cost) none = z := ⟨_, rfl⟩
  have HR := Lib.hid hR
  rw [hR]
  clear z0 z1 z2 z3 hb hw5 h1 h2 hX K hR
  refine callsIn_wide.1 (callsIn_of_wp_marks (n := 5) Tryd.func73 rfl trivial (wpIn_wide.2 ?_) rfl)
  simp only [Tryd.ntmps73, List.size_toArray, List.length_cons, List.length_nil, Nat.reduceAdd, Nat.reduceSub, Array.replicate_succ, Array.replicate_zero, List.push_toArray, List.append_toArray, List.nil_append, List.cons_append]
  go_wp2_with fail
  rw [HW5.out]
  refine (wpIn_wide (n := 3)).1 ?_
  refine wpIn_rangeFunc_writes rfl (by decide) (gf := 89) (lb := #[.pointer (some ⟨c1, 0, none⟩)]) rfl trivial (enters_of Tryd.func89 (by kernel_rfl) rfl)
    (suff_seq HX.out HK.out (3 - 1) (by decide) HIT.out)
    (fun A A' hs k o hk ho hc => (hs.1.block k (Array.getElem?_eq_some_iff.1 ho).1 (fun e => by injection e with e; have := HSZ.out.1; omega)).trans ho)
    kpW_t (kpW_b (by have := HSZ.out; omega) (fun b hb => by
      have := HSZ.out
      simp only [List.mem_cons, List.not_mem_nil, or_false] at hb
      rcases hb with rfl | rfl | rfl <;> omega)) (Below.refl _ _) (fun _ => rfl)
    (fun pre Wt => FW X w0 w B M (ciL w.heap.size c2 B (.func (.func 75) #[] #[.pointer (some ⟨c2, 0, none⟩)]) (pre.foldl (chF X.S.cost) none)) Wt)
    (fun _ _ _ => False)
    (fun pre A A' row hs hg hr => hs.own (N := w5.heap.size) (by have := HSZ.out; omega) (by have := HSZ.out; omega) HSZ.out.1 hg hr)
    (fun _ _ _ _ _ hs _ _ => hs)
    (fun pre A A' hs hst => hs.st hst)
    (show FW _ _ _ _ _ _ _ from HFI.out)
    (fun x a' _ => a' = { tmps := List.toArray ((Value.func (.func 89) #[] #[.pointer (some ⟨c1, 0, none⟩)]) :: (Value.func (.func 75) #[] #[.pointer (some ⟨c2, 0, none⟩)]) :: undef :: (Value.pointer (some ⟨w.heap.size, 0, none⟩)) :: (Value.pointer (some ⟨w.heap.size + 1, 0, none⟩)) :: (Value.pointer (some ⟨w.heap.size + 1 + 1, 0, none⟩)) :: (Value.pointer (some ⟨w.heap.size + 1 + 1 + 1, 0, none⟩)) :: (Value.int .i64 (x : Int)) :: undef :: (Value.func (.func 89) #[] #[.pointer (some ⟨c1, 0, none⟩)]) :: (Value.int .i64 (x : Int)) :: undef :: undef :: undef :: undef :: undef :: undef :: undef :: undef :: undef :: undef :: undef :: undef :: undef :: undef :: undef :: []), defers := [] })
    (fun x a' _ A A' row hs hg hr => hs)
    ?assign ?body ?done ?stop
  case assign =>
    intro l pre x Wt Kk hI hK
    have HH := Lib.hid (hK _ Wt ⟨Nat.le_refl _, fun _ _ _ h _ => h⟩ ⟨Below.refl _ _, fun _ _ => rfl⟩ hI rfl)
    clear hK hI
    gi_wp2
    exact HH.out
  case body =>
    rintro l pre x a' Wt hI rfl ⟨lst, hlst⟩
    have HI := Lib.hid hI
    have hxlt : x < 2 ^ X.ns := by
      have hm : x ∈ sufP X.S (2 ^ X.ns) := by rw [hlst]; simp
      unfold sufP at hm
      exact List.mem_range.1 (List.mem_filter.1 hm).1
    have HE : Hid ((pre ++ [x]).foldl (chF X.S.cost) none = chF X.S.cost (pre.foldl (chF X.S.cost) none) x) := Lib.hid (by rw [List.foldl_append]; rfl)
    have HCL := Lib.hid (bcost_any (b1 := c2) ⟨hI.lk, hI.fix (c2, #[.pointer (some ⟨B, 0, none⟩)], 79) (by simp [ciL])⟩ HX.out HK.out x hxlt)
    obtain ⟨A, hA⟩ : ∃ z, pre.foldl (chF X.S.cost) none = z := ⟨_, rfl⟩
    rw [hA] at HE HI hI
    have a0 := cell_of_row Wt w.heap.size 0 _ 116 (0, 0) (hI.fix (w.heap.size, #[.func (.func 75) #[] #[.pointer (some ⟨c2, 0, none⟩)]], 116) (by simp [ciL]))
    simp at a0
    clear hI hA hlst hxlt
    gi_wp2
    refine ⟨trivial, CallsIn.inRound l (callsIn_wide.2 (Calls.mono (by simpa using HCL.out) ?_))⟩
    rintro e W1 ⟨rfl, hb1⟩
    have hI1 := HI.out.up hb1
    have HI1 := Lib.hid hI1; have HB1 := Lib.hid hb1
    have b1 := hI1.fix (w.heap.size + 1, #[(chB A).1], 3) (by simp [ciL])
    have b2 := hI1.fix (w.heap.size + 1 + 1, #[(chB A).2.1], 3) (by simp [ciL])
    have b3 := hI1.fix (w.heap.size + 1 + 1 + 1, #[(chB A).2.2], 4) (by simp [ciL])
    simp only at b1 b2 b3
    have e1 := cell_of_row W1 (w.heap.size + 1) 0 _ 3 (0, 0) b1
    have e2 := cell_of_row W1 (w.heap.size + 1 + 1) 0 _ 3 (0, 0) b2
    have e3 := cell_of_row W1 (w.heap.size + 1 + 1 + 1) 0 _ 4 (0, 0) b3
    simp at e1 e2 e3
    have f1 : W1.frozen? ⟨w.heap.size + 1, 0, none⟩ = false := by simp [World.frozen?, b1]
    have f2 : W1.frozen? ⟨w.heap.size + 1 + 1, 0, none⟩ = false := by simp [World.frozen?, b2]
    have f3 : W1.frozen? ⟨w.heap.size + 1 + 1 + 1, 0, none⟩ = false := by simp [World.frozen?, b3]
    have HWB : Hid (w.heap.size ≤ Wt.heap.size) := Lib.hid HI.out.gr.size
    have HKB : Hid (KpW w0 [B, M, c1] Wt W1) := Lib.hid ⟨hb1.mono HI.out.lk.bel.size, fun b hb => hb1.block b (by
      have := HSZ.out; have := HWB.out
      simp only [List.mem_cons, List.not_mem_nil, or_false] at hb
      rcases hb with rfl | rfl | rfl <;> omega)⟩
    have HN := Lib.hid (ci_set HI1.out HSZ.out.2.2.2.2.2.1 (Nat.le_refl _) HSZ.out.2.2.2.1 x (X.S.cost x))
    have HKN : Hid (KpW w0 [B, M, c1] W1 (((W1.setCell ⟨w.heap.size + 1, 0, none⟩ (.int .i64 (x : Int))).setCell ⟨w.heap.size + 1 + 1, 0, none⟩ (.int .i64 (X.S.cost x))).setCell ⟨w.heap.size + 1 + 1 + 1, 0, none⟩ (.bool true))) := Lib.hid (by
      have := HSZ.out
      refine ⟨(((Below.refl _ W1).setCell (p := ⟨w.heap.size + 1, 0, none⟩) (by simp; omega) _).setCell (p := ⟨w.heap.size + 1 + 1, 0, none⟩) (by simp; omega) _).setCell (p := ⟨w.heap.size + 1 + 1 + 1, 0, none⟩) (by simp; omega) _, fun b hb => ?_⟩
      have hbn : b < w.heap.size := by
        simp only [List.mem_cons, List.not_mem_nil, or_false] at hb
        rcases hb with rfl | rfl | rfl <;> omega
      exact (Below.heap_setCell _ _ _ _ (show b ≠ w.heap.size + 1 + 1 + 1 by omega)).trans ((Below.heap_setCell _ _ _ _ (show b ≠ w.heap.size + 1 + 1 by omega)).trans (Below.heap_setCell _ _ _ _ (show b ≠ w.heap.size + 1 by omega))))
    clear hI1 b1 b2 b3 hb1 HCL a0
    obtain ⟨Y, hY⟩ : ∃ z, X.S.cost x = z := ⟨_, rfl⟩
    have HYF := Lib.hid hY
    rw [hY] at HN HKN ⊢
    clear hY
    cases A with
    | none =>
      have hE : chF X.S.cost none x = some (x, Y) := by rw [← HYF.out]; rfl
      have HE2 := Lib.hid (HE.out.trans hE)
      simp only [chB] at e1 e2 e3
      clear hE
      gi_wp2
      refine ⟨(ko_below HB1.out).trans (((KeepsOthers.setCell _ _ _).trans (KeepsOthers.setCell _ _ _)).trans (KeepsOthers.setCell _ _ _)), kpW_t HKB.out HKN.out, ?_⟩
      show FW _ _ _ _ _ (ciL _ _ _ _ ((pre ++ [x]).foldl (chF X.S.cost) none)) _
      rw [HE2.out]
      exact HN.out
    | some yc =>
      obtain ⟨y, c⟩ := yc
      simp only [chB] at e1 e2 e3
      by_cases hlt : Y < c
      · have hE : chF X.S.cost (some (y, c)) x = some (x, Y) := by rw [← HYF.out]; exact if_pos (by rw [HYF.out]; exact hlt)
        have HE2 := Lib.hid (HE.out.trans hE)
        clear hE
        gi_wp2
        refine ⟨(ko_below HB1.out).trans (((KeepsOthers.setCell _ _ _).trans (KeepsOthers.setCell _ _ _)).trans (KeepsOthers.setCell _ _ _)), kpW_t HKB.out HKN.out, ?_⟩
        show FW _ _ _ _ _ (ciL _ _ _ _ ((pre ++ [x]).foldl (chF X.S.cost) none)) _
        rw [HE2.out]
        exact HN.out
      · have hE : chF X.S.cost (some (y, c)) x = some (y, c) := if_neg (by rw [HYF.out]; exact hlt)
        have HE2 := Lib.hid (HE.out.trans hE)
        clear hE
        gi_wp2
        refine ⟨ko_below HB1.out, HKB.out, ?_⟩
        show FW _ _ _ _ _ (ciL _ _ _ _ ((pre ++ [x]).foldl (chF X.S.cost) none)) _
        rw [HE2.out]
        exact HI1.out
  case done =>
    rintro D ys Wt hD hys hI hK
    rw [hys, HR.out] at hI
    have HI := Lib.hid hI
    have HM : Hid (Marks Wt w5.heap.size [D]) := Lib.hid ⟨by simp, fun E hE => by rw [List.mem_singleton.1 hE]; exact ⟨hD, hK⟩⟩
    clear hI hK hys
    simp only [Exit.inBlock, Exit.then]
    go_wp2_with fail
    obtain ⟨r1, r2, r3, hr⟩ := chB_form R
    have HRR := Lib.hid hr
    have HF : Hid (∀ u, FW X w0 w B M (ciL w.heap.size c2 B (.func (.func 75) #[] #[.pointer (some ⟨c2, 0, none⟩)]) R) u → (u.cell? ⟨w.heap.size + 1, 0, none⟩ = some (.int .i64 r1) ∧ u.cell? ⟨w.heap.size + 1 + 1, 0, none⟩ = some (.int .i64 r2) ∧ u.cell? ⟨w.heap.size + 1 + 1 + 1, 0, none⟩ = some (.bool r3)) ∧
        (u.frozen? ⟨w.heap.size + 1, 0, none⟩ = false ∧ u.frozen? ⟨w.heap.size + 1 + 1, 0, none⟩ = false ∧ u.frozen? ⟨w.heap.size + 1 + 1 + 1, 0, none⟩ = false) ∧
        FW X w0 w B M (ciL w.heap.size c2 B (.func (.func 75) #[] #[.pointer (some ⟨c2, 0, none⟩)]) R) (u.setCell ⟨w.heap.size + 1, 0, none⟩ (.int .i64 r1)) ∧ FW X w0 w B M (ciL w.heap.size c2 B (.func (.func 75) #[] #[.pointer (some ⟨c2, 0, none⟩)]) R) (u.setCell ⟨w.heap.size + 1 + 1, 0, none⟩ (.int .i64 r2)) ∧ FW X w0 w B M (ciL w.heap.size c2 B (.func (.func 75) #[] #[.pointer (some ⟨c2, 0, none⟩)]) R) (u.setCell ⟨w.heap.size + 1 + 1 + 1, 0, none⟩ (.bool r3))) := Lib.hid fun u hu => by
      have b1 := hu.fix (w.heap.size + 1, #[(chB R).1], 3) (by simp [ciL])
      have b2 := hu.fix (w.heap.size + 1 + 1, #[(chB R).2.1], 3) (by simp [ciL])
      have b3 := hu.fix (w.heap.size + 1 + 1 + 1, #[(chB R).2.2], 4) (by simp [ciL])
      have hz := HSZ.out
      simp only [hr] at b1 b2 b3
      refine ⟨⟨by have := cell_of_row u (w.heap.size + 1) 0 _ 3 (0, 0) b1; simpa using this, by have := cell_of_row u (w.heap.size + 1 + 1) 0 _ 3 (0, 0) b2; simpa using this, by have := cell_of_row u (w.heap.size + 1 + 1 + 1) 0 _ 4 (0, 0) b3; simpa using this⟩, ⟨by simp [World.frozen?, b1], by simp [World.frozen?, b2], by simp [World.frozen?, b3]⟩, ?_, ?_, ?_⟩
      · refine hu.put (b := w.heap.size + 1) (cs := #[(chB R).1]) (t := 3) (by simp [ciL]) (by decide) hz.2.2.2.2.2.1 (by omega) fun x hx => ?_
        by_cases he : x.1 = w.heap.size + 1
        · refine .inl ?_
          simp only [ciL, List.mem_cons, List.not_mem_nil, or_false] at hx
          rcases hx with rfl | rfl | rfl | rfl | rfl <;> simp [hr] at he ⊢ <;> omega
        · exact .inr ⟨hx, he⟩
      · refine hu.put (b := w.heap.size + 1 + 1) (cs := #[(chB R).2.1]) (t := 3) (by simp [ciL]) (by decide) hz.2.2.2.2.2.1 (by omega) fun x hx => ?_
        by_cases he : x.1 = w.heap.size + 1 + 1
        · refine .inl ?_
          simp only [ciL, List.mem_cons, List.not_mem_nil, or_false] at hx
          rcases hx with rfl | rfl | rfl | rfl | rfl <;> simp [hr] at he ⊢ <;> omega
        · exact .inr ⟨hx, he⟩
      · refine hu.put (b := w.heap.size + 1 + 1 + 1) (cs := #[(chB R).2.2]) (t := 4) (by simp [ciL]) (by decide) hz.2.2.2.2.2.1 (by omega) fun x hx => ?_
        by_cases he : x.1 = w.heap.size + 1 + 1 + 1
        · refine .inl ?_
          simp only [ciL, List.mem_cons, List.not_mem_nil, or_false] at hx
          rcases hx with rfl | rfl | rfl | rfl | rfl <;> simp [hr] at he ⊢ <;> omega
        · exact .inr ⟨hx, he⟩
    refine wp_region_any (by kernel_rfl) (plan_guarded_any (γ := Unit) [4, 5, 6] (fun _ => ceCv w.heap.size (.int .i64 r1) (.int .i64 r2) (.bool r3)) (fun _ _ u => FW X w0 w B M (ciL w.heap.size c2 B (.func (.func 75) #[] #[.pointer (some ⟨c2, 0, none⟩)]) R) u ∧ KeepsOthers Wt u) () (by kernel_rfl) (by kernel_rfl) (by kernel_rfl) (by kernel_rfl) ?_ ?_ ?_ ?_)
    · intro t ht
      simp only [List.mem_cons, List.not_mem_nil, or_false] at ht
      rcases ht with rfl | rfl | rfl <;> rfl
    · exact ⟨HI.out.up ((Below.refl Wt.heap.size Wt).drew), ⟨Nat.le_refl _, fun _ _ h _ => h⟩⟩
    · refine allOps_array ?_
      refine ⟨?_, ?_, ?_, ?_, ?_, ?_, trivial⟩ <;> intro done g u hS hu hdep _ <;> obtain ⟨⟨e1, e2, e3⟩, ⟨f1, f2, f3⟩, s1, s2, s3⟩ := HF.out u hS.1
      · exact sameQ (T := fun u => FW X w0 w B M (ciL w.heap.size c2 B (.func (.func 75) #[] #[.pointer (some ⟨c2, 0, none⟩)]) R) u ∧ KeepsOthers Wt u) hS 23 rfl rfl (by simp [go_sem, evalBy, ceCv, e1])
      · exact sameQ (T := fun u => FW X w0 w B M (ciL w.heap.size c2 B (.func (.func 75) #[] #[.pointer (some ⟨c2, 0, none⟩)]) R) u ∧ KeepsOthers Wt u) hS 24 rfl rfl (by simp [go_sem, evalBy, ceCv, e2])
      · exact sameQ (T := fun u => FW X w0 w B M (ciL w.heap.size c2 B (.func (.func 75) #[] #[.pointer (some ⟨c2, 0, none⟩)]) R) u ∧ KeepsOthers Wt u) hS 25 rfl rfl (by simp [go_sem, evalBy, ceCv, e3])
      · exact sameS (T := fun u => FW X w0 w B M (ciL w.heap.size c2 B (.func (.func 75) #[] #[.pointer (some ⟨c2, 0, none⟩)]) R) u ∧ KeepsOthers Wt u) (u' := u.setCell ⟨w.heap.size + 1, 0, none⟩ (.int .i64 r1)) ⟨s1, hS.2.trans (KeepsOthers.setCell _ _ _)⟩ rfl rfl (by simp [go_sem, evalBy, ceCv, e1, f1])
      · exact sameS (T := fun u => FW X w0 w B M (ciL w.heap.size c2 B (.func (.func 75) #[] #[.pointer (some ⟨c2, 0, none⟩)]) R) u ∧ KeepsOthers Wt u) (u' := u.setCell ⟨w.heap.size + 1 + 1, 0, none⟩ (.int .i64 r2)) ⟨s2, hS.2.trans (KeepsOthers.setCell _ _ _)⟩ rfl rfl (by simp [go_sem, evalBy, ceCv, e2, f2])
      · exact sameS (T := fun u => FW X w0 w B M (ciL w.heap.size c2 B (.func (.func 75) #[] #[.pointer (some ⟨c2, 0, none⟩)]) R) u ∧ KeepsOthers Wt u) (u' := u.setCell ⟨w.heap.size + 1 + 1 + 1, 0, none⟩ (.bool r3)) ⟨s3, hS.2.trans (KeepsOthers.setCell _ _ _)⟩ rfl rfl (by simp [go_sem, evalBy, ceCv, e3, f3])
    · intro g u hS
      have hm : Marks u w5.heap.size [D] := ⟨by simp, fun E hE => ⟨(HM.out.2 E hE).1, hS.2.same _ _ (HM.out.2 E hE).2 rfl⟩⟩
      have HS := Lib.hid hS
      have HMM := Lib.hid hm
      clear hS hm
      simp [putAll, Act.put, ceCv]
      go_wp2_with fail
      refine leaves_marks [D] u HMM.out (fun w' hk => ?_)
      have hf := HS.out.1.cellsK (N := w5.heap.size) (by have := HSZ.out; omega) (by have := HSZ.out; omega) HSZ.out.1 hk
      obtain ⟨⟨e1, e2, e3⟩, _⟩ := HF.out _ hf
      exact ⟨.tuple #[.int .i64 r1, .int .i64 r2, .bool r3], by simp [results, Tryd.results73, go_sem, e1, e2, e3], by rw [HRR.out], hf.lk, hf.gr⟩
  case stop =>
    rintro D c pre W _ _ h _
    exact h.elim
end Go.Proofs.YtijjkiogmlannaaDoor
