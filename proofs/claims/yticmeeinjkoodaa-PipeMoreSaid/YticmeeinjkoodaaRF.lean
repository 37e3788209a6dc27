/- Pipes: how warm a loop is after some hours, by the specification. -/
import Derived.Test.YticmeeinjkoodaaRE
namespace Go.Proofs.Yticmeeinjkoodaa
open Go.RowKit Go.Shelf

theorem fillS {w : World} {B : Nat} {a b : Value} {t : TypeId} (h : w.heap[B]? = some (.cells #[a, b] t (0, 0))) (v0 v1 : Value) :
    ∃ w', w.setCells B 0 (#[v0, v1] : Array Value).toList = w' ∧ w.there B 0 (#[v0, v1] : Array Value).size ∧ w'.heap[B]? = some (.cells #[v0, v1] t (0, 0)) ∧ (∀ j, j ≠ B → w'.heap[j]? = w.heap[j]?) ∧ (∀ n, n ≤ B → Below n w w') := by
  have f : ((w.setCell ⟨B, 0, none⟩ v0).setCell ⟨B, 1, none⟩ v1).heap[B]? = some (.cells #[v0, v1] t (0, 0)) := by simpa using blk_set (blk_set h 0 v0) 1 v1
  exact ⟨_, rfl, there_block h (by simp), f, fun j hj => (Below.heap_setCell _ _ _ _ hj).trans (Below.heap_setCell _ _ _ _ hj), fun n hn => ((Below.refl n w).setCell (p := ⟨B, 0, none⟩) hn _).setCell (p := ⟨B, 1, none⟩) hn _⟩
theorem one2 {v0 v1 : Value} (hv : v0.oneCell' = true ∧ v1.oneCell' = true) : (#[v0, v1] : Array Value).all (·.oneCell') = true := by
  obtain ⟨h0, h1⟩ := hv
  simp [h0, h1]
theorem sp_info : (Try.prog.info? 47).map (·.size) = some 2 := by kernel_rfl
/-- The memory of the specification's Warm. -/
structure WS (w0 : World) (s : Nat) (nv lo : Array Value) (S1 S2 : Int) (L1 L2 : List Th) (done : Nat → Bool) (q : Value × Value) (u : World) : Prop where
  bel : Below s w0 u
  sz : s + 3 ≤ u.heap.size
  z3 : u.heap[s]? = some (.cells nv 26 (0, 0))
  z7 : u.heap[s + 1 + 1]? = some (.cells lo 49 (0, 0))
  z6 : u.heap[s + 1]? = some (.cells (if done 21 then #[.int .i64 S1, .int .i64 S2] else #[.int .i64 0, .int .i64 0]) 47 (0, 0))
  x1 : done 7 = true → RowIs thR 54 s L1 q.1 u
  x2 : done 17 = true → RowIs thR 54 s L2 q.2 u
section
variable {w0 w : World} {s : Nat} {nv lo : Array Value} {S1 S2 : Int} {L1 L2 : List Th} {done : Nat → Bool} {ops : Array Oper} {cv : Value × Value → Tmp → Value} {i : Nat} {g : Value × Value} {o : Oper}
theorem WS.up (h : WS w0 s nv lo S1 S2 L1 L2 done g w) {w' : World} (hb : Below w.heap.size w w') : WS w0 s nv lo S1 S2 L1 L2 done g w' :=
  ⟨h.bel.trans (hb.mono (by have := h.sz; omega)), by have := h.sz; have := hb.size; omega, (hb.block _ (heapsz h.z3)).trans h.z3, (hb.block _ (heapsz h.z7)).trans h.z7, (hb.block _ (heapsz h.z6)).trans h.z6, fun hd => (h.x1 hd).below hb, fun hd => (h.x2 hd).below hb⟩
abbrev AskW (w0 : World) (s : Nat) (nv lo : Array Value) (S1 S2 : Int) (L1 L2 : List Th) (ops : Array Oper) (cv : Value × Value → Tmp → Value) (done : Nat → Bool) (g : Value × Value) (w : World) (i : Nat) (o : Oper) : Prop :=
  Region.wanted o (yieldedBy ops (cv g)) = true ∧ Yield Try.prog (fun v w' => ∃ g', WS w0 s nv lo S1 S2 L1 L2 (updB done i) g' w' ∧ (∀ d, o.dst = some d → cv g' d = v) ∧ ∀ t, o.dst ≠ some t → cv g' t = cv g t) ((execOp (evalBy (cv g)) o).run Try.prog w)
theorem WS.did (h : WS w0 s nv lo S1 S2 L1 L2 done g w) (h1 : i ≠ 21) (h2 : i ≠ 7) (h3 : i ≠ 17) : WS w0 s nv lo S1 S2 L1 L2 (updB done i) g w :=
  ⟨h.bel, h.sz, h.z3, h.z7, by rw [upd_ne h1]; exact h.z6, by rw [upd_ne h2]; exact h.x1, by rw [upd_ne h3]; exact h.x2⟩
theorem quietW (h : WS w0 s nv lo S1 S2 L1 L2 done g w) (d : Tmp) (hd : o.dst = some d) (h1 : i ≠ 21) (h2 : i ≠ 7) (h3 : i ≠ 17) (hg : Region.wanted o (yieldedBy ops (cv g)) = true)
    (he : (execOp (evalBy (cv g)) o).run Try.prog w = .ok (.value (cv g d)) w) : AskW w0 s nv lo S1 S2 L1 L2 ops cv done g w i o := by
  refine ⟨hg, ?_⟩
  rw [he]
  exact ⟨g, h.did h1 h2 h3, fun e hE => by rw [hd] at hE; injection hE with hE; subst hE; rfl, fun _ _ => rfl⟩
theorem callW (h : WS w0 s nv lo S1 S2 L1 L2 done g w) (d : Tmp) (hd : o.dst = some d) (h1 : i ≠ 21) (h2 : i ≠ 7) (h3 : i ≠ 17) (hg : Region.wanted o (yieldedBy ops (cv g)) = true) (f : FuncId) (args : Array Value)
    (he : (execOp (evalBy (cv g)) o).run Try.prog w = .ok (.enter f args) w) (hc : Calls Try.prog f args w fun e w' => e = .returned (cv g d) ∧ Below w.heap.size w w') : AskW w0 s nv lo S1 S2 L1 L2 ops cv done g w i o := by
  refine ⟨hg, ?_⟩
  rw [he]
  show Calls Try.prog f args w _
  refine hc.mono ?_
  rintro e w' ⟨rfl, hb⟩
  exact ⟨_, rfl, g, (h.up hb).did h1 h2 h3, fun e hE => by rw [hd] at hE; injection hE with hE; subst hE; rfl, fun _ _ => rfl⟩
theorem listW1 (h : WS w0 s nv lo S1 S2 L1 L2 done g w) (d : Tmp) (hd : o.dst = some d) (hg : Region.wanted o (yieldedBy ops (cv g)) = true) (f : FuncId) (args : Array Value)
    (hcd : ∀ v, cv (v, g.2) d = v) (hct : ∀ v t, t ≠ d → cv (v, g.2) t = cv g t)
    (he : (execOp (evalBy (cv g)) o).run Try.prog w = .ok (.enter f args) w) (hc : Calls Try.prog f args w fun e w' => ∃ v, e = .returned v ∧ Below w.heap.size w w' ∧ RowIs thR 54 w.heap.size L1 v w') : AskW w0 s nv lo S1 S2 L1 L2 ops cv done g w 7 o := by
  refine ⟨hg, ?_⟩
  rw [he]
  show Calls Try.prog f args w _
  refine hc.mono ?_
  rintro e w' ⟨v, rfl, hb, hx⟩
  have hu := h.up hb
  exact ⟨_, rfl, (v, g.2), ⟨hu.bel, hu.sz, hu.z3, hu.z7, by rw [upd_ne (by decide)]; exact hu.z6, fun _ => hx.low (by have := h.sz; omega), by rw [upd_ne (by decide)]; exact hu.x2⟩, fun e hE => by rw [hd] at hE; injection hE with hE; subst hE; exact hcd v, fun t ht => hct v t (fun e => ht (by rw [hd, e]))⟩
theorem listW2 (h : WS w0 s nv lo S1 S2 L1 L2 done g w) (d : Tmp) (hd : o.dst = some d) (hg : Region.wanted o (yieldedBy ops (cv g)) = true) (f : FuncId) (args : Array Value)
    (hcd : ∀ v, cv (g.1, v) d = v) (hct : ∀ v t, t ≠ d → cv (g.1, v) t = cv g t)
    (he : (execOp (evalBy (cv g)) o).run Try.prog w = .ok (.enter f args) w) (hc : Calls Try.prog f args w fun e w' => ∃ v, e = .returned v ∧ Below w.heap.size w w' ∧ RowIs thR 54 w.heap.size L2 v w') : AskW w0 s nv lo S1 S2 L1 L2 ops cv done g w 17 o := by
  refine ⟨hg, ?_⟩
  rw [he]
  show Calls Try.prog f args w _
  refine hc.mono ?_
  rintro e w' ⟨v, rfl, hb, hx⟩
  have hu := h.up hb
  exact ⟨_, rfl, (g.1, v), ⟨hu.bel, hu.sz, hu.z3, hu.z7, by rw [upd_ne (by decide)]; exact hu.z6, by rw [upd_ne (by decide)]; exact hu.x1, fun _ => hx.low (by have := h.sz; omega)⟩, fun e hE => by rw [hd] at hE; injection hE with hE; subst hE; exact hcd v, fun t ht => hct v t (fun e => ht (by rw [hd, e]))⟩
theorem storeW (h : WS w0 s nv lo S1 S2 L1 L2 done g w) (hd : o.dst = none) (hu : done 21 = false) (hg : Region.wanted o (yieldedBy ops (cv g)) = true)
    (he : w.heap[s + 1]? = some (.cells #[.int .i64 0, .int .i64 0] 47 (0, 0)) → ∃ w2, (execOp (evalBy (cv g)) o).run Try.prog w = .ok .skip w2 ∧ (∀ n, n ≤ s + 1 → Below n w w2) ∧ w2.heap[s + 1]? = some (.cells #[.int .i64 S1, .int .i64 S2] 47 (0, 0)) ∧ (∀ j, j ≠ s + 1 → w2.heap[j]? = w.heap[j]?)) : AskW w0 s nv lo S1 S2 L1 L2 ops cv done g w 21 o := by
  refine ⟨hg, ?_⟩
  have hb := h.z6
  rw [hu] at hb
  obtain ⟨w2, hr, hbb, hz, hj⟩ := he hb
  rw [hr]
  have e1 : updB done 21 21 = true := by simp [updB]
  have hk : ∀ (b : Nat) (cs : Array Value), s ≤ b → w.heap[b]? = some (.cells cs 54 (0, 0)) → w2.heap[b]? = some (.cells cs 54 (0, 0)) := fun b cs _ hc => (hj b (fun e => by
    rw [e, hb] at hc
    injection hc with hc
    injection hc with _ hc
    exact absurd hc (by decide))).trans hc
  exact ⟨g, ⟨h.bel.trans (hbb s (by omega)), by have := h.sz; have := (hbb 0 (by omega)).size; have := heapsz hz; have := (Array.getElem?_eq_some_iff.1 ((hj (s + 1 + 1) (by omega)).trans h.z7)).1; omega, (hj s (by omega)).trans h.z3, (hj _ (by omega)).trans h.z7, by rw [e1]; exact hz, by rw [upd_ne (by decide)]; exact fun hd => (h.x1 hd).keep hk, by rw [upd_ne (by decide)]; exact fun hd => (h.x2 hd).keep hk⟩, fun e hE => by rw [hd] at hE; exact absurd hE (by simp), fun _ _ => rfl⟩
end
def weCv (s L H : Nat) (nv lv : Value) (x1 x2 : Int) (S1 S2 : Ht) (q : Value × Value) : Tmp → Value
  | 1 => .int .i64 L
  | 2 => .int .i64 H
  | 3 => .pointer (some ⟨s, 0, none⟩)
  | 6 => .pointer (some ⟨s + 1, 0, none⟩)
  | 7 => .pointer (some ⟨s + 1 + 1, 0, none⟩)
  | 13 => lv
  | 14 => .pointer (some ⟨s + 1 + 1, 0, none⟩)
  | 15 => .pointer (some ⟨s + 1 + 1, 0, none⟩)
  | 16 => .int .i64 x1
  | 17 => nv
  | 18 => .int .i64 L
  | 19 => .int .i64 H
  | 20 => q.1
  | 21 => htV S1
  | 22 => .int .i64 S1.w
  | 23 => lv
  | 24 => .pointer (some ⟨s + 1 + 1, 0, none⟩)
  | 25 => .pointer (some ⟨s + 1 + 1, 1, none⟩)
  | 26 => .int .i64 x2
  | 27 => nv
  | 28 => .int .i64 L
  | 29 => .int .i64 H
  | 30 => q.2
  | 31 => htV S2
  | 32 => .int .i64 S2.w
  | 33 => .agg #[.int .i64 S1.w, .int .i64 S2.w]
  | _ => default
theorem end_play2 {N : Nt} (K : NtOk N) {L : Nat} {l : Lp} (hL : N.lo[L]? = some l) (most : Bool) {H : Nat} (hH : H ≤ N.fr.length) {x : Int} (hx : l.wl ≤ x ∧ x ≤ l.wh) (v : Value) (u : World) {B : Nat} (hr : RowIs thR 54 B ((endT l most N.fr).take H) v u) :
    Calls Try.prog 28 #[lpV l, .int .i64 x, v] u fun e w' => e = .returned (htV (playI l x ((endT l most N.fr).take H))) ∧ Below u.heap.size u w' := by
  obtain ⟨A, c, rfl, hA, _⟩ := hr.at_ (k := 3) (fun _ => rfl)
  have hlen : ((endT l most N.fr).take H).length ≤ N.fr.length := by rw [List.length_take]; omega
  have h72 := K.h72
  have KL := K.lo l (List.mem_of_getElem? hL)
  have hw := KL.w
  exact rplay_any KL ⟨by omega, by omega⟩ u rfl (by omega) (ths_ok K (List.mem_of_getElem? hL) (end_ok K (List.mem_of_getElem? hL) most H) hlen) hA
theorem lp12 {w : World} {B : Nat} {l : Lp} {t : TypeId} (h : w.heap[B]? = some (.cells (lpC l) t (0, 0))) : w.cell? ⟨B, 0, none⟩ = some (.int .i64 l.wl) ∧ w.cell? ⟨B, 1, none⟩ = some (.int .i64 l.wh) ∧ w.cell? ⟨B, 2, none⟩ = some (.int .i64 l.ll) ∧ w.cell? ⟨B, 3, none⟩ = some (.int .i64 l.lh) ∧ w.cell? ⟨B, 4, none⟩ = some (.int .i64 l.rl) ∧ w.cell? ⟨B, 5, none⟩ = some (.int .i64 l.rh) ∧ w.cell? ⟨B, 6, none⟩ = some (.int .i64 l.co) ∧ w.cell? ⟨B, 7, none⟩ = some (.int .i64 l.ma) ∧ w.cell? ⟨B, 8, none⟩ = some (.int .i64 l.gr) ∧ w.cell? ⟨B, 9, none⟩ = some (.int .i64 l.fe) ∧ w.cell? ⟨B, 10, none⟩ = some (.int .i64 l.fl) ∧ w.cell? ⟨B, 11, none⟩ = some (.int .i64 l.fh) := by
  have c := fun k => cell_of_row w B k _ t (0, 0) h
  exact ⟨c 0, c 1, c 2, c 3, c 4, c 5, c 6, c 7, c 8, c 9, c 10, c 11⟩
set_option maxRecDepth 100000 in
set_option maxHeartbeats 8000000 in
theorem rwarm_any (V : NV) (N : Nt) {L : Nat} {l : Lp} (H : Nat) (w : World) (hN : NtAt w w.heap.size V N) (hK : NtOk N) (hL : N.lo[L]? = some l) (hH : H ≤ N.fr.length) :
    Calls Try.prog 65 #[nvV V, .int .i64 L, .int .i64 H] w fun e w' => e = .returned (.agg #[.int .i64 (wK l false N.fr 0 H), .int .i64 (wK l false N.fr 1 H)]) ∧ Below w.heap.size w w' := by
  have HK := Lib.hid hK; have HL := Lib.hid hL; have HH := Lib.hid hH
  obtain ⟨z, zf, hb⟩ := two_new w (.cells (nvC V) 26) (.cells #[.int .i64 0, .int .i64 0] 47)
  have hs1 : ((w.alloc (.cells (nvC V) 26)).alloc (.cells #[.int .i64 0, .int .i64 0] 47)).heap.size = w.heap.size + 1 + 1 := by simp
  obtain ⟨w1, hw1⟩ : ∃ z, (w.alloc (.cells (nvC V) 26)).alloc (.cells #[.int .i64 0, .int .i64 0] 47) = z := ⟨_, rfl⟩
  rw [hw1] at z zf hb hs1
  have zl := heap_alloc_new w1 (.cells (lpC l) 49)
  have hbl := (Below.refl w1.heap.size w1).alloc (Nat.le_refl _) (.cells (lpC l) 49)
  have hs2 : (w1.alloc (.cells (lpC l) 49)).heap.size = w1.heap.size + 1 := by simp
  obtain ⟨w2, hw2⟩ : ∃ z, w1.alloc (.cells (lpC l) 49) = z := ⟨_, rfl⟩
  rw [hw2] at zl hbl hs2
  rw [hs1] at zl hs2
  have HW := Lib.hid hw1; have HW2 := Lib.hid hw2
  obtain ⟨S1, hS1⟩ : ∃ z, playI l l.wl ((endT l true N.fr).take H) = z := ⟨_, rfl⟩
  obtain ⟨S2, hS2⟩ : ∃ z, playI l l.wh ((endT l false N.fr).take H) = z := ⟨_, rfl⟩
  obtain ⟨hE1, hE2⟩ := end_play l N.fr H hH
  rw [hS1] at hE1
  rw [hS2] at hE2
  have HS1 := Lib.hid hS1; have HS2 := Lib.hid hS2
  rw [← hE1, ← hE2]
  have hbw := hb.trans (hbl.mono hb.size)
  have HNU : Hid (∀ u : World, Below w.heap.size w2 u → w.heap.size ≤ u.heap.size → NtAt u u.heap.size V N) := Lib.hid fun u hu hs => hN.next (hbw.trans hu) hs
  have HWS : Hid (∀ u : World, u = w2 ∨ u = { w2 with drawn := w2.drawn + 1 } → WS w2 w.heap.size (nvC V) (lpC l) S1.w S2.w ((endT l true N.fr).take H) ((endT l false N.fr).take H) (fun _ => false) (.int .i64 0, .int .i64 0) u) := Lib.hid fun u hu => by
    have e : u.heap = w2.heap := by rcases hu with rfl | rfl <;> rfl
    have e2 : Below w.heap.size w2 u := by
      rcases hu with rfl | rfl
      · exact Below.refl _ _
      · exact (Below.refl _ _).drew
    exact ⟨e2, by rw [e, hs2]; exact Nat.le_refl _, by rw [e]; exact (hbl.block _ (heapsz z)).trans z, by rw [e]; exact zl, by rw [e]; exact (hbl.block _ (heapsz zf)).trans zf, fun h => by simp at h, fun h => by simp at h⟩
  obtain ⟨al, nl, cl, af, nf, cf, aw, nw, cw⟩ := V
  obtain ⟨v0, v1, v2⟩ := box3_cells z
  have hml := hN.ml; have hmf := hN.mf; have hmw := hN.mw
  unfold maxLen at hml hmf hmw
  simp only at hml hmf hmw v0 v1 v2
  have HNL := Lib.hid hN.nl
  obtain ⟨b1, o1, hal1, hb1, ⟨c0, c1⟩, ⟨c2, c3⟩, ⟨c4, c5⟩, ⟨c6, c7, c8, c9⟩, c10, c11⟩ := lp_el (hN.up hb).lo HL.out
  have hal2 : al = some ⟨b1, o1, none⟩ := hal1
  subst hal2
  have hLn : L < nl := by have h1 := HNL.out; have h2 := (List.getElem?_eq_some_iff.1 HL.out).1; first | omega | (simp only at h1; omega)
  have L0 : (0 : Int) ≤ (L : Int) := by omega
  have L1 : (L : Int) < (nl : Int) := by omega
  have HB := Lib.hid hbw
  have HKW := Lib.hid (HK.out.lo l (List.mem_of_getElem? HL.out)).w
  clear hal1 hb1 hw1 hw2 hS1 hS2 hE1 hE2 hb hbl hbw hN hK hL hH z zf zl hs1 hs2 v1 v2
  rw [← HW.out] at v0 c0 c1 c2 c3 c4 c5 c6 c7 c8 c9 c10 c11
  go_enter Try.func65, Try.ntmps65
  go_wp2_with fail
  rw [show ((w.alloc (.cells #[.slice (some ⟨b1, o1, none⟩) nl cl, .slice af nf cf, .slice aw nw cw] 26)).alloc (.cells #[.int .i64 0, .int .i64 0] 47)).alloc (.cells #[.int .i64 l.wl, .int .i64 l.wh, .int .i64 l.ll, .int .i64 l.lh, .int .i64 l.rl, .int .i64 l.rh, .int .i64 l.co, .int .i64 l.ma, .int .i64 l.gr, .int .i64 l.fe, .int .i64 l.fl, .int .i64 l.fh] 49) = w2 from (congrArg (fun u : World => u.alloc (.cells (lpC l) 49)) HW.out).trans HW2.out]
  clear v0 c0 c1 c2 c3 c4 c5 c6 c7 c8 c9 c10 c11
  refine wp_region_any (by kernel_rfl) (plan_guarded_any (γ := Value × Value) [1, 2, 3, 6, 7] (weCv w.heap.size L H (nvV ⟨some ⟨b1, o1, none⟩, nl, cl, af, nf, cf, aw, nw, cw⟩) (lpV l) l.wl l.wh S1 S2) (fun done q u => WS w2 w.heap.size (nvC ⟨some ⟨b1, o1, none⟩, nl, cl, af, nf, cf, aw, nw, cw⟩) (lpC l) S1.w S2.w ((endT l true N.fr).take H) ((endT l false N.fr).take H) done q u) (.int .i64 0, .int .i64 0) (by kernel_rfl) (by kernel_rfl) (by kernel_rfl) (by kernel_rfl) ?_ ?_ ?_ ?_)
  · intro t ht
    simp only [List.mem_cons, List.not_mem_nil, or_false] at ht
    rcases ht with rfl | rfl | rfl | rfl | rfl <;> first | rfl | (simp [weCv, World.size_alloc])
  · exact HWS.out _ (.inr rfl)
  · refine allOps_array ?_
    refine ⟨?_, ?_, ?_, ?_, ?_, ?_, ?_, ?_, ?_, ?_, ?_, ?_, ?_, ?_, ?_, ?_, ?_, ?_, ?_, ?_, ?_, ?_, trivial⟩
    · intro done q u hS hu hdep _
      obtain ⟨p0, p1, p2⟩ := box3_cells hS.z3
      obtain ⟨e0, e1, e2, e3, e4, e5, e6, e7, e8, e9, e10, e11⟩ := lp12 hS.z7
      refine quietW hS 13 rfl (by decide) (by decide) (by decide) rfl ?_
      simp [go_sem, evalBy, weCv, e0, e1, e2, e3, e4, e5, e6, e7, e8, e9, e10, e11]
    · intro done q u hS hu hdep _
      obtain ⟨p0, p1, p2⟩ := box3_cells hS.z3
      obtain ⟨e0, e1, e2, e3, e4, e5, e6, e7, e8, e9, e10, e11⟩ := lp12 hS.z7
      refine quietW hS 14 rfl (by decide) (by decide) (by decide) rfl ?_
      simp [go_sem, evalBy, weCv]
    · intro done q u hS hu hdep _
      obtain ⟨p0, p1, p2⟩ := box3_cells hS.z3
      obtain ⟨e0, e1, e2, e3, e4, e5, e6, e7, e8, e9, e10, e11⟩ := lp12 hS.z7
      refine quietW hS 15 rfl (by decide) (by decide) (by decide) rfl ?_
      simp [go_sem, evalBy, weCv]
    · intro done q u hS hu hdep _
      obtain ⟨p0, p1, p2⟩ := box3_cells hS.z3
      obtain ⟨e0, e1, e2, e3, e4, e5, e6, e7, e8, e9, e10, e11⟩ := lp12 hS.z7
      refine quietW hS 16 rfl (by decide) (by decide) (by decide) rfl ?_
      simp [go_sem, evalBy, weCv, e0]
    · intro done q u hS hu hdep _
      obtain ⟨p0, p1, p2⟩ := box3_cells hS.z3
      obtain ⟨e0, e1, e2, e3, e4, e5, e6, e7, e8, e9, e10, e11⟩ := lp12 hS.z7
      refine quietW hS 17 rfl (by decide) (by decide) (by decide) rfl ?_
      simp [go_sem, evalBy, weCv, p0, p1, p2]
    · intro done q u hS hu hdep _
      obtain ⟨p0, p1, p2⟩ := box3_cells hS.z3
      obtain ⟨e0, e1, e2, e3, e4, e5, e6, e7, e8, e9, e10, e11⟩ := lp12 hS.z7
      refine quietW hS 18 rfl (by decide) (by decide) (by decide) rfl ?_
      simp [go_sem, evalBy, weCv]
    · intro done q u hS hu hdep _
      obtain ⟨p0, p1, p2⟩ := box3_cells hS.z3
      obtain ⟨e0, e1, e2, e3, e4, e5, e6, e7, e8, e9, e10, e11⟩ := lp12 hS.z7
      refine quietW hS 19 rfl (by decide) (by decide) (by decide) rfl ?_
      simp [go_sem, evalBy, weCv]
    · intro done q u hS hu hdep _
      exact listW1 hS 20 rfl rfl 33 #[nvV ⟨some ⟨b1, o1, none⟩, nl, cl, af, nf, cf, aw, nw, cw⟩, .int .i64 L, .int .i64 H, .bool true] (fun _ => rfl) (fun v t ht => by unfold weCv; split <;> first | rfl | exact absurd rfl ht) (by simp [go_sem, evalBy, weCv]) (rend_any _ N H true u (HNU.out u hS.bel (by have := hS.sz; omega)) HL.out HH.out (by have := HK.out.h72; omega))
    · intro done q u hS hu hdep _
      refine callW hS 21 rfl (by decide) (by decide) (by decide) rfl 28 #[lpV l, .int .i64 l.wl, q.1] (by simp [go_sem, evalBy, weCv]) ?_
      have h := end_play2 HK.out HL.out true HH.out (x := l.wl) (by have := HKW.out; omega) q.1 u (hS.x1 (hdep ⟨7, .data⟩ (by simp) rfl))
      rw [HS1.out] at h
      exact h
    · intro done q u hS hu hdep _
      obtain ⟨p0, p1, p2⟩ := box3_cells hS.z3
      obtain ⟨e0, e1, e2, e3, e4, e5, e6, e7, e8, e9, e10, e11⟩ := lp12 hS.z7
      refine quietW hS 22 rfl (by decide) (by decide) (by decide) rfl ?_
      simp [go_sem, evalBy, weCv]
    · intro done q u hS hu hdep _
      obtain ⟨p0, p1, p2⟩ := box3_cells hS.z3
      obtain ⟨e0, e1, e2, e3, e4, e5, e6, e7, e8, e9, e10, e11⟩ := lp12 hS.z7
      refine quietW hS 23 rfl (by decide) (by decide) (by decide) rfl ?_
      simp [go_sem, evalBy, weCv, e0, e1, e2, e3, e4, e5, e6, e7, e8, e9, e10, e11]
    · intro done q u hS hu hdep _
      obtain ⟨p0, p1, p2⟩ := box3_cells hS.z3
      obtain ⟨e0, e1, e2, e3, e4, e5, e6, e7, e8, e9, e10, e11⟩ := lp12 hS.z7
      refine quietW hS 24 rfl (by decide) (by decide) (by decide) rfl ?_
      simp [go_sem, evalBy, weCv]
    · intro done q u hS hu hdep _
      obtain ⟨p0, p1, p2⟩ := box3_cells hS.z3
      obtain ⟨e0, e1, e2, e3, e4, e5, e6, e7, e8, e9, e10, e11⟩ := lp12 hS.z7
      refine quietW hS 25 rfl (by decide) (by decide) (by decide) rfl ?_
      simp [go_sem, evalBy, weCv]
    · intro done q u hS hu hdep _
      obtain ⟨p0, p1, p2⟩ := box3_cells hS.z3
      obtain ⟨e0, e1, e2, e3, e4, e5, e6, e7, e8, e9, e10, e11⟩ := lp12 hS.z7
      refine quietW hS 26 rfl (by decide) (by decide) (by decide) rfl ?_
      simp [go_sem, evalBy, weCv, e1]
    · intro done q u hS hu hdep _
      obtain ⟨p0, p1, p2⟩ := box3_cells hS.z3
      obtain ⟨e0, e1, e2, e3, e4, e5, e6, e7, e8, e9, e10, e11⟩ := lp12 hS.z7
      refine quietW hS 27 rfl (by decide) (by decide) (by decide) rfl ?_
      simp [go_sem, evalBy, weCv, p0, p1, p2]
    · intro done q u hS hu hdep _
      obtain ⟨p0, p1, p2⟩ := box3_cells hS.z3
      obtain ⟨e0, e1, e2, e3, e4, e5, e6, e7, e8, e9, e10, e11⟩ := lp12 hS.z7
      refine quietW hS 28 rfl (by decide) (by decide) (by decide) rfl ?_
      simp [go_sem, evalBy, weCv]
    · intro done q u hS hu hdep _
      obtain ⟨p0, p1, p2⟩ := box3_cells hS.z3
      obtain ⟨e0, e1, e2, e3, e4, e5, e6, e7, e8, e9, e10, e11⟩ := lp12 hS.z7
      refine quietW hS 29 rfl (by decide) (by decide) (by decide) rfl ?_
      simp [go_sem, evalBy, weCv]
    · intro done q u hS hu hdep _
      exact listW2 hS 30 rfl rfl 33 #[nvV ⟨some ⟨b1, o1, none⟩, nl, cl, af, nf, cf, aw, nw, cw⟩, .int .i64 L, .int .i64 H, .bool false] (fun _ => rfl) (fun v t ht => by unfold weCv; split <;> first | rfl | exact absurd rfl ht) (by simp [go_sem, evalBy, weCv]) (rend_any _ N H false u (HNU.out u hS.bel (by have := hS.sz; omega)) HL.out HH.out (by have := HK.out.h72; omega))
    · intro done q u hS hu hdep _
      refine callW hS 31 rfl (by decide) (by decide) (by decide) rfl 28 #[lpV l, .int .i64 l.wh, q.2] (by simp [go_sem, evalBy, weCv]) ?_
      have h := end_play2 HK.out HL.out false HH.out (x := l.wh) (by have := HKW.out; omega) q.2 u (hS.x2 (hdep ⟨17, .data⟩ (by simp) rfl))
      rw [HS2.out] at h
      exact h
    · intro done q u hS hu hdep _
      obtain ⟨p0, p1, p2⟩ := box3_cells hS.z3
      obtain ⟨e0, e1, e2, e3, e4, e5, e6, e7, e8, e9, e10, e11⟩ := lp12 hS.z7
      refine quietW hS 32 rfl (by decide) (by decide) (by decide) rfl ?_
      simp [go_sem, evalBy, weCv]
    · intro done q u hS hu hdep _
      obtain ⟨p0, p1, p2⟩ := box3_cells hS.z3
      obtain ⟨e0, e1, e2, e3, e4, e5, e6, e7, e8, e9, e10, e11⟩ := lp12 hS.z7
      refine quietW hS 33 rfl (by decide) (by decide) (by decide) rfl ?_
      simp [go_sem, evalBy, weCv]
    · intro done q u hS hu hdep _
      refine storeW hS rfl hu rfl (fun hb => ?_)
      obtain ⟨w2, h1, h2, h3, h4, h5⟩ := fillS hb (.int .i64 S1.w) (.int .i64 S2.w)
      exact ⟨w2, by rw [← h1]; exact exec_store_mid 47 _ _ rfl (w.heap.size + 1) #[.int .i64 S1.w, .int .i64 S2.w] rfl (by simp [evalBy, weCv]) h2 sp_info (one2 ⟨rfl, rfl⟩), h5, h3, h4⟩
  · intro q w3 hS
    have hz := hS.z6
    rw [if_pos (by decide)] at hz
    obtain ⟨e0, e1⟩ := two_cells hz
    have HB3 := Lib.hid (HB.out.trans hS.bel)
    clear hS hz
    simp [putAll, Act.put, weCv]
    go_wp2_with fail
    exact bodyPost_ret (v := .agg #[.int .i64 S1.w, .int .i64 S2.w]) (by simp [results, Try.results65, go_sem, e0, e1]) rfl ⟨rfl, HB3.out⟩
end Go.Proofs.Yticmeeinjkoodaa
