/- Stores: ships arrive, by the code. Stores: a week, step by step. -/
import Derived.Test.YtijjkiogmlannaaDoorVI
namespace Go.Proofs.YtijjkiogmlannaaDoor
open Go.RowKit Go.Shelf
attribute [local go_sem] Oper.semAt_some

variable {C : RC} {st : Gd} {ld : List Gd} {W : List Nat} {ss ls : List Gd} {qv sv lv : Value} {w : World}
def arCv (R n b o ns cs x k : Nat) (s : Shp) (V : Value) (A : Int) (F : Bool) : Tmp → Value
  | 2 => .pointer (some ⟨n, 0, none⟩)
  | 3 => .pointer (some ⟨n + 1, 0, none⟩)
  | 4 => .int .i64 (x : Int)
  | 11 => .pointer (some ⟨R, 0, none⟩)
  | 12 => .pointer (some ⟨R, 0, none⟩)
  | 13 => .pointer (some ⟨R, 0, none⟩)
  | 14 => .pointer (some ⟨R, 9, none⟩)
  | 15 => .slice (some ⟨b, o, none⟩) ns cs
  | 16 => .int .i64 (x : Int)
  | 17 => .pointer (some ⟨b, o + x * 5, none⟩)
  | 18 => sV s
  | 19 => .pointer (some ⟨R, 0, none⟩)
  | 20 => .pointer (some ⟨R, 0, none⟩)
  | 21 => .pointer (some ⟨R, 13, none⟩)
  | 22 => V
  | 23 => .int .i64 A
  | 24 => .int .i64 (k : Int)
  | 25 => .bool F
  | _ => undef
def noF : Nat → Value → World → Prop := fun _ _ _ => True
/-- While ships arrive: the boxes of the call, and the line. -/
structure ArI (C : RC) (st : Gd) (ld : List Gd) (ss ls : List Gd) (sv lv : Value) (n : Nat) (k : Nat) (N : Nat) (L : List Nat) (qv : Value) (Wt : World) : Prop where
  run : RunAt C st ld L ss ls qv sv lv Wt
  b2 : Wt.heap[n]? = some (.cells #[.pointer (some ⟨C.R, 0, none⟩)] 95 (0, 0))
  b3 : Wt.heap[n + 1]? = some (.cells #[.int .i64 (k : Int)] 3 (0, 0))
  bp : Wt.heap[n + 1 + 1]? = some (.cells #[.int .i64 (C.plan : Int)] 3 (0, 0))
  q3 : some (n + 1) ≠ qv.ownBlock
  qp : some (n + 1 + 1) ≠ qv.ownBlock
  sz : N ≤ Wt.heap.size
  low : C.R < n
theorem ArI.own {n k N : Nat} {L : List Nat} {A B : World} {row : Option Nat} {M : Nat} (h : ArI C st ld ss ls sv lv n k N L qv A) (hN : C.w0.heap.size ≤ M) (hg : A.grownBy B row) (hr : ∀ r, row = some r → M ≤ r ∧ ∃ o : Obj, A.heap[r]? = some o ∧ o.isCells = false) : ArI C st ld ss ls sv lv n k N L qv B := by
  have hc : ∀ (b : Nat) (cs : Array Value) (t : TypeId) (z : Nat × Nat), A.heap[b]? = some (.cells cs t z) → B.heap[b]? = some (.cells cs t z) := fun b cs t z hb => (hg.block b (Array.getElem?_eq_some_iff.1 hb).1 (fun e => by
    obtain ⟨_, o, h2, h3⟩ := hr b e.symm
    rw [hb] at h2
    injection h2 with h2
    rw [← h2] at h3
    cases h3)).trans hb
  exact ⟨h.run.own hN hg hr, hc _ _ _ _ h.b2, hc _ _ _ _ h.b3, hc _ _ _ _ h.bp, h.q3, h.qp, Nat.le_trans h.sz hg.size, h.low⟩
theorem ArI.below {n k N : Nat} {L : List Nat} {A B : World} (h : ArI C st ld ss ls sv lv n k N L qv A) (hb : Below A.heap.size A B) : ArI C st ld ss ls sv lv n k N L qv B :=
  ⟨h.run.below hb, (hb.block _ (heapsz h.b2)).trans h.b2, (hb.block _ (heapsz h.b3)).trans h.b3, (hb.block _ (heapsz h.bp)).trans h.bp, h.q3, h.qp, Nat.le_trans h.sz hb.size, h.low⟩
theorem ArI.push {n k N : Nat} {L L' : List Nat} {qv' : Value} {A B : World} (h : ArI C st ld ss ls sv lv n k N L qv A) (hr : RunAt C st ld L' ss ls qv' sv lv B) (hp : Psh C qv qv' A B) : ArI C st ld ss ls sv lv n k N L' qv' B := by
  have l2 := heapsz h.b2; have l3 := heapsz h.b3; have lp := heapsz h.bp
  have hl := h.low
  have q2 : some n ≠ qv.ownBlock := fun e => q_type h.run h.b2 (by decide) e.symm
  refine ⟨hr, (hp.blk _ l2 (by omega) q2).trans h.b2, (hp.blk _ l3 (by omega) h.q3).trans h.b3, (hp.blk _ lp (by omega) h.qp).trans h.bp, fun e => ?_, fun e => ?_, Nat.le_trans h.sz hp.size, h.low⟩
  · rcases hp.fresh with f | ⟨D, f, hD⟩
    · exact h.q3 (e.trans f)
    · rw [f] at e
      injection e with e
      omega
  · rcases hp.fresh with f | ⟨D, f, hD⟩
    · exact h.qp (e.trans f)
    · rw [f] at e
      injection e with e
      omega
theorem psh_keeps {L : List Nat} {qv' : Value} {A B : World} (K : C.Ok) (h : RunAt C st ld L ss ls qv sv lv A) (hp : Psh C qv qv' A B) : KeepsOthers A B ∧ Below C.w0.heap.size A B := by
  have hq : ∀ b, qv.ownBlock = some b → C.w0.heap.size ≤ b ∧ ∃ cs, A.heap[b]? = some (.cells cs 3 (0, 0)) := fun b e => by
    rcases h.q with ⟨rfl, _⟩ | ⟨g, off, cap, cs, rfl, h1, h2, _⟩
    · cases e
    · cases e
      exact ⟨h1, cs, h2⟩
  refine ⟨⟨hp.size, fun k o hk ho => ?_⟩, ⟨hp.os, hp.tape, hp.output, hp.size, fun k hk => hp.blk k (by have := h.bel.size; omega) (by have := K.R; omega) fun e => by have := (hq k e.symm).1; omega⟩⟩
  refine (hp.blk k (Array.getElem?_eq_some_iff.1 hk).1 (fun e => ?_) (fun e => ?_)).trans hk
  · rw [e, h.box] at hk
    injection hk with hk
    rw [← hk] at ho
    cases ho
  · obtain ⟨_, cs, hc⟩ := hq k e.symm
    rw [hc] at hk
    injection hk with hk
    rw [← hk] at ho
    cases ho
section
attribute [local irreducible] QT
set_option maxRecDepth 100000 in
set_option maxHeartbeats 8000000 in
theorem arrive_any (K : C.Ok) (h : RunAt C st ld W ss ls qv sv lv w) (hp : C.plan < 2 ^ C.X.ns) (hl : W.length ≤ 900) (k : Nat) :
    Calls Tryd.prog 67 #[.pointer (some ⟨C.R, 0, none⟩), .int .i64 (k : Int)] w fun e w' => e = .returned (.tuple #[]) ∧ ∃ qv', RunAt C st ld (W ++ C.X.S.comes C.plan C.ice k) ss ls qv' sv lv w' := by
  obtain ⟨z0, z1, hb1⟩ := two_new w (.cells #[.pointer (some ⟨C.R, 0, none⟩)] 95) (.cells #[.int .i64 (k : Int)] 3)
  obtain ⟨_, _, _, _, r12, _⟩ := run_cells (h.below hb1)
  obtain ⟨w2, hw2⟩ : ∃ z, (w.alloc (.cells #[.pointer (some ⟨C.R, 0, none⟩)] 95)).alloc (.cells #[.int .i64 (k : Int)] 3) = z := ⟨_, rfl⟩
  rw [hw2] at z0 z1 hb1
  have hsz2 : w2.heap.size = w.heap.size + 1 + 1 := by rw [← hw2]; simp
  have z2 := heap_alloc_new w2 (.cells #[.int .i64 (C.plan : Int)] 3)
  have hb2 := (Below.refl w2.heap.size w2).alloc (Nat.le_refl _) (.cells #[.int .i64 (C.plan : Int)] 3)
  have hq : ∀ b, qv.ownBlock = some b → b < w.heap.size := fun b e => by
    rcases h.q with ⟨rfl, _⟩ | ⟨g, off, cap, cs, rfl, _, hh, _⟩
    · cases e
    · cases e
      exact heapsz hh
  have hR := h.below hb1
  have HBW : Hid (C.w0.heap.size ≤ w2.heap.size) := Lib.hid hR.bel.size
  obtain ⟨w5, hw5⟩ : ∃ z, w2.alloc (.cells #[.int .i64 (C.plan : Int)] 3) = z := ⟨_, rfl⟩
  rw [hw5] at z2 hb2
  have hls := K.X.hs
  have hn6 := K.K.n6
  have HC : Hid ((pilL (C.plan : Int)).filter (fun j => decide (arrI C.ice (C.X.S.ship j).w.toNat = (k : Int))) = C.X.S.comes C.plan C.ice k) := Lib.hid (comes_is (by rw [hls]; exact hp) hn6)
  have HI5 : Hid (ArI C st ld ss ls sv lv w.heap.size k w5.heap.size W qv w5) := Lib.hid ⟨hR.below hb2, (hb2.block _ (heapsz z0)).trans z0, (hb2.block _ (heapsz z1)).trans z1, by rw [hsz2] at z2; exact z2, fun e => by have := hq _ e.symm; omega, fun e => by have := hq _ e.symm; omega, Nat.le_refl _, heapsz h.box⟩
  have HCB : Hid (w5.cell? ⟨w.heap.size + 1 + 1, 0, none⟩ = some (.int .i64 (C.plan : Int))) := Lib.hid (by have := cell_of_row w5 (w.heap.size + 1 + 1) 0 _ 3 (0, 0) HI5.out.bp; simpa using this)
  have HSZ : Hid (w.heap.size + 1 + 1 < w5.heap.size) := Lib.hid (heapsz HI5.out.bp)
  have HW2 := Lib.hid hw2; have HW5 := Lib.hid hw5; have HK := Lib.hid K; have HP := Lib.hid hp; have HS2 := Lib.hid hsz2
  have hpn : ((C.plan : Nat) : Int) ≤ (2 ^ C.X.ns : Int) - 1 := by
    have : ((C.plan : Nat) : Int) < ((2 ^ C.X.ns : Nat) : Int) := Int.ofNat_lt.2 hp
    have e : ((2 ^ C.X.ns : Nat) : Int) = (2 : Int) ^ C.X.ns := by simp
    omega
  have HPN := Lib.hid hpn
  clear z0 z1 z2 hb1 hb2 hq hR hw2 hw5 K h hp hsz2 hpn hls hn6
  refine callsIn_wide.1 (callsIn_of_wp_marks (n := 5) Tryd.func67 rfl trivial (wpIn_wide.2 ?_) rfl)
  simp only [Tryd.ntmps67, List.size_toArray, List.length_cons, List.length_nil, Nat.reduceAdd, Nat.reduceSub, Array.replicate_succ, Array.replicate_zero, List.push_toArray, List.append_toArray, List.nil_append, List.cons_append]
  go_wp2_with fail
  rw [HW2.out]
  refine (shipsOf_any _ _).mono ?_
  rintro e w' ⟨rfl, rfl⟩
  clear r12
  rw [HW5.out, HS2.out]
  go_wp2_with fail
  refine (wpIn_wide (n := 3)).1 ?_
  refine wpIn_rangeFunc_ownF rfl (by decide) (gf := 90) (lb := #[.pointer (some ⟨w.heap.size + 1 + 1, 0, none⟩)]) rfl trivial (enters_of Tryd.func90 (by kernel_rfl) rfl)
    (plan_stops (3 - 1) (by decide) (w.heap.size + 1 + 1) C.w0.heap.size (C.plan : Int) w5 HSZ.out HCB.out)
    kpB_t (kpB_b (by have := HBW.out; have := HSZ.out; have := HS2.out; omega) HSZ.out) (Below.refl _ _) (fun _ => rfl)
    (fun pre Wt => ∃ qv', ArI C st ld ss ls sv lv w.heap.size k w5.heap.size (W ++ (pre.map Subtype.val).filter (fun j => decide (arrI C.ice (C.X.S.ship j).w.toNat = (k : Int)))) qv' Wt)
    (fun _ _ _ => False)
    (fun pre A B row ⟨qv', hs⟩ hg hr => ⟨qv', hs.own (M := w5.heap.size) (by have := HBW.out; have := HSZ.out; have := HS2.out; omega) hg hr⟩)
    (fun _ _ _ _ _ hs _ _ => hs)
    ⟨qv, by simpa using HI5.out⟩
    (fun x => { tmps := List.toArray ((Value.pointer (some ⟨C.R, 0, none⟩)) :: (Value.int .i64 (k : Int)) :: (Value.pointer (some ⟨w.heap.size, 0, none⟩)) :: (Value.pointer (some ⟨w.heap.size + 1, 0, none⟩)) :: (Value.int .i64 (x.1 : Int)) :: (Value.pointer (some ⟨C.R, 0, none⟩)) :: (Value.pointer (some ⟨C.R, 0, none⟩)) :: (Value.pointer (some ⟨C.R, 12, none⟩)) :: (Value.int .i64 (C.plan : Int)) :: (Value.func (.func 90) #[] #[.pointer (some ⟨w.heap.size + 1 + 1, 0, none⟩)]) :: (Value.int .i64 (x.1 : Int)) :: undef :: undef :: undef :: undef :: undef :: undef :: undef :: undef :: undef :: undef :: undef :: undef :: undef :: undef :: undef :: undef :: undef :: undef :: undef :: undef :: []), defers := [] }) ?assign ?body ?done ?stop
  case assign =>
    intro l x Wt Kk hK
    gi_wp2
    exact hK
  case body =>
    rintro l pre ⟨x, hx6, hxj⟩ Wt ⟨qv1, hI⟩ hlen
    have HI := Lib.hid hI
    have hxn := jack_lt (np := C.X.ns) (Int.natCast_nonneg C.plan) HPN.out hxj
    have hx0 : (0 : Int) ≤ (x : Int) := by omega
    have hx1 : (x : Int) < (C.X.ns : Int) := by omega
    obtain ⟨s, hs⟩ := get_of_lt (l := C.X.S.ships) (k := x) (by rw [HK.out.X.hs]; exact hxn)
    have hsh : C.X.S.ship x = s := by unfold Sto.ship; rw [List.getD_eq_getElem?_getD, hs]; rfl
    have hsw := (shpB_iff.1 (HK.out.K.ships s (List.mem_of_getElem? hs))).1
    obtain ⟨b, o, hA, hbb, c0, c1, c2, c3, c4⟩ := sh_el (RowAt.next (k := 5) (R := shR) HK.out.X.P hI.run.bel hI.run.bel.size) hs
    have HST := Lib.hid (And.intro hA hbb); have HC5 := Lib.hid (And.intro c0 (And.intro c1 (And.intro c2 (And.intro c3 c4))))
    have KA : Hid (∀ u, Below Wt.heap.size Wt u → Calls Tryd.prog 81 #[sV s, .slice C.Ai C.mi C.ci] u fun e w' => e = .returned (.int .i64 (arrI C.ice s.w.toNat)) ∧ Below u.heap.size u w') := Lib.hid fun u hu => arrival_any s C.Ai C.mi C.ci C.ice u HK.out.icel (by have := HK.out.icen; have := HK.out.K.land; unfold maxLen; omega) (by omega) (RowAt.next (k := 1) (R := boolR) HK.out.ice (HI.out.run.bel.trans (hu.mono HI.out.run.bel.size)) (Nat.le_trans HI.out.run.bel.size hu.size))
    have hmp : (pre ++ [(⟨x, hx6, hxj⟩ : PX (C.plan : Int))]).map Subtype.val = pre.map Subtype.val ++ [x] := by rw [List.map_append]; rfl
    have HFL : Hid ((((pre ++ [(⟨x, hx6, hxj⟩ : PX (C.plan : Int))]).map Subtype.val).filter (fun j => decide (arrI C.ice (C.X.S.ship j).w.toNat = (k : Int)))) = ((pre.map Subtype.val).filter (fun j => decide (arrI C.ice (C.X.S.ship j).w.toNat = (k : Int)))) ++ (if arrI C.ice s.w.toNat = (k : Int) then [x] else [])) := Lib.hid (by
      rw [hmp, List.filter_append, ← hsh]
      congr 1
      by_cases hc : arrI C.ice (C.X.S.ship x).w.toNat = (k : Int)
      · rw [if_pos hc, List.filter_cons_of_pos (by simpa using hc)]; rfl
      · rw [if_neg hc, List.filter_cons_of_neg (by simpa using hc)]; rfl)
    have hln : ((pre.map Subtype.val).filter (fun j => decide (arrI C.ice (C.X.S.ship j).w.toNat = (k : Int)))).length ≤ 6 := by
      have := List.length_filter_le (fun j => decide (arrI C.ice (C.X.S.ship j).w.toNat = (k : Int))) (pre.map Subtype.val)
      rw [List.length_map] at this
      omega
    obtain ⟨L1, hL1⟩ : ∃ z, (pre.map Subtype.val).filter (fun j => decide (arrI C.ice (C.X.S.ship j).w.toNat = (k : Int))) = z := ⟨_, rfl⟩
    rw [hL1] at HI HFL hln
    have HLN : Hid ((W ++ L1).length < 1000) := Lib.hid (by rw [List.length_append]; omega)
    obtain ⟨A, hAA⟩ : ∃ z, arrI C.ice s.w.toNat = z := ⟨_, rfl⟩
    rw [hAA] at KA HFL
    obtain ⟨F, hF⟩ : ∃ z, (A == (k : Int)) = z := ⟨_, rfl⟩
    have HFF := Lib.hid hF
    have fol : Tryd.prog.follows .mixedOrders = true := by kernel_rfl
    clear hI hs hsh hsw hA hbb c0 c1 c2 c3 c4 hmp hL1 hAA
    dsimp only
    gi_wp2
    refine wpIn_region_any fol (wpAnyIn_round_of_wpAny (by kernel_rfl) (by rintro ⟨_, _, hq⟩; exact hq) _ _ _ _ ?_)
    refine rel_any [2, 3, 4] [] (arCv C.R w.heap.size b o C.X.ns C.X.cs x k s (.slice C.Ai C.mi C.ci) A F) noF (by kernel_rfl) (by kernel_rfl) (by kernel_rfl) (by kernel_rfl) (by kernel_rfl) ?_ (fun _ _ _ _ _ _ => trivial) ?_ ?_
    · intro t ht
      simp only [List.mem_cons, List.not_mem_nil, or_false] at ht
      rcases ht with rfl | rfl | rfl <;> rfl
    · refine allOps_array ?_
      have hI2 : ∀ u : KeptW Wt, _ := fun u => HI.out.below u.h
      refine ⟨?_, ?_, ?_, ?_, ?_, ?_, ?_, ?_, ?_, ?_, ?_, ?_, ?_, ?_, ?_, trivial⟩ <;> intro g u hd_ <;> obtain ⟨_, _, _, r9, _, r13, _⟩ := run_cells (hI2 u).run <;> rw [HST.out.1] at r9 <;> have x0 := cell_of_row u.w w.heap.size 0 _ 95 (0, 0) (hI2 u).b2 <;> have x1 := cell_of_row u.w (w.heap.size + 1) 0 _ 3 (0, 0) (hI2 u).b3 <;> simp at x0 x1 <;> have c0 := ((bcell u.h).1 _ _ HST.out.2).trans HC5.out.1 <;> have c1 := ((bcell u.h).1 _ _ HST.out.2).trans HC5.out.2.1 <;> have c2 := ((bcell u.h).1 _ _ HST.out.2).trans HC5.out.2.2.1 <;> have c3 := ((bcell u.h).1 _ _ HST.out.2).trans HC5.out.2.2.2.1 <;> have c4 := ((bcell u.h).1 _ _ HST.out.2).trans HC5.out.2.2.2.2
      · refine ⟨rfl, relQ 11 rfl trivial ?_⟩
        simp [go_sem, evalBy, rhoT, relOf, arCv, x0]
      · refine ⟨rfl, relQ 12 rfl trivial ?_⟩
        simp [go_sem, evalBy, rhoT, relOf, arCv]
      · refine ⟨rfl, relQ 13 rfl trivial ?_⟩
        simp [go_sem, evalBy, rhoT, relOf, arCv]
      · refine ⟨rfl, relQ 14 rfl trivial ?_⟩
        simp [go_sem, evalBy, rhoT, relOf, arCv]
      · refine ⟨rfl, relQ 15 rfl trivial ?_⟩
        simp [go_sem, evalBy, rhoT, relOf, arCv, r9]
      · refine ⟨rfl, relQ 16 rfl trivial ?_⟩
        simp [go_sem, evalBy, rhoT, relOf, arCv]
      · refine ⟨rfl, relQ 17 rfl trivial ?_⟩
        simp [go_sem, evalBy, rhoT, relOf, arCv, hx0, hx1]
      · refine ⟨rfl, relQ 18 rfl trivial ?_⟩
        simp [go_sem, evalBy, rhoT, relOf, arCv, c0, c1, c2, c3, c4]
      · refine ⟨rfl, relQ 19 rfl trivial ?_⟩
        simp [go_sem, evalBy, rhoT, relOf, arCv, x0]
      · refine ⟨rfl, relQ 20 rfl trivial ?_⟩
        simp [go_sem, evalBy, rhoT, relOf, arCv]
      · refine ⟨rfl, relQ 21 rfl trivial ?_⟩
        simp [go_sem, evalBy, rhoT, relOf, arCv]
      · refine ⟨rfl, relQ 22 rfl trivial ?_⟩
        simp [go_sem, evalBy, rhoT, relOf, arCv, r13]
      · refine ⟨rfl, relK 23 rfl (fun _ => trivial) 81 #[sV s, .slice C.Ai C.mi C.ci] (by simp [go_sem, evalBy, rhoT, relOf, arCv]) ?_⟩
        exact KA.out u.w u.h
      · refine ⟨rfl, relQ 24 rfl trivial ?_⟩
        simp [go_sem, evalBy, rhoT, relOf, arCv, x1]
      · refine ⟨rfl, relQ 25 rfl trivial ?_⟩
        simp [go_sem, evalBy, rhoT, relOf, arCv, hF]
    · intro g u hf
      have HU := Lib.hid (HI.out.below u.h)
      have HUB := Lib.hid u.h
      obtain ⟨wu, hwo⟩ : ∃ z, u.w = z := ⟨_, rfl⟩
      rw [hwo] at HU HUB ⊢
      have x0 := cell_of_row wu w.heap.size 0 _ 95 (0, 0) HU.out.b2
      simp at x0
      simp [putAll, Act.put, rhoT, relOf, arCv]
      clear hf hwo hF
      cases F with
      | false =>
        have hne : ¬ A = (k : Int) := by have := HFF.out; simpa using this
        gi_wp2
        refine ⟨ko_below HUB.out, ⟨HUB.out.mono HI.out.run.bel.size, (bcell HUB.out).1 _ 0 (heapsz HI.out.bp)⟩, qv1, ?_⟩
        rw [HFL.out, if_neg hne, List.append_nil]
        exact HU.out
      | true =>
        have hee : A = (k : Int) := by have := HFF.out; simpa using this
        gi_wp2
        refine ⟨trivial, CallsIn.inRound l (callsIn_wide.2 (Calls.mono (push_any2 HK.out HU.out.run x HLN.out) ?_))⟩
        rintro e W1 ⟨rfl, qv2, hr, hps⟩
        have HPK := Lib.hid (psh_keeps HK.out HU.out.run hps)
        have HA1 := Lib.hid (HU.out.push hr hps)
        clear hr hps
        gi_wp2
        refine ⟨(ko_below HUB.out).trans HPK.out.1, ⟨(HUB.out.mono HI.out.run.bel.size).trans HPK.out.2, ?_⟩, qv2, ?_⟩
        · rw [cell_of_row W1 (w.heap.size + 1 + 1) 0 _ 3 (0, 0) HA1.out.bp, cell_of_row Wt (w.heap.size + 1 + 1) 0 _ 3 (0, 0) HI.out.bp]
        · rw [HFL.out, if_pos hee, ← List.append_assoc]
          exact HA1.out
  case done =>
    rintro D ys Wt hD hys ⟨qv', hI⟩ hK
    rw [hys, HC.out] at hI
    have HI := Lib.hid hI
    have HM : Hid (Marks Wt w5.heap.size [D]) := Lib.hid ⟨by simp, fun E hE => by rw [List.mem_singleton.1 hE]; exact ⟨hD, hK⟩⟩
    clear hI hK hys
    simp only [Exit.inBlock]
    go_wp2_with fail
    refine leaves_marks [D] Wt HM.out (fun w' hk => ⟨_, results_none rfl _ _ _, ?_⟩)
    exact ⟨rfl, qv', HI.out.run.cellsK (by have := HBW.out; have := HSZ.out; have := HS2.out; omega) hk⟩
  case stop =>
    rintro D c pre W _ _ h _
    exact h.elim
end
end Go.Proofs.YtijjkiogmlannaaDoor

namespace Go.Proofs.YtijjkiogmlannaaDoor
open Go.RowKit

abbrev RC.rn (C : RC) (k : Nat) : Rn := C.X.S.runN C.plan C.ice C.win k
abbrev RC.lq (C : RC) (k : Nat) : Ld := ⟨(C.rn k).st, (C.rn k).ld, C.X.S.rate⟩
/-- What is there in a week, behind so many of its three steps. -/
def weekAt (C : RC) (k s : Nat) (w : World) : Prop := ∃ qv sv lv, match s with
  | 0 => RunAt C (C.rn k).st (C.rn k).ld (wfil C.X.S.cg (C.lq k) (C.X.S.queue C.plan C.ice k)) (C.rn k).stocks (C.rn k).lacks qv sv lv w
  | 1 => RunAt C (C.rn k).st (C.rn k).ld (wfil C.X.S.cg (C.lq k) (C.X.S.queue C.plan C.ice k) ++ C.X.S.comes C.plan C.ice k) (C.rn k).stocks (C.rn k).lacks qv sv lv w
  | 2 => RunAt C (C.X.S.landed C.plan C.ice (C.rn k) k).st (C.X.S.landed C.plan C.ice (C.rn k) k).ld (wfil C.X.S.cg (C.X.S.landed C.plan C.ice (C.rn k) k) (C.X.S.queue C.plan C.ice (k + 1))) (C.rn k).stocks (C.rn k).lacks qv sv lv w
  | _ => RunAt C (C.rn (k + 1)).st (C.rn (k + 1)).ld (wfil C.X.S.cg (C.lq (k + 1)) (C.X.S.queue C.plan C.ice (k + 1))) (C.rn (k + 1)).stocks (C.rn (k + 1)).lacks qv sv lv w
theorem comes_len (S : Sto) (p : Nat) (ice : List Bool) (k : Nat) : (S.comes p ice k).length ≤ S.ships.length := by
  have := List.length_filter_le (fun j => hasB p j && decide (arrI ice (S.ship j).w.toNat = (k : Int))) (List.range S.ships.length)
  unfold Sto.comes
  simpa using this
theorem queue_len (S : Sto) (p : Nat) (ice : List Bool) : ∀ k, (S.queue p ice k).length ≤ S.ships.length * k
  | 0 => by simp [Sto.queue]
  | k + 1 => by
    rw [queue_succ, List.length_append, Nat.mul_succ]
    have := queue_len S p ice k; have := comes_len S p ice k
    omega
theorem step_any {C : RC} {w : World} (K : C.Ok) (hp : C.plan < 2 ^ C.X.ns) {k : Nat} (hk : k < C.mw) {s : Nat} (hs : s < 3) (h : weekAt C k s w) :
    Calls Tryd.prog (67 + s) #[.pointer (some ⟨C.R, 0, none⟩), .int .i64 (k : Int)] w fun e w' => e = .returned (.tuple #[]) ∧ weekAt C k (s + 1) w' := by
  have hr := runN_ok K.K (plan := C.plan) (ice := C.ice) K.wina k
  have hn := K.X.hs
  have h6 := K.K.n6
  have hw30 := K.K.weeks
  have hwn := K.winn
  have hq := queue_len C.X.S C.plan C.ice k
  have hc := comes_len C.X.S C.plan C.ice k
  have hm : C.X.S.ships.length * k ≤ 6 * 30 := Nat.mul_le_mul h6 (by omega)
  have hf : (wfil C.X.S.cg (C.lq k) (C.X.S.queue C.plan C.ice k)).length ≤ (C.X.S.queue C.plan C.ice k).length := List.length_filter_le _ _
  have hld : LdOk C.X.S.yd C.X.S.cg C.X.S.ships.length (C.lq k) := hr.ld
  obtain ⟨qv, sv, lv, h⟩ := h
  match s, hs with
  | 0, _ =>
    refine (arrive_any K h hp (by omega) k).mono ?_
    rintro e w' ⟨rfl, qv', h'⟩
    exact ⟨rfl, qv', sv, lv, h'⟩
  | 1, _ =>
    refine (land_any K h (by rw [← hn]; exact hld) (line_nodup _ _ _ _ _) (fun j hj => ?_) (by rw [List.length_append]; omega) hk).mono ?_
    · rw [← hn]
      rcases List.mem_append.1 hj with hj | hj
      · exact (queue_mem.1 (List.mem_filter.1 hj).1).1
      · exact (comes_mem.1 hj).1
    · rintro e w' ⟨rfl, qv', h'⟩
      refine ⟨rfl, qv', sv, lv, ?_⟩
      show RunAt C (C.X.S.landed C.plan C.ice (C.rn k) k).st (C.X.S.landed C.plan C.ice (C.rn k) k).ld (wfil C.X.S.cg (C.X.S.landed C.plan C.ice (C.rn k) k) (C.X.S.queue C.plan C.ice (k + 1))) (C.rn k).stocks (C.rn k).lacks qv' sv lv w'
      by_cases ho : C.opn k = true
      · rw [if_pos ho] at h'
        have ho2 : (k : Int) < C.X.S.land ∧ C.ice.getD k false = true := by
          unfold RC.opn at ho
          rw [Bool.and_eq_true, decide_eq_true_eq] at ho
          exact ho
        have e1 := landed_line (plan := C.plan) (ice := C.ice) (w := k) hld
        have e2 := line_next (plan := C.plan) (ice := C.ice) (w := k) hld
        have e3 : C.X.S.landed C.plan C.ice (C.rn k) k = ldF C.X.S.yd C.X.S.cg (C.lq k) (C.X.S.queue C.plan C.ice (k + 1)) := by unfold Sto.landed; rw [if_pos ho2]
        rw [e3]
        rw [e1, e2] at h'
        exact h'
      · rw [if_neg ho] at h'
        have ho2 : ¬ ((k : Int) < C.X.S.land ∧ C.ice.getD k false = true) := fun hh => ho (by unfold RC.opn; rw [Bool.and_eq_true, decide_eq_true_eq]; exact hh)
        have e3 : C.X.S.landed C.plan C.ice (C.rn k) k = C.lq k := by unfold Sto.landed; rw [if_neg ho2]
        have e4 : C.X.S.comes C.plan C.ice k = [] := comes_open fun hh => ho2 ⟨by have := K.icel; have := K.icen; omega, hh.2⟩
        rw [e4, List.append_nil] at h'
        rw [e3, queue_succ, e4, List.append_nil]
        exact h'
  | 2, _ =>
    have hlo := landed_ok (plan := C.plan) (ice := C.ice) (w := k) hr.ld
    have hyd := amtB_iff.1 K.K.yd
    have h2 : amtB 1000 (C.X.S.landed C.plan C.ice (C.rn k) k).st = true := by
      obtain ⟨Z, hZ⟩ : ∃ z, C.X.S.landed C.plan C.ice (C.rn k) k = z := ⟨_, rfl⟩
      have h0 := hlo.st0; have h1 := hlo.sty
      rw [show C.X.S.landed C.plan C.ice (C.X.S.runN C.plan C.ice C.win k) k = Z from hZ] at h0 h1
      rw [hZ, amtB_iff]
      omega
    refine (take_any K h h2 hk (by rw [hr.sl]; omega) (by rw [hr.ll]; omega)).mono ?_
    rintro e w' ⟨rfl, sv', lv', h'⟩
    refine ⟨rfl, qv, sv', lv', ?_⟩
    have e1 : C.rn (k + 1) = C.X.S.week C.plan C.ice C.win (C.rn k) k := C.X.S.runN_succ C.plan C.ice C.win k
    show RunAt C (C.rn (k + 1)).st (C.rn (k + 1)).ld (wfil C.X.S.cg ⟨(C.rn (k + 1)).st, (C.rn (k + 1)).ld, C.X.S.rate⟩ (C.X.S.queue C.plan C.ice (k + 1))) (C.rn (k + 1)).stocks (C.rn (k + 1)).lacks qv sv' lv' w'
    rw [e1]
    exact h'
end Go.Proofs.YtijjkiogmlannaaDoor
