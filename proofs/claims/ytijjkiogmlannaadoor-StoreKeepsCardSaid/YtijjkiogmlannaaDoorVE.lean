/- Stores: what is there while a store is run: a week more is told. Stores: what is taken in a week, by the code. -/
import Derived.Test.YtijjkiogmlannaaDoorVB
namespace Go.Proofs.YtijjkiogmlannaaDoor
open Go.RowKit

variable {C : RC} {st : Gd} {ld : List Gd} {W : List Nat} {ss ls : List Gd} {qv sv lv : Value} {w w1 : World}
theorem own_size {w : World} {base : Nat} {e : TypeId} {size n : Nat} {v : Value} {xs : List Value} (h : w.ownsRow base e size v n xs) {B : Nat} (hB : v.ownBlock = some B) : base ≤ B ∧ B < w.heap.size := by
  obtain ⟨h1, cur, hc⟩ := own_at h hB
  exact ⟨h1, heapsz hc⟩
theorem q_type (h : RunAt C st ld W ss ls qv sv lv w) {b : Nat} {cs : Array Value} {T : TypeId} (hb : w.heap[b]? = some (.cells cs T (0, 0))) (hT : T ≠ 3) : qv.ownBlock ≠ some b := fun e => by
  rcases h.q with ⟨rfl, _⟩ | ⟨g, off, cap, cs, rfl, _, h2, _⟩
  · cases e
  · cases e
    rw [hb] at h2
    injection h2 with h2
    injection h2 with _ h2 _
    exact hT h2
/-- What a longer list leaves as it was. -/
theorem grow_keep (h : RunAt C st ld W ss ls qv sv lv w) {v : Value} (hv : v = sv ∨ v = lv) (hg : w.grownBy w1 v.ownBlock) :
    Below C.w0.heap.size C.w0 w1 ∧ w1.heap[C.R]? = some (.cells (C.cells st qv sv lv) 99 (0, 0)) ∧ w1.heap[C.D]? = some (.cells (flatR gR ld).toArray 23 (0, 0)) ∧ QAt w1 C.w0.heap.size qv W := by
  obtain ⟨t1, t2, t3⟩ := run_types h
  have hR : some C.R ≠ v.ownBlock := fun e => hv.elim (fun a => t2 (by rw [← a]; exact e.symm)) (fun a => t3 (by rw [← a]; exact e.symm))
  have hD : some C.D ≠ v.ownBlock := fun e => hv.elim (fun a => h.sd (by rw [← a]; exact e.symm)) (fun a => h.lD (by rw [← a]; exact e.symm))
  refine ⟨h.bel.grown hg h.bel.size fun k e => ?_, (hg.block _ (heapsz h.box) hR).trans h.box, (hg.block _ (heapsz h.lnd) hD).trans h.lnd, h.q.keep fun b cs _ hc hq => hg.block b (heapsz hc) fun e => ?_⟩
  · rcases hv with rfl | rfl
    · exact (own_size h.so e).1
    · exact (own_size h.lo e).1
  · have : ∃ cur, w.heap[b]? = some (.cells cur 23 (0, 0)) := by
      rcases hv with rfl | rfl
      · exact (own_at h.so e.symm).2
      · exact (own_at h.lo e.symm).2
    obtain ⟨cur, hcur⟩ := this
    rw [hcur] at hc
    injection hc with hc
    injection hc with _ hc _
    exact absurd hc (by decide)
theorem grow_fix (K : C.Ok) (h : RunAt C st ld W ss ls qv sv lv w) {v : Value} (hv : v = sv ∨ v = lv) (hg : w.grownBy w1 v.ownBlock) : ∀ x ∈ C.fx, w1.heap[x.1]? = some (.cells x.2.1 x.2.2 (0, 0)) := fun x hx => (hg.block x.1 (heapsz (h.fix x hx)) (fun e => by
  have : ∃ cur, w.heap[x.1]? = some (.cells cur 23 (0, 0)) := by
    rcases hv with rfl | rfl
    · exact (own_at h.so e.symm).2
    · exact (own_at h.lo e.symm).2
  obtain ⟨cur, hc⟩ := this
  rw [h.fix x hx] at hc
  injection hc with hc
  injection hc with _ hc _
  exact (K.fx x hx).2.1 hc)).trans (h.fix x hx)
theorem flat_snoc (l : List Gd) (g : Gd) : flatR gR l ++ gR g = flatR gR (l ++ [g]) := (flatR_snoc gR l g).symm
theorem set1_keep (w : World) (B k : Nat) (x : Value) : ∀ b, b ≠ B → (w.setCell ⟨B, k, none⟩ x).heap[b]? = w.heap[b]? := fun _ hb => Below.heap_setCell _ _ _ _ hb
theorem RunAt.stocks (K : C.Ok) (h : RunAt C st ld W ss ls qv sv lv w) (g : Gd) {v' : Value} (hg : w.grownBy w1 sv.ownBlock) (ho : w1.ownsRow C.w0.heap.size 23 3 v' (ss.length + 1) (flatR gR ss ++ gR g)) (hf : v'.ownBlock = sv.ownBlock ∨ ∃ B, v'.ownBlock = some B ∧ w.heap.size ≤ B) :
    RunAt C st ld W (ss ++ [g]) ls qv v' lv (w1.setCell ⟨C.R, 17, none⟩ v') := by
  obtain ⟨k1, k2, k3, k4⟩ := grow_keep h (.inl rfl) hg
  obtain ⟨t1, t2, t3⟩ := run_types h
  rw [flat_snoc] at ho
  have hvR : v'.ownBlock ≠ some C.R := fun e => by
    rcases hf with hf | ⟨B, hf, hB⟩
    · exact t2 (hf ▸ e)
    · rw [hf] at e
      injection e with e
      have := heapsz h.box
      omega
  have hvD : v'.ownBlock ≠ some C.D := fun e => by
    rcases hf with hf | ⟨B, hf, hB⟩
    · exact h.sd (hf ▸ e)
    · rw [hf] at e
      injection e with e
      have := heapsz h.lnd
      omega
  have hvl : ∀ b, v'.ownBlock = some b → lv.ownBlock ≠ some b := fun b e1 e2 => by
    rcases hf with hf | ⟨B, hf, hB⟩
    · exact h.sl b (hf ▸ e1) e2
    · rw [hf] at e1
      injection e1 with e1
      have := (own_size h.lo e2).2
      omega
  have hlk : ∀ B, lv.ownBlock = some B → w1.heap[B]? = w.heap[B]? := fun B hB => hg.block B (own_size h.lo hB).2 fun e => h.sl B e.symm hB
  have hq3 : qv.ownBlock ≠ some C.R := q_type h h.box (by decide)
  refine ⟨k1.setCell (p := ⟨C.R, 17, none⟩) K.R _, blk_set k2 17 v', (set1_keep _ _ _ _ _ (Ne.symm t1)).trans k3, h.ldl, k4.keep fun b cs _ _ hb => set1_keep _ _ _ _ _ fun e => hq3 (by rw [hb, e]), ?_, ?_, hvD, h.lD, hvl, fun x hx => (set1_keep _ _ _ _ _ (fix_ne K h hx).1).trans (grow_fix K h (.inl rfl) hg x hx)⟩
  · rw [List.length_append]
    exact own_of_blocks ho fun B hB => set1_keep _ _ _ _ _ fun e => hvR (by rw [hB, e])
  · exact own_of_blocks h.lo fun B hB => (set1_keep _ _ _ _ _ fun e => t3 (by rw [hB, e])).trans (hlk B hB)
theorem RunAt.lacks (K : C.Ok) (h : RunAt C st ld W ss ls qv sv lv w) (g : Gd) {v' : Value} (hg : w.grownBy w1 lv.ownBlock) (ho : w1.ownsRow C.w0.heap.size 23 3 v' (ls.length + 1) (flatR gR ls ++ gR g)) (hf : v'.ownBlock = lv.ownBlock ∨ ∃ B, v'.ownBlock = some B ∧ w.heap.size ≤ B) :
    RunAt C st ld W ss (ls ++ [g]) qv sv v' (w1.setCell ⟨C.R, 18, none⟩ v') := by
  obtain ⟨k1, k2, k3, k4⟩ := grow_keep h (.inr rfl) hg
  obtain ⟨t1, t2, t3⟩ := run_types h
  rw [flat_snoc] at ho
  have hvR : v'.ownBlock ≠ some C.R := fun e => by
    rcases hf with hf | ⟨B, hf, hB⟩
    · exact t3 (hf ▸ e)
    · rw [hf] at e
      injection e with e
      have := heapsz h.box
      omega
  have hvD : v'.ownBlock ≠ some C.D := fun e => by
    rcases hf with hf | ⟨B, hf, hB⟩
    · exact h.lD (hf ▸ e)
    · rw [hf] at e
      injection e with e
      have := heapsz h.lnd
      omega
  have hvl : ∀ b, sv.ownBlock = some b → v'.ownBlock ≠ some b := fun b e1 e2 => by
    rcases hf with hf | ⟨B, hf, hB⟩
    · exact h.sl b e1 (hf ▸ e2)
    · rw [hf] at e2
      injection e2 with e2
      have := (own_size h.so e1).2
      omega
  have hlk : ∀ B, sv.ownBlock = some B → w1.heap[B]? = w.heap[B]? := fun B hB => hg.block B (own_size h.so hB).2 fun e => h.sl B hB e.symm
  have hq3 : qv.ownBlock ≠ some C.R := q_type h h.box (by decide)
  refine ⟨k1.setCell (p := ⟨C.R, 18, none⟩) K.R _, blk_set k2 18 v', (set1_keep _ _ _ _ _ (Ne.symm t1)).trans k3, h.ldl, k4.keep fun b cs _ _ hb => set1_keep _ _ _ _ _ fun e => hq3 (by rw [hb, e]), ?_, ?_, h.sd, hvD, hvl, fun x hx => (set1_keep _ _ _ _ _ (fix_ne K h hx).1).trans (grow_fix K h (.inr rfl) hg x hx)⟩
  · exact own_of_blocks h.so fun B hB => (set1_keep _ _ _ _ _ fun e => t2 (by rw [hB, e])).trans (hlk B hB)
  · rw [List.length_append]
    exact own_of_blocks ho fun B hB => set1_keep _ _ _ _ _ fun e => hvR (by rw [hB, e])
end Go.Proofs.YtijjkiogmlannaaDoor

namespace Go.Proofs.YtijjkiogmlannaaDoor
open Go.RowKit

variable {C : RC} {st : Gd} {ld : List Gd} {W : List Nat} {ss ls : List Gd} {qv sv lv : Value} {w : World}
def tkCv (R B : Nat) (N S M : Gd) : Tmp → Value
  | 0 => .pointer (some ⟨R, 0, none⟩)
  | 4 => .pointer (some ⟨B, 0, none⟩)
  | 13 => gV N
  | 14 => .pointer (some ⟨R, 0, none⟩)
  | 15 => .pointer (some ⟨R, 0, none⟩)
  | 16 => .pointer (some ⟨R, 0, none⟩)
  | 17 => .pointer (some ⟨R, 0, none⟩)
  | 18 => gV S
  | 19 => gV M
  | _ => undef
def tsCv (R : Nat) (v : Value) (T : Gd) : Tmp → Value
  | 0 => .pointer (some ⟨R, 0, none⟩)
  | 31 => .pointer (some ⟨R, 0, none⟩)
  | 32 => .pointer (some ⟨R, 0, none⟩)
  | 33 => .pointer (some ⟨R, 0, none⟩)
  | 34 => .pointer (some ⟨R, 16, none⟩)
  | 35 => .pointer (some ⟨R, 17, none⟩)
  | 36 => v
  | 37 => .pointer (some ⟨R, 0, none⟩)
  | 38 => .pointer (some ⟨R, 0, none⟩)
  | 39 => .pointer (some ⟨R, 0, none⟩)
  | 40 => .pointer (some ⟨R, 0, none⟩)
  | 41 => gV T
  | 44 => .pointer (some ⟨R, 0, none⟩)
  | 45 => .pointer (some ⟨R, 16, none⟩)
  | 46 => .pointer (some ⟨R, 17, none⟩)
  | _ => undef
def tlCv (R B E : Nat) (v : Value) (N M L : Gd) : Tmp → Value
  | 0 => .pointer (some ⟨R, 0, none⟩)
  | 4 => .pointer (some ⟨B, 0, none⟩)
  | 5 => .pointer (some ⟨E, 0, none⟩)
  | 47 => .pointer (some ⟨R, 0, none⟩)
  | 48 => .pointer (some ⟨R, 0, none⟩)
  | 49 => .pointer (some ⟨R, 0, none⟩)
  | 50 => .pointer (some ⟨R, 16, none⟩)
  | 51 => .pointer (some ⟨R, 18, none⟩)
  | 52 => v
  | 53 => gV N
  | 54 => gV M
  | 55 => gV L
  | 58 => .pointer (some ⟨R, 0, none⟩)
  | 59 => .pointer (some ⟨R, 16, none⟩)
  | 60 => .pointer (some ⟨R, 18, none⟩)
  | _ => undef
theorem goods_info : (Tryd.prog.info? 23).map (fun i => (i.zero, i.size, i.bytes)) = some (some (.agg #[.int .i64 0, .int .i64 0, .int .i64 0]), 3, 24) := by kernel_rfl
theorem info_parts {e : TypeId} {z : Value} {s b : Nat} (h : (Tryd.prog.info? e).map (fun i => (i.zero, i.size, i.bytes)) = some (some z, s, b)) : ∃ i, Tryd.prog.info? e = some i ∧ i.zero = some z ∧ i.size = s ∧ i.bytes = b := by
  obtain ⟨i, hi, hz⟩ := Option.map_eq_some_iff.1 h
  exact ⟨i, hi, congrArg (·.1) hz, congrArg (·.2.1) hz, congrArg (·.2.2) hz⟩
section
attribute [local irreducible] QT
set_option maxRecDepth 100000 in
set_option maxHeartbeats 16000000 in
theorem take_any (K : C.Ok) (h : RunAt C st ld W ss ls qv sv lv w) (hst : amtB 1000 st = true) {k : Nat} (hk : k < C.mw) (hss : ss.length < 100) (hls : ls.length < 100) :
    Calls Tryd.prog 69 #[.pointer (some ⟨C.R, 0, none⟩), .int .i64 (k : Int)] w fun e w' => e = .returned (.tuple #[]) ∧ ∃ sv' lv', RunAt C (takG (C.win.getD k z3) st) ld W (ss ++ [takG (C.win.getD k z3) st]) (ls ++ [lacG (C.win.getD k z3) st]) qv sv' lv' w' := by
  obtain ⟨N, hN⟩ := get_of_lt (l := C.win) (k := k) (by rw [K.winl]; exact hk)
  have e1 : C.win.getD k z3 = N := by rw [List.getD_eq_getElem?_getD, hN]; rfl
  rw [e1]
  have hn3 := amtB_iff.1 (K.wina N (List.mem_of_getElem? hN))
  have hs3 := amtB_iff.1 hst
  obtain ⟨b, o, hA, hbb, c0, c1, c2⟩ := gds_el (RowAt.next (k := 3) (R := gR) K.win h.bel h.bel.size) hN
  have KM : Hid (∀ u, Calls Tryd.prog 79 #[gV N, gV st] u fun e w' => e = .returned (gV (minG N st)) ∧ Below u.heap.size u w') := Lib.hid fun u => least_any _ _ u
  have KT : Hid (∀ u, Calls Tryd.prog 78 #[gV st, gV (minG N st)] u fun e w' => e = .returned (gV (takG N st)) ∧ Below u.heap.size u w') := Lib.hid fun u => less_any _ _ u fun k hk => by
    rw [min_at _ _ hk]
    match k, hk with
    | 0, _ => show _ ≤ st.a - min N.a st.a ∧ st.a - min N.a st.a ≤ _; omega
    | 1, _ => show _ ≤ st.b - min N.b st.b ∧ st.b - min N.b st.b ≤ _; omega
    | 2, _ => show _ ≤ st.c - min N.c st.c ∧ st.c - min N.c st.c ≤ _; omega
  have KL : Hid (∀ u, Calls Tryd.prog 78 #[gV N, gV (minG N st)] u fun e w' => e = .returned (gV (lacG N st)) ∧ Below u.heap.size u w') := Lib.hid fun u => less_any _ _ u fun k hk => by
    rw [min_at _ _ hk]
    match k, hk with
    | 0, _ => show _ ≤ N.a - min N.a st.a ∧ N.a - min N.a st.a ≤ _; omega
    | 1, _ => show _ ≤ N.b - min N.b st.b ∧ N.b - min N.b st.b ≤ _; omega
    | 2, _ => show _ ≤ N.c - min N.c st.c ∧ N.c - min N.c st.c ≤ _; omega
  obtain ⟨M, hM⟩ : ∃ z, minG N st = z := ⟨_, rfl⟩
  obtain ⟨T, hT⟩ : ∃ z, takG N st = z := ⟨_, rfl⟩
  obtain ⟨L, hL⟩ : ∃ z, lacG N st = z := ⟨_, rfl⟩
  rw [hM] at KM KT KL
  rw [hT] at KT ⊢
  rw [hL] at KL ⊢
  obtain ⟨_, _, _, _, _, _, r14, _⟩ := run_cells h
  rw [hA] at r14
  have z1 := heap_alloc_new w (.cells (gC N) 23)
  have hb1 := (Below.refl w.heap.size w).alloc (Nat.le_refl _) (.cells (gC N) 23)
  obtain ⟨q0, q1, q2⟩ := g_cells z1
  obtain ⟨w1, hw1⟩ : ∃ z, w.alloc (.cells (gC N) 23) = z := ⟨_, rfl⟩
  rw [hw1] at z1 hb1
  have HW1 := Lib.hid hw1
  have H1 := Lib.hid (h.below hb1); have Z1 := Lib.hid z1; have HK := Lib.hid K
  have HBL : Hid (C.R < w.heap.size ∧ (∀ B, sv.ownBlock = some B → B < w.heap.size) ∧ ∀ B, lv.ownBlock = some B → B < w.heap.size) := Lib.hid ⟨heapsz h.box, fun B hB => (own_size h.so hB).2, fun B hB => (own_size h.lo hB).2⟩
  have k0 : (0 : Int) ≤ (k : Int) := by omega
  have k1 : (k : Int) < (C.mw : Int) := by omega
  clear e1 hn3 hs3 hA hbb hM hT hL z1 hb1 hw1 h K hst hN
  go_enter Tryd.func69, Tryd.ntmps69
  go_wp2_with fail
  rw [HW1.out]
  clear HW1 q0 q1 q2 c0 c1 c2 r14
  apply tail_region
  case hs => exact (rfl : _ = [_, _, _, _, _, _, _, _] ++ [_])
  case hm => kernel_rfl
  case hT => kernel_rfl
  have l1 : w.heap.size < w1.heap.size := heapsz Z1.out
  refine rel_any [0, 4] [(5, 7)] (tkCv C.R w.heap.size N st M) (mkF 7 w1.heap.size (fun g => .pointer (some ⟨g, 0, none⟩)) 23 #[.int .i64 0, .int .i64 0, .int .i64 0]) (by kernel_rfl) (by kernel_rfl) (by kernel_rfl) (by kernel_rfl) (by kernel_rfl) ?_ (mkF_keep _ _ _ _ _) ?_ ?_
  · intro t ht
    simp only [List.mem_cons, List.not_mem_nil, or_false] at ht
    rcases ht with rfl | rfl <;> rfl
  · refine allOps_array ?_
    have hp : ∀ u : KeptW w1, _ := fun u => run_cells (H1.out.below u.h)
    have hq : ∀ u : KeptW w1, _ := fun u => g_cells ((u.h.block _ l1).trans Z1.out)
    refine ⟨?_, ?_, ?_, ?_, ?_, ?_, ?_, ?_, trivial⟩ <;> intro g u hd_ <;> obtain ⟨⟨s0, s1, s2⟩, _⟩ := hp u <;> obtain ⟨n0, n1, n2⟩ := hq u
    · refine ⟨rfl, relQ 13 rfl (mkF_other (by decide)) ?_⟩
      simp [go_sem, evalBy, rhoT, relOf, tkCv, n0, n1, n2]
    · refine ⟨rfl, relQ 14 rfl (mkF_other (by decide)) ?_⟩
      simp [go_sem, evalBy, rhoT, relOf, tkCv]
    · refine ⟨rfl, relQ 15 rfl (mkF_other (by decide)) ?_⟩
      simp [go_sem, evalBy, rhoT, relOf, tkCv]
    · refine ⟨rfl, relQ 16 rfl (mkF_other (by decide)) ?_⟩
      simp [go_sem, evalBy, rhoT, relOf, tkCv]
    · refine ⟨rfl, relQ 17 rfl (mkF_other (by decide)) ?_⟩
      simp [go_sem, evalBy, rhoT, relOf, tkCv]
    · refine ⟨rfl, relQ 18 rfl (mkF_other (by decide)) ?_⟩
      simp [go_sem, evalBy, rhoT, relOf, tkCv, s0, s1, s2]
    · refine ⟨rfl, relK 19 rfl (fun _ => mkF_other (by decide)) 79 #[gV N, gV st] (by simp [go_sem, evalBy, rhoT, relOf, tkCv]) ?_⟩
      exact KM.out u.w
    · refine ⟨rfl, relA (.pointer (some ⟨u.w.heap.size, 0, none⟩)) (.cells #[.int .i64 0, .int .i64 0, .int .i64 0] 23) (fun d hd => by injection hd with hd; subst hd; simp [relOf]) (by simp [go_sem]) (mkF_new (f := fun g => .pointer (some ⟨g, 0, none⟩)) u.h.size)⟩
  · intro g u hf
    obtain ⟨E, e7, b7, z7⟩ := hf 7 (by decide) rfl
    have HB0 := Lib.hid u.h
    obtain ⟨wu, hwo⟩ : ∃ x, u.w = x := ⟨_, rfl⟩
    rw [hwo] at z7 HB0 ⊢
    have x0 := cell_of_row wu E 0 _ 23 (0, 0) z7; have x1 := cell_of_row wu E 1 _ 23 (0, 0) z7; have x2 := cell_of_row wu E 2 _ 23 (0, 0) z7
    have f0 := g_frz (g := z3) (k := 0) z7; have f1 := g_frz (g := z3) (k := 1) z7; have f2 := g_frz (g := z3) (k := 2) z7
    simp at x0 x1 x2
    have hz2 := g_fill (g := z3) M z7
    have hbe := bel_fill (b := E) (x := .int .i64 M.a) (y := .int .i64 M.b) (z := .int .i64 M.c) HB0.out b7
    have Z2 := Lib.hid hz2; have HB2 := Lib.hid hbe
    simp only [QT]
    unfold Oper.wp
    simp [go_sem, putAll, Act.put, rhoT, relOf, tkCv, e7, x0, x1, x2, f0, f1, f2]
    clear x0 x1 x2 f0 f1 f2 z7 hf hwo e7 hz2 hbe
    generalize ((wu.setCell ⟨E, 0, none⟩ (.int .i64 M.a)).setCell ⟨E, 1, none⟩ (.int .i64 M.b)).setCell ⟨E, 2, none⟩ (.int .i64 M.c) = w2 at Z2 HB2 ⊢
    clear HB0
    have H2 := Lib.hid (H1.out.below HB2.out); have N2 := Lib.hid ((HB2.out.block _ l1).trans Z1.out)
    have lE : w1.heap.size ≤ E := b7
    clear H1 Z1
    go_wp2_with fail
    obtain ⟨⟨s0, s1, s2⟩, _⟩ := run_cells H2.out
    obtain ⟨m0, m1, m2⟩ := g_cells Z2.out
    have LR := heapsz H2.out.box; have LE := heapsz Z2.out; have LN := heapsz N2.out
    have v0 : ∀ u : KeptW w2, u.w.cell? ⟨C.R, 0, none⟩ = some (.int .i64 st.a) := fun u => ((bcell u.h).1 _ _ LR).trans s0
    have v1 : ∀ u : KeptW w2, u.w.cell? ⟨C.R, 1, none⟩ = some (.int .i64 st.b) := fun u => ((bcell u.h).1 _ _ LR).trans s1
    have v2 : ∀ u : KeptW w2, u.w.cell? ⟨C.R, 2, none⟩ = some (.int .i64 st.c) := fun u => ((bcell u.h).1 _ _ LR).trans s2
    have v3 : ∀ u : KeptW w2, u.w.cell? ⟨E, 0, none⟩ = some (.int .i64 M.a) := fun u => ((bcell u.h).1 _ _ LE).trans m0
    have v4 : ∀ u : KeptW w2, u.w.cell? ⟨E, 1, none⟩ = some (.int .i64 M.b) := fun u => ((bcell u.h).1 _ _ LE).trans m1
    have v5 : ∀ u : KeptW w2, u.w.cell? ⟨E, 2, none⟩ = some (.int .i64 M.c) := fun u => ((bcell u.h).1 _ _ LE).trans m2
    have HC := Lib.hid (fun u : KeptW w2 => Calls.in_kept u (KT.out u.w))
    clear s0 s1 s2 m0 m1 m2
    apply rk_tailX (C := fun w' => ∃ u : KeptW w2, w' = u.w)
    case hs => exact (rfl : _ = [_, _, _, _, _, _, _, _, _, _, _] ++ [_])
    case hm => kernel_rfl
    case hB => kernel_rfl
    case hT => kernel_rfl
    case hC => exact ⟨⟨w2.drew, (Below.refl w2.heap.size w2).drew⟩, rfl⟩
    repeat (go_big_quiet_step (first | (with_reducible exact HC.out _) | fail))
    refine wpQuiet_nil ?_
    rintro _ ⟨uu, rfl⟩
    have hR0 := H2.out.below uu.h
    obtain ⟨⟨s0, s1, s2⟩, _⟩ := run_cells hR0
    have f0 := run_frz hR0 0; have f1 := run_frz hR0 1; have f2 := run_frz hR0 2
    have hR1 := hR0.stock HK.out T
    have hneN : w.heap.size ≠ C.R := by have := HBL.out.1; omega
    have hneE : E ≠ C.R := by have := HBL.out.1; omega
    have hN3 := ((set3_only uu.w C.R 0 (.int .i64 T.a) (.int .i64 T.b) (.int .i64 T.c)).2 _ hneN).trans ((uu.h.block _ LN).trans N2.out)
    have hE3 := ((set3_only uu.w C.R 0 (.int .i64 T.a) (.int .i64 T.b) (.int .i64 T.c)).2 _ hneE).trans ((uu.h.block _ LE).trans Z2.out)
    simp only [Nat.zero_add] at hN3 hE3
    have H3 := Lib.hid hR1; have N3 := Lib.hid hN3; have E3 := Lib.hid hE3
    clear hR0 hR1 hN3 hE3 v0 v1 v2 v3 v4 v5 HC H2 Z2 N2
    unfold Oper.wp
    simp [go_sem, s0, s1, s2, f0, f1, f2]
    clear s0 s1 s2 f0 f1 f2 LR LE LN
    generalize ((uu.w.setCell ⟨C.R, 0, none⟩ (.int .i64 T.a)).setCell ⟨C.R, 1, none⟩ (.int .i64 T.b)).setCell ⟨C.R, 2, none⟩ (.int .i64 T.c) = w3 at H3 N3 E3 ⊢
    go_wp2_with fail
    obtain ⟨i0, hi0, hz0, hz1, hz2⟩ := info_parts goods_info
    have LR := heapsz H3.out.box; have LE := heapsz E3.out; have LN := heapsz N3.out
    have HY3 := Lib.hid (run_types H3.out)
    apply tail_regionX
    case hs => exact (rfl : _ = [_, _, _, _, _, _, _, _, _, _, _, _, _, _, _, _] ++ [_])
    case hm => kernel_rfl
    case hT => kernel_rfl
    refine plan_guarded_any (γ := GhE) [0] (rhoO 42 43 (tsCv C.R sv T)) (SL ⟨w3, C.w0.heap.size, 23, 3, ss.length, sv, flatR gR ss, gR T, 11, 12⟩) ⟨fun _ => undef, fun _ => undef⟩ (by kernel_rfl) (by kernel_rfl) (by kernel_rfl) (by kernel_rfl) ?_ (SL.start H3.out.so H3.out.bel.size (by decide)) ?_ ?_
    · intro t ht
      simp only [List.mem_cons, List.not_mem_nil, or_false] at ht
      rcases ht with rfl
      rfl
    · refine allOps_array ?_
      have hcl : ∀ done g w' k, SL ⟨w3, C.w0.heap.size, 23, 3, ss.length, sv, flatR gR ss, gR T, 11, 12⟩ done g w' → w'.cell? ⟨C.R, k, none⟩ = w3.cell? ⟨C.R, k, none⟩ := fun done g w' k hS => hS.cell LR (fun e => HY3.out.2.1 e.symm)
      obtain ⟨⟨a0, a1, a2⟩, _, _, _, _, _, _, _, _, a17, _⟩ := run_cells H3.out
      refine ⟨?_, ?_, ?_, ?_, ?_, ?_, ?_, ?_, ?_, ?_, ?_, ?_, ?_, ?_, ?_, ?_, trivial⟩ <;> intro done g w' hS hu hdep _ <;> have s0 := (hcl _ _ _ 0 hS).trans a0 <;> have s1 := (hcl _ _ _ 1 hS).trans a1 <;> have s2 := (hcl _ _ _ 2 hS).trans a2 <;> have r17 := (hcl _ _ _ 17 hS).trans a17
      · refine quietL hS 31 rfl (by simp) (by simp) rfl ?_
        simp [go_sem, evalBy, rhoO, tsCv]
      · refine quietL hS 32 rfl (by simp) (by simp) rfl ?_
        simp [go_sem, evalBy, rhoO, tsCv]
      · refine quietL hS 33 rfl (by simp) (by simp) rfl ?_
        simp [go_sem, evalBy, rhoO, tsCv]
      · refine quietL hS 34 rfl (by simp) (by simp) rfl ?_
        simp [go_sem, evalBy, rhoO, tsCv]
      · refine quietL hS 35 rfl (by simp) (by simp) rfl ?_
        simp [go_sem, evalBy, rhoO, tsCv]
      · refine quietL hS 36 rfl (by simp) (by simp) rfl ?_
        simp [go_sem, evalBy, rhoO, tsCv, r17]
      · refine quietL hS 37 rfl (by simp) (by simp) rfl ?_
        simp [go_sem, evalBy, rhoO, tsCv]
      · refine quietL hS 38 rfl (by simp) (by simp) rfl ?_
        simp [go_sem, evalBy, rhoO, tsCv]
      · refine quietL hS 39 rfl (by simp) (by simp) rfl ?_
        simp [go_sem, evalBy, rhoO, tsCv]
      · refine quietL hS 40 rfl (by simp) (by simp) rfl ?_
        simp [go_sem, evalBy, rhoO, tsCv]
      · refine quietL hS 41 rfl (by simp) (by simp) rfl ?_
        simp [go_sem, evalBy, rhoO, tsCv, s0, s1, s2]
      · refine buildL hS 42 rfl rfl rfl ?_ (fun _ => rfl) (fun t b' ht => rhoO_b t b' ht)
        simp [go_sem, evalBy, rhoO, tsCv, gR]
      · exact appendL hS 43 rfl rfl hu (hdep ⟨11, .data⟩ (by simp) rfl) rfl 36 42 33 rfl rfl rfl i0 _ 24 Tryd.underlying33 hi0 hz0 hz1 hz2 rfl (by show 0 < 3; decide) rfl (by simp [Value.oneCell', gR]) (by unfold maxLen; show ss.length + 1 ≤ _; omega) (by show (ss.length + 1) * 24 ≤ _; omega) (fun _ => rfl) (fun t c' ht => rhoO_c t c' ht)
      · refine quietL hS 44 rfl (by simp) (by simp) rfl ?_
        simp [go_sem, evalBy, rhoO, tsCv]
      · refine quietL hS 45 rfl (by simp) (by simp) rfl ?_
        simp [go_sem, evalBy, rhoO, tsCv]
      · refine quietL hS 46 rfl (by simp) (by simp) rfl ?_
        simp [go_sem, evalBy, rhoO, tsCv]
    · intro g wC hS
      have hA := SL.after hS (show 12 < _ by decide)
      obtain ⟨gb, cg, ev, _⟩ := hA.2.1.form (by omega)
      have hR4 := H3.out.stocks HK.out T hA.1 hA.2.1 hA.2.2
      have hsvN : some w.heap.size ≠ sv.ownBlock := fun e => by have := HBL.out.2.1 _ e.symm; omega
      have hsvE : some E ≠ sv.ownBlock := fun e => by have := HBL.out.2.1 _ e.symm; omega
      have hN4 := (set1_keep wC C.R 17 (g.c 0) _ hneN).trans ((hA.1.block _ LN hsvN).trans N3.out)
      have hE4 := (set1_keep wC C.R 17 (g.c 0) _ hneE).trans ((hA.1.block _ LE hsvE).trans E3.out)
      have hb4 := (hA.1.block _ LR (fun e => HY3.out.2.1 e.symm)).trans H3.out.box
      have f17 : wC.frozen? ⟨C.R, 17, none⟩ = false := by simp [World.frozen?, hb4]
      have c17 := cell_of_row wC C.R 17 _ 99 (0, 0) hb4
      simp at c17
      rw [ev] at hR4 hN4 hE4
      have H4 := Lib.hid hR4; have N4 := Lib.hid hN4; have E4 := Lib.hid hE4
      clear hA hS hR4 hN4 hE4 hb4
      simp only [QT]
      unfold Oper.wp
      simp [go_sem, putAll, Act.put, rhoO, tsCv, ev, f17, c17]
      clear f17 c17 ev
      obtain ⟨sv4, hsv4⟩ : ∃ z, Value.slice (some ⟨gb, 0, none⟩) (ss.length + 1) cg = z := ⟨_, rfl⟩
      rw [hsv4] at H4 N4 E4
      try rw [hsv4]
      generalize wC.setCell ⟨C.R, 17, none⟩ sv4 = w4 at H4 N4 E4 ⊢
      clear H3 N3 E3 LR LE LN HY3
      go_wp2_with fail
      have LR := heapsz H4.out.box; have LE := heapsz E4.out; have LN := heapsz N4.out
      have HY4 := Lib.hid (run_types H4.out)
      have hlvN : some w.heap.size ≠ lv.ownBlock := fun e => by have := HBL.out.2.2 _ e.symm; omega
      have hlvE : some E ≠ lv.ownBlock := fun e => by have := HBL.out.2.2 _ e.symm; omega
      apply tail_regionX
      case hs => exact (rfl : _ = [_, _, _, _, _, _, _, _, _, _, _, _, _, _] ++ [_])
      case hm => kernel_rfl
      case hT => kernel_rfl
      refine plan_guarded_any (γ := GhE) [0, 4, 5] (rhoO 56 57 (tlCv C.R w.heap.size E lv N M L)) (SL ⟨w4, C.w0.heap.size, 23, 3, ls.length, lv, flatR gR ls, gR L, 9, 10⟩) ⟨fun _ => undef, fun _ => undef⟩ (by kernel_rfl) (by kernel_rfl) (by kernel_rfl) (by kernel_rfl) ?_ (SL.start H4.out.lo H4.out.bel.size (by decide)) ?_ ?_
      · intro t ht
        simp only [List.mem_cons, List.not_mem_nil, or_false] at ht
        rcases ht with rfl | rfl | rfl <;> rfl
      · refine allOps_array ?_
        have hcl : ∀ done g w' k, SL ⟨w4, C.w0.heap.size, 23, 3, ls.length, lv, flatR gR ls, gR L, 9, 10⟩ done g w' → w'.cell? ⟨C.R, k, none⟩ = w4.cell? ⟨C.R, k, none⟩ ∧ w'.cell? ⟨w.heap.size, k, none⟩ = w4.cell? ⟨w.heap.size, k, none⟩ ∧ w'.cell? ⟨E, k, none⟩ = w4.cell? ⟨E, k, none⟩ := fun done g w' k hS => ⟨hS.cell LR (fun e => HY4.out.2.2 e.symm), hS.cell LN hlvN, hS.cell LE hlvE⟩
        obtain ⟨_, _, _, _, _, _, _, _, _, _, a18⟩ := run_cells H4.out
        obtain ⟨g0, g1, g2⟩ := g_cells N4.out
        obtain ⟨h0, h1, h2⟩ := g_cells E4.out
        refine ⟨?_, ?_, ?_, ?_, ?_, ?_, ?_, ?_, ?_, ?_, ?_, ?_, ?_, ?_, trivial⟩ <;> intro done g w' hS hu hdep _ <;> have r18 := (hcl _ _ _ 18 hS).1.trans a18 <;> have n0 := (hcl _ _ _ 0 hS).2.1.trans g0 <;> have n1 := (hcl _ _ _ 1 hS).2.1.trans g1 <;> have n2 := (hcl _ _ _ 2 hS).2.1.trans g2 <;> have m0 := (hcl _ _ _ 0 hS).2.2.trans h0 <;> have m1 := (hcl _ _ _ 1 hS).2.2.trans h1 <;> have m2 := (hcl _ _ _ 2 hS).2.2.trans h2
        · refine quietL hS 47 rfl (by simp) (by simp) rfl ?_
          simp [go_sem, evalBy, rhoO, tlCv]
        · refine quietL hS 48 rfl (by simp) (by simp) rfl ?_
          simp [go_sem, evalBy, rhoO, tlCv]
        · refine quietL hS 49 rfl (by simp) (by simp) rfl ?_
          simp [go_sem, evalBy, rhoO, tlCv]
        · refine quietL hS 50 rfl (by simp) (by simp) rfl ?_
          simp [go_sem, evalBy, rhoO, tlCv]
        · refine quietL hS 51 rfl (by simp) (by simp) rfl ?_
          simp [go_sem, evalBy, rhoO, tlCv]
        · refine quietL hS 52 rfl (by simp) (by simp) rfl ?_
          simp [go_sem, evalBy, rhoO, tlCv, r18]
        · refine quietL hS 53 rfl (by simp) (by simp) rfl ?_
          simp [go_sem, evalBy, rhoO, tlCv, n0, n1, n2]
        · refine quietL hS 54 rfl (by simp) (by simp) rfl ?_
          simp [go_sem, evalBy, rhoO, tlCv, m0, m1, m2]
        · refine callL hS 55 rfl (by simp) (by simp) rfl 78 #[gV N, gV M] (by simp [go_sem, evalBy, rhoO, tlCv]) ?_
          exact KL.out w'
        · refine buildL hS 56 rfl rfl rfl ?_ (fun _ => rfl) (fun t b' ht => rhoO_b t b' ht)
          simp [go_sem, evalBy, rhoO, tlCv, gR]
        · exact appendL hS 57 rfl rfl hu (hdep ⟨9, .data⟩ (by simp) rfl) rfl 52 56 33 rfl rfl rfl i0 _ 24 Tryd.underlying33 hi0 hz0 hz1 hz2 rfl (by show 0 < 3; decide) rfl (by simp [Value.oneCell', gR]) (by unfold maxLen; show ls.length + 1 ≤ _; omega) (by show (ls.length + 1) * 24 ≤ _; omega) (fun _ => rfl) (fun t c' ht => rhoO_c t c' ht)
        · refine quietL hS 58 rfl (by simp) (by simp) rfl ?_
          simp [go_sem, evalBy, rhoO, tlCv]
        · refine quietL hS 59 rfl (by simp) (by simp) rfl ?_
          simp [go_sem, evalBy, rhoO, tlCv]
        · refine quietL hS 60 rfl (by simp) (by simp) rfl ?_
          simp [go_sem, evalBy, rhoO, tlCv]
      · intro g wC hS
        have hA := SL.after hS (show 10 < _ by decide)
        obtain ⟨gb, cg, ev, _⟩ := hA.2.1.form (by omega)
        have hR5 := H4.out.lacks HK.out L hA.1 hA.2.1 hA.2.2
        have hb5 := (hA.1.block _ LR (fun e => HY4.out.2.2 e.symm)).trans H4.out.box
        have f18 : wC.frozen? ⟨C.R, 18, none⟩ = false := by simp [World.frozen?, hb5]
        have c18 := cell_of_row wC C.R 18 _ 99 (0, 0) hb5
        simp at c18
        rw [ev] at hR5
        have H5 := Lib.hid hR5
        clear hA hS hR5 hb5
        simp only [QT]
        unfold Oper.wp
        simp [go_sem, putAll, Act.put, rhoO, tlCv, ev, f18, c18]
        clear f18 c18 ev
        try go_wp2_with fail
        exact bodyPost_end (v := .tuple #[]) (by simp [results, Tryd.results69, go_sem]) rfl ⟨rfl, _, _, H5.out⟩
end
end Go.Proofs.YtijjkiogmlannaaDoor
