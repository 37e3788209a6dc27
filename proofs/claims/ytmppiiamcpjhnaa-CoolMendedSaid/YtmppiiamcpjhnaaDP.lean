/- Coolers: the worst truth, by the specification. -/
import Derived.Test.YtmppiiamcpjhnaaDE
import Derived.Test.YtmppiiamcpjhnaaDD
namespace Go.Proofs.Ytmppiiamcpjhnaa
open Go.RowKit Go.Shelf

def needL (T : Tn) (k : Nat) : List Int := (List.range k).map (needI T)
def lowL (T : Tn) (i k : Nat) : List Int := (List.range k).map fun h => lowI T h i
def worstT (T : Tn) : Tu := ⟨needL T T.hs.length, (List.range T.ss.length).map fun i => lowL T i T.hs.length⟩
theorem needL_succ (T : Tn) (k : Nat) : needL T (k + 1) = needL T k ++ [needI T k] := by unfold needL; rw [List.range_succ, List.map_append]; rfl
theorem lowL_succ (T : Tn) (i k : Nat) : lowL T i (k + 1) = lowL T i k ++ [lowI T k i] := by unfold lowL; rw [List.range_succ, List.map_append]; rfl
/-- The memory of Worst. -/
structure WoA (w : World) (N : Nat) (V : TV) (vn vg : Value) (ln : Nat) (xs : List Int) (wr : World) : Prop where
  bel : Below w.heap.size w wr
  zt : wr.heap[w.heap.size]? = some (.cells (tvC V) 25 (0, 0))
  zr : wr.heap[w.heap.size + 1]? = some (.cells #[.slice none 0 0, .slice none 0 0] 46 (0, 0))
  zx : wr.heap[w.heap.size + 1 + 1]? = some (.cells #[vn, vg] 46 (0, 0))
  on : wr.ownsRow N 3 1 vn ln (flatR intR xs)
  sz : N ≤ wr.heap.size
theorem WoA.up {w wr wq : World} {N ln : Nat} {V : TV} {vn vg : Value} {xs : List Int} (h : WoA w N V vn vg ln xs wr) (hb : Below wr.heap.size wr wq) : WoA w N V vn vg ln xs wq :=
  ⟨h.bel.trans (hb.mono h.bel.size), (hb.block _ (heapsz h.zt)).trans h.zt, (hb.block _ (heapsz h.zr)).trans h.zr, (hb.block _ (heapsz h.zx)).trans h.zx, own_next h.on hb, Nat.le_trans h.sz hb.size⟩
/-- A need more. -/
theorem WoA.push {w wr wC : World} {N ln : Nat} {V : TV} {vn vg v' : Value} {xs : List Int} {x : Int} (h : WoA w N V vn vg ln xs wr) (hN : w.heap.size + 1 + 1 + 1 ≤ N) (hg : wr.grownBy wC vn.ownBlock) (ho : wC.ownsRow N 3 1 v' (ln + 1) (flatR intR xs ++ [.int .i64 x])) :
    (wC.cell? ⟨w.heap.size + 1 + 1, 0, none⟩ = some vn ∧ wC.frozen? ⟨w.heap.size + 1 + 1, 0, none⟩ = false) ∧ WoA w N V v' vg (ln + 1) (xs ++ [x]) (wC.setCell ⟨w.heap.size + 1 + 1, 0, none⟩ v') := by
  have hrow : ∀ q, vn.ownBlock = some q → N ≤ q := fun q e => (own_at h.on e).1
  have keep : ∀ (b : Nat) (cs : Array Value) (T : TypeId), wr.heap[b]? = some (.cells cs T (0, 0)) → b < N → wC.heap[b]? = some (.cells cs T (0, 0)) := fun b cs T hb hlt =>
    (hg.block b (heapsz hb) (fun e => by have := hrow b e.symm; omega)).trans hb
  have kx := keep _ _ _ h.zx (by omega)
  have hbz := h.bel.size
  have n6 : ∀ {b : Nat} {cs : Array Value} {T : TypeId}, wC.heap[b]? = some (.cells cs T (0, 0)) → b ≠ w.heap.size + 1 + 1 → (wC.setCell ⟨w.heap.size + 1 + 1, 0, none⟩ v').heap[b]? = some (.cells cs T (0, 0)) := fun hb hT => (Below.heap_setCell _ _ _ _ hT).trans hb
  refine ⟨⟨cell_blk (k := 0) kx rfl, by simp [World.frozen?, kx]⟩, ?_, n6 (keep _ _ _ h.zt (by omega)) (by omega), n6 (keep _ _ _ h.zr (by omega)) (by omega), blk_set kx 0 v', ?_, ?_⟩
  · exact (h.bel.grown hg hbz (fun q e => by have := hrow q e; omega)).setCell (p := ⟨w.heap.size + 1 + 1, 0, none⟩) (by show w.heap.size ≤ w.heap.size + 1 + 1; omega) v'
  · rw [flatR_snoc]
    exact own_of_blocks ho fun B hB => Below.heap_setCell _ _ _ _ (by have := (own_at ho hB).1; show B ≠ w.heap.size + 1 + 1; omega)
  · have h1 := hg.size
    have h2 := h.sz
    simp [World.setCell]
    omega
/-- A row more. -/
theorem WoA.push2 {w wr wC : World} {N ln i : Nat} {V : TV} {vn vg v' l : Value} {xs : List Int} {rows : List Value} {ls : Nat → List Int} {o : Obj} (h : WoA w N V vn vg ln xs wr) (hN : w.heap.size + 1 + 1 + 1 ≤ N) (hog : wr.ownsRow N 26 1 vg i rows) (hr : ∀ j row, rows[j]? = some row → RowIs intR 3 N (ls j) row wr) (hl : RowIs intR 3 N (ls i) l wr) (hg : (wr.alloc o).grownBy wC vg.ownBlock) (ho : wC.ownsRow N 26 1 v' (i + 1) (rows ++ [l])) :
    (wC.cell? ⟨w.heap.size + 1 + 1, 1, none⟩ = some vg ∧ wC.frozen? ⟨w.heap.size + 1 + 1, 1, none⟩ = false) ∧ WoA w N V vn v' ln xs (wC.setCell ⟨w.heap.size + 1 + 1, 1, none⟩ v') ∧ (wC.setCell ⟨w.heap.size + 1 + 1, 1, none⟩ v').ownsRow N 26 1 v' (i + 1) (rows ++ [l]) ∧ ∀ j row, (rows ++ [l])[j]? = some row → RowIs intR 3 N (ls j) row (wC.setCell ⟨w.heap.size + 1 + 1, 1, none⟩ v') := by
  have hrow : ∀ q, vg.ownBlock = some q → N ≤ q ∧ ∃ cur, wr.heap[q]? = some (.cells cur 26 (0, 0)) := fun q e => own_at hog e
  have keep : ∀ (b : Nat) (cs : Array Value) (T : TypeId), wr.heap[b]? = some (.cells cs T (0, 0)) → (b < N ∨ T ≠ 26) → wC.heap[b]? = some (.cells cs T (0, 0)) := fun b cs T hb hor =>
    (hg.block b (by have := heapsz hb; simp; omega) (fun e => by
      obtain ⟨h1, cur, h2⟩ := hrow b e.symm
      rcases hor with h3 | h3
      · omega
      · rw [hb] at h2
        injection h2 with h2
        injection h2 with _ h2
        exact h3 h2)).trans ((Below.heap_alloc _ _ _ (heapsz hb)).trans hb)
  have kx := keep _ _ _ h.zx (.inl (by omega))
  have hbz := h.bel.size
  have n6 : ∀ {b : Nat} {cs : Array Value} {T : TypeId}, wC.heap[b]? = some (.cells cs T (0, 0)) → b ≠ w.heap.size + 1 + 1 → (wC.setCell ⟨w.heap.size + 1 + 1, 1, none⟩ v').heap[b]? = some (.cells cs T (0, 0)) := fun hb hT => (Below.heap_setCell _ _ _ _ hT).trans hb
  have k3 : ∀ (b : Nat) (cs : Array Value), N ≤ b → wr.heap[b]? = some (.cells cs 3 (0, 0)) → (wC.setCell ⟨w.heap.size + 1 + 1, 1, none⟩ v').heap[b]? = some (.cells cs 3 (0, 0)) := fun b cs hb hc => n6 (keep b cs 3 hc (.inr (by decide))) (by omega)
  have hb1 : Below w.heap.size w (wr.alloc o) := h.bel.alloc hbz o
  refine ⟨⟨by have := cell_of_row wC _ 1 _ 46 (0, 0) kx; simpa using this, by simp [World.frozen?, kx]⟩, ⟨?_, n6 (keep _ _ _ h.zt (.inl (by omega))) (by omega), n6 (keep _ _ _ h.zr (.inl (by omega))) (by omega), blk_set kx 1 v', ?_, ?_⟩, ?_, ?_⟩
  · exact (hb1.grown hg hb1.size (fun q e => by have := (hrow q e).1; omega)).setCell (p := ⟨w.heap.size + 1 + 1, 1, none⟩) (by show w.heap.size ≤ w.heap.size + 1 + 1; omega) v'
  · exact own_of_blocks h.on fun B hB => by
      obtain ⟨h1, cur, h2⟩ := own_at h.on hB
      rw [h2]
      exact k3 B cur h1 h2
  · have h1 := hg.size
    have h2 := h.sz
    simp at h1
    simp [World.setCell]
    omega
  · exact own_of_blocks ho fun B hB => Below.heap_setCell _ _ _ _ (by have := (own_at ho hB).1; show B ≠ w.heap.size + 1 + 1; omega)
  · intro j row hj
    by_cases hlt : j < rows.length
    · rw [List.getElem?_append_left hlt] at hj
      exact (hr j row hj).keep fun b cs hb hc => k3 b cs hb hc
    · have h1 := (List.getElem?_eq_some_iff.1 hj).1
      rw [List.length_append, List.length_singleton] at h1
      have h2 := hog.1
      rw [Nat.mul_one] at h2
      have h3 : j = i := by omega
      subst h3
      rw [List.getElem?_append_right (by omega), h2, Nat.sub_self] at hj
      simp at hj
      subst hj
      exact hl.keep fun b cs hb hc => k3 b cs hb hc
def wo1Cv (B : Nat) (k : Nat) (vn : Value) (b o nh ch : Nat) (n : Int) : Tmp → Value
  | 1 => .pointer (some ⟨B, 0, none⟩)
  | 3 => .pointer (some ⟨B + 1 + 1, 0, none⟩)
  | 4 => .int .i64 (k : Int)
  | 15 => .pointer (some ⟨B + 1 + 1, 0, none⟩)
  | 16 => vn
  | 17 => .pointer (some ⟨B, 0, none⟩)
  | 18 => .slice (some ⟨b, o, none⟩) nh ch
  | 19 => .int .i64 (k : Int)
  | 20 => .pointer (some ⟨b, o + k * 3, none⟩)
  | 21 => .pointer (some ⟨b, o + k * 3, none⟩)
  | 22 => .pointer (some ⟨b, o + k * 3 + 1, none⟩)
  | 23 => .int .i64 n
  | 26 => .pointer (some ⟨B + 1 + 1, 0, none⟩)
  | _ => undef
theorem ints_info : (Try.prog.info? 26).map (fun i => (i.zero, i.size, i.bytes)) = some (some (.slice none 0 0), 1, 24) := by kernel_rfl
section
attribute [local irreducible] QT
set_option maxRecDepth 100000 in
set_option maxHeartbeats 8000000 in
theorem Worst_any (V : TV) (T : Tn) (w : World) (hN : TnAt w w.heap.size V T) (hK : TnOk T) :
    Calls Try.prog 31 #[tvV V] w fun e w' => ∃ U, e = .returned (uvV U) ∧ Below w.heap.size w w' ∧ TuAt w' w'.heap.size U (worstT T) := by
  obtain ⟨z0, z1, z2, hb⟩ := three_new w (.cells (tvC V) 25) (.cells #[.slice none 0 0, .slice none 0 0] 46) (.cells #[.slice none 0 0, .slice none 0 0] 46)
  obtain ⟨w3, hw3⟩ : ∃ z, ((w.alloc (.cells (tvC V) 25)).alloc (.cells #[.slice none 0 0, .slice none 0 0] 46)).alloc (.cells #[.slice none 0 0, .slice none 0 0] 46) = z := ⟨_, rfl⟩
  have hs3 : w3.heap.size = w.heap.size + 3 := by rw [← hw3]; simp
  rw [hw3] at z0 z1 z2 hb
  have HI0 : Hid (WoA w w3.heap.size V (.slice none 0 0) (.slice none 0 0) 0 (needL T 0) w3) := Lib.hid ⟨hb, z0, z1, z2, World.ownsRow_nil _ _ _ _, Nat.le_refl _⟩
  have HN := Lib.hid hN; have HK := Lib.hid hK; have HS3 := Lib.hid hs3
  have HNH := Lib.hid hN.nh; have HNS := Lib.hid hN.ns
  have h6 := hK.h6; have h10 := hK.s10
  obtain ⟨ah, nh, ch, az, ns, cz⟩ := V
  have hnh : nh ≤ 6 := by have h1 : T.hs.length = nh := HNH.out; omega
  have hns : ns ≤ 10 := by have h1 : T.ss.length = ns := HNS.out; omega
  have hw3' : ((w.alloc (.cells #[.slice ah nh ch, .slice az ns cz] 25)).alloc (.cells #[.slice none 0 0, .slice none 0 0] 46)).alloc (.cells #[.slice none 0 0, .slice none 0 0] 46) = w3 := hw3
  obtain ⟨i0, hi0, hz0, hz1, hz2⟩ := info_parts int_info
  clear z0 z1 z2 hb hw3 hN hK hs3 h6 h10
  go_enter Try.func31, Try.ntmps31
  go_wp2_with fail
  clear hw3'
  go_loopw [4] (fun ii wr => ∃ (k : Nat) (vn : Value), k ≤ nh ∧ ii = .int .i64 k ∧ WoA w w3.heap.size ⟨ah, nh, ch, az, ns, cz⟩ vn (.slice none 0 0) k (needL T k) wr) (fun ii _ => nh - (intOf ii).toNat)
  case atStart => exact ⟨0, _, by omega, rfl, HI0.out⟩
  case round =>
    obtain ⟨k, vn, hk, rfl, hi⟩ := hrel
    have HI := Lib.hid hi
    obtain ⟨v0, v1⟩ := box2 hi.zt
    obtain ⟨x0, x1⟩ := box2 hi.zx
    simp only at v0 v1 x0 x1
    by_cases hlt : k < nh
    · have k3 : (0 : Int) ≤ (k : Int) := by omega
      have k4 : (k : Int) < (nh : Int) := by omega
      obtain ⟨x, hx⟩ := get_of_lt (l := T.hs) (k := k) (by rw [HNH.out]; exact hlt)
      obtain ⟨b, o, hah, hbb, d0, d1, d2⟩ := hs_el HN.out.hs hx
      have hah2 : ah = some ⟨b, o, none⟩ := hah
      subst hah2
      have e1 := ((bcell hi.bel).1 _ _ hbb).trans d1
      have HNE : Hid (needI T k = x.nh) := Lib.hid (by unfold needI; rw [List.getD_eq_getElem?_getD, hx]; rfl)
      have hown := hi.on
      have hnt := heapsz hi.zt; have hnx := heapsz hi.zx
      have hsz := hi.sz
      have nt : some w.heap.size ≠ vn.ownBlock := fun e => by have := (own_at hown e.symm).1; have := HS3.out; omega
      have nx : some (w.heap.size + 1 + 1) ≠ vn.ownBlock := fun e => by have := (own_at hown e.symm).1; have := HS3.out; omega
      have nb : some b ≠ vn.ownBlock := fun e => by have := (own_at hown e.symm).1; have := HS3.out; omega
      have hbw : b < wr.heap.size := by have := hi.bel.size; omega
      have HOWN := Lib.hid hown
      clear hi hx hah hbb d0 d1 d2
      go_wp2_with fail
      apply tail_regionX
      case hs => exact (rfl : _ = [_, _, _, _, _, _, _, _, _, _, _, _] ++ [_])
      case hm => kernel_rfl
      case hT => kernel_rfl
      refine plan_guarded_any (γ := GhE) [1, 3, 4] (rhoO 24 25 (wo1Cv w.heap.size k vn b o nh ch x.nh)) (SL ⟨wr, w3.heap.size, 3, 1, k, vn, flatR intR (needL T k), intR x.nh, 9, 10⟩) ⟨fun _ => undef, fun _ => undef⟩ (by kernel_rfl) (by kernel_rfl) (by kernel_rfl) (by kernel_rfl) ?_ (SL.start HOWN.out hsz (by decide)) ?_ ?_
      · intro t ht
        simp only [List.mem_cons, List.not_mem_nil, or_false] at ht
        rcases ht with rfl | rfl | rfl <;> rfl
      · refine allOps_array ?_
        refine ⟨?_, ?_, ?_, ?_, ?_, ?_, ?_, ?_, ?_, ?_, ?_, ?_, trivial⟩ <;> intro done gh wS hS hu hdep _ <;> have s0 := (hS.cell hnt nt (o := 0)).trans v0 <;> have s1 := (hS.cell hnx nx (o := 0)).trans x0 <;> have s2 := (hS.cell hbw nb (o := o + k * 3 + 1)).trans e1
        · exact quietL hS 15 rfl (by simp) (by simp) rfl (by simp [go_sem, evalBy, rhoO, wo1Cv])
        · exact quietL hS 16 rfl (by simp) (by simp) rfl (by simp [go_sem, evalBy, rhoO, wo1Cv, s1])
        · exact quietL hS 17 rfl (by simp) (by simp) rfl (by simp [go_sem, evalBy, rhoO, wo1Cv])
        · exact quietL hS 18 rfl (by simp) (by simp) rfl (by simp [go_sem, evalBy, rhoO, wo1Cv, s0])
        · exact quietL hS 19 rfl (by simp) (by simp) rfl (by simp [go_sem, evalBy, rhoO, wo1Cv])
        · exact quietL hS 20 rfl (by simp) (by simp) rfl (by simp [go_sem, evalBy, rhoO, wo1Cv, k3, k4])
        · exact quietL hS 21 rfl (by simp) (by simp) rfl (by simp [go_sem, evalBy, rhoO, wo1Cv])
        · exact quietL hS 22 rfl (by simp) (by simp) rfl (by simp [go_sem, evalBy, rhoO, wo1Cv])
        · exact quietL hS 23 rfl (by simp) (by simp) rfl (by simp [go_sem, evalBy, rhoO, wo1Cv, s2])
        · refine buildL hS 24 rfl rfl rfl ?_ (fun _ => rfl) (fun t b' ht => rhoO_b t b' ht)
          simp [go_sem, evalBy, rhoO, wo1Cv, intR]
        · exact appendL hS 25 rfl rfl hu (hdep ⟨9, .data⟩ (by simp) rfl) rfl 16 24 26 rfl rfl rfl i0 _ 8 Try.underlying26 hi0 hz0 hz1 hz2 rfl (by show 0 < 1; decide) rfl (by simp [Value.oneCell', intR]) (by unfold maxLen; show k + 1 ≤ _; omega) (by show (k + 1) * 8 ≤ _; omega) (fun _ => rfl) (fun t c' ht => rhoO_c t c' ht)
        · exact quietL hS 26 rfl (by simp) (by simp) rfl (by simp [go_sem, evalBy, rhoO, wo1Cv])
      · intro gh wC hS
        have hA := SL.after hS (show 10 < _ by decide)
        have hA2 := hA.2.1
        obtain ⟨gb, cg, ev, _⟩ := hA2.form (by omega)
        have hp := HI.out.push (by have := HS3.out; omega) hA.1 (by rw [ev] at hA2; exact hA2)
        have p5 := hp.1.1
        have f5 := hp.1.2
        have HP := Lib.hid hp.2
        clear hA hS hp hA2 v0 v1 x0 x1 e1
        simp only [QT]
        unfold Oper.wp
        simp [go_sem, putAll, Act.put, rhoO, wo1Cv, p5, f5, ev]
        go_wp2_with fail
        exact ⟨⟨k + 1, _, by omega, rfl, by rw [needL_succ, HNE.out]; exact HP.out⟩, by simp [intOf]; omega⟩
    · obtain rfl : nh = k := by omega
      have k4 : ¬ (nh : Int) < (nh : Int) := by omega
      obtain ⟨j0, hj0, hjz, hj1, hj2⟩ := info_parts ints_info
      clear hi
      go_wp2_with fail
      clear v0 v1 x0 x1
      go_loopw [5] (fun ii wr => ∃ (i : Nat) (vg : Value) (rows : List Value), i ≤ ns ∧ ii = .int .i64 i ∧ WoA w w3.heap.size ⟨ah, nh, ch, az, ns, cz⟩ vn vg nh (needL T nh) wr ∧ wr.ownsRow w3.heap.size 26 1 vg i rows ∧ ∀ j row, rows[j]? = some row → RowIs intR 3 w3.heap.size (lowL T j nh) row wr) (fun ii _ => ns - (intOf ii).toNat)
      case atStart => exact ⟨0, _, [], by omega, rfl, HI.out, World.ownsRow_nil _ _ _ _, fun j row hj => by simp at hj⟩
      case round =>
        obtain ⟨i, vg, rows, hi2, rfl, hi, hog, hrs⟩ := hrel
        obtain ⟨w4, rfl⟩ : ∃ w4, w4 = wr := ⟨wr, rfl⟩
        have HI4 := Lib.hid hi; have HOG := Lib.hid hog; have HRS := Lib.hid hrs
        obtain ⟨v0, v1⟩ := box2 hi.zt
        obtain ⟨x0, x1⟩ := box2 hi.zx
        simp only at v0 v1 x0 x1
        by_cases hlt2 : i < ns
        · have k5 : (0 : Int) ≤ (i : Int) := by omega
          have k6 : (i : Int) < (ns : Int) := by omega
          obtain ⟨s, hs⟩ := get_of_lt (l := T.ss) (k := i) (by rw [HNS.out]; exact hlt2)
          have HSI := Lib.hid hs
          clear hi hog hrs hs
          go_wp2_with fail
          clear v0 v1 x0 x1
          go_loopw [6, 7] (fun ll ii wr => ∃ (h : Nat) (l : Value), h ≤ nh ∧ ii = .int .i64 h ∧ ll = l ∧ Below w4.heap.size w4 wr ∧ wr.ownsRow w4.heap.size 3 1 l h (flatR intR (lowL T i h))) (fun _ ii _ => nh - (intOf ii).toNat)
          case atStart => exact ⟨0, _, by omega, rfl, rfl, Below.refl _ _, World.ownsRow_nil _ _ _ _⟩
          case round =>
            obtain ⟨h, l, hh, rfl, hll, hbr, hol⟩ := hrel
            have hll := hll.symm
            subst hll
            have HBR := Lib.hid hbr; have HOL := Lib.hid hol
            have hi5 := HI4.out.up hbr
            have HI5 := Lib.hid hi5
            obtain ⟨v0, v1⟩ := box2 hi5.zt
            obtain ⟨x0, x1⟩ := box2 hi5.zx
            simp only at v0 v1 x0 x1
            by_cases hlt3 : h < nh
            · have k7 : (0 : Int) ≤ (h : Int) := by omega
              have hgl : s.gv.length = nh := by have := (HK.out.ss s (List.mem_of_getElem? HSI.out)).len; have h2 : T.hs.length = nh := HNH.out; omega
              obtain ⟨b, o, A4, m4, c4, haz, hb4, hm4, ⟨_, _, d2⟩, hpr, hmx4⟩ := si_el HN.out.ss HSI.out
              have haz2 : az = some ⟨b, o, none⟩ := haz
              subst haz2
              obtain ⟨x, hx⟩ := get_of_lt (l := s.gv) (k := h) (by omega)
              obtain ⟨b5, o5, rfl, hb5, g0, g1⟩ := pr_el hpr hx
              have k8 : (h : Int) < (m4 : Int) := by omega
              have HLW : Hid (lowI T h i = x.1) := Lib.hid (by unfold lowI; rw [List.getD_eq_getElem?_getD, List.getD_eq_getElem?_getD, HSI.out, Option.getD_some, hx]; rfl)
              have e1 := ((bcell hi5.bel).1 _ _ hb4).trans d2
              have e2 := ((bcell hi5.bel).1 _ _ hb5).trans g0
              have hsz := hbr.size
              have hwz := HI4.out.bel.size
              have hnt := heapsz HI4.out.zt
              have hb4' : b < wr.heap.size := by omega
              have hb5' : b5 < wr.heap.size := by omega
              have hnt' : w.heap.size < wr.heap.size := by omega
              clear hi5 hbr hol hgl haz hb4 hm4 d2 hpr hmx4 hx hb5 g0 g1
              go_wp2_with (first
                | (at_builtin
                   refine wpList_append_own _ rfl _ _ 26 rfl w4.heap.size 3 i0 _ 1 8 Try.underlying26 hi0 hz0 hz1 hz2 rfl (by decide) _ _ _ rfl (own_next HOL.out ((Below.refl _ wr).alloc (Nat.le_refl _) _)) ⟨wr.heap.size, 0, none⟩ 1 1 [.int .i64 x.1] rfl rfl (cells_new wr [.int .i64 x.1] 3) (by simp [Value.oneCell']) (by unfold maxLen; omega) (by omega) (by simp; omega) ?_
                   intro v' w6 hown6 hgr6 hnil6)
                | fail)
              refine ⟨⟨h + 1, v', by omega, rfl, rfl, ?_, ?_⟩, by simp [intOf]; omega⟩
              · have hb6 : Below w4.heap.size w4 (wr.alloc (.cells #[.int .i64 x.1] 3)) := HBR.out.alloc (by omega) _
                exact hb6.grown hgr6 hb6.size (fun q e => (own_at HOL.out e).1)
              · rw [lowL_succ, flatR_snoc, HLW.out]
                exact hown6
            · obtain rfl : nh = h := by omega
              have k9 : ¬ (nh : Int) < (nh : Int) := by omega
              have hrl := RowIs.of_own (R := intR) (row := lowL T i nh) (by simpa [lowL] using hol)
              obtain ⟨A7, c7, hl7⟩ := hrl.len
              have hln : (lowL T i nh).length = nh := by simp [lowL]
              rw [hln] at hl7
              subst hl7
              have HRL := Lib.hid (hrl.low HI4.out.sz)
              have HOG5 := Lib.hid (own_next HOG.out hbr)
              have HRS5 := Lib.hid (fun j row hj => (HRS.out j row hj).below hbr)
              have hsz5 := hi5.sz
              clear hi5 hbr hol hrl hln
              go_wp2_with (first
                | (at_builtin
                   refine wpList_append_own _ rfl _ _ 44 rfl w3.heap.size 26 j0 _ 1 24 Try.underlying44 hj0 hjz hj1 hj2 rfl (by decide) _ _ _ rfl (own_next HOG5.out ((Below.refl _ wr).alloc (Nat.le_refl _) _)) ⟨wr.heap.size, 0, none⟩ 1 1 [.slice A7 nh c7] rfl rfl (cells_new wr [.slice A7 nh c7] 26) (by simp [Value.oneCell']) (by unfold maxLen; omega) (by omega) (by simp; omega) ?_
                   intro v' w6 hown6 hgr6 hnil6
                   have hp := HI5.out.push2 (by have := HS3.out; omega) HOG5.out HRS5.out HRL.out hgr6 hown6
                   have p5 := hp.1.1
                   have f5 := hp.1.2
                   have HP := Lib.hid hp.2
                   obtain ⟨g9, c9, hv9⟩ := ownsRow_succ hown6
                   subst hv9
                   clear hp hown6 hgr6 hnil6)
                | fail)
              exact ⟨⟨i + 1, _, _, by omega, rfl, HP.out⟩, by simp [intOf]; omega⟩
        · obtain rfl : ns = i := by omega
          have k6 : ¬ (ns : Int) < (ns : Int) := by omega
          have hrn := RowIs.of_own (R := intR) (row := needL T nh) (by simpa [needL] using hi.on)
          obtain ⟨A7, c7, hl7⟩ := hrn.len
          have hln : (needL T nh).length = nh := by simp [needL]
          rw [hln] at hl7
          subst hl7
          obtain ⟨A8, c8, hl8, hgd⟩ : ∃ A8 c8, vg = .slice A8 ns c8 ∧ True := by
            rcases hog.2 with ⟨h1, h2⟩ | ⟨g, cap, cur, h1, _⟩
            · exact ⟨none, 0, by rw [h1, h2], trivial⟩
            · exact ⟨_, _, h1, trivial⟩
          subst hl8
          obtain ⟨r0, r1⟩ := box2 hi.zr
          have hfr : ∀ j, w4.frozen? ⟨w.heap.size + 1, j, none⟩ = false := fun j => by simp [World.frozen?, hi.zr]
          have f0 := hfr 0; have f1 := hfr 1
          have HRN := Lib.hid hrn
          clear hi hog hrs hrn hln hfr
          go_wp2_with fail
          have zF := blk_set (blk_set HI4.out.zr 0 (.slice A7 nh c7)) 1 (.slice A8 ns c8)
          have hoth : ∀ b, b ≠ w.heap.size + 1 → ((w4.setCell ⟨w.heap.size + 1, 0, none⟩ (.slice A7 nh c7)).setCell ⟨w.heap.size + 1, 1, none⟩ (.slice A8 ns c8)).heap[b]? = w4.heap[b]? := fun b hb => (Below.heap_setCell _ _ _ _ hb).trans (Below.heap_setCell _ _ _ _ hb)
          have hbF := (HI4.out.bel.setCell (p := ⟨w.heap.size + 1, 0, none⟩) (by show w.heap.size ≤ w.heap.size + 1; omega) (.slice A7 nh c7)).setCell (p := ⟨w.heap.size + 1, 1, none⟩) (by show w.heap.size ≤ w.heap.size + 1; omega) (.slice A8 ns c8)
          obtain ⟨wF, hwF⟩ : ∃ z, (w4.setCell ⟨w.heap.size + 1, 0, none⟩ (.slice A7 nh c7)).setCell ⟨w.heap.size + 1, 1, none⟩ (.slice A8 ns c8) = z := ⟨_, rfl⟩
          rw [hwF] at zF hoth hbF ⊢
          have hN3 := HS3.out
          have k3 : ∀ (b : Nat) (cs : Array Value) (t : TypeId), w3.heap.size ≤ b → w4.heap[b]? = some (.cells cs t (0, 0)) → wF.heap[b]? = some (.cells cs t (0, 0)) := fun b cs t hb hc => (hoth b (by omega)).trans hc
          have hss : T.ss.length = ns := HNS.out
          have hhs : T.hs.length = nh := HNH.out
          have hog := HOG.out
          have hT : TuAt wF wF.heap.size ⟨A7, nh, c7, A8, ns, c8⟩ (worstT T) := by
            refine ⟨?_, fun hne => ?_, by show (needL T T.hs.length).length = nh; simp [needL, hhs], by simp [worstT, hss], (show nh ≤ maxLen by unfold maxLen; omega), (show ns ≤ maxLen by unfold maxLen; omega)⟩
            · show IntsAt wF wF.heap.size A7 (needL T T.hs.length)
              rw [hhs]
              exact row_ints (HRN.out.keep fun b cs hb hc => k3 b cs 3 hb hc)
            · rcases hog.2 with ⟨h1, h2⟩ | ⟨g, cap, cur, h1, h2, h3, h4, _, h6, h7⟩
              · exact absurd (by simp [worstT, hss, h2]) hne
              · injection h1 with h1 _ _
                have zg := k3 _ _ _ h2 h3
                refine ⟨g, 0, h1, heapsz zg, fun j x hx => ?_⟩
                have hj : j < ns := by have := (List.getElem?_eq_some_iff.1 hx).1; simpa [worstT, hss] using this
                have hx2 : x = lowL T j nh := by
                  simp only [worstT, hss, hhs, List.getElem?_map, List.getElem?_range hj, Option.map_some, Option.some.injEq] at hx
                  exact hx.symm
                subst hx2
                have hrl : rows.length = ns := by have := hog.1; omega
                obtain ⟨row, hrow⟩ := get_of_lt (l := rows) (k := j) (by omega)
                have hri := (HRS.out j row hrow).keep fun b cs hb hc => k3 b cs 3 hb hc
                obtain ⟨A9, c9, e9, h9, h10⟩ := hri.at_ (k := 1) (fun _ => rfl)
                refine ⟨A9, c9, ?_, h9, by unfold lowL maxLen; rw [List.length_map, List.length_range]; omega, h10⟩
                rw [Nat.zero_add, cell_of_row wF g j _ 26 (0, 0) zg, ← e9]
                rw [← h7, List.getElem?_take] at hrow
                split at hrow
                · simpa using hrow
                · cases hrow
          obtain ⟨e0, e1⟩ := box2 (a := .slice A7 nh c7) (b := .slice A8 ns c8) zF
          exact bodyPost_ret (v := .agg #[.slice A7 nh c7, .slice A8 ns c8]) (by simp [results, Try.results31, go_sem, e0, e1]) rfl ⟨⟨A7, nh, c7, A8, ns, c8⟩, rfl, hbF, hT⟩
end
end Go.Proofs.Ytmppiiamcpjhnaa
