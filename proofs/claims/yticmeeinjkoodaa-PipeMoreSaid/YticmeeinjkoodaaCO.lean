/- Pipes: the net of the examples. Pipes: equal lists. Pipes: the examples of the document. -/
import Derived.Test.YticmeeinjkoodaaCL
namespace Go.Proofs.Yticmeeinjkoodaa
open Go.RowKit Go.Shelf

def lpA : Lp := ⟨300, 400, 100, 150, 50, 80, 30, 50, 200, 60, 1, 2⟩
def lpZ : Lp := ⟨300, 300, 200, 200, 60, 60, 40, 50, 200, 80, 1, 1⟩
def frs (k : Nat) : List (Int × Int) := List.replicate k (200, 300)
def net0 : Nt := ⟨[lpA, lpZ], frs 8, [[0, 1, 1], [1, 0, 1], [1, 1, 0]]⟩
theorem seven_new (w : World) (o0 o1 o2 o3 o4 o5 o6 : Obj) : ∃ u, u = ((((((w.alloc o0).alloc o1).alloc o2).alloc o3).alloc o4).alloc o5).alloc o6 ∧ u.heap.size = w.heap.size + 7 ∧ u.heap[w.heap.size]? = some o0 ∧ u.heap[w.heap.size + 1]? = some o1 ∧ u.heap[w.heap.size + 1 + 1]? = some o2 ∧ u.heap[w.heap.size + 1 + 1 + 1]? = some o3 ∧ u.heap[w.heap.size + 1 + 1 + 1 + 1]? = some o4 ∧ u.heap[w.heap.size + 1 + 1 + 1 + 1 + 1]? = some o5 ∧ u.heap[w.heap.size + 1 + 1 + 1 + 1 + 1 + 1]? = some o6 ∧ Below w.heap.size w u := by
  obtain ⟨a0, a1, a2, ha⟩ := three_new w o0 o1 o2
  obtain ⟨b0, b1, b2, hb⟩ := three_new (((w.alloc o0).alloc o1).alloc o2) o3 o4 o5
  have c0 := heap_alloc_new ((((((w.alloc o0).alloc o1).alloc o2).alloc o3).alloc o4).alloc o5) o6
  have hc := (Below.refl _ ((((((w.alloc o0).alloc o1).alloc o2).alloc o3).alloc o4).alloc o5)).alloc (Nat.le_refl _) o6
  have e3 : (((w.alloc o0).alloc o1).alloc o2).heap.size = w.heap.size + 1 + 1 + 1 := by simp
  have e6 : ((((((w.alloc o0).alloc o1).alloc o2).alloc o3).alloc o4).alloc o5).heap.size = w.heap.size + 1 + 1 + 1 + 1 + 1 + 1 := by simp
  rw [e3] at b0 b1 b2 hb
  rw [e6] at c0 hc
  refine ⟨_, rfl, by simp, ?_, ?_, ?_, ?_, ?_, ?_, c0, (ha.trans (hb.mono (by omega))).trans (hc.mono (by omega))⟩
  · exact (hc.block _ (by omega)).trans ((hb.block _ (by omega)).trans a0)
  · exact (hc.block _ (by omega)).trans ((hb.block _ (by omega)).trans a1)
  · exact (hc.block _ (by omega)).trans ((hb.block _ (by omega)).trans a2)
  · exact (hc.block _ (by omega)).trans b0
  · exact (hc.block _ (by omega)).trans b1
  · exact (hc.block _ (by omega)).trans b2
/-- The net's memory while frosts are added. -/
structure NI (w : World) (base : Nat) (k : Nat) (fv : Value) (wr : World) : Prop where
  bel : Below w.heap.size w wr
  sz : base ≤ wr.heap.size
  z0 : wr.heap[w.heap.size]? = some (.cells #[.slice none 0 0, .slice none 0 0, .slice none 0 0] 26)
  z1 : wr.heap[w.heap.size + 1]? = some (.cells #[.int .i64 300, .int .i64 400, .int .i64 100, .int .i64 150, .int .i64 50, .int .i64 80, .int .i64 30, .int .i64 50, .int .i64 200, .int .i64 60, .int .i64 1, .int .i64 2, .int .i64 300, .int .i64 300, .int .i64 200, .int .i64 200, .int .i64 60, .int .i64 60, .int .i64 40, .int .i64 50, .int .i64 200, .int .i64 80, .int .i64 1, .int .i64 1] 49)
  z2 : wr.heap[w.heap.size + 1 + 1]? = some (.cells #[.int .i64 0, .int .i64 1, .int .i64 1] 3)
  z3 : wr.heap[w.heap.size + 1 + 1 + 1]? = some (.cells #[.int .i64 1, .int .i64 0, .int .i64 1] 3)
  z4 : wr.heap[w.heap.size + 1 + 1 + 1 + 1]? = some (.cells #[.int .i64 1, .int .i64 1, .int .i64 0] 3)
  z5 : wr.heap[w.heap.size + 1 + 1 + 1 + 1 + 1]? = some (.cells #[.slice (some ⟨w.heap.size + 1 + 1, 0, none⟩) 3 3, .slice (some ⟨w.heap.size + 1 + 1 + 1, 0, none⟩) 3 3, .slice (some ⟨w.heap.size + 1 + 1 + 1 + 1, 0, none⟩) 3 3] 57)
  z6 : wr.heap[w.heap.size + 1 + 1 + 1 + 1 + 1 + 1]? = some (.cells #[.slice (some ⟨w.heap.size + 1, 0, none⟩) 2 2, fv, .slice (some ⟨w.heap.size + 1 + 1 + 1 + 1 + 1, 0, none⟩) 3 3] 26)
  own : wr.ownsRow base 47 2 fv k (flatR prR (frs k))
theorem NI.push {w wr wC : World} {base k : Nat} {fv v' : Value} {tmp : Obj} (h : NI w base k fv wr) (hbw : w.heap.size + 7 ≤ base) (hg : (wr.alloc tmp).grownBy wC fv.ownBlock) (ho : wC.ownsRow base 47 2 v' (k + 1) (flatR prR (frs k) ++ [.int .i64 200, .int .i64 300])) :
    (wC.cell? ⟨w.heap.size + 1 + 1 + 1 + 1 + 1 + 1, 1, none⟩ = some fv ∧ wC.frozen? ⟨w.heap.size + 1 + 1 + 1 + 1 + 1 + 1, 1, none⟩ = false) ∧ NI w base (k + 1) v' (wC.setCell ⟨w.heap.size + 1 + 1 + 1 + 1 + 1 + 1, 1, none⟩ v') := by
  have hrow : ∀ q, fv.ownBlock = some q → base ≤ q := fun q e => (own_at h.own e).1
  have keep : ∀ (b : Nat) (cs : Array Value) (T : TypeId), wr.heap[b]? = some (.cells cs T (0, 0)) → b < base → wC.heap[b]? = some (.cells cs T (0, 0)) := fun b cs T hb hlt =>
    (hg.block b (by have := heapsz hb; simp; omega) (fun e => by have := hrow b e.symm; omega)).trans ((Below.heap_alloc _ _ _ (heapsz hb)).trans hb)
  have k6 := keep _ _ _ h.z6 (by omega)
  have n6 : ∀ {b : Nat} {cs : Array Value} {T : TypeId}, wC.heap[b]? = some (.cells cs T (0, 0)) → b ≠ w.heap.size + 1 + 1 + 1 + 1 + 1 + 1 → (wC.setCell ⟨w.heap.size + 1 + 1 + 1 + 1 + 1 + 1, 1, none⟩ v').heap[b]? = some (.cells cs T (0, 0)) := fun hb hT => (Below.heap_setCell _ _ _ _ hT).trans hb
  have hbz := h.bel.size
  refine ⟨⟨by simpa using cell_of_row wC _ 1 _ 26 (0, 0) k6, by simp [World.frozen?, k6]⟩, ?_, ?_, n6 (keep _ _ _ h.z0 (by omega)) (by omega), n6 (keep _ _ _ h.z1 (by omega)) (by omega), n6 (keep _ _ _ h.z2 (by omega)) (by omega), n6 (keep _ _ _ h.z3 (by omega)) (by omega), n6 (keep _ _ _ h.z4 (by omega)) (by omega), n6 (keep _ _ _ h.z5 (by omega)) (by omega), blk_set k6 1 v', ?_⟩
  · exact ((h.bel.alloc hbz tmp).grown hg (by simp; omega) (fun q e => by have := hrow q e; omega)).setCell (p := ⟨w.heap.size + 1 + 1 + 1 + 1 + 1 + 1, 1, none⟩) (by show w.heap.size ≤ w.heap.size + 1 + 1 + 1 + 1 + 1 + 1; omega) v'
  · have h1 := hg.size
    have h2 := h.sz
    simp at h1
    simp [World.setCell]
    omega
  · have e : flatR prR (frs (k + 1)) = flatR prR (frs k) ++ [.int .i64 200, .int .i64 300] := by
      unfold frs
      rw [List.replicate_succ', flatR_snoc]
      rfl
    rw [e]
    exact own_of_blocks ho fun B hB => Below.heap_setCell _ _ _ _ (by have := (own_at ho hB).1; show B ≠ w.heap.size + 1 + 1 + 1 + 1 + 1 + 1; omega)
theorem row_made {α : Type} {k : Nat} {R : α → List Value} {w : World} {b c : Nat} {cs : Array Value} {T : TypeId} {rows : List α} (h : w.heap[b]? = some (.cells cs T (0, 0))) (hR : ∀ x, (R x).length = k) (hc : cs = (flatR R rows).toArray) (hl : rows.length ≤ c) : RowAt k R w w.heap.size (some ⟨b, 0, none⟩) rows := by
  have hr : RowIs R T 0 rows (.slice (some ⟨b, 0, none⟩) rows.length c) w := .inr ⟨b, c, rfl, Nat.zero_le _, hl, cs, h, fun i x hx => by rw [hc]; simpa using hx⟩
  obtain ⟨A, c', e, hA, _⟩ := hr.at_ hR
  injection e with e
  rw [e]
  exact hA
theorem net_at {w : World} {b1 b2 b3 b4 b5 c8 B : Nat} {A8 : Option Addr} (z1 : w.heap[b1]? = some (.cells #[.int .i64 300, .int .i64 400, .int .i64 100, .int .i64 150, .int .i64 50, .int .i64 80, .int .i64 30, .int .i64 50, .int .i64 200, .int .i64 60, .int .i64 1, .int .i64 2, .int .i64 300, .int .i64 300, .int .i64 200, .int .i64 200, .int .i64 60, .int .i64 60, .int .i64 40, .int .i64 50, .int .i64 200, .int .i64 80, .int .i64 1, .int .i64 1] 49)) (z2 : w.heap[b2]? = some (.cells #[.int .i64 0, .int .i64 1, .int .i64 1] 3)) (z3 : w.heap[b3]? = some (.cells #[.int .i64 1, .int .i64 0, .int .i64 1] 3)) (z4 : w.heap[b4]? = some (.cells #[.int .i64 1, .int .i64 1, .int .i64 0] 3))
    (z5 : w.heap[b5]? = some (.cells #[.slice (some ⟨b2, 0, none⟩) 3 3, .slice (some ⟨b3, 0, none⟩) 3 3, .slice (some ⟨b4, 0, none⟩) 3 3] 57)) (hr : RowIs prR 47 B (frs 8) (.slice A8 8 c8) w) : NtAt w w.heap.size ⟨some ⟨b1, 0, none⟩, 2, 2, A8, 8, c8, some ⟨b5, 0, none⟩, 3, 3⟩ net0 := by
  obtain ⟨A, c', e, hA, _⟩ := hr.at_ (k := 2) (fun _ => rfl)
  injection e with e
  rw [← e] at hA
  refine ⟨row_made z1 (fun _ => rfl) rfl (by decide : [lpA, lpZ].length ≤ 2), hA, fun _ => ⟨b5, 0, rfl, heapsz z5, fun i x hx => ?_⟩, rfl, by simp [net0, frs], rfl, (show (2 : Nat) ≤ maxLen by decide), (show (8 : Nat) ≤ maxLen by decide), (show (3 : Nat) ≤ maxLen by decide)⟩
  have q := fun k => cell_of_row w b5 k _ 57 (0, 0) z5
  have hi : i < 3 := (List.getElem?_eq_some_iff.1 hx).1
  rcases (show i = 0 ∨ i = 1 ∨ i = 2 by omega) with rfl | rfl | rfl
  · obtain rfl : [0, 1, 1] = x := by simpa [net0] using hx
    exact ⟨_, 3, by simpa using q 0, row_made z2 (fun _ => rfl) rfl (by decide : [(0 : Int), 1, 1].length ≤ 3), by decide, by decide⟩
  · obtain rfl : [1, 0, 1] = x := by simpa [net0] using hx
    exact ⟨_, 3, by simpa using q 1, row_made z3 (fun _ => rfl) rfl (by decide : [(1 : Int), 0, 1].length ≤ 3), by decide, by decide⟩
  · obtain rfl : [1, 1, 0] = x := by simpa [net0] using hx
    exact ⟨_, 3, by simpa using q 2, row_made z4 (fun _ => rfl) rfl (by decide : [(1 : Int), 1, 0].length ≤ 3), by decide, by decide⟩
set_option maxRecDepth 100000 in
set_option maxHeartbeats 4000000 in
theorem Net_any (w : World) : Calls Try.prog 53 #[] w fun e w' => ∃ V, e = .returned (nvV V) ∧ NtAt w' w'.heap.size V net0 ∧ Below w.heap.size w w' := by
  obtain ⟨w7, hw7, hs7, z0, z1, z2, z3, z4, z5, z6, hb⟩ := seven_new w (.cells #[.slice none 0 0, .slice none 0 0, .slice none 0 0] 26) (.cells #[.int .i64 300, .int .i64 400, .int .i64 100, .int .i64 150, .int .i64 50, .int .i64 80, .int .i64 30, .int .i64 50, .int .i64 200, .int .i64 60, .int .i64 1, .int .i64 2, .int .i64 300, .int .i64 300, .int .i64 200, .int .i64 200, .int .i64 60, .int .i64 60, .int .i64 40, .int .i64 50, .int .i64 200, .int .i64 80, .int .i64 1, .int .i64 1] 49) (.cells #[.int .i64 0, .int .i64 1, .int .i64 1] 3) (.cells #[.int .i64 1, .int .i64 0, .int .i64 1] 3) (.cells #[.int .i64 1, .int .i64 1, .int .i64 0] 3) (.cells #[.slice (some ⟨w.heap.size + 1 + 1, 0, none⟩) 3 3, .slice (some ⟨w.heap.size + 1 + 1 + 1, 0, none⟩) 3 3, .slice (some ⟨w.heap.size + 1 + 1 + 1 + 1, 0, none⟩) 3 3] 57) (.cells #[.slice (some ⟨w.heap.size + 1, 0, none⟩) 2 2, .slice none 0 0, .slice (some ⟨w.heap.size + 1 + 1 + 1 + 1 + 1, 0, none⟩) 3 3] 26)
  have HNI : Hid (NI w w7.heap.size 0 (.slice none 0 0) w7) := Lib.hid ⟨hb, Nat.le_refl _, z0, z1, z2, z3, z4, z5, z6, World.ownsRow_nil _ _ _ _⟩
  have HS7 := Lib.hid hs7; have HW7 := Lib.hid hw7
  obtain ⟨i0, hi0, hz0, hz1, hz2⟩ := info_parts span_info
  clear z0 z1 z2 z3 z4 z5 z6 hb hs7 hw7
  go_enter Try.func53, Try.ntmps53
  go_wp2_with fail
  rw [← HW7.out]
  go_loopw [2] (fun ii wr => ∃ k : Nat, k ≤ 8 ∧ ii = .int .i64 k ∧ ∃ fv, NI w w7.heap.size k fv wr) (fun ii _ => 8 - (intOf ii).toNat)
  case atStart => exact ⟨0, by omega, rfl, _, HNI.out⟩
  case round =>
    obtain ⟨k, hk, rfl, fv, hni⟩ := hrel
    have HN := Lib.hid hni
    obtain ⟨v0, v1, v2⟩ := box3_cells hni.z6
    clear hni
    by_cases hlt : k < 8
    · have k3 : (0 : Int) ≤ (k : Int) := by omega
      have k4 : (k : Int) < 8 := by omega
      clear v0 v2
      have hb2 : ∀ (u : World) (o : Obj), u.heap.size + 1 = (u.alloc o).heap.size := fun u o => by simp
      go_wp2_with (first
        | (at_builtin
           refine wpList_append_own _ rfl _ _ 23 rfl w7.heap.size 47 i0 _ 2 16 Try.underlying23 hi0 hz0 hz1 hz2 rfl (by decide) _ _ _ rfl (own_next HN.out.own ((Below.refl _ wr).alloc (Nat.le_refl _) _)) ⟨wr.heap.size, 0, none⟩ 1 1 [.int .i64 200, .int .i64 300] rfl rfl (cells_new wr [.int .i64 200, .int .i64 300] 47) (by simp [Value.oneCell']) (by unfold maxLen; omega) (by omega) (by have := HN.out.sz; simp; omega) ?_
           intro v' wC hownC hgrC _
           have HP := Lib.hid (HN.out.push (by have := HS7.out; omega) hgrC hownC)
           have y1 := HP.out.1.1
           have f1 := HP.out.1.2
           obtain ⟨g, cap, rfl⟩ := ownsRow_succ hownC
           clear hownC hgrC)
        | fail)
      exact ⟨⟨k + 1, by omega, rfl, _, HP.out.2⟩, by simp [intOf]; omega⟩
    · obtain rfl : k = 8 := by omega
      have k4 : ¬ ((8 : Nat) : Int) < 8 := by omega
      have hri : RowIs prR 47 w7.heap.size (frs 8) fv wr := RowIs.of_own (R := prR) (by simpa [frs] using HN.out.own)
      obtain ⟨A8, c8, rfl, _, _⟩ := hri.at_ (k := 2) (fun _ => rfl)
      have hl8 : (frs 8).length = 8 := by simp [frs]
      rw [hl8] at hri v1
      have HRI := Lib.hid hri
      obtain ⟨r0, r1, r2⟩ := box3_cells HN.out.z0
      have hfr : ∀ j, wr.frozen? ⟨w.heap.size, j, none⟩ = false := fun j => by simp [World.frozen?, HN.out.z0]
      have f0 := hfr 0; have f1 := hfr 1; have f2 := hfr 2
      clear hri hfr hl8
      go_wp2_with fail
      have hoth : ∀ b, b ≠ w.heap.size → (((wr.setCell ⟨w.heap.size, 0, none⟩ (.slice (some ⟨w.heap.size + 1, 0, none⟩) 2 2)).setCell ⟨w.heap.size, 1, none⟩ (.slice A8 8 c8)).setCell ⟨w.heap.size, 2, none⟩ (.slice (some ⟨w.heap.size + 1 + 1 + 1 + 1 + 1, 0, none⟩) 3 3)).heap[b]? = wr.heap[b]? := fun b hb => (Below.heap_setCell _ _ _ _ hb).trans ((Below.heap_setCell _ _ _ _ hb).trans (Below.heap_setCell _ _ _ _ hb))
      have zF : (((wr.setCell ⟨w.heap.size, 0, none⟩ (.slice (some ⟨w.heap.size + 1, 0, none⟩) 2 2)).setCell ⟨w.heap.size, 1, none⟩ (.slice A8 8 c8)).setCell ⟨w.heap.size, 2, none⟩ (.slice (some ⟨w.heap.size + 1 + 1 + 1 + 1 + 1, 0, none⟩) 3 3)).heap[w.heap.size]? = some (.cells #[.slice (some ⟨w.heap.size + 1, 0, none⟩) 2 2, .slice A8 8 c8, .slice (some ⟨w.heap.size + 1 + 1 + 1 + 1 + 1, 0, none⟩) 3 3] 26 (0, 0)) := blk_set (blk_set (blk_set HN.out.z0 0 _) 1 _) 2 _
      have hbF := ((HN.out.bel.setCell (p := ⟨w.heap.size, 0, none⟩) (Nat.le_refl _) (.slice (some ⟨w.heap.size + 1, 0, none⟩) 2 2)).setCell (p := ⟨w.heap.size, 1, none⟩) (Nat.le_refl _) (.slice A8 8 c8)).setCell (p := ⟨w.heap.size, 2, none⟩) (Nat.le_refl _) (.slice (some ⟨w.heap.size + 1 + 1 + 1 + 1 + 1, 0, none⟩) 3 3)
      obtain ⟨wF, hwF⟩ : ∃ z, ((wr.setCell ⟨w.heap.size, 0, none⟩ (.slice (some ⟨w.heap.size + 1, 0, none⟩) 2 2)).setCell ⟨w.heap.size, 1, none⟩ (.slice A8 8 c8)).setCell ⟨w.heap.size, 2, none⟩ (.slice (some ⟨w.heap.size + 1 + 1 + 1 + 1 + 1, 0, none⟩) 3 3) = z := ⟨_, rfl⟩
      rw [hwF] at hoth zF hbF
      have hs7 := HS7.out
      have hnt := net_at ((hoth _ (by omega)).trans HN.out.z1) ((hoth _ (by omega)).trans HN.out.z2) ((hoth _ (by omega)).trans HN.out.z3) ((hoth _ (by omega)).trans HN.out.z4) ((hoth _ (by omega)).trans HN.out.z5) (HRI.out.keep fun b cs hb hx => (hoth b (by omega)).trans hx)
      obtain ⟨e0, e1, e2⟩ := box3_cells zF
      rw [hwF]
      exact bodyPost_ret (v := .agg #[.slice (some ⟨w.heap.size + 1, 0, none⟩) 2 2, .slice A8 8 c8, .slice (some ⟨w.heap.size + 1 + 1 + 1 + 1 + 1, 0, none⟩) 3 3]) (by simp [results, Try.results53, go_sem, e0, e1, e2]) rfl ⟨_, rfl, hnt, hbF⟩
end Go.Proofs.Yticmeeinjkoodaa

namespace Go.Proofs.Yticmeeinjkoodaa
open Go.RowKit Go.Shelf

theorem list_eq {xs ys : List Int} (hl : xs.length = ys.length) (h : ∀ (k : Nat) (x y : Int), xs[k]? = some x → ys[k]? = some y → x = y) : xs = ys := by
  refine List.ext_getElem hl fun i h1 h2 => h i _ _ (List.getElem?_eq_getElem h1) (List.getElem?_eq_getElem h2)
set_option maxRecDepth 100000 in
set_option maxHeartbeats 4000000 in
theorem Same_any {A B : Option Addr} {n c m d : Nat} {xs ys : List Int} (w : World) (hx : xs.length = n) (hn : n ≤ maxLen) (hA : IntsAt w w.heap.size A xs) (hy : ys.length = m) (hm : m ≤ maxLen) (hB : IntsAt w w.heap.size B ys) :
    Calls Try.prog 38 #[.slice A n c, .slice B m d] w fun e w' => e = .returned (.bool (decide (xs = ys))) ∧ Below w.heap.size w w' := by
  unfold maxLen at hn hm
  by_cases hnm : n = m
  · subst hnm
    have HX := Lib.hid hx; have HY := Lib.hid hy; have HA := Lib.hid hA; have HB := Lib.hid hB
    have HEQ : Hid (∀ (k : Nat) (x y : Int), xs[k]? = some x → ys[k]? = some y → ¬ x = y → decide (xs = ys) = false) := Lib.hid fun k x y h1 h2 h3 => by
      simp only [decide_eq_false_iff_not]
      rintro rfl
      rw [h1] at h2
      injection h2 with h2
      exact h3 h2
    clear hx hy hA hB
    go_enter Try.func38, Try.ntmps38
    go_wp2_with fail
    go_loopw [5] (fun ii wr => ∃ k : Nat, k ≤ n ∧ ii = .int .i64 k ∧ Below w.heap.size w wr ∧ ∀ (j : Nat) (x y : Int), j < k → xs[j]? = some x → ys[j]? = some y → x = y) (fun ii _ => n - (intOf ii).toNat)
    case atStart => exact ⟨0, by omega, rfl, Below.refl _ _, fun _ _ _ h => absurd h (Nat.not_lt_zero _)⟩
    case round =>
      obtain ⟨k, hk, rfl, hb, hal⟩ := hrel
      have HBR := Lib.hid hb; have HAL := Lib.hid hal
      clear hb hal
      by_cases hlt : k < n
      · have k3 : (0 : Int) ≤ (k : Int) := by omega
        have k4 : (k : Int) < (n : Int) := by omega
        obtain ⟨x, hx⟩ := get_of_lt (l := xs) (k := k) (by rw [HX.out]; exact hlt)
        obtain ⟨y, hy⟩ := get_of_lt (l := ys) (k := k) (by rw [HY.out]; exact hlt)
        obtain ⟨b1, o1, rfl, _, d1⟩ := ints_el (RowAt.up HA.out HBR.out) hx
        obtain ⟨b2, o2, rfl, _, d2⟩ := ints_el (RowAt.up HB.out HBR.out) hy
        have HXY := Lib.hid (And.intro hx hy)
        clear hx hy
        go_wp2_with fail
        go_quiet (fail)
        by_cases hxy : x = y
        · subst hxy
          go_wp2_with fail
          refine ⟨⟨k + 1, by omega, rfl, belN HBR.out _, fun j p q hj hp hq => ?_⟩, by simp [intOf]; omega⟩
          by_cases hjk : j < k
          · exact HAL.out j p q hjk hp hq
          · obtain rfl : j = k := by omega
            have h1 := HXY.out.1; have h2 := HXY.out.2
            rw [h1] at hp; rw [h2] at hq
            injection hp with hp; injection hq with hq
            rw [← hp, ← hq]
        · go_wp2_with fail
          go_ret
          exact ⟨by rw [HEQ.out k x y HXY.out.1 HXY.out.2 hxy]; rfl, belN HBR.out _⟩
      · obtain rfl : n = k := by omega
        have k4 : ¬ (n : Int) < (n : Int) := by omega
        have he : xs = ys := list_eq (by rw [HX.out, HY.out]) fun j x y h1 h2 => HAL.out j x y (by have := (List.getElem?_eq_some_iff.1 h1).1; have := HX.out; omega) h1 h2
        have HE := Lib.hid he
        clear he
        go_wp2_with fail
        go_ret
        exact ⟨by rw [show decide (xs = ys) = true from decide_eq_true HE.out]; rfl, HBR.out⟩
  · have hne : ¬ (n : Int) = (m : Int) := by omega
    have HE : Hid (decide (xs = ys) = false) := Lib.hid (decide_eq_false (fun e => hnm (by rw [← hx, ← hy, e])))
    clear hA hB hx hy
    go_enter Try.func38, Try.ntmps38
    go_wp2_with fail
    go_ret
    exact ⟨by rw [HE.out]; rfl, Below.refl _ _⟩
end Go.Proofs.Yticmeeinjkoodaa

namespace Go.Proofs.Yticmeeinjkoodaa
open Go.RowKit Go.Shelf

def ths0 : List Th := [⟨120, 250, true⟩, ⟨120, 250, false⟩]
theorem ex1 : truthI net0 0 350 ths0 = 0 := by decide +kernel
theorem ex2 : plaI net0 0 350 ths0 = ⟨268, 3000, 1420, 5680⟩ := by unfold plaI; rw [if_pos ex1]; rfl
theorem ex3 : frzA net0 1 = 4 ∧ frzB net0 1 = 5 ∧ loopI net0 1 = 0 := by decide +kernel
theorem ex4 : orderS net0 0 1 = 1 ∧ orderE net0 0 1 = 0 ∧ orderL net0 0 1 = [0] := by decide +kernel
theorem ex5 : orderE net0 0 3 = 5 ∧ orderS net0 0 3 = 0 := by decide +kernel
theorem ex6 : postR net0 [1] = (1, 2, 0) := by decide +kernel
theorem ex7 : wrapR net0 0 [1, 2, 3] = (1, 30, 0) := by decide +kernel
theorem eq43 (a b c d a' b' c' d' : Int) (w : World) : (Op.equalIn 10000 43 (.agg #[.int .i64 a, .int .i64 b, .int .i64 c, .int .i64 d]) (.agg #[.int .i64 a', .int .i64 b', .int .i64 c', .int .i64 d'])).run Try.prog w = .ok (a == a' && (b == b' && (c == c' && d == d'))) w := by
  have u3 := Try.underlying3
  have a3 := Try.isAgg3
  have z3 := Try.sizeOf3
  have hS : Try.prog.underlying 43 = some (.struct (Try.prog.fieldsOf 43)) := by kernel_rfl
  have hp : Try.prog.stoodInHeld 43 = false := by kernel_rfl
  rw [show (10000 : Nat) = 9999 + 1 from rfl, run_equalIn_agg w 9999 43 _ _ hS hp]
  simp only [Program.fieldsOf, Try.underlying43]
  go_simp
  by_cases h1 : a = a' <;> by_cases h2 : b = b' <;> by_cases h3 : c = c' <;> by_cases h4 : d = d' <;> simp [h1, h2, h3, h4]
set_option maxRecDepth 100000 in
set_option maxHeartbeats 8000000 in
theorem known_any (w : World) : Calls Try.prog 17 #[] w fun e w' => e = .returned (.bool true) ∧ Below w.heap.size w w' := by
  have q43 : ∀ w, (Op.equalIn 10000 43 (.agg #[.int .i64 268, .int .i64 3000, .int .i64 1420, .int .i64 5680]) (.agg #[.int .i64 268, .int .i64 3000, .int .i64 1420, .int .i64 5680])).run Try.prog w = .ok true w := fun w => by rw [eq43]; simp
  have hg : Try.prog.eqGuardType Try.prog.depth 43 = false := by kernel_rfl
  have HQ := Lib.hid (And.intro q43 hg)
  clear q43 hg
  go_enter Try.func17, Try.ntmps17
  go_wp2_with fail
  refine (Net_any _).mono ?_
  rintro e w1 ⟨V1, rfl, hn1, hb1⟩
  have HN1 := Lib.hid hn1
  have za := heap_alloc_new w1 (.cells #[.int .i64 120, .int .i64 250, .bool true, .int .i64 120, .int .i64 250, .bool false] 54)
  have ba := (Below.refl w1.heap.size w1).alloc (Nat.le_refl _) (.cells #[.int .i64 120, .int .i64 250, .bool true, .int .i64 120, .int .i64 250, .bool false] 54)
  obtain ⟨w2, hwa⟩ : ∃ z, w1.alloc (.cells #[.int .i64 120, .int .i64 250, .bool true, .int .i64 120, .int .i64 250, .bool false] 54) = z := ⟨_, rfl⟩
  rw [hwa] at za ba
  have HWa := Lib.hid hwa
  have HP := Lib.hid (Play_any V1 net0 0 350 _ 2 2 ths0 w2 (hn1.up ba) rfl (by unfold maxLen; omega) (row_made za (fun _ => rfl) rfl (by decide : ths0.length ≤ 2)))
  rw [ex1, ex2] at HP
  have HB2 := Lib.hid (hb1.trans (ba.mono hb1.size))
  clear hn1 hb1 za ba hwa
  go_wp2_with fail
  rw [HWa.out]
  refine HP.out.mono ?_
  rintro e w3 ⟨rfl, hb3⟩
  have zb := heap_alloc_new w3 (.cells #[.int .i64 268, .int .i64 3000, .int .i64 1420, .int .i64 5680] 43)
  have bb := (Below.refl w3.heap.size w3).alloc (Nat.le_refl _) (.cells #[.int .i64 268, .int .i64 3000, .int .i64 1420, .int .i64 5680] 43)
  obtain ⟨w4, hwb⟩ : ∃ z, w3.alloc (.cells #[.int .i64 268, .int .i64 3000, .int .i64 1420, .int .i64 5680] 43) = z := ⟨_, rfl⟩
  rw [hwb] at zb bb
  have HWb := Lib.hid hwb
  have HB4 := Lib.hid (HB2.out.trans ((hb3.trans (bb.mono hb3.size)).mono HB2.out.size))
  have HZ4 := Lib.hid zb
  clear hb3 zb bb hwb
  go_wp2_with fail
  rw [HWb.out]
  go_wp2_with fail
  refine (Net_any _).mono ?_
  rintro e w5 ⟨V2, rfl, hn2, hb2⟩
  have HN2 := Lib.hid hn2
  have HB5 := Lib.hid (HB4.out.trans (hb2.mono HB4.out.size))
  have HZ5 := Lib.hid ((hb2.block _ (heapsz HZ4.out)).trans HZ4.out)
  have HF := Lib.hid (Freezes_any V2 net0 1 w5 hn2)
  rw [ex3.1, ex3.2.1, ex3.2.2] at HF
  clear hn2 hb2
  go_wp2_with fail
  refine HF.out.mono ?_
  rintro e w6 ⟨rfl, hb6⟩
  have HB6 := Lib.hid (HB5.out.trans (hb6.mono HB5.out.size))
  have HZ6 := Lib.hid ((hb6.block _ (heapsz HZ5.out)).trans HZ5.out)
  clear hb6
  go_wp2_with fail
  refine (Net_any _).mono ?_
  rintro e w7 ⟨V3, rfl, hn3, hb3⟩
  have HN3 := Lib.hid hn3
  have HB7 := Lib.hid (HB6.out.trans (hb3.mono HB6.out.size))
  have HZ7 := Lib.hid ((hb3.block _ (heapsz HZ6.out)).trans HZ6.out)
  have HO := Lib.hid (Order_any V3 net0 0 1 w7 hn3)
  rw [ex4.1, ex4.2.1, ex4.2.2] at HO
  clear hn3 hb3
  go_wp2_with fail
  refine HO.out.mono ?_
  rintro e w8 ⟨v8, rfl, hb8, hr8⟩
  obtain ⟨A8, c8, rfl, _, _⟩ := hr8.at_ (k := 1) (fun _ => rfl)
  have HR8 := Lib.hid hr8
  have HB8 := Lib.hid (HB7.out.trans (hb8.mono HB7.out.size))
  have HZ8 := Lib.hid ((hb8.block _ (heapsz HZ7.out)).trans HZ7.out)
  clear hb8 hr8
  go_wp2_with fail
  refine (Net_any _).mono ?_
  rintro e w9 ⟨V4, rfl, hn4, hb4⟩
  have HN4 := Lib.hid hn4
  have HB9 := Lib.hid (HB8.out.trans (hb4.mono HB8.out.size))
  have HZ9 := Lib.hid ((hb4.block _ (heapsz HZ8.out)).trans HZ8.out)
  have HR9 := Lib.hid (HR8.out.below hb4)
  have HO4 := Lib.hid (Order_any V4 net0 0 3 w9 hn4)
  rw [ex5.1, ex5.2] at HO4
  clear hn4 hb4
  go_wp2_with fail
  refine HO4.out.mono ?_
  rintro e w10 ⟨v10, rfl, hb10, hr10⟩
  obtain ⟨A10, c10, rfl, _, _⟩ := hr10.at_ (k := 1) (fun _ => rfl)
  have HB10 := Lib.hid (HB9.out.trans (hb10.mono HB9.out.size))
  have HZ10 := Lib.hid ((hb10.block _ (heapsz HZ9.out)).trans HZ9.out)
  have HR10 := Lib.hid (HR9.out.below hb10)
  clear hb10 hr10
  go_wp2_with fail
  refine (Net_any _).mono ?_
  rintro e w11 ⟨V5, rfl, hn5, hb5⟩
  have HN5 := Lib.hid hn5
  have zc := heap_alloc_new w11 (.cells #[.int .i64 1] 3)
  have bc := (Below.refl w11.heap.size w11).alloc (Nat.le_refl _) (.cells #[.int .i64 1] 3)
  obtain ⟨w12, hwc⟩ : ∃ z, w11.alloc (.cells #[.int .i64 1] 3) = z := ⟨_, rfl⟩
  rw [hwc] at zc bc
  have HWc := Lib.hid hwc
  have HPO := Lib.hid (Post_any V5 net0 (some ⟨w11.heap.size, 0, none⟩) 1 1 [1] w12 (hn5.up bc) rfl (by unfold maxLen; omega) (row_made (R := intR) zc (fun _ => rfl) rfl (by decide : [(1 : Int)].length ≤ 1)))
  rw [ex6] at HPO
  have hb11 := hb5.trans (bc.mono hb5.size)
  have HB12 := Lib.hid (HB10.out.trans (hb11.mono HB10.out.size))
  have HZ12 := Lib.hid ((hb11.block _ (heapsz HZ10.out)).trans HZ10.out)
  have HR12 := Lib.hid (HR10.out.below hb11)
  clear hn5 hb5 zc bc hwc hb11
  simp only at HPO
  go_wp2_with fail
  rw [HWc.out]
  refine HPO.out.mono ?_
  rintro e w13 ⟨rfl, hb13⟩
  have HB13 := Lib.hid (HB12.out.trans (hb13.mono HB12.out.size))
  have HZ13 := Lib.hid ((hb13.block _ (heapsz HZ12.out)).trans HZ12.out)
  have HR13 := Lib.hid (HR12.out.below hb13)
  clear hb13
  go_wp2_with fail
  refine (Net_any _).mono ?_
  rintro e w14 ⟨V6, rfl, hn6, hb6⟩
  have HN6 := Lib.hid hn6
  have zd := heap_alloc_new w14 (.cells #[.int .i64 1, .int .i64 2, .int .i64 3] 3)
  have bd := (Below.refl w14.heap.size w14).alloc (Nat.le_refl _) (.cells #[.int .i64 1, .int .i64 2, .int .i64 3] 3)
  obtain ⟨w15, hwd⟩ : ∃ z, w14.alloc (.cells #[.int .i64 1, .int .i64 2, .int .i64 3] 3) = z := ⟨_, rfl⟩
  rw [hwd] at zd bd
  have HWd := Lib.hid hwd
  have HPW := Lib.hid (Wrap_any V6 net0 0 (some ⟨w14.heap.size, 0, none⟩) 3 3 [1, 2, 3] w15 (hn6.up bd) rfl (by unfold maxLen; omega) (row_made (R := intR) zd (fun _ => rfl) rfl (by decide : [(1 : Int), 2, 3].length ≤ 3)))
  rw [ex7] at HPW
  have hb15 := hb6.trans (bd.mono hb6.size)
  have HB15 := Lib.hid (HB13.out.trans (hb15.mono HB13.out.size))
  have HZ15 := Lib.hid ((hb15.block _ (heapsz HZ13.out)).trans HZ13.out)
  have HR15 := Lib.hid (HR13.out.below hb15)
  clear hn6 hb6 zd bd hwd hb15
  simp only at HPW
  go_wp2_with fail
  rw [HWd.out]
  refine HPW.out.mono ?_
  rintro e w16 ⟨rfl, hb16⟩
  have HB16 := Lib.hid (HB15.out.trans (hb16.mono HB15.out.size))
  have HZ16 := Lib.hid ((hb16.block _ (heapsz HZ15.out)).trans HZ15.out)
  have HR16 := Lib.hid (HR15.out.below hb16)
  clear hb16
  obtain ⟨q0, q1, q2, q3⟩ := ht_cells (t := ⟨268, 3000, 1420, 5680⟩) HZ16.out
  simp only at q0 q1 q2 q3
  have ze := heap_alloc_new w16 (.cells #[.int .i64 0] 3)
  have be := (Below.refl w16.heap.size w16).alloc (Nat.le_refl _) (.cells #[.int .i64 0] 3)
  obtain ⟨w17, hwe⟩ : ∃ z, w16.alloc (.cells #[.int .i64 0] 3) = z := ⟨_, rfl⟩
  rw [hwe] at ze be
  have HWe := Lib.hid hwe
  obtain ⟨A9, c9, e9, hA9, _⟩ := (HR16.out.below be).at_ (k := 1) (fun _ => rfl)
  injection e9 with e91 e92 e93
  subst e91
  have HSM := Lib.hid (Same_any (A := A8) (B := some ⟨w16.heap.size, 0, none⟩) (n := 1) (c := c8) (m := 1) (d := 1) (xs := [0]) (ys := [0]) w17 rfl (by unfold maxLen; omega) hA9 rfl (by unfold maxLen; omega) (row_made (R := intR) ze (fun _ => rfl) rfl (by decide : [(0 : Int)].length ≤ 1)))
  have HB17 := Lib.hid (HB16.out.trans (be.mono HB16.out.size))
  have hq43 := HQ.out.1
  have hgg := HQ.out.2
  clear e92 e93 ze be hwe hA9
  go_wp2_with fail
  rw [HWe.out]
  refine HSM.out.mono ?_
  rintro e w18 ⟨rfl, hb18⟩
  have HB18 := Lib.hid (HB17.out.trans (hb18.mono HB17.out.size))
  rw [show decide True = true from rfl]
  clear hb18
  go_wp2_with fail
  go_ret
  exact ⟨rfl, HB18.out⟩
end Go.Proofs.Yticmeeinjkoodaa
