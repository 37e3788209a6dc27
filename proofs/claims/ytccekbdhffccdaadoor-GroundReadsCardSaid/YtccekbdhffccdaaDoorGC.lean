/- The first line, the layers and the last line of a log, as the program reads them. -/
import Derived.Test.YtccekbdhffccdaaDoorGB
import Derived.Test.YtccekbdhffccdaaDoorRG
import Derived.Test.YtccekbdhffccdaaDoorRT
namespace Go.Proofs.YtccekbdhffccdaaDoor
open Go.RowKit

theorem rd_set {w : World} {R : Nat} {cs : Array Value} {t : TypeId} (h : w.heap[R]? = some (.cells cs t (0, 0))) (j : Nat) (u : Value) : (w.setCell ⟨R, j, none⟩ u).heap[R]? = some (.cells (cs.setIfInBounds j u) t (0, 0)) := by
  simp [World.setCell, Array.getElem?_modify, h]
set_option maxRecDepth 100000 in
set_option maxHeartbeats 4000000 in
theorem hole_any {R : Nat} (t rest : ByteArray) (cnt lo hi : Int) (V : Value) (m : Int) (w : World) (hR : RdB w R t rest cnt V lo hi) (hs : rest.size ≤ 6000) (hm : w.cell? ⟨1, 0, none⟩ = some (.int .i64 m)) (h1 : 1 < R) :
    Calls Tryd.prog 77 #[.pointer (some ⟨R, 0, none⟩)] w fun e w' => w.grownBy w' (some R) ∧
      ((∃ a b c r, Line3 wHole rest.data.toList a b c r ∧ e = .returned (.tuple #[]) ∧ RdB w' R t ⟨r.toArray⟩ a V b c) ∨ (NoLine wHole rest.data.toList ∧ e = .panicked [noLog])) := by
  have HR := Lib.hid hR; have HM := Lib.hid hm; have HS := Lib.hid hs
  have ltR := (Array.getElem?_eq_some_iff.1 hR).1
  clear hR hm hs
  go_enter Tryd.func77, Tryd.ntmps77
  go_wp2_with fail
  refine (numbers_any word_hole t rest cnt lo hi V m w HR.out HS.out HM.out h1).mono ?_
  rintro e w1 ⟨hg, h⟩
  rcases h with ⟨a, b, c, r, hl, rfl, hr⟩ | ⟨hn, rfl⟩
  · have HG := Lib.hid hg; have HL := Lib.hid hl
    have z1 := hg.size
    have HRR := Lib.hid hr
    clear hg hl hr
    obtain ⟨w2, hw2⟩ : ∃ z, w1.alloc (.cells #[.int .i64 a, .int .i64 b, .int .i64 c] 140) = z := ⟨_, rfl⟩
    have nb : w2.heap[w1.heap.size]? = some (.cells #[.int .i64 a, .int .i64 b, .int .i64 c] 140 (0, 0)) := by rw [← hw2]; exact heap_alloc_new w1 _
    have hb2 : Below w1.heap.size w1 w2 := by rw [← hw2]; exact (Below.refl _ _).alloc (Nat.le_refl _) _
    have rb : RdB w2 R t ⟨r.toArray⟩ cnt V lo hi := (hb2.block _ (by omega)).trans HRR.out
    have q0 := cell_of_row w2 w1.heap.size 0 _ 140 (0, 0) nb
    have q1 := cell_of_row w2 w1.heap.size 1 _ 140 (0, 0) nb
    have q2 := cell_of_row w2 w1.heap.size 2 _ 140 (0, 0) nb
    have p2 := cell_of_row w2 R 2 _ 125 (0, 0) rb
    have p4 := cell_of_row w2 R 4 _ 125 (0, 0) rb
    have p5 := cell_of_row w2 R 5 _ 125 (0, 0) rb
    simp at q0 q1 q2 p2 p4 p5
    have f2 : w2.frozen? ⟨R, 2, none⟩ = false := by simp [World.frozen?, show w2.heap[R]? = _ from rb]
    have f4 : w2.frozen? ⟨R, 4, none⟩ = false := by simp [World.frozen?, show w2.heap[R]? = _ from rb]
    have f5 : w2.frozen? ⟨R, 5, none⟩ = false := by simp [World.frozen?, show w2.heap[R]? = _ from rb]
    have e1 : ¬ w1.heap.size = R := by omega
    have e2 : ¬ R = w1.heap.size := by omega
    have G2 := Lib.hid (Lib.grownBy_below HG.out (hb2))
    have R2 := Lib.hid rb
    clear nb hb2 rb z1
    go_wp2_with fail
    refine ⟨rfl, .tuple #[], by simp [results, Tryd.results77, go_sem], ?_⟩
    refine ⟨Lib.grownBy_setB (Lib.grownBy_setB (Lib.grownBy_setB G2.out 2 _) 4 _) 5 _, .inl ⟨a, b, c, r, HL.out, rfl, ?_⟩⟩
    exact rd_set (rd_set (rd_set R2.out 2 _) 4 _) 5 _
  · exact ⟨rfl, hg, .inr ⟨hn, rfl⟩⟩
theorem extract_take (t : ByteArray) (n : Nat) : (t.extract 0 n).data.toList = t.data.toList.take n := Lib.extract_from_zero t n
set_option maxRecDepth 100000 in
set_option maxHeartbeats 4000000 in
theorem end_any {R : Nat} (t rest : ByteArray) (cnt lo hi : Int) (V : Value) (w : World) (hR : RdB w R t rest cnt V lo hi) (hs : t.size ≤ 6000) (hrs : rest.size ≤ t.size) :
    Calls Tryd.prog 79 #[.pointer (some ⟨R, 0, none⟩)] w fun e w' => Below w.heap.size w w' ∧
      ((rest.data.toList = endT (t.data.toList.take (t.size - rest.size)) ∧ e = .returned (.tuple #[])) ∨ (rest.data.toList ≠ endT (t.data.toList.take (t.size - rest.size)) ∧ e = .panicked [noLog])) := by
  have c0 := cell_of_row w R 0 _ 125 (0, 0) hR
  have c1 := cell_of_row w R 1 _ 125 (0, 0) hR
  simp at c0 c1
  have ltR := (Array.getElem?_eq_some_iff.1 hR).1
  have HS := Lib.hid hs
  clear hR hs
  obtain ⟨N, hN⟩ : ∃ N : Nat, t.size - rest.size = N := ⟨_, rfl⟩
  have i1 : ((t.size : Nat) : Int) - (rest.size : Nat) = (N : Int) := by omega
  have iw : Value.int .i64 (IntKind.i64.wrap (((t.size : Nat) : Int) - (rest.size : Nat))) = Value.int .i64 (N : Int) := by rw [← i1]; exact congrArg _ (IntWalk.i64_in _ (by have := HS.out; omega))
  have i2 : (N : Int) ≤ ((t.size : Nat) : Int) := by omega
  clear i1
  rw [hN]
  go_enter Tryd.func79, Tryd.ntmps79
  go_wp2_with fail
  go_quiet (fail)
  go_wp2_with fail
  have hbq : Below w.heap.size w (w.drewN nq) := ⟨rfl, rfl, rfl, Nat.le_refl _, fun _ _ => rfl⟩
  have cq : (w.drewN nq).cell? ⟨R, 1, none⟩ = some (.string rest) := ((bcell hbq).1 R 1 ltR).trans c1
  have zq : R < (w.drewN nq).heap.size := ltR
  have HBQ := Lib.hid hbq
  generalize w.drewN nq = wq at hbq cq zq HBQ ⊢
  clear hbq c0 c1 iw i2
  have hE : (ByteArray.mk (endT (t.extract 0 N).data.toList).toArray).data.toList = endT (t.data.toList.take N) := by rw [extract_take]
  obtain ⟨E, hEE⟩ : ∃ E : ByteArray, ByteArray.mk (endT (t.extract 0 N).data.toList).toArray = E := ⟨_, rfl⟩
  rw [hEE] at hE
  have ce : ∀ u : KeptW wq, Calls Tryd.prog 75 #[.string (t.extract 0 N)] u.w fun e w' => e = .returned (.string E) ∧ ∃ u' : KeptW wq, w' = u'.w := fun u => by
    rw [← hEE]
    refine Calls.in_kept u (endLine_any _ ?_ _)
    have := HS.out
    rw [ByteArray.size_extract]
    omega
  have cu : ∀ u : KeptW wq, u.w.cell? ⟨R, 1, none⟩ = some (.string rest) := fun u => ((bcell u.h).1 _ _ zq).trans cq
  have HE := Lib.hid hE
  clear hE hEE cq
  by_cases hq : rest.data.toList = endT (t.data.toList.take N)
  · have hb : (rest.toList == E.toList) = true := by rw [ByteArray.toList_eq, ByteArray.toList_eq, HE.out, hq]; simp
    refine rk_region (by kernel_rfl) (by kernel_rfl) ?_
    repeat (go_big_quiet_step (first | (with_reducible exact ce _) | fail))
    refine wpQuiet_nil ?_
    rintro wz ⟨⟨_, hbz⟩, rfl⟩
    have HBZ := Lib.hid (HBQ.out.trans (hbz.mono HBQ.out.size))
    go_wp2_with fail
    exact ⟨rfl, .tuple #[], by simp [results, Tryd.results79, go_sem], HBZ.out, .inl ⟨hq, rfl⟩⟩
  · have hb : (rest.toList == E.toList) = false := by rw [ByteArray.toList_eq, ByteArray.toList_eq, HE.out]; simpa using hq
    refine rk_region (by kernel_rfl) (by kernel_rfl) ?_
    repeat (go_big_quiet_step (first | (with_reducible exact ce _) | fail))
    refine wpQuiet_nil ?_
    rintro wz ⟨⟨_, hbz⟩, rfl⟩
    have HBZ := Lib.hid (HBQ.out.trans (hbz.mono HBQ.out.size))
    go_wp2_with fail
    refine (giveUp_any _).mono ?_
    rintro e w5 ⟨rfl, rfl⟩
    exact ⟨rfl, HBZ.out, .inr ⟨hq, rfl⟩⟩
theorem ReadAt.len {text rest : List UInt8} {cnt lo hi : Int} {ls : List Lay} (h : ReadAt text cnt lo hi ls rest) : rest.length ≤ text.length := by
  rw [h.1.2.2.2]
  simp only [List.length_append]
  omega
def lyCv (R N2 N3 : Nat) (V : Value) (a b c : Int) : Tmp → Value
  | 0 => .pointer (some ⟨R, 0, none⟩)
  | 2 => .pointer (some ⟨N2, 0, none⟩)
  | 3 => .pointer (some ⟨N3, 0, none⟩)
  | 17 => .pointer (some ⟨R, 0, none⟩)
  | 18 => .pointer (some ⟨R, 0, none⟩)
  | 19 => .pointer (some ⟨R, 0, none⟩)
  | 20 => .pointer (some ⟨R, 3, none⟩)
  | 21 => .pointer (some ⟨R, 3, none⟩)
  | 22 => V
  | 23 => .pointer (some ⟨N2, 0, none⟩)
  | 24 => .int .i64 a
  | 25 => .agg #[.int .i64 b, .int .i64 c]
  | 26 => .agg #[.int .i64 a, .int .i64 b, .int .i64 c]
  | 29 => .pointer (some ⟨R, 0, none⟩)
  | 30 => .pointer (some ⟨R, 3, none⟩)
  | 31 => .pointer (some ⟨R, 3, none⟩)
  | _ => undef
theorem lay_infoG : (Tryd.prog.info? 86).map (fun i => (i.zero, i.size, i.bytes)) = some (some (.agg #[.int .i64 0, .int .i64 0, .int .i64 0]), 3, 24) := by kernel_rfl
def layRowG (l : Lay) : List Value := [.int .i64 l.t, .int .i64 l.lo, .int .i64 l.hi]
attribute [local irreducible] QT
set_option maxRecDepth 100000 in
set_option maxHeartbeats 8000000 in
theorem layers_any {R : Nat} (w0 : World) (t rest : ByteArray) (cnt lo hi : Int) (m : Int) (w : World) (hB : Below w0.heap.size w0 w) (hR : RdB w R t rest cnt (.slice none 0 0) lo hi) (hA : ReadAt t.data.toList cnt lo hi [] rest.data.toList) (hs : t.size ≤ 6000) (hm : w0.cell? ⟨1, 0, none⟩ = some (.int .i64 m)) (h1 : w0.heap.size ≤ R) (h2 : 1 < w0.heap.size) :
    Calls Tryd.prog 78 #[.pointer (some ⟨R, 0, none⟩)] w fun e w' => Below w0.heap.size w0 w' ∧
      ((∃ ls V r, ReadAt t.data.toList cnt lo hi ls r ∧ (ls.length : Int) = cnt ∧ e = .returned (.tuple #[]) ∧ RdB w' R t ⟨r.toArray⟩ cnt V lo hi ∧ w'.ownsRow w0.heap.size 86 3 V ls.length (ls.flatMap layRowG)) ∨ (NoLog t.data.toList ∧ e = .panicked [noLog])) := by
  have HB := Lib.hid hB; have HR := Lib.hid hR; have HA := Lib.hid hA; have HS := Lib.hid hs; have HM := Lib.hid hm
  have c2 := cell_of_row w R 2 _ 125 (0, 0) hR
  simp at c2
  have hc0 : 0 ≤ cnt ∧ cnt < 100000000 := hA.1.1
  clear hB hR hA hs hm
  obtain ⟨j0, hj0, jz0, jz1, jz2⟩ := info_parts lay_infoG
  have J0 := Lib.hid hj0; have JZ0 := Lib.hid jz0; have JZ1 := Lib.hid jz1; have JZ2 := Lib.hid jz2
  clear hj0 jz0 jz1 jz2
  go_enter Tryd.func78, Tryd.ntmps78
  go_wp2_with fail
  clear c2
  go_loopw [8] (fun i wr => ∃ (ls : List Lay) (V : Value) (r : List UInt8), i = .int .i64 ls.length ∧ (ls.length : Int) ≤ cnt ∧ ReadAt t.data.toList cnt lo hi ls r ∧ RdB wr R t ⟨r.toArray⟩ cnt V lo hi ∧ Below w0.heap.size w0 wr ∧ wr.ownsRow w0.heap.size 86 3 V ls.length (ls.flatMap layRowG)) (fun i _ => (cnt - intOf i).toNat)
  case atStart => exact ⟨[], _, rest.data.toList, rfl, hc0.1, HA.out, HR.out, HB.out, World.ownsRow_nil _ _ _ _⟩
  case round =>
    obtain ⟨ls, V, r, rfl, hk, hA, hR, hB, hO⟩ := hrel
    have RA := Lib.hid hA; have RR := Lib.hid hR; have RB := Lib.hid hB; have RO := Lib.hid hO
    have hlen := hA.len
    have hRs : (ByteArray.mk r.toArray).size ≤ 6000 := by
      have h3 : t.size = t.data.toList.length := Array.length_toList.symm
      have h4 := HS.out
      show r.toArray.size ≤ _
      rw [List.size_toArray]
      omega
    have ltR := (Array.getElem?_eq_some_iff.1 hR).1
    clear hA hR hB hO
    by_cases hlt : (ls.length : Int) < cnt
    · go_wp2_with fail
      refine (numbers_any word_layer t ⟨r.toArray⟩ cnt lo hi V m wr RR.out hRs (((bcell RB.out).1 1 _ (by omega)).trans HM.out) (by omega)).mono ?_
      rintro e w1 ⟨hg, h⟩
      have B1 := Lib.hid (RB.out.grown hg RB.out.size (fun k hk => by cases hk; exact h1))
      rcases h with ⟨a, b, c, r', hl, rfl, hr⟩ | ⟨hn, rfl⟩
      · have HG := Lib.hid hg; have HL := Lib.hid hl; have R1 := Lib.hid hr
        have O1 := Lib.hid (show w1.ownsRow w0.heap.size 86 3 V ls.length (ls.flatMap layRowG) from own_of_blocks RO.out fun B hB => hg.block B (RO.out.lt _ hB).2 (fun e => by cases e; exact own_not RO.out (show wr.heap[R]? = _ from RR.out) (by decide) hB))
        have z1 := (Array.getElem?_eq_some_iff.1 hr).1
        have lw0 := RB.out.size
        have lw1 := hg.size
        clear hg hl hr
        obtain ⟨w2, hw2⟩ : ∃ z, w1.alloc (.cells #[.int .i64 a, .int .i64 b, .int .i64 c] 140) = z := ⟨_, rfl⟩
        have q2 := heap_alloc_new w1 (.cells #[.int .i64 a, .int .i64 b, .int .i64 c] 140)
        rw [hw2] at q2
        have e2 : w2.heap.size = w1.heap.size + 1 := by rw [← hw2]; simp
        obtain ⟨w3, hw3⟩ : ∃ z, w2.alloc (.cells #[.int .i64 b, .int .i64 c] 24) = z := ⟨_, rfl⟩
        have q3 := heap_alloc_new w2 (.cells #[.int .i64 b, .int .i64 c] 24)
        rw [hw3] at q3
        have b12 : Below w1.heap.size w1 w2 := by rw [← hw2]; exact (Below.refl _ _).alloc (Nat.le_refl _) _
        have b23 : Below w2.heap.size w2 w3 := by rw [← hw3]; exact (Below.refl _ _).alloc (Nat.le_refl _) _
        have b13 := b12.trans (b23.mono b12.size)
        have Q2 := Lib.hid ((b23.block _ (by omega)).trans q2)
        have Q3 := Lib.hid q3
        have R3 := Lib.hid (show RdB w3 R t ⟨r'.toArray⟩ cnt V lo hi from (b13.block _ z1).trans R1.out)
        have O3 := Lib.hid (own_next O1.out b13)
        have B3 := Lib.hid (B1.out.trans (b13.mono B1.out.size))
        have E3 : w3.heap.size = w1.heap.size + 2 := by rw [← hw3]; simp; omega
        have d1 := cell_of_row w2 w1.heap.size 1 _ 140 (0, 0) q2
        have d2 := cell_of_row w2 w1.heap.size 2 _ 140 (0, 0) q2
        simp at d1 d2
        clear q2 q3 b12 b23 b13
        go_wp2_with fail
        rw [e2] at Q3
        clear d1 d2 hw2 hw3 e2
        have lbR := (Array.getElem?_eq_some_iff.1 R3.out).1
        have lb2 := (Array.getElem?_eq_some_iff.1 Q2.out).1
        have lb3 := (Array.getElem?_eq_some_iff.1 Q3.out).1
        have nbR : some R ≠ V.ownBlock := fun e => own_not O3.out (show w3.heap[R]? = _ from R3.out) (by decide) e.symm
        have nb2 : some w1.heap.size ≠ V.ownBlock := fun e => own_not O3.out Q2.out (by decide) e.symm
        have nb3 : some (w1.heap.size + 1) ≠ V.ownBlock := fun e => own_not O3.out Q3.out (by decide) e.symm
        have k3 := cell_of_row w3 R 3 _ 125 (0, 0) R3.out
        have k2 := cell_of_row w3 w1.heap.size 0 _ 140 (0, 0) Q2.out
        have k30 := cell_of_row w3 (w1.heap.size + 1) 0 _ 24 (0, 0) Q3.out
        have k31 := cell_of_row w3 (w1.heap.size + 1) 1 _ 24 (0, 0) Q3.out
        simp at k3 k2 k30 k31
        have lolow : w0.heap.size ≤ w3.heap.size := B3.out.size
        apply chain_region
        case hs => exact (rfl : _ = [_, _, _, _, _, _, _, _, _, _, _, _, _, _, _] ++ [_])
        case hm => kernel_rfl
        case hC => kernel_rfl
        case hT => kernel_rfl
        refine plan_guarded_any (γ := GhE) [0, 2, 3] (rhoO 27 28 (lyCv R w1.heap.size (w1.heap.size + 1) V a b c)) (SL ⟨w3, w0.heap.size, 86, 3, ls.length, V, ls.flatMap layRowG, [.int .i64 a, .int .i64 b, .int .i64 c], 10, 11⟩) ⟨fun _ => undef, fun _ => undef⟩ (by kernel_rfl) (by kernel_rfl) (by kernel_rfl) (by kernel_rfl) ?_ (SL.start O3.out lolow (by decide)) ?_ ?_
        · intro t ht
          simp only [List.mem_cons, List.not_mem_nil, or_false] at ht
          rcases ht with rfl | rfl | rfl <;> rfl
        · refine allOps_array ?_
          refine ⟨?_, ?_, ?_, ?_, ?_, ?_, ?_, ?_, ?_, ?_, ?_, ?_, ?_, ?_, ?_, trivial⟩
          · intro done g w' hS hu hdep _
            refine quietL hS 17 rfl (by show (0 : Nat) ≠ 10; decide) (by show (0 : Nat) ≠ 11; decide) rfl ?_
            simp [go_sem, evalBy, rhoO, lyCv]
          · intro done g w' hS hu hdep _
            refine quietL hS 18 rfl (by show (1 : Nat) ≠ 10; decide) (by show (1 : Nat) ≠ 11; decide) rfl ?_
            simp [go_sem, evalBy, rhoO, lyCv]
          · intro done g w' hS hu hdep _
            refine quietL hS 19 rfl (by show (2 : Nat) ≠ 10; decide) (by show (2 : Nat) ≠ 11; decide) rfl ?_
            simp [go_sem, evalBy, rhoO, lyCv]
          · intro done g w' hS hu hdep _
            refine quietL hS 20 rfl (by show (3 : Nat) ≠ 10; decide) (by show (3 : Nat) ≠ 11; decide) rfl ?_
            simp [go_sem, evalBy, rhoO, lyCv]
          · intro done g w' hS hu hdep _
            refine quietL hS 21 rfl (by show (4 : Nat) ≠ 10; decide) (by show (4 : Nat) ≠ 11; decide) rfl ?_
            simp [go_sem, evalBy, rhoO, lyCv]
          · intro done g w' hS hu hdep _
            have h1 := (hS.cell (o := 3) lbR nbR).trans k3
            refine quietL hS 22 rfl (by show (5 : Nat) ≠ 10; decide) (by show (5 : Nat) ≠ 11; decide) rfl ?_
            simp [go_sem, evalBy, rhoO, lyCv, h1]
          · intro done g w' hS hu hdep _
            refine quietL hS 23 rfl (by show (6 : Nat) ≠ 10; decide) (by show (6 : Nat) ≠ 11; decide) rfl ?_
            simp [go_sem, evalBy, rhoO, lyCv]
          · intro done g w' hS hu hdep _
            have h1 := (hS.cell (o := 0) lb2 nb2).trans k2
            refine quietL hS 24 rfl (by show (7 : Nat) ≠ 10; decide) (by show (7 : Nat) ≠ 11; decide) rfl ?_
            simp [go_sem, evalBy, rhoO, lyCv, h1]
          · intro done g w' hS hu hdep _
            have h1 := (hS.cell (o := 0) lb3 nb3).trans k30
            have h2 := (hS.cell (o := 1) lb3 nb3).trans k31
            refine quietL hS 25 rfl (by show (8 : Nat) ≠ 10; decide) (by show (8 : Nat) ≠ 11; decide) rfl ?_
            simp [go_sem, evalBy, rhoO, lyCv, h1, h2]
          · intro done g w' hS hu hdep _
            refine quietL hS 26 rfl (by show (9 : Nat) ≠ 10; decide) (by show (9 : Nat) ≠ 11; decide) rfl ?_
            simp [go_sem, evalBy, rhoO, lyCv]
          · intro done g w' hS hu hdep _
            refine buildL hS 27 rfl rfl rfl ?_ (fun _ => rfl) (fun t b' ht => rhoO_b t b' ht)
            simp [go_sem, evalBy, rhoO, lyCv]
          · intro done g w' hS hu hdep _
            exact appendL hS 28 rfl rfl hu (hdep ⟨10, .data⟩ (by simp) rfl) rfl 22 27 22 rfl rfl rfl j0 _ 24 Tryd.underlying22 J0.out JZ0.out JZ1.out JZ2.out rfl (by show 0 < 3; decide) rfl (by simp [Value.oneCell']) (by unfold maxLen; show ls.length + 1 ≤ _; omega) (by show (ls.length + 1) * 24 ≤ _; omega) (fun _ => rfl) (fun t c' ht => rhoO_c t c' ht)
          · intro done g w' hS hu hdep _
            refine quietL hS 29 rfl (by show (12 : Nat) ≠ 10; decide) (by show (12 : Nat) ≠ 11; decide) rfl ?_
            simp [go_sem, evalBy, rhoO, lyCv]
          · intro done g w' hS hu hdep _
            refine quietL hS 30 rfl (by show (13 : Nat) ≠ 10; decide) (by show (13 : Nat) ≠ 11; decide) rfl ?_
            simp [go_sem, evalBy, rhoO, lyCv]
          · intro done g w' hS hu hdep _
            refine quietL hS 31 rfl (by show (14 : Nat) ≠ 10; decide) (by show (14 : Nat) ≠ 11; decide) rfl ?_
            simp [go_sem, evalBy, rhoO, lyCv]
        · intro g wC hS
          have hA := SL.after hS (show 11 < _ by decide)
          have hg := hA.1
          have ho := hA.2.1
          clear hA
          refine Exists.elim (own_slice ho) fun ac hA1 => Exists.elim hA1 fun nc hA2 => Exists.elim hA2 fun cc ec => ?_
          clear hA1 hA2
          have rC : RdB wC R t ⟨r'.toArray⟩ cnt V lo hi := (hg.block _ lbR nbR).trans R3.out
          have z0 : wC.frozen? ⟨R, 3, none⟩ = false := by simp [World.frozen?, show wC.heap[R]? = _ from rC]
          have q0 := cell_of_row wC R 3 _ 125 (0, 0) rC
          simp at q0
          have OC := Lib.hid (own_of_blocks (w' := wC.setCell ⟨R, 3, none⟩ (g.c 0)) ho fun B hB => Below.heap_setCell _ _ _ _ (fun e => own_not ho (show wC.heap[R]? = _ from rC) (by decide) (by have e' : B = R := e; rw [← e']; exact hB)))
          have RC := Lib.hid (show RdB (wC.setCell ⟨R, 3, none⟩ (g.c 0)) R t ⟨r'.toArray⟩ cnt (g.c 0) lo hi from rd_set rC 3 _)
          have bC : Below w0.heap.size w0 wC := B3.out.grown hg lolow (fun k hk => (O3.out.lt _ hk).1)
          have BC := Lib.hid (bC.setCell (p := ⟨R, 3, none⟩) h1 (g.c 0))
          rw [ec] at OC RC BC
          clear hS hg ho rC bC k3 k2 k30 k31 lbR lb2 lb3 nbR nb2 nb3
          simp only [QT]
          unfold Oper.wp
          simp [go_sem, putAll, Act.put, rhoO, lyCv, ec, z0, q0]
          clear z0 q0 ec
          generalize wC.setCell ⟨R, 3, none⟩ (Value.slice ac nc cc) = wD at OC RC BC ⊢
          go_wp2_with fail
          refine ⟨⟨ls ++ [⟨a, b, c⟩], _, r', ?_, ?_, RA.out.next HL.out, RC.out, BC.out, ?_⟩, ?_⟩
          · simp
          · simp; omega
          · simpa [layRowG] using OC.out
          · simp [intOf]; omega
      · exact ⟨rfl, B1.out, .inr ⟨RA.out.noLayer hlt hn, rfl⟩⟩
    · have he : (ls.length : Int) = cnt := by omega
      go_wp2_with fail
      refine ⟨rfl, .tuple #[], by simp [results, Tryd.results78, go_sem], RB.out, .inl ⟨ls, V, r, RA.out, he, rfl, RR.out, RO.out⟩⟩
end Go.Proofs.YtccekbdhffccdaaDoor
