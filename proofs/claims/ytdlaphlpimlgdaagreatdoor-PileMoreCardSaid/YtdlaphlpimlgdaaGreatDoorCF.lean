/- The levels of all piles in truth, as the specification reckons them. -/
import Derived.Test.YtdlaphlpimlgdaaGreatDoorCE
namespace Go.Proofs.YtdlaphlpimlgdaaGreatDoor
open Go.RowKit

/-- The heads, of which the first k have gone through a year. -/
def mixH (f : Nat → Nat → Int) (plan : List Int) (np t k : Nat) : List Int := (List.range np).map fun i => if i < k then hdI f plan (t + 1) i else hdI f plan t i
theorem mixH_0 (f : Nat → Nat → Int) (plan : List Int) (np t : Nat) : mixH f plan np t 0 = hdL f plan np t := by simp [mixH, hdL]
theorem mixH_np (f : Nat → Nat → Int) (plan : List Int) (np t : Nat) : mixH f plan np t np = hdL f plan np (t + 1) := by
  unfold mixH hdL
  refine List.map_congr_left fun i hi => ?_
  rw [List.mem_range] at hi
  rw [if_pos hi]
theorem mixH_at {f : Nat → Nat → Int} {plan : List Int} {np t k : Nat} (h : k < np) : (mixH f plan np t k)[k]? = some (hdI f plan t k) := by
  unfold mixH
  rw [List.getElem?_map, List.getElem?_range h]
  simp
theorem mixH_set (f : Nat → Nat → Int) (plan : List Int) (np t k : Nat) : (mixH f plan np t k).set k (hdI f plan (t + 1) k) = mixH f plan np t (k + 1) := by
  apply List.ext_getElem?
  intro i
  rw [List.getElem?_set]
  unfold mixH
  simp only [List.getElem?_map, List.length_map, List.length_range]
  by_cases hik : k = i
  · subst hik
    by_cases hlt : k < np
    · rw [List.getElem?_range hlt]
      simp [hlt]
    · rw [List.getElem?_eq_none (by simp; omega)]
      simp [hlt]
  · rw [if_neg hik]
    by_cases hlt : i < np
    · rw [List.getElem?_range hlt]
      have : (i < k + 1) ↔ (i < k) := by omega
      simp [this]
    · rw [List.getElem?_eq_none (by simp; omega)]
      rfl
/-- All below is kept, but for the heads. -/
structure BelH (bm n : Nat) (w w' : World) : Prop where
  os : w'.os = w.os
  tape : w'.tape = w.tape
  output : w'.output = w.output
  size : w.heap.size ≤ w'.heap.size
  block : ∀ k, k < n → k ≠ bm → w'.heap[k]? = w.heap[k]?
theorem BelH.of {bm n : Nat} {w w' : World} (h : Below n w w') : BelH bm n w w' := ⟨h.os, h.tape, h.output, h.size, fun k hk _ => h.block k hk⟩
theorem BelH.trans {bm n : Nat} {a b c : World} (h : BelH bm n a b) (k : BelH bm n b c) : BelH bm n a c := ⟨k.os.trans h.os, k.tape.trans h.tape, k.output.trans h.output, Nat.le_trans h.size k.size, fun i hi hn => (k.block i hi hn).trans (h.block i hi hn)⟩
theorem BelH.below {bm n m : Nat} {w w' : World} (h : BelH bm n w w') (h1 : m ≤ n) (h2 : m ≤ bm) : Below m w w' := ⟨h.os, h.tape, h.output, h.size, fun k hk => h.block k (by omega) (by omega)⟩
theorem BelH.set {bm n i : Nat} {w w' : World} (h : BelH bm n w w') (v : Value) : BelH bm n w (w'.setCell ⟨bm, i, none⟩ v) :=
  ⟨h.os, h.tape, h.output, by simpa using h.size, fun k hk hn => (Below.heap_setCell _ _ _ _ hn).trans (h.block k hk hn)⟩
theorem BelH.up {bm n : Nat} {w w' u : World} (h : BelH bm n w w') (hb : Below w'.heap.size w' u) (hs : n ≤ w'.heap.size) : BelH bm n w u := h.trans (BelH.of (hb.mono hs))
structure PlyI (wo : World) (bh : Nat) (hs row : List Int) (v : Value) (wq : World) : Prop where
  bel : BelH bh wo.heap.size wo wq
  hd : wq.heap[bh]? = some (.cells (iV hs) 3 (0, 0))
  own : wq.ownsRow wo.heap.size 3 1 v row.length (flatR intR row)
  lt : bh < wo.heap.size
theorem PlyI.set {wo : World} {bh : Nat} {hs row : List Int} {v : Value} {wq : World} (h : PlyI wo bh hs row v wq) (i : Nat) (x : Int) : PlyI wo bh (hs.set i x) row v (wq.setCell ⟨bh, i, none⟩ (.int .i64 x)) :=
  ⟨h.bel.set _, by rw [blk_set h.hd, iV_set], own_of_blocks h.own fun B hB => Below.heap_setCell _ _ _ _ (by have := (own_at h.own hB).1; have := h.lt; show B ≠ bh; omega), h.lt⟩
theorem PlyI.below {wo : World} {bh : Nat} {hs row : List Int} {v : Value} {wq wu : World} (h : PlyI wo bh hs row v wq) (hb : Below wq.heap.size wq wu) : PlyI wo bh hs row v wu :=
  ⟨h.bel.up hb h.bel.size, (hb.block _ (heapsz h.hd)).trans h.hd, own_next h.own hb, h.lt⟩
theorem PlyI.append {wo : World} {bh : Nat} {hs row : List Int} {v v' : Value} {wq wu : World} {o : Obj} (h : PlyI wo bh hs row v wq) (x : Int) (ho : wu.ownsRow wo.heap.size 3 1 v' (row.length + 1) (flatR intR row ++ [.int .i64 x])) (hg : (wq.alloc o).grownBy wu v.ownBlock) : PlyI wo bh hs (row ++ [x]) v' wu := by
  have hb0 := (Below.refl wq.heap.size wq).alloc (Nat.le_refl _) o
  have h1 := h.below hb0
  have hne : ∀ k, k < wo.heap.size → some k ≠ v.ownBlock := fun k hk e => by have := (own_at h.own e.symm).1; omega
  have hb : Below wo.heap.size (wq.alloc o) wu := ⟨hg.os, hg.tape, hg.output, hg.size, fun k hk => hg.block k (by have := h1.bel.size; omega) (hne k hk)⟩
  refine ⟨h1.bel.trans (BelH.of hb), (hb.block _ h.lt).trans h1.hd, ?_, h.lt⟩
  rw [List.length_append, flatR_snoc]
  exact ho
theorem flatR_ints (row : List Int) : flatR intR row = row.map fun x => Value.int .i64 x := by
  induction row with
  | nil => rfl
  | cons x xs ih =>
    unfold flatR at ih ⊢
    rw [List.map_cons, List.flatten_cons, ih]
    rfl
theorem intR_len (x : Int) : (intR x).length = 1 := rfl
def zT : Tru := ⟨0, 0, 0⟩
def setF (L : List (List Tru)) (t i : Nat) : Int := ((L.getD t []).getD i zT).s
theorem setF_in {L : List (List Tru)} (h : ∀ row ∈ L, ∀ x ∈ row, 0 ≤ x.s ∧ x.s ≤ 1000) (t i : Nat) : 0 ≤ setF L t i ∧ setF L t i ≤ 1000 := by
  unfold setF
  rw [List.getD_eq_getElem?_getD, List.getD_eq_getElem?_getD]
  cases hr : L[t]? with
  | none => simp [zT]
  | some row =>
    simp only [Option.getD_some]
    cases hx : row[i]? with
    | none => simp [zT]
    | some x => exact h row (List.mem_of_getElem? hr) x (List.mem_of_getElem? hx)
theorem lvL_take {f : Nat → Nat → Int} {plan : List Int} {np t k : Nat} (h : k < np) : (lvL f plan np t).take (k + 1) = (lvL f plan np t).take k ++ [lvI f plan t k] := by
  rw [List.take_add_one]
  unfold lvL
  rw [rowL_at _ h]
  rfl
set_option maxRecDepth 100000 in
set_option maxHeartbeats 8000000 in
theorem refPlay_any (AP AQ AR A2 A : Option Addr) (np cp nq cq nr cr m c2 c : Nat) (may sink tilt : Int) (plan : List Int) (L : List (List Tru)) (w : World) (hnp : 1 ≤ np ∧ np ≤ 6) (hm : plan.length = m) (hm10 : m ≤ 10) (hP : IntsAt w w.heap.size A2 plan) (hB : planB np plan = true)
    (hl : L.length = m) (hr : ∀ row ∈ L, row.length = np) (hT : GridAt 3 truR w w.heap.size A L) (hs : ∀ row ∈ L, ∀ x ∈ row, 0 ≤ x.s ∧ x.s ≤ 1000) :
    Calls Tryz.prog 34 #[.agg #[.slice AP np cp, .slice AQ nq cq, .slice AR nr cr, .int .i64 may, .int .i64 sink, .int .i64 tilt], .slice A2 m c2, .slice A m c] w fun e w' => ∃ A3 c3, e = .returned (.slice A3 m c3) ∧ LvsAt w' w'.heap.size A3 (lvT (setF L) plan np) ∧ m ≤ c3 ∧ Below w.heap.size w w' := by
  have HM := Lib.hid hm; have HL := Lib.hid hl; have HR := Lib.hid hr; have HP := Lib.hid hP; have HT := Lib.hid hT
  have HF := Lib.hid (setF_in hs)
  have HPL : Hid (∀ (t : Nat) (J : Int), plan[t]? = some J → 0 ≤ J ∧ J ≤ 1000000) := Lib.hid fun t J hJ => by
    have := List.all_eq_true.1 hB J (List.mem_of_getElem? hJ)
    have h2 := pow_bd hnp.1 hnp.2
    rw [inB_iff] at this
    omega
  obtain ⟨f, hf⟩ : ∃ z, setF L = z := ⟨_, rfl⟩
  have HFE := Lib.hid hf
  rw [hf] at HF ⊢
  have z0 := heap_alloc_new w (.cells #[.slice AP np cp, .slice AQ nq cq, .slice AR nr cr, .int .i64 may, .int .i64 sink, .int .i64 tilt] 26)
  have hb0 := (Below.refl w.heap.size w).alloc (Nat.le_refl _) (.cells #[.slice AP np cp, .slice AQ nq cq, .slice AR nr cr, .int .i64 may, .int .i64 sink, .int .i64 tilt] 26)
  obtain ⟨i0, hi0, hz0, hz1, hz2⟩ := info_parts int_info
  have hmk := fun W : World => run_make (P := Tryz.prog) 34 3 i0 _ Tryz.underlying34 hi0 hz0 .i64 .i64 (np : Int) (np : Int) (by omega) (by omega) (by rw [hz2]; omega) (by omega) (w := W)
  simp only [Int.toNat_natCast, hz1, Nat.mul_one] at hmk
  clear hf hm hl hr hP hT hs hB
  obtain ⟨s0, s1, s2, s3, s4, s5⟩ := site_box z0
  obtain ⟨y0, y1, hb1⟩ := two_boxes w (.cells #[.slice AP np cp, .slice AQ nq cq, .slice AR nr cr, .int .i64 may, .int .i64 sink, .int .i64 tilt] 26) (.cells (madeCells #[.int .i64 0] np) 3)
  have hst : GrdI intR 3 34 w (w.heap.size + 1 + 1) ([] : List (List Int)) (.slice none 0 0) [] ((w.alloc (.cells #[.slice AP np cp, .slice AQ nq cq, .slice AR nr cr, .int .i64 may, .int .i64 sink, .int .i64 tilt] 26)).alloc (.cells (madeCells #[.int .i64 0] np) 3)) := GrdI.nil hb1 (by omega)
  have HST := Lib.hid hst; have Y0 := Lib.hid y0; have Y1 := Lib.hid y1
  clear hst y0 y1 hb0 hb1 z0
  go_enter Tryz.func34, Tryz.ntmps34
  go_wp2_with fail
  clear s0 s1 s2 s3 s4 s5 hmk
  go_loopw [8, 9] (fun v i wr => ∃ (t : Nat) (rows : List Value), t ≤ m ∧ i = .int .i64 t ∧ wr.heap[w.heap.size]? = some (.cells #[.slice AP np cp, .slice AQ nq cq, .slice AR nr cr, .int .i64 may, .int .i64 sink, .int .i64 tilt] 26 (0, 0)) ∧ wr.heap[w.heap.size + 1]? = some (.cells (iV (hdL f plan np t)) 3 (0, 0)) ∧ GrdI intR 3 34 w (w.heap.size + 1 + 1) ((lvT f plan np).take t) v rows wr) (fun _ i _ => m - (intOf i).toNat)
  case atStart => exact ⟨0, [], Nat.zero_le _, rfl, Y0.out, by rw [made_zero]; exact Y1.out, HST.out⟩
  case round =>
    obtain ⟨t, rows, ht, rfl, y0, y1, hI⟩ := hrel
    have HG := Lib.hid hI; have YS := Lib.hid y0; have YH := Lib.hid y1
    clear hI y0 y1 Y0 Y1 HST
    by_cases hlt : t < m
    · have ht0 : (0 : Int) ≤ (t : Int) := by omega
      have ht1 : (t : Int) < (m : Int) := by omega
      go_wp2_with fail
      rename World => wo
      have hps : PlyI wo (w.heap.size + 1) (mixH f plan np t 0) [] (.slice none 0 0) wo := ⟨BelH.of (Below.refl _ _), by rw [mixH_0]; exact YH.out, World.ownsRow_nil _ _ _ _, heapsz YH.out⟩
      have HPS := Lib.hid hps
      clear hps
      go_loopw [10, 11] (fun v i wq => ∃ k : Nat, k ≤ np ∧ i = .int .i64 k ∧ PlyI wo (w.heap.size + 1) (mixH f plan np t k) ((lvL f plan np t).take k) v wq) (fun _ i _ => np - (intOf i).toNat)
      case atStart => exact ⟨0, Nat.zero_le _, rfl, HPS.out⟩
      case round =>
        obtain ⟨k, hk, rfl, hp⟩ := hrel
        have HPL2 := Lib.hid hp
        clear hp HPS
        by_cases hkt : k < np
        · have hk0 : (0 : Int) ≤ (k : Int) := by omega
          have hk1 : (k : Int) < (np : Int) := by omega
          have hkn : (k : Int) < (m : Int) ∨ True := .inr trivial
          obtain ⟨row, hrow⟩ := get_of_lt (l := L) (k := t) (by rw [HL.out]; exact hlt)
          obtain ⟨bt, ot, A', mm, c', rfl, hbt, hmm, d0, pr, _⟩ := grid_row HT.out hrow
          have hrl := HR.out row (List.mem_of_getElem? hrow)
          rw [hrl] at hmm
          rw [hmm] at d0
          obtain ⟨x, hx⟩ := get_of_lt (l := row) (k := k) (by rw [hrl]; exact hkt)
          obtain ⟨b', o', rfl, hb', hc'⟩ := pr (by intro e; rw [e] at hx; simp at hx)
          have d1 := hc' k x hx 2 (.int .i64 x.s) rfl
          obtain ⟨J, hJ⟩ := get_of_lt (l := plan) (k := t) (by rw [HM.out]; exact hlt)
          obtain ⟨b2, o2, rfl, hb2, hcs2⟩ := int_cells HP.out (by intro h; rw [h] at hJ; simp at hJ)
          have d2 := hcs2 t J hJ
          have hJb := HPL.out t J hJ
          have hFE : f t k = x.s := by
            rw [← HFE.out]
            unfold setF
            rw [List.getD_eq_getElem?_getD, List.getD_eq_getElem?_getD, hrow]
            simp only [Option.getD_some]
            rw [hx]
            rfl
          have hbd := hdI_in HF.out plan t k
          have hfb := HF.out t k
          have HV : Hid (lvI f plan t k = hdI f plan t k - f t k) := Lib.hid rfl
          have HN1 : Hid (hdI f plan (t + 1) k = if jackB J k then 0 else hdI f plan t k - f t k) := Lib.hid (by
            show (if jackB (plan.getD t 0) k then 0 else hdI f plan t k - f t k) = _
            rw [List.getD_eq_getElem?_getD, hJ]
            rfl)
          have HMS := Lib.hid (mixH_set f plan np t k)
          have HLT := Lib.hid (lvL_take (f := f) (plan := plan) (t := t) hkt)
          have hmx := mixH_at (f := f) (plan := plan) (t := t) hkt
          have HLEN : Hid (((lvL f plan np t).take k).length = k) := Lib.hid (by rw [List.length_take]; unfold lvL; simp; omega)
          rw [HV.out] at HLT
          rw [hFE] at hfb HV HN1 HLT
          obtain ⟨V, hV⟩ : ∃ z, hdI f plan t k = z := ⟨_, rfl⟩
          obtain ⟨Y, hY⟩ : ∃ z, x.s = z := ⟨_, rfl⟩
          rw [hV] at hbd HV HN1 HLT hmx
          rw [hY] at hfb HV HN1 HLT d1
          have hbw : Below w.heap.size w wr := HG.out.bel.trans (HPL2.out.bel.below HG.out.bel.size (by omega))
          have g0 : ∀ u : KeptW wr, u.w.cell? ⟨w.heap.size + 1, k, none⟩ = some (.int .i64 V) := fun u => by
            have h1 := cell_of_row u.w (w.heap.size + 1) k _ 3 (0, 0) (HPL2.out.below u.h).hd
            rw [h1, iV_get hmx]
          have g1 : ∀ u : KeptW wr, u.w.cell? ⟨bt, ot + t, none⟩ = some (.slice (some ⟨b', o', none⟩) np c') := fun u => ((bcell (hbw.trans (u.h.mono hbw.size))).1 _ _ hbt).trans d0
          have g2 : ∀ u : KeptW wr, u.w.cell? ⟨b', o' + k * 3 + 2, none⟩ = some (.int .i64 Y) := fun u => ((bcell (hbw.trans (u.h.mono hbw.size))).1 _ _ hb').trans d1
          have HBW := Lib.hid hbw
          have D2 := Lib.hid d2; have HB2 := Lib.hid hb2
          clear hrow hbt hrl hx hc' d0 pr hJ hcs2 hFE hV hY hbw d1 d2 hb2 hmx hkn hb'
          go_wp2_with fail
          have hsub : Value.int .i64 (wrap64 (V - Y)) = Value.int .i64 (V - Y) := by congr 1; exact w64 (by omega)
          apply rk_tail (C := fun w' => ∃ u : KeptW wr, w' = u.w)
          case hs => exact (rfl : _ = [_, _, _, _, _, _, _, _, _, _, _, _, _, _, _, _] ++ [_])
          case hm => kernel_rfl
          case hB => kernel_rfl
          case hT => kernel_rfl
          case hC => exact ⟨⟨wr.drew, (Below.refl wr.heap.size wr).drew⟩, rfl⟩
          repeat (go_big_quiet_step (fail))
          refine wpQuiet_nil ?_
          rintro _ ⟨u, rfl⟩
          have z0 : u.w.frozen? ⟨w.heap.size + 1, k, none⟩ = false := by simp [World.frozen?, (HPL2.out.below u.h).hd]
          have q0 := g0 u
          have HN := Lib.hid ((HPL2.out.below u.h).set k (V - Y))
          unfold Oper.wp
          simp [go_sem, z0, q0]
          clear z0 q0 g0 g1 g2 hsub
          have HBU : Hid (Below w.heap.size w (u.w.setCell ⟨w.heap.size + 1, k, none⟩ (Value.int .i64 (V - Y)))) := Lib.hid ((HBW.out.trans (u.h.mono HBW.out.size)).setCell (p := ⟨w.heap.size + 1, k, none⟩) (by show _ ≤ w.heap.size + 1; omega) _)
          clear HPL2 HBW
          generalize u.w.setCell ⟨w.heap.size + 1, k, none⟩ (Value.int .i64 (V - Y)) = wb at HN HBU ⊢
          have q1 := cell_of_row wb (w.heap.size + 1) k _ 3 (0, 0) HN.out.hd
          have hset : ((mixH f plan np t k).set k (V - Y))[k]? = some (V - Y) := by
            rw [List.getElem?_set]
            simp [mixH]
            omega
          rw [iV_get hset] at q1
          clear hset
          cases hj : jackB J k with
          | false =>
            rw [hj] at HN1
            have HJB := Lib.hid hj
            clear hj
            go_wp2_with (first
              | (at_builtin
                 refine wpList_append_own _ rfl _ _ 34 rfl wo.heap.size 3 i0 _ 1 8 Tryz.underlying34 hi0 hz0 hz1 hz2 rfl (by decide) _ _ _ rfl (own_next HN.out.own ((Below.refl _ wb).alloc (Nat.le_refl _) _)) ⟨wb.heap.size, 0, none⟩ 1 1 [.int .i64 (V - Y)] rfl rfl (cell_one_new _ _ _) (by simp [Value.oneCell']) (by rw [HLEN.out]; unfold maxLen; omega) (by rw [HLEN.out]; omega) (by have := HN.out.bel.size; simp; omega) ?_
                 intro v' w4 hown4 hgrow4 _
                 have HN4 := Lib.hid (HN.out.append (V - Y) hown4 hgrow4)
                 have d4 : w4.cell? ⟨b2, o2 + t, none⟩ = some (.int .i64 J) := by
                   have hb4 : Below w.heap.size w w4 := HG.out.bel.trans (HN4.out.bel.below HG.out.bel.size (by omega))
                   exact ((bcell hb4).1 _ _ HB2.out).trans D2.out
                 clear q1)
              | (go_at_call 61; refine (refJacked_any J k _ hJb (by unfold maxLen; omega)).mono ?_; rintro e w' ⟨rfl, rfl⟩; rw [HJB.out])
              | fail)
            refine ⟨⟨k + 1, by omega, by go_num, ?_⟩, by simp [intOf]; omega⟩
            rw [HLT.out, ← HMS.out, HN1.out]
            exact HN4.out
          | true =>
            rw [hj] at HN1
            have HJB := Lib.hid hj
            clear hj
            go_wp2_with (first
              | (at_builtin
                 refine wpList_append_own _ rfl _ _ 34 rfl wo.heap.size 3 i0 _ 1 8 Tryz.underlying34 hi0 hz0 hz1 hz2 rfl (by decide) _ _ _ rfl (own_next HN.out.own ((Below.refl _ wb).alloc (Nat.le_refl _) _)) ⟨wb.heap.size, 0, none⟩ 1 1 [.int .i64 (V - Y)] rfl rfl (cell_one_new _ _ _) (by simp [Value.oneCell']) (by rw [HLEN.out]; unfold maxLen; omega) (by rw [HLEN.out]; omega) (by have := HN.out.bel.size; simp; omega) ?_
                 intro v' w4 hown4 hgrow4 _
                 have HN4 := Lib.hid (HN.out.append (V - Y) hown4 hgrow4)
                 have d4 : w4.cell? ⟨b2, o2 + t, none⟩ = some (.int .i64 J) := by
                   have hb4 : Below w.heap.size w w4 := HG.out.bel.trans (HN4.out.bel.below HG.out.bel.size (by omega))
                   exact ((bcell hb4).1 _ _ HB2.out).trans D2.out
                 have q4 := cell_of_row w4 (w.heap.size + 1) k _ 3 (0, 0) HN4.out.hd
                 have hset : ((mixH f plan np t k).set k (V - Y))[k]? = some (V - Y) := by
                   rw [List.getElem?_set]
                   simp [mixH]
                   omega
                 rw [iV_get hset] at q4
                 have z4 : w4.frozen? ⟨w.heap.size + 1, k, none⟩ = false := by simp [World.frozen?, HN4.out.hd]
                 clear q1 hset)
              | (go_at_call 61; refine (refJacked_any J k _ hJb (by unfold maxLen; omega)).mono ?_; rintro e w' ⟨rfl, rfl⟩; rw [HJB.out])
              | fail)
            refine ⟨⟨k + 1, by omega, by go_num, ?_⟩, by simp [intOf]; omega⟩
            have h5 := HN4.out.set k 0
            rw [List.set_set] at h5
            rw [HLT.out, ← HMS.out, HN1.out]
            exact h5
        · have hke : k = np := by omega
          have hk1 : ¬ (k : Int) < (np : Int) := by omega
          subst hke
          have hlen : (lvL f plan k t).length = k := by unfold lvL; simp
          have hfull : (lvL f plan k t).take k = lvL f plan k t := List.take_of_length_le (by omega)
          rw [hfull, mixH_np] at HPL2
          have hown := HPL2.out.own
          rw [hlen] at hown
          obtain ⟨g, cg, rfl, _⟩ := hown.form (by omega)
          have hbase : w.heap.size + 1 + 1 ≤ wo.heap.size := by have := heapsz YH.out; omega
          have hbw : Below w.heap.size w wr := HG.out.bel.trans (HPL2.out.bel.below HG.out.bel.size (by omega))
          have HG2 := Lib.hid (HG.out.keep hbw (fun b hb hlt => HPL2.out.bel.block b hlt (by omega)))
          have HRI : Hid (RowIs intR 3 (w.heap.size + 1 + 1) (lvL f plan k t) (.slice (some ⟨g, 0, none⟩) k cg) wr) := Lib.hid (RowIs.of_own (k := 1) (by rw [hlen]; exact own_mono hown hbase))
          have HLL : Hid (((lvT f plan k).take t).length = t) := Lib.hid (by rw [List.length_take]; unfold lvT; simp [HM.out]; omega)
          have HZ : Hid ((lvT f plan k).take (t + 1) = (lvT f plan k).take t ++ [lvL f plan k t]) := Lib.hid (by rw [List.take_add_one]; unfold lvT; rw [rowL_at _ (by rw [HM.out]; exact hlt)]; rfl)
          have hsz : w.heap.size + 1 + 1 ≤ wr.heap.size := Nat.le_trans hbase HPL2.out.bel.size
          have YS2 := Lib.hid ((HPL2.out.bel.block w.heap.size (by omega) (by omega)).trans YS.out)
          obtain ⟨j0, hj0, jz0, jz1, jz2⟩ := info_parts ints_info
          clear hfull hown hbw
          go_wp2_with (first
            | (at_builtin
               refine wpList_append_own _ rfl _ _ 53 rfl (w.heap.size + 1 + 1) 34 j0 _ 1 24 Tryz.underlying53 hj0 jz0 jz1 jz2 rfl (by decide) _ _ _ rfl (own_next HG2.out.own ((Below.refl _ wr).alloc (Nat.le_refl _) _)) ⟨wr.heap.size, 0, none⟩ 1 1 [.slice (some ⟨g, 0, none⟩) k cg] rfl rfl (cell_one_new _ _ _) (by simp [Value.oneCell']) (by rw [HLL.out]; unfold maxLen; omega) (by rw [HLL.out]; omega) (by simp; omega) ?_
               intro v' w4 hown4 hgrow4 _)
            | fail)
          have hA := HG2.out.append (by decide) HRI.out hown4 hgrow4
          rw [← HZ.out] at hA
          have hk4 : ∀ b o, b < w.heap.size + 1 + 1 → wr.heap[b]? = some o → w4.heap[b]? = some o := fun b o hb ho => by
            have hlt := (Array.getElem?_eq_some_iff.1 ho).1
            exact (hgrow4.block b (by simp; omega) (fun e => by have := (own_at HG2.out.own e.symm).1; omega)).trans ((((Below.refl wr.heap.size wr).alloc (Nat.le_refl _) (.cells #[.slice (some ⟨g, 0, none⟩) k cg] 34)).block b hlt).trans ho)
          exact ⟨⟨t + 1, _, by omega, by go_num, hk4 _ _ (by omega) YS2.out, hk4 _ _ (by omega) HPL2.out.hd, hA⟩, by simp [intOf]; omega⟩
    · have hte : t = m := by omega
      have hk1 : ¬ (t : Int) < (m : Int) := by omega
      have hlen : (lvT f plan np).length = m := by unfold lvT; simp [HM.out]
      have hfull : (lvT f plan np).take t = lvT f plan np := List.take_of_length_le (by omega)
      rw [hfull] at HG
      clear hfull
      go_wp2_with fail
      go_ret
      obtain ⟨A3, c3, rfl, g1, g2, g3⟩ := HG.out.grid intR_len (fun row hr => by
        unfold lvT at hr
        obtain ⟨t, _, rfl⟩ := List.mem_map.1 hr
        unfold lvL maxLen
        simp
        omega)
      exact ⟨A3, c3, congrArg (fun m => Ending.returned (Value.slice A3 m c3)) hlen, g1, by omega, g3⟩
end Go.Proofs.YtdlaphlpimlgdaaGreatDoor
