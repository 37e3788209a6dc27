/- The truth in which all piles settle most in all years, or least. -/
import Derived.Test.YtdlaphlpimlgdaaGreatDoorCD
namespace Go.Proofs.YtdlaphlpimlgdaaGreatDoor
open Go.RowKit

def Ctx.endT (X : Ctx) (most : Bool) (t i : Nat) : Tru := endI X.rs (X.pile i) (X.th t i) most
def gridL {α : Type} (f : Nat → Nat → α) (n np : Nat) : List (List α) := (List.range n).map fun t => (List.range np).map (f t)
theorem gridL_at {α : Type} (f : Nat → Nat → α) {n np t : Nat} (h : t < n) : (gridL f n np)[t]? = some ((List.range np).map (f t)) := by
  unfold gridL
  rw [List.getElem?_map, List.getElem?_range h]
  rfl
theorem gridL_in {α : Type} (f : Nat → Nat → α) {n np : Nat} : ∀ row ∈ gridL f n np, row.length = np := by
  intro row hr
  unfold gridL at hr
  obtain ⟨t, _, rfl⟩ := List.mem_map.1 hr
  simp
theorem rowL_at {α : Type} (f : Nat → α) {np i : Nat} (h : i < np) : ((List.range np).map f)[i]? = some (f i) := by
  rw [List.getElem?_map, List.getElem?_range h]
  rfl
def Ctx.endsL (X : Ctx) (most : Bool) : List (List Tru) := gridL (X.endT most) X.n X.np
theorem truR_len (x : Tru) : (truR x).length = 3 := rfl
theorem flatR_len {α : Type} {R : α → List Value} {k : Nat} (hR : ∀ x, (R x).length = k) (row : List α) : (flatR R row).length = row.length * k := by
  induction row with
  | nil => simp [flatR]
  | cons x xs ih =>
    unfold flatR at ih ⊢
    rw [List.map_cons, List.flatten_cons, List.length_append, ih, hR, List.length_cons, Nat.succ_mul, Nat.add_comm]
theorem flatR_ne {α : Type} {R : α → List Value} {k : Nat} (hR : ∀ x, (R x).length = k) (hk : 0 < k) {row : List α} (h : row ≠ []) : flatR R row ≠ [] := fun e => by
  have := flatR_len hR row
  rw [e] at this
  have h2 : 0 < row.length := List.length_pos_iff.2 h
  have := Nat.mul_pos h2 hk
  simp at *
  omega
theorem tru_info : (Tryz.prog.info? 68).map (fun i => (i.zero, i.size, i.bytes)) = some (some (.agg #[.int .i64 0, .int .i64 0, .int .i64 0]), 3, 24) := by kernel_rfl
theorem trus_info : (Tryz.prog.info? 52).map (fun i => (i.zero, i.size, i.bytes)) = some (some (.slice none 0 0), 1, 24) := by kernel_rfl
/-- The cells of a pile, and of a thaw, that a looked-at context leads to. -/
theorem Ctx.In.cells_p {X : Ctx} {w : World} (h : X.In w) (K : X.Ok) {i : Nat} (hi : i < X.np) : ∃ b o, X.AP = some ⟨b, o, none⟩ ∧ b < w.heap.size ∧
    w.cell? ⟨b, o + i * 7, none⟩ = some (.int .i64 (X.pile i).d) ∧ w.cell? ⟨b, o + i * 7 + 1, none⟩ = some (.int .i64 (X.pile i).p) ∧ w.cell? ⟨b, o + i * 7 + 2, none⟩ = some (.int .i64 (X.pile i).s) ∧ w.cell? ⟨b, o + i * 7 + 3, none⟩ = some (.int .i64 (X.pile i).l) ∧ w.cell? ⟨b, o + i * 7 + 4, none⟩ = some (.int .i64 (X.pile i).h) ∧ w.cell? ⟨b, o + i * 7 + 5, none⟩ = some (.int .i64 (X.pile i).g) ∧ w.cell? ⟨b, o + i * 7 + 6, none⟩ = some (.int .i64 (X.pile i).c) := by
  obtain ⟨h4, _⟩ := K.at_pile hi
  obtain ⟨b, o, e, hb, hc⟩ := pil_cells h.P (by intro e; rw [e] at h4; simp at h4)
  exact ⟨b, o, e, hb, hc i _ h4⟩
theorem Ctx.In.cells_t {X : Ctx} {w : World} (h : X.In w) (K : X.Ok) {t i : Nat} (ht : t < X.n) (hi : i < X.np) : ∃ b o b' o' c', X.A = some ⟨b, o, none⟩ ∧ b < w.heap.size ∧ b' < w.heap.size ∧
    w.cell? ⟨b, o + t, none⟩ = some (.slice (some ⟨b', o', none⟩) X.np c') ∧ w.cell? ⟨b', o' + i * 2, none⟩ = some (.int .i64 (X.th t i).1) ∧ w.cell? ⟨b', o' + i * 2 + 1, none⟩ = some (.int .i64 (X.th t i).2) := by
  obtain ⟨row, h1, h2, h3, _⟩ := K.at_th ht hi
  obtain ⟨b, o, A', m, c', e, hb, rfl, d, p, _⟩ := sps_row h.T h1
  obtain ⟨b', o', rfl, hb', p1, p2⟩ := prs_el p h3
  rw [h2] at d
  exact ⟨b, o, b', o', c', e, hb, hb', d, p1, p2⟩

def enCv (v sv tv : Value) (most : Bool) (bs bp op bt ot b' o' np cp c' t i : Nat) (p : Pil) (y : Sp) (e : Tru) : Tmp → Value
  | 9 => v
  | 3 => .pointer (some ⟨bs, 0, none⟩)
  | 10 => .int .i64 (i : Int)
  | 1 => tv
  | 8 => .int .i64 (t : Int)
  | 2 => .bool most
  | 24 => v
  | 25 => sv
  | 26 => .pointer (some ⟨bs, 0, none⟩)
  | 27 => .slice (some ⟨bp, op, none⟩) np cp
  | 28 => .int .i64 (i : Int)
  | 29 => .pointer (some ⟨bp, op + i * 7, none⟩)
  | 30 => .agg #[.int .i64 p.d, .int .i64 p.p, .int .i64 p.s, .int .i64 p.l, .int .i64 p.h, .int .i64 p.g, .int .i64 p.c]
  | 31 => tv
  | 32 => .int .i64 (t : Int)
  | 33 => .pointer (some ⟨bt, ot + t, none⟩)
  | 34 => .slice (some ⟨b', o', none⟩) np c'
  | 35 => .int .i64 (i : Int)
  | 36 => .pointer (some ⟨b', o' + i * 2, none⟩)
  | 37 => .agg #[.int .i64 y.1, .int .i64 y.2]
  | 38 => .bool most
  | 39 => .agg #[.int .i64 e.t, .int .i64 e.l, .int .i64 e.s]
  | _ => undef
section
attribute [local irreducible] QT
set_option maxRecDepth 100000 in
set_option maxHeartbeats 8000000 in
theorem refEnds_any {X : Ctx} {w : World} (h : X.In w) (h0 : thawsI X.sit X.ts = 0) (most : Bool) :
    Calls Tryz.prog 39 #[X.sv, X.tv, .bool most] w fun e w' => ∃ A3 c3, e = .returned (.slice A3 X.n c3) ∧ GridAt 3 truR w' w'.heap.size A3 (X.endsL most) ∧ X.n ≤ c3 ∧ Below w.heap.size w w' := by
  obtain ⟨z0, hb0⟩ := site_new X w
  have K : X.Ok := ⟨h.hp, h.hq, h.hr, h.hl, h0⟩
  have HK := Lib.hid K
  have np6 := K.np6; have n10 := K.n10
  obtain ⟨w1, hw1⟩ : ∃ z, w.alloc (.cells X.cells 26) = z := ⟨_, rfl⟩
  rw [hw1] at z0 hb0
  have HI := Lib.hid (h.up hb0); have HB := Lib.hid hb0
  have Z0 := Lib.hid z0
  clear h h0 z0 hb0 K
  go_enter Tryz.func39, Tryz.ntmps39
  go_wp2_with fail
  go_loopw [7, 8] (fun v i wr => ∃ (t : Nat) (rows : List Value), t ≤ X.n ∧ i = .int .i64 t ∧ Below w1.heap.size w1 wr ∧ GrdI truR 68 52 w w1.heap.size ((X.endsL most).take t) v rows wr) (fun _ i _ => X.n - (intOf i).toNat)
  case atStart => exact ⟨0, [], Nat.zero_le _, rfl, Below.refl _ _, GrdI.nil HB.out HB.out.size⟩
  case round =>
    obtain ⟨t, rows, ht, rfl, hbr, hI⟩ := hrel
    have HG := Lib.hid hI; have HBR := Lib.hid hbr
    clear hI
    by_cases hlt : t < X.n
    · have ht0 : (0 : Int) ≤ (t : Int) := by omega
      have ht1 : (t : Int) < (X.n : Int) := by omega
      clear hbr
      go_wp2_with fail
      rename World => wo
      have HBO := Lib.hid HBR.out
      go_loopw [9, 10] (fun v i wq => ∃ k : Nat, k ≤ X.np ∧ i = .int .i64 k ∧ Below wo.heap.size wo wq ∧ wq.ownsRow wo.heap.size 68 3 v k (flatR truR (((List.range X.np).map (X.endT most t)).take k))) (fun _ i _ => X.np - (intOf i).toNat)
      case atStart => exact ⟨0, Nat.zero_le _, rfl, Below.refl _ _, World.ownsRow_nil _ _ _ _⟩
      case round =>
        obtain ⟨k, hk, rfl, hbw, hown⟩ := hrel
        have HBW := Lib.hid hbw; have HOWN := Lib.hid hown
        have HKB : Hid (Below w1.heap.size w1 wr) := Lib.hid (HBO.out.trans (hbw.mono HBO.out.size))
        have c0 := (site_box ((HKB.out.block _ (heapsz Z0.out)).trans Z0.out)).1
        clear hown hbw
        by_cases hkt : k < X.np
        · have hk0 : (0 : Int) ≤ (k : Int) := by omega
          have hk1 : (k : Int) < (X.np : Int) := by omega
          obtain ⟨bp, op, eAP, hbp, p0, p1, p2, p3, p4, p5, p6⟩ := HI.out.cells_p HK.out hkt
          obtain ⟨bt, ot, b', o', c', eA, hbt, hb', t0, t1, t2⟩ := HI.out.cells_t HK.out hlt hkt
          have hpB := (HK.out.at_pile hkt).2
          have hyB : 0 ≤ (X.th t k).1 ∧ (X.th t k).1 ≤ (X.th t k).2 ∧ (X.th t k).2 ≤ 50000 := by
            obtain ⟨_, _, _, _, h5⟩ := HK.out.at_th hlt hkt
            exact withinB_iff.1 h5
          have nr6 := HK.out.parts.nr6
          have HC : Hid (∀ u, Below w1.heap.size w1 u → Calls Tryz.prog 86 #[X.sv, pilV (X.pile k), .agg #[.int .i64 (X.th t k).1, .int .i64 (X.th t k).2], .bool most] u fun e w' => e = .returned (.agg #[.int .i64 (X.endT most t k).t, .int .i64 (X.endT most t k).l, .int .i64 (X.endT most t k).s]) ∧ Below u.heap.size u w') :=
            Lib.hid fun u hu => refEnd_any X.AP X.AQ X.AR X.np X.cp X.nq X.cq X.nr X.cr X.rs X.may X.sink X.tilt (X.pile k) (X.th t k).1 (X.th t k).2 most u HK.out.hr nr6.1 (by unfold maxLen; omega) (HI.out.R.up hu) hpB hyB
          have FC : Hid (∀ u, Below w1.heap.size w1 u → (u.cell? ⟨w.heap.size, 0, none⟩ = some (.slice X.AP X.np X.cp) ∧ u.cell? ⟨w.heap.size, 1, none⟩ = some (.slice X.AQ X.nq X.cq) ∧ u.cell? ⟨w.heap.size, 2, none⟩ = some (.slice X.AR X.nr X.cr) ∧ u.cell? ⟨w.heap.size, 3, none⟩ = some (.int .i64 X.may) ∧ u.cell? ⟨w.heap.size, 4, none⟩ = some (.int .i64 X.sink) ∧ u.cell? ⟨w.heap.size, 5, none⟩ = some (.int .i64 X.tilt)) ∧
              (u.cell? ⟨bp, op + k * 7, none⟩ = some (.int .i64 (X.pile k).d) ∧ u.cell? ⟨bp, op + k * 7 + 1, none⟩ = some (.int .i64 (X.pile k).p) ∧ u.cell? ⟨bp, op + k * 7 + 2, none⟩ = some (.int .i64 (X.pile k).s) ∧ u.cell? ⟨bp, op + k * 7 + 3, none⟩ = some (.int .i64 (X.pile k).l) ∧ u.cell? ⟨bp, op + k * 7 + 4, none⟩ = some (.int .i64 (X.pile k).h) ∧ u.cell? ⟨bp, op + k * 7 + 5, none⟩ = some (.int .i64 (X.pile k).g) ∧ u.cell? ⟨bp, op + k * 7 + 6, none⟩ = some (.int .i64 (X.pile k).c)) ∧
              u.cell? ⟨bt, ot + t, none⟩ = some (.slice (some ⟨b', o', none⟩) X.np c') ∧ u.cell? ⟨b', o' + k * 2, none⟩ = some (.int .i64 (X.th t k).1) ∧ u.cell? ⟨b', o' + k * 2 + 1, none⟩ = some (.int .i64 (X.th t k).2)) :=
            Lib.hid fun u hu => ⟨site_box ((hu.block _ (heapsz Z0.out)).trans Z0.out), ⟨((bcell hu).1 _ _ hbp).trans p0, ((bcell hu).1 _ _ hbp).trans p1, ((bcell hu).1 _ _ hbp).trans p2, ((bcell hu).1 _ _ hbp).trans p3, ((bcell hu).1 _ _ hbp).trans p4, ((bcell hu).1 _ _ hbp).trans p5, ((bcell hu).1 _ _ hbp).trans p6⟩, ((bcell hu).1 _ _ hbt).trans t0, ((bcell hu).1 _ _ hb').trans t1, ((bcell hu).1 _ _ hb').trans t2⟩
          have HX : Hid (((List.range X.np).map (X.endT most t))[k]? = some (X.endT most t k)) := Lib.hid (rowL_at _ hkt)
          obtain ⟨E, hE⟩ : ∃ z, X.endT most t k = z := ⟨_, rfl⟩
          obtain ⟨P, hP⟩ : ∃ z, X.pile k = z := ⟨_, rfl⟩
          obtain ⟨Y, hY⟩ : ∃ z, X.th t k = z := ⟨_, rfl⟩
          rw [hE, hP, hY] at HC
          rw [hP, hY] at FC
          rw [hE] at HX
          clear p0 p1 p2 p3 p4 p5 p6 t0 t1 t2 hpB hyB hE hP hY hbp hbt hb'
          go_wp2_with fail
          clear c0
          obtain ⟨i0, hi0, hz0, hz1, hz2⟩ := info_parts tru_info
          apply tail_region
          case hs => exact (rfl : _ = [_, _, _, _, _, _, _, _, _, _, _, _, _, _, _, _, _, _] ++ [_])
          case hm => kernel_rfl
          case hT => kernel_rfl
          have hlow : wo.heap.size ≤ wr.heap.size := HBW.out.size
          have hkeep : ∀ done g w', SL ⟨wr, wo.heap.size, 68, 3, k, u9, flatR truR (((List.range X.np).map (X.endT most t)).take k), truR E, 16, 17⟩ done g w' → Below w1.heap.size w1 w' := fun done g w' hS =>
            HKB.out.grown hS.grown HKB.out.size (fun B hB => Nat.le_trans HBO.out.size (own_at HOWN.out hB).1)
          refine plan_guarded_any (γ := GhE) [9, 3, 10, 1, 8, 2] (rhoO 40 41 (enCv u9 X.sv X.tv most w.heap.size bp op bt ot b' o' X.np X.cp c' t k P Y E)) (SL ⟨wr, wo.heap.size, 68, 3, k, u9, flatR truR (((List.range X.np).map (X.endT most t)).take k), truR E, 16, 17⟩) ⟨fun _ => undef, fun _ => undef⟩ (by kernel_rfl) (by kernel_rfl) (by kernel_rfl) (by kernel_rfl) ?_ (SL.start HOWN.out hlow (by decide)) ?_ ?_
          · intro t ht
            simp only [List.mem_cons, List.not_mem_nil, or_false] at ht
            rcases ht with rfl | rfl | rfl | rfl | rfl | rfl <;> rfl
          · refine allOps_array ?_
            refine ⟨?_, ?_, ?_, ?_, ?_, ?_, ?_, ?_, ?_, ?_, ?_, ?_, ?_, ?_, ?_, ?_, ?_, ?_, trivial⟩ <;> intro done g w' hS hu hdep _ <;> obtain ⟨⟨x0, x1, x2, x3, x4, x5⟩, ⟨y0, y1, y2, y3, y4, y5, y6⟩, z0, z1, z2⟩ := FC.out w' (hkeep _ _ _ hS)
            · refine quietL hS 24 rfl (by simp) (by simp) rfl ?_
              simp [go_sem, evalBy, rhoO, enCv]
            · refine quietL hS 25 rfl (by simp) (by simp) rfl ?_
              simp [go_sem, evalBy, rhoO, enCv, x0, x1, x2, x3, x4, x5]
            · refine quietL hS 26 rfl (by simp) (by simp) rfl ?_
              simp [go_sem, evalBy, rhoO, enCv]
            · refine quietL hS 27 rfl (by simp) (by simp) rfl ?_
              simp [go_sem, evalBy, rhoO, enCv, x0, eAP]
            · refine quietL hS 28 rfl (by simp) (by simp) rfl ?_
              simp [go_sem, evalBy, rhoO, enCv]
            · refine quietL hS 29 rfl (by simp) (by simp) rfl ?_
              simp [go_sem, evalBy, rhoO, enCv, hk0, hk1]
            · refine quietL hS 30 rfl (by simp) (by simp) rfl ?_
              simp [go_sem, evalBy, rhoO, enCv, y0, y1, y2, y3, y4, y5, y6]
            · refine quietL hS 31 rfl (by simp) (by simp) rfl ?_
              simp [go_sem, evalBy, rhoO, enCv]
            · refine quietL hS 32 rfl (by simp) (by simp) rfl ?_
              simp [go_sem, evalBy, rhoO, enCv]
            · refine quietL hS 33 rfl (by simp) (by simp) rfl ?_
              simp [go_sem, evalBy, rhoO, enCv, Ctx.tv, eA, ht0, ht1]
            · refine quietL hS 34 rfl (by simp) (by simp) rfl ?_
              simp [go_sem, evalBy, rhoO, enCv, z0]
            · refine quietL hS 35 rfl (by simp) (by simp) rfl ?_
              simp [go_sem, evalBy, rhoO, enCv]
            · refine quietL hS 36 rfl (by simp) (by simp) rfl ?_
              simp [go_sem, evalBy, rhoO, enCv, hk0, hk1]
            · refine quietL hS 37 rfl (by simp) (by simp) rfl ?_
              simp [go_sem, evalBy, rhoO, enCv, z1, z2]
            · refine quietL hS 38 rfl (by simp) (by simp) rfl ?_
              simp [go_sem, evalBy, rhoO, enCv]
            · refine callL hS 39 rfl (by simp) (by simp) rfl 86 #[X.sv, pilV P, .agg #[.int .i64 Y.1, .int .i64 Y.2], .bool most] (by simp [go_sem, evalBy, rhoO, enCv]) ?_
              exact HC.out w' (hkeep _ _ _ hS)
            · refine buildL hS 40 rfl rfl rfl ?_ (fun _ => rfl) (fun t b' ht => rhoO_b t b' ht)
              simp [go_sem, evalBy, rhoO, enCv, truR]
            · exact appendL hS 41 rfl rfl hu (hdep ⟨16, .data⟩ (by simp) rfl) rfl 24 40 52 rfl rfl rfl i0 _ 24 Tryz.underlying52 hi0 hz0 hz1 hz2 rfl (by show 0 < 3; decide) rfl (by simp [Value.oneCell', truR]) (by unfold maxLen; show k + 1 ≤ _; omega) (by show (k + 1) * 24 ≤ _; omega) (fun _ => rfl) (fun t c' ht => rhoO_c t c' ht)
          · intro g wC hS
            have hA := SL.after hS (show 17 < _ by decide)
            have HBC := Lib.hid (HBW.out.grown hA.1 HBW.out.size (fun B hB => (own_at HOWN.out hB).1))
            have HOC := Lib.hid hA.2.1
            clear hA hS hkeep
            simp only [QT]
            unfold Oper.wp
            simp [go_sem, putAll, Act.put, rhoO, enCv]
            go_wp2_with fail
            refine ⟨⟨k + 1, by omega, by go_num, HBC.out, ?_⟩, by simp [intOf]; omega⟩
            rw [flatR_take HX.out]
            exact HOC.out
        · have hke : k = X.np := by omega
          have hk1 : ¬ (k : Int) < (X.np : Int) := by omega
          subst hke
          have hlen : ((List.range X.np).map (X.endT most t)).length = X.np := by simp
          have hfull : ((List.range X.np).map (X.endT most t)).take X.np = (List.range X.np).map (X.endT most t) := List.take_of_length_le (by omega)
          rw [hfull] at HOWN
          obtain ⟨g, cg, rfl, _⟩ := HOWN.out.form (by omega)
          have HG2 := Lib.hid (HG.out.below HBW.out)
          have HRI : Hid (RowIs truR 68 w1.heap.size ((List.range X.np).map (X.endT most t)) (.slice (some ⟨g, 0, none⟩) X.np cg) wr) := Lib.hid (RowIs.of_own (k := 3) (by rw [hlen]; exact own_mono HOWN.out HBO.out.size))
          have HLT : Hid (((X.endsL most).take t).length = t) := Lib.hid (by rw [List.length_take]; unfold Ctx.endsL gridL; simp; omega)
          have HZ : Hid ((X.endsL most).take (t + 1) = (X.endsL most).take t ++ [(List.range X.np).map (X.endT most t)]) := Lib.hid (by rw [List.take_add_one]; unfold Ctx.endsL; rw [gridL_at _ hlt]; rfl)
          obtain ⟨j0, hj0, jz0, jz1, jz2⟩ := info_parts trus_info
          have hsz : w1.heap.size ≤ wr.heap.size := HKB.out.size
          clear hlen hfull
          go_wp2_with (first
            | (at_builtin
               refine wpList_append_own _ rfl _ _ 51 rfl w1.heap.size 52 j0 _ 1 24 Tryz.underlying51 hj0 jz0 jz1 jz2 rfl (by decide) _ _ _ rfl (Go.Proofs.YtdlaphlpimlgdaaGreatDoor.own_next HG2.out.own ((Below.refl _ wr).alloc (Nat.le_refl _) _)) ⟨wr.heap.size, 0, none⟩ 1 1 [.slice (some ⟨g, 0, none⟩) X.np cg] rfl rfl (cell_one_new _ _ _) (by simp [Value.oneCell']) (by rw [HLT.out]; unfold maxLen; omega) (by rw [HLT.out]; omega) (by simp; omega) ?_
               intro v' w4 hown4 hgrow4 _)
            | fail)
          have hA := HG2.out.append (by decide) HRI.out hown4 hgrow4
          rw [← HZ.out] at hA
          refine ⟨⟨t + 1, _, by omega, by go_num, ?_, hA⟩, by simp [intOf]; omega⟩
          have hb1 := (Below.refl wr.heap.size wr).alloc (Nat.le_refl _) (.cells #[.slice (some ⟨g, 0, none⟩) X.np cg] 52)
          exact (HKB.out.trans (hb1.mono HKB.out.size)).grown hgrow4 (Nat.le_trans HKB.out.size hb1.size) (fun B hB => (own_at HG2.out.own hB).1)
    · have hte : t = X.n := by omega
      have hk1 : ¬ (t : Int) < (X.n : Int) := by omega
      have hlen : (X.endsL most).length = X.n := by unfold Ctx.endsL gridL; simp
      have hfull : (X.endsL most).take t = X.endsL most := List.take_of_length_le (by omega)
      rw [hfull] at HG
      clear hfull hbr
      go_wp2_with fail
      go_ret
      obtain ⟨A3, c3, rfl, g1, g2, g3⟩ := HG.out.grid truR_len (fun row hr => by
        have := gridL_in (X.endT most) row hr
        unfold maxLen
        omega)
      exact ⟨A3, c3, congrArg (fun m => Ending.returned (Value.slice A3 m c3)) hlen, g1, by omega, g3⟩
end
end Go.Proofs.YtdlaphlpimlgdaaGreatDoor
