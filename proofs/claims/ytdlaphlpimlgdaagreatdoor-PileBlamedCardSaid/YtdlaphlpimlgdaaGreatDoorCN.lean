/- Whether a truth has what can be true: the code's test. -/
import Derived.Test.YtdlaphlpimlgdaaGreatDoorCL
namespace Go.Proofs.YtdlaphlpimlgdaaGreatDoor
open Go.RowKit

def truB (X : Ctx) (t i : Nat) (x : Tru) : Bool :=
  inB (X.th t i).1 x.t (X.th t i).2 && (inB (X.pile i).l x.l (X.pile i).h && inB (rowI X.rs (carI (X.pile i) x.t) x.l).1.lo x.s (rowI X.rs (carI (X.pile i) x.t) x.l).1.hi)
def truRowB (X : Ctx) (t : Nat) (row : List Tru) : Bool := decide (row.length = X.np) && (List.range X.np).all fun i => truB X t i (row.getD i zT)
def possB (X : Ctx) (L : List (List Tru)) : Bool := decide (L.length = X.n) && (List.range X.n).all fun t => truRowB X t (L.getD t [])
theorem rng_no {f : Nat → Bool} {N k : Nat} (hk : k < N) (h : f k = false) : (List.range N).all f = false := by
  rw [List.all_eq_false]
  exact ⟨k, List.mem_range.2 hk, by rw [h]; exact Bool.false_ne_true⟩
theorem rng_yes {f : Nat → Bool} {N : Nat} (h : ∀ k, k < N → f k = true) : (List.range N).all f = true := List.all_eq_true.2 fun k hk => h k (List.mem_range.1 hk)
theorem tru_el {w : World} {B : Nat} {A : Option Addr} {row : List Tru} {i : Nat} {x : Tru} (h : RowAt 3 truR w B A row) (hx : row[i]? = some x) : ∃ b o, A = some ⟨b, o, none⟩ ∧ b < B ∧ w.cell? ⟨b, o + i * 3, none⟩ = some (.int .i64 x.t) ∧ w.cell? ⟨b, o + i * 3 + 1, none⟩ = some (.int .i64 x.l) ∧ w.cell? ⟨b, o + i * 3 + 2, none⟩ = some (.int .i64 x.s) := by
  obtain ⟨b, o, rfl, h1, h2⟩ := h (by intro e; rw [e] at hx; simp at hx)
  exact ⟨b, o, rfl, h1, h2 i x hx 0 _ rfl, h2 i x hx 1 _ rfl, h2 i x hx 2 _ rfl⟩
/-- The cells that a looked-at site leads to. -/
theorem Ctx.At.cells_p {X : Ctx} {w : World} (h : X.At w) (K : X.Ok) {i : Nat} (hi : i < X.np) : ∃ b o, X.AP = some ⟨b, o, none⟩ ∧ b < w.heap.size ∧
    w.cell? ⟨b, o + i * 7, none⟩ = some (.int .i64 (X.pile i).d) ∧ w.cell? ⟨b, o + i * 7 + 1, none⟩ = some (.int .i64 (X.pile i).p) ∧ w.cell? ⟨b, o + i * 7 + 2, none⟩ = some (.int .i64 (X.pile i).s) ∧ w.cell? ⟨b, o + i * 7 + 3, none⟩ = some (.int .i64 (X.pile i).l) ∧ w.cell? ⟨b, o + i * 7 + 4, none⟩ = some (.int .i64 (X.pile i).h) ∧ w.cell? ⟨b, o + i * 7 + 5, none⟩ = some (.int .i64 (X.pile i).g) ∧ w.cell? ⟨b, o + i * 7 + 6, none⟩ = some (.int .i64 (X.pile i).c) := by
  obtain ⟨h4, _⟩ := K.at_pile hi
  obtain ⟨b, o, e, hb, hc⟩ := pil_cells h.P (by intro e; rw [e] at h4; simp at h4)
  exact ⟨b, o, e, hb, hc i _ h4⟩
theorem Ctx.At.cells_t {X : Ctx} {w : World} (h : X.At w) (K : X.Ok) {t i : Nat} (ht : t < X.n) (hi : i < X.np) : ∃ b o b' o' c', X.A = some ⟨b, o, none⟩ ∧ b < w.heap.size ∧ b' < w.heap.size ∧
    w.cell? ⟨b, o + t, none⟩ = some (.slice (some ⟨b', o', none⟩) X.np c') ∧ w.cell? ⟨b', o' + i * 2, none⟩ = some (.int .i64 (X.th t i).1) ∧ w.cell? ⟨b', o' + i * 2 + 1, none⟩ = some (.int .i64 (X.th t i).2) := by
  obtain ⟨row, h1, h2, h3, _⟩ := K.at_th ht hi
  obtain ⟨b, o, A', m, c', e, hb, rfl, d, p, _⟩ := sps_row h.T h1
  obtain ⟨b', o', rfl, hb', p1, p2⟩ := prs_el p h3
  rw [h2] at d
  exact ⟨b, o, b', o', c', e, hb, hb', d, p1, p2⟩
def psCv (G bt bp op np cp i : Nat) (P : Pil) (x : Tru) (C : Int) (r : Rw) (f : Bool) (g : Nat) : Tmp → Value
  | 0 => .pointer (some ⟨G, 0, none⟩)
  | 7 => .int .i64 (i : Int)
  | 8 => .pointer (some ⟨bt, 0, none⟩)
  | 72 => .pointer (some ⟨G, 0, none⟩)
  | 73 => .pointer (some ⟨G, 0, none⟩)
  | 74 => .pointer (some ⟨G, 0, none⟩)
  | 75 => .pointer (some ⟨G, 0, none⟩)
  | 76 => .pointer (some ⟨G, 0, none⟩)
  | 77 => .slice (some ⟨bp, op, none⟩) np cp
  | 78 => .int .i64 (i : Int)
  | 79 => .pointer (some ⟨bp, op + i * 7, none⟩)
  | 80 => .agg #[.int .i64 P.d, .int .i64 P.p, .int .i64 P.s, .int .i64 P.l, .int .i64 P.h, .int .i64 P.g, .int .i64 P.c]
  | 81 => .pointer (some ⟨bt, 0, none⟩)
  | 82 => .int .i64 x.t
  | 83 => .int .i64 C
  | 84 => .pointer (some ⟨bt, 1, none⟩)
  | 85 => .int .i64 x.l
  | 86 => .tuple #[.agg #[.int .i64 r.u, .int .i64 r.lo, .int .i64 r.hi], .bool f]
  | 71 => .tuple #[.agg #[.int .i64 r.u, .int .i64 r.lo, .int .i64 r.hi], .bool f]
  | 87 => .agg #[.int .i64 r.u, .int .i64 r.lo, .int .i64 r.hi]
  | 88 => .bool f
  | 9 => .pointer (some ⟨g, 0, none⟩)
  | 10 => .bool f
  | _ => undef
set_option maxRecDepth 100000 in
set_option maxHeartbeats 8000000 in
theorem possible_X {X : Ctx} (K : X.Ok) {w : World} (h : X.At w) (A : Option Addr) (m c : Nat) (L : List (List Tru)) (hl : L.length = m) (hm : m ≤ maxLen) (hA : GridAt 3 truR w w.heap.size A L) :
    Calls Tryz.prog 79 #[.pointer (some ⟨X.G, 0, none⟩), .slice A m c] w fun e w' => e = .returned (.bool (possB X L)) ∧ Below w.heap.size w w' := by
  have HK := Lib.hid K; have HX := Lib.hid h; have HL := Lib.hid hl; have HA := Lib.hid hA
  have np6 := K.np6; have n10 := K.n10
  obtain ⟨g0, g1, g2, g3, g4, g5, g6⟩ := look_cells h.g
  have hmb : (m : Int) ≤ 9223372036854775807 := by unfold maxLen at hm; omega
  clear K h hl hA hm
  by_cases hmn : m = X.n
  · have hmi : ((m : Int) == (X.n : Int)) = true := by rw [hmn]; exact beq_self_eq_true _
    subst hmn
    go_enter Tryz.func79, Tryz.ntmps79
    go_wp2_with fail
    clear g0 g1 g2 g3 g4 g5 g6
    go_loopw [21] (fun i wr => ∃ k : Nat, k ≤ X.n ∧ i = .int .i64 k ∧ (∀ j, j < k → truRowB X j (L.getD j []) = true) ∧ Below w.heap.size w wr) (fun i _ => X.n - (intOf i).toNat)
    case atStart => exact ⟨0, Nat.zero_le _, rfl, fun j hj => absurd hj (Nat.not_lt_zero _), Below.refl _ _⟩
    case round =>
      obtain ⟨k, hk, rfl, hall, hbr⟩ := hrel
      have HALL := Lib.hid hall; have HBR := Lib.hid hbr
      obtain ⟨g0, g1, g2, g3, g4, g5, g6⟩ := look_cells (HX.out.up hbr).g
      clear hall
      by_cases hkt : k < X.n
      · have hk0 : (0 : Int) ≤ (k : Int) := by omega
        have hk1 : (k : Int) < (X.n : Int) := by omega
        obtain ⟨row, hrow⟩ := get_of_lt (l := L) (k := k) (by rw [HL.out]; exact hkt)
        obtain ⟨ba, oa, A', nr, c', rfl, hba, hnr, d1, p1, hrx⟩ := grid_row HA.out hrow
        have f1 := ((bcell hbr).1 _ _ hba).trans d1
        have HGD : Hid (L.getD k [] = row) := Lib.hid (by rw [List.getD_eq_getElem?_getD, hrow]; rfl)
        have HP1 := Lib.hid p1; have HNR := Lib.hid hnr; have HD := Lib.hid d1; have HBA := Lib.hid hba
        unfold maxLen at hrx
        clear hrow hba d1 p1 hbr hnr
        by_cases hnn : nr = X.np
        · subst hnn
          go_wp2_with fail
          rename World => wo
          have HBO := HBR
          clear g0 g1 g2 g3 g4 g5 g6 f1 HBR
          go_loopw [37] (fun i wr => ∃ j : Nat, j ≤ X.np ∧ i = .int .i64 j ∧ (∀ i, i < j → truB X k i (row.getD i zT) = true) ∧ Below w.heap.size w wr) (fun i _ => X.np - (intOf i).toNat)
          case atStart => exact ⟨0, Nat.zero_le _, rfl, fun j hj => absurd hj (Nat.not_lt_zero _), HBO.out⟩
          case round =>
            obtain ⟨j, hj, rfl, hall, hbr⟩ := hrel
            have HALJ := Lib.hid hall; have HBR := Lib.hid hbr
            clear hall
            by_cases hjt : j < X.np
            · have hj0 : (0 : Int) ≤ (j : Int) := by omega
              have hj1 : (j : Int) < (X.np : Int) := by omega
              obtain ⟨x, hx⟩ := get_of_lt (l := row) (k := j) (by rw [← HNR.out]; exact hjt)
              obtain ⟨b', o', rfl, hb', q0, q1, q2⟩ := tru_el HP1.out hx
              have HGJ : Hid (row.getD j zT = x) := Lib.hid (by rw [List.getD_eq_getElem?_getD, hx]; rfl)
              replace q0 := ((bcell hbr).1 _ _ hb').trans q0
              replace q1 := ((bcell hbr).1 _ _ hb').trans q1
              replace q2 := ((bcell hbr).1 _ _ hb').trans q2
              obtain ⟨bp, op, eAP, hbp, y0, y1, y2, y3, y4, y5, y6⟩ := HX.out.cells_p HK.out hjt
              obtain ⟨bt, ot, b2, o2, c2, eA, hbt, hb2, t0, t1, t2⟩ := HX.out.cells_t HK.out hkt hjt
              have hpB := (HK.out.at_pile hjt).2
              have hpl := (pilB_iff.1 hpB).2.2.2.1
              have hyB : 0 ≤ (X.th k j).1 ∧ (X.th k j).1 ≤ (X.th k j).2 ∧ (X.th k j).2 ≤ 50000 := by
                obtain ⟨_, _, _, _, h5⟩ := HK.out.at_th hkt hjt
                exact withinB_iff.1 h5
              obtain ⟨wb, hwb⟩ : ∃ z, wr.alloc (.cells #[.int .i64 x.t, .int .i64 x.l, .int .i64 x.s] 68) = z := ⟨_, rfl⟩
              have hbz := (Below.refl wr.heap.size wr).alloc (Nat.le_refl _) (.cells #[.int .i64 x.t, .int .i64 x.l, .int .i64 x.s] 68)
              have zb := heap_alloc_new wr (.cells #[.int .i64 x.t, .int .i64 x.l, .int .i64 x.s] 68)
              rw [hwb] at hbz zb
              have HBB := Lib.hid (hbr.trans (hbz.mono hbr.size)); have ZB := Lib.hid zb
              go_wp2_with fail
              obtain ⟨bx, hbx⟩ : ∃ z, wr.heap.size = z := ⟨_, rfl⟩
              rw [hbx] at ZB ⊢
              have eA2 : X.A = some ⟨bt, ot, none⟩ := eA
              have hku := fun u : KeptW wb => (bcell (HBB.out.trans (u.h.mono HBB.out.size))).1
              have gl := fun u : KeptW wb => look_cells (HX.out.up (HBB.out.trans (u.h.mono HBB.out.size))).g
              have G0 := fun u => (gl u).1; have G6 := fun u => (gl u).2.2.2.2.2.2
              have T0 := fun u => (hku u _ _ hbt).trans t0; have T1 := fun u => (hku u _ _ hb2).trans t1; have T2 := fun u => (hku u _ _ hb2).trans t2
              have L3 := fun u => (hku u _ _ hbp).trans y3; have L4 := fun u => (hku u _ _ hbp).trans y4
              have bb := fun u : KeptW wb => box3_cells ((u.h.block _ (heapsz ZB.out)).trans ZB.out)
              have Q0 := fun u => (bb u).1; have Q1 := fun u => (bb u).2.1
              have FC : Hid (∀ u, Below wb.heap.size wb u → u.cell? ⟨X.G, 0, none⟩ = some (.slice X.AP X.np X.cp) ∧ (u.cell? ⟨bx, 0, none⟩ = some (.int .i64 x.t) ∧ u.cell? ⟨bx, 1, none⟩ = some (.int .i64 x.l) ∧ u.cell? ⟨bx, 2, none⟩ = some (.int .i64 x.s)) ∧
                  u.cell? ⟨bp, op + j * 7, none⟩ = some (.int .i64 (X.pile j).d) ∧ u.cell? ⟨bp, op + j * 7 + 1, none⟩ = some (.int .i64 (X.pile j).p) ∧ u.cell? ⟨bp, op + j * 7 + 2, none⟩ = some (.int .i64 (X.pile j).s) ∧ u.cell? ⟨bp, op + j * 7 + 3, none⟩ = some (.int .i64 (X.pile j).l) ∧ u.cell? ⟨bp, op + j * 7 + 4, none⟩ = some (.int .i64 (X.pile j).h) ∧ u.cell? ⟨bp, op + j * 7 + 5, none⟩ = some (.int .i64 (X.pile j).g) ∧ u.cell? ⟨bp, op + j * 7 + 6, none⟩ = some (.int .i64 (X.pile j).c)) :=
                Lib.hid fun u hu => by
                  have hk2 := (bcell (HBB.out.trans (hu.mono HBB.out.size))).1
                  exact ⟨(look_cells (HX.out.up (HBB.out.trans (hu.mono HBB.out.size))).g).1, box3_cells ((hu.block _ (heapsz ZB.out)).trans ZB.out), (hk2 _ _ hbp).trans y0, (hk2 _ _ hbp).trans y1, (hk2 _ _ hbp).trans y2, (hk2 _ _ hbp).trans y3, (hk2 _ _ hbp).trans y4, (hk2 _ _ hbp).trans y5, (hk2 _ _ hbp).trans y6⟩
              have HC1 := Lib.hid fun u : KeptW wb => Calls.in_kept u (inS_any x.t (X.th k j).1 (X.th k j).2 u.w)
              have HC2 := Lib.hid fun u : KeptW wb => Calls.in_kept u (inS_any x.l (X.pile j).l (X.pile j).h u.w)
              have HTB : Hid (truB X k j x = (inB (X.th k j).1 x.t (X.th k j).2 && (inB (X.pile j).l x.l (X.pile j).h && inB (rowI X.rs (carI (X.pile j) x.t) x.l).1.lo x.s (rowI X.rs (carI (X.pile j) x.t) x.l).1.hi))) := Lib.hid rfl
              have HNO : Hid (truB X k j x = false → possB X L = false) := Lib.hid fun hf => by
                unfold possB
                rw [rng_no hkt, Bool.and_false]
                unfold truRowB
                rw [HGD.out, rng_no hjt, Bool.and_false]
                rw [HGJ.out]
                exact hf
              have HPB := Lib.hid hpB; have HPL := Lib.hid hpl; have HYB := Lib.hid hyB
              simp only [eAP] at G0 FC
              simp only [eA] at G6
              clear eAP eA eA2
              clear y0 y1 y2 y3 y4 y5 y6 t0 t1 t2 hbp hbt hb2 hpB hpl hyB hku gl bb hbz zb hwb hbx hx hbr
              cases hb1 : inB (X.th k j).1 x.t (X.th k j).2 with
              | false =>
                have HF : Hid (possB X L = false) := Lib.hid (HNO.out (by rw [HTB.out, hb1]; rfl))
                rw [hb1] at HC1
                clear HNO HTB hb1 FC
                refine rk_region (by kernel_rfl) (by kernel_rfl) ?_
                repeat (go_big_quiet_step (first | (with_reducible exact HC1.out _) | (with_reducible exact HC2.out _) | fail))
                refine wpQuiet_nil ?_
                rintro _ ⟨u, rfl⟩
                clear G0 G6 T0 T1 T2 L3 L4 Q0 Q1 HC1 HC2
                go_wp2_with fail
                go_ret
                exact ⟨by rw [HF.out]; rfl, HBB.out.trans (u.h.mono HBB.out.size)⟩
              | true =>
                rw [hb1] at HC1 HTB
                have HIN1 := Lib.hid hb1
                cases hb2 : inB (X.pile j).l x.l (X.pile j).h with
                | false =>
                  have HF : Hid (possB X L = false) := Lib.hid (HNO.out (by rw [HTB.out, hb2]; rfl))
                  rw [hb2] at HC2
                  clear HNO HTB hb1 hb2 FC
                  refine rk_region (by kernel_rfl) (by kernel_rfl) ?_
                  repeat (go_big_quiet_step (first | (with_reducible exact HC1.out _) | (with_reducible exact HC2.out _) | fail))
                  refine wpQuiet_nil ?_
                  rintro _ ⟨u, rfl⟩
                  clear G0 G6 T0 T1 T2 L3 L4 Q0 Q1 HC1 HC2
                  go_wp2_with fail
                  go_ret
                  exact ⟨by rw [HF.out]; rfl, HBB.out.trans (u.h.mono HBB.out.size)⟩
                | true =>
                  rw [hb2] at HC2 HTB
                  have h1 := inB_iff.1 hb1; have h2 := inB_iff.1 hb2
                  have hpB := HPB.out; have hpl := HPL.out; have hyB := HYB.out
                  have nr6 := HK.out.parts.nr6
                  have hxt : 0 ≤ x.t ∧ x.t ≤ 50000 := by omega
                  have hxl : 0 ≤ x.l ∧ x.l ≤ 100000 := by omega
                  have hcb := carI_b hpB hxt.1
                  have H1 := Lib.hid fun u => carries_any (X.pile j) x.t u hpB hxt.1 hxt.2
                  have H2 := Lib.hid fun u (hu : Below wb.heap.size wb u) => rowOf_any X.G X.AP X.AQ X.AR X.A X.np X.cp X.nq X.cq X.nr X.cr X.n X.c X.rs X.may X.sink X.tilt (carI (X.pile j) x.t) x.l u (HX.out.up (HBB.out.trans (hu.mono HBB.out.size))).g HK.out.hr nr6.1 (by unfold maxLen; omega) (HX.out.up (HBB.out.trans (hu.mono HBB.out.size))).R hcb hxl
                  obtain ⟨C, hC⟩ : ∃ z, carI (X.pile j) x.t = z := ⟨_, rfl⟩
                  rw [hC] at H2 HTB
                  simp only [hC] at H1
                  obtain ⟨R, hR⟩ : ∃ z, rowI X.rs C x.l = z := ⟨_, rfl⟩
                  simp only [hR] at H2 HTB
                  obtain ⟨P, hP⟩ : ∃ z, X.pile j = z := ⟨_, rfl⟩
                  simp only [hP] at H1 FC HC2 L3 L4
                  clear hb1 hb2 h1 h2 hpB hpl hyB nr6 hxt hxl hcb hC hR
                  refine rk_region (by kernel_rfl) (by kernel_rfl) ?_
                  repeat (go_big_quiet_step (first | (with_reducible exact HC1.out _) | (with_reducible exact HC2.out _) | fail))
                  refine wpQuiet_nil ?_
                  rintro _ ⟨u, rfl⟩
                  clear G0 G6 T0 T1 T2 L3 L4 Q0 Q1 HC1 HC2
                  go_wp2_with fail
                  obtain ⟨wc, hwc⟩ : ∃ z, u.w = z := ⟨_, rfl⟩
                  have HBC0 : Hid (Below wb.heap.size wb wc) := Lib.hid (by rw [← hwc]; exact u.h)
                  rw [hwc]
                  clear hwc
                  replace H2 : Hid (∀ u, Below wc.heap.size wc u → _) := Lib.hid fun u hu => H2.out u (HBC0.out.trans (hu.mono HBC0.out.size))
                  replace FC : Hid (∀ u, Below wc.heap.size wc u → _) := Lib.hid fun u hu => FC.out u (HBC0.out.trans (hu.mono HBC0.out.size))
                  refine wp_region_any (by kernel_rfl) (plan_guarded_any (γ := Nat) [0, 7, 8] (psCv X.G bx bp op X.np X.cp j P x C R.1 R.2) (fun done g w' => NewS wc 18 19 119 (.int .i64 0, .int .i64 0, .int .i64 0) (.int .i64 R.1.u, .int .i64 R.1.lo, .int .i64 R.1.hi) done g w') 0 (by kernel_rfl) (by kernel_rfl) (by kernel_rfl) (by kernel_rfl) ?_ ?_ ?_ ?_)
                  · intro t ht
                    simp only [List.mem_cons, List.not_mem_nil, or_false] at ht
                    rcases ht with rfl | rfl | rfl <;> rfl
                  · exact ⟨(Below.refl wc.heap.size wc).drew, fun h => by simp at h, fun h => by simp at h⟩
                  · refine allOps_array ?_
                    refine ⟨?_, ?_, ?_, ?_, ?_, ?_, ?_, ?_, ?_, ?_, ?_, ?_, ?_, ?_, ?_, ?_, ?_, ?_, ?_, ?_, ?_, trivial⟩ <;> intro done g w' hS hu hdep _ <;> obtain ⟨g0, ⟨b0, b1, b2⟩, y0, y1, y2, y3, y4, y5, y6⟩ := FC.out w' hS.keep
                    · refine quietN hS 72 rfl (by decide) (by decide) rfl ?_
                      simp [go_sem, evalBy, psCv]
                    · refine quietN hS 73 rfl (by decide) (by decide) rfl ?_
                      simp [go_sem, evalBy, psCv]
                    · refine quietN hS 74 rfl (by decide) (by decide) rfl ?_
                      simp [go_sem, evalBy, psCv]
                    · refine quietN hS 75 rfl (by decide) (by decide) rfl ?_
                      simp [go_sem, evalBy, psCv]
                    · refine quietN hS 76 rfl (by decide) (by decide) rfl ?_
                      simp [go_sem, evalBy, psCv]
                    · refine quietN hS 77 rfl (by decide) (by decide) rfl ?_
                      simp [go_sem, evalBy, psCv, g0]
                    · refine quietN hS 78 rfl (by decide) (by decide) rfl ?_
                      simp [go_sem, evalBy, psCv]
                    · refine quietN hS 79 rfl (by decide) (by decide) rfl ?_
                      simp [go_sem, evalBy, psCv, hj0, hj1]
                    · refine quietN hS 80 rfl (by decide) (by decide) rfl ?_
                      simp [go_sem, evalBy, psCv, y0, y1, y2, y3, y4, y5, y6]
                    · refine quietN hS 81 rfl (by decide) (by decide) rfl ?_
                      simp [go_sem, evalBy, psCv]
                    · refine quietN hS 82 rfl (by decide) (by decide) rfl ?_
                      simp [go_sem, evalBy, psCv, b0]
                    · refine callN hS 83 rfl (by decide) (by decide) rfl 93 #[pilV P, .int .i64 x.t] (by simp [go_sem, evalBy, psCv]) ?_
                      exact H1.out w'
                    · refine quietN hS 84 rfl (by decide) (by decide) rfl ?_
                      simp [go_sem, evalBy, psCv]
                    · refine quietN hS 85 rfl (by decide) (by decide) rfl ?_
                      simp [go_sem, evalBy, psCv, b1]
                    · refine callN hS 86 rfl (by decide) (by decide) rfl 112 #[.pointer (some ⟨X.G, 0, none⟩), .int .i64 C, .int .i64 x.l] (by simp [go_sem, evalBy, psCv]) ?_
                      exact H2.out w' hS.keep
                    · refine quietN hS 71 rfl (by decide) (by decide) rfl ?_
                      simp [go_sem, evalBy, psCv]
                    · refine quietN hS 87 rfl (by decide) (by decide) rfl ?_
                      simp [go_sem, evalBy, psCv]
                    · refine quietN hS 88 rfl (by decide) (by decide) rfl ?_
                      simp [go_sem, evalBy, psCv]
                    · refine allocN hS 9 rfl hu (by decide) rfl (fun _ => rfl) ?_ (by simp [go_sem])
                      intro g' t' ht'
                      unfold psCv
                      split <;> first | rfl | exact absurd rfl ht'
                    · refine storeN hS rfl (hdep ⟨18, .data⟩ (by simp) rfl) hu rfl ?_
                      intro hf d0 d1 d2
                      have f0 := hf 0; have f1 := hf 1; have f2 := hf 2
                      clear hf
                      simp at d0 d1 d2
                      simp [go_sem, evalBy, psCv, f0, f1, f2, d0, d1, d2]
                    · refine quietN hS 10 rfl (by decide) (by decide) rfl ?_
                      simp [go_sem, evalBy, psCv]
                  · intro g wE hS
                    obtain ⟨hge, hbx⟩ := hS.box (by decide)
                    rw [if_pos (by decide)] at hbx
                    obtain ⟨e0, e1, e2⟩ := box3_cells hbx
                    have HBE := Lib.hid (HBC0.out.trans (hS.keep.mono HBC0.out.size))
                    obtain ⟨_, ⟨_, _, q2⟩, _⟩ := FC.out wE hS.keep
                    clear hS hbx
                    simp [putAll, Act.put, psCv]
                    obtain ⟨F, hF⟩ : ∃ z, inB R.1.lo x.s R.1.hi = z := ⟨_, rfl⟩
                    have hcall := fun u => inS_any x.s R.1.lo R.1.hi u
                    rw [hF] at HTB
                    simp only [hF] at hcall
                    have HCL := Lib.hid hcall
                    clear hcall hF FC H1 H2
                    go_wp2_with fail
                    refine (HCL.out _).mono ?_
                    rintro e w5 ⟨rfl, hb⟩
                    have HB5 := Lib.hid (HBB.out.trans ((HBE.out.trans (hb.mono HBE.out.size)).mono HBB.out.size))
                    clear hb e0 e1 e2 q2 HCL
                    cases F with
                    | false =>
                      have HF : Hid (possB X L = false) := Lib.hid (HNO.out (by rw [HTB.out]; rfl))
                      go_wp2_with fail
                      go_ret
                      exact ⟨by rw [HF.out]; rfl, HB5.out⟩
                    | true =>
                      go_wp2_with fail
                      go_roundw
                      case rel =>
                        refine ⟨j + 1, by omega, by go_num, fun i hi => ?_, HB5.out⟩
                        by_cases hij : i < j
                        · exact HALJ.out i hij
                        · have : i = j := by omega
                          subst this
                          rw [HGJ.out, HTB.out]
                          rfl
                      case measure => simp [intOf]; omega
            · have hje : j = X.np := by omega
              have hj1 : ¬ (j : Int) < (X.np : Int) := by omega
              subst hje
              have HTR : Hid (truRowB X k (L.getD k []) = true) := Lib.hid (by
                unfold truRowB
                rw [HGD.out, rng_yes HALJ.out, decide_eq_true HNR.out.symm]
                rfl)
              go_wp2_with fail
              go_roundw
              case rel =>
                refine ⟨k + 1, by omega, by go_num, fun i hi => ?_, HBR.out⟩
                by_cases hij : i < k
                · exact HALL.out i hij
                · have : i = k := by omega
                  subst this
                  exact HTR.out
              case measure => simp [intOf]; omega
        · have HF : Hid (possB X L = false) := Lib.hid (by
            unfold possB
            rw [rng_no hkt, Bool.and_false]
            unfold truRowB
            rw [HGD.out, decide_eq_false (by rw [← HNR.out]; exact hnn)]
            rfl)
          have hni : ((nr : Int) == (X.np : Int)) = false := beq_eq_false_iff_ne.2 (by omega)
          have hni2 : ¬ (nr : Int) = (X.np : Int) := by omega
          go_wp2_with fail
          go_ret
          exact ⟨by rw [HF.out]; rfl, HBR.out⟩
      · have hke : k = X.n := by omega
        have hk1 : ¬ (k : Int) < (X.n : Int) := by omega
        subst hke
        have HF : Hid (possB X L = true) := Lib.hid (by
          unfold possB
          rw [rng_yes HALL.out, decide_eq_true HL.out]
          rfl)
        go_wp2_with fail
        go_ret
        exact ⟨by rw [HF.out]; rfl, HBR.out⟩
  · have HF : Hid (possB X L = false) := Lib.hid (by
      unfold possB
      rw [decide_eq_false (by rw [HL.out]; exact hmn)]
      rfl)
    have hni : ((m : Int) == (X.n : Int)) = false := beq_eq_false_iff_ne.2 (by omega)
    have hni2 : ¬ (m : Int) = (X.n : Int) := by omega
    go_enter Tryz.func79, Tryz.ntmps79
    go_wp2_with fail
    go_ret
    exact ⟨by rw [HF.out]; rfl, Below.refl _ _⟩
end Go.Proofs.YtdlaphlpimlgdaaGreatDoor
