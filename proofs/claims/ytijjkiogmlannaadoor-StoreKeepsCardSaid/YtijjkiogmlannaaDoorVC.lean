/- Stores: a ship is unloaded, by the code. -/
import Derived.Test.YtijjkiogmlannaaDoorVB
namespace Go.Proofs.YtijjkiogmlannaaDoor
open Go.RowKit

variable {C : RC} {st : Gd} {ld : List Gd} {W : List Nat} {ss ls : List Gd} {qv sv lv : Value} {w : World}
/-- What is left of the rate, behind some kinds. -/
def lefN (U : Gd) (L : Int) : Nat → Int
  | 0 => L
  | k + 1 => lefN U L k - U.at k
theorem ulG_at (x y : Gd) (L : Int) {k : Nat} (hk : k < 3) : (ulG x y L).at k = min ((minG x y).at k) (lefN (ulG x y L) L k) := by
  match k, hk with
  | 0, _ => rfl
  | 1, _ => rfl
  | 2, _ => rfl
theorem lefN_in {x y : Gd} {L : Int} (hx : 0 ≤ x.a ∧ 0 ≤ x.b ∧ 0 ≤ x.c) (hy : 0 ≤ y.a ∧ 0 ≤ y.b ∧ 0 ≤ y.c) (hL : 0 ≤ L) {k : Nat} (hk : k < 4) : 0 ≤ lefN (ulG x y L) L k ∧ lefN (ulG x y L) L k ≤ L := by
  obtain ⟨h1, h2, h3, h4, h5⟩ := ulG_in hx hy hL
  unfold unI at h4 h5
  match k, hk with
  | 0, _ => exact ⟨hL, Int.le_refl _⟩
  | 1, _ => show 0 ≤ L - (ulG x y L).a ∧ L - (ulG x y L).a ≤ L; omega
  | 2, _ => show 0 ≤ L - (ulG x y L).a - (ulG x y L).b ∧ L - (ulG x y L).a - (ulG x y L).b ≤ L; omega
  | 3, _ => show 0 ≤ L - (ulG x y L).a - (ulG x y L).b - (ulG x y L).c ∧ L - (ulG x y L).a - (ulG x y L).b - (ulG x y L).c ≤ L; omega
def unCv (R j : Nat) (A Y S V M : Gd) : Tmp → Value
  | 0 => .pointer (some ⟨R, 0, none⟩)
  | 1 => .int .i64 (j : Int)
  | 10 => .pointer (some ⟨R, 0, none⟩)
  | 11 => .int .i64 (j : Int)
  | 12 => gV A
  | 13 => .pointer (some ⟨R, 0, none⟩)
  | 14 => .pointer (some ⟨R, 0, none⟩)
  | 15 => .pointer (some ⟨R, 0, none⟩)
  | 16 => .pointer (some ⟨R, 3, none⟩)
  | 17 => gV Y
  | 18 => .pointer (some ⟨R, 0, none⟩)
  | 19 => .pointer (some ⟨R, 0, none⟩)
  | 20 => .pointer (some ⟨R, 0, none⟩)
  | 21 => .pointer (some ⟨R, 0, none⟩)
  | 22 => gV S
  | 23 => gV V
  | 24 => gV M
  | _ => undef
def usCv (R : Nat) (B : Nat) (S U N : Gd) : Tmp → Value
  | 0 => .pointer (some ⟨R, 0, none⟩)
  | 7 => .pointer (some ⟨B, 0, none⟩)
  | 42 => .pointer (some ⟨R, 0, none⟩)
  | 43 => .pointer (some ⟨R, 0, none⟩)
  | 44 => .pointer (some ⟨R, 0, none⟩)
  | 45 => .pointer (some ⟨R, 0, none⟩)
  | 46 => .pointer (some ⟨R, 0, none⟩)
  | 47 => gV S
  | 48 => gV U
  | 50 => gV N
  | 51 => .pointer (some ⟨R, 0, none⟩)
  | 52 => .pointer (some ⟨R, 0, none⟩)
  | 53 => .pointer (some ⟨R, 0, none⟩)
  | _ => undef
def ulCv (R D : Nat) (B j n : Nat) (G U N : Gd) : Tmp → Value
  | 0 => .pointer (some ⟨R, 0, none⟩)
  | 1 => .int .i64 (j : Int)
  | 7 => .pointer (some ⟨B, 0, none⟩)
  | 54 => .pointer (some ⟨R, 0, none⟩)
  | 55 => .pointer (some ⟨R, 0, none⟩)
  | 56 => .pointer (some ⟨R, 16, none⟩)
  | 57 => .pointer (some ⟨R, 16, none⟩)
  | 58 => .slice (some ⟨D, 0, none⟩) n n
  | 59 => .int .i64 (j : Int)
  | 60 => .pointer (some ⟨R, 0, none⟩)
  | 61 => .pointer (some ⟨R, 0, none⟩)
  | 62 => .pointer (some ⟨R, 16, none⟩)
  | 63 => .pointer (some ⟨R, 16, none⟩)
  | 64 => .slice (some ⟨D, 0, none⟩) n n
  | 65 => .int .i64 (j : Int)
  | 66 => .pointer (some ⟨D, j * 3, none⟩)
  | 67 => gV G
  | 68 => gV U
  | 70 => gV N
  | 71 => .pointer (some ⟨D, j * 3, none⟩)
  | _ => undef
theorem two_sum (g h : Gd) (hg : amtB 1000 g = true) (hh : amtB 1000 h = true) (u : World) (b : Nat) (z : u.heap[b]? = some (.cells #[.int .i64 g.a, .int .i64 g.b, .int .i64 g.c, .int .i64 h.a, .int .i64 h.b, .int .i64 h.c] 23 (0, 0))) :
    Calls Tryd.prog 77 #[.slice (some ⟨b, 0, none⟩) 2 2] u fun e w' => e = .returned (gV (addG g h)) ∧ Below u.heap.size u w' := by
  have := sum_any (some ⟨b, 0, none⟩) 2 2 [g, h] u rfl (by decide) (fun x hx => by
    rcases List.mem_cons.1 hx with rfl | hx
    · exact hg
    · rw [List.mem_singleton.1 hx]
      exact hh) (rowAt_block (T := 23) gR_len z (heapsz z))
  have e : sumL [g, h] = addG g h := by
    unfold sumL
    show addG (addG z3 g) h = _
    refine Gd.eq ?_ ?_ ?_ <;> simp [addG, z3]
  rw [e] at this
  exact this
section
attribute [local irreducible] QT
set_option maxRecDepth 100000 in
set_option maxHeartbeats 16000000 in
theorem unload_any (K : C.Ok) (h : RunAt C st ld W ss ls qv sv lv w) {L : Int} (hL : LdOk C.X.S.yd C.X.S.cg C.X.ns ⟨st, ld, L⟩) (hL3 : L ≤ 3000) {j : Nat} (hj : j < C.X.ns) :
    Calls Tryd.prog 85 #[.pointer (some ⟨C.R, 0, none⟩), .int .i64 (j : Int), .int .i64 L] w fun e w' => e = .returned (.int .i64 (unI (ulG (subG (C.X.S.cg j) (ld.getD j z3)) (subG C.X.S.yd st) L))) ∧
      RunAt C (ldS C.X.S.yd C.X.S.cg ⟨st, ld, L⟩ j).st (ldS C.X.S.yd C.X.S.cg ⟨st, ld, L⟩ j).ld W ss ls qv sv lv w' := by
  obtain ⟨g0, hg⟩ := get_of_lt (l := ld) (k := j) (by rw [h.ldl]; exact hj)
  have e2 : ld.getD j z3 = g0 := by rw [List.getD_eq_getElem?_getD, hg]; rfl
  have hb := hL.ld0 j hj
  have hs0 := hL.st0; have hsy := hL.sty; have hl0 := hL.lf0
  have hcg := amtB_iff.1 (K.K.cgB (j := j) (by rw [K.X.hs]; exact hj))
  have hyd := amtB_iff.1 K.K.yd
  unfold lnd at hb
  simp only at hb hs0 hsy hl0
  rw [e2] at hb
  have hS : (ldS C.X.S.yd C.X.S.cg ⟨st, ld, L⟩ j).st = addG st (ulG (subG (C.X.S.cg j) g0) (subG C.X.S.yd st) L) ∧ (ldS C.X.S.yd C.X.S.cg ⟨st, ld, L⟩ j).ld = ld.set j (addG g0 (ulG (subG (C.X.S.cg j) g0) (subG C.X.S.yd st) L)) := by
    unfold ldS lnd
    simp only
    rw [e2]
    exact ⟨rfl, rfl⟩
  rw [hS.1, hS.2, e2]
  have hab := fun u (hu : RunAt C st ld W ss ls qv sv lv u) => aboard_any K hu hL hj
  rw [e2] at hab
  have hx0 : 0 ≤ (subG (C.X.S.cg j) g0).a ∧ 0 ≤ (subG (C.X.S.cg j) g0).b ∧ 0 ≤ (subG (C.X.S.cg j) g0).c := by unfold subG; simp only; omega
  have hy0 : 0 ≤ (subG C.X.S.yd st).a ∧ 0 ≤ (subG C.X.S.yd st).b ∧ 0 ≤ (subG C.X.S.yd st).c := by unfold subG; simp only; omega
  have HLF : Hid (∀ k, k < 4 → 0 ≤ lefN (ulG (subG (C.X.S.cg j) g0) (subG C.X.S.yd st) L) L k ∧ lefN (ulG (subG (C.X.S.cg j) g0) (subG C.X.S.yd st) L) L k ≤ L) := Lib.hid fun k hk => lefN_in hx0 hy0 hl0 hk
  have HUA : Hid (∀ k, k < 3 → (ulG (subG (C.X.S.cg j) g0) (subG C.X.S.yd st) L).at k = min ((minG (subG (C.X.S.cg j) g0) (subG C.X.S.yd st)).at k) (lefN (ulG (subG (C.X.S.cg j) g0) (subG C.X.S.yd st) L) L k)) := Lib.hid fun k hk => ulG_at _ _ _ hk
  have hui := ulG_in hx0 hy0 hl0
  have KY : Hid (∀ u, Calls Tryd.prog 78 #[gV C.X.S.yd, gV st] u fun e w' => e = .returned (gV (subG C.X.S.yd st)) ∧ Below u.heap.size u w') := Lib.hid fun u => less_any _ _ u fun k hk => by
    match k, hk with
    | 0, _ => show _ ≤ C.X.S.yd.a - st.a ∧ C.X.S.yd.a - st.a ≤ _; omega
    | 1, _ => show _ ≤ C.X.S.yd.b - st.b ∧ C.X.S.yd.b - st.b ≤ _; omega
    | 2, _ => show _ ≤ C.X.S.yd.c - st.c ∧ C.X.S.yd.c - st.c ≤ _; omega
  have hxx : (subG (C.X.S.cg j) g0).a ≤ 1000 ∧ (subG (C.X.S.cg j) g0).b ≤ 1000 ∧ (subG (C.X.S.cg j) g0).c ≤ 1000 := by unfold subG; simp only; omega
  obtain ⟨A, hA⟩ : ∃ z, subG (C.X.S.cg j) g0 = z := ⟨_, rfl⟩
  obtain ⟨V, hV⟩ : ∃ z, subG C.X.S.yd st = z := ⟨_, rfl⟩
  rw [hA] at hab HLF HUA hui hxx ⊢
  rw [hV] at KY HLF HUA hui ⊢
  have KM : Hid (∀ u, Calls Tryd.prog 79 #[gV A, gV V] u fun e w' => e = .returned (gV (minG A V)) ∧ Below u.heap.size u w') := Lib.hid fun u => least_any _ _ u
  obtain ⟨U, hU⟩ : ∃ z, ulG A V L = z := ⟨_, rfl⟩
  obtain ⟨M, hM⟩ : ∃ z, minG A V = z := ⟨_, rfl⟩
  rw [hU] at HLF HUA hui ⊢
  rw [hM] at KM HUA
  have hst3 : amtB 1000 st = true := by rw [amtB_iff]; omega
  have hg03 : amtB 1000 g0 = true := by rw [amtB_iff]; omega
  have hu3 : amtB 1000 U = true := by rw [amtB_iff]; omega
  have HU3 := Lib.hid hu3
  have KS1 : Hid (∀ u b, u.heap[b]? = some (.cells #[.int .i64 st.a, .int .i64 st.b, .int .i64 st.c, .int .i64 U.a, .int .i64 U.b, .int .i64 U.c] 23 (0, 0)) → Calls Tryd.prog 77 #[.slice (some ⟨b, 0, none⟩) 2 2] u fun e w' => e = .returned (gV (addG st U)) ∧ Below u.heap.size u w') := Lib.hid fun u b z => two_sum st U hst3 hu3 u b z
  have KS2 : Hid (∀ u b, u.heap[b]? = some (.cells #[.int .i64 g0.a, .int .i64 g0.b, .int .i64 g0.c, .int .i64 U.a, .int .i64 U.b, .int .i64 U.c] 23 (0, 0)) → Calls Tryd.prog 77 #[.slice (some ⟨b, 0, none⟩) 2 2] u fun e w' => e = .returned (gV (addG g0 U)) ∧ Below u.heap.size u w') := Lib.hid fun u b z => two_sum g0 U hg03 hu3 u b z
  obtain ⟨N, hN⟩ : ∃ z, addG st U = z := ⟨_, rfl⟩
  obtain ⟨N2, hN2⟩ : ∃ z, addG g0 U = z := ⟨_, rfl⟩
  rw [hN] at KS1 ⊢
  rw [hN2] at KS2 ⊢
  have HK := Lib.hid K; have H0 := Lib.hid h; have HAB := Lib.hid hab; have HG0 := Lib.hid hg
  have hlo : L ≤ 3000 ∧ 0 ≤ L := ⟨hL3, hl0⟩
  clear hg e2 hb hs0 hsy hl0 hcg hyd hS hab hx0 hy0 hui hxx hA hV hU hM hst3 hg03 hu3 h K hL hL3 hN hN2
  have j0 : (0 : Int) ≤ (j : Int) := by omega
  have j1 : (j : Int) < (C.X.ns : Int) := by omega
  go_enter Tryd.func85, Tryd.ntmps85
  go_wp2_with fail
  apply tail_region
  case hs => exact (rfl : _ = [_, _, _, _, _, _, _, _, _, _, _, _, _, _, _, _] ++ [_])
  case hm => kernel_rfl
  case hT => kernel_rfl
  refine rel_any [0, 1] [(7, 15)] (unCv C.R j A C.X.S.yd st V M) (mkF 15 w.heap.size (fun g => .pointer (some ⟨g, 0, none⟩)) 23 #[.int .i64 0, .int .i64 0, .int .i64 0]) (by kernel_rfl) (by kernel_rfl) (by kernel_rfl) (by kernel_rfl) (by kernel_rfl) ?_ (mkF_keep _ _ _ _ _) ?_ ?_
  · intro t ht
    simp only [List.mem_cons, List.not_mem_nil, or_false] at ht
    rcases ht with rfl | rfl <;> rfl
  · refine allOps_array ?_
    have hp : ∀ u : KeptW w, _ := fun u => run_cells (H0.out.below u.h)
    refine ⟨?_, ?_, ?_, ?_, ?_, ?_, ?_, ?_, ?_, ?_, ?_, ?_, ?_, ?_, ?_, ?_, trivial⟩ <;> intro g u hd_ <;> obtain ⟨⟨s0, s1, s2⟩, ⟨y0, y1, y2⟩, _⟩ := hp u
    · refine ⟨rfl, relQ 10 rfl (mkF_other (by decide)) ?_⟩
      simp [go_sem, evalBy, rhoT, relOf, unCv]
    · refine ⟨rfl, relQ 11 rfl (mkF_other (by decide)) ?_⟩
      simp [go_sem, evalBy, rhoT, relOf, unCv]
    · refine ⟨rfl, relK 12 rfl (fun _ => mkF_other (by decide)) 86 #[.pointer (some ⟨C.R, 0, none⟩), .int .i64 (j : Int)] (by simp [go_sem, evalBy, rhoT, relOf, unCv]) ?_⟩
      exact HAB.out u.w (H0.out.below u.h)
    · refine ⟨rfl, relQ 13 rfl (mkF_other (by decide)) ?_⟩
      simp [go_sem, evalBy, rhoT, relOf, unCv]
    · refine ⟨rfl, relQ 14 rfl (mkF_other (by decide)) ?_⟩
      simp [go_sem, evalBy, rhoT, relOf, unCv]
    · refine ⟨rfl, relQ 15 rfl (mkF_other (by decide)) ?_⟩
      simp [go_sem, evalBy, rhoT, relOf, unCv]
    · refine ⟨rfl, relQ 16 rfl (mkF_other (by decide)) ?_⟩
      simp [go_sem, evalBy, rhoT, relOf, unCv]
    · refine ⟨rfl, relQ 17 rfl (mkF_other (by decide)) ?_⟩
      simp [go_sem, evalBy, rhoT, relOf, unCv, y0, y1, y2]
    · refine ⟨rfl, relQ 18 rfl (mkF_other (by decide)) ?_⟩
      simp [go_sem, evalBy, rhoT, relOf, unCv]
    · refine ⟨rfl, relQ 19 rfl (mkF_other (by decide)) ?_⟩
      simp [go_sem, evalBy, rhoT, relOf, unCv]
    · refine ⟨rfl, relQ 20 rfl (mkF_other (by decide)) ?_⟩
      simp [go_sem, evalBy, rhoT, relOf, unCv]
    · refine ⟨rfl, relQ 21 rfl (mkF_other (by decide)) ?_⟩
      simp [go_sem, evalBy, rhoT, relOf, unCv]
    · refine ⟨rfl, relQ 22 rfl (mkF_other (by decide)) ?_⟩
      simp [go_sem, evalBy, rhoT, relOf, unCv, s0, s1, s2]
    · refine ⟨rfl, relK 23 rfl (fun _ => mkF_other (by decide)) 78 #[gV C.X.S.yd, gV st] (by simp [go_sem, evalBy, rhoT, relOf, unCv]) ?_⟩
      exact KY.out u.w
    · refine ⟨rfl, relK 24 rfl (fun _ => mkF_other (by decide)) 79 #[gV A, gV V] (by simp [go_sem, evalBy, rhoT, relOf, unCv]) ?_⟩
      exact KM.out u.w
    · refine ⟨rfl, relA (.pointer (some ⟨u.w.heap.size, 0, none⟩)) (.cells #[.int .i64 0, .int .i64 0, .int .i64 0] 23) (fun d hd => by injection hd with hd; subst hd; simp [relOf]) (by simp [go_sem]) (mkF_new (f := fun g => .pointer (some ⟨g, 0, none⟩)) u.h.size)⟩
  · intro g u hf
    obtain ⟨B, e7, b7, z7⟩ := hf 15 (by decide) rfl
    have HB0 := Lib.hid u.h
    obtain ⟨w1, hwo⟩ : ∃ x, u.w = x := ⟨_, rfl⟩
    rw [hwo] at z7 HB0 ⊢
    have x0 := cell_of_row w1 B 0 _ 23 (0, 0) z7; have x1 := cell_of_row w1 B 1 _ 23 (0, 0) z7; have x2 := cell_of_row w1 B 2 _ 23 (0, 0) z7
    have f0 := g_frz (g := z3) (k := 0) z7; have f1 := g_frz (g := z3) (k := 1) z7; have f2 := g_frz (g := z3) (k := 2) z7
    simp at x0 x1 x2
    have Z1 := Lib.hid (g_fill (g := z3) M z7); have HB1 := Lib.hid (bel_fill (b := B) (x := .int .i64 M.a) (y := .int .i64 M.b) (z := .int .i64 M.c) HB0.out b7)
    simp only [QT]
    unfold Oper.wp
    simp [go_sem, putAll, Act.put, rhoT, relOf, unCv, e7, x0, x1, x2, f0, f1, f2]
    clear x0 x1 x2 f0 f1 f2 z7 hf hwo e7
    generalize ((w1.setCell ⟨B, 0, none⟩ (.int .i64 M.a)).setCell ⟨B, 1, none⟩ (.int .i64 M.b)).setCell ⟨B, 2, none⟩ (.int .i64 M.c) = w2 at Z1 HB1 ⊢
    clear HB0
    go_wp2_with fail
    go_loopw [8, 26] (fun v i wr => ∃ (k : Nat) (T : Int), k ≤ 3 ∧ i = .int .i64 k ∧ v = .int .i64 T ∧ T = lefN U L k ∧ Below w.heap.size w wr ∧ wr.heap[B]? = some (.cells (gC (mixG k U M)) 23 (0, 0))) (fun _ i _ => 3 - (intOf i).toNat)
    case atStart => exact ⟨0, L, Nat.zero_le _, rfl, rfl, rfl, HB1.out, Z1.out⟩
    case round =>
      obtain ⟨k, T, hk, rfl, rfl, hT, hbr, y0⟩ := hrel
      have HBR := Lib.hid hbr; have Y0 := Lib.hid y0
      by_cases hlt : k < 3
      · have c0 := g_at y0 hlt
        have f0 := g_frz (k := k) y0
        rw [mixG_at hlt] at c0
        have k0 : (0 : Int) ≤ (k : Int) := by omega
        have k1 : (k : Int) < 3 := by omega
        have hUk := HUA.out k hlt
        have hl1 := HLF.out (k + 1) (by omega)
        have hl0 := HLF.out k (by omega)
        have hnx : lefN U L (k + 1) = T - U.at k := by rw [hT]; rfl
        rw [← hT] at hUk hl0
        rw [hnx] at hl1
        have HNX := Lib.hid hnx
        have hPUT := g_put (w := wr) y0 hlt (U.at k)
        rw [mixG_put hlt] at hPUT
        have hcs := World.cell?_setCell_same wr ⟨B, k, none⟩ (.int .i64 (U.at k)) c0
        obtain ⟨N, hN⟩ : ∃ z, U.at k = z := ⟨_, rfl⟩
        obtain ⟨G, hG⟩ : ∃ z, M.at k = z := ⟨_, rfl⟩
        rw [hN] at hUk hPUT hl1 HNX hcs
        rw [hG] at hUk c0
        have HW : Hid (wrap64 (T - N) = T - N) := Lib.hid (w64 (by omega))
        have HPT := Lib.hid hPUT
        have hBS := hbr.setCell (p := ⟨B, k, none⟩) b7 (.int .i64 N)
        have HBS := Lib.hid hBS
        by_cases hcmp : T < G
        · have hNT : N = T := by omega
          subst hNT
          clear hbr y0 hPUT hT hnx hUk hl1 hl0 hN hG hBS
          go_wp2_with fail
          exact ⟨⟨k + 1, _, by omega, by go_num, rfl, by rw [HNX.out]; omega, HBS.out, HPT.out⟩, by simp [intOf]; omega⟩
        · have hNT : N = G := by omega
          subst hNT
          clear hbr y0 hPUT hT hnx hUk hl1 hl0 hN hG hBS
          go_wp2_with fail
          exact ⟨⟨k + 1, _, by omega, by go_num, rfl, by rw [HW.out, HNX.out], HBS.out, HPT.out⟩, by simp [intOf]; omega⟩
      · have hke : k = 3 := by omega
        subst hke
        rw [mixG_3] at Y0
        have HR := Lib.hid (H0.out.below hbr)
        have H0B := Lib.hid H0.out.box; have H0D := Lib.hid H0.out.lnd
        clear hbr y0 hT H0
        go_wp2_with fail
        have hB0 : B < wr.heap.size := heapsz Y0.out
        apply tail_regionX
        case hs => exact (rfl : _ = [_, _, _, _, _, _, _, _, _, _, _, _] ++ [_])
        case hm => kernel_rfl
        case hT => kernel_rfl
        refine rel_any [0, 7] [(49, 7)] (usCv C.R B st U N) (mkF 7 wr.heap.size (fun g => .slice (some ⟨g, 0, none⟩) 2 2) 23 #[.int .i64 st.a, .int .i64 st.b, .int .i64 st.c, .int .i64 U.a, .int .i64 U.b, .int .i64 U.c]) (by kernel_rfl) (by kernel_rfl) (by kernel_rfl) (by kernel_rfl) (by kernel_rfl) ?_ (mkF_keep _ _ _ _ _) ?_ ?_
        · intro t ht
          simp only [List.mem_cons, List.not_mem_nil, or_false] at ht
          rcases ht with rfl | rfl <;> rfl
        · refine allOps_array ?_
          have hp : ∀ u : KeptW wr, _ := fun u => run_cells (HR.out.below u.h)
          have hq : ∀ u : KeptW wr, _ := fun u => g_cells ((u.h.block _ hB0).trans Y0.out)
          refine ⟨?_, ?_, ?_, ?_, ?_, ?_, ?_, ?_, ?_, ?_, ?_, ?_, trivial⟩ <;> intro g u hd_ <;> obtain ⟨⟨s0, s1, s2⟩, _⟩ := hp u <;> obtain ⟨x0, x1, x2⟩ := hq u
          · refine ⟨rfl, relQ 42 rfl (mkF_other (by decide)) ?_⟩
            simp [go_sem, evalBy, rhoT, relOf, usCv]
          · refine ⟨rfl, relQ 43 rfl (mkF_other (by decide)) ?_⟩
            simp [go_sem, evalBy, rhoT, relOf, usCv]
          · refine ⟨rfl, relQ 44 rfl (mkF_other (by decide)) ?_⟩
            simp [go_sem, evalBy, rhoT, relOf, usCv]
          · refine ⟨rfl, relQ 45 rfl (mkF_other (by decide)) ?_⟩
            simp [go_sem, evalBy, rhoT, relOf, usCv]
          · refine ⟨rfl, relQ 46 rfl (mkF_other (by decide)) ?_⟩
            simp [go_sem, evalBy, rhoT, relOf, usCv]
          · refine ⟨rfl, relQ 47 rfl (mkF_other (by decide)) ?_⟩
            simp [go_sem, evalBy, rhoT, relOf, usCv, s0, s1, s2]
          · refine ⟨rfl, relQ 48 rfl (mkF_other (by decide)) ?_⟩
            simp [go_sem, evalBy, rhoT, relOf, usCv, x0, x1, x2]
          · refine ⟨rfl, relA (.slice (some ⟨u.w.heap.size, 0, none⟩) 2 2) (.cells #[.int .i64 st.a, .int .i64 st.b, .int .i64 st.c, .int .i64 U.a, .int .i64 U.b, .int .i64 U.c] 23) (fun d hd => by injection hd with hd; subst hd; simp [relOf]) (by simp [go_sem, evalBy, rhoT, relOf, usCv]) (mkF_new (f := fun g => .slice (some ⟨g, 0, none⟩) 2 2) u.h.size)⟩
          · obtain ⟨B9, e9, b9, z9⟩ := hd_ ⟨7, .data⟩ (by simp) rfl rfl
            refine ⟨rfl, relK 50 rfl (fun _ => mkF_other (by decide)) 77 #[.slice (some ⟨B9, 0, none⟩) 2 2] (by simp [go_sem, evalBy, rhoT, relOf, e9]) ?_⟩
            exact KS1.out u.w B9 z9
          · refine ⟨rfl, relQ 51 rfl (mkF_other (by decide)) ?_⟩
            simp [go_sem, evalBy, rhoT, relOf, usCv]
          · refine ⟨rfl, relQ 52 rfl (mkF_other (by decide)) ?_⟩
            simp [go_sem, evalBy, rhoT, relOf, usCv]
          · refine ⟨rfl, relQ 53 rfl (mkF_other (by decide)) ?_⟩
            simp [go_sem, evalBy, rhoT, relOf, usCv]
        · intro g u hf
          have hR0 := HR.out.below u.h
          obtain ⟨⟨s0, s1, s2⟩, _⟩ := run_cells hR0
          have f0 := run_frz hR0 0; have f1 := run_frz hR0 1; have f2 := run_frz hR0 2
          have hR1 := hR0.stock HK.out N
          have hne : B ≠ C.R := by have := heapsz H0B.out; omega
          have hY1 := ((set3_only u.w C.R 0 (.int .i64 N.a) (.int .i64 N.b) (.int .i64 N.c)).2 B hne).trans ((u.h.block _ hB0).trans Y0.out)
          obtain ⟨w3, hw3⟩ : ∃ x, u.w = x := ⟨_, rfl⟩
          rw [hw3] at s0 s1 s2 f0 f1 f2 hR1 hY1 ⊢
          have HR1 := Lib.hid hR1; have Y1 := Lib.hid hY1
          clear hR0 hR1 hY1 hw3 hf
          simp only [QT]
          unfold Oper.wp
          simp [go_sem, putAll, Act.put, rhoT, relOf, usCv, s0, s1, s2, f0, f1, f2]
          clear s0 s1 s2 f0 f1 f2
          simp only [Nat.zero_add] at Y1
          generalize ((w3.setCell ⟨C.R, 0, none⟩ (.int .i64 N.a)).setCell ⟨C.R, 1, none⟩ (.int .i64 N.b)).setCell ⟨C.R, 2, none⟩ (.int .i64 N.c) = w4 at HR1 Y1 ⊢
          clear Y0 HR hB0
          go_wp2_with fail
          have hB0 : B < w4.heap.size := heapsz Y1.out
          apply tail_regionX
          case hs => exact (rfl : _ = [_, _, _, _, _, _, _, _, _, _, _, _, _, _, _, _, _, _] ++ [_])
          case hm => kernel_rfl
          case hT => kernel_rfl
          refine rel_any [0, 1, 7] [(69, 15)] (ulCv C.R C.D B j C.X.ns g0 U N2) (mkF 15 w4.heap.size (fun g => .slice (some ⟨g, 0, none⟩) 2 2) 23 #[.int .i64 g0.a, .int .i64 g0.b, .int .i64 g0.c, .int .i64 U.a, .int .i64 U.b, .int .i64 U.c]) (by kernel_rfl) (by kernel_rfl) (by kernel_rfl) (by kernel_rfl) (by kernel_rfl) ?_ (mkF_keep _ _ _ _ _) ?_ ?_
          · intro t ht
            simp only [List.mem_cons, List.not_mem_nil, or_false] at ht
            rcases ht with rfl | rfl | rfl <;> rfl
          · refine allOps_array ?_
            have hp : ∀ u : KeptW w4, _ := fun u => run_cells (HR1.out.below u.h)
            have hl : ∀ u : KeptW w4, _ := fun u => lnd_cells (HR1.out.below u.h) HG0.out
            have hq : ∀ u : KeptW w4, _ := fun u => g_cells ((u.h.block _ hB0).trans Y1.out)
            refine ⟨?_, ?_, ?_, ?_, ?_, ?_, ?_, ?_, ?_, ?_, ?_, ?_, ?_, ?_, ?_, ?_, ?_, ?_, trivial⟩ <;> intro g u hd_ <;> obtain ⟨_, _, _, _, _, _, _, _, r16, _⟩ := hp u <;> obtain ⟨d0, d1, d2⟩ := hl u <;> obtain ⟨x0, x1, x2⟩ := hq u
            · refine ⟨rfl, relQ 54 rfl (mkF_other (by decide)) ?_⟩
              simp [go_sem, evalBy, rhoT, relOf, ulCv]
            · refine ⟨rfl, relQ 55 rfl (mkF_other (by decide)) ?_⟩
              simp [go_sem, evalBy, rhoT, relOf, ulCv]
            · refine ⟨rfl, relQ 56 rfl (mkF_other (by decide)) ?_⟩
              simp [go_sem, evalBy, rhoT, relOf, ulCv]
            · refine ⟨rfl, relQ 57 rfl (mkF_other (by decide)) ?_⟩
              simp [go_sem, evalBy, rhoT, relOf, ulCv]
            · refine ⟨rfl, relQ 58 rfl (mkF_other (by decide)) ?_⟩
              simp [go_sem, evalBy, rhoT, relOf, ulCv, r16]
            · refine ⟨rfl, relQ 59 rfl (mkF_other (by decide)) ?_⟩
              simp [go_sem, evalBy, rhoT, relOf, ulCv]
            · refine ⟨rfl, relQ 60 rfl (mkF_other (by decide)) ?_⟩
              simp [go_sem, evalBy, rhoT, relOf, ulCv]
            · refine ⟨rfl, relQ 61 rfl (mkF_other (by decide)) ?_⟩
              simp [go_sem, evalBy, rhoT, relOf, ulCv]
            · refine ⟨rfl, relQ 62 rfl (mkF_other (by decide)) ?_⟩
              simp [go_sem, evalBy, rhoT, relOf, ulCv]
            · refine ⟨rfl, relQ 63 rfl (mkF_other (by decide)) ?_⟩
              simp [go_sem, evalBy, rhoT, relOf, ulCv]
            · refine ⟨rfl, relQ 64 rfl (mkF_other (by decide)) ?_⟩
              simp [go_sem, evalBy, rhoT, relOf, ulCv, r16]
            · refine ⟨rfl, relQ 65 rfl (mkF_other (by decide)) ?_⟩
              simp [go_sem, evalBy, rhoT, relOf, ulCv]
            · refine ⟨rfl, relQ 66 rfl (mkF_other (by decide)) ?_⟩
              simp [go_sem, evalBy, rhoT, relOf, ulCv, j0, j1]
            · refine ⟨rfl, relQ 67 rfl (mkF_other (by decide)) ?_⟩
              simp [go_sem, evalBy, rhoT, relOf, ulCv, d0, d1, d2]
            · refine ⟨rfl, relQ 68 rfl (mkF_other (by decide)) ?_⟩
              simp [go_sem, evalBy, rhoT, relOf, ulCv, x0, x1, x2]
            · refine ⟨rfl, relA (.slice (some ⟨u.w.heap.size, 0, none⟩) 2 2) (.cells #[.int .i64 g0.a, .int .i64 g0.b, .int .i64 g0.c, .int .i64 U.a, .int .i64 U.b, .int .i64 U.c] 23) (fun d hd => by injection hd with hd; subst hd; simp [relOf]) (by simp [go_sem, evalBy, rhoT, relOf, ulCv]) (mkF_new (f := fun g => .slice (some ⟨g, 0, none⟩) 2 2) u.h.size)⟩
            · obtain ⟨B9, e9, b9, z9⟩ := hd_ ⟨15, .data⟩ (by simp) rfl rfl
              refine ⟨rfl, relK 70 rfl (fun _ => mkF_other (by decide)) 77 #[.slice (some ⟨B9, 0, none⟩) 2 2] (by simp [go_sem, evalBy, rhoT, relOf, e9]) ?_⟩
              exact KS2.out u.w B9 z9
            · refine ⟨rfl, relQ 71 rfl (mkF_other (by decide)) ?_⟩
              simp [go_sem, evalBy, rhoT, relOf, ulCv, j0, j1]
          · intro g u hf
            have hR0 := HR1.out.below u.h
            obtain ⟨d0, d1, d2⟩ := lnd_cells hR0 HG0.out
            have hfz : ∀ k, u.w.frozen? ⟨C.D, k, none⟩ = false := fun k => by simp [World.frozen?, hR0.lnd]
            have f0 := hfz (j * 3); have f1 := hfz (j * 3 + 1); have f2 := hfz (j * 3 + 2)
            have hR2 := hR0.land HK.out hj N2
            have hne : B ≠ C.D := by have := heapsz H0D.out; omega
            have hY2 := ((set3_only u.w C.D (j * 3) (.int .i64 N2.a) (.int .i64 N2.b) (.int .i64 N2.c)).2 B hne).trans ((u.h.block _ hB0).trans Y1.out)
            obtain ⟨w5, hw5⟩ : ∃ x, u.w = x := ⟨_, rfl⟩
            rw [hw5] at d0 d1 d2 f0 f1 f2 hR2 hY2 ⊢
            have HR2 := Lib.hid hR2; have Y2 := Lib.hid hY2
            clear hR0 hR2 hY2 hw5 hf hfz
            simp only [QT]
            unfold Oper.wp
            simp [go_sem, putAll, Act.put, rhoT, relOf, ulCv, d0, d1, d2, f0, f1, f2]
            clear d0 d1 d2 f0 f1 f2
            generalize ((w5.setCell ⟨C.D, j * 3, none⟩ (.int .i64 N2.a)).setCell ⟨C.D, j * 3 + 1, none⟩ (.int .i64 N2.b)).setCell ⟨C.D, j * 3 + 2, none⟩ (.int .i64 N2.c) = w6 at HR2 Y2 ⊢
            clear Y1 hB0
            obtain ⟨x0, x1, x2⟩ := g_cells Y2.out
            go_wp2_with fail
            refine (units_any U w6 (amtB_le HU3.out (by omega))).mono ?_
            rintro e w7 ⟨rfl, hb⟩
            have HR3 := Lib.hid (HR2.out.below hb)
            clear hb x0 x1 x2
            go_wp2_with fail
            go_ret
            exact ⟨rfl, HR3.out⟩
end
end Go.Proofs.YtijjkiogmlannaaDoor
