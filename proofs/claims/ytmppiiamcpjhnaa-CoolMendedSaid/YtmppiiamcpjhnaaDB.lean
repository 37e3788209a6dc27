/- Coolers: in which order to repair. Coolers: the town of the examples. Coolers: the examples of the document. Coolers: the examples of the document hold. -/
import Derived.Test.YtmppiiamcpjhnaaCX
namespace Go.Proofs.Ytmppiiamcpjhnaa
open Go.RowKit Go.Shelf

def repO (T : Tn) (bo fa : List Int) : Option (List Int) := fgO T (setI bo) (fa.map Int.toNat)
def repE (T : Tn) (bo fa : List Int) : Int := if ordI T bo fa = 0 then (if coolB T fa then (match repO T bo fa with | some _ => 0 | none => 5) else 2) else ordI T bo fa
def repL (T : Tn) (bo fa : List Int) : List Int := if ordI T bo fa = 0 then (if coolB T fa then (repO T bo fa).getD [] else []) else []
set_option maxRecDepth 100000 in
set_option maxHeartbeats 4000000 in
theorem Repair_any (V : TV) (T : Tn) (A : Option Addr) (n c : Nat) (bo : List Int) (A2 : Option Addr) (p q : Nat) (fa : List Int) (w : World) (hN : TnAt w w.heap.size V T) (hl : bo.length = n) (hn : n ≤ maxLen) (hA : IntsAt w w.heap.size A bo) (hl2 : fa.length = p) (hp : p ≤ maxLen) (hpq : p ≤ q) (hA2 : IntsAt w w.heap.size A2 fa) :
    Calls Try.prog 41 #[tvV V, .slice A n c, .slice A2 p q] w fun e w' => ∃ v, e = .returned (.tuple #[v, .int .i64 (repE T bo fa)]) ∧ Below w.heap.size w w' ∧ RowIs intR 3 w.heap.size (repL T bo fa) v w' := by
  have z := heap_alloc_new w (.cells (tvC V) 25)
  have hb := (Below.refl w.heap.size w).alloc (Nat.le_refl _) (.cells (tvC V) 25)
  obtain ⟨w1, hw1⟩ : ∃ z, w.alloc (.cells (tvC V) 25) = z := ⟨_, rfl⟩
  rw [hw1] at z hb
  have HF := Lib.hid (checkOrder_any V T A n c bo A2 p q fa w1 (hN.up hb) hl hn (RowAt.up hA hb) hl2 hp hpq (RowAt.up hA2 hb))
  have HCF := Lib.hid (fun (u : World) (hu : Below w1.heap.size w1 u) => coolersFine_any V T A2 p q fa u ((hN.up hb).next hu hu.size) hl2 hp ((RowAt.up hA2 hb).next hu hu.size))
  have HLK := Lib.hid (fun (u : World) (hu : Below w1.heap.size w1 u) (hK : TnOk T) (hC : coolB T bo = true) => lookL_any V T A n c bo u ((hN.up hb).next hu hu.size) hK hC hl hn ((RowAt.up hA hb).next hu hu.size))
  have HA2 := Lib.hid (RowAt.up hA2 hb)
  have HNS := Lib.hid hN.ns; have HNH := Lib.hid hN.nh
  have HW := Lib.hid hw1; have HB := Lib.hid hb; have HZ := Lib.hid z; have HL2 := Lib.hid hl2; have HP := Lib.hid hp
  obtain ⟨ah, nh, ch, az, ns, cz⟩ := V
  obtain ⟨v0, v1⟩ := box2 z
  clear z hb hw1 hN hl hn hA hA2 hl2 hp hpq
  go_enter Try.func41, Try.ntmps41
  go_wp2_with fail
  rw [show w.alloc (.cells #[.slice ah nh ch, .slice az ns cz] 25) = w1 from HW.out]
  go_wp2_with fail
  refine HF.out.mono ?_
  rintro e w2 ⟨rfl, hb2⟩
  have HB2 := Lib.hid (HB.out.trans (hb2.mono HB.out.size))
  by_cases h0 : ordI T bo fa = 0
  · have H0 := Lib.hid h0
    obtain ⟨hK, hC, hO, h6⟩ := ord_ok h0
    have HKC := Lib.hid (And.intro hK hC)
    have HZ2 := Lib.hid ((hb2.block _ (heapsz HZ.out)).trans HZ.out)
    obtain ⟨y0, y1⟩ := box2 HZ2.out
    have HCO := Lib.hid (HCF.out w2 hb2)
    have HB12 := Lib.hid hb2
    rw [h0]
    clear hb2 v0 v1 h0 hK hC hO h6
    go_wp2_with fail
    refine HCO.out.mono ?_
    rintro e w3 ⟨rfl, hb3⟩
    have HB3 := Lib.hid (HB12.out.trans (hb3.mono HB12.out.size))
    have HBW3 := Lib.hid (HB2.out.trans (hb3.mono HB2.out.size))
    cases hcf : coolB T fa with
    | false =>
      have HE : Hid (repE T bo fa = 2 ∧ repL T bo fa = []) := Lib.hid ⟨by unfold repE; rw [if_pos H0.out, if_neg (by rw [hcf]; simp)], by unfold repL; rw [if_pos H0.out, if_neg (by rw [hcf]; simp)]⟩
      clear hb3 y0 y1 hcf
      go_wp2_with fail
      go_ret2
      exact ⟨_, by rw [HE.out.1]; rfl, HBW3.out, .inl ⟨HE.out.2, rfl⟩⟩
    | true =>
      have HCB := Lib.hid hcf
      have HL := Lib.hid (HLK.out w3 HB3.out HKC.out.1 HKC.out.2)
      have HZ3 := Lib.hid ((HB3.out.block _ (heapsz HZ.out)).trans HZ.out)
      have HAO := Lib.hid (HA2.out.next HB3.out HB3.out.size)
      obtain ⟨x0, x1⟩ := box2 HZ3.out
      have HS : Hid (setI bo < 2 ^ ns) := Lib.hid (by have h1 : T.ss.length = ns := HNS.out; rw [← h1]; exact setI_lt HKC.out.2)
      clear hb3 y0 y1 hcf
      go_wp2_with fail
      refine HL.out.mono ?_
      rintro e w4 ⟨M, rfl, hlw⟩
      have HFG := Lib.hid (firstGood_any hlw (s := setI bo) A2 p q (fa.map Int.toNat) HS.out (by rw [List.length_map]; exact HL2.out) HP.out (by rw [(cool_nat HCB.out).1]; exact HAO.out.next hlw.bel hlw.bel.size) (fun x hx => by have h1 : T.ss.length = ns := HNS.out; have := (cool_nat HCB.out).2 x hx; show x < ns; omega))
      have HBM : Hid (Below w.heap.size w w4 ∧ w.heap.size ≤ M) := Lib.hid ⟨HBW3.out.trans (hlw.bel.mono HBW3.out.size), Nat.le_trans HBW3.out.size hlw.lt⟩
      clear hlw x0 x1
      go_wp2_with fail
      refine HFG.out.mono ?_
      rintro e w5 ⟨v, rfl, hg, hr⟩
      have HE5 : Hid (Below w.heap.size w w5 ∧ RowIs intR 3 w.heap.size ((repO T bo fa).getD []) v w5) := Lib.hid ⟨HBM.out.1.trans (hg.bel HBM.out.2), hr.low HBM.out.1.size⟩
      change RowIs intR 3 w4.heap.size ((repO T bo fa).getD []) v w5 at hr
      obtain ⟨A5, c5, rfl⟩ := hr.len
      have hOO : fgO T (setI bo) (fa.map Int.toNat) = repO T bo fa := rfl
      rw [hOO]
      clear hg hr hOO
      cases ho : repO T bo fa with
      | none =>
        have HE : Hid (repE T bo fa = 5 ∧ repL T bo fa = []) := Lib.hid ⟨by unfold repE; rw [if_pos H0.out, if_pos HCB.out, ho], by unfold repL; rw [if_pos H0.out, if_pos HCB.out, ho]; rfl⟩
        clear ho
        simp only [Option.isSome_none]
        go_wp2_with fail
        go_ret2
        exact ⟨_, by rw [HE.out.1]; rfl, HE5.out.1, .inl ⟨HE.out.2, rfl⟩⟩
      | some o =>
        have HE : Hid (repE T bo fa = 0 ∧ repL T bo fa = (repO T bo fa).getD []) := Lib.hid ⟨by unfold repE; rw [if_pos H0.out, if_pos HCB.out, ho], by unfold repL; rw [if_pos H0.out, if_pos HCB.out]⟩
        rw [ho] at HE HE5
        clear ho
        simp only [Option.isSome_some]
        go_wp2_with fail
        go_ret2
        exact ⟨_, by rw [HE.out.1]; rfl, HE5.out.1, by rw [HE.out.2]; exact HE5.out.2⟩
  · have HZ0 : Hid (repL T bo fa = [] ∧ repE T bo fa = ordI T bo fa) := Lib.hid ⟨by unfold repL; rw [if_neg h0], by unfold repE; rw [if_neg h0]⟩
    obtain ⟨r, hr⟩ : ∃ r, ordI T bo fa = r := ⟨_, rfl⟩
    rw [hr] at h0 HZ0 ⊢
    clear hb2 v0 v1 hr
    go_wp2_with fail
    go_ret2
    exact ⟨_, by rw [HZ0.out.2]; rfl, HB2.out, .inl ⟨HZ0.out.1, rfl⟩⟩
end Go.Proofs.Ytmppiiamcpjhnaa

namespace Go.Proofs.Ytmppiiamcpjhnaa
open Go.RowKit Go.Shelf

theorem FI.goes {w A B : World} {fs : List (Nat × Array Value × TypeId)} (h : FI w.heap.size w fs A) (hb : Below A.heap.size A B) : FI w.heap.size w fs B :=
  ⟨h.bel.trans (hb.mono h.bel.size), fun x hx => (hb.block _ (heapsz (h.fix x hx))).trans (h.fix x hx)⟩
theorem FI.made {w A : World} {fs : List (Nat × Array Value × TypeId)} (h : FI w.heap.size w fs A) (cs : Array Value) (t : TypeId) : FI w.heap.size w ((A.heap.size, cs, t) :: fs) (A.alloc (.cells cs t)) := by
  have hb := (Below.refl A.heap.size A).alloc (Nat.le_refl _) (.cells cs t)
  refine ⟨(h.goes hb).bel, fun x hx => ?_⟩
  rcases List.mem_cons.1 hx with rfl | hx
  · exact heap_alloc_new A _
  · exact (h.goes hb).fix x hx
def town0 : Tn := ⟨[⟨80, 100, 3⟩, ⟨50, 60, 5⟩], [⟨300, 2, [(60, 70), (0, 0)]⟩, ⟨500, 3, [(50, 60), (40, 50)]⟩, ⟨400, 1, [(0, 0), (60, 80)]⟩, ⟨450, 4, [(50, 55), (30, 35)]⟩]⟩
theorem town_at {w : World} {bh bs b0 b1 b2 b3 : Nat}
    (zh : w.heap[bh]? = some (.cells #[.int .i64 80, .int .i64 100, .int .i64 3, .int .i64 50, .int .i64 60, .int .i64 5] 74 (0, 0)))
    (zs : w.heap[bs]? = some (.cells #[.int .i64 300, .int .i64 2, .slice (some ⟨b0, 0, none⟩) 2 2, .int .i64 500, .int .i64 3, .slice (some ⟨b1, 0, none⟩) 2 2, .int .i64 400, .int .i64 1, .slice (some ⟨b2, 0, none⟩) 2 2, .int .i64 450, .int .i64 4, .slice (some ⟨b3, 0, none⟩) 2 2] 77 (0, 0)))
    (z0 : w.heap[b0]? = some (.cells #[.int .i64 60, .int .i64 70, .int .i64 0, .int .i64 0] 72 (0, 0)))
    (z1 : w.heap[b1]? = some (.cells #[.int .i64 50, .int .i64 60, .int .i64 40, .int .i64 50] 72 (0, 0)))
    (z2 : w.heap[b2]? = some (.cells #[.int .i64 0, .int .i64 0, .int .i64 60, .int .i64 80] 72 (0, 0)))
    (z3 : w.heap[b3]? = some (.cells #[.int .i64 50, .int .i64 55, .int .i64 30, .int .i64 35] 72 (0, 0))) :
    TnAt w w.heap.size ⟨some ⟨bh, 0, none⟩, 2, 2, some ⟨bs, 0, none⟩, 4, 4⟩ town0 := by
  refine ⟨row_made zh (fun _ => rfl) rfl (by decide : town0.hs.length ≤ 2), fun _ => ⟨bs, 0, rfl, heapsz zs, fun i s hs => ?_⟩, rfl, rfl, (show (2 : Nat) ≤ maxLen by decide), (show (4 : Nat) ≤ maxLen by decide)⟩
  have q := fun k => cell_of_row w bs k _ 77 (0, 0) zs
  have hi : i < 4 := (List.getElem?_eq_some_iff.1 hs).1
  rcases (show i = 0 ∨ i = 1 ∨ i = 2 ∨ i = 3 by omega) with rfl | rfl | rfl | rfl
  · obtain rfl : (⟨300, 2, [(60, 70), (0, 0)]⟩ : Si) = s := by simpa [town0] using hs
    exact ⟨some ⟨b0, 0, none⟩, 2, ⟨by simpa using q 0, by simpa using q 1, by simpa using q 2⟩, row_made z0 (fun _ => rfl) rfl (by decide : [((60 : Int), (70 : Int)), (0, 0)].length ≤ 2), by decide⟩
  · obtain rfl : (⟨500, 3, [(50, 60), (40, 50)]⟩ : Si) = s := by simpa [town0] using hs
    exact ⟨some ⟨b1, 0, none⟩, 2, ⟨by simpa using q 3, by simpa using q 4, by simpa using q 5⟩, row_made z1 (fun _ => rfl) rfl (by decide : [((50 : Int), (60 : Int)), (40, 50)].length ≤ 2), by decide⟩
  · obtain rfl : (⟨400, 1, [(0, 0), (60, 80)]⟩ : Si) = s := by simpa [town0] using hs
    exact ⟨some ⟨b2, 0, none⟩, 2, ⟨by simpa using q 6, by simpa using q 7, by simpa using q 8⟩, row_made z2 (fun _ => rfl) rfl (by decide : [((0 : Int), (0 : Int)), (60, 80)].length ≤ 2), by decide⟩
  · obtain rfl : (⟨450, 4, [(50, 55), (30, 35)]⟩ : Si) = s := by simpa [town0] using hs
    exact ⟨some ⟨b3, 0, none⟩, 2, ⟨by simpa using q 9, by simpa using q 10, by simpa using q 11⟩, row_made z3 (fun _ => rfl) rfl (by decide : [((50 : Int), (55 : Int)), (30, 35)].length ≤ 2), by decide⟩
set_option maxRecDepth 100000 in
set_option maxHeartbeats 4000000 in
theorem Town_any (w : World) : Calls Try.prog 46 #[] w fun e w' => ∃ V, e = .returned (tvV V) ∧ TnAt w' w'.heap.size V town0 ∧ Below w.heap.size w w' := by
  have H0 : Hid (FI w.heap.size w [(w.heap.size, #[.slice none 0 0, .slice none 0 0], 25)] (w.alloc (.cells #[.slice none 0 0, .slice none 0 0] 25))) := Lib.hid (FI.made (fs := []) ⟨Below.refl _ _, fun x hx => by simp at hx⟩ _ _)
  go_enter Try.func46, Try.ntmps46
  go_wp2_with fail
  refine (span_any _ _ _).mono ?_
  rintro e w1 ⟨rfl, hb1⟩
  have H1 := Lib.hid (FI.goes H0.out hb1)
  clear hb1
  go_wp2_with fail
  refine (span_any _ _ _).mono ?_
  rintro e w2 ⟨rfl, hb2⟩
  have H2 := Lib.hid (FI.goes H1.out hb2)
  clear hb2
  go_wp2_with fail
  refine (span_any _ _ _).mono ?_
  rintro e w3 ⟨rfl, hb3⟩
  have H3 := Lib.hid (FI.goes (FI.made H2.out #[.int .i64 80, .int .i64 100, .int .i64 3, .int .i64 50, .int .i64 60, .int .i64 5] 74) hb3)
  clear hb3
  go_wp2_with fail
  refine (span_any _ _ _).mono ?_
  rintro e w4 ⟨rfl, hb4⟩
  have H4 := Lib.hid (FI.goes (FI.made H3.out #[.int .i64 60, .int .i64 70, .int .i64 0, .int .i64 0] 72) hb4)
  clear hb4
  go_wp2_with fail
  refine (span_any _ _ _).mono ?_
  rintro e w5 ⟨rfl, hb5⟩
  have H5 := Lib.hid (FI.goes H4.out hb5)
  clear hb5
  go_wp2_with fail
  refine (span_any _ _ _).mono ?_
  rintro e w6 ⟨rfl, hb6⟩
  have H6 := Lib.hid (FI.goes (FI.made H5.out #[.int .i64 50, .int .i64 60, .int .i64 40, .int .i64 50] 72) hb6)
  clear hb6
  go_wp2_with fail
  refine (span_any _ _ _).mono ?_
  rintro e w7 ⟨rfl, hb7⟩
  have H7 := Lib.hid (FI.goes (FI.made H6.out #[.int .i64 0, .int .i64 0, .int .i64 60, .int .i64 80] 72) hb7)
  clear hb7
  go_wp2_with fail
  refine (span_any _ _ _).mono ?_
  rintro e w8 ⟨rfl, hb8⟩
  have h8 := FI.goes H7.out hb8
  have h9 := FI.made (FI.made h8 #[.int .i64 50, .int .i64 55, .int .i64 30, .int .i64 35] 72) #[.int .i64 300, .int .i64 2, .slice (some ⟨w3.heap.size, 0, none⟩) 2 2, .int .i64 500, .int .i64 3, .slice (some ⟨w5.heap.size, 0, none⟩) 2 2, .int .i64 400, .int .i64 1, .slice (some ⟨w6.heap.size, 0, none⟩) 2 2, .int .i64 450, .int .i64 4, .slice (some ⟨w8.heap.size, 0, none⟩) 2 2] 77
  obtain ⟨w9, hw9⟩ : ∃ z, (w8.alloc (.cells #[.int .i64 50, .int .i64 55, .int .i64 30, .int .i64 35] 72)).alloc (.cells #[.int .i64 300, .int .i64 2, .slice (some ⟨w3.heap.size, 0, none⟩) 2 2, .int .i64 500, .int .i64 3, .slice (some ⟨w5.heap.size, 0, none⟩) 2 2, .int .i64 400, .int .i64 1, .slice (some ⟨w6.heap.size, 0, none⟩) 2 2, .int .i64 450, .int .i64 4, .slice (some ⟨w8.heap.size, 0, none⟩) 2 2] 77) = z := ⟨_, rfl⟩
  rw [hw9] at h9
  have z0 := h9.fix (w.heap.size, #[.slice none 0 0, .slice none 0 0], 25) (by simp)
  simp only at z0
  obtain ⟨y0, y1⟩ := box2 z0
  have f0 : w9.frozen? ⟨w.heap.size, 0, none⟩ = false := by simp [World.frozen?, z0]
  have f1 : w9.frozen? ⟨w.heap.size, 1, none⟩ = false := by simp [World.frozen?, z0]
  have H9 := Lib.hid h9; have HZ0 := Lib.hid z0
  clear hb8 h8 h9 z0
  go_wp2_with fail
  have zF : ((w9.setCell ⟨w.heap.size, 0, none⟩ (.slice (some ⟨w2.heap.size, 0, none⟩) 2 2)).setCell ⟨w.heap.size, 1, none⟩ (.slice (some ⟨w8.heap.size + 1, 0, none⟩) 4 4)).heap[w.heap.size]? = some (.cells #[.slice (some ⟨w2.heap.size, 0, none⟩) 2 2, .slice (some ⟨w8.heap.size + 1, 0, none⟩) 4 4] 25 (0, 0)) := blk_set (blk_set HZ0.out 0 _) 1 _
  have hbF := (H9.out.bel.setCell (p := ⟨w.heap.size, 0, none⟩) (Nat.le_refl _) (.slice (some ⟨w2.heap.size, 0, none⟩) 2 2)).setCell (p := ⟨w.heap.size, 1, none⟩) (Nat.le_refl _) (.slice (some ⟨w8.heap.size + 1, 0, none⟩) 4 4)
  have hoth : ∀ (b : Nat) (cs : Array Value) (t : TypeId), (b, cs, t) ∈ [(w8.heap.size + 1, #[Value.int .i64 300, .int .i64 2, .slice (some ⟨w3.heap.size, 0, none⟩) 2 2, .int .i64 500, .int .i64 3, .slice (some ⟨w5.heap.size, 0, none⟩) 2 2, .int .i64 400, .int .i64 1, .slice (some ⟨w6.heap.size, 0, none⟩) 2 2, .int .i64 450, .int .i64 4, .slice (some ⟨w8.heap.size, 0, none⟩) 2 2], 77), (w8.heap.size, #[.int .i64 50, .int .i64 55, .int .i64 30, .int .i64 35], 72), (w6.heap.size, #[.int .i64 0, .int .i64 0, .int .i64 60, .int .i64 80], 72), (w5.heap.size, #[.int .i64 50, .int .i64 60, .int .i64 40, .int .i64 50], 72), (w3.heap.size, #[.int .i64 60, .int .i64 70, .int .i64 0, .int .i64 0], 72), (w2.heap.size, #[.int .i64 80, .int .i64 100, .int .i64 3, .int .i64 50, .int .i64 60, .int .i64 5], 74)] → t ≠ 25 →
      ((w9.setCell ⟨w.heap.size, 0, none⟩ (.slice (some ⟨w2.heap.size, 0, none⟩) 2 2)).setCell ⟨w.heap.size, 1, none⟩ (.slice (some ⟨w8.heap.size + 1, 0, none⟩) 4 4)).heap[b]? = some (.cells cs t (0, 0)) := fun b cs t hb ht => by
    have h1 := H9.out.fix (b, cs, t) (by
      simp only [List.mem_cons, List.not_mem_nil, or_false] at hb
      simp only [List.mem_cons, List.not_mem_nil, or_false, World.size_alloc]
      rcases hb with h | h | h | h | h | h <;> simp [h])
    simp only at h1
    have hne := cells_ne h1 HZ0.out ht
    exact (Below.heap_setCell _ _ _ _ hne).trans ((Below.heap_setCell _ _ _ _ hne).trans h1)
  have hT := town_at (hoth _ _ _ (.tail _ (.tail _ (.tail _ (.tail _ (.tail _ (.head _)))))) (by decide)) (hoth _ _ _ (.head _) (by decide)) (hoth _ _ _ (.tail _ (.tail _ (.tail _ (.tail _ (.head _))))) (by decide)) (hoth _ _ _ (.tail _ (.tail _ (.tail _ (.head _)))) (by decide)) (hoth _ _ _ (.tail _ (.tail _ (.head _))) (by decide)) (hoth _ _ _ (.tail _ (.head _)) (by decide))
  obtain ⟨e0, e1⟩ := box2 zF
  obtain ⟨wF, hwF⟩ : ∃ z, ((w9.setCell ⟨w.heap.size, 0, none⟩ (.slice (some ⟨w2.heap.size, 0, none⟩) 2 2)).setCell ⟨w.heap.size, 1, none⟩ (.slice (some ⟨w8.heap.size + 1, 0, none⟩) 4 4)) = z := ⟨_, rfl⟩
  rw [hwF] at hT hbF e0 e1 ⊢
  exact bodyPost_ret (v := .agg #[.slice (some ⟨w2.heap.size, 0, none⟩) 2 2, .slice (some ⟨w8.heap.size + 1, 0, none⟩) 4 4]) (by simp [results, Try.results46, go_sem, e0, e1]) rfl ⟨_, rfl, hT, hbF⟩
end Go.Proofs.Ytmppiiamcpjhnaa

namespace Go.Proofs.Ytmppiiamcpjhnaa
open Go.RowKit Go.Shelf

theorem ex1 : failI town0 [1, 3] 0 = 0 ∧ unevenI town0 town0.hs.length (setI [1, 3]) 0 = none := by decide +kernel
theorem ex1v : keepV town0 [1, 3] 0 = .tuple #[.bool true, .int .i64 0] := by
  unfold keepV
  rw [ex1.1, ex1.2]
  rfl
theorem ex2 : brH town0 [1, 3] 1 = 0 ∧ brL town0 [1, 3] 1 = [1] ∧ brE town0 [1, 3] 1 = 0 := by decide +kernel
theorem ex3 : coolI town0 [0, 1, 2, 3] = 0 ∧ bearsK town0 (setI [0, 1, 2, 3]) town0.hs.length = 1 := by decide +kernel
theorem ex3v : bearsT town0 [0, 1, 2, 3] = .tuple #[.int .i64 1, .int .i64 0] := by
  unfold bearsT
  rw [if_pos ex3.1, ex3.2]
  rfl
theorem ex4 : besC town0 0 = 950 ∧ besL town0 0 = [1, 3] ∧ besE town0 0 = 0 := by decide +kernel
theorem ex5 : failI town0 [] 1 = 0 ∧ floO town0 1 = some 3 := by decide +kernel
theorem ex5v : floV town0 1 = .tuple #[.int .i64 3, .int .i64 0] := by
  unfold floV
  rw [if_pos ex5.1, ex5.2]
theorem ex6 : agaL town0 [0, 1, 2, 3] [3, 1] = [4, 0] ∧ ordI town0 [0, 1, 2, 3] [3, 1] = 0 := by decide +kernel
theorem ex7 : repL town0 [0, 1, 2, 3] [1, 3] = [1, 3] ∧ repE town0 [0, 1, 2, 3] [1, 3] = 0 := by decide +kernel
end Go.Proofs.Ytmppiiamcpjhnaa

namespace Go.Proofs.Ytmppiiamcpjhnaa
open Go.RowKit Go.Shelf

set_option maxRecDepth 100000 in
set_option maxHeartbeats 8000000 in
theorem known_any (w : World) : Calls Try.prog 14 #[] w fun e w' => e = .returned (.bool true) ∧ Below w.heap.size w w' := by
  go_enter Try.func14, Try.ntmps14
  go_wp2_with fail
  refine (Town_any _).mono ?_
  rintro e w1 ⟨V1, rfl, hn1, hb1⟩
  have HB2 := Lib.hid hb1
  have HN1 := Lib.hid hn1
  clear hn1 hb1
  have z3 := heap_alloc_new w1 (.cells #[.int .i64 1, .int .i64 3] 3)
  have b3 := (Below.refl w1.heap.size w1).alloc (Nat.le_refl _) (.cells #[.int .i64 1, .int .i64 3] 3)
  obtain ⟨w3, hw3⟩ : ∃ z, w1.alloc (.cells #[.int .i64 1, .int .i64 3] 3) = z := ⟨_, rfl⟩
  rw [hw3] at z3 b3
  have HW3 := Lib.hid hw3; have HZ3 := Lib.hid z3
  have HB4 := Lib.hid (HB2.out.trans (b3.mono HB2.out.size))
  have HN3 := Lib.hid (HN1.out.up b3)
  clear z3 b3 hw3
  have HF5 := Lib.hid (Keeps_any V1 town0 (some ⟨w1.heap.size, 0, none⟩) 2 2 [1, 3] 0 w3 HN3.out rfl (by unfold maxLen; omega) (row_made (R := intR) HZ3.out (fun _ => rfl) rfl (by decide : [(1 : Int), (3 : Int)].length ≤ 2)))
  rw [ex1v] at HF5
  go_wp2_with fail
  rw [HW3.out]
  refine HF5.out.mono ?_
  rintro e w5 ⟨rfl, hb5⟩
  have HB6 := Lib.hid (HB4.out.trans (hb5.mono HB4.out.size))
  clear hb5
  go_wp2_with fail
  refine (Town_any _).mono ?_
  rintro e w7 ⟨V7, rfl, hn7, hb7⟩
  have HB8 := Lib.hid (HB6.out.trans (hb7.mono HB6.out.size))
  have HN7 := Lib.hid hn7
  clear hn7 hb7
  have z9 := heap_alloc_new w7 (.cells #[.int .i64 1, .int .i64 3] 3)
  have b9 := (Below.refl w7.heap.size w7).alloc (Nat.le_refl _) (.cells #[.int .i64 1, .int .i64 3] 3)
  obtain ⟨w9, hw9⟩ : ∃ z, w7.alloc (.cells #[.int .i64 1, .int .i64 3] 3) = z := ⟨_, rfl⟩
  rw [hw9] at z9 b9
  have HW9 := Lib.hid hw9; have HZ9 := Lib.hid z9
  have HB10 := Lib.hid (HB8.out.trans (b9.mono HB8.out.size))
  have HN9 := Lib.hid (HN7.out.up b9)
  clear z9 b9 hw9
  have HF11 := Lib.hid (Break_any V7 town0 (some ⟨w7.heap.size, 0, none⟩) 2 2 [1, 3] 1 w9 HN9.out rfl (by unfold maxLen; omega) (row_made (R := intR) HZ9.out (fun _ => rfl) rfl (by decide : [(1 : Int), (3 : Int)].length ≤ 2)))
  rw [ex2.1, ex2.2.1, ex2.2.2] at HF11
  go_wp2_with fail
  rw [HW9.out]
  refine HF11.out.mono ?_
  rintro e w11 ⟨v11, rfl, hb11, hr11⟩
  obtain ⟨ArL, crL, rfl, _, _⟩ := hr11.at_ (k := 1) (fun _ => rfl)
  have HrL := Lib.hid hr11
  have HB12 := Lib.hid (HB10.out.trans (hb11.mono HB10.out.size))
  clear hb11 hr11
  go_wp2_with fail
  refine (Town_any _).mono ?_
  rintro e w13 ⟨V13, rfl, hn13, hb13⟩
  have HB14 := Lib.hid (HB12.out.trans (hb13.mono HB12.out.size))
  have HrL14 := Lib.hid (HrL.out.below hb13)
  have HN13 := Lib.hid hn13
  clear hn13 hb13
  have z15 := heap_alloc_new w13 (.cells #[.int .i64 0, .int .i64 1, .int .i64 2, .int .i64 3] 3)
  have b15 := (Below.refl w13.heap.size w13).alloc (Nat.le_refl _) (.cells #[.int .i64 0, .int .i64 1, .int .i64 2, .int .i64 3] 3)
  obtain ⟨w15, hw15⟩ : ∃ z, w13.alloc (.cells #[.int .i64 0, .int .i64 1, .int .i64 2, .int .i64 3] 3) = z := ⟨_, rfl⟩
  rw [hw15] at z15 b15
  have HW15 := Lib.hid hw15; have HZ15 := Lib.hid z15
  have HB16 := Lib.hid (HB14.out.trans (b15.mono HB14.out.size))
  have HrL16 := Lib.hid (HrL14.out.below b15)
  have HN15 := Lib.hid (HN13.out.up b15)
  clear z15 b15 hw15
  have HF17 := Lib.hid (Bears_any V13 town0 (some ⟨w13.heap.size, 0, none⟩) 4 4 [0, 1, 2, 3] w15 HN15.out rfl (by unfold maxLen; omega) (row_made (R := intR) HZ15.out (fun _ => rfl) rfl (by decide : [(0 : Int), (1 : Int), (2 : Int), (3 : Int)].length ≤ 4)))
  rw [ex3v] at HF17
  go_wp2_with fail
  rw [HW15.out]
  refine HF17.out.mono ?_
  rintro e w17 ⟨rfl, hb17⟩
  have HB18 := Lib.hid (HB16.out.trans (hb17.mono HB16.out.size))
  have HrL18 := Lib.hid (HrL16.out.below hb17)
  clear hb17
  go_wp2_with fail
  refine (Town_any _).mono ?_
  rintro e w19 ⟨V19, rfl, hn19, hb19⟩
  have HB20 := Lib.hid (HB18.out.trans (hb19.mono HB18.out.size))
  have HrL20 := Lib.hid (HrL18.out.below hb19)
  have HN19 := Lib.hid hn19
  clear hn19 hb19
  have HF21 := Lib.hid (Best_any V19 town0 0 w19 HN19.out)
  rw [ex4.1, ex4.2.1, ex4.2.2] at HF21
  go_wp2_with fail
  refine HF21.out.mono ?_
  rintro e w21 ⟨v21, rfl, hb21, hr21⟩
  obtain ⟨ArB, crB, rfl, _, _⟩ := hr21.at_ (k := 1) (fun _ => rfl)
  have HrB := Lib.hid hr21
  have HB22 := Lib.hid (HB20.out.trans (hb21.mono HB20.out.size))
  have HrL22 := Lib.hid (HrL20.out.below hb21)
  clear hb21 hr21
  go_wp2_with fail
  refine (Town_any _).mono ?_
  rintro e w23 ⟨V23, rfl, hn23, hb23⟩
  have HB24 := Lib.hid (HB22.out.trans (hb23.mono HB22.out.size))
  have HrL24 := Lib.hid (HrL22.out.below hb23)
  have HrB24 := Lib.hid (HrB.out.below hb23)
  have HN23 := Lib.hid hn23
  clear hn23 hb23
  have HF25 := Lib.hid (Floor_any V23 town0 1 w23 HN23.out)
  rw [ex5v] at HF25
  go_wp2_with fail
  refine HF25.out.mono ?_
  rintro e w25 ⟨rfl, hb25⟩
  have HB26 := Lib.hid (HB24.out.trans (hb25.mono HB24.out.size))
  have HrL26 := Lib.hid (HrL24.out.below hb25)
  have HrB26 := Lib.hid (HrB24.out.below hb25)
  clear hb25
  go_wp2_with fail
  refine (Town_any _).mono ?_
  rintro e w27 ⟨V27, rfl, hn27, hb27⟩
  have HB28 := Lib.hid (HB26.out.trans (hb27.mono HB26.out.size))
  have HrL28 := Lib.hid (HrL26.out.below hb27)
  have HrB28 := Lib.hid (HrB26.out.below hb27)
  have HN27 := Lib.hid hn27
  clear hn27 hb27
  have z29 := heap_alloc_new w27 (.cells #[.int .i64 0, .int .i64 1, .int .i64 2, .int .i64 3] 3)
  have b29 := (Below.refl w27.heap.size w27).alloc (Nat.le_refl _) (.cells #[.int .i64 0, .int .i64 1, .int .i64 2, .int .i64 3] 3)
  obtain ⟨w29, hw29⟩ : ∃ z, w27.alloc (.cells #[.int .i64 0, .int .i64 1, .int .i64 2, .int .i64 3] 3) = z := ⟨_, rfl⟩
  rw [hw29] at z29 b29
  have HW29 := Lib.hid hw29; have HZ29 := Lib.hid z29
  have HB30 := Lib.hid (HB28.out.trans (b29.mono HB28.out.size))
  have HrL30 := Lib.hid (HrL28.out.below b29)
  have HrB30 := Lib.hid (HrB28.out.below b29)
  have HN29 := Lib.hid (HN27.out.up b29)
  clear z29 b29 hw29
  have z31 := heap_alloc_new w29 (.cells #[.int .i64 3, .int .i64 1] 3)
  have b31 := (Below.refl w29.heap.size w29).alloc (Nat.le_refl _) (.cells #[.int .i64 3, .int .i64 1] 3)
  obtain ⟨w31, hw31⟩ : ∃ z, w29.alloc (.cells #[.int .i64 3, .int .i64 1] 3) = z := ⟨_, rfl⟩
  rw [hw31] at z31 b31
  have HW31 := Lib.hid hw31; have HZ31 := Lib.hid z31
  have HB32 := Lib.hid (HB30.out.trans (b31.mono HB30.out.size))
  have HrL32 := Lib.hid (HrL30.out.below b31)
  have HrB32 := Lib.hid (HrB30.out.below b31)
  have HZ33 := Lib.hid ((b31.block _ (heapsz HZ29.out)).trans HZ29.out)
  have HN31 := Lib.hid (HN29.out.up b31)
  clear z31 b31 hw31
  have HF34 := Lib.hid (Again_any V27 town0 (some ⟨w27.heap.size, 0, none⟩) 4 4 [0, 1, 2, 3] (some ⟨w29.heap.size, 0, none⟩) 2 2 [3, 1] w31 HN31.out rfl (by unfold maxLen; omega) (row_made (R := intR) HZ33.out (fun _ => rfl) rfl (by decide : [(0 : Int), (1 : Int), (2 : Int), (3 : Int)].length ≤ 4)) rfl (by unfold maxLen; omega) (by omega) (row_made (R := intR) HZ31.out (fun _ => rfl) rfl (by decide : [(3 : Int), (1 : Int)].length ≤ 2)))
  rw [ex6.1, ex6.2] at HF34
  rw [show w29.heap.size = w27.heap.size + 1 by rw [← HW29.out]; simp] at HF34
  go_wp2_with fail
  rw [HW29.out, HW31.out]
  refine HF34.out.mono ?_
  rintro e w34 ⟨v34, rfl, hb34, hr34⟩
  obtain ⟨ArW, crW, rfl, _, _⟩ := hr34.at_ (k := 1) (fun _ => rfl)
  have HrW := Lib.hid hr34
  have HB35 := Lib.hid (HB32.out.trans (hb34.mono HB32.out.size))
  have HrL35 := Lib.hid (HrL32.out.below hb34)
  have HrB35 := Lib.hid (HrB32.out.below hb34)
  clear hb34 hr34
  go_wp2_with fail
  refine (Town_any _).mono ?_
  rintro e w36 ⟨V36, rfl, hn36, hb36⟩
  have HB37 := Lib.hid (HB35.out.trans (hb36.mono HB35.out.size))
  have HrL37 := Lib.hid (HrL35.out.below hb36)
  have HrB37 := Lib.hid (HrB35.out.below hb36)
  have HrW37 := Lib.hid (HrW.out.below hb36)
  have HN36 := Lib.hid hn36
  clear hn36 hb36
  have z38 := heap_alloc_new w36 (.cells #[.int .i64 0, .int .i64 1, .int .i64 2, .int .i64 3] 3)
  have b38 := (Below.refl w36.heap.size w36).alloc (Nat.le_refl _) (.cells #[.int .i64 0, .int .i64 1, .int .i64 2, .int .i64 3] 3)
  obtain ⟨w38, hw38⟩ : ∃ z, w36.alloc (.cells #[.int .i64 0, .int .i64 1, .int .i64 2, .int .i64 3] 3) = z := ⟨_, rfl⟩
  rw [hw38] at z38 b38
  have HW38 := Lib.hid hw38; have HZ38 := Lib.hid z38
  have HB39 := Lib.hid (HB37.out.trans (b38.mono HB37.out.size))
  have HrL39 := Lib.hid (HrL37.out.below b38)
  have HrB39 := Lib.hid (HrB37.out.below b38)
  have HrW39 := Lib.hid (HrW37.out.below b38)
  have HN38 := Lib.hid (HN36.out.up b38)
  clear z38 b38 hw38
  have z40 := heap_alloc_new w38 (.cells #[.int .i64 1, .int .i64 3] 3)
  have b40 := (Below.refl w38.heap.size w38).alloc (Nat.le_refl _) (.cells #[.int .i64 1, .int .i64 3] 3)
  obtain ⟨w40, hw40⟩ : ∃ z, w38.alloc (.cells #[.int .i64 1, .int .i64 3] 3) = z := ⟨_, rfl⟩
  rw [hw40] at z40 b40
  have HW40 := Lib.hid hw40; have HZ40 := Lib.hid z40
  have HB41 := Lib.hid (HB39.out.trans (b40.mono HB39.out.size))
  have HrL41 := Lib.hid (HrL39.out.below b40)
  have HrB41 := Lib.hid (HrB39.out.below b40)
  have HrW41 := Lib.hid (HrW39.out.below b40)
  have HZ42 := Lib.hid ((b40.block _ (heapsz HZ38.out)).trans HZ38.out)
  have HN40 := Lib.hid (HN38.out.up b40)
  clear z40 b40 hw40
  have HF43 := Lib.hid (Repair_any V36 town0 (some ⟨w36.heap.size, 0, none⟩) 4 4 [0, 1, 2, 3] (some ⟨w38.heap.size, 0, none⟩) 2 2 [1, 3] w40 HN40.out rfl (by unfold maxLen; omega) (row_made (R := intR) HZ42.out (fun _ => rfl) rfl (by decide : [(0 : Int), (1 : Int), (2 : Int), (3 : Int)].length ≤ 4)) rfl (by unfold maxLen; omega) (by omega) (row_made (R := intR) HZ40.out (fun _ => rfl) rfl (by decide : [(1 : Int), (3 : Int)].length ≤ 2)))
  rw [ex7.1, ex7.2] at HF43
  rw [show w38.heap.size = w36.heap.size + 1 by rw [← HW38.out]; simp] at HF43
  go_wp2_with fail
  rw [HW38.out, HW40.out]
  refine HF43.out.mono ?_
  rintro e w43 ⟨v43, rfl, hb43, hr43⟩
  obtain ⟨ArO, crO, rfl, _, _⟩ := hr43.at_ (k := 1) (fun _ => rfl)
  have HrO := Lib.hid hr43
  have HB44 := Lib.hid (HB41.out.trans (hb43.mono HB41.out.size))
  have HrL44 := Lib.hid (HrL41.out.below hb43)
  have HrB44 := Lib.hid (HrB41.out.below hb43)
  have HrW44 := Lib.hid (HrW41.out.below hb43)
  clear hb43 hr43
  go_wp2_with fail
  have z45 := heap_alloc_new w43 (.cells #[.int .i64 1] 3)
  have b45 := (Below.refl w43.heap.size w43).alloc (Nat.le_refl _) (.cells #[.int .i64 1] 3)
  obtain ⟨w45, hw45⟩ : ∃ z, w43.alloc (.cells #[.int .i64 1] 3) = z := ⟨_, rfl⟩
  rw [hw45] at z45 b45
  have HW45 := Lib.hid hw45; have HZ45 := Lib.hid z45
  have HB46 := Lib.hid (HB44.out.trans (b45.mono HB44.out.size))
  have HrL46 := Lib.hid (HrL44.out.below b45)
  have HrB46 := Lib.hid (HrB44.out.below b45)
  have HrW46 := Lib.hid (HrW44.out.below b45)
  have HrO46 := Lib.hid (HrO.out.below b45)
  clear z45 b45 hw45
  obtain ⟨A45, c45, e45, hA45, _⟩ := HrL46.out.at_ (k := 1) (fun _ => rfl)
  injection e45 with ea45 eb45 ec45
  subst ea45
  have HS45 := Lib.hid (same_any [1] [1] ArL (some ⟨w43.heap.size, 0, none⟩) 1 crL 1 1 w45 rfl rfl (by unfold maxLen; omega) hA45 (row_made (R := intR) HZ45.out (fun _ => rfl) rfl (by decide : [(1 : Int)].length ≤ 1)))
  clear eb45 ec45 hA45
  go_wp2_with fail
  rw [HW45.out]
  refine HS45.out.mono ?_
  rintro e w47 ⟨rfl, hb47⟩
  have HB48 := Lib.hid (HB46.out.trans (hb47.mono HB46.out.size))
  have HrL48 := Lib.hid (HrL46.out.below hb47)
  have HrB48 := Lib.hid (HrB46.out.below hb47)
  have HrW48 := Lib.hid (HrW46.out.below hb47)
  have HrO48 := Lib.hid (HrO46.out.below hb47)
  first | rw [show decide True = true from rfl] | rw [decide_eq_true rfl]
  clear hb47
  have z49 := heap_alloc_new w47 (.cells #[.int .i64 1, .int .i64 3] 3)
  have b49 := (Below.refl w47.heap.size w47).alloc (Nat.le_refl _) (.cells #[.int .i64 1, .int .i64 3] 3)
  obtain ⟨w49, hw49⟩ : ∃ z, w47.alloc (.cells #[.int .i64 1, .int .i64 3] 3) = z := ⟨_, rfl⟩
  rw [hw49] at z49 b49
  have HW49 := Lib.hid hw49; have HZ49 := Lib.hid z49
  have HB50 := Lib.hid (HB48.out.trans (b49.mono HB48.out.size))
  have HrL50 := Lib.hid (HrL48.out.below b49)
  have HrB50 := Lib.hid (HrB48.out.below b49)
  have HrW50 := Lib.hid (HrW48.out.below b49)
  have HrO50 := Lib.hid (HrO48.out.below b49)
  clear z49 b49 hw49
  obtain ⟨A49, c49, e49, hA49, _⟩ := HrB50.out.at_ (k := 1) (fun _ => rfl)
  injection e49 with ea49 eb49 ec49
  subst ea49
  have HS49 := Lib.hid (same_any [1, 3] [1, 3] ArB (some ⟨w47.heap.size, 0, none⟩) 2 crB 2 2 w49 rfl rfl (by unfold maxLen; omega) hA49 (row_made (R := intR) HZ49.out (fun _ => rfl) rfl (by decide : [(1 : Int), (3 : Int)].length ≤ 2)))
  clear eb49 ec49 hA49
  go_wp2_with fail
  rw [HW49.out]
  refine HS49.out.mono ?_
  rintro e w51 ⟨rfl, hb51⟩
  have HB52 := Lib.hid (HB50.out.trans (hb51.mono HB50.out.size))
  have HrL52 := Lib.hid (HrL50.out.below hb51)
  have HrB52 := Lib.hid (HrB50.out.below hb51)
  have HrW52 := Lib.hid (HrW50.out.below hb51)
  have HrO52 := Lib.hid (HrO50.out.below hb51)
  first | rw [show decide True = true from rfl] | rw [decide_eq_true rfl]
  clear hb51
  have z53 := heap_alloc_new w51 (.cells #[.int .i64 4, .int .i64 0] 3)
  have b53 := (Below.refl w51.heap.size w51).alloc (Nat.le_refl _) (.cells #[.int .i64 4, .int .i64 0] 3)
  obtain ⟨w53, hw53⟩ : ∃ z, w51.alloc (.cells #[.int .i64 4, .int .i64 0] 3) = z := ⟨_, rfl⟩
  rw [hw53] at z53 b53
  have HW53 := Lib.hid hw53; have HZ53 := Lib.hid z53
  have HB54 := Lib.hid (HB52.out.trans (b53.mono HB52.out.size))
  have HrL54 := Lib.hid (HrL52.out.below b53)
  have HrB54 := Lib.hid (HrB52.out.below b53)
  have HrW54 := Lib.hid (HrW52.out.below b53)
  have HrO54 := Lib.hid (HrO52.out.below b53)
  clear z53 b53 hw53
  obtain ⟨A53, c53, e53, hA53, _⟩ := HrW54.out.at_ (k := 1) (fun _ => rfl)
  injection e53 with ea53 eb53 ec53
  subst ea53
  have HS53 := Lib.hid (same_any [4, 0] [4, 0] ArW (some ⟨w51.heap.size, 0, none⟩) 2 crW 2 2 w53 rfl rfl (by unfold maxLen; omega) hA53 (row_made (R := intR) HZ53.out (fun _ => rfl) rfl (by decide : [(4 : Int), (0 : Int)].length ≤ 2)))
  clear eb53 ec53 hA53
  go_wp2_with fail
  rw [HW53.out]
  refine HS53.out.mono ?_
  rintro e w55 ⟨rfl, hb55⟩
  have HB56 := Lib.hid (HB54.out.trans (hb55.mono HB54.out.size))
  have HrL56 := Lib.hid (HrL54.out.below hb55)
  have HrB56 := Lib.hid (HrB54.out.below hb55)
  have HrW56 := Lib.hid (HrW54.out.below hb55)
  have HrO56 := Lib.hid (HrO54.out.below hb55)
  first | rw [show decide True = true from rfl] | rw [decide_eq_true rfl]
  clear hb55
  have z57 := heap_alloc_new w55 (.cells #[.int .i64 1, .int .i64 3] 3)
  have b57 := (Below.refl w55.heap.size w55).alloc (Nat.le_refl _) (.cells #[.int .i64 1, .int .i64 3] 3)
  obtain ⟨w57, hw57⟩ : ∃ z, w55.alloc (.cells #[.int .i64 1, .int .i64 3] 3) = z := ⟨_, rfl⟩
  rw [hw57] at z57 b57
  have HW57 := Lib.hid hw57; have HZ57 := Lib.hid z57
  have HB58 := Lib.hid (HB56.out.trans (b57.mono HB56.out.size))
  have HrL58 := Lib.hid (HrL56.out.below b57)
  have HrB58 := Lib.hid (HrB56.out.below b57)
  have HrW58 := Lib.hid (HrW56.out.below b57)
  have HrO58 := Lib.hid (HrO56.out.below b57)
  clear z57 b57 hw57
  obtain ⟨A57, c57, e57, hA57, _⟩ := HrO58.out.at_ (k := 1) (fun _ => rfl)
  injection e57 with ea57 eb57 ec57
  subst ea57
  have HS57 := Lib.hid (same_any [1, 3] [1, 3] ArO (some ⟨w55.heap.size, 0, none⟩) 2 crO 2 2 w57 rfl rfl (by unfold maxLen; omega) hA57 (row_made (R := intR) HZ57.out (fun _ => rfl) rfl (by decide : [(1 : Int), (3 : Int)].length ≤ 2)))
  clear eb57 ec57 hA57
  go_wp2_with fail
  rw [HW57.out]
  refine HS57.out.mono ?_
  rintro e w59 ⟨rfl, hb59⟩
  have HB60 := Lib.hid (HB58.out.trans (hb59.mono HB58.out.size))
  have HrL60 := Lib.hid (HrL58.out.below hb59)
  have HrB60 := Lib.hid (HrB58.out.below hb59)
  have HrW60 := Lib.hid (HrW58.out.below hb59)
  have HrO60 := Lib.hid (HrO58.out.below hb59)
  first | rw [show decide True = true from rfl] | rw [decide_eq_true rfl]
  clear hb59
  go_wp2_with fail
  go_ret
  exact ⟨rfl, HB60.out⟩
end Go.Proofs.Ytmppiiamcpjhnaa
