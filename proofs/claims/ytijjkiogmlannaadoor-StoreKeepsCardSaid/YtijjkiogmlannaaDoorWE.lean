/- Stores: what is lacking first with a plan, with an ice, in a winter: it is looked for, by the code. Stores: what was found for a plan is kept in a map: the map, and what is lacking first, by the code. -/
import Derived.Test.YtijjkiogmlannaaDoorWC
import Derived.Deep.MidRow
namespace Go.Proofs.YtijjkiogmlannaaDoor
open Go.RowKit

def srCv (n0 B q i n : Nat) (XV : Value) : Tmp → Value
  | 0 => .pointer (some ⟨B, 0, none⟩)
  | 3 => .pointer (some ⟨n0, 0, none⟩)
  | 10 => .pointer (some ⟨B, 0, none⟩)
  | 11 => .pointer (some ⟨B, 0, none⟩)
  | 12 => .pointer (some ⟨B, 0, none⟩)
  | 13 => XV
  | 14 => .pointer (some ⟨n0, 0, none⟩)
  | 15 => .int .i64 (q : Int)
  | 16 => .pointer (some ⟨n0, 1, none⟩)
  | 17 => .int .i64 (i : Int)
  | 18 => .pointer (some ⟨n0, 2, none⟩)
  | 19 => .int .i64 (n : Int)
  | _ => undef
/-- What the call leaves, and where the trace's box lies. -/
def srF (ns m2 : Nat) (L : List Gd) (Bs : Nat) : Nat → Value → World → Prop := fun j v W =>
  (j = 10 → ∃ D A2 c2 A3 c3, v = .agg #[.slice (some ⟨D, 0, none⟩) ns ns, .slice A2 m2 c2, .slice A3 L.length c3] ∧ GdsAt W W.heap.size A3 L) ∧
  (j = 11 → ∃ g, v = .pointer (some ⟨g, 0, none⟩) ∧ Bs ≤ g ∧ W.heap[g]? = some (.cells #[.slice none 0 0, .slice none 0 0, .slice none 0 0] 35 (0, 0)))
theorem srF_keep (ns m2 : Nat) (L : List Gd) (Bs : Nat) (j : Nat) (v : Value) (w1 w2 : World) (h : srF ns m2 L Bs j v w1) (hb : Below w1.heap.size w1 w2) : srF ns m2 L Bs j v w2 :=
  ⟨fun e => by
    obtain ⟨D, A2, c2, A3, c3, h1, h2⟩ := h.1 e
    exact ⟨D, A2, c2, A3, c3, h1, RowAt.up (k := 3) (R := gR) h2 hb⟩, fun e => by
    obtain ⟨g, h1, h2, h3⟩ := h.2 e
    exact ⟨g, h1, h2, (hb.block _ (heapsz h3)).trans h3⟩⟩
theorem srF_other {ns m2 : Nat} {L : List Gd} {Bs j : Nat} {v : Value} {w : World} (h1 : j ≠ 10) (h2 : j ≠ 11) : srF ns m2 L Bs j v w := ⟨fun e => absurd e h1, fun e => absurd e h2⟩
def fz : Array Value := #[.bool false, .int .i64 0, .int .i64 0, .int .i64 0, .int .i64 0]
def srL (n0 q i n : Nat) : List (Nat × Array Value × TypeId) := [(n0, #[.int .i64 (q : Int), .int .i64 (i : Int), .int .i64 (n : Int)], 130), (n0 + 1, fz, 48), (n0 + 1 + 1, fz, 48)]
theorem box5_cells {w : World} {B : Nat} {a b c d e : Value} {t : TypeId} (h : w.heap[B]? = some (.cells #[a, b, c, d, e] t (0, 0))) : (w.cell? ⟨B, 0, none⟩ = some a ∧ w.cell? ⟨B, 1, none⟩ = some b ∧ w.cell? ⟨B, 2, none⟩ = some c ∧ w.cell? ⟨B, 3, none⟩ = some d ∧ w.cell? ⟨B, 4, none⟩ = some e) ∧
    (w.frozen? ⟨B, 0, none⟩ = false ∧ w.frozen? ⟨B, 1, none⟩ = false ∧ w.frozen? ⟨B, 2, none⟩ = false ∧ w.frozen? ⟨B, 3, none⟩ = false ∧ w.frozen? ⟨B, 4, none⟩ = false) := by
  have c := fun k => cell_of_row w B k _ t (0, 0) h
  have f : ∀ k, w.frozen? ⟨B, k, none⟩ = false := fun k => by simp [World.frozen?, h]
  exact ⟨⟨c 0, c 1, c 2, c 3, c 4⟩, f 0, f 1, f 2, f 3, f 4⟩
theorem fill5 {w : World} {B : Nat} {a b c d e : Value} {t : TypeId} (h : w.heap[B]? = some (.cells #[a, b, c, d, e] t (0, 0))) (v0 v1 v2 v3 v4 : Value) :
    (((((w.setCell ⟨B, 0, none⟩ v0).setCell ⟨B, 1, none⟩ v1).setCell ⟨B, 2, none⟩ v2).setCell ⟨B, 3, none⟩ v3).setCell ⟨B, 4, none⟩ v4).heap[B]? = some (.cells #[v0, v1, v2, v3, v4] t (0, 0)) ∧
    (∀ j, j ≠ B → (((((w.setCell ⟨B, 0, none⟩ v0).setCell ⟨B, 1, none⟩ v1).setCell ⟨B, 2, none⟩ v2).setCell ⟨B, 3, none⟩ v3).setCell ⟨B, 4, none⟩ v4).heap[j]? = w.heap[j]?) ∧
    ∀ n, n ≤ B → Below n w (((((w.setCell ⟨B, 0, none⟩ v0).setCell ⟨B, 1, none⟩ v1).setCell ⟨B, 2, none⟩ v2).setCell ⟨B, 3, none⟩ v3).setCell ⟨B, 4, none⟩ v4) := by
  refine ⟨by simpa using blk_set (blk_set (blk_set (blk_set (blk_set h 0 v0) 1 v1) 2 v2) 3 v3) 4 v4, fun j hj => ?_, fun n hn => ?_⟩
  · exact (Below.heap_setCell _ _ _ _ hj).trans ((Below.heap_setCell _ _ _ _ hj).trans ((Below.heap_setCell _ _ _ _ hj).trans ((Below.heap_setCell _ _ _ _ hj).trans (Below.heap_setCell _ _ _ _ hj))))
  · exact (((((Below.refl n w).setCell (p := ⟨B, 0, none⟩) hn _).setCell (p := ⟨B, 1, none⟩) hn _).setCell (p := ⟨B, 2, none⟩) hn _).setCell (p := ⟨B, 3, none⟩) hn _).setCell (p := ⟨B, 4, none⟩) hn _
theorem flt_info : (Tryd.prog.info? 48).map (·.size) = some 5 := by kernel_rfl
theorem one5 {v0 v1 v2 v3 v4 : Value} (hv : v0.oneCell' = true ∧ v1.oneCell' = true ∧ v2.oneCell' = true ∧ v3.oneCell' = true ∧ v4.oneCell' = true) : (#[v0, v1, v2, v3, v4] : Array Value).all (·.oneCell') = true :=
  all_oneCell_toArray (cs := [v0, v1, v2, v3, v4]) (fun v hm => by
    obtain ⟨h0, h1, h2, h3, h4⟩ := hv
    simp only [List.mem_cons, List.not_mem_nil, or_false] at hm
    rcases hm with rfl | rfl | rfl | rfl | rfl <;> assumption)
theorem store5 {w : World} {B : Nat} {a b c d e : Value} {t : TypeId} (h : w.heap[B]? = some (.cells #[a, b, c, d, e] t (0, 0))) (v0 v1 v2 v3 v4 : Value) :
    ∃ w', w.setCells B 0 (#[v0, v1, v2, v3, v4] : Array Value).toList = w' ∧ w.there B 0 (#[v0, v1, v2, v3, v4] : Array Value).size ∧ w'.heap[B]? = some (.cells #[v0, v1, v2, v3, v4] t (0, 0)) ∧ (∀ j, j ≠ B → w'.heap[j]? = w.heap[j]?) ∧ (∀ n, n ≤ B → Below n w w') ∧ w'.heap.size = w.heap.size := by
  obtain ⟨f1, f2, f3⟩ := fill5 h v0 v1 v2 v3 v4
  refine ⟨_, rfl, fun j hj => ?_, f1, f2, f3, by simp [World.setCells, World.setCell]⟩
  obtain ⟨⟨c0, c1, c2, c3, c4⟩, g0, g1, g2, g3, g4⟩ := box5_cells h
  have hj5 : j < 5 := hj
  rcases (show j = 0 ∨ j = 1 ∨ j = 2 ∨ j = 3 ∨ j = 4 by omega) with rfl | rfl | rfl | rfl | rfl <;> simp_all
theorem lackG_at {g : Gd} {m : Nat} (hm : m < 3) (hp : 0 < g.at m) (hn : ∀ r, r < m → g.at r ≤ 0) : lackG g = some m := by
  unfold lackG
  rcases (show m = 0 ∨ m = 1 ∨ m = 2 by omega) with rfl | rfl | rfl
  · rw [if_pos (show 0 < g.a from hp)]
  · have h0 : g.a ≤ 0 := hn 0 (by omega)
    rw [if_neg (by omega), if_pos (show 0 < g.b from hp)]
  · have h0 : g.a ≤ 0 := hn 0 (by omega)
    have h1 : g.b ≤ 0 := hn 1 (by omega)
    rw [if_neg (by omega), if_neg (by omega), if_pos (show 0 < g.c from hp)]
section
attribute [local irreducible] QT
set_option maxRecDepth 100000 in
set_option maxHeartbeats 8000000 in
theorem search_any {X : SX} {w0 w : World} {B M : Nat} (h : LkAt X w0 B M w) (hX : X.In w0) (K : X.S.Ok) (q i n : Nat) (hq : q < 2 ^ X.ns) (hi : i < X.ni) (hn : n < X.nw) :
    Calls Tryd.prog 94 #[.pointer (some ⟨B, 0, none⟩), keyV q i n] w fun e w' => e = .returned (fltV i n (X.S.lackO q i n)) ∧ Below w.heap.size w w' := by
  rcases X with ⟨S, AS, ns, cs, AI, ni, ci, AW, nw, cw⟩
  obtain ⟨T, hT⟩ : ∃ z, S.run q (S.ices.getD i []) (S.wins.getD n []) = z := ⟨_, rfl⟩
  obtain ⟨L, hL⟩ : ∃ z, T.lacks = z := ⟨_, rfl⟩
  have hLK : S.lackO q i n = lackL L := by unfold Sto.lackO; rw [hT, hL]
  show Calls _ _ _ _ fun e w' => e = .returned (fltV i n (S.lackO q i n)) ∧ Below w.heap.size w w'
  rw [hLK]
  have HT := Lib.hid hT; have HL := Lib.hid hL; have HQ := Lib.hid (And.intro hq (And.intro hi hn))
  obtain ⟨z0, z1, z2, hb3⟩ := three_new w (.cells #[.int .i64 (q : Int), .int .i64 (i : Int), .int .i64 (n : Int)] 130) (.cells fz 48) (.cells fz 48)
  obtain ⟨w3, hw3⟩ : ∃ z, ((w.alloc (.cells #[.int .i64 (q : Int), .int .i64 (i : Int), .int .i64 (n : Int)] 130)).alloc (.cells fz 48)).alloc (.cells fz 48) = z := ⟨_, rfl⟩
  rw [hw3] at z0 z1 z2 hb3
  have HI : Hid (FI w.heap.size w (srL w.heap.size q i n) w3) := Lib.hid ⟨hb3, fun x hx => by
    simp only [srL, List.mem_cons, List.not_mem_nil, or_false] at hx
    rcases hx with rfl | rfl | rfl
    · exact z0
    · exact z1
    · exact z2⟩
  have HLK := Lib.hid (h.up hb3); have HXX := Lib.hid hX; have HK := Lib.hid K; have HW3 := Lib.hid hw3
  have HLen : Hid (L.length ≤ 30 ∧ ∀ g ∈ L, True) := Lib.hid ⟨by
    have hwn : S.wins.getD n [] ∈ S.wins := by
      rw [List.getD_eq_getElem?_getD, List.getElem?_eq_getElem (by have := hX.hw; simp only at this hn; omega), Option.getD_some]
      exact List.getElem_mem _
    have := (runN_ok K (plan := q) (ice := S.ices.getD i []) (K.wins _ hwn).2 S.weeks.toNat).ll
    have h2 := K.weeks
    simp only at h2
    rw [← hL, ← hT]
    show (S.runN q (S.ices.getD i []) (S.wins.getD n []) S.weeks.toNat).lacks.length ≤ 30
    rw [this]
    omega, fun _ _ => trivial⟩
  clear z0 z1 z2 hb3 h hX K hw3 hq hi hn hT hL hLK
  unfold keyV
  unfold fz at HW3
  go_enter Tryd.func94, Tryd.ntmps94
  go_wp2_with fail
  go_step3
  go_wp2_with fail
  rw [HW3.out]
  apply tail_regionX
  case hs => exact (rfl : _ = [_, _, _, _, _, _, _, _, _, _, _, _] ++ [_])
  case hm => kernel_rfl
  case hT => kernel_rfl
  refine rel_any [0, 3] [(20, 10), (6, 11)] (srCv w.heap.size B q i n (SX.v ⟨S, AS, ns, cs, AI, ni, ci, AW, nw, cw⟩)) (srF ns T.stocks.length L w3.heap.size) (by kernel_rfl) (by kernel_rfl) (by kernel_rfl) (by kernel_rfl) (by kernel_rfl) ?_ (srF_keep _ _ _ _) ?_ ?_
  · intro t ht
    simp only [List.mem_cons, List.not_mem_nil, or_false] at ht
    rcases ht with rfl | rfl <;> rfl
  · refine allOps_array ?_
    have hp : ∀ u : KeptW w3, _ := fun u => lk_cells (HLK.out.up u.h)
    have hX2 : ∀ u : KeptW w3, SX.In ⟨S, AS, ns, cs, AI, ni, ci, AW, nw, cw⟩ u.w := fun u => (HLK.out.up u.h).xin HXX.out
    have hk : ∀ u : KeptW w3, _ := fun u => box3_cells ((HI.out.up HI.out.bel.size u.h).fix (w.heap.size, #[.int .i64 (q : Int), .int .i64 (i : Int), .int .i64 (n : Int)], 130) (by simp [srL]))
    refine ⟨?_, ?_, ?_, ?_, ?_, ?_, ?_, ?_, ?_, ?_, ?_, ?_, trivial⟩ <;> intro g u hd_ <;> obtain ⟨⟨s0, s1, s2⟩, ⟨s3, s4, s5⟩, ⟨s6, s7, s8⟩, s9, s10, s11, _⟩ := hp u <;> obtain ⟨x0, x1, x2⟩ := hk u <;> simp only at s0 s1 s2 s3 s4 s5 s6 s7 s8 s9 s10 s11 x0 x1 x2
    · refine ⟨rfl, relQ 10 rfl (srF_other (by decide) (by decide)) ?_⟩
      simp [go_sem, evalBy, rhoT, relOf, srCv]
    · refine ⟨rfl, relQ 11 rfl (srF_other (by decide) (by decide)) ?_⟩
      simp [go_sem, evalBy, rhoT, relOf, srCv]
    · refine ⟨rfl, relQ 12 rfl (srF_other (by decide) (by decide)) ?_⟩
      simp [go_sem, evalBy, rhoT, relOf, srCv]
    · refine ⟨rfl, relQ 13 rfl (srF_other (by decide) (by decide)) ?_⟩
      simp [go_sem, evalBy, rhoT, relOf, srCv, s0, s1, s2, s3, s4, s5, s6, s7, s8, s9, s10, s11]
    · refine ⟨rfl, relQ 14 rfl (srF_other (by decide) (by decide)) ?_⟩
      simp [go_sem, evalBy, rhoT, relOf, srCv]
    · refine ⟨rfl, relQ 15 rfl (srF_other (by decide) (by decide)) ?_⟩
      simp [go_sem, evalBy, rhoT, relOf, srCv, x0]
    · refine ⟨rfl, relQ 16 rfl (srF_other (by decide) (by decide)) ?_⟩
      simp [go_sem, evalBy, rhoT, relOf, srCv]
    · refine ⟨rfl, relQ 17 rfl (srF_other (by decide) (by decide)) ?_⟩
      simp [go_sem, evalBy, rhoT, relOf, srCv, x1]
    · refine ⟨rfl, relQ 18 rfl (srF_other (by decide) (by decide)) ?_⟩
      simp [go_sem, evalBy, rhoT, relOf, srCv]
    · refine ⟨rfl, relQ 19 rfl (srF_other (by decide) (by decide)) ?_⟩
      simp [go_sem, evalBy, rhoT, relOf, srCv, x2]
    · refine ⟨rfl, relC 47 #[SX.v ⟨S, AS, ns, cs, AI, ni, ci, AW, nw, cw⟩, .int .i64 (q : Int), .int .i64 (i : Int), .int .i64 (n : Int)] (by simp [go_sem, evalBy, rhoT, relOf, srCv]) ?_⟩
      refine (run_any (hX2 u) HK.out q i n HQ.out.1 HQ.out.2.1 HQ.out.2.2).mono ?_
      rintro e w' ⟨D, A2, c2, A3, c3, rfl, hb, _, _, g3⟩
      simp only at g3
      refine ⟨_, rfl, hb, ⟨fun _ => ⟨D, A2, c2, A3, c3, by rw [HT.out, HL.out], by rw [HT.out, HL.out] at g3; exact g3⟩, fun h => absurd h (by decide)⟩, fun d hd hn => ?_⟩
      injection hd with hd
      subst hd
      exact absurd hn (by simp [relOf])
    · refine ⟨rfl, relA (.pointer (some ⟨u.w.heap.size, 0, none⟩)) (.cells #[.slice none 0 0, .slice none 0 0, .slice none 0 0] 35) (fun d hd => by injection hd with hd; subst hd; simp [relOf]) (by simp [go_sem]) ⟨fun h => absurd h (by decide), fun _ => ⟨_, rfl, u.h.size, heap_alloc_new _ _⟩⟩⟩
  · intro g u hf
    obtain ⟨D, A2, c2, A3, c3, e20, g3⟩ := (hf 10 (by decide)).1 rfl
    obtain ⟨Z, e6, bz, z6⟩ := (hf 11 (by decide)).2 rfl
    obtain ⟨y0, y1, y2⟩ := box3_cells z6
    have fZ : ∀ k, u.w.frozen? ⟨Z, k, none⟩ = false := fun k => by simp [World.frozen?, z6]
    have f0 := fZ 0; have f1 := fZ 1; have f2 := fZ 2
    have hIu := HI.out.up HI.out.bel.size u.h
    have o9 := set3_only u.w Z 0 (.slice (some ⟨D, 0, none⟩) ns ns) (.slice A2 T.stocks.length c2) (.slice A3 L.length c3)
    have z9 := blk_set (blk_set (blk_set z6 0 (.slice (some ⟨D, 0, none⟩) ns ns)) 1 (.slice A2 T.stocks.length c2)) 2 (.slice A3 L.length c3)
    have hIb := ((hIu.bel.setCell (p := ⟨Z, 0, none⟩) (Nat.le_trans HI.out.bel.size bz) (.slice (some ⟨D, 0, none⟩) ns ns)).setCell (p := ⟨Z, 1, none⟩) (Nat.le_trans HI.out.bel.size bz) (.slice A2 T.stocks.length c2)).setCell (p := ⟨Z, 2, none⟩) (Nat.le_trans HI.out.bel.size bz) (.slice A3 L.length c3)
    obtain ⟨wu, hwu⟩ : ∃ z, u.w = z := ⟨_, rfl⟩
    rw [hwu] at g3 z6 y0 y1 y2 f0 f1 f2 hIu o9 z9 hIb ⊢
    simp only [QT]
    unfold Oper.wp
    simp [go_sem, putAll, Act.put, rhoT, relOf, srCv, e20, e6, y0, y1, y2, f0, f1, f2]
    simp only [Nat.zero_add] at o9
    have G4 := gds_set g3 z6 o9.2
    rw [← o9.1.2.2.2] at G4
    have HI4 : FI w.heap.size w (srL w.heap.size q i n) _ := ⟨hIb, fun x hx => (o9.2 x.1 (by
      have h3 : x.1 < w3.heap.size := heapsz (HI.out.fix x hx)
      omega)).trans (hIu.fix x hx)⟩
    obtain ⟨w4, hw4⟩ : ∃ z, ((wu.setCell ⟨Z, 0, none⟩ (.slice (some ⟨D, 0, none⟩) ns ns)).setCell ⟨Z, 1, none⟩ (.slice A2 T.stocks.length c2)).setCell ⟨Z, 2, none⟩ (.slice A3 L.length c3) = z := ⟨_, rfl⟩
    rw [hw4] at G4 HI4 z9 ⊢
    have y2 := cell_of_row w4 Z 2 _ 35 (0, 0) z9
    simp at y2
    have HG4 := Lib.hid G4; have HI4' := Lib.hid HI4
    clear hf hwu hw4 o9 hIu hIb z9 z6 g3 G4 HI4 fZ f0 f1 f2 e20 e6 y0 y1
    have HN : Hid (w.heap.size + 1 + 1 < w4.heap.size) := Lib.hid (heapsz (HI4'.out.fix (w.heap.size + 1 + 1, fz, 48) (by simp [srL])))
    go_wp2_with fail
    go_step3
    go_wp2_with fail
    go_loopw [24] (fun k wr => ∃ t : Nat, t ≤ L.length ∧ k = .int .i64 t ∧ Below w4.heap.size w4 wr ∧ ∀ v, v < t → noG (L.getD v z3)) (fun k _ => L.length - (intOf k).toNat)
    case atStart => exact ⟨0, Nat.zero_le _, rfl, Below.refl _ _, fun _ h => absurd h (Nat.not_lt_zero _)⟩
    case round =>
      clear y2
      obtain ⟨t, ht, rfl, hbr, hno⟩ := hrel
      have HNO := Lib.hid hno
      have HBR := Lib.hid hbr
      have hl30 := HLen.out.1
      by_cases hlt : t < L.length
      · have ht0 : (0 : Int) ≤ (t : Int) := by omega
        have ht1 : (t : Int) < (L.length : Int) := by omega
        obtain ⟨g, hg⟩ := get_of_lt hlt
        have HGE : Hid (L.getD t z3 = g) := Lib.hid (by rw [List.getD_eq_getElem?_getD, hg]; rfl)
        obtain ⟨b, o, rfl, hb, c0, c1, c2⟩ := gds_el (RowAt.up (k := 3) (R := gR) HG4.out hbr) hg
        obtain ⟨w6, hw6⟩ : ∃ z, wr.alloc (.cells (gC g) 23) = z := ⟨_, rfl⟩
        have z6 := heap_alloc_new wr (.cells (gC g) 23)
        have hb6 := hbr.trans (((Below.refl _ _).alloc (Nat.le_refl _) (.cells (gC g) 23)).mono hbr.size)
        rw [hw6] at z6 hb6
        have HW6 := Lib.hid hw6; have Z6 := Lib.hid z6; have HB6 := Lib.hid hb6
        clear hbr hno hg hw6 z6 hb6
        go_wp2_with fail
        rw [HW6.out]
        go_loopw [29] (fun j wq => ∃ m : Nat, m ≤ 3 ∧ j = .int .i64 m ∧ w6 = wq ∧ ∀ r, r < m → g.at r ≤ 0) (fun j _ => 3 - (intOf j).toNat)
        case atStart => exact ⟨0, by omega, rfl, rfl, fun _ h => absurd h (Nat.not_lt_zero _)⟩
        case round =>
          obtain ⟨m, hm, rfl, rfl, hle⟩ := hrel
          have HLE := Lib.hid hle
          clear hle
          by_cases hm3 : m < 3
          · have hm0 : (0 : Int) ≤ (m : Int) := by omega
            have hm1 : (m : Int) < 3 := by omega
            have c6 := g_at Z6.out hm3
            obtain ⟨v, hv⟩ : ∃ z, g.at m = z := ⟨_, rfl⟩
            rw [hv] at c6
            have HV := Lib.hid hv
            clear hv
            by_cases hpos : 0 < v
            · have HR : Hid (lackL L = some (t, m)) := Lib.hid (lackL_at hlt (by rw [HGE.out]; exact lackG_at hm3 (by rw [HV.out]; exact hpos) HLE.out) HNO.out)
              have hfi := HI4'.out.up HI4'.out.bel.size HB6.out
              obtain ⟨k0, k1, k2⟩ := box3_cells (hfi.fix (w.heap.size, #[.int .i64 (q : Int), .int .i64 (i : Int), .int .i64 (n : Int)], 130) (by simp [srL]))
              have zA := hfi.fix (w.heap.size + 1, fz, 48) (by simp [srL])
              have zB := hfi.fix (w.heap.size + 1 + 1, fz, 48) (by simp [srL])
              simp only [fz] at zA zB
              obtain ⟨w7, hs7, ht7, z7, o7, hb7, _⟩ := store5 zB (.bool true) (.int .i64 (i : Int)) (.int .i64 (n : Int)) (.int .i64 (t : Int)) (.int .i64 (m : Int))
              obtain ⟨⟨b0, b1, b2, b3, b4⟩, _⟩ := box5_cells z7
              obtain ⟨w8, hs8, ht8, z8, _, hb8, _⟩ := store5 ((o7 (w.heap.size + 1) (by omega)).trans zA) (.bool true) (.int .i64 (i : Int)) (.int .i64 (n : Int)) (.int .i64 (t : Int)) (.int .i64 (m : Int))
              obtain ⟨⟨e0, e1, e2, e3, e4⟩, _⟩ := box5_cells z8
              have HBF := Lib.hid ((hfi.bel.trans (hb7 w.heap.size (by omega))).trans (hb8 w.heap.size (by omega)))
              have HS7 := Lib.hid hs7; have HT7 := Lib.hid ht7; have HS8 := Lib.hid hs8; have HT8 := Lib.hid ht8
              clear hfi zA zB z7 o7 hb7 z8 hb8 k0 hs7 ht7 hs8 ht8
              go_wp2_with (first
                | (refine wpList_store_mid rfl 48 _ _ rfl (w.heap.size + 1 + 1) 0 #[.bool true, .int .i64 (i : Int), .int .i64 (n : Int), .int .i64 (t : Int), .int .i64 (m : Int)] (by rfl) (by rfl) HT7.out flt_info (one5 ⟨rfl, rfl, rfl, rfl, rfl⟩) ?_; rw [HS7.out])
                | (refine wpList_store_mid rfl 48 _ _ rfl (w.heap.size + 1) 0 #[.bool true, .int .i64 (i : Int), .int .i64 (n : Int), .int .i64 (t : Int), .int .i64 (m : Int)] (by rfl) (by rfl) HT8.out flt_info (one5 ⟨rfl, rfl, rfl, rfl, rfl⟩) ?_; rw [HS8.out])
                | fail)
              try rw [Exit.noGoto_ret]
              exact bodyPost_ret (v := .agg #[.bool true, .int .i64 (i : Int), .int .i64 (n : Int), .int .i64 (t : Int), .int .i64 (m : Int)]) (by simp [results, Tryd.results94, go_sem, e0, e1, e2, e3, e4]) rfl ⟨by rw [HR.out]; rfl, HBF.out⟩
            · have hv0 : v ≤ 0 := by omega
              have HV0 := Lib.hid hv0
              go_wp2_with fail
              exact ⟨⟨m + 1, by omega, by go_num, (by first | rfl | trivial), fun r hr => by
                rcases Nat.lt_or_ge r m with h | h
                · exact HLE.out r h
                · rw [show r = m by omega, HV.out]; exact HV0.out⟩, by simp [intOf]; omega⟩
          · have hm33 : m = 3 := by omega
            subst hm33
            have HG0 : Hid (noG g) := Lib.hid ⟨HLE.out 0 (by omega), HLE.out 1 (by omega), HLE.out 2 (by omega)⟩
            go_wp2_with fail
            exact ⟨⟨t + 1, by omega, by go_num, HB6.out, fun v hv => by
              rcases Nat.lt_or_ge v t with h | h
              · exact HNO.out v h
              · rw [show v = t by omega, HGE.out]; exact HG0.out⟩, by simp [intOf]; omega⟩
      · have hte : t = L.length := by omega
        subst hte
        have HR : Hid (lackL L = none) := Lib.hid (lackL_none.2 fun x hx => by
          obtain ⟨j, hj, rfl⟩ := List.getElem_of_mem hx
          have := hno j hj
          rwa [List.getD_eq_getElem?_getD, List.getElem?_eq_getElem hj, Option.getD_some] at this)
        have hfi := HI4'.out.up HI4'.out.bel.size hbr
        have zA := hfi.fix (w.heap.size + 1, fz, 48) (by simp [srL])
        have zB := hfi.fix (w.heap.size + 1 + 1, fz, 48) (by simp [srL])
        simp only [fz] at zA zB
        obtain ⟨⟨a0, a1, a2, a3, a4⟩, _⟩ := box5_cells zB
        obtain ⟨w8, hs8, ht8, z8, _, hb8, _⟩ := store5 zA (.bool false) (.int .i64 0) (.int .i64 0) (.int .i64 0) (.int .i64 0)
        obtain ⟨⟨e0, e1, e2, e3, e4⟩, _⟩ := box5_cells z8
        have HBF := Lib.hid (hfi.bel.trans (hb8 w.heap.size (by omega)))
        have HS8 := Lib.hid hs8; have HT8 := Lib.hid ht8
        clear hfi zA zB z8 hb8 hno hbr hs8 ht8
        go_wp2_with (first
          | (refine wpList_store_mid rfl 48 _ _ rfl (w.heap.size + 1) 0 #[.bool false, .int .i64 0, .int .i64 0, .int .i64 0, .int .i64 0] (by rfl) (by rfl) HT8.out flt_info (one5 ⟨rfl, rfl, rfl, rfl, rfl⟩) ?_; rw [HS8.out])
          | fail)
        try rw [Exit.noGoto_ret]
        exact bodyPost_ret (v := .agg #[.bool false, .int .i64 0, .int .i64 0, .int .i64 0, .int .i64 0]) (by simp [results, Tryd.results94, go_sem, e0, e1, e2, e3, e4]) rfl ⟨by rw [HR.out]; rfl, HBF.out⟩
end
end Go.Proofs.YtijjkiogmlannaaDoor

namespace Go
section
variable {P : Program}
theorem exec_store_mid {o : Oper} {ev : Operand → Value} {w : World} (ty : TypeId) (x y : Operand) (ho : o.op = .store ty x y) (b : Nat) (cells : Array Value) (hx : ev x = .pointer (some ⟨b, 0, none⟩)) (hy : ev y = .agg cells)
    (ht : w.there b 0 cells.size) (hi : (P.info? ty).map (·.size) = some cells.size) (h1 : cells.all (·.oneCell') = true) : (execOp ev o).run P w = .ok .skip (w.setCells b 0 cells.toList) := by
  unfold execOp
  simp only [ho, hx, hy, Instr.storeAt, Instr.sureAddr, Sem.run_bind, Sem.run_pure, Result.andThen_ok, run_storeVar_mid w b 0 ty cells ht hi h1]
end
end Go
namespace Go.Proofs.YtijjkiogmlannaaDoor
open Go.RowKit
open Go.Maps (Keyed)
open Go.ChangeMaps (setBlock heap_setBlock_same heap_setBlock_other)

/-! ### A box that is made and filled in a statement whose order is left open -/
structure NewA (w0 : World) (ai si : Nat) (T : TypeId) (ov nv : Array Value) (done : Nat → Bool) (g : Nat) (w' : World) : Prop where
  keep : Below w0.heap.size w0 w'
  ord : done si = true → done ai = true
  box : done ai = true → w0.heap.size ≤ g ∧ w'.heap[g]? = some (.cells (if done si then nv else ov) T (0, 0))
section
variable {w0 w : World} {ai si : Nat} {T : TypeId} {ov nv : Array Value} {done : Nat → Bool} {ops : Array Oper} {cv : Nat → Tmp → Value} {i g : Nat} {o : Oper}
abbrev AskN (w0 : World) (ai si : Nat) (T : TypeId) (ov nv : Array Value) (ops : Array Oper) (cv : Nat → Tmp → Value) (done : Nat → Bool) (g : Nat) (w : World) (i : Nat) (o : Oper) : Prop :=
  Region.wanted o (yieldedBy ops (cv g)) = true ∧ Yield Tryd.prog (fun v w' => ∃ g', NewA w0 ai si T ov nv (updB done i) g' w' ∧ (∀ d, o.dst = some d → cv g' d = v) ∧ ∀ t, o.dst ≠ some t → cv g' t = cv g t) ((execOp (evalBy (cv g)) o).run Tryd.prog w)
theorem NewA.step (h : NewA w0 ai si T ov nv done g w) {w' : World} (hb : Below w.heap.size w w') (hi : i ≠ si) (ha : i ≠ ai) : NewA w0 ai si T ov nv (updB done i) g w' := by
  have e1 : updB done i si = done si := by simp [updB, Ne.symm hi]
  have e2 : updB done i ai = done ai := by simp [updB, Ne.symm ha]
  refine ⟨h.keep.trans (hb.mono h.keep.size), ?_, fun hd => ?_⟩
  · rw [e1, e2]
    exact h.ord
  · rw [e2] at hd
    rw [e1]
    exact ⟨(h.box hd).1, (hb.block _ (heapszO (h.box hd).2)).trans (h.box hd).2⟩
theorem quietN (h : NewA w0 ai si T ov nv done g w) (d : Tmp) (hd : o.dst = some d) (hi : i ≠ si) (ha : i ≠ ai) (hg : Region.wanted o (yieldedBy ops (cv g)) = true)
    (he : (execOp (evalBy (cv g)) o).run Tryd.prog w = .ok (.value (cv g d)) w) : AskN w0 ai si T ov nv ops cv done g w i o := by
  refine ⟨hg, ?_⟩
  rw [he]
  exact ⟨g, h.step (Below.refl _ _) hi ha, fun e hE => by rw [hd] at hE; injection hE with hE; subst hE; rfl, fun _ _ => rfl⟩
theorem callN (h : NewA w0 ai si T ov nv done g w) (d : Tmp) (hd : o.dst = some d) (hi : i ≠ si) (ha : i ≠ ai) (hg : Region.wanted o (yieldedBy ops (cv g)) = true) (f : FuncId) (args : Array Value)
    (he : (execOp (evalBy (cv g)) o).run Tryd.prog w = .ok (.enter f args) w) (hc : Calls Tryd.prog f args w fun e w' => e = .returned (cv g d) ∧ Below w.heap.size w w') : AskN w0 ai si T ov nv ops cv done g w i o := by
  refine ⟨hg, ?_⟩
  rw [he]
  show Calls Tryd.prog f args w _
  refine hc.mono ?_
  rintro e w' ⟨rfl, hb⟩
  exact ⟨_, rfl, g, h.step hb hi ha, fun e hE => by rw [hd] at hE; injection hE with hE; subst hE; rfl, fun _ _ => rfl⟩
theorem allocN (h : NewA w0 ai si T ov nv done g w) (d : Tmp) (hd : o.dst = some d) (hu : done ai = false) (hne : ai ≠ si) (hg : Region.wanted o (yieldedBy ops (cv g)) = true)
    (hcd : ∀ g', cv g' d = .pointer (some ⟨g', 0, none⟩)) (hct : ∀ g' t, t ≠ d → cv g' t = cv g t)
    (he : (execOp (evalBy (cv g)) o).run Tryd.prog w = .ok (.value (.pointer (some ⟨w.heap.size, 0, none⟩))) (w.alloc (.cells ov T))) : AskN w0 ai si T ov nv ops cv done g w ai o := by
  refine ⟨hg, ?_⟩
  rw [he]
  have hs : done si = false := by
    cases hq : done si with
    | false => rfl
    | true => exact absurd (h.ord hq) (by rw [hu]; exact Bool.false_ne_true)
  refine ⟨w.heap.size, ⟨h.keep.alloc h.keep.size _, fun _ => by simp [updB], fun _ => ⟨h.keep.size, ?_⟩⟩, fun e hE => by rw [hd] at hE; injection hE with hE; subst hE; exact hcd _, fun t ht => hct _ t (fun e => ht (by rw [hd, e]))⟩
  have e1 : updB done ai si = false := by simp [updB, Ne.symm hne, hs]
  rw [e1]
  exact heap_alloc_new w _
theorem storeN (h : NewA w0 ai si T ov nv done g w) (hd : o.dst = none) (ha : done ai = true) (hu : done si = false) (hg : Region.wanted o (yieldedBy ops (cv g)) = true)
    (he : w.heap[g]? = some (.cells ov T (0, 0)) → ∃ w2, (execOp (evalBy (cv g)) o).run Tryd.prog w = .ok .skip w2 ∧ (∀ n, n ≤ g → Below n w w2) ∧ w2.heap[g]? = some (.cells nv T (0, 0))) : AskN w0 ai si T ov nv ops cv done g w si o := by
  refine ⟨hg, ?_⟩
  obtain ⟨hge, hb⟩ := h.box ha
  rw [hu] at hb
  obtain ⟨w2, hr, hbb, hz⟩ := he hb
  rw [hr]
  refine ⟨g, ⟨h.keep.trans (hbb _ hge), fun _ => upd_true ha, fun _ => ⟨hge, ?_⟩⟩, fun e hE => by rw [hd] at hE; exact absurd hE (by simp), fun _ _ => rfl⟩
  have e1 : updB done si si = true := by simp [updB]
  rw [e1]
  exact hz
end

/-! ### The map -/
theorem laid_out : laidOutB Tryd.prog = true := by kernel_rfl
theorem key_row : 130 < Tryd.prog.types.size := of_decide_eq_true (by kernel_rfl)
theorem key_type : Tryd.prog.keyTypeAt 2 130 = true := by kernel_rfl
set_option maxRecDepth 100000 in
theorem key_law : Keyed Tryd.prog 130 := Keyed.of_law (deep_law_laid laid_out (m := 2) (by omega) key_row key_type (by rw [Tryd.underlying130]))
set_option maxRecDepth 100000 in
theorem key_all : ∀ p, p < 64 → ∀ i, i < 4 → ∀ n, n < 4 → (keyOf Tryd.prog 130 (keyV p i n)).isSome = true := by decide +kernel
theorem key_of {p i n : Nat} (h : p < 64 ∧ i < 4 ∧ n < 4) : ∃ l, keyOf Tryd.prog 130 (keyV p i n) = some l := Option.isSome_iff_exists.1 (key_all p h.1 i h.2.1 n h.2.2)
theorem memo_key {X : SX} {es : Array MapEntry} (h : MemoOk X es) : ∀ e ∈ es.toList, ∃ l, keyOf Tryd.prog 130 e.key = some l := fun e he => by
  obtain ⟨p, i, n, hb, hk, _⟩ := h e he
  rw [hk]
  exact key_of hb
theorem memo_val {X : SX} {es : Array MapEntry} (h : MemoOk X es) {e : MapEntry} (he : e ∈ es.toList) {p i n : Nat} (hk : e.key = keyV p i n) : e.val = fltV i n (X.S.lackO p i n) := by
  obtain ⟨p', i', n', _, hk', hv⟩ := h e he
  obtain ⟨rfl, rfl, rfl⟩ := keyV_inj (hk'.symm.trans hk)
  exact hv
/-- What is found under a key. -/
theorem memo_look {X : SX} {es : Array MapEntry} (ho : MemoOk X es) {p i n : Nat} (hb : p < 64 ∧ i < 4 ∧ n < 4) (M c : Nat) :
    (∀ W : World, W.heap[M]? = some (.map es c) → (Instr.lookup 102 (.map (some M)) (keyV p i n) true).run Tryd.prog W = .ok (.tuple #[fltV i n (X.S.lackO p i n), .bool true]) W) ∨
    ((∀ W : World, W.heap[M]? = some (.map es c) → (Instr.lookup 102 (.map (some M)) (keyV p i n) true).run Tryd.prog W = .ok (.tuple #[fltV 0 0 none, .bool false]) W) ∧ ∀ e ∈ es.toList, e.key ≠ keyV p i n) := by
  obtain ⟨kl, hkey⟩ := key_of hb
  by_cases hin : ∃ e ∈ es.toList, e.key = keyV p i n
  · refine .inl fun W hW => ?_
    rcases key_law.find W hkey es.toList (memo_key ho) with ⟨h1, h2⟩ | ⟨j, e0, h1, h2, h3⟩
    · obtain ⟨e, he, hk⟩ := hin
      exact absurd hk (h2 e he)
    · have hv := memo_val ho (List.mem_of_getElem? h2) h3
      simp [Instr.lookup, run_underlying Tryd.underlying102, MapKept.run_getObj_map hW, key_law.check W _ hkey, h1, Result.andThen, hv]
  · refine .inr ⟨fun W hW => ?_, fun e he hk => hin ⟨e, he, hk⟩⟩
    rcases key_law.find W hkey es.toList (memo_key ho) with ⟨h1, h2⟩ | ⟨j, e0, h1, h2, h3⟩
    · simp [Instr.lookup, run_underlying Tryd.underlying102, MapKept.run_getObj_map hW, key_law.check W _ hkey, h1, Result.andThen, fltV, go_sem]
    · exact absurd ⟨e0, List.mem_of_getElem? h2, h3⟩ hin
theorem memo_put {X : SX} {w : World} {M c : Nat} {es : Array MapEntry} (hm : w.heap[M]? = some (.map es c)) (ho : MemoOk X es) {p i n : Nat} (hb : p < 64 ∧ i < 4 ∧ n < 4) (hne : ∀ e ∈ es.toList, e.key ≠ keyV p i n) :
    ∃ w2, (Instr.mapUpdate 102 (.map (some M)) (keyV p i n) (fltV i n (X.S.lackO p i n))).run Tryd.prog w = .ok () w2 ∧ w.grownBy w2 (some M) ∧ w2.heap.size = w.heap.size ∧ ∃ es' c', w2.heap[M]? = some (.map es' c') ∧ MemoOk X es' := by
  obtain ⟨kl, hkey⟩ := key_of hb
  rcases key_law.find w hkey es.toList (memo_key ho) with ⟨h1, h2⟩ | ⟨j, e0, h1, h2, h3⟩
  · refine ⟨setBlock w M (.map (es.push ⟨keyV p i n, fltV i n (X.S.lackO p i n), c⟩) (c + 1)), ?_, ⟨rfl, rfl, rfl, by simp [setBlock], fun k _ hk => heap_setBlock_other hm _ (fun e => hk (by rw [e]))⟩, by simp [setBlock], _, _, heap_setBlock_same hm _, fun e he => ?_⟩
    · simp [Instr.mapUpdate, run_underlying Tryd.underlying102, MapKept.run_getObj_map hm, key_law.check w false hkey, h1, MapKept.run_setObj_map _ hm, Result.andThen, setBlock]
    · simp only [Array.toList_push, List.mem_append, List.mem_singleton] at he
      rcases he with he | rfl
      · exact ho e he
      · exact ⟨p, i, n, hb, rfl, rfl⟩
  · exact absurd h3 (hne e0 (List.mem_of_getElem? h2))
end Go.Proofs.YtijjkiogmlannaaDoor
