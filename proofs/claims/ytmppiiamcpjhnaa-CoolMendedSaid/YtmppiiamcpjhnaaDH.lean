/- Coolers: how much more cold houses are given than they need. -/
import Derived.Test.YtmppiiamcpjhnaaDJ
import Derived.Test.YtmppiiamcpjhnaaDC
namespace Go.Proofs.Ytmppiiamcpjhnaa
open Go.RowKit Go.Shelf

def plaE (T : Tn) (X : Tu) (cs : List Int) : Int := if coolI T cs = 0 then (if truB T X then 0 else 2) else 2
def plaL (T : Tn) (X : Tu) (cs : List Int) : List Int := if coolI T cs = 0 then (if truB T X then ovL T X cs else []) else []
theorem sumA_eq {T : Tn} {X : Tu} {cs : List Int} (K : TnOk T) (hC : coolB T cs = true) (h : Nat) : ((sitL ((setI cs : Nat) : Int)).map fun x => givA X h x).sum = sumA X cs h := by
  have e := cool_sit K hC
  unfold sumA
  conv => rhs; rw [← e]
  unfold sitZ
  rw [List.map_map]
  rfl
def plCv (B bm bh : Nat) (k nh : Nat) (A : Option Addr) (p c : Nat) (S : Int) (an : Addr) (nn cn : Nat) (n : Int) : Tmp → Value
  | 5 => .pointer (some ⟨B, 0, none⟩)
  | 9 => .slice (some ⟨bm, 0, none⟩) nh nh
  | 10 => .pointer (some ⟨bh, 0, none⟩)
  | 11 => .slice A p c
  | 36 => .slice (some ⟨bm, 0, none⟩) nh nh
  | 37 => .int .i64 (k : Int)
  | 38 => .slice A p c
  | 39 => .int .i64 S
  | 40 => .pointer (some ⟨B, 0, none⟩)
  | 41 => .slice (some an) nn cn
  | 42 => .int .i64 (k : Int)
  | 43 => .pointer (some ⟨an.block, an.off + k, none⟩)
  | 44 => .int .i64 n
  | 45 => .int .i64 (S - n)
  | 46 => .pointer (some ⟨bm, k, none⟩)
  | _ => undef
section
attribute [local irreducible] QT
set_option maxRecDepth 100000 in
set_option maxHeartbeats 8000000 in
theorem Play_any (V : TV) (T : Tn) (A : Option Addr) (n c : Nat) (cs : List Int) (U : UV) (X : Tu) (w : World) (hN : TnAt w w.heap.size V T) (hl : cs.length = n) (hn : n ≤ maxLen) (hA : IntsAt w w.heap.size A cs) (hX : TuAt w w.heap.size U X) :
    Calls Try.prog 26 #[tvV V, .slice A n c, uvV U] w fun e w' => ∃ v, e = .returned (.tuple #[v, .int .i64 (plaE T X cs)]) ∧ Below w.heap.size w w' ∧ RowIs intR 3 w.heap.size (plaL T X cs) v w' := by
  have ht := TX.new (T := T) (X := X) hN hX
  obtain ⟨w2, hw2⟩ : ∃ z, (w.alloc (.cells (tvC V) 25)).alloc (.cells (uvC U) 46) = z := ⟨_, rfl⟩
  rw [hw2] at ht
  have HT := Lib.hid ht
  have HA2 := Lib.hid (hA.next ht.bel ht.bel.size)
  have HF := Lib.hid (checkCoolers_any V T A n c cs w2 ht.tn hl hn HA2.out)
  have HL := Lib.hid hl; have HNN := Lib.hid hn
  have HN := Lib.hid hN; have HX := Lib.hid hX; have HA := Lib.hid hA
  have HNH := Lib.hid hN.nh; have HNS := Lib.hid hN.ns; have HNN2 := Lib.hid hX.nn; have HNG := Lib.hid hX.ng
  have m1 := hN.mh
  unfold maxLen at m1
  have HPO := Lib.hid (fun (u : World) (hu : Below w2.heap.size w2 u) (hK : TnOk T) => possible_any V T U X u (ht.tn.next hu hu.size) (ht.tu.next hu hu.size) hK)
  have HLK := Lib.hid (fun (u : World) (hu : Below w.heap.size w u) (hK : TnOk T) (hC : coolB T cs = true) => lookL_any V T A n c cs u (hN.next hu hu.size) hK hC hl hn (hA.next hu hu.size))
  obtain ⟨ah, nh, ch, az, ns, cz⟩ := V
  obtain ⟨an, nn, cn, ag, ng, cg⟩ := U
  obtain ⟨v0, v1⟩ := box2 ht.zt
  obtain ⟨x0, x1⟩ := box2 ht.zx
  simp only at v0 v1 x0 x1 m1
  have hw2' : (w.alloc (.cells #[.slice ah nh ch, .slice az ns cz] 25)).alloc (.cells #[.slice an nn cn, .slice ag ng cg] 46) = w2 := hw2
  clear hw2 ht hN hX hA hl hn
  go_enter Try.func26, Try.ntmps26
  go_wp2_with fail
  clear hw2'
  refine HF.out.mono ?_
  rintro e w3 ⟨rfl, hb3⟩
  have HT3 := Lib.hid (HT.out.up hb3)
  rcases cool_cases T cs with h2 | h0
  · have HE : Hid (plaE T X cs = 2 ∧ plaL T X cs = []) := Lib.hid ⟨by unfold plaE; rw [if_neg (by rw [h2]; decide)], by unfold plaL; rw [if_neg (by rw [h2]; decide)]⟩
    rw [h2]
    clear hb3 v0 v1 x0 x1 h2
    go_wp2_with fail
    go_ret2
    exact ⟨_, by rw [HE.out.1]; rfl, HT3.out.bel, .inl ⟨HE.out.2, rfl⟩⟩
  obtain ⟨hK, hC⟩ := town_ok h0
  have HK := Lib.hid hK; have HC := Lib.hid hC; have H0 := Lib.hid h0
  have HP := Lib.hid (HPO.out w3 hb3 hK)
  rw [h0]
  clear hb3 v0 v1 x0 x1 hK hC h0
  obtain ⟨v0, v1⟩ := box2 HT3.out.zt
  obtain ⟨x0, x1⟩ := box2 HT3.out.zx
  simp only at v0 v1 x0 x1
  go_wp2_with fail
  refine HP.out.mono ?_
  rintro e w4 ⟨rfl, hb4⟩
  have HT4 := Lib.hid (HT3.out.up hb4)
  clear hb4 v0 v1 x0 x1
  cases htr : truB T X with
  | false =>
    have HE : Hid (plaE T X cs = 2 ∧ plaL T X cs = []) := Lib.hid ⟨by unfold plaE; rw [if_pos H0.out, if_neg (by rw [htr]; decide)], by unfold plaL; rw [if_pos H0.out, if_neg (by rw [htr]; decide)]⟩
    clear htr
    go_wp2_with fail
    go_ret2
    exact ⟨_, by rw [HE.out.1]; rfl, HT4.out.bel, .inl ⟨HE.out.2, rfl⟩⟩
  | true =>
    have HE : Hid (plaE T X cs = 0 ∧ plaL T X cs = ovL T X cs) := Lib.hid ⟨by unfold plaE; rw [if_pos H0.out, if_pos htr], by unfold plaL; rw [if_pos H0.out, if_pos htr]⟩
    have HO := Lib.hid (truB_iff.1 htr)
    have hnh6 : nh ≤ 6 := by have h1 : T.hs.length = nh := HNH.out; have := HK.out.h6; omega
    obtain ⟨i0, hi0, hz0, hz1, hz2⟩ := info_parts int_info
    have hmk := fun W : World => run_make (P := Try.prog) 26 3 i0 _ Try.underlying26 hi0 hz0 .i64 .i64 (nh : Int) (nh : Int) (by omega) (by omega) (by rw [hz2]; omega) (by omega) (w := W)
    simp only [Int.toNat_natCast, hz1, Nat.mul_one] at hmk
    clear htr
    obtain ⟨v0, v1⟩ := box2 HT4.out.zt
    simp only at v0 v1
    have z5 := heap_alloc_new w4 (.cells (madeCells #[Value.int .i64 0] nh) 3)
    have hb5 := (Below.refl w4.heap.size w4).alloc (Nat.le_refl _) (.cells (madeCells #[Value.int .i64 0] nh) 3)
    obtain ⟨w5, hw5⟩ : ∃ z, w4.alloc (.cells (madeCells #[Value.int .i64 0] nh) 3) = z := ⟨_, rfl⟩
    rw [hw5] at z5 hb5
    have HT5 := Lib.hid (HT4.out.up hb5); have HZ5 := Lib.hid z5
    have HS4 : Hid (w.heap.size ≤ w4.heap.size) := Lib.hid HT4.out.bel.size
    clear z5 hb5
    go_wp2_with fail
    clear hw5 v0 v1 hmk
    go_loopw [28] (fun ii wr => ∃ k : Nat, k ≤ nh ∧ ii = .int .i64 k ∧ Below w.heap.size w wr ∧ wr.heap[w.heap.size]? = some (.cells (tvC ⟨ah, nh, ch, az, ns, cz⟩) 25 (0, 0)) ∧ wr.heap[w.heap.size + 1]? = some (.cells (uvC ⟨an, nn, cn, ag, ng, cg⟩) 46 (0, 0)) ∧ wr.heap[w4.heap.size]? = some (.cells (wkA (ovV X cs) k nh) 3 (0, 0))) (fun ii _ => nh - (intOf ii).toNat)
    case atStart => exact ⟨0, by omega, rfl, HT5.out.bel, HT5.out.zt, HT5.out.zx, by rw [wkA_zero]; exact HZ5.out⟩
    case round =>
      obtain ⟨k, hk, rfl, hbel, hzt, hzx, hzm⟩ := hrel
      have HBE := Lib.hid hbel; have HZT := Lib.hid hzt; have HZX := Lib.hid hzx; have HZM := Lib.hid hzm
      by_cases hlt : k < nh
      · have k3 : (0 : Int) ≤ (k : Int) := by omega
        have k4 : (k : Int) < (nh : Int) := by omega
        have hb6 := (Below.refl wr.heap.size wr).alloc (Nat.le_refl _) (.cells #[.int .i64 (k : Int)] 3)
        have z6 := heap_alloc_new wr (.cells #[.int .i64 (k : Int)] 3)
        obtain ⟨w6, hw6⟩ : ∃ z, wr.alloc (.cells #[.int .i64 (k : Int)] 3) = z := ⟨_, rfl⟩
        rw [hw6] at hb6 z6
        have HB6 := Lib.hid hb6; have HZ6 := Lib.hid z6
        have HB06 := Lib.hid (hbel.trans (hb6.mono hbel.size))
        have HLO := Lib.hid (HLK.out w6 HB06.out HK.out HC.out)
        obtain ⟨v0, v1⟩ := box2 ((hb6.block _ (heapsz hzt)).trans hzt)
        simp only at v0 v1
        clear hbel hzt hzx hzm hb6 z6
        go_wp2_with fail
        clear hw6
        refine HLO.out.mono ?_
        rintro e w7 ⟨M, rfl, hlw⟩
        have HB7 := Lib.hid (HB6.out.trans (hlw.bel.mono HB6.out.size))
        have hkT : k < T.hs.length := by rw [HNH.out]; exact hlt
        have hB07 := HBE.out.trans (HB7.out.mono HBE.out.size)
        have HB07 := Lib.hid hB07
        have hin : ∀ x : Nat, jackB ((setI cs : Nat) : Int) x = true → x < T.ss.length := fun x hx => by
          rw [jack_bit] at hx
          exact testBit_lt (setI_lt HC.out) hx
        have HEA := Lib.hid (each_any ⟨ah, nh, ch, az, ns, cz⟩ (setI cs) M 62 #[.pointer (some ⟨w.heap.size + 1, 0, none⟩), .pointer (some ⟨wr.heap.size, 0, none⟩)] (fun x => givA X k x) w7 (enters_of Try.func62 (by kernel_rfl) rfl) (fun x _ hjx u hu => by
          obtain ⟨g, nn', hg, hgn, _⟩ := cold_get HK.out HO.out (hin x hjx) hkT
          have hB7u := HB7.out.trans (hu.mono HB7.out.size)
          exact give_any ((hB7u.block _ (heapsz HZX.out)).trans HZX.out) ((hu.block _ (by have := heapsz HZ6.out; have := hlw.bel.size; omega)).trans ((hlw.bel.block _ (heapsz HZ6.out)).trans HZ6.out)) (HX.out.next (hB07.trans (hu.mono hB07.size)) (Nat.le_trans hB07.size hu.size)) hg hgn))
        have HIN := Lib.hid hin
        have HZ7 := Lib.hid ((hlw.bel.block _ (heapsz HZ6.out)).trans HZ6.out)
        clear hlw v0 v1 hB07 hin
        go_wp2_with fail
        refine HEA.out.mono ?_
        rintro e w8 ⟨v8, rfl, hb8, ho8⟩
        obtain ⟨A8, c8, rfl, hA8⟩ := ints_of_own ho8 (by rw [List.length_map])
        obtain ⟨p, hp⟩ : ∃ p, (sitL ((setI cs : Nat) : Int)).length = p := ⟨_, rfl⟩
        have hp10 : p ≤ 10 := by rw [← hp]; exact sit_len10 _
        obtain ⟨S, hS⟩ : ∃ S, sumA X cs k = S := ⟨_, rfl⟩
        have hgin : ∀ x ∈ (sitL ((setI cs : Nat) : Int)).map (fun x => givA X k x), 0 ≤ x ∧ x ≤ 1000000 := fun y hy => by
          obtain ⟨x, hx, rfl⟩ := List.mem_map.1 hy
          obtain ⟨g, nn', hg, hgn, h1, h2⟩ := cold_get HK.out HO.out (HIN.out x (sit_10 hx).2) hkT
          rw [giv_eq hg hgn]
          exact ⟨h1, h2⟩
        have hSin := sumI_in hgin
        rw [sumA_eq HK.out HC.out, hS, List.length_map, hp] at hSin
        obtain ⟨nd, hnd, hn0, hn1⟩ := need_get HK.out HO.out hkT
        have hwr : IntKind.i64.wrap (S - nd) = S - nd := IntWalk.i64_in _ (by omega)
        have HB08 := Lib.hid (HB07.out.trans (hb8.mono HB07.out.size))
        have HB48 := Lib.hid (HB7.out.trans (hb8.mono HB7.out.size))
        have HX8 := HX.out.next HB08.out HB08.out.size
        obtain ⟨b9, o9, han, hb9, e9⟩ := ints_el HX8.ns hnd
        have han2 : an = some ⟨b9, o9, none⟩ := han
        subst han2
        have hkn : k < nn := by have h1 : X.ns.length = nn := HNN2.out; have := (List.getElem?_eq_some_iff.1 hnd).1; omega
        have k5 : (k : Int) < (nn : Int) := by omega
        have HOV : Hid (ovV X cs k = S - nd) := Lib.hid (by unfold ovV; rw [hS, List.getD_eq_getElem?_getD, hnd]; rfl)
        have HSU : Hid (∀ u, Below w8.heap.size w8 u → Calls Try.prog 63 #[.slice A8 p c8] u fun e u' => e = .returned (.int .i64 S) ∧ Below w8.heap.size w8 u') := Lib.hid fun u hu => by
          refine (sum_any A8 p c8 _ u (by rw [List.length_map]; exact hp) (by omega) (RowAt.up hA8 hu) hgin).mono ?_
          rintro e u' ⟨rfl, rfl⟩
          exact ⟨by rw [sumA_eq HK.out HC.out, hS], hu⟩
        have HQ : Hid (∀ u, Below w8.heap.size w8 u → (u.cell? ⟨w.heap.size + 1, 0, none⟩ = some (.slice (some ⟨b9, o9, none⟩) nn cn) ∧ u.cell? ⟨wr.heap.size, 0, none⟩ = some (.int .i64 (k : Int))) ∧ u.cell? ⟨b9, o9 + k, none⟩ = some (.int .i64 nd) ∧ u.heap[w4.heap.size]? = some (.cells (wkA (ovV X cs) k nh) 3 (0, 0))) := Lib.hid fun u hu => by
          have h1 := HB48.out.trans (hu.mono HB48.out.size)
          exact ⟨⟨(box2 ((h1.block _ (heapsz HZX.out)).trans HZX.out)).1, cell_blk (k := 0) ((hu.block _ (by have := heapsz HZ7.out; have := hb8.size; omega)).trans ((hb8.block _ (heapsz HZ7.out)).trans HZ7.out)) rfl⟩, ((bcell hu).1 _ _ hb9).trans e9, (h1.block _ (heapsz HZM.out)).trans HZM.out⟩
        rw [hp]
        clear hb8 ho8 hA8 hp hS hgin hSin hnd HX8 han hb9 e9 hkn
        go_wp2_with fail
        apply tail_regionX
        case hs => exact (rfl : _ = [_, _, _, _, _, _, _, _, _, _, _] ++ [_])
        case hm => kernel_rfl
        case hT => kernel_rfl
        refine plan_guarded_any (γ := Unit) [5, 9, 10, 11] (fun _ => plCv (w.heap.size + 1) w4.heap.size wr.heap.size k nh A8 p c8 S ⟨b9, o9, none⟩ nn cn nd) (fun _ _ u => Below w8.heap.size w8 u) () (by kernel_rfl) (by kernel_rfl) (by kernel_rfl) (by kernel_rfl) ?_ ((Below.refl w8.heap.size w8).drew) ?_ ?_
        · intro t ht
          simp only [List.mem_cons, List.not_mem_nil, or_false] at ht
          rcases ht with rfl | rfl | rfl | rfl <;> rfl
        · refine allOps_array ?_
          refine ⟨?_, ?_, ?_, ?_, ?_, ?_, ?_, ?_, ?_, ?_, ?_, trivial⟩ <;> intro done _ u hS hu hdep _ <;> obtain ⟨⟨q0, q1⟩, q2, _⟩ := HQ.out u hS
          · exact sameQ (T := fun u => Below w8.heap.size w8 u) hS 36 rfl rfl (by simp [go_sem, evalBy, plCv])
          · exact sameQ (T := fun u => Below w8.heap.size w8 u) hS 37 rfl rfl (by simp [go_sem, evalBy, plCv, q1])
          · exact sameQ (T := fun u => Below w8.heap.size w8 u) hS 38 rfl rfl (by simp [go_sem, evalBy, plCv])
          · exact sameC (T := fun u => Below w8.heap.size w8 u) 39 rfl rfl 63 #[.slice A8 p c8] (by simp [go_sem, evalBy, plCv]) (HSU.out u hS)
          · exact sameQ (T := fun u => Below w8.heap.size w8 u) hS 40 rfl rfl (by simp [go_sem, evalBy, plCv])
          · exact sameQ (T := fun u => Below w8.heap.size w8 u) hS 41 rfl rfl (by simp [go_sem, evalBy, plCv, q0])
          · exact sameQ (T := fun u => Below w8.heap.size w8 u) hS 42 rfl rfl (by simp [go_sem, evalBy, plCv, q1])
          · exact sameQ (T := fun u => Below w8.heap.size w8 u) hS 43 rfl rfl (by simp [go_sem, evalBy, plCv, k3, k5])
          · exact sameQ (T := fun u => Below w8.heap.size w8 u) hS 44 rfl rfl (by simp [go_sem, evalBy, plCv, q2])
          · exact sameQ (T := fun u => Below w8.heap.size w8 u) hS 45 rfl rfl (by simp [go_sem, evalBy, plCv, hwr])
          · exact sameQ (T := fun u => Below w8.heap.size w8 u) hS 46 rfl rfl (by simp [go_sem, evalBy, plCv, k3, k4])
        · intro _ u hS
          obtain ⟨_, _, hzm⟩ := HQ.out u hS
          have c0 := cell_blk hzm (wkA_get (ovV X cs) (k := k) hlt)
          have f0 : u.frozen? ⟨w4.heap.size, k, none⟩ = false := by simp [World.frozen?, hzm]
          have hset := blk_set hzm k (.int .i64 (S - nd))
          rw [← HOV.out, wkA_set _ hlt, HOV.out] at hset
          have h1 := HB48.out.trans (hS.mono HB48.out.size)
          have hne1 := cells_ne HZT.out HZM.out (by decide)
          have hne2 := cells_ne HZX.out HZM.out (by decide)
          have HE9 : Hid (Below w.heap.size w (u.setCell ⟨w4.heap.size, k, none⟩ (.int .i64 (S - nd))) ∧ (u.setCell ⟨w4.heap.size, k, none⟩ (.int .i64 (S - nd))).heap[w.heap.size]? = some (.cells (tvC ⟨ah, nh, ch, az, ns, cz⟩) 25 (0, 0)) ∧ (u.setCell ⟨w4.heap.size, k, none⟩ (.int .i64 (S - nd))).heap[w.heap.size + 1]? = some (.cells (uvC ⟨some ⟨b9, o9, none⟩, nn, cn, ag, ng, cg⟩) 46 (0, 0)) ∧ (u.setCell ⟨w4.heap.size, k, none⟩ (.int .i64 (S - nd))).heap[w4.heap.size]? = some (.cells (wkA (ovV X cs) (k + 1) nh) 3 (0, 0))) := Lib.hid
            ⟨(HB08.out.trans (hS.mono HB08.out.size)).setCell (p := ⟨w4.heap.size, k, none⟩) HS4.out _, (Below.heap_setCell _ _ _ _ hne1).trans ((h1.block _ (heapsz HZT.out)).trans HZT.out), (Below.heap_setCell _ _ _ _ hne2).trans ((h1.block _ (heapsz HZX.out)).trans HZX.out), hset⟩
          rw [if_neg (by omega)] at c0
          clear hS hzm hset h1 hne1 hne2
          simp only [QT]
          unfold Oper.wp
          simp [go_sem, putAll, Act.put, plCv, c0, f0]
          go_wp2_with fail
          exact ⟨⟨k + 1, by omega, rfl, HE9.out⟩, by simp [intOf]; omega⟩
      · obtain rfl : nh = k := by omega
        have k4 : ¬ (nh : Int) < (nh : Int) := by omega
        have HEE : Hid (Below w.heap.size w wr ∧ RowIs intR 3 w.heap.size (plaL T X cs) (.slice (some ⟨w4.heap.size, 0, none⟩) nh nh) wr) := Lib.hid ⟨hbel, by
          have h1 : T.hs.length = nh := HNH.out
          rw [HE.out.2]
          unfold ovL
          rw [h1]
          refine .inr ⟨w4.heap.size, nh, by simp, HS4.out, by simp, _, hzm, fun i x hx => ?_⟩
          obtain ⟨i', r, y, e, hy, hr⟩ := flat_in (k := 1) (R := intR) (fun _ => rfl) _ i x hx
          have hr0 : r = 0 := by
            rcases r with _ | r
            · rfl
            · simp [intR] at hr
          subst hr0
          obtain rfl : i = i' := by omega
          simp [intR] at hr
          subst hr
          have hin : i < nh := by have := (List.getElem?_eq_some_iff.1 hy).1; simpa using this
          rw [wkA_get _ hin, if_pos hin]
          rw [List.getElem?_map, List.getElem?_range hin] at hy
          simp at hy
          rw [hy]⟩
        clear hbel hzt hzx hzm
        go_wp2_with fail
        go_ret2
        exact ⟨_, by rw [HE.out.1]; rfl, HEE.out⟩
end
end Go.Proofs.Ytmppiiamcpjhnaa
