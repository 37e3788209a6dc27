/- Coolers: in which week each house is level again, by the specification. -/
import Derived.Test.YtmppiiamcpjhnaaDW
namespace Go.Proofs.Ytmppiiamcpjhnaa
open Go.RowKit Go.Shelf

def agS (N : Nat) (t bo or cut : Value) (Q : Int) (i h : Nat) (b : Bool) : Tmp → Value
  | 9 => .int .i64 Q
  | 3 => .pointer (some ⟨N, 0, none⟩)
  | 1 => bo
  | 2 => or
  | 11 => .int .i64 (i : Int)
  | 8 => .int .i64 (h : Int)
  | 39 => .int .i64 Q
  | 40 => .bool true
  | 41 => .bool true
  | 42 => t
  | 43 => bo
  | 44 => or
  | 45 => .int .i64 (i : Int)
  | 46 => cut
  | 48 => .int .i64 (h : Int)
  | 49 => .bool b
  | 50 => .bool b
  | _ => undef
def agG (B : Nat) (zs : List Int) : Nat → Value → World → Prop
  | 8, v, w => RowIs intR 3 B zs v w
  | _, _, _ => True
theorem agG_keep (B : Nat) (zs : List Int) : ∀ i v w1 w2, agG B zs i v w1 → Below w1.heap.size w1 w2 → agG B zs i v w2 := fun i v w1 w2 h hb => by
  unfold agG at h ⊢
  split
  · exact h.below hb
  · trivial
def ragL (T : Tn) (bo or : List Int) (k : Nat) : List Int := (List.range k).map (agZ T bo or)
theorem ragL_succ (T : Tn) (bo or : List Int) (k : Nat) : ragL T bo or (k + 1) = ragL T bo or k ++ [agZ T bo or k] := by unfold ragL; rw [List.range_succ, List.map_append]; rfl
theorem ragL_len (T : Tn) (bo or : List Int) (k : Nat) : (ragL T bo or k).length = k := by unfold ragL; rw [List.length_map, List.length_range]
set_option maxRecDepth 100000 in
set_option maxHeartbeats 16000000 in
theorem ragain_any (V : TV) (T : Tn) (A : Option Addr) (n c : Nat) (bo : List Int) (A2 : Option Addr) (p q : Nat) (or : List Int) (w : World) (hN : TnAt w w.heap.size V T) (hl : bo.length = n) (hn : n ≤ 100) (hA : IntsAt w w.heap.size A bo) (hl2 : or.length = p) (hp : p ≤ 6) (hpq : p ≤ q) (hA2 : IntsAt w w.heap.size A2 or) (hK : TnOk T) (hC : coolB T bo = true) (ho : ordB bo or = true) :
    Calls Try.prog 40 #[tvV V, .slice A n c, .slice A2 p q] w fun e w' => ∃ v, e = .returned v ∧ Below w.heap.size w w' ∧ RowIs intR 3 w.heap.size (ragL T bo or T.hs.length) v w' := by
  have z := heap_alloc_new w (.cells (tvC V) 25)
  have hb := (Below.refl w.heap.size w).alloc (Nat.le_refl _) (.cells (tvC V) 25)
  obtain ⟨w1, hw1⟩ : ∃ z, w.alloc (.cells (tvC V) 25) = z := ⟨_, rfl⟩
  rw [hw1] at z hb
  have HW := Lib.hid hw1; have HB := Lib.hid hb; have HZ := Lib.hid z
  have HN := Lib.hid (hN.up hb); have HA := Lib.hid (RowAt.up hA hb); have HO := Lib.hid (RowAt.up hA2 hb)
  have HLB := Lib.hid hl; have HLO := Lib.hid hl2; have HK := Lib.hid hK; have HCO := Lib.hid hC
  have HAG : Hid (∀ h, agF T bo or h (p + 1) = agZ T bo or h) := Lib.hid fun h => by rw [← hl2]; exact agF_all hK hC ho h
  have HIN : Hid (∀ x ∈ or, 0 ≤ x ∧ x < T.ss.length) := Lib.hid fun x hx => (ord_mem hC ho x hx).2
  have HNC := Lib.hid hn; have HPC := Lib.hid hp
  have HNH := Lib.hid hN.nh; have HNS := Lib.hid hN.ns
  have h6 := hK.h6
  obtain ⟨ah, nh, ch, az, ns, cz⟩ := V
  have hnh6 : nh ≤ 6 := by have h1 : T.hs.length = nh := HNH.out; omega
  have HC : Hid (∀ u, Below w1.heap.size w1 u → u.cell? ⟨w.heap.size, 0, none⟩ = some (.slice ah nh ch) ∧ u.cell? ⟨w.heap.size, 1, none⟩ = some (.slice az ns cz)) := Lib.hid fun u hu => box2 ((hu.block _ (heapsz HZ.out)).trans HZ.out)
  obtain ⟨i0, hi0, hz0, hz1, hz2⟩ := info_parts int_info
  clear z hb hw1 hN hA hA2 hl hl2 hK hC ho h6
  go_enter Try.func40, Try.ntmps40
  go_wp2_with fail
  rw [show w.alloc (.cells #[.slice ah nh ch, .slice az ns cz] 25) = w1 from HW.out]
  go_loopw [7, 8] (fun vv ii wr => ∃ h : Nat, h ≤ nh ∧ ii = .int .i64 h ∧ Below w1.heap.size w1 wr ∧ wr.ownsRow w1.heap.size 3 1 vv h (flatR intR (ragL T bo or h))) (fun _ ii _ => nh - (intOf ii).toNat)
  case atStart => exact ⟨0, by omega, rfl, Below.refl _ _, World.ownsRow_nil _ _ _ _⟩
  case round =>
    obtain ⟨h, hh, rfl, hbr, hown⟩ := hrel
    obtain ⟨wo, rfl⟩ : ∃ z : World, z = wr := ⟨_, rfl⟩
    have HBO := Lib.hid hbr; have HOWN := Lib.hid hown
    obtain ⟨v0, v1⟩ := HC.out wo hbr
    clear hbr hown
    by_cases hlt : h < nh
    · have k3 : (0 : Int) ≤ (h : Int) := by omega
      have k4 : (h : Int) < (nh : Int) := by omega
      have HHT : Hid (h < T.hs.length) := Lib.hid (by rw [HNH.out]; exact hlt)
      go_wp2_with fail
      clear v0 v1
      go_loopw [9, 10, 11] (fun aa ww ii wr => ∃ i : Nat, i ≤ p + 1 ∧ ii = .int .i64 i ∧ aa = .int .i64 (agF T bo or h i) ∧ ww = .int .i64 (weekL T (or.take (i - 1))) ∧ Below wo.heap.size wo wr) (fun _ _ ii _ => p + 1 - (intOf ii).toNat)
      case atStart => exact ⟨0, by omega, rfl, rfl, rfl, Below.refl _ _⟩
      case round =>
        obtain ⟨i, hi, rfl, rfl, rfl, hbw⟩ := hrel
        have HBW := Lib.hid hbw
        have HB3 := Lib.hid (HBO.out.trans (hbw.mono HBO.out.size))
        clear hbw
        by_cases hlt2 : i < p + 1
        · have hip : i ≤ p := by omega
          have k5 : (i : Int) ≤ (p : Int) := by omega
          have k7 : (0 : Int) ≤ (i : Int) := by omega
          rcases Nat.eq_zero_or_pos i with hi0' | hpos
          · have hk0 : ¬ (0 : Int) < (i : Int) := by omega
            have hW0 : weekL T (or.take (i - 1)) = weekL T (or.take i) := by rw [hi0']
            rw [hW0]
            clear hW0 hi0'
            obtain ⟨A3, hsl, _⟩ := cut_any (k := i) (RowAt.up HO.out HB3.out) HLO.out hip hpq
            have HSL := Lib.hid hsl
            have HA3 : Hid (∀ u, Below w1.heap.size w1 u → IntsAt u u.heap.size A3 (or.drop i)) := Lib.hid fun u hu => by
              obtain ⟨A4, hsl4, hA4⟩ := cut_any (k := i) (RowAt.up HO.out hu) HLO.out hip hpq
              have := (HSL.out u).symm.trans (hsl4 u)
              injection this with this
              injection this with this
              rw [this]
              exact hA4
            obtain ⟨Q, hQ⟩ : ∃ z, agF T bo or h i = z := ⟨_, rfl⟩
            obtain ⟨bl, hbl⟩ : ∃ z, lvlB T bo or h i = z := ⟨_, rfl⟩
            have HSU := Lib.hid (agF_succ HK.out (T := T) (bo := bo) (or := or) (h := h) (i := i))
            rw [hQ, hbl] at HSU
            have HLV : Hid (decide (0 ≤ bearsI T h (setI (remL bo (or.drop i)))) = bl) := Lib.hid hbl
            rw [hQ]
            clear hQ hbl hsl
            by_cases hq : Q < 0
            · go_wp2_with fail
              refine rel_region [9, 3, 1, 2, 11, 8] [(47, 8)] (agS w.heap.size (tvV ⟨ah, nh, ch, az, ns, cz⟩) (.slice A n c) (.slice A2 p q) (.slice A3 (p - i) (q - i)) Q i h bl) (agG wr.heap.size (remL bo (or.drop i))) (by kernel_rfl) (by kernel_rfl) (by kernel_rfl) (by kernel_rfl) (by kernel_rfl) (by kernel_rfl) ?_ (agG_keep _ _) ?_ ?_
              · intro t ht
                simp only [List.mem_cons, List.not_mem_nil, or_false] at ht
                rcases ht with rfl | rfl | rfl | rfl | rfl | rfl <;> rfl
              · refine allOps_array ?_
                refine ⟨?_, ?_, ?_, ?_, ?_, ?_, ?_, ?_, ?_, ?_, ?_, ?_, trivial⟩ <;> intro g u hd_ <;> have hu := HB3.out.trans (u.h.mono HB3.out.size) <;> obtain ⟨q0, q1⟩ := HC.out u.w hu
                · refine ⟨rfl, relQ 39 rfl trivial ?_⟩
                  simp [go_sem, evalBy, rhoT, relOf, agS]
                · refine ⟨rfl, relQ 40 rfl trivial ?_⟩
                  simp [go_sem, evalBy, rhoT, relOf, agS, hq]
                · refine ⟨rfl, relQ 41 rfl trivial ?_⟩
                  simp [go_sem, evalBy, rhoT, relOf, agS]
                · refine ⟨rfl, relQ 42 rfl trivial ?_⟩
                  simp [go_sem, evalBy, rhoT, relOf, agS, tvV, q0, q1]
                · refine ⟨rfl, relQ 43 rfl trivial ?_⟩
                  simp [go_sem, evalBy, rhoT, relOf, agS]
                · refine ⟨rfl, relQ 44 rfl trivial ?_⟩
                  simp [go_sem, evalBy, rhoT, relOf, agS]
                · refine ⟨rfl, relQ 45 rfl trivial ?_⟩
                  simp [go_sem, evalBy, rhoT, relOf, agS]
                · refine ⟨rfl, relQ 46 rfl trivial ?_⟩
                  have hsl := HSL.out
                  simp [go_sem, evalBy, rhoT, relOf, agS, hsl]
                · refine ⟨rfl, relC 30 #[.slice A n c, .slice A3 (p - i) (q - i)] (by simp [go_sem, evalBy, rhoT, relOf, agS]) ?_⟩
                  refine (rwithout_any bo (or.drop i) A A3 n c (p - i) (q - i) u.w HLB.out (by rw [List.length_drop, HLO.out]) (by have := HNC.out; omega) (by unfold maxLen; have := HPC.out; omega) (RowAt.up HA.out hu) (HA3.out u.w hu)).mono ?_
                  rintro e w' ⟨v, rfl, hb, hv⟩
                  exact ⟨v, rfl, hb, hv.low u.h.size, fun e he hn => by injection he with he; subst he; exact absurd hn (by simp [relOf])⟩
                · refine ⟨rfl, relQ 48 rfl trivial ?_⟩
                  simp [go_sem, evalBy, rhoT, relOf, agS]
                · have h8 : RowIs intR 3 wr.heap.size (remL bo (or.drop i)) (g 8) u.w := hd_ ⟨8, .data⟩ (by simp) rfl
                  obtain ⟨A5, c5, e8⟩ := h8.len
                  rw [e8] at h8
                  refine ⟨rfl, relK 49 rfl (fun _ => trivial) 72 #[tvV ⟨ah, nh, ch, az, ns, cz⟩, g 8, .int .i64 (h : Int)] (by simp [go_sem, evalBy, rhoT, relOf, agS]) ?_⟩
                  rw [e8]
                  refine (rlevel_any _ T A5 _ c5 (remL bo (or.drop i)) h u.w (HN.out.up hu) rfl (by have := List.length_filter_le (fun x => !decide (x ∈ or.drop i)) bo; have h9 := HLB.out; have h7 := HNC.out; unfold remL; omega) (row_ints h8) HK.out (rem_cool HCO.out) HHT.out).mono ?_
                  rintro e w' ⟨rfl, hb⟩
                  exact ⟨by rw [HLV.out]; rfl, hb⟩
                · refine ⟨rfl, relQ 50 rfl trivial ?_⟩
                  simp [go_sem, evalBy, rhoT, relOf, agS]
              · intro g u hf
                have HBZ := Lib.hid (HBW.out.trans (u.h.mono HBW.out.size))
                simp [putAll, Act.put, rhoT, relOf, agS]
                obtain ⟨wz, hwz⟩ : ∃ x, u.w = x := ⟨_, rfl⟩
                rw [hwz] at HBZ ⊢
                clear hwz hf
                cases bl
                · have HSU2 : Hid (agF T bo or h (i + 1) = Q) := Lib.hid (by rw [HSU.out, if_neg (by simp)])
                  go_wp2_with fail
                  exact ⟨⟨i + 1, by omega, rfl, by simp [HSU2.out], by simp [], HBZ.out⟩, by simp [intOf]; omega⟩
                · have HSU2 : Hid (agF T bo or h (i + 1) = weekL T (or.take i)) := Lib.hid (by rw [HSU.out, if_pos ⟨hq, rfl⟩])
                  go_wp2_with fail
                  exact ⟨⟨i + 1, by omega, rfl, by simp [HSU2.out], by simp [], HBZ.out⟩, by simp [intOf]; omega⟩
            · have HSU2 : Hid (agF T bo or h (i + 1) = Q) := Lib.hid (by rw [HSU.out, if_neg (fun h => hq h.1)])
              go_wp2_with fail
              have hq2 : ¬ Q < 0 := by omega
              refine rk_region (by kernel_rfl) (by kernel_rfl) ?_
              repeat (go_big_quiet_step (fail))
              refine wpQuiet_nil ?_
              rintro _ ⟨⟨wz, hbz⟩, rfl⟩
              have HBZ := Lib.hid (HBW.out.trans (hbz.mono HBW.out.size))
              clear hbz
              go_wp2_with fail
              exact ⟨⟨i + 1, by omega, rfl, by simp [HSU2.out], by simp [], HBZ.out⟩, by simp [intOf]; omega⟩
          · obtain ⟨x, hx⟩ := get_of_lt (l := or) (k := i - 1) (by rw [HLO.out]; omega)
            have hxi := HIN.out x (List.mem_of_getElem? hx)
            obtain ⟨b, o, rfl, hbb, c0⟩ := ints_el (RowAt.up HO.out HB3.out) hx
            have HS := Lib.hid (weekL_succ (T := T) hx)
            rw [show i - 1 + 1 = i by omega] at HS
            obtain ⟨j, rfl⟩ : ∃ j : Nat, x = j := ⟨x.toNat, by omega⟩
            obtain ⟨S, hS⟩ := get_of_lt (l := T.ss) (k := j) (by omega)
            obtain ⟨b2, o2, A', m, c', hA9, hbb2, hm, ⟨d0, d1, d2⟩, hpr, hmx⟩ := si_el (HN.out.ss.next HB3.out HB3.out.size) hS
            have hA99 : az = some ⟨b2, o2, none⟩ := hA9
            subst hA99
            have HCW : Hid (weekI T j = S.we) := Lib.hid (by
              have e1 : T.ss.getD j ⟨0, 0, []⟩ = S := by rw [List.getD_eq_getElem?_getD, hS]; rfl
              unfold weekI; rw [e1])
            have h1 := week_in HK.out j
            have h2 := weekL_in HK.out (or.take (i - 1))
            have h3 : (or.take (i - 1)).length ≤ 6 := by rw [List.length_take, HLO.out]; omega
            rw [HCW.out] at h1
            have e1 : wrap64 (weekL T (or.take (i - 1)) + S.we) = weekL T (or.take (i - 1)) + S.we := w64 (by omega)
            have j0 : (0 : Int) ≤ (j : Int) := by omega
            have j1 : (j : Int) < (ns : Int) := by have := HNS.out; omega
            have m0 : (0 : Int) ≤ (i : Int) - 1 := by omega
            have m1 : (i : Int) - 1 < (p : Int) := by omega
            have ck := HC.out wr HB3.out
            have lw : w.heap.size < wr.heap.size := Nat.lt_of_lt_of_le (heapsz HZ.out) HB3.out.size
            have a0 : ∀ u : KeptW wr, u.w.cell? ⟨w.heap.size, 1, none⟩ = some (.slice (some ⟨b2, o2, none⟩) ns cz) := fun u => ((bcell u.h).1 _ _ lw).trans ck.2
            have a1 : ∀ u : KeptW wr, u.w.cell? ⟨b, o + (i - 1), none⟩ = some (.int .i64 (j : Int)) := fun u => ((bcell u.h).1 _ _ hbb).trans c0
            have a2 : ∀ u : KeptW wr, u.w.cell? ⟨b2, o2 + j * 3 + 1, none⟩ = some (.int .i64 S.we) := fun u => ((bcell u.h).1 _ _ hbb2).trans d1
            rw [Int.toNat_natCast, HCW.out] at HS
            obtain ⟨Qw, hQw⟩ : ∃ z, weekL T (or.take (i - 1)) = z := ⟨_, rfl⟩
            rw [hQw] at e1 HS ⊢
            have HE1 : Hid (wrap64 (Qw + S.we) = weekL T (or.take i)) := Lib.hid (e1.trans HS.out.symm)
            have hk0 : (0 : Int) < (i : Int) := by omega
            clear hS hbb hbb2 hm hpr hmx c0 d0 d1 d2 h1 h2 h3 hx hxi hQw ck hA9
            go_wp2_with fail
            refine rk_region (by kernel_rfl) (by kernel_rfl) ?_
            repeat (go_big_quiet_step (fail))
            refine wpQuiet_nil ?_
            rintro wv ⟨⟨_, hbv⟩, rfl⟩
            have HBW' := Lib.hid (HBW.out.trans (hbv.mono HBW.out.size))
            have HB3' := Lib.hid (HB3.out.trans (hbv.mono HB3.out.size))
            clear hbv a0 a1 a2 HBW HB3 HS e1
            have HBW := HBW'
            have HB3 := HB3'
            go_wp2_with fail
            obtain ⟨A3, hsl, _⟩ := cut_any (k := i) (RowAt.up HO.out HB3.out) HLO.out hip hpq
            have HSL := Lib.hid hsl
            have HA3 : Hid (∀ u, Below w1.heap.size w1 u → IntsAt u u.heap.size A3 (or.drop i)) := Lib.hid fun u hu => by
              obtain ⟨A4, hsl4, hA4⟩ := cut_any (k := i) (RowAt.up HO.out hu) HLO.out hip hpq
              have := (HSL.out u).symm.trans (hsl4 u)
              injection this with this
              injection this with this
              rw [this]
              exact hA4
            obtain ⟨Q, hQ⟩ : ∃ z, agF T bo or h i = z := ⟨_, rfl⟩
            obtain ⟨bl, hbl⟩ : ∃ z, lvlB T bo or h i = z := ⟨_, rfl⟩
            have HSU := Lib.hid (agF_succ HK.out (T := T) (bo := bo) (or := or) (h := h) (i := i))
            rw [hQ, hbl] at HSU
            have HLV : Hid (decide (0 ≤ bearsI T h (setI (remL bo (or.drop i)))) = bl) := Lib.hid hbl
            rw [hQ]
            clear hQ hbl hsl
            by_cases hq : Q < 0
            · go_wp2_with fail
              refine rel_region [9, 3, 1, 2, 11, 8] [(47, 8)] (agS w.heap.size (tvV ⟨ah, nh, ch, some ⟨b2, o2, none⟩, ns, cz⟩) (.slice A n c) (.slice (some ⟨b, o, none⟩) p q) (.slice A3 (p - i) (q - i)) Q i h bl) (agG wv.heap.size (remL bo (or.drop i))) (by kernel_rfl) (by kernel_rfl) (by kernel_rfl) (by kernel_rfl) (by kernel_rfl) (by kernel_rfl) ?_ (agG_keep _ _) ?_ ?_
              · intro t ht
                simp only [List.mem_cons, List.not_mem_nil, or_false] at ht
                rcases ht with rfl | rfl | rfl | rfl | rfl | rfl <;> rfl
              · refine allOps_array ?_
                refine ⟨?_, ?_, ?_, ?_, ?_, ?_, ?_, ?_, ?_, ?_, ?_, ?_, trivial⟩ <;> intro g u hd_ <;> have hu := HB3.out.trans (u.h.mono HB3.out.size) <;> obtain ⟨q0, q1⟩ := HC.out u.w hu
                · refine ⟨rfl, relQ 39 rfl trivial ?_⟩
                  simp [go_sem, evalBy, rhoT, relOf, agS]
                · refine ⟨rfl, relQ 40 rfl trivial ?_⟩
                  simp [go_sem, evalBy, rhoT, relOf, agS, hq]
                · refine ⟨rfl, relQ 41 rfl trivial ?_⟩
                  simp [go_sem, evalBy, rhoT, relOf, agS]
                · refine ⟨rfl, relQ 42 rfl trivial ?_⟩
                  simp [go_sem, evalBy, rhoT, relOf, agS, tvV, q0, q1]
                · refine ⟨rfl, relQ 43 rfl trivial ?_⟩
                  simp [go_sem, evalBy, rhoT, relOf, agS]
                · refine ⟨rfl, relQ 44 rfl trivial ?_⟩
                  simp [go_sem, evalBy, rhoT, relOf, agS]
                · refine ⟨rfl, relQ 45 rfl trivial ?_⟩
                  simp [go_sem, evalBy, rhoT, relOf, agS]
                · refine ⟨rfl, relQ 46 rfl trivial ?_⟩
                  have hsl := HSL.out
                  simp [go_sem, evalBy, rhoT, relOf, agS, hsl]
                · refine ⟨rfl, relC 30 #[.slice A n c, .slice A3 (p - i) (q - i)] (by simp [go_sem, evalBy, rhoT, relOf, agS]) ?_⟩
                  refine (rwithout_any bo (or.drop i) A A3 n c (p - i) (q - i) u.w HLB.out (by rw [List.length_drop, HLO.out]) (by have := HNC.out; omega) (by unfold maxLen; have := HPC.out; omega) (RowAt.up HA.out hu) (HA3.out u.w hu)).mono ?_
                  rintro e w' ⟨v, rfl, hb, hv⟩
                  exact ⟨v, rfl, hb, hv.low u.h.size, fun e he hn => by injection he with he; subst he; exact absurd hn (by simp [relOf])⟩
                · refine ⟨rfl, relQ 48 rfl trivial ?_⟩
                  simp [go_sem, evalBy, rhoT, relOf, agS]
                · have h8 : RowIs intR 3 wv.heap.size (remL bo (or.drop i)) (g 8) u.w := hd_ ⟨8, .data⟩ (by simp) rfl
                  obtain ⟨A5, c5, e8⟩ := h8.len
                  rw [e8] at h8
                  refine ⟨rfl, relK 49 rfl (fun _ => trivial) 72 #[tvV ⟨ah, nh, ch, some ⟨b2, o2, none⟩, ns, cz⟩, g 8, .int .i64 (h : Int)] (by simp [go_sem, evalBy, rhoT, relOf, agS]) ?_⟩
                  rw [e8]
                  refine (rlevel_any _ T A5 _ c5 (remL bo (or.drop i)) h u.w (HN.out.up hu) rfl (by have := List.length_filter_le (fun x => !decide (x ∈ or.drop i)) bo; have h9 := HLB.out; have h7 := HNC.out; unfold remL; omega) (row_ints h8) HK.out (rem_cool HCO.out) HHT.out).mono ?_
                  rintro e w' ⟨rfl, hb⟩
                  exact ⟨by rw [HLV.out]; rfl, hb⟩
                · refine ⟨rfl, relQ 50 rfl trivial ?_⟩
                  simp [go_sem, evalBy, rhoT, relOf, agS]
              · intro g u hf
                have HBZ := Lib.hid (HBW.out.trans (u.h.mono HBW.out.size))
                simp [putAll, Act.put, rhoT, relOf, agS]
                obtain ⟨wz, hwz⟩ : ∃ x, u.w = x := ⟨_, rfl⟩
                rw [hwz] at HBZ ⊢
                clear hwz hf
                cases bl
                · have HSU2 : Hid (agF T bo or h (i + 1) = Q) := Lib.hid (by rw [HSU.out, if_neg (by simp)])
                  go_wp2_with fail
                  exact ⟨⟨i + 1, by omega, rfl, by simp [HSU2.out], by simp [HE1.out], HBZ.out⟩, by simp [intOf]; omega⟩
                · have HSU2 : Hid (agF T bo or h (i + 1) = weekL T (or.take i)) := Lib.hid (by rw [HSU.out, if_pos ⟨hq, rfl⟩])
                  go_wp2_with fail
                  exact ⟨⟨i + 1, by omega, rfl, by simp [HSU2.out, HE1.out], by simp [HE1.out], HBZ.out⟩, by simp [intOf]; omega⟩
            · have HSU2 : Hid (agF T bo or h (i + 1) = Q) := Lib.hid (by rw [HSU.out, if_neg (fun h => hq h.1)])
              go_wp2_with fail
              have hq2 : ¬ Q < 0 := by omega
              refine rk_region (by kernel_rfl) (by kernel_rfl) ?_
              repeat (go_big_quiet_step (fail))
              refine wpQuiet_nil ?_
              rintro _ ⟨⟨wz, hbz⟩, rfl⟩
              have HBZ := Lib.hid (HBW.out.trans (hbz.mono HBW.out.size))
              clear hbz
              go_wp2_with fail
              exact ⟨⟨i + 1, by omega, rfl, by simp [HSU2.out], by simp [HE1.out], HBZ.out⟩, by simp [intOf]; omega⟩
        · obtain rfl : i = p + 1 := by omega
          have k5 : ¬ ((p + 1 : Nat) : Int) ≤ (p : Int) := by omega
          rw [HAG.out h]
          obtain ⟨x, hx⟩ : ∃ x, agZ T bo or h = x := ⟨_, rfl⟩
          have HR : Hid (ragL T bo or (h + 1) = ragL T bo or h ++ [x]) := Lib.hid (by rw [ragL_succ, hx])
          have hsz : w1.heap.size ≤ wr.heap.size := HB3.out.size
          rw [hx]
          have HOW := Lib.hid (own_next HOWN.out HBW.out)
          clear hx
          go_wp2_with (first
            | (at_builtin
               refine wpList_append_own _ rfl _ _ 26 rfl w1.heap.size 3 i0 _ 1 8 Try.underlying26 hi0 hz0 hz1 hz2 rfl (by decide) _ _ _ rfl (own_next HOW.out ((Below.refl _ wr).alloc (Nat.le_refl _) _)) ⟨wr.heap.size, 0, none⟩ 1 1 [.int .i64 x] rfl rfl (cells_new wr [.int .i64 x] 3) (by simp [Value.oneCell']) (by unfold maxLen; omega) (by omega) (by simp; omega) ?_
               intro v' w6 hown6 hgr6 hnil6)
            | fail)
          refine ⟨⟨h + 1, by omega, rfl, ?_, ?_⟩, by simp [intOf]; omega⟩
          · have hb6 : Below w1.heap.size w1 (wr.alloc (.cells #[.int .i64 x] 3)) := HB3.out.alloc hsz _
            exact hb6.grown hgr6 hb6.size (fun q e => (own_at HOWN.out e).1)
          · rw [HR.out, flatR_snoc]
            exact hown6
    · obtain rfl : nh = h := by omega
      have k4 : ¬ (nh : Int) < (nh : Int) := by omega
      have hro : RowIs intR 3 w1.heap.size (ragL T bo or nh) _ wo := RowIs.of_own (by rw [ragL_len]; exact HOWN.out)
      have HRO := Lib.hid hro
      clear hro
      go_wp2_with fail
      go_ret
      exact ⟨_, rfl, HB.out.trans (HBO.out.mono HB.out.size), by rw [show T.hs.length = nh from HNH.out]; exact HRO.out.low HB.out.size⟩
end Go.Proofs.Ytmppiiamcpjhnaa
