/- Coolers: whether an order is good, by the specification. -/
import Derived.Test.YtmppiiamcpjhnaaEA
import Derived.Test.YtmppiiamcpjhnaaEC
namespace Go.Proofs.Ytmppiiamcpjhnaa
open Go.RowKit Go.Shelf

theorem inB_no {a n b : Int} (h : ¬ (a ≤ n ∧ n ≤ b)) : inB a n b = false := by
  cases hb : inB a n b with
  | false => rfl
  | true => exact absurd (inB_iff.1 hb) h
theorem wait_eq {T : Tn} {h : Nat} {x : Hs} (hx : T.hs[h]? = some x) (k : Int) : waitB T h k = inB 0 k x.g := by unfold waitB; rw [hx]
set_option maxRecDepth 100000 in
set_option maxHeartbeats 8000000 in
theorem rgood_any (V : TV) (T : Tn) (A : Option Addr) (n c : Nat) (bo : List Int) (A2 : Option Addr) (p q : Nat) (or : List Int) (w : World) (hN : TnAt w w.heap.size V T) (hl : bo.length = n) (hn : n ≤ 100) (hA : IntsAt w w.heap.size A bo) (hl2 : or.length = p) (hp : p ≤ 6) (hpq : p ≤ q) (hA2 : IntsAt w w.heap.size A2 or) (hK : TnOk T) (hC : coolB T bo = true) (ho : ordB bo or = true) :
    Calls Try.prog 96 #[tvV V, .slice A n c, .slice A2 p q] w fun e w' => e = .returned (.bool (goodB T (setI bo) or)) ∧ Below w.heap.size w w' := by
  have z := heap_alloc_new w (.cells (tvC V) 25)
  have hb := (Below.refl w.heap.size w).alloc (Nat.le_refl _) (.cells (tvC V) 25)
  obtain ⟨w1, hw1⟩ : ∃ z, w.alloc (.cells (tvC V) 25) = z := ⟨_, rfl⟩
  rw [hw1] at z hb
  have HW := Lib.hid hw1; have HB := Lib.hid hb; have HZ := Lib.hid z
  have HN := Lib.hid (hN.up hb)
  have HREC := Lib.hid (ragain_any V T A n c bo A2 p q or w1 (hN.up hb) hl hn (RowAt.up hA hb) hl2 hp hpq (RowAt.up hA2 hb) hK hC ho)
  have HNH := Lib.hid hN.nh
  have h6 := hK.h6
  obtain ⟨ah, nh, ch, az, ns, cz⟩ := V
  have hnh6 : nh ≤ 6 := by have h1 : T.hs.length = nh := HNH.out; omega
  obtain ⟨v0, v1⟩ := box2 z
  simp only at v0 v1
  clear z hb hw1 hN hA hA2 hl hl2 hK hC ho h6
  go_enter Try.func96, Try.ntmps96
  go_wp2_with fail
  rw [show w.alloc (.cells #[.slice ah nh ch, .slice az ns cz] 25) = w1 from HW.out]
  go_wp2_with fail
  refine HREC.out.mono ?_
  rintro e w2 ⟨v, rfl, hb2, hr2⟩
  obtain ⟨A4, c4, rfl⟩ := hr2.len
  rw [ragL_len, show T.hs.length = nh from HNH.out]
  rw [ragL_len, show T.hs.length = nh from HNH.out] at hr2
  have HR2 := Lib.hid (row_ints hr2)
  have HB2 := Lib.hid (HB.out.trans (hb2.mono HB.out.size))
  have HN2 := Lib.hid (HN.out.up hb2)
  have HZ2 := Lib.hid ((hb2.block _ (heapsz HZ.out)).trans HZ.out)
  clear hb2 hr2 v0 v1
  go_wp2_with fail
  go_loopw [8] (fun hh wr => ∃ h : Nat, h ≤ nh ∧ hh = .int .i64 h ∧ (∀ k, k < h → waitB T k (agZ T bo or k) = true) ∧ Below w2.heap.size w2 wr) (fun hh _ => nh - (intOf hh).toNat)
  case atStart => exact ⟨0, by omega, rfl, fun k hk => absurd hk (Nat.not_lt_zero _), Below.refl _ _⟩
  case round =>
    obtain ⟨h, hh, rfl, hall, hbr⟩ := hrel
    have HBR0 := Lib.hid hbr; have HALL := Lib.hid hall
    have HBR := Lib.hid (HB2.out.trans (hbr.mono HB2.out.size))
    by_cases hlt : h < nh
    · have k3 : (0 : Int) ≤ (h : Int) := by omega
      have k4 : (h : Int) < (nh : Int) := by omega
      obtain ⟨x, hx⟩ := get_of_lt (l := T.hs) (k := h) (by rw [HNH.out]; exact hlt)
      have hget : (ragL T bo or nh)[h]? = some (agZ T bo or h) := by unfold ragL; rw [List.getElem?_map, List.getElem?_range hlt]; rfl
      obtain ⟨b9, o9, rfl, hb9, c9⟩ := ints_el HR2.out hget
      obtain ⟨b1, o1, hah, hb1, d0, d1, d2⟩ := hs_el HN2.out.hs hx
      have hah2 : ah = some ⟨b1, o1, none⟩ := hah
      subst hah2
      have HWT := Lib.hid (wait_eq hx (agZ T bo or h))
      obtain ⟨y, hy⟩ : ∃ y, agZ T bo or h = y := ⟨_, rfl⟩
      rw [hy] at c9 HWT
      have HY := Lib.hid hy
      obtain ⟨z0, z1⟩ := box2 HZ2.out
      have hsw := heapsz HZ2.out
      have p0 : ∀ u : KeptW wr, u.w.cell? ⟨w.heap.size, 0, none⟩ = some (.slice (some ⟨b1, o1, none⟩) nh ch) := fun u => ((bcell (hbr.trans (u.h.mono hbr.size))).1 _ _ hsw).trans z0
      have p1 : ∀ u : KeptW wr, u.w.cell? ⟨b9, o9 + h, none⟩ = some (.int .i64 y) := fun u => ((bcell (hbr.trans (u.h.mono hbr.size))).1 _ _ hb9).trans c9
      have p2 : ∀ u : KeptW wr, u.w.cell? ⟨b1, o1 + h * 3 + 2, none⟩ = some (.int .i64 x.g) := fun u => ((bcell (hbr.trans (u.h.mono hbr.size))).1 _ _ hb1).trans d2
      have HHT : Hid (h < T.hs.length) := Lib.hid (by rw [HNH.out]; exact hlt)
      clear hx hget hb9 c9 hah hb1 d0 d1 d2 hy z0 z1 hsw hbr hall
      by_cases hneg : y < 0
      · have HR : Hid (goodB T (setI bo) or = false) := Lib.hid (good_no HHT.out (by show waitB T h (agZ T bo or h) = false; rw [HY.out, HWT.out]; exact inB_no (fun hh => by omega)))
        go_wp2_with fail
        refine rk_region (by kernel_rfl) (by kernel_rfl) ?_
        repeat (go_big_quiet_step (fail))
        refine wpQuiet_nil ?_
        rintro wz ⟨⟨_, hbz⟩, rfl⟩
        have HBZ := Lib.hid (HBR.out.trans (hbz.mono HBR.out.size)); have HBZ0 := Lib.hid (HBR0.out.trans (hbz.mono HBR0.out.size))
        clear hbz p0 p1 p2
        go_wp2_with fail
        go_ret
        exact ⟨by rw [HR.out]; rfl, HBZ.out⟩
      · by_cases hgt : x.g < y
        · have HR : Hid (goodB T (setI bo) or = false) := Lib.hid (good_no HHT.out (by show waitB T h (agZ T bo or h) = false; rw [HY.out, HWT.out]; exact inB_no (fun hh => by omega)))
          go_wp2_with fail
          have hneg2 : ¬ y < 0 := by omega
          refine rk_region (by kernel_rfl) (by kernel_rfl) ?_
          repeat (go_big_quiet_step (fail))
          refine wpQuiet_nil ?_
          rintro wz ⟨⟨_, hbz⟩, rfl⟩
          have HBZ := Lib.hid (HBR.out.trans (hbz.mono HBR.out.size)); have HBZ0 := Lib.hid (HBR0.out.trans (hbz.mono HBR0.out.size))
          clear hbz p0 p1 p2
          go_wp2_with fail
          go_ret
          exact ⟨by rw [HR.out]; rfl, HBZ.out⟩
        · have HAL2 : Hid (∀ k, k < h + 1 → waitB T k (agZ T bo or k) = true) := Lib.hid fun k hk => by
            rcases Nat.lt_succ_iff_lt_or_eq.1 hk with hk | rfl
            · exact HALL.out k hk
            · rw [HY.out, HWT.out]
              exact inB_iff.2 ⟨by omega, by omega⟩
          go_wp2_with fail
          have hneg2 : ¬ y < 0 := by omega
          have hgt2 : ¬ x.g < y := by omega
          refine rk_region (by kernel_rfl) (by kernel_rfl) ?_
          repeat (go_big_quiet_step (fail))
          refine wpQuiet_nil ?_
          rintro wz ⟨⟨_, hbz⟩, rfl⟩
          have HBZ := Lib.hid (HBR.out.trans (hbz.mono HBR.out.size)); have HBZ0 := Lib.hid (HBR0.out.trans (hbz.mono HBR0.out.size))
          clear hbz p0 p1 p2
          go_wp2_with fail
          exact ⟨⟨h + 1, by omega, rfl, HAL2.out, HBZ0.out⟩, by simp [intOf]; omega⟩
    · obtain rfl : nh = h := by omega
      have k4 : ¬ (nh : Int) < (nh : Int) := by omega
      have HR : Hid (goodB T (setI bo) or = true) := Lib.hid (good_yes fun k hk => HALL.out k (by rw [← show T.hs.length = nh from HNH.out]; exact hk))
      clear hbr hall
      go_wp2_with fail
      go_ret
      exact ⟨by rw [HR.out]; rfl, HBR.out⟩
end Go.Proofs.Ytmppiiamcpjhnaa
