/- Coolers: the law CoolTrue. -/
import Derived.Test.YtmppiiamcpjhnaaDL
namespace Go.Proofs.Ytmppiiamcpjhnaa
open Go.RowKit Go.Shelf

set_option maxRecDepth 100000 in
set_option maxHeartbeats 8000000 in
theorem true_law (V : TV) (T : Tn) (A : Option Addr) (n c : Nat) (bo : List Int) (f : Int) (U : UV) (X : Tu) (A2 : Option Addr) (p q : Nat) (fa : List Int) (w : World) (hN : TnAt w w.heap.size V T) (hX : TuAt w w.heap.size U X) (hl : bo.length = n) (hn : n ≤ maxLen) (hA : IntsAt w w.heap.size A bo) (hl2 : fa.length = p) (hp : p ≤ maxLen) (hA2 : IntsAt w w.heap.size A2 fa) :
    Calls Try.prog 5 #[tvV V, .slice A n c, .int .i64 f, uvV U, .slice A2 p q] w fun e w' => e = .returned (.bool true) ∧ Below w.heap.size w w' := by
  have ht := TX.new (T := T) (X := X) hN hX
  obtain ⟨w1, hw1⟩ : ∃ z, (w.alloc (.cells (tvC V) 25)).alloc (.cells (uvC U) 46) = z := ⟨_, rfl⟩
  rw [hw1] at ht
  have HL := Lib.hid hl; have HNN := Lib.hid hn; have HL2 := Lib.hid hl2; have HPN := Lib.hid hp
  have HA1 := Lib.hid (hA.next ht.bel ht.bel.size); have HG1 := Lib.hid (hA2.next ht.bel ht.bel.size); have HN1 := Lib.hid ht.tn; have HB1 := Lib.hid ht.bel; have HZ1 := Lib.hid ht.zt; have HX1 := Lib.hid ht.tu; have HY1 := Lib.hid ht.zx
  have HNH := Lib.hid hN.nh
  have m1 := hN.mh
  obtain ⟨ah, nh, ch, az, ns, cz⟩ := V
  obtain ⟨an, nn, cn, ag, ng, cg⟩ := U
  obtain ⟨v0, v1⟩ := box2 ht.zt
  obtain ⟨x0, x1⟩ := box2 ht.zx
  simp only at v0 v1 x0 x1 m1
  unfold maxLen at hn hp m1
  have hw1' : (w.alloc (.cells #[.slice ah nh ch, .slice az ns cz] 25)).alloc (.cells #[.slice an nn cn, .slice ag ng cg] 46) = w1 := hw1
  clear hw1 ht hN hX hl hA hl2 hA2
  go_enter Try.func5, Try.ntmps5
  go_wp2_with fail
  clear hw1'
  refine (short_any _ T _ HN1.out).mono ?_
  rintro e w2 ⟨rfl, hb⟩
  have HZ2 := Lib.hid ((hb.block _ (heapsz HZ1.out)).trans HZ1.out)
  have HB2 := Lib.hid (HB1.out.trans (hb.mono HB1.out.size))
  have HN2 := Lib.hid (HN1.out.up hb)
  have HA2 := Lib.hid (RowAt.up HA1.out hb)
  have HG2 := Lib.hid (RowAt.up HG1.out hb)
  have HX2 := Lib.hid (HX1.out.up hb)
  have HY2 := Lib.hid ((hb.block _ (heapsz HY1.out)).trans HY1.out)
  clear hb
  clear v0 v1 x0 x1
  obtain ⟨v0, v1⟩ := box2 HZ2.out
  obtain ⟨x0, x1⟩ := box2 HY2.out
  cases shortB T
  · clear v0 v1 x0 x1
    go_wp2_with fail
    refine (known_any _).mono ?_
    rintro e wk ⟨rfl, hbk⟩
    have HBK := Lib.hid (HB2.out.trans (hbk.mono HB2.out.size))
    clear hbk
    go_wp2_with fail
    go_ret
    exact ⟨rfl, HBK.out⟩
  go_wp2_with fail
  refine (sized_any _ X _ HX2.out).mono ?_
  rintro e w3 ⟨rfl, hb⟩
  have HZ3 := Lib.hid ((hb.block _ (heapsz HZ2.out)).trans HZ2.out)
  have HB3 := Lib.hid (HB2.out.trans (hb.mono HB2.out.size))
  have HN3 := Lib.hid (HN2.out.up hb)
  have HA3 := Lib.hid (RowAt.up HA2.out hb)
  have HG3 := Lib.hid (RowAt.up HG2.out hb)
  have HX3 := Lib.hid (HX2.out.up hb)
  have HY3 := Lib.hid ((hb.block _ (heapsz HY2.out)).trans HY2.out)
  clear hb
  clear v0 v1 x0 x1
  obtain ⟨v0, v1⟩ := box2 HZ3.out
  obtain ⟨x0, x1⟩ := box2 HY3.out
  cases sizedB X
  · clear v0 v1 x0 x1
    go_wp2_with fail
    refine (known_any _).mono ?_
    rintro e wk ⟨rfl, hbk⟩
    have HBK := Lib.hid (HB3.out.trans (hbk.mono HB3.out.size))
    clear hbk
    go_wp2_with fail
    go_ret
    exact ⟨rfl, HBK.out⟩
  by_cases h15 : (15 : Int) < (n : Int)
  · clear v0 v1 x0 x1
    go_wp2_with fail
    refine (known_any _).mono ?_
    rintro e wk ⟨rfl, hbk⟩
    have HBK := Lib.hid (HB3.out.trans (hbk.mono HB3.out.size))
    clear hbk
    go_wp2_with fail
    go_ret
    exact ⟨rfl, HBK.out⟩
  by_cases h16 : (15 : Int) < (p : Int)
  · clear v0 v1 x0 x1
    go_wp2_with fail
    refine (known_any _).mono ?_
    rintro e wk ⟨rfl, hbk⟩
    have HBK := Lib.hid (HB3.out.trans (hbk.mono HB3.out.size))
    clear hbk
    go_wp2_with fail
    go_ret
    exact ⟨rfl, HBK.out⟩
  go_wp2_with fail
  refine (asked_any _ T A n c bo _ HN3.out HL.out HNN.out HA3.out).mono ?_
  rintro e w4 ⟨rfl, hb⟩
  have HZ4 := Lib.hid ((hb.block _ (heapsz HZ3.out)).trans HZ3.out)
  have HB4 := Lib.hid (HB3.out.trans (hb.mono HB3.out.size))
  have HN4 := Lib.hid (HN3.out.up hb)
  have HA4 := Lib.hid (RowAt.up HA3.out hb)
  have HG4 := Lib.hid (RowAt.up HG3.out hb)
  have HX4 := Lib.hid (HX3.out.up hb)
  have HY4 := Lib.hid ((hb.block _ (heapsz HY3.out)).trans HY3.out)
  clear hb
  clear v0 v1 x0 x1
  obtain ⟨v0, v1⟩ := box2 HZ4.out
  obtain ⟨x0, x1⟩ := box2 HY4.out
  cases hask : (tnB T && coolB T bo)
  · clear v0 v1 x0 x1 hask
    go_wp2_with fail
    refine (known_any _).mono ?_
    rintro e wk ⟨rfl, hbk⟩
    have HBK := Lib.hid (HB4.out.trans (hbk.mono HB4.out.size))
    clear hbk
    go_wp2_with fail
    go_ret
    exact ⟨rfl, HBK.out⟩
  have h0 : coolI T bo = 0 := by unfold coolI; rw [hask]; rfl
  obtain ⟨hK, hC⟩ := town_ok h0
  have HKC := Lib.hid (And.intro hK (And.intro hC h0))
  clear hask hK hC h0
  go_wp2_with fail
  refine (rcoolers_any _ T A2 p q fa _ HN4.out HL2.out HPN.out HG4.out).mono ?_
  rintro e w5 ⟨rfl, hb⟩
  have HZ5 := Lib.hid ((hb.block _ (heapsz HZ4.out)).trans HZ4.out)
  have HB5 := Lib.hid (HB4.out.trans (hb.mono HB4.out.size))
  have HN5 := Lib.hid (HN4.out.up hb)
  have HA5 := Lib.hid (RowAt.up HA4.out hb)
  have HG5 := Lib.hid (RowAt.up HG4.out hb)
  have HX5 := Lib.hid (HX4.out.up hb)
  have HY5 := Lib.hid ((hb.block _ (heapsz HY4.out)).trans HY4.out)
  clear hb
  clear v0 v1 x0 x1
  obtain ⟨v0, v1⟩ := box2 HZ5.out
  obtain ⟨x0, x1⟩ := box2 HY5.out
  cases coolB T fa
  · clear v0 v1 x0 x1
    go_wp2_with fail
    refine (known_any _).mono ?_
    rintro e wk ⟨rfl, hbk⟩
    have HBK := Lib.hid (HB5.out.trans (hbk.mono HB5.out.size))
    clear hbk
    go_wp2_with fail
    go_ret
    exact ⟨rfl, HBK.out⟩
  go_wp2_with fail
  refine (rfails_any _ _).mono ?_
  rintro e w' ⟨rfl, rfl⟩
  cases hf : inB 0 f 3
  · clear v0 v1 x0 x1 hf
    go_wp2_with fail
    refine (known_any _).mono ?_
    rintro e wk ⟨rfl, hbk⟩
    have HBK := Lib.hid (HB5.out.trans (hbk.mono HB5.out.size))
    clear hbk
    go_wp2_with fail
    go_ret
    exact ⟨rfl, HBK.out⟩
  go_wp2_with fail
  refine (rtruth_any _ T _ X _ HN5.out HX5.out HKC.out.1).mono ?_
  rintro e w6 ⟨rfl, hb⟩
  have HZ6 := Lib.hid ((hb.block _ (heapsz HZ5.out)).trans HZ5.out)
  have HB6 := Lib.hid (HB5.out.trans (hb.mono HB5.out.size))
  have HN6 := Lib.hid (HN5.out.up hb)
  have HA6 := Lib.hid (RowAt.up HA5.out hb)
  have HG6 := Lib.hid (RowAt.up HG5.out hb)
  have HX6 := Lib.hid (HX5.out.up hb)
  have HY6 := Lib.hid ((hb.block _ (heapsz HY5.out)).trans HY5.out)
  clear hb
  clear v0 v1 x0 x1
  obtain ⟨v0, v1⟩ := box2 HZ6.out
  obtain ⟨x0, x1⟩ := box2 HY6.out
  cases htr : truB T X
  · clear v0 v1 x0 x1 htr hf
    go_wp2_with fail
    refine (known_any _).mono ?_
    rintro e wk ⟨rfl, hbk⟩
    have HBK := Lib.hid (HB6.out.trans (hbk.mono HB6.out.size))
    clear hbk
    go_wp2_with fail
    go_ret
    exact ⟨rfl, HBK.out⟩
  have HTO := Lib.hid (truB_iff.1 htr)
  have hf2 := inB_iff.1 hf
  have HKV : Hid (keepV T bo f = .tuple #[.bool (decide (f ≤ bearsK T (setI bo) T.hs.length)), .int .i64 0]) := Lib.hid (by rw [keepV_ok HKC.out.1 HKC.out.2.1 hf, keepS_iff hf2.2])
  have HBT : Hid (bearsT T bo = if bearsK T (setI bo) T.hs.length < 0 then .tuple #[.int .i64 0, .int .i64 5] else .tuple #[.int .i64 (bearsK T (setI bo) T.hs.length), .int .i64 0]) := Lib.hid (by unfold bearsT; rw [if_pos HKC.out.2.2])
  have hbk := bearsK_in T (setI bo) T.hs.length
  have HALL : Hid (((bo.length : Int) - ((remL bo fa).length : Int)) ≤ bearsK T (setI bo) T.hs.length → ∀ h, h < T.hs.length → 0 ≤ ovV X (remL bo fa) h) := Lib.hid (true_all HKC.out.1 HTO.out HKC.out.2.1)
  have HPE : Hid (plaE T X (remL bo fa) = 0 ∧ plaL T X (remL bo fa) = ovL T X (remL bo fa)) := Lib.hid (by
    have h3 : coolI T (remL bo fa) = 0 := by unfold coolI; rw [tnB_iff.2 HKC.out.1, rem_cool HKC.out.2.1]; rfl
    exact ⟨by unfold plaE; rw [if_pos h3, if_pos htr], by unfold plaL; rw [if_pos h3, if_pos htr]⟩)
  obtain ⟨bk, hbke⟩ : ∃ z, bearsK T (setI bo) T.hs.length = z := ⟨_, rfl⟩
  rw [hbke] at HKV HBT hbk HALL
  clear htr hf hbke
  by_cases hneg : bk < 0
  · by_cases hfb : f ≤ bk
    · exfalso
      omega
    · rw [decide_eq_false hfb] at HKV
      rw [if_pos hneg] at HBT
      go_wp2_with fail
      refine (Keeps_any _ T A n c bo f _ HN6.out HL.out HNN.out HA6.out).mono ?_
      rintro e w7 ⟨rfl, hb⟩
      have HZ7 := Lib.hid ((hb.block _ (heapsz HZ6.out)).trans HZ6.out)
      have HB7 := Lib.hid (HB6.out.trans (hb.mono HB6.out.size))
      have HN7 := Lib.hid (HN6.out.up hb)
      have HA7 := Lib.hid (RowAt.up HA6.out hb)
      have HG7 := Lib.hid (RowAt.up HG6.out hb)
      have HX7 := Lib.hid (HX6.out.up hb)
      have HY7 := Lib.hid ((hb.block _ (heapsz HY6.out)).trans HY6.out)
      clear hb
      clear v0 v1 x0 x1
      obtain ⟨v0, v1⟩ := box2 HZ7.out
      obtain ⟨x0, x1⟩ := box2 HY7.out
      rw [HKV.out]
      go_wp2_with fail
      refine (Bears_any _ T A n c bo _ HN7.out HL.out HNN.out HA7.out).mono ?_
      rintro e w8 ⟨rfl, hb⟩
      have HZ8 := Lib.hid ((hb.block _ (heapsz HZ7.out)).trans HZ7.out)
      have HB8 := Lib.hid (HB7.out.trans (hb.mono HB7.out.size))
      have HN8 := Lib.hid (HN7.out.up hb)
      have HA8 := Lib.hid (RowAt.up HA7.out hb)
      have HG8 := Lib.hid (RowAt.up HG7.out hb)
      have HX8 := Lib.hid (HX7.out.up hb)
      have HY8 := Lib.hid ((hb.block _ (heapsz HY7.out)).trans HY7.out)
      clear hb
      clear v0 v1 x0 x1
      obtain ⟨v0, v1⟩ := box2 HZ8.out
      obtain ⟨x0, x1⟩ := box2 HY8.out
      rw [HBT.out]
      have hle := hf2.2
      have hb1 : bk = -1 := by omega
      subst hb1
      go_wp2_with fail
      refine (rwithout_any bo fa A A2 n c p q _ HL.out HL2.out (by omega) HPN.out HA8.out HG8.out).mono ?_
      rintro e w9 ⟨vl, rfl, hb, hr⟩
      obtain ⟨A3, c3, rfl⟩ := hr.len
      have HR9 := Lib.hid hr
      have HZ9 := Lib.hid ((hb.block _ (heapsz HZ8.out)).trans HZ8.out)
      have HB9 := Lib.hid (HB8.out.trans (hb.mono HB8.out.size))
      have HN9 := Lib.hid (HN8.out.up hb)
      have HA9 := Lib.hid (RowAt.up HA8.out hb)
      have HG9 := Lib.hid (RowAt.up HG8.out hb)
      have HX9 := Lib.hid (HX8.out.up hb)
      have HY9 := Lib.hid ((hb.block _ (heapsz HY8.out)).trans HY8.out)
      clear hb hr
      clear v0 v1 x0 x1
      obtain ⟨v0, v1⟩ := box2 HZ9.out
      obtain ⟨x0, x1⟩ := box2 HY9.out
      obtain ⟨m, hm⟩ : ∃ z, (remL bo fa).length = z := ⟨_, rfl⟩
      have hmn : m ≤ n := by rw [← hm, ← HL.out]; exact List.length_filter_le _ _
      have HM := Lib.hid hm
      have hwr : IntKind.i64.wrap ((n : Int) - (m : Int)) = (n : Int) - (m : Int) := IntWalk.i64_in _ (by omega)
      rw [hm]
      clear hm
      by_cases hgt : (-1 : Int) < (n : Int) - (m : Int)
      · clear v0 v1 x0 x1
        go_wp2_with fail
        refine (known_any _).mono ?_
        rintro e wk ⟨rfl, hbk⟩
        have HBK := Lib.hid (HB9.out.trans (hbk.mono HB9.out.size))
        clear hbk
        go_wp2_with fail
        go_ret
        exact ⟨rfl, HBK.out⟩
      exfalso
      omega
  · by_cases hfb : f ≤ bk
    · rw [decide_eq_true hfb] at HKV
      rw [if_neg hneg] at HBT
      go_wp2_with fail
      refine (Keeps_any _ T A n c bo f _ HN6.out HL.out HNN.out HA6.out).mono ?_
      rintro e w7 ⟨rfl, hb⟩
      have HZ7 := Lib.hid ((hb.block _ (heapsz HZ6.out)).trans HZ6.out)
      have HB7 := Lib.hid (HB6.out.trans (hb.mono HB6.out.size))
      have HN7 := Lib.hid (HN6.out.up hb)
      have HA7 := Lib.hid (RowAt.up HA6.out hb)
      have HG7 := Lib.hid (RowAt.up HG6.out hb)
      have HX7 := Lib.hid (HX6.out.up hb)
      have HY7 := Lib.hid ((hb.block _ (heapsz HY6.out)).trans HY6.out)
      clear hb
      clear v0 v1 x0 x1
      obtain ⟨v0, v1⟩ := box2 HZ7.out
      obtain ⟨x0, x1⟩ := box2 HY7.out
      rw [HKV.out]
      go_wp2_with fail
      refine (Bears_any _ T A n c bo _ HN7.out HL.out HNN.out HA7.out).mono ?_
      rintro e w8 ⟨rfl, hb⟩
      have HZ8 := Lib.hid ((hb.block _ (heapsz HZ7.out)).trans HZ7.out)
      have HB8 := Lib.hid (HB7.out.trans (hb.mono HB7.out.size))
      have HN8 := Lib.hid (HN7.out.up hb)
      have HA8 := Lib.hid (RowAt.up HA7.out hb)
      have HG8 := Lib.hid (RowAt.up HG7.out hb)
      have HX8 := Lib.hid (HX7.out.up hb)
      have HY8 := Lib.hid ((hb.block _ (heapsz HY7.out)).trans HY7.out)
      clear hb
      clear v0 v1 x0 x1
      obtain ⟨v0, v1⟩ := box2 HZ8.out
      obtain ⟨x0, x1⟩ := box2 HY8.out
      rw [HBT.out]
      have hle := hf2.2
      go_wp2_with fail
      refine (rwithout_any bo fa A A2 n c p q _ HL.out HL2.out (by omega) HPN.out HA8.out HG8.out).mono ?_
      rintro e w9 ⟨vl, rfl, hb, hr⟩
      obtain ⟨A3, c3, rfl⟩ := hr.len
      have HR9 := Lib.hid hr
      have HZ9 := Lib.hid ((hb.block _ (heapsz HZ8.out)).trans HZ8.out)
      have HB9 := Lib.hid (HB8.out.trans (hb.mono HB8.out.size))
      have HN9 := Lib.hid (HN8.out.up hb)
      have HA9 := Lib.hid (RowAt.up HA8.out hb)
      have HG9 := Lib.hid (RowAt.up HG8.out hb)
      have HX9 := Lib.hid (HX8.out.up hb)
      have HY9 := Lib.hid ((hb.block _ (heapsz HY8.out)).trans HY8.out)
      clear hb hr
      clear v0 v1 x0 x1
      obtain ⟨v0, v1⟩ := box2 HZ9.out
      obtain ⟨x0, x1⟩ := box2 HY9.out
      obtain ⟨m, hm⟩ : ∃ z, (remL bo fa).length = z := ⟨_, rfl⟩
      have hmn : m ≤ n := by rw [← hm, ← HL.out]; exact List.length_filter_le _ _
      have HM := Lib.hid hm
      have hwr : IntKind.i64.wrap ((n : Int) - (m : Int)) = (n : Int) - (m : Int) := IntWalk.i64_in _ (by omega)
      rw [hm]
      clear hm
      by_cases hgt : bk < (n : Int) - (m : Int)
      · clear v0 v1 x0 x1
        go_wp2_with fail
        refine (known_any _).mono ?_
        rintro e wk ⟨rfl, hbk⟩
        have HBK := Lib.hid (HB9.out.trans (hbk.mono HB9.out.size))
        clear hbk
        go_wp2_with fail
        go_ret
        exact ⟨rfl, HBK.out⟩
      have HOV : Hid (∀ h, h < T.hs.length → 0 ≤ ovV X (remL bo fa) h) := Lib.hid (HALL.out (by rw [HM.out, HL.out]; omega))
      go_wp2_with fail
      refine (Play_any _ T A3 m c3 (remL bo fa) _ X _ HN9.out HM.out (by unfold maxLen; omega) (row_ints HR9.out) HX9.out).mono ?_
      rintro e w10 ⟨vp, rfl, hb, hr⟩
      obtain ⟨A4, c4, rfl⟩ := hr.len
      have HQ10 := Lib.hid hr
      have HZ10 := Lib.hid ((hb.block _ (heapsz HZ9.out)).trans HZ9.out)
      have HB10 := Lib.hid (HB9.out.trans (hb.mono HB9.out.size))
      have HN10 := Lib.hid (HN9.out.up hb)
      have HA10 := Lib.hid (RowAt.up HA9.out hb)
      have HG10 := Lib.hid (RowAt.up HG9.out hb)
      have HX10 := Lib.hid (HX9.out.up hb)
      have HY10 := Lib.hid ((hb.block _ (heapsz HY9.out)).trans HY9.out)
      have HR10 := Lib.hid (HR9.out.below hb)
      clear hb hr
      clear v0 v1 x0 x1
      obtain ⟨v0, v1⟩ := box2 HZ10.out
      obtain ⟨x0, x1⟩ := box2 HY10.out
      rw [HPE.out.2] at HQ10
      rw [HPE.out.1, HPE.out.2]
      have hlen : (ovL T X (remL bo fa)).length = nh := by unfold ovL; rw [List.length_map, List.length_range]; exact HNH.out
      rw [hlen] at HQ10 ⊢
      clear hwr hgt
      go_wp2_with fail
      clear v0 v1 x0 x1
      go_loopw [19] (fun ii wr => ∃ k : Nat, k ≤ nh ∧ ii = .int .i64 k ∧ wr = w10) (fun ii _ => nh - (intOf ii).toNat)
      case atStart => exact ⟨0, by omega, rfl, rfl⟩
      case round =>
        obtain ⟨k, hk, rfl, rfl⟩ := hrel
        by_cases hlt : k < nh
        · have k3 : (0 : Int) ≤ (k : Int) := by omega
          have k4 : (k : Int) < (nh : Int) := by omega
          have hkT : k < T.hs.length := by have h1 : T.hs.length = nh := HNH.out; omega
          have hget : (ovL T X (remL bo fa))[k]? = some (ovV X (remL bo fa) k) := by
            unfold ovL
            rw [List.getElem?_map, List.getElem?_range hkT]
            rfl
          obtain ⟨b9, o9, rfl, _, c9⟩ := ints_el (row_ints HQ10.out) hget
          have h9 := HOV.out k hkT
          obtain ⟨y, hy⟩ : ∃ y, ovV X (remL bo fa) k = y := ⟨_, rfl⟩
          rw [hy] at c9 h9
          have h10 : ¬ y < 0 := by omega
          clear hget hy
          go_wp2_with fail
          exact ⟨⟨k + 1, by omega, rfl, (by first | rfl | trivial)⟩, by simp [intOf]; omega⟩
        · obtain rfl : nh = k := by omega
          have k4 : ¬ (nh : Int) < (nh : Int) := by omega
          go_wp2_with fail
          refine (known_any _).mono ?_
          rintro e wk ⟨rfl, hbk⟩
          have HBK := Lib.hid (HB10.out.trans (hbk.mono HB10.out.size))
          clear hbk
          go_wp2_with fail
          go_ret
          exact ⟨rfl, HBK.out⟩
    · rw [decide_eq_false hfb] at HKV
      rw [if_neg hneg] at HBT
      go_wp2_with fail
      refine (Keeps_any _ T A n c bo f _ HN6.out HL.out HNN.out HA6.out).mono ?_
      rintro e w7 ⟨rfl, hb⟩
      have HZ7 := Lib.hid ((hb.block _ (heapsz HZ6.out)).trans HZ6.out)
      have HB7 := Lib.hid (HB6.out.trans (hb.mono HB6.out.size))
      have HN7 := Lib.hid (HN6.out.up hb)
      have HA7 := Lib.hid (RowAt.up HA6.out hb)
      have HG7 := Lib.hid (RowAt.up HG6.out hb)
      have HX7 := Lib.hid (HX6.out.up hb)
      have HY7 := Lib.hid ((hb.block _ (heapsz HY6.out)).trans HY6.out)
      clear hb
      clear v0 v1 x0 x1
      obtain ⟨v0, v1⟩ := box2 HZ7.out
      obtain ⟨x0, x1⟩ := box2 HY7.out
      rw [HKV.out]
      go_wp2_with fail
      refine (Bears_any _ T A n c bo _ HN7.out HL.out HNN.out HA7.out).mono ?_
      rintro e w8 ⟨rfl, hb⟩
      have HZ8 := Lib.hid ((hb.block _ (heapsz HZ7.out)).trans HZ7.out)
      have HB8 := Lib.hid (HB7.out.trans (hb.mono HB7.out.size))
      have HN8 := Lib.hid (HN7.out.up hb)
      have HA8 := Lib.hid (RowAt.up HA7.out hb)
      have HG8 := Lib.hid (RowAt.up HG7.out hb)
      have HX8 := Lib.hid (HX7.out.up hb)
      have HY8 := Lib.hid ((hb.block _ (heapsz HY7.out)).trans HY7.out)
      clear hb
      clear v0 v1 x0 x1
      obtain ⟨v0, v1⟩ := box2 HZ8.out
      obtain ⟨x0, x1⟩ := box2 HY8.out
      rw [HBT.out]
      have hle := hf2.2
      go_wp2_with fail
      refine (rwithout_any bo fa A A2 n c p q _ HL.out HL2.out (by omega) HPN.out HA8.out HG8.out).mono ?_
      rintro e w9 ⟨vl, rfl, hb, hr⟩
      obtain ⟨A3, c3, rfl⟩ := hr.len
      have HR9 := Lib.hid hr
      have HZ9 := Lib.hid ((hb.block _ (heapsz HZ8.out)).trans HZ8.out)
      have HB9 := Lib.hid (HB8.out.trans (hb.mono HB8.out.size))
      have HN9 := Lib.hid (HN8.out.up hb)
      have HA9 := Lib.hid (RowAt.up HA8.out hb)
      have HG9 := Lib.hid (RowAt.up HG8.out hb)
      have HX9 := Lib.hid (HX8.out.up hb)
      have HY9 := Lib.hid ((hb.block _ (heapsz HY8.out)).trans HY8.out)
      clear hb hr
      clear v0 v1 x0 x1
      obtain ⟨v0, v1⟩ := box2 HZ9.out
      obtain ⟨x0, x1⟩ := box2 HY9.out
      obtain ⟨m, hm⟩ : ∃ z, (remL bo fa).length = z := ⟨_, rfl⟩
      have hmn : m ≤ n := by rw [← hm, ← HL.out]; exact List.length_filter_le _ _
      have HM := Lib.hid hm
      have hwr : IntKind.i64.wrap ((n : Int) - (m : Int)) = (n : Int) - (m : Int) := IntWalk.i64_in _ (by omega)
      rw [hm]
      clear hm
      by_cases hgt : bk < (n : Int) - (m : Int)
      · clear v0 v1 x0 x1
        go_wp2_with fail
        refine (known_any _).mono ?_
        rintro e wk ⟨rfl, hbk⟩
        have HBK := Lib.hid (HB9.out.trans (hbk.mono HB9.out.size))
        clear hbk
        go_wp2_with fail
        go_ret
        exact ⟨rfl, HBK.out⟩
      have HOV : Hid (∀ h, h < T.hs.length → 0 ≤ ovV X (remL bo fa) h) := Lib.hid (HALL.out (by rw [HM.out, HL.out]; omega))
      go_wp2_with fail
      refine (Play_any _ T A3 m c3 (remL bo fa) _ X _ HN9.out HM.out (by unfold maxLen; omega) (row_ints HR9.out) HX9.out).mono ?_
      rintro e w10 ⟨vp, rfl, hb, hr⟩
      obtain ⟨A4, c4, rfl⟩ := hr.len
      have HQ10 := Lib.hid hr
      have HZ10 := Lib.hid ((hb.block _ (heapsz HZ9.out)).trans HZ9.out)
      have HB10 := Lib.hid (HB9.out.trans (hb.mono HB9.out.size))
      have HN10 := Lib.hid (HN9.out.up hb)
      have HA10 := Lib.hid (RowAt.up HA9.out hb)
      have HG10 := Lib.hid (RowAt.up HG9.out hb)
      have HX10 := Lib.hid (HX9.out.up hb)
      have HY10 := Lib.hid ((hb.block _ (heapsz HY9.out)).trans HY9.out)
      have HR10 := Lib.hid (HR9.out.below hb)
      clear hb hr
      clear v0 v1 x0 x1
      obtain ⟨v0, v1⟩ := box2 HZ10.out
      obtain ⟨x0, x1⟩ := box2 HY10.out
      rw [HPE.out.2] at HQ10
      rw [HPE.out.1, HPE.out.2]
      have hlen : (ovL T X (remL bo fa)).length = nh := by unfold ovL; rw [List.length_map, List.length_range]; exact HNH.out
      rw [hlen] at HQ10 ⊢
      clear hwr hgt
      go_wp2_with fail
      clear v0 v1 x0 x1
      go_loopw [19] (fun ii wr => ∃ k : Nat, k ≤ nh ∧ ii = .int .i64 k ∧ wr = w10) (fun ii _ => nh - (intOf ii).toNat)
      case atStart => exact ⟨0, by omega, rfl, rfl⟩
      case round =>
        obtain ⟨k, hk, rfl, rfl⟩ := hrel
        by_cases hlt : k < nh
        · have k3 : (0 : Int) ≤ (k : Int) := by omega
          have k4 : (k : Int) < (nh : Int) := by omega
          have hkT : k < T.hs.length := by have h1 : T.hs.length = nh := HNH.out; omega
          have hget : (ovL T X (remL bo fa))[k]? = some (ovV X (remL bo fa) k) := by
            unfold ovL
            rw [List.getElem?_map, List.getElem?_range hkT]
            rfl
          obtain ⟨b9, o9, rfl, _, c9⟩ := ints_el (row_ints HQ10.out) hget
          have h9 := HOV.out k hkT
          obtain ⟨y, hy⟩ : ∃ y, ovV X (remL bo fa) k = y := ⟨_, rfl⟩
          rw [hy] at c9 h9
          have h10 : ¬ y < 0 := by omega
          clear hget hy
          go_wp2_with fail
          exact ⟨⟨k + 1, by omega, rfl, (by first | rfl | trivial)⟩, by simp [intOf]; omega⟩
        · obtain rfl : nh = k := by omega
          have k4 : ¬ (nh : Int) < (nh : Int) := by omega
          go_wp2_with fail
          refine (known_any _).mono ?_
          rintro e wk ⟨rfl, hbk⟩
          have HBK := Lib.hid (HB10.out.trans (hbk.mono HB10.out.size))
          clear hbk
          go_wp2_with fail
          go_ret
          exact ⟨rfl, HBK.out⟩
end Go.Proofs.Ytmppiiamcpjhnaa
