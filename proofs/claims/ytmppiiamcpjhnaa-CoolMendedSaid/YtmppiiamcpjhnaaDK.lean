/- Coolers: the law CoolPlays. -/
import Derived.Test.YtmppiiamcpjhnaaDH
import Derived.Test.YtmppiiamcpjhnaaDI
import Derived.Test.YtmppiiamcpjhnaaDD
namespace Go.Proofs.Ytmppiiamcpjhnaa
open Go.RowKit Go.Shelf

set_option maxRecDepth 100000 in
set_option maxHeartbeats 8000000 in
theorem plays_law (V : TV) (T : Tn) (A : Option Addr) (n c : Nat) (cs : List Int) (U : UV) (X : Tu) (w : World) (hN : TnAt w w.heap.size V T) (hX : TuAt w w.heap.size U X) (hl : cs.length = n) (hn : n ≤ maxLen) (hA : IntsAt w w.heap.size A cs) :
    Calls Try.prog 4 #[tvV V, .slice A n c, uvV U] w fun e w' => e = .returned (.bool true) ∧ Below w.heap.size w w' := by
  have ht := TX.new (T := T) (X := X) hN hX
  obtain ⟨w1, hw1⟩ : ∃ z, (w.alloc (.cells (tvC V) 25)).alloc (.cells (uvC U) 46) = z := ⟨_, rfl⟩
  rw [hw1] at ht
  have HL := Lib.hid hl; have HNN := Lib.hid hn
  have HA1 := Lib.hid (hA.next ht.bel ht.bel.size); have HN1 := Lib.hid ht.tn; have HB1 := Lib.hid ht.bel; have HZ1 := Lib.hid ht.zt; have HX1 := Lib.hid ht.tu; have HY1 := Lib.hid ht.zx
  obtain ⟨ah, nh, ch, az, ns, cz⟩ := V
  obtain ⟨an, nn, cn, ag, ng, cg⟩ := U
  obtain ⟨v0, v1⟩ := box2 ht.zt
  obtain ⟨x0, x1⟩ := box2 ht.zx
  simp only at v0 v1 x0 x1
  unfold maxLen at hn
  have hw1' : (w.alloc (.cells #[.slice ah nh ch, .slice az ns cz] 25)).alloc (.cells #[.slice an nn cn, .slice ag ng cg] 46) = w1 := hw1
  clear hw1 ht hN hX hl hA
  go_enter Try.func4, Try.ntmps4
  go_wp2_with fail
  clear hw1'
  refine (short_any _ T _ HN1.out).mono ?_
  rintro e w2 ⟨rfl, hb⟩
  have HZ2 := Lib.hid ((hb.block _ (heapsz HZ1.out)).trans HZ1.out)
  have HB2 := Lib.hid (HB1.out.trans (hb.mono HB1.out.size))
  have HN2 := Lib.hid (HN1.out.up hb)
  have HA2 := Lib.hid (RowAt.up HA1.out hb)
  have HX2 := Lib.hid (HX1.out.up hb)
  have HY2 := Lib.hid ((hb.block _ (heapsz HY1.out)).trans HY1.out)
  clear hb
  clear v0 v1 x0 x1
  obtain ⟨v0, v1⟩ := box2 HZ2.out
  obtain ⟨x0, x1⟩ := box2 HY2.out
  cases shortB T
  · clear v0 v1 x0 x1
    go_wp2_with fail
    refine (known_any _).mono ?_
    rintro e wk ⟨rfl, hbk⟩
    have HBK := Lib.hid (HB2.out.trans (hbk.mono HB2.out.size))
    clear hbk
    go_wp2_with fail
    go_ret
    exact ⟨rfl, HBK.out⟩
  go_wp2_with fail
  refine (sized_any _ X _ HX2.out).mono ?_
  rintro e w3 ⟨rfl, hb⟩
  have HZ3 := Lib.hid ((hb.block _ (heapsz HZ2.out)).trans HZ2.out)
  have HB3 := Lib.hid (HB2.out.trans (hb.mono HB2.out.size))
  have HN3 := Lib.hid (HN2.out.up hb)
  have HA3 := Lib.hid (RowAt.up HA2.out hb)
  have HX3 := Lib.hid (HX2.out.up hb)
  have HY3 := Lib.hid ((hb.block _ (heapsz HY2.out)).trans HY2.out)
  clear hb
  clear v0 v1 x0 x1
  obtain ⟨v0, v1⟩ := box2 HZ3.out
  obtain ⟨x0, x1⟩ := box2 HY3.out
  cases sizedB X
  · clear v0 v1 x0 x1
    go_wp2_with fail
    refine (known_any _).mono ?_
    rintro e wk ⟨rfl, hbk⟩
    have HBK := Lib.hid (HB3.out.trans (hbk.mono HB3.out.size))
    clear hbk
    go_wp2_with fail
    go_ret
    exact ⟨rfl, HBK.out⟩
  by_cases h15 : (15 : Int) < (n : Int)
  · clear v0 v1 x0 x1
    go_wp2_with fail
    refine (known_any _).mono ?_
    rintro e wk ⟨rfl, hbk⟩
    have HBK := Lib.hid (HB3.out.trans (hbk.mono HB3.out.size))
    clear hbk
    go_wp2_with fail
    go_ret
    exact ⟨rfl, HBK.out⟩
  go_wp2_with fail
  refine (Play_any _ T A n c cs _ X _ HN3.out HL.out HNN.out HA3.out HX3.out).mono ?_
  rintro e w4 ⟨vl, rfl, hb, hr⟩
  obtain ⟨A3, c3, rfl⟩ := hr.len
  have HR4 := Lib.hid hr
  have HZ4 := Lib.hid ((hb.block _ (heapsz HZ3.out)).trans HZ3.out)
  have HB4 := Lib.hid (HB3.out.trans (hb.mono HB3.out.size))
  have HN4 := Lib.hid (HN3.out.up hb)
  have HA4 := Lib.hid (RowAt.up HA3.out hb)
  have HX4 := Lib.hid (HX3.out.up hb)
  have HY4 := Lib.hid ((hb.block _ (heapsz HY3.out)).trans HY3.out)
  clear hb hr
  clear v0 v1 x0 x1
  obtain ⟨v0, v1⟩ := box2 HZ4.out
  obtain ⟨x0, x1⟩ := box2 HY4.out
  obtain ⟨ee, hee⟩ : ∃ z, plaE T X cs = z := ⟨_, rfl⟩
  obtain ⟨ll, hll⟩ : ∃ z, plaL T X cs = z := ⟨_, rfl⟩
  rw [hll] at HR4
  rw [hee, hll]
  have HPL := Lib.hid (And.intro hee hll)
  clear hee hll
  go_wp2_with fail
  refine (asked_any _ T A n c cs _ HN4.out HL.out HNN.out HA4.out).mono ?_
  rintro e w5 ⟨rfl, hb⟩
  have HZ5 := Lib.hid ((hb.block _ (heapsz HZ4.out)).trans HZ4.out)
  have HB5 := Lib.hid (HB4.out.trans (hb.mono HB4.out.size))
  have HN5 := Lib.hid (HN4.out.up hb)
  have HA5 := Lib.hid (RowAt.up HA4.out hb)
  have HX5 := Lib.hid (HX4.out.up hb)
  have HY5 := Lib.hid ((hb.block _ (heapsz HY4.out)).trans HY4.out)
  have HR5 := Lib.hid (HR4.out.below hb)
  clear hb
  clear v0 v1 x0 x1
  obtain ⟨v0, v1⟩ := box2 HZ5.out
  obtain ⟨x0, x1⟩ := box2 HY5.out
  cases hask : (tnB T && coolB T cs)
  · obtain ⟨rfl, rfl⟩ : ee = 2 ∧ ll = [] := by
      have h2 : ¬ coolI T cs = 0 := by unfold coolI; rw [hask]; decide
      exact ⟨by rw [← HPL.out.1]; unfold plaE; rw [if_neg h2], by rw [← HPL.out.2]; unfold plaL; rw [if_neg h2]⟩
    clear hask v0 v1 x0 x1
    go_wp2_with fail
    refine (known_any _).mono ?_
    rintro e wk ⟨rfl, hbk⟩
    have HBK := Lib.hid (HB5.out.trans (hbk.mono HB5.out.size))
    clear hbk
    go_wp2_with fail
    go_ret
    exact ⟨rfl, HBK.out⟩
  have h0 : coolI T cs = 0 := by unfold coolI; rw [hask]; rfl
  obtain ⟨hK, hC⟩ := town_ok h0
  have HKC := Lib.hid (And.intro hK (And.intro hC h0))
  clear hask hK hC h0
  go_wp2_with fail
  refine (rtruth_any _ T _ X _ HN5.out HX5.out HKC.out.1).mono ?_
  rintro e w6 ⟨rfl, hb⟩
  have HZ6 := Lib.hid ((hb.block _ (heapsz HZ5.out)).trans HZ5.out)
  have HB6 := Lib.hid (HB5.out.trans (hb.mono HB5.out.size))
  have HN6 := Lib.hid (HN5.out.up hb)
  have HA6 := Lib.hid (RowAt.up HA5.out hb)
  have HX6 := Lib.hid (HX5.out.up hb)
  have HY6 := Lib.hid ((hb.block _ (heapsz HY5.out)).trans HY5.out)
  have HR6 := Lib.hid (HR5.out.below hb)
  clear hb
  clear v0 v1 x0 x1
  obtain ⟨v0, v1⟩ := box2 HZ6.out
  obtain ⟨x0, x1⟩ := box2 HY6.out
  cases htr : truB T X
  · obtain ⟨rfl, rfl⟩ : ee = 2 ∧ ll = [] :=
      ⟨by rw [← HPL.out.1]; unfold plaE; rw [if_pos HKC.out.2.2, htr]; rfl, by rw [← HPL.out.2]; unfold plaL; rw [if_pos HKC.out.2.2, htr]; rfl⟩
    clear htr v0 v1 x0 x1
    go_wp2_with fail
    refine (known_any _).mono ?_
    rintro e wk ⟨rfl, hbk⟩
    have HBK := Lib.hid (HB6.out.trans (hbk.mono HB6.out.size))
    clear hbk
    go_wp2_with fail
    go_ret
    exact ⟨rfl, HBK.out⟩
  obtain ⟨rfl, rfl⟩ : ee = 0 ∧ ll = ovL T X cs :=
    ⟨by rw [← HPL.out.1]; unfold plaE; rw [if_pos HKC.out.2.2, htr]; rfl, by rw [← HPL.out.2]; unfold plaL; rw [if_pos HKC.out.2.2, htr]; rfl⟩
  have HTO := Lib.hid (truB_iff.1 htr)
  have HIN : Hid (∀ x ∈ cs, 0 ≤ x ∧ x < T.ss.length) := Lib.hid fun x hx => by have := clB_mem HKC.out.2.1 x hx; omega
  clear htr
  go_wp2_with fail
  refine (rover_any _ T A n c cs _ X _ HN6.out HL.out (by omega) HA6.out HX6.out HKC.out.1 HTO.out HIN.out).mono ?_
  rintro e w7 ⟨vo, rfl, hb, hr⟩
  obtain ⟨A4, c4, rfl⟩ := hr.len
  have HQ7 := Lib.hid hr
  have HZ7 := Lib.hid ((hb.block _ (heapsz HZ6.out)).trans HZ6.out)
  have HB7 := Lib.hid (HB6.out.trans (hb.mono HB6.out.size))
  have HN7 := Lib.hid (HN6.out.up hb)
  have HA7 := Lib.hid (RowAt.up HA6.out hb)
  have HX7 := Lib.hid (HX6.out.up hb)
  have HY7 := Lib.hid ((hb.block _ (heapsz HY6.out)).trans HY6.out)
  have HR7 := Lib.hid (HR6.out.below hb)
  clear hb hr
  clear v0 v1 x0 x1
  obtain ⟨v0, v1⟩ := box2 HZ7.out
  obtain ⟨x0, x1⟩ := box2 HY7.out
  have hlo : (ovL T X cs).length ≤ maxLen := by
    have h1 : (ovL T X cs).length = T.hs.length := by unfold ovL; rw [List.length_map, List.length_range]
    have := HKC.out.1.h6
    unfold maxLen
    omega
  go_wp2_with fail
  refine (same_any (ovL T X cs) (ovL T X cs) A3 A4 _ c3 _ c4 _ rfl rfl hlo (row_ints HR7.out) (row_ints HQ7.out)).mono ?_
  rintro e w8 ⟨rfl, hb⟩
  have HZ8 := Lib.hid ((hb.block _ (heapsz HZ7.out)).trans HZ7.out)
  have HB8 := Lib.hid (HB7.out.trans (hb.mono HB7.out.size))
  have HN8 := Lib.hid (HN7.out.up hb)
  have HA8 := Lib.hid (RowAt.up HA7.out hb)
  have HX8 := Lib.hid (HX7.out.up hb)
  have HY8 := Lib.hid ((hb.block _ (heapsz HY7.out)).trans HY7.out)
  have HR8 := Lib.hid (HR7.out.below hb)
  have HQ8 := Lib.hid (HQ7.out.below hb)
  clear hb
  first | rw [show decide True = true from rfl] | rw [decide_eq_true rfl]
  clear v0 v1 x0 x1
  go_wp2_with fail
  refine (known_any _).mono ?_
  rintro e wk ⟨rfl, hbk⟩
  have HBK := Lib.hid (HB8.out.trans (hbk.mono HB8.out.size))
  clear hbk
  go_wp2_with fail
  go_ret
  exact ⟨rfl, HBK.out⟩
end Go.Proofs.Ytmppiiamcpjhnaa
