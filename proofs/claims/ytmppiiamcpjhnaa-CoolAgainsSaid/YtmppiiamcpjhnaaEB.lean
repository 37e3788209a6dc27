/- Coolers: the law CoolAgains. -/
import Derived.Test.YtmppiiamcpjhnaaEA
import Derived.Test.YtmppiiamcpjhnaaDN
namespace Go.Proofs.Ytmppiiamcpjhnaa
open Go.RowKit Go.Shelf

set_option maxRecDepth 100000 in
set_option maxHeartbeats 8000000 in
theorem agains_law (V : TV) (T : Tn) (A : Option Addr) (n c : Nat) (bo : List Int) (A2 : Option Addr) (p q : Nat) (or : List Int) (w : World) (hN : TnAt w w.heap.size V T) (hl : bo.length = n) (hn : n ≤ maxLen) (_hnc : n ≤ c) (hA : IntsAt w w.heap.size A bo) (hl2 : or.length = p) (hp : p ≤ maxLen) (hpq : p ≤ q) (hA2 : IntsAt w w.heap.size A2 or) :
    Calls Try.prog 9 #[tvV V, .slice A n c, .slice A2 p q] w fun e w' => e = .returned (.bool true) ∧ Below w.heap.size w w' := by
  have z := heap_alloc_new w (.cells (tvC V) 25)
  have hb := (Below.refl w.heap.size w).alloc (Nat.le_refl _) (.cells (tvC V) 25)
  obtain ⟨w1, hw1⟩ : ∃ z, w.alloc (.cells (tvC V) 25) = z := ⟨_, rfl⟩
  rw [hw1] at z hb
  have HL := Lib.hid hl; have HNN := Lib.hid hn; have HL2 := Lib.hid hl2; have HPN := Lib.hid hp
  have HA1 := Lib.hid (RowAt.up hA hb); have HG1 := Lib.hid (RowAt.up hA2 hb); have HN1 := Lib.hid (hN.up hb); have HB1 := Lib.hid hb; have HZ1 := Lib.hid z
  have HNH := Lib.hid hN.nh
  obtain ⟨ah, nh, ch, az, ns, cz⟩ := V
  obtain ⟨v0, v1⟩ := box2 z
  simp only at v0 v1
  unfold maxLen at hn hp
  have hw1' : w.alloc (.cells #[.slice ah nh ch, .slice az ns cz] 25) = w1 := hw1
  clear z hb hw1 hN hl hA hl2 hA2
  go_enter Try.func9, Try.ntmps9
  go_wp2_with fail
  clear hw1'
  refine (short_any _ T _ HN1.out).mono ?_
  rintro e w2 ⟨rfl, hb⟩
  have HZ2 := Lib.hid ((hb.block _ (heapsz HZ1.out)).trans HZ1.out)
  have HB2 := Lib.hid (HB1.out.trans (hb.mono HB1.out.size))
  have HN2 := Lib.hid (HN1.out.up hb)
  have HA2 := Lib.hid (RowAt.up HA1.out hb)
  have HG2 := Lib.hid (RowAt.up HG1.out hb)
  clear hb
  clear v0 v1
  obtain ⟨v0, v1⟩ := box2 HZ2.out
  cases shortB T
  · clear v0 v1
    go_wp2_with fail
    refine (known_any _).mono ?_
    rintro e wk ⟨rfl, hbk⟩
    have HBK := Lib.hid (HB2.out.trans (hbk.mono HB2.out.size))
    clear hbk
    go_wp2_with fail
    go_ret
    exact ⟨rfl, HBK.out⟩
  by_cases h15 : (15 : Int) < (n : Int)
  · clear v0 v1
    go_wp2_with fail
    refine (known_any _).mono ?_
    rintro e wk ⟨rfl, hbk⟩
    have HBK := Lib.hid (HB2.out.trans (hbk.mono HB2.out.size))
    clear hbk
    go_wp2_with fail
    go_ret
    exact ⟨rfl, HBK.out⟩
  by_cases h16 : (15 : Int) < (p : Int)
  · clear v0 v1
    go_wp2_with fail
    refine (known_any _).mono ?_
    rintro e wk ⟨rfl, hbk⟩
    have HBK := Lib.hid (HB2.out.trans (hbk.mono HB2.out.size))
    clear hbk
    go_wp2_with fail
    go_ret
    exact ⟨rfl, HBK.out⟩
  go_wp2_with fail
  refine (Again_any _ T A n c bo A2 p q or _ HN2.out HL.out HNN.out HA2.out HL2.out HPN.out hpq HG2.out).mono ?_
  rintro e w3 ⟨vl, rfl, hb, hr⟩
  obtain ⟨A3, c3, rfl⟩ := hr.len
  have HR3 := Lib.hid hr
  have HZ3 := Lib.hid ((hb.block _ (heapsz HZ2.out)).trans HZ2.out)
  have HB3 := Lib.hid (HB2.out.trans (hb.mono HB2.out.size))
  have HN3 := Lib.hid (HN2.out.up hb)
  have HA3 := Lib.hid (RowAt.up HA2.out hb)
  have HG3 := Lib.hid (RowAt.up HG2.out hb)
  clear hb hr
  clear v0 v1
  obtain ⟨v0, v1⟩ := box2 HZ3.out
  obtain ⟨oe, hoe⟩ : ∃ z, ordI T bo or = z := ⟨_, rfl⟩
  obtain ⟨ll, hll⟩ : ∃ z, agaL T bo or = z := ⟨_, rfl⟩
  rw [hll] at HR3
  rw [hoe, hll]
  have HPL := Lib.hid (And.intro hoe hll)
  clear hoe hll
  go_wp2_with fail
  refine (repaired_any _ T A n c bo A2 p q or _ HN3.out HL.out HNN.out HA3.out HL2.out HPN.out hpq HG3.out).mono ?_
  rintro e w4 ⟨rfl, hb⟩
  have HZ4 := Lib.hid ((hb.block _ (heapsz HZ3.out)).trans HZ3.out)
  have HB4 := Lib.hid (HB3.out.trans (hb.mono HB3.out.size))
  have HN4 := Lib.hid (HN3.out.up hb)
  have HA4 := Lib.hid (RowAt.up HA3.out hb)
  have HG4 := Lib.hid (RowAt.up HG3.out hb)
  have HR4 := Lib.hid (HR3.out.below hb)
  clear hb
  clear v0 v1
  obtain ⟨v0, v1⟩ := box2 HZ4.out
  rw [HPL.out.1]
  rcases ord_cases T bo or with ho | ho | ho
  · obtain ⟨rfl, rfl⟩ : oe = 3 ∧ ll = [] := ⟨by rw [← HPL.out.1]; exact ho, by rw [← HPL.out.2]; unfold agaL; rw [if_neg (by rw [ho]; decide)]⟩
    clear ho v0 v1
    go_wp2_with fail
    refine (known_any _).mono ?_
    rintro e wk ⟨rfl, hbk⟩
    have HBK := Lib.hid (HB4.out.trans (hbk.mono HB4.out.size))
    clear hbk
    go_wp2_with fail
    go_ret
    exact ⟨rfl, HBK.out⟩
  · obtain ⟨rfl, rfl⟩ : oe = 2 ∧ ll = [] := ⟨by rw [← HPL.out.1]; exact ho, by rw [← HPL.out.2]; unfold agaL; rw [if_neg (by rw [ho]; decide)]⟩
    clear ho v0 v1
    go_wp2_with fail
    refine (known_any _).mono ?_
    rintro e wk ⟨rfl, hbk⟩
    have HBK := Lib.hid (HB4.out.trans (hbk.mono HB4.out.size))
    clear hbk
    go_wp2_with fail
    go_ret
    exact ⟨rfl, HBK.out⟩
  · obtain ⟨rfl, rfl⟩ : oe = 0 ∧ ll = ragL T bo or T.hs.length := ⟨by rw [← HPL.out.1]; exact ho, by rw [← HPL.out.2]; unfold agaL ragL; rw [if_pos ho]⟩
    obtain ⟨hK, hC, hob, hp6⟩ := ord_ok ho
    have HKC := Lib.hid (And.intro hK (And.intro hC hob))
    have hp6' : p ≤ 6 := by rw [← HL2.out]; exact hp6
    clear ho hK hC hob hp6
    go_wp2_with fail
    refine (ragain_any _ T A n c bo A2 p q or _ HN4.out HL.out (by omega) HA4.out HL2.out hp6' hpq HG4.out HKC.out.1 HKC.out.2.1 HKC.out.2.2).mono ?_
    rintro e w5 ⟨vo, rfl, hb, hr⟩
    obtain ⟨A4, c4, rfl⟩ := hr.len
    have HQ5 := Lib.hid hr
    have HZ5 := Lib.hid ((hb.block _ (heapsz HZ4.out)).trans HZ4.out)
    have HB5 := Lib.hid (HB4.out.trans (hb.mono HB4.out.size))
    have HN5 := Lib.hid (HN4.out.up hb)
    have HA5 := Lib.hid (RowAt.up HA4.out hb)
    have HG5 := Lib.hid (RowAt.up HG4.out hb)
    have HR5 := Lib.hid (HR4.out.below hb)
    clear hb hr
    clear v0 v1
    obtain ⟨v0, v1⟩ := box2 HZ5.out
    have hlo : (ragL T bo or T.hs.length).length ≤ maxLen := by
      rw [ragL_len]
      have := HKC.out.1.h6
      unfold maxLen
      omega
    go_wp2_with fail
    refine (same_any (ragL T bo or T.hs.length) (ragL T bo or T.hs.length) A3 A4 _ c3 _ c4 _ rfl rfl hlo (row_ints HR5.out) (row_ints HQ5.out)).mono ?_
    rintro e w6 ⟨rfl, hb⟩
    have HZ6 := Lib.hid ((hb.block _ (heapsz HZ5.out)).trans HZ5.out)
    have HB6 := Lib.hid (HB5.out.trans (hb.mono HB5.out.size))
    have HN6 := Lib.hid (HN5.out.up hb)
    have HA6 := Lib.hid (RowAt.up HA5.out hb)
    have HG6 := Lib.hid (RowAt.up HG5.out hb)
    have HR6 := Lib.hid (HR5.out.below hb)
    have HQ6 := Lib.hid (HQ5.out.below hb)
    clear hb
    first | rw [show decide True = true from rfl] | rw [decide_eq_true rfl]
    clear v0 v1
    go_wp2_with fail
    refine (known_any _).mono ?_
    rintro e wk ⟨rfl, hbk⟩
    have HBK := Lib.hid (HB6.out.trans (hbk.mono HB6.out.size))
    clear hbk
    go_wp2_with fail
    go_ret
    exact ⟨rfl, HBK.out⟩
end Go.Proofs.Ytmppiiamcpjhnaa
