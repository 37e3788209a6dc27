/- Coolers: the law CoolMended. -/
import Derived.Test.YtmppiiamcpjhnaaES
import Derived.Test.YtmppiiamcpjhnaaEK
namespace Go.Proofs.Ytmppiiamcpjhnaa
open Go.RowKit Go.Shelf

set_option maxRecDepth 100000 in
set_option maxHeartbeats 8000000 in
theorem rwithout_own (l failed : List Int) (A1 A2 : Option Addr) (n c1 p q : Nat) (w : World) (h1 : l.length = n) (h2 : failed.length = p) (hn : n ≤ 1000) (hp : p ≤ maxLen) (ha : IntsAt w w.heap.size A1 l) (hb : IntsAt w w.heap.size A2 failed) :
    Calls Try.prog 30 #[.slice A1 n c1, .slice A2 p q] w fun e w' => ∃ v, e = .returned v ∧ Below w.heap.size w w' ∧ w'.ownsRow w.heap.size 3 1 v (remL l failed).length (flatR intR (remL l failed)) := by
  have HL1 := Lib.hid h1; have HL2 := Lib.hid h2; have HA := Lib.hid ha; have HB := Lib.hid hb; have HP := Lib.hid hp
  clear h1 h2 ha hb hp
  obtain ⟨i0, hi0, hz0, hz1, hz2⟩ := info_parts int_info
  go_enter Try.func30, Try.ntmps30
  go_wp2_with fail
  go_loopw [5, 6] (fun vv ii wr => ∃ k : Nat, k ≤ n ∧ ii = .int .i64 k ∧ Below w.heap.size w wr ∧ wr.ownsRow w.heap.size 3 1 vv (remL (l.take k) failed).length (flatR intR (remL (l.take k) failed))) (fun _ ii _ => n - (intOf ii).toNat)
  case atStart => exact ⟨0, by omega, rfl, Below.refl _ _, World.ownsRow_nil _ _ _ _⟩
  case round =>
    obtain ⟨k, hk, rfl, hbr, hown⟩ := hrel
    have HBR := Lib.hid hbr; have HOWN := Lib.hid hown
    clear hown
    by_cases hlt : k < n
    · have k3 : (0 : Int) ≤ (k : Int) := by omega
      have k4 : (k : Int) < (n : Int) := by omega
      obtain ⟨x, hx⟩ := get_of_lt (l := l) (k := k) (by rw [HL1.out]; exact hlt)
      obtain ⟨b, o, rfl, hbb, c0⟩ := ints_el (RowAt.next HA.out hbr hbr.size) hx
      have HX := Lib.hid hx
      have HC := Lib.hid (has_any A2 p q failed x wr HL2.out HP.out (RowAt.next HB.out hbr hbr.size))
      have hsz : w.heap.size ≤ wr.heap.size := hbr.size
      clear hx hbb hbr
      go_wp2_with fail
      refine HC.out.mono ?_
      rintro e w2 ⟨rfl, rfl⟩
      clear HC
      by_cases hin : x ∈ failed
      · rw [decide_eq_true hin]
        have HR := Lib.hid (remL_in HX.out hin)
        clear hin
        go_wp2_with fail
        exact ⟨⟨k + 1, by omega, rfl, HBR.out, by rw [HR.out]; exact HOWN.out⟩, by simp [intOf]; omega⟩
      · rw [decide_eq_false hin]
        have HR := Lib.hid (remL_out HX.out hin)
        have hlen := @remL_len l failed k
        obtain ⟨L, hL⟩ : ∃ z, remL (l.take k) failed = z := ⟨_, rfl⟩
        rw [hL] at HR HOWN hlen
        clear hin hL
        go_wp2_with (first
          | (at_builtin
             refine wpList_append_own _ rfl _ _ 26 rfl w.heap.size 3 i0 _ 1 8 Try.underlying26 hi0 hz0 hz1 hz2 rfl (by decide) _ _ _ rfl (own_next HOWN.out ((Below.refl _ wr).alloc (Nat.le_refl _) _)) ⟨wr.heap.size, 0, none⟩ 1 1 [.int .i64 x] rfl rfl (cells_new wr [.int .i64 x] 3) (by simp [Value.oneCell']) (by unfold maxLen; omega) (by omega) (by simp; omega) ?_
             intro v' w6 hown6 hgr6 hnil6)
          | fail)
        refine ⟨⟨k + 1, by omega, rfl, ?_, ?_⟩, by simp [intOf]; omega⟩
        · have hb6 : Below w.heap.size w (wr.alloc (.cells #[.int .i64 x] 3)) := HBR.out.alloc hsz _
          exact hb6.grown hgr6 hb6.size (fun q e => (own_at HOWN.out e).1)
        · rw [HR.out, flatR_snoc, List.length_append]
          exact hown6
    · obtain rfl : n = k := by omega
      have k4 : ¬ (n : Int) < (n : Int) := by omega
      have hro := HOWN.out
      rw [List.take_of_length_le (by rw [HL1.out]; omega)] at hro
      have HRO := Lib.hid hro
      clear hbr hro
      go_wp2_with fail
      go_ret
      exact ⟨_, rfl, HBR.out, HRO.out⟩
theorem row_intsN {B n c : Nat} {A : Option Addr} {xs : List Int} {w : World} (_h : xs.length = n) (h : RowIs intR 3 B xs (.slice A n c) w) : IntsAt w w.heap.size A xs := by
  obtain ⟨A', c', e, h1, _⟩ := h.at_ (k := 1) (fun _ => rfl)
  injection e with e
  rw [e]
  exact h1
theorem fail_len (bo ot : List Int) (i : Nat) : (failL (bo.take i) ot).length ≤ i := Nat.le_trans (List.length_filter_le _ _) (by rw [List.length_take]; omega)
theorem fail_in {bo ot : List Int} {i : Nat} {y : Int} (h : bo[i]? = some y) (hy : y ∈ ot) : failL (bo.take (i + 1)) ot = failL (bo.take i) ot ++ [y] := by
  unfold failL
  rw [List.take_add_one, h, List.filter_append]
  simp [hy]
theorem fail_out {bo ot : List Int} {i : Nat} {y : Int} (h : bo[i]? = some y) (hy : ¬ y ∈ ot) : failL (bo.take (i + 1)) ot = failL (bo.take i) ot := by
  unfold failL
  rw [List.take_add_one, h, List.filter_append]
  simp [hy]
set_option maxRecDepth 100000 in
set_option maxHeartbeats 32000000 in
theorem mended_law (V : TV) (T : Tn) (A : Option Addr) (n c : Nat) (bo : List Int) (A2 : Option Addr) (p q : Nat) (ot : List Int) (U : UV) (X : Tu) (w : World) (hN : TnAt w w.heap.size V T) (hX : TuAt w w.heap.size U X) (hl : bo.length = n) (hn : n ≤ maxLen) (_hnc : n ≤ c) (hA : IntsAt w w.heap.size A bo) (hl2 : ot.length = p) (hp : p ≤ maxLen) (hpq : p ≤ q) (hA2 : IntsAt w w.heap.size A2 ot) :
    Calls Try.prog 11 #[tvV V, .slice A n c, .slice A2 p q, uvV U] w fun e w' => e = .returned (.bool true) ∧ Below w.heap.size w w' := by
  have ht := TX.new (T := T) (X := X) hN hX
  obtain ⟨w1, hw1⟩ : ∃ z, (w.alloc (.cells (tvC V) 25)).alloc (.cells (uvC U) 46) = z := ⟨_, rfl⟩
  rw [hw1] at ht
  have HL := Lib.hid hl; have HNN := Lib.hid hn; have HL2 := Lib.hid hl2; have HPN := Lib.hid hp
  have HA1 := Lib.hid (hA.next ht.bel ht.bel.size); have HG1 := Lib.hid (hA2.next ht.bel ht.bel.size); have HN1 := Lib.hid ht.tn; have HB1 := Lib.hid ht.bel; have HZ1 := Lib.hid ht.zt; have HX1 := Lib.hid ht.tu; have HY1 := Lib.hid ht.zx
  have HNH := Lib.hid hN.nh; have HNS := Lib.hid hN.ns; have HNN2 := Lib.hid hX.nn; have HNG := Lib.hid hX.ng
  obtain ⟨ah, nh, ch, az, ns, cz⟩ := V
  obtain ⟨an, nn, cn, ag, ng, cg⟩ := U
  obtain ⟨v0, v1⟩ := box2 ht.zt
  obtain ⟨x0, x1⟩ := box2 ht.zx
  simp only at v0 v1 x0 x1
  unfold maxLen at hn hp
  have hw1' : (w.alloc (.cells #[.slice ah nh ch, .slice az ns cz] 25)).alloc (.cells #[.slice an nn cn, .slice ag ng cg] 46) = w1 := hw1
  clear hw1 ht hN hX hl hA hl2 hA2
  go_enter Try.func11, Try.ntmps11
  go_wp2_with fail
  clear hw1'
  refine (short_any _ T _ HN1.out).mono ?_
  rintro e w2 ⟨rfl, hb⟩
  have HZ2 := Lib.hid ((hb.block _ (heapsz HZ1.out)).trans HZ1.out)
  have HB2 := Lib.hid (HB1.out.trans (hb.mono HB1.out.size))
  have HN2 := Lib.hid (HN1.out.up hb)
  have HA2 := Lib.hid (RowAt.up HA1.out hb)
  have HG2 := Lib.hid (RowAt.up HG1.out hb)
  have HX2 := Lib.hid (HX1.out.up hb)
  have HY2 := Lib.hid ((hb.block _ (heapsz HY1.out)).trans HY1.out)
  clear hb
  clear v0 v1 x0 x1
  obtain ⟨v0, v1⟩ := box2 HZ2.out
  obtain ⟨x0, x1⟩ := box2 HY2.out
  cases shortB T
  · clear v0 v1 x0 x1
    go_wp2_with fail
    refine (known_any _).mono ?_
    rintro e wk ⟨rfl, hbk⟩
    have HBK := Lib.hid (HB2.out.trans (hbk.mono HB2.out.size))
    clear hbk
    go_wp2_with fail
    go_ret
    exact ⟨rfl, HBK.out⟩
  go_wp2_with fail
  refine (sized_any _ X _ HX2.out).mono ?_
  rintro e w3 ⟨rfl, hb⟩
  have HZ3 := Lib.hid ((hb.block _ (heapsz HZ2.out)).trans HZ2.out)
  have HB3 := Lib.hid (HB2.out.trans (hb.mono HB2.out.size))
  have HN3 := Lib.hid (HN2.out.up hb)
  have HA3 := Lib.hid (RowAt.up HA2.out hb)
  have HG3 := Lib.hid (RowAt.up HG2.out hb)
  have HX3 := Lib.hid (HX2.out.up hb)
  have HY3 := Lib.hid ((hb.block _ (heapsz HY2.out)).trans HY2.out)
  clear hb
  clear v0 v1 x0 x1
  obtain ⟨v0, v1⟩ := box2 HZ3.out
  obtain ⟨x0, x1⟩ := box2 HY3.out
  cases sizedB X
  · clear v0 v1 x0 x1
    go_wp2_with fail
    refine (known_any _).mono ?_
    rintro e wk ⟨rfl, hbk⟩
    have HBK := Lib.hid (HB3.out.trans (hbk.mono HB3.out.size))
    clear hbk
    go_wp2_with fail
    go_ret
    exact ⟨rfl, HBK.out⟩
  by_cases h15 : (15 : Int) < (n : Int)
  · clear v0 v1 x0 x1
    go_wp2_with fail
    refine (known_any _).mono ?_
    rintro e wk ⟨rfl, hbk⟩
    have HBK := Lib.hid (HB3.out.trans (hbk.mono HB3.out.size))
    clear hbk
    go_wp2_with fail
    go_ret
    exact ⟨rfl, HBK.out⟩
  by_cases h16 : (6 : Int) < (p : Int)
  · clear v0 v1 x0 x1
    go_wp2_with fail
    refine (known_any _).mono ?_
    rintro e wk ⟨rfl, hbk⟩
    have HBK := Lib.hid (HB3.out.trans (hbk.mono HB3.out.size))
    clear hbk
    go_wp2_with fail
    go_ret
    exact ⟨rfl, HBK.out⟩
  go_wp2_with fail
  refine (repaired_any _ T A n c bo A2 p q ot _ HN3.out HL.out HNN.out HA3.out HL2.out HPN.out hpq HG3.out).mono ?_
  rintro e w4 ⟨rfl, hb⟩
  have HZ4 := Lib.hid ((hb.block _ (heapsz HZ3.out)).trans HZ3.out)
  have HB4 := Lib.hid (HB3.out.trans (hb.mono HB3.out.size))
  have HN4 := Lib.hid (HN3.out.up hb)
  have HA4 := Lib.hid (RowAt.up HA3.out hb)
  have HG4 := Lib.hid (RowAt.up HG3.out hb)
  have HX4 := Lib.hid (HX3.out.up hb)
  have HY4 := Lib.hid ((hb.block _ (heapsz HY3.out)).trans HY3.out)
  clear hb
  clear v0 v1 x0 x1
  obtain ⟨v0, v1⟩ := box2 HZ4.out
  obtain ⟨x0, x1⟩ := box2 HY4.out
  rcases ord_cases T bo ot with ho | ho | ho
  · rw [ho]
    clear ho
    go_wp2_with fail
    clear v0 v1 x0 x1
    refine (known_any _).mono ?_
    rintro e wk ⟨rfl, hbk⟩
    have HBK := Lib.hid (HB4.out.trans (hbk.mono HB4.out.size))
    clear hbk
    go_wp2_with fail
    go_ret
    exact ⟨rfl, HBK.out⟩
  · rw [ho]
    clear ho
    go_wp2_with fail
    clear v0 v1 x0 x1
    refine (known_any _).mono ?_
    rintro e wk ⟨rfl, hbk⟩
    have HBK := Lib.hid (HB4.out.trans (hbk.mono HB4.out.size))
    clear hbk
    go_wp2_with fail
    go_ret
    exact ⟨rfl, HBK.out⟩
  · rw [ho]
    obtain ⟨hK, hC, hob, hp6⟩ := ord_ok ho
    have HKC := Lib.hid (And.intro hK (And.intro hC hob))
    have HO := Lib.hid ho
    have hl6 : ot.length ≤ 6 := hp6
    have HP6 := Lib.hid hl6
    have h6 := hK.h6; have h10 := hK.s10
    clear ho hK hC hob hp6
    go_wp2_with fail
    refine (rtruth_any _ T _ X _ HN4.out HX4.out HKC.out.1).mono ?_
    rintro e w5 ⟨rfl, hb⟩
    have HZ5 := Lib.hid ((hb.block _ (heapsz HZ4.out)).trans HZ4.out)
    have HB5 := Lib.hid (HB4.out.trans (hb.mono HB4.out.size))
    have HN5 := Lib.hid (HN4.out.up hb)
    have HA5 := Lib.hid (RowAt.up HA4.out hb)
    have HG5 := Lib.hid (RowAt.up HG4.out hb)
    have HX5 := Lib.hid (HX4.out.up hb)
    have HY5 := Lib.hid ((hb.block _ (heapsz HY4.out)).trans HY4.out)
    clear hb
    clear v0 v1 x0 x1
    obtain ⟨v0, v1⟩ := box2 HZ5.out
    obtain ⟨x0, x1⟩ := box2 HY5.out
    cases htr : truB T X
    · clear htr
      go_wp2_with fail
      clear v0 v1 x0 x1
      refine (known_any _).mono ?_
      rintro e wk ⟨rfl, hbk⟩
      have HBK := Lib.hid (HB5.out.trans (hbk.mono HB5.out.size))
      clear hbk
      go_wp2_with fail
      go_ret
      exact ⟨rfl, HBK.out⟩
    have HTO := Lib.hid (truB_iff.1 htr)
    have hnh6 : nh ≤ 6 := by have h1 : T.hs.length = nh := HNH.out; omega
    have hns10 : ns ≤ 10 := by have h1 : T.ss.length = ns := HNS.out; omega
    have hnn : nn = nh := by have h1 : T.hs.length = nh := HNH.out; have h2 : X.ns.length = nn := HNN2.out; have := HTO.out.n; omega
    subst hnn
    have hng : ng = ns := by have h1 : T.ss.length = ns := HNS.out; have h2 : X.gs.length = ng := HNG.out; have := HTO.out.g; omega
    subst hng
    obtain ⟨i0, hi0, hz0, hz1, hz2⟩ := info_parts int_info
    clear htr h6 h10
    go_wp2_with fail
    clear v0 v1 x0 x1
    go_loopw [9, 10] (fun vv ii wr => ∃ i : Nat, i ≤ n ∧ ii = .int .i64 i ∧ Below w5.heap.size w5 wr ∧ wr.ownsRow w5.heap.size 3 1 vv (failL (bo.take i) ot).length (flatR intR (failL (bo.take i) ot))) (fun _ ii _ => n - (intOf ii).toNat)
    case atStart => exact ⟨0, by omega, rfl, Below.refl _ _, World.ownsRow_nil _ _ _ _⟩
    case round =>
      obtain ⟨i, hi, rfl, hbr, hown⟩ := hrel
      have HBR := Lib.hid hbr; have HOWN := Lib.hid hown
      have hsz : w5.heap.size ≤ wr.heap.size := hbr.size
      clear hown
      by_cases hlt : i < n
      · have k3 : (0 : Int) ≤ (i : Int) := by omega
        have k4 : (i : Int) < (n : Int) := by omega
        obtain ⟨y, hy⟩ := get_of_lt (l := bo) (k := i) (by rw [HL.out]; exact hlt)
        obtain ⟨b, o, rfl, hbb, c0⟩ := ints_el (RowAt.next HA5.out hbr hbr.size) hy
        have hlen := fail_len bo ot i
        have HHS := Lib.hid (has_any A2 p q ot y wr HL2.out HPN.out (RowAt.next HG5.out hbr hbr.size))
        by_cases hin : y ∈ ot
        · have HR := Lib.hid (fail_in hy hin)
          rw [decide_eq_true hin] at HHS
          obtain ⟨F, hF⟩ : ∃ z, failL (bo.take i) ot = z := ⟨_, rfl⟩
          rw [hF] at HR HOWN hlen
          clear hy hbb hin hF hbr
          go_wp2_with fail
          refine HHS.out.mono ?_
          rintro e w2 ⟨rfl, rfl⟩
          clear HHS
          go_wp2_with (first
            | (at_builtin
               refine wpList_append_own _ rfl _ _ 26 rfl w5.heap.size 3 i0 _ 1 8 Try.underlying26 hi0 hz0 hz1 hz2 rfl (by decide) _ _ _ rfl (own_next HOWN.out ((Below.refl _ wr).alloc (Nat.le_refl _) _)) ⟨wr.heap.size, 0, none⟩ 1 1 [.int .i64 y] rfl rfl (cells_new wr [.int .i64 y] 3) (by simp [Value.oneCell']) (by unfold maxLen; omega) (by omega) (by simp; omega) ?_
               intro v' w6 hown6 hgr6 hnil6)
            | fail)
          refine ⟨⟨i + 1, by omega, rfl, ?_, ?_⟩, by simp [intOf]; omega⟩
          · have hb6 : Below w5.heap.size w5 (wr.alloc (.cells #[.int .i64 y] 3)) := HBR.out.alloc hsz _
            exact hb6.grown hgr6 hb6.size (fun q e => (own_at HOWN.out e).1)
          · rw [HR.out, flatR_snoc, List.length_append]
            exact hown6
        · have HR := Lib.hid (fail_out hy hin)
          rw [decide_eq_false hin] at HHS
          clear hy hbb hin hbr
          go_wp2_with fail
          refine HHS.out.mono ?_
          rintro e w2 ⟨rfl, rfl⟩
          clear HHS
          go_wp2_with fail
          exact ⟨⟨i + 1, by omega, rfl, HBR.out, by rw [HR.out]; exact HOWN.out⟩, by simp [intOf]; omega⟩
      · obtain rfl : n = i := by omega
        have k4 : ¬ (n : Int) < (n : Int) := by omega
        have hro := RowIs.of_own HOWN.out
        rw [List.take_of_length_le (by rw [HL.out]; exact Nat.le_refl _)] at hro
        obtain ⟨w6, rfl⟩ : ∃ z : World, z = wr := ⟨_, rfl⟩
        have hb := hbr
        have HF6 := Lib.hid hro
        obtain ⟨fa, hfa⟩ : ∃ z, failL bo ot = z := ⟨_, rfl⟩
        have HFA := Lib.hid hfa
        rw [hfa] at hro HF6
        obtain ⟨A9, c9, e9, _, hc9⟩ := hro.at_ (k := 1) (fun _ => rfl)
        subst e9
        obtain ⟨f9, hf9⟩ : ∃ z, fa.length = z := ⟨_, rfl⟩
        have HFLN := Lib.hid hf9
        rw [hf9] at hc9 HF6 ⊢
        have hf96 : f9 ≤ 6 := by rw [← hf9, ← hfa, (fail_perm HKC.out.2.1 HKC.out.2.2).length_eq]; exact HP6.out
        have HFC : Hid (coolB T fa = true) := Lib.hid (by rw [← hfa]; exact fail_cool HKC.out.2.1)
        have HFO : Hid (ordI T bo fa = 0) := Lib.hid (by
          have h1 : ordB bo fa = true := by rw [← hfa]; exact ord_of (fail_ordX HKC.out.2.1 HKC.out.2.2 HP6.out)
          unfold ordI
          rw [if_neg (by rw [hf9]; omega), tnB_iff.2 HKC.out.1, HKC.out.2.1, h1]
          rfl)
        clear hro hbr hsz hf9 hfa
        have HZ6 := Lib.hid ((hb.block _ (heapsz HZ5.out)).trans HZ5.out)
        have HB6 := Lib.hid (HB5.out.trans (hb.mono HB5.out.size))
        have HN6 := Lib.hid (HN5.out.up hb)
        have HA6 := Lib.hid (RowAt.up HA5.out hb)
        have HG6 := Lib.hid (RowAt.up HG5.out hb)
        have HX6 := Lib.hid (HX5.out.up hb)
        have HY6 := Lib.hid ((hb.block _ (heapsz HY5.out)).trans HY5.out)
        clear hb
        obtain ⟨v0, v1⟩ := box2 HZ6.out
        obtain ⟨x0, x1⟩ := box2 HY6.out
        go_wp2_with fail
        refine (Repair_any _ T A n c bo A9 f9 c9 fa _ HN6.out HL.out HNN.out HA6.out HFLN.out (by unfold maxLen; omega) hc9 (row_intsN HFLN.out HF6.out)).mono ?_
        rintro e w7 ⟨vl, rfl, hb, hr⟩
        obtain ⟨re, hre⟩ : ∃ z, repE T bo fa = z := ⟨_, rfl⟩
        obtain ⟨rl, hrl⟩ : ∃ z, repL T bo fa = z := ⟨_, rfl⟩
        rw [hre]
        rw [hrl] at hr
        have HRP := Lib.hid (And.intro hre hrl)
        clear hre hrl
        have HR7 := Lib.hid hr
        obtain ⟨A11, c11, e11, _, hc11⟩ := hr.at_ (k := 1) (fun _ => rfl)
        subst e11
        have HZ7 := Lib.hid ((hb.block _ (heapsz HZ6.out)).trans HZ6.out)
        have HB7 := Lib.hid (HB6.out.trans (hb.mono HB6.out.size))
        have HN7 := Lib.hid (HN6.out.up hb)
        have HA7 := Lib.hid (RowAt.up HA6.out hb)
        have HG7 := Lib.hid (RowAt.up HG6.out hb)
        have HX7 := Lib.hid (HX6.out.up hb)
        have HY7 := Lib.hid ((hb.block _ (heapsz HY6.out)).trans HY6.out)
        have HF7 := Lib.hid (HF6.out.below hb)
        clear hb hr
        clear v0 v1 x0 x1
        obtain ⟨v0, v1⟩ := box2 HZ7.out
        obtain ⟨x0, x1⟩ := box2 HY7.out
        go_wp2_with fail
        refine (Again_any _ T A n c bo A2 p q ot _ HN7.out HL.out HNN.out HA7.out HL2.out HPN.out hpq HG7.out).mono ?_
        rintro e w8 ⟨vl, rfl, hb, hr⟩
        rw [HO.out]
        rw [show agaL T bo ot = ragL T bo ot T.hs.length from by unfold agaL; rw [if_pos HO.out]; rfl] at hr
        obtain ⟨A13, c13, e13⟩ := hr.len
        subst e13
        rw [ragL_len, show T.hs.length = nn from HNH.out]
        rw [ragL_len, show T.hs.length = nn from HNH.out] at hr
        have HAG8 := Lib.hid hr
        have HZ8 := Lib.hid ((hb.block _ (heapsz HZ7.out)).trans HZ7.out)
        have HB8 := Lib.hid (HB7.out.trans (hb.mono HB7.out.size))
        have HN8 := Lib.hid (HN7.out.up hb)
        have HA8 := Lib.hid (RowAt.up HA7.out hb)
        have HG8 := Lib.hid (RowAt.up HG7.out hb)
        have HX8 := Lib.hid (HX7.out.up hb)
        have HY8 := Lib.hid ((hb.block _ (heapsz HY7.out)).trans HY7.out)
        have HF8 := Lib.hid (HF7.out.below hb)
        have HR8 := Lib.hid (HR7.out.below hb)
        clear hb hr
        clear v0 v1 x0 x1
        obtain ⟨v0, v1⟩ := box2 HZ8.out
        obtain ⟨x0, x1⟩ := box2 HY8.out
        go_wp2_with fail
        clear v0 v1 x0 x1
        go_loopw [15, 16] (fun gg hh wr => ∃ h : Nat, h ≤ nn ∧ hh = .int .i64 h ∧ gg = .bool ((List.range h).all fun k => waitB T k (agZ T bo ot k)) ∧ Below w8.heap.size w8 wr) (fun _ hh _ => nn - (intOf hh).toNat)
        case atStart => exact ⟨0, by omega, rfl, rfl, Below.refl _ _⟩
        case round =>
          obtain ⟨h, hh, rfl, rfl, hbr⟩ := hrel
          have HBR := Lib.hid hbr
          obtain ⟨gb, hgb⟩ : ∃ z, ((List.range h).all fun k => waitB T k (agZ T bo ot k)) = z := ⟨_, rfl⟩
          have HGB := Lib.hid hgb
          rw [hgb]
          clear hgb
          by_cases hlt : h < nn
          · have k3 : (0 : Int) ≤ (h : Int) := by omega
            have k4 : (h : Int) < (nn : Int) := by omega
            obtain ⟨x, hx⟩ := get_of_lt (l := T.hs) (k := h) (by rw [HNH.out]; exact hlt)
            have hget : (ragL T bo ot nn)[h]? = some (agZ T bo ot h) := by unfold ragL; rw [List.getElem?_map, List.getElem?_range hlt]; rfl
            obtain ⟨b9, o9, rfl, hb9, d9⟩ := ints_el (row_intsN (ragL_len T bo ot nn) HAG8.out) hget
            obtain ⟨b1, o1, hah, hb1, d0, d1, d2⟩ := hs_el HN8.out.hs hx
            have hah2 : ah = some ⟨b1, o1, none⟩ := hah
            subst hah2
            have HWT := Lib.hid (wait_eq hx (agZ T bo ot h))
            have HAL := Lib.hid (all_range (p := fun k => waitB T k (agZ T bo ot k)) h)
            rw [HGB.out] at HAL
            obtain ⟨y, hy⟩ : ∃ y, agZ T bo ot h = y := ⟨_, rfl⟩
            rw [hy] at d9 HWT HAL
            obtain ⟨z0, z1⟩ := box2 HZ8.out
            have hsw := heapsz HZ8.out
            have p0 : ∀ u : KeptW wr, u.w.cell? ⟨w.heap.size, 0, none⟩ = some (.slice (some ⟨b1, o1, none⟩) nn ch) := fun u => ((bcell (hbr.trans (u.h.mono hbr.size))).1 _ _ hsw).trans z0
            have p1 : ∀ u : KeptW wr, u.w.cell? ⟨b9, o9 + h, none⟩ = some (.int .i64 y) := fun u => ((bcell (hbr.trans (u.h.mono hbr.size))).1 _ _ hb9).trans d9
            have p2 : ∀ u : KeptW wr, u.w.cell? ⟨b1, o1 + h * 3 + 2, none⟩ = some (.int .i64 x.g) := fun u => ((bcell (hbr.trans (u.h.mono hbr.size))).1 _ _ hb1).trans d2
            clear hx hget hb9 d9 hah hb1 d0 d1 d2 hy z0 z1 hsw hbr
            cases gb
            · go_wp2_with fail
              refine rk_region (by kernel_rfl) (by kernel_rfl) ?_
              repeat (go_big_quiet_step (fail))
              refine wpQuiet_nil ?_
              rintro wz ⟨⟨_, hbz⟩, rfl⟩
              have HBZ := Lib.hid (HBR.out.trans (hbz.mono HBR.out.size))
              clear hbz p0 p1 p2
              go_wp2_with fail
              exact ⟨⟨h + 1, by omega, rfl, by rw [HAL.out]; rfl, HBZ.out⟩, by simp [intOf]; omega⟩
            · by_cases hneg : 0 ≤ y
              · by_cases hgt : y ≤ x.g
                · rw [HWT.out, show inB 0 y x.g = true from inB_iff.2 ⟨hneg, hgt⟩] at HAL
                  go_wp2_with fail
                  have hneg2 : 0 ≤ y := by omega
                  have hgt2 : y ≤ x.g := by omega
                  refine rk_region (by kernel_rfl) (by kernel_rfl) ?_
                  repeat (go_big_quiet_step (fail))
                  refine wpQuiet_nil ?_
                  rintro wz ⟨⟨_, hbz⟩, rfl⟩
                  have HBZ := Lib.hid (HBR.out.trans (hbz.mono HBR.out.size))
                  clear hbz p0 p1 p2
                  go_wp2_with fail
                  exact ⟨⟨h + 1, by omega, rfl, by rw [HAL.out]; rfl, HBZ.out⟩, by simp [intOf]; omega⟩
                · rw [HWT.out, show inB 0 y x.g = false from inB_no (fun hh => hgt hh.2)] at HAL
                  go_wp2_with fail
                  have hneg2 : 0 ≤ y := by omega
                  have hgt2 : ¬ y ≤ x.g := by omega
                  refine rk_region (by kernel_rfl) (by kernel_rfl) ?_
                  repeat (go_big_quiet_step (fail))
                  refine wpQuiet_nil ?_
                  rintro wz ⟨⟨_, hbz⟩, rfl⟩
                  have HBZ := Lib.hid (HBR.out.trans (hbz.mono HBR.out.size))
                  clear hbz p0 p1 p2
                  go_wp2_with fail
                  exact ⟨⟨h + 1, by omega, rfl, by rw [HAL.out]; rfl, HBZ.out⟩, by simp [intOf]; omega⟩
              · rw [HWT.out, show inB 0 y x.g = false from inB_no (fun hh => hneg hh.1)] at HAL
                go_wp2_with fail
                have hneg2 : ¬ 0 ≤ y := by omega
                refine rk_region (by kernel_rfl) (by kernel_rfl) ?_
                repeat (go_big_quiet_step (fail))
                refine wpQuiet_nil ?_
                rintro wz ⟨⟨_, hbz⟩, rfl⟩
                have HBZ := Lib.hid (HBR.out.trans (hbz.mono HBR.out.size))
                clear hbz p0 p1 p2
                go_wp2_with fail
                exact ⟨⟨h + 1, by omega, rfl, by rw [HAL.out]; rfl, HBZ.out⟩, by simp [intOf]; omega⟩
          · obtain rfl : nn = h := by omega
            have k4 : ¬ (nn : Int) < (nn : Int) := by omega
            have HGO : Hid (goodB T (setI bo) ot = gb) := Lib.hid (by
              rw [← HGB.out]
              unfold goodB
              rw [show T.hs.length = nn from HNH.out]
              rfl)
            obtain ⟨w9, rfl⟩ : ∃ z : World, z = wr := ⟨_, rfl⟩
            have hb := hbr
            clear hbr
            have HZ9 := Lib.hid ((hb.block _ (heapsz HZ8.out)).trans HZ8.out)
            have HB9 := Lib.hid (HB8.out.trans (hb.mono HB8.out.size))
            have HN9 := Lib.hid (HN8.out.up hb)
            have HA9 := Lib.hid (RowAt.up HA8.out hb)
            have HG9 := Lib.hid (RowAt.up HG8.out hb)
            have HX9 := Lib.hid (HX8.out.up hb)
            have HY9 := Lib.hid ((hb.block _ (heapsz HY8.out)).trans HY8.out)
            have HF9 := Lib.hid (HF8.out.below hb)
            have HR9 := Lib.hid (HR8.out.below hb)
            have HAG9 := Lib.hid (HAG8.out.below hb)
            clear hb
            obtain ⟨v0, v1⟩ := box2 HZ9.out
            obtain ⟨x0, x1⟩ := box2 HY9.out
            cases hrep : repO T bo fa with
            | none =>
              obtain rfl : re = 5 := by rw [← HRP.out.1]; unfold repE; rw [if_pos HFO.out, if_pos HFC.out, hrep]
              obtain rfl : gb = false := by rw [← HGO.out]; exact mend_none HKC.out.1 HKC.out.2.1 HKC.out.2.2 (by rw [HFA.out]; exact hrep)
              clear hrep
              go_wp2_with fail
              clear v0 v1 x0 x1
              refine (known_any _).mono ?_
              rintro e wk ⟨rfl, hbk⟩
              have HBK := Lib.hid (HB9.out.trans (hbk.mono HB9.out.size))
              clear hbk
              go_wp2_with fail
              go_ret
              exact ⟨rfl, HBK.out⟩
            | some l =>
              obtain rfl : re = 0 := by rw [← HRP.out.1]; unfold repE; rw [if_pos HFO.out, if_pos HFC.out, hrep]
              obtain rfl : l = rl := by rw [← HRP.out.2]; unfold repL; rw [if_pos HFO.out, if_pos HFC.out, hrep]; rfl
              have hms := mend_some HKC.out.1 HKC.out.2.1 HKC.out.2.2 HP6.out (by rw [HFA.out]; exact hrep)
              rw [HFA.out] at hms
              obtain ⟨m1, m2, m3, m4, m5, m6⟩ := hms
              have HM1 := Lib.hid m1; have HM2 := Lib.hid m2; have HM4 := Lib.hid m4; have HM5 := Lib.hid m5; have HM6 := Lib.hid m6
              obtain ⟨ln, hln⟩ : ∃ z, l.length = z := ⟨_, rfl⟩
              have HLN := Lib.hid hln
              rw [hln] at m3 hc11 HR9 ⊢
              obtain rfl : ln = f9 := by rw [m3]; exact HFLN.out
              have HIN : Hid (∀ y ∈ l, 0 ≤ y ∧ y < T.ss.length) := Lib.hid fun y hy => (ord_mem HKC.out.2.1 m5 y hy).2
              clear hrep m1 m2 m3 m4 m5 m6 hln
              go_wp2_with fail
              refine (rorder_any fa l A9 A11 ln c9 ln c11 _ HFLN.out HLN.out (by unfold maxLen; omega) (by unfold maxLen; omega) hc11 (row_intsN HFLN.out HF9.out) (row_intsN HLN.out HR9.out)).mono ?_
              rintro e w10 ⟨rfl, hb⟩
              have HZ10 := Lib.hid ((hb.block _ (heapsz HZ9.out)).trans HZ9.out)
              have HB10 := Lib.hid (HB9.out.trans (hb.mono HB9.out.size))
              have HN10 := Lib.hid (HN9.out.up hb)
              have HA10 := Lib.hid (RowAt.up HA9.out hb)
              have HG10 := Lib.hid (RowAt.up HG9.out hb)
              have HX10 := Lib.hid (HX9.out.up hb)
              have HY10 := Lib.hid ((hb.block _ (heapsz HY9.out)).trans HY9.out)
              have HF10 := Lib.hid (HF9.out.below hb)
              have HR10 := Lib.hid (HR9.out.below hb)
              have HAG10 := Lib.hid (HAG9.out.below hb)
              clear hb
              clear v0 v1 x0 x1
              obtain ⟨v0, v1⟩ := box2 HZ10.out
              obtain ⟨x0, x1⟩ := box2 HY10.out
              rw [HM4.out]
              cases gb
              · go_wp2_with fail
                clear v0 v1 x0 x1
                go_loopw [17, 18, 19, 20, 21, 22] (fun hh _ _ _ _ _ wr => ∃ h : Nat, h ≤ nn ∧ hh = .int .i64 h ∧ Below w10.heap.size w10 wr) (fun hh _ _ _ _ _ _ => nn - (intOf hh).toNat)
                case atStart => exact ⟨0, by omega, rfl, Below.refl _ _⟩
                case round =>
                  obtain ⟨h, hh, rfl, hbr⟩ := hrel
                  obtain ⟨wa, rfl⟩ : ∃ z : World, z = wr := ⟨_, rfl⟩
                  have HBR := Lib.hid hbr
                  obtain ⟨v0, v1⟩ := box2 ((hbr.block _ (heapsz HZ10.out)).trans HZ10.out)
                  by_cases hlt : h < nn
                  · have k3 : (0 : Int) ≤ (h : Int) := by omega
                    have k4 : (h : Int) < (nn : Int) := by omega
                    have HHT : Hid (h < T.hs.length) := Lib.hid (by rw [HNH.out]; exact hlt)
                    have HWO := Lib.hid (rwithout_own bo fa A A9 n c ln c9 wa HL.out HFLN.out (by omega) (by unfold maxLen; omega) (RowAt.next HA10.out hbr hbr.size) (RowAt.next (row_intsN HFLN.out HF10.out) hbr hbr.size))
                    clear hbr
                    go_wp2_with fail
                    refine HWO.out.mono ?_
                    rintro e wb ⟨vw, rfl, hbw, hown⟩
                    have HBW := Lib.hid (HBR.out.trans (hbw.mono HBR.out.size)); have HBW0 := Lib.hid hbw; have HOW0 := Lib.hid hown
                    have hrlen : (remL bo fa).length ≤ 15 := Nat.le_trans (List.length_filter_le _ _) (by have := HL.out; omega)
                    obtain ⟨R, hR⟩ : ∃ z, remL bo fa = z := ⟨_, rfl⟩
                    have HRE := Lib.hid hR
                    rw [hR] at HOW0 hrlen
                    obtain ⟨x, hx⟩ := get_of_lt (l := T.hs) (k := h) HHT.out
                    have HX8 := Lib.hid hx
                    clear HWO hbw hown v0 v1 hR hx
                    go_wp2_with fail
                    go_loopw [18, 19, 20] (fun vv ww ii wr => ∃ i : Nat, i ≤ ln ∧ ii = .int .i64 i ∧ ww = .int .i64 (weekL T (l.take i)) ∧ Below wa.heap.size wa wr ∧ wr.ownsRow wa.heap.size 3 1 vv (R ++ workK T x.g l i).length (flatR intR (R ++ workK T x.g l i))) (fun _ _ ii _ => ln - (intOf ii).toNat)
                    case atStart => exact ⟨0, by omega, rfl, rfl, HBW0.out, by simpa [workK] using HOW0.out⟩
                    case round =>
                      obtain ⟨i, hi, rfl, rfl, hbi, hown⟩ := hrel
                      have HBI := Lib.hid (HBR.out.trans (hbi.mono HBR.out.size)); have HBI0 := Lib.hid hbi; have HOWN := Lib.hid hown
                      have hsz : wa.heap.size ≤ wr.heap.size := hbi.size
                      clear hown
                      by_cases hli : i < ln
                      · have k5 : (0 : Int) ≤ (i : Int) := by omega
                        have k6 : (i : Int) < (ln : Int) := by omega
                        obtain ⟨y, hy⟩ := get_of_lt (l := l) (k := i) (by rw [HLN.out]; exact hli)
                        have hyi := HIN.out y (List.mem_of_getElem? hy)
                        have HS := Lib.hid (weekL_succ (T := T) hy)
                        have HWK := Lib.hid (workK_succ (T := T) (g := x.g) hy)
                        have hwl := workK_len T x.g l i
                        obtain ⟨b, o, hA11, hbb, c0⟩ := ints_el ((row_intsN HLN.out HR10.out).next HBI.out HBI.out.size) hy
                        subst hA11
                        obtain ⟨j, rfl⟩ : ∃ j : Nat, y = j := ⟨y.toNat, by omega⟩
                        obtain ⟨S, hS⟩ := get_of_lt (l := T.ss) (k := j) (by omega)
                        obtain ⟨b2, o2, A', m, c', hA9, hbb2, hm, ⟨d0, d1, d2⟩, hpr, hmx⟩ := si_el (HN10.out.ss.next HBI.out HBI.out.size) hS
                        have hA99 : az = some ⟨b2, o2, none⟩ := hA9
                        subst hA99
                        obtain ⟨b1, o1, hah, hb1, g0, g1, g2⟩ := hs_el (HN10.out.hs.next HBI.out HBI.out.size) HX8.out
                        have hah2 : ah = some ⟨b1, o1, none⟩ := hah
                        subst hah2
                        have HCW : Hid (weekI T j = S.we) := Lib.hid (by
                          have e1 : T.ss.getD j ⟨0, 0, []⟩ = S := by rw [List.getD_eq_getElem?_getD, hS]; rfl
                          unfold weekI; rw [e1])
                        have h1 := week_in HKC.out.1 j
                        have h2 := weekL_in HKC.out.1 (l.take i)
                        have h3 : (l.take i).length ≤ 6 := by rw [List.length_take, HLN.out]; omega
                        rw [HCW.out] at h1
                        have e1 : wrap64 (weekL T (l.take i) + S.we) = weekL T (l.take i) + S.we := w64 (by omega)
                        have j0 : (0 : Int) ≤ (j : Int) := by omega
                        have j1 : (j : Int) < (ng : Int) := by have h1 : T.ss.length = ng := HNS.out; omega
                        obtain ⟨v0, v1⟩ := box2 ((HBI.out.block _ (heapsz HZ10.out)).trans HZ10.out)
                        have lw : w.heap.size < wr.heap.size := Nat.lt_of_lt_of_le (heapsz HZ10.out) HBI.out.size
                        have p0 : ∀ u : KeptW wr, u.w.cell? ⟨w.heap.size, 0, none⟩ = some (.slice (some ⟨b1, o1, none⟩) nn ch) := fun u => ((bcell u.h).1 _ _ lw).trans v0
                        have p1 : ∀ u : KeptW wr, u.w.cell? ⟨w.heap.size, 1, none⟩ = some (.slice (some ⟨b2, o2, none⟩) ng cz) := fun u => ((bcell u.h).1 _ _ lw).trans v1
                        have p2 : ∀ u : KeptW wr, u.w.cell? ⟨b, o + i, none⟩ = some (.int .i64 (j : Int)) := fun u => ((bcell u.h).1 _ _ hbb).trans c0
                        have p3 : ∀ u : KeptW wr, u.w.cell? ⟨b2, o2 + j * 3 + 1, none⟩ = some (.int .i64 S.we) := fun u => ((bcell u.h).1 _ _ hbb2).trans d1
                        have p4 : ∀ u : KeptW wr, u.w.cell? ⟨b1, o1 + h * 3 + 2, none⟩ = some (.int .i64 x.g) := fun u => ((bcell u.h).1 _ _ hb1).trans g2
                        have HPP := Lib.hid (And.intro p0 (And.intro p2 p4))
                        rw [Int.toNat_natCast, HCW.out] at HS
                        obtain ⟨Qw, hQw⟩ : ∃ z, weekL T (l.take i) = z := ⟨_, rfl⟩
                        rw [hQw] at e1 HS ⊢
                        have HE1 : Hid (wrap64 (Qw + S.we) = weekL T (l.take (i + 1))) := Lib.hid (e1.trans HS.out.symm)
                        obtain ⟨Wn, hWn⟩ : ∃ z, weekL T (l.take (i + 1)) = z := ⟨_, rfl⟩
                        rw [hWn] at HWK HE1
                        have HWN := Lib.hid hWn
                        obtain ⟨K, hKk⟩ : ∃ z, workK T x.g l i = z := ⟨_, rfl⟩
                        rw [hKk] at HWK HOWN hwl
                        clear hy hyi hbb c0 hA9 hbb2 hm d0 d1 d2 hpr hmx hah hb1 g0 g1 g2 h1 h2 h3 e1 hS v0 v1 hQw hWn hKk hbi
                        go_wp2_with fail
                        refine rk_region (by kernel_rfl) (by kernel_rfl) ?_
                        repeat (go_big_quiet_step (fail))
                        refine wpQuiet_nil ?_
                        rintro wv ⟨⟨_, hbv⟩, rfl⟩
                        have q0 := HPP.out.1 ⟨wv, hbv⟩
                        have q2 := HPP.out.2.1 ⟨wv, hbv⟩
                        have q4 := HPP.out.2.2 ⟨wv, hbv⟩
                        have HBV := Lib.hid (HBI0.out.trans (hbv.mono HBI0.out.size))
                        have HOV := Lib.hid (own_next HOWN.out hbv)
                        have hsv : wa.heap.size ≤ wv.heap.size := HBV.out.size
                        have e2 := HE1.out
                        simp only at q0 q2 q4
                        clear hbv p0 p1 p2 p3 p4 lw
                        by_cases hle : Wn ≤ x.g
                        · have HW2 := HWK.out
                          rw [if_pos hle] at HW2
                          have HW3 : Hid (R ++ workK T x.g l (i + 1) = (R ++ K) ++ [(j : Int)]) := Lib.hid (by rw [HW2, List.append_assoc])
                          have hbl : (R ++ K).length ≤ 21 := by rw [List.length_append]; omega
                          obtain ⟨RK, hRK⟩ : ∃ z, R ++ K = z := ⟨_, rfl⟩
                          rw [hRK] at HW3 HOV hbl
                          clear HW2 hRK
                          go_wp2_with (first
                            | (at_builtin
                               refine wpList_append_own _ rfl _ _ 26 rfl wa.heap.size 3 i0 _ 1 8 Try.underlying26 hi0 hz0 hz1 hz2 rfl (by decide) _ _ _ rfl (own_next HOV.out ((Below.refl _ wv).alloc (Nat.le_refl _) _)) ⟨wv.heap.size, 0, none⟩ 1 1 [.int .i64 (j : Int)] rfl rfl (cells_new wv [.int .i64 (j : Int)] 3) (by simp [Value.oneCell']) (by unfold maxLen; omega) (by omega) (by simp; omega) ?_
                               intro v' w6 hown6 hgr6 hnil6)
                            | fail)
                          refine ⟨⟨i + 1, by omega, rfl, by simp [HWN.out], ?_, ?_⟩, by simp [intOf]; omega⟩
                          · have hb6 : Below wa.heap.size wa (wv.alloc (.cells #[.int .i64 (j : Int)] 3)) := HBV.out.alloc hsv _
                            exact hb6.grown hgr6 hb6.size (fun q e => (own_at HOV.out e).1)
                          · rw [HW3.out, flatR_snoc, List.length_append]
                            exact hown6
                        · have HW2 := HWK.out
                          rw [if_neg hle, List.append_nil] at HW2
                          have HW3 := Lib.hid HW2
                          clear HW2
                          go_wp2_with fail
                          exact ⟨⟨i + 1, by omega, rfl, by simp [HE1.out, HWN.out], HBV.out, by rw [HW3.out]; exact HOV.out⟩, by simp [intOf]; omega⟩
                      · obtain rfl : ln = i := by omega
                        have k6 : ¬ (ln : Int) < (ln : Int) := by omega
                        have hro := RowIs.of_own HOWN.out
                        have HMT : Hid (0 ≤ ovV X (R ++ workK T x.g l ln) h) := Lib.hid (by
                          rw [← HRE.out, ← HLN.out]
                          exact mend_true HKC.out.1 HTO.out HKC.out.2.1 HM2.out HM5.out HHT.out HX8.out HM1.out)
                        have HWI : Hid (∀ y ∈ R ++ workK T x.g l ln, 0 ≤ y ∧ y < T.ss.length) := Lib.hid fun y hy => by
                          rcases List.mem_append.1 hy with hy | hy
                          · rw [← HRE.out] at hy
                            have := clB_mem HKC.out.2.1 y (List.mem_filter.1 hy).1
                            omega
                          · exact HIN.out y (workK_mem _ y hy)
                        have hwl : (R ++ workK T x.g l ln).length ≤ 21 := by
                          have := workK_len T x.g l ln
                          rw [List.length_append]
                          omega
                        obtain ⟨ws, hws⟩ : ∃ z, R ++ workK T x.g l ln = z := ⟨_, rfl⟩
                        rw [hws] at hro HMT HWI hwl
                        obtain ⟨Aw, cw, ew⟩ := hro.len
                        subst ew
                        have HWR := Lib.hid hro
                        obtain ⟨wn, hwn⟩ : ∃ z, ws.length = z := ⟨_, rfl⟩
                        have HWN := Lib.hid hwn
                        rw [hwn] at HWR hwl ⊢
                        obtain ⟨wc, rfl⟩ : ∃ z : World, z = wr := ⟨_, rfl⟩
                        obtain ⟨nd, hnd, hn0, hn1⟩ := need_get HKC.out.1 HTO.out HHT.out
                        obtain ⟨b1, o1, han, hb1, e0⟩ := ints_el (HX10.out.ns.next HBI.out HBI.out.size) hnd
                        have han2 : an = some ⟨b1, o1, none⟩ := han
                        subst han2
                        obtain ⟨x0, x1⟩ := box2 ((HBI.out.block _ (heapsz HY10.out)).trans HY10.out)
                        have hneg : IntKind.i64.wrap (-nd) = -nd := IntWalk.i64_in _ (by omega)
                        have HOV : Hid (ovV X ws h = sumA X ws h - nd) := Lib.hid (by unfold ovV; rw [List.getD_eq_getElem?_getD, hnd]; rfl)
                        have HND := Lib.hid (And.intro hn0 hn1)
                        clear hro hws hwn hnd han hb1 hbi
                        go_wp2_with fail
                        clear x0 x1 e0 hneg
                        go_loopw [21, 22] (fun ss jj wq => ∃ j : Nat, j ≤ wn ∧ jj = .int .i64 j ∧ ss = .int .i64 (sumA X (ws.take j) h - nd) ∧ Below wc.heap.size wc wq) (fun _ jj _ => wn - (intOf jj).toNat)
                        case atStart => exact ⟨0, by omega, rfl, by simp [sumA], Below.refl _ _⟩
                        case round =>
                          obtain ⟨j, hj, rfl, rfl, hbq⟩ := hrel
                          have HBQ := Lib.hid hbq
                          have HBQ2 := Lib.hid (HBI.out.trans (hbq.mono HBI.out.size))
                          obtain ⟨x0, x1⟩ := box2 ((HBQ2.out.block _ (heapsz HY10.out)).trans HY10.out)
                          by_cases hltj : j < wn
                          · have k7 : (0 : Int) ≤ (j : Int) := by omega
                            have k8 : (j : Int) < (wn : Int) := by omega
                            obtain ⟨y, hy⟩ := get_of_lt (l := ws) (k := j) (by rw [HWN.out]; exact hltj)
                            have hy2 := HWI.out y (List.mem_of_getElem? hy)
                            obtain ⟨i, rfl⟩ := Int.eq_ofNat_of_zero_le hy2.1
                            have hi2 : i < T.ss.length := by omega
                            obtain ⟨g, m, hg, hm, hm0, hm1⟩ := cold_get HKC.out.1 HTO.out hi2 HHT.out
                            have HSC : Hid (sumA X (ws.take (j + 1)) h = sumA X (ws.take j) h + m) := Lib.hid (by rw [sumA_succ hy, Int.toNat_natCast, giv_eq hg hm])
                            have hsi := sumA_in HKC.out.1 HTO.out (cs := ws.take j) (fun y hy => HWI.out y (List.mem_of_mem_take hy)) HHT.out
                            rw [List.length_take] at hsi
                            obtain ⟨S, hS⟩ : ∃ S, sumA X (ws.take j) h = S := ⟨_, rfl⟩
                            rw [hS] at hsi HSC
                            have hnd := HND.out
                            have hwr : IntKind.i64.wrap (S - nd + m) = S - nd + m := IntWalk.i64_in _ (by omega)
                            have HWRR : Hid (S - nd + m = sumA X (ws.take (j + 1)) h - nd) := Lib.hid (by rw [HSC.out]; omega)
                            obtain ⟨b3, o3, rfl, hb3, d0⟩ := ints_el ((row_intsN HWN.out HWR.out).next hbq hbq.size) hy
                            obtain ⟨b, o, A', pp, c', hag, hbb, hp, c0, hrow, hmx⟩ := grid_row (HX10.out.next HBQ2.out HBQ2.out.size).gs hg
                            have hag2 : ag = some ⟨b, o, none⟩ := hag
                            subst hag2
                            obtain ⟨b4, o4, rfl, hb4, d1⟩ := ints_el hrow hm
                            have hkp : h < pp := by have := (List.getElem?_eq_some_iff.1 hm).1; omega
                            have k9 : (h : Int) < (pp : Int) := by omega
                            have k10 : (0 : Int) ≤ (i : Int) := by omega
                            have k11 : (i : Int) < (ng : Int) := by have h1 : T.ss.length = ng := HNS.out; omega
                            rw [hS]
                            clear hy hy2 hg hm hsi hS hb3 hb4 hbb hag hp hrow hbq hnd
                            go_wp2_with fail
                            go_quiet (fail)
                            go_wp2_with fail
                            exact ⟨⟨j + 1, by omega, rfl, by rw [HWRR.out], belN HBQ.out _⟩, by simp [intOf]; omega⟩
                          · obtain rfl : wn = j := by omega
                            have k8 : ¬ (wn : Int) < (wn : Int) := by omega
                            have hfin : ¬ (sumA X (ws.take wn) h - nd) < 0 := by
                              rw [List.take_of_length_le (by rw [HWN.out]; exact Nat.le_refl _), ← HOV.out]
                              have := HMT.out
                              omega
                            obtain ⟨Z, hZ⟩ : ∃ z, sumA X (ws.take wn) h - nd = z := ⟨_, rfl⟩
                            rw [hZ] at hfin ⊢
                            clear hbq x0 x1 hZ
                            go_wp2_with fail
                            exact ⟨⟨h + 1, by omega, rfl, HBQ2.out⟩, by simp [intOf]; omega⟩
                  · obtain rfl : nn = h := by omega
                    have k4 : ¬ (nn : Int) < (nn : Int) := by omega
                    clear hbr
                    obtain ⟨w11, rfl⟩ : ∃ z : World, z = wa := ⟨_, rfl⟩
                    have HB11 := Lib.hid (HB10.out.trans (HBR.out.mono HB10.out.size))
                    go_wp2_with fail
                    refine (known_any _).mono ?_
                    rintro e wk ⟨rfl, hbk⟩
                    have HBK := Lib.hid (HB11.out.trans (hbk.mono HB11.out.size))
                    clear hbk
                    go_wp2_with fail
                    go_ret
                    exact ⟨rfl, HBK.out⟩
              · go_wp2_with fail
                refine (before_any ot l A2 A11 p q ln c11 _ HL2.out HLN.out (by omega) HG10.out (row_intsN HLN.out HR10.out)).mono ?_
                rintro e w11 ⟨rfl, hb⟩
                have HZ11 := Lib.hid ((hb.block _ (heapsz HZ10.out)).trans HZ10.out)
                have HB11 := Lib.hid (HB10.out.trans (hb.mono HB10.out.size))
                have HN11 := Lib.hid (HN10.out.up hb)
                have HA11 := Lib.hid (RowAt.up HA10.out hb)
                have HG11 := Lib.hid (RowAt.up HG10.out hb)
                have HX11 := Lib.hid (HX10.out.up hb)
                have HY11 := Lib.hid ((hb.block _ (heapsz HY10.out)).trans HY10.out)
                have HF11 := Lib.hid (HF10.out.below hb)
                have HR11 := Lib.hid (HR10.out.below hb)
                have HAG11 := Lib.hid (HAG10.out.below hb)
                clear hb
                clear v0 v1 x0 x1
                obtain ⟨v0, v1⟩ := box2 HZ11.out
                obtain ⟨x0, x1⟩ := box2 HY11.out
                rw [HM6.out HGO.out]
                go_wp2_with fail
                clear v0 v1 x0 x1
                go_loopw [17, 18, 19, 20, 21, 22] (fun hh _ _ _ _ _ wr => ∃ h : Nat, h ≤ nn ∧ hh = .int .i64 h ∧ Below w11.heap.size w11 wr) (fun hh _ _ _ _ _ _ => nn - (intOf hh).toNat)
                case atStart => exact ⟨0, by omega, rfl, Below.refl _ _⟩
                case round =>
                  obtain ⟨h, hh, rfl, hbr⟩ := hrel
                  obtain ⟨wa, rfl⟩ : ∃ z : World, z = wr := ⟨_, rfl⟩
                  have HBR := Lib.hid hbr
                  obtain ⟨v0, v1⟩ := box2 ((hbr.block _ (heapsz HZ11.out)).trans HZ11.out)
                  by_cases hlt : h < nn
                  · have k3 : (0 : Int) ≤ (h : Int) := by omega
                    have k4 : (h : Int) < (nn : Int) := by omega
                    have HHT : Hid (h < T.hs.length) := Lib.hid (by rw [HNH.out]; exact hlt)
                    have HWO := Lib.hid (rwithout_own bo fa A A9 n c ln c9 wa HL.out HFLN.out (by omega) (by unfold maxLen; omega) (RowAt.next HA11.out hbr hbr.size) (RowAt.next (row_intsN HFLN.out HF11.out) hbr hbr.size))
                    clear hbr
                    go_wp2_with fail
                    refine HWO.out.mono ?_
                    rintro e wb ⟨vw, rfl, hbw, hown⟩
                    have HBW := Lib.hid (HBR.out.trans (hbw.mono HBR.out.size)); have HBW0 := Lib.hid hbw; have HOW0 := Lib.hid hown
                    have hrlen : (remL bo fa).length ≤ 15 := Nat.le_trans (List.length_filter_le _ _) (by have := HL.out; omega)
                    obtain ⟨R, hR⟩ : ∃ z, remL bo fa = z := ⟨_, rfl⟩
                    have HRE := Lib.hid hR
                    rw [hR] at HOW0 hrlen
                    obtain ⟨x, hx⟩ := get_of_lt (l := T.hs) (k := h) HHT.out
                    have HX8 := Lib.hid hx
                    clear HWO hbw hown v0 v1 hR hx
                    go_wp2_with fail
                    go_loopw [18, 19, 20] (fun vv ww ii wr => ∃ i : Nat, i ≤ ln ∧ ii = .int .i64 i ∧ ww = .int .i64 (weekL T (l.take i)) ∧ Below wa.heap.size wa wr ∧ wr.ownsRow wa.heap.size 3 1 vv (R ++ workK T x.g l i).length (flatR intR (R ++ workK T x.g l i))) (fun _ _ ii _ => ln - (intOf ii).toNat)
                    case atStart => exact ⟨0, by omega, rfl, rfl, HBW0.out, by simpa [workK] using HOW0.out⟩
                    case round =>
                      obtain ⟨i, hi, rfl, rfl, hbi, hown⟩ := hrel
                      have HBI := Lib.hid (HBR.out.trans (hbi.mono HBR.out.size)); have HBI0 := Lib.hid hbi; have HOWN := Lib.hid hown
                      have hsz : wa.heap.size ≤ wr.heap.size := hbi.size
                      clear hown
                      by_cases hli : i < ln
                      · have k5 : (0 : Int) ≤ (i : Int) := by omega
                        have k6 : (i : Int) < (ln : Int) := by omega
                        obtain ⟨y, hy⟩ := get_of_lt (l := l) (k := i) (by rw [HLN.out]; exact hli)
                        have hyi := HIN.out y (List.mem_of_getElem? hy)
                        have HS := Lib.hid (weekL_succ (T := T) hy)
                        have HWK := Lib.hid (workK_succ (T := T) (g := x.g) hy)
                        have hwl := workK_len T x.g l i
                        obtain ⟨b, o, hA11, hbb, c0⟩ := ints_el ((row_intsN HLN.out HR11.out).next HBI.out HBI.out.size) hy
                        subst hA11
                        obtain ⟨j, rfl⟩ : ∃ j : Nat, y = j := ⟨y.toNat, by omega⟩
                        obtain ⟨S, hS⟩ := get_of_lt (l := T.ss) (k := j) (by omega)
                        obtain ⟨b2, o2, A', m, c', hA9, hbb2, hm, ⟨d0, d1, d2⟩, hpr, hmx⟩ := si_el (HN11.out.ss.next HBI.out HBI.out.size) hS
                        have hA99 : az = some ⟨b2, o2, none⟩ := hA9
                        subst hA99
                        obtain ⟨b1, o1, hah, hb1, g0, g1, g2⟩ := hs_el (HN11.out.hs.next HBI.out HBI.out.size) HX8.out
                        have hah2 : ah = some ⟨b1, o1, none⟩ := hah
                        subst hah2
                        have HCW : Hid (weekI T j = S.we) := Lib.hid (by
                          have e1 : T.ss.getD j ⟨0, 0, []⟩ = S := by rw [List.getD_eq_getElem?_getD, hS]; rfl
                          unfold weekI; rw [e1])
                        have h1 := week_in HKC.out.1 j
                        have h2 := weekL_in HKC.out.1 (l.take i)
                        have h3 : (l.take i).length ≤ 6 := by rw [List.length_take, HLN.out]; omega
                        rw [HCW.out] at h1
                        have e1 : wrap64 (weekL T (l.take i) + S.we) = weekL T (l.take i) + S.we := w64 (by omega)
                        have j0 : (0 : Int) ≤ (j : Int) := by omega
                        have j1 : (j : Int) < (ng : Int) := by have h1 : T.ss.length = ng := HNS.out; omega
                        obtain ⟨v0, v1⟩ := box2 ((HBI.out.block _ (heapsz HZ11.out)).trans HZ11.out)
                        have lw : w.heap.size < wr.heap.size := Nat.lt_of_lt_of_le (heapsz HZ11.out) HBI.out.size
                        have p0 : ∀ u : KeptW wr, u.w.cell? ⟨w.heap.size, 0, none⟩ = some (.slice (some ⟨b1, o1, none⟩) nn ch) := fun u => ((bcell u.h).1 _ _ lw).trans v0
                        have p1 : ∀ u : KeptW wr, u.w.cell? ⟨w.heap.size, 1, none⟩ = some (.slice (some ⟨b2, o2, none⟩) ng cz) := fun u => ((bcell u.h).1 _ _ lw).trans v1
                        have p2 : ∀ u : KeptW wr, u.w.cell? ⟨b, o + i, none⟩ = some (.int .i64 (j : Int)) := fun u => ((bcell u.h).1 _ _ hbb).trans c0
                        have p3 : ∀ u : KeptW wr, u.w.cell? ⟨b2, o2 + j * 3 + 1, none⟩ = some (.int .i64 S.we) := fun u => ((bcell u.h).1 _ _ hbb2).trans d1
                        have p4 : ∀ u : KeptW wr, u.w.cell? ⟨b1, o1 + h * 3 + 2, none⟩ = some (.int .i64 x.g) := fun u => ((bcell u.h).1 _ _ hb1).trans g2
                        have HPP := Lib.hid (And.intro p0 (And.intro p2 p4))
                        rw [Int.toNat_natCast, HCW.out] at HS
                        obtain ⟨Qw, hQw⟩ : ∃ z, weekL T (l.take i) = z := ⟨_, rfl⟩
                        rw [hQw] at e1 HS ⊢
                        have HE1 : Hid (wrap64 (Qw + S.we) = weekL T (l.take (i + 1))) := Lib.hid (e1.trans HS.out.symm)
                        obtain ⟨Wn, hWn⟩ : ∃ z, weekL T (l.take (i + 1)) = z := ⟨_, rfl⟩
                        rw [hWn] at HWK HE1
                        have HWN := Lib.hid hWn
                        obtain ⟨K, hKk⟩ : ∃ z, workK T x.g l i = z := ⟨_, rfl⟩
                        rw [hKk] at HWK HOWN hwl
                        clear hy hyi hbb c0 hA9 hbb2 hm d0 d1 d2 hpr hmx hah hb1 g0 g1 g2 h1 h2 h3 e1 hS v0 v1 hQw hWn hKk hbi
                        go_wp2_with fail
                        refine rk_region (by kernel_rfl) (by kernel_rfl) ?_
                        repeat (go_big_quiet_step (fail))
                        refine wpQuiet_nil ?_
                        rintro wv ⟨⟨_, hbv⟩, rfl⟩
                        have q0 := HPP.out.1 ⟨wv, hbv⟩
                        have q2 := HPP.out.2.1 ⟨wv, hbv⟩
                        have q4 := HPP.out.2.2 ⟨wv, hbv⟩
                        have HBV := Lib.hid (HBI0.out.trans (hbv.mono HBI0.out.size))
                        have HOV := Lib.hid (own_next HOWN.out hbv)
                        have hsv : wa.heap.size ≤ wv.heap.size := HBV.out.size
                        have e2 := HE1.out
                        simp only at q0 q2 q4
                        clear hbv p0 p1 p2 p3 p4 lw
                        by_cases hle : Wn ≤ x.g
                        · have HW2 := HWK.out
                          rw [if_pos hle] at HW2
                          have HW3 : Hid (R ++ workK T x.g l (i + 1) = (R ++ K) ++ [(j : Int)]) := Lib.hid (by rw [HW2, List.append_assoc])
                          have hbl : (R ++ K).length ≤ 21 := by rw [List.length_append]; omega
                          obtain ⟨RK, hRK⟩ : ∃ z, R ++ K = z := ⟨_, rfl⟩
                          rw [hRK] at HW3 HOV hbl
                          clear HW2 hRK
                          go_wp2_with (first
                            | (at_builtin
                               refine wpList_append_own _ rfl _ _ 26 rfl wa.heap.size 3 i0 _ 1 8 Try.underlying26 hi0 hz0 hz1 hz2 rfl (by decide) _ _ _ rfl (own_next HOV.out ((Below.refl _ wv).alloc (Nat.le_refl _) _)) ⟨wv.heap.size, 0, none⟩ 1 1 [.int .i64 (j : Int)] rfl rfl (cells_new wv [.int .i64 (j : Int)] 3) (by simp [Value.oneCell']) (by unfold maxLen; omega) (by omega) (by simp; omega) ?_
                               intro v' w6 hown6 hgr6 hnil6)
                            | fail)
                          refine ⟨⟨i + 1, by omega, rfl, by simp [HWN.out], ?_, ?_⟩, by simp [intOf]; omega⟩
                          · have hb6 : Below wa.heap.size wa (wv.alloc (.cells #[.int .i64 (j : Int)] 3)) := HBV.out.alloc hsv _
                            exact hb6.grown hgr6 hb6.size (fun q e => (own_at HOV.out e).1)
                          · rw [HW3.out, flatR_snoc, List.length_append]
                            exact hown6
                        · have HW2 := HWK.out
                          rw [if_neg hle, List.append_nil] at HW2
                          have HW3 := Lib.hid HW2
                          clear HW2
                          go_wp2_with fail
                          exact ⟨⟨i + 1, by omega, rfl, by simp [HE1.out, HWN.out], HBV.out, by rw [HW3.out]; exact HOV.out⟩, by simp [intOf]; omega⟩
                      · obtain rfl : ln = i := by omega
                        have k6 : ¬ (ln : Int) < (ln : Int) := by omega
                        have hro := RowIs.of_own HOWN.out
                        have HMT : Hid (0 ≤ ovV X (R ++ workK T x.g l ln) h) := Lib.hid (by
                          rw [← HRE.out, ← HLN.out]
                          exact mend_true HKC.out.1 HTO.out HKC.out.2.1 HM2.out HM5.out HHT.out HX8.out HM1.out)
                        have HWI : Hid (∀ y ∈ R ++ workK T x.g l ln, 0 ≤ y ∧ y < T.ss.length) := Lib.hid fun y hy => by
                          rcases List.mem_append.1 hy with hy | hy
                          · rw [← HRE.out] at hy
                            have := clB_mem HKC.out.2.1 y (List.mem_filter.1 hy).1
                            omega
                          · exact HIN.out y (workK_mem _ y hy)
                        have hwl : (R ++ workK T x.g l ln).length ≤ 21 := by
                          have := workK_len T x.g l ln
                          rw [List.length_append]
                          omega
                        obtain ⟨ws, hws⟩ : ∃ z, R ++ workK T x.g l ln = z := ⟨_, rfl⟩
                        rw [hws] at hro HMT HWI hwl
                        obtain ⟨Aw, cw, ew⟩ := hro.len
                        subst ew
                        have HWR := Lib.hid hro
                        obtain ⟨wn, hwn⟩ : ∃ z, ws.length = z := ⟨_, rfl⟩
                        have HWN := Lib.hid hwn
                        rw [hwn] at HWR hwl ⊢
                        obtain ⟨wc, rfl⟩ : ∃ z : World, z = wr := ⟨_, rfl⟩
                        obtain ⟨nd, hnd, hn0, hn1⟩ := need_get HKC.out.1 HTO.out HHT.out
                        obtain ⟨b1, o1, han, hb1, e0⟩ := ints_el (HX11.out.ns.next HBI.out HBI.out.size) hnd
                        have han2 : an = some ⟨b1, o1, none⟩ := han
                        subst han2
                        obtain ⟨x0, x1⟩ := box2 ((HBI.out.block _ (heapsz HY11.out)).trans HY11.out)
                        have hneg : IntKind.i64.wrap (-nd) = -nd := IntWalk.i64_in _ (by omega)
                        have HOV : Hid (ovV X ws h = sumA X ws h - nd) := Lib.hid (by unfold ovV; rw [List.getD_eq_getElem?_getD, hnd]; rfl)
                        have HND := Lib.hid (And.intro hn0 hn1)
                        clear hro hws hwn hnd han hb1 hbi
                        go_wp2_with fail
                        clear x0 x1 e0 hneg
                        go_loopw [21, 22] (fun ss jj wq => ∃ j : Nat, j ≤ wn ∧ jj = .int .i64 j ∧ ss = .int .i64 (sumA X (ws.take j) h - nd) ∧ Below wc.heap.size wc wq) (fun _ jj _ => wn - (intOf jj).toNat)
                        case atStart => exact ⟨0, by omega, rfl, by simp [sumA], Below.refl _ _⟩
                        case round =>
                          obtain ⟨j, hj, rfl, rfl, hbq⟩ := hrel
                          have HBQ := Lib.hid hbq
                          have HBQ2 := Lib.hid (HBI.out.trans (hbq.mono HBI.out.size))
                          obtain ⟨x0, x1⟩ := box2 ((HBQ2.out.block _ (heapsz HY11.out)).trans HY11.out)
                          by_cases hltj : j < wn
                          · have k7 : (0 : Int) ≤ (j : Int) := by omega
                            have k8 : (j : Int) < (wn : Int) := by omega
                            obtain ⟨y, hy⟩ := get_of_lt (l := ws) (k := j) (by rw [HWN.out]; exact hltj)
                            have hy2 := HWI.out y (List.mem_of_getElem? hy)
                            obtain ⟨i, rfl⟩ := Int.eq_ofNat_of_zero_le hy2.1
                            have hi2 : i < T.ss.length := by omega
                            obtain ⟨g, m, hg, hm, hm0, hm1⟩ := cold_get HKC.out.1 HTO.out hi2 HHT.out
                            have HSC : Hid (sumA X (ws.take (j + 1)) h = sumA X (ws.take j) h + m) := Lib.hid (by rw [sumA_succ hy, Int.toNat_natCast, giv_eq hg hm])
                            have hsi := sumA_in HKC.out.1 HTO.out (cs := ws.take j) (fun y hy => HWI.out y (List.mem_of_mem_take hy)) HHT.out
                            rw [List.length_take] at hsi
                            obtain ⟨S, hS⟩ : ∃ S, sumA X (ws.take j) h = S := ⟨_, rfl⟩
                            rw [hS] at hsi HSC
                            have hnd := HND.out
                            have hwr : IntKind.i64.wrap (S - nd + m) = S - nd + m := IntWalk.i64_in _ (by omega)
                            have HWRR : Hid (S - nd + m = sumA X (ws.take (j + 1)) h - nd) := Lib.hid (by rw [HSC.out]; omega)
                            obtain ⟨b3, o3, rfl, hb3, d0⟩ := ints_el ((row_intsN HWN.out HWR.out).next hbq hbq.size) hy
                            obtain ⟨b, o, A', pp, c', hag, hbb, hp, c0, hrow, hmx⟩ := grid_row (HX11.out.next HBQ2.out HBQ2.out.size).gs hg
                            have hag2 : ag = some ⟨b, o, none⟩ := hag
                            subst hag2
                            obtain ⟨b4, o4, rfl, hb4, d1⟩ := ints_el hrow hm
                            have hkp : h < pp := by have := (List.getElem?_eq_some_iff.1 hm).1; omega
                            have k9 : (h : Int) < (pp : Int) := by omega
                            have k10 : (0 : Int) ≤ (i : Int) := by omega
                            have k11 : (i : Int) < (ng : Int) := by have h1 : T.ss.length = ng := HNS.out; omega
                            rw [hS]
                            clear hy hy2 hg hm hsi hS hb3 hb4 hbb hag hp hrow hbq hnd
                            go_wp2_with fail
                            go_quiet (fail)
                            go_wp2_with fail
                            exact ⟨⟨j + 1, by omega, rfl, by rw [HWRR.out], belN HBQ.out _⟩, by simp [intOf]; omega⟩
                          · obtain rfl : wn = j := by omega
                            have k8 : ¬ (wn : Int) < (wn : Int) := by omega
                            have hfin : ¬ (sumA X (ws.take wn) h - nd) < 0 := by
                              rw [List.take_of_length_le (by rw [HWN.out]; exact Nat.le_refl _), ← HOV.out]
                              have := HMT.out
                              omega
                            obtain ⟨Z, hZ⟩ : ∃ z, sumA X (ws.take wn) h - nd = z := ⟨_, rfl⟩
                            rw [hZ] at hfin ⊢
                            clear hbq x0 x1 hZ
                            go_wp2_with fail
                            exact ⟨⟨h + 1, by omega, rfl, HBQ2.out⟩, by simp [intOf]; omega⟩
                  · obtain rfl : nn = h := by omega
                    have k4 : ¬ (nn : Int) < (nn : Int) := by omega
                    clear hbr
                    obtain ⟨w12, rfl⟩ : ∃ z : World, z = wa := ⟨_, rfl⟩
                    have HB12 := Lib.hid (HB11.out.trans (HBR.out.mono HB11.out.size))
                    go_wp2_with fail
                    refine (known_any _).mono ?_
                    rintro e wk ⟨rfl, hbk⟩
                    have HBK := Lib.hid (HB12.out.trans (hbk.mono HB12.out.size))
                    clear hbk
                    go_wp2_with fail
                    go_ret
                    exact ⟨rfl, HBK.out⟩
end Go.Proofs.Ytmppiiamcpjhnaa
