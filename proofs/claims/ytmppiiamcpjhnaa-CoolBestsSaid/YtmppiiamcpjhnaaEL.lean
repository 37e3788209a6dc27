/- Coolers: the law CoolBests. -/
import Derived.Test.YtmppiiamcpjhnaaEK
namespace Go.Proofs.Ytmppiiamcpjhnaa
open Go.RowKit Go.Shelf

set_option maxRecDepth 100000 in
set_option maxHeartbeats 16000000 in
theorem bests_law (V : TV) (T : Tn) (f : Int) (w : World) (hN : TnAt w w.heap.size V T) :
    Calls Try.prog 7 #[tvV V, .int .i64 f] w fun e w' => e = .returned (.bool true) ∧ Below w.heap.size w w' := by
  have z := heap_alloc_new w (.cells (tvC V) 25)
  have hb := (Below.refl w.heap.size w).alloc (Nat.le_refl _) (.cells (tvC V) 25)
  obtain ⟨w1, hw1⟩ : ∃ z, w.alloc (.cells (tvC V) 25) = z := ⟨_, rfl⟩
  rw [hw1] at z hb
  have HN1 := Lib.hid (hN.up hb); have HB1 := Lib.hid hb; have HZ1 := Lib.hid z
  have HNS := Lib.hid hN.ns
  obtain ⟨ah, nh, ch, az, ns, cz⟩ := V
  obtain ⟨v0, v1⟩ := box2 z
  simp only at v0 v1
  have hw1' : w.alloc (.cells #[.slice ah nh ch, .slice az ns cz] 25) = w1 := hw1
  clear z hb hw1 hN
  go_enter Try.func7, Try.ntmps7
  go_wp2_with fail
  clear hw1'
  refine (short_any _ T _ HN1.out).mono ?_
  rintro e w2 ⟨rfl, hb⟩
  have HZ2 := Lib.hid ((hb.block _ (heapsz HZ1.out)).trans HZ1.out)
  have HB2 := Lib.hid (HB1.out.trans (hb.mono HB1.out.size))
  have HN2 := Lib.hid (HN1.out.up hb)
  clear hb
  clear v0 v1
  obtain ⟨v0, v1⟩ := box2 HZ2.out
  cases shortB T
  · clear v0 v1
    go_wp2_with fail
    refine (known_any _).mono ?_
    rintro e wk ⟨rfl, hbk⟩
    have HBK := Lib.hid (HB2.out.trans (hbk.mono HB2.out.size))
    clear hbk
    go_wp2_with fail
    go_ret
    exact ⟨rfl, HBK.out⟩
  go_wp2_with fail
  refine (rtown_any _ T _ HN2.out).mono ?_
  rintro e w3 ⟨rfl, hb⟩
  have HZ3 := Lib.hid ((hb.block _ (heapsz HZ2.out)).trans HZ2.out)
  have HB3 := Lib.hid (HB2.out.trans (hb.mono HB2.out.size))
  have HN3 := Lib.hid (HN2.out.up hb)
  clear hb
  clear v0 v1
  obtain ⟨v0, v1⟩ := box2 HZ3.out
  cases htn : tnB T
  · have HTN := Lib.hid htn
    have hF : ¬ failI T [] f = 0 := by unfold failI; rw [htn]; simp
    clear htn
    have HBC : Hid (besC T f = 0) := Lib.hid (by unfold besC; rw [if_neg hF])
    have HBE : Hid (besE T f = 2) := Lib.hid (by unfold besE; rw [if_neg hF])
    have HBL : Hid (besL T f = []) := Lib.hid (by unfold besL; rw [if_neg hF])
    have HFV : Hid (floV T f = .tuple #[.int .i64 0, .int .i64 2]) := Lib.hid (by unfold floV; rw [if_neg hF])
    clear hF
    go_wp2_with fail
    refine (Best_any _ T f _ HN3.out).mono ?_
    rintro e w4 ⟨vl, rfl, hb, hr⟩
    rw [HBC.out, HBE.out]
    rw [HBL.out] at hr
    have HR4 := Lib.hid hr
    have HZ4 := Lib.hid ((hb.block _ (heapsz HZ3.out)).trans HZ3.out)
    have HB4 := Lib.hid (HB3.out.trans (hb.mono HB3.out.size))
    have HN4 := Lib.hid (HN3.out.up hb)
    clear hb hr
    clear v0 v1
    obtain ⟨v0, v1⟩ := box2 HZ4.out
    obtain ⟨A4, c4, rfl⟩ := HR4.out.len
    go_wp2_with fail
    refine (Floor_any _ T f _ HN4.out).mono ?_
    rintro e w5 ⟨rfl, hb⟩
    have HZ5 := Lib.hid ((hb.block _ (heapsz HZ4.out)).trans HZ4.out)
    have HB5 := Lib.hid (HB4.out.trans (hb.mono HB4.out.size))
    have HN5 := Lib.hid (HN4.out.up hb)
    have HR5 := Lib.hid (HR4.out.below hb)
    clear hb
    clear v0 v1
    obtain ⟨v0, v1⟩ := box2 HZ5.out
    rw [HFV.out]
    go_wp2_with fail
    refine (rtown_any _ T _ HN5.out).mono ?_
    rintro e w6 ⟨rfl, hb⟩
    have HZ6 := Lib.hid ((hb.block _ (heapsz HZ5.out)).trans HZ5.out)
    have HB6 := Lib.hid (HB5.out.trans (hb.mono HB5.out.size))
    have HN6 := Lib.hid (HN5.out.up hb)
    have HR6 := Lib.hid (HR5.out.below hb)
    clear hb
    clear v0 v1
    obtain ⟨v0, v1⟩ := box2 HZ6.out
    rw [HTN.out]
    clear v0 v1
    go_wp2_with fail
    refine (known_any _).mono ?_
    rintro e wk ⟨rfl, hbk⟩
    have HBK := Lib.hid (HB6.out.trans (hbk.mono HB6.out.size))
    clear hbk
    go_wp2_with fail
    go_ret
    exact ⟨rfl, HBK.out⟩
  · have HTN := Lib.hid htn
    have HK := Lib.hid (tnB_iff.1 htn)
    have h10 := HK.out.s10
    have hns10 : ns ≤ 10 := by have h1 : T.ss.length = ns := HNS.out; omega
    clear htn
    by_cases h16 : (6 : Int) < (ns : Int)
    · go_wp2_with fail
      clear v0 v1
      refine (known_any _).mono ?_
      rintro e wk ⟨rfl, hbk⟩
      have HBK := Lib.hid (HB3.out.trans (hbk.mono HB3.out.size))
      clear hbk
      go_wp2_with fail
      go_ret
      exact ⟨rfl, HBK.out⟩
    cases hf : inB 0 f 3
    · have HFI := Lib.hid hf
      have hF : ¬ failI T [] f = 0 := by unfold failI; rw [hf, HTN.out, coolB_nil]; decide
      clear hf
      have HBC : Hid (besC T f = 0) := Lib.hid (by unfold besC; rw [if_neg hF])
      have HBE : Hid (besE T f = 2) := Lib.hid (by unfold besE; rw [if_neg hF])
      have HBL : Hid (besL T f = []) := Lib.hid (by unfold besL; rw [if_neg hF])
      have HFV : Hid (floV T f = .tuple #[.int .i64 0, .int .i64 2]) := Lib.hid (by unfold floV; rw [if_neg hF])
      clear hF
      go_wp2_with fail
      refine (Best_any _ T f _ HN3.out).mono ?_
      rintro e w4 ⟨vl, rfl, hb, hr⟩
      rw [HBC.out, HBE.out]
      rw [HBL.out] at hr
      have HR4 := Lib.hid hr
      have HZ4 := Lib.hid ((hb.block _ (heapsz HZ3.out)).trans HZ3.out)
      have HB4 := Lib.hid (HB3.out.trans (hb.mono HB3.out.size))
      have HN4 := Lib.hid (HN3.out.up hb)
      clear hb hr
      clear v0 v1
      obtain ⟨v0, v1⟩ := box2 HZ4.out
      obtain ⟨A4, c4, rfl⟩ := HR4.out.len
      go_wp2_with fail
      refine (Floor_any _ T f _ HN4.out).mono ?_
      rintro e w5 ⟨rfl, hb⟩
      have HZ5 := Lib.hid ((hb.block _ (heapsz HZ4.out)).trans HZ4.out)
      have HB5 := Lib.hid (HB4.out.trans (hb.mono HB4.out.size))
      have HN5 := Lib.hid (HN4.out.up hb)
      have HR5 := Lib.hid (HR4.out.below hb)
      clear hb
      clear v0 v1
      obtain ⟨v0, v1⟩ := box2 HZ5.out
      rw [HFV.out]
      go_wp2_with fail
      refine (rtown_any _ T _ HN5.out).mono ?_
      rintro e w6 ⟨rfl, hb⟩
      have HZ6 := Lib.hid ((hb.block _ (heapsz HZ5.out)).trans HZ5.out)
      have HB6 := Lib.hid (HB5.out.trans (hb.mono HB5.out.size))
      have HN6 := Lib.hid (HN5.out.up hb)
      have HR6 := Lib.hid (HR5.out.below hb)
      clear hb
      clear v0 v1
      obtain ⟨v0, v1⟩ := box2 HZ6.out
      rw [HTN.out]
      go_wp2_with fail
      refine (rfails_any _ _).mono ?_
      rintro e w' ⟨rfl, rfl⟩
      rw [HFI.out]
      clear v0 v1
      go_wp2_with fail
      refine (known_any _).mono ?_
      rintro e wk ⟨rfl, hbk⟩
      have HBK := Lib.hid (HB6.out.trans (hbk.mono HB6.out.size))
      clear hbk
      go_wp2_with fail
      go_ret
      exact ⟨rfl, HBK.out⟩
    · have HFI := Lib.hid hf
      have HFF := Lib.hid (inB_iff.1 hf)
      have h0 := fail_ok HK.out (coolB_nil T) hf
      clear hf
      cases hb : besO T f with
      | none =>
        have HBC : Hid (besC T f = 0) := Lib.hid (by unfold besC; rw [if_pos h0, hb])
        have HBE : Hid (besE T f = 5) := Lib.hid (by unfold besE; rw [if_pos h0, hb])
        have HBL : Hid (besL T f = []) := Lib.hid (by unfold besL; rw [if_pos h0, hb])
        have HIS : Hid ((besO T f).isSome = false) := Lib.hid (by rw [hb]; rfl)
        have HBS : Hid (bsL T f = []) := Lib.hid (by unfold bsL; rw [hb])
        clear hb
        cases hfl : floO T f with
        | none =>
          have HFV : Hid (floV T f = .tuple #[.int .i64 0, .int .i64 5]) := Lib.hid (by unfold floV; rw [if_pos h0, hfl])
          have HRF : Hid (rflo T f = -1) := Lib.hid (by unfold rflo; rw [hfl])
          clear hfl h0
          go_wp2_with fail
          refine (Best_any _ T f _ HN3.out).mono ?_
          rintro e w4 ⟨vl, rfl, hb, hr⟩
          rw [HBC.out, HBE.out]
          rw [HBL.out] at hr
          have HR4 := Lib.hid hr
          have HZ4 := Lib.hid ((hb.block _ (heapsz HZ3.out)).trans HZ3.out)
          have HB4 := Lib.hid (HB3.out.trans (hb.mono HB3.out.size))
          have HN4 := Lib.hid (HN3.out.up hb)
          clear hb hr
          clear v0 v1
          obtain ⟨v0, v1⟩ := box2 HZ4.out
          obtain ⟨A4, c4, rfl⟩ := HR4.out.len
          go_wp2_with fail
          refine (Floor_any _ T f _ HN4.out).mono ?_
          rintro e w5 ⟨rfl, hb⟩
          have HZ5 := Lib.hid ((hb.block _ (heapsz HZ4.out)).trans HZ4.out)
          have HB5 := Lib.hid (HB4.out.trans (hb.mono HB4.out.size))
          have HN5 := Lib.hid (HN4.out.up hb)
          have HR5 := Lib.hid (HR4.out.below hb)
          clear hb
          clear v0 v1
          obtain ⟨v0, v1⟩ := box2 HZ5.out
          rw [HFV.out]
          go_wp2_with fail
          refine (rtown_any _ T _ HN5.out).mono ?_
          rintro e w6 ⟨rfl, hb⟩
          have HZ6 := Lib.hid ((hb.block _ (heapsz HZ5.out)).trans HZ5.out)
          have HB6 := Lib.hid (HB5.out.trans (hb.mono HB5.out.size))
          have HN6 := Lib.hid (HN5.out.up hb)
          have HR6 := Lib.hid (HR5.out.below hb)
          clear hb
          clear v0 v1
          obtain ⟨v0, v1⟩ := box2 HZ6.out
          rw [HTN.out]
          go_wp2_with fail
          refine (rfails_any _ _).mono ?_
          rintro e w' ⟨rfl, rfl⟩
          rw [HFI.out]
          go_wp2_with fail
          refine (rbest_any _ T f _ HN6.out HK.out HFF.out).mono ?_
          rintro e w7 ⟨vq, rfl, hb, hr⟩
          rw [HIS.out]
          rw [HBS.out] at hr
          have HQ7 := Lib.hid hr
          have HZ7 := Lib.hid ((hb.block _ (heapsz HZ6.out)).trans HZ6.out)
          have HB7 := Lib.hid (HB6.out.trans (hb.mono HB6.out.size))
          have HN7 := Lib.hid (HN6.out.up hb)
          have HR7 := Lib.hid (HR6.out.below hb)
          clear hb hr
          clear v0 v1
          obtain ⟨v0, v1⟩ := box2 HZ7.out
          obtain ⟨A5, c5, rfl⟩ := HQ7.out.len
          go_wp2_with fail
          refine (rfloor_any _ T f _ HN7.out HK.out HFF.out).mono ?_
          rintro e w8 ⟨rfl, hb⟩
          have HZ8 := Lib.hid ((hb.block _ (heapsz HZ7.out)).trans HZ7.out)
          have HB8 := Lib.hid (HB7.out.trans (hb.mono HB7.out.size))
          have HN8 := Lib.hid (HN7.out.up hb)
          have HR8 := Lib.hid (HR7.out.below hb)
          have HQ8 := Lib.hid (HQ7.out.below hb)
          clear hb
          clear v0 v1
          obtain ⟨v0, v1⟩ := box2 HZ8.out
          rw [HRF.out]
          go_wp2_with fail
          clear v0 v1
          refine (known_any _).mono ?_
          rintro e wk ⟨rfl, hbk⟩
          have HBK := Lib.hid (HB8.out.trans (hbk.mono HB8.out.size))
          clear hbk
          go_wp2_with fail
          go_ret
          exact ⟨rfl, HBK.out⟩
        | some m =>
          have HFV : Hid (floV T f = .tuple #[.int .i64 m, .int .i64 0]) := Lib.hid (by unfold floV; rw [if_pos h0, hfl])
          have HRF : Hid (rflo T f = m) := Lib.hid (by unfold rflo; rw [hfl])
          have hm0 : 0 ≤ m := by
            unfold floO at hfl
            split at hfl
            · injection hfl with hfl
              rw [← hfl]
              exact floorK_0 _
            · cases hfl
          have hm1 : ¬ m < 0 := by omega
          clear hfl h0
          go_wp2_with fail
          refine (Best_any _ T f _ HN3.out).mono ?_
          rintro e w4 ⟨vl, rfl, hb, hr⟩
          rw [HBC.out, HBE.out]
          rw [HBL.out] at hr
          have HR4 := Lib.hid hr
          have HZ4 := Lib.hid ((hb.block _ (heapsz HZ3.out)).trans HZ3.out)
          have HB4 := Lib.hid (HB3.out.trans (hb.mono HB3.out.size))
          have HN4 := Lib.hid (HN3.out.up hb)
          clear hb hr
          clear v0 v1
          obtain ⟨v0, v1⟩ := box2 HZ4.out
          obtain ⟨A4, c4, rfl⟩ := HR4.out.len
          go_wp2_with fail
          refine (Floor_any _ T f _ HN4.out).mono ?_
          rintro e w5 ⟨rfl, hb⟩
          have HZ5 := Lib.hid ((hb.block _ (heapsz HZ4.out)).trans HZ4.out)
          have HB5 := Lib.hid (HB4.out.trans (hb.mono HB4.out.size))
          have HN5 := Lib.hid (HN4.out.up hb)
          have HR5 := Lib.hid (HR4.out.below hb)
          clear hb
          clear v0 v1
          obtain ⟨v0, v1⟩ := box2 HZ5.out
          rw [HFV.out]
          go_wp2_with fail
          refine (rtown_any _ T _ HN5.out).mono ?_
          rintro e w6 ⟨rfl, hb⟩
          have HZ6 := Lib.hid ((hb.block _ (heapsz HZ5.out)).trans HZ5.out)
          have HB6 := Lib.hid (HB5.out.trans (hb.mono HB5.out.size))
          have HN6 := Lib.hid (HN5.out.up hb)
          have HR6 := Lib.hid (HR5.out.below hb)
          clear hb
          clear v0 v1
          obtain ⟨v0, v1⟩ := box2 HZ6.out
          rw [HTN.out]
          go_wp2_with fail
          refine (rfails_any _ _).mono ?_
          rintro e w' ⟨rfl, rfl⟩
          rw [HFI.out]
          go_wp2_with fail
          refine (rbest_any _ T f _ HN6.out HK.out HFF.out).mono ?_
          rintro e w7 ⟨vq, rfl, hb, hr⟩
          rw [HIS.out]
          rw [HBS.out] at hr
          have HQ7 := Lib.hid hr
          have HZ7 := Lib.hid ((hb.block _ (heapsz HZ6.out)).trans HZ6.out)
          have HB7 := Lib.hid (HB6.out.trans (hb.mono HB6.out.size))
          have HN7 := Lib.hid (HN6.out.up hb)
          have HR7 := Lib.hid (HR6.out.below hb)
          clear hb hr
          clear v0 v1
          obtain ⟨v0, v1⟩ := box2 HZ7.out
          obtain ⟨A5, c5, rfl⟩ := HQ7.out.len
          go_wp2_with fail
          refine (rfloor_any _ T f _ HN7.out HK.out HFF.out).mono ?_
          rintro e w8 ⟨rfl, hb⟩
          have HZ8 := Lib.hid ((hb.block _ (heapsz HZ7.out)).trans HZ7.out)
          have HB8 := Lib.hid (HB7.out.trans (hb.mono HB7.out.size))
          have HN8 := Lib.hid (HN7.out.up hb)
          have HR8 := Lib.hid (HR7.out.below hb)
          have HQ8 := Lib.hid (HQ7.out.below hb)
          clear hb
          clear v0 v1
          obtain ⟨v0, v1⟩ := box2 HZ8.out
          rw [HRF.out]
          go_wp2_with fail
          clear v0 v1
          refine (known_any _).mono ?_
          rintro e wk ⟨rfl, hbk⟩
          have HBK := Lib.hid (HB8.out.trans (hbk.mono HB8.out.size))
          clear hbk
          go_wp2_with fail
          go_ret
          exact ⟨rfl, HBK.out⟩
      | some b =>
        have hbl : b < 2 ^ T.ss.length := bestK_lt hb
        have HCS : Hid (costL T (sitZ (b : Int)) = costS T b) := Lib.hid (cost_sit T b)
        obtain ⟨C, hC⟩ : ∃ C, costS T b = C := ⟨_, rfl⟩
        rw [hC] at HCS
        have HIN : Hid (∀ x ∈ sitZ (b : Int), 0 ≤ x ∧ x < (ns : Int)) := Lib.hid fun x hx => by
          have h1 : T.ss.length = ns := HNS.out
          have := clB_mem (cool_of hbl) x hx
          omega
        have HBC : Hid (besC T f = C) := Lib.hid (by unfold besC; rw [if_pos h0, hb]; exact hC)
        have HBE : Hid (besE T f = 0) := Lib.hid (by unfold besE; rw [if_pos h0, hb])
        obtain ⟨l, hl⟩ : ∃ l, sitZ (b : Int) = l := ⟨_, rfl⟩
        have HLL : Hid (l.length ≤ 10) := Lib.hid (by rw [← hl]; exact sitZ_len _)
        have HBL : Hid (besL T f = l) := Lib.hid (by unfold besL; rw [if_pos h0, hb]; exact hl)
        have HIS : Hid ((besO T f).isSome = true) := Lib.hid (by rw [hb]; rfl)
        have HBS : Hid (bsL T f = l) := Lib.hid (by unfold bsL; rw [hb]; exact hl)
        rw [hl] at HIN HCS
        clear hb hC hl hbl
        cases hfl : floO T f with
        | none =>
          have HFV : Hid (floV T f = .tuple #[.int .i64 0, .int .i64 5]) := Lib.hid (by unfold floV; rw [if_pos h0, hfl])
          have HRF : Hid (rflo T f = -1) := Lib.hid (by unfold rflo; rw [hfl])
          clear hfl h0
          go_wp2_with fail
          refine (Best_any _ T f _ HN3.out).mono ?_
          rintro e w4 ⟨vl, rfl, hb, hr⟩
          rw [HBC.out, HBE.out]
          rw [HBL.out] at hr
          have HR4 := Lib.hid hr
          have HZ4 := Lib.hid ((hb.block _ (heapsz HZ3.out)).trans HZ3.out)
          have HB4 := Lib.hid (HB3.out.trans (hb.mono HB3.out.size))
          have HN4 := Lib.hid (HN3.out.up hb)
          clear hb hr
          clear v0 v1
          obtain ⟨v0, v1⟩ := box2 HZ4.out
          obtain ⟨A4, c4, rfl⟩ := HR4.out.len
          go_wp2_with fail
          refine (Floor_any _ T f _ HN4.out).mono ?_
          rintro e w5 ⟨rfl, hb⟩
          have HZ5 := Lib.hid ((hb.block _ (heapsz HZ4.out)).trans HZ4.out)
          have HB5 := Lib.hid (HB4.out.trans (hb.mono HB4.out.size))
          have HN5 := Lib.hid (HN4.out.up hb)
          have HR5 := Lib.hid (HR4.out.below hb)
          clear hb
          clear v0 v1
          obtain ⟨v0, v1⟩ := box2 HZ5.out
          rw [HFV.out]
          go_wp2_with fail
          refine (rtown_any _ T _ HN5.out).mono ?_
          rintro e w6 ⟨rfl, hb⟩
          have HZ6 := Lib.hid ((hb.block _ (heapsz HZ5.out)).trans HZ5.out)
          have HB6 := Lib.hid (HB5.out.trans (hb.mono HB5.out.size))
          have HN6 := Lib.hid (HN5.out.up hb)
          have HR6 := Lib.hid (HR5.out.below hb)
          clear hb
          clear v0 v1
          obtain ⟨v0, v1⟩ := box2 HZ6.out
          rw [HTN.out]
          go_wp2_with fail
          refine (rfails_any _ _).mono ?_
          rintro e w' ⟨rfl, rfl⟩
          rw [HFI.out]
          go_wp2_with fail
          refine (rbest_any _ T f _ HN6.out HK.out HFF.out).mono ?_
          rintro e w7 ⟨vq, rfl, hb, hr⟩
          rw [HIS.out]
          rw [HBS.out] at hr
          have HQ7 := Lib.hid hr
          have HZ7 := Lib.hid ((hb.block _ (heapsz HZ6.out)).trans HZ6.out)
          have HB7 := Lib.hid (HB6.out.trans (hb.mono HB6.out.size))
          have HN7 := Lib.hid (HN6.out.up hb)
          have HR7 := Lib.hid (HR6.out.below hb)
          clear hb hr
          clear v0 v1
          obtain ⟨v0, v1⟩ := box2 HZ7.out
          obtain ⟨A5, c5, rfl⟩ := HQ7.out.len
          go_wp2_with fail
          refine (rfloor_any _ T f _ HN7.out HK.out HFF.out).mono ?_
          rintro e w8 ⟨rfl, hb⟩
          have HZ8 := Lib.hid ((hb.block _ (heapsz HZ7.out)).trans HZ7.out)
          have HB8 := Lib.hid (HB7.out.trans (hb.mono HB7.out.size))
          have HN8 := Lib.hid (HN7.out.up hb)
          have HR8 := Lib.hid (HR7.out.below hb)
          have HQ8 := Lib.hid (HQ7.out.below hb)
          clear hb
          clear v0 v1
          obtain ⟨v0, v1⟩ := box2 HZ8.out
          rw [HRF.out]
          go_wp2_with fail
          refine (same_any l l A4 A5 _ c4 _ c5 _ rfl rfl (by have := HLL.out; unfold maxLen; omega) (row_ints HR8.out) (row_ints HQ8.out)).mono ?_
          rintro e w9 ⟨rfl, hb⟩
          have HZ9 := Lib.hid ((hb.block _ (heapsz HZ8.out)).trans HZ8.out)
          have HB9 := Lib.hid (HB8.out.trans (hb.mono HB8.out.size))
          have HN9 := Lib.hid (HN8.out.up hb)
          have HR9 := Lib.hid (HR8.out.below hb)
          have HQ9 := Lib.hid (HQ8.out.below hb)
          clear hb
          clear v0 v1
          obtain ⟨v0, v1⟩ := box2 HZ9.out
          first | rw [show decide True = true from rfl] | rw [decide_eq_true rfl]
          go_wp2_with fail
          refine (rcost_any _ T A5 l.length c5 l _ HN9.out HK.out rfl (by have := HLL.out; omega) (row_ints HQ9.out) HIN.out).mono ?_
          rintro e w10 ⟨rfl, hb⟩
          have HZ10 := Lib.hid ((hb.block _ (heapsz HZ9.out)).trans HZ9.out)
          have HB10 := Lib.hid (HB9.out.trans (hb.mono HB9.out.size))
          have HN10 := Lib.hid (HN9.out.up hb)
          have HR10 := Lib.hid (HR9.out.below hb)
          have HQ10 := Lib.hid (HQ9.out.below hb)
          clear hb
          clear v0 v1
          obtain ⟨v0, v1⟩ := box2 HZ10.out
          rw [HCS.out]
          clear v0 v1
          go_wp2_with fail
          refine (known_any _).mono ?_
          rintro e wk ⟨rfl, hbk⟩
          have HBK := Lib.hid (HB10.out.trans (hbk.mono HB10.out.size))
          clear hbk
          go_wp2_with fail
          go_ret
          exact ⟨rfl, HBK.out⟩
        | some m =>
          have HFV : Hid (floV T f = .tuple #[.int .i64 m, .int .i64 0]) := Lib.hid (by unfold floV; rw [if_pos h0, hfl])
          have HRF : Hid (rflo T f = m) := Lib.hid (by unfold rflo; rw [hfl])
          have hm0 : 0 ≤ m := by
            unfold floO at hfl
            split at hfl
            · injection hfl with hfl
              rw [← hfl]
              exact floorK_0 _
            · cases hfl
          have hm1 : ¬ m < 0 := by omega
          clear hfl h0
          go_wp2_with fail
          refine (Best_any _ T f _ HN3.out).mono ?_
          rintro e w4 ⟨vl, rfl, hb, hr⟩
          rw [HBC.out, HBE.out]
          rw [HBL.out] at hr
          have HR4 := Lib.hid hr
          have HZ4 := Lib.hid ((hb.block _ (heapsz HZ3.out)).trans HZ3.out)
          have HB4 := Lib.hid (HB3.out.trans (hb.mono HB3.out.size))
          have HN4 := Lib.hid (HN3.out.up hb)
          clear hb hr
          clear v0 v1
          obtain ⟨v0, v1⟩ := box2 HZ4.out
          obtain ⟨A4, c4, rfl⟩ := HR4.out.len
          go_wp2_with fail
          refine (Floor_any _ T f _ HN4.out).mono ?_
          rintro e w5 ⟨rfl, hb⟩
          have HZ5 := Lib.hid ((hb.block _ (heapsz HZ4.out)).trans HZ4.out)
          have HB5 := Lib.hid (HB4.out.trans (hb.mono HB4.out.size))
          have HN5 := Lib.hid (HN4.out.up hb)
          have HR5 := Lib.hid (HR4.out.below hb)
          clear hb
          clear v0 v1
          obtain ⟨v0, v1⟩ := box2 HZ5.out
          rw [HFV.out]
          go_wp2_with fail
          refine (rtown_any _ T _ HN5.out).mono ?_
          rintro e w6 ⟨rfl, hb⟩
          have HZ6 := Lib.hid ((hb.block _ (heapsz HZ5.out)).trans HZ5.out)
          have HB6 := Lib.hid (HB5.out.trans (hb.mono HB5.out.size))
          have HN6 := Lib.hid (HN5.out.up hb)
          have HR6 := Lib.hid (HR5.out.below hb)
          clear hb
          clear v0 v1
          obtain ⟨v0, v1⟩ := box2 HZ6.out
          rw [HTN.out]
          go_wp2_with fail
          refine (rfails_any _ _).mono ?_
          rintro e w' ⟨rfl, rfl⟩
          rw [HFI.out]
          go_wp2_with fail
          refine (rbest_any _ T f _ HN6.out HK.out HFF.out).mono ?_
          rintro e w7 ⟨vq, rfl, hb, hr⟩
          rw [HIS.out]
          rw [HBS.out] at hr
          have HQ7 := Lib.hid hr
          have HZ7 := Lib.hid ((hb.block _ (heapsz HZ6.out)).trans HZ6.out)
          have HB7 := Lib.hid (HB6.out.trans (hb.mono HB6.out.size))
          have HN7 := Lib.hid (HN6.out.up hb)
          have HR7 := Lib.hid (HR6.out.below hb)
          clear hb hr
          clear v0 v1
          obtain ⟨v0, v1⟩ := box2 HZ7.out
          obtain ⟨A5, c5, rfl⟩ := HQ7.out.len
          go_wp2_with fail
          refine (rfloor_any _ T f _ HN7.out HK.out HFF.out).mono ?_
          rintro e w8 ⟨rfl, hb⟩
          have HZ8 := Lib.hid ((hb.block _ (heapsz HZ7.out)).trans HZ7.out)
          have HB8 := Lib.hid (HB7.out.trans (hb.mono HB7.out.size))
          have HN8 := Lib.hid (HN7.out.up hb)
          have HR8 := Lib.hid (HR7.out.below hb)
          have HQ8 := Lib.hid (HQ7.out.below hb)
          clear hb
          clear v0 v1
          obtain ⟨v0, v1⟩ := box2 HZ8.out
          rw [HRF.out]
          go_wp2_with fail
          refine (same_any l l A4 A5 _ c4 _ c5 _ rfl rfl (by have := HLL.out; unfold maxLen; omega) (row_ints HR8.out) (row_ints HQ8.out)).mono ?_
          rintro e w9 ⟨rfl, hb⟩
          have HZ9 := Lib.hid ((hb.block _ (heapsz HZ8.out)).trans HZ8.out)
          have HB9 := Lib.hid (HB8.out.trans (hb.mono HB8.out.size))
          have HN9 := Lib.hid (HN8.out.up hb)
          have HR9 := Lib.hid (HR8.out.below hb)
          have HQ9 := Lib.hid (HQ8.out.below hb)
          clear hb
          clear v0 v1
          obtain ⟨v0, v1⟩ := box2 HZ9.out
          first | rw [show decide True = true from rfl] | rw [decide_eq_true rfl]
          go_wp2_with fail
          refine (rcost_any _ T A5 l.length c5 l _ HN9.out HK.out rfl (by have := HLL.out; omega) (row_ints HQ9.out) HIN.out).mono ?_
          rintro e w10 ⟨rfl, hb⟩
          have HZ10 := Lib.hid ((hb.block _ (heapsz HZ9.out)).trans HZ9.out)
          have HB10 := Lib.hid (HB9.out.trans (hb.mono HB9.out.size))
          have HN10 := Lib.hid (HN9.out.up hb)
          have HR10 := Lib.hid (HR9.out.below hb)
          have HQ10 := Lib.hid (HQ9.out.below hb)
          clear hb
          clear v0 v1
          obtain ⟨v0, v1⟩ := box2 HZ10.out
          rw [HCS.out]
          clear v0 v1
          go_wp2_with fail
          refine (known_any _).mono ?_
          rintro e wk ⟨rfl, hbk⟩
          have HBK := Lib.hid (HB10.out.trans (hbk.mono HB10.out.size))
          clear hbk
          go_wp2_with fail
          go_ret
          exact ⟨rfl, HBK.out⟩
end Go.Proofs.Ytmppiiamcpjhnaa
