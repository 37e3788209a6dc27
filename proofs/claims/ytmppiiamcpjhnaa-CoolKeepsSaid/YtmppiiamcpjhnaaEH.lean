/- Coolers: the law CoolKeeps. -/
import Derived.Test.YtmppiiamcpjhnaaEG
namespace Go.Proofs.Ytmppiiamcpjhnaa
open Go.RowKit Go.Shelf

set_option maxRecDepth 100000 in
set_option maxHeartbeats 16000000 in
theorem keeps_law (V : TV) (T : Tn) (A : Option Addr) (n c : Nat) (bo : List Int) (f : Int) (w : World) (hN : TnAt w w.heap.size V T) (hl : bo.length = n) (hn : n ≤ maxLen) (hnc : n ≤ c) (hA : IntsAt w w.heap.size A bo) :
    Calls Try.prog 3 #[tvV V, .slice A n c, .int .i64 f] w fun e w' => e = .returned (.bool true) ∧ Below w.heap.size w w' := by
  have z := heap_alloc_new w (.cells (tvC V) 25)
  have hb := (Below.refl w.heap.size w).alloc (Nat.le_refl _) (.cells (tvC V) 25)
  obtain ⟨w1, hw1⟩ : ∃ z, w.alloc (.cells (tvC V) 25) = z := ⟨_, rfl⟩
  rw [hw1] at z hb
  have HL := Lib.hid hl; have HNN := Lib.hid hn
  have HA1 := Lib.hid (RowAt.up hA hb); have HN1 := Lib.hid (hN.up hb); have HB1 := Lib.hid hb; have HZ1 := Lib.hid z
  obtain ⟨ah, nh, ch, az, ns, cz⟩ := V
  obtain ⟨v0, v1⟩ := box2 z
  simp only at v0 v1
  unfold maxLen at hn
  have hw1' : w.alloc (.cells #[.slice ah nh ch, .slice az ns cz] 25) = w1 := hw1
  clear z hb hw1 hN hl hA
  go_enter Try.func3, Try.ntmps3
  go_wp2_with fail
  clear hw1'
  refine (short_any _ T _ HN1.out).mono ?_
  rintro e w2 ⟨rfl, hb⟩
  have HZ2 := Lib.hid ((hb.block _ (heapsz HZ1.out)).trans HZ1.out)
  have HB2 := Lib.hid (HB1.out.trans (hb.mono HB1.out.size))
  have HN2 := Lib.hid (HN1.out.up hb)
  have HA2 := Lib.hid (RowAt.up HA1.out hb)
  clear hb
  clear v0 v1
  obtain ⟨v0, v1⟩ := box2 HZ2.out
  cases shortB T
  · clear v0 v1
    go_wp2_with fail
    refine (known_any _).mono ?_
    rintro e wk ⟨rfl, hbk⟩
    have HBK := Lib.hid (HB2.out.trans (hbk.mono HB2.out.size))
    clear hbk
    go_wp2_with fail
    go_ret
    exact ⟨rfl, HBK.out⟩
  by_cases h15 : (8 : Int) < (n : Int)
  · clear v0 v1
    go_wp2_with fail
    refine (known_any _).mono ?_
    rintro e wk ⟨rfl, hbk⟩
    have HBK := Lib.hid (HB2.out.trans (hbk.mono HB2.out.size))
    clear hbk
    go_wp2_with fail
    go_ret
    exact ⟨rfl, HBK.out⟩
  cases hask : (tnB T && coolB T bo)
  · have HAS := Lib.hid hask
    have hF : failI T bo f = 2 := by unfold failI; rw [← Bool.and_assoc, hask]; rfl
    have hCI : coolI T bo = 2 := by unfold coolI; rw [hask]; rfl
    have HKV : Hid (keepV T bo f = .tuple #[.bool false, .int .i64 2]) := Lib.hid (by unfold keepV; rw [hF]; rfl)
    have HBH : Hid (brH T bo f = 0) := Lib.hid (by unfold brH; rw [hF]; rfl)
    have HBE : Hid (brE T bo f = 2) := Lib.hid (by unfold brE; rw [hF]; rfl)
    have HBL : Hid (brL T bo f = []) := Lib.hid (by unfold brL; rw [hF]; rfl)
    have HBT : Hid (bearsT T bo = .tuple #[.int .i64 0, .int .i64 2]) := Lib.hid (by unfold bearsT; rw [hCI]; rfl)
    clear hask hF hCI
    cases htn : tnB T
    · have HTN := Lib.hid htn
      have HCK : Hid (checkI T = 2) := Lib.hid (by unfold checkI; rw [htn]; rfl)
      clear htn
      go_wp2_with fail
      refine (Check_any _ T _ HN2.out).mono ?_
      rintro e w3 ⟨rfl, hb⟩
      have HZ3 := Lib.hid ((hb.block _ (heapsz HZ2.out)).trans HZ2.out)
      have HB3 := Lib.hid (HB2.out.trans (hb.mono HB2.out.size))
      have HN3 := Lib.hid (HN2.out.up hb)
      have HA3 := Lib.hid (RowAt.up HA2.out hb)
      clear hb
      clear v0 v1
      obtain ⟨v0, v1⟩ := box2 HZ3.out
      rw [HCK.out]
      go_wp2_with fail
      refine (Keeps_any _ T A n c bo f _ HN3.out HL.out HNN.out HA3.out).mono ?_
      rintro e w4 ⟨rfl, hb⟩
      have HZ4 := Lib.hid ((hb.block _ (heapsz HZ3.out)).trans HZ3.out)
      have HB4 := Lib.hid (HB3.out.trans (hb.mono HB3.out.size))
      have HN4 := Lib.hid (HN3.out.up hb)
      have HA4 := Lib.hid (RowAt.up HA3.out hb)
      clear hb
      clear v0 v1
      obtain ⟨v0, v1⟩ := box2 HZ4.out
      rw [HKV.out]
      go_wp2_with fail
      refine (Break_any _ T A n c bo f _ HN4.out HL.out HNN.out HA4.out).mono ?_
      rintro e w5 ⟨vl, rfl, hb, hr⟩
      rw [HBH.out, HBE.out]
      have HR5 := Lib.hid hr
      have HZ5 := Lib.hid ((hb.block _ (heapsz HZ4.out)).trans HZ4.out)
      have HB5 := Lib.hid (HB4.out.trans (hb.mono HB4.out.size))
      have HN5 := Lib.hid (HN4.out.up hb)
      have HA5 := Lib.hid (RowAt.up HA4.out hb)
      clear hb hr
      clear v0 v1
      obtain ⟨v0, v1⟩ := box2 HZ5.out
      rw [HBL.out] at HR5
      obtain ⟨A4, c4, rfl⟩ := HR5.out.len
      go_wp2_with fail
      refine (Bears_any _ T A n c bo _ HN5.out HL.out HNN.out HA5.out).mono ?_
      rintro e w6 ⟨rfl, hb⟩
      have HZ6 := Lib.hid ((hb.block _ (heapsz HZ5.out)).trans HZ5.out)
      have HB6 := Lib.hid (HB5.out.trans (hb.mono HB5.out.size))
      have HN6 := Lib.hid (HN5.out.up hb)
      have HA6 := Lib.hid (RowAt.up HA5.out hb)
      have HR6 := Lib.hid (HR5.out.below hb)
      clear hb
      clear v0 v1
      obtain ⟨v0, v1⟩ := box2 HZ6.out
      rw [HBT.out]
      go_wp2_with fail
      refine (rtown_any _ T _ HN6.out).mono ?_
      rintro e w7 ⟨rfl, hb⟩
      have HZ7 := Lib.hid ((hb.block _ (heapsz HZ6.out)).trans HZ6.out)
      have HB7 := Lib.hid (HB6.out.trans (hb.mono HB6.out.size))
      have HN7 := Lib.hid (HN6.out.up hb)
      have HA7 := Lib.hid (RowAt.up HA6.out hb)
      have HR7 := Lib.hid (HR6.out.below hb)
      clear hb
      clear v0 v1
      obtain ⟨v0, v1⟩ := box2 HZ7.out
      rw [HTN.out]
      go_wp2_with fail
      refine (asked_any _ T A n c bo _ HN7.out HL.out HNN.out HA7.out).mono ?_
      rintro e w8 ⟨rfl, hb⟩
      have HZ8 := Lib.hid ((hb.block _ (heapsz HZ7.out)).trans HZ7.out)
      have HB8 := Lib.hid (HB7.out.trans (hb.mono HB7.out.size))
      have HN8 := Lib.hid (HN7.out.up hb)
      have HA8 := Lib.hid (RowAt.up HA7.out hb)
      have HR8 := Lib.hid (HR7.out.below hb)
      clear hb
      clear v0 v1
      obtain ⟨v0, v1⟩ := box2 HZ8.out
      rw [HAS.out]
      clear v0 v1
      go_wp2_with fail
      refine (known_any _).mono ?_
      rintro e wk ⟨rfl, hbk⟩
      have HBK := Lib.hid (HB8.out.trans (hbk.mono HB8.out.size))
      clear hbk
      go_wp2_with fail
      go_ret
      exact ⟨rfl, HBK.out⟩
    · have HTN := Lib.hid htn
      have HCK : Hid (checkI T = 0) := Lib.hid (by unfold checkI; rw [htn]; rfl)
      clear htn
      go_wp2_with fail
      refine (Check_any _ T _ HN2.out).mono ?_
      rintro e w3 ⟨rfl, hb⟩
      have HZ3 := Lib.hid ((hb.block _ (heapsz HZ2.out)).trans HZ2.out)
      have HB3 := Lib.hid (HB2.out.trans (hb.mono HB2.out.size))
      have HN3 := Lib.hid (HN2.out.up hb)
      have HA3 := Lib.hid (RowAt.up HA2.out hb)
      clear hb
      clear v0 v1
      obtain ⟨v0, v1⟩ := box2 HZ3.out
      rw [HCK.out]
      go_wp2_with fail
      refine (Keeps_any _ T A n c bo f _ HN3.out HL.out HNN.out HA3.out).mono ?_
      rintro e w4 ⟨rfl, hb⟩
      have HZ4 := Lib.hid ((hb.block _ (heapsz HZ3.out)).trans HZ3.out)
      have HB4 := Lib.hid (HB3.out.trans (hb.mono HB3.out.size))
      have HN4 := Lib.hid (HN3.out.up hb)
      have HA4 := Lib.hid (RowAt.up HA3.out hb)
      clear hb
      clear v0 v1
      obtain ⟨v0, v1⟩ := box2 HZ4.out
      rw [HKV.out]
      go_wp2_with fail
      refine (Break_any _ T A n c bo f _ HN4.out HL.out HNN.out HA4.out).mono ?_
      rintro e w5 ⟨vl, rfl, hb, hr⟩
      rw [HBH.out, HBE.out]
      have HR5 := Lib.hid hr
      have HZ5 := Lib.hid ((hb.block _ (heapsz HZ4.out)).trans HZ4.out)
      have HB5 := Lib.hid (HB4.out.trans (hb.mono HB4.out.size))
      have HN5 := Lib.hid (HN4.out.up hb)
      have HA5 := Lib.hid (RowAt.up HA4.out hb)
      clear hb hr
      clear v0 v1
      obtain ⟨v0, v1⟩ := box2 HZ5.out
      rw [HBL.out] at HR5
      obtain ⟨A4, c4, rfl⟩ := HR5.out.len
      go_wp2_with fail
      refine (Bears_any _ T A n c bo _ HN5.out HL.out HNN.out HA5.out).mono ?_
      rintro e w6 ⟨rfl, hb⟩
      have HZ6 := Lib.hid ((hb.block _ (heapsz HZ5.out)).trans HZ5.out)
      have HB6 := Lib.hid (HB5.out.trans (hb.mono HB5.out.size))
      have HN6 := Lib.hid (HN5.out.up hb)
      have HA6 := Lib.hid (RowAt.up HA5.out hb)
      have HR6 := Lib.hid (HR5.out.below hb)
      clear hb
      clear v0 v1
      obtain ⟨v0, v1⟩ := box2 HZ6.out
      rw [HBT.out]
      go_wp2_with fail
      refine (rtown_any _ T _ HN6.out).mono ?_
      rintro e w7 ⟨rfl, hb⟩
      have HZ7 := Lib.hid ((hb.block _ (heapsz HZ6.out)).trans HZ6.out)
      have HB7 := Lib.hid (HB6.out.trans (hb.mono HB6.out.size))
      have HN7 := Lib.hid (HN6.out.up hb)
      have HA7 := Lib.hid (RowAt.up HA6.out hb)
      have HR7 := Lib.hid (HR6.out.below hb)
      clear hb
      clear v0 v1
      obtain ⟨v0, v1⟩ := box2 HZ7.out
      rw [HTN.out]
      go_wp2_with fail
      refine (asked_any _ T A n c bo _ HN7.out HL.out HNN.out HA7.out).mono ?_
      rintro e w8 ⟨rfl, hb⟩
      have HZ8 := Lib.hid ((hb.block _ (heapsz HZ7.out)).trans HZ7.out)
      have HB8 := Lib.hid (HB7.out.trans (hb.mono HB7.out.size))
      have HN8 := Lib.hid (HN7.out.up hb)
      have HA8 := Lib.hid (RowAt.up HA7.out hb)
      have HR8 := Lib.hid (HR7.out.below hb)
      clear hb
      clear v0 v1
      obtain ⟨v0, v1⟩ := box2 HZ8.out
      rw [HAS.out]
      clear v0 v1
      go_wp2_with fail
      refine (known_any _).mono ?_
      rintro e wk ⟨rfl, hbk⟩
      have HBK := Lib.hid (HB8.out.trans (hbk.mono HB8.out.size))
      clear hbk
      go_wp2_with fail
      go_ret
      exact ⟨rfl, HBK.out⟩
  · have HAS := Lib.hid hask
    have hCI : coolI T bo = 0 := by unfold coolI; rw [hask]; rfl
    obtain ⟨hK, hC⟩ := town_ok hCI
    have HKC := Lib.hid (And.intro hK hC)
    have HTN : Hid (tnB T = true) := Lib.hid (tnB_iff.2 hK)
    have HCK : Hid (checkI T = 0) := Lib.hid (by unfold checkI; rw [HTN.out]; rfl)
    have hin := bearsK_in T (setI bo) T.hs.length
    obtain ⟨bk, hbk⟩ : ∃ z, bearsK T (setI bo) T.hs.length = z := ⟨_, rfl⟩
    have HBK := Lib.hid hbk
    rw [hbk] at hin
    have hbt : bearsT T bo = if bk < 0 then .tuple #[.int .i64 0, .int .i64 5] else .tuple #[.int .i64 bk, .int .i64 0] := by unfold bearsT; rw [if_pos hCI, hbk]
    clear hask hbk hK hC
    by_cases hneg : bk < 0
    · rw [if_pos hneg] at hbt
      have HBT := Lib.hid hbt
      clear hbt
      cases hf : inB 0 f 3
      · have HFI := Lib.hid hf
        have hF : failI T bo f = 2 := by unfold failI; rw [HKC.out.2, hf]; cases tnB T <;> rfl
        have HKV : Hid (keepV T bo f = .tuple #[.bool false, .int .i64 2]) := Lib.hid (by unfold keepV; rw [hF]; rfl)
        have HBH : Hid (brH T bo f = 0) := Lib.hid (by unfold brH; rw [hF]; rfl)
        have HBE : Hid (brE T bo f = 2) := Lib.hid (by unfold brE; rw [hF]; rfl)
        have HBL : Hid (brL T bo f = []) := Lib.hid (by unfold brL; rw [hF]; rfl)
        clear hf hF hCI
        go_wp2_with fail
        refine (Check_any _ T _ HN2.out).mono ?_
        rintro e w3 ⟨rfl, hb⟩
        have HZ3 := Lib.hid ((hb.block _ (heapsz HZ2.out)).trans HZ2.out)
        have HB3 := Lib.hid (HB2.out.trans (hb.mono HB2.out.size))
        have HN3 := Lib.hid (HN2.out.up hb)
        have HA3 := Lib.hid (RowAt.up HA2.out hb)
        clear hb
        clear v0 v1
        obtain ⟨v0, v1⟩ := box2 HZ3.out
        rw [HCK.out]
        go_wp2_with fail
        refine (Keeps_any _ T A n c bo f _ HN3.out HL.out HNN.out HA3.out).mono ?_
        rintro e w4 ⟨rfl, hb⟩
        have HZ4 := Lib.hid ((hb.block _ (heapsz HZ3.out)).trans HZ3.out)
        have HB4 := Lib.hid (HB3.out.trans (hb.mono HB3.out.size))
        have HN4 := Lib.hid (HN3.out.up hb)
        have HA4 := Lib.hid (RowAt.up HA3.out hb)
        clear hb
        clear v0 v1
        obtain ⟨v0, v1⟩ := box2 HZ4.out
        rw [HKV.out]
        go_wp2_with fail
        refine (Break_any _ T A n c bo f _ HN4.out HL.out HNN.out HA4.out).mono ?_
        rintro e w5 ⟨vl, rfl, hb, hr⟩
        rw [HBH.out, HBE.out]
        have HR5 := Lib.hid hr
        have HZ5 := Lib.hid ((hb.block _ (heapsz HZ4.out)).trans HZ4.out)
        have HB5 := Lib.hid (HB4.out.trans (hb.mono HB4.out.size))
        have HN5 := Lib.hid (HN4.out.up hb)
        have HA5 := Lib.hid (RowAt.up HA4.out hb)
        clear hb hr
        clear v0 v1
        obtain ⟨v0, v1⟩ := box2 HZ5.out
        rw [HBL.out] at HR5
        obtain ⟨A4, c4, rfl⟩ := HR5.out.len
        go_wp2_with fail
        refine (Bears_any _ T A n c bo _ HN5.out HL.out HNN.out HA5.out).mono ?_
        rintro e w6 ⟨rfl, hb⟩
        have HZ6 := Lib.hid ((hb.block _ (heapsz HZ5.out)).trans HZ5.out)
        have HB6 := Lib.hid (HB5.out.trans (hb.mono HB5.out.size))
        have HN6 := Lib.hid (HN5.out.up hb)
        have HA6 := Lib.hid (RowAt.up HA5.out hb)
        have HR6 := Lib.hid (HR5.out.below hb)
        clear hb
        clear v0 v1
        obtain ⟨v0, v1⟩ := box2 HZ6.out
        rw [HBT.out]
        go_wp2_with fail
        refine (rtown_any _ T _ HN6.out).mono ?_
        rintro e w7 ⟨rfl, hb⟩
        have HZ7 := Lib.hid ((hb.block _ (heapsz HZ6.out)).trans HZ6.out)
        have HB7 := Lib.hid (HB6.out.trans (hb.mono HB6.out.size))
        have HN7 := Lib.hid (HN6.out.up hb)
        have HA7 := Lib.hid (RowAt.up HA6.out hb)
        have HR7 := Lib.hid (HR6.out.below hb)
        clear hb
        clear v0 v1
        obtain ⟨v0, v1⟩ := box2 HZ7.out
        rw [HTN.out]
        go_wp2_with fail
        refine (asked_any _ T A n c bo _ HN7.out HL.out HNN.out HA7.out).mono ?_
        rintro e w8 ⟨rfl, hb⟩
        have HZ8 := Lib.hid ((hb.block _ (heapsz HZ7.out)).trans HZ7.out)
        have HB8 := Lib.hid (HB7.out.trans (hb.mono HB7.out.size))
        have HN8 := Lib.hid (HN7.out.up hb)
        have HA8 := Lib.hid (RowAt.up HA7.out hb)
        have HR8 := Lib.hid (HR7.out.below hb)
        clear hb
        clear v0 v1
        obtain ⟨v0, v1⟩ := box2 HZ8.out
        rw [HAS.out]
        go_wp2_with fail
        refine (rbears_any _ T A n c bo _ HN8.out HL.out (by omega) hnc HA8.out HKC.out.1 HKC.out.2).mono ?_
        rintro e w9 ⟨rfl, hb⟩
        have HZ9 := Lib.hid ((hb.block _ (heapsz HZ8.out)).trans HZ8.out)
        have HB9 := Lib.hid (HB8.out.trans (hb.mono HB8.out.size))
        have HN9 := Lib.hid (HN8.out.up hb)
        have HA9 := Lib.hid (RowAt.up HA8.out hb)
        have HR9 := Lib.hid (HR8.out.below hb)
        clear hb
        clear v0 v1
        obtain ⟨v0, v1⟩ := box2 HZ9.out
        rw [HBK.out]
        go_wp2_with fail
        refine (rfails_any _ _).mono ?_
        rintro e w' ⟨rfl, rfl⟩
        rw [HFI.out]
        clear v0 v1
        go_wp2_with fail
        refine (known_any _).mono ?_
        rintro e wk ⟨rfl, hbk⟩
        have HBK := Lib.hid (HB9.out.trans (hbk.mono HB9.out.size))
        clear hbk
        go_wp2_with fail
        go_ret
        exact ⟨rfl, HBK.out⟩
      · have HFI := Lib.hid hf
        have hf2 := inB_iff.1 hf
        have HFF := Lib.hid hf2
        have h0 := fail_ok HKC.out.1 HKC.out.2 hf
        cases hu : brU T bo f with
        | none =>
          have HKV : Hid (keepV T bo f = .tuple #[.bool true, .int .i64 0]) := Lib.hid (by rw [keepV_ok HKC.out.1 HKC.out.2 hf]; unfold keepS; rw [show unevenI T T.hs.length (setI bo) f = none from hu]; rfl)
          have HBH : Hid (brH T bo f = 0) := Lib.hid (by unfold brH; rw [if_pos h0, hu])
          have HBE : Hid (brE T bo f = 6) := Lib.hid (by unfold brE; rw [if_pos h0, hu])
          have HBL : Hid (brL T bo f = []) := Lib.hid (by unfold brL; rw [if_pos h0, hu])
          have HRH : Hid (rbH T bo f = -1) := Lib.hid (by unfold rbH; rw [hu])
          clear hf hCI h0 hu
          go_wp2_with fail
          refine (Check_any _ T _ HN2.out).mono ?_
          rintro e w3 ⟨rfl, hb⟩
          have HZ3 := Lib.hid ((hb.block _ (heapsz HZ2.out)).trans HZ2.out)
          have HB3 := Lib.hid (HB2.out.trans (hb.mono HB2.out.size))
          have HN3 := Lib.hid (HN2.out.up hb)
          have HA3 := Lib.hid (RowAt.up HA2.out hb)
          clear hb
          clear v0 v1
          obtain ⟨v0, v1⟩ := box2 HZ3.out
          rw [HCK.out]
          go_wp2_with fail
          refine (Keeps_any _ T A n c bo f _ HN3.out HL.out HNN.out HA3.out).mono ?_
          rintro e w4 ⟨rfl, hb⟩
          have HZ4 := Lib.hid ((hb.block _ (heapsz HZ3.out)).trans HZ3.out)
          have HB4 := Lib.hid (HB3.out.trans (hb.mono HB3.out.size))
          have HN4 := Lib.hid (HN3.out.up hb)
          have HA4 := Lib.hid (RowAt.up HA3.out hb)
          clear hb
          clear v0 v1
          obtain ⟨v0, v1⟩ := box2 HZ4.out
          rw [HKV.out]
          go_wp2_with fail
          refine (Break_any _ T A n c bo f _ HN4.out HL.out HNN.out HA4.out).mono ?_
          rintro e w5 ⟨vl, rfl, hb, hr⟩
          rw [HBH.out, HBE.out]
          have HR5 := Lib.hid hr
          have HZ5 := Lib.hid ((hb.block _ (heapsz HZ4.out)).trans HZ4.out)
          have HB5 := Lib.hid (HB4.out.trans (hb.mono HB4.out.size))
          have HN5 := Lib.hid (HN4.out.up hb)
          have HA5 := Lib.hid (RowAt.up HA4.out hb)
          clear hb hr
          clear v0 v1
          obtain ⟨v0, v1⟩ := box2 HZ5.out
          rw [HBL.out] at HR5
          obtain ⟨A4, c4, rfl⟩ := HR5.out.len
          go_wp2_with fail
          refine (Bears_any _ T A n c bo _ HN5.out HL.out HNN.out HA5.out).mono ?_
          rintro e w6 ⟨rfl, hb⟩
          have HZ6 := Lib.hid ((hb.block _ (heapsz HZ5.out)).trans HZ5.out)
          have HB6 := Lib.hid (HB5.out.trans (hb.mono HB5.out.size))
          have HN6 := Lib.hid (HN5.out.up hb)
          have HA6 := Lib.hid (RowAt.up HA5.out hb)
          have HR6 := Lib.hid (HR5.out.below hb)
          clear hb
          clear v0 v1
          obtain ⟨v0, v1⟩ := box2 HZ6.out
          rw [HBT.out]
          go_wp2_with fail
          refine (rtown_any _ T _ HN6.out).mono ?_
          rintro e w7 ⟨rfl, hb⟩
          have HZ7 := Lib.hid ((hb.block _ (heapsz HZ6.out)).trans HZ6.out)
          have HB7 := Lib.hid (HB6.out.trans (hb.mono HB6.out.size))
          have HN7 := Lib.hid (HN6.out.up hb)
          have HA7 := Lib.hid (RowAt.up HA6.out hb)
          have HR7 := Lib.hid (HR6.out.below hb)
          clear hb
          clear v0 v1
          obtain ⟨v0, v1⟩ := box2 HZ7.out
          rw [HTN.out]
          go_wp2_with fail
          refine (asked_any _ T A n c bo _ HN7.out HL.out HNN.out HA7.out).mono ?_
          rintro e w8 ⟨rfl, hb⟩
          have HZ8 := Lib.hid ((hb.block _ (heapsz HZ7.out)).trans HZ7.out)
          have HB8 := Lib.hid (HB7.out.trans (hb.mono HB7.out.size))
          have HN8 := Lib.hid (HN7.out.up hb)
          have HA8 := Lib.hid (RowAt.up HA7.out hb)
          have HR8 := Lib.hid (HR7.out.below hb)
          clear hb
          clear v0 v1
          obtain ⟨v0, v1⟩ := box2 HZ8.out
          rw [HAS.out]
          go_wp2_with fail
          refine (rbears_any _ T A n c bo _ HN8.out HL.out (by omega) hnc HA8.out HKC.out.1 HKC.out.2).mono ?_
          rintro e w9 ⟨rfl, hb⟩
          have HZ9 := Lib.hid ((hb.block _ (heapsz HZ8.out)).trans HZ8.out)
          have HB9 := Lib.hid (HB8.out.trans (hb.mono HB8.out.size))
          have HN9 := Lib.hid (HN8.out.up hb)
          have HA9 := Lib.hid (RowAt.up HA8.out hb)
          have HR9 := Lib.hid (HR8.out.below hb)
          clear hb
          clear v0 v1
          obtain ⟨v0, v1⟩ := box2 HZ9.out
          rw [HBK.out]
          go_wp2_with fail
          refine (rfails_any _ _).mono ?_
          rintro e w' ⟨rfl, rfl⟩
          rw [HFI.out]
          go_wp2_with fail
          refine (rbreak_any _ T A n c bo f _ HN9.out HL.out (by omega) hnc HA9.out HKC.out.1 HKC.out.2 HFF.out).mono ?_
          rintro e w10 ⟨vq, rfl, hb, hr⟩
          rw [HRH.out]
          have HQ10 := Lib.hid hr
          have HZ10 := Lib.hid ((hb.block _ (heapsz HZ9.out)).trans HZ9.out)
          have HB10 := Lib.hid (HB9.out.trans (hb.mono HB9.out.size))
          have HN10 := Lib.hid (HN9.out.up hb)
          have HA10 := Lib.hid (RowAt.up HA9.out hb)
          have HR10 := Lib.hid (HR9.out.below hb)
          clear hb hr
          clear v0 v1
          obtain ⟨v0, v1⟩ := box2 HZ10.out
          obtain ⟨A5, c5, rfl⟩ := HQ10.out.len
          clear v0 v1
          go_wp2_with fail
          refine (known_any _).mono ?_
          rintro e wk ⟨rfl, hbk⟩
          have HBK := Lib.hid (HB10.out.trans (hbk.mono HB10.out.size))
          clear hbk
          go_wp2_with fail
          go_ret
          exact ⟨rfl, HBK.out⟩
        | some h =>
          obtain ⟨l, e1, e2, e3, hlt, hll, _⟩ := broken_some (ot := bo) HKC.out.1 HKC.out.2 HKC.out.2 hf hu
          have HKV : Hid (keepV T bo f = .tuple #[.bool false, .int .i64 0]) := Lib.hid (by rw [keepV_ok HKC.out.1 HKC.out.2 hf]; unfold keepS; rw [show unevenI T T.hs.length (setI bo) f = some h from hu]; rfl)
          have HBH := Lib.hid e1; have HBE := Lib.hid e2; have HBL := Lib.hid e3
          have HRH : Hid (rbH T bo f = h) := Lib.hid (by unfold rbH; rw [hu])
          have HRL : Hid (rbL T bo f = l) := Lib.hid (by
            rw [← e3]
            unfold rbL brL
            rw [if_pos h0, hu])
          have HLL : Hid (l.length ≤ maxLen) := Lib.hid (by unfold maxLen; omega)
          clear hf hCI h0 hu e1 e2 e3 hlt hll
          go_wp2_with fail
          refine (Check_any _ T _ HN2.out).mono ?_
          rintro e w3 ⟨rfl, hb⟩
          have HZ3 := Lib.hid ((hb.block _ (heapsz HZ2.out)).trans HZ2.out)
          have HB3 := Lib.hid (HB2.out.trans (hb.mono HB2.out.size))
          have HN3 := Lib.hid (HN2.out.up hb)
          have HA3 := Lib.hid (RowAt.up HA2.out hb)
          clear hb
          clear v0 v1
          obtain ⟨v0, v1⟩ := box2 HZ3.out
          rw [HCK.out]
          go_wp2_with fail
          refine (Keeps_any _ T A n c bo f _ HN3.out HL.out HNN.out HA3.out).mono ?_
          rintro e w4 ⟨rfl, hb⟩
          have HZ4 := Lib.hid ((hb.block _ (heapsz HZ3.out)).trans HZ3.out)
          have HB4 := Lib.hid (HB3.out.trans (hb.mono HB3.out.size))
          have HN4 := Lib.hid (HN3.out.up hb)
          have HA4 := Lib.hid (RowAt.up HA3.out hb)
          clear hb
          clear v0 v1
          obtain ⟨v0, v1⟩ := box2 HZ4.out
          rw [HKV.out]
          go_wp2_with fail
          refine (Break_any _ T A n c bo f _ HN4.out HL.out HNN.out HA4.out).mono ?_
          rintro e w5 ⟨vl, rfl, hb, hr⟩
          rw [HBH.out, HBE.out]
          have HR5 := Lib.hid hr
          have HZ5 := Lib.hid ((hb.block _ (heapsz HZ4.out)).trans HZ4.out)
          have HB5 := Lib.hid (HB4.out.trans (hb.mono HB4.out.size))
          have HN5 := Lib.hid (HN4.out.up hb)
          have HA5 := Lib.hid (RowAt.up HA4.out hb)
          clear hb hr
          clear v0 v1
          obtain ⟨v0, v1⟩ := box2 HZ5.out
          rw [HBL.out] at HR5
          obtain ⟨A4, c4, rfl⟩ := HR5.out.len
          go_wp2_with fail
          refine (Bears_any _ T A n c bo _ HN5.out HL.out HNN.out HA5.out).mono ?_
          rintro e w6 ⟨rfl, hb⟩
          have HZ6 := Lib.hid ((hb.block _ (heapsz HZ5.out)).trans HZ5.out)
          have HB6 := Lib.hid (HB5.out.trans (hb.mono HB5.out.size))
          have HN6 := Lib.hid (HN5.out.up hb)
          have HA6 := Lib.hid (RowAt.up HA5.out hb)
          have HR6 := Lib.hid (HR5.out.below hb)
          clear hb
          clear v0 v1
          obtain ⟨v0, v1⟩ := box2 HZ6.out
          rw [HBT.out]
          go_wp2_with fail
          refine (rtown_any _ T _ HN6.out).mono ?_
          rintro e w7 ⟨rfl, hb⟩
          have HZ7 := Lib.hid ((hb.block _ (heapsz HZ6.out)).trans HZ6.out)
          have HB7 := Lib.hid (HB6.out.trans (hb.mono HB6.out.size))
          have HN7 := Lib.hid (HN6.out.up hb)
          have HA7 := Lib.hid (RowAt.up HA6.out hb)
          have HR7 := Lib.hid (HR6.out.below hb)
          clear hb
          clear v0 v1
          obtain ⟨v0, v1⟩ := box2 HZ7.out
          rw [HTN.out]
          go_wp2_with fail
          refine (asked_any _ T A n c bo _ HN7.out HL.out HNN.out HA7.out).mono ?_
          rintro e w8 ⟨rfl, hb⟩
          have HZ8 := Lib.hid ((hb.block _ (heapsz HZ7.out)).trans HZ7.out)
          have HB8 := Lib.hid (HB7.out.trans (hb.mono HB7.out.size))
          have HN8 := Lib.hid (HN7.out.up hb)
          have HA8 := Lib.hid (RowAt.up HA7.out hb)
          have HR8 := Lib.hid (HR7.out.below hb)
          clear hb
          clear v0 v1
          obtain ⟨v0, v1⟩ := box2 HZ8.out
          rw [HAS.out]
          go_wp2_with fail
          refine (rbears_any _ T A n c bo _ HN8.out HL.out (by omega) hnc HA8.out HKC.out.1 HKC.out.2).mono ?_
          rintro e w9 ⟨rfl, hb⟩
          have HZ9 := Lib.hid ((hb.block _ (heapsz HZ8.out)).trans HZ8.out)
          have HB9 := Lib.hid (HB8.out.trans (hb.mono HB8.out.size))
          have HN9 := Lib.hid (HN8.out.up hb)
          have HA9 := Lib.hid (RowAt.up HA8.out hb)
          have HR9 := Lib.hid (HR8.out.below hb)
          clear hb
          clear v0 v1
          obtain ⟨v0, v1⟩ := box2 HZ9.out
          rw [HBK.out]
          go_wp2_with fail
          refine (rfails_any _ _).mono ?_
          rintro e w' ⟨rfl, rfl⟩
          rw [HFI.out]
          go_wp2_with fail
          refine (rbreak_any _ T A n c bo f _ HN9.out HL.out (by omega) hnc HA9.out HKC.out.1 HKC.out.2 HFF.out).mono ?_
          rintro e w10 ⟨vq, rfl, hb, hr⟩
          rw [HRH.out]
          rw [HRL.out] at hr
          have HQ10 := Lib.hid hr
          have HZ10 := Lib.hid ((hb.block _ (heapsz HZ9.out)).trans HZ9.out)
          have HB10 := Lib.hid (HB9.out.trans (hb.mono HB9.out.size))
          have HN10 := Lib.hid (HN9.out.up hb)
          have HA10 := Lib.hid (RowAt.up HA9.out hb)
          have HR10 := Lib.hid (HR9.out.below hb)
          clear hb hr
          clear v0 v1
          obtain ⟨v0, v1⟩ := box2 HZ10.out
          obtain ⟨A5, c5, rfl⟩ := HQ10.out.len
          go_wp2_with fail
          refine (same_any l l A4 A5 _ c4 _ c5 _ rfl rfl HLL.out (row_ints HR10.out) (row_ints HQ10.out)).mono ?_
          rintro e w11 ⟨rfl, hb⟩
          have HZ11 := Lib.hid ((hb.block _ (heapsz HZ10.out)).trans HZ10.out)
          have HB11 := Lib.hid (HB10.out.trans (hb.mono HB10.out.size))
          have HN11 := Lib.hid (HN10.out.up hb)
          have HA11 := Lib.hid (RowAt.up HA10.out hb)
          have HR11 := Lib.hid (HR10.out.below hb)
          have HQ11 := Lib.hid (HQ10.out.below hb)
          clear hb
          first | rw [show decide True = true from rfl] | rw [decide_eq_true rfl]
          clear v0 v1
          go_wp2_with fail
          refine (known_any _).mono ?_
          rintro e wk ⟨rfl, hbk⟩
          have HBK := Lib.hid (HB11.out.trans (hbk.mono HB11.out.size))
          clear hbk
          go_wp2_with fail
          go_ret
          exact ⟨rfl, HBK.out⟩
    · rw [if_neg hneg] at hbt
      have HBT := Lib.hid hbt
      clear hbt
      cases hf : inB 0 f 3
      · have HFI := Lib.hid hf
        have hF : failI T bo f = 2 := by unfold failI; rw [HKC.out.2, hf]; cases tnB T <;> rfl
        have HKV : Hid (keepV T bo f = .tuple #[.bool false, .int .i64 2]) := Lib.hid (by unfold keepV; rw [hF]; rfl)
        have HBH : Hid (brH T bo f = 0) := Lib.hid (by unfold brH; rw [hF]; rfl)
        have HBE : Hid (brE T bo f = 2) := Lib.hid (by unfold brE; rw [hF]; rfl)
        have HBL : Hid (brL T bo f = []) := Lib.hid (by unfold brL; rw [hF]; rfl)
        clear hf hF hCI
        go_wp2_with fail
        refine (Check_any _ T _ HN2.out).mono ?_
        rintro e w3 ⟨rfl, hb⟩
        have HZ3 := Lib.hid ((hb.block _ (heapsz HZ2.out)).trans HZ2.out)
        have HB3 := Lib.hid (HB2.out.trans (hb.mono HB2.out.size))
        have HN3 := Lib.hid (HN2.out.up hb)
        have HA3 := Lib.hid (RowAt.up HA2.out hb)
        clear hb
        clear v0 v1
        obtain ⟨v0, v1⟩ := box2 HZ3.out
        rw [HCK.out]
        go_wp2_with fail
        refine (Keeps_any _ T A n c bo f _ HN3.out HL.out HNN.out HA3.out).mono ?_
        rintro e w4 ⟨rfl, hb⟩
        have HZ4 := Lib.hid ((hb.block _ (heapsz HZ3.out)).trans HZ3.out)
        have HB4 := Lib.hid (HB3.out.trans (hb.mono HB3.out.size))
        have HN4 := Lib.hid (HN3.out.up hb)
        have HA4 := Lib.hid (RowAt.up HA3.out hb)
        clear hb
        clear v0 v1
        obtain ⟨v0, v1⟩ := box2 HZ4.out
        rw [HKV.out]
        go_wp2_with fail
        refine (Break_any _ T A n c bo f _ HN4.out HL.out HNN.out HA4.out).mono ?_
        rintro e w5 ⟨vl, rfl, hb, hr⟩
        rw [HBH.out, HBE.out]
        have HR5 := Lib.hid hr
        have HZ5 := Lib.hid ((hb.block _ (heapsz HZ4.out)).trans HZ4.out)
        have HB5 := Lib.hid (HB4.out.trans (hb.mono HB4.out.size))
        have HN5 := Lib.hid (HN4.out.up hb)
        have HA5 := Lib.hid (RowAt.up HA4.out hb)
        clear hb hr
        clear v0 v1
        obtain ⟨v0, v1⟩ := box2 HZ5.out
        rw [HBL.out] at HR5
        obtain ⟨A4, c4, rfl⟩ := HR5.out.len
        go_wp2_with fail
        refine (Bears_any _ T A n c bo _ HN5.out HL.out HNN.out HA5.out).mono ?_
        rintro e w6 ⟨rfl, hb⟩
        have HZ6 := Lib.hid ((hb.block _ (heapsz HZ5.out)).trans HZ5.out)
        have HB6 := Lib.hid (HB5.out.trans (hb.mono HB5.out.size))
        have HN6 := Lib.hid (HN5.out.up hb)
        have HA6 := Lib.hid (RowAt.up HA5.out hb)
        have HR6 := Lib.hid (HR5.out.below hb)
        clear hb
        clear v0 v1
        obtain ⟨v0, v1⟩ := box2 HZ6.out
        rw [HBT.out]
        go_wp2_with fail
        refine (rtown_any _ T _ HN6.out).mono ?_
        rintro e w7 ⟨rfl, hb⟩
        have HZ7 := Lib.hid ((hb.block _ (heapsz HZ6.out)).trans HZ6.out)
        have HB7 := Lib.hid (HB6.out.trans (hb.mono HB6.out.size))
        have HN7 := Lib.hid (HN6.out.up hb)
        have HA7 := Lib.hid (RowAt.up HA6.out hb)
        have HR7 := Lib.hid (HR6.out.below hb)
        clear hb
        clear v0 v1
        obtain ⟨v0, v1⟩ := box2 HZ7.out
        rw [HTN.out]
        go_wp2_with fail
        refine (asked_any _ T A n c bo _ HN7.out HL.out HNN.out HA7.out).mono ?_
        rintro e w8 ⟨rfl, hb⟩
        have HZ8 := Lib.hid ((hb.block _ (heapsz HZ7.out)).trans HZ7.out)
        have HB8 := Lib.hid (HB7.out.trans (hb.mono HB7.out.size))
        have HN8 := Lib.hid (HN7.out.up hb)
        have HA8 := Lib.hid (RowAt.up HA7.out hb)
        have HR8 := Lib.hid (HR7.out.below hb)
        clear hb
        clear v0 v1
        obtain ⟨v0, v1⟩ := box2 HZ8.out
        rw [HAS.out]
        go_wp2_with fail
        refine (rbears_any _ T A n c bo _ HN8.out HL.out (by omega) hnc HA8.out HKC.out.1 HKC.out.2).mono ?_
        rintro e w9 ⟨rfl, hb⟩
        have HZ9 := Lib.hid ((hb.block _ (heapsz HZ8.out)).trans HZ8.out)
        have HB9 := Lib.hid (HB8.out.trans (hb.mono HB8.out.size))
        have HN9 := Lib.hid (HN8.out.up hb)
        have HA9 := Lib.hid (RowAt.up HA8.out hb)
        have HR9 := Lib.hid (HR8.out.below hb)
        clear hb
        clear v0 v1
        obtain ⟨v0, v1⟩ := box2 HZ9.out
        rw [HBK.out]
        go_wp2_with fail
        refine (rfails_any _ _).mono ?_
        rintro e w' ⟨rfl, rfl⟩
        rw [HFI.out]
        clear v0 v1
        go_wp2_with fail
        refine (known_any _).mono ?_
        rintro e wk ⟨rfl, hbk⟩
        have HBK := Lib.hid (HB9.out.trans (hbk.mono HB9.out.size))
        clear hbk
        go_wp2_with fail
        go_ret
        exact ⟨rfl, HBK.out⟩
      · have HFI := Lib.hid hf
        have hf2 := inB_iff.1 hf
        have HFF := Lib.hid hf2
        have h0 := fail_ok HKC.out.1 HKC.out.2 hf
        cases hu : brU T bo f with
        | none =>
          have HKV : Hid (keepV T bo f = .tuple #[.bool true, .int .i64 0]) := Lib.hid (by rw [keepV_ok HKC.out.1 HKC.out.2 hf]; unfold keepS; rw [show unevenI T T.hs.length (setI bo) f = none from hu]; rfl)
          have HBH : Hid (brH T bo f = 0) := Lib.hid (by unfold brH; rw [if_pos h0, hu])
          have HBE : Hid (brE T bo f = 6) := Lib.hid (by unfold brE; rw [if_pos h0, hu])
          have HBL : Hid (brL T bo f = []) := Lib.hid (by unfold brL; rw [if_pos h0, hu])
          have HRH : Hid (rbH T bo f = -1) := Lib.hid (by unfold rbH; rw [hu])
          clear hf hCI h0 hu
          go_wp2_with fail
          refine (Check_any _ T _ HN2.out).mono ?_
          rintro e w3 ⟨rfl, hb⟩
          have HZ3 := Lib.hid ((hb.block _ (heapsz HZ2.out)).trans HZ2.out)
          have HB3 := Lib.hid (HB2.out.trans (hb.mono HB2.out.size))
          have HN3 := Lib.hid (HN2.out.up hb)
          have HA3 := Lib.hid (RowAt.up HA2.out hb)
          clear hb
          clear v0 v1
          obtain ⟨v0, v1⟩ := box2 HZ3.out
          rw [HCK.out]
          go_wp2_with fail
          refine (Keeps_any _ T A n c bo f _ HN3.out HL.out HNN.out HA3.out).mono ?_
          rintro e w4 ⟨rfl, hb⟩
          have HZ4 := Lib.hid ((hb.block _ (heapsz HZ3.out)).trans HZ3.out)
          have HB4 := Lib.hid (HB3.out.trans (hb.mono HB3.out.size))
          have HN4 := Lib.hid (HN3.out.up hb)
          have HA4 := Lib.hid (RowAt.up HA3.out hb)
          clear hb
          clear v0 v1
          obtain ⟨v0, v1⟩ := box2 HZ4.out
          rw [HKV.out]
          go_wp2_with fail
          refine (Break_any _ T A n c bo f _ HN4.out HL.out HNN.out HA4.out).mono ?_
          rintro e w5 ⟨vl, rfl, hb, hr⟩
          rw [HBH.out, HBE.out]
          have HR5 := Lib.hid hr
          have HZ5 := Lib.hid ((hb.block _ (heapsz HZ4.out)).trans HZ4.out)
          have HB5 := Lib.hid (HB4.out.trans (hb.mono HB4.out.size))
          have HN5 := Lib.hid (HN4.out.up hb)
          have HA5 := Lib.hid (RowAt.up HA4.out hb)
          clear hb hr
          clear v0 v1
          obtain ⟨v0, v1⟩ := box2 HZ5.out
          rw [HBL.out] at HR5
          obtain ⟨A4, c4, rfl⟩ := HR5.out.len
          go_wp2_with fail
          refine (Bears_any _ T A n c bo _ HN5.out HL.out HNN.out HA5.out).mono ?_
          rintro e w6 ⟨rfl, hb⟩
          have HZ6 := Lib.hid ((hb.block _ (heapsz HZ5.out)).trans HZ5.out)
          have HB6 := Lib.hid (HB5.out.trans (hb.mono HB5.out.size))
          have HN6 := Lib.hid (HN5.out.up hb)
          have HA6 := Lib.hid (RowAt.up HA5.out hb)
          have HR6 := Lib.hid (HR5.out.below hb)
          clear hb
          clear v0 v1
          obtain ⟨v0, v1⟩ := box2 HZ6.out
          rw [HBT.out]
          go_wp2_with fail
          refine (rtown_any _ T _ HN6.out).mono ?_
          rintro e w7 ⟨rfl, hb⟩
          have HZ7 := Lib.hid ((hb.block _ (heapsz HZ6.out)).trans HZ6.out)
          have HB7 := Lib.hid (HB6.out.trans (hb.mono HB6.out.size))
          have HN7 := Lib.hid (HN6.out.up hb)
          have HA7 := Lib.hid (RowAt.up HA6.out hb)
          have HR7 := Lib.hid (HR6.out.below hb)
          clear hb
          clear v0 v1
          obtain ⟨v0, v1⟩ := box2 HZ7.out
          rw [HTN.out]
          go_wp2_with fail
          refine (asked_any _ T A n c bo _ HN7.out HL.out HNN.out HA7.out).mono ?_
          rintro e w8 ⟨rfl, hb⟩
          have HZ8 := Lib.hid ((hb.block _ (heapsz HZ7.out)).trans HZ7.out)
          have HB8 := Lib.hid (HB7.out.trans (hb.mono HB7.out.size))
          have HN8 := Lib.hid (HN7.out.up hb)
          have HA8 := Lib.hid (RowAt.up HA7.out hb)
          have HR8 := Lib.hid (HR7.out.below hb)
          clear hb
          clear v0 v1
          obtain ⟨v0, v1⟩ := box2 HZ8.out
          rw [HAS.out]
          go_wp2_with fail
          refine (rbears_any _ T A n c bo _ HN8.out HL.out (by omega) hnc HA8.out HKC.out.1 HKC.out.2).mono ?_
          rintro e w9 ⟨rfl, hb⟩
          have HZ9 := Lib.hid ((hb.block _ (heapsz HZ8.out)).trans HZ8.out)
          have HB9 := Lib.hid (HB8.out.trans (hb.mono HB8.out.size))
          have HN9 := Lib.hid (HN8.out.up hb)
          have HA9 := Lib.hid (RowAt.up HA8.out hb)
          have HR9 := Lib.hid (HR8.out.below hb)
          clear hb
          clear v0 v1
          obtain ⟨v0, v1⟩ := box2 HZ9.out
          rw [HBK.out]
          go_wp2_with fail
          refine (rfails_any _ _).mono ?_
          rintro e w' ⟨rfl, rfl⟩
          rw [HFI.out]
          go_wp2_with fail
          refine (rbreak_any _ T A n c bo f _ HN9.out HL.out (by omega) hnc HA9.out HKC.out.1 HKC.out.2 HFF.out).mono ?_
          rintro e w10 ⟨vq, rfl, hb, hr⟩
          rw [HRH.out]
          have HQ10 := Lib.hid hr
          have HZ10 := Lib.hid ((hb.block _ (heapsz HZ9.out)).trans HZ9.out)
          have HB10 := Lib.hid (HB9.out.trans (hb.mono HB9.out.size))
          have HN10 := Lib.hid (HN9.out.up hb)
          have HA10 := Lib.hid (RowAt.up HA9.out hb)
          have HR10 := Lib.hid (HR9.out.below hb)
          clear hb hr
          clear v0 v1
          obtain ⟨v0, v1⟩ := box2 HZ10.out
          obtain ⟨A5, c5, rfl⟩ := HQ10.out.len
          clear v0 v1
          go_wp2_with fail
          refine (known_any _).mono ?_
          rintro e wk ⟨rfl, hbk⟩
          have HBK := Lib.hid (HB10.out.trans (hbk.mono HB10.out.size))
          clear hbk
          go_wp2_with fail
          go_ret
          exact ⟨rfl, HBK.out⟩
        | some h =>
          obtain ⟨l, e1, e2, e3, hlt, hll, _⟩ := broken_some (ot := bo) HKC.out.1 HKC.out.2 HKC.out.2 hf hu
          have HKV : Hid (keepV T bo f = .tuple #[.bool false, .int .i64 0]) := Lib.hid (by rw [keepV_ok HKC.out.1 HKC.out.2 hf]; unfold keepS; rw [show unevenI T T.hs.length (setI bo) f = some h from hu]; rfl)
          have HBH := Lib.hid e1; have HBE := Lib.hid e2; have HBL := Lib.hid e3
          have HRH : Hid (rbH T bo f = h) := Lib.hid (by unfold rbH; rw [hu])
          have HRL : Hid (rbL T bo f = l) := Lib.hid (by
            rw [← e3]
            unfold rbL brL
            rw [if_pos h0, hu])
          have HLL : Hid (l.length ≤ maxLen) := Lib.hid (by unfold maxLen; omega)
          clear hf hCI h0 hu e1 e2 e3 hlt hll
          go_wp2_with fail
          refine (Check_any _ T _ HN2.out).mono ?_
          rintro e w3 ⟨rfl, hb⟩
          have HZ3 := Lib.hid ((hb.block _ (heapsz HZ2.out)).trans HZ2.out)
          have HB3 := Lib.hid (HB2.out.trans (hb.mono HB2.out.size))
          have HN3 := Lib.hid (HN2.out.up hb)
          have HA3 := Lib.hid (RowAt.up HA2.out hb)
          clear hb
          clear v0 v1
          obtain ⟨v0, v1⟩ := box2 HZ3.out
          rw [HCK.out]
          go_wp2_with fail
          refine (Keeps_any _ T A n c bo f _ HN3.out HL.out HNN.out HA3.out).mono ?_
          rintro e w4 ⟨rfl, hb⟩
          have HZ4 := Lib.hid ((hb.block _ (heapsz HZ3.out)).trans HZ3.out)
          have HB4 := Lib.hid (HB3.out.trans (hb.mono HB3.out.size))
          have HN4 := Lib.hid (HN3.out.up hb)
          have HA4 := Lib.hid (RowAt.up HA3.out hb)
          clear hb
          clear v0 v1
          obtain ⟨v0, v1⟩ := box2 HZ4.out
          rw [HKV.out]
          go_wp2_with fail
          refine (Break_any _ T A n c bo f _ HN4.out HL.out HNN.out HA4.out).mono ?_
          rintro e w5 ⟨vl, rfl, hb, hr⟩
          rw [HBH.out, HBE.out]
          have HR5 := Lib.hid hr
          have HZ5 := Lib.hid ((hb.block _ (heapsz HZ4.out)).trans HZ4.out)
          have HB5 := Lib.hid (HB4.out.trans (hb.mono HB4.out.size))
          have HN5 := Lib.hid (HN4.out.up hb)
          have HA5 := Lib.hid (RowAt.up HA4.out hb)
          clear hb hr
          clear v0 v1
          obtain ⟨v0, v1⟩ := box2 HZ5.out
          rw [HBL.out] at HR5
          obtain ⟨A4, c4, rfl⟩ := HR5.out.len
          go_wp2_with fail
          refine (Bears_any _ T A n c bo _ HN5.out HL.out HNN.out HA5.out).mono ?_
          rintro e w6 ⟨rfl, hb⟩
          have HZ6 := Lib.hid ((hb.block _ (heapsz HZ5.out)).trans HZ5.out)
          have HB6 := Lib.hid (HB5.out.trans (hb.mono HB5.out.size))
          have HN6 := Lib.hid (HN5.out.up hb)
          have HA6 := Lib.hid (RowAt.up HA5.out hb)
          have HR6 := Lib.hid (HR5.out.below hb)
          clear hb
          clear v0 v1
          obtain ⟨v0, v1⟩ := box2 HZ6.out
          rw [HBT.out]
          go_wp2_with fail
          refine (rtown_any _ T _ HN6.out).mono ?_
          rintro e w7 ⟨rfl, hb⟩
          have HZ7 := Lib.hid ((hb.block _ (heapsz HZ6.out)).trans HZ6.out)
          have HB7 := Lib.hid (HB6.out.trans (hb.mono HB6.out.size))
          have HN7 := Lib.hid (HN6.out.up hb)
          have HA7 := Lib.hid (RowAt.up HA6.out hb)
          have HR7 := Lib.hid (HR6.out.below hb)
          clear hb
          clear v0 v1
          obtain ⟨v0, v1⟩ := box2 HZ7.out
          rw [HTN.out]
          go_wp2_with fail
          refine (asked_any _ T A n c bo _ HN7.out HL.out HNN.out HA7.out).mono ?_
          rintro e w8 ⟨rfl, hb⟩
          have HZ8 := Lib.hid ((hb.block _ (heapsz HZ7.out)).trans HZ7.out)
          have HB8 := Lib.hid (HB7.out.trans (hb.mono HB7.out.size))
          have HN8 := Lib.hid (HN7.out.up hb)
          have HA8 := Lib.hid (RowAt.up HA7.out hb)
          have HR8 := Lib.hid (HR7.out.below hb)
          clear hb
          clear v0 v1
          obtain ⟨v0, v1⟩ := box2 HZ8.out
          rw [HAS.out]
          go_wp2_with fail
          refine (rbears_any _ T A n c bo _ HN8.out HL.out (by omega) hnc HA8.out HKC.out.1 HKC.out.2).mono ?_
          rintro e w9 ⟨rfl, hb⟩
          have HZ9 := Lib.hid ((hb.block _ (heapsz HZ8.out)).trans HZ8.out)
          have HB9 := Lib.hid (HB8.out.trans (hb.mono HB8.out.size))
          have HN9 := Lib.hid (HN8.out.up hb)
          have HA9 := Lib.hid (RowAt.up HA8.out hb)
          have HR9 := Lib.hid (HR8.out.below hb)
          clear hb
          clear v0 v1
          obtain ⟨v0, v1⟩ := box2 HZ9.out
          rw [HBK.out]
          go_wp2_with fail
          refine (rfails_any _ _).mono ?_
          rintro e w' ⟨rfl, rfl⟩
          rw [HFI.out]
          go_wp2_with fail
          refine (rbreak_any _ T A n c bo f _ HN9.out HL.out (by omega) hnc HA9.out HKC.out.1 HKC.out.2 HFF.out).mono ?_
          rintro e w10 ⟨vq, rfl, hb, hr⟩
          rw [HRH.out]
          rw [HRL.out] at hr
          have HQ10 := Lib.hid hr
          have HZ10 := Lib.hid ((hb.block _ (heapsz HZ9.out)).trans HZ9.out)
          have HB10 := Lib.hid (HB9.out.trans (hb.mono HB9.out.size))
          have HN10 := Lib.hid (HN9.out.up hb)
          have HA10 := Lib.hid (RowAt.up HA9.out hb)
          have HR10 := Lib.hid (HR9.out.below hb)
          clear hb hr
          clear v0 v1
          obtain ⟨v0, v1⟩ := box2 HZ10.out
          obtain ⟨A5, c5, rfl⟩ := HQ10.out.len
          go_wp2_with fail
          refine (same_any l l A4 A5 _ c4 _ c5 _ rfl rfl HLL.out (row_ints HR10.out) (row_ints HQ10.out)).mono ?_
          rintro e w11 ⟨rfl, hb⟩
          have HZ11 := Lib.hid ((hb.block _ (heapsz HZ10.out)).trans HZ10.out)
          have HB11 := Lib.hid (HB10.out.trans (hb.mono HB10.out.size))
          have HN11 := Lib.hid (HN10.out.up hb)
          have HA11 := Lib.hid (RowAt.up HA10.out hb)
          have HR11 := Lib.hid (HR10.out.below hb)
          have HQ11 := Lib.hid (HQ10.out.below hb)
          clear hb
          first | rw [show decide True = true from rfl] | rw [decide_eq_true rfl]
          clear v0 v1
          go_wp2_with fail
          refine (known_any _).mono ?_
          rintro e wk ⟨rfl, hbk⟩
          have HBK := Lib.hid (HB11.out.trans (hbk.mono HB11.out.size))
          clear hbk
          go_wp2_with fail
          go_ret
          exact ⟨rfl, HBK.out⟩
end Go.Proofs.Ytmppiiamcpjhnaa
