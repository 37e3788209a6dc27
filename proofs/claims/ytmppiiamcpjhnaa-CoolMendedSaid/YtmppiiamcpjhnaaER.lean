/- Coolers: the law CoolRepairs. -/
import Derived.Test.YtmppiiamcpjhnaaEQ
import Derived.Test.YtmppiiamcpjhnaaDN
namespace Go.Proofs.Ytmppiiamcpjhnaa
open Go.RowKit Go.Shelf

theorem repO_fnd (T : Tn) (bo fa : List Int) : fndO T bo 10 (setI fa) [] = repO T bo fa := by
  unfold fndO repO fgO setI
  simp only [List.nil_append, List.map_id']
theorem rep_len {T : Tn} {bo fa o : List Int} (K : TnOk T) (hF : coolB T fa = true) (h : repO T bo fa = some o) : o.length ≤ 100 := by
  unfold repO fgO at h
  have h1 := List.mem_of_find?_eq_some h
  have hr : setL (fa.map Int.toNat) < 2 ^ 10 := Nat.lt_of_lt_of_le (setI_lt hF) (Nat.pow_le_pow_right (by decide) (by have := K.s10; omega))
  have := (ords_mem hr h1).2.1
  omega
set_option maxRecDepth 100000 in
set_option maxHeartbeats 8000000 in
theorem rrepair_any (V : TV) (T : Tn) (A : Option Addr) (n c : Nat) (bo : List Int) (A2 : Option Addr) (p q : Nat) (fa : List Int) (w : World) (hN : TnAt w w.heap.size V T) (hl : bo.length = n) (hn : n ≤ 100) (hA : IntsAt w w.heap.size A bo) (hl2 : fa.length = p) (hp : p ≤ 6) (hpq : p ≤ q) (hA2 : IntsAt w w.heap.size A2 fa) (hK : TnOk T) (hC : coolB T bo = true) (ho : ordB bo fa = true) (hF : coolB T fa = true) :
    Calls Try.prog 42 #[tvV V, .slice A n c, .slice A2 p q] w fun e w' => ∃ v, e = .returned (.tuple #[v, .bool (repO T bo fa).isSome]) ∧ Below w.heap.size w w' ∧ OrdR (repO T bo fa) v w' := by
  obtain ⟨bb, hbb⟩ : ∃ bb, (repO T bo fa).isSome = bb := ⟨_, rfl⟩
  rw [hbb]
  have HBB := Lib.hid hbb
  clear hbb
  have z := heap_alloc_new w (.cells (tvC V) 25)
  have hb := (Below.refl w.heap.size w).alloc (Nat.le_refl _) (.cells (tvC V) 25)
  obtain ⟨w1, hw1⟩ : ∃ z, w.alloc (.cells (tvC V) 25) = z := ⟨_, rfl⟩
  rw [hw1] at z hb
  have HW := Lib.hid hw1; have HB := Lib.hid hb
  have hse := cool_sit hK hF
  have hX : OrdX bo ([] ++ sitZ ((setI fa : Nat) : Int)) := by
    rw [List.nil_append, hse]
    exact ⟨fun x hx => (ord_mem hC ho x hx).1, ord_nodup ho, by omega⟩
  have hr10 : setI fa < 2 ^ 10 := Nat.lt_of_lt_of_le (setI_lt hF) (Nat.pow_le_pow_right (by decide) (by have := hK.s10; omega))
  have HREC := Lib.hid (rorders_any V T A n c bo hl hn hK hC 10 (setI fa) [] (.slice none 0 0) A2 p q w1 hr10 (sit_len10 _) hX (hN.up hb) (RowAt.up hA hb) (.inl ⟨rfl, rfl⟩) (by rw [hse]; exact hl2) hpq (by rw [hse]; exact RowAt.up hA2 hb))
  rw [repO_fnd] at HREC
  obtain ⟨ah, nh, ch, az, ns, cz⟩ := V
  obtain ⟨v0, v1⟩ := box2 z
  simp only at v0 v1
  clear z hb hw1 hN hA hA2 hl hl2 hK hC ho hF hse hX hr10
  go_enter Try.func42, Try.ntmps42
  go_wp2_with fail
  rw [show w.alloc (.cells #[.slice ah nh ch, .slice az ns cz] 25) = w1 from HW.out]
  try go_wp2_with fail
  refine HREC.out.mono ?_
  rintro e w2 ⟨v, rfl, hb2, hr2⟩
  have HB2 := Lib.hid (HB.out.trans (hb2.mono HB.out.size))
  have HR2 := Lib.hid hr2
  rw [HBB.out]
  clear hb2 hr2 v0 v1
  go_wp2_with fail
  refine bodyPost_ret (v := .tuple #[v, .bool bb]) (by simp [results, Try.results42, go_sem]) rfl ?_
  exact ⟨v, by rfl, HB2.out, HR2.out⟩
set_option maxRecDepth 100000 in
set_option maxHeartbeats 16000000 in
theorem repairs_law (V : TV) (T : Tn) (A : Option Addr) (n c : Nat) (bo : List Int) (A2 : Option Addr) (p q : Nat) (fa : List Int) (w : World) (hN : TnAt w w.heap.size V T) (hl : bo.length = n) (hn : n ≤ maxLen) (_hnc : n ≤ c) (hA : IntsAt w w.heap.size A bo) (hl2 : fa.length = p) (hp : p ≤ maxLen) (hpq : p ≤ q) (hA2 : IntsAt w w.heap.size A2 fa) :
    Calls Try.prog 10 #[tvV V, .slice A n c, .slice A2 p q] w fun e w' => e = .returned (.bool true) ∧ Below w.heap.size w w' := by
  have z := heap_alloc_new w (.cells (tvC V) 25)
  have hb := (Below.refl w.heap.size w).alloc (Nat.le_refl _) (.cells (tvC V) 25)
  obtain ⟨w1, hw1⟩ : ∃ z, w.alloc (.cells (tvC V) 25) = z := ⟨_, rfl⟩
  rw [hw1] at z hb
  have HL := Lib.hid hl; have HNN := Lib.hid hn; have HL2 := Lib.hid hl2; have HPN := Lib.hid hp
  have HA1 := Lib.hid (RowAt.up hA hb); have HG1 := Lib.hid (RowAt.up hA2 hb); have HN1 := Lib.hid (hN.up hb); have HB1 := Lib.hid hb; have HZ1 := Lib.hid z
  obtain ⟨ah, nh, ch, az, ns, cz⟩ := V
  obtain ⟨v0, v1⟩ := box2 z
  simp only at v0 v1
  unfold maxLen at hn hp
  have hw1' : w.alloc (.cells #[.slice ah nh ch, .slice az ns cz] 25) = w1 := hw1
  clear z hb hw1 hN hl hA hl2 hA2
  go_enter Try.func10, Try.ntmps10
  go_wp2_with fail
  clear hw1'
  refine (short_any _ T _ HN1.out).mono ?_
  rintro e w2 ⟨rfl, hb⟩
  have HZ2 := Lib.hid ((hb.block _ (heapsz HZ1.out)).trans HZ1.out)
  have HB2 := Lib.hid (HB1.out.trans (hb.mono HB1.out.size))
  have HN2 := Lib.hid (HN1.out.up hb)
  have HA2 := Lib.hid (RowAt.up HA1.out hb)
  have HG2 := Lib.hid (RowAt.up HG1.out hb)
  clear hb
  clear v0 v1
  obtain ⟨v0, v1⟩ := box2 HZ2.out
  cases shortB T
  · clear v0 v1
    go_wp2_with fail
    refine (known_any _).mono ?_
    rintro e wk ⟨rfl, hbk⟩
    have HBK := Lib.hid (HB2.out.trans (hbk.mono HB2.out.size))
    clear hbk
    go_wp2_with fail
    go_ret
    exact ⟨rfl, HBK.out⟩
  by_cases h15 : (15 : Int) < (n : Int)
  · clear v0 v1
    go_wp2_with fail
    refine (known_any _).mono ?_
    rintro e wk ⟨rfl, hbk⟩
    have HBK := Lib.hid (HB2.out.trans (hbk.mono HB2.out.size))
    clear hbk
    go_wp2_with fail
    go_ret
    exact ⟨rfl, HBK.out⟩
  by_cases h5 : (5 : Int) < (p : Int)
  · by_cases h6 : (p : Int) ≤ 6
    · go_wp2_with fail
      clear v0 v1
      refine (known_any _).mono ?_
      rintro e wk ⟨rfl, hbk⟩
      have HBK := Lib.hid (HB2.out.trans (hbk.mono HB2.out.size))
      clear hbk
      go_wp2_with fail
      go_ret
      exact ⟨rfl, HBK.out⟩
    · by_cases h7 : (15 : Int) < (p : Int)
      · go_wp2_with fail
        clear v0 v1
        refine (known_any _).mono ?_
        rintro e wk ⟨rfl, hbk⟩
        have HBK := Lib.hid (HB2.out.trans (hbk.mono HB2.out.size))
        clear hbk
        go_wp2_with fail
        go_ret
        exact ⟨rfl, HBK.out⟩
      · go_wp2_with fail
        refine (Repair_any _ T A n c bo A2 p q fa _ HN2.out HL.out HNN.out HA2.out HL2.out HPN.out hpq HG2.out).mono ?_
        rintro e w3 ⟨vl, rfl, hb, hr⟩
        obtain ⟨re, hre⟩ : ∃ z, repE T bo fa = z := ⟨_, rfl⟩
        obtain ⟨rl, hrl⟩ : ∃ z, repL T bo fa = z := ⟨_, rfl⟩
        rw [hre]
        rw [hrl] at hr
        have HRP := Lib.hid (And.intro hre hrl)
        clear hre hrl
        have HR3 := Lib.hid hr
        have HZ3 := Lib.hid ((hb.block _ (heapsz HZ2.out)).trans HZ2.out)
        have HB3 := Lib.hid (HB2.out.trans (hb.mono HB2.out.size))
        have HN3 := Lib.hid (HN2.out.up hb)
        have HA3 := Lib.hid (RowAt.up HA2.out hb)
        have HG3 := Lib.hid (RowAt.up HG2.out hb)
        clear hb hr
        clear v0 v1
        obtain ⟨v0, v1⟩ := box2 HZ3.out
        obtain ⟨A4, c4, rfl⟩ := HR3.out.len
        go_wp2_with fail
        refine (repaired_any _ T A n c bo A2 p q fa _ HN3.out HL.out HNN.out HA3.out HL2.out HPN.out hpq HG3.out).mono ?_
        rintro e w4 ⟨rfl, hb⟩
        have HZ4 := Lib.hid ((hb.block _ (heapsz HZ3.out)).trans HZ3.out)
        have HB4 := Lib.hid (HB3.out.trans (hb.mono HB3.out.size))
        have HN4 := Lib.hid (HN3.out.up hb)
        have HA4 := Lib.hid (RowAt.up HA3.out hb)
        have HG4 := Lib.hid (RowAt.up HG3.out hb)
        have HR4 := Lib.hid (HR3.out.below hb)
        clear hb
        clear v0 v1
        obtain ⟨v0, v1⟩ := box2 HZ4.out
        rcases ord_cases T bo fa with ho | ho | ho
        · obtain ⟨rfl, rfl⟩ : re = 3 ∧ rl = [] := ⟨by rw [← HRP.out.1]; unfold repE; rw [if_neg (by rw [ho]; decide), ho], by rw [← HRP.out.2]; unfold repL; rw [if_neg (by rw [ho]; decide)]⟩
          rw [ho]
          clear ho v0 v1
          go_wp2_with fail
          refine (known_any _).mono ?_
          rintro e wk ⟨rfl, hbk⟩
          have HBK := Lib.hid (HB4.out.trans (hbk.mono HB4.out.size))
          clear hbk
          go_wp2_with fail
          go_ret
          exact ⟨rfl, HBK.out⟩
        · obtain ⟨rfl, rfl⟩ : re = 2 ∧ rl = [] := ⟨by rw [← HRP.out.1]; unfold repE; rw [if_neg (by rw [ho]; decide), ho], by rw [← HRP.out.2]; unfold repL; rw [if_neg (by rw [ho]; decide)]⟩
          rw [ho]
          clear ho v0 v1
          go_wp2_with fail
          refine (known_any _).mono ?_
          rintro e wk ⟨rfl, hbk⟩
          have HBK := Lib.hid (HB4.out.trans (hbk.mono HB4.out.size))
          clear hbk
          go_wp2_with fail
          go_ret
          exact ⟨rfl, HBK.out⟩
        · rw [ho]
          obtain ⟨hK, hC, hob, hp6⟩ := ord_ok ho
          have HKC := Lib.hid (And.intro hK (And.intro hC hob))
          have HO := Lib.hid ho
          have hp6' : p ≤ 6 := by rw [← HL2.out]; exact hp6
          clear ho hK hC hob hp6
          go_wp2_with fail
          refine (rcoolers_any _ T A2 p q fa _ HN4.out HL2.out HPN.out HG4.out).mono ?_
          rintro e w5 ⟨rfl, hb⟩
          have HZ5 := Lib.hid ((hb.block _ (heapsz HZ4.out)).trans HZ4.out)
          have HB5 := Lib.hid (HB4.out.trans (hb.mono HB4.out.size))
          have HN5 := Lib.hid (HN4.out.up hb)
          have HA5 := Lib.hid (RowAt.up HA4.out hb)
          have HG5 := Lib.hid (RowAt.up HG4.out hb)
          have HR5 := Lib.hid (HR4.out.below hb)
          clear hb
          clear v0 v1
          obtain ⟨v0, v1⟩ := box2 HZ5.out
          cases hco : coolB T fa
          · obtain ⟨rfl, rfl⟩ : re = 2 ∧ rl = [] := ⟨by rw [← HRP.out.1]; unfold repE; rw [if_pos HO.out, hco]; rfl, by rw [← HRP.out.2]; unfold repL; rw [if_pos HO.out, hco]; rfl⟩
            clear hco v0 v1
            go_wp2_with fail
            refine (known_any _).mono ?_
            rintro e wk ⟨rfl, hbk⟩
            have HBK := Lib.hid (HB5.out.trans (hbk.mono HB5.out.size))
            clear hbk
            go_wp2_with fail
            go_ret
            exact ⟨rfl, HBK.out⟩
          · have HCF := Lib.hid hco
            clear hco
            go_wp2_with fail
            refine (rrepair_any _ T A n c bo A2 p q fa _ HN5.out HL.out (by omega) HA5.out HL2.out hp6' hpq HG5.out HKC.out.1 HKC.out.2.1 HKC.out.2.2 HCF.out).mono ?_
            rintro e w6 ⟨vx, rfl, hb, hx⟩
            have HVX := Lib.hid hx
            have HZ6 := Lib.hid ((hb.block _ (heapsz HZ5.out)).trans HZ5.out)
            have HB6 := Lib.hid (HB5.out.trans (hb.mono HB5.out.size))
            have HN6 := Lib.hid (HN5.out.up hb)
            have HA6 := Lib.hid (RowAt.up HA5.out hb)
            have HG6 := Lib.hid (RowAt.up HG5.out hb)
            have HR6 := Lib.hid (HR5.out.below hb)
            clear hb hx
            clear v0 v1
            obtain ⟨v0, v1⟩ := box2 HZ6.out
            cases hrep : repO T bo fa with
            | none =>
              obtain ⟨rfl, rfl⟩ : re = 5 ∧ rl = [] := ⟨by rw [← HRP.out.1]; unfold repE; rw [if_pos HO.out, if_pos HCF.out, hrep], by rw [← HRP.out.2]; unfold repL; rw [if_pos HO.out, if_pos HCF.out, hrep]; rfl⟩
              simp only [Option.isSome_none]
              clear hrep v0 v1
              go_wp2_with fail
              refine (known_any _).mono ?_
              rintro e wk ⟨rfl, hbk⟩
              have HBK := Lib.hid (HB6.out.trans (hbk.mono HB6.out.size))
              clear hbk
              go_wp2_with fail
              go_ret
              exact ⟨rfl, HBK.out⟩
            | some ox =>
              obtain ⟨rfl, rfl⟩ : re = 0 ∧ ox = rl := ⟨by rw [← HRP.out.1]; unfold repE; rw [if_pos HO.out, if_pos HCF.out, hrep], by rw [← HRP.out.2]; unfold repL; rw [if_pos HO.out, if_pos HCF.out, hrep]; rfl⟩
              have hrow := HVX.out ox hrep
              obtain ⟨A5, c5, rfl⟩ := hrow.len
              have HQ6 := Lib.hid hrow
              have HL6 : Hid (ox.length ≤ 100) := Lib.hid (rep_len HKC.out.1 HCF.out hrep)
              simp only [Option.isSome_some]
              clear hrep hrow
              go_wp2_with fail
              refine (same_any ox ox A4 A5 _ c4 _ c5 _ rfl rfl (by have := HL6.out; unfold maxLen; omega) (row_ints HR6.out) (row_ints HQ6.out)).mono ?_
              rintro e w7 ⟨rfl, hb⟩
              have HZ7 := Lib.hid ((hb.block _ (heapsz HZ6.out)).trans HZ6.out)
              have HB7 := Lib.hid (HB6.out.trans (hb.mono HB6.out.size))
              have HN7 := Lib.hid (HN6.out.up hb)
              have HA7 := Lib.hid (RowAt.up HA6.out hb)
              have HG7 := Lib.hid (RowAt.up HG6.out hb)
              have HR7 := Lib.hid (HR6.out.below hb)
              clear hb
              first | rw [show decide True = true from rfl] | rw [decide_eq_true rfl]
              clear v0 v1
              go_wp2_with fail
              refine (known_any _).mono ?_
              rintro e wk ⟨rfl, hbk⟩
              have HBK := Lib.hid (HB7.out.trans (hbk.mono HB7.out.size))
              clear hbk
              go_wp2_with fail
              go_ret
              exact ⟨rfl, HBK.out⟩
  · have h7 : ¬ (15 : Int) < (p : Int) := by omega
    go_wp2_with fail
    refine (Repair_any _ T A n c bo A2 p q fa _ HN2.out HL.out HNN.out HA2.out HL2.out HPN.out hpq HG2.out).mono ?_
    rintro e w3 ⟨vl, rfl, hb, hr⟩
    obtain ⟨re, hre⟩ : ∃ z, repE T bo fa = z := ⟨_, rfl⟩
    obtain ⟨rl, hrl⟩ : ∃ z, repL T bo fa = z := ⟨_, rfl⟩
    rw [hre]
    rw [hrl] at hr
    have HRP := Lib.hid (And.intro hre hrl)
    clear hre hrl
    have HR3 := Lib.hid hr
    have HZ3 := Lib.hid ((hb.block _ (heapsz HZ2.out)).trans HZ2.out)
    have HB3 := Lib.hid (HB2.out.trans (hb.mono HB2.out.size))
    have HN3 := Lib.hid (HN2.out.up hb)
    have HA3 := Lib.hid (RowAt.up HA2.out hb)
    have HG3 := Lib.hid (RowAt.up HG2.out hb)
    clear hb hr
    clear v0 v1
    obtain ⟨v0, v1⟩ := box2 HZ3.out
    obtain ⟨A4, c4, rfl⟩ := HR3.out.len
    go_wp2_with fail
    refine (repaired_any _ T A n c bo A2 p q fa _ HN3.out HL.out HNN.out HA3.out HL2.out HPN.out hpq HG3.out).mono ?_
    rintro e w4 ⟨rfl, hb⟩
    have HZ4 := Lib.hid ((hb.block _ (heapsz HZ3.out)).trans HZ3.out)
    have HB4 := Lib.hid (HB3.out.trans (hb.mono HB3.out.size))
    have HN4 := Lib.hid (HN3.out.up hb)
    have HA4 := Lib.hid (RowAt.up HA3.out hb)
    have HG4 := Lib.hid (RowAt.up HG3.out hb)
    have HR4 := Lib.hid (HR3.out.below hb)
    clear hb
    clear v0 v1
    obtain ⟨v0, v1⟩ := box2 HZ4.out
    rcases ord_cases T bo fa with ho | ho | ho
    · obtain ⟨rfl, rfl⟩ : re = 3 ∧ rl = [] := ⟨by rw [← HRP.out.1]; unfold repE; rw [if_neg (by rw [ho]; decide), ho], by rw [← HRP.out.2]; unfold repL; rw [if_neg (by rw [ho]; decide)]⟩
      rw [ho]
      clear ho v0 v1
      go_wp2_with fail
      refine (known_any _).mono ?_
      rintro e wk ⟨rfl, hbk⟩
      have HBK := Lib.hid (HB4.out.trans (hbk.mono HB4.out.size))
      clear hbk
      go_wp2_with fail
      go_ret
      exact ⟨rfl, HBK.out⟩
    · obtain ⟨rfl, rfl⟩ : re = 2 ∧ rl = [] := ⟨by rw [← HRP.out.1]; unfold repE; rw [if_neg (by rw [ho]; decide), ho], by rw [← HRP.out.2]; unfold repL; rw [if_neg (by rw [ho]; decide)]⟩
      rw [ho]
      clear ho v0 v1
      go_wp2_with fail
      refine (known_any _).mono ?_
      rintro e wk ⟨rfl, hbk⟩
      have HBK := Lib.hid (HB4.out.trans (hbk.mono HB4.out.size))
      clear hbk
      go_wp2_with fail
      go_ret
      exact ⟨rfl, HBK.out⟩
    · rw [ho]
      obtain ⟨hK, hC, hob, hp6⟩ := ord_ok ho
      have HKC := Lib.hid (And.intro hK (And.intro hC hob))
      have HO := Lib.hid ho
      have hp6' : p ≤ 6 := by rw [← HL2.out]; exact hp6
      clear ho hK hC hob hp6
      go_wp2_with fail
      refine (rcoolers_any _ T A2 p q fa _ HN4.out HL2.out HPN.out HG4.out).mono ?_
      rintro e w5 ⟨rfl, hb⟩
      have HZ5 := Lib.hid ((hb.block _ (heapsz HZ4.out)).trans HZ4.out)
      have HB5 := Lib.hid (HB4.out.trans (hb.mono HB4.out.size))
      have HN5 := Lib.hid (HN4.out.up hb)
      have HA5 := Lib.hid (RowAt.up HA4.out hb)
      have HG5 := Lib.hid (RowAt.up HG4.out hb)
      have HR5 := Lib.hid (HR4.out.below hb)
      clear hb
      clear v0 v1
      obtain ⟨v0, v1⟩ := box2 HZ5.out
      cases hco : coolB T fa
      · obtain ⟨rfl, rfl⟩ : re = 2 ∧ rl = [] := ⟨by rw [← HRP.out.1]; unfold repE; rw [if_pos HO.out, hco]; rfl, by rw [← HRP.out.2]; unfold repL; rw [if_pos HO.out, hco]; rfl⟩
        clear hco v0 v1
        go_wp2_with fail
        refine (known_any _).mono ?_
        rintro e wk ⟨rfl, hbk⟩
        have HBK := Lib.hid (HB5.out.trans (hbk.mono HB5.out.size))
        clear hbk
        go_wp2_with fail
        go_ret
        exact ⟨rfl, HBK.out⟩
      · have HCF := Lib.hid hco
        clear hco
        go_wp2_with fail
        refine (rrepair_any _ T A n c bo A2 p q fa _ HN5.out HL.out (by omega) HA5.out HL2.out hp6' hpq HG5.out HKC.out.1 HKC.out.2.1 HKC.out.2.2 HCF.out).mono ?_
        rintro e w6 ⟨vx, rfl, hb, hx⟩
        have HVX := Lib.hid hx
        have HZ6 := Lib.hid ((hb.block _ (heapsz HZ5.out)).trans HZ5.out)
        have HB6 := Lib.hid (HB5.out.trans (hb.mono HB5.out.size))
        have HN6 := Lib.hid (HN5.out.up hb)
        have HA6 := Lib.hid (RowAt.up HA5.out hb)
        have HG6 := Lib.hid (RowAt.up HG5.out hb)
        have HR6 := Lib.hid (HR5.out.below hb)
        clear hb hx
        clear v0 v1
        obtain ⟨v0, v1⟩ := box2 HZ6.out
        cases hrep : repO T bo fa with
        | none =>
          obtain ⟨rfl, rfl⟩ : re = 5 ∧ rl = [] := ⟨by rw [← HRP.out.1]; unfold repE; rw [if_pos HO.out, if_pos HCF.out, hrep], by rw [← HRP.out.2]; unfold repL; rw [if_pos HO.out, if_pos HCF.out, hrep]; rfl⟩
          simp only [Option.isSome_none]
          clear hrep v0 v1
          go_wp2_with fail
          refine (known_any _).mono ?_
          rintro e wk ⟨rfl, hbk⟩
          have HBK := Lib.hid (HB6.out.trans (hbk.mono HB6.out.size))
          clear hbk
          go_wp2_with fail
          go_ret
          exact ⟨rfl, HBK.out⟩
        | some ox =>
          obtain ⟨rfl, rfl⟩ : re = 0 ∧ ox = rl := ⟨by rw [← HRP.out.1]; unfold repE; rw [if_pos HO.out, if_pos HCF.out, hrep], by rw [← HRP.out.2]; unfold repL; rw [if_pos HO.out, if_pos HCF.out, hrep]; rfl⟩
          have hrow := HVX.out ox hrep
          obtain ⟨A5, c5, rfl⟩ := hrow.len
          have HQ6 := Lib.hid hrow
          have HL6 : Hid (ox.length ≤ 100) := Lib.hid (rep_len HKC.out.1 HCF.out hrep)
          simp only [Option.isSome_some]
          clear hrep hrow
          go_wp2_with fail
          refine (same_any ox ox A4 A5 _ c4 _ c5 _ rfl rfl (by have := HL6.out; unfold maxLen; omega) (row_ints HR6.out) (row_ints HQ6.out)).mono ?_
          rintro e w7 ⟨rfl, hb⟩
          have HZ7 := Lib.hid ((hb.block _ (heapsz HZ6.out)).trans HZ6.out)
          have HB7 := Lib.hid (HB6.out.trans (hb.mono HB6.out.size))
          have HN7 := Lib.hid (HN6.out.up hb)
          have HA7 := Lib.hid (RowAt.up HA6.out hb)
          have HG7 := Lib.hid (RowAt.up HG6.out hb)
          have HR7 := Lib.hid (HR6.out.below hb)
          clear hb
          first | rw [show decide True = true from rfl] | rw [decide_eq_true rfl]
          clear v0 v1
          go_wp2_with fail
          refine (known_any _).mono ?_
          rintro e wk ⟨rfl, hbk⟩
          have HBK := Lib.hid (HB7.out.trans (hbk.mono HB7.out.size))
          clear hbk
          go_wp2_with fail
          go_ret
          exact ⟨rfl, HBK.out⟩
end Go.Proofs.Ytmppiiamcpjhnaa
