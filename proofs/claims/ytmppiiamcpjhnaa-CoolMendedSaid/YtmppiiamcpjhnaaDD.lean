/- Coolers: the law CoolRivals. -/
import Derived.Test.YtmppiiamcpjhnaaDB
import Derived.Test.YtmppiiamcpjhnaaDC
namespace Go.Proofs.Ytmppiiamcpjhnaa
open Go.RowKit Go.Shelf

theorem row_ints {B n c : Nat} {A : Option Addr} {xs : List Int} {w : World} (h : RowIs intR 3 B xs (.slice A n c) w) : IntsAt w w.heap.size A xs := by
  obtain ⟨A', c', e, h1, _⟩ := h.at_ (k := 1) (fun _ => rfl)
  injection e with e
  rw [e]
  exact h1
theorem set_sit {b : Nat} (hb : b < 2 ^ 10) : setI (sitZ (b : Int)) = b := by
  unfold setI sitZ
  rw [List.map_map, show (Int.toNat ∘ Int.ofNat) = id from rfl, List.map_id]
  refine Nat.eq_of_testBit_eq fun j => ?_
  rw [setL_bit]
  cases hj : b.testBit j with
  | true => simpa using mem_sit.2 ⟨testBit_lt hb hj, hj⟩
  | false =>
    simp only [decide_eq_false_iff_not]
    intro h
    rw [(mem_sit.1 h).2] at hj
    cases hj
theorem floV_form (T : Tn) (f : Int) : ∃ q r, floV T f = .tuple #[.int .i64 q, .int .i64 r] := by
  unfold floV
  split
  · split
    · exact ⟨_, _, rfl⟩
    · exact ⟨_, _, rfl⟩
  · exact ⟨_, _, rfl⟩
theorem fail_ok {T : Tn} {cs : List Int} {f : Int} (K : TnOk T) (hC : coolB T cs = true) (hf : inB 0 f 3 = true) : failI T cs f = 0 := by
  unfold failI
  rw [tnB_iff.2 K, hC, hf]
  rfl
theorem keepV_ok {T : Tn} {cs : List Int} {f : Int} (K : TnOk T) (hC : coolB T cs = true) (hf : inB 0 f 3 = true) : keepV T cs f = .tuple #[.bool (keepS T f (setI cs)), .int .i64 0] := by
  unfold keepV
  rw [fail_ok K hC hf]
  rfl
theorem sitZ_len2 (s : Nat) : (sitZ (s : Int)).length = (sitL (s : Int)).length := by unfold sitZ; rw [List.length_map]
theorem riv_all {T : Tn} {cs : List Int} {f : Int} (K : TnOk T) (hC : coolB T cs = true) (hf : inB 0 f 3 = true) : keepV T cs f = .tuple #[.bool (keepS T f (setI cs)), .int .i64 0] ∧
    ((besC T f = 0 ∧ besE T f = 5 ∧ besL T f = [] ∧ keepS T f (setI cs) = false) ∨
     ∃ b, besC T f = costS T b ∧ besE T f = 0 ∧ besL T f = sitZ ((b : Nat) : Int) ∧ keepV T (sitZ (b : Int)) f = .tuple #[.bool true, .int .i64 0] ∧ (coolB T (sitZ (b : Int)) = true ∧ ∀ x ∈ sitZ (b : Int), 0 ≤ x ∧ x < T.ss.length) ∧
      (∃ fn, floV T f = .tuple #[.int .i64 fn, .int .i64 0] ∧ 0 ≤ fn ∧ fn ≤ (sitZ (b : Int)).length) ∧
      (keepS T f (setI cs) = true → (∃ fn, floV T f = .tuple #[.int .i64 fn, .int .i64 0] ∧ fn ≤ cs.length) ∧ (costS T b < costL T cs ∨ (costL T cs = costS T b ∧ ((sitZ (b : Int)).length < cs.length ∨ (cs.length = (sitZ (b : Int)).length ∧ befB cs (sitZ (b : Int)) = false)))))) := by
  have hff := inB_iff.1 hf
  have h0 := fail_ok K (coolB_nil T) hf
  have hs := setI_lt hC
  have h10 := K.s10
  refine ⟨keepV_ok K hC hf, ?_⟩
  cases hb : besO T f with
  | none => exact .inl ⟨by unfold besC; rw [if_pos h0, hb], by unfold besE; rw [if_pos h0, hb], by unfold besL; rw [if_pos h0, hb], best_none hb _ hs⟩
  | some b =>
    have hbl : b < 2 ^ T.ss.length := bestK_lt hb
    have hb10 : b < 2 ^ 10 := Nat.lt_of_lt_of_le hbl (Nat.pow_le_pow_right (by decide) (by omega))
    obtain ⟨h1, h2⟩ := best_some hb
    obtain ⟨fn, h3, h4, h5⟩ := floor_le K hff hbl h1
    have hfv : floV T f = .tuple #[.int .i64 fn, .int .i64 0] := by unfold floV; rw [if_pos h0, h3]
    refine .inr ⟨b, by unfold besC; rw [if_pos h0, hb], by unfold besE; rw [if_pos h0, hb], by unfold besL; rw [if_pos h0, hb], ?_, ⟨cool_of hbl, ?_⟩, ⟨fn, hfv, h4, by rw [sitZ_len2]; exact h5⟩, fun hk => ⟨?_, ?_⟩⟩
    · rw [keepV_ok K (cool_of hbl) hf, set_sit hb10, h1]
    · intro x hx
      have := clB_mem (cool_of hbl) x hx
      omega
    · obtain ⟨fn', h6, h7, h8⟩ := floor_le K hff hs hk
      rw [h3] at h6
      injection h6 with h6
      have e := congrArg List.length (cool_sit K hC)
      rw [sitZ_len2] at e
      exact ⟨fn, hfv, by rw [h6, ← e]; exact h8⟩
    · have h6 := h2 _ hs hk
      have h7 : ¬ befS T (setI cs) b = true := by rw [h6]; simp
      rw [bef_iff, cool_sit K hC, ← cost_sit T (setI cs), cool_sit K hC] at h7
      by_cases h8 : costS T b < costL T cs
      · exact .inl h8
      · refine .inr ⟨by omega, ?_⟩
        by_cases h9 : (sitZ (b : Int)).length < cs.length
        · exact .inl h9
        · refine .inr ⟨by omega, ?_⟩
          rw [befB_cmp (by omega)]
          simp only [decide_eq_false_iff_not]
          intro h
          exact h7 (.inr ⟨by omega, .inr ⟨by omega, h⟩⟩)
set_option maxRecDepth 100000 in
set_option maxHeartbeats 8000000 in
theorem rivals_law (V : TV) (T : Tn) (f : Int) (A : Option Addr) (n c : Nat) (cs : List Int) (w : World) (hN : TnAt w w.heap.size V T) (hl : cs.length = n) (hn : n ≤ maxLen) (hA : IntsAt w w.heap.size A cs) :
    Calls Try.prog 8 #[tvV V, .int .i64 f, .slice A n c] w fun e w' => e = .returned (.bool true) ∧ Below w.heap.size w w' := by
  have z := heap_alloc_new w (.cells (tvC V) 25)
  have hb := (Below.refl w.heap.size w).alloc (Nat.le_refl _) (.cells (tvC V) 25)
  obtain ⟨w1, hw1⟩ : ∃ z, w.alloc (.cells (tvC V) 25) = z := ⟨_, rfl⟩
  rw [hw1] at z hb
  have HW := Lib.hid hw1; have HL := Lib.hid hl; have HNN := Lib.hid hn
  have HA1 := Lib.hid (RowAt.up hA hb); have HN1 := Lib.hid (hN.up hb); have HB1 := Lib.hid hb; have HZ1 := Lib.hid z
  have HNS := Lib.hid hN.ns
  obtain ⟨ah, nh, ch, az, ns, cz⟩ := V
  obtain ⟨v0, v1⟩ := box2 z
  simp only at v0 v1
  unfold maxLen at hn
  clear z hb hw1 hN hl hA
  go_enter Try.func8, Try.ntmps8
  go_wp2_with fail
  rw [show w.alloc (.cells #[.slice ah nh ch, .slice az ns cz] 25) = w1 from HW.out]
  refine (short_any _ T _ HN1.out).mono ?_
  rintro e w2 ⟨rfl, hb⟩
  have HZ2 := Lib.hid ((hb.block _ (heapsz HZ1.out)).trans HZ1.out)
  have HB2 := Lib.hid (HB1.out.trans (hb.mono HB1.out.size))
  have HN2 := Lib.hid (HN1.out.up hb)
  have HA2 := Lib.hid (RowAt.up HA1.out hb)
  clear hb
  clear v0 v1
  obtain ⟨v0, v1⟩ := box2 HZ2.out
  cases shortB T
  · clear v0 v1
    go_wp2_with fail
    refine (known_any _).mono ?_
    rintro e wk ⟨rfl, hbk⟩
    have HBK := Lib.hid (HB2.out.trans (hbk.mono HB2.out.size))
    clear hbk
    go_wp2_with fail
    go_ret
    exact ⟨rfl, HBK.out⟩
  by_cases h15 : (15 : Int) < (n : Int)
  · clear v0 v1
    go_wp2_with fail
    refine (known_any _).mono ?_
    rintro e wk ⟨rfl, hbk⟩
    have HBK := Lib.hid (HB2.out.trans (hbk.mono HB2.out.size))
    clear hbk
    go_wp2_with fail
    go_ret
    exact ⟨rfl, HBK.out⟩
  go_wp2_with fail
  refine (asked_any _ T A n c cs _ HN2.out HL.out HNN.out HA2.out).mono ?_
  rintro e w3 ⟨rfl, hb⟩
  have HZ3 := Lib.hid ((hb.block _ (heapsz HZ2.out)).trans HZ2.out)
  have HB3 := Lib.hid (HB2.out.trans (hb.mono HB2.out.size))
  have HN3 := Lib.hid (HN2.out.up hb)
  have HA3 := Lib.hid (RowAt.up HA2.out hb)
  clear hb
  clear v0 v1
  obtain ⟨v0, v1⟩ := box2 HZ3.out
  cases hask : (tnB T && coolB T cs)
  · clear v0 v1 hask
    go_wp2_with fail
    refine (known_any _).mono ?_
    rintro e wk ⟨rfl, hbk⟩
    have HBK := Lib.hid (HB3.out.trans (hbk.mono HB3.out.size))
    clear hbk
    go_wp2_with fail
    go_ret
    exact ⟨rfl, HBK.out⟩
  go_wp2_with fail
  refine (rfails_any _ _).mono ?_
  rintro e w' ⟨rfl, rfl⟩
  cases hf : inB 0 f 3
  · clear v0 v1 hask hf
    go_wp2_with fail
    refine (known_any _).mono ?_
    rintro e wk ⟨rfl, hbk⟩
    have HBK := Lib.hid (HB3.out.trans (hbk.mono HB3.out.size))
    clear hbk
    go_wp2_with fail
    go_ret
    exact ⟨rfl, HBK.out⟩
  obtain ⟨hK, hC⟩ : TnOk T ∧ coolB T cs = true := by
    rw [Bool.and_eq_true] at hask
    exact ⟨tnB_iff.1 hask.1, hask.2⟩
  have HKF := Lib.hid (And.intro hK (And.intro hC (inB_iff.1 hf)))
  have HRV := Lib.hid (riv_all hK hC hf)
  have HCS : Hid (∀ x ∈ cs, 0 ≤ x ∧ x < (ns : Int)) := Lib.hid fun x hx => by
    have h1 : T.ss.length = ns := HNS.out
    have := clB_mem hC x hx
    omega
  clear hask hf hK hC
  go_wp2_with fail
  refine (Best_any _ T f _ HN3.out).mono ?_
  rintro e w4 ⟨vl, rfl, hb, hr⟩
  obtain ⟨A3, c3, rfl⟩ := hr.len
  have HR4 := Lib.hid hr
  have HZ4 := Lib.hid ((hb.block _ (heapsz HZ3.out)).trans HZ3.out)
  have HB4 := Lib.hid (HB3.out.trans (hb.mono HB3.out.size))
  have HN4 := Lib.hid (HN3.out.up hb)
  have HA4 := Lib.hid (RowAt.up HA3.out hb)
  clear hb hr
  clear v0 v1
  obtain ⟨v0, v1⟩ := box2 HZ4.out
  obtain ⟨cc, hcc⟩ : ∃ z, besC T f = z := ⟨_, rfl⟩
  obtain ⟨ee, hee⟩ : ∃ z, besE T f = z := ⟨_, rfl⟩
  obtain ⟨ll, hll⟩ : ∃ z, besL T f = z := ⟨_, rfl⟩
  obtain ⟨ov, hov⟩ : ∃ z, keepS T f (setI cs) = z := ⟨_, rfl⟩
  have HKV : Hid (keepV T cs f = .tuple #[.bool ov, .int .i64 0]) := Lib.hid (by rw [HRV.out.1, hov])
  have HR2 := HRV.out.2
  rw [hcc, hee, hll, hov] at HR2
  rw [hcc, hee, hll]
  rw [hll] at HR4
  clear hcc hee hll hov
  rcases HR2 with ⟨rfl, rfl, rfl, rfl⟩ | ⟨b, rfl, rfl, rfl, hkl, hcl, ⟨fn, hfn, hf0, hfl⟩, hom⟩
  · have HFV : Hid (∃ q r, floV T f = .tuple #[.int .i64 q, .int .i64 r]) := Lib.hid (floV_form T f)
    go_wp2_with fail
    refine (Floor_any _ T f _ HN4.out).mono ?_
    rintro e w5 ⟨rfl, hb⟩
    have HZ5 := Lib.hid ((hb.block _ (heapsz HZ4.out)).trans HZ4.out)
    have HB5 := Lib.hid (HB4.out.trans (hb.mono HB4.out.size))
    have HN5 := Lib.hid (HN4.out.up hb)
    have HA5 := Lib.hid (RowAt.up HA4.out hb)
    have HR5 := Lib.hid (HR4.out.below hb)
    clear hb
    clear v0 v1
    obtain ⟨v0, v1⟩ := box2 HZ5.out
    obtain ⟨q, r, hqr⟩ := HFV.out
    rw [hqr]
    clear hqr
    go_wp2_with fail
    refine (Keeps_any _ T A n c cs f _ HN5.out HL.out HNN.out HA5.out).mono ?_
    rintro e w6 ⟨rfl, hb⟩
    have HZ6 := Lib.hid ((hb.block _ (heapsz HZ5.out)).trans HZ5.out)
    have HB6 := Lib.hid (HB5.out.trans (hb.mono HB5.out.size))
    have HN6 := Lib.hid (HN5.out.up hb)
    have HA6 := Lib.hid (RowAt.up HA5.out hb)
    have HR6 := Lib.hid (HR5.out.below hb)
    clear hb
    clear v0 v1
    obtain ⟨v0, v1⟩ := box2 HZ6.out
    rw [HKV.out]
    clear v0 v1
    go_wp2_with fail
    refine (known_any _).mono ?_
    rintro e wk ⟨rfl, hbk⟩
    have HBK := Lib.hid (HB6.out.trans (hbk.mono HB6.out.size))
    clear hbk
    go_wp2_with fail
    go_ret
    exact ⟨rfl, HBK.out⟩
  · have HFV : Hid (floV T f = .tuple #[.int .i64 fn, .int .i64 0]) := Lib.hid hfn
    have HKL := Lib.hid hkl; have HCL := Lib.hid hcl; have HOM := Lib.hid hom
    clear hfn hkl hcl hom
    go_wp2_with fail
    refine (Floor_any _ T f _ HN4.out).mono ?_
    rintro e w5 ⟨rfl, hb⟩
    have HZ5 := Lib.hid ((hb.block _ (heapsz HZ4.out)).trans HZ4.out)
    have HB5 := Lib.hid (HB4.out.trans (hb.mono HB4.out.size))
    have HN5 := Lib.hid (HN4.out.up hb)
    have HA5 := Lib.hid (RowAt.up HA4.out hb)
    have HR5 := Lib.hid (HR4.out.below hb)
    clear hb
    clear v0 v1
    obtain ⟨v0, v1⟩ := box2 HZ5.out
    rw [HFV.out]
    go_wp2_with fail
    refine (Keeps_any _ T A n c cs f _ HN5.out HL.out HNN.out HA5.out).mono ?_
    rintro e w6 ⟨rfl, hb⟩
    have HZ6 := Lib.hid ((hb.block _ (heapsz HZ5.out)).trans HZ5.out)
    have HB6 := Lib.hid (HB5.out.trans (hb.mono HB5.out.size))
    have HN6 := Lib.hid (HN5.out.up hb)
    have HA6 := Lib.hid (RowAt.up HA5.out hb)
    have HR6 := Lib.hid (HR5.out.below hb)
    clear hb
    clear v0 v1
    obtain ⟨v0, v1⟩ := box2 HZ6.out
    rw [HKV.out]
    obtain ⟨p, hp⟩ : ∃ z, (sitZ (b : Int)).length = z := ⟨_, rfl⟩
    have HP := Lib.hid hp
    rw [hp] at hfl ⊢
    have hp10 : p ≤ 10 := by rw [← hp]; exact sitZ_len _
    have hpn : ¬ fn > (p : Int) := by omega
    have hpn2 : ¬ (p : Int) < fn := by omega
    have hf1 : ¬ fn < 0 := by omega
    have hfo : ov = true → ¬ (n : Int) < fn := fun h => by
      obtain ⟨fn', e1, e2⟩ := (HOM.out h).1
      have e3 : fn = fn' := by rw [HFV.out] at e1; simpa using e1
      have := HL.out
      omega
    clear hp
    cases ov
    · clear hfo
      go_wp2_with fail
      refine (rcoolers_any _ T A3 p c3 (sitZ (b : Int)) _ HN6.out HP.out (by unfold maxLen; omega) (row_ints HR6.out)).mono ?_
      rintro e w7 ⟨rfl, hb⟩
      have HZ7 := Lib.hid ((hb.block _ (heapsz HZ6.out)).trans HZ6.out)
      have HB7 := Lib.hid (HB6.out.trans (hb.mono HB6.out.size))
      have HN7 := Lib.hid (HN6.out.up hb)
      have HA7 := Lib.hid (RowAt.up HA6.out hb)
      have HR7 := Lib.hid (HR6.out.below hb)
      clear hb
      clear v0 v1
      obtain ⟨v0, v1⟩ := box2 HZ7.out
      rw [HCL.out.1]
      go_wp2_with fail
      refine (rcost_any _ T A3 p c3 (sitZ (b : Int)) _ HN7.out HKF.out.1 HP.out (by omega) (row_ints HR7.out) (fun x hx => by have h1 : T.ss.length = ns := HNS.out; have := HCL.out.2 x hx; show 0 ≤ x ∧ x < (ns : Int); omega)).mono ?_
      rintro e w8 ⟨rfl, hb⟩
      have HZ8 := Lib.hid ((hb.block _ (heapsz HZ7.out)).trans HZ7.out)
      have HB8 := Lib.hid (HB7.out.trans (hb.mono HB7.out.size))
      have HN8 := Lib.hid (HN7.out.up hb)
      have HA8 := Lib.hid (RowAt.up HA7.out hb)
      have HR8 := Lib.hid (HR7.out.below hb)
      clear hb
      clear v0 v1
      obtain ⟨v0, v1⟩ := box2 HZ8.out
      rw [cost_sit]
      go_wp2_with fail
      refine (Keeps_any _ T A3 p c3 (sitZ (b : Int)) f _ HN8.out HP.out (by unfold maxLen; omega) (row_ints HR8.out)).mono ?_
      rintro e w9 ⟨rfl, hb⟩
      have HZ9 := Lib.hid ((hb.block _ (heapsz HZ8.out)).trans HZ8.out)
      have HB9 := Lib.hid (HB8.out.trans (hb.mono HB8.out.size))
      have HN9 := Lib.hid (HN8.out.up hb)
      have HA9 := Lib.hid (RowAt.up HA8.out hb)
      have HR9 := Lib.hid (HR8.out.below hb)
      clear hb
      clear v0 v1
      obtain ⟨v0, v1⟩ := box2 HZ9.out
      rw [HKL.out]
      go_wp2_with fail
      refine (rcost_any _ T A n c cs _ HN9.out HKF.out.1 HL.out (by omega) HA9.out HCS.out).mono ?_
      rintro e w10 ⟨rfl, hb⟩
      have HZ10 := Lib.hid ((hb.block _ (heapsz HZ9.out)).trans HZ9.out)
      have HB10 := Lib.hid (HB9.out.trans (hb.mono HB9.out.size))
      have HN10 := Lib.hid (HN9.out.up hb)
      have HA10 := Lib.hid (RowAt.up HA9.out hb)
      have HR10 := Lib.hid (HR9.out.below hb)
      clear hb
      clear v0 v1
      obtain ⟨v0, v1⟩ := box2 HZ10.out
      obtain ⟨m, hm⟩ : ∃ z, costL T cs = z := ⟨_, rfl⟩
      obtain ⟨C, hCe⟩ : ∃ z, costS T b = z := ⟨_, rfl⟩
      rw [hm, hCe]
      clear v0 v1 hm hCe
      go_wp2_with fail
      refine (known_any _).mono ?_
      rintro e wk ⟨rfl, hbk⟩
      have HBK := Lib.hid (HB10.out.trans (hbk.mono HB10.out.size))
      clear hbk
      go_wp2_with fail
      go_ret
      exact ⟨rfl, HBK.out⟩
    · have hfo := hfo rfl
      have hom := (HOM.out rfl).2
      go_wp2_with fail
      refine (rcoolers_any _ T A3 p c3 (sitZ (b : Int)) _ HN6.out HP.out (by unfold maxLen; omega) (row_ints HR6.out)).mono ?_
      rintro e w7 ⟨rfl, hb⟩
      have HZ7 := Lib.hid ((hb.block _ (heapsz HZ6.out)).trans HZ6.out)
      have HB7 := Lib.hid (HB6.out.trans (hb.mono HB6.out.size))
      have HN7 := Lib.hid (HN6.out.up hb)
      have HA7 := Lib.hid (RowAt.up HA6.out hb)
      have HR7 := Lib.hid (HR6.out.below hb)
      clear hb
      clear v0 v1
      obtain ⟨v0, v1⟩ := box2 HZ7.out
      rw [HCL.out.1]
      go_wp2_with fail
      refine (rcost_any _ T A3 p c3 (sitZ (b : Int)) _ HN7.out HKF.out.1 HP.out (by omega) (row_ints HR7.out) (fun x hx => by have h1 : T.ss.length = ns := HNS.out; have := HCL.out.2 x hx; show 0 ≤ x ∧ x < (ns : Int); omega)).mono ?_
      rintro e w8 ⟨rfl, hb⟩
      have HZ8 := Lib.hid ((hb.block _ (heapsz HZ7.out)).trans HZ7.out)
      have HB8 := Lib.hid (HB7.out.trans (hb.mono HB7.out.size))
      have HN8 := Lib.hid (HN7.out.up hb)
      have HA8 := Lib.hid (RowAt.up HA7.out hb)
      have HR8 := Lib.hid (HR7.out.below hb)
      clear hb
      clear v0 v1
      obtain ⟨v0, v1⟩ := box2 HZ8.out
      rw [cost_sit]
      go_wp2_with fail
      refine (Keeps_any _ T A3 p c3 (sitZ (b : Int)) f _ HN8.out HP.out (by unfold maxLen; omega) (row_ints HR8.out)).mono ?_
      rintro e w9 ⟨rfl, hb⟩
      have HZ9 := Lib.hid ((hb.block _ (heapsz HZ8.out)).trans HZ8.out)
      have HB9 := Lib.hid (HB8.out.trans (hb.mono HB8.out.size))
      have HN9 := Lib.hid (HN8.out.up hb)
      have HA9 := Lib.hid (RowAt.up HA8.out hb)
      have HR9 := Lib.hid (HR8.out.below hb)
      clear hb
      clear v0 v1
      obtain ⟨v0, v1⟩ := box2 HZ9.out
      rw [HKL.out]
      go_wp2_with fail
      refine (rcost_any _ T A n c cs _ HN9.out HKF.out.1 HL.out (by omega) HA9.out HCS.out).mono ?_
      rintro e w10 ⟨rfl, hb⟩
      have HZ10 := Lib.hid ((hb.block _ (heapsz HZ9.out)).trans HZ9.out)
      have HB10 := Lib.hid (HB9.out.trans (hb.mono HB9.out.size))
      have HN10 := Lib.hid (HN9.out.up hb)
      have HA10 := Lib.hid (RowAt.up HA9.out hb)
      have HR10 := Lib.hid (HR9.out.below hb)
      clear hb
      clear v0 v1
      obtain ⟨v0, v1⟩ := box2 HZ10.out
      obtain ⟨m, hm⟩ : ∃ z, costL T cs = z := ⟨_, rfl⟩
      obtain ⟨C, hCe⟩ : ∃ z, costS T b = z := ⟨_, rfl⟩
      rw [hm, hCe] at hom
      rw [hm, hCe]
      clear v0 v1 hm hCe
      have HM2 := Lib.hid hom
      by_cases h1 : C < m
      · clear hom
        go_wp2_with fail
        refine (known_any _).mono ?_
        rintro e wk ⟨rfl, hbk⟩
        have HBK := Lib.hid (HB10.out.trans (hbk.mono HB10.out.size))
        clear hbk
        go_wp2_with fail
        go_ret
        exact ⟨rfl, HBK.out⟩
      obtain ⟨h2, hom2⟩ : m = C ∧ _ := by
        rcases hom with h | ⟨h, k⟩
        · exact absurd h h1
        · exact ⟨h, k⟩
      clear hom
      subst h2
      by_cases h3 : (p : Int) < (n : Int)
      · clear hom2
        go_wp2_with fail
        refine (known_any _).mono ?_
        rintro e wk ⟨rfl, hbk⟩
        have HBK := Lib.hid (HB10.out.trans (hbk.mono HB10.out.size))
        clear hbk
        go_wp2_with fail
        go_ret
        exact ⟨rfl, HBK.out⟩
      obtain ⟨h4, h5⟩ : n = p ∧ befB cs (sitZ (b : Int)) = false := by
        have e1 := HL.out
        have e2 := HP.out
        rcases hom2 with h | ⟨h, k⟩
        · omega
        · exact ⟨by omega, k⟩
      subst h4
      have H5 := Lib.hid h5
      clear hom2 h5
      go_wp2_with fail
      refine (before_any cs (sitZ (b : Int)) A A3 n c n c3 _ HL.out HP.out (by omega) HA10.out (row_ints HR10.out)).mono ?_
      rintro e w11 ⟨rfl, hb⟩
      have HZ11 := Lib.hid ((hb.block _ (heapsz HZ10.out)).trans HZ10.out)
      have HB11 := Lib.hid (HB10.out.trans (hb.mono HB10.out.size))
      have HN11 := Lib.hid (HN10.out.up hb)
      have HA11 := Lib.hid (RowAt.up HA10.out hb)
      have HR11 := Lib.hid (HR10.out.below hb)
      clear hb
      rw [H5.out]
      go_wp2_with fail
      refine (known_any _).mono ?_
      rintro e wk ⟨rfl, hbk⟩
      have HBK := Lib.hid (HB11.out.trans (hbk.mono HB11.out.size))
      clear hbk
      go_wp2_with fail
      go_ret
      exact ⟨rfl, HBK.out⟩
end Go.Proofs.Ytmppiiamcpjhnaa
