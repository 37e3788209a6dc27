/- Coolers: the best coolers, by the specification. -/
import Derived.Test.YtmppiiamcpjhnaaEI
namespace Go.Proofs.Ytmppiiamcpjhnaa
open Go.RowKit Go.Shelf

theorem bst_sub {T : Tn} {f : Int} {best L : List Int} {fd : Bool} {m i : Nat} (h : BstI T f best fd (ScB L m i)) : best.Sublist L := by
  cases hfd : fd with
  | false => rw [(h.no hfd).1]; exact List.nil_sublist _
  | true =>
    rcases (h.yes hfd).1 with ⟨m', _, hm⟩ | ⟨j, _, hj⟩
    · exact (sub_mem.1 hm).1
    · exact (sub_mem.1 (List.mem_of_getElem? hj)).1
theorem sitN_in {n : Nat} {o : List Int} (h : o.Sublist (sitN n)) : o.length ≤ n ∧ ∀ x ∈ o, 0 ≤ x ∧ x < n := by
  have h1 := h.length_le
  rw [sitN_len] at h1
  refine ⟨h1, fun x hx => ?_⟩
  obtain ⟨k, hk, rfl⟩ := List.mem_map.1 (h.subset hx)
  have := List.mem_range.1 hk
  have e : Int.ofNat k = (k : Int) := rfl
  omega
def bsL (T : Tn) (f : Int) : List Int := match besO T f with | some b => sitZ (b : Int) | none => []
set_option maxRecDepth 100000 in
set_option maxHeartbeats 16000000 in
theorem rbest_any (V : TV) (T : Tn) (f : Int) (w : World) (hN : TnAt w w.heap.size V T) (hK : TnOk T) (hf : 0 ≤ f ∧ f ≤ 3) :
    Calls Try.prog 35 #[tvV V, .int .i64 f] w fun e w' => ∃ v, e = .returned (.tuple #[v, .bool (besO T f).isSome]) ∧ Below w.heap.size w w' ∧ RowIs intR 3 w.heap.size (bsL T f) v w' := by
  have z := heap_alloc_new w (.cells (tvC V) 25)
  have hb := (Below.refl w.heap.size w).alloc (Nat.le_refl _) (.cells (tvC V) 25)
  obtain ⟨w1, hw1⟩ : ∃ z, w.alloc (.cells (tvC V) 25) = z := ⟨_, rfl⟩
  rw [hw1] at z hb
  have HW := Lib.hid hw1; have HB := Lib.hid hb; have HZ := Lib.hid z
  have HN := Lib.hid (hN.up hb)
  have HK := Lib.hid hK; have HFF := Lib.hid hf
  have HNS := Lib.hid hN.ns
  have h10 := hK.s10
  obtain ⟨ah, nh, ch, az, ns, cz⟩ := V
  have hns : ns ≤ 10 := by have h1 : T.ss.length = ns := HNS.out; omega
  have HC : Hid (∀ u, Below w1.heap.size w1 u → u.cell? ⟨w.heap.size, 0, none⟩ = some (.slice ah nh ch) ∧ u.cell? ⟨w.heap.size, 1, none⟩ = some (.slice az ns cz)) := Lib.hid fun u hu => box2 ((hu.block _ (heapsz HZ.out)).trans HZ.out)
  have HSW := Lib.hid (heapsz z)
  obtain ⟨L, hL⟩ : ∃ L, sitN ns = L := ⟨_, rfl⟩
  have HLE := Lib.hid hL
  clear z hb hw1 hN hK hf hL
  go_enter Try.func35, Try.ntmps35
  go_wp2_with fail
  rw [show w.alloc (.cells #[.slice ah nh ch, .slice az ns cz] 25) = w1 from HW.out]
  go_loopw [6, 7, 8, 9, 10] (fun vb ff mm _ _ wr => ∃ (m : Nat) (best : List Int) (fd : Bool), m ≤ ns + 1 ∧ mm = .int .i64 m ∧ ff = .bool fd ∧ RowIs intR 3 w1.heap.size best vb wr ∧ BstI T f best fd (ScB L m 0) ∧ Below w1.heap.size w1 wr) (fun _ _ mm _ _ _ => ns + 1 - (intOf mm).toNat)
  case atStart => exact ⟨0, [], false, by omega, rfl, rfl, .inl ⟨rfl, rfl⟩, ⟨fun _ => ⟨rfl, fun o ho => by
    rcases ho with ⟨m', h1, _⟩ | ⟨j, h1, _⟩
    · exact absurd h1 (Nat.not_lt_zero _)
    · exact absurd h1 (Nat.not_lt_zero _)⟩, fun h => by cases h⟩, Below.refl _ _⟩
  case round =>
    obtain ⟨m, best0, fd0, hm, rfl, rfl, hvb, hbi, hbr⟩ := hrel
    obtain ⟨wo, rfl⟩ : ∃ z : World, z = wr := ⟨_, rfl⟩
    have HBO := Lib.hid hbr; have HVB0 := Lib.hid hvb; have HBI0 := Lib.hid hbi
    obtain ⟨v0, v1⟩ := HC.out wo hbr
    clear hbr hvb hbi
    by_cases hlt : m < ns + 1
    · have k4 : (m : Int) ≤ (ns : Int) := by omega
      have HS69 := Lib.hid (rsites_any ⟨ah, nh, ch, az, ns, cz⟩ T wo (HN.out.up HBO.out) (by show ns ≤ 1000; omega))
      go_wp2_with fail
      refine HS69.out.mono ?_
      rintro e w2 ⟨vs, rfl, hb2, hr2⟩
      rw [show T.ss.length = ns from HNS.out, HLE.out] at hr2
      obtain ⟨As, cs, rfl, hra, hrc⟩ := hr2.at_ (k := 1) (fun _ => rfl)
      have hLn : L.length = ns := by rw [← HLE.out, sitN_len]
      rw [hLn] at hrc ⊢
      have HREC := Lib.hid (rsets_any m L As ns cs w2 (by omega) hLn hns hrc hra)
      have HB2 := Lib.hid (HBO.out.trans (hb2.mono HBO.out.size))
      have HV2 := Lib.hid (HVB0.out.below hb2)
      clear hb2 hr2 hra hrc hLn v0 v1
      go_wp2_with fail
      refine HREC.out.mono ?_
      rintro e w3 ⟨lv, rows2, w0, rfl, hb3, hg2, hw0⟩
      have HG2 := Lib.hid hg2
      have HB3 := Lib.hid (HB2.out.trans (hb3.mono HB2.out.size))
      have HV3 := Lib.hid (HV2.out.below hb3)
      have HLOW0 : Hid (w1.heap.size ≤ w0.heap.size) := Lib.hid (Nat.le_trans HB2.out.size hw0)
      obtain ⟨g2, c2, hlv2⟩ : ∃ A2 c2, lv = .slice A2 (subL m L).length c2 := by
        obtain ⟨A2, c2, e, _⟩ := hg2.grid (k := 1) (fun _ => rfl) (fun row hrow => by
          have h1 := (sub_mem.1 hrow).1.length_le
          rw [← HLE.out, sitN_len] at h1
          unfold maxLen
          omega)
        exact ⟨A2, c2, e⟩
      subst hlv2
      have hlen2 : (subL m L).length ≤ 1024 := Nat.le_trans (subL_len m L) (Nat.le_trans (Nat.pow_le_pow_right (by decide) (show _ ≤ 10 by rw [← HLE.out, sitN_len]; exact hns)) (by decide))
      obtain ⟨S, hS⟩ : ∃ S, subL m L = S := ⟨_, rfl⟩
      have HSE := Lib.hid hS
      rw [hS] at HG2 hlen2 ⊢
      obtain ⟨sn, hsn⟩ : ∃ sn, S.length = sn := ⟨_, rfl⟩
      rw [hsn] at hlen2 ⊢
      have HSN := Lib.hid hsn
      have HMN := Lib.hid k4
      clear hb3 hg2 hw0 hS hsn
      go_wp2_with fail
      clear k4
      go_loopw [6, 7, 10] (fun vb ff ii wr => ∃ (i : Nat) (best : List Int) (fd : Bool), i ≤ sn ∧ ii = .int .i64 i ∧ ff = .bool fd ∧ RowIs intR 3 w1.heap.size best vb wr ∧ BstI T f best fd (ScB L m i) ∧ Below w3.heap.size w3 wr) (fun _ _ ii _ => sn - (intOf ii).toNat)
      case atStart => exact ⟨0, best0, fd0, by omega, rfl, rfl, HV3.out, HBI0.out, Below.refl _ _⟩
      case round =>
        obtain ⟨i, best, fd, hi, rfl, rfl, hvb, hbi, hbr⟩ := hrel
        obtain ⟨wp, rfl⟩ : ∃ z : World, z = wr := ⟨_, rfl⟩
        have HBP := Lib.hid hbr; have HVB := Lib.hid hvb; have HBI := Lib.hid hbi
        have HB4 := Lib.hid (HB3.out.trans (hbr.mono HB3.out.size))
        by_cases hit : i < sn
        · have l3 : (0 : Int) ≤ (i : Int) := by omega
          have l4 : (i : Int) < (sn : Int) := by omega
          obtain ⟨o, ho⟩ := get_of_lt (l := S) (k := i) (by rw [HSN.out]; exact hit)
          obtain ⟨g, c3, vr, hlv, hglt, hgc, hri⟩ := HG2.out.cell ho
          injection hlv with hlv _ hcc
          subst hlv hcc
          have HRI := Lib.hid (hri.below hbr)
          have HLOW := HLOW0
          have tg : wp.cell? ⟨g, i, none⟩ = some vr := ((bcell hbr).1 _ _ hglt).trans hgc
          have hglt2 : g < wp.heap.size := Nat.lt_of_lt_of_le hglt hbr.size
          have HO : Hid ((subL m L)[i]? = some o) := Lib.hid (by rw [HSE.out]; exact ho)
          have hsub : o.Sublist (sitN ns) := by rw [HLE.out]; exact (sub_mem.1 (List.mem_of_getElem? HO.out)).1
          obtain ⟨hol, hoi⟩ := sitN_in hsub
          have hoc : coolB T o = true := sub_cool2 (m := m) (by rw [show T.ss.length = ns from HNS.out, HLE.out]; exact List.mem_of_getElem? HO.out)
          have hbsub : best.Sublist (sitN ns) := by rw [HLE.out]; exact bst_sub hbi
          obtain ⟨hbl, hbin⟩ := sitN_in hbsub
          obtain ⟨Ar, cr, hvr⟩ := hri.len
          subst hvr
          have hrc : o.length ≤ cr := by
            obtain ⟨A9, c9, e9, _, h9⟩ := hri.at_ (k := 1) (fun _ => rfl)
            injection e9 with _ _ e9
            omega
          obtain ⟨Ab, cb, hvb2⟩ := hvb.len
          subst hvb2
          have HTG : Hid (∀ u : KeptW wp, u.w.cell? ⟨g, i, none⟩ = some (.slice Ar o.length cr)) := Lib.hid fun u => ((bcell u.h).1 _ _ hglt2).trans tg
          obtain ⟨kb, hkb⟩ : ∃ kb, keepS T f (setI o) = kb := ⟨_, rfl⟩
          have HKB := Lib.hid hkb
          obtain ⟨C1, hc1⟩ : ∃ C1, costL T o = C1 := ⟨_, rfl⟩
          obtain ⟨C2, hc2⟩ : ∃ C2, costL T best = C2 := ⟨_, rfl⟩
          have HC1 := Lib.hid hc1; have HC2 := Lib.hid hc2
          have HK1 : Hid (∀ u : KeptW wp, Calls Try.prog 58 #[tvV ⟨ah, nh, ch, az, ns, cz⟩, .slice Ar o.length cr, .int .i64 f] u.w fun e w' => e = .returned (.bool kb) ∧ ∃ u' : KeptW wp, w' = u'.w) := Lib.hid fun u => by
            have hu := HB4.out.trans (u.h.mono HB4.out.size)
            refine Calls.in_kept u ((rkeeps_any _ T Ar o.length cr o f u.w (HN.out.up hu) rfl (by omega) hrc (row_ints (HRI.out.below u.h)) HK.out hoc HFF.out).mono ?_)
            rintro e w' ⟨rfl, hb⟩
            exact ⟨by rw [HKB.out], hb⟩
          have HCO1 : Hid (∀ u : KeptW wp, Calls Try.prog 37 #[tvV ⟨ah, nh, ch, az, ns, cz⟩, .slice Ar o.length cr] u.w fun e w' => e = .returned (.int .i64 C1) ∧ ∃ u' : KeptW wp, w' = u'.w) := Lib.hid fun u => by
            have hu := HB4.out.trans (u.h.mono HB4.out.size)
            refine Calls.in_kept u ((rcost_any _ T Ar o.length cr o u.w (HN.out.up hu) HK.out rfl (by omega) (row_ints (HRI.out.below u.h)) hoi).mono ?_)
            rintro e w' ⟨rfl, hb⟩
            exact ⟨by rw [HC1.out], hb⟩
          have HCB : Hid (∀ u : KeptW wp, Calls Try.prog 37 #[tvV ⟨ah, nh, ch, az, ns, cz⟩, .slice Ab best.length cb] u.w fun e w' => e = .returned (.int .i64 C2) ∧ ∃ u' : KeptW wp, w' = u'.w) := Lib.hid fun u => by
            have hu := HB4.out.trans (u.h.mono HB4.out.size)
            refine Calls.in_kept u ((rcost_any _ T Ab best.length cb best u.w (HN.out.up hu) HK.out rfl (by omega) (row_ints (HVB.out.below u.h)) hbin).mono ?_)
            rintro e w' ⟨rfl, hb⟩
            exact ⟨by rw [HC2.out], hb⟩
          have q0 : ∀ u : KeptW wp, u.w.cell? ⟨w.heap.size, 0, none⟩ = some (.slice ah nh ch) := fun u => (HC.out u.w (HB4.out.trans (u.h.mono HB4.out.size))).1
          have q1 : ∀ u : KeptW wp, u.w.cell? ⟨w.heap.size, 1, none⟩ = some (.slice az ns cz) := fun u => (HC.out u.w (HB4.out.trans (u.h.mono HB4.out.size))).2
          have q2 : ∀ u : KeptW wp, u.w.cell? ⟨g, i, none⟩ = some (.slice Ar o.length cr) := HTG.out
          simp only [tvV] at HK1 HCO1 HCB
          clear hri hgc tg ho hsub hol hoi hoc hbsub hbl hbin hrc hvb hbi hbr hkb hc1 hc2
          cases kb
          · cases fd
            · go_wp2_with fail
              refine rk_region (by kernel_rfl) (by kernel_rfl) ?_
              repeat (go_big_quiet_step (first | (with_reducible exact HK1.out _) | (with_reducible exact HCO1.out _) | (with_reducible exact HCB.out _) | fail))
              refine wpQuiet_nil ?_
              rintro wz ⟨⟨_, hbz⟩, rfl⟩
              have HBZ := Lib.hid (HBP.out.trans (hbz.mono HBP.out.size))
              have HVB2 := Lib.hid (HVB.out.below hbz)
              have HRZ := Lib.hid (HRI.out.below hbz)
              have cz : wz.cell? ⟨g, i, none⟩ = some (.slice Ar o.length cr) := HTG.out ⟨wz, hbz⟩
              clear hbz q0 q1 q2
              have HNX := Lib.hid (HBI.out.pass (sc_step HO.out) (.inl HKB.out))
              go_wp2_with fail
              exact ⟨⟨i + 1, best, false, by omega, rfl, rfl, HVB2.out, HNX.out, HBZ.out⟩, by simp [intOf]; omega⟩
            · go_wp2_with fail
              refine rk_region (by kernel_rfl) (by kernel_rfl) ?_
              repeat (go_big_quiet_step (first | (with_reducible exact HK1.out _) | (with_reducible exact HCO1.out _) | (with_reducible exact HCB.out _) | fail))
              refine wpQuiet_nil ?_
              rintro wz ⟨⟨_, hbz⟩, rfl⟩
              have HBZ := Lib.hid (HBP.out.trans (hbz.mono HBP.out.size))
              have HVB2 := Lib.hid (HVB.out.below hbz)
              have HRZ := Lib.hid (HRI.out.below hbz)
              have cz : wz.cell? ⟨g, i, none⟩ = some (.slice Ar o.length cr) := HTG.out ⟨wz, hbz⟩
              clear hbz q0 q1 q2
              have HNX := Lib.hid (HBI.out.pass (sc_step HO.out) (.inl HKB.out))
              go_wp2_with fail
              exact ⟨⟨i + 1, best, true, by omega, rfl, rfl, HVB2.out, HNX.out, HBZ.out⟩, by simp [intOf]; omega⟩
          · cases fd
            · go_wp2_with fail
              refine rk_region (by kernel_rfl) (by kernel_rfl) ?_
              repeat (go_big_quiet_step (first | (with_reducible exact HK1.out _) | (with_reducible exact HCO1.out _) | (with_reducible exact HCB.out _) | fail))
              refine wpQuiet_nil ?_
              rintro wz ⟨⟨_, hbz⟩, rfl⟩
              have HBZ := Lib.hid (HBP.out.trans (hbz.mono HBP.out.size))
              have HVB2 := Lib.hid (HVB.out.below hbz)
              have HRZ := Lib.hid (HRI.out.below hbz)
              have cz : wz.cell? ⟨g, i, none⟩ = some (.slice Ar o.length cr) := HTG.out ⟨wz, hbz⟩
              clear hbz q0 q1 q2
              have HNX := Lib.hid (HBI.out.put (sc_step HO.out) HKB.out (fun h => by cases h))
              go_wp2_with fail
              exact ⟨⟨i + 1, o, true, by omega, rfl, rfl, HRZ.out.low HLOW.out, HNX.out, HBZ.out⟩, by simp [intOf]; omega⟩
            · by_cases hcc : C1 < C2
              · have HNX := Lib.hid (HBI.out.put (sc_step HO.out) HKB.out (fun _ => by rw [HC1.out, HC2.out]; exact hcc))
                go_wp2_with fail
                refine rk_region (by kernel_rfl) (by kernel_rfl) ?_
                repeat (go_big_quiet_step (first | (with_reducible exact HK1.out _) | (with_reducible exact HCO1.out _) | (with_reducible exact HCB.out _) | fail))
                refine wpQuiet_nil ?_
                rintro wz ⟨⟨_, hbz⟩, rfl⟩
                have HBZ := Lib.hid (HBP.out.trans (hbz.mono HBP.out.size))
                have HVB2 := Lib.hid (HVB.out.below hbz)
                have HRZ := Lib.hid (HRI.out.below hbz)
                have cz : wz.cell? ⟨g, i, none⟩ = some (.slice Ar o.length cr) := HTG.out ⟨wz, hbz⟩
                clear hbz q0 q1 q2
                go_wp2_with fail
                exact ⟨⟨i + 1, o, true, by omega, rfl, rfl, HRZ.out.low HLOW.out, HNX.out, HBZ.out⟩, by simp [intOf]; omega⟩
              · have HNX := Lib.hid (HBI.out.pass (sc_step HO.out) (.inr ⟨rfl, by rw [HC1.out, HC2.out]; omega, sc_ord (by rw [← HLE.out]; exact sitN_pair _) HO.out⟩))
                go_wp2_with fail
                have hcc2 : ¬ C1 < C2 := by omega
                refine rk_region (by kernel_rfl) (by kernel_rfl) ?_
                repeat (go_big_quiet_step (first | (with_reducible exact HK1.out _) | (with_reducible exact HCO1.out _) | (with_reducible exact HCB.out _) | fail))
                refine wpQuiet_nil ?_
                rintro wz ⟨⟨_, hbz⟩, rfl⟩
                have HBZ := Lib.hid (HBP.out.trans (hbz.mono HBP.out.size))
                have HVB2 := Lib.hid (HVB.out.below hbz)
                have HRZ := Lib.hid (HRI.out.below hbz)
                have cz : wz.cell? ⟨g, i, none⟩ = some (.slice Ar o.length cr) := HTG.out ⟨wz, hbz⟩
                clear hbz q0 q1 q2
                go_wp2_with fail
                exact ⟨⟨i + 1, best, true, by omega, rfl, rfl, HVB2.out, HNX.out, HBZ.out⟩, by simp [intOf]; omega⟩
        · obtain rfl : sn = i := by omega
          have l4 : ¬ (sn : Int) < (sn : Int) := by omega
          have HX : Hid (BstI T f best fd (ScB L (m + 1) 0)) := Lib.hid (HBI.out.same fun o => by rw [sc_level, HSE.out, HSN.out])
          have HMM := HMN.out
          clear hvb hbi hbr
          go_wp2_with fail
          exact ⟨⟨m + 1, best, fd, by omega, rfl, rfl, HVB.out, HX.out, HB4.out⟩, by simp [intOf]; omega⟩
    · obtain rfl : m = ns + 1 := by omega
      have k4 : ¬ ((ns + 1 : Nat) : Int) ≤ (ns : Int) := by omega
      obtain ⟨e1, e2⟩ := bst_all HK.out (by rw [show T.ss.length = ns from HNS.out, HLE.out]; exact HBI0.out)
      have HE := Lib.hid (And.intro e1 e2)
      clear e1 e2
      go_wp2_with fail
      refine bodyPost_ret (v := .tuple #[u6, .bool fd0]) (by simp [results, Try.results35, go_sem]) rfl ?_
      exact ⟨u6, by rw [HE.out.1], HB.out.trans (HBO.out.mono HB.out.size), by rw [show bsL T f = best0 from HE.out.2.symm]; exact HVB0.out.low HB.out.size⟩
end Go.Proofs.Ytmppiiamcpjhnaa
