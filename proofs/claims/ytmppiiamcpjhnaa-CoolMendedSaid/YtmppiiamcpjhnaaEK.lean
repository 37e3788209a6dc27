/- Coolers: the floor, by the specification. -/
import Derived.Test.YtmppiiamcpjhnaaEJ
namespace Go.Proofs.Ytmppiiamcpjhnaa
open Go.RowKit Go.Shelf

def flS (N : Nat) (t lv vo : Value) (g i h : Nat) (f : Int) (b : Bool) : Tmp → Value
  | 2 => .pointer (some ⟨N, 0, none⟩)
  | 9 => lv
  | 10 => .int .i64 (i : Int)
  | 1 => .int .i64 f
  | 7 => .int .i64 (h : Int)
  | 42 => t
  | 43 => lv
  | 44 => .int .i64 (i : Int)
  | 45 => .pointer (some ⟨g, i, none⟩)
  | 46 => vo
  | 47 => .int .i64 f
  | 48 => .int .i64 (h : Int)
  | 51 => .bool b
  | 12 => .bool b
  | _ => undef
def flF (b : Bool) : Nat → Value → World → Prop
  | 7, v, _ => ∃ A n c, v = .tuple #[.slice A n c, .bool b]
  | 8, v, _ => ∃ A n c, v = .tuple #[.slice A n c, .bool b]
  | 9, v, _ => ∃ A n c, v = .slice A n c
  | _, _, _ => True
theorem flF_keep (b : Bool) : ∀ i v w1 w2, flF b i v w1 → Below w1.heap.size w1 w2 → flF b i v w2 := fun i v w1 w2 h _ => by
  unfold flF at h ⊢
  split <;> first | exact h | trivial
theorem any_take {α : Type} {l : List α} {p : α → Bool} {i : Nat} {x : α} (h : l[i]? = some x) (h0 : (l.take i).any p = false) : (l.take (i + 1)).any p = p x := by
  rw [List.take_add_one, h, List.any_append, h0]
  simp
theorem all_range {p : Nat → Bool} (k : Nat) : (List.range (k + 1)).all p = ((List.range k).all p && p k) := by
  rw [List.range_succ, List.all_append]
  simp
theorem all_iff {p : Nat → Bool} {k : Nat} : (List.range k).all p = true ↔ ∀ h, h < k → p h = true := by
  rw [List.all_eq_true]
  exact ⟨fun h j hj => h j (List.mem_range.2 hj), fun h j hj => h j (List.mem_range.1 hj)⟩
set_option maxRecDepth 100000 in
set_option maxHeartbeats 16000000 in
theorem rfloor_any (V : TV) (T : Tn) (f : Int) (w : World) (hN : TnAt w w.heap.size V T) (hK : TnOk T) (hf : 0 ≤ f ∧ f ≤ 3) :
    Calls Try.prog 36 #[tvV V, .int .i64 f] w fun e w' => e = .returned (.int .i64 (rflo T f)) ∧ Below w.heap.size w w' := by
  have z := heap_alloc_new w (.cells (tvC V) 25)
  have hb := (Below.refl w.heap.size w).alloc (Nat.le_refl _) (.cells (tvC V) 25)
  obtain ⟨w1, hw1⟩ : ∃ z, w.alloc (.cells (tvC V) 25) = z := ⟨_, rfl⟩
  rw [hw1] at z hb
  have HW := Lib.hid hw1; have HB := Lib.hid hb; have HZ := Lib.hid z
  have HN := Lib.hid (hN.up hb)
  have HK := Lib.hid hK; have HFF := Lib.hid hf
  have HNS := Lib.hid hN.ns; have HNH := Lib.hid hN.nh
  have h10 := hK.s10; have h6 := hK.h6
  obtain ⟨ah, nh, ch, az, ns, cz⟩ := V
  have hns : ns ≤ 10 := by have h1 : T.ss.length = ns := HNS.out; omega
  have hnh : nh ≤ 6 := by have h1 : T.hs.length = nh := HNH.out; omega
  have HC : Hid (∀ u, Below w1.heap.size w1 u → u.cell? ⟨w.heap.size, 0, none⟩ = some (.slice ah nh ch) ∧ u.cell? ⟨w.heap.size, 1, none⟩ = some (.slice az ns cz)) := Lib.hid fun u hu => box2 ((hu.block _ (heapsz HZ.out)).trans HZ.out)
  have HSW := Lib.hid (heapsz z)
  obtain ⟨L, hL⟩ : ∃ L, sitN ns = L := ⟨_, rfl⟩
  have HLE := Lib.hid hL
  clear z hb hw1 hN hK hf hL h10 h6
  go_enter Try.func36, Try.ntmps36
  go_wp2_with fail
  rw [show w.alloc (.cells #[.slice ah nh ch, .slice az ns cz] 25) = w1 from HW.out]
  go_loopw [5, 6, 7, 8, 9, 10, 11, 12] (fun mm _ _ _ _ _ _ _ wr => ∃ m : Nat, m ≤ ns + 1 ∧ mm = .int .i64 m ∧ (∀ m', m' < m → (List.range nh).all (exL T f m') = false) ∧ Below w1.heap.size w1 wr) (fun mm _ _ _ _ _ _ _ _ => ns + 1 - (intOf mm).toNat)
  case atStart => exact ⟨0, by omega, rfl, fun m' h => absurd h (Nat.not_lt_zero _), Below.refl _ _⟩
  case round =>
    obtain ⟨m, hm, rfl, hno, hbr⟩ := hrel
    obtain ⟨wo, rfl⟩ : ∃ z : World, z = wr := ⟨_, rfl⟩
    have HBO := Lib.hid hbr; have HNO := Lib.hid hno
    obtain ⟨v0, v1⟩ := HC.out wo hbr
    clear hbr hno
    by_cases hlt : m < ns + 1
    · have k4 : (m : Int) ≤ (ns : Int) := by omega
      have HMN := Lib.hid hlt
      go_wp2_with fail
      clear k4 v0 v1
      go_loopw [6, 7, 8, 9, 10, 11, 12] (fun aa hh _ _ _ _ _ wr => ∃ h : Nat, h ≤ nh ∧ hh = .int .i64 h ∧ aa = .bool ((List.range h).all (exL T f m)) ∧ Below wo.heap.size wo wr) (fun _ hh _ _ _ _ _ _ => nh - (intOf hh).toNat)
      case atStart => exact ⟨0, by omega, rfl, rfl, Below.refl _ _⟩
      case round =>
        obtain ⟨h, hh, rfl, rfl, hbr⟩ := hrel
        obtain ⟨wa, rfl⟩ : ∃ z : World, z = wr := ⟨_, rfl⟩
        have HBA := Lib.hid hbr
        have HB1 := Lib.hid (HBO.out.trans (hbr.mono HBO.out.size))
        obtain ⟨v0, v1⟩ := HC.out wa HB1.out
        clear hbr
        obtain ⟨ab, hab⟩ : ∃ ab, (List.range h).all (exL T f m) = ab := ⟨_, rfl⟩
        have HAB := Lib.hid hab
        rw [hab]
        clear hab
        by_cases hlt2 : h < nh
        · have k3 : (0 : Int) ≤ (h : Int) := by omega
          have k4 : (h : Int) < (nh : Int) := by omega
          have HHT : Hid (h < T.hs.length) := Lib.hid (by rw [HNH.out]; exact hlt2)
          have HS69 := Lib.hid (rsites_any ⟨ah, nh, ch, az, ns, cz⟩ T wa (HN.out.up HB1.out) (by show ns ≤ 1000; omega))
          go_wp2_with fail
          refine HS69.out.mono ?_
          rintro e w2 ⟨vs, rfl, hb2, hr2⟩
          rw [show T.ss.length = ns from HNS.out, HLE.out] at hr2
          obtain ⟨As, cs, rfl, hra, hrc⟩ := hr2.at_ (k := 1) (fun _ => rfl)
          have hLn : L.length = ns := by rw [← HLE.out, sitN_len]
          rw [hLn] at hrc ⊢
          have HREC := Lib.hid (rsets_any m L As ns cs w2 (by have := HMN.out; omega) hLn hns hrc hra)
          have HB2 := Lib.hid (HBA.out.trans (hb2.mono HBA.out.size))
          clear hb2 hr2 hra hrc hLn v0 v1
          go_wp2_with fail
          refine HREC.out.mono ?_
          rintro e w3 ⟨lv, rows2, w0, rfl, hb3, hg2, hw0⟩
          have HG2 := Lib.hid hg2
          have HB3 := Lib.hid (HB2.out.trans (hb3.mono HB2.out.size))
          obtain ⟨g2, c2, hlv2⟩ : ∃ A2 c2, lv = .slice A2 (subL m L).length c2 := by
            obtain ⟨A2, c2, e, _⟩ := hg2.grid (k := 1) (fun _ => rfl) (fun row hrow => by
              have h1 := (sub_mem.1 hrow).1.length_le
              rw [← HLE.out, sitN_len] at h1
              unfold maxLen
              omega)
            exact ⟨A2, c2, e⟩
          subst hlv2
          have hlen2 : (subL m L).length ≤ 1024 := Nat.le_trans (subL_len m L) (Nat.le_trans (Nat.pow_le_pow_right (by decide) (show _ ≤ 10 by rw [← HLE.out, sitN_len]; exact hns)) (by decide))
          obtain ⟨S, hS⟩ : ∃ S, subL m L = S := ⟨_, rfl⟩
          have HSE := Lib.hid hS
          rw [hS] at HG2 hlen2 ⊢
          obtain ⟨sn, hsn⟩ : ∃ sn, S.length = sn := ⟨_, rfl⟩
          rw [hsn] at hlen2 ⊢
          have HSN := Lib.hid hsn
          have HEX : Hid (exL T f m h = S.any fun o => decide (f ≤ bearsI T h (setI o))) := Lib.hid (by unfold exL; rw [show T.ss.length = ns from HNS.out, HLE.out, HSE.out])
          clear hb3 hg2 hw0 hS hsn
          go_wp2_with fail
          go_loopw [8, 10, 11, 12] (fun oo ii _ _ wr => ∃ i : Nat, i ≤ sn ∧ ii = .int .i64 i ∧ oo = .bool ((S.take i).any fun o => decide (f ≤ bearsI T h (setI o))) ∧ Below w3.heap.size w3 wr) (fun _ ii _ _ _ => sn - (intOf ii).toNat)
          case atStart => exact ⟨0, by omega, rfl, rfl, Below.refl _ _⟩
          case round =>
            obtain ⟨i, hi, rfl, rfl, hbr⟩ := hrel
            obtain ⟨wp, rfl⟩ : ∃ z : World, z = wr := ⟨_, rfl⟩
            have HBP := Lib.hid hbr
            have HB5 := Lib.hid (HB3.out.trans (hbr.mono HB3.out.size))
            have HB4 := Lib.hid (HBO.out.trans (HB5.out.mono HBO.out.size))
            obtain ⟨ob, hob⟩ : ∃ ob, ((S.take i).any fun o => decide (f ≤ bearsI T h (setI o))) = ob := ⟨_, rfl⟩
            have HOB := Lib.hid hob
            rw [hob]
            clear hob
            by_cases hit : i < sn
            · have l3 : (0 : Int) ≤ (i : Int) := by omega
              have l4 : (i : Int) < (sn : Int) := by omega
              cases ob
              · obtain ⟨o, ho⟩ := get_of_lt (l := S) (k := i) (by rw [HSN.out]; exact hit)
                obtain ⟨g, c3, vr, hlv, hglt, hgc, hri⟩ := HG2.out.cell ho
                injection hlv with hlv _ hcc
                subst hlv hcc
                have HRI := Lib.hid (hri.below hbr)
                have tg : wp.cell? ⟨g, i, none⟩ = some vr := ((bcell hbr).1 _ _ hglt).trans hgc
                have hglt2 : g < wp.heap.size := Nat.lt_of_lt_of_le hglt hbr.size
                have HO : Hid ((subL m L)[i]? = some o) := Lib.hid (by rw [HSE.out]; exact ho)
                have hsub : o.Sublist (sitN ns) := by rw [HLE.out]; exact (sub_mem.1 (List.mem_of_getElem? HO.out)).1
                obtain ⟨hol, _⟩ := sitN_in hsub
                have HOC : Hid (coolB T o = true) := Lib.hid (sub_cool2 (m := m) (by rw [show T.ss.length = ns from HNS.out, HLE.out]; exact List.mem_of_getElem? HO.out))
                obtain ⟨Ar, cr, hvr⟩ := hri.len
                subst hvr
                have hrc : o.length ≤ cr := by
                  obtain ⟨A9, c9, e9, _, h9⟩ := hri.at_ (k := 1) (fun _ => rfl)
                  injection e9 with _ _ e9
                  omega
                have HOL := Lib.hid (And.intro (Nat.le_trans hol hns) hrc)
                have HTG : Hid (∀ u : KeptW wp, u.w.cell? ⟨g, i, none⟩ = some (.slice Ar o.length cr)) := Lib.hid fun u => ((bcell u.h).1 _ _ hglt2).trans tg
                have HNX : Hid (((S.take (i + 1)).any fun o => decide (f ≤ bearsI T h (setI o))) = decide (f ≤ bearsI T h (setI o))) := Lib.hid (any_take ho HOB.out)
                obtain ⟨b, hb9⟩ : ∃ b, decide (f ≤ bearsI T h (setI o)) = b := ⟨_, rfl⟩
                have HIS : Hid ((rbk T o f h).isSome = !b) := Lib.hid (by rw [(rbk_is (h := h) HK.out HOC.out HFF.out).1, hb9])
                rw [hb9] at HNX
                clear hri hgc tg ho hsub hol hrc hb9 hbr
                go_wp2_with fail
                refine rel_region [2, 9, 10, 1, 7] [(49, 7), (41, 8), (50, 9), (11, 11)] (flS w.heap.size (tvV ⟨ah, nh, ch, az, ns, cz⟩) (.slice (some ⟨g, 0, none⟩) sn c2) (.slice Ar o.length cr) g i h f (!b)) (flF (!b)) (by kernel_rfl) (by kernel_rfl) (by kernel_rfl) (by kernel_rfl) (by kernel_rfl) (by kernel_rfl) ?_ (flF_keep _) ?_ ?_
                · intro t ht
                  simp only [List.mem_cons, List.not_mem_nil, or_false] at ht
                  rcases ht with rfl | rfl | rfl | rfl | rfl <;> rfl
                · refine allOps_array ?_
                  refine ⟨?_, ?_, ?_, ?_, ?_, ?_, ?_, ?_, ?_, ?_, ?_, ?_, ?_, trivial⟩ <;> intro gg u hd_ <;> have hu := HB4.out.trans (u.h.mono HB4.out.size) <;> obtain ⟨q0, q1⟩ := HC.out u.w hu <;> have q2 := HTG.out u
                  · refine ⟨rfl, relQ 42 rfl trivial ?_⟩
                    simp [go_sem, evalBy, rhoT, relOf, flS, tvV, q0, q1]
                  · refine ⟨rfl, relQ 43 rfl trivial ?_⟩
                    simp [go_sem, evalBy, rhoT, relOf, flS]
                  · refine ⟨rfl, relQ 44 rfl trivial ?_⟩
                    simp [go_sem, evalBy, rhoT, relOf, flS]
                  · refine ⟨rfl, relQ 45 rfl trivial ?_⟩
                    simp [go_sem, evalBy, rhoT, relOf, flS, l3, l4]
                  · refine ⟨rfl, relQ 46 rfl trivial ?_⟩
                    simp [go_sem, evalBy, rhoT, relOf, flS, q2]
                  · refine ⟨rfl, relQ 47 rfl trivial ?_⟩
                    simp [go_sem, evalBy, rhoT, relOf, flS]
                  · refine ⟨rfl, relQ 48 rfl trivial ?_⟩
                    simp [go_sem, evalBy, rhoT, relOf, flS]
                  · refine ⟨rfl, relC 59 #[tvV ⟨ah, nh, ch, az, ns, cz⟩, .slice Ar o.length cr, .int .i64 f, .int .i64 (h : Int)] (by simp [go_sem, evalBy, rhoT, relOf, flS]) ?_⟩
                    refine (rbreaks_any _ T Ar o.length cr o f h u.w (HN.out.up hu) rfl HOL.out.1 HOL.out.2 (row_ints (HRI.out.below u.h)) HK.out HOC.out HFF.out HHT.out).mono ?_
                    rintro e w' ⟨v, rfl, hb, hv⟩
                    obtain ⟨A7, c7, e7⟩ := hv.len
                    exact ⟨_, rfl, hb, ⟨A7, _, c7, by rw [HIS.out, e7]⟩, fun e he hn => by injection he with he; subst he; exact absurd hn (by simp [relOf])⟩
                  · have h7 := hd_ ⟨7, .data⟩ (by simp) rfl
                    refine ⟨rfl, relM (gg 7) h7 (fun e he hn => by injection he with he; subst he; exact absurd hn (by simp [relOf])) ?_⟩
                    simp [go_sem, evalBy, rhoT, relOf]
                  · obtain ⟨A7, n7, c7, e8⟩ : ∃ A n c, gg 8 = .tuple #[.slice A n c, .bool (!b)] := hd_ ⟨8, .data⟩ (by simp) rfl
                    refine ⟨rfl, relM (.slice A7 n7 c7) ⟨A7, n7, c7, rfl⟩ (fun e he hn => by injection he with he; subst he; exact absurd hn (by simp [relOf])) ?_⟩
                    simp [go_sem, evalBy, rhoT, relOf, e8]
                  · obtain ⟨A7, n7, c7, e8⟩ : ∃ A n c, gg 8 = .tuple #[.slice A n c, .bool (!b)] := hd_ ⟨8, .data⟩ (by simp) rfl
                    refine ⟨rfl, relQ 51 rfl trivial ?_⟩
                    simp [go_sem, evalBy, rhoT, relOf, flS, e8]
                  · obtain ⟨A7, n7, c7, e9⟩ : ∃ A n c, gg 9 = .slice A n c := hd_ ⟨9, .data⟩ (by simp) rfl
                    refine ⟨rfl, relM (.slice A7 n7 c7) trivial (fun e he hn => by injection he with he; subst he; exact absurd hn (by simp [relOf])) ?_⟩
                    simp [go_sem, evalBy, rhoT, relOf, e9]
                  · refine ⟨rfl, relQ 12 rfl trivial ?_⟩
                    simp [go_sem, evalBy, rhoT, relOf, flS]
                · intro gg u hf_
                  have HBZ := Lib.hid (HBP.out.trans (u.h.mono HBP.out.size))
                  simp [putAll, Act.put, rhoT, relOf, flS]
                  obtain ⟨wz, hwz⟩ : ∃ x, u.w = x := ⟨_, rfl⟩
                  rw [hwz] at HBZ ⊢
                  clear hwz hf_
                  go_wp2_with fail
                  exact ⟨⟨i + 1, by omega, rfl, by rw [HNX.out], HBZ.out⟩, by simp [intOf]; omega⟩
              · have HX : Hid (exL T f m h = true) := Lib.hid (by
                  rw [HEX.out]
                  obtain ⟨o, ho, hp⟩ := List.any_eq_true.1 HOB.out
                  exact List.any_eq_true.2 ⟨o, List.mem_of_mem_take ho, hp⟩)
                have HAL : Hid ((List.range (h + 1)).all (exL T f m) = ab) := Lib.hid (by rw [all_range, HAB.out, HX.out, Bool.and_true])
                clear hbr
                cases ab
                all_goals
                  go_wp2_with fail
                  exact ⟨⟨h + 1, by omega, rfl, by rw [HAL.out], HB5.out⟩, by simp [intOf]; omega⟩
            · obtain rfl : sn = i := by omega
              have l4 : ¬ (sn : Int) < (sn : Int) := by omega
              have HX : Hid (exL T f m h = ob) := Lib.hid (by
                rw [HEX.out, ← HOB.out, List.take_of_length_le (by rw [HSN.out]; exact Nat.le_refl _)])
              have HAL : Hid ((List.range (h + 1)).all (exL T f m) = (ab && ob)) := Lib.hid (by rw [all_range, HAB.out, HX.out])
              clear hbr
              cases ab <;> cases ob
              all_goals
                go_wp2_with fail
                exact ⟨⟨h + 1, by omega, rfl, by rw [HAL.out]; rfl, HB5.out⟩, by simp [intOf]; omega⟩
        · obtain rfl : nh = h := by omega
          have k4 : ¬ (nh : Int) < (nh : Int) := by omega
          cases ab
          · have HNN : Hid (∀ m', m' < m + 1 → (List.range nh).all (exL T f m') = false) := Lib.hid fun m' hm' => by
              rcases Nat.lt_succ_iff_lt_or_eq.1 hm' with hm' | rfl
              · exact HNO.out m' hm'
              · exact HAB.out
            have HMM := HMN.out
            go_wp2_with fail
            exact ⟨⟨m + 1, by omega, rfl, HNN.out, HB1.out⟩, by simp [intOf]; omega⟩
          · have HR : Hid (rflo T f = m) := Lib.hid (flo_found HK.out HFF.out (by rw [show T.ss.length = ns from HNS.out]; have := HMN.out; omega) (fun h hh => all_iff.1 HAB.out h (by rw [← show T.hs.length = nh from HNH.out]; exact hh)) (fun m' hm' hal => by
              have h1 := HNO.out m' hm'
              rw [all_iff.2 fun h hh => hal h (by rw [show T.hs.length = nh from HNH.out]; exact hh)] at h1
              cases h1))
            go_wp2_with fail
            go_ret
            exact ⟨by rw [HR.out]; rfl, HB.out.trans (HB1.out.mono HB.out.size)⟩
    · obtain rfl : m = ns + 1 := by omega
      have k4 : ¬ ((ns + 1 : Nat) : Int) ≤ (ns : Int) := by omega
      have HR : Hid (rflo T f = -1) := Lib.hid (flo_none HK.out HFF.out fun m' hm' hal => by
        rw [show T.ss.length = ns from HNS.out] at hm'
        have h1 := HNO.out m' hm'
        rw [all_iff.2 fun h hh => hal h (by rw [show T.hs.length = nh from HNH.out]; exact hh)] at h1
        cases h1)
      go_wp2_with fail
      go_ret
      exact ⟨by rw [HR.out]; rfl, HB.out.trans (HBO.out.mono HB.out.size)⟩
end Go.Proofs.Ytmppiiamcpjhnaa
