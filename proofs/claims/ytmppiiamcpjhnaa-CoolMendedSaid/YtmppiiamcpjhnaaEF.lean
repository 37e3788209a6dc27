/- Coolers: the fewest coolers that break a house, by the specification. -/
import Derived.Test.YtmppiiamcpjhnaaEE
namespace Go.Proofs.Ytmppiiamcpjhnaa
open Go.RowKit Go.Shelf

def bkS (N : Nat) (t l0 lv vo : Value) (g i h : Nat) (b : Bool) : Tmp → Value
  | 4 => .pointer (some ⟨N, 0, none⟩)
  | 1 => l0
  | 11 => lv
  | 12 => .int .i64 (i : Int)
  | 3 => .int .i64 (h : Int)
  | 33 => t
  | 34 => l0
  | 35 => lv
  | 36 => .int .i64 (i : Int)
  | 37 => .pointer (some ⟨g, i, none⟩)
  | 38 => vo
  | 40 => .int .i64 (h : Int)
  | 41 => .bool b
  | 42 => .bool (!b)
  | _ => undef
def bkF (B : Nat) (zs : List Int) : Nat → Value → World → Prop
  | 6, v, w => RowIs intR 3 B zs v w
  | _, _, _ => True
theorem bkF_keep (B : Nat) (zs : List Int) : ∀ i v w1 w2, bkF B zs i v w1 → Below w1.heap.size w1 w2 → bkF B zs i v w2 := fun i v w1 w2 h hb => by
  unfold bkF at h ⊢
  split
  · exact h.below hb
  · trivial
set_option maxRecDepth 100000 in
set_option maxHeartbeats 16000000 in
theorem rbreaks_any (V : TV) (T : Tn) (A : Option Addr) (n c : Nat) (bo : List Int) (f : Int) (h : Nat) (w : World) (hN : TnAt w w.heap.size V T) (hl : bo.length = n) (hn : n ≤ 10) (hnc : n ≤ c) (hA : IntsAt w w.heap.size A bo) (hK : TnOk T) (hC : coolB T bo = true) (hf : 0 ≤ f ∧ f ≤ 3) (hh : h < T.hs.length) :
    Calls Try.prog 59 #[tvV V, .slice A n c, .int .i64 f, .int .i64 (h : Int)] w fun e w' => ∃ v, e = .returned (.tuple #[v, .bool (rbk T bo f h).isSome]) ∧ Below w.heap.size w w' ∧ RowIs intR 3 w.heap.size ((rbk T bo f h).getD []) v w' := by
  have z := heap_alloc_new w (.cells (tvC V) 25)
  have hb := (Below.refl w.heap.size w).alloc (Nat.le_refl _) (.cells (tvC V) 25)
  obtain ⟨w1, hw1⟩ : ∃ z, w.alloc (.cells (tvC V) 25) = z := ⟨_, rfl⟩
  rw [hw1] at z hb
  have HW := Lib.hid hw1; have HB := Lib.hid hb; have HZ := Lib.hid z
  have HN := Lib.hid (hN.up hb); have HA := Lib.hid (RowAt.up hA hb)
  have HLB := Lib.hid hl; have HK := Lib.hid hK; have HCO := Lib.hid hC; have HHT := Lib.hid hh; have HFF := Lib.hid hf
  obtain ⟨f1, f2⟩ := hf
  obtain ⟨ah, nh, ch, az, ns, cz⟩ := V
  have HC : Hid (∀ u, Below w1.heap.size w1 u → u.cell? ⟨w.heap.size, 0, none⟩ = some (.slice ah nh ch) ∧ u.cell? ⟨w.heap.size, 1, none⟩ = some (.slice az ns cz)) := Lib.hid fun u hu => box2 ((hu.block _ (heapsz HZ.out)).trans HZ.out)
  clear z hb hw1 hN hA hl hK hC hh
  go_enter Try.func59, Try.ntmps59
  go_wp2_with fail
  rw [show w.alloc (.cells #[.slice ah nh ch, .slice az ns cz] 25) = w1 from HW.out]
  go_loopw [10, 11, 12] (fun mm _ _ wr => ∃ m : Nat, m ≤ n + 1 ∧ mm = .int .i64 m ∧ (∀ m', m' < m → ∀ o ∈ subL m' bo, okB T bo h o = true) ∧ Below w1.heap.size w1 wr) (fun mm _ _ _ => n + 1 - (intOf mm).toNat)
  case atStart => exact ⟨0, by omega, rfl, fun m' hm => absurd hm (Nat.not_lt_zero _), Below.refl _ _⟩
  case round =>
    obtain ⟨m, hm, rfl, hall, hbr⟩ := hrel
    obtain ⟨wo, rfl⟩ : ∃ z : World, z = wr := ⟨_, rfl⟩
    have HBO := Lib.hid hbr; have HALL := Lib.hid hall
    clear hbr hall
    have done_ : ¬ ((m : Int) ≤ f ∧ m ≤ n) → Hid (rbk T bo f h = none) := fun hno => Lib.hid (rbk_none HK.out HCO.out HHT.out HFF.out HLB.out fun m' h1 h2 => HALL.out m' (by omega))
    have HDN := Lib.hid done_
    clear done_
    by_cases hmf : (m : Int) ≤ f
    · by_cases hmn : (m : Int) ≤ (n : Int)
      · clear HDN
        have HREC := Lib.hid (rsets_any m bo A n c wo (by omega) HLB.out hn hnc (RowAt.up HA.out HBO.out))
        have HMF := Lib.hid hmf; have HMN := Lib.hid hmn
        go_wp2_with fail
        refine HREC.out.mono ?_
        rintro e w2 ⟨lv, rows2, w0, rfl, hb2, hg2, hw0⟩
        have HG2 := Lib.hid hg2
        have HB2 := Lib.hid (HBO.out.trans (hb2.mono HBO.out.size))
        obtain ⟨g2, c2, hlv2⟩ : ∃ A2 c2, lv = .slice A2 (subL m bo).length c2 := by
          obtain ⟨A2, c2, e, _⟩ := hg2.grid (k := 1) (fun _ => rfl) (fun row hrow => by
            have h1 := (sub_mem.1 hrow).1.length_le
            rw [HLB.out] at h1
            unfold maxLen
            omega)
          exact ⟨A2, c2, e⟩
        subst hlv2
        have hlen2 : (subL m bo).length ≤ 1024 := Nat.le_trans (subL_len m bo) (Nat.le_trans (Nat.pow_le_pow_right (by decide) (show _ ≤ 10 by rw [HLB.out]; exact hn)) (by decide))
        obtain ⟨S, hS⟩ : ∃ S, subL m bo = S := ⟨_, rfl⟩
        have HSE := Lib.hid hS
        rw [hS] at HG2 hlen2 ⊢
        obtain ⟨sn, hsn⟩ : ∃ sn, S.length = sn := ⟨_, rfl⟩
        rw [hsn] at hlen2 ⊢
        have HSN := Lib.hid hsn
        have HW0 := Lib.hid hw0
        clear hb2 hg2 hw0 hS hsn
        go_wp2_with fail
        clear hmf hmn
        go_loopw [12] (fun ii wr => ∃ i : Nat, i ≤ sn ∧ ii = .int .i64 i ∧ (∀ j o, j < i → S[j]? = some o → okB T bo h o = true) ∧ Below w2.heap.size w2 wr) (fun ii _ => sn - (intOf ii).toNat)
        case atStart => exact ⟨0, by omega, rfl, fun j _ hj => absurd hj (Nat.not_lt_zero _), Below.refl _ _⟩
        case round =>
          obtain ⟨i, hi, rfl, hgood, hbr⟩ := hrel
          obtain ⟨wp, rfl⟩ : ∃ z : World, z = wr := ⟨_, rfl⟩
          have HBP := Lib.hid hbr; have HGD := Lib.hid hgood
          have HB3 := Lib.hid (HB2.out.trans (hbr.mono HB2.out.size))
          clear hgood
          by_cases hit : i < sn
          · have l3 : (0 : Int) ≤ (i : Int) := by omega
            have l4 : (i : Int) < (sn : Int) := by omega
            obtain ⟨o, ho⟩ := get_of_lt (l := S) (k := i) (by rw [HSN.out]; exact hit)
            obtain ⟨g, c3, vr, hlv, hglt, hgc, hri⟩ := HG2.out.cell ho
            injection hlv with hlv _ hcc
            subst hlv hcc
            have HRI := Lib.hid (hri.below hbr)
            have tg : wp.cell? ⟨g, i, none⟩ = some vr := ((bcell hbr).1 _ _ hglt).trans hgc
            have hglt2 : g < wp.heap.size := Nat.lt_of_lt_of_le hglt hbr.size
            have HTG : Hid (∀ u : KeptW wp, u.w.cell? ⟨g, i, none⟩ = some vr) := Lib.hid fun u => ((bcell u.h).1 _ _ hglt2).trans tg
            have HO := Lib.hid ho
            have hsub := (sub_mem.1 (show o ∈ subL m bo by rw [HSE.out]; exact List.mem_of_getElem? ho)).1
            have HRC := Lib.hid (rem_cool (fa := o) HCO.out)
            have hol : o.length ≤ 10 := by have h1 := hsub.length_le; rw [HLB.out] at h1; omega
            have HOL := Lib.hid hol
            obtain ⟨Ar, cr, hvr⟩ := hri.len
            subst hvr
            obtain ⟨bl, hbl⟩ : ∃ bl, okB T bo h o = bl := ⟨_, rfl⟩
            have HBL := Lib.hid hbl
            clear hri hgc tg ho hsub hol hbl hbr
            go_wp2_with fail
            refine rel_region [4, 1, 11, 12, 3] [(39, 6)] (bkS w.heap.size (tvV ⟨ah, nh, ch, az, ns, cz⟩) (.slice A n c) (.slice (some ⟨g, 0, none⟩) sn c2) (.slice Ar o.length cr) g i h bl) (bkF wp.heap.size (remL bo o)) (by kernel_rfl) (by kernel_rfl) (by kernel_rfl) (by kernel_rfl) (by kernel_rfl) (by kernel_rfl) ?_ (bkF_keep _ _) ?_ ?_
            · intro t ht
              simp only [List.mem_cons, List.not_mem_nil, or_false] at ht
              rcases ht with rfl | rfl | rfl | rfl | rfl <;> rfl
            · refine allOps_array ?_
              refine ⟨?_, ?_, ?_, ?_, ?_, ?_, ?_, ?_, ?_, ?_, trivial⟩ <;> intro gg u hd_ <;> have hu := HB3.out.trans (u.h.mono HB3.out.size) <;> obtain ⟨q0, q1⟩ := HC.out u.w hu <;> have q2 := HTG.out u
              · refine ⟨rfl, relQ 33 rfl trivial ?_⟩
                simp [go_sem, evalBy, rhoT, relOf, bkS, tvV, q0, q1]
              · refine ⟨rfl, relQ 34 rfl trivial ?_⟩
                simp [go_sem, evalBy, rhoT, relOf, bkS]
              · refine ⟨rfl, relQ 35 rfl trivial ?_⟩
                simp [go_sem, evalBy, rhoT, relOf, bkS]
              · refine ⟨rfl, relQ 36 rfl trivial ?_⟩
                simp [go_sem, evalBy, rhoT, relOf, bkS]
              · refine ⟨rfl, relQ 37 rfl trivial ?_⟩
                simp [go_sem, evalBy, rhoT, relOf, bkS, l3, l4]
              · refine ⟨rfl, relQ 38 rfl trivial ?_⟩
                simp [go_sem, evalBy, rhoT, relOf, bkS, q2]
              · refine ⟨rfl, relC 30 #[.slice A n c, .slice Ar o.length cr] (by simp [go_sem, evalBy, rhoT, relOf, bkS]) ?_⟩
                refine (rwithout_any bo o A Ar n c o.length cr u.w HLB.out rfl (by omega) (by have := HOL.out; unfold maxLen; omega) (RowAt.up HA.out hu) (row_ints (HRI.out.below u.h))).mono ?_
                rintro e w' ⟨v, rfl, hb, hv⟩
                exact ⟨v, rfl, hb, hv.low u.h.size, fun e he hn => by injection he with he; subst he; exact absurd hn (by simp [relOf])⟩
              · refine ⟨rfl, relQ 40 rfl trivial ?_⟩
                simp [go_sem, evalBy, rhoT, relOf, bkS]
              · have h6 : RowIs intR 3 wp.heap.size (remL bo o) (gg 6) u.w := hd_ ⟨6, .data⟩ (by simp) rfl
                obtain ⟨A5, c5, e6⟩ := h6.len
                rw [e6] at h6
                refine ⟨rfl, relK 41 rfl (fun _ => trivial) 72 #[tvV ⟨ah, nh, ch, az, ns, cz⟩, gg 6, .int .i64 (h : Int)] (by simp [go_sem, evalBy, rhoT, relOf, bkS]) ?_⟩
                rw [e6]
                refine (rlevel_any _ T A5 _ c5 (remL bo o) h u.w (HN.out.up hu) rfl (by have := List.length_filter_le (fun x => !decide (x ∈ o)) bo; have h9 := HLB.out; unfold remL; omega) (row_ints h6) HK.out HRC.out HHT.out).mono ?_
                rintro e w' ⟨rfl, hb⟩
                exact ⟨by rw [show decide (0 ≤ bearsI T h (setI (remL bo o))) = bl from HBL.out]; rfl, hb⟩
              · refine ⟨rfl, relQ 42 rfl trivial ?_⟩
                simp [go_sem, evalBy, rhoT, relOf, bkS]
            · intro gg u hf_
              have HBZ := Lib.hid (HBP.out.trans (u.h.mono HBP.out.size))
              have HRZ := Lib.hid (HRI.out.below u.h)
              have HTZ := HTG.out u
              simp [putAll, Act.put, rhoT, relOf, bkS]
              obtain ⟨wz, hwz⟩ : ∃ x, u.w = x := ⟨_, rfl⟩
              rw [hwz] at HBZ HRZ HTZ ⊢
              clear hwz hf_
              cases bl
              · have HR : Hid (rbk T bo f h = some o) := Lib.hid (rbk_some HK.out HCO.out HHT.out HFF.out HLB.out HMF.out HALL.out (by rw [HSE.out]; exact HO.out) (fun j o' hj ho' => HGD.out j o' hj (by rw [← HSE.out]; exact ho')) HBL.out)
                have hwsz : g < wz.heap.size := by have := HBZ.out.size; omega
                go_wp2_with fail
                refine bodyPost_ret (v := .tuple #[.slice Ar o.length cr, .bool true]) (by simp [results, Try.results59, go_sem]) rfl ?_
                exact ⟨_, by rw [HR.out]; rfl, HB.out.trans ((HB2.out.trans (HBZ.out.mono HB2.out.size)).mono HB.out.size), by rw [HR.out]; exact HRZ.out.low (Nat.le_trans HB.out.size (Nat.le_trans HBO.out.size HW0.out))⟩
              · go_wp2_with fail
                exact ⟨⟨i + 1, by omega, rfl, fun j o' hj ho' => by
                  rcases Nat.lt_succ_iff_lt_or_eq.1 hj with hj | rfl
                  · exact HGD.out j o' hj ho'
                  · have := HO.out
                    rw [ho'] at this
                    injection this with this
                    rw [this]
                    exact HBL.out, HBZ.out⟩, by simp [intOf]; omega⟩
          · obtain rfl : sn = i := by omega
            have l4 : ¬ (sn : Int) < (sn : Int) := by omega
            have HX : Hid (∀ m', m' < m + 1 → ∀ o ∈ subL m' bo, okB T bo h o = true) := Lib.hid fun m' hm' o ho => by
              rcases Nat.lt_succ_iff_lt_or_eq.1 hm' with hm' | rfl
              · exact HALL.out m' hm' o ho
              · rw [HSE.out] at ho
                obtain ⟨j, hj⟩ := List.getElem?_of_mem ho
                exact HGD.out j o (by have := (List.getElem?_eq_some_iff.1 hj).1; rw [HSN.out] at this; exact this) hj
            clear hbr
            go_wp2_with fail
            have HMM := HMN.out
            exact ⟨⟨m + 1, by omega, rfl, HX.out, HB3.out⟩, by simp [intOf]; omega⟩
      · have HR := HDN.out (fun h => hmn (by omega))
        clear HDN
        have hmn2 : ¬ (m : Int) ≤ (n : Int) := hmn
        go_wp2_with fail
        refine bodyPost_ret (v := .tuple #[.slice none 0 0, .bool false]) (by simp [results, Try.results59, go_sem]) rfl ?_
        exact ⟨_, by rw [HR.out]; rfl, HB.out.trans (HBO.out.mono HB.out.size), by rw [HR.out]; exact .inl ⟨rfl, rfl⟩⟩
    · have HR := HDN.out (fun h => hmf h.1)
      clear HDN
      go_wp2_with fail
      refine bodyPost_ret (v := .tuple #[.slice none 0 0, .bool false]) (by simp [results, Try.results59, go_sem]) rfl ?_
      exact ⟨_, by rw [HR.out]; rfl, HB.out.trans (HBO.out.mono HB.out.size), by rw [HR.out]; exact .inl ⟨rfl, rfl⟩⟩
end Go.Proofs.Ytmppiiamcpjhnaa
