/- Coolers: the law CoolBroken. -/
import Derived.Test.YtmppiiamcpjhnaaDV
namespace Go.Proofs.Ytmppiiamcpjhnaa
open Go.RowKit Go.Shelf

theorem ovL_len (T : Tn) (X : Tu) (cs : List Int) : (ovL T X cs).length = T.hs.length := by unfold ovL; rw [List.length_map, List.length_range]
def pw5Cv (N : Nat) (t b1 b3 : Value) : Tmp → Value
  | 4 => .pointer (some ⟨N, 0, none⟩)
  | 1 => b1
  | 3 => b3
  | 75 => t
  | 76 => b1
  | 77 => b3
  | 79 => t
  | 83 => .int .i64 0
  | 14 => .int .i64 0
  | _ => undef
def pw17Cv (N : Nat) (t b1 b3 : Value) : Tmp → Value
  | 4 => .pointer (some ⟨N, 0, none⟩)
  | 1 => b1
  | 10 => b3
  | 149 => t
  | 150 => b1
  | 151 => b3
  | 153 => t
  | 157 => .int .i64 0
  | 17 => .int .i64 0
  | _ => undef
def pwF (B : Nat) (T : Tn) (zs ys : List Int) : Nat → Value → World → Prop
  | 3, v, w => RowIs intR 3 B zs v w
  | 5, v, w => ∃ U, v = uvV U ∧ TuAt w w.heap.size U (worstT T)
  | 6, v, w => ∃ r, v = .tuple #[r, .int .i64 0] ∧ RowIs intR 3 B ys r w
  | 7, v, w => ∃ r, v = .tuple #[r, .int .i64 0] ∧ RowIs intR 3 B ys r w
  | 8, v, w => RowIs intR 3 B ys v w
  | 10, v, w => RowIs intR 3 B ys v w
  | _, _, _ => True
theorem pwF_keep (B : Nat) (T : Tn) (zs ys : List Int) : ∀ i v w1 w2, pwF B T zs ys i v w1 → Below w1.heap.size w1 w2 → pwF B T zs ys i v w2 := fun i v w1 w2 h hb => by
  unfold pwF at h ⊢
  split
  · exact h.below hb
  · obtain ⟨U, e, h⟩ := h
    exact ⟨U, e, h.up hb⟩
  · obtain ⟨r, e, h⟩ := h
    exact ⟨r, e, h.below hb⟩
  · obtain ⟨r, e, h⟩ := h
    exact ⟨r, e, h.below hb⟩
  · exact h.below hb
  · exact h.below hb
  · trivial
set_option maxRecDepth 100000 in
set_option maxHeartbeats 16000000 in
theorem broken_law (V : TV) (T : Tn) (A : Option Addr) (n c : Nat) (bo : List Int) (f : Int) (A2 : Option Addr) (p q : Nat) (ot : List Int) (w : World) (hN : TnAt w w.heap.size V T) (hl : bo.length = n) (hn : n ≤ maxLen) (hA : IntsAt w w.heap.size A bo) (hl2 : ot.length = p) (hp : p ≤ maxLen) (hA2 : IntsAt w w.heap.size A2 ot) :
    Calls Try.prog 6 #[tvV V, .slice A n c, .int .i64 f, .slice A2 p q] w fun e w' => e = .returned (.bool true) ∧ Below w.heap.size w w' := by
  have z := heap_alloc_new w (.cells (tvC V) 25)
  have hb := (Below.refl w.heap.size w).alloc (Nat.le_refl _) (.cells (tvC V) 25)
  obtain ⟨w1, hw1⟩ : ∃ z, w.alloc (.cells (tvC V) 25) = z := ⟨_, rfl⟩
  rw [hw1] at z hb
  have HL := Lib.hid hl; have HNN := Lib.hid hn; have HL2 := Lib.hid hl2; have HPN := Lib.hid hp
  have HA1 := Lib.hid (RowAt.up hA hb); have HG1 := Lib.hid (RowAt.up hA2 hb); have HN1 := Lib.hid (hN.up hb); have HB1 := Lib.hid hb; have HZ1 := Lib.hid z
  have HNH := Lib.hid hN.nh
  obtain ⟨ah, nh, ch, az, ns, cz⟩ := V
  obtain ⟨v0, v1⟩ := box2 z
  simp only at v0 v1
  unfold maxLen at hn hp
  have hw1' : w.alloc (.cells #[.slice ah nh ch, .slice az ns cz] 25) = w1 := hw1
  clear z hb hw1 hN hl hA hl2 hA2
  go_enter Try.func6, Try.ntmps6
  go_wp2_with fail
  clear hw1'
  refine (short_any _ T _ HN1.out).mono ?_
  rintro e w2 ⟨rfl, hb⟩
  have HZ2 := Lib.hid ((hb.block _ (heapsz HZ1.out)).trans HZ1.out)
  have HB2 := Lib.hid (HB1.out.trans (hb.mono HB1.out.size))
  have HN2 := Lib.hid (HN1.out.up hb)
  have HA2 := Lib.hid (RowAt.up HA1.out hb)
  have HG2 := Lib.hid (RowAt.up HG1.out hb)
  clear hb
  clear v0 v1
  obtain ⟨v0, v1⟩ := box2 HZ2.out
  cases shortB T
  · clear v0 v1
    go_wp2_with fail
    refine (known_any _).mono ?_
    rintro e wk ⟨rfl, hbk⟩
    have HBK := Lib.hid (HB2.out.trans (hbk.mono HB2.out.size))
    clear hbk
    go_wp2_with fail
    go_ret
    exact ⟨rfl, HBK.out⟩
  by_cases h15 : (15 : Int) < (n : Int)
  · clear v0 v1
    go_wp2_with fail
    refine (known_any _).mono ?_
    rintro e wk ⟨rfl, hbk⟩
    have HBK := Lib.hid (HB2.out.trans (hbk.mono HB2.out.size))
    clear hbk
    go_wp2_with fail
    go_ret
    exact ⟨rfl, HBK.out⟩
  by_cases h16 : (15 : Int) < (p : Int)
  · clear v0 v1
    go_wp2_with fail
    refine (known_any _).mono ?_
    rintro e wk ⟨rfl, hbk⟩
    have HBK := Lib.hid (HB2.out.trans (hbk.mono HB2.out.size))
    clear hbk
    go_wp2_with fail
    go_ret
    exact ⟨rfl, HBK.out⟩
  go_wp2_with fail
  refine (asked_any _ T A n c bo _ HN2.out HL.out HNN.out HA2.out).mono ?_
  rintro e w3 ⟨rfl, hb⟩
  have HZ3 := Lib.hid ((hb.block _ (heapsz HZ2.out)).trans HZ2.out)
  have HB3 := Lib.hid (HB2.out.trans (hb.mono HB2.out.size))
  have HN3 := Lib.hid (HN2.out.up hb)
  have HA3 := Lib.hid (RowAt.up HA2.out hb)
  have HG3 := Lib.hid (RowAt.up HG2.out hb)
  clear hb
  clear v0 v1
  obtain ⟨v0, v1⟩ := box2 HZ3.out
  cases hask : (tnB T && coolB T bo)
  · clear v0 v1 hask
    go_wp2_with fail
    refine (known_any _).mono ?_
    rintro e wk ⟨rfl, hbk⟩
    have HBK := Lib.hid (HB3.out.trans (hbk.mono HB3.out.size))
    clear hbk
    go_wp2_with fail
    go_ret
    exact ⟨rfl, HBK.out⟩
  have h0 : coolI T bo = 0 := by unfold coolI; rw [hask]; rfl
  obtain ⟨hK, hC⟩ := town_ok h0
  have HKC := Lib.hid (And.intro hK (And.intro hC h0))
  clear hask hK hC h0
  go_wp2_with fail
  refine (rcoolers_any _ T A2 p q ot _ HN3.out HL2.out HPN.out HG3.out).mono ?_
  rintro e w4 ⟨rfl, hb⟩
  have HZ4 := Lib.hid ((hb.block _ (heapsz HZ3.out)).trans HZ3.out)
  have HB4 := Lib.hid (HB3.out.trans (hb.mono HB3.out.size))
  have HN4 := Lib.hid (HN3.out.up hb)
  have HA4 := Lib.hid (RowAt.up HA3.out hb)
  have HG4 := Lib.hid (RowAt.up HG3.out hb)
  clear hb
  clear v0 v1
  obtain ⟨v0, v1⟩ := box2 HZ4.out
  cases hco : coolB T ot
  · clear v0 v1 hco
    go_wp2_with fail
    refine (known_any _).mono ?_
    rintro e wk ⟨rfl, hbk⟩
    have HBK := Lib.hid (HB4.out.trans (hbk.mono HB4.out.size))
    clear hbk
    go_wp2_with fail
    go_ret
    exact ⟨rfl, HBK.out⟩
  have HCO := Lib.hid hco
  clear hco
  go_wp2_with fail
  refine (rfails_any _ _).mono ?_
  rintro e w' ⟨rfl, rfl⟩
  cases hf : inB 0 f 3
  · clear v0 v1 hf
    go_wp2_with fail
    refine (known_any _).mono ?_
    rintro e wk ⟨rfl, hbk⟩
    have HBK := Lib.hid (HB4.out.trans (hbk.mono HB4.out.size))
    clear hbk
    go_wp2_with fail
    go_ret
    exact ⟨rfl, HBK.out⟩
  have HF := Lib.hid hf
  have hf2 := inB_iff.1 hf
  have HRL : Hid (∀ x, (remL bo x).length ≤ 15) := Lib.hid fun x => Nat.le_trans (List.length_filter_le _ _) (by have := HL.out; omega)
  have HPE : Hid (∀ x, plaE T (worstT T) (remL bo x) = 0 ∧ plaL T (worstT T) (remL bo x) = ovL T (worstT T) (remL bo x)) := Lib.hid (fun x => by
    have h3 : coolI T (remL bo x) = 0 := by unfold coolI; rw [tnB_iff.2 HKC.out.1, rem_cool HKC.out.2.1]; rfl
    have htr : truB T (worstT T) = true := truB_iff.2 (worst_ok HKC.out.1)
    exact ⟨by unfold plaE; rw [if_pos h3, if_pos htr], by unfold plaL; rw [if_pos h3, if_pos htr]⟩)
  have hnh6 : nh ≤ 6 := by have h1 : T.hs.length = nh := HNH.out; have := HKC.out.1.h6; omega
  clear hf
  go_wp2_with fail
  refine (Break_any _ T A n c bo f _ HN4.out HL.out HNN.out HA4.out).mono ?_
  rintro e w5 ⟨vl, rfl, hb, hr⟩
  have HR5 := Lib.hid hr
  have HZ5 := Lib.hid ((hb.block _ (heapsz HZ4.out)).trans HZ4.out)
  have HB5 := Lib.hid (HB4.out.trans (hb.mono HB4.out.size))
  have HN5 := Lib.hid (HN4.out.up hb)
  have HA5 := Lib.hid (RowAt.up HA4.out hb)
  have HG5 := Lib.hid (RowAt.up HG4.out hb)
  clear hb hr
  clear v0 v1
  obtain ⟨v0, v1⟩ := box2 HZ5.out
  cases hu : brU T bo f with
  | none =>
    obtain ⟨e1, e2, e3, hall⟩ := broken_none (ot := ot) HKC.out.1 HKC.out.2.1 HF.out hu
    have HALL := Lib.hid hall
    rw [e1, e2]
    obtain ⟨A4, c4, rfl⟩ := HR5.out.len
    rw [e3] at HR5 ⊢
    clear e1 e2 e3 hall hu
    by_cases hpf : (p : Int) ≤ f
    · go_wp2_with fail
      refine (rwithout_any bo ot A A2 n c p q _ HL.out HL2.out (by omega) HPN.out HA5.out HG5.out).mono ?_
      rintro e w6 ⟨vz, rfl, hb, hr⟩
      obtain ⟨Az, cz2, rfl⟩ := hr.len
      have HY6 := Lib.hid hr
      have HZ6 := Lib.hid ((hb.block _ (heapsz HZ5.out)).trans HZ5.out)
      have HB6 := Lib.hid (HB5.out.trans (hb.mono HB5.out.size))
      have HN6 := Lib.hid (HN5.out.up hb)
      have HA6 := Lib.hid (RowAt.up HA5.out hb)
      have HG6 := Lib.hid (RowAt.up HG5.out hb)
      have HR6 := Lib.hid (HR5.out.below hb)
      clear hb hr
      clear v0 v1
      obtain ⟨v0, v1⟩ := box2 HZ6.out
      obtain ⟨m, hm⟩ : ∃ z, (remL bo ot).length = z := ⟨_, rfl⟩
      have HM := Lib.hid hm
      have hwr : IntKind.i64.wrap ((n : Int) - (p : Int)) = (n : Int) - (p : Int) := IntWalk.i64_in _ (by omega)
      rw [hm]
      clear hm
      by_cases hmn : (m : Int) = (n : Int) - (p : Int)
      · have HOV := Lib.hid (HALL.out (by rw [HL2.out]; exact hpf) (by rw [HM.out, HL.out, HL2.out]; exact hmn))
        have hmn2 : ((m : Int) == (n : Int) - (p : Int)) = true := by rw [beq_iff_eq]; exact hmn
        clear hmn
        go_wp2_with fail
        clear v0 v1
        refine rel_region [4, 1, 3] [(78, 3), (80, 5), (81, 6), (74, 7), (82, 8), (13, 10)] (pw5Cv w.heap.size (tvV ⟨ah, nh, ch, az, ns, cz⟩) (.slice A n c) (.slice A2 p q)) (pwF w6.heap.size T (remL bo ot) (ovL T (worstT T) (remL bo ot))) (by kernel_rfl) (by kernel_rfl) (by kernel_rfl) (by kernel_rfl) (by kernel_rfl) (by kernel_rfl) ?_ (pwF_keep _ _ _ _) ?_ ?_
        · intro t ht
          simp only [List.mem_cons, List.not_mem_nil, or_false] at ht
          rcases ht with rfl | rfl | rfl <;> rfl
        · refine allOps_array ?_
          refine ⟨?_, ?_, ?_, ?_, ?_, ?_, ?_, ?_, ?_, ?_, ?_, ?_, trivial⟩ <;> intro g u hd_ <;> obtain ⟨q0, q1⟩ := box2 ((u.h.block _ (heapsz HZ6.out)).trans HZ6.out)
          · refine ⟨rfl, relQ 75 rfl trivial ?_⟩
            simp [go_sem, evalBy, rhoT, relOf, pw5Cv, tvV, q0, q1]
          · refine ⟨rfl, relQ 76 rfl trivial ?_⟩
            simp [go_sem, evalBy, rhoT, relOf, pw5Cv]
          · refine ⟨rfl, relQ 77 rfl trivial ?_⟩
            simp [go_sem, evalBy, rhoT, relOf, pw5Cv]
          · refine ⟨rfl, relC 30 #[.slice A n c, .slice A2 p q] (by simp [go_sem, evalBy, rhoT, relOf, pw5Cv]) ?_⟩
            refine (rwithout_any bo ot A A2 n c p q u.w HL.out HL2.out (by omega) HPN.out (RowAt.up HA6.out u.h) (RowAt.up HG6.out u.h)).mono ?_
            rintro e w' ⟨v, rfl, hb, hv⟩
            exact ⟨v, rfl, hb, hv.low u.h.size, fun e he hn => by injection he with he; subst he; exact absurd hn (by simp [relOf])⟩
          · refine ⟨rfl, relQ 79 rfl trivial ?_⟩
            simp [go_sem, evalBy, rhoT, relOf, pw5Cv, tvV, q0, q1]
          · refine ⟨rfl, relC 31 #[tvV ⟨ah, nh, ch, az, ns, cz⟩] (by simp [go_sem, evalBy, rhoT, relOf, pw5Cv]) ?_⟩
            refine (Worst_any _ T u.w (HN6.out.up u.h) HKC.out.1).mono ?_
            rintro e w' ⟨U, rfl, hb, hv⟩
            exact ⟨_, rfl, hb, ⟨U, rfl, hv⟩, fun e he hn => by injection he with he; subst he; exact absurd hn (by simp [relOf])⟩
          · have h3 : RowIs intR 3 w6.heap.size (remL bo ot) (g 3) u.w := hd_ ⟨3, .data⟩ (by simp) rfl
            obtain ⟨U, e5, h5⟩ : ∃ U, g 5 = uvV U ∧ TuAt u.w u.w.heap.size U (worstT T) := hd_ ⟨5, .data⟩ (by simp) rfl
            obtain ⟨A3, c3, e3⟩ := h3.len
            rw [e3] at h3
            refine ⟨rfl, relC 26 #[tvV ⟨ah, nh, ch, az, ns, cz⟩, g 3, g 5] (by simp [go_sem, evalBy, rhoT, relOf, pw5Cv]) ?_⟩
            rw [e3, e5]
            refine (Play_any _ T A3 _ c3 (remL bo ot) U (worstT T) u.w (HN6.out.up u.h) rfl (by have := HRL.out (ot); unfold maxLen; omega) (row_ints h3) h5).mono ?_
            rintro e w' ⟨v, rfl, hb, hv⟩
            rw [(HPE.out (ot)).1]
            rw [(HPE.out (ot)).2] at hv
            exact ⟨_, rfl, hb, ⟨v, rfl, hv.low u.h.size⟩, fun e he hn => by injection he with he; subst he; exact absurd hn (by simp [relOf])⟩
          · have h6 := hd_ ⟨6, .data⟩ (by simp) rfl
            refine ⟨rfl, relM (g 6) h6 (fun e he hn => by injection he with he; subst he; exact absurd hn (by simp [relOf])) ?_⟩
            simp [go_sem, evalBy, rhoT, relOf]
          · obtain ⟨r, e7, h7⟩ : ∃ r, g 7 = .tuple #[r, .int .i64 0] ∧ RowIs intR 3 w6.heap.size (ovL T (worstT T) (remL bo ot)) r u.w := hd_ ⟨7, .data⟩ (by simp) rfl
            refine ⟨rfl, relM r h7 (fun e he hn => by injection he with he; subst he; exact absurd hn (by simp [relOf])) ?_⟩
            simp [go_sem, evalBy, rhoT, relOf, e7]
          · obtain ⟨r, e7, h7⟩ : ∃ r, g 7 = .tuple #[r, .int .i64 0] ∧ RowIs intR 3 w6.heap.size (ovL T (worstT T) (remL bo ot)) r u.w := hd_ ⟨7, .data⟩ (by simp) rfl
            refine ⟨rfl, relQ 83 rfl trivial ?_⟩
            simp [go_sem, evalBy, rhoT, relOf, pw5Cv, e7]
          · have h8 := hd_ ⟨8, .data⟩ (by simp) rfl
            refine ⟨rfl, relM (g 8) h8 (fun e he hn => by injection he with he; subst he; exact absurd hn (by simp [relOf])) ?_⟩
            simp [go_sem, evalBy, rhoT, relOf]
          · refine ⟨rfl, relQ 14 rfl trivial ?_⟩
            simp [go_sem, evalBy, rhoT, relOf, pw5Cv]
        intro g u hf
        have h13 : RowIs intR 3 w6.heap.size (ovL T (worstT T) (remL bo ot)) (g 10) u.w := hf 10 (by decide)
        obtain ⟨A5, c5, e5⟩ := h13.len
        rw [e5] at h13
        rw [ovL_len, HNH.out] at h13 e5
        simp [putAll, Act.put, rhoT, relOf, pw5Cv, e5]
        have hb := u.h
        obtain ⟨w7, hwn⟩ : ∃ x, u.w = x := ⟨_, rfl⟩
        rw [hwn] at hb h13 ⊢
        have HQ7 := Lib.hid h13
        clear hwn h13 hf e5
        have HZ7 := Lib.hid ((hb.block _ (heapsz HZ6.out)).trans HZ6.out)
        have HB7 := Lib.hid (HB6.out.trans (hb.mono HB6.out.size))
        have HN7 := Lib.hid (HN6.out.up hb)
        have HA7 := Lib.hid (RowAt.up HA6.out hb)
        have HG7 := Lib.hid (RowAt.up HG6.out hb)
        have HR7 := Lib.hid (HR6.out.below hb)
        clear hb
        obtain ⟨v0, v1⟩ := box2 HZ7.out
        go_wp2_with fail
        clear v0 v1
        go_loopw [15] (fun ii wr => ∃ k : Nat, k ≤ nh ∧ ii = .int .i64 k ∧ wr = w7) (fun ii _ => nh - (intOf ii).toNat)
        case atStart => exact ⟨0, by omega, rfl, rfl⟩
        case round =>
          obtain ⟨k, hk, rfl, rfl⟩ := hrel
          by_cases hlt : k < nh
          · have k3 : (0 : Int) ≤ (k : Int) := by omega
            have k4 : (k : Int) < (nh : Int) := by omega
            have hltT : k < T.hs.length := by have h1 : T.hs.length = nh := HNH.out; omega
            have hget : (ovL T (worstT T) (remL bo ot))[k]? = some (ovV (worstT T) (remL bo ot) k) := by
              unfold ovL
              rw [List.getElem?_map, List.getElem?_range hltT]
              rfl
            obtain ⟨b9, o9, rfl, _, c9⟩ := ints_el (row_ints HQ7.out) hget
            have h9 := HOV.out k hltT
            obtain ⟨y, hy⟩ : ∃ y, ovV (worstT T) (remL bo ot) k = y := ⟨_, rfl⟩
            rw [hy] at c9 h9
            have h10 : ¬ y < 0 := by omega
            clear hget hy
            go_wp2_with fail
            exact ⟨⟨k + 1, by omega, rfl, (by first | rfl | trivial)⟩, by simp [intOf]; omega⟩
          · obtain rfl : nh = k := by omega
            have k4 : ¬ (nh : Int) < (nh : Int) := by omega
            go_wp2_with fail
            refine (known_any _).mono ?_
            rintro e wk ⟨rfl, hbk⟩
            have HBK := Lib.hid (HB7.out.trans (hbk.mono HB7.out.size))
            clear hbk
            go_wp2_with fail
            go_ret
            exact ⟨rfl, HBK.out⟩
      · have hmn2 : ((m : Int) == (n : Int) - (p : Int)) = false := beq_eq_false_iff_ne.2 hmn
        go_wp2_with fail
        clear v0 v1
        refine rel_region [4, 1, 3] [(78, 3), (80, 5), (81, 6), (74, 7), (82, 8), (13, 10)] (pw5Cv w.heap.size (tvV ⟨ah, nh, ch, az, ns, cz⟩) (.slice A n c) (.slice A2 p q)) (pwF w6.heap.size T (remL bo ot) (ovL T (worstT T) (remL bo ot))) (by kernel_rfl) (by kernel_rfl) (by kernel_rfl) (by kernel_rfl) (by kernel_rfl) (by kernel_rfl) ?_ (pwF_keep _ _ _ _) ?_ ?_
        · intro t ht
          simp only [List.mem_cons, List.not_mem_nil, or_false] at ht
          rcases ht with rfl | rfl | rfl <;> rfl
        · refine allOps_array ?_
          refine ⟨?_, ?_, ?_, ?_, ?_, ?_, ?_, ?_, ?_, ?_, ?_, ?_, trivial⟩ <;> intro g u hd_ <;> obtain ⟨q0, q1⟩ := box2 ((u.h.block _ (heapsz HZ6.out)).trans HZ6.out)
          · refine ⟨rfl, relQ 75 rfl trivial ?_⟩
            simp [go_sem, evalBy, rhoT, relOf, pw5Cv, tvV, q0, q1]
          · refine ⟨rfl, relQ 76 rfl trivial ?_⟩
            simp [go_sem, evalBy, rhoT, relOf, pw5Cv]
          · refine ⟨rfl, relQ 77 rfl trivial ?_⟩
            simp [go_sem, evalBy, rhoT, relOf, pw5Cv]
          · refine ⟨rfl, relC 30 #[.slice A n c, .slice A2 p q] (by simp [go_sem, evalBy, rhoT, relOf, pw5Cv]) ?_⟩
            refine (rwithout_any bo ot A A2 n c p q u.w HL.out HL2.out (by omega) HPN.out (RowAt.up HA6.out u.h) (RowAt.up HG6.out u.h)).mono ?_
            rintro e w' ⟨v, rfl, hb, hv⟩
            exact ⟨v, rfl, hb, hv.low u.h.size, fun e he hn => by injection he with he; subst he; exact absurd hn (by simp [relOf])⟩
          · refine ⟨rfl, relQ 79 rfl trivial ?_⟩
            simp [go_sem, evalBy, rhoT, relOf, pw5Cv, tvV, q0, q1]
          · refine ⟨rfl, relC 31 #[tvV ⟨ah, nh, ch, az, ns, cz⟩] (by simp [go_sem, evalBy, rhoT, relOf, pw5Cv]) ?_⟩
            refine (Worst_any _ T u.w (HN6.out.up u.h) HKC.out.1).mono ?_
            rintro e w' ⟨U, rfl, hb, hv⟩
            exact ⟨_, rfl, hb, ⟨U, rfl, hv⟩, fun e he hn => by injection he with he; subst he; exact absurd hn (by simp [relOf])⟩
          · have h3 : RowIs intR 3 w6.heap.size (remL bo ot) (g 3) u.w := hd_ ⟨3, .data⟩ (by simp) rfl
            obtain ⟨U, e5, h5⟩ : ∃ U, g 5 = uvV U ∧ TuAt u.w u.w.heap.size U (worstT T) := hd_ ⟨5, .data⟩ (by simp) rfl
            obtain ⟨A3, c3, e3⟩ := h3.len
            rw [e3] at h3
            refine ⟨rfl, relC 26 #[tvV ⟨ah, nh, ch, az, ns, cz⟩, g 3, g 5] (by simp [go_sem, evalBy, rhoT, relOf, pw5Cv]) ?_⟩
            rw [e3, e5]
            refine (Play_any _ T A3 _ c3 (remL bo ot) U (worstT T) u.w (HN6.out.up u.h) rfl (by have := HRL.out (ot); unfold maxLen; omega) (row_ints h3) h5).mono ?_
            rintro e w' ⟨v, rfl, hb, hv⟩
            rw [(HPE.out (ot)).1]
            rw [(HPE.out (ot)).2] at hv
            exact ⟨_, rfl, hb, ⟨v, rfl, hv.low u.h.size⟩, fun e he hn => by injection he with he; subst he; exact absurd hn (by simp [relOf])⟩
          · have h6 := hd_ ⟨6, .data⟩ (by simp) rfl
            refine ⟨rfl, relM (g 6) h6 (fun e he hn => by injection he with he; subst he; exact absurd hn (by simp [relOf])) ?_⟩
            simp [go_sem, evalBy, rhoT, relOf]
          · obtain ⟨r, e7, h7⟩ : ∃ r, g 7 = .tuple #[r, .int .i64 0] ∧ RowIs intR 3 w6.heap.size (ovL T (worstT T) (remL bo ot)) r u.w := hd_ ⟨7, .data⟩ (by simp) rfl
            refine ⟨rfl, relM r h7 (fun e he hn => by injection he with he; subst he; exact absurd hn (by simp [relOf])) ?_⟩
            simp [go_sem, evalBy, rhoT, relOf, e7]
          · obtain ⟨r, e7, h7⟩ : ∃ r, g 7 = .tuple #[r, .int .i64 0] ∧ RowIs intR 3 w6.heap.size (ovL T (worstT T) (remL bo ot)) r u.w := hd_ ⟨7, .data⟩ (by simp) rfl
            refine ⟨rfl, relQ 83 rfl trivial ?_⟩
            simp [go_sem, evalBy, rhoT, relOf, pw5Cv, e7]
          · have h8 := hd_ ⟨8, .data⟩ (by simp) rfl
            refine ⟨rfl, relM (g 8) h8 (fun e he hn => by injection he with he; subst he; exact absurd hn (by simp [relOf])) ?_⟩
            simp [go_sem, evalBy, rhoT, relOf]
          · refine ⟨rfl, relQ 14 rfl trivial ?_⟩
            simp [go_sem, evalBy, rhoT, relOf, pw5Cv]
        intro g u hf
        have h13 : RowIs intR 3 w6.heap.size (ovL T (worstT T) (remL bo ot)) (g 10) u.w := hf 10 (by decide)
        obtain ⟨A5, c5, e5⟩ := h13.len
        rw [e5] at h13
        rw [ovL_len, HNH.out] at h13 e5
        simp [putAll, Act.put, rhoT, relOf, pw5Cv, e5]
        have hb := u.h
        obtain ⟨w7, hwn⟩ : ∃ x, u.w = x := ⟨_, rfl⟩
        rw [hwn] at hb h13 ⊢
        have HQ7 := Lib.hid h13
        clear hwn h13 hf e5
        have HZ7 := Lib.hid ((hb.block _ (heapsz HZ6.out)).trans HZ6.out)
        have HB7 := Lib.hid (HB6.out.trans (hb.mono HB6.out.size))
        have HN7 := Lib.hid (HN6.out.up hb)
        have HA7 := Lib.hid (RowAt.up HA6.out hb)
        have HG7 := Lib.hid (RowAt.up HG6.out hb)
        have HR7 := Lib.hid (HR6.out.below hb)
        clear hb
        obtain ⟨v0, v1⟩ := box2 HZ7.out
        go_wp2_with fail
        clear v0 v1
        go_loopw [15] (fun ii wr => ∃ k : Nat, k ≤ nh ∧ ii = .int .i64 k ∧ wr = w7) (fun ii _ => nh - (intOf ii).toNat)
        case atStart => exact ⟨0, by omega, rfl, rfl⟩
        case round =>
          obtain ⟨k, hk, rfl, rfl⟩ := hrel
          by_cases hlt : k < nh
          · have k3 : (0 : Int) ≤ (k : Int) := by omega
            have k4 : (k : Int) < (nh : Int) := by omega
            go_wp2_with fail
            exact ⟨⟨k + 1, by omega, rfl, (by first | rfl | trivial)⟩, by simp [intOf]; omega⟩
          · obtain rfl : nh = k := by omega
            have k4 : ¬ (nh : Int) < (nh : Int) := by omega
            go_wp2_with fail
            refine (known_any _).mono ?_
            rintro e wk ⟨rfl, hbk⟩
            have HBK := Lib.hid (HB7.out.trans (hbk.mono HB7.out.size))
            clear hbk
            go_wp2_with fail
            go_ret
            exact ⟨rfl, HBK.out⟩
    · go_wp2_with fail
      clear v0 v1
      refine rel_region [4, 1, 3] [(78, 3), (80, 5), (81, 6), (74, 7), (82, 8), (13, 10)] (pw5Cv w.heap.size (tvV ⟨ah, nh, ch, az, ns, cz⟩) (.slice A n c) (.slice A2 p q)) (pwF w5.heap.size T (remL bo ot) (ovL T (worstT T) (remL bo ot))) (by kernel_rfl) (by kernel_rfl) (by kernel_rfl) (by kernel_rfl) (by kernel_rfl) (by kernel_rfl) ?_ (pwF_keep _ _ _ _) ?_ ?_
      · intro t ht
        simp only [List.mem_cons, List.not_mem_nil, or_false] at ht
        rcases ht with rfl | rfl | rfl <;> rfl
      · refine allOps_array ?_
        refine ⟨?_, ?_, ?_, ?_, ?_, ?_, ?_, ?_, ?_, ?_, ?_, ?_, trivial⟩ <;> intro g u hd_ <;> obtain ⟨q0, q1⟩ := box2 ((u.h.block _ (heapsz HZ5.out)).trans HZ5.out)
        · refine ⟨rfl, relQ 75 rfl trivial ?_⟩
          simp [go_sem, evalBy, rhoT, relOf, pw5Cv, tvV, q0, q1]
        · refine ⟨rfl, relQ 76 rfl trivial ?_⟩
          simp [go_sem, evalBy, rhoT, relOf, pw5Cv]
        · refine ⟨rfl, relQ 77 rfl trivial ?_⟩
          simp [go_sem, evalBy, rhoT, relOf, pw5Cv]
        · refine ⟨rfl, relC 30 #[.slice A n c, .slice A2 p q] (by simp [go_sem, evalBy, rhoT, relOf, pw5Cv]) ?_⟩
          refine (rwithout_any bo ot A A2 n c p q u.w HL.out HL2.out (by omega) HPN.out (RowAt.up HA5.out u.h) (RowAt.up HG5.out u.h)).mono ?_
          rintro e w' ⟨v, rfl, hb, hv⟩
          exact ⟨v, rfl, hb, hv.low u.h.size, fun e he hn => by injection he with he; subst he; exact absurd hn (by simp [relOf])⟩
        · refine ⟨rfl, relQ 79 rfl trivial ?_⟩
          simp [go_sem, evalBy, rhoT, relOf, pw5Cv, tvV, q0, q1]
        · refine ⟨rfl, relC 31 #[tvV ⟨ah, nh, ch, az, ns, cz⟩] (by simp [go_sem, evalBy, rhoT, relOf, pw5Cv]) ?_⟩
          refine (Worst_any _ T u.w (HN5.out.up u.h) HKC.out.1).mono ?_
          rintro e w' ⟨U, rfl, hb, hv⟩
          exact ⟨_, rfl, hb, ⟨U, rfl, hv⟩, fun e he hn => by injection he with he; subst he; exact absurd hn (by simp [relOf])⟩
        · have h3 : RowIs intR 3 w5.heap.size (remL bo ot) (g 3) u.w := hd_ ⟨3, .data⟩ (by simp) rfl
          obtain ⟨U, e5, h5⟩ : ∃ U, g 5 = uvV U ∧ TuAt u.w u.w.heap.size U (worstT T) := hd_ ⟨5, .data⟩ (by simp) rfl
          obtain ⟨A3, c3, e3⟩ := h3.len
          rw [e3] at h3
          refine ⟨rfl, relC 26 #[tvV ⟨ah, nh, ch, az, ns, cz⟩, g 3, g 5] (by simp [go_sem, evalBy, rhoT, relOf, pw5Cv]) ?_⟩
          rw [e3, e5]
          refine (Play_any _ T A3 _ c3 (remL bo ot) U (worstT T) u.w (HN5.out.up u.h) rfl (by have := HRL.out (ot); unfold maxLen; omega) (row_ints h3) h5).mono ?_
          rintro e w' ⟨v, rfl, hb, hv⟩
          rw [(HPE.out (ot)).1]
          rw [(HPE.out (ot)).2] at hv
          exact ⟨_, rfl, hb, ⟨v, rfl, hv.low u.h.size⟩, fun e he hn => by injection he with he; subst he; exact absurd hn (by simp [relOf])⟩
        · have h6 := hd_ ⟨6, .data⟩ (by simp) rfl
          refine ⟨rfl, relM (g 6) h6 (fun e he hn => by injection he with he; subst he; exact absurd hn (by simp [relOf])) ?_⟩
          simp [go_sem, evalBy, rhoT, relOf]
        · obtain ⟨r, e7, h7⟩ : ∃ r, g 7 = .tuple #[r, .int .i64 0] ∧ RowIs intR 3 w5.heap.size (ovL T (worstT T) (remL bo ot)) r u.w := hd_ ⟨7, .data⟩ (by simp) rfl
          refine ⟨rfl, relM r h7 (fun e he hn => by injection he with he; subst he; exact absurd hn (by simp [relOf])) ?_⟩
          simp [go_sem, evalBy, rhoT, relOf, e7]
        · obtain ⟨r, e7, h7⟩ : ∃ r, g 7 = .tuple #[r, .int .i64 0] ∧ RowIs intR 3 w5.heap.size (ovL T (worstT T) (remL bo ot)) r u.w := hd_ ⟨7, .data⟩ (by simp) rfl
          refine ⟨rfl, relQ 83 rfl trivial ?_⟩
          simp [go_sem, evalBy, rhoT, relOf, pw5Cv, e7]
        · have h8 := hd_ ⟨8, .data⟩ (by simp) rfl
          refine ⟨rfl, relM (g 8) h8 (fun e he hn => by injection he with he; subst he; exact absurd hn (by simp [relOf])) ?_⟩
          simp [go_sem, evalBy, rhoT, relOf]
        · refine ⟨rfl, relQ 14 rfl trivial ?_⟩
          simp [go_sem, evalBy, rhoT, relOf, pw5Cv]
      intro g u hf
      have h13 : RowIs intR 3 w5.heap.size (ovL T (worstT T) (remL bo ot)) (g 10) u.w := hf 10 (by decide)
      obtain ⟨A5, c5, e5⟩ := h13.len
      rw [e5] at h13
      rw [ovL_len, HNH.out] at h13 e5
      simp [putAll, Act.put, rhoT, relOf, pw5Cv, e5]
      have hb := u.h
      obtain ⟨w6, hwn⟩ : ∃ x, u.w = x := ⟨_, rfl⟩
      rw [hwn] at hb h13 ⊢
      have HQ6 := Lib.hid h13
      clear hwn h13 hf e5
      have HZ6 := Lib.hid ((hb.block _ (heapsz HZ5.out)).trans HZ5.out)
      have HB6 := Lib.hid (HB5.out.trans (hb.mono HB5.out.size))
      have HN6 := Lib.hid (HN5.out.up hb)
      have HA6 := Lib.hid (RowAt.up HA5.out hb)
      have HG6 := Lib.hid (RowAt.up HG5.out hb)
      have HR6 := Lib.hid (HR5.out.below hb)
      clear hb
      obtain ⟨v0, v1⟩ := box2 HZ6.out
      go_wp2_with fail
      clear v0 v1
      go_loopw [15] (fun ii wr => ∃ k : Nat, k ≤ nh ∧ ii = .int .i64 k ∧ wr = w6) (fun ii _ => nh - (intOf ii).toNat)
      case atStart => exact ⟨0, by omega, rfl, rfl⟩
      case round =>
        obtain ⟨k, hk, rfl, rfl⟩ := hrel
        by_cases hlt : k < nh
        · have k3 : (0 : Int) ≤ (k : Int) := by omega
          have k4 : (k : Int) < (nh : Int) := by omega
          go_wp2_with fail
          exact ⟨⟨k + 1, by omega, rfl, (by first | rfl | trivial)⟩, by simp [intOf]; omega⟩
        · obtain rfl : nh = k := by omega
          have k4 : ¬ (nh : Int) < (nh : Int) := by omega
          go_wp2_with fail
          refine (known_any _).mono ?_
          rintro e wk ⟨rfl, hbk⟩
          have HBK := Lib.hid (HB6.out.trans (hbk.mono HB6.out.size))
          clear hbk
          go_wp2_with fail
          go_ret
          exact ⟨rfl, HBK.out⟩
  | some h =>
    obtain ⟨l, e1, e2, e3, hlt, hll, hlc, hrm, hng, hall⟩ := broken_some (ot := ot) HKC.out.1 HKC.out.2.1 HCO.out HF.out hu
    have HALL := Lib.hid hall
    have HLC := Lib.hid hlc; have HRM := Lib.hid hrm; have HNG := Lib.hid hng
    obtain ⟨A4, c4, rfl⟩ := HR5.out.len
    rw [e1, e2]
    rw [e3] at HR5 ⊢
    obtain ⟨ln, hln⟩ : ∃ z, l.length = z := ⟨_, rfl⟩
    have HLN := Lib.hid hln
    rw [hln] at HR5 hll ⊢
    have hhn : h < nh := by have h1 : T.hs.length = nh := HNH.out; omega
    have h1a : ¬ (h : Int) < 0 := by omega
    have h1b : ¬ (nh : Int) ≤ (h : Int) := by omega
    have h1c : ¬ f < (ln : Int) := by omega
    clear e1 e2 e3 hall hu hlc hrm hng hln hlt
    by_cases hpf : (p : Int) ≤ f
    · go_wp2_with fail
      refine (rwithout_any bo ot A A2 n c p q _ HL.out HL2.out (by omega) HPN.out HA5.out HG5.out).mono ?_
      rintro e w6 ⟨vz, rfl, hb, hr⟩
      obtain ⟨Az, cz2, rfl⟩ := hr.len
      have HY6 := Lib.hid hr
      have HZ6 := Lib.hid ((hb.block _ (heapsz HZ5.out)).trans HZ5.out)
      have HB6 := Lib.hid (HB5.out.trans (hb.mono HB5.out.size))
      have HN6 := Lib.hid (HN5.out.up hb)
      have HA6 := Lib.hid (RowAt.up HA5.out hb)
      have HG6 := Lib.hid (RowAt.up HG5.out hb)
      have HR6 := Lib.hid (HR5.out.below hb)
      clear hb hr
      clear v0 v1
      obtain ⟨v0, v1⟩ := box2 HZ6.out
      obtain ⟨m, hm⟩ : ∃ z, (remL bo ot).length = z := ⟨_, rfl⟩
      have HM := Lib.hid hm
      have hwr : IntKind.i64.wrap ((n : Int) - (p : Int)) = (n : Int) - (p : Int) := IntWalk.i64_in _ (by omega)
      rw [hm]
      clear hm
      by_cases hmn : (m : Int) = (n : Int) - (p : Int)
      · have HOV := Lib.hid (HALL.out (by rw [HL2.out]; exact hpf) (by rw [HM.out, HL.out, HL2.out]; exact hmn))
        have hmn2 : ((m : Int) == (n : Int) - (p : Int)) = true := by rw [beq_iff_eq]; exact hmn
        clear hmn
        go_wp2_with fail
        clear v0 v1
        refine rel_region [4, 1, 3] [(78, 3), (80, 5), (81, 6), (74, 7), (82, 8), (13, 10)] (pw5Cv w.heap.size (tvV ⟨ah, nh, ch, az, ns, cz⟩) (.slice A n c) (.slice A2 p q)) (pwF w6.heap.size T (remL bo ot) (ovL T (worstT T) (remL bo ot))) (by kernel_rfl) (by kernel_rfl) (by kernel_rfl) (by kernel_rfl) (by kernel_rfl) (by kernel_rfl) ?_ (pwF_keep _ _ _ _) ?_ ?_
        · intro t ht
          simp only [List.mem_cons, List.not_mem_nil, or_false] at ht
          rcases ht with rfl | rfl | rfl <;> rfl
        · refine allOps_array ?_
          refine ⟨?_, ?_, ?_, ?_, ?_, ?_, ?_, ?_, ?_, ?_, ?_, ?_, trivial⟩ <;> intro g u hd_ <;> obtain ⟨q0, q1⟩ := box2 ((u.h.block _ (heapsz HZ6.out)).trans HZ6.out)
          · refine ⟨rfl, relQ 75 rfl trivial ?_⟩
            simp [go_sem, evalBy, rhoT, relOf, pw5Cv, tvV, q0, q1]
          · refine ⟨rfl, relQ 76 rfl trivial ?_⟩
            simp [go_sem, evalBy, rhoT, relOf, pw5Cv]
          · refine ⟨rfl, relQ 77 rfl trivial ?_⟩
            simp [go_sem, evalBy, rhoT, relOf, pw5Cv]
          · refine ⟨rfl, relC 30 #[.slice A n c, .slice A2 p q] (by simp [go_sem, evalBy, rhoT, relOf, pw5Cv]) ?_⟩
            refine (rwithout_any bo ot A A2 n c p q u.w HL.out HL2.out (by omega) HPN.out (RowAt.up HA6.out u.h) (RowAt.up HG6.out u.h)).mono ?_
            rintro e w' ⟨v, rfl, hb, hv⟩
            exact ⟨v, rfl, hb, hv.low u.h.size, fun e he hn => by injection he with he; subst he; exact absurd hn (by simp [relOf])⟩
          · refine ⟨rfl, relQ 79 rfl trivial ?_⟩
            simp [go_sem, evalBy, rhoT, relOf, pw5Cv, tvV, q0, q1]
          · refine ⟨rfl, relC 31 #[tvV ⟨ah, nh, ch, az, ns, cz⟩] (by simp [go_sem, evalBy, rhoT, relOf, pw5Cv]) ?_⟩
            refine (Worst_any _ T u.w (HN6.out.up u.h) HKC.out.1).mono ?_
            rintro e w' ⟨U, rfl, hb, hv⟩
            exact ⟨_, rfl, hb, ⟨U, rfl, hv⟩, fun e he hn => by injection he with he; subst he; exact absurd hn (by simp [relOf])⟩
          · have h3 : RowIs intR 3 w6.heap.size (remL bo ot) (g 3) u.w := hd_ ⟨3, .data⟩ (by simp) rfl
            obtain ⟨U, e5, h5⟩ : ∃ U, g 5 = uvV U ∧ TuAt u.w u.w.heap.size U (worstT T) := hd_ ⟨5, .data⟩ (by simp) rfl
            obtain ⟨A3, c3, e3⟩ := h3.len
            rw [e3] at h3
            refine ⟨rfl, relC 26 #[tvV ⟨ah, nh, ch, az, ns, cz⟩, g 3, g 5] (by simp [go_sem, evalBy, rhoT, relOf, pw5Cv]) ?_⟩
            rw [e3, e5]
            refine (Play_any _ T A3 _ c3 (remL bo ot) U (worstT T) u.w (HN6.out.up u.h) rfl (by have := HRL.out (ot); unfold maxLen; omega) (row_ints h3) h5).mono ?_
            rintro e w' ⟨v, rfl, hb, hv⟩
            rw [(HPE.out (ot)).1]
            rw [(HPE.out (ot)).2] at hv
            exact ⟨_, rfl, hb, ⟨v, rfl, hv.low u.h.size⟩, fun e he hn => by injection he with he; subst he; exact absurd hn (by simp [relOf])⟩
          · have h6 := hd_ ⟨6, .data⟩ (by simp) rfl
            refine ⟨rfl, relM (g 6) h6 (fun e he hn => by injection he with he; subst he; exact absurd hn (by simp [relOf])) ?_⟩
            simp [go_sem, evalBy, rhoT, relOf]
          · obtain ⟨r, e7, h7⟩ : ∃ r, g 7 = .tuple #[r, .int .i64 0] ∧ RowIs intR 3 w6.heap.size (ovL T (worstT T) (remL bo ot)) r u.w := hd_ ⟨7, .data⟩ (by simp) rfl
            refine ⟨rfl, relM r h7 (fun e he hn => by injection he with he; subst he; exact absurd hn (by simp [relOf])) ?_⟩
            simp [go_sem, evalBy, rhoT, relOf, e7]
          · obtain ⟨r, e7, h7⟩ : ∃ r, g 7 = .tuple #[r, .int .i64 0] ∧ RowIs intR 3 w6.heap.size (ovL T (worstT T) (remL bo ot)) r u.w := hd_ ⟨7, .data⟩ (by simp) rfl
            refine ⟨rfl, relQ 83 rfl trivial ?_⟩
            simp [go_sem, evalBy, rhoT, relOf, pw5Cv, e7]
          · have h8 := hd_ ⟨8, .data⟩ (by simp) rfl
            refine ⟨rfl, relM (g 8) h8 (fun e he hn => by injection he with he; subst he; exact absurd hn (by simp [relOf])) ?_⟩
            simp [go_sem, evalBy, rhoT, relOf]
          · refine ⟨rfl, relQ 14 rfl trivial ?_⟩
            simp [go_sem, evalBy, rhoT, relOf, pw5Cv]
        intro g u hf
        have h13 : RowIs intR 3 w6.heap.size (ovL T (worstT T) (remL bo ot)) (g 10) u.w := hf 10 (by decide)
        obtain ⟨A5, c5, e5⟩ := h13.len
        rw [e5] at h13
        rw [ovL_len, HNH.out] at h13 e5
        simp [putAll, Act.put, rhoT, relOf, pw5Cv, e5]
        have hb := u.h
        obtain ⟨w7, hwn⟩ : ∃ x, u.w = x := ⟨_, rfl⟩
        rw [hwn] at hb h13 ⊢
        have HQ7 := Lib.hid h13
        clear hwn h13 hf e5
        have HZ7 := Lib.hid ((hb.block _ (heapsz HZ6.out)).trans HZ6.out)
        have HB7 := Lib.hid (HB6.out.trans (hb.mono HB6.out.size))
        have HN7 := Lib.hid (HN6.out.up hb)
        have HA7 := Lib.hid (RowAt.up HA6.out hb)
        have HG7 := Lib.hid (RowAt.up HG6.out hb)
        have HR7 := Lib.hid (HR6.out.below hb)
        clear hb
        obtain ⟨v0, v1⟩ := box2 HZ7.out
        go_wp2_with fail
        refine (rcoolers_any _ T A4 ln c4 l _ HN7.out HLN.out (by unfold maxLen; omega) (row_ints HR7.out)).mono ?_
        rintro e w8 ⟨rfl, hb⟩
        have HZ8 := Lib.hid ((hb.block _ (heapsz HZ7.out)).trans HZ7.out)
        have HB8 := Lib.hid (HB7.out.trans (hb.mono HB7.out.size))
        have HN8 := Lib.hid (HN7.out.up hb)
        have HA8 := Lib.hid (RowAt.up HA7.out hb)
        have HG8 := Lib.hid (RowAt.up HG7.out hb)
        have HR8 := Lib.hid (HR7.out.below hb)
        have HQ8 := Lib.hid (HQ7.out.below hb)
        clear hb
        clear v0 v1
        obtain ⟨v0, v1⟩ := box2 HZ8.out
        rw [HLC.out]
        go_wp2_with fail
        refine (rwithout_any bo l A A4 n c ln c4 _ HL.out HLN.out (by omega) (by unfold maxLen; omega) HA8.out (row_ints HR8.out)).mono ?_
        rintro e w9 ⟨vz, rfl, hb, hr⟩
        obtain ⟨Az, cz2, rfl⟩ := hr.len
        have HY9 := Lib.hid hr
        have HZ9 := Lib.hid ((hb.block _ (heapsz HZ8.out)).trans HZ8.out)
        have HB9 := Lib.hid (HB8.out.trans (hb.mono HB8.out.size))
        have HN9 := Lib.hid (HN8.out.up hb)
        have HA9 := Lib.hid (RowAt.up HA8.out hb)
        have HG9 := Lib.hid (RowAt.up HG8.out hb)
        have HR9 := Lib.hid (HR8.out.below hb)
        have HQ9 := Lib.hid (HQ8.out.below hb)
        clear hb hr
        clear v0 v1
        obtain ⟨v0, v1⟩ := box2 HZ9.out
        obtain ⟨m, hm⟩ : ∃ z, (remL bo l).length = z := ⟨_, rfl⟩
        have hm2 : (m : Int) = (n : Int) - (ln : Int) := by have h1 := HRM.out; rw [hm, HL.out, HLN.out] at h1; exact h1
        have hwr2 : IntKind.i64.wrap ((n : Int) - (ln : Int)) = (m : Int) := by rw [hm2]; exact IntWalk.i64_in _ (by omega)
        rw [hm]
        clear hm hm2
        go_wp2_with fail
        clear hwr2
        clear v0 v1
        refine rel_region [4, 1, 10] [(152, 3), (154, 5), (155, 6), (148, 7), (156, 8), (16, 10)] (pw17Cv w.heap.size (tvV ⟨ah, nh, ch, az, ns, cz⟩) (.slice A n c) (.slice A4 ln c4)) (pwF w9.heap.size T (remL bo l) (ovL T (worstT T) (remL bo l))) (by kernel_rfl) (by kernel_rfl) (by kernel_rfl) (by kernel_rfl) (by kernel_rfl) (by kernel_rfl) ?_ (pwF_keep _ _ _ _) ?_ ?_
        · intro t ht
          simp only [List.mem_cons, List.not_mem_nil, or_false] at ht
          rcases ht with rfl | rfl | rfl <;> rfl
        · refine allOps_array ?_
          refine ⟨?_, ?_, ?_, ?_, ?_, ?_, ?_, ?_, ?_, ?_, ?_, ?_, trivial⟩ <;> intro g u hd_ <;> obtain ⟨q0, q1⟩ := box2 ((u.h.block _ (heapsz HZ9.out)).trans HZ9.out)
          · refine ⟨rfl, relQ 149 rfl trivial ?_⟩
            simp [go_sem, evalBy, rhoT, relOf, pw17Cv, tvV, q0, q1]
          · refine ⟨rfl, relQ 150 rfl trivial ?_⟩
            simp [go_sem, evalBy, rhoT, relOf, pw17Cv]
          · refine ⟨rfl, relQ 151 rfl trivial ?_⟩
            simp [go_sem, evalBy, rhoT, relOf, pw17Cv]
          · refine ⟨rfl, relC 30 #[.slice A n c, .slice A4 ln c4] (by simp [go_sem, evalBy, rhoT, relOf, pw17Cv]) ?_⟩
            refine (rwithout_any bo l A A4 n c ln c4 u.w HL.out HLN.out (by omega) (by unfold maxLen; omega) (RowAt.up HA9.out u.h) ((row_ints HR9.out).next u.h u.h.size)).mono ?_
            rintro e w' ⟨v, rfl, hb, hv⟩
            exact ⟨v, rfl, hb, hv.low u.h.size, fun e he hn => by injection he with he; subst he; exact absurd hn (by simp [relOf])⟩
          · refine ⟨rfl, relQ 153 rfl trivial ?_⟩
            simp [go_sem, evalBy, rhoT, relOf, pw17Cv, tvV, q0, q1]
          · refine ⟨rfl, relC 31 #[tvV ⟨ah, nh, ch, az, ns, cz⟩] (by simp [go_sem, evalBy, rhoT, relOf, pw17Cv]) ?_⟩
            refine (Worst_any _ T u.w (HN9.out.up u.h) HKC.out.1).mono ?_
            rintro e w' ⟨U, rfl, hb, hv⟩
            exact ⟨_, rfl, hb, ⟨U, rfl, hv⟩, fun e he hn => by injection he with he; subst he; exact absurd hn (by simp [relOf])⟩
          · have h3 : RowIs intR 3 w9.heap.size (remL bo l) (g 3) u.w := hd_ ⟨3, .data⟩ (by simp) rfl
            obtain ⟨U, e5, h5⟩ : ∃ U, g 5 = uvV U ∧ TuAt u.w u.w.heap.size U (worstT T) := hd_ ⟨5, .data⟩ (by simp) rfl
            obtain ⟨A3, c3, e3⟩ := h3.len
            rw [e3] at h3
            refine ⟨rfl, relC 26 #[tvV ⟨ah, nh, ch, az, ns, cz⟩, g 3, g 5] (by simp [go_sem, evalBy, rhoT, relOf, pw17Cv]) ?_⟩
            rw [e3, e5]
            refine (Play_any _ T A3 _ c3 (remL bo l) U (worstT T) u.w (HN9.out.up u.h) rfl (by have := HRL.out (l); unfold maxLen; omega) (row_ints h3) h5).mono ?_
            rintro e w' ⟨v, rfl, hb, hv⟩
            rw [(HPE.out (l)).1]
            rw [(HPE.out (l)).2] at hv
            exact ⟨_, rfl, hb, ⟨v, rfl, hv.low u.h.size⟩, fun e he hn => by injection he with he; subst he; exact absurd hn (by simp [relOf])⟩
          · have h6 := hd_ ⟨6, .data⟩ (by simp) rfl
            refine ⟨rfl, relM (g 6) h6 (fun e he hn => by injection he with he; subst he; exact absurd hn (by simp [relOf])) ?_⟩
            simp [go_sem, evalBy, rhoT, relOf]
          · obtain ⟨r, e7, h7⟩ : ∃ r, g 7 = .tuple #[r, .int .i64 0] ∧ RowIs intR 3 w9.heap.size (ovL T (worstT T) (remL bo l)) r u.w := hd_ ⟨7, .data⟩ (by simp) rfl
            refine ⟨rfl, relM r h7 (fun e he hn => by injection he with he; subst he; exact absurd hn (by simp [relOf])) ?_⟩
            simp [go_sem, evalBy, rhoT, relOf, e7]
          · obtain ⟨r, e7, h7⟩ : ∃ r, g 7 = .tuple #[r, .int .i64 0] ∧ RowIs intR 3 w9.heap.size (ovL T (worstT T) (remL bo l)) r u.w := hd_ ⟨7, .data⟩ (by simp) rfl
            refine ⟨rfl, relQ 157 rfl trivial ?_⟩
            simp [go_sem, evalBy, rhoT, relOf, pw17Cv, e7]
          · have h8 := hd_ ⟨8, .data⟩ (by simp) rfl
            refine ⟨rfl, relM (g 8) h8 (fun e he hn => by injection he with he; subst he; exact absurd hn (by simp [relOf])) ?_⟩
            simp [go_sem, evalBy, rhoT, relOf]
          · refine ⟨rfl, relQ 17 rfl trivial ?_⟩
            simp [go_sem, evalBy, rhoT, relOf, pw17Cv]
        intro g u hf
        have h13 : RowIs intR 3 w9.heap.size (ovL T (worstT T) (remL bo l)) (g 10) u.w := hf 10 (by decide)
        obtain ⟨A6, c6, e5⟩ := h13.len
        rw [e5] at h13
        rw [ovL_len, HNH.out] at h13 e5
        simp [putAll, Act.put, rhoT, relOf, pw17Cv, e5]
        have hb := u.h
        obtain ⟨w10, hwn⟩ : ∃ x, u.w = x := ⟨_, rfl⟩
        rw [hwn] at hb h13 ⊢
        have HP10 := Lib.hid h13
        clear hwn h13 hf e5
        have HZ10 := Lib.hid ((hb.block _ (heapsz HZ9.out)).trans HZ9.out)
        have HB10 := Lib.hid (HB9.out.trans (hb.mono HB9.out.size))
        have HN10 := Lib.hid (HN9.out.up hb)
        have HA10 := Lib.hid (RowAt.up HA9.out hb)
        have HG10 := Lib.hid (RowAt.up HG9.out hb)
        have HR10 := Lib.hid (HR9.out.below hb)
        have HQ10 := Lib.hid (HQ9.out.below hb)
        clear hb
        obtain ⟨v0, v1⟩ := box2 HZ10.out
        have k3 : (0 : Int) ≤ (h : Int) := by omega
        have k4 : (h : Int) < (nh : Int) := by omega
        have hltT : h < T.hs.length := by have h1 : T.hs.length = nh := HNH.out; omega
        have hget : (ovL T (worstT T) (remL bo l))[h]? = some (ovV (worstT T) (remL bo l) h) := by
          unfold ovL
          rw [List.getElem?_map, List.getElem?_range hltT]
          rfl
        obtain ⟨b8, o8, rfl, _, c8⟩ := ints_el (row_ints HP10.out) hget
        have h9 := HNG.out
        obtain ⟨y, hy⟩ : ∃ y, ovV (worstT T) (remL bo l) h = y := ⟨_, rfl⟩
        rw [hy] at c8 h9
        have h10 : ¬ 0 ≤ y := by omega
        clear hget hy hltT
        go_wp2_with fail
        clear c8 h9 h10
        clear v0 v1
        go_loopw [18] (fun ii wr => ∃ k : Nat, k ≤ h ∧ ii = .int .i64 k ∧ wr = w10) (fun ii _ => h - (intOf ii).toNat)
        case atStart => exact ⟨0, by omega, rfl, rfl⟩
        case round =>
          obtain ⟨k, hk, rfl, rfl⟩ := hrel
          by_cases hlt : k < h
          · have k3 : (0 : Int) ≤ (k : Int) := by omega
            have k4 : (k : Int) < (h : Int) := by omega
            have k4n : (k : Int) < (nh : Int) := by omega
            have hltT : k < T.hs.length := by have h1 : T.hs.length = nh := HNH.out; omega
            have hget : (ovL T (worstT T) (remL bo ot))[k]? = some (ovV (worstT T) (remL bo ot) k) := by
              unfold ovL
              rw [List.getElem?_map, List.getElem?_range hltT]
              rfl
            obtain ⟨b9, o9, rfl, _, c9⟩ := ints_el (row_ints HQ10.out) hget
            have h9 := HOV.out.1 k hlt
            obtain ⟨y, hy⟩ : ∃ y, ovV (worstT T) (remL bo ot) k = y := ⟨_, rfl⟩
            rw [hy] at c9 h9
            have h10 : ¬ y < 0 := by omega
            clear hget hy
            go_wp2_with fail
            exact ⟨⟨k + 1, by omega, rfl, (by first | rfl | trivial)⟩, by simp [intOf]; omega⟩
          · obtain rfl : h = k := by omega
            have k4 : ¬ (h : Int) < (h : Int) := by omega
            clear hk hlt
            have hltT : h < T.hs.length := by have h1 : T.hs.length = nh := HNH.out; omega
            have hget : (ovL T (worstT T) (remL bo ot))[h]? = some (ovV (worstT T) (remL bo ot) h) := by
              unfold ovL
              rw [List.getElem?_map, List.getElem?_range hltT]
              rfl
            obtain ⟨b9, o9, rfl, _, c9⟩ := ints_el (row_ints HQ10.out) hget
            have HP3 := HOV.out.2
            obtain ⟨y, hy⟩ : ∃ y, ovV (worstT T) (remL bo ot) h = y := ⟨_, rfl⟩
            rw [hy] at c9 HP3
            clear hget hy hltT
            by_cases h0 : 0 ≤ y
            · clear HP3
              go_wp2_with fail
              refine (known_any _).mono ?_
              rintro e wk ⟨rfl, hbk⟩
              have HBK := Lib.hid (HB10.out.trans (hbk.mono HB10.out.size))
              clear hbk
              go_wp2_with fail
              go_ret
              exact ⟨rfl, HBK.out⟩
            have HP4 := Lib.hid (HP3 (by omega))
            clear HP3
            by_cases h3 : (ln : Int) < (p : Int)
            · go_wp2_with fail
              refine (known_any _).mono ?_
              rintro e wk ⟨rfl, hbk⟩
              have HBK := Lib.hid (HB10.out.trans (hbk.mono HB10.out.size))
              clear hbk
              go_wp2_with fail
              go_ret
              exact ⟨rfl, HBK.out⟩
            obtain ⟨h4, h5⟩ : p = ln ∧ befB ot l = false := by
              have e1 := HL2.out
              have e2 := HLN.out
              rcases HP4.out with h | ⟨h, k⟩
              · omega
              · exact ⟨by omega, k⟩
            subst h4
            have H5 := Lib.hid h5
            clear h5
            go_wp2_with fail
            refine (before_any ot l A2 A4 p q p c4 _ HL2.out HLN.out (by omega) HG10.out (row_ints HR10.out)).mono ?_
            rintro e w11 ⟨rfl, hb⟩
            have HZ11 := Lib.hid ((hb.block _ (heapsz HZ10.out)).trans HZ10.out)
            have HB11 := Lib.hid (HB10.out.trans (hb.mono HB10.out.size))
            have HN11 := Lib.hid (HN10.out.up hb)
            have HA11 := Lib.hid (RowAt.up HA10.out hb)
            have HG11 := Lib.hid (RowAt.up HG10.out hb)
            have HR11 := Lib.hid (HR10.out.below hb)
            have HQ11 := Lib.hid (HQ10.out.below hb)
            have HP11 := Lib.hid (HP10.out.below hb)
            clear hb
            rw [H5.out]
            go_wp2_with fail
            refine (known_any _).mono ?_
            rintro e wk ⟨rfl, hbk⟩
            have HBK := Lib.hid (HB11.out.trans (hbk.mono HB11.out.size))
            clear hbk
            go_wp2_with fail
            go_ret
            exact ⟨rfl, HBK.out⟩
      · have hmn2 : ((m : Int) == (n : Int) - (p : Int)) = false := beq_eq_false_iff_ne.2 hmn
        go_wp2_with fail
        clear v0 v1
        refine rel_region [4, 1, 3] [(78, 3), (80, 5), (81, 6), (74, 7), (82, 8), (13, 10)] (pw5Cv w.heap.size (tvV ⟨ah, nh, ch, az, ns, cz⟩) (.slice A n c) (.slice A2 p q)) (pwF w6.heap.size T (remL bo ot) (ovL T (worstT T) (remL bo ot))) (by kernel_rfl) (by kernel_rfl) (by kernel_rfl) (by kernel_rfl) (by kernel_rfl) (by kernel_rfl) ?_ (pwF_keep _ _ _ _) ?_ ?_
        · intro t ht
          simp only [List.mem_cons, List.not_mem_nil, or_false] at ht
          rcases ht with rfl | rfl | rfl <;> rfl
        · refine allOps_array ?_
          refine ⟨?_, ?_, ?_, ?_, ?_, ?_, ?_, ?_, ?_, ?_, ?_, ?_, trivial⟩ <;> intro g u hd_ <;> obtain ⟨q0, q1⟩ := box2 ((u.h.block _ (heapsz HZ6.out)).trans HZ6.out)
          · refine ⟨rfl, relQ 75 rfl trivial ?_⟩
            simp [go_sem, evalBy, rhoT, relOf, pw5Cv, tvV, q0, q1]
          · refine ⟨rfl, relQ 76 rfl trivial ?_⟩
            simp [go_sem, evalBy, rhoT, relOf, pw5Cv]
          · refine ⟨rfl, relQ 77 rfl trivial ?_⟩
            simp [go_sem, evalBy, rhoT, relOf, pw5Cv]
          · refine ⟨rfl, relC 30 #[.slice A n c, .slice A2 p q] (by simp [go_sem, evalBy, rhoT, relOf, pw5Cv]) ?_⟩
            refine (rwithout_any bo ot A A2 n c p q u.w HL.out HL2.out (by omega) HPN.out (RowAt.up HA6.out u.h) (RowAt.up HG6.out u.h)).mono ?_
            rintro e w' ⟨v, rfl, hb, hv⟩
            exact ⟨v, rfl, hb, hv.low u.h.size, fun e he hn => by injection he with he; subst he; exact absurd hn (by simp [relOf])⟩
          · refine ⟨rfl, relQ 79 rfl trivial ?_⟩
            simp [go_sem, evalBy, rhoT, relOf, pw5Cv, tvV, q0, q1]
          · refine ⟨rfl, relC 31 #[tvV ⟨ah, nh, ch, az, ns, cz⟩] (by simp [go_sem, evalBy, rhoT, relOf, pw5Cv]) ?_⟩
            refine (Worst_any _ T u.w (HN6.out.up u.h) HKC.out.1).mono ?_
            rintro e w' ⟨U, rfl, hb, hv⟩
            exact ⟨_, rfl, hb, ⟨U, rfl, hv⟩, fun e he hn => by injection he with he; subst he; exact absurd hn (by simp [relOf])⟩
          · have h3 : RowIs intR 3 w6.heap.size (remL bo ot) (g 3) u.w := hd_ ⟨3, .data⟩ (by simp) rfl
            obtain ⟨U, e5, h5⟩ : ∃ U, g 5 = uvV U ∧ TuAt u.w u.w.heap.size U (worstT T) := hd_ ⟨5, .data⟩ (by simp) rfl
            obtain ⟨A3, c3, e3⟩ := h3.len
            rw [e3] at h3
            refine ⟨rfl, relC 26 #[tvV ⟨ah, nh, ch, az, ns, cz⟩, g 3, g 5] (by simp [go_sem, evalBy, rhoT, relOf, pw5Cv]) ?_⟩
            rw [e3, e5]
            refine (Play_any _ T A3 _ c3 (remL bo ot) U (worstT T) u.w (HN6.out.up u.h) rfl (by have := HRL.out (ot); unfold maxLen; omega) (row_ints h3) h5).mono ?_
            rintro e w' ⟨v, rfl, hb, hv⟩
            rw [(HPE.out (ot)).1]
            rw [(HPE.out (ot)).2] at hv
            exact ⟨_, rfl, hb, ⟨v, rfl, hv.low u.h.size⟩, fun e he hn => by injection he with he; subst he; exact absurd hn (by simp [relOf])⟩
          · have h6 := hd_ ⟨6, .data⟩ (by simp) rfl
            refine ⟨rfl, relM (g 6) h6 (fun e he hn => by injection he with he; subst he; exact absurd hn (by simp [relOf])) ?_⟩
            simp [go_sem, evalBy, rhoT, relOf]
          · obtain ⟨r, e7, h7⟩ : ∃ r, g 7 = .tuple #[r, .int .i64 0] ∧ RowIs intR 3 w6.heap.size (ovL T (worstT T) (remL bo ot)) r u.w := hd_ ⟨7, .data⟩ (by simp) rfl
            refine ⟨rfl, relM r h7 (fun e he hn => by injection he with he; subst he; exact absurd hn (by simp [relOf])) ?_⟩
            simp [go_sem, evalBy, rhoT, relOf, e7]
          · obtain ⟨r, e7, h7⟩ : ∃ r, g 7 = .tuple #[r, .int .i64 0] ∧ RowIs intR 3 w6.heap.size (ovL T (worstT T) (remL bo ot)) r u.w := hd_ ⟨7, .data⟩ (by simp) rfl
            refine ⟨rfl, relQ 83 rfl trivial ?_⟩
            simp [go_sem, evalBy, rhoT, relOf, pw5Cv, e7]
          · have h8 := hd_ ⟨8, .data⟩ (by simp) rfl
            refine ⟨rfl, relM (g 8) h8 (fun e he hn => by injection he with he; subst he; exact absurd hn (by simp [relOf])) ?_⟩
            simp [go_sem, evalBy, rhoT, relOf]
          · refine ⟨rfl, relQ 14 rfl trivial ?_⟩
            simp [go_sem, evalBy, rhoT, relOf, pw5Cv]
        intro g u hf
        have h13 : RowIs intR 3 w6.heap.size (ovL T (worstT T) (remL bo ot)) (g 10) u.w := hf 10 (by decide)
        obtain ⟨A5, c5, e5⟩ := h13.len
        rw [e5] at h13
        rw [ovL_len, HNH.out] at h13 e5
        simp [putAll, Act.put, rhoT, relOf, pw5Cv, e5]
        have hb := u.h
        obtain ⟨w7, hwn⟩ : ∃ x, u.w = x := ⟨_, rfl⟩
        rw [hwn] at hb h13 ⊢
        have HQ7 := Lib.hid h13
        clear hwn h13 hf e5
        have HZ7 := Lib.hid ((hb.block _ (heapsz HZ6.out)).trans HZ6.out)
        have HB7 := Lib.hid (HB6.out.trans (hb.mono HB6.out.size))
        have HN7 := Lib.hid (HN6.out.up hb)
        have HA7 := Lib.hid (RowAt.up HA6.out hb)
        have HG7 := Lib.hid (RowAt.up HG6.out hb)
        have HR7 := Lib.hid (HR6.out.below hb)
        clear hb
        obtain ⟨v0, v1⟩ := box2 HZ7.out
        go_wp2_with fail
        refine (rcoolers_any _ T A4 ln c4 l _ HN7.out HLN.out (by unfold maxLen; omega) (row_ints HR7.out)).mono ?_
        rintro e w8 ⟨rfl, hb⟩
        have HZ8 := Lib.hid ((hb.block _ (heapsz HZ7.out)).trans HZ7.out)
        have HB8 := Lib.hid (HB7.out.trans (hb.mono HB7.out.size))
        have HN8 := Lib.hid (HN7.out.up hb)
        have HA8 := Lib.hid (RowAt.up HA7.out hb)
        have HG8 := Lib.hid (RowAt.up HG7.out hb)
        have HR8 := Lib.hid (HR7.out.below hb)
        have HQ8 := Lib.hid (HQ7.out.below hb)
        clear hb
        clear v0 v1
        obtain ⟨v0, v1⟩ := box2 HZ8.out
        rw [HLC.out]
        go_wp2_with fail
        refine (rwithout_any bo l A A4 n c ln c4 _ HL.out HLN.out (by omega) (by unfold maxLen; omega) HA8.out (row_ints HR8.out)).mono ?_
        rintro e w9 ⟨vz, rfl, hb, hr⟩
        obtain ⟨Az, cz2, rfl⟩ := hr.len
        have HY9 := Lib.hid hr
        have HZ9 := Lib.hid ((hb.block _ (heapsz HZ8.out)).trans HZ8.out)
        have HB9 := Lib.hid (HB8.out.trans (hb.mono HB8.out.size))
        have HN9 := Lib.hid (HN8.out.up hb)
        have HA9 := Lib.hid (RowAt.up HA8.out hb)
        have HG9 := Lib.hid (RowAt.up HG8.out hb)
        have HR9 := Lib.hid (HR8.out.below hb)
        have HQ9 := Lib.hid (HQ8.out.below hb)
        clear hb hr
        clear v0 v1
        obtain ⟨v0, v1⟩ := box2 HZ9.out
        obtain ⟨m, hm⟩ : ∃ z, (remL bo l).length = z := ⟨_, rfl⟩
        have hm2 : (m : Int) = (n : Int) - (ln : Int) := by have h1 := HRM.out; rw [hm, HL.out, HLN.out] at h1; exact h1
        have hwr2 : IntKind.i64.wrap ((n : Int) - (ln : Int)) = (m : Int) := by rw [hm2]; exact IntWalk.i64_in _ (by omega)
        rw [hm]
        clear hm hm2
        go_wp2_with fail
        clear hwr2
        clear v0 v1
        refine rel_region [4, 1, 10] [(152, 3), (154, 5), (155, 6), (148, 7), (156, 8), (16, 10)] (pw17Cv w.heap.size (tvV ⟨ah, nh, ch, az, ns, cz⟩) (.slice A n c) (.slice A4 ln c4)) (pwF w9.heap.size T (remL bo l) (ovL T (worstT T) (remL bo l))) (by kernel_rfl) (by kernel_rfl) (by kernel_rfl) (by kernel_rfl) (by kernel_rfl) (by kernel_rfl) ?_ (pwF_keep _ _ _ _) ?_ ?_
        · intro t ht
          simp only [List.mem_cons, List.not_mem_nil, or_false] at ht
          rcases ht with rfl | rfl | rfl <;> rfl
        · refine allOps_array ?_
          refine ⟨?_, ?_, ?_, ?_, ?_, ?_, ?_, ?_, ?_, ?_, ?_, ?_, trivial⟩ <;> intro g u hd_ <;> obtain ⟨q0, q1⟩ := box2 ((u.h.block _ (heapsz HZ9.out)).trans HZ9.out)
          · refine ⟨rfl, relQ 149 rfl trivial ?_⟩
            simp [go_sem, evalBy, rhoT, relOf, pw17Cv, tvV, q0, q1]
          · refine ⟨rfl, relQ 150 rfl trivial ?_⟩
            simp [go_sem, evalBy, rhoT, relOf, pw17Cv]
          · refine ⟨rfl, relQ 151 rfl trivial ?_⟩
            simp [go_sem, evalBy, rhoT, relOf, pw17Cv]
          · refine ⟨rfl, relC 30 #[.slice A n c, .slice A4 ln c4] (by simp [go_sem, evalBy, rhoT, relOf, pw17Cv]) ?_⟩
            refine (rwithout_any bo l A A4 n c ln c4 u.w HL.out HLN.out (by omega) (by unfold maxLen; omega) (RowAt.up HA9.out u.h) ((row_ints HR9.out).next u.h u.h.size)).mono ?_
            rintro e w' ⟨v, rfl, hb, hv⟩
            exact ⟨v, rfl, hb, hv.low u.h.size, fun e he hn => by injection he with he; subst he; exact absurd hn (by simp [relOf])⟩
          · refine ⟨rfl, relQ 153 rfl trivial ?_⟩
            simp [go_sem, evalBy, rhoT, relOf, pw17Cv, tvV, q0, q1]
          · refine ⟨rfl, relC 31 #[tvV ⟨ah, nh, ch, az, ns, cz⟩] (by simp [go_sem, evalBy, rhoT, relOf, pw17Cv]) ?_⟩
            refine (Worst_any _ T u.w (HN9.out.up u.h) HKC.out.1).mono ?_
            rintro e w' ⟨U, rfl, hb, hv⟩
            exact ⟨_, rfl, hb, ⟨U, rfl, hv⟩, fun e he hn => by injection he with he; subst he; exact absurd hn (by simp [relOf])⟩
          · have h3 : RowIs intR 3 w9.heap.size (remL bo l) (g 3) u.w := hd_ ⟨3, .data⟩ (by simp) rfl
            obtain ⟨U, e5, h5⟩ : ∃ U, g 5 = uvV U ∧ TuAt u.w u.w.heap.size U (worstT T) := hd_ ⟨5, .data⟩ (by simp) rfl
            obtain ⟨A3, c3, e3⟩ := h3.len
            rw [e3] at h3
            refine ⟨rfl, relC 26 #[tvV ⟨ah, nh, ch, az, ns, cz⟩, g 3, g 5] (by simp [go_sem, evalBy, rhoT, relOf, pw17Cv]) ?_⟩
            rw [e3, e5]
            refine (Play_any _ T A3 _ c3 (remL bo l) U (worstT T) u.w (HN9.out.up u.h) rfl (by have := HRL.out (l); unfold maxLen; omega) (row_ints h3) h5).mono ?_
            rintro e w' ⟨v, rfl, hb, hv⟩
            rw [(HPE.out (l)).1]
            rw [(HPE.out (l)).2] at hv
            exact ⟨_, rfl, hb, ⟨v, rfl, hv.low u.h.size⟩, fun e he hn => by injection he with he; subst he; exact absurd hn (by simp [relOf])⟩
          · have h6 := hd_ ⟨6, .data⟩ (by simp) rfl
            refine ⟨rfl, relM (g 6) h6 (fun e he hn => by injection he with he; subst he; exact absurd hn (by simp [relOf])) ?_⟩
            simp [go_sem, evalBy, rhoT, relOf]
          · obtain ⟨r, e7, h7⟩ : ∃ r, g 7 = .tuple #[r, .int .i64 0] ∧ RowIs intR 3 w9.heap.size (ovL T (worstT T) (remL bo l)) r u.w := hd_ ⟨7, .data⟩ (by simp) rfl
            refine ⟨rfl, relM r h7 (fun e he hn => by injection he with he; subst he; exact absurd hn (by simp [relOf])) ?_⟩
            simp [go_sem, evalBy, rhoT, relOf, e7]
          · obtain ⟨r, e7, h7⟩ : ∃ r, g 7 = .tuple #[r, .int .i64 0] ∧ RowIs intR 3 w9.heap.size (ovL T (worstT T) (remL bo l)) r u.w := hd_ ⟨7, .data⟩ (by simp) rfl
            refine ⟨rfl, relQ 157 rfl trivial ?_⟩
            simp [go_sem, evalBy, rhoT, relOf, pw17Cv, e7]
          · have h8 := hd_ ⟨8, .data⟩ (by simp) rfl
            refine ⟨rfl, relM (g 8) h8 (fun e he hn => by injection he with he; subst he; exact absurd hn (by simp [relOf])) ?_⟩
            simp [go_sem, evalBy, rhoT, relOf]
          · refine ⟨rfl, relQ 17 rfl trivial ?_⟩
            simp [go_sem, evalBy, rhoT, relOf, pw17Cv]
        intro g u hf
        have h13 : RowIs intR 3 w9.heap.size (ovL T (worstT T) (remL bo l)) (g 10) u.w := hf 10 (by decide)
        obtain ⟨A6, c6, e5⟩ := h13.len
        rw [e5] at h13
        rw [ovL_len, HNH.out] at h13 e5
        simp [putAll, Act.put, rhoT, relOf, pw17Cv, e5]
        have hb := u.h
        obtain ⟨w10, hwn⟩ : ∃ x, u.w = x := ⟨_, rfl⟩
        rw [hwn] at hb h13 ⊢
        have HP10 := Lib.hid h13
        clear hwn h13 hf e5
        have HZ10 := Lib.hid ((hb.block _ (heapsz HZ9.out)).trans HZ9.out)
        have HB10 := Lib.hid (HB9.out.trans (hb.mono HB9.out.size))
        have HN10 := Lib.hid (HN9.out.up hb)
        have HA10 := Lib.hid (RowAt.up HA9.out hb)
        have HG10 := Lib.hid (RowAt.up HG9.out hb)
        have HR10 := Lib.hid (HR9.out.below hb)
        have HQ10 := Lib.hid (HQ9.out.below hb)
        clear hb
        obtain ⟨v0, v1⟩ := box2 HZ10.out
        have k3 : (0 : Int) ≤ (h : Int) := by omega
        have k4 : (h : Int) < (nh : Int) := by omega
        have hltT : h < T.hs.length := by have h1 : T.hs.length = nh := HNH.out; omega
        have hget : (ovL T (worstT T) (remL bo l))[h]? = some (ovV (worstT T) (remL bo l) h) := by
          unfold ovL
          rw [List.getElem?_map, List.getElem?_range hltT]
          rfl
        obtain ⟨b8, o8, rfl, _, c8⟩ := ints_el (row_ints HP10.out) hget
        have h9 := HNG.out
        obtain ⟨y, hy⟩ : ∃ y, ovV (worstT T) (remL bo l) h = y := ⟨_, rfl⟩
        rw [hy] at c8 h9
        have h10 : ¬ 0 ≤ y := by omega
        clear hget hy hltT
        go_wp2_with fail
        refine (known_any _).mono ?_
        rintro e wk ⟨rfl, hbk⟩
        have HBK := Lib.hid (HB10.out.trans (hbk.mono HB10.out.size))
        clear hbk
        go_wp2_with fail
        go_ret
        exact ⟨rfl, HBK.out⟩
    · go_wp2_with fail
      clear v0 v1
      refine rel_region [4, 1, 3] [(78, 3), (80, 5), (81, 6), (74, 7), (82, 8), (13, 10)] (pw5Cv w.heap.size (tvV ⟨ah, nh, ch, az, ns, cz⟩) (.slice A n c) (.slice A2 p q)) (pwF w5.heap.size T (remL bo ot) (ovL T (worstT T) (remL bo ot))) (by kernel_rfl) (by kernel_rfl) (by kernel_rfl) (by kernel_rfl) (by kernel_rfl) (by kernel_rfl) ?_ (pwF_keep _ _ _ _) ?_ ?_
      · intro t ht
        simp only [List.mem_cons, List.not_mem_nil, or_false] at ht
        rcases ht with rfl | rfl | rfl <;> rfl
      · refine allOps_array ?_
        refine ⟨?_, ?_, ?_, ?_, ?_, ?_, ?_, ?_, ?_, ?_, ?_, ?_, trivial⟩ <;> intro g u hd_ <;> obtain ⟨q0, q1⟩ := box2 ((u.h.block _ (heapsz HZ5.out)).trans HZ5.out)
        · refine ⟨rfl, relQ 75 rfl trivial ?_⟩
          simp [go_sem, evalBy, rhoT, relOf, pw5Cv, tvV, q0, q1]
        · refine ⟨rfl, relQ 76 rfl trivial ?_⟩
          simp [go_sem, evalBy, rhoT, relOf, pw5Cv]
        · refine ⟨rfl, relQ 77 rfl trivial ?_⟩
          simp [go_sem, evalBy, rhoT, relOf, pw5Cv]
        · refine ⟨rfl, relC 30 #[.slice A n c, .slice A2 p q] (by simp [go_sem, evalBy, rhoT, relOf, pw5Cv]) ?_⟩
          refine (rwithout_any bo ot A A2 n c p q u.w HL.out HL2.out (by omega) HPN.out (RowAt.up HA5.out u.h) (RowAt.up HG5.out u.h)).mono ?_
          rintro e w' ⟨v, rfl, hb, hv⟩
          exact ⟨v, rfl, hb, hv.low u.h.size, fun e he hn => by injection he with he; subst he; exact absurd hn (by simp [relOf])⟩
        · refine ⟨rfl, relQ 79 rfl trivial ?_⟩
          simp [go_sem, evalBy, rhoT, relOf, pw5Cv, tvV, q0, q1]
        · refine ⟨rfl, relC 31 #[tvV ⟨ah, nh, ch, az, ns, cz⟩] (by simp [go_sem, evalBy, rhoT, relOf, pw5Cv]) ?_⟩
          refine (Worst_any _ T u.w (HN5.out.up u.h) HKC.out.1).mono ?_
          rintro e w' ⟨U, rfl, hb, hv⟩
          exact ⟨_, rfl, hb, ⟨U, rfl, hv⟩, fun e he hn => by injection he with he; subst he; exact absurd hn (by simp [relOf])⟩
        · have h3 : RowIs intR 3 w5.heap.size (remL bo ot) (g 3) u.w := hd_ ⟨3, .data⟩ (by simp) rfl
          obtain ⟨U, e5, h5⟩ : ∃ U, g 5 = uvV U ∧ TuAt u.w u.w.heap.size U (worstT T) := hd_ ⟨5, .data⟩ (by simp) rfl
          obtain ⟨A3, c3, e3⟩ := h3.len
          rw [e3] at h3
          refine ⟨rfl, relC 26 #[tvV ⟨ah, nh, ch, az, ns, cz⟩, g 3, g 5] (by simp [go_sem, evalBy, rhoT, relOf, pw5Cv]) ?_⟩
          rw [e3, e5]
          refine (Play_any _ T A3 _ c3 (remL bo ot) U (worstT T) u.w (HN5.out.up u.h) rfl (by have := HRL.out (ot); unfold maxLen; omega) (row_ints h3) h5).mono ?_
          rintro e w' ⟨v, rfl, hb, hv⟩
          rw [(HPE.out (ot)).1]
          rw [(HPE.out (ot)).2] at hv
          exact ⟨_, rfl, hb, ⟨v, rfl, hv.low u.h.size⟩, fun e he hn => by injection he with he; subst he; exact absurd hn (by simp [relOf])⟩
        · have h6 := hd_ ⟨6, .data⟩ (by simp) rfl
          refine ⟨rfl, relM (g 6) h6 (fun e he hn => by injection he with he; subst he; exact absurd hn (by simp [relOf])) ?_⟩
          simp [go_sem, evalBy, rhoT, relOf]
        · obtain ⟨r, e7, h7⟩ : ∃ r, g 7 = .tuple #[r, .int .i64 0] ∧ RowIs intR 3 w5.heap.size (ovL T (worstT T) (remL bo ot)) r u.w := hd_ ⟨7, .data⟩ (by simp) rfl
          refine ⟨rfl, relM r h7 (fun e he hn => by injection he with he; subst he; exact absurd hn (by simp [relOf])) ?_⟩
          simp [go_sem, evalBy, rhoT, relOf, e7]
        · obtain ⟨r, e7, h7⟩ : ∃ r, g 7 = .tuple #[r, .int .i64 0] ∧ RowIs intR 3 w5.heap.size (ovL T (worstT T) (remL bo ot)) r u.w := hd_ ⟨7, .data⟩ (by simp) rfl
          refine ⟨rfl, relQ 83 rfl trivial ?_⟩
          simp [go_sem, evalBy, rhoT, relOf, pw5Cv, e7]
        · have h8 := hd_ ⟨8, .data⟩ (by simp) rfl
          refine ⟨rfl, relM (g 8) h8 (fun e he hn => by injection he with he; subst he; exact absurd hn (by simp [relOf])) ?_⟩
          simp [go_sem, evalBy, rhoT, relOf]
        · refine ⟨rfl, relQ 14 rfl trivial ?_⟩
          simp [go_sem, evalBy, rhoT, relOf, pw5Cv]
      intro g u hf
      have h13 : RowIs intR 3 w5.heap.size (ovL T (worstT T) (remL bo ot)) (g 10) u.w := hf 10 (by decide)
      obtain ⟨A5, c5, e5⟩ := h13.len
      rw [e5] at h13
      rw [ovL_len, HNH.out] at h13 e5
      simp [putAll, Act.put, rhoT, relOf, pw5Cv, e5]
      have hb := u.h
      obtain ⟨w6, hwn⟩ : ∃ x, u.w = x := ⟨_, rfl⟩
      rw [hwn] at hb h13 ⊢
      have HQ6 := Lib.hid h13
      clear hwn h13 hf e5
      have HZ6 := Lib.hid ((hb.block _ (heapsz HZ5.out)).trans HZ5.out)
      have HB6 := Lib.hid (HB5.out.trans (hb.mono HB5.out.size))
      have HN6 := Lib.hid (HN5.out.up hb)
      have HA6 := Lib.hid (RowAt.up HA5.out hb)
      have HG6 := Lib.hid (RowAt.up HG5.out hb)
      have HR6 := Lib.hid (HR5.out.below hb)
      clear hb
      obtain ⟨v0, v1⟩ := box2 HZ6.out
      go_wp2_with fail
      refine (rcoolers_any _ T A4 ln c4 l _ HN6.out HLN.out (by unfold maxLen; omega) (row_ints HR6.out)).mono ?_
      rintro e w7 ⟨rfl, hb⟩
      have HZ7 := Lib.hid ((hb.block _ (heapsz HZ6.out)).trans HZ6.out)
      have HB7 := Lib.hid (HB6.out.trans (hb.mono HB6.out.size))
      have HN7 := Lib.hid (HN6.out.up hb)
      have HA7 := Lib.hid (RowAt.up HA6.out hb)
      have HG7 := Lib.hid (RowAt.up HG6.out hb)
      have HR7 := Lib.hid (HR6.out.below hb)
      have HQ7 := Lib.hid (HQ6.out.below hb)
      clear hb
      clear v0 v1
      obtain ⟨v0, v1⟩ := box2 HZ7.out
      rw [HLC.out]
      go_wp2_with fail
      refine (rwithout_any bo l A A4 n c ln c4 _ HL.out HLN.out (by omega) (by unfold maxLen; omega) HA7.out (row_ints HR7.out)).mono ?_
      rintro e w8 ⟨vz, rfl, hb, hr⟩
      obtain ⟨Az, cz2, rfl⟩ := hr.len
      have HY8 := Lib.hid hr
      have HZ8 := Lib.hid ((hb.block _ (heapsz HZ7.out)).trans HZ7.out)
      have HB8 := Lib.hid (HB7.out.trans (hb.mono HB7.out.size))
      have HN8 := Lib.hid (HN7.out.up hb)
      have HA8 := Lib.hid (RowAt.up HA7.out hb)
      have HG8 := Lib.hid (RowAt.up HG7.out hb)
      have HR8 := Lib.hid (HR7.out.below hb)
      have HQ8 := Lib.hid (HQ7.out.below hb)
      clear hb hr
      clear v0 v1
      obtain ⟨v0, v1⟩ := box2 HZ8.out
      obtain ⟨m, hm⟩ : ∃ z, (remL bo l).length = z := ⟨_, rfl⟩
      have hm2 : (m : Int) = (n : Int) - (ln : Int) := by have h1 := HRM.out; rw [hm, HL.out, HLN.out] at h1; exact h1
      have hwr2 : IntKind.i64.wrap ((n : Int) - (ln : Int)) = (m : Int) := by rw [hm2]; exact IntWalk.i64_in _ (by omega)
      rw [hm]
      clear hm hm2
      go_wp2_with fail
      clear hwr2
      clear v0 v1
      refine rel_region [4, 1, 10] [(152, 3), (154, 5), (155, 6), (148, 7), (156, 8), (16, 10)] (pw17Cv w.heap.size (tvV ⟨ah, nh, ch, az, ns, cz⟩) (.slice A n c) (.slice A4 ln c4)) (pwF w8.heap.size T (remL bo l) (ovL T (worstT T) (remL bo l))) (by kernel_rfl) (by kernel_rfl) (by kernel_rfl) (by kernel_rfl) (by kernel_rfl) (by kernel_rfl) ?_ (pwF_keep _ _ _ _) ?_ ?_
      · intro t ht
        simp only [List.mem_cons, List.not_mem_nil, or_false] at ht
        rcases ht with rfl | rfl | rfl <;> rfl
      · refine allOps_array ?_
        refine ⟨?_, ?_, ?_, ?_, ?_, ?_, ?_, ?_, ?_, ?_, ?_, ?_, trivial⟩ <;> intro g u hd_ <;> obtain ⟨q0, q1⟩ := box2 ((u.h.block _ (heapsz HZ8.out)).trans HZ8.out)
        · refine ⟨rfl, relQ 149 rfl trivial ?_⟩
          simp [go_sem, evalBy, rhoT, relOf, pw17Cv, tvV, q0, q1]
        · refine ⟨rfl, relQ 150 rfl trivial ?_⟩
          simp [go_sem, evalBy, rhoT, relOf, pw17Cv]
        · refine ⟨rfl, relQ 151 rfl trivial ?_⟩
          simp [go_sem, evalBy, rhoT, relOf, pw17Cv]
        · refine ⟨rfl, relC 30 #[.slice A n c, .slice A4 ln c4] (by simp [go_sem, evalBy, rhoT, relOf, pw17Cv]) ?_⟩
          refine (rwithout_any bo l A A4 n c ln c4 u.w HL.out HLN.out (by omega) (by unfold maxLen; omega) (RowAt.up HA8.out u.h) ((row_ints HR8.out).next u.h u.h.size)).mono ?_
          rintro e w' ⟨v, rfl, hb, hv⟩
          exact ⟨v, rfl, hb, hv.low u.h.size, fun e he hn => by injection he with he; subst he; exact absurd hn (by simp [relOf])⟩
        · refine ⟨rfl, relQ 153 rfl trivial ?_⟩
          simp [go_sem, evalBy, rhoT, relOf, pw17Cv, tvV, q0, q1]
        · refine ⟨rfl, relC 31 #[tvV ⟨ah, nh, ch, az, ns, cz⟩] (by simp [go_sem, evalBy, rhoT, relOf, pw17Cv]) ?_⟩
          refine (Worst_any _ T u.w (HN8.out.up u.h) HKC.out.1).mono ?_
          rintro e w' ⟨U, rfl, hb, hv⟩
          exact ⟨_, rfl, hb, ⟨U, rfl, hv⟩, fun e he hn => by injection he with he; subst he; exact absurd hn (by simp [relOf])⟩
        · have h3 : RowIs intR 3 w8.heap.size (remL bo l) (g 3) u.w := hd_ ⟨3, .data⟩ (by simp) rfl
          obtain ⟨U, e5, h5⟩ : ∃ U, g 5 = uvV U ∧ TuAt u.w u.w.heap.size U (worstT T) := hd_ ⟨5, .data⟩ (by simp) rfl
          obtain ⟨A3, c3, e3⟩ := h3.len
          rw [e3] at h3
          refine ⟨rfl, relC 26 #[tvV ⟨ah, nh, ch, az, ns, cz⟩, g 3, g 5] (by simp [go_sem, evalBy, rhoT, relOf, pw17Cv]) ?_⟩
          rw [e3, e5]
          refine (Play_any _ T A3 _ c3 (remL bo l) U (worstT T) u.w (HN8.out.up u.h) rfl (by have := HRL.out (l); unfold maxLen; omega) (row_ints h3) h5).mono ?_
          rintro e w' ⟨v, rfl, hb, hv⟩
          rw [(HPE.out (l)).1]
          rw [(HPE.out (l)).2] at hv
          exact ⟨_, rfl, hb, ⟨v, rfl, hv.low u.h.size⟩, fun e he hn => by injection he with he; subst he; exact absurd hn (by simp [relOf])⟩
        · have h6 := hd_ ⟨6, .data⟩ (by simp) rfl
          refine ⟨rfl, relM (g 6) h6 (fun e he hn => by injection he with he; subst he; exact absurd hn (by simp [relOf])) ?_⟩
          simp [go_sem, evalBy, rhoT, relOf]
        · obtain ⟨r, e7, h7⟩ : ∃ r, g 7 = .tuple #[r, .int .i64 0] ∧ RowIs intR 3 w8.heap.size (ovL T (worstT T) (remL bo l)) r u.w := hd_ ⟨7, .data⟩ (by simp) rfl
          refine ⟨rfl, relM r h7 (fun e he hn => by injection he with he; subst he; exact absurd hn (by simp [relOf])) ?_⟩
          simp [go_sem, evalBy, rhoT, relOf, e7]
        · obtain ⟨r, e7, h7⟩ : ∃ r, g 7 = .tuple #[r, .int .i64 0] ∧ RowIs intR 3 w8.heap.size (ovL T (worstT T) (remL bo l)) r u.w := hd_ ⟨7, .data⟩ (by simp) rfl
          refine ⟨rfl, relQ 157 rfl trivial ?_⟩
          simp [go_sem, evalBy, rhoT, relOf, pw17Cv, e7]
        · have h8 := hd_ ⟨8, .data⟩ (by simp) rfl
          refine ⟨rfl, relM (g 8) h8 (fun e he hn => by injection he with he; subst he; exact absurd hn (by simp [relOf])) ?_⟩
          simp [go_sem, evalBy, rhoT, relOf]
        · refine ⟨rfl, relQ 17 rfl trivial ?_⟩
          simp [go_sem, evalBy, rhoT, relOf, pw17Cv]
      intro g u hf
      have h13 : RowIs intR 3 w8.heap.size (ovL T (worstT T) (remL bo l)) (g 10) u.w := hf 10 (by decide)
      obtain ⟨A6, c6, e5⟩ := h13.len
      rw [e5] at h13
      rw [ovL_len, HNH.out] at h13 e5
      simp [putAll, Act.put, rhoT, relOf, pw17Cv, e5]
      have hb := u.h
      obtain ⟨w9, hwn⟩ : ∃ x, u.w = x := ⟨_, rfl⟩
      rw [hwn] at hb h13 ⊢
      have HP9 := Lib.hid h13
      clear hwn h13 hf e5
      have HZ9 := Lib.hid ((hb.block _ (heapsz HZ8.out)).trans HZ8.out)
      have HB9 := Lib.hid (HB8.out.trans (hb.mono HB8.out.size))
      have HN9 := Lib.hid (HN8.out.up hb)
      have HA9 := Lib.hid (RowAt.up HA8.out hb)
      have HG9 := Lib.hid (RowAt.up HG8.out hb)
      have HR9 := Lib.hid (HR8.out.below hb)
      have HQ9 := Lib.hid (HQ8.out.below hb)
      clear hb
      obtain ⟨v0, v1⟩ := box2 HZ9.out
      have k3 : (0 : Int) ≤ (h : Int) := by omega
      have k4 : (h : Int) < (nh : Int) := by omega
      have hltT : h < T.hs.length := by have h1 : T.hs.length = nh := HNH.out; omega
      have hget : (ovL T (worstT T) (remL bo l))[h]? = some (ovV (worstT T) (remL bo l) h) := by
        unfold ovL
        rw [List.getElem?_map, List.getElem?_range hltT]
        rfl
      obtain ⟨b8, o8, rfl, _, c8⟩ := ints_el (row_ints HP9.out) hget
      have h9 := HNG.out
      obtain ⟨y, hy⟩ : ∃ y, ovV (worstT T) (remL bo l) h = y := ⟨_, rfl⟩
      rw [hy] at c8 h9
      have h10 : ¬ 0 ≤ y := by omega
      clear hget hy hltT
      go_wp2_with fail
      refine (known_any _).mono ?_
      rintro e wk ⟨rfl, hbk⟩
      have HBK := Lib.hid (HB9.out.trans (hbk.mono HB9.out.size))
      clear hbk
      go_wp2_with fail
      go_ret
      exact ⟨rfl, HBK.out⟩
end Go.Proofs.Ytmppiiamcpjhnaa
