/- Coolers: all orders, as the specification goes through them. -/
import Derived.Test.YtmppiiamcpjhnaaEP
namespace Go.Proofs.Ytmppiiamcpjhnaa
open Go.RowKit Go.Shelf

def o6Cv (vb vr : Value) (b o i : Nat) (x : Int) : Tmp → Value
  | 2 => vb
  | 3 => vr
  | 10 => .int .i64 (i : Int)
  | 28 => vb
  | 30 => vr
  | 31 => .int .i64 (i : Int)
  | 32 => .pointer (some ⟨b, o + i, none⟩)
  | 33 => .int .i64 x
  | _ => undef
def o6F (B : Nat) (beg : List Int) (x : Int) : Nat → Value → World → Prop
  | 1, v, w => w.ownsRow B 3 1 v beg.length (flatR intR beg)
  | 6, v, w => ∃ q, v = .slice (some ⟨q, 0, none⟩) 1 1 ∧ w.heap[q]? = some (.cells #[.int .i64 x] 3 (0, 0))
  | _, _, _ => True
theorem o6F_keep (B : Nat) (beg : List Int) (x : Int) : ∀ i v w1 w2, o6F B beg x i v w1 → Below w1.heap.size w1 w2 → o6F B beg x i v w2 := fun i v w1 w2 h hb => by
  unfold o6F at h ⊢
  split
  · exact own_next h hb
  · obtain ⟨q, e, h⟩ := h
    exact ⟨q, e, (hb.block _ (heapsz h)).trans h⟩
  · trivial
def o7Cv (N : Nat) (t l0 vn vr vc : Value) (i : Nat) (bb : Bool) : Tmp → Value
  | 4 => .pointer (some ⟨N, 0, none⟩)
  | 1 => l0
  | 11 => vn
  | 3 => vr
  | 10 => .int .i64 (i : Int)
  | 37 => t
  | 38 => l0
  | 39 => vn
  | 40 => vr
  | 41 => vr
  | 42 => .int .i64 (i : Int)
  | 43 => .int .i64 (i : Int)
  | 44 => .int .i64 ((i : Int) + 1)
  | 45 => vc
  | 49 => .bool bb
  | 13 => .bool bb
  | _ => undef
def OrdR (fnd : Option (List Int)) (v : Value) (w : World) : Prop := ∀ o, fnd = some o → RowIs intR 3 0 o v w
def o7F (ys : List Int) (bb : Bool) (fnd : Option (List Int)) : Nat → Value → World → Prop
  | 9, v, w => RowIs intR 3 0 ys v w
  | 10, v, w => ∃ r, v = .tuple #[r, .bool bb] ∧ OrdR fnd r w
  | 11, v, w => ∃ r, v = .tuple #[r, .bool bb] ∧ OrdR fnd r w
  | 12, v, w => OrdR fnd v w
  | 14, v, w => OrdR fnd v w
  | _, _, _ => True
theorem ordR_keep {fnd : Option (List Int)} {v : Value} {w1 w2 : World} (h : OrdR fnd v w1) (hb : Below w1.heap.size w1 w2) : OrdR fnd v w2 := fun o ho => (h o ho).below hb
theorem o7F_keep (ys : List Int) (bb : Bool) (fnd : Option (List Int)) : ∀ i v w1 w2, o7F ys bb fnd i v w1 → Below w1.heap.size w1 w2 → o7F ys bb fnd i v w2 := fun i v w1 w2 h hb => by
  unfold o7F at h ⊢
  split
  · exact h.below hb
  · obtain ⟨r, e, h⟩ := h
    exact ⟨r, e, ordR_keep h hb⟩
  · obtain ⟨r, e, h⟩ := h
    exact ⟨r, e, ordR_keep h hb⟩
  · exact ordR_keep h hb
  · exact ordR_keep h hb
  · trivial
theorem sit_empty {r : Nat} (hr : r < 2 ^ 10) (h : (sitL (r : Int)).length = 0) : r = 0 := by
  have he := List.eq_nil_of_length_eq_zero h
  refine Nat.eq_of_testBit_eq fun j => ?_
  rw [Nat.zero_testBit]
  cases hb : r.testBit j with
  | false => rfl
  | true =>
    have : j ∈ sitL (r : Int) := mem_sit.2 ⟨testBit_lt hr hb, hb⟩
    rw [he] at this
    cases this
theorem own_low {w : World} {B B' : Nat} {e : TypeId} {s n : Nat} {v : Value} {xs : List Value} (h : w.ownsRow B e s v n xs) (hB : B' ≤ B) : w.ownsRow B' e s v n xs :=
  ⟨h.1, h.2.imp id fun ⟨g, cap, cur, e1, e2, e3⟩ => ⟨g, cap, cur, e1, Nat.le_trans hB e2, e3⟩⟩
section
attribute [local irreducible] QT
set_option maxRecDepth 100000 in
set_option maxHeartbeats 16000000 in
theorem rorders_any (V : TV) (T : Tn) (A : Option Addr) (n c : Nat) (bo : List Int) (hl : bo.length = n) (hn : n ≤ 100) (hK : TnOk T) (hC : coolB T bo = true) : ∀ (m r : Nat) (beg : List Int) (vb : Value) (A3 : Option Addr) (k c3 : Nat) (w : World), r < 2 ^ 10 → (sitL (r : Int)).length ≤ m → OrdX bo (beg ++ sitZ (r : Int)) → TnAt w w.heap.size V T → IntsAt w w.heap.size A bo → RowIs intR 3 0 beg vb w → (sitZ (r : Int)).length = k → k ≤ c3 → IntsAt w w.heap.size A3 (sitZ (r : Int)) →
    Calls Try.prog 75 #[tvV V, .slice A n c, vb, .slice A3 k c3] w fun e w' => ∃ v, e = .returned (.tuple #[v, .bool (fndO T bo m r beg).isSome]) ∧ Below w.heap.size w w' ∧ OrdR (fndO T bo m r beg) v w' := by
  intro m
  have HLB := Lib.hid hl; have HK := Lib.hid hK; have HCO := Lib.hid hC
  clear hl hK hC
  induction m with
  | zero =>
    intro r beg vb A3 k c3 w hr hm hX hN hA hvb hk hkc hA3
    have hr0 : r = 0 := sit_empty hr (by omega)
    have hkz : k = 0 := by
      rw [← hk, hr0]
      decide +kernel
    subst hkz
    have hX2 : OrdX bo beg := ⟨fun x hx => hX.mem x (List.mem_append_left _ hx), (List.nodup_append.1 hX.nd).1, Nat.le_trans (by rw [List.length_append]; omega) hX.l6⟩
    have HFL := Lib.hid (fnd_leaf (T := T) (bo := bo) (beg := beg) (m := 0) hr0)
    have z := heap_alloc_new w (.cells (tvC V) 25)
    have hb := (Below.refl w.heap.size w).alloc (Nat.le_refl _) (.cells (tvC V) 25)
    obtain ⟨w1, hw1⟩ : ∃ z, w.alloc (.cells (tvC V) 25) = z := ⟨_, rfl⟩
    rw [hw1] at z hb
    have HW := Lib.hid hw1; have HB := Lib.hid hb
    have hvb1 := hvb.below hb
    obtain ⟨Ab, cb, hvbe, hvba, hvbc⟩ := hvb1.at_ (k := 1) (fun _ => rfl)
    subst hvbe
    have HVB := Lib.hid hvb1
    have HREC := Lib.hid (rgood_any V T A n c bo Ab beg.length cb beg w1 (hN.up hb) HLB.out hn (RowAt.up hA hb) rfl hX2.l6 hvbc hvba HK.out HCO.out (ord_of hX2))
    obtain ⟨ah, nh, ch, az, ns, cz⟩ := V
    obtain ⟨v0, v1⟩ := box2 z
    simp only at v0 v1
    clear z hb hw1 hN hA hA3 hvb hvb1 hvba hX hX2
    go_enter Try.func75, Try.ntmps75
    go_wp2_with fail
    rw [show w.alloc (.cells #[.slice ah nh ch, .slice az ns cz] 25) = w1 from HW.out]
    try go_wp2_with fail
    refine HREC.out.mono ?_
    rintro e w2 ⟨rfl, hb2⟩
    have HB2 := Lib.hid (HB.out.trans (hb2.mono HB.out.size))
    have HV2 := Lib.hid (HVB.out.below hb2)
    obtain ⟨gb, hgb⟩ : ∃ gb, goodB T (setI bo) beg = gb := ⟨_, rfl⟩
    rw [hgb] at HFL ⊢
    clear hb2 v0 v1 hgb
    go_wp2_with fail
    refine bodyPost_ret (v := .tuple #[.slice Ab beg.length cb, .bool gb]) (by simp [results, Try.results75, go_sem]) rfl ?_
    refine ⟨_, by rw [HFL.out]; cases gb <;> rfl, HB2.out, fun o ho => ?_⟩
    rw [HFL.out] at ho
    cases gb with
    | false => cases ho
    | true =>
      injection ho with ho
      rw [← ho]
      exact HV2.out
  | succ m ih =>
    intro r beg vb A3 k c3 w hr hm hX hN hA hvb hk hkc hA3
    by_cases hr0 : r = 0
    · have hkz : k = 0 := by
        rw [← hk, hr0]
        decide +kernel
      subst hkz
      have hX2 : OrdX bo beg := ⟨fun x hx => hX.mem x (List.mem_append_left _ hx), (List.nodup_append.1 hX.nd).1, Nat.le_trans (by rw [List.length_append]; omega) hX.l6⟩
      have HFL := Lib.hid (fnd_leaf (T := T) (bo := bo) (beg := beg) (m := m + 1) hr0)
      have z := heap_alloc_new w (.cells (tvC V) 25)
      have hb := (Below.refl w.heap.size w).alloc (Nat.le_refl _) (.cells (tvC V) 25)
      obtain ⟨w1, hw1⟩ : ∃ z, w.alloc (.cells (tvC V) 25) = z := ⟨_, rfl⟩
      rw [hw1] at z hb
      have HW := Lib.hid hw1; have HB := Lib.hid hb
      have hvb1 := hvb.below hb
      obtain ⟨Ab, cb, hvbe, hvba, hvbc⟩ := hvb1.at_ (k := 1) (fun _ => rfl)
      subst hvbe
      have HVB := Lib.hid hvb1
      have HREC := Lib.hid (rgood_any V T A n c bo Ab beg.length cb beg w1 (hN.up hb) HLB.out hn (RowAt.up hA hb) rfl hX2.l6 hvbc hvba HK.out HCO.out (ord_of hX2))
      obtain ⟨ah, nh, ch, az, ns, cz⟩ := V
      obtain ⟨v0, v1⟩ := box2 z
      simp only at v0 v1
      clear z hb hw1 hN hA hA3 hvb hvb1 hvba hX hX2 ih
      go_enter Try.func75, Try.ntmps75
      go_wp2_with fail
      rw [show w.alloc (.cells #[.slice ah nh ch, .slice az ns cz] 25) = w1 from HW.out]
      try go_wp2_with fail
      refine HREC.out.mono ?_
      rintro e w2 ⟨rfl, hb2⟩
      have HB2 := Lib.hid (HB.out.trans (hb2.mono HB.out.size))
      have HV2 := Lib.hid (HVB.out.below hb2)
      obtain ⟨gb, hgb⟩ : ∃ gb, goodB T (setI bo) beg = gb := ⟨_, rfl⟩
      rw [hgb] at HFL ⊢
      clear hb2 v0 v1 hgb
      go_wp2_with fail
      refine bodyPost_ret (v := .tuple #[.slice Ab beg.length cb, .bool gb]) (by simp [results, Try.results75, go_sem]) rfl ?_
      refine ⟨_, by rw [HFL.out]; cases gb <;> rfl, HB2.out, fun o ho => ?_⟩
      rw [HFL.out] at ho
      cases gb with
      | false => cases ho
      | true =>
        injection ho with ho
        rw [← ho]
        exact HV2.out
    · have HIH := Lib.hid ih
      have z := heap_alloc_new w (.cells (tvC V) 25)
      have hb := (Below.refl w.heap.size w).alloc (Nat.le_refl _) (.cells (tvC V) 25)
      obtain ⟨w1, hw1⟩ : ∃ z, w.alloc (.cells (tvC V) 25) = z := ⟨_, rfl⟩
      rw [hw1] at z hb
      have HW := Lib.hid hw1; have HB := Lib.hid hb; have HZ := Lib.hid z
      have HN := Lib.hid (hN.up hb); have HA := Lib.hid (RowAt.up hA hb); have HR3 := Lib.hid (RowAt.up hA3 hb); have HVB := Lib.hid (hvb.below hb)
      have HX := Lib.hid hX; have HKK := Lib.hid hk
      have hk6 : beg.length + k ≤ 6 := by have := hX.l6; rw [List.length_append, hk] at this; exact this
      have hkpos : 0 < k := by
        rcases Nat.eq_zero_or_pos k with h0 | h0
        · exact absurd (sit_empty hr (by rw [← sitZ_len2, hk]; exact h0)) hr0
        · exact h0
      obtain ⟨Ab, cb, hvbe, hvba, hvbc⟩ := hvb.at_ (k := 1) (fun _ => rfl)
      subst hvbe
      obtain ⟨ah, nh, ch, az, ns, cz⟩ := V
      have HC : Hid (∀ u, Below w1.heap.size w1 u → u.cell? ⟨w.heap.size, 0, none⟩ = some (.slice ah nh ch) ∧ u.cell? ⟨w.heap.size, 1, none⟩ = some (.slice az ns cz)) := Lib.hid fun u hu => box2 ((hu.block _ (heapsz HZ.out)).trans HZ.out)
      obtain ⟨j0, hj0, jz0, jz1, jz2⟩ := info_parts int_info
      have HR10 := Lib.hid hr; have HR0 := Lib.hid hr0; have HML := Lib.hid hm
      clear z hb hw1 hN hA hA3 hvb hX ih hvba hr hr0 hk
      go_enter Try.func75, Try.ntmps75
      have hk0 : ¬ (k : Int) = 0 := by omega
      have hk1 : ((k : Int) == 0) = false := beq_eq_false_iff_ne.2 hk0
      go_wp2_with fail
      rw [show w.alloc (.cells #[.slice ah nh ch, .slice az ns cz] 25) = w1 from HW.out]
      try go_wp2_with fail
      clear hk0 hk1
      go_loopw [10, 11, 12, 13] (fun ii _ _ _ wr => ∃ i : Nat, i ≤ k ∧ ii = .int .i64 i ∧ (∀ (j y : Nat), j < i → (sitL (r : Int))[j]? = some y → fndO T bo m (dropS r (2 ^ y)) (beg ++ [(y : Int)]) = none) ∧ Below w1.heap.size w1 wr) (fun ii _ _ _ _ => k - (intOf ii).toNat)
      case atStart => exact ⟨0, by omega, rfl, fun j y hj => absurd hj (Nat.not_lt_zero _), Below.refl _ _⟩
      case round =>
        obtain ⟨i, hi, rfl, hall, hbr⟩ := hrel
        obtain ⟨wp, rfl⟩ : ∃ z : World, z = wr := ⟨_, rfl⟩
        have HBP := Lib.hid hbr; have HALL := Lib.hid hall
        clear hall
        by_cases hit : i < k
        · have l3 : (0 : Int) ≤ (i : Int) := by omega
          have l4 : (i : Int) < (k : Int) := by omega
          obtain ⟨xz, hxz⟩ := get_of_lt (l := sitZ (r : Int)) (k := i) (by rw [HKK.out]; exact hit)
          obtain ⟨x, hxl⟩ := get_of_lt (l := sitL (r : Int)) (k := i) (by rw [← sitZ_len2, HKK.out]; exact hit)
          obtain rfl : xz = (x : Int) := by
            unfold sitZ at hxz
            rw [List.getElem?_map, hxl] at hxz
            simpa using hxz.symm
          obtain ⟨hxm, hx10, hperm⟩ := sit_split HR10.out hxz beg
          have HXL := Lib.hid hxl; have HXZ := Lib.hid hxz; have HPX := Lib.hid (HX.out.perm hperm); have HX10 := Lib.hid hx10
          have HDL : Hid ((sitL ((dropS r (2 ^ x) : Nat) : Int)).length ≤ m) := Lib.hid (by have := sit_drop HR10.out hxm; have := HML.out; omega)
          obtain ⟨b, o, rfl, hbb, c0⟩ := ints_el (RowAt.up HR3.out hbr) hxz
          have HCELL : Hid (∀ u : KeptW wp, u.w.cell? ⟨b, o + i, none⟩ = some (.int .i64 (x : Int))) := Lib.hid fun u => ((bcell u.h).1 _ _ hbb).trans c0
          have HVP := Lib.hid (HVB.out.below hbr)
          clear hxz hxl hxm hx10 hperm hbb c0 hbr
          go_wp2_with fail
          apply tail_regionX
          case hs => exact (rfl : _ = [_, _, _, _, _, _, _, _] ++ [_])
          case hm => kernel_rfl
          case hT => kernel_rfl
          refine tail_startY [_, _, _, _, _, _, _] _ [1, 7, 4, 4, 5, 6, 7] rfl (by kernel_rfl) ?_
          refine rel_any [2, 3, 10] [(29, 1), (34, 6)] (o6Cv (.slice Ab beg.length cb) (.slice (some ⟨b, o, none⟩) k c3) b o i (x : Int)) (o6F wp.heap.size beg (x : Int)) (by kernel_rfl) (by kernel_rfl) (by kernel_rfl) (by kernel_rfl) (by kernel_rfl) ?_ (o6F_keep _ _ _) ?_ ?_
          · intro t ht
            simp only [List.mem_cons, List.not_mem_nil, or_false] at ht
            rcases ht with rfl | rfl | rfl <;> rfl
          · refine allOps_array ?_
            refine ⟨?_, ?_, ?_, ?_, ?_, ?_, ?_, trivial⟩ <;> intro gg u hd_ <;> have q1 := HCELL.out u
            · refine ⟨rfl, relQ 28 rfl trivial ?_⟩
              simp [go_sem, evalBy, rhoT, relOf, o6Cv]
            · exact ⟨rfl, relCopy (.const (.slice none 0 0)) (.tmp 28) 26 rfl (by simp [evalBy]) 3 j0 _ Try.underlying26 hj0 jz0 jz1 jz2 rfl beg _ (by simp [evalBy, rhoT, relOf, o6Cv]) 0 (HVP.out.below u.h) (by omega) (fun d hd => by injection hd with hd; subst hd; simp [relOf]) (fun v' w' h => own_low h u.h.size)⟩
            · refine ⟨rfl, relQ 30 rfl trivial ?_⟩
              simp [go_sem, evalBy, rhoT, relOf, o6Cv]
            · refine ⟨rfl, relQ 31 rfl trivial ?_⟩
              simp [go_sem, evalBy, rhoT, relOf, o6Cv]
            · refine ⟨rfl, relQ 32 rfl trivial ?_⟩
              simp [go_sem, evalBy, rhoT, relOf, o6Cv, l3, l4]
            · refine ⟨rfl, relQ 33 rfl trivial ?_⟩
              simp [go_sem, evalBy, rhoT, relOf, o6Cv, q1]
            · refine ⟨rfl, relA (.slice (some ⟨u.w.heap.size, 0, none⟩) 1 1) (.cells #[.int .i64 (x : Int)] 3) (fun d hd => by injection hd with hd; subst hd; simp [relOf]) ?_ ⟨_, rfl, heap_alloc_new u.w _⟩⟩
              simp [go_sem, evalBy, rhoT, relOf, o6Cv]
          · intro gg u hf_
            have h1 : u.w.ownsRow wp.heap.size 3 1 (gg 1) beg.length (flatR intR beg) := hf_ 1 (by decide)
            obtain ⟨q, e6, h6⟩ : ∃ q, gg 6 = .slice (some ⟨q, 0, none⟩) 1 1 ∧ u.w.heap[q]? = some (.cells #[.int .i64 (x : Int)] 3 (0, 0)) := hf_ 6 (by decide)
            simp only [QT]
            refine app_wp (d := 35) (s := .tmp 29) (x := .tmp 34) (t := 26) rfl rfl wp.heap.size 3 j0 (.int .i64 0) 1 8 Try.underlying26 hj0 jz0 jz1 jz2 rfl (by decide) (gg 1) (by simp [putAll, Act.put, Act.eval, rhoT, relOf, o6Cv]) beg.length (flatR intR beg) h1 ⟨q, 0, none⟩ 1 1 [.int .i64 (x : Int)] (by simp [putAll, Act.put, Act.eval, rhoT, relOf, o6Cv, e6]) rfl (fun j u' hj => by
              rw [addr_add, Nat.zero_add, cell_of_row u.w q j _ 3 (0, 0) h6]
              simpa using hj) (by
              intro u' hu'
              rw [List.mem_singleton.1 hu']
              rfl) (by unfold maxLen; omega) (by omega) u.h.size ?_
            intro v' w6 hown6 hgr6 hat6
            have hb6 : Below wp.heap.size wp w6 := u.h.grown hgr6 u.h.size (fun q e => (own_at h1 e).1)
            have hro6 : RowIs intR 3 wp.heap.size (beg ++ [(x : Int)]) v' w6 := RowIs.of_own (k := 1) (by rw [List.length_append, flatR_snoc]; exact hown6)
            obtain ⟨An, cn, hve⟩ := hro6.len
            subst hve
            have HNX := Lib.hid (hro6.low (Nat.zero_le _))
            have HB6 := Lib.hid hb6
            have HB16 := Lib.hid (HBP.out.trans (hb6.mono HBP.out.size))
            simp only [QT]
            unfold Oper.wp
            simp [go_sem, putAll, Act.put, rhoT, relOf, o6Cv]
            clear hown6 hgr6 hat6 hb6 hro6 h1 h6 e6 hf_
            have hHR6 := RowAt.up HR3.out HB16.out
            obtain ⟨Ap, hslp, hAp⟩ := part_any hHR6 HKK.out HXZ.out hkc
            have HSLP := Lib.hid hslp
            have HAP := Lib.hid hAp
            obtain ⟨D, hD⟩ : ∃ D, dropS r (2 ^ x) = D := ⟨_, rfl⟩
            have HDE := Lib.hid hD
            have HSW := Lib.hid (sit_without HR10.out HX10.out)
            rw [hD] at HSW HDL HPX
            obtain ⟨fd, hfd⟩ : ∃ fd, fndO T bo m D (beg ++ [(x : Int)]) = fd := ⟨_, rfl⟩
            have HFD := Lib.hid hfd
            have HD10 : Hid (D < 2 ^ 10) := Lib.hid (by rw [← hD]; exact dropS_lt HR10.out)
            have l5 : IntKind.i64.wrap ((i : Int) + 1) = (i : Int) + 1 := IntWalk.i64_in _ (by omega)
            have HL5 := Lib.hid l5
            clear hHR6 hslp hAp hD hfd l5
            go_wp2_with fail
            refine rel_region [4, 1, 11, 3, 10] [(46, 9), (47, 10), (36, 11), (48, 12), (12, 14)] (o7Cv w.heap.size (tvV ⟨ah, nh, ch, az, ns, cz⟩) (.slice A n c) (.slice An (beg ++ [(x : Int)]).length cn) (.slice (some ⟨b, o, none⟩) k c3) (.slice Ap 1 (c3 - i)) i fd.isSome) (o7F (sitZ (D : Int)) fd.isSome fd) (by kernel_rfl) (by kernel_rfl) (by kernel_rfl) (by kernel_rfl) (by kernel_rfl) (by kernel_rfl) ?_ (o7F_keep _ _ _) ?_ ?_
            · intro t ht
              simp only [List.mem_cons, List.not_mem_nil, or_false] at ht
              rcases ht with rfl | rfl | rfl | rfl | rfl <;> first | rfl | (simp [Act.eval, o7Cv])
            · refine allOps_array ?_
              refine ⟨?_, ?_, ?_, ?_, ?_, ?_, ?_, ?_, ?_, ?_, ?_, ?_, ?_, ?_, ?_, ?_, trivial⟩ <;> intro gg u hd_ <;> have hu := HB16.out.trans (u.h.mono HB16.out.size) <;> obtain ⟨q0, q1⟩ := HC.out u.w hu
              · refine ⟨rfl, relQ 37 rfl trivial ?_⟩
                simp [go_sem, evalBy, rhoT, relOf, o7Cv, tvV, q0, q1]
              · refine ⟨rfl, relQ 38 rfl trivial ?_⟩
                simp [go_sem, evalBy, rhoT, relOf, o7Cv]
              · refine ⟨rfl, relQ 39 rfl trivial ?_⟩
                simp [go_sem, evalBy, rhoT, relOf, o7Cv]
              · refine ⟨rfl, relQ 40 rfl trivial ?_⟩
                simp [go_sem, evalBy, rhoT, relOf, o7Cv]
              · refine ⟨rfl, relQ 41 rfl trivial ?_⟩
                simp [go_sem, evalBy, rhoT, relOf, o7Cv]
              · refine ⟨rfl, relQ 42 rfl trivial ?_⟩
                simp [go_sem, evalBy, rhoT, relOf, o7Cv]
              · refine ⟨rfl, relQ 43 rfl trivial ?_⟩
                simp [go_sem, evalBy, rhoT, relOf, o7Cv]
              · refine ⟨rfl, relQ 44 rfl trivial ?_⟩
                simp [go_sem, evalBy, rhoT, relOf, o7Cv, HL5.out]
              · refine ⟨rfl, relQ 45 rfl trivial ?_⟩
                have hsl := HSLP.out
                simp [go_sem, evalBy, rhoT, relOf, o7Cv, hsl]
              · refine ⟨rfl, relC 30 #[.slice (some ⟨b, o, none⟩) k c3, .slice Ap 1 (c3 - i)] (by simp [go_sem, evalBy, rhoT, relOf, o7Cv]) ?_⟩
                refine (rwithout_any (sitZ (r : Int)) [(x : Int)] (some ⟨b, o, none⟩) Ap k c3 1 (c3 - i) u.w HKK.out rfl (by omega) (by unfold maxLen; omega) (RowAt.up HR3.out hu) (HAP.out.next u.h u.h.size)).mono ?_
                rintro e w' ⟨v, rfl, hb, hv⟩
                rw [HSW.out] at hv
                exact ⟨v, rfl, hb, hv.low (Nat.zero_le _), fun e he hn => by injection he with he; subst he; exact absurd hn (by simp [relOf])⟩
              · have h9 : RowIs intR 3 0 (sitZ (D : Int)) (gg 9) u.w := hd_ ⟨9, .data⟩ (by simp) rfl
                obtain ⟨A9, c9, e9, h9a, h9b⟩ := h9.at_ (k := 1) (fun _ => rfl)
                refine ⟨rfl, relC 75 #[tvV ⟨ah, nh, ch, az, ns, cz⟩, .slice A n c, .slice An (beg ++ [(x : Int)]).length cn, gg 9] (by simp [go_sem, evalBy, rhoT, relOf, o7Cv]) ?_⟩
                rw [e9]
                refine (HIH.out D (beg ++ [(x : Int)]) (.slice An (beg ++ [(x : Int)]).length cn) A9 _ c9 u.w HD10.out HDL.out HPX.out (HN.out.up hu) (RowAt.up HA.out hu) (HNX.out.below u.h) rfl h9b h9a).mono ?_
                rintro e w' ⟨v, rfl, hb, hv⟩
                rw [HFD.out] at hv ⊢
                exact ⟨_, rfl, hb, ⟨v, rfl, hv⟩, fun e he hn => by injection he with he; subst he; exact absurd hn (by simp [relOf])⟩
              · have h10 := hd_ ⟨10, .data⟩ (by simp) rfl
                refine ⟨rfl, relM (gg 10) h10 (fun e he hn => by injection he with he; subst he; exact absurd hn (by simp [relOf])) ?_⟩
                simp [go_sem, evalBy, rhoT, relOf]
              · obtain ⟨v9, e11, h11⟩ : ∃ r, gg 11 = .tuple #[r, .bool fd.isSome] ∧ OrdR fd r u.w := hd_ ⟨11, .data⟩ (by simp) rfl
                refine ⟨rfl, relM v9 h11 (fun e he hn => by injection he with he; subst he; exact absurd hn (by simp [relOf])) ?_⟩
                simp [go_sem, evalBy, rhoT, relOf, e11]
              · obtain ⟨v9, e11, h11⟩ : ∃ r, gg 11 = .tuple #[r, .bool fd.isSome] ∧ OrdR fd r u.w := hd_ ⟨11, .data⟩ (by simp) rfl
                refine ⟨rfl, relQ 49 rfl trivial ?_⟩
                simp [go_sem, evalBy, rhoT, relOf, o7Cv, e11]
              · have h12 := hd_ ⟨12, .data⟩ (by simp) rfl
                refine ⟨rfl, relM (gg 12) h12 (fun e he hn => by injection he with he; subst he; exact absurd hn (by simp [relOf])) ?_⟩
                simp [go_sem, evalBy, rhoT, relOf]
              · refine ⟨rfl, relQ 13 rfl trivial ?_⟩
                simp [go_sem, evalBy, rhoT, relOf, o7Cv]
            · intro gg u hf_
              have h14 : OrdR fd (gg 14) u.w := hf_ 14 (by decide)
              have HBZ := Lib.hid (HB16.out.trans (u.h.mono HB16.out.size))
              simp [putAll, Act.put, rhoT, relOf, o7Cv]
              obtain ⟨vz, hvz⟩ : ∃ x, gg 14 = x := ⟨_, rfl⟩
              obtain ⟨wz, hwz⟩ : ∃ x, u.w = x := ⟨_, rfl⟩
              rw [hvz, hwz] at h14
              rw [hwz] at HBZ
              rw [hvz, hwz]
              have H14 := Lib.hid h14
              clear hvz hwz hf_ h14
              cases fd with
              | none =>
                have HX2 : Hid (∀ (j y : Nat), j < i + 1 → (sitL (r : Int))[j]? = some y → fndO T bo m (dropS r (2 ^ y)) (beg ++ [(y : Int)]) = none) := Lib.hid fun j y hj hy => by
                  rcases Nat.lt_succ_iff_lt_or_eq.1 hj with hj | rfl
                  · exact HALL.out j y hj hy
                  · rw [HXL.out] at hy
                    injection hy with hy
                    rw [← hy, HDE.out]
                    exact HFD.out
                go_wp2_with fail
                exact ⟨⟨i + 1, by omega, rfl, HX2.out, HBZ.out⟩, by simp [intOf]; omega⟩
              | some ox =>
                have HF : Hid (fndO T bo (m + 1) r beg = some ox) := Lib.hid (fnd_found HR0.out HXL.out HALL.out (by rw [HDE.out]; exact HFD.out))
                go_wp2_with fail
                refine bodyPost_ret (v := .tuple #[vz, .bool true]) (by simp [results, Try.results75, go_sem]) rfl ?_
                exact ⟨vz, by rw [HF.out]; rfl, HB.out.trans (HBZ.out.mono HB.out.size), by rw [HF.out]; exact H14.out⟩
        · obtain rfl : k = i := by omega
          have l4 : ¬ (k : Int) < (k : Int) := by omega
          have HF : Hid (fndO T bo (m + 1) r beg = none) := Lib.hid (fnd_none HR0.out fun j y hy => HALL.out j y (by have := (List.getElem?_eq_some_iff.1 hy).1; rw [← sitZ_len2, HKK.out] at this; exact this) hy)
          clear hbr
          go_wp2_with fail
          refine bodyPost_ret (v := .tuple #[.slice none 0 0, .bool false]) (by simp [results, Try.results75, go_sem]) rfl ?_
          exact ⟨_, by rw [HF.out]; rfl, HB.out.trans (HBP.out.mono HB.out.size), fun o ho => by rw [HF.out] at ho; cases ho⟩
end
end Go.Proofs.Ytmppiiamcpjhnaa
