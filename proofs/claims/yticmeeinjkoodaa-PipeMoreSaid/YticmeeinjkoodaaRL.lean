/- Pipes: orders, by the specification. -/
import Derived.Test.YticmeeinjkoodaaRK
namespace Go.Proofs.Yticmeeinjkoodaa
open Go.RowKit Go.Shelf

def cntK (s k : Nat) : Nat := ((List.range k).filter fun i => jackB (s : Int) i).length
theorem cnt_succ (s k : Nat) : cntK s (k + 1) = cntK s k + (if s.testBit k then 1 else 0) := by
  unfold cntK
  rw [pil_take, List.length_append, jack_bit]
  split <;> simp
theorem cnt_allB : ((List.range 6).all fun n => (List.range (2 ^ n)).all fun s => decide (cntK s n = (pilL (s : Int)).length)) = true := by decide +kernel
theorem cnt_all {n s : Nat} (hn : n ≤ 5) (hs : s < 2 ^ n) : cntK s n = (pilL (s : Int)).length := by
  simpa using List.all_eq_true.1 (List.all_eq_true.1 cnt_allB n (List.mem_range.2 (by omega))) s (List.mem_range.2 hs)
structure PreO (nl s k : Nat) (os : List Int) : Prop where
  inn : ∀ (j : Nat) (x : Int), j < k → os[j]? = some x → 0 ≤ x ∧ x < nl ∧ s.testBit x.toNat = true
  dis : ∀ (i j : Nat) (x y : Int), j < i → i < k → os[i]? = some x → os[j]? = some y → y ≠ x
theorem PreO.ord {nl s : Nat} {os : List Int} (h : PreO nl s os.length os) (hl : os.length = (pilL (s : Int)).length) : IsOrd nl s os := by
  refine ⟨fun o ho => ?_, ?_, hl⟩
  · obtain ⟨j, hj⟩ := List.getElem?_of_mem ho
    exact h.inn j o (List.getElem?_eq_some_iff.1 hj).1 hj
  · unfold List.Nodup
    rw [List.pairwise_iff_getElem]
    intro i j hi hj hij
    exact h.dis j i _ _ hij hj (List.getElem?_eq_getElem hj) (List.getElem?_eq_getElem hi)
theorem IsOrd.ne {nl s : Nat} {os : List Int} (h : IsOrd nl s os) {i j : Nat} {x y : Int} (hij : j < i) (hi : os[i]? = some x) (hj : os[j]? = some y) : y ≠ x := by
  have hd := h.dis
  unfold List.Nodup at hd
  rw [List.pairwise_iff_getElem] at hd
  obtain ⟨h1, h2⟩ := List.getElem?_eq_some_iff.1 hi
  obtain ⟨h3, h4⟩ := List.getElem?_eq_some_iff.1 hj
  have := hd j i h3 h1 hij
  rwa [h2, h4] at this
set_option maxRecDepth 100000 in
set_option maxHeartbeats 8000000 in
theorem isorder_any (V : NV) (N : Nt) (s : Nat) (A : Option Addr) (n c : Nat) (os : List Int) (w : World) (hN : NtAt w w.heap.size V N) (hK : NtOk N) (hs : s < 2 ^ N.lo.length) (hl : os.length = n) (hn : n ≤ 1000) (hA : IntsAt w w.heap.size A os) :
    Calls Try.prog 39 #[nvV V, .int .i64 s, .slice A n c] w fun e w' => ∃ b, e = .returned (.bool b) ∧ Below w.heap.size w w' ∧ (b = true ↔ IsOrd N.lo.length s os) := by
  have HA := Lib.hid (RowAt.up hA ((Below.refl w.heap.size w).alloc (Nat.le_refl _) (.cells (nvC V) 26))); have HL := Lib.hid hl; have HK := Lib.hid hK; have HS := Lib.hid hs
  have hs32 : s < 32 := Nat.lt_of_lt_of_le hs (by
    have := hK.n5
    exact Nat.pow_le_pow_right (show 0 < 2 by decide) this.2)
  have z := heap_alloc_new w (.cells (nvC V) 26)
  have hb := (Below.refl w.heap.size w).alloc (Nat.le_refl _) (.cells (nvC V) 26)
  obtain ⟨w1, hw1⟩ : ∃ z, w.alloc (.cells (nvC V) 26) = z := ⟨_, rfl⟩
  rw [hw1] at z hb
  have HW := Lib.hid hw1
  have HN := Lib.hid (hN.up hb)
  obtain ⟨al, nl, cl, af, nf, cf, aw, nw, cw⟩ := V
  obtain ⟨v0, v1, v2⟩ := box3_cells z
  have hml := hN.ml; have hmf := hN.mf; have hmw := hN.mw
  unfold maxLen at hml hmf hmw
  simp only at hml hmf hmw v0 v1 v2
  have HB := Lib.hid hb; have Z := Lib.hid z
  have HNL := Lib.hid hN.nl; have HNF := Lib.hid hN.nf; have HNW := Lib.hid hN.nw
  clear z hb hw1 hN
  clear hA hl hK hs
  rw [show w.alloc (.cells (nvC ⟨al, nl, cl, af, nf, cf, aw, nw, cw⟩) 26) = w1 from HW.out] at HA
  have hnl5 : nl ≤ 5 := by have h1 := HNL.out; have h2 := HK.out.n5; first | omega | (simp only at h1; omega)
  have HCN := Lib.hid (cnt_all (n := nl) hnl5 (s := s) (by have h1 := HS.out; have h2 := HNL.out; simp only at h2; rw [h2] at h1; exact h1))
  go_enter Try.func39, Try.ntmps39
  go_wp2_with fail
  rw [show w.alloc (.cells #[.slice al nl cl, .slice af nf cf, .slice aw nw cw] 26) = w1 from HW.out]
  go_loopw [7, 8] (fun mm ii wr => ∃ k : Nat, k ≤ nl ∧ mm = .int .i64 (cntK s k) ∧ ii = .int .i64 k ∧ w1 = wr) (fun _ ii _ => nl - (intOf ii).toNat)
  case atStart => exact ⟨0, by omega, rfl, rfl, rfl⟩
  case round =>
    obtain ⟨k, hk, rfl, rfl, rfl⟩ := hrel
    have hck : cntK s k ≤ k := by
      unfold cntK
      exact pil_len
    by_cases hlt : k < nl
    · have k4 : (k : Int) < (nl : Int) := by omega
      have HSU := Lib.hid (cnt_succ s k)
      have hw1 : wrap64 ((cntK s k : Int) + 1) = (cntK s k : Int) + 1 := w64 (by omega)
      go_wp2_with fail
      refine (has_any hs32 (by omega) _).mono ?_
      rintro e w' ⟨rfl, rfl⟩
      cases hb : s.testBit k
      · have HSV : Hid (cntK s (k + 1) = cntK s k) := Lib.hid (by rw [HSU.out, hb]; rfl)
        clear hb
        go_wp2_with fail
        exact ⟨⟨k + 1, by omega, by rw [HSV.out], rfl, by first | rfl | trivial⟩, by simp [intOf]; omega⟩
      · have HSV : Hid (((cntK s (k + 1) : Nat) : Int) = (cntK s k : Int) + 1) := Lib.hid (by rw [HSU.out, hb]; rfl)
        clear hb
        go_wp2_with fail
        exact ⟨⟨k + 1, by omega, (by first | (rw [HSV.out]; done) | (rw [HSV.out, hw1])), rfl, by first | rfl | trivial⟩, by simp [intOf]; omega⟩
    · obtain rfl : nl = k := by omega
      have k4 : ¬ (nl : Int) < (nl : Int) := by omega
      rw [HCN.out] at hck ⊢
      obtain ⟨M, hM⟩ : ∃ z, (pilL (s : Int)).length = z := ⟨_, rfl⟩
      have HM := Lib.hid hM
      rw [hM] at hck ⊢
      clear hM
      go_wp2_with fail
      go_loopw [9, 10] (fun ii _ wr => ∃ k : Nat, k ≤ n ∧ ii = .int .i64 k ∧ Below w1.heap.size w1 wr ∧ PreO nl s k os) (fun ii _ _ => n - (intOf ii).toNat)
      case atStart => exact ⟨0, by omega, rfl, Below.refl _ _, ⟨fun _ _ h => absurd h (Nat.not_lt_zero _), fun _ _ _ _ _ h => absurd h (Nat.not_lt_zero _)⟩⟩
      case round =>
        obtain ⟨k, hk, rfl, hbr, hpre⟩ := hrel
        have HBR := Lib.hid hbr; have HPR := Lib.hid hpre
        clear hpre hck
        by_cases hlt : k < n
        · have k3 : (0 : Int) ≤ (k : Int) := by omega
          have k4 : (k : Int) < (n : Int) := by omega
          obtain ⟨x, hx⟩ := get_of_lt (l := os) (k := k) (by rw [HL.out]; exact hlt)
          obtain ⟨b2, o2, rfl, hb2, x0⟩ := ints_el HA.out hx
          have HX := Lib.hid hx
          have HCE : Hid (∀ u : World, Below w1.heap.size w1 u → u.cell? ⟨b2, o2 + k, none⟩ = some (.int .i64 x)) := Lib.hid fun u hu => ((bcell hu).1 _ _ hb2).trans x0
          have HF : Hid (∀ u : World, Below w1.heap.size w1 u → u.cell? ⟨w.heap.size, 0, none⟩ = some (.slice al nl cl) ∧ u.cell? ⟨w.heap.size, 1, none⟩ = some (.slice af nf cf) ∧ u.cell? ⟨w.heap.size, 2, none⟩ = some (.slice aw nw cw)) := Lib.hid fun u hu => box3_cells ((hu.block _ (heapsz Z.out)).trans Z.out)
          have HC1 := Lib.hid (fun u : KeptW wr => Calls.in_kept u (risLoop_any ⟨al, nl, cl, af, nf, cf, aw, nw, cw⟩ N x u.w (HN.out.next (hbr.trans (u.h.mono hbr.size)) (by have := hbr.size; have := u.h.size; omega))))
          obtain ⟨B1, hB1⟩ : ∃ z, inB 0 x (N.lo.length - 1) = z := ⟨_, rfl⟩
          have HB1 := Lib.hid hB1
          rw [hB1] at HC1
          have s0 := fun u : KeptW wr => HCE.out u.w (hbr.trans (u.h.mono hbr.size))
          have p0 := fun u : KeptW wr => (HF.out u.w (hbr.trans (u.h.mono hbr.size))).1
          have p1 := fun u : KeptW wr => (HF.out u.w (hbr.trans (u.h.mono hbr.size))).2.1
          have p2 := fun u : KeptW wr => (HF.out u.w (hbr.trans (u.h.mono hbr.size))).2.2
          clear hx hb2 x0 hB1 hbr v0 v1 v2
          cases B1
          · go_wp2_with fail
            refine rk_region (by kernel_rfl) (by kernel_rfl) ?_
            repeat (go_big_quiet_step (first | (with_reducible exact HC1.out _) | fail))
            refine wpQuiet_nil ?_
            rintro wv ⟨⟨_, hbv⟩, rfl⟩
            have HBV := Lib.hid (HBR.out.trans (hbv.mono HBR.out.size))
            clear hbv p0 p1 p2 s0
            go_wp2_with fail
            exact bodyPost_ret (v := .bool false) (by simp [results, Try.results39, go_sem]) rfl ⟨false, rfl, HB.out.trans (HBV.out.mono HB.out.size), fun h => absurd h (by decide), fun h => by
              obtain ⟨q1, q2, _⟩ := h.inn x (List.mem_of_getElem? HX.out)
              have := HB1.out
              rw [inB_iff.2 ⟨q1, by omega⟩] at this
              cases this⟩
          · obtain ⟨hx0, hx1⟩ := inB_iff.1 HB1.out
            have hxn : x < (nl : Int) := by have h1 := HNL.out; first | omega | (simp only at h1; omega)
            obtain ⟨j, rfl⟩ : ∃ j : Nat, x = j := ⟨x.toNat, by omega⟩
            have HC2 := Lib.hid (fun u : KeptW wr => Calls.in_kept u ((has_any hs32 (L := j) (by omega) u.w).mono fun _ _ h => ⟨h.1, by rw [← h.2]; exact Below.refl _ _⟩))
            obtain ⟨B2, hB2⟩ : ∃ z, s.testBit j = z := ⟨_, rfl⟩
            have HB2 := Lib.hid hB2
            rw [hB2] at HC2
            clear hB2 hx0 hx1
            cases B2
            · go_wp2_with fail
              refine rk_region (by kernel_rfl) (by kernel_rfl) ?_
              repeat (go_big_quiet_step (first | (with_reducible exact HC1.out _) | (with_reducible exact HC2.out _) | fail))
              refine wpQuiet_nil ?_
              rintro wv ⟨⟨_, hbv⟩, rfl⟩
              have HBV := Lib.hid (HBR.out.trans (hbv.mono HBR.out.size))
              clear hbv p0 p1 p2 s0
              go_wp2_with fail
              exact bodyPost_ret (v := .bool false) (by simp [results, Try.results39, go_sem]) rfl ⟨false, rfl, HB.out.trans (HBV.out.mono HB.out.size), fun h => absurd h (by decide), fun h => by
                obtain ⟨_, _, q3⟩ := h.inn j (List.mem_of_getElem? HX.out)
                rw [Int.toNat_natCast, HB2.out] at q3
                cases q3⟩
            · go_wp2_with fail
              refine rk_region (by kernel_rfl) (by kernel_rfl) ?_
              repeat (go_big_quiet_step (first | (with_reducible exact HC1.out _) | (with_reducible exact HC2.out _) | fail))
              refine wpQuiet_nil ?_
              rintro wv ⟨⟨_, hbv⟩, rfl⟩
              have HBV := Lib.hid (HBR.out.trans (hbv.mono HBR.out.size))
              clear hbv p0 p1 p2 s0
              go_wp2_with fail
              go_loopw [10] (fun ii wr => ∃ q : Nat, q ≤ k ∧ ii = .int .i64 q ∧ Below w1.heap.size w1 wr ∧ ∀ (i : Nat) (y : Int), i < q → os[i]? = some y → y ≠ j) (fun ii _ => k - (intOf ii).toNat)
              case atStart => exact ⟨0, by omega, rfl, HBV.out, fun _ _ h => absurd h (Nat.not_lt_zero _)⟩
              case round =>
                obtain ⟨q, hq, rfl, hbq, hall⟩ := hrel
                have HBQ := Lib.hid hbq; have HAL := Lib.hid hall
                clear hall
                by_cases hqk : q < k
                · have q3 : (0 : Int) ≤ (q : Int) := by omega
                  have q4 : (q : Int) < (k : Int) := by omega
                  have q5 : (q : Int) < (n : Int) := by omega
                  obtain ⟨y, hy⟩ := get_of_lt (l := os) (k := q) (by rw [HL.out]; omega)
                  obtain ⟨b3, o3, ho3, hb3, y0⟩ := ints_el HA.out hy
                  injection ho3 with ho3
                  injection ho3 with ho3 ho4
                  subst ho3 ho4
                  have HY := Lib.hid hy
                  have s0 := fun u : KeptW wr => HCE.out u.w (hbq.trans (u.h.mono hbq.size))
                  have s1 : ∀ u : KeptW wr, u.w.cell? ⟨b2, o2 + q, none⟩ = some (.int .i64 y) := fun u => ((bcell (hbq.trans (u.h.mono hbq.size))).1 _ _ hb3).trans y0
                  clear hy hb3 y0 hbq
                  by_cases hyx : y = (j : Int)
                  all_goals
                    go_wp2_with fail
                    refine rk_region (by kernel_rfl) (by kernel_rfl) ?_
                    repeat (go_big_quiet_step (fail))
                    refine wpQuiet_nil ?_
                    rintro wt ⟨⟨_, hbt⟩, rfl⟩
                    have HBT := Lib.hid (HBQ.out.trans (hbt.mono HBQ.out.size))
                    clear hbt s0 s1
                    go_wp2_with fail
                  · exact bodyPost_ret (v := .bool false) (by simp [results, Try.results39, go_sem]) rfl ⟨false, rfl, HB.out.trans (HBT.out.mono HB.out.size), fun h => absurd h (by decide), fun h => absurd hyx (h.ne hqk HX.out HY.out)⟩
                  · refine ⟨⟨q + 1, by omega, rfl, HBT.out, fun i z hi hz => ?_⟩, by simp [intOf]; omega⟩
                    by_cases hiq : i < q
                    · exact HAL.out i z hiq hz
                    · obtain rfl : i = q := by omega
                      have := HY.out
                      rw [this] at hz
                      injection hz with hz
                      rw [← hz]
                      exact hyx
                · obtain rfl : k = q := by omega
                  have q4 : ¬ (k : Int) < (k : Int) := by omega
                  clear hbq
                  go_wp2_with fail
                  refine ⟨⟨k + 1, by omega, rfl, HBQ.out, ⟨fun i z hi hz => ?_, fun i i2 z y h1 h2 hz hy => ?_⟩⟩, by simp [intOf]; omega⟩
                  · by_cases hik : i < k
                    · exact HPR.out.inn i z hik hz
                    · obtain rfl : i = k := by omega
                      have := HX.out
                      rw [this] at hz
                      injection hz with hz
                      rw [← hz]
                      exact ⟨by omega, hxn, by rw [Int.toNat_natCast]; exact HB2.out⟩
                  · by_cases hik : i < k
                    · exact HPR.out.dis i i2 z y h1 hik hz hy
                    · obtain rfl : i = k := by omega
                      have := HX.out
                      rw [this] at hz
                      injection hz with hz
                      rw [← hz]
                      exact HAL.out i2 y h1 hy
        · obtain rfl : n = k := by omega
          have k4 : ¬ (n : Int) < (n : Int) := by omega
          clear hbr
          by_cases hnm : n = M
          · have q5 : (n : Int) = (M : Int) := by omega
            go_wp2_with fail
            exact bodyPost_ret (v := .bool true) (by simp [results, Try.results39, go_sem]) rfl (.inr ⟨rfl, HB.out.trans (HBR.out.mono HB.out.size), by
              rw [HNL.out]
              have := HPR.out
              rw [← HL.out] at this
              exact this.ord (by rw [HL.out, HM.out]; exact hnm)⟩)
          · have q5 : ¬ (n : Int) = (M : Int) := by omega
            go_wp2_with fail
            exact bodyPost_ret (v := .bool false) (by simp [results, Try.results39, go_sem, q5]) rfl (.inl ⟨rfl, HB.out.trans (HBR.out.mono HB.out.size), fun h => absurd (by have := h.len; rw [HL.out, HM.out] at this; exact this) hnm⟩)
end Go.Proofs.Yticmeeinjkoodaa
