/- Coolers: the break, what is kept and what is borne, by the specification. -/
import Derived.Test.YtmppiiamcpjhnaaEF
namespace Go.Proofs.Ytmppiiamcpjhnaa
open Go.RowKit Go.Shelf

theorem rbk_is {T : Tn} {bo : List Int} {f : Int} {h : Nat} (K : TnOk T) (hb : coolB T bo = true) (hf : 0 ≤ f ∧ f ≤ 3) : (rbk T bo f h).isSome = !decide (f ≤ bearsI T h (setI bo)) ∧ (¬ f ≤ bearsI T h (setI bo) → (rbk T bo f h).getD [] = brkL T (setI bo) h) := by
  unfold rbk
  by_cases hle : f ≤ bearsI T h (setI bo)
  · rw [if_pos hle]
    exact ⟨by simp [hle], fun h => absurd hle h⟩
  · rw [if_neg hle]
    obtain ⟨x, hx⟩ := brk_is K (setI_lt hb) (h := h) (by omega)
    unfold brkL
    rw [hx]
    exact ⟨by simp [hle], fun _ => rfl⟩
def rbH (T : Tn) (bo : List Int) (f : Int) : Int := match brU T bo f with | some h => (h : Int) | none => -1
def rbL (T : Tn) (bo : List Int) (f : Int) : List Int := match brU T bo f with | some h => brkL T (setI bo) h | none => []
set_option maxRecDepth 100000 in
set_option maxHeartbeats 16000000 in
theorem rbreak_any (V : TV) (T : Tn) (A : Option Addr) (n c : Nat) (bo : List Int) (f : Int) (w : World) (hN : TnAt w w.heap.size V T) (hl : bo.length = n) (hn : n ≤ 10) (hnc : n ≤ c) (hA : IntsAt w w.heap.size A bo) (hK : TnOk T) (hC : coolB T bo = true) (hf : 0 ≤ f ∧ f ≤ 3) :
    Calls Try.prog 23 #[tvV V, .slice A n c, .int .i64 f] w fun e w' => ∃ v, e = .returned (.tuple #[.int .i64 (rbH T bo f), v]) ∧ Below w.heap.size w w' ∧ RowIs intR 3 w.heap.size (rbL T bo f) v w' := by
  have z := heap_alloc_new w (.cells (tvC V) 25)
  have hb := (Below.refl w.heap.size w).alloc (Nat.le_refl _) (.cells (tvC V) 25)
  obtain ⟨w1, hw1⟩ : ∃ z, w.alloc (.cells (tvC V) 25) = z := ⟨_, rfl⟩
  rw [hw1] at z hb
  have HW := Lib.hid hw1; have HB := Lib.hid hb; have HZ := Lib.hid z
  have HN := Lib.hid (hN.up hb); have HA := Lib.hid (RowAt.up hA hb)
  have HLB := Lib.hid hl; have HK := Lib.hid hK; have HCO := Lib.hid hC
  have HNH := Lib.hid hN.nh
  have HFF := Lib.hid hf
  have h6 := hK.h6
  obtain ⟨ah, nh, ch, az, ns, cz⟩ := V
  have hnh6 : nh ≤ 6 := by have h1 : T.hs.length = nh := HNH.out; omega
  have HC : Hid (∀ u, Below w1.heap.size w1 u → u.cell? ⟨w.heap.size, 0, none⟩ = some (.slice ah nh ch) ∧ u.cell? ⟨w.heap.size, 1, none⟩ = some (.slice az ns cz)) := Lib.hid fun u hu => box2 ((hu.block _ (heapsz HZ.out)).trans HZ.out)
  clear z hb hw1 hN hA hl hK hC hf
  go_enter Try.func23, Try.ntmps23
  go_wp2_with fail
  rw [show w.alloc (.cells #[.slice ah nh ch, .slice az ns cz] 25) = w1 from HW.out]
  go_loopw [8] (fun hh wr => ∃ h : Nat, h ≤ nh ∧ hh = .int .i64 h ∧ (∀ k, k < h → f ≤ bearsI T k (setI bo)) ∧ Below w1.heap.size w1 wr) (fun hh _ => nh - (intOf hh).toNat)
  case atStart => exact ⟨0, by omega, rfl, fun k hk => absurd hk (Nat.not_lt_zero _), Below.refl _ _⟩
  case round =>
    obtain ⟨h, hh, rfl, hall, hbr⟩ := hrel
    have HBR := Lib.hid hbr; have HALL := Lib.hid hall
    obtain ⟨v0, v1⟩ := HC.out wr hbr
    clear hbr hall
    by_cases hlt : h < nh
    · have k3 : (0 : Int) ≤ (h : Int) := by omega
      have k4 : (h : Int) < (nh : Int) := by omega
      have hht : h < T.hs.length := by rw [HNH.out]; exact hlt
      have HREC := Lib.hid (rbreaks_any ⟨ah, nh, ch, az, ns, cz⟩ T A n c bo f h wr (HN.out.up HBR.out) HLB.out hn hnc (RowAt.up HA.out HBR.out) HK.out HCO.out HFF.out hht)
      have HIS := Lib.hid (rbk_is (h := h) HK.out HCO.out HFF.out)
      clear hht
      go_wp2_with fail
      refine HREC.out.mono ?_
      rintro e w2 ⟨v, rfl, hb2, hr⟩
      have HB2 := Lib.hid (HBR.out.trans (hb2.mono HBR.out.size))
      have HR := Lib.hid (hr.low HBR.out.size)
      rw [HIS.out.1]
      clear hb2 hr v0 v1
      by_cases hle : f ≤ bearsI T h (setI bo)
      · rw [decide_eq_true hle]
        have HA2 : Hid (∀ k, k < h + 1 → f ≤ bearsI T k (setI bo)) := Lib.hid fun k hk => by
          rcases Nat.lt_succ_iff_lt_or_eq.1 hk with hk | rfl
          · exact HALL.out k hk
          · exact hle
        clear hle
        go_wp2_with fail
        exact ⟨⟨h + 1, by omega, rfl, HA2.out, HB2.out⟩, by simp [intOf]; omega⟩
      · rw [decide_eq_false hle]
        have hL := HIS.out.2 (by omega)
        have HU : Hid (brU T bo f = some h) := Lib.hid (by
          unfold brU
          rw [HNH.out]
          exact uneven_some hlt HALL.out (by omega))
        have hr := HR.out
        rw [hL] at hr
        have HR2 := Lib.hid hr
        clear hle hL hr
        go_wp2_with fail
        refine bodyPost_ret (v := .tuple #[.int .i64 (h : Int), v]) (by simp [results, Try.results23, go_sem]) rfl ?_
        exact ⟨v, by unfold rbH; rw [HU.out], HB.out.trans (HB2.out.mono HB.out.size), by unfold rbL; rw [HU.out]; exact HR2.out.low HB.out.size⟩
    · obtain rfl : nh = h := by omega
      have k4 : ¬ (nh : Int) < (nh : Int) := by omega
      have HU : Hid (brU T bo f = none) := Lib.hid (by unfold brU; rw [HNH.out]; exact uneven_none HALL.out)
      go_wp2_with fail
      refine bodyPost_ret (v := .tuple #[.int .i64 (-1), .slice none 0 0]) (by simp [results, Try.results23, go_sem]) rfl ?_
      exact ⟨_, by unfold rbH; rw [HU.out], HB.out.trans (HBR.out.mono HB.out.size), by unfold rbL; rw [HU.out]; exact .inl ⟨rfl, rfl⟩⟩
theorem rbH_neg (T : Tn) (bo : List Int) (f : Int) : rbH T bo f < 0 ↔ keepS T f (setI bo) = true := by
  unfold rbH keepS
  unfold brU
  cases unevenI T T.hs.length (setI bo) f with
  | none => simp
  | some h => simp
set_option maxRecDepth 100000 in
theorem rkeeps_any (V : TV) (T : Tn) (A : Option Addr) (n c : Nat) (bo : List Int) (f : Int) (w : World) (hN : TnAt w w.heap.size V T) (hl : bo.length = n) (hn : n ≤ 10) (hnc : n ≤ c) (hA : IntsAt w w.heap.size A bo) (hK : TnOk T) (hC : coolB T bo = true) (hf : 0 ≤ f ∧ f ≤ 3) :
    Calls Try.prog 58 #[tvV V, .slice A n c, .int .i64 f] w fun e w' => e = .returned (.bool (keepS T f (setI bo))) ∧ Below w.heap.size w w' := by
  have z := heap_alloc_new w (.cells (tvC V) 25)
  have hb := (Below.refl w.heap.size w).alloc (Nat.le_refl _) (.cells (tvC V) 25)
  obtain ⟨w1, hw1⟩ : ∃ z, w.alloc (.cells (tvC V) 25) = z := ⟨_, rfl⟩
  rw [hw1] at z hb
  have HW := Lib.hid hw1; have HB := Lib.hid hb; have HZ := Lib.hid z
  have HN := Lib.hid (hN.up hb); have HA := Lib.hid (RowAt.up hA hb)
  have HLB := Lib.hid hl; have HK := Lib.hid hK; have HCO := Lib.hid hC
  have HNH := Lib.hid hN.nh
  have HREC := Lib.hid (rbreak_any V T A n c bo f w1 HN.out hl hn hnc HA.out hK hC hf)
  obtain ⟨ah, nh, ch, az, ns, cz⟩ := V
  obtain ⟨v0, v1⟩ := box2 z
  simp only at v0 v1
  have HNG := Lib.hid (rbH_neg T bo f)
  clear z hb hw1 hN hA hl hK hC hf
  go_enter Try.func58, Try.ntmps58
  go_wp2_with fail
  rw [show w.alloc (.cells #[.slice ah nh ch, .slice az ns cz] 25) = w1 from HW.out]
  go_wp2_with fail
  refine HREC.out.mono ?_
  rintro e w2 ⟨v, rfl, hb2, hr⟩
  have HB2 := Lib.hid (HB.out.trans (hb2.mono HB.out.size))
  obtain ⟨A4, c4, rfl⟩ := hr.len
  obtain ⟨x, hx⟩ : ∃ x, rbH T bo f = x := ⟨_, rfl⟩
  rw [hx] at HNG
  rw [hx]
  have HE : Hid (decide (x < 0) = keepS T f (setI bo)) := Lib.hid (by
    have h := HNG.out
    cases hk : keepS T f (setI bo) with
    | true => exact decide_eq_true (h.2 hk)
    | false => exact decide_eq_false fun h2 => by rw [h.1 h2] at hk; cases hk)
  clear hb2 hr v0 v1 hx
  go_wp2_with fail
  refine bodyPost_ret (v := .bool (decide (x < 0))) (by simp [results, Try.results58, go_sem]) rfl ?_
  exact ⟨by rw [HE.out], HB2.out⟩
set_option maxRecDepth 100000 in
set_option maxHeartbeats 8000000 in
theorem rbears_any (V : TV) (T : Tn) (A : Option Addr) (n c : Nat) (bo : List Int) (w : World) (hN : TnAt w w.heap.size V T) (hl : bo.length = n) (hn : n ≤ 10) (hnc : n ≤ c) (hA : IntsAt w w.heap.size A bo) (hK : TnOk T) (hC : coolB T bo = true) :
    Calls Try.prog 21 #[tvV V, .slice A n c] w fun e w' => e = .returned (.int .i64 (bearsK T (setI bo) T.hs.length)) ∧ Below w.heap.size w w' := by
  have z := heap_alloc_new w (.cells (tvC V) 25)
  have hb := (Below.refl w.heap.size w).alloc (Nat.le_refl _) (.cells (tvC V) 25)
  obtain ⟨w1, hw1⟩ : ∃ z, w.alloc (.cells (tvC V) 25) = z := ⟨_, rfl⟩
  rw [hw1] at z hb
  have HW := Lib.hid hw1; have HB := Lib.hid hb; have HZ := Lib.hid z
  have HN := Lib.hid (hN.up hb); have HA := Lib.hid (RowAt.up hA hb)
  have HLB := Lib.hid hl; have HK := Lib.hid hK; have HCO := Lib.hid hC
  have HNH := Lib.hid hN.nh
  obtain ⟨ah, nh, ch, az, ns, cz⟩ := V
  have HC : Hid (∀ u, Below w1.heap.size w1 u → u.cell? ⟨w.heap.size, 0, none⟩ = some (.slice ah nh ch) ∧ u.cell? ⟨w.heap.size, 1, none⟩ = some (.slice az ns cz)) := Lib.hid fun u hu => box2 ((hu.block _ (heapsz HZ.out)).trans HZ.out)
  have hin := bearsK_in T (setI bo) T.hs.length
  obtain ⟨bk, hbk⟩ : ∃ x, bearsK T (setI bo) T.hs.length = x := ⟨_, rfl⟩
  have HKS : Hid (∀ f : Int, 0 ≤ f ∧ f ≤ 3 → keepS T f (setI bo) = decide (f ≤ bk)) := Lib.hid fun f hf => by rw [keepS_iff hf.2, hbk]
  rw [hbk] at hin ⊢
  clear z hb hw1 hN hA hl hK hC hbk
  go_enter Try.func21, Try.ntmps21
  go_wp2_with fail
  rw [show w.alloc (.cells #[.slice ah nh ch, .slice az ns cz] 25) = w1 from HW.out]
  go_loopw [5] (fun mm wr => ∃ m : Int, -1 ≤ m ∧ m ≤ bk ∧ mm = .int .i64 m ∧ Below w1.heap.size w1 wr) (fun mm _ => (3 - intOf mm).toNat)
  case atStart => exact ⟨-1, by omega, by omega, rfl, Below.refl _ _⟩
  case round =>
    obtain ⟨m, hm1, hm2, rfl, hbr⟩ := hrel
    have HBR := Lib.hid hbr
    obtain ⟨v0, v1⟩ := HC.out wr hbr
    clear hbr
    by_cases hlt : m < 3
    · have hw : IntKind.i64.wrap (m + 1) = m + 1 := IntWalk.i64_in _ (by omega)
      have HREC := Lib.hid (rkeeps_any ⟨ah, nh, ch, az, ns, cz⟩ T A n c bo (m + 1) wr (HN.out.up HBR.out) HLB.out hn hnc (RowAt.up HA.out HBR.out) HK.out HCO.out (by omega))
      rw [HKS.out (m + 1) (by omega)] at HREC
      go_wp2_with fail
      refine HREC.out.mono ?_
      rintro e w2 ⟨rfl, hb2⟩
      have HB2 := Lib.hid (HBR.out.trans (hb2.mono HBR.out.size))
      clear hb2 v0 v1
      by_cases hle : m + 1 ≤ bk
      · rw [decide_eq_true hle]
        go_wp2_with fail
        exact ⟨⟨m + 1, by omega, by omega, rfl, HB2.out⟩, by simp [intOf]; omega⟩
      · rw [decide_eq_false hle]
        obtain rfl : m = bk := by omega
        clear hle
        go_wp2_with fail
        go_ret
        exact ⟨rfl, HB.out.trans (HB2.out.mono HB.out.size)⟩
    · obtain rfl : m = bk := by omega
      go_wp2_with fail
      go_ret
      exact ⟨rfl, HB.out.trans (HBR.out.mono HB.out.size)⟩
end Go.Proofs.Ytmppiiamcpjhnaa
