/- Percentages, parts of spans, and that nothing is wrong in a year. -/
import Derived.Test.YtdlaphlpimlgdaaGreatDoorCV
namespace Go.Proofs.YtdlaphlpimlgdaaGreatDoor
open Go.RowKit Go.Shelf

def pcB (xs : List Int) : Bool := xs.all fun x => inB 0 x 100
def perB (xs : List Int) : Bool := pcB xs && (decide (1 ≤ xs.length) && decide (xs.length ≤ 200))
set_option maxRecDepth 100000 in
set_option maxHeartbeats 2000000 in
theorem percents_any (A : Option Addr) (n c : Nat) (xs : List Int) (w : World) (hl : xs.length = n) (hn : n ≤ maxLen) (hX : IntsAt w w.heap.size A xs) :
    Calls Tryz.prog 35 #[.slice A n c] w fun e w' => e = .returned (.bool (perB xs)) ∧ Below w.heap.size w w' := by
  unfold maxLen at hn
  have HL := Lib.hid hl; have HX := Lib.hid hX
  clear hl hX
  go_enter Tryz.func35, Tryz.ntmps35
  go_wp2_with fail
  go_loopw [3] (fun i wr => ∃ k : Nat, k ≤ n ∧ i = .int .i64 k ∧ pcB (xs.take k) = true ∧ Below w.heap.size w wr) (fun i _ => n - (intOf i).toNat)
  case atStart => exact ⟨0, Nat.zero_le _, rfl, by simp [pcB], Below.refl _ _⟩
  case round =>
    obtain ⟨k, hk, rfl, hall, hbr⟩ := hrel
    have HA := Lib.hid hall; have HBR := Lib.hid hbr
    clear hall
    by_cases hlt : k < n
    · obtain ⟨x, hx⟩ := get_of_lt (l := xs) (k := k) (by rw [HL.out]; exact hlt)
      obtain ⟨b1, o1, rfl, hb1, hcs1⟩ := HX.out (by intro h; rw [h] at hx; simp at hx)
      have d1 := ((bcell hbr).1 _ _ hb1).trans (hcs1 k x hx 0 (.int .i64 x) rfl)
      simp only [Nat.mul_one, Nat.add_zero] at d1
      have k0 : (0 : Int) ≤ (k : Int) := by omega
      have k1 : (k : Int) < (n : Int) := by omega
      have KX := Lib.hid hx
      clear hx hcs1 hbr
      by_cases hin : 0 ≤ x ∧ x ≤ 100
      · obtain ⟨h1, h2⟩ := hin
        have HI : Hid (inB 0 x 100 = true) := Lib.hid (inB_iff.2 ⟨h1, h2⟩)
        go_wp2_with fail
        go_roundw
        case rel => exact ⟨k + 1, by omega, by go_num, take_all (f := fun x => inB 0 x 100) KX.out HA.out HI.out, HBR.out⟩
        case measure => simp [intOf]; omega
      · have HF : Hid (perB xs = false) := Lib.hid (by
          unfold perB pcB
          rw [List.all_eq_false.2 ⟨x, List.mem_of_getElem? KX.out, by rw [inB_iff]; exact hin⟩]
          rfl)
        by_cases h1 : x < 0
        · go_wp2_with fail
          go_ret
          exact ⟨by rw [HF.out]; rfl, HBR.out⟩
        · have h2 : 100 < x := by omega
          go_wp2_with fail
          go_ret
          exact ⟨by rw [HF.out]; rfl, HBR.out⟩
    · have hkn : k = n := by omega
      have HP : Hid (perB xs = (decide (1 ≤ (n : Int)) && decide ((n : Int) ≤ 200))) := Lib.hid (by
        have h1 := HA.out
        rw [List.take_of_length_le (by rw [HL.out]; omega)] at h1
        unfold perB
        rw [h1, HL.out, Bool.true_and]
        congr 1 <;> rw [decide_eq_decide] <;> omega)
      clear hbr hkn
      by_cases h1 : 1 ≤ (n : Int)
      · by_cases h2 : (n : Int) ≤ 200
        · have HF : Hid (perB xs = true) := Lib.hid (by rw [HP.out, decide_eq_true h1, decide_eq_true h2]; rfl)
          clear HP
          go_wp2_with fail
          go_ret
          exact ⟨by rw [HF.out]; rfl, HBR.out⟩
        · have HF : Hid (perB xs = false) := Lib.hid (by rw [HP.out, decide_eq_true h1, decide_eq_false h2]; rfl)
          clear HP
          go_wp2_with fail
          go_ret
          exact ⟨by rw [HF.out]; rfl, HBR.out⟩
      · have HF : Hid (perB xs = false) := Lib.hid (by rw [HP.out, decide_eq_false h1]; rfl)
        clear HP
        go_wp2_with fail
        go_ret
        exact ⟨by rw [HF.out]; rfl, HBR.out⟩
def prtI (y : Sp) (p : Int) : Int := y.1 + (y.2 - y.1) * p / 100
theorem prt_in {y : Sp} {p : Int} (h : 0 ≤ y.1 ∧ y.1 ≤ y.2) (hp : 0 ≤ p ∧ p ≤ 100) : y.1 ≤ prtI y p ∧ prtI y p ≤ y.2 := by
  unfold prtI
  have h1 : 0 ≤ (y.2 - y.1) * p := Int.mul_nonneg (by omega) hp.1
  have h2 : (y.2 - y.1) * p ≤ (y.2 - y.1) * 100 := Int.mul_le_mul_of_nonneg_left hp.2 (by omega)
  omega
theorem prt_wrap {lo hi p : Int} (h : 0 ≤ lo ∧ lo ≤ hi ∧ hi ≤ 100000) (hp : 0 ≤ p ∧ p ≤ 100) : wrap64 (lo + wrap64 ((wrap64 (wrap64 (hi - lo) * p)).tdiv 100)) = prtI (lo, hi) p := by
  have h1 : 0 ≤ (hi - lo) * p := Int.mul_nonneg (by omega) hp.1
  have h2 : (hi - lo) * p ≤ (hi - lo) * 100 := Int.mul_le_mul_of_nonneg_left hp.2 (by omega)
  unfold prtI
  rw [w64 (n := hi - lo) (by omega), w64 (n := (hi - lo) * p) (by omega), Int.tdiv_eq_ediv_of_nonneg h1, w64 (n := (hi - lo) * p / 100) (by omega), w64 (by omega)]
set_option maxRecDepth 100000 in
theorem part_any (lo hi p : Int) (w : World) (h : 0 ≤ lo ∧ lo ≤ hi ∧ hi ≤ 100000) (hp : 0 ≤ p ∧ p ≤ 100) :
    Calls Tryz.prog 83 #[.agg #[.int .i64 lo, .int .i64 hi], .int .i64 p] w fun e w' => e = .returned (.int .i64 (prtI (lo, hi) p)) ∧ Below w.heap.size w w' := by
  have HP := Lib.hid (prt_wrap h hp)
  have HB := Lib.hid ((Below.refl w.heap.size w).alloc (Nat.le_refl _) (.cells #[.int .i64 lo, .int .i64 hi] 42))
  clear h hp
  go_enter Tryz.func83, Tryz.ntmps83
  go_wp2_with fail
  go_ret
  exact ⟨by rw [← HP.out]; rfl, HB.out⟩
set_option maxRecDepth 100000 in
set_option maxHeartbeats 4000000 in
theorem tilts_no {X : Ctx} {w : World} (h : X.In w) (A : Option Addr) (c : Nat) (lv : List Int) (hA : IntsAt w w.heap.size A lv) (k a b : Nat) (x y : Int) (_np6 : X.np ≤ 6) (hk : k < X.nq) (_hnq : X.nq ≤ 10) (ha : a < X.np) (hb : b < X.np) (hq : X.qs[k]? = some ((a : Int), (b : Int))) (hx : lv[a]? = some x) (hy : lv[b]? = some y)
    (hb1 : -1000000 ≤ x ∧ x ≤ 1000000) (hb2 : -1000000 ≤ y ∧ y ≤ 1000000) (h1 : x - y ≤ X.tilt) (h2 : -(x - y) ≤ X.tilt) :
    Calls Tryz.prog 41 #[X.sv, .int .i64 (k : Int), .slice A X.np c] w fun e w' => e = .returned (.bool false) ∧ Below w.heap.size w w' := by
  obtain ⟨z0, hb0⟩ := site_new X w
  obtain ⟨w1, hw1⟩ : ∃ z, w.alloc (.cells X.cells 26) = z := ⟨_, rfl⟩
  rw [hw1] at z0 hb0
  have HB := Lib.hid hb0
  obtain ⟨bq, oq, eQ, hbq, c0, c1⟩ := prs_el h.Q hq
  obtain ⟨bl, ol, rfl, hbl, hcl⟩ := hA (by intro h; rw [h] at hx; simp at hx)
  have d0 := hcl a x hx 0 (.int .i64 x) rfl
  have d1 := hcl b y hy 0 (.int .i64 y) rfl
  simp only [Nat.mul_one, Nat.add_zero] at d0 d1
  replace c0 := ((bcell hb0).1 _ _ hbq).trans c0
  replace c1 := ((bcell hb0).1 _ _ hbq).trans c1
  replace d0 := ((bcell hb0).1 _ _ hbl).trans d0
  replace d1 := ((bcell hb0).1 _ _ hbl).trans d1
  obtain ⟨s0, s1, s2, s3, s4, s5⟩ := site_box z0
  rw [eQ] at s1
  have hk0 : (0 : Int) ≤ (k : Int) := by omega
  have hk1 : (k : Int) < (X.nq : Int) := by omega
  have ha0 : (0 : Int) ≤ (a : Int) := by omega
  have ha1 : (a : Int) < (X.np : Int) := by omega
  have hc0 : (0 : Int) ≤ (b : Int) := by omega
  have hc1 : (b : Int) < (X.np : Int) := by omega
  have HR : Hid ((decide (X.tilt < wrap64 (x - y)) || decide (X.tilt < wrap64 (-wrap64 (x - y)))) = false) := Lib.hid (by
    rw [w64 (n := x - y) (by omega), w64 (n := -(x - y)) (by omega), decide_eq_false (by omega), decide_eq_false (by omega)]
    rfl)
  have n1 : ¬ X.tilt < wrap64 (x - y) := by rw [w64 (n := x - y) (by omega)]; omega
  have n2 : ¬ X.tilt < wrap64 (-wrap64 (x - y)) := by rw [w64 (n := x - y) (by omega), w64 (n := -(x - y)) (by omega)]; omega
  clear h hA hcl hx hy hq hbq hbl hb0 z0 eQ h1 h2 hb1 hb2
  go_enter Tryz.func41, Tryz.ntmps41
  go_wp2_with fail
  go_quiet (fail)
  go_wp2_with fail
  go_ret
  first | exact ⟨rfl, belN HB.out _⟩ | exact ⟨congrArg (fun b => Ending.returned (Value.bool b)) HR.out, belN HB.out _⟩
def PairsOk (X : Ctx) (lv : List Int) : Prop := ∀ (k a b : Nat) (x y : Int), X.qs[k]? = some ((a : Int), (b : Int)) → lv[a]? = some x → lv[b]? = some y → x - y ≤ X.tilt ∧ -(x - y) ≤ X.tilt
set_option maxRecDepth 100000 in
set_option maxHeartbeats 8000000 in
theorem wrong_no {X : Ctx} {w : World} (h : X.In w) (K : X.Ok) (A1 A : Option Addr) (c1 c : Nat) (row : List Tru) (lv : List Int) (hr : row.length = X.np) (hl : lv.length = X.np) (hT : RowAt 3 truR w w.heap.size A1 row) (hA : IntsAt w w.heap.size A lv)
    (hin : ∀ x ∈ lv, -1000000 ≤ x ∧ x ≤ 1000000) (hP : PairsOk X lv)
    (hok : ∀ (i : Nat) (x : Tru) (l : Int), row[i]? = some x → lv[i]? = some l → (0 ≤ x.t ∧ x.t ≤ 50000) ∧ (0 ≤ x.l ∧ x.l ≤ 100000) ∧ loseI X.may (X.pile i) x.t = false ∧ (rowI X.rs (carI (X.pile i) x.t) x.l).2 = false ∧ ¬ l < -X.sink) :
    Calls Tryz.prog 38 #[X.sv, .slice A1 X.np c1, .slice A X.np c] w fun e w' => e = .returned (.bool false) ∧ Below w.heap.size w w' := by
  obtain ⟨z0, hb0⟩ := site_new X w
  have HK := Lib.hid K
  have np6 := K.np6; have q10 := K.parts.q10
  obtain ⟨w1, hw1⟩ : ∃ z, w.alloc (.cells X.cells 26) = z := ⟨_, rfl⟩
  rw [hw1] at z0 hb0
  have HI := Lib.hid (h.up hb0); have HB := Lib.hid hb0
  have Z0 := Lib.hid z0
  have HT := Lib.hid (RowAt.up (k := 3) (R := truR) hT hb0); have HA := Lib.hid (RowAt.up (k := 1) (R := intR) hA hb0)
  have HR := Lib.hid hr; have HL := Lib.hid hl; have HIN := Lib.hid hin; have HP := Lib.hid hP; have HOK := Lib.hid hok
  have sk := K.parts.sink
  have vs : Value.int .i64 (wrap64 (-X.sink)) = Value.int .i64 (-X.sink) := by congr 1; exact w64 (by omega)
  clear K h z0 hb0 hT hA hr hl hin hP hok
  go_enter Tryz.func38, Tryz.ntmps38
  go_wp2_with fail
  go_loopw [7] (fun v wr => ∃ k : Nat, k ≤ X.np ∧ v = .int .i64 k ∧ Below w1.heap.size w1 wr) (fun v _ => X.np - (intOf v).toNat)
  case atStart => exact ⟨0, Nat.zero_le _, rfl, Below.refl _ _⟩
  case round =>
    obtain ⟨k, hk, rfl, hbr⟩ := hrel
    have HBR := Lib.hid hbr
    obtain ⟨s0, s1, s2, s3, s4, s5⟩ := site_box ((hbr.block _ (heapsz Z0.out)).trans Z0.out)
    clear hbr
    by_cases hkt : k < X.np
    · have hk0 : (0 : Int) ≤ (k : Int) := by omega
      have hk1 : (k : Int) < (X.np : Int) := by omega
      obtain ⟨x, hx⟩ := get_of_lt (l := row) (k := k) (by rw [HR.out]; exact hkt)
      obtain ⟨l, hl⟩ := get_of_lt (l := lv) (k := k) (by rw [HL.out]; exact hkt)
      obtain ⟨g1, g2, g3, g4, g5⟩ := HOK.out k x l hx hl
      obtain ⟨b', o', rfl, hb', q0, q1, q2⟩ := tru_el HT.out hx
      obtain ⟨bl, ol, rfl, hbl, hcl⟩ := HA.out (by intro h; rw [h] at hl; simp at hl)
      have d0 := hcl k l hl 0 (.int .i64 l) rfl
      simp only [Nat.mul_one, Nat.add_zero] at d0
      obtain ⟨bp, op, eAP, hbp, y0, y1, y2, y3, y4, y5, y6⟩ := HI.out.cells_p HK.out hkt
      have hpB := (HK.out.at_pile hkt).2
      have nr6 := HK.out.parts.nr6
      have hku := fun u : KeptW wr => (bcell (HBR.out.trans (u.h.mono HBR.out.size))).1
      have ss := fun u : KeptW wr => site_box (((HBR.out.trans (u.h.mono HBR.out.size)).block _ (heapsz Z0.out)).trans Z0.out)
      have S0 := fun u => (ss u).1; have S1 := fun u => (ss u).2.1; have S2 := fun u => (ss u).2.2.1; have S3 := fun u => (ss u).2.2.2.1; have S4 := fun u => (ss u).2.2.2.2.1; have S5 := fun u => (ss u).2.2.2.2.2
      have Y0 := fun u => (hku u _ _ hbp).trans y0; have Y1 := fun u => (hku u _ _ hbp).trans y1; have Y2 := fun u => (hku u _ _ hbp).trans y2; have Y3 := fun u => (hku u _ _ hbp).trans y3; have Y4 := fun u => (hku u _ _ hbp).trans y4; have Y5 := fun u => (hku u _ _ hbp).trans y5; have Y6 := fun u => (hku u _ _ hbp).trans y6
      have Q0 := fun u => (hku u _ _ hb').trans q0; have Q1 := fun u => (hku u _ _ hb').trans q1; have D0 := fun u => (hku u _ _ hbl).trans d0
      have HC1 := Lib.hid fun u : KeptW wr => Calls.in_kept u (by
        have h1 := refLoses_any X.AP X.AQ X.AR X.np X.cp X.nq X.cq X.nr X.cr X.may X.sink X.tilt (X.pile k) x.t u.w hpB g1 HK.out.parts.may
        rw [g3, eAP] at h1
        exact h1)
      have HC2 := Lib.hid fun u : KeptW wr => Calls.in_kept u (by
        have h1 := refFails_any X.AP X.AQ X.AR X.np X.cp X.nq X.cq X.nr X.cr X.rs X.may X.sink X.tilt (X.pile k) x.t x.l u.w HK.out.hr nr6.1 (by unfold maxLen; omega) HK.out.parts.rs (HI.out.R.up (HBR.out.trans (u.h.mono HBR.out.size))) hpB g1 g2
        rw [g4, eAP] at h1
        exact h1)
      simp only [eAP] at S0
      obtain ⟨P, hP⟩ : ∃ z, X.pile k = z := ⟨_, rfl⟩
      simp only [hP] at HC1 HC2 Y0 Y1 Y2 Y3 Y4 Y5 Y6
      unfold pilV at HC1 HC2
      have g6 : decide (l < -X.sink) = false := decide_eq_false (by omega)
      clear y0 y1 y2 y3 y4 y5 y6 hbp hb' hbl hcl d0 q0 q1 q2 hpB hku ss eAP hP g1 g2 g3 g4 hx hl
      rw [show X.cells = X.cells from rfl] at Z0
      go_wp2_with fail
      clear s0 s1 s2 s3 s4 s5
      refine rk_region (by kernel_rfl) (by kernel_rfl) ?_
      repeat (go_big_quiet_step (first | (with_reducible exact HC1.out _) | (with_reducible exact HC2.out _) | fail))
      refine wpQuiet_nil ?_
      rintro _ ⟨u, rfl⟩
      have HBV := Lib.hid (HBR.out.trans (u.h.mono HBR.out.size))
      clear S0 S1 S2 S3 S4 S5 Y0 Y1 Y2 Y3 Y4 Y5 Y6 Q0 Q1 D0 HC1 HC2 g5 g6
      go_wp2_with fail
      go_roundw
      case rel => exact ⟨k + 1, by omega, by go_num, HBV.out⟩
      case measure => simp [intOf]; omega
    · have hke : k = X.np := by omega
      have hk1 : ¬ (k : Int) < (X.np : Int) := by omega
      have HBK := HBR
      clear HBR hke
      go_wp2_with fail
      clear s0 s1 s2 s3 s4 s5
      go_loopw [8] (fun v wq => ∃ j : Nat, j ≤ X.nq ∧ v = .int .i64 j ∧ Below w1.heap.size w1 wq) (fun v _ => X.nq - (intOf v).toNat)
      case atStart => exact ⟨0, Nat.zero_le _, rfl, HBK.out⟩
      case round =>
        obtain ⟨j, hj, rfl, hbq⟩ := hrel
        have HBQ := Lib.hid hbq
        obtain ⟨s0, s1, s2, s3, s4, s5⟩ := site_box ((hbq.block _ (heapsz Z0.out)).trans Z0.out)
        clear hbq
        by_cases hjt : j < X.nq
        · have hj1 : (j : Int) < (X.nq : Int) := by omega
          obtain ⟨q, hq⟩ := get_of_lt (l := X.qs) (k := j) (by rw [HK.out.hq]; exact hjt)
          obtain ⟨h1, h2, _⟩ := HK.out.parts.qs j q hq
          obtain ⟨a, ha⟩ : ∃ a : Nat, q.1 = (a : Int) := ⟨q.1.toNat, by omega⟩
          obtain ⟨b, hb⟩ : ∃ b : Nat, q.2 = (b : Int) := ⟨q.2.toNat, by omega⟩
          obtain ⟨x, hx⟩ := get_of_lt (l := lv) (k := a) (by rw [HL.out]; omega)
          obtain ⟨y, hy⟩ := get_of_lt (l := lv) (k := b) (by rw [HL.out]; omega)
          have hqq : X.qs[j]? = some ((a : Int), (b : Int)) := by rw [hq, ← ha, ← hb]
          obtain ⟨t1, t2⟩ := HP.out j a b x y hqq hx hy
          have HC := Lib.hid (tilts_no (HI.out.up HBQ.out) A c lv (RowAt.up (k := 1) (R := intR) HA.out HBQ.out) j a b x y np6.2 hjt q10 (by omega) (by omega) hqq hx hy (HIN.out x (List.mem_of_getElem? hx)) (HIN.out y (List.mem_of_getElem? hy)) t1 t2)
          clear hq h1 h2 ha hb hx hy hqq t1 t2
          go_wp2_with fail
          refine HC.out.mono ?_
          rintro e w5 ⟨rfl, hb⟩
          have HB5 := Lib.hid (HBQ.out.trans (hb.mono HBQ.out.size))
          clear hb HC s0 s1 s2 s3 s4 s5
          go_wp2_with fail
          go_roundw
          case rel => exact ⟨j + 1, by omega, by go_num, HB5.out⟩
          case measure => simp [intOf]; omega
        · have hj1 : ¬ (j : Int) < (X.nq : Int) := by omega
          go_wp2_with fail
          go_ret
          exact ⟨rfl, HB.out.trans (HBQ.out.mono HB.out.size)⟩
end Go.Proofs.YtdlaphlpimlgdaaGreatDoor
