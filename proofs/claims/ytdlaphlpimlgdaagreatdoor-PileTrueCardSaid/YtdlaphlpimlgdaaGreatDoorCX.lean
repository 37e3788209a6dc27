/- What is true of all piles, by percentages. -/
import Derived.Test.YtdlaphlpimlgdaaGreatDoorCW
namespace Go.Proofs.YtdlaphlpimlgdaaGreatDoor
open Go.RowKit Go.Shelf

def whrI (xs : List Int) (n : Nat) : Int := xs.getD (n % xs.length) 0
def Ctx.trA (X : Ctx) (xs : List Int) (t i : Nat) : Int := prtI ((X.th t i).1, (X.th t i).2) (whrI xs (3 * (t * X.np + i)))
def Ctx.trB (X : Ctx) (xs : List Int) (t i : Nat) : Int := prtI ((X.pile i).l, (X.pile i).h) (whrI xs (3 * (t * X.np + i) + 1))
def Ctx.trR (X : Ctx) (xs : List Int) (t i : Nat) : Rw := (rowI X.rs (carI (X.pile i) (X.trA xs t i)) (X.trB xs t i)).1
def Ctx.trC (X : Ctx) (xs : List Int) (t i : Nat) : Int := prtI ((X.trR xs t i).lo, (X.trR xs t i).hi) (whrI xs (3 * (t * X.np + i) + 2))
def Ctx.trT (X : Ctx) (xs : List Int) (t i : Nat) : Tru := ⟨X.trA xs t i, X.trB xs t i, X.trC xs t i⟩
def Ctx.truL (X : Ctx) (xs : List Int) : List (List Tru) := gridL (X.trT xs) X.n X.np
theorem per_get {xs : List Int} (h : perB xs = true) (n : Nat) : 0 ≤ whrI xs n ∧ whrI xs n ≤ 100 ∧ n % xs.length < xs.length ∧ xs[n % xs.length]? = some (whrI xs n) := by
  unfold perB at h
  simp only [Bool.and_eq_true, decide_eq_true_eq] at h
  have h1 : n % xs.length < xs.length := Nat.mod_lt _ h.2.1
  obtain ⟨x, hx⟩ := get_of_lt h1
  have h2 := List.all_eq_true.1 h.1 x (List.mem_of_getElem? hx)
  rw [inB_iff] at h2
  have h3 : whrI xs n = x := by unfold whrI; rw [List.getD_eq_getElem?_getD, hx]; rfl
  rw [h3]
  exact ⟨h2.1, h2.2, h1, hx⟩
theorem three_cells_new (w : World) (a b c : Value) (t : TypeId) : ∀ j u, [a, b, c][j]? = some u → (w.alloc (.cells #[a, b, c] t)).cell? ((⟨w.heap.size, 0, none⟩ : Addr).add j) = some u := by
  intro j u hj
  match j, hj with
  | 0, hj => simp at hj; subst hj; simp [Addr.add]
  | 1, hj => simp at hj; subst hj; simp [Addr.add]
  | 2, hj => simp at hj; subst hj; simp [Addr.add]
  | j + 3, hj => simp at hj
def trCv (tv : Value) (bs bp op bt ot b2 o2 bw ow np cp c' m c2 t i N r1 r2 : Nat) (p : Pil) (y : Sp) (P1 P2 T1 T2 : Int) (g : Nat) : Tmp → Value
  | 1 => tv
  | 2 => .slice (some ⟨bw, ow, none⟩) m c2
  | 3 => .pointer (some ⟨bs, 0, none⟩)
  | 8 => .int .i64 (N : Int)
  | 9 => .int .i64 (t : Int)
  | 11 => .int .i64 (i : Int)
  | 26 => tv
  | 27 => .int .i64 (t : Int)
  | 28 => .pointer (some ⟨bt, ot + t, none⟩)
  | 29 => .slice (some ⟨b2, o2, none⟩) np c'
  | 30 => .int .i64 (i : Int)
  | 31 => .pointer (some ⟨b2, o2 + i * 2, none⟩)
  | 32 => .agg #[.int .i64 y.1, .int .i64 y.2]
  | 33 => .slice (some ⟨bw, ow, none⟩) m c2
  | 34 => .int .i64 (N : Int)
  | 35 => .slice (some ⟨bw, ow, none⟩) m c2
  | 36 => .int .i64 (m : Int)
  | 37 => .int .i64 (r1 : Int)
  | 38 => .pointer (some ⟨bw, ow + r1, none⟩)
  | 39 => .int .i64 P1
  | 40 => .int .i64 T1
  | 41 => .pointer (some ⟨bs, 0, none⟩)
  | 42 => .slice (some ⟨bp, op, none⟩) np cp
  | 43 => .int .i64 (i : Int)
  | 44 => .pointer (some ⟨bp, op + i * 7, none⟩)
  | 45 => .pointer (some ⟨bp, op + i * 7 + 3, none⟩)
  | 46 => .agg #[.int .i64 p.l, .int .i64 p.h]
  | 47 => .slice (some ⟨bw, ow, none⟩) m c2
  | 48 => .int .i64 (N : Int)
  | 49 => .int .i64 ((N + 1 : Nat) : Int)
  | 50 => .slice (some ⟨bw, ow, none⟩) m c2
  | 51 => .int .i64 (m : Int)
  | 52 => .int .i64 (r2 : Int)
  | 53 => .pointer (some ⟨bw, ow + r2, none⟩)
  | 54 => .int .i64 P2
  | 55 => .int .i64 T2
  | 56 => .agg #[.int .i64 T1, .int .i64 T2, .int .i64 0]
  | 12 => .pointer (some ⟨g, 0, none⟩)
  | _ => undef
set_option maxRecDepth 100000 in
set_option maxHeartbeats 16000000 in
theorem truth_any {X : Ctx} {w : World} (h : X.In w) (K : X.Ok) (A2 : Option Addr) (m c2 : Nat) (xs : List Int) (hm : xs.length = m) (hper : perB xs = true) (hX : IntsAt w w.heap.size A2 xs) :
    Calls Tryz.prog 36 #[X.sv, X.tv, .slice A2 m c2] w fun e w' => ∃ A3 c3, e = .returned (.slice A3 X.n c3) ∧ GridAt 3 truR w' w'.heap.size A3 (X.truL xs) ∧ X.n ≤ c3 ∧ Below w.heap.size w w' := by
  obtain ⟨z0, hb0⟩ := site_new X w
  have HK := Lib.hid K
  have np6 := K.np6; have n10 := K.n10
  obtain ⟨w1, hw1⟩ : ∃ z, w.alloc (.cells X.cells 26) = z := ⟨_, rfl⟩
  rw [hw1] at z0 hb0
  have HI := Lib.hid (h.up hb0); have HB := Lib.hid hb0
  have Z0 := Lib.hid z0
  have HM := Lib.hid hm; have HPR := Lib.hid hper
  have m200 : 1 ≤ m ∧ m ≤ 200 := by
    unfold perB at hper
    simp only [Bool.and_eq_true, decide_eq_true_eq] at hper
    omega
  obtain ⟨bw, ow, rfl, hbw0, hcw0⟩ := hX (by intro h; rw [h] at hm; simp at hm; omega)
  have HBW0 : Hid (bw < w1.heap.size) := Lib.hid (Nat.lt_of_lt_of_le hbw0 hb0.size)
  have HCW : Hid (∀ (j : Nat) (x : Int), xs[j]? = some x → w1.cell? ⟨bw, ow + j, none⟩ = some (.int .i64 x)) := Lib.hid fun j x hx => by
    have := ((bcell hb0).1 _ _ hbw0).trans (hcw0 j x hx 0 (.int .i64 x) rfl)
    simpa only [Nat.mul_one, Nat.add_zero] using this
  have htv : X.tv = .slice X.A X.n X.c := rfl
  obtain ⟨AA, hAA⟩ : ∃ z, X.A = z := ⟨_, rfl⟩
  have HAA := Lib.hid hAA
  rw [htv, hAA]
  clear h z0 hb0 K hm hper hX hbw0 hcw0 hAA htv
  go_enter Tryz.func36, Tryz.ntmps36
  go_wp2_with fail
  go_loopw [7, 8, 9] (fun v n i wr => ∃ (t : Nat) (rows : List Value), t ≤ X.n ∧ n = .int .i64 ((3 * (t * X.np) : Nat) : Int) ∧ i = .int .i64 t ∧ Below w1.heap.size w1 wr ∧ GrdI truR 68 52 w w1.heap.size ((X.truL xs).take t) v rows wr) (fun _ _ i _ => X.n - (intOf i).toNat)
  case atStart => exact ⟨0, [], Nat.zero_le _, by simp, rfl, Below.refl _ _, GrdI.nil HB.out HB.out.size⟩
  case round =>
    obtain ⟨t, rows, ht, rfl, rfl, hbr, hI⟩ := hrel
    have HG := Lib.hid hI; have HBR := Lib.hid hbr
    clear hI
    by_cases hlt : t < X.n
    · have ht0 : (0 : Int) ≤ (t : Int) := by omega
      have ht1 : (t : Int) < (X.n : Int) := by omega
      have hM6 : t * X.np ≤ 9 * 6 := Nat.mul_le_mul (by omega) np6.2
      obtain ⟨M, hM⟩ : ∃ z, t * X.np = z := ⟨_, rfl⟩
      have HMM := Lib.hid hM
      rw [hM] at hM6 ⊢
      clear hbr hM
      go_wp2_with fail
      rename World => wo
      have HBO := Lib.hid HBR.out
      go_loopw [8, 10, 11] (fun n v i wq => ∃ k : Nat, k ≤ X.np ∧ n = .int .i64 ((3 * (M + k) : Nat) : Int) ∧ i = .int .i64 k ∧ Below wo.heap.size wo wq ∧ wq.ownsRow wo.heap.size 68 3 v k (flatR truR (((List.range X.np).map (X.trT xs t)).take k))) (fun _ _ i _ => X.np - (intOf i).toNat)
      case atStart => exact ⟨0, Nat.zero_le _, rfl, rfl, Below.refl _ _, World.ownsRow_nil _ _ _ _⟩
      case round =>
        obtain ⟨k, hk, rfl, rfl, hbw, hown⟩ := hrel
        have HBW := Lib.hid hbw; have HOWN := Lib.hid hown
        have HKB : Hid (Below w1.heap.size w1 wr) := Lib.hid (HBO.out.trans (hbw.mono HBO.out.size))
        have c0 := (site_box ((HKB.out.block _ (heapsz Z0.out)).trans Z0.out)).1
        clear hown hbw
        by_cases hkt : k < X.np
        · have hk0 : (0 : Int) ≤ (k : Int) := by omega
          have hk1 : (k : Int) < (X.np : Int) := by omega
          obtain ⟨bp, op, eAP, hbp, p0, p1, p2, p3, p4, p5, p6⟩ := HI.out.cells_p HK.out hkt
          obtain ⟨bt, ot, b2, o2, c', eA, hbt, hb2, t0, t1, t2⟩ := HI.out.cells_t HK.out hlt hkt
          obtain rfl : AA = some ⟨bt, ot, none⟩ := HAA.out.symm.trans eA
          have hpB := (HK.out.at_pile hkt).2
          have hpl := (pilB_iff.1 hpB).2.2.2.1
          have hyB : 0 ≤ (X.th t k).1 ∧ (X.th t k).1 ≤ (X.th t k).2 ∧ (X.th t k).2 ≤ 50000 := by
            obtain ⟨_, _, _, _, h5⟩ := HK.out.at_th hlt hkt
            exact withinB_iff.1 h5
          have nr6 := HK.out.parts.nr6
          obtain ⟨N, hN⟩ : ∃ z, 3 * (M + k) = z := ⟨_, rfl⟩
          have hN2 : 3 * (t * X.np + k) = N := by rw [HMM.out]; exact hN
          have HN := Lib.hid hN
          have N1k : N ≤ 1000 := by omega
          obtain ⟨a1, a2, a3, a4⟩ := per_get HPR.out N
          obtain ⟨b1, b2', b3, b4⟩ := per_get HPR.out (N + 1)
          obtain ⟨d1, d2, d3, d4⟩ := per_get HPR.out (N + 2)
          rw [HM.out] at a3 a4 b3 b4 d3 d4
          obtain ⟨r1, hr1⟩ : ∃ z, N % m = z := ⟨_, rfl⟩
          obtain ⟨r2, hr2⟩ : ∃ z, (N + 1) % m = z := ⟨_, rfl⟩
          obtain ⟨r3, hr3⟩ : ∃ z, (N + 2) % m = z := ⟨_, rfl⟩
          have HT1 : (N : Int).tmod (m : Int) = (r1 : Int) := by rw [Int.tmod_eq_emod_of_nonneg (by omega), ← hr1]; rfl
          have HT2 : ((N : Int) + 1).tmod (m : Int) = (r2 : Int) := by show ((N + 1 : Nat) : Int).tmod (m : Int) = (r2 : Int); rw [Int.tmod_eq_emod_of_nonneg (by omega), ← hr2]; rfl
          have HT3 : ((N : Int) + 2).tmod (m : Int) = (r3 : Int) := by show ((N + 2 : Nat) : Int).tmod (m : Int) = (r3 : Int); rw [Int.tmod_eq_emod_of_nonneg (by omega), ← hr3]; rfl
          have HN2 : Value.int .i64 (wrap64 ((N : Int) + 2)) = Value.int .i64 ((N : Int) + 2) := by congr 1; exact w64 (by omega)
          rw [hr1] at a3 a4
          rw [hr2] at b3 b4
          rw [hr3] at d3 d4
          have hm0 : ¬ m = 0 := by omega
          have r10 : (0 : Int) ≤ (r1 : Int) := by omega
          have r11 : (r1 : Int) < (m : Int) := by omega
          have r20 : (0 : Int) ≤ (r2 : Int) := by omega
          have r21 : (r2 : Int) < (m : Int) := by omega
          have r30 : (0 : Int) ≤ (r3 : Int) := by omega
          have r31 : (r3 : Int) < (m : Int) := by omega
          have HXX : Hid (((List.range X.np).map (X.trT xs t))[k]? = some (X.trT xs t k)) := Lib.hid (rowL_at _ hkt)
          have uA : X.trA xs t k = prtI ((X.th t k).1, (X.th t k).2) (whrI xs N) := by rw [← hN2]; rfl
          have uB : X.trB xs t k = prtI ((X.pile k).l, (X.pile k).h) (whrI xs (N + 1)) := by rw [← hN2]; rfl
          have uC : X.trC xs t k = prtI ((X.trR xs t k).lo, (X.trR xs t k).hi) (whrI xs (N + 2)) := by rw [← hN2]; rfl
          have uR : X.trR xs t k = (rowI X.rs (carI (X.pile k) (X.trA xs t k)) (X.trB xs t k)).1 := rfl
          have uT : X.trT xs t k = ⟨X.trA xs t k, X.trB xs t k, X.trC xs t k⟩ := rfl
          have pA := prt_in (y := ((X.th t k).1, (X.th t k).2)) ⟨hyB.1, hyB.2.1⟩ ⟨a1, a2⟩
          have pB := prt_in (y := ((X.pile k).l, (X.pile k).h)) (by show 0 ≤ (X.pile k).l ∧ (X.pile k).l ≤ (X.pile k).h; omega) ⟨b1, b2'⟩
          rw [← uA] at pA
          rw [← uB] at pB
          have rI := rowI_in HK.out.parts.rs (by rw [HK.out.hr]; exact nr6.1) (carI (X.pile k) (X.trA xs t k)) (X.trB xs t k)
          rw [← uR] at rI
          have HC1 := Lib.hid fun u => part_any (X.th t k).1 (X.th t k).2 (whrI xs N) u (by omega) ⟨a1, a2⟩
          have HC2 := Lib.hid fun u => part_any (X.pile k).l (X.pile k).h (whrI xs (N + 1)) u (by omega) ⟨b1, b2'⟩
          have HC3 := Lib.hid fun u (hu : Below w1.heap.size w1 u) => refRow_any X.AP X.AQ X.AR X.np X.cp X.nq X.cq X.nr X.cr X.rs X.may X.sink X.tilt (X.pile k) (X.trA xs t k) (X.trB xs t k) u HK.out.hr nr6.1 (by unfold maxLen; omega) (HI.out.R.up hu) hpB (by omega) (by omega)
          have HC4 := Lib.hid fun u => part_any (X.trR xs t k).lo (X.trR xs t k).hi (whrI xs (N + 2)) u (by omega) ⟨d1, d2⟩
          rw [← uA] at HC1
          rw [← uB] at HC2
          rw [← uC] at HC4
          rw [← uR, eAP] at HC3
          have FC : Hid (∀ u, Below w1.heap.size w1 u → (u.cell? ⟨w.heap.size, 0, none⟩ = some (.slice (some ⟨bp, op, none⟩) X.np X.cp) ∧ u.cell? ⟨w.heap.size, 1, none⟩ = some (.slice X.AQ X.nq X.cq) ∧ u.cell? ⟨w.heap.size, 2, none⟩ = some (.slice X.AR X.nr X.cr) ∧ u.cell? ⟨w.heap.size, 3, none⟩ = some (.int .i64 X.may) ∧ u.cell? ⟨w.heap.size, 4, none⟩ = some (.int .i64 X.sink) ∧ u.cell? ⟨w.heap.size, 5, none⟩ = some (.int .i64 X.tilt)) ∧
              (u.cell? ⟨bp, op + k * 7, none⟩ = some (.int .i64 (X.pile k).d) ∧ u.cell? ⟨bp, op + k * 7 + 1, none⟩ = some (.int .i64 (X.pile k).p) ∧ u.cell? ⟨bp, op + k * 7 + 2, none⟩ = some (.int .i64 (X.pile k).s) ∧ u.cell? ⟨bp, op + k * 7 + 3, none⟩ = some (.int .i64 (X.pile k).l) ∧ u.cell? ⟨bp, op + k * 7 + 4, none⟩ = some (.int .i64 (X.pile k).h) ∧ u.cell? ⟨bp, op + k * 7 + 5, none⟩ = some (.int .i64 (X.pile k).g) ∧ u.cell? ⟨bp, op + k * 7 + 6, none⟩ = some (.int .i64 (X.pile k).c)) ∧
              (u.cell? ⟨bt, ot + t, none⟩ = some (.slice (some ⟨b2, o2, none⟩) X.np c') ∧ u.cell? ⟨b2, o2 + k * 2, none⟩ = some (.int .i64 (X.th t k).1) ∧ u.cell? ⟨b2, o2 + k * 2 + 1, none⟩ = some (.int .i64 (X.th t k).2)) ∧
              u.cell? ⟨bw, ow + r1, none⟩ = some (.int .i64 (whrI xs N)) ∧ u.cell? ⟨bw, ow + r2, none⟩ = some (.int .i64 (whrI xs (N + 1))) ∧ u.cell? ⟨bw, ow + r3, none⟩ = some (.int .i64 (whrI xs (N + 2)))) :=
            Lib.hid fun u hu => ⟨by rw [← eAP]; exact site_box ((hu.block _ (heapsz Z0.out)).trans Z0.out), ⟨((bcell hu).1 _ _ hbp).trans p0, ((bcell hu).1 _ _ hbp).trans p1, ((bcell hu).1 _ _ hbp).trans p2, ((bcell hu).1 _ _ hbp).trans p3, ((bcell hu).1 _ _ hbp).trans p4, ((bcell hu).1 _ _ hbp).trans p5, ((bcell hu).1 _ _ hbp).trans p6⟩, ⟨((bcell hu).1 _ _ hbt).trans t0, ((bcell hu).1 _ _ hb2).trans t1, ((bcell hu).1 _ _ hb2).trans t2⟩,
              ((bcell hu).1 _ _ HBW0.out).trans (HCW.out _ _ a4), ((bcell hu).1 _ _ HBW0.out).trans (HCW.out _ _ b4), ((bcell hu).1 _ _ HBW0.out).trans (HCW.out _ _ d4)⟩
          clear p0 p1 p2 p3 p4 p5 p6 t0 t1 t2 a4 b4 d4 pA pB rI a1 a2 b1 b2' d1 d2 a3 b3 d3 hbp hbt hb2 hpB hpl hyB hN2 uA uB uC uR eAP eA hr1 hr2 hr3
          rw [uT] at HXX
          clear uT
          obtain ⟨T1, hT1⟩ : ∃ z, X.trA xs t k = z := ⟨_, rfl⟩
          obtain ⟨T2, hT2⟩ : ∃ z, X.trB xs t k = z := ⟨_, rfl⟩
          obtain ⟨T3, hT3⟩ : ∃ z, X.trC xs t k = z := ⟨_, rfl⟩
          obtain ⟨R, hR⟩ : ∃ z, X.trR xs t k = z := ⟨_, rfl⟩
          obtain ⟨P, hP⟩ : ∃ z, X.pile k = z := ⟨_, rfl⟩
          obtain ⟨Y, hY⟩ : ∃ z, X.th t k = z := ⟨_, rfl⟩
          obtain ⟨P1, hP1⟩ : ∃ z, whrI xs N = z := ⟨_, rfl⟩
          obtain ⟨P2, hP2⟩ : ∃ z, whrI xs (N + 1) = z := ⟨_, rfl⟩
          obtain ⟨P3, hP3⟩ : ∃ z, whrI xs (N + 2) = z := ⟨_, rfl⟩
          simp only [hT1, hT2, hT3, hR, hP, hY, hP1, hP2, hP3] at HC1 HC2 HC3 HC4 FC HXX
          rw [hN]
          clear hT1 hT2 hT3 hR hP hY hP1 hP2 hP3 hN
          go_wp2_with fail
          clear c0
          refine wp_region_any (by kernel_rfl) (plan_guarded_any (γ := Nat) [1, 2, 3, 8, 9, 11] (trCv (.slice (some ⟨bt, ot, none⟩) X.n X.c) w.heap.size bp op bt ot b2 o2 bw ow X.np X.cp c' m c2 t k N r1 r2 P Y P1 P2 T1 T2) (fun done g w' => NewS wr 31 32 68 (.int .i64 0, .int .i64 0, .int .i64 0) (.int .i64 T1, .int .i64 T2, .int .i64 0) done g w') 0 (by kernel_rfl) (by kernel_rfl) (by kernel_rfl) (by kernel_rfl) ?_ ?_ ?_ ?_)
          · intro t ht
            simp only [List.mem_cons, List.not_mem_nil, or_false] at ht
            rcases ht with rfl | rfl | rfl | rfl | rfl | rfl <;> rfl
          · exact ⟨(Below.refl wr.heap.size wr).drew, fun h => by simp at h, fun h => by simp at h⟩
          · refine allOps_array ?_
            refine ⟨?_, ?_, ?_, ?_, ?_, ?_, ?_, ?_, ?_, ?_, ?_, ?_, ?_, ?_, ?_, ?_, ?_, ?_, ?_, ?_, ?_, ?_, ?_, ?_, ?_, ?_, ?_, ?_, ?_, ?_, ?_, ?_, ?_, trivial⟩ <;> intro done g w' hS hu hdep _ <;> obtain ⟨⟨s0, s1, s2, s3, s4, s5⟩, ⟨l0, l1, l2, l3, l4, l5, l6⟩, ⟨z0, z1, z2⟩, p1, p2, p3⟩ := FC.out w' (HKB.out.trans (hS.keep.mono HKB.out.size))
            · refine quietN hS 26 rfl (by decide) (by decide) rfl ?_
              simp [go_sem, evalBy, trCv]
            · refine quietN hS 27 rfl (by decide) (by decide) rfl ?_
              simp [go_sem, evalBy, trCv]
            · refine quietN hS 28 rfl (by decide) (by decide) rfl ?_
              simp [go_sem, evalBy, trCv, ht0, ht1]
            · refine quietN hS 29 rfl (by decide) (by decide) rfl ?_
              simp [go_sem, evalBy, trCv, z0]
            · refine quietN hS 30 rfl (by decide) (by decide) rfl ?_
              simp [go_sem, evalBy, trCv]
            · refine quietN hS 31 rfl (by decide) (by decide) rfl ?_
              simp [go_sem, evalBy, trCv, hk0, hk1]
            · refine quietN hS 32 rfl (by decide) (by decide) rfl ?_
              simp [go_sem, evalBy, trCv, z1, z2]
            · refine quietN hS 33 rfl (by decide) (by decide) rfl ?_
              simp [go_sem, evalBy, trCv]
            · refine quietN hS 34 rfl (by decide) (by decide) rfl ?_
              simp [go_sem, evalBy, trCv]
            · refine quietN hS 35 rfl (by decide) (by decide) rfl ?_
              simp [go_sem, evalBy, trCv]
            · refine quietN hS 36 rfl (by decide) (by decide) rfl ?_
              simp [go_sem, evalBy, trCv]
            · refine quietN hS 37 rfl (by decide) (by decide) rfl ?_
              simp [go_sem, evalBy, trCv, HT1, hm0]
            · refine quietN hS 38 rfl (by decide) (by decide) rfl ?_
              simp [go_sem, evalBy, trCv, r10, r11]
            · refine quietN hS 39 rfl (by decide) (by decide) rfl ?_
              simp [go_sem, evalBy, trCv, p1]
            · refine callN hS 40 rfl (by decide) (by decide) rfl 83 #[.agg #[.int .i64 Y.1, .int .i64 Y.2], .int .i64 P1] (by simp [go_sem, evalBy, trCv]) ?_
              exact HC1.out w'
            · refine quietN hS 41 rfl (by decide) (by decide) rfl ?_
              simp [go_sem, evalBy, trCv]
            · refine quietN hS 42 rfl (by decide) (by decide) rfl ?_
              simp [go_sem, evalBy, trCv, s0]
            · refine quietN hS 43 rfl (by decide) (by decide) rfl ?_
              simp [go_sem, evalBy, trCv]
            · refine quietN hS 44 rfl (by decide) (by decide) rfl ?_
              simp [go_sem, evalBy, trCv, hk0, hk1]
            · refine quietN hS 45 rfl (by decide) (by decide) rfl ?_
              simp [go_sem, evalBy, trCv]
            · refine quietN hS 46 rfl (by decide) (by decide) rfl ?_
              simp [go_sem, evalBy, trCv, l3, l4]
            · refine quietN hS 47 rfl (by decide) (by decide) rfl ?_
              simp [go_sem, evalBy, trCv]
            · refine quietN hS 48 rfl (by decide) (by decide) rfl ?_
              simp [go_sem, evalBy, trCv]
            · refine quietN hS 49 rfl (by decide) (by decide) rfl ?_
              simp [go_sem, evalBy, trCv]
              rw [IntKind.wrap_i64]; omega
            · refine quietN hS 50 rfl (by decide) (by decide) rfl ?_
              simp [go_sem, evalBy, trCv]
            · refine quietN hS 51 rfl (by decide) (by decide) rfl ?_
              simp [go_sem, evalBy, trCv]
            · refine quietN hS 52 rfl (by decide) (by decide) rfl ?_
              simp [go_sem, evalBy, trCv, HT2, hm0]
            · refine quietN hS 53 rfl (by decide) (by decide) rfl ?_
              simp [go_sem, evalBy, trCv, r20, r21]
            · refine quietN hS 54 rfl (by decide) (by decide) rfl ?_
              simp [go_sem, evalBy, trCv, p2]
            · refine callN hS 55 rfl (by decide) (by decide) rfl 83 #[.agg #[.int .i64 P.l, .int .i64 P.h], .int .i64 P2] (by simp [go_sem, evalBy, trCv]) ?_
              exact HC2.out w'
            · refine quietN hS 56 rfl (by decide) (by decide) rfl ?_
              simp [go_sem, evalBy, trCv]
            · refine allocN hS 12 rfl hu (by decide) rfl (fun _ => rfl) ?_ (by simp [go_sem])
              intro g' t' ht'
              unfold trCv
              split <;> first | rfl | exact absurd rfl ht'
            · refine storeN hS rfl (hdep ⟨31, .data⟩ (by simp) rfl) hu rfl ?_
              intro hf d0 d1 d2
              have f0 := hf 0; have f1 := hf 1; have f2 := hf 2
              clear hf
              simp at d0 d1 d2
              simp [go_sem, evalBy, trCv, f0, f1, f2, d0, d1, d2]
          · intro g wE hS
            obtain ⟨hge, hbx⟩ := hS.box (by decide)
            rw [if_pos (by decide)] at hbx
            have HGE := Lib.hid hge; have HBX := Lib.hid hbx
            have HBE := Lib.hid hS.keep
            have HKE : Hid (Below w1.heap.size w1 wE) := Lib.hid (HKB.out.trans (hS.keep.mono HKB.out.size))
            clear hS hge hbx
            simp [putAll, Act.put, trCv]
            have fu := fun u : KeptW wE => FC.out u.w (HKE.out.trans (u.h.mono HKE.out.size))
            have s0 := fun u => (fu u).1.1; have s1 := fun u => (fu u).1.2.1; have s2 := fun u => (fu u).1.2.2.1; have s3 := fun u => (fu u).1.2.2.2.1; have s4 := fun u => (fu u).1.2.2.2.2.1; have s5 := fun u => (fu u).1.2.2.2.2.2
            have l0 := fun u => (fu u).2.1.1; have l1 := fun u => (fu u).2.1.2.1; have l2 := fun u => (fu u).2.1.2.2.1; have l3 := fun u => (fu u).2.1.2.2.2.1; have l4 := fun u => (fu u).2.1.2.2.2.2.1; have l5 := fun u => (fu u).2.1.2.2.2.2.2.1; have l6 := fun u => (fu u).2.1.2.2.2.2.2.2
            have p3 := fun u => (fu u).2.2.2.2.2
            have bb := fun u : KeptW wE => box3_cells ((u.h.block _ (heapsz HBX.out)).trans HBX.out)
            have e0 := fun u => (bb u).1; have e1 := fun u => (bb u).2.1
            have HD3 := Lib.hid fun u : KeptW wE => Calls.in_kept u (HC3.out u.w (HKE.out.trans (u.h.mono HKE.out.size)))
            have HD4 := Lib.hid fun u : KeptW wE => Calls.in_kept u (HC4.out u.w)
            have g0 := fld119 R.u R.lo R.hi
            obtain ⟨pd, pp, ps, pl, ph, pg, pc⟩ := P
            simp only at l0 l1 l2 l3 l4 l5 l6
            unfold pilV at HD3
            simp only at HD3
            clear fu bb HC1 HC2 HC3 HC4 FC HT1 HT2
            go_wp2_with fail
            apply rk_tail (C := fun w' => ∃ u : KeptW wE, w' = u.w)
            case hs => exact (rfl : _ = [_, _, _, _, _, _, _, _, _, _, _, _, _, _, _, _, _, _, _, _, _, _] ++ [_])
            case hm => kernel_rfl
            case hB => kernel_rfl
            case hT => kernel_rfl
            case hC => exact ⟨⟨wE.drew, (Below.refl wE.heap.size wE).drew⟩, rfl⟩
            repeat (go_big_quiet_step (first | (with_reducible exact HD3.out _) | (with_reducible exact HD4.out _) | fail))
            refine wpQuiet_nil ?_
            rintro _ ⟨u, rfl⟩
            have V3 := (u.h.block _ (heapsz HBX.out)).trans HBX.out
            have f2 := box3_frozen V3 2
            obtain ⟨_, _, a2⟩ := box3_cells V3
            obtain ⟨q0, q1, q2⟩ : (u.w.setCell ⟨g, 2, none⟩ (.int .i64 T3)).cell? ⟨g, 0, none⟩ = some (.int .i64 T1) ∧ (u.w.setCell ⟨g, 2, none⟩ (.int .i64 T3)).cell? ⟨g, 1, none⟩ = some (.int .i64 T2) ∧ (u.w.setCell ⟨g, 2, none⟩ (.int .i64 T3)).cell? ⟨g, 2, none⟩ = some (.int .i64 T3) := box3_cells (t := 68) (by simpa using blk_set V3 2 (.int .i64 T3))
            have HBF := Lib.hid ((HBE.out.trans (u.h.mono HBE.out.size)).setCell (p := ⟨g, 2, none⟩) HGE.out (.int .i64 T3))
            clear s0 s1 s2 s3 s4 s5 l0 l1 l2 l3 l4 l5 l6 p3 e0 e1 g0 HD3 HD4
            unfold Oper.wp
            simp [go_sem, f2, a2]
            clear f2 a2 V3
            generalize u.w.setCell ⟨g, 2, none⟩ (Value.int .i64 T3) = wb at q0 q1 q2 HBF ⊢
            obtain ⟨i0, hi0, hz0, hz1, hz2⟩ := info_parts tru_info
            go_wp2_with (first
              | (at_builtin
                 refine wpList_append_own _ rfl _ _ 52 rfl wo.heap.size 68 i0 _ 3 24 Tryz.underlying52 hi0 hz0 hz1 hz2 rfl (by decide) _ _ _ rfl (Go.Proofs.YtdlaphlpimlgdaaGreatDoor.own_next HOWN.out (HBF.out.alloc HBF.out.size _)) ⟨wb.heap.size, 0, none⟩ 1 1 [.int .i64 T1, .int .i64 T2, .int .i64 T3] rfl rfl (three_cells_new _ _ _ _ _) (by simp [Value.oneCell']) (by unfold maxLen; omega) (by omega) (by have h1 := HBW.out.size; have h2 := HBF.out.size; simp; omega) ?_
                 intro v' w4 hown4 hgrow4 _)
              | fail)
            have hb1 := (HBW.out.trans (HBF.out.mono HBW.out.size)).alloc (Nat.le_trans HBW.out.size HBF.out.size) (.cells #[.int .i64 T1, .int .i64 T2, .int .i64 T3] 68)
            have hstep : (3 * (M + (k + 1)) : Nat) = N + 3 := by have := HN.out; omega
            refine ⟨⟨k + 1, by omega, by rw [hstep]; go_num, by go_num, hb1.grown hgrow4 hb1.size (fun B hB => (own_at HOWN.out hB).1), ?_⟩, by simp [intOf]; omega⟩
            rw [flatR_take HXX.out]
            exact hown4
        · have hke : k = X.np := by omega
          have hk1 : ¬ (k : Int) < (X.np : Int) := by omega
          subst hke
          have hlen : ((List.range X.np).map (X.trT xs t)).length = X.np := by simp
          have hfull : ((List.range X.np).map (X.trT xs t)).take X.np = (List.range X.np).map (X.trT xs t) := List.take_of_length_le (by omega)
          rw [hfull] at HOWN
          obtain ⟨g, cg, rfl, _⟩ := HOWN.out.form (by omega)
          have HG2 := Lib.hid (HG.out.below HBW.out)
          have HRI : Hid (RowIs truR 68 w1.heap.size ((List.range X.np).map (X.trT xs t)) (.slice (some ⟨g, 0, none⟩) X.np cg) wr) := Lib.hid (RowIs.of_own (k := 3) (by rw [hlen]; exact own_mono HOWN.out HBO.out.size))
          have HLT : Hid (((X.truL xs).take t).length = t) := Lib.hid (by rw [List.length_take]; unfold Ctx.truL gridL; simp; omega)
          have HZ : Hid ((X.truL xs).take (t + 1) = (X.truL xs).take t ++ [(List.range X.np).map (X.trT xs t)]) := Lib.hid (by rw [List.take_add_one]; unfold Ctx.truL; rw [gridL_at _ hlt]; rfl)
          have HST : Hid ((3 * ((t + 1) * X.np) : Nat) = 3 * (M + X.np)) := Lib.hid (by have h1 : (t + 1) * X.np = t * X.np + X.np := Nat.succ_mul _ _; rw [h1, HMM.out])
          obtain ⟨j0, hj0, jz0, jz1, jz2⟩ := info_parts trus_info
          have hsz : w1.heap.size ≤ wr.heap.size := HKB.out.size
          clear hlen hfull
          go_wp2_with (first
            | (at_builtin
               refine wpList_append_own _ rfl _ _ 51 rfl w1.heap.size 52 j0 _ 1 24 Tryz.underlying51 hj0 jz0 jz1 jz2 rfl (by decide) _ _ _ rfl (Go.Proofs.YtdlaphlpimlgdaaGreatDoor.own_next HG2.out.own ((Below.refl _ wr).alloc (Nat.le_refl _) _)) ⟨wr.heap.size, 0, none⟩ 1 1 [.slice (some ⟨g, 0, none⟩) X.np cg] rfl rfl (cell_one_new _ _ _) (by simp [Value.oneCell']) (by rw [HLT.out]; unfold maxLen; omega) (by rw [HLT.out]; omega) (by simp; omega) ?_
               intro v' w4 hown4 hgrow4 _)
            | fail)
          have hA := HG2.out.append (by decide) HRI.out hown4 hgrow4
          rw [← HZ.out] at hA
          refine ⟨⟨t + 1, _, by omega, by (rw [HST.out]) <;> (try (congr 1)) <;> (try omega), by go_num, ?_, hA⟩, by simp [intOf]; omega⟩
          have hb1 := (Below.refl wr.heap.size wr).alloc (Nat.le_refl _) (.cells #[.slice (some ⟨g, 0, none⟩) X.np cg] 52)
          exact (HKB.out.trans (hb1.mono HKB.out.size)).grown hgrow4 (Nat.le_trans HKB.out.size hb1.size) (fun B hB => (own_at HG2.out.own hB).1)
    · have hte : t = X.n := by omega
      have hk1 : ¬ (t : Int) < (X.n : Int) := by omega
      have hlen : (X.truL xs).length = X.n := by unfold Ctx.truL gridL; simp
      have hfull : (X.truL xs).take t = X.truL xs := List.take_of_length_le (by omega)
      rw [hfull] at HG
      clear hfull hbr
      go_wp2_with fail
      go_ret
      obtain ⟨A3, c3, rfl, g1, g2, g3⟩ := HG.out.grid truR_len (fun row hr => by
        have := gridL_in (X.trT xs) row hr
        unfold maxLen
        omega)
      exact ⟨A3, c3, congrArg (fun m => Ending.returned (Value.slice A3 m c3)) hlen, g1, by omega, g3⟩
end Go.Proofs.YtdlaphlpimlgdaaGreatDoor
