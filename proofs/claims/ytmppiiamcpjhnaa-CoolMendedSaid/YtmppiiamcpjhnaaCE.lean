/- Coolers: whether coolers keep a town; how many failures they bear. Coolers: which of two sets of coolers is better. Coolers: which of two sets of coolers is better: the walk. Coolers: the best set of coolers. Coolers: the best coolers, as they are asked for. -/
import Derived.Test.YtmppiiamcpjhnaaBZ
import Derived.Laws.EntriesVeiled
namespace Go.Proofs.Ytmppiiamcpjhnaa
open Go.RowKit Go.Shelf

def setI (cs : List Int) : Nat := setL (cs.map Int.toNat)
theorem cool_nat {T : Tn} {cs : List Int} (h : coolB T cs = true) : (cs.map Int.toNat).map Int.ofNat = cs ∧ ∀ x ∈ cs.map Int.toNat, x < T.ss.length := by
  have hm := clB_mem h
  constructor
  · rw [List.map_map]
    conv => rhs; rw [← List.map_id cs]
    refine List.map_congr_left fun x hx => ?_
    have := hm x hx
    show Int.ofNat x.toNat = x
    rw [Int.ofNat_eq_natCast]
    omega
  · intro x hx
    obtain ⟨y, hy, rfl⟩ := List.mem_map.1 hx
    have := hm y hy
    omega
theorem setL_lt2 {cs : List Nat} {n : Nat} (h : ∀ x ∈ cs, x < n) : setL cs < 2 ^ n := by
  refine Nat.lt_pow_two_of_testBit _ fun i hi => ?_
  rw [setL_bit]
  simp only [decide_eq_false_iff_not]
  intro hm
  have := h i hm
  omega
theorem setI_lt {T : Tn} {cs : List Int} (h : coolB T cs = true) : setI cs < 2 ^ T.ss.length := setL_lt2 (cool_nat h).2
theorem town_ok {T : Tn} {cs : List Int} (h : coolI T cs = 0) : TnOk T ∧ coolB T cs = true := by
  unfold coolI at h
  cases h1 : tnB T <;> cases h2 : coolB T cs <;> rw [h1, h2] at h <;> first | exact ⟨tnB_iff.1 h1, rfl⟩ | simp at h
/-- To look at a town leads to a town that was looked at. -/
theorem lookL_any (V : TV) (T : Tn) (A : Option Addr) (n c : Nat) (cs : List Int) (w : World) (hN : TnAt w w.heap.size V T) (hK : TnOk T) (hC : coolB T cs = true) (hl : cs.length = n) (hn : n ≤ maxLen) (hA : IntsAt w w.heap.size A cs) :
    Calls Try.prog 51 #[tvV V, .slice A n c] w fun e w' => ∃ M, e = .returned (coV V (setI cs) M) ∧ Lw w V T M w' := by
  have h1 := cool_nat hC
  refine (look_any V A n c (cs.map Int.toNat) w (by rw [List.length_map]; exact hl) hn (by rw [h1.1]; exact hA) (fun x hx => by have := h1.2 x hx; have := hK.s10; omega)).mono ?_
  rintro e w' ⟨M, rfl, hb, hm, hz⟩
  exact ⟨M, rfl, hb, ⟨_, _, hz, fun e he => by simp at he⟩, hm, hN, hK⟩
def keepV (T : Tn) (cs : List Int) (f : Int) : Value := .tuple #[.bool (decide (failI T cs f = 0) && (unevenI T T.hs.length (setI cs) f).isNone), .int .i64 (failI T cs f)]
theorem fail_cases (T : Tn) (cs : List Int) (f : Int) : failI T cs f = 2 ∨ (failI T cs f = 0 ∧ coolI T cs = 0 ∧ 0 ≤ f ∧ f ≤ 3) := by
  unfold failI coolI
  cases h1 : tnB T <;> cases h2 : coolB T cs <;> cases h3 : inB 0 f 3 <;> simp
  exact inB_iff.1 h3
theorem cool_cases (T : Tn) (cs : List Int) : coolI T cs = 2 ∨ coolI T cs = 0 := by
  unfold coolI
  split
  · exact .inr rfl
  · exact .inl rfl
set_option maxRecDepth 100000 in
set_option maxHeartbeats 4000000 in
theorem Keeps_any (V : TV) (T : Tn) (A : Option Addr) (n c : Nat) (cs : List Int) (f : Int) (w : World) (hN : TnAt w w.heap.size V T) (hl : cs.length = n) (hn : n ≤ maxLen) (hA : IntsAt w w.heap.size A cs) :
    Calls Try.prog 16 #[tvV V, .slice A n c, .int .i64 f] w fun e w' => e = .returned (keepV T cs f) ∧ Below w.heap.size w w' := by
  have z := heap_alloc_new w (.cells (tvC V) 25)
  have hb := (Below.refl w.heap.size w).alloc (Nat.le_refl _) (.cells (tvC V) 25)
  obtain ⟨w1, hw1⟩ : ∃ z, w.alloc (.cells (tvC V) 25) = z := ⟨_, rfl⟩
  rw [hw1] at z hb
  have HF := Lib.hid (checkFails_any V T A n c cs f w1 (hN.up hb) hl hn (RowAt.up hA hb))
  have HLK := Lib.hid (fun (u : World) (hu : Below w1.heap.size w1 u) (hK : TnOk T) (hC : coolB T cs = true) => lookL_any V T A n c cs u ((hN.up hb).next hu hu.size) hK hC hl hn ((RowAt.up hA hb).next hu hu.size))
  have HNS := Lib.hid hN.ns; have HNH := Lib.hid hN.nh
  have HW := Lib.hid hw1; have HB := Lib.hid hb; have HZ := Lib.hid z
  obtain ⟨ah, nh, ch, az, ns, cz⟩ := V
  obtain ⟨v0, v1⟩ := box2 z
  clear z hb hw1 hN hl hn hA
  go_enter Try.func16, Try.ntmps16
  go_wp2_with fail
  rw [show w.alloc (.cells #[.slice ah nh ch, .slice az ns cz] 25) = w1 from HW.out]
  go_wp2_with fail
  refine HF.out.mono ?_
  rintro e w2 ⟨rfl, hb2⟩
  have HB2 := Lib.hid (HB.out.trans (hb2.mono HB.out.size))
  rcases fail_cases T cs f with h2 | ⟨h0, hc0, hf⟩
  · have H2 := Lib.hid h2
    rw [h2]
    clear hb2 v0 v1 h2
    go_wp2_with fail
    go_ret2
    exact ⟨by unfold keepV; rw [H2.out]; rfl, HB2.out⟩
  · have H0 := Lib.hid h0
    obtain ⟨hK, hC⟩ := town_ok hc0
    have HL := Lib.hid (HLK.out w2 hb2 hK hC)
    obtain ⟨y0, y1⟩ := box2 ((hb2.block _ (heapsz HZ.out)).trans HZ.out)
    have HS : Hid (setI cs < 2 ^ ns) := Lib.hid (by have h1 : T.ss.length = ns := HNS.out; rw [← h1]; exact setI_lt hC)
    rw [h0]
    clear hb2 v0 v1 h0 hc0 hf hK hC
    go_wp2_with fail
    refine HL.out.mono ?_
    rintro e w3 ⟨M, rfl, hlw⟩
    have HFU := Lib.hid (first_any hlw (s := setI cs) f HS.out)
    have HBL := Lib.hid (And.intro hlw.bel hlw.lt)
    clear hlw y0 y1
    go_wp2_with fail
    refine HFU.out.mono ?_
    rintro e w4 ⟨rfl, hg⟩
    have HE : Hid (Below w.heap.size w w4) := Lib.hid ((HB2.out.trans (HBL.out.1.mono HB2.out.size)).trans ((hg.bel HBL.out.2).mono HB2.out.size))
    have HNH' : Hid (T.hs.length = nh) := Lib.hid HNH.out
    unfold unevenV
    cases hu : unevenI T nh (setI cs) f with
    | none =>
      have HU := Lib.hid hu
      clear hg hu
      simp only [Option.getD_none, Option.isSome_none]
      go_wp2_with fail
      go_ret2
      exact ⟨by unfold keepV; rw [HNH'.out, HU.out, H0.out]; rfl, HE.out⟩
    | some k =>
      have HU := Lib.hid hu
      clear hg hu
      simp only [Option.getD_some, Option.isSome_some]
      go_wp2_with fail
      go_ret2
      exact ⟨by unfold keepV; rw [HNH'.out, HU.out, H0.out]; rfl, HE.out⟩
/-- How many failures all houses bear. -/
def bearsK (T : Tn) (s : Nat) : Nat → Int
  | 0 => 3
  | k + 1 => min (bearsK T s k) (bearsI T k s)
theorem bearsK_in (T : Tn) (s : Nat) : ∀ k, -1 ≤ bearsK T s k ∧ bearsK T s k ≤ 3
  | 0 => by unfold bearsK; omega
  | k + 1 => by
    have h1 := bearsK_in T s k
    have h2 := bearsV_in (needI T k) (givL T k s)
    unfold bearsK bearsI
    omega
theorem bearsK_iff {T : Tn} {s : Nat} {f : Int} (hf : f ≤ 3) : ∀ k, f ≤ bearsK T s k ↔ ∀ h, h < k → f ≤ bearsI T h s
  | 0 => by unfold bearsK; exact ⟨fun _ h hh => by omega, fun _ => hf⟩
  | k + 1 => by
    have ih := bearsK_iff (T := T) (s := s) hf k
    unfold bearsK
    constructor
    · intro h j hj
      rcases Nat.lt_succ_iff_lt_or_eq.1 hj with hj | rfl
      · exact ih.1 (by omega) j hj
      · omega
    · intro h
      have h1 := ih.2 fun j hj => h j (by omega)
      have h2 := h k (by omega)
      omega
def bearsT (T : Tn) (cs : List Int) : Value :=
  if coolI T cs = 0 then (if bearsK T (setI cs) T.hs.length < 0 then .tuple #[.int .i64 0, .int .i64 5] else .tuple #[.int .i64 (bearsK T (setI cs) T.hs.length), .int .i64 0]) else .tuple #[.int .i64 0, .int .i64 2]
set_option maxRecDepth 100000 in
set_option maxHeartbeats 4000000 in
theorem Bears_any (V : TV) (T : Tn) (A : Option Addr) (n c : Nat) (cs : List Int) (w : World) (hN : TnAt w w.heap.size V T) (hl : cs.length = n) (hn : n ≤ maxLen) (hA : IntsAt w w.heap.size A cs) :
    Calls Try.prog 18 #[tvV V, .slice A n c] w fun e w' => e = .returned (bearsT T cs) ∧ Below w.heap.size w w' := by
  have z := heap_alloc_new w (.cells (tvC V) 25)
  have hb := (Below.refl w.heap.size w).alloc (Nat.le_refl _) (.cells (tvC V) 25)
  obtain ⟨w1, hw1⟩ : ∃ z, w.alloc (.cells (tvC V) 25) = z := ⟨_, rfl⟩
  rw [hw1] at z hb
  have HF := Lib.hid (checkCoolers_any V T A n c cs w1 (hN.up hb) hl hn (RowAt.up hA hb))
  have HLK := Lib.hid (fun (u : World) (hu : Below w1.heap.size w1 u) (hK : TnOk T) (hC : coolB T cs = true) => lookL_any V T A n c cs u ((hN.up hb).next hu hu.size) hK hC hl hn ((RowAt.up hA hb).next hu hu.size))
  have HNS := Lib.hid hN.ns; have HNH := Lib.hid hN.nh
  have HW := Lib.hid hw1; have HB := Lib.hid hb; have HZ := Lib.hid z
  obtain ⟨ah, nh, ch, az, ns, cz⟩ := V
  obtain ⟨v0, v1⟩ := box2 z
  clear z hb hw1 hN hl hn hA
  go_enter Try.func18, Try.ntmps18
  go_wp2_with fail
  rw [show w.alloc (.cells #[.slice ah nh ch, .slice az ns cz] 25) = w1 from HW.out]
  go_wp2_with fail
  refine HF.out.mono ?_
  rintro e w2 ⟨rfl, hb2⟩
  have HB2 := Lib.hid (HB.out.trans (hb2.mono HB.out.size))
  rcases cool_cases T cs with h2 | h0
  · have H2 := Lib.hid h2
    rw [h2]
    clear hb2 v0 v1 h2
    go_wp2_with fail
    go_ret2
    exact ⟨by unfold bearsT; rw [H2.out]; rfl, HB2.out⟩
  · have H0 := Lib.hid h0
    obtain ⟨hK, hC⟩ := town_ok h0
    have HL := Lib.hid (HLK.out w2 hb2 hK hC)
    have HZ2 := Lib.hid ((hb2.block _ (heapsz HZ.out)).trans HZ.out)
    obtain ⟨y0, y1⟩ := box2 HZ2.out
    have HS : Hid (setI cs < 2 ^ ns) := Lib.hid (by have h1 : T.ss.length = ns := HNS.out; rw [← h1]; exact setI_lt hC)
    have hnh6 : nh ≤ 6 := by have h1 : T.hs.length = nh := HNH.out; have := hK.h6; omega
    rw [h0]
    clear hb2 v0 v1 h0 hK hC
    go_wp2_with fail
    refine HL.out.mono ?_
    rintro e w3 ⟨M, rfl, hlw⟩
    obtain ⟨S, hS⟩ : ∃ z, setI cs = z := ⟨_, rfl⟩
    have HSS := Lib.hid hS
    rw [hS] at HS ⊢
    have z4 := heap_alloc_new w3 (.cells (coC ⟨ah, nh, ch, az, ns, cz⟩ S M) 89)
    have hb4 := (Below.refl w3.heap.size w3).alloc (Nat.le_refl _) (.cells (coC ⟨ah, nh, ch, az, ns, cz⟩ S M) 89)
    have hz4 := (hb4.block _ (by have := heapsz HZ2.out; have := hlw.bel.size; omega)).trans ((hlw.bel.block _ (heapsz HZ2.out)).trans HZ2.out)
    obtain ⟨w4, hw4⟩ : ∃ z, w3.alloc (.cells (coC ⟨ah, nh, ch, az, ns, cz⟩ S M) 89) = z := ⟨_, rfl⟩
    rw [hw4] at z4 hb4 hz4
    obtain ⟨x0, x1⟩ := box2 hz4
    have HL4 := Lib.hid (hlw.up hb4); have HZ4 := Lib.hid z4
    have HBL : Hid (Below w.heap.size w w4 ∧ w.heap.size ≤ M) := Lib.hid ⟨(HB2.out.trans (hlw.bel.mono HB2.out.size)).trans (hb4.mono (Nat.le_trans HB2.out.size hlw.bel.size)), Nat.le_trans HB2.out.size hlw.lt⟩
    clear hlw y0 y1 z4 hb4 hz4 hS
    go_wp2_with fail
    clear hw4 x0 x1
    go_loopw [8, 22] (fun bb ii wr => ∃ k : Nat, k ≤ nh ∧ ii = .int .i64 k ∧ bb = .int .i64 (bearsK T S k) ∧ Cw T M w4 wr) (fun _ ii _ => nh - (intOf ii).toNat)
    case atStart => exact ⟨0, by omega, rfl, rfl, HL4.out.cw0⟩
    case round =>
      obtain ⟨k, hk, rfl, rfl, hcw⟩ := hrel
      have HCR := Lib.hid hcw
      by_cases hlt : k < nh
      · have k3 : (0 : Int) ≤ (k : Int) := by omega
        have k4 : (k : Int) < (nh : Int) := by omega
        have HBE := Lib.hid (bears_any (HL4.out.go hcw) (s := S) (h := k) HS.out hlt)
        obtain ⟨⟨v0, v1, v2, v3⟩, _⟩ := box4 (hcw.cell HZ4.out (HL4.out.ne HZ4.out))
        simp only at v0 v1 v2 v3
        clear hcw
        go_wp2_with fail
        refine HBE.out.mono ?_
        rintro e w5 ⟨rfl, hg⟩
        have HG := Lib.hid (HCR.out.trans hg)
        have hmin : min (bearsK T S k) (bearsI T k S) = bearsK T S (k + 1) := rfl
        clear hg v0 v1 v2 v3
        go_wp2_with fail
        exact ⟨⟨k + 1, by omega, rfl, rfl, HG.out⟩, by simp [intOf]; omega⟩
      · obtain rfl : nh = k := by omega
        have k4 : ¬ (nh : Int) < (nh : Int) := by omega
        have HE : Hid (Below w.heap.size w wr) := Lib.hid (HBL.out.1.trans (hcw.bel HBL.out.2))
        have HNH' : Hid (T.hs.length = nh) := Lib.hid HNH.out
        obtain ⟨B, hB⟩ : ∃ z, bearsK T S nh = z := ⟨_, rfl⟩
        have HBB : Hid (bearsK T (setI cs) T.hs.length = B) := Lib.hid (by rw [HNH'.out, HSS.out]; exact hB)
        rw [hB]
        clear hcw hB
        by_cases h0 : B < 0
        · go_wp2_with fail
          go_ret2
          exact ⟨by unfold bearsT; rw [H0.out, HBB.out, if_pos rfl, if_pos h0]; rfl, HE.out⟩
        · go_wp2_with fail
          go_ret2
          exact ⟨by unfold bearsT; rw [H0.out, HBB.out, if_pos rfl, if_neg (by omega)]; rfl, HE.out⟩
end Go.Proofs.Ytmppiiamcpjhnaa

namespace Go.Proofs.Ytmppiiamcpjhnaa
open Go.RowKit Go.Shelf

def cmpL : List Int → List Int → Int
  | [], [] => 0
  | [], _ :: _ => -1
  | _ :: _, [] => 1
  | x :: xs, y :: ys => if cmpI x y = 0 then cmpL xs ys else cmpI x y
theorem cmpL_cons (x y : Int) (xs ys : List Int) : cmpL (x :: xs) (y :: ys) = if cmpI x y = 0 then cmpL xs ys else cmpI x y := rfl
theorem cmpI_zero {x y : Int} : cmpI x y = 0 ↔ x = y := by unfold cmpI; repeat' split
                                                           all_goals omega
set_option maxRecDepth 100000 in
set_option maxHeartbeats 4000000 in
theorem Compare_any (A1 : Option Addr) (n1 c1 : Nat) (A2 : Option Addr) (n2 c2 : Nat) (xs ys : List Int) (w : World) (h1 : xs.length = n1) (h2 : ys.length = n2) (m1 : n1 ≤ maxLen) (m2 : n2 ≤ maxLen) (hA1 : IntsAt w w.heap.size A1 xs) (hA2 : IntsAt w w.heap.size A2 ys) :
    Calls Try.prog 114 #[.slice A1 n1 c1, .slice A2 n2 c2] w fun e w' => e = .returned (.int .i64 (cmpL xs ys)) ∧ w = w' := by
  have HA1 := Lib.hid hA1; have HA2 := Lib.hid hA2; have H1 := Lib.hid h1; have H2 := Lib.hid h2
  unfold maxLen at m1 m2
  clear hA1 hA2 h1 h2
  go_enter Try.func114, Try.ntmps114
  go_wp2_with fail
  go_loopw [11] (fun ii wr => ∃ k : Nat, k ≤ n1 ∧ k ≤ n2 ∧ ii = .int .i64 k ∧ cmpL xs ys = cmpL (xs.drop k) (ys.drop k) ∧ w = wr) (fun ii _ => n1 - (intOf ii).toNat)
  case atStart => exact ⟨0, by omega, by omega, rfl, rfl, rfl⟩
  case round =>
    obtain ⟨k, hk1, hk2, rfl, hc, rfl⟩ := hrel
    have HC := Lib.hid hc
    clear hc
    have k3 : (0 : Int) ≤ (k : Int) := by omega
    by_cases hlt : k < n1
    · have k4 : (k : Int) < (n1 : Int) := by omega
      obtain ⟨x, hx⟩ := get_of_lt (l := xs) (k := k) (by rw [H1.out]; exact hlt)
      obtain ⟨b, o, rfl, hbb, c0⟩ := ints_el HA1.out hx
      have HX := Lib.hid (drop_at hx)
      clear hx hbb
      by_cases hl2 : k < n2
      · have k5 : (k : Int) < (n2 : Int) := by omega
        obtain ⟨y, hy⟩ := get_of_lt (l := ys) (k := k) (by rw [H2.out]; exact hl2)
        obtain ⟨b2, o2, rfl, hbb2, d0⟩ := ints_el HA2.out hy
        have HY := Lib.hid (drop_at hy)
        clear hy hbb2
        go_wp2_with fail
        refine (compare_any x y w).mono ?_
        rintro e w' ⟨rfl, rfl⟩
        obtain ⟨cv, hcv⟩ : ∃ z, cmpI x y = z := ⟨_, rfl⟩
        have HCV := Lib.hid hcv
        rw [hcv]
        clear hcv
        by_cases h0 : cv = 0
        · have HN : Hid (cmpL xs ys = cmpL (xs.drop (k + 1)) (ys.drop (k + 1))) := Lib.hid (by rw [HC.out, HX.out, HY.out, cmpL_cons, HCV.out, if_pos h0])
          go_wp2_with fail
          exact ⟨⟨k + 1, by omega, by omega, rfl, HN.out, by first | rfl | trivial⟩, by simp [intOf]; omega⟩
        · have HN : Hid (cmpL xs ys = cv) := Lib.hid (by rw [HC.out, HX.out, HY.out, cmpL_cons, HCV.out, if_neg h0])
          go_wp2_with fail
          go_ret
          exact ⟨by rw [HN.out]; rfl, rfl⟩
      · have k5 : (n2 : Int) ≤ (k : Int) := by omega
        have HN : Hid (cmpL xs ys = 1) := Lib.hid (by
          have hyd : ys.drop k = [] := List.drop_eq_nil_of_le (by rw [H2.out]; omega)
          rw [HC.out, HX.out, hyd]; rfl)
        have k6 : ¬ (k : Int) < (n2 : Int) := by omega
        go_wp2_with fail
        go_ret
        exact ⟨by rw [HN.out]; rfl, rfl⟩
    · obtain rfl : k = n1 := by omega
      have k4 : ¬ (k : Int) < (k : Int) := by omega
      by_cases hl2 : k < n2
      · have k5 : (k : Int) < (n2 : Int) := by omega
        obtain ⟨y, hy⟩ := get_of_lt (l := ys) (k := k) (by rw [H2.out]; exact hl2)
        have HN : Hid (cmpL xs ys = -1) := Lib.hid (by rw [HC.out, List.drop_eq_nil_of_le (by rw [H1.out]; exact Nat.le_refl _), drop_at hy]; rfl)
        clear hy
        go_wp2_with fail
        go_ret
        exact ⟨by rw [HN.out]; rfl, rfl⟩
      · have k5 : ¬ (k : Int) < (n2 : Int) := by omega
        have HN : Hid (cmpL xs ys = 0) := Lib.hid (by rw [HC.out, List.drop_eq_nil_of_le (by rw [H1.out]; exact Nat.le_refl _), List.drop_eq_nil_of_le (by rw [H2.out]; omega)]; rfl)
        go_wp2_with fail
        go_ret
        exact ⟨by rw [HN.out]; rfl, rfl⟩
theorem RowIs.len {xs : List Int} {B : Nat} {v : Value} {w : World} (h : RowIs intR 3 B xs v w) : ∃ A c, v = .slice A xs.length c := by
  rcases h with ⟨rfl, rfl⟩ | ⟨b, c, rfl, _⟩
  · exact ⟨_, _, rfl⟩
  · exact ⟨_, _, rfl⟩
/-- Two lists that are made in a drawn statement. -/
structure TwoL (w0 : World) (xs ys : List Int) (i1 i2 : Nat) (done : Nat → Bool) (g : Value × Value) (u : World) : Prop where
  bel : Below w0.heap.size w0 u
  l1 : done i1 = true → RowIs intR 3 w0.heap.size xs g.1 u
  l2 : done i2 = true → RowIs intR 3 w0.heap.size ys g.2 u
section
variable {w0 u : World} {xs ys : List Int} {i i1 i2 : Nat} {done : Nat → Bool} {g : Value × Value} {ops : Array Oper} {cv : Value × Value → Tmp → Value} {o : Oper}
abbrev Ask2 (w0 : World) (xs ys : List Int) (i1 i2 : Nat) (ops : Array Oper) (cv : Value × Value → Tmp → Value) (done : Nat → Bool) (g : Value × Value) (u : World) (i : Nat) (o : Oper) : Prop :=
  Region.wanted o (yieldedBy ops (cv g)) = true ∧ Yield Try.prog (fun v w' => ∃ g', TwoL w0 xs ys i1 i2 (updB done i) g' w' ∧ (∀ d, o.dst = some d → cv g' d = v) ∧ ∀ t, o.dst ≠ some t → cv g' t = cv g t) ((execOp (evalBy (cv g)) o).run Try.prog u)
theorem quiet2 (h : TwoL w0 xs ys i1 i2 done g u) (d : Tmp) (hd : o.dst = some d) (h1 : i ≠ i1) (h2 : i ≠ i2) (hg : Region.wanted o (yieldedBy ops (cv g)) = true) (he : (execOp (evalBy (cv g)) o).run Try.prog u = .ok (.value (cv g d)) u) : Ask2 w0 xs ys i1 i2 ops cv done g u i o := by
  refine ⟨hg, ?_⟩
  rw [he]
  exact ⟨g, ⟨h.bel, fun e => h.l1 (by rwa [updM_ne h1] at e), fun e => h.l2 (by rwa [updM_ne h2] at e)⟩, fun e hE => by rw [hd] at hE; injection hE with hE; subst hE; rfl, fun _ _ => rfl⟩
theorem call2 (h : TwoL w0 xs ys i1 i2 done g u) (d : Tmp) (hd : o.dst = some d) (h1 : i ≠ i1) (h2 : i ≠ i2) (hg : Region.wanted o (yieldedBy ops (cv g)) = true) (f : FuncId) (args : Array Value) (he : (execOp (evalBy (cv g)) o).run Try.prog u = .ok (.enter f args) u)
    (hc : Calls Try.prog f args u fun e w' => e = .returned (cv g d) ∧ Below u.heap.size u w') : Ask2 w0 xs ys i1 i2 ops cv done g u i o := by
  refine ⟨hg, ?_⟩
  rw [he]
  show Calls Try.prog f args u _
  refine hc.mono ?_
  rintro e w' ⟨rfl, hb⟩
  exact ⟨_, rfl, g, ⟨h.bel.trans (hb.mono h.bel.size), fun e => (h.l1 (by rwa [updM_ne h1] at e)).below hb, fun e => (h.l2 (by rwa [updM_ne h2] at e)).below hb⟩, fun e hE => by rw [hd] at hE; injection hE with hE; subst hE; rfl, fun _ _ => rfl⟩
theorem list1 (h : TwoL w0 xs ys i i2 done g u) (hne : i ≠ i2) (d : Tmp) (hd : o.dst = some d) (hu : done i = false) (hg : Region.wanted o (yieldedBy ops (cv g)) = true) (V : TV) (s M : Nat) (he : (execOp (evalBy (cv g)) o).run Try.prog u = .ok (.enter 65 #[coV V s M]) u)
    (hcd : ∀ v, cv (v, g.2) d = v) (hct : ∀ v t, t ≠ d → cv (v, g.2) t = cv g t) (hx : xs = sitZ (s : Int)) : Ask2 w0 xs ys i i2 ops cv done g u i o := by
  refine ⟨hg, ?_⟩
  rw [he]
  show Calls Try.prog 65 _ u _
  refine (list_any V s M u).mono ?_
  rintro e w' ⟨v, rfl, hb, hv⟩
  subst hx
  have _ := hu
  exact ⟨_, rfl, (v, g.2), ⟨h.bel.trans (hb.mono h.bel.size), fun _ => (RowIs.of_own (R := intR) hv).low h.bel.size, fun e => (h.l2 (by rwa [updM_ne hne] at e)).below hb⟩, fun e hE => by rw [hd] at hE; injection hE with hE; subst hE; exact hcd v, fun t ht => hct v t (fun e => ht (by rw [hd, e]))⟩
theorem list2 (h : TwoL w0 xs ys i1 i done g u) (hne : i ≠ i1) (d : Tmp) (hd : o.dst = some d) (hu : done i = false) (hg : Region.wanted o (yieldedBy ops (cv g)) = true) (V : TV) (s M : Nat) (he : (execOp (evalBy (cv g)) o).run Try.prog u = .ok (.enter 65 #[coV V s M]) u)
    (hcd : ∀ v, cv (g.1, v) d = v) (hct : ∀ v t, t ≠ d → cv (g.1, v) t = cv g t) (hx : ys = sitZ (s : Int)) : Ask2 w0 xs ys i1 i ops cv done g u i o := by
  refine ⟨hg, ?_⟩
  rw [he]
  show Calls Try.prog 65 _ u _
  refine (list_any V s M u).mono ?_
  rintro e w' ⟨v, rfl, hb, hv⟩
  subst hx
  have _ := hu
  exact ⟨_, rfl, (g.1, v), ⟨h.bel.trans (hb.mono h.bel.size), fun e => (h.l1 (by rwa [updM_ne hne] at e)).below hb, fun _ => (RowIs.of_own (R := intR) hv).low h.bel.size⟩, fun e hE => by rw [hd] at hE; injection hE with hE; subst hE; exact hcd v, fun t ht => hct v t (fun e => ht (by rw [hd, e]))⟩
end
def twCv103 (B : Nat) (V : TV) (s x M : Nat) (g : Value × Value) : Tmp → Value
  | 2 => .pointer (some ⟨B, 0, none⟩)
  | 3 => .pointer (some ⟨B + 1, 0, none⟩)
  | 5 => coV V s M
  | 6 => g.1
  | 7 => .int .i64 ((sitZ (s : Int)).length : Int)
  | 8 => coV V x M
  | 9 => g.2
  | 10 => .int .i64 ((sitZ (x : Int)).length : Int)
  | 11 => .int .i64 (cmpI (sitZ (s : Int)).length (sitZ (x : Int)).length)
  | 4 => .int .i64 (cmpI (sitZ (s : Int)).length (sitZ (x : Int)).length)
  | _ => undef
def twCv104 (B : Nat) (V : TV) (s x M : Nat) (g : Value × Value) : Tmp → Value
  | 2 => .pointer (some ⟨B, 0, none⟩)
  | 3 => .pointer (some ⟨B + 1, 0, none⟩)
  | 5 => coV V s M
  | 6 => g.1
  | 7 => coV V x M
  | 8 => g.2
  | 9 => .int .i64 (cmpL (sitZ (s : Int)) (sitZ (x : Int)))
  | 4 => .int .i64 (cmpL (sitZ (s : Int)) (sitZ (x : Int)))
  | _ => undef
set_option maxRecDepth 100000 in
set_option maxHeartbeats 4000000 in
theorem byNumber_any (V : TV) (s x M : Nat) (w : World) :
    Calls Try.prog 103 #[coV V s M, coV V x M] w fun e w' => e = .returned (.int .i64 (cmpI (sitZ (s : Int)).length (sitZ (x : Int)).length)) ∧ Below w.heap.size w w' := by
  obtain ⟨z0, z1, hb⟩ := two_new w (.cells (coC V s M) 89) (.cells (coC V x M) 89)
  obtain ⟨w2, hw2⟩ : ∃ z, (w.alloc (.cells (coC V s M) 89)).alloc (.cells (coC V x M) 89) = z := ⟨_, rfl⟩
  rw [hw2] at z0 z1 hb
  have HW := Lib.hid hw2; have HB := Lib.hid hb; have HZ0 := Lib.hid z0; have HZ1 := Lib.hid z1
  obtain ⟨ah, nh, ch, az, ns, cz⟩ := V
  clear z0 z1 hb hw2
  go_enter Try.func103, Try.ntmps103
  go_wp2_with fail
  rw [HW.out]
  refine wp_region_any (by kernel_rfl) (plan_guarded_any (γ := Value × Value) [2, 3] (twCv103 w.heap.size ⟨ah, nh, ch, az, ns, cz⟩ s x M) (TwoL w2 (sitZ (s : Int)) (sitZ (x : Int)) 1 4) (undef, undef) (by kernel_rfl) (by kernel_rfl) (by kernel_rfl) (by kernel_rfl) ?_ ?_ ?_ ?_)
  · intro t ht
    simp only [List.mem_cons, List.not_mem_nil, or_false] at ht
    rcases ht with rfl | rfl <;> rfl
  · exact ⟨(Below.refl _ w2).drew, fun h => by simp at h, fun h => by simp at h⟩
  · refine allOps_array ?_
    refine ⟨?_, ?_, ?_, ?_, ?_, ?_, ?_, ?_, trivial⟩ <;> intro done g u hS hu hdep _ <;> obtain ⟨⟨p0, p1, p2, p3⟩, _⟩ := box4 ((hS.bel.block _ (heapsz HZ0.out)).trans HZ0.out) <;> obtain ⟨⟨q0, q1, q2, q3⟩, _⟩ := box4 ((hS.bel.block _ (heapsz HZ1.out)).trans HZ1.out) <;> simp only at p0 p1 p2 p3 q0 q1 q2 q3
    · exact quiet2 hS 5 rfl (by decide) (by decide) rfl (by simp [go_sem, evalBy, twCv103, p0, p1, p2, p3])
    · exact list1 hS (by decide) 6 rfl hu rfl ⟨ah, nh, ch, az, ns, cz⟩ s M (by simp [go_sem, evalBy, twCv103]) (fun _ => rfl) (fun v t ht => by unfold twCv103; split <;> first | rfl | exact absurd rfl ht) rfl
    · obtain ⟨A, c, e⟩ := (hS.l1 (hdep ⟨1, .data⟩ (by simp) rfl)).len
      exact quiet2 hS 7 rfl (by decide) (by decide) rfl (by simp [go_sem, evalBy, twCv103, e])
    · exact quiet2 hS 8 rfl (by decide) (by decide) rfl (by simp [go_sem, evalBy, twCv103, q0, q1, q2, q3])
    · exact list2 hS (by decide) 9 rfl hu rfl ⟨ah, nh, ch, az, ns, cz⟩ x M (by simp [go_sem, evalBy, twCv103]) (fun _ => rfl) (fun v t ht => by unfold twCv103; split <;> first | rfl | exact absurd rfl ht) rfl
    · obtain ⟨A, c, e⟩ := (hS.l2 (hdep ⟨4, .data⟩ (by simp) rfl)).len
      exact quiet2 hS 10 rfl (by decide) (by decide) rfl (by simp [go_sem, evalBy, twCv103, e])
    · refine call2 hS 11 rfl (by decide) (by decide) rfl 113 #[.int .i64 ((sitZ (s : Int)).length : Int), .int .i64 ((sitZ (x : Int)).length : Int)] (by simp [go_sem, evalBy, twCv103]) ?_
      exact (compare_any _ _ u).mono fun e w' hh => ⟨hh.1, by rw [← hh.2]; exact Below.refl _ _⟩
    · exact quiet2 hS 4 rfl (by decide) (by decide) rfl (by simp [go_sem, evalBy, twCv103])
  · intro g u hS
    have HE := Lib.hid (HB.out.trans (hS.bel.mono HB.out.size))
    clear hS
    simp [putAll, Act.put, twCv103]
    go_wp2_with fail
    go_ret
    exact ⟨rfl, HE.out⟩
set_option maxRecDepth 100000 in
set_option maxHeartbeats 4000000 in
theorem byOrder_any (V : TV) (s x M : Nat) (w : World) :
    Calls Try.prog 104 #[coV V s M, coV V x M] w fun e w' => e = .returned (.int .i64 (cmpL (sitZ (s : Int)) (sitZ (x : Int)))) ∧ Below w.heap.size w w' := by
  obtain ⟨z0, z1, hb⟩ := two_new w (.cells (coC V s M) 89) (.cells (coC V x M) 89)
  obtain ⟨w2, hw2⟩ : ∃ z, (w.alloc (.cells (coC V s M) 89)).alloc (.cells (coC V x M) 89) = z := ⟨_, rfl⟩
  rw [hw2] at z0 z1 hb
  have HW := Lib.hid hw2; have HB := Lib.hid hb; have HZ0 := Lib.hid z0; have HZ1 := Lib.hid z1
  obtain ⟨ah, nh, ch, az, ns, cz⟩ := V
  clear z0 z1 hb hw2
  go_enter Try.func104, Try.ntmps104
  go_wp2_with fail
  rw [HW.out]
  refine wp_region_any (by kernel_rfl) (plan_guarded_any (γ := Value × Value) [2, 3] (twCv104 w.heap.size ⟨ah, nh, ch, az, ns, cz⟩ s x M) (TwoL w2 (sitZ (s : Int)) (sitZ (x : Int)) 1 3) (undef, undef) (by kernel_rfl) (by kernel_rfl) (by kernel_rfl) (by kernel_rfl) ?_ ?_ ?_ ?_)
  · intro t ht
    simp only [List.mem_cons, List.not_mem_nil, or_false] at ht
    rcases ht with rfl | rfl <;> rfl
  · exact ⟨(Below.refl _ w2).drew, fun h => by simp at h, fun h => by simp at h⟩
  · refine allOps_array ?_
    refine ⟨?_, ?_, ?_, ?_, ?_, ?_, trivial⟩ <;> intro done g u hS hu hdep _ <;> obtain ⟨⟨p0, p1, p2, p3⟩, _⟩ := box4 ((hS.bel.block _ (heapsz HZ0.out)).trans HZ0.out) <;> obtain ⟨⟨q0, q1, q2, q3⟩, _⟩ := box4 ((hS.bel.block _ (heapsz HZ1.out)).trans HZ1.out) <;> simp only at p0 p1 p2 p3 q0 q1 q2 q3
    · exact quiet2 hS 5 rfl (by decide) (by decide) rfl (by simp [go_sem, evalBy, twCv104, p0, p1, p2, p3])
    · exact list1 hS (by decide) 6 rfl hu rfl ⟨ah, nh, ch, az, ns, cz⟩ s M (by simp [go_sem, evalBy, twCv104]) (fun _ => rfl) (fun v t ht => by unfold twCv104; split <;> first | rfl | exact absurd rfl ht) rfl
    · exact quiet2 hS 7 rfl (by decide) (by decide) rfl (by simp [go_sem, evalBy, twCv104, q0, q1, q2, q3])
    · exact list2 hS (by decide) 8 rfl hu rfl ⟨ah, nh, ch, az, ns, cz⟩ x M (by simp [go_sem, evalBy, twCv104]) (fun _ => rfl) (fun v t ht => by unfold twCv104; split <;> first | rfl | exact absurd rfl ht) rfl
    · have h1 := hS.l1 (hdep ⟨1, .data⟩ (by simp) rfl)
      have h2 := hS.l2 (hdep ⟨3, .data⟩ (by simp) rfl)
      refine call2 hS 9 rfl (by decide) (by decide) rfl 114 #[g.1, g.2] (by simp [go_sem, evalBy, twCv104]) ?_
      obtain ⟨A1, c1, e1, hA1, _⟩ := h1.at_ (k := 1) (fun _ => rfl)
      obtain ⟨A2, c2, e2, hA2, _⟩ := h2.at_ (k := 1) (fun _ => rfl)
      rw [e1, e2]
      have hx := sitZ_len (s : Int); have hy := sitZ_len (x : Int)
      exact (Compare_any A1 _ c1 A2 _ c2 _ _ u rfl rfl (by unfold maxLen; omega) (by unfold maxLen; omega) hA1 hA2).mono fun e w' hh => ⟨hh.1, by rw [← hh.2]; exact Below.refl _ _⟩
    · exact quiet2 hS 4 rfl (by decide) (by decide) rfl (by simp [go_sem, evalBy, twCv104])
  · intro g u hS
    have HE := Lib.hid (HB.out.trans (hS.bel.mono HB.out.size))
    clear hS
    simp [putAll, Act.put, twCv104]
    go_wp2_with fail
    go_ret
    exact ⟨rfl, HE.out⟩
set_option maxRecDepth 100000 in
set_option maxHeartbeats 4000000 in
theorem byCost_any (V : TV) (T : Tn) (s x M : Nat) (w : World) (hN : TnAt w w.heap.size V T) (hK : TnOk T) (hs : s < 2 ^ V.ns) (hx : x < 2 ^ V.ns) :
    Calls Try.prog 102 #[coV V s M, coV V x M] w fun e w' => e = .returned (.int .i64 (cmpI (costS T s) (costS T x))) ∧ Below w.heap.size w w' := by
  obtain ⟨z0, z1, hb⟩ := two_new w (.cells (coC V s M) 89) (.cells (coC V x M) 89)
  obtain ⟨w2, hw2⟩ : ∃ z, (w.alloc (.cells (coC V s M) 89)).alloc (.cells (coC V x M) 89) = z := ⟨_, rfl⟩
  rw [hw2] at z0 z1 hb
  have HS : Hid (∀ u : KeptW w2, Calls Try.prog 66 #[coV V s M] u.w fun e u' => e = .returned (.int .i64 (costS T s)) ∧ ∃ q : KeptW w2, u' = q.w) := Lib.hid fun u => Calls.in_kept u (cost_any V T s M u.w ((hN.up hb).next u.h u.h.size) hK hs)
  have HX : Hid (∀ u : KeptW w2, Calls Try.prog 66 #[coV V x M] u.w fun e u' => e = .returned (.int .i64 (costS T x)) ∧ ∃ q : KeptW w2, u' = q.w) := Lib.hid fun u => Calls.in_kept u (cost_any V T x M u.w ((hN.up hb).next u.h u.h.size) hK hx)
  have HC : Hid (∀ u : KeptW w2, Calls Try.prog 113 #[.int .i64 (costS T s), .int .i64 (costS T x)] u.w fun e u' => e = .returned (.int .i64 (cmpI (costS T s) (costS T x))) ∧ ∃ q : KeptW w2, u' = q.w) := Lib.hid fun u => (compare_any _ _ u.w).mono fun e w' hh => ⟨hh.1, u, hh.2.symm⟩
  have HW := Lib.hid hw2; have HB := Lib.hid hb
  obtain ⟨ah, nh, ch, az, ns, cz⟩ := V
  have a0 : ∀ u : KeptW w2, u.w.cell? ⟨w.heap.size, 0, none⟩ = some (.slice ah nh ch) := fun u => (box4 (KeptW_heap u z0)).1.1
  have a1 : ∀ u : KeptW w2, u.w.cell? ⟨w.heap.size, 1, none⟩ = some (.slice az ns cz) := fun u => (box4 (KeptW_heap u z0)).1.2.1
  have a2 : ∀ u : KeptW w2, u.w.cell? ⟨w.heap.size, 2, none⟩ = some (.int .i64 (s : Int)) := fun u => (box4 (KeptW_heap u z0)).1.2.2.1
  have a3 : ∀ u : KeptW w2, u.w.cell? ⟨w.heap.size, 3, none⟩ = some (.map (some M)) := fun u => (box4 (KeptW_heap u z0)).1.2.2.2
  have d0 : ∀ u : KeptW w2, u.w.cell? ⟨w.heap.size + 1, 0, none⟩ = some (.slice ah nh ch) := fun u => (box4 (KeptW_heap u z1)).1.1
  have d1 : ∀ u : KeptW w2, u.w.cell? ⟨w.heap.size + 1, 1, none⟩ = some (.slice az ns cz) := fun u => (box4 (KeptW_heap u z1)).1.2.1
  have d2 : ∀ u : KeptW w2, u.w.cell? ⟨w.heap.size + 1, 2, none⟩ = some (.int .i64 (x : Int)) := fun u => (box4 (KeptW_heap u z1)).1.2.2.1
  have d3 : ∀ u : KeptW w2, u.w.cell? ⟨w.heap.size + 1, 3, none⟩ = some (.map (some M)) := fun u => (box4 (KeptW_heap u z1)).1.2.2.2
  clear z0 z1 hb hw2 hN hK hs hx
  go_enter Try.func102, Try.ntmps102
  go_wp2_with fail
  rw [HW.out]
  refine rk_region (by kernel_rfl) (by kernel_rfl) ?_
  repeat (go_big_quiet_step (first | (with_reducible exact HS.out _) | (with_reducible exact HX.out _) | (with_reducible exact HC.out _) | fail))
  refine wpQuiet_nil ?_
  rintro wv ⟨⟨_, hbv⟩, rfl⟩
  have HE := Lib.hid (HB.out.trans (hbv.mono HB.out.size))
  clear hbv a0 a1 a2 a3 d0 d1 d2 d3
  go_wp2_with fail
  go_ret
  exact ⟨rfl, HE.out⟩
end Go.Proofs.Ytmppiiamcpjhnaa

namespace Go.Proofs.Ytmppiiamcpjhnaa
open Go.RowKit Go.Shelf

def aC (T : Tn) (s x : Nat) : Int := cmpI (costS T s) (costS T x)
def bC (s x : Nat) : Int := cmpI (sitZ (s : Int)).length (sitZ (x : Int)).length
def cC (s x : Nat) : Int := cmpL (sitZ (s : Int)) (sitZ (x : Int))
def befS (T : Tn) (s x : Nat) : Bool := if aC T s x = 0 then (if bC s x = 0 then decide (cC s x < 0) else decide (bC s x < 0)) else decide (aC T s x < 0)
@[go_sem] theorem idx129_0 (x y z : Value) (w : World) : (Instr.index 129 (.agg #[x, y, z]) (.int .i64 0)).run Try.prog w = .ok x w := by kernel_rfl
@[go_sem] theorem idx129_1 (x y z : Value) (w : World) : (Instr.index 129 (.agg #[x, y, z]) (.int .i64 1)).run Try.prog w = .ok y w := by kernel_rfl
@[go_sem] theorem idx129_2 (x y z : Value) (w : World) : (Instr.index 129 (.agg #[x, y, z]) (.int .i64 2)).run Try.prog w = .ok z w := by kernel_rfl
set_option maxRecDepth 100000 in
set_option maxHeartbeats 8000000 in
theorem beforeS_any (V : TV) (T : Tn) (s x M : Nat) (w : World) (hN : TnAt w w.heap.size V T) (hK : TnOk T) (hs : s < 2 ^ V.ns) (hx : x < 2 ^ V.ns) :
    Calls Try.prog 88 #[coV V s M, coV V x M] w fun e w' => e = .returned (.bool (befS T s x)) ∧ Below w.heap.size w w' := by
  have hmf : ∀ (fn : Fn) (first cap : Array Value) (w : World), (Instr.makeFunc fn first cap).run Try.prog w = .ok (.func fn first cap) w := fun _ _ _ _ => rfl
  obtain ⟨z0, z1, z2, hb⟩ := three_new w (.cells (coC V s M) 89) (.cells (coC V x M) 89) (.cells #[.func (.func 102) #[coV V s M] #[], .func (.func 103) #[coV V s M] #[], .func (.func 104) #[coV V s M] #[]] 129)
  obtain ⟨w3, hw3⟩ : ∃ z, ((w.alloc (.cells (coC V s M) 89)).alloc (.cells (coC V x M) 89)).alloc (.cells #[.func (.func 102) #[coV V s M] #[], .func (.func 103) #[coV V s M] #[], .func (.func 104) #[coV V s M] #[]] 129) = z := ⟨_, rfl⟩
  rw [hw3] at z0 z1 z2 hb
  have HB := Lib.hid hb; have HZ0 := Lib.hid z0; have HZ1 := Lib.hid z1; have HZ2 := Lib.hid z2
  have H1 := Lib.hid (fun u (hu : Below w3.heap.size w3 u) => byCost_any V T s x M u ((hN.up hb).next hu hu.size) hK hs hx)
  have H2 := Lib.hid (fun u => byNumber_any V s x M u)
  have H3 := Lib.hid (fun u => byOrder_any V s x M u)
  obtain ⟨ah, nh, ch, az, ns, cz⟩ := V
  obtain ⟨⟨v0, v1, v2, v3⟩, _⟩ := box4 z0
  obtain ⟨⟨d0, d1, d2, d3⟩, _⟩ := box4 z1
  obtain ⟨k0, k1, k2⟩ := box3_cells z2
  simp only at v0 v1 v2 v3 d0 d1 d2 d3 k0 k1 k2
  clear z0 z1 z2 hb hN hK hs hx
  go_enter Try.func88, Try.ntmps88
  go_wp2_with fail
  clear hw3 hmf v0 v1 v2 v3 d0 d1 d2 d3 k0 k1 k2
  go_loopw [17] (fun ii wr => (ii = .int .i64 0 ∧ Below w3.heap.size w3 wr) ∨ (ii = .int .i64 1 ∧ aC T s x = 0 ∧ Below w3.heap.size w3 wr) ∨ (ii = .int .i64 2 ∧ aC T s x = 0 ∧ bC s x = 0 ∧ Below w3.heap.size w3 wr) ∨ (ii = .int .i64 3 ∧ aC T s x = 0 ∧ bC s x = 0 ∧ cC s x = 0 ∧ Below w3.heap.size w3 wr)) (fun ii _ => 3 - (intOf ii).toNat)
  case atStart => exact .inl ⟨rfl, Below.refl _ _⟩
  case round =>
    rcases hrel with ⟨rfl, hbr⟩ | ⟨rfl, e1, hbr⟩ | ⟨rfl, e1, e2, hbr⟩ | ⟨rfl, e1, e2, e3, hbr⟩
    · have HBR := Lib.hid hbr
      obtain ⟨⟨d0, d1, d2, d3⟩, _⟩ := box4 ((hbr.block _ (heapsz HZ1.out)).trans HZ1.out)
      simp only at d0 d1 d2 d3
      have HC := H1.out wr hbr
      obtain ⟨q, hq⟩ : ∃ q, cmpI (costS T s) (costS T x) = q := ⟨_, rfl⟩
      have HQ : Hid (aC T s x = q) := Lib.hid hq
      rw [hq] at HC
      replace HC := Lib.hid HC
      clear hbr hq
      go_wp2_with fail
      refine HC.out.mono ?_
      rintro e w5 ⟨rfl, hb5⟩
      have HB5 := Lib.hid (HBR.out.trans (hb5.mono HBR.out.size))
      clear hb5 d0 d1 d2 d3
      by_cases h0 : q = 0
      · subst h0
        go_wp2_with fail
        exact ⟨.inr (.inl ⟨rfl, HQ.out, HB5.out⟩), by simp [intOf]⟩
      · have HV : Hid (befS T s x = decide (q < 0)) := Lib.hid (by unfold befS; rw [HQ.out, if_neg h0])
        by_cases h1 : q < 0
        · go_wp2_with fail
          go_ret
          exact ⟨by rw [HV.out, decide_eq_true h1]; rfl, HB.out.trans (HB5.out.mono HB.out.size)⟩
        · go_wp2_with fail
          go_ret
          exact ⟨by rw [HV.out, decide_eq_false (by omega)]; rfl, HB.out.trans (HB5.out.mono HB.out.size)⟩
    · have HBR := Lib.hid hbr; have HE1 := Lib.hid e1
      obtain ⟨⟨d0, d1, d2, d3⟩, _⟩ := box4 ((hbr.block _ (heapsz HZ1.out)).trans HZ1.out)
      simp only at d0 d1 d2 d3
      have HC := H2.out wr
      obtain ⟨q, hq⟩ : ∃ q, cmpI (sitZ (s : Int)).length (sitZ (x : Int)).length = q := ⟨_, rfl⟩
      have HQ : Hid (bC s x = q) := Lib.hid hq
      rw [hq] at HC
      replace HC := Lib.hid HC
      clear hbr hq e1
      go_wp2_with fail
      refine HC.out.mono ?_
      rintro e w5 ⟨rfl, hb5⟩
      have HB5 := Lib.hid (HBR.out.trans (hb5.mono HBR.out.size))
      clear hb5 d0 d1 d2 d3
      by_cases h0 : q = 0
      · subst h0
        go_wp2_with fail
        exact ⟨.inr (.inr (.inl ⟨rfl, HE1.out, HQ.out, HB5.out⟩)), by simp [intOf]⟩
      · have HV : Hid (befS T s x = decide (q < 0)) := Lib.hid (by unfold befS; rw [if_pos HE1.out, HQ.out, if_neg h0])
        by_cases h1 : q < 0
        · go_wp2_with fail
          go_ret
          exact ⟨by rw [HV.out, decide_eq_true h1]; rfl, HB.out.trans (HB5.out.mono HB.out.size)⟩
        · go_wp2_with fail
          go_ret
          exact ⟨by rw [HV.out, decide_eq_false (by omega)]; rfl, HB.out.trans (HB5.out.mono HB.out.size)⟩
    · have HBR := Lib.hid hbr; have HE1 := Lib.hid e1; have HE2 := Lib.hid e2
      obtain ⟨⟨d0, d1, d2, d3⟩, _⟩ := box4 ((hbr.block _ (heapsz HZ1.out)).trans HZ1.out)
      simp only at d0 d1 d2 d3
      have HC := H3.out wr
      obtain ⟨q, hq⟩ : ∃ q, cmpL (sitZ (s : Int)) (sitZ (x : Int)) = q := ⟨_, rfl⟩
      have HQ : Hid (cC s x = q) := Lib.hid hq
      rw [hq] at HC
      replace HC := Lib.hid HC
      clear hbr hq e1 e2
      go_wp2_with fail
      refine HC.out.mono ?_
      rintro e w5 ⟨rfl, hb5⟩
      have HB5 := Lib.hid (HBR.out.trans (hb5.mono HBR.out.size))
      have HV : Hid (befS T s x = decide (q < 0)) := Lib.hid (by unfold befS; rw [if_pos HE1.out, if_pos HE2.out, HQ.out])
      clear hb5 d0 d1 d2 d3
      by_cases h0 : q = 0
      · subst h0
        go_wp2_with fail
        exact ⟨.inr (.inr (.inr ⟨rfl, HE1.out, HE2.out, HQ.out, HB5.out⟩)), by simp [intOf]⟩
      · by_cases h1 : q < 0
        · go_wp2_with fail
          go_ret
          exact ⟨by rw [HV.out, decide_eq_true h1]; rfl, HB.out.trans (HB5.out.mono HB.out.size)⟩
        · go_wp2_with fail
          go_ret
          exact ⟨by rw [HV.out, decide_eq_false (by omega)]; rfl, HB.out.trans (HB5.out.mono HB.out.size)⟩
    · have HBR := Lib.hid hbr
      have HV : Hid (befS T s x = false) := Lib.hid (by unfold befS; rw [if_pos e1, if_pos e2, e3]; rfl)
      clear hbr e1 e2 e3
      go_wp2_with fail
      go_ret
      exact ⟨by rw [HV.out]; rfl, HB.out.trans (HBR.out.mono HB.out.size)⟩
end Go.Proofs.Ytmppiiamcpjhnaa

namespace Go.Proofs.Ytmppiiamcpjhnaa
open Go.RowKit Go.Shelf

theorem shl11 {j : Nat} (h : j ≤ 10) : wrap64 ((2 : Int) ^ j) = ((2 ^ j : Nat) : Int) := by
  have : j = 0 ∨ j = 1 ∨ j = 2 ∨ j = 3 ∨ j = 4 ∨ j = 5 ∨ j = 6 ∨ j = 7 ∨ j = 8 ∨ j = 9 ∨ j = 10 := by omega
  rcases this with rfl | rfl | rfl | rfl | rfl | rfl | rfl | rfl | rfl | rfl | rfl <;> (unfold wrap64; decide +kernel)
def keepS (T : Tn) (f : Int) (s : Nat) : Bool := (unevenI T T.hs.length s f).isNone
/-- The best of the first sets that keep the town. -/
def bestK (T : Tn) (f : Int) : Nat → Option Nat
  | 0 => none
  | k + 1 => if keepS T f k && (match bestK T f k with | none => true | some b => befS T k b) then some k else bestK T f k
theorem bestK_no {T : Tn} {f : Int} {k b : Nat} (h : bestK T f k = some b) (hb : befS T k b = false) : bestK T f (k + 1) = some b := by
  unfold bestK
  rw [h]
  simp [hb]
theorem bestK_un {T : Tn} {f : Int} {k : Nat} (h : keepS T f k = false) : bestK T f (k + 1) = bestK T f k := by
  show (if keepS T f k && _ then _ else _) = _
  rw [h]
  rfl
theorem bestK_yes {T : Tn} {f : Int} {k : Nat} (h : keepS T f k = true) (hb : ∀ b, bestK T f k = some b → befS T k b = true) : bestK T f (k + 1) = some k := by
  show (if keepS T f k && _ then _ else _) = _
  rw [h]
  cases e : bestK T f k with
  | none => simp
  | some b => simp [hb b e]
def oB (V : TV) (M : Nat) : Option Nat → Array Value
  | none => #[.slice none 0 0, .slice none 0 0, .int .i64 0, .map none]
  | some b => coC V b M
theorem bestK_or (T : Tn) (f : Int) (k : Nat) : (keepS T f k = true ∧ bestK T f (k + 1) = some k) ∨ bestK T f (k + 1) = bestK T f k := by
  cases hk : keepS T f k with
  | false => exact .inr (bestK_un hk)
  | true =>
    cases e : bestK T f k with
    | none => exact .inl ⟨rfl, bestK_yes hk fun b hb => by rw [e] at hb; cases hb⟩
    | some b =>
      cases hb : befS T k b with
      | false => exact .inr (bestK_no e hb)
      | true => exact .inl ⟨rfl, bestK_yes hk fun b' hb' => by rw [e] at hb'; injection hb' with hb'; rw [← hb']; exact hb⟩
theorem bestK_lt {T : Tn} {f : Int} : ∀ {k b : Nat}, bestK T f k = some b → b < k
  | 0, _, h => by cases h
  | k + 1, b, h => by
    rcases bestK_or T f k with ⟨_, e⟩ | e
    · rw [e] at h; injection h with h; omega
    · rw [e] at h; have := bestK_lt h; omega
set_option maxRecDepth 100000 in
set_option maxHeartbeats 8000000 in
theorem best_any {w0 w : World} {M : Nat} {V : TV} {T : Tn} (hL : Lw w0 V T M w) {s : Nat} (f : Int) :
    Calls Try.prog 64 #[coV V s M, .int .i64 f] w fun e w' => e = .returned (.tuple #[.agg (oB V M (bestK T f (2 ^ V.ns))), .bool (bestK T f (2 ^ V.ns)).isSome]) ∧ Cw T M w w' := by
  obtain ⟨z0, z1, hb⟩ := two_new w (.cells (coC V s M) 89) (.cells #[.slice none 0 0, .slice none 0 0, .int .i64 0, .map none] 89)
  obtain ⟨w2, hw2⟩ : ∃ z, (w.alloc (.cells (coC V s M) 89)).alloc (.cells #[.slice none 0 0, .slice none 0 0, .int .i64 0, .map none] 89) = z := ⟨_, rfl⟩
  rw [hw2] at z0 z1 hb
  have HL := Lib.hid hL; have HCW := Lib.hid (hL.cw0.up hb); have HZ0 := Lib.hid z0
  have HN := Lib.hid hL.ns
  have hn10 := hL.ns.2.1
  obtain ⟨ah, nh, ch, az, ns, cz⟩ := V
  obtain ⟨⟨v0, v1, v2, v3⟩, _⟩ := box4 z0
  simp only at v0 v1 v2 v3 hn10 ⊢
  have e1 := shl11 hn10
  have HP := Lib.hid (pow10 hn10)
  have hp := HP.out
  obtain ⟨P, hP⟩ : ∃ P : Nat, 2 ^ ns = P := ⟨_, rfl⟩
  rw [hP] at e1 hp ⊢
  have HPP := Lib.hid hP
  have hmx := hL.net.ms
  simp only at hmx
  have HZ1 := Lib.hid z1
  clear z0 z1 hb hL hP
  go_enter Try.func64, Try.ntmps64
  go_wp2_with fail
  clear hw2 v0 v1 v2 v3 hmx e1
  have HNH : Hid (T.hs.length = nh) := Lib.hid HN.out.2.2.1
  go_loopw [5, 15] (fun bb ii wr => ∃ k : Nat, k ≤ P ∧ ii = .int .i64 k ∧ bb = .bool (bestK T f k).isSome ∧ Cw T M w wr ∧ wr.heap[w.heap.size]? = some (.cells (coC ⟨ah, nh, ch, az, ns, cz⟩ s M) 89 (0, 0)) ∧ wr.heap[w.heap.size + 1]? = some (.cells (oB ⟨ah, nh, ch, az, ns, cz⟩ M (bestK T f k)) 89 (0, 0))) (fun _ ii _ => P - (intOf ii).toNat)
  case atStart => exact ⟨0, by omega, rfl, rfl, HCW.out, HZ0.out, HZ1.out⟩
  case round =>
    obtain ⟨k, hk, rfl, rfl, hcw, hb0, hb1⟩ := hrel
    by_cases hlt : k < P
    · have k3 : (0 : Int) ≤ (k : Int) := by omega
      have k4 : (k : Int) < (P : Int) := by omega
      have HKS : Hid (k < 2 ^ ns) := Lib.hid (by rw [HPP.out]; exact hlt)
      have HCR := Lib.hid hcw; have HB0 := Lib.hid hb0; have HB1 := Lib.hid hb1
      obtain ⟨⟨v0, v1, v2, v3⟩, _⟩ := box4 hb0
      simp only at v0 v1 v2 v3
      clear hcw hb0 hb1
      go_wp2_with fail
      refine (with_any ⟨ah, nh, ch, az, ns, cz⟩ s M k wr).mono ?_
      rintro e w5 ⟨rfl, hb5⟩
      have z6 := heap_alloc_new w5 (.cells (coC ⟨ah, nh, ch, az, ns, cz⟩ k M) 89)
      have hb6 := hb5.trans (((Below.refl w5.heap.size w5).alloc (Nat.le_refl _) (.cells (coC ⟨ah, nh, ch, az, ns, cz⟩ k M) 89)).mono hb5.size)
      obtain ⟨w6, hw6⟩ : ∃ z, w5.alloc (.cells (coC ⟨ah, nh, ch, az, ns, cz⟩ k M) 89) = z := ⟨_, rfl⟩
      rw [hw6] at z6 hb6
      have HG6 := Lib.hid (HCR.out.up hb6); have HZ66 := Lib.hid z6
      have HB06 := Lib.hid ((hb6.block _ (heapsz HB0.out)).trans HB0.out); have HB16 := Lib.hid ((hb6.block _ (heapsz HB1.out)).trans HB1.out)
      obtain ⟨⟨r0, r1, r2, r3⟩, _⟩ := box4 z6
      simp only at r0 r1 r2 r3
      clear v0 v1 v2 v3 hb5 z6 hb6
      cases hbk : bestK T f k with
      | none =>
        have HEB := Lib.hid hbk
        rw [hbk] at HB16
        simp only [Option.isSome_none]
        have HG := Lib.hid HG6.out; have HLW := Lib.hid (HL.out.go HG6.out); have HZB0 := Lib.hid HB06.out; have HZB1 := Lib.hid HB16.out; have HZ6 := Lib.hid HZ66.out
        clear hbk HG6 HB06 HB16 HZ66
        have HFU := Lib.hid (first_any (HLW.out) (s := k) f HKS.out)
        go_wp2_with fail
        clear hw6 r0 r1 r2 r3
        refine HFU.out.mono ?_
        rintro e w8 ⟨rfl, hg8⟩
        have HG8 := Lib.hid (HG.out.trans hg8)
        have hz0 := hg8.cell HZB0.out (HLW.out.ne HZB0.out)
        have hz1 := hg8.cell HZB1.out (HLW.out.ne HZB1.out)
        have hz6 := hg8.cell HZ6.out (HLW.out.ne HZ6.out)
        have HZ08 := Lib.hid hz0; have HZ18 := Lib.hid hz1
        obtain ⟨⟨r0, r1, r2, r3⟩, _⟩ := box4 hz6
        simp only at r0 r1 r2 r3
        unfold unevenV
        cases hu : unevenI T nh k f with
        | none =>
          have hks : keepS T f k = true := by unfold keepS; rw [HNH.out, hu]; rfl
          have HBK : Hid (bestK T f (k + 1) = some k) := Lib.hid (bestK_yes hks (fun b hb => by rw [HEB.out] at hb; cases hb))
          obtain ⟨⟨s0, s1, s2, s3⟩, f0, f1, f2, f3⟩ := box4 hz1
          clear hg8 hz0 hz6 hu hks hz1
          simp only [Option.getD_none, Option.isSome_none]
          go_wp2_with fail
          obtain ⟨g1, g2, g3⟩ := fill4 HZ18.out (.slice ah nh ch) (.slice az ns cz) (.int .i64 (k : Int)) (.map (some M))
          refine ⟨⟨k + 1, by omega, rfl, by rw [HBK.out]; rfl, HG8.out.low (n := w.heap.size + 1) (by omega) (g3 _ (Nat.le_refl _)), (g2 _ (by omega)).trans HZ08.out, ?_⟩, by simp [intOf]; omega⟩
          rw [HBK.out]
          exact g1
        | some j =>
          have hks : keepS T f k = false := by unfold keepS; rw [HNH.out, hu]; rfl
          have HBK : Hid (bestK T f (k + 1) = bestK T f k) := Lib.hid (bestK_un hks)
          clear hg8 hz0 hz6 hu hks hz1
          simp only [Option.getD_some, Option.isSome_some]
          go_wp2_with fail
          exact ⟨⟨k + 1, by omega, rfl, by rw [HBK.out, HEB.out]; rfl, HG8.out, HZ08.out, by rw [HBK.out, HEB.out]; exact HZ18.out⟩, by simp [intOf]; omega⟩
      | some b =>
        have HEB := Lib.hid hbk
        have hbk2 := hbk
        rw [hbk] at HB16
        simp only [Option.isSome_some]
        have HBF := Lib.hid (fun u (hu : Cw T M w u) => beforeS_any ⟨ah, nh, ch, az, ns, cz⟩ T k b M u (HL.out.go hu).tn HL.out.ok HKS.out (Nat.lt_trans (bestK_lt hbk2) HKS.out))
        obtain ⟨⟨q0, q1, q2, q3⟩, _⟩ := box4 (show w6.heap[w.heap.size + 1]? = some (.cells (coC ⟨ah, nh, ch, az, ns, cz⟩ b M) 89 (0, 0)) from HB16.out)
        simp only at q0 q1 q2 q3
        clear hbk hbk2
        go_wp2_with fail
        clear hw6
        refine (HBF.out w6 HG6.out).mono ?_
        rintro e w7 ⟨rfl, hb7⟩
        have HG := Lib.hid (HG6.out.up hb7); have HLW := Lib.hid (HL.out.go (HG6.out.up hb7)); have HZB0 := Lib.hid ((hb7.block _ (heapsz HB06.out)).trans HB06.out); have HZB1 := Lib.hid ((hb7.block _ (heapsz HB16.out)).trans HB16.out); have HZ6 := Lib.hid ((hb7.block _ (heapsz HZ66.out)).trans HZ66.out)
        clear hb7 r0 r1 r2 r3 q0 q1 q2 q3 HG6 HB06 HB16 HZ66
        cases hbe : befS T k b with
        | false =>
          have HBK : Hid (bestK T f (k + 1) = some b) := Lib.hid (bestK_no HEB.out hbe)
          clear hbe
          go_wp2_with fail
          exact ⟨⟨k + 1, by omega, rfl, by rw [HBK.out]; rfl, HG.out, HZB0.out, by rw [HBK.out]; exact HZB1.out⟩, by simp [intOf]; omega⟩
        | true =>
          have HBE := Lib.hid hbe
          clear hbe
          have HFU := Lib.hid (first_any (HLW.out) (s := k) f HKS.out)
          obtain ⟨⟨r0, r1, r2, r3⟩, _⟩ := box4 HZ6.out
          simp only at r0 r1 r2 r3
          go_wp2_with fail
          refine HFU.out.mono ?_
          rintro e w8 ⟨rfl, hg8⟩
          have HG8 := Lib.hid (HG.out.trans hg8)
          have hz0 := hg8.cell HZB0.out (HLW.out.ne HZB0.out)
          have hz1 := hg8.cell HZB1.out (HLW.out.ne HZB1.out)
          have hz6 := hg8.cell HZ6.out (HLW.out.ne HZ6.out)
          have HZ08 := Lib.hid hz0; have HZ18 := Lib.hid hz1
          obtain ⟨⟨r0, r1, r2, r3⟩, _⟩ := box4 hz6
          simp only at r0 r1 r2 r3
          unfold unevenV
          cases hu : unevenI T nh k f with
          | none =>
            have hks : keepS T f k = true := by unfold keepS; rw [HNH.out, hu]; rfl
            have HBK : Hid (bestK T f (k + 1) = some k) := Lib.hid (bestK_yes hks (fun b' hb' => by rw [HEB.out] at hb'; injection hb' with hb'; rw [← hb']; exact HBE.out))
            obtain ⟨⟨s0, s1, s2, s3⟩, f0, f1, f2, f3⟩ := box4 hz1
            clear hg8 hz0 hz6 hu hks hz1
            simp only [Option.getD_none, Option.isSome_none]
            go_wp2_with fail
            obtain ⟨g1, g2, g3⟩ := fill4 HZ18.out (.slice ah nh ch) (.slice az ns cz) (.int .i64 (k : Int)) (.map (some M))
            refine ⟨⟨k + 1, by omega, rfl, by rw [HBK.out]; rfl, HG8.out.low (n := w.heap.size + 1) (by omega) (g3 _ (Nat.le_refl _)), (g2 _ (by omega)).trans HZ08.out, ?_⟩, by simp [intOf]; omega⟩
            rw [HBK.out]
            exact g1
          | some j =>
            have hks : keepS T f k = false := by unfold keepS; rw [HNH.out, hu]; rfl
            have HBK : Hid (bestK T f (k + 1) = bestK T f k) := Lib.hid (bestK_un hks)
            clear hg8 hz0 hz6 hu hks hz1
            simp only [Option.getD_some, Option.isSome_some]
            go_wp2_with fail
            exact ⟨⟨k + 1, by omega, rfl, by rw [HBK.out, HEB.out]; rfl, HG8.out, HZ08.out, by rw [HBK.out, HEB.out]; exact HZ18.out⟩, by simp [intOf]; omega⟩
    · obtain rfl : k = P := by omega
      have k4 : ¬ (k : Int) < (k : Int) := by omega
      have HG := Lib.hid hcw
      cases hbk : bestK T f k with
      | none =>
        rw [hbk] at hb1
        have HBE := Lib.hid hbk
        have HZ := Lib.hid (show wr.heap[w.heap.size + 1]? = some (.cells #[.slice none 0 0, .slice none 0 0, .int .i64 0, .map none] 89 (0, 0)) from hb1)
        obtain ⟨⟨s0, s1, s2, s3⟩, f0, f1, f2, f3⟩ := box4 HZ.out
        simp only [Option.isSome_none]
        clear hcw hb0 hb1 hbk
        go_wp2_with fail
        obtain ⟨g1, _, g3⟩ := fill4 HZ.out (.slice none 0 0) (.slice none 0 0) (.int .i64 0) (.map none)
        obtain ⟨⟨c0, c1, c2, c3⟩, _⟩ := box4 g1
        exact bodyPost_ret (v := .tuple #[.agg #[.slice none 0 0, .slice none 0 0, .int .i64 0, .map none], .bool false]) (by simp [results, Try.results64, go_sem, c0, c1, c2, c3]) rfl ⟨by rw [HBE.out]; rfl, HG.out.low (n := w.heap.size + 1) (by omega) (g3 _ (Nat.le_refl _))⟩
      | some b =>
        rw [hbk] at hb1
        have HBE := Lib.hid hbk
        have HZ := Lib.hid (show wr.heap[w.heap.size + 1]? = some (.cells #[.slice ah nh ch, .slice az ns cz, .int .i64 (b : Int), .map (some M)] 89 (0, 0)) from hb1)
        obtain ⟨⟨s0, s1, s2, s3⟩, f0, f1, f2, f3⟩ := box4 HZ.out
        simp only [Option.isSome_some]
        clear hcw hb0 hb1 hbk
        go_wp2_with fail
        obtain ⟨g1, _, g3⟩ := fill4 HZ.out (.slice ah nh ch) (.slice az ns cz) (.int .i64 (b : Int)) (.map (some M))
        obtain ⟨⟨c0, c1, c2, c3⟩, _⟩ := box4 g1
        exact bodyPost_ret (v := .tuple #[.agg #[.slice ah nh ch, .slice az ns cz, .int .i64 (b : Int), .map (some M)], .bool true]) (by simp [results, Try.results64, go_sem, c0, c1, c2, c3]) rfl ⟨by rw [HBE.out]; rfl, HG.out.low (n := w.heap.size + 1) (by omega) (g3 _ (Nat.le_refl _))⟩
end Go.Proofs.Ytmppiiamcpjhnaa

namespace Go.Proofs.Ytmppiiamcpjhnaa
open Go.RowKit Go.Shelf

theorem coolB_nil (T : Tn) : coolB T [] = true := rfl
def besO (T : Tn) (f : Int) : Option Nat := bestK T f (2 ^ T.ss.length)
/-- The best coolers, their cost, the error. -/
def besL (T : Tn) (f : Int) : List Int := if failI T [] f = 0 then (match besO T f with | some b => sitZ (b : Int) | none => []) else []
def besC (T : Tn) (f : Int) : Int := if failI T [] f = 0 then (match besO T f with | some b => costS T b | none => 0) else 0
def besE (T : Tn) (f : Int) : Int := if failI T [] f = 0 then (match besO T f with | some _ => 0 | none => 5) else 2
theorem copy2 {w0 u : World} {xs : List Int} {i i1 : Nat} {done : Nat → Bool} {g : Value × Value} {ops : Array Oper} {cv : Value × Value → Tmp → Value} {o : Oper} (h : TwoL w0 xs xs i1 i done g u) (hne : i ≠ i1) (h1 : done i1 = true) (d : Tmp) (hd : o.dst = some d) (hg : Region.wanted o (yieldedBy ops (cv g)) = true)
    (he : (execOp (evalBy (cv g)) o).run Try.prog u = .ok (.value g.1) u) (hcd : cv (g.1, g.1) d = g.1) (hct : ∀ t, t ≠ d → cv (g.1, g.1) t = cv g t) : Ask2 w0 xs xs i1 i ops cv done g u i o := by
  refine ⟨hg, ?_⟩
  rw [he]
  exact ⟨(g.1, g.1), ⟨h.bel, fun e => h.l1 (by rwa [updM_ne hne] at e), fun _ => h.l1 h1⟩, fun e hE => by rw [hd] at hE; injection hE with hE; subst hE; exact hcd, fun t ht => hct t (fun e => ht (by rw [hd, e]))⟩
def beCv (B : Nat) (V : TV) (b M : Nat) (cst : Int) (g : Value × Value) : Tmp → Value
  | 8 => .pointer (some ⟨B, 0, none⟩)
  | 25 => coV V b M
  | 26 => g.1
  | 27 => coV V b M
  | 28 => .int .i64 cst
  | 4 => g.2
  | 5 => .int .i64 cst
  | 6 => .int .i64 0
  | _ => undef
set_option maxRecDepth 100000 in
set_option maxHeartbeats 8000000 in
theorem Best_any (V : TV) (T : Tn) (f : Int) (w : World) (hN : TnAt w w.heap.size V T) :
    Calls Try.prog 33 #[tvV V, .int .i64 f] w fun e w' => ∃ v, e = .returned (.tuple #[v, .int .i64 (besC T f), .int .i64 (besE T f)]) ∧ Below w.heap.size w w' ∧ RowIs intR 3 w.heap.size (besL T f) v w' := by
  have z := heap_alloc_new w (.cells (tvC V) 25)
  have hb := (Below.refl w.heap.size w).alloc (Nat.le_refl _) (.cells (tvC V) 25)
  obtain ⟨w1, hw1⟩ : ∃ z, w.alloc (.cells (tvC V) 25) = z := ⟨_, rfl⟩
  rw [hw1] at z hb
  have HF := Lib.hid (checkFails_any V T none 0 0 [] f w1 (hN.up hb) rfl (Nat.zero_le _) (fun h => absurd rfl h))
  have HLK := Lib.hid (fun (u : World) (hu : Below w1.heap.size w1 u) (hK : TnOk T) => lookL_any V T none 0 0 [] u ((hN.up hb).next hu hu.size) hK (coolB_nil T) rfl (Nat.zero_le _) (fun h => absurd rfl h))
  have HNS := Lib.hid hN.ns
  have HW := Lib.hid hw1; have HB := Lib.hid hb; have HZ := Lib.hid z
  obtain ⟨ah, nh, ch, az, ns, cz⟩ := V
  obtain ⟨v0, v1⟩ := box2 z
  clear z hb hw1 hN
  go_enter Try.func33, Try.ntmps33
  go_wp2_with fail
  rw [show w.alloc (.cells #[.slice ah nh ch, .slice az ns cz] 25) = w1 from HW.out]
  go_wp2_with fail
  refine HF.out.mono ?_
  rintro e w2 ⟨rfl, hb2⟩
  have HB2 := Lib.hid (HB.out.trans (hb2.mono HB.out.size))
  rcases fail_cases T [] f with h2 | ⟨h0, hc0, hf⟩
  · have H2 := Lib.hid h2
    rw [h2]
    clear hb2 v0 v1 h2
    go_wp2_with fail
    refine bodyPost_ret (v := .tuple #[.slice none 0 0, .int .i64 0, .int .i64 2]) (by simp [results, Try.results33, go_sem]) rfl ?_
    exact ⟨.slice none 0 0, by unfold besC besE; rw [H2.out]; rfl, HB2.out, .inl ⟨by unfold besL; rw [H2.out]; rfl, rfl⟩⟩
  · have H0 := Lib.hid h0
    obtain ⟨hK, hC⟩ := town_ok hc0
    have HL := Lib.hid (HLK.out w2 hb2 hK)
    have HK := Lib.hid hK
    obtain ⟨y0, y1⟩ := box2 ((hb2.block _ (heapsz HZ.out)).trans HZ.out)
    rw [h0]
    clear hb2 v0 v1 h0 hc0 hf hK hC
    go_wp2_with fail
    refine HL.out.mono ?_
    rintro e w3 ⟨M, rfl, hlw⟩
    have HBE := Lib.hid (best_any hlw (s := setI []) f)
    have HBL := Lib.hid hlw
    have HNS' : Hid (T.ss.length = ns) := Lib.hid HNS.out
    clear hlw y0 y1
    go_wp2_with fail
    refine HBE.out.mono ?_
    rintro e w4 ⟨rfl, hg⟩
    have HG := Lib.hid hg
    have HE : Hid (Below w.heap.size w w4) := Lib.hid ((HB2.out.trans (HBL.out.bel.mono HB2.out.size)).trans ((hg.bel HBL.out.lt).mono HB2.out.size))
    cases hbk : bestK T f (2 ^ ns) with
    | none =>
      have HBK : Hid (besO T f = none) := Lib.hid (by unfold besO; rw [HNS'.out]; exact hbk)
      have hbx := (Below.refl w4.heap.size w4).alloc (Nat.le_refl _) (.cells #[.slice none 0 0, .slice none 0 0, .int .i64 0, .map none] 89)
      have HE2 := Lib.hid (HE.out.trans (hbx.mono HE.out.size))
      clear hg hbk hbx
      simp only [Option.isSome_none, oB]
      go_wp2_with fail
      refine bodyPost_ret (v := .tuple #[.slice none 0 0, .int .i64 0, .int .i64 5]) (by simp [results, Try.results33, go_sem]) rfl ?_
      exact ⟨.slice none 0 0, by unfold besC besE; rw [H0.out, HBK.out]; rfl, HE2.out, .inl ⟨by unfold besL; rw [H0.out, HBK.out]; rfl, rfl⟩⟩
    | some b =>
      have HBK : Hid (besO T f = some b) := Lib.hid (by unfold besO; rw [HNS'.out]; exact hbk)
      have HBT : Hid (b < 2 ^ ns) := Lib.hid (bestK_lt hbk)
      have zx := heap_alloc_new w4 (.cells (coC ⟨ah, nh, ch, az, ns, cz⟩ b M) 89)
      have hbx := (Below.refl w4.heap.size w4).alloc (Nat.le_refl _) (.cells (coC ⟨ah, nh, ch, az, ns, cz⟩ b M) 89)
      obtain ⟨w5, hw5⟩ : ∃ z, w4.alloc (.cells (coC ⟨ah, nh, ch, az, ns, cz⟩ b M) 89) = z := ⟨_, rfl⟩
      rw [hw5] at zx hbx
      have HE2 := Lib.hid (HE.out.trans (hbx.mono HE.out.size)); have HZX := Lib.hid zx
      have HCO := Lib.hid (fun u (hu : Below w5.heap.size w5 u) => cost_any ⟨ah, nh, ch, az, ns, cz⟩ T b M u (((HBL.out.go HG.out).up (hbx.trans (hu.mono hbx.size))).tn) HK.out HBT.out)
      clear hg hbk hbx zx
      simp only [Option.isSome_some, oB]
      go_wp2_with fail
      clear hw5
      refine wp_region_any (by kernel_rfl) (plan_guarded_any (γ := Value × Value) [8] (beCv w4.heap.size ⟨ah, nh, ch, az, ns, cz⟩ b M (costS T b)) (TwoL w5 (sitZ (b : Int)) (sitZ (b : Int)) 1 4) (undef, undef) (by kernel_rfl) (by kernel_rfl) (by kernel_rfl) (by kernel_rfl) ?_ ?_ ?_ ?_)
      · intro t ht
        simp only [List.mem_cons, List.not_mem_nil, or_false] at ht
        rcases ht with rfl
        rfl
      · exact ⟨(Below.refl _ w5).drew, fun h => by simp at h, fun h => by simp at h⟩
      · refine allOps_array ?_
        refine ⟨?_, ?_, ?_, ?_, ?_, ?_, ?_, trivial⟩ <;> intro done g u hS hu hdep _ <;> obtain ⟨⟨p0, p1, p2, p3⟩, _⟩ := box4 ((hS.bel.block _ (heapsz HZX.out)).trans HZX.out) <;> simp only at p0 p1 p2 p3
        · exact quiet2 hS 25 rfl (by decide) (by decide) rfl (by simp [go_sem, evalBy, beCv, p0, p1, p2, p3])
        · exact list1 hS (by decide) 26 rfl hu rfl ⟨ah, nh, ch, az, ns, cz⟩ b M (by simp [go_sem, evalBy, beCv]) (fun _ => rfl) (fun v t ht => by unfold beCv; split <;> first | rfl | exact absurd rfl ht) rfl
        · exact quiet2 hS 27 rfl (by decide) (by decide) rfl (by simp [go_sem, evalBy, beCv, p0, p1, p2, p3])
        · exact call2 hS 28 rfl (by decide) (by decide) rfl 66 #[coV ⟨ah, nh, ch, az, ns, cz⟩ b M] (by simp [go_sem, evalBy, beCv]) (HCO.out u hS.bel)
        · exact copy2 hS (by decide) (hdep ⟨1, .data⟩ (by simp) rfl) 4 rfl rfl (by simp [go_sem, evalBy, beCv]) rfl (fun t ht => by unfold beCv; split <;> first | rfl | exact absurd rfl ht)
        · exact quiet2 hS 5 rfl (by decide) (by decide) rfl (by simp [go_sem, evalBy, beCv])
        · exact quiet2 hS 6 rfl (by decide) (by decide) rfl (by simp [go_sem, evalBy, beCv])
      · intro g u hS
        have hr := hS.l2 (by decide)
        have HR := Lib.hid (And.intro (HE2.out.trans (hS.bel.mono HE2.out.size)) (hr.low HE2.out.size))
        clear hS hr
        simp [putAll, Act.put, beCv]
        go_wp2_with fail
        refine bodyPost_ret (v := .tuple #[g.2, .int .i64 (costS T b), .int .i64 0]) (by simp [results, Try.results33, go_sem]) rfl ?_
        exact ⟨g.2, by unfold besC besE; rw [H0.out, HBK.out]; rfl, HR.out.1, by unfold besL; rw [H0.out, HBK.out]; exact HR.out.2⟩
end Go.Proofs.Ytmppiiamcpjhnaa
