/- The levels in truth: the exported function. -/
import Derived.Test.YtdlaphlpimlgdaaGreatDoorCN
namespace Go.Proofs.YtdlaphlpimlgdaaGreatDoor
open Go.RowKit Go.Shelf

theorem poss_at {X : Ctx} {L : List (List Tru)} (h : possB X L = true) : L.length = X.n ∧ ∀ (t : Nat) (row : List Tru), L[t]? = some row → row.length = X.np ∧ ∀ (i : Nat) (x : Tru), row[i]? = some x → truB X t i x = true := by
  unfold possB at h
  rw [Bool.and_eq_true, decide_eq_true_eq] at h
  refine ⟨h.1, fun t row hr => ?_⟩
  have ht : t < X.n := by rw [← h.1]; exact (List.getElem?_eq_some_iff.1 hr).1
  have h1 := List.all_eq_true.1 h.2 t (List.mem_range.2 ht)
  unfold truRowB at h1
  rw [List.getD_eq_getElem?_getD, hr, Option.getD_some, Bool.and_eq_true, decide_eq_true_eq] at h1
  refine ⟨h1.1, fun i x hx => ?_⟩
  have hi : i < X.np := by rw [← h1.1]; exact (List.getElem?_eq_some_iff.1 hx).1
  have h2 := List.all_eq_true.1 h1.2 i (List.mem_range.2 hi)
  rw [List.getD_eq_getElem?_getD, hx] at h2
  exact h2
theorem poss_set {X : Ctx} (K : X.Ok) {L : List (List Tru)} (h : possB X L = true) : ∀ row ∈ L, ∀ x ∈ row, 0 ≤ x.s ∧ x.s ≤ 1000 := by
  intro row hr x hx
  obtain ⟨t, ht⟩ := List.mem_iff_getElem?.1 hr
  obtain ⟨i, hi⟩ := List.mem_iff_getElem?.1 hx
  have h1 := ((poss_at h).2 t row ht).2 i x hi
  unfold truB at h1
  simp only [Bool.and_eq_true, inB_iff] at h1
  have h2 := rowI_in K.parts.rs (by rw [K.hr]; exact K.parts.nr6.1) (carI (X.pile i) x.t) x.l
  omega
set_option maxRecDepth 100000 in
theorem settled_any (bx : Nat) (A : Option Addr) (m c np t i : Nat) (L : List (List Tru)) (w : World) (hz : w.heap[bx]? = some (.cells #[.slice A m c] 51 (0, 0))) (hl : L.length = m) (hr : ∀ row ∈ L, row.length = np) (hA : GridAt 3 truR w w.heap.size A L) (ht : t < m) (hi : i < np) :
    Calls Tryz.prog 80 #[.int .i64 (t : Int), .int .i64 (i : Int), .pointer (some ⟨bx, 0, none⟩)] w fun e w' => e = .returned (.int .i64 (setF L t i)) ∧ Below w.heap.size w w' := by
  obtain ⟨row, hrow⟩ := get_of_lt (l := L) (k := t) (by rw [hl]; exact ht)
  obtain ⟨ba, oa, A', nr, c', rfl, hba, hnr, d1, p1, _⟩ := grid_row hA hrow
  have hrl := hr row (List.mem_of_getElem? hrow)
  rw [hrl] at hnr
  rw [hnr] at d1
  obtain ⟨x, hx⟩ := get_of_lt (l := row) (k := i) (by rw [hrl]; exact hi)
  obtain ⟨b', o', rfl, hb', q0, q1, q2⟩ := tru_el p1 hx
  have HS : Hid (setF L t i = x.s) := Lib.hid (by unfold setF; simp only [List.getD_eq_getElem?_getD, hrow, Option.getD_some, hx])
  have c0 := cell_of_row w bx 0 _ 51 (0, 0) hz
  simp at c0
  have ht0 : (0 : Int) ≤ (t : Int) := by omega
  have ht1 : (t : Int) < (m : Int) := by omega
  have hi0 : (0 : Int) ≤ (i : Int) := by omega
  have hi1 : (i : Int) < (np : Int) := by omega
  clear hz hl hr hA hrow hnr p1 hrl hx q0 q1
  go_enter Tryz.func80, Tryz.ntmps80
  go_wp2_with fail
  go_ret
  exact ⟨by rw [HS.out]; rfl, Below.refl _ _⟩
def playI (X : Ctx) (plan : List Int) (L : List (List Tru)) : Int :=
  if 10 < (L.length : Int) then 3 else if planI X.sit X.ts plan = 0 then (if possB X L then 0 else 2) else planI X.sit X.ts plan
theorem planI_long {S : Sit} {ts : List (List Sp)} {plan : List Int} (h : 10 < (ts.length : Int) ∨ 10 < (plan.length : Int)) : planI S ts plan = 3 := by
  unfold planI
  rw [if_pos h]
def PlayPost (X : Ctx) (plan : List Int) (L : List (List Tru)) (m : Nat) (w : World) (I : Int) (e : Ending) (w' : World) : Prop :=
  ∃ A3 n3 c3, e = .returned (.tuple #[.slice A3 n3 c3, .int .i64 I]) ∧ (I = 0 → n3 = m ∧ LvsAt w' w'.heap.size A3 (lvT (setF L) plan X.np) ∧ m ≤ c3) ∧ (I ≠ 0 → A3 = none ∧ n3 = 0 ∧ c3 = 0) ∧ Below w.heap.size w w'
theorem three_ints (w : World) (x y z : Int) : IntsAt (w.alloc (.cells #[.int .i64 x, .int .i64 y, .int .i64 z] 3)) (w.alloc (.cells #[.int .i64 x, .int .i64 y, .int .i64 z] 3)).heap.size (some ⟨w.heap.size, 0, none⟩) [x, y, z] :=
  rowAt_block (k := 1) (R := intR) (xs := [x, y, z]) (fun _ => rfl) (T := 3) (heap_alloc_new w _) (by simp)
set_option maxRecDepth 100000 in
set_option maxHeartbeats 4000000 in
theorem Play_any {X : Ctx} {w : World} (h : X.In w) (A2 A3 : Option Addr) (m c2 k c3 : Nat) (plan : List Int) (L : List (List Tru)) (hm : plan.length = m) (hm2 : m ≤ maxLen) (hP : IntsAt w w.heap.size A2 plan) (hl : L.length = k) (_hk : k ≤ maxLen) (hT : GridAt 3 truR w w.heap.size A3 L) :
    Calls Tryz.prog 31 #[X.sv, X.tv, .slice A2 m c2, .slice A3 k c3] w (PlayPost X plan L m w (playI X plan L)) := by
  obtain ⟨z0, z1, hb0⟩ := two_boxes w (.cells X.cells 26) (.cells #[.slice A3 k c3] 51)
  obtain ⟨w1, hw1⟩ : ∃ z, (w.alloc (.cells X.cells 26)).alloc (.cells #[.slice A3 k c3] 51) = z := ⟨_, rfl⟩
  rw [hw1] at z0 z1 hb0
  have HI := Lib.hid (h.up hb0); have HB := Lib.hid hb0; have HM := Lib.hid hm; have HM2 := Lib.hid hm2; have HLN := Lib.hid hl; have HP := Lib.hid (RowAt.up (k := 1) (R := intR) hP hb0); have HT := Lib.hid (hT.up hb0)
  have Z0 := Lib.hid z0; have Z1 := Lib.hid z1
  have HXN := Lib.hid h.hl
  obtain ⟨s0, s1, s2, s3, s4, s5⟩ := site_box z0
  have t0 := cell_of_row w1 (w.heap.size + 1) 0 _ 51 (0, 0) z1
  simp at t0
  have h3 : Hid (∀ (v : Int), playI X plan L = v → True) := Lib.hid fun _ _ => trivial
  clear h3
  obtain ⟨V, hV⟩ : ∃ z, playI X plan L = z := ⟨_, rfl⟩
  have HPV := Lib.hid hV
  rw [hV]
  clear hV
  clear h hm hm2 hP hl hT z0 z1 hb0
  go_enter Tryz.func31, Tryz.ntmps31
  go_wp2_with fail
  have hbz := (Below.refl w1.heap.size w1).alloc (Nat.le_refl _) (.cells #[.int .i64 (X.n : Int), .int .i64 (m : Int), .int .i64 (k : Int)] 3)
  have HTL := Lib.hid (tooLong_any (some ⟨w1.heap.size, 0, none⟩) 3 3 [(X.n : Int), (m : Int), (k : Int)] _ rfl (by unfold maxLen; omega) (three_ints w1 _ _ _))
  have HBZ := Lib.hid (HB.out.trans (hbz.mono HB.out.size)); have HIZ := Lib.hid (HI.out.up hbz); have HPZ := Lib.hid (RowAt.up (k := 1) (R := intR) HP.out hbz); have HTZ := Lib.hid (HT.out.up hbz)
  have Y0 := Lib.hid ((hbz.block _ (heapsz Z0.out)).trans Z0.out); have Y1 := Lib.hid ((hbz.block _ (heapsz Z1.out)).trans Z1.out)
  obtain ⟨w2, hw2⟩ : ∃ z, w1.alloc (.cells #[.int .i64 (X.n : Int), .int .i64 (m : Int), .int .i64 (k : Int)] 3) = z := ⟨_, rfl⟩
  rw [hw2] at HTL HBZ HIZ HPZ HTZ Y0 Y1 ⊢
  clear hbz hw2 s0 s1 s2 s3 s4 s5 t0 HB HI HP HT Z0 Z1
  refine HTL.out.mono ?_
  rintro e w' ⟨rfl, rfl⟩
  by_cases h10 : (10 : Int) < (X.n : Int) ∨ (10 : Int) < (m : Int) ∨ (10 : Int) < (k : Int)
  · have hb : ([(X.n : Int), (m : Int), (k : Int)].any fun x => decide (10 < x)) = true := by simpa using h10
    have HF : V = 3 := (by
      rw [← HPV.out]
      unfold playI
      by_cases h1 : 10 < (L.length : Int)
      · rw [if_pos h1]
      · rw [if_neg h1, planI_long (by rw [HXN.out, HM.out]; rw [HLN.out] at h1; omega)]
        rfl)
    rw [hb]
    subst HF
    clear hb h10
    go_wp2_with fail
    exact bodyPost_ret (v := .tuple #[.slice none 0 0, .int .i64 3]) (by simp [results, Tryz.results31, go_sem]) rfl ⟨none, 0, 0, rfl, fun e => absurd e (by decide), fun _ => ⟨rfl, rfl, rfl⟩, HBZ.out⟩
  · have hb : ([(X.n : Int), (m : Int), (k : Int)].any fun x => decide (10 < x)) = false := by
      simp only [List.any_cons, List.any_nil, Bool.or_false, Bool.or_eq_false_iff, decide_eq_false_iff_not]
      omega
    have HF : Hid (V = if planI X.sit X.ts plan = 0 then (if possB X L then 0 else 2) else planI X.sit X.ts plan) := Lib.hid (by
      rw [← HPV.out]
      unfold playI
      rw [if_neg (by rw [HLN.out]; omega)])
    have hm10 : m ≤ 10 := by omega
    have hk10 : k ≤ 10 := by omega
    rw [hb]
    clear hb h10
    obtain ⟨s0, s1, s2, s3, s4, s5⟩ := site_box Y0.out
    obtain ⟨I, hI⟩ : ∃ z, planI X.sit X.ts plan = z := ⟨_, rfl⟩
    have HPI := Lib.hid hI
    have hcp := checkPlan_X (c2 := c2) HIZ.out A2 m plan HM.out HM2.out HPZ.out
    rw [hI] at HF hcp
    have HCP := Lib.hid hcp
    clear hI hcp
    go_wp2_with fail
    refine HCP.out.mono ?_
    rintro e w3 ⟨rfl, hb3⟩
    have HB3 := Lib.hid (HBZ.out.trans (hb3.mono HBZ.out.size)); have HI3 := Lib.hid (HIZ.out.up hb3); have HP3 := Lib.hid (RowAt.up (k := 1) (R := intR) HPZ.out hb3); have HT3 := Lib.hid (HTZ.out.up hb3)
    have X0 := Lib.hid ((hb3.block _ (heapsz Y0.out)).trans Y0.out); have X1 := Lib.hid ((hb3.block _ (heapsz Y1.out)).trans Y1.out)
    clear hb3 s0 s1 s2 s3 s4 s5 HCP Y0 Y1
    obtain ⟨s0, s1, s2, s3, s4, s5⟩ := site_box X0.out
    by_cases h0 : I = 0
    · subst h0
      rw [if_pos rfl] at HF
      have HZ := Lib.hid (planI_0 HPI.out)
      have HMN : Hid (m = X.n) := Lib.hid (by rw [← HM.out, HZ.out.2.1, HI3.out.hl])
      have HPB : Hid (planB X.np plan = true) := Lib.hid (by rw [← HI3.out.hp]; exact HZ.out.2.2)
      go_wp2_with fail
      refine (look_X HI3.out).mono ?_
      rintro e w4 ⟨G, rfl, hX, hb4⟩
      have HB4 := Lib.hid (HB3.out.trans (hb4.mono HB3.out.size)); have HX4 := Lib.hid hX; have HP4 := Lib.hid (RowAt.up (k := 1) (R := intR) HP3.out hb4); have HT4 := Lib.hid (HT3.out.up hb4)
      have V1 := Lib.hid ((hb4.block _ (heapsz X1.out)).trans X1.out)
      have HKG := Lib.hid (HI3.out.ok HZ.out.1 G)
      have t0 := cell_of_row w4 (w.heap.size + 1) 0 _ 51 (0, 0) V1.out
      simp at t0
      clear hb4 hX s0 s1 s2 s3 s4 s5
      have hps := possible_X (X := X.up G) HKG.out HX4.out A3 k c3 L HLN.out (by unfold maxLen; omega) HT4.out
      have hpe : possB (X.up G) L = possB X L := rfl
      rw [hpe] at hps
      have HPE := Lib.hid hpe
      obtain ⟨B, hB⟩ : ∃ z, possB X L = z := ⟨_, rfl⟩
      have HBB := Lib.hid hB
      rw [hB] at HF hps
      have HPS := Lib.hid hps
      clear hps hpe hB
      go_wp2_with fail
      refine HPS.out.mono ?_
      rintro e w5 ⟨rfl, hb5⟩
      have HB5 := Lib.hid (HB4.out.trans (hb5.mono HB4.out.size)); have HX5 := Lib.hid (HX4.out.up hb5); have HP5 := Lib.hid (RowAt.up (k := 1) (R := intR) HP4.out hb5); have HT5 := Lib.hid (HT4.out.up hb5)
      have V2 := Lib.hid ((hb5.block _ (heapsz V1.out)).trans V1.out)
      clear hb5 t0 HPS
      cases B with
      | false =>
        obtain rfl : V = 2 := (by rw [HF.out]; rfl)
        clear HF HPV
        go_wp2_with fail
        exact bodyPost_ret (v := .tuple #[.slice none 0 0, .int .i64 2]) (by simp [results, Tryz.results31, go_sem]) rfl ⟨none, 0, 0, rfl, fun e => absurd e (by decide), fun _ => ⟨rfl, rfl, rfl⟩, HB5.out⟩
      | true =>
        obtain rfl : V = 0 := (by rw [HF.out]; rfl)
        clear HF HPV
        obtain ⟨hln, hrw⟩ := poss_at HBB.out
        have hset := setF_in (poss_set (X := X.up G) HKG.out (HPE.out.trans HBB.out))
        have E1 : ∀ args w, (callFunc 80 args).run Tryz.prog w = .ok (.enter 80 args) w := fun args w => rfl
        have HSK := Lib.hid (sink_any (X := X.up G) HKG.out 80 #[] #[.pointer (some ⟨w.heap.size + 1, 0, none⟩)] (setF L) A2 m c2 plan w5 HX5.out HM.out (by rw [HMN.out]; exact Nat.le_refl _) HP5.out HPB.out hset E1
          (fun v hv t i ht hi => settled_any (w.heap.size + 1) A3 k c3 X.np t i L v ((hv.block _ (heapsz V2.out)).trans V2.out) HLN.out (fun row hr => by
            obtain ⟨t, ht⟩ := List.mem_iff_getElem?.1 hr
            exact (hrw t row ht).1) (HT5.out.up hv) (by rw [← HLN.out, hln]; exact ht) hi))
        clear hln hrw hset E1
        go_wp2_with fail
        refine HSK.out.mono ?_
        rintro e w6 ⟨A4, c4, rfl, hl4, hc4, hb6⟩
        have HL4 := Lib.hid hl4.at_
        have HB6 := Lib.hid (HB5.out.trans (hb6.mono HB5.out.size))
        have HEQ : Hid ((List.range m).map (lvL (setF L) plan (X.up G).np) = lvT (setF L) plan X.np) := Lib.hid (by unfold lvT; rw [HM.out]; rfl)
        clear hl4 hb6 HSK
        go_wp2_with fail
        exact bodyPost_ret (v := .tuple #[.slice A4 m c4, .int .i64 0]) (by simp [results, Tryz.results31, go_sem]) rfl ⟨A4, m, c4, rfl, fun _ => ⟨rfl, by rw [← HEQ.out]; exact HL4.out, hc4⟩, fun hne => absurd rfl hne, HB6.out⟩
    · rw [if_neg h0] at HF
      obtain rfl : I = V := HF.out.symm
      clear HF HPV
      go_wp2_with fail
      exact bodyPost_ret (v := .tuple #[.slice none 0 0, .int .i64 I]) (by simp [results, Tryz.results31, go_sem]) rfl ⟨none, 0, 0, rfl, fun e => absurd e h0, fun _ => ⟨rfl, rfl, rfl⟩, HB3.out⟩
end Go.Proofs.YtdlaphlpimlgdaaGreatDoor
