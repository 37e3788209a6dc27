/- Carries and Lost, by the code; Lost, by the specification. -/
import Derived.Test.YtdlaphlpimlgdaaGreatDoorCT
namespace Go.Proofs.YtdlaphlpimlgdaaGreatDoor
open Go.RowKit Go.Shelf

def CarPost (X : Ctx) (w : World) (I : Int) (e : Ending) (w' : World) : Prop :=
  ∃ A3 n3 c3, e = .returned (.tuple #[.slice A3 n3 c3, .int .i64 I]) ∧ (I = 0 → n3 = X.n ∧ SpsAt w' w'.heap.size A3 (zipL X.leastL X.mostL) ∧ X.n ≤ c3) ∧ (I ≠ 0 → A3 = none ∧ n3 = 0 ∧ c3 = 0) ∧ Below w.heap.size w w'
set_option maxRecDepth 100000 in
set_option maxHeartbeats 2000000 in
theorem Carries_any {X : Ctx} {w : World} (h : X.In w) : Calls Tryz.prog 21 #[X.sv, X.tv] w (CarPost X w (thawsI X.sit X.ts)) := by
  obtain ⟨z0, hb0⟩ := site_new X w
  have HI := Lib.hid (h.up hb0); have HB := Lib.hid hb0
  have Z0 := Lib.hid z0
  obtain ⟨s0, s1, s2, s3, s4, s5⟩ := site_box z0
  clear h z0 hb0
  obtain ⟨I, hI⟩ : ∃ z, thawsI X.sit X.ts = z := ⟨_, rfl⟩
  have HPI := Lib.hid hI
  rw [hI]
  clear hI
  go_enter Tryz.func21, Tryz.ntmps21
  go_wp2_with fail
  refine (checkThaws_X HI.out).mono ?_
  rintro e w1 ⟨rfl, hb1⟩
  rw [HPI.out]
  have HB1 := Lib.hid (HB.out.trans (hb1.mono HB.out.size))
  have HI1 := Lib.hid (HI.out.up hb1)
  have z1 := (hb1.block _ (heapsz Z0.out)).trans Z0.out
  clear s0 s1 s2 s3 s4 s5 hb1 HI Z0 HB
  obtain ⟨s0, s1, s2, s3, s4, s5⟩ := site_box z1
  clear z1
  by_cases h0 : I = 0
  · subst h0
    go_wp2_with fail
    refine (look_X HI1.out).mono ?_
    rintro e w2 ⟨G, rfl, hX, hb2⟩
    have HB2 := Lib.hid (HB1.out.trans (hb2.mono HB1.out.size))
    have HX := Lib.hid hX
    clear hX hb2 s0 s1 s2 s3 s4 s5
    go_wp2_with fail
    refine (carried_any (X := X.up G) (HI1.out.ok HPI.out G) w2 HX.out).mono ?_
    rintro e w3 ⟨A3, c3, rfl, h1, h2, h3⟩
    have HE := Lib.hid h1; have HC3 := Lib.hid h2
    have HB3 := Lib.hid (HB2.out.trans (h3.mono HB2.out.size))
    clear h1 h2 h3
    go_wp2_with fail
    exact bodyPost_ret (v := .tuple #[.slice A3 X.n c3, .int .i64 0]) (by simp [results, Tryz.results21, go_sem]; rfl) rfl ⟨A3, X.n, c3, rfl, fun _ => ⟨rfl, HE.out, HC3.out⟩, fun hne => absurd rfl hne, HB3.out⟩
  · go_wp2_with fail
    exact bodyPost_ret (v := .tuple #[.slice none 0 0, .int .i64 I]) (by simp [results, Tryz.results21, go_sem]) rfl ⟨none, 0, 0, rfl, fun e => absurd e h0, fun _ => ⟨rfl, rfl, rfl⟩, HB1.out⟩
/-- The first of so many years for which something holds, -1 if there is none. -/
def fyI (f : Nat → Bool) (n : Nat) : Int := match (List.range n).find? f with | some t => (t : Int) | none => -1
theorem fyI_some {f : Nat → Bool} {n t : Nat} (ht : t < n) (h : f t = true) (ha : ∀ j, j < t → f j = false) : fyI f n = (t : Int) := by
  have : (List.range n).find? f = some t := List.find?_range_eq_some.2 ⟨h, List.mem_range.2 ht, fun j hj => by rw [ha j hj]; rfl⟩
  unfold fyI
  rw [this]
theorem fyI_none {f : Nat → Bool} {n : Nat} (ha : ∀ j, j < n → f j = false) : fyI f n = -1 := by
  have : (List.range n).find? f = none := List.find?_range_eq_none.2 fun j hj => by rw [ha j hj]; rfl
  unfold fyI
  rw [this]
theorem fyI_eq {f g : Nat → Bool} {n : Nat} (h : ∀ j, j < n → f j = g j) : fyI f n = fyI g n := by
  cases hf : (List.range n).find? f with
  | none =>
    have h1 := List.find?_range_eq_none.1 hf
    simp only [Bool.not_eq_true'] at h1
    rw [fyI_none h1, fyI_none fun j hj => by rw [← h j hj]; exact h1 j hj]
  | some t =>
    obtain ⟨h1, h2, h3⟩ := List.find?_range_eq_some.1 hf
    have h4 := List.mem_range.1 h2
    simp only [Bool.not_eq_true'] at h3
    rw [fyI_some h4 h1 h3, fyI_some h4 (by rw [← h t h4]; exact h1) fun j hj => by rw [← h j (by omega)]; exact h3 j hj]
theorem fyI_b (f : Nat → Bool) (n : Nat) : -1 ≤ fyI f n ∧ fyI f n < n := by
  unfold fyI
  split
  · rename_i t h
    have := List.mem_range.1 (List.mem_of_find?_eq_some h)
    omega
  · omega
set_option maxRecDepth 100000 in
set_option maxHeartbeats 2000000 in
theorem firstYear_any {X : Ctx} (n10 : X.n ≤ 10) (fid : Nat) (fs cs : Array Value) (i : Int) (f : Nat → Bool) (w : World) (hX : X.At w)
    (hE : ∀ args w, (callFunc fid args).run Tryz.prog w = .ok (.enter fid args) w)
    (hC : ∀ u, Below w.heap.size w u → ∀ t : Nat, t < X.n → Calls Tryz.prog fid (fs ++ (#[.int .i64 (t : Int), .int .i64 i] ++ cs)) u fun e w' => e = .returned (.bool (f t)) ∧ Below u.heap.size u w') :
    Calls Tryz.prog 71 #[.pointer (some ⟨X.G, 0, none⟩), .int .i64 i, .func (.func fid) fs cs] w fun e w' => e = .returned (.int .i64 (fyI f X.n)) ∧ Below w.heap.size w w' := by
  obtain ⟨_, _, _, _, _, _, g6⟩ := look_cells hX.g
  have HC := Lib.hid hC
  clear hC hX
  go_enter Tryz.func71, Tryz.ntmps71
  go_wp2_with fail
  clear g6
  go_loopw [13] (fun k wr => ∃ t : Nat, t ≤ X.n ∧ k = .int .i64 t ∧ (∀ j, j < t → f j = false) ∧ Below w.heap.size w wr) (fun k _ => X.n - (intOf k).toNat)
  case atStart => exact ⟨0, Nat.zero_le _, rfl, fun j hj => absurd hj (Nat.not_lt_zero _), Below.refl _ _⟩
  case round =>
    obtain ⟨t, ht, rfl, hall, hbr⟩ := hrel
    have HBR := Lib.hid hbr; have HALL := Lib.hid hall
    clear hall
    by_cases hlt : t < X.n
    · have ht1 : (t : Int) < (X.n : Int) := by omega
      have hcall := HC.out wr hbr t hlt
      obtain ⟨F, hF⟩ : ∃ z, f t = z := ⟨_, rfl⟩
      rw [hF] at hcall
      have HCALL := Lib.hid hcall; have HF := Lib.hid hF
      clear hbr hcall hF
      go_wp2_with fail
      refine Calls.mono (by simpa using HCALL.out) ?_
      rintro e w1 ⟨rfl, hb1⟩
      have HB1 := Lib.hid (HBR.out.trans (hb1.mono HBR.out.size))
      clear hb1 HCALL
      cases F with
      | true =>
        have HR := Lib.hid (fyI_some hlt HF.out HALL.out)
        go_wp2_with fail
        try rw [Exit.noGoto_ret]
        exact bodyPost_ret (v := .int .i64 (t : Int)) (by simp [results, Tryz.results71, go_sem]) rfl ⟨by rw [HR.out], HB1.out⟩
      | false =>
        go_wp2_with fail
        refine ⟨⟨t + 1, by omega, by go_num, fun j hj => ?_, HB1.out⟩, by simp [intOf]; omega⟩
        by_cases h : j < t
        · exact HALL.out j h
        · obtain rfl : j = t := by omega
          exact HF.out
    · have hte : t = X.n := by omega
      have ht1 : ¬ (t : Int) < (X.n : Int) := by omega
      have HR : Hid (fyI f X.n = -1) := Lib.hid (fyI_none fun j hj => HALL.out j (by omega))
      clear hbr hte
      go_wp2_with fail
      try rw [Exit.noGoto_ret]
      exact bodyPost_ret (v := .int .i64 (-1)) (by simp [results, Tryz.results71, go_sem]) rfl ⟨by rw [HR.out], HBR.out⟩
def mxG (g : Nat → Int) (np k : Nat) : List Int := (List.range np).map fun i => if i < k then g i else 0
theorem mxG_0 (g : Nat → Int) (np : Nat) : iV (mxG g np 0) = madeCells #[Value.int .i64 0] np := by
  apply Array.ext_getElem?
  intro i
  unfold iV mxG madeCells
  by_cases h : i < np
  · simp [h, Nat.mod_one]
  · simp [h]
theorem mxG_np (g : Nat → Int) (np : Nat) : mxG g np np = (List.range np).map g := by
  unfold mxG
  refine List.map_congr_left fun i hi => ?_
  rw [if_pos (List.mem_range.1 hi)]
theorem mxG_at {g : Nat → Int} {np k : Nat} (h : k < np) : (mxG g np k)[k]? = some 0 := by
  unfold mxG
  rw [List.getElem?_map, List.getElem?_range h]
  simp
theorem mxG_set (g : Nat → Int) (np k : Nat) : (mxG g np k).set k (g k) = mxG g np (k + 1) := by
  apply List.ext_getElem?
  intro i
  rw [List.getElem?_set]
  unfold mxG
  simp only [List.getElem?_map, List.length_map, List.length_range]
  by_cases hik : k = i
  · subst hik
    by_cases hk : k < np
    · simp [hk]
    · simp [hk]
  · by_cases hi : i < np
    · simp only [if_neg hik, List.getElem?_range hi, Option.map_some]
      by_cases h : i < k
      · rw [if_pos h, if_pos (by omega)]
      · rw [if_neg h, if_neg (by omega)]
    · simp [hik, hi]
theorem iV_row (xs : List Int) : iV xs = ((xs.map intR).flatten).toArray := by
  unfold iV
  rw [← flatR_ints]
  rfl
def Ctx.lostI (X : Ctx) (i : Nat) : Int := fyI (fun t => losF X.ps X.ts X.may t i) X.n
def Ctx.lostL (X : Ctx) : List Int := (List.range X.np).map X.lostI
def LosPost (X : Ctx) (w : World) (I : Int) (e : Ending) (w' : World) : Prop :=
  ∃ A3 n3 c3, e = .returned (.tuple #[.slice A3 n3 c3, .int .i64 I]) ∧ (I = 0 → n3 = X.np ∧ IntsAt w' w'.heap.size A3 X.lostL) ∧ (I ≠ 0 → A3 = none ∧ n3 = 0 ∧ c3 = 0) ∧ Below w.heap.size w w'
set_option maxRecDepth 100000 in
set_option maxHeartbeats 4000000 in
theorem Lost_any {X : Ctx} {w : World} (h : X.In w) : Calls Tryz.prog 22 #[X.sv, X.tv] w (LosPost X w (thawsI X.sit X.ts)) := by
  obtain ⟨z0, hb0⟩ := site_new X w
  have HI := Lib.hid (h.up hb0); have HB := Lib.hid hb0
  have Z0 := Lib.hid z0
  obtain ⟨s0, s1, s2, s3, s4, s5⟩ := site_box z0
  have K0 : thawsI X.sit X.ts = 0 → X.Ok := fun h0 => ⟨h.hp, h.hq, h.hr, h.hl, h0⟩
  clear h z0 hb0
  obtain ⟨I, hI⟩ : ∃ z, thawsI X.sit X.ts = z := ⟨_, rfl⟩
  have HPI := Lib.hid hI
  rw [hI] at K0 ⊢
  clear hI
  go_enter Tryz.func22, Tryz.ntmps22
  go_wp2_with fail
  refine (checkThaws_X HI.out).mono ?_
  rintro e w1 ⟨rfl, hb1⟩
  rw [HPI.out]
  have HB1 := Lib.hid (HB.out.trans (hb1.mono HB.out.size))
  have HI1 := Lib.hid (HI.out.up hb1)
  have Z1 := Lib.hid ((hb1.block _ (heapsz Z0.out)).trans Z0.out)
  clear s0 s1 s2 s3 s4 s5 hb1 HI Z0 HB
  obtain ⟨s0, s1, s2, s3, s4, s5⟩ := site_box Z1.out
  by_cases h0 : I = 0
  · subst h0
    have HK := Lib.hid (K0 rfl)
    have np6 := HK.out.np6; have n10 := HK.out.n10
    clear K0
    go_wp2_with fail
    refine (look_X HI1.out).mono ?_
    rintro e w2 ⟨G, rfl, hX, hb2⟩
    have HB2 := Lib.hid (HB1.out.trans (hb2.mono HB1.out.size))
    have HX := Lib.hid hX; have HKG := Lib.hid (HI1.out.ok HPI.out G)
    have Z2 := Lib.hid ((hb2.block _ (heapsz Z1.out)).trans Z1.out)
    clear hX hb2 s0 s1 s2 s3 s4 s5
    obtain ⟨s0, s1, s2, s3, s4, s5⟩ := site_box Z2.out
    obtain ⟨i0, hi0, hz0, hz1, hz2⟩ := info_parts int_info
    have hmk := fun W : World => run_make (P := Tryz.prog) 34 3 i0 _ Tryz.underlying34 hi0 hz0 .i64 .i64 (X.np : Int) (X.np : Int) (by omega) (by omega) (by rw [hz2]; omega) (by omega) (w := W)
    simp only [Int.toNat_natCast, hz1, Nat.mul_one] at hmk
    go_wp2_with fail
    have hbz := (Below.refl w2.heap.size w2).alloc (Nat.le_refl _) (.cells (madeCells #[Value.int .i64 0] X.np) 3)
    have zz := heap_alloc_new w2 (.cells (madeCells #[Value.int .i64 0] X.np) 3)
    rw [← mxG_0 X.lostI] at zz hbz
    have HBZ := Lib.hid hbz; have ZZ := Lib.hid zz
    rw [← mxG_0 X.lostI]
    clear hbz zz hmk s0 s1 s2 s3 s4 s5
    generalize w2.alloc (.cells (iV (mxG X.lostI X.np 0)) 3) = w3 at HBZ ZZ ⊢
    go_loopw [25] (fun i wr => ∃ k : Nat, k ≤ X.np ∧ i = .int .i64 k ∧ wr.heap[w2.heap.size]? = some (.cells (iV (mxG X.lostI X.np k)) 3 (0, 0)) ∧ Below w2.heap.size w2 wr) (fun i _ => X.np - (intOf i).toNat)
    case atStart => exact ⟨0, Nat.zero_le _, rfl, ZZ.out, HBZ.out⟩
    case round =>
      obtain ⟨k, hk, rfl, zb, hbr⟩ := hrel
      have HBR := Lib.hid hbr; have ZB := Lib.hid zb
      clear hbr zb
      by_cases hkt : k < X.np
      · have hk0 : (0 : Int) ≤ (k : Int) := by omega
        have hk1 : (k : Int) < (X.np : Int) := by omega
        have E1 := enters_of Tryz.func72 (by kernel_rfl) rfl
        have hcall := firstYear_any (X := X.up G) n10 72 #[.pointer (some ⟨G, 0, none⟩)] #[] (k : Int) (fun t => losF X.ps X.ts X.may t k) wr (HX.out.up HBR.out) E1 (fun u hu t ht => loses_X HKG.out ((HX.out.up HBR.out).up hu) ht hkt)
        have hl : fyI (fun t => losF X.ps X.ts X.may t k) (X.up G).n = X.lostI k := rfl
        rw [hl] at hcall
        have HV := Lib.hid (mxG_set X.lostI X.np k)
        obtain ⟨V, hV⟩ : ∃ z, X.lostI k = z := ⟨_, rfl⟩
        rw [hV] at hcall HV
        have HCALL := Lib.hid hcall
        clear hcall hl hV E1
        go_wp2_with fail
        refine HCALL.out.mono ?_
        rintro e w4 ⟨rfl, hb4⟩
        have HB4 := Lib.hid (HBR.out.trans (hb4.mono HBR.out.size))
        have zb := (hb4.block _ (heapsz ZB.out)).trans ZB.out
        have fz : w4.frozen? ⟨w2.heap.size, k, none⟩ = false := by simp [World.frozen?, zb]
        have cz := cell_of_row w4 w2.heap.size k _ 3 (0, 0) zb
        rw [iV_get (mxG_at hkt)] at cz
        have HN : Hid ((w4.setCell ⟨w2.heap.size, k, none⟩ (.int .i64 V)).heap[w2.heap.size]? = some (.cells (iV (mxG X.lostI X.np (k + 1))) 3 (0, 0))) := Lib.hid (by rw [blk_set zb, iV_set, HV.out])
        have HBN := Lib.hid (HB4.out.setCell (p := ⟨w2.heap.size, k, none⟩) (Nat.le_refl _) (.int .i64 V))
        clear hb4 zb HCALL
        go_wp2_with fail
        exact ⟨⟨k + 1, by omega, by go_num, HN.out, HBN.out⟩, by simp [intOf]; omega⟩
      · have hke : k = X.np := by omega
        have hk1 : ¬ (k : Int) < (X.np : Int) := by omega
        subst hke
        have HR : Hid (IntsAt wr wr.heap.size (some ⟨w2.heap.size, 0, none⟩) X.lostL) := Lib.hid (rowAt_block (k := 1) (R := intR) (xs := X.lostL) (fun _ => rfl) (T := 3) (by rw [ZB.out, mxG_np, iV_row]; rfl) (heapsz ZB.out))
        have HBF := Lib.hid (HB2.out.trans (HBR.out.mono HB2.out.size))
        go_wp2_with fail
        exact bodyPost_ret (v := .tuple #[.slice (some ⟨w2.heap.size, 0, none⟩) X.np X.np, .int .i64 0]) (by simp [results, Tryz.results22, go_sem]) rfl ⟨_, X.np, X.np, rfl, fun _ => ⟨rfl, HR.out⟩, fun hne => absurd rfl hne, HBF.out⟩
  · clear K0
    go_wp2_with fail
    exact bodyPost_ret (v := .tuple #[.slice none 0 0, .int .i64 I]) (by simp [results, Tryz.results22, go_sem]) rfl ⟨none, 0, 0, rfl, fun e => absurd e h0, fun _ => ⟨rfl, rfl, rfl⟩, HB1.out⟩
theorem lose_eq (X : Ctx) (t i : Nat) : loseI X.may (X.pile i) (X.th t i).2 = losF X.ps X.ts X.may t i := by
  unfold loseI losF
  rw [show 1000 * carI (X.pile i) (X.th t i).2 = carI (X.pile i) (X.th t i).2 * 1000 from Int.mul_comm _ _]
  rfl
set_option maxRecDepth 100000 in
set_option maxHeartbeats 4000000 in
theorem refLost_any {X : Ctx} {w : World} (h : X.In w) (K : X.Ok) (i : Nat) (hi : i < X.np) :
    Calls Tryz.prog 25 #[X.sv, X.tv, .int .i64 (i : Int)] w fun e w' => e = .returned (.int .i64 (X.lostI i)) ∧ Below w.heap.size w w' := by
  obtain ⟨z0, hb0⟩ := site_new X w
  have HK := Lib.hid K
  have np6 := K.np6; have n10 := K.n10
  obtain ⟨w1, hw1⟩ : ∃ z, w.alloc (.cells X.cells 26) = z := ⟨_, rfl⟩
  rw [hw1] at z0 hb0
  have HI := Lib.hid (h.up hb0); have HB := Lib.hid hb0
  have Z0 := Lib.hid z0
  have htv : X.tv = .slice X.A X.n X.c := rfl
  obtain ⟨AA, hAA⟩ : ∃ z, X.A = z := ⟨_, rfl⟩
  have HAA := Lib.hid hAA
  rw [htv, hAA]
  clear K h z0 hb0 hAA htv
  have hi0 : (0 : Int) ≤ (i : Int) := by omega
  have hi1 : (i : Int) < (X.np : Int) := by omega
  go_enter Tryz.func25, Tryz.ntmps25
  go_wp2_with fail
  go_loopw [7] (fun v wr => ∃ t : Nat, t ≤ X.n ∧ v = .int .i64 t ∧ (∀ j, j < t → losF X.ps X.ts X.may j i = false) ∧ Below w1.heap.size w1 wr) (fun v _ => X.n - (intOf v).toNat)
  case atStart => exact ⟨0, Nat.zero_le _, rfl, fun j hj => absurd hj (Nat.not_lt_zero _), Below.refl _ _⟩
  case round =>
    obtain ⟨t, ht, rfl, hall, hbr⟩ := hrel
    have HBR := Lib.hid hbr; have HALL := Lib.hid hall
    clear hall hbr
    by_cases hlt : t < X.n
    · have ht0 : (0 : Int) ≤ (t : Int) := by omega
      have ht1 : (t : Int) < (X.n : Int) := by omega
      obtain ⟨bp, op, eAP, hbp, y0, y1, y2, y3, y4, y5, y6⟩ := HI.out.cells_p HK.out hi
      obtain ⟨bt, ot, b2, o2, c2, eA, hbt, hb2, t0, t1, t2⟩ := HI.out.cells_t HK.out hlt hi
      obtain rfl : AA = some ⟨bt, ot, none⟩ := HAA.out.symm.trans eA
      have hpB := (HK.out.at_pile hi).2
      have hyB : 0 ≤ (X.th t i).1 ∧ (X.th t i).1 ≤ (X.th t i).2 ∧ (X.th t i).2 ≤ 50000 := by
        obtain ⟨_, _, _, _, h5⟩ := HK.out.at_th hlt hi
        exact withinB_iff.1 h5
      have hku := fun u : KeptW wr => (bcell (HBR.out.trans (u.h.mono HBR.out.size))).1
      have ss := fun u : KeptW wr => site_box (((HBR.out.trans (u.h.mono HBR.out.size)).block _ (heapsz Z0.out)).trans Z0.out)
      have S0 := fun u => (ss u).1; have S1 := fun u => (ss u).2.1; have S2 := fun u => (ss u).2.2.1; have S3 := fun u => (ss u).2.2.2.1; have S4 := fun u => (ss u).2.2.2.2.1; have S5 := fun u => (ss u).2.2.2.2.2
      have Y0 := fun u => (hku u _ _ hbp).trans y0; have Y1 := fun u => (hku u _ _ hbp).trans y1; have Y2 := fun u => (hku u _ _ hbp).trans y2; have Y3 := fun u => (hku u _ _ hbp).trans y3; have Y4 := fun u => (hku u _ _ hbp).trans y4; have Y5 := fun u => (hku u _ _ hbp).trans y5; have Y6 := fun u => (hku u _ _ hbp).trans y6
      have T0 := fun u => (hku u _ _ hbt).trans t0; have T1 := fun u => (hku u _ _ hb2).trans t1; have T2 := fun u => (hku u _ _ hb2).trans t2
      obtain ⟨F, hF⟩ : ∃ z, losF X.ps X.ts X.may t i = z := ⟨_, rfl⟩
      have HC := Lib.hid fun u : KeptW wr => Calls.in_kept u (by
        have h1 := refLoses_any X.AP X.AQ X.AR X.np X.cp X.nq X.cq X.nr X.cr X.may X.sink X.tilt (X.pile i) (X.th t i).2 u.w hpB (by omega) HK.out.parts.may
        rw [lose_eq, hF, eAP] at h1
        exact h1)
      simp only [eAP] at S0
      have HF := Lib.hid hF
      obtain ⟨P, hP⟩ : ∃ z, X.pile i = z := ⟨_, rfl⟩
      obtain ⟨Yy, hY⟩ : ∃ z, X.th t i = z := ⟨_, rfl⟩
      simp only [hP, hY] at HC Y0 Y1 Y2 Y3 Y4 Y5 Y6 T1 T2
      unfold pilV at HC
      clear y0 y1 y2 y3 y4 y5 y6 t0 t1 t2 hbp hbt hb2 hpB hyB hku ss eAP eA hF hP hY
      go_wp2_with fail
      refine rk_region (by kernel_rfl) (by kernel_rfl) ?_
      repeat (go_big_quiet_step (first | (with_reducible exact HC.out _) | fail))
      refine wpQuiet_nil ?_
      rintro _ ⟨u, rfl⟩
      have HBU := Lib.hid (HB.out.trans ((HBR.out.trans (u.h.mono HBR.out.size)).mono HB.out.size))
      have HBV := Lib.hid (HBR.out.trans (u.h.mono HBR.out.size))
      clear S0 S1 S2 S3 S4 S5 Y0 Y1 Y2 Y3 Y4 Y5 Y6 T0 T1 T2 HC
      cases F with
      | true =>
        have HR : Hid (X.lostI i = (t : Int)) := Lib.hid (fyI_some hlt HF.out HALL.out)
        go_wp2_with fail
        go_ret
        exact ⟨by rw [HR.out]; rfl, HBU.out⟩
      | false =>
        go_wp2_with fail
        go_roundw
        case rel =>
          refine ⟨t + 1, by omega, by go_num, fun j hj => ?_, HBV.out⟩
          by_cases h : j < t
          · exact HALL.out j h
          · obtain rfl : j = t := by omega
            exact HF.out
        case measure => simp [intOf]; omega
    · have hte : t = X.n := by omega
      have hk1 : ¬ (t : Int) < (X.n : Int) := by omega
      have HR : Hid (X.lostI i = -1) := Lib.hid (fyI_none fun j hj => HALL.out j (by omega))
      go_wp2_with fail
      go_ret
      exact ⟨by rw [HR.out]; rfl, HB.out.trans (HBR.out.mono HB.out.size)⟩
end Go.Proofs.YtdlaphlpimlgdaaGreatDoor
