/- What is true by percentages lies within what is told. -/
import Derived.Test.YtdlaphlpimlgdaaGreatDoorCX
namespace Go.Proofs.YtdlaphlpimlgdaaGreatDoor
open Go.RowKit Go.Shelf

theorem tru_in {X : Ctx} (K : X.Ok) {xs : List Int} (hp : perB xs = true) {t i : Nat} (ht : t < X.n) (hi : i < X.np) :
    (0 ≤ (X.th t i).1 ∧ (X.th t i).1 ≤ X.trA xs t i ∧ X.trA xs t i ≤ (X.th t i).2 ∧ (X.th t i).2 ≤ 50000) ∧ (1 ≤ (X.pile i).l ∧ (X.pile i).l ≤ X.trB xs t i ∧ X.trB xs t i ≤ (X.pile i).h ∧ (X.pile i).h ≤ 100000) ∧ (X.trR xs t i).lo ≤ X.trC xs t i ∧ X.trC xs t i ≤ (X.trR xs t i).hi := by
  have hyB : 0 ≤ (X.th t i).1 ∧ (X.th t i).1 ≤ (X.th t i).2 ∧ (X.th t i).2 ≤ 50000 := by
    obtain ⟨_, _, _, _, h5⟩ := K.at_th ht hi
    exact withinB_iff.1 h5
  have hpl := (pilB_iff.1 (K.at_pile hi).2).2.2.2.1
  obtain ⟨a1, a2, _⟩ := per_get hp (3 * (t * X.np + i))
  obtain ⟨b1, b2, _⟩ := per_get hp (3 * (t * X.np + i) + 1)
  obtain ⟨d1, d2, _⟩ := per_get hp (3 * (t * X.np + i) + 2)
  have pA := prt_in (y := ((X.th t i).1, (X.th t i).2)) ⟨hyB.1, hyB.2.1⟩ ⟨a1, a2⟩
  have pB := prt_in (y := ((X.pile i).l, (X.pile i).h)) (by show 0 ≤ (X.pile i).l ∧ (X.pile i).l ≤ (X.pile i).h; omega) ⟨b1, b2⟩
  have rI : 0 ≤ (X.trR xs t i).lo ∧ (X.trR xs t i).lo ≤ (X.trR xs t i).hi ∧ (X.trR xs t i).hi ≤ 1000 := rowI_in K.parts.rs (by rw [K.hr]; exact K.parts.nr6.1) (carI (X.pile i) (X.trA xs t i)) (X.trB xs t i)
  have pC := prt_in (y := ((X.trR xs t i).lo, (X.trR xs t i).hi)) ⟨rI.1, rI.2.1⟩ ⟨d1, d2⟩
  exact ⟨⟨hyB.1, pA.1, pA.2, hyB.2.2⟩, ⟨hpl.1, pB.1, pB.2, hpl.2.2⟩, pC.1, pC.2⟩
theorem tru_len (X : Ctx) (xs : List Int) : (X.truL xs).length = X.n := by unfold Ctx.truL gridL; simp
theorem tru_poss {X : Ctx} (K : X.Ok) {xs : List Int} (hp : perB xs = true) : possB X (X.truL xs) = true := by
  unfold possB
  rw [decide_eq_true (tru_len X xs), Bool.true_and]
  refine rng_yes fun t ht => ?_
  have h1 : (X.truL xs).getD t [] = (List.range X.np).map (X.trT xs t) := by
    rw [List.getD_eq_getElem?_getD]
    unfold Ctx.truL
    rw [gridL_at _ ht]
    rfl
  rw [h1]
  unfold truRowB
  rw [decide_eq_true (by simp), Bool.true_and]
  refine rng_yes fun i hi => ?_
  rw [List.getD_eq_getElem?_getD, rowL_at _ hi, Option.getD_some]
  obtain ⟨h1, h2, h3⟩ := tru_in K hp ht hi
  have hR : (rowI X.rs (carI (X.pile i) (X.trT xs t i).t) (X.trT xs t i).l).1 = X.trR xs t i := rfl
  unfold truB
  rw [hR]
  simp only [Bool.and_eq_true, inB_iff]
  exact ⟨⟨h1.2.1, h1.2.2.1⟩, ⟨h2.2.1, h2.2.2.1⟩, h3.1, h3.2⟩
theorem tru_carry {X : Ctx} (K : X.Ok) {xs : List Int} (hp : perB xs = true) {t i : Nat} (ht : t < X.n) (hi : i < X.np) :
    X.leastC t i ≤ carI (X.pile i) (X.trA xs t i) ∧ carI (X.pile i) (X.trA xs t i) ≤ X.mostC t i := by
  obtain ⟨h1, _⟩ := tru_in K hp ht hi
  have hB := (K.at_pile hi).2
  exact ⟨car_mono hB h1.2.2.1, car_mono hB h1.2.1⟩
theorem tru_rows {X : Ctx} (K : X.Ok) {xs : List Int} (hp : perB xs = true) {t i : Nat} (ht : t < X.n) (hi : i < X.np) :
    X.least t i ≤ X.trC xs t i ∧ X.trC xs t i ≤ X.most t i ∧ ((rowI X.rs (carI (X.pile i) (X.trA xs t i)) (X.trB xs t i)).2 = true → faiF X.ps X.rs X.ts t i = true) := by
  obtain ⟨h1, h2, h3⟩ := tru_in K hp ht hi
  have hB := (K.at_pile hi).2
  obtain ⟨g1, g2⟩ := tru_carry K hp ht hi
  have hl : 1 ≤ X.rs.length := by rw [K.hr]; exact K.parts.nr6.1
  have c1 := carI_b hB (t := (X.th t i).2) (by omega)
  have c2 := carI_b hB (t := X.trA xs t i) (by omega)
  have e1 : X.leastC t i = carI (X.pile i) (X.th t i).2 := rfl
  have e2 : X.mostC t i = carI (X.pile i) (X.th t i).1 := rfl
  rw [e1] at g1
  rw [e2] at g2
  have r1 := row_le K.parts.rs hl (C1 := carI (X.pile i) (X.trA xs t i)) (C2 := carI (X.pile i) (X.th t i).1) (l1 := X.trB xs t i) (l2 := (X.pile i).l) c2.1 g2 (by omega) h2.2.1
  have r2 := row_le K.parts.rs hl (C1 := carI (X.pile i) (X.th t i).2) (C2 := carI (X.pile i) (X.trA xs t i)) (l1 := (X.pile i).h) (l2 := X.trB xs t i) c1.1 g1 (by omega) h2.2.2.1
  exact ⟨Int.le_trans r1.1 h3.1, Int.le_trans h3.2 r2.2.1, fun h => r2.2.2 h⟩
theorem setF_tru (X : Ctx) (xs : List Int) {t i : Nat} (ht : t < X.n) (hi : i < X.np) : setF (X.truL xs) t i = X.trC xs t i := by
  unfold setF Ctx.truL
  simp only [List.getD_eq_getElem?_getD]
  rw [gridL_at _ ht, Option.getD_some, rowL_at _ hi, Option.getD_some]
  rfl
theorem tru_lv {X : Ctx} (K : X.Ok) {xs : List Int} (hp : perB xs = true) (plan : List Int) {t i : Nat} (ht : t < X.n) (hi : i < X.np) :
    lvI X.most plan t i ≤ lvI (setF (X.truL xs)) plan t i ∧ lvI (setF (X.truL xs)) plan t i ≤ lvI X.least plan t i := by
  refine ⟨lv_le plan fun t' h' => ?_, lv_le plan fun t' h' => ?_⟩
  · rw [setF_tru X xs (by omega) hi]
    exact (tru_rows K hp (show t' < X.n by omega) hi).2.1
  · rw [setF_tru X xs (by omega) hi]
    exact (tru_rows K hp (show t' < X.n by omega) hi).1
theorem tru_lose {X : Ctx} (K : X.Ok) {xs : List Int} (hp : perB xs = true) {t i : Nat} (ht : t < X.n) (hi : i < X.np) (h : losF X.ps X.ts X.may t i = false) : loseI X.may (X.pile i) (X.trA xs t i) = false := by
  obtain ⟨g1, _⟩ := tru_carry K hp ht hi
  rw [← lose_eq] at h
  unfold loseI at h ⊢
  have e1 : X.leastC t i = carI (X.pile i) (X.th t i).2 := rfl
  rw [e1] at g1
  rw [decide_eq_false_iff_not] at h ⊢
  omega
theorem fau_clear {X : Ctx} {LL : List (List Sp)} (h : fauF X LL = none) {t r o : Nat} (ht : t < X.n) (hr : r = 2 ∨ r = 3 ∨ r = 4 ∨ r = 5) (ho : o < manyF X.np X.nq r) : wroF X t (LL.getD t []) r o = false := by
  unfold fauF at h
  have h1 := List.findSome?_eq_none_iff.1 h t (List.mem_range.2 ht)
  rw [Option.map_eq_none_iff] at h1
  unfold ruleF at h1
  have h2 := List.findSome?_eq_none_iff.1 h1 r (by rcases hr with rfl | rfl | rfl | rfl <;> simp)
  rw [Option.map_eq_none_iff] at h2
  unfold ofF at h2
  have h3 := List.find?_eq_none.1 h2 o (List.mem_range.2 ho)
  simpa using h3
theorem fau_fine {X : Ctx} {LL : List (List Sp)} (h : (fauI (fauF X LL)).2.1 = 1) : fauF X LL = none := by
  cases hf : fauF X LL with
  | none => rfl
  | some p =>
    obtain ⟨t, r, o⟩ := p
    rw [hf] at h
    unfold fauI at h
    simp only at h
    unfold fauF at hf
    obtain ⟨t', _, h2⟩ := List.exists_of_findSome?_eq_some hf
    obtain ⟨q, h3, h4⟩ := Option.map_eq_some_iff.1 h2
    unfold ruleF at h3
    obtain ⟨r', h5, h6⟩ := List.exists_of_findSome?_eq_some h3
    obtain ⟨o', _, h8⟩ := Option.map_eq_some_iff.1 h6
    simp only [List.mem_cons, List.not_mem_nil, or_false] at h5
    have e1 : q.1 = r := (Prod.mk.inj (Prod.mk.inj h4).2).1
    have e2 : r' = q.1 := (congrArg Prod.fst h8)
    omega
theorem span_at {X : Ctx} (K : X.Ok) (plan : List Int) (hpl : plan.length = X.n) {t : Nat} (ht : t < X.n) : (spanL X.ps X.rs X.ts plan).getD t [] = (lvL X.most plan X.np t).zip (lvL X.least plan X.np t) := by
  unfold spanL zipL lvT
  rw [List.getD_eq_getElem?_getD, List.getElem?_zipWith, List.getElem?_map, List.getElem?_map, List.getElem?_range (by omega), K.hp]
  rfl
theorem zip_at (f g : Nat → Int) {np i : Nat} (h : i < np) : (((List.range np).map f).zip ((List.range np).map g)).getD i (0, 0) = (f i, g i) := by
  rw [List.getD_eq_getElem?_getD, List.zip_eq_zipWith, List.getElem?_zipWith, rowL_at _ h, rowL_at _ h]
  rfl
theorem tru_fine {X : Ctx} (K : X.Ok) {xs : List Int} (hp : perB xs = true) (plan : List Int) (hpl : plan.length = X.n) {t : Nat} (ht : t < X.n) (hf : fauF X (spanL X.ps X.rs X.ts plan) = none) :
    PairsOk X (lvL (setF (X.truL xs)) plan X.np t) ∧ (∀ (i : Nat) (x : Tru) (l : Int), ((List.range X.np).map (X.trT xs t))[i]? = some x → (lvL (setF (X.truL xs)) plan X.np t)[i]? = some l → (0 ≤ x.t ∧ x.t ≤ 50000) ∧ (0 ≤ x.l ∧ x.l ≤ 100000) ∧ loseI X.may (X.pile i) x.t = false ∧ (rowI X.rs (carI (X.pile i) x.t) x.l).2 = false ∧ ¬ l < -X.sink) := by
  have hsp := span_at K plan hpl ht
  constructor
  · intro k a b x y hq hx hy
    obtain ⟨h1, h2, _⟩ := K.parts.qs k _ hq
    have ha : a < X.np := by simpa using h1.2
    have hb : b < X.np := by simpa using h2.2
    have hk : k < X.nq := by rw [← K.hq]; exact (List.getElem?_eq_some_iff.1 hq).1
    have hw := fau_clear hf ht (r := 5) (o := k) (by simp) (by unfold manyF; rw [if_pos rfl]; exact hk)
    rw [hsp] at hw
    unfold wroF at hw
    rw [if_neg (by decide), if_neg (by decide), if_neg (by decide), List.getD_eq_getElem?_getD (l := X.qs), hq, Option.getD_some] at hw
    simp only [Int.toNat_natCast] at hw
    unfold lvL at hw
    rw [zip_at _ _ ha, zip_at _ _ hb] at hw
    unfold tilB at hw
    rw [decide_eq_false_iff_not] at hw
    unfold lvL at hx hy
    rw [rowL_at _ ha] at hx
    rw [rowL_at _ hb] at hy
    have ex := Option.some.inj hx
    have ey := Option.some.inj hy
    have ta := tru_lv K hp plan ht ha
    have tb := tru_lv K hp plan ht hb
    simp only at hw
    omega
  · intro i x l hx hl
    have hi : i < X.np := by
      have := (List.getElem?_eq_some_iff.1 hx).1
      simpa using this
    unfold lvL at hl
    rw [rowL_at _ hi] at hx hl
    have ex := (Option.some.inj hx).symm
    have el := Option.some.inj hl
    subst ex
    obtain ⟨h1, h2, _⟩ := tru_in K hp ht hi
    have tl := tru_lv K hp plan ht hi
    have w2 := fau_clear hf ht (r := 2) (o := i) (by simp) (by unfold manyF; rw [if_neg (by decide)]; exact hi)
    have w3 := fau_clear hf ht (r := 3) (o := i) (by simp) (by unfold manyF; rw [if_neg (by decide)]; exact hi)
    have w4 := fau_clear hf ht (r := 4) (o := i) (by simp) (by unfold manyF; rw [if_neg (by decide)]; exact hi)
    rw [hsp] at w4
    have v2 : losF X.ps X.ts X.may t i = false := w2
    have v3 : faiF X.ps X.rs X.ts t i = false := w3
    have v4 : sinB X.sink (((lvL X.most plan X.np t).zip (lvL X.least plan X.np t)).getD i (0, 0)).1 = false := w4
    unfold lvL sinB at v4
    rw [zip_at _ _ hi, decide_eq_false_iff_not] at v4
    refine ⟨?_, ?_, tru_lose K hp ht hi v2, ?_, ?_⟩
    · show 0 ≤ X.trA xs t i ∧ X.trA xs t i ≤ 50000
      omega
    · show 0 ≤ X.trB xs t i ∧ X.trB xs t i ≤ 100000
      omega
    · show (rowI X.rs (carI (X.pile i) (X.trA xs t i)) (X.trB xs t i)).2 = false
      cases hv : (rowI X.rs (carI (X.pile i) (X.trA xs t i)) (X.trB xs t i)).2 with
      | false => rfl
      | true =>
        rw [(tru_rows K hp ht hi).2.2 hv] at v3
        cases v3
    · simp only at v4
      omega
end Go.Proofs.YtdlaphlpimlgdaaGreatDoor
