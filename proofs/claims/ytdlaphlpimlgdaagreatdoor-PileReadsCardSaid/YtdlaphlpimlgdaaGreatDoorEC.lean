/- The texts of level books: documents, and what a reader has read of one. Lists alone. -/
import Derived.Test.YtdlaphlpimlgdaaGreatDoorBQ
import Derived.Test.YtdlaphlpimlgdaaGreatDoorEB
namespace Go.Proofs.YtdlaphlpimlgdaaGreatDoor
open Go.RowKit

/-! ### Levels -/

def OkL (x : Int) : Prop := -1000000000 < x ∧ x < 1000000000
theorem itoa_neg {x : Int} (h : x < 0) : Lib.itoa x = 45 :: Lib.decDigits x.natAbs := by unfold Lib.itoa; rw [if_pos h]
theorem itoa_ch {x : Int} {c : UInt8} (h : c ∈ Lib.itoa x) : c = 45 ∨ (48 ≤ c.toNat ∧ c.toNat ≤ 57) := by
  unfold Lib.itoa at h
  split at h
  · rcases List.mem_cons.1 h with h | h
    · exact .inl h
    · exact .inr (dd_dig _ c h)
  · exact .inr (dd_dig _ c h)
theorem itoa_nc {x : Int} {c : UInt8} (h : c.toNat < 45) : c ∉ Lib.itoa x := fun hm => by
  rcases itoa_ch hm with rfl | h1
  · exact absurd h (by decide)
  · omega
theorem itoa_injZ {a b : Int} (h : Lib.itoa a = Lib.itoa b) : a = b := by
  have key : ∀ {x y : Int}, x < 0 → 0 ≤ y → Lib.itoa x ≠ Lib.itoa y := fun {x y} hx hy e => by
    rw [itoa_neg hx, itoa_nat hy] at e
    have h1 : (45 : UInt8) ∈ Lib.decDigits y.toNat := by rw [← e]; simp
    have h2 := dd_dig _ _ h1
    have h3 : (45 : UInt8).toNat = 45 := rfl
    omega
  by_cases ha : a < 0
  · by_cases hb : b < 0
    · rw [itoa_neg ha, itoa_neg hb] at h
      have h1 : Lib.decDigits a.natAbs = Lib.decDigits b.natAbs := by simpa using h
      have h2 := congrArg valL h1
      rw [dd_val, dd_val] at h2
      omega
    · exact absurd h (key ha (by omega))
  · by_cases hb : b < 0
    · exact absurd h.symm (key hb (by omega))
    · exact itoa_inj (by omega) (by omega) h
theorem map_itoa_inj : ∀ {xs ys : List Int}, xs.map Lib.itoa = ys.map Lib.itoa → xs = ys
  | [], [], _ => rfl
  | [], y :: ys, h => by simp at h
  | x :: xs, [], h => by simp at h
  | x :: xs, y :: ys, h => by
    simp only [List.map_cons, List.cons.injEq] at h
    rw [itoa_injZ h.1, map_itoa_inj h.2]
/-- A word that is a level. -/
def LevW (w : List UInt8) : Prop := ∃ x, OkL x ∧ w = Lib.itoa x
theorem levW_iff (w : List UInt8) : LevW w ↔ NumL w ∨ ∃ d, w = 45 :: d ∧ NumL d ∧ valL d ≠ 0 := by
  constructor
  · rintro ⟨x, ⟨h1, h2⟩, rfl⟩
    by_cases hx : x < 0
    · rw [itoa_neg hx]
      exact .inr ⟨_, rfl, numL_dd (by omega), by rw [dd_val]; omega⟩
    · exact .inl ((numL_iff _).2 ⟨x, ⟨by omega, h2⟩, rfl⟩)
  · rintro (h | ⟨d, rfl, hd, h0⟩)
    · obtain ⟨n, hn, rfl⟩ := (numL_iff _).1 h
      exact ⟨n, ⟨by have := hn.1; omega, hn.2⟩, rfl⟩
    · have h1 := numL_val hd
      refine ⟨-(valL d : Nat), ⟨by omega, by omega⟩, ?_⟩
      rw [itoa_neg (by omega), show (-(valL d : Int)).natAbs = valL d by omega, h1.2]

/-! ### Lines -/

def wLev : List UInt8 := [108, 101, 118, 101, 108, 115]
def wYear : List UInt8 := [121, 101, 97, 114]
def wEnd : List UInt8 := [101, 110, 100]
def glue (c : UInt8) : List (List UInt8) → List UInt8
  | [] => []
  | p :: ps => match ps with
    | [] => p
    | _ :: _ => p ++ c :: glue c ps
theorem glue_two (c : UInt8) (p q : List UInt8) (ps : List (List UInt8)) : glue c (p :: q :: ps) = p ++ c :: glue c (q :: ps) := rfl
theorem glue_pieces (c : UInt8) : ∀ l, glue c (pieces c l) = l
  | [] => rfl
  | x :: l => by
    have ih := glue_pieces c l
    unfold pieces
    cases hp : pieces c l with
    | nil => exact absurd hp (pieces_ne c l)
    | cons p ps =>
      rw [hp] at ih
      by_cases hx : x = c
      · rw [if_pos hx, glue_two, ih, hx]
        rfl
      · rw [if_neg hx]
        simp only
        cases ps with
        | nil => simpa [glue] using ih
        | cons q ps =>
          rw [glue_two] at ih ⊢
          rw [List.cons_append, ih]
theorem pieces_inj {c : UInt8} {a b : List UInt8} (h : pieces c a = pieces c b) : a = b := by rw [← glue_pieces c a, h, glue_pieces]
theorem ln_pieces : ∀ (xs : List Int) {word : List UInt8}, (32 : UInt8) ∉ word → pieces 32 (word ++ numT xs) = word :: xs.map Lib.itoa
  | [], word, h => by simp only [numT, List.map_nil, List.flatten_nil, List.append_nil]; exact pieces_none h
  | x :: xs, word, h => by
    have e : numT (x :: xs) = 32 :: (Lib.itoa x ++ numT xs) := by simp [numT]
    rw [e, pieces_cut _ h, ln_pieces xs (itoa_nc (by decide))]
    rfl
theorem numT_ch {xs : List Int} {c : UInt8} (h : c ∈ numT xs) : c = 32 ∨ c = 45 ∨ (48 ≤ c.toNat ∧ c.toNat ≤ 57) := by
  unfold numT at h
  obtain ⟨l, hl, hc⟩ := List.mem_flatten.1 h
  obtain ⟨x, _, rfl⟩ := List.mem_map.1 hl
  rcases List.mem_cons.1 hc with h | h
  · exact .inl h
  · exact .inr (itoa_ch h)
theorem ln_no {word : List UInt8} (hw : (10 : UInt8) ∉ word) (xs : List Int) : (10 : UInt8) ∉ word ++ numT xs := fun h => by
  rcases List.mem_append.1 h with h | h
  · exact hw h
  · rcases numT_ch h with h | h | h
    · exact absurd h (by decide)
    · exact absurd h (by decide)
    · exact absurd h.1 (by decide)
theorem ln_of_pieces {f word : List UInt8} {xs : List Int} (hw : (32 : UInt8) ∉ word) (h : pieces 32 f = word :: xs.map Lib.itoa) : f = word ++ numT xs := pieces_inj (h.trans (ln_pieces xs hw).symm)
theorem lev32 : (32 : UInt8) ∉ wLev := by unfold wLev; decide
theorem lev10 : (10 : UInt8) ∉ wLev := by unfold wLev; decide
theorem year32 : (32 : UInt8) ∉ wYear := by unfold wYear; decide
theorem year10 : (10 : UInt8) ∉ wYear := by unfold wYear; decide
theorem ckT_ch {ts : List (List Int)} {c : UInt8} (h : c ∈ ckT ts) : 45 ≤ c.toNat := by
  rcases itoa_ch (List.mem_of_mem_drop h) with rfl | h
  · decide
  · omega

/-! ### Documents -/

structure Doc (ts : List (List Int)) (ps : Int) : Prop where
  n : OkN (ts.length : Int)
  p : OkN ps
  rows : ∀ row ∈ ts, (row.length : Int) = ps ∧ ∀ x ∈ row, OkL x
def headP (n ps : Int) : List UInt8 := wLev ++ numT [n, ps]
def yearP (ts : List (List Int)) (t : Nat) : List UInt8 := wYear ++ numT ((t : Int) :: ts.getD t [])
def endP (ts : List (List Int)) : List UInt8 := wEnd ++ 32 :: ckT ts
def docT (ts : List (List Int)) (ps : Int) : List UInt8 := headP ts.length ps ++ 10 :: (yearsT ts ts.length ++ (endP ts ++ [10]))
theorem docT_book (ts : List (List Int)) : bookT ts = docT ts ((ts.headD []).length : Int) := by
  unfold bookT docT headP headT lineT endP wEnd wLev
  simp
def NoDoc (T : List UInt8) : Prop := ∀ ts ps, Doc ts ps → T ≠ docT ts ps
theorem years_pieces (ts : List (List Int)) : ∀ (k : Nat) (r : List UInt8), pieces 10 (yearsT ts k ++ r) = (List.range k).map (yearP ts) ++ pieces 10 r
  | 0, r => by simp [yearsT]
  | k + 1, r => by
    have e : yearsT ts (k + 1) ++ r = yearsT ts k ++ (yearP ts k ++ 10 :: r) := by
      unfold yearsT
      rw [List.range_succ, List.map_append, List.flatten_append]
      simp [yearT, lineT, yearP, wYear]
    rw [e, years_pieces ts k, List.range_succ, List.map_append]
    unfold yearP
    rw [pieces_cut _ (ln_no year10 _)]
    simp
theorem endP_no (ts : List (List Int)) : (10 : UInt8) ∉ endP ts := fun h => by
  unfold endP wEnd at h
  rcases List.mem_append.1 h with h | h
  · exact absurd h (by decide)
  · rcases List.mem_cons.1 h with h | h
    · exact absurd h (by decide)
    · exact absurd (ckT_ch h) (by decide)
theorem endP_pieces (ts : List (List Int)) : pieces 32 (endP ts) = [wEnd, ckT ts] := by
  unfold endP
  rw [pieces_cut _ (by unfold wEnd; decide), pieces_none fun h => absurd (ckT_ch h) (by decide)]
theorem head_pieces (n ps : Int) : pieces 32 (headP n ps) = [wLev, Lib.itoa n, Lib.itoa ps] := ln_pieces _ lev32
theorem year_pieces (ts : List (List Int)) (t : Nat) : pieces 32 (yearP ts t) = wYear :: Lib.itoa t :: (ts.getD t []).map Lib.itoa := ln_pieces _ year32
theorem doc_pieces (ts : List (List Int)) (ps : Int) : pieces 10 (docT ts ps) = headP ts.length ps :: ((List.range ts.length).map (yearP ts) ++ [endP ts, []]) := by
  unfold docT
  rw [headP, pieces_cut _ (ln_no lev10 _), years_pieces, pieces_cut _ (endP_no ts)]
  rfl

/-! ### What was read -/

structure ReadAt (T : List UInt8) (Y P : Int) (rows : List (List Int)) (rest : List UInt8) : Prop where
  y : OkN Y
  p : OkN P
  rws : ∀ row ∈ rows, (row.length : Int) = P ∧ ∀ x ∈ row, OkL x
  t : T = headP Y P ++ 10 :: (yearsT rows rows.length ++ rest)
  le : (rows.length : Int) ≤ Y
theorem range_map_get {α : Type} {f : Nat → α} {n k : Nat} (h : k < n) (m : List α) : ((List.range n).map f ++ m)[k]? = some (f k) := by
  rw [List.getElem?_append_left (by simpa using h), List.getElem?_map, List.getElem?_range h]
  rfl
theorem yearP_inj {ts us : List (List Int)} {t : Nat} (h : yearP ts t = yearP us t) : ts.getD t [] = us.getD t [] := by
  have h1 := congrArg (pieces 32) h
  rw [year_pieces, year_pieces] at h1
  simp only [List.cons.injEq, true_and] at h1
  exact map_itoa_inj h1
theorem headP_inj {a b c d : Int} (h : headP a b = headP c d) : a = c ∧ b = d := by
  have h1 := congrArg (pieces 32) h
  rw [head_pieces, head_pieces] at h1
  simp only [List.cons.injEq, true_and, and_true] at h1
  exact ⟨itoa_injZ h1.1, itoa_injZ h1.2⟩
section
variable {T : List UInt8} {Y P : Int} {rows : List (List Int)} {rest : List UInt8}
theorem ReadAt.doc (h : ReadAt T Y P rows rest) {ts : List (List Int)} {ps : Int} (e : T = docT ts ps) :
    Y = ts.length ∧ P = ps ∧ ((rows.length < ts.length ∧ ∃ m, m ≠ [] ∧ pieces 10 rest = yearP ts rows.length :: m) ∨ (rows = ts ∧ pieces 10 rest = [endP ts, []])) := by
  have h1 := congrArg (pieces 10) (h.t.symm.trans e)
  rw [doc_pieces, show pieces 10 (headP Y P ++ 10 :: (yearsT rows rows.length ++ rest)) = headP Y P :: pieces 10 (yearsT rows rows.length ++ rest) from pieces_cut _ (ln_no lev10 _), years_pieces] at h1
  simp only [List.cons.injEq] at h1
  obtain ⟨h2, h3⟩ := h1
  obtain ⟨rfl, rfl⟩ := headP_inj h2
  refine ⟨rfl, rfl, ?_⟩
  have hle : rows.length ≤ ts.length := by have := h.le; omega
  have hrow : ∀ j, j < rows.length → rows.getD j [] = ts.getD j [] := fun j hj => by
    refine yearP_inj ?_
    have h4 := congrArg (fun l => l[j]?) h3
    rw [range_map_get hj, range_map_get (by omega)] at h4
    exact Option.some.inj h4
  have h5 := congrArg (List.drop rows.length) h3
  rw [List.drop_append_of_le_length (by simp), List.drop_eq_nil_of_le (by simp), List.nil_append] at h5
  rcases Nat.lt_or_ge rows.length ts.length with hlt | hge
  · refine .inl ⟨hlt, ?_⟩
    rw [List.drop_append_of_le_length (by simp; omega), List.drop_eq_getElem_cons (by simpa using hlt)] at h5
    simp only [List.getElem_map, List.getElem_range, List.cons_append] at h5
    exact ⟨_, by simp, h5⟩
  · have hk : rows.length = ts.length := by omega
    refine .inr ⟨?_, ?_⟩
    · apply List.ext_getElem hk
      intro j h6 h7
      have := hrow j h6
      rw [List.getD_eq_getElem?_getD, List.getD_eq_getElem?_getD, List.getElem?_eq_getElem h6, List.getElem?_eq_getElem h7] at this
      exact this
    · rw [List.drop_append_of_le_length (by simp; omega), List.drop_eq_nil_of_le (by simp; omega), List.nil_append] at h5
      exact h5
/-- There is no line any more. -/
theorem ReadAt.noCut (h : ReadAt T Y P rows rest) (hc : (10 : UInt8) ∉ rest) : NoDoc T := fun ts ps _ e => by
  obtain ⟨_, _, h1⟩ := h.doc e
  rw [pieces_none hc] at h1
  rcases h1 with ⟨_, m, hm, h2⟩ | ⟨_, h2⟩
  · simp only [List.cons.injEq] at h2
    exact hm h2.2.symm
  · simp at h2
theorem ReadAt.line (h : ReadAt T Y P rows rest) {f r : List UInt8} (hr : rest = f ++ 10 :: r) (hf : (10 : UInt8) ∉ f) {ts : List (List Int)} {ps : Int} (e : T = docT ts ps) :
    Y = ts.length ∧ P = ps ∧ ((rows.length < ts.length ∧ pieces 32 f = wYear :: Lib.itoa rows.length :: (ts.getD rows.length []).map Lib.itoa) ∨ (rows = ts ∧ pieces 32 f = [wEnd, ckT ts] ∧ r = [])) := by
  obtain ⟨h1, h2, h3⟩ := h.doc e
  refine ⟨h1, h2, ?_⟩
  rw [hr, pieces_cut _ hf] at h3
  rcases h3 with ⟨h4, m, _, h5⟩ | ⟨h4, h5⟩
  · simp only [List.cons.injEq] at h5
    exact .inl ⟨h4, by rw [h5.1, year_pieces]⟩
  · simp only [List.cons.injEq] at h5
    exact .inr ⟨h4, by rw [h5.1, endP_pieces], (pieces_one h5.2).1⟩
theorem ReadAt.noWord (h : ReadAt T Y P rows rest) {f r : List UInt8} (hr : rest = f ++ 10 :: r) (hf : (10 : UInt8) ∉ f) {w : List UInt8} {ws : List (List UInt8)} (hw : pieces 32 f = w :: ws) (h1 : w ≠ wYear) (h2 : w ≠ wEnd) : NoDoc T := fun ts ps _ e => by
  obtain ⟨_, _, h3⟩ := h.line hr hf e
  rw [hw] at h3
  rcases h3 with ⟨_, h3⟩ | ⟨_, h3, _⟩
  · simp only [List.cons.injEq] at h3
    exact h1 h3.1
  · simp only [List.cons.injEq] at h3
    exact h2 h3.1
theorem ReadAt.noYear (h : ReadAt T Y P rows rest) {f r : List UInt8} (hr : rest = f ++ 10 :: r) (hf : (10 : UInt8) ∉ f) {ws : List (List UInt8)} (hw : pieces 32 f = wYear :: ws)
    (hno : ¬ ((rows.length : Int) < Y ∧ (ws.length : Int) = 1 + P ∧ ws[0]? = some (Lib.itoa rows.length) ∧ ∀ w ∈ ws.drop 1, LevW w)) : NoDoc T := fun ts ps d e => by
  obtain ⟨h1, h2, h3⟩ := h.line hr hf e
  rw [hw] at h3
  rcases h3 with ⟨h4, h3⟩ | ⟨_, h3, _⟩
  · simp only [List.cons.injEq, true_and] at h3
    subst h3
    refine hno ⟨by omega, ?_, rfl, fun w hm => ?_⟩
    · obtain ⟨row, hrow⟩ : ∃ row, ts[rows.length]? = some row := ⟨_, List.getElem?_eq_getElem h4⟩
      have := (d.rows row (List.mem_of_getElem? hrow)).1
      rw [List.getD_eq_getElem?_getD, hrow]
      simp only [List.length_cons, List.length_map, Option.getD_some]
      omega
    · obtain ⟨row, hrow⟩ : ∃ row, ts[rows.length]? = some row := ⟨_, List.getElem?_eq_getElem h4⟩
      rw [List.getD_eq_getElem?_getD, hrow] at hm
      simp only [List.drop_succ_cons, List.drop_zero, Option.getD_some] at hm
      obtain ⟨x, hx, rfl⟩ := List.mem_map.1 hm
      exact ⟨x, (d.rows row (List.mem_of_getElem? hrow)).2 x hx, rfl⟩
  · simp only [List.cons.injEq] at h3
    exact absurd h3.1 (by unfold wYear wEnd; decide)
theorem ReadAt.noEnd (h : ReadAt T Y P rows rest) {f r : List UInt8} (hr : rest = f ++ 10 :: r) (hf : (10 : UInt8) ∉ f) {ws : List (List UInt8)} (hw : pieces 32 f = wEnd :: ws)
    (hno : ¬ ((rows.length : Int) = Y ∧ ws = [ckT rows] ∧ r = [])) : NoDoc T := fun ts ps d e => by
  obtain ⟨h1, h2, h3⟩ := h.line hr hf e
  rw [hw] at h3
  rcases h3 with ⟨h4, h3⟩ | ⟨h4, h3, h5⟩
  · simp only [List.cons.injEq] at h3
    exact absurd h3.1 (by unfold wYear wEnd; decide)
  · simp only [List.cons.injEq, true_and] at h3
    subst h4
    exact hno ⟨h1.symm, h3, h5⟩
theorem ReadAt.year (h : ReadAt T Y P rows rest) {f r : List UInt8} (hr : rest = f ++ 10 :: r) {row : List Int} (hw : pieces 32 f = wYear :: Lib.itoa rows.length :: row.map Lib.itoa) (hlt : (rows.length : Int) < Y) (hl : (row.length : Int) = P) (hx : ∀ x ∈ row, OkL x) :
    ReadAt T Y P (rows ++ [row]) r := by
  have hfe := ln_of_pieces (xs := (rows.length : Int) :: row) year32 hw
  refine ⟨h.y, h.p, fun rw' hm => ?_, ?_, ?_⟩
  · rcases List.mem_append.1 hm with hm | hm
    · exact h.rws rw' hm
    · simp only [List.mem_singleton] at hm
      subst hm
      exact ⟨hl, hx⟩
  · have e1 : yearsT (rows ++ [row]) (rows ++ [row]).length = yearsT rows rows.length ++ (f ++ [10]) := by
      rw [List.length_append, List.length_singleton, yearsT_succ (row := row) (by rw [List.getElem?_append_right (Nat.le_refl _)]; simp)]
      congr 1
      · unfold yearsT
        congr 1
        refine List.map_congr_left fun t ht => ?_
        rw [List.mem_range] at ht
        rw [List.getD_eq_getElem?_getD, List.getElem?_append_left ht, List.getD_eq_getElem?_getD]
      · rw [hfe]
        simp [yearT, lineT, wYear]
    rw [h.t, hr, e1]
    simp
  · rw [List.length_append, List.length_singleton]
    omega
theorem ReadAt.fin (h : ReadAt T Y P rows rest) {f : List UInt8} (hr : rest = f ++ 10 :: []) (hw : pieces 32 f = [wEnd, ckT rows]) (hk : (rows.length : Int) = Y) : Doc rows P ∧ T = docT rows P := by
  have hfe : f = endP rows := pieces_inj (hw.trans (endP_pieces rows).symm)
  refine ⟨⟨hk ▸ h.y, h.p, h.rws⟩, ?_⟩
  rw [h.t, hr, hfe, ← hk]
  rfl
theorem ReadAt.first {Y P : Int} {f r : List UInt8} (hr : T = f ++ 10 :: r) (hw : pieces 32 f = [wLev, Lib.itoa Y, Lib.itoa P]) (hY : OkN Y) (hP : OkN P) : ReadAt T Y P [] r :=
  ⟨hY, hP, fun _ hm => by simp at hm, by rw [hr, ln_of_pieces (xs := [Y, P]) lev32 hw]; rfl, by have := hY.1; simpa using this⟩
end
theorem noDoc_cut {T : List UInt8} (hc : (10 : UInt8) ∉ T) : NoDoc T := fun ts ps _ e => by
  have h1 := congrArg (pieces 10) e
  rw [pieces_none hc, doc_pieces] at h1
  simp at h1
theorem noDoc_first {T f r : List UInt8} (hr : T = f ++ 10 :: r) (hf : (10 : UInt8) ∉ f) (hno : ¬ ∃ Y P : Int, OkN Y ∧ OkN P ∧ pieces 32 f = [wLev, Lib.itoa Y, Lib.itoa P]) : NoDoc T := fun ts ps d e => by
  have h1 := congrArg (pieces 10) (hr.symm.trans e)
  rw [pieces_cut _ hf, doc_pieces] at h1
  simp only [List.cons.injEq] at h1
  exact hno ⟨_, _, d.n, d.p, by rw [h1.1, head_pieces]⟩
theorem docT_inj {ts us : List (List Int)} {ps qs : Int} (d : Doc ts ps) (e : docT ts ps = docT us qs) : ts = us ∧ ps = qs := by
  have h : ReadAt (docT ts ps) ts.length ps ts (endP ts ++ [10]) := ⟨d.n, d.p, d.rows, rfl, Int.le_refl _⟩
  obtain ⟨h1, h2, h3⟩ := h.doc e
  rcases h3 with ⟨h4, _⟩ | ⟨h4, _⟩
  · omega
  · exact ⟨h4, h2⟩
theorem doc_of_book {ts : List (List Int)} (h : bookB ts = true) : Doc ts ((ts.headD []).length : Int) := by
  obtain ⟨⟨h1, h2⟩, np, ⟨h3, h4⟩, h5, h6⟩ := book_spec h
  rw [h5]
  refine ⟨⟨by omega, by omega⟩, ⟨by omega, by omega⟩, fun row hr => ⟨by rw [(h6 row hr).1], fun x hx => ?_⟩⟩
  have := (h6 row hr).2 x hx
  exact ⟨by omega, by omega⟩

/-! ### What the specification reads -/

def SeenR (T : List UInt8) (P : Int) (out : List (List Int)) : Prop := ∀ t row, out[t]? = some row → ((row.length : Int) = P ∧ ∀ x ∈ row, OkL x) ∧ ∃ a b, pieces 32 ((pieces 10 T).getD (t + 1) []) = a :: b :: row.map Lib.itoa
theorem doc_seen {T : List UInt8} {ts : List (List Int)} {ps : Int} (e : T = docT ts ps) : (pieces 10 T).length = ts.length + 3 ∧ pieces 32 ((pieces 10 T).getD 0 []) = [wLev, Lib.itoa ts.length, Lib.itoa ps] ∧ ∀ t, t < ts.length → pieces 32 ((pieces 10 T).getD (t + 1) []) = wYear :: Lib.itoa t :: (ts.getD t []).map Lib.itoa := by
  rw [e, doc_pieces]
  refine ⟨by simp, head_pieces _ _, fun t ht => ?_⟩
  rw [List.getD_cons_succ, List.getD_eq_getElem?_getD, range_map_get ht]
  exact year_pieces ts t
theorem noDoc_few {T : List UInt8} (h : (pieces 10 T).length < 3) : NoDoc T := fun ts ps _ e => by
  have := (doc_seen e).1
  omega
theorem noDoc_head {T : List UInt8} (h : (pieces 32 ((pieces 10 T).getD 0 [])).length ≠ 3) : NoDoc T := fun ts ps _ e => by
  rw [(doc_seen e).2.1] at h
  exact h rfl
theorem noDoc_piles {T w0 w1 w2 : List UInt8} (h : pieces 32 ((pieces 10 T).getD 0 []) = [w0, w1, w2]) (hn : ¬ ∃ P, 0 ≤ P ∧ OkL P ∧ w2 = Lib.itoa P) : NoDoc T := fun ts ps d e => by
  rw [(doc_seen e).2.1] at h
  simp only [List.cons.injEq, and_true] at h
  have := d.p
  exact hn ⟨ps, this.1, ⟨by have := this.1; omega, this.2⟩, h.2.2.symm⟩
/-- The piles that a text says, where it is a document. -/
theorem doc_piles {T w0 w1 : List UInt8} {P : Int} (h : pieces 32 ((pieces 10 T).getD 0 []) = [w0, w1, Lib.itoa P]) {ts : List (List Int)} {ps : Int} (e : T = docT ts ps) : ps = P := by
  rw [(doc_seen e).2.1] at h
  simp only [List.cons.injEq, and_true] at h
  exact itoa_injZ h.2.2
theorem noDoc_row {T w0 w1 : List UInt8} {P : Int} (h : pieces 32 ((pieces 10 T).getD 0 []) = [w0, w1, Lib.itoa P]) {t : Nat} (ht : t + 3 < (pieces 10 T).length)
    (hn : ¬ (((pieces 32 ((pieces 10 T).getD (t + 1) [])).length : Int) = P + 2 ∧ ∀ w ∈ (pieces 32 ((pieces 10 T).getD (t + 1) [])).drop 2, LevW w)) : NoDoc T := fun ts ps d e => by
  have hP := doc_piles h e
  obtain ⟨h1, _, h2⟩ := doc_seen e
  have htl : t < ts.length := by omega
  rw [h2 t htl] at hn
  obtain ⟨row, hrow⟩ : ∃ row, ts[t]? = some row := ⟨_, List.getElem?_eq_getElem htl⟩
  have hr := d.rows row (List.mem_of_getElem? hrow)
  rw [List.getD_eq_getElem?_getD, hrow, Option.getD_some] at hn
  refine hn ⟨?_, fun w hw => ?_⟩
  · simp only [List.length_cons, List.length_map]
    omega
  · simp only [List.drop_succ_cons, List.drop_zero] at hw
    obtain ⟨x, hx, rfl⟩ := List.mem_map.1 hw
    exact ⟨x, hr.2 x hx, rfl⟩
theorem seen_doc {T w0 w1 : List UInt8} {P : Int} (h : pieces 32 ((pieces 10 T).getD 0 []) = [w0, w1, Lib.itoa P]) {out : List (List Int)} (hs : SeenR T P out) (hl : out.length + 3 = (pieces 10 T).length) {ts : List (List Int)} {ps : Int} (_d : Doc ts ps) (e : T = docT ts ps) : out = ts ∧ P = ps := by
  have hP := doc_piles h e
  obtain ⟨h1, _, h2⟩ := doc_seen e
  refine ⟨?_, hP.symm⟩
  apply List.ext_getElem (by omega)
  intro t h3 h4
  obtain ⟨_, a, b, h5⟩ := hs t _ (List.getElem?_eq_getElem h3)
  rw [h2 t h4] at h5
  simp only [List.cons.injEq] at h5
  have h6 := map_itoa_inj h5.2.2
  rw [List.getD_eq_getElem?_getD, List.getElem?_eq_getElem h4, Option.getD_some] at h6
  exact h6.symm
theorem seen_ok {T : List UInt8} {P : Int} {out : List (List Int)} (hs : SeenR T P out) (hP : 0 ≤ P ∧ OkL P) (hn : out.length < 1000000000) : Doc out P :=
  ⟨⟨by omega, by omega⟩, ⟨hP.1, hP.2.2⟩, fun row hr => by
    obtain ⟨t, ht⟩ := List.mem_iff_getElem?.1 hr
    exact (hs t row ht).1⟩
end Go.Proofs.YtdlaphlpimlgdaaGreatDoor
