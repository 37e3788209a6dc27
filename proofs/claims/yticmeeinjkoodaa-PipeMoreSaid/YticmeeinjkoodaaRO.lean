/- Pipes: a net that is wrapped; the best wrapping; what a wrapping costs, by the specification. -/
import Derived.Test.YticmeeinjkoodaaRJ
namespace Go.Proofs.Yticmeeinjkoodaa
open Go.RowKit Go.Shelf

def wr1 (b : Bool) (l : Lp) : Lp := if b then { l with ll := l.rl, lh := l.rh } else l
def wrL (s : Nat) (lo : List Lp) : List Lp := (List.range lo.length).map fun i => wr1 (s.testBit i) (lo.getD i lp0)
def Nt.wrap (N : Nt) (s : Nat) : Nt := { N with lo := wrL s N.lo }
theorem wrL_len (s : Nat) (lo : List Lp) : (wrL s lo).length = lo.length := by simp [wrL]
theorem wrL_at {s k : Nat} {lo : List Lp} {l : Lp} (h : lo[k]? = some l) : (wrL s lo)[k]? = some (wr1 (s.testBit k) l) := by
  unfold wrL
  rw [List.getElem?_map, List.getElem?_range (List.getElem?_eq_some_iff.1 h).1]
  simp only [Option.map_some, List.getD_eq_getElem?_getD, h, Option.getD_some]
theorem wr1_ok {l : Lp} (K : LpOk l) (b : Bool) : LpOk (wr1 b l) := by
  cases b
  · exact K
  · exact ⟨K.w, K.r, K.r, Int.le_refl _, Int.le_refl _, K.co, K.ma, K.gr, K.fe, K.f⟩
theorem wrap_ok {N : Nt} (K : NtOk N) (s : Nat) : NtOk (N.wrap s) :=
  ⟨by show 1 ≤ (wrL s N.lo).length ∧ (wrL s N.lo).length ≤ 5; rw [wrL_len]; exact K.n5, K.h72, fun l hl => by
    obtain ⟨k, hk⟩ := List.getElem?_of_mem hl
    have hk2 : k < N.lo.length := by
      have := (List.getElem?_eq_some_iff.1 hk).1
      have e : (N.wrap s).lo = wrL s N.lo := rfl
      rwa [e, wrL_len] at this
    obtain ⟨q, hq⟩ := get_of_lt hk2
    have := wrL_at (s := s) hq
    have e : (wrL s N.lo)[k]? = some l := hk
    rw [e] at this
    injection this with this
    rw [this]
    exact wr1_ok (K.lo q (List.mem_of_getElem? hq)) _, K.fr, by show N.wa.length = (wrL s N.lo).length + 1; rw [wrL_len]; exact K.wl, fun i r hr => by show r.length = (wrL s N.lo).length + 1 ∧ _; rw [wrL_len]; exact K.wa i r hr⟩
theorem wK_wrap (b : Bool) (l : Lp) (fr : List (Int × Int)) (i : Nat) : ∀ k, wK (wr1 b l) false fr i k = wK l b fr i k
  | 0 => by cases b <;> rfl
  | k + 1 => by
    show coolI (wr1 b l) (wK (wr1 b l) false fr i k) (sel i (leakI false (wr1 b l))) _ = coolI l (wK l b fr i k) (sel i (leakI b l)) _
    rw [wK_wrap b l fr i k]
    cases b <;> rfl
theorem frz_wrap (b : Bool) (l : Lp) (fr : List (Int × Int)) (i : Nat) : frzI (wr1 b l) false fr i = frzI l b fr i := by
  unfold frzI endL
  rw [List.map_congr_left fun k _ => wK_wrap b l fr i (k + 1)]
theorem due_wrap {N : Nt} {s k : Nat} (hk : k < N.lo.length) : (N.wrap s).due 0 k = N.due s k := by
  obtain ⟨l, hl⟩ := get_of_lt hk
  unfold Nt.due dueI
  have e1 : (N.wrap s).lo.getD k lp0 = wr1 (s.testBit k) l := by
    show (wrL s N.lo).getD k lp0 = _
    rw [List.getD_eq_getElem?_getD, wrL_at hl]
    rfl
  have e2 : N.lo.getD k lp0 = l := by rw [List.getD_eq_getElem?_getD, hl]; rfl
  have e3 : (N.wrap s).fr = N.fr := rfl
  rw [e1, e2, e3, Nat.zero_testBit, frz_wrap]
theorem fix_wrap {N : Nt} {s k : Nat} (hk : k < N.lo.length) : (N.wrap s).fix k = N.fix k := by
  obtain ⟨l, hl⟩ := get_of_lt hk
  unfold Nt.fix
  show ((wrL s N.lo).getD k lp0).fh = _
  rw [List.getD_eq_getElem?_getD, wrL_at hl, List.getD_eq_getElem?_getD, hl]
  cases s.testBit k <;> rfl
theorem slk_wrap (N : Nt) (m : Nat) : ∀ (n s : Nat), s ≤ n → s < 2 ^ N.lo.length → ∀ (a : Nat) (t : Int), slk (N.wrap m) 0 s a t = slk N m s a t
  | 0, s, hs, _, a, t => by
    obtain rfl : s = 0 := by omega
    rfl
  | n + 1, s, hs, hlt, a, t => by
    by_cases hz : s = 0
    · subst hz
      rfl
    · rw [slk_pos hz, slk_pos hz]
      congr 1
      refine List.map_congr_left fun k hk => ?_
      have hb := pil_bit hk
      have hp := bit_le hb
      have h2k : 0 < 2 ^ k := Nat.two_pow_pos k
      have hkn : k < N.lo.length := (Nat.pow_lt_pow_iff_right (show 1 < 2 by decide)).1 (Nat.lt_of_le_of_lt hp hlt)
      have ih := slk_wrap N m n (s - 2 ^ k) (by omega) (by omega)
      have ha : (N.wrap m).arr a t k = N.arr a t k := by
        unfold Nt.arr
        rw [fix_wrap hkn]
        rfl
      unfold byI
      rw [due_wrap hkn, ha, ih]
theorem weak_wrap {N : Nt} {m p : Nat} : ∀ (fs : List Int) (i : Nat), (∀ f ∈ fs, 0 ≤ f ∧ f < 2 ^ N.lo.length) → weakF (N.wrap m) 0 p fs i = weakF N m p fs i
  | [], _, _ => rfl
  | f :: fs, i, h => by
    have hf := h f (by simp)
    have hpow : (2 : Int) ^ N.lo.length = ((2 ^ N.lo.length : Nat) : Int) := by simp
    unfold weakF
    rw [slk_wrap N m f.toNat f.toNat (Nat.le_refl _) (by omega), weak_wrap fs (i + 1) fun g hg => h g (by simp [hg])]
theorem weak_sign (N : Nt) (m p : Nat) : ∀ (fs : List Int) (i : Nat), weakF N m p fs i = -1 ∨ 0 ≤ weakF N m p fs i
  | [], _ => .inl rfl
  | f :: fs, i => by
    unfold weakF
    split
    · exact .inr (by omega)
    · exact weak_sign N m p fs (i + 1)
/-- The best wrapping: the cheapest, and the least of these. -/
theorem wrap_least (N : Nt) (p : Nat) (fs : List Int) : ∀ k, ((wrapI N p fs k).2.2 = true → (wrapI N p fs k).1 < k ∧ weakI N (wrapI N p fs k).1 p fs < 0 ∧ (wrapI N p fs k).2.1 = costK N (wrapI N p fs k).1 N.lo.length ∧ ∀ j, j < k → weakI N j p fs < 0 → (wrapI N p fs k).2.1 < costK N j N.lo.length ∨ ((wrapI N p fs k).2.1 = costK N j N.lo.length ∧ (wrapI N p fs k).1 ≤ j)) ∧ ((wrapI N p fs k).2.2 = false → ∀ j, j < k → ¬ weakI N j p fs < 0)
  | 0 => ⟨fun h => (by cases h), fun _ _ h => absurd h (Nat.not_lt_zero _)⟩
  | k + 1 => by
    obtain ⟨h1, h2⟩ := wrap_least N p fs k
    have e : wrapI N p fs (k + 1) = wrapF N p fs (wrapI N p fs k) k := by
      unfold wrapI
      rw [List.range_succ, List.foldl_append]
      rfl
    rw [e]
    obtain ⟨⟨x, c, b⟩, hx⟩ : ∃ y, wrapI N p fs k = y := ⟨_, rfl⟩
    rw [hx] at h1 h2 ⊢
    simp only at h1 h2
    unfold wrapF
    by_cases hw : weakI N k p fs < 0
    · cases b with
      | false =>
        simp only [hw, Bool.not_false, Bool.true_or, decide_true, Bool.and_self, if_true]
        refine ⟨fun _ => ⟨Nat.lt_succ_self k, (by first | trivial | exact hw), (by first | trivial | rfl), fun j hj hjw => ?_⟩, fun h => by cases h⟩
        by_cases hjk : j < k
        · exact absurd hjw (h2 rfl j hjk)
        · obtain rfl : j = k := by omega
          exact .inr ⟨rfl, Nat.le_refl _⟩
      | true =>
        obtain ⟨q1, q2, q3, q4⟩ := h1 rfl
        by_cases hc : costK N k N.lo.length < c
        · simp only [hw, hc, Bool.not_true, Bool.false_or, decide_true, Bool.and_self, if_true]
          refine ⟨fun _ => ⟨Nat.lt_succ_self k, (by first | trivial | exact hw), (by first | trivial | rfl), fun j hj hjw => ?_⟩, fun h => by cases h⟩
          by_cases hjk : j < k
          · rcases q4 j hjk hjw with h | ⟨h, _⟩
            · exact .inl (by omega)
            · exact .inl (by omega)
          · obtain rfl : j = k := by omega
            exact .inr ⟨rfl, Nat.le_refl _⟩
        · simp only [hc, Bool.not_true, Bool.false_or, decide_false, Bool.false_and, Bool.false_eq_true, if_false]
          refine ⟨fun _ => ⟨by omega, q2, q3, fun j hj hjw => ?_⟩, fun h => by cases h⟩
          by_cases hjk : j < k
          · exact q4 j hjk hjw
          · obtain rfl : j = k := by omega
            by_cases hce : c = costK N j N.lo.length
            · exact .inr ⟨hce, by omega⟩
            · exact .inl (by omega)
    · simp only [hw, decide_false, Bool.and_false, Bool.false_eq_true, if_false]
      refine ⟨fun hb => ?_, fun hb j hj => ?_⟩
      · obtain ⟨q1, q2, q3, q4⟩ := h1 hb
        refine ⟨by omega, q2, q3, fun j hj hjw => ?_⟩
        by_cases hjk : j < k
        · exact q4 j hjk hjw
        · obtain rfl : j = k := by omega
          exact absurd hjw hw
      · by_cases hjk : j < k
        · exact h2 hb j hjk
        · obtain rfl : j = k := by omega
          exact hw
set_option maxRecDepth 100000 in
set_option maxHeartbeats 8000000 in
theorem rcost_any (V : NV) (N : Nt) {s : Nat} (hs : s < 32) (w : World) (hN : NtAt w w.heap.size V N) (hK : NtOk N) :
    Calls Try.prog 51 #[nvV V, .int .i64 s] w fun e w' => e = .returned (.int .i64 (costK N s N.lo.length)) ∧ Below w.heap.size w w' := by
  have HK := Lib.hid hK
  have z := heap_alloc_new w (.cells (nvC V) 26)
  have hb := (Below.refl w.heap.size w).alloc (Nat.le_refl _) (.cells (nvC V) 26)
  obtain ⟨w1, hw1⟩ : ∃ z, w.alloc (.cells (nvC V) 26) = z := ⟨_, rfl⟩
  rw [hw1] at z hb
  have HW := Lib.hid hw1
  have HN := Lib.hid (hN.up hb)
  obtain ⟨al, nl, cl, af, nf, cf, aw, nw, cw⟩ := V
  obtain ⟨v0, v1, v2⟩ := box3_cells z
  have hml := hN.ml; have hmf := hN.mf; have hmw := hN.mw
  unfold maxLen at hml hmf hmw
  simp only at hml hmf hmw v0 v1 v2
  have HB := Lib.hid hb; have Z := Lib.hid z
  have HNL := Lib.hid hN.nl; have HNF := Lib.hid hN.nf; have HNW := Lib.hid hN.nw
  clear z hb hw1 hN
  clear hK
  have hnl5 : nl ≤ 5 := by have h1 := HNL.out; have h2 := HK.out.n5; first | omega | (simp only at h1; omega)
  go_enter Try.func51, Try.ntmps51
  go_wp2_with fail
  rw [show w.alloc (.cells #[.slice al nl cl, .slice af nf cf, .slice aw nw cw] 26) = w1 from HW.out]
  go_loopw [5, 6] (fun oo ii wr => ∃ k : Nat, k ≤ nl ∧ oo = .int .i64 (costK N s k) ∧ ii = .int .i64 k ∧ w1 = wr) (fun _ ii _ => nl - (intOf ii).toNat)
  case atStart => exact ⟨0, by omega, rfl, rfl, rfl⟩
  case round =>
    obtain ⟨k, hk, rfl, rfl, rfl⟩ := hrel
    have hc0 := costK_in HK.out s k (by have h1 := HNL.out; first | omega | (simp only at h1; omega))
    by_cases hlt : k < nl
    · have k3 : (0 : Int) ≤ (k : Int) := by omega
      have k4 : (k : Int) < (nl : Int) := by omega
      obtain ⟨l, hl⟩ := get_of_lt (l := N.lo) (k := k) (by have h1 := HNL.out; first | omega | (simp only at h1; omega))
      obtain ⟨b1, o1, hal1, hb1, _, _, _, ⟨c6, _⟩, _⟩ := lp_el HN.out.lo hl
      have hal2 : al = some ⟨b1, o1, none⟩ := hal1
      subst hal2
      have hco := (HK.out.lo l (List.mem_of_getElem? hl)).co
      have e : N.lo.getD k lp0 = l := by rw [List.getD_eq_getElem?_getD, hl]; rfl
      have HS : Hid (costK N s (k + 1) = costK N s k + (if s.testBit k then l.co else 0)) := Lib.hid (by rw [← e]; rfl)
      obtain ⟨C, hC⟩ : ∃ z, costK N s k = z := ⟨_, rfl⟩
      rw [hC] at hc0 HS ⊢
      have hw1 : wrap64 (C + l.co) = C + l.co := w64 (by omega)
      clear hal1 hb1 hl e hC hc0 hco
      go_wp2_with fail
      refine (has_any hs (by omega) _).mono ?_
      rintro e w' ⟨rfl, rfl⟩
      cases hb : s.testBit k
      · have HSV : Hid (costK N s (k + 1) = C) := Lib.hid (by rw [HS.out, hb]; simp)
        clear hb
        go_wp2_with fail
        exact ⟨⟨k + 1, by omega, by rw [HSV.out], rfl, by first | rfl | trivial⟩, by simp [intOf]; omega⟩
      · have HSV : Hid (costK N s (k + 1) = C + l.co) := Lib.hid (by rw [HS.out, hb]; simp)
        clear hb
        go_wp2_with fail
        exact ⟨⟨k + 1, by omega, (by first | (rw [HSV.out]; done) | (rw [HSV.out, hw1])), rfl, by first | rfl | trivial⟩, by simp [intOf]; omega⟩
    · obtain rfl : nl = k := by omega
      have k4 : ¬ (nl : Int) < (nl : Int) := by omega
      go_wp2_with fail
      go_ret
      exact ⟨by rw [HNL.out]; rfl, HB.out⟩
end Go.Proofs.Yticmeeinjkoodaa
