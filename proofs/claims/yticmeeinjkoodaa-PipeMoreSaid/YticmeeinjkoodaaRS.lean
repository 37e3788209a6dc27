/- Pipes: that cooling is monotone; percentages, and what lies between the bounds of a span. -/
import Derived.Test.YticmeeinjkoodaaRN
namespace Go.Proofs.Yticmeeinjkoodaa
open Go.RowKit Go.Shelf

theorem cool_mono {l : Lp} {x x' lk lk' fr fr' : Int} (hx : 0 ≤ x ∧ x ≤ x') (hl : 0 ≤ lk' ∧ lk' ≤ lk ∧ lk ≤ 1000) (hf : 0 ≤ fr' ∧ fr' ≤ fr) : coolI l x lk fr ≤ coolI l x' lk' fr' := by
  have e : ∀ y k f : Int, coolI l y k f = y - min (k * (y + f) / 1000) y := fun y k f => by
    show y + (gainI l ⟨k, f, false⟩ - lossI l y ⟨k, f, false⟩) = _
    have hg : gainI l ⟨k, f, false⟩ = 0 := rfl
    unfold lossI
    rw [hg]
    simp only [Int.add_zero]
    omega
  rw [e, e]
  have h1 : lk' * (x' + fr') ≤ lk * (x' + fr) := Int.mul_le_mul hl.2.1 (by omega) (by omega) (by omega)
  have h2 : lk * (x' + fr) = lk * (x + fr) + lk * (x' - x) := by rw [← Int.mul_add]; congr 1; omega
  have h3 : lk * (x' - x) ≤ 1000 * (x' - x) := Int.mul_le_mul_of_nonneg_right hl.2.2 (by omega)
  have h4 : lk' * (x' + fr') / 1000 ≤ (lk * (x + fr) + 1000 * (x' - x)) / 1000 := Int.ediv_le_ediv (by decide) (by omega)
  have h5 : (lk * (x + fr) + 1000 * (x' - x)) / 1000 = lk * (x + fr) / 1000 + (x' - x) := Int.add_mul_ediv_left _ _ (by decide)
  rw [h5] at h4
  omega
/-- Whatever is true without heat, a loop is as warm as is told. -/
theorem true_play {N : Nt} (K : NtOk N) {l : Lp} (hl : l ∈ N.lo) {x : Int} (hx : l.wl ≤ x ∧ x ≤ l.wh) {ts : List Th} (hts : thsB l N.fr ts = true) (hfed : ∀ t ∈ ts, t.fed = false) : ∀ k, k ≤ ts.length → k ≤ N.fr.length → wK l false N.fr 0 k ≤ (playI l x (ts.take k)).w ∧ (playI l x (ts.take k)).w ≤ wK l false N.fr 1 k
  | 0, _, _ => by
    rw [List.take_zero]
    exact hx
  | k + 1, hk, hkf => by
    obtain ⟨h1, h2⟩ := true_play K hl hx hts hfed k (by omega) (by omega)
    obtain ⟨t, ht⟩ := get_of_lt (l := ts) (k := k) (by omega)
    obtain ⟨f, hf⟩ := get_of_lt (l := N.fr) (k := k) (by omega)
    have hto := thsB_iff.1 hts k t ht
    unfold thOkB at hto
    rw [List.getD_eq_getElem?_getD, hf, Bool.and_eq_true, inB_iff, inB_iff] at hto
    simp only [Option.getD_some] at hto
    have hd : N.fr.getD k (0, 0) = f := by rw [List.getD_eq_getElem?_getD, hf]; rfl
    have hfd := hfed t (List.mem_of_getElem? ht)
    obtain ⟨lk, fr, fed⟩ := t
    simp only at hto hfd
    subst hfd
    have KL := K.lo l hl
    have hll := KL.l
    have hff := K.fr f (List.mem_of_getElem? hf)
    have w0 := wK_in K hl false 0 k (by omega)
    have w1 := wK_in K hl false 1 k (by omega)
    rw [playI_take ht]
    have e : (addH (playI l x (ts.take k)) (hourI l (playI l x (ts.take k)).w ⟨lk, fr, false⟩)).w = coolI l (playI l x (ts.take k)).w lk fr := rfl
    rw [e]
    have e0 : wK l false N.fr 0 (k + 1) = coolI l (wK l false N.fr 0 k) l.lh f.2 := by
      show coolI l (wK l false N.fr 0 k) (sel 0 (leakI false l)) (sel 0 (N.fr.getD k (0, 0))) = _
      rw [hd]
      rfl
    have e1 : wK l false N.fr 1 (k + 1) = coolI l (wK l false N.fr 1 k) l.ll f.1 := by
      show coolI l (wK l false N.fr 1 k) (sel 1 (leakI false l)) (sel 1 (N.fr.getD k (0, 0))) = _
      rw [hd]
      rfl
    rw [e0, e1]
    exact ⟨cool_mono ⟨by omega, h1⟩ ⟨by omega, by omega, by omega⟩ ⟨by omega, by omega⟩, cool_mono ⟨by omega, h2⟩ ⟨by omega, by omega, by omega⟩ ⟨by omega, by omega⟩⟩
def partI (s : Int × Int) (p : Int) : Int := s.1 + (s.2 - s.1) * p / 100
theorem part_in {s : Int × Int} {p : Int} (hs : s.1 ≤ s.2) (hp : 0 ≤ p ∧ p ≤ 100) : s.1 ≤ partI s p ∧ partI s p ≤ s.2 := by
  have h1 : 0 ≤ (s.2 - s.1) * p := Int.mul_nonneg (by omega) hp.1
  have h2 : (s.2 - s.1) * p ≤ (s.2 - s.1) * 100 := Int.mul_le_mul_of_nonneg_left hp.2 (by omega)
  unfold partI
  omega
set_option maxRecDepth 100000 in
set_option maxHeartbeats 8000000 in
theorem part_any {s : Int × Int} {p : Int} (hs : 0 ≤ s.1 ∧ s.1 ≤ s.2 ∧ s.2 ≤ 1000) (hp : 0 ≤ p ∧ p ≤ 100) (w : World) : Calls Try.prog 31 #[.agg #[.int .i64 s.1, .int .i64 s.2], .int .i64 p] w fun e w' => e = .returned (.int .i64 (partI s p)) ∧ Below w.heap.size w w' := by
  obtain ⟨a, b⟩ := s
  simp only at hs
  have h1 : 0 ≤ (b - a) * p := Int.mul_nonneg (by omega) hp.1
  have h2 : (b - a) * p ≤ (b - a) * 100 := Int.mul_le_mul_of_nonneg_left hp.2 (by omega)
  have HB := Lib.hid ((Below.refl w.heap.size w).alloc (Nat.le_refl _) (.cells #[.int .i64 a, .int .i64 b] 47))
  have HP : Hid (partI (a, b) p = a + (b - a) * p / 100) := Lib.hid rfl
  have e1 : wrap64 (b - a) = b - a := w64 (by omega)
  obtain ⟨d, hd⟩ : ∃ d, (b - a) * p = d := ⟨_, rfl⟩
  rw [hd] at h1 h2 HP
  have e2 : wrap64 ((b - a) * p) = d := by rw [hd]; exact w64 (by omega)
  have e3 : d.tdiv 100 = d / 100 := Int.tdiv_eq_ediv_of_nonneg h1
  obtain ⟨q, hq⟩ : ∃ q, d / 100 = q := ⟨_, rfl⟩
  have hq2 : 0 ≤ q ∧ q ≤ 1000 := by omega
  rw [hq] at e3 HP
  have e4 : wrap64 q = q := w64 (by omega)
  have e5 : wrap64 (a + q) = a + q := w64 (by omega)
  clear h1 h2 hd hq
  go_enter Try.func31, Try.ntmps31
  go_wp2_with fail
  go_ret
  refine ⟨?_, HB.out⟩
  rw [HP.out]
  simp [e2]
end Go.Proofs.Yticmeeinjkoodaa
