/- A level of a book, as the program reads it. -/
import Derived.Test.YtdlaphlpimlgdaaGreatDoorEI
import Derived.Test.YtdlaphlpimlgdaaGreatDoorEC
import Derived.Test.YtdlaphlpimlgdaaGreatDoorShelf
namespace Go.Proofs.YtdlaphlpimlgdaaGreatDoor
open Go.RowKit

theorem cutP_yes {s : ByteArray} {d : List UInt8} (h : s.data.toList = 45 :: d) : Lib.trimPrefix s.data.toList (ByteArray.mk #[45]).data.toList = d ∧ Lib.hasPrefix s.data.toList (ByteArray.mk #[45]).data.toList = true := by
  rw [h]
  simp [Lib.trimPrefix, Lib.hasPrefix, List.isPrefixOf]
theorem cutP_no {s : ByteArray} (h : ∀ d, s.data.toList ≠ 45 :: d) : Lib.trimPrefix s.data.toList (ByteArray.mk #[45]).data.toList = s.data.toList ∧ Lib.hasPrefix s.data.toList (ByteArray.mk #[45]).data.toList = false := by
  cases hl : s.data.toList with
  | nil => simp [Lib.trimPrefix, Lib.hasPrefix, List.isPrefixOf]
  | cons x l =>
    have : ¬ x = 45 := fun e => h l (by rw [hl, e])
    have h2 : ¬ 45 = x := fun e => this e.symm
    simp [Lib.trimPrefix, Lib.hasPrefix, List.isPrefixOf, h2]
set_option maxRecDepth 100000 in
set_option maxHeartbeats 4000000 in
theorem level_any (s : ByteArray) (w : World) :
    Calls Tryz.prog 147 #[.string s] w fun e w' => ((∃ x, OkL x ∧ s.data.toList = Lib.itoa x ∧ e = .returned (.int .i64 x)) ∨ (¬ LevW s.data.toList ∧ e = .panicked [noBook])) ∧ Below w.heap.size w w' := by
  by_cases hq : ∃ d, s.data.toList = 45 :: d
  · obtain ⟨d, hd⟩ := hq
    have hc := cutP_yes hd
    have HD := Lib.hid hd
    have HC := Lib.hid hc
    clear hd hc
    go_enter Tryz.func147, Tryz.ntmps147
    go_wp2_with fail
    refine (Tryz.strings_CutPrefix s ⟨#[45]⟩ _).mono ?_
    rintro e w1 ⟨rfl, rfl⟩
    rw [HC.out.1, HC.out.2]
    go_wp2_with fail
    refine (number_any ⟨d.toArray⟩ _).mono ?_
    rintro e w2 ⟨hn, hb⟩
    have HB := Lib.hid hb
    clear hb
    rcases hn with ⟨hn, rfl⟩ | ⟨hn, rfl⟩
    · have hn' : NumL d := hn
      have hv := numL_val hn'
      have HN := Lib.hid hn'
      have e0 : (ByteArray.mk d.toArray).data.toList = d := rfl
      rw [e0]
      obtain ⟨V, hV⟩ : ∃ V, valL d = V := ⟨_, rfl⟩
      have HV := Lib.hid hV
      rw [hV] at hv ⊢
      have hvl := hv.1
      have HDD := Lib.hid hv.2
      clear hn hn' hv hV e0
      by_cases h0 : V = 0
      · subst h0
        go_wp2_with fail
        refine (giveUp_any _).mono ?_
        rintro e w3 ⟨rfl, rfl⟩
        refine ⟨rfl, .inr ⟨fun hl => ?_, rfl⟩, HB.out⟩
        rcases (levW_iff _).1 hl with h | ⟨d', h, _, h1⟩
        · have := h.2.2.2 45 (by rw [HD.out]; simp)
          exact absurd this.1 (by decide)
        · rw [HD.out] at h
          simp only [List.cons.injEq, true_and] at h
          rw [← h] at h1
          exact h1 HV.out
      · have hv0 : ¬ (V : Int) = 0 := by omega
        have vs : Value.int .i64 (wrap64 (-(V : Int))) = Value.int .i64 (-(V : Int)) := by congr 1; exact w64 (by omega)
        go_wp2_with fail
        go_ret
        refine ⟨.inl ⟨-(V : Int), ⟨by omega, by omega⟩, ?_, rfl⟩, HB.out⟩
        rw [HD.out, itoa_neg (by omega), show (-(V : Int)).natAbs = V by omega, HDD.out]
    · have hn' : ¬ NumL d := hn
      have HN := Lib.hid hn'
      clear hn hn'
      refine ⟨rfl, .inr ⟨fun hl => ?_, rfl⟩, HB.out⟩
      rcases (levW_iff _).1 hl with h | ⟨d', h, h1, _⟩
      · have := h.2.2.2 45 (by rw [HD.out]; simp)
        exact absurd this.1 (by decide)
      · rw [HD.out] at h
        simp only [List.cons.injEq, true_and] at h
        exact HN.out (h ▸ h1)
  · have hd : ∀ d, s.data.toList ≠ 45 :: d := fun d e => hq ⟨d, e⟩
    have hc := cutP_no hd
    have HD := Lib.hid hd
    have HC := Lib.hid hc
    clear hd hc hq
    go_enter Tryz.func147, Tryz.ntmps147
    go_wp2_with fail
    refine (Tryz.strings_CutPrefix s ⟨#[45]⟩ _).mono ?_
    rintro e w1 ⟨rfl, rfl⟩
    rw [HC.out.1, HC.out.2]
    go_wp2_with fail
    refine (number_any ⟨s.data.toList.toArray⟩ _).mono ?_
    rintro e w2 ⟨hn, hb⟩
    have HB := Lib.hid hb
    have e0 : (ByteArray.mk s.data.toList.toArray).data.toList = s.data.toList := by simp
    rw [e0] at hn
    clear hb
    rcases hn with ⟨hn, rfl⟩ | ⟨hn, rfl⟩
    · have hv := numL_val hn
      have HN := Lib.hid hn
      obtain ⟨V, hV⟩ : ∃ V, valL s.data.toList = V := ⟨_, rfl⟩
      rw [hV] at hv ⊢
      have hvl := hv.1
      have HDD := Lib.hid hv.2
      clear hn hv hV e0
      go_wp2_with fail
      go_ret
      refine ⟨.inl ⟨(V : Int), ⟨by omega, by omega⟩, ?_, rfl⟩, HB.out⟩
      rw [itoa_nat (by omega), Int.toNat_natCast, HDD.out]
    · have HN := Lib.hid hn
      clear hn
      refine ⟨rfl, .inr ⟨fun hl => ?_, rfl⟩, HB.out⟩
      rcases (levW_iff _).1 hl with h | ⟨d', h, _⟩
      · exact HN.out h
      · exact HD.out d' h
end Go.Proofs.YtdlaphlpimlgdaaGreatDoor
