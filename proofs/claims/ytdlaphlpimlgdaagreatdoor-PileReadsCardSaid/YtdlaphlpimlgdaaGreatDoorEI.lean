/- Numbers and levels of a book, as the program reads them. -/
import Derived.Test.YtdlaphlpimlgdaaGreatDoorC
import Derived.Test.YtdlaphlpimlgdaaGreatDoorEB
import Derived.Laws.Strings
import Derived.Laws.Strings2
import Derived.Laws.Strings3
import Derived.LoopTactic
namespace Go.Proofs.YtdlaphlpimlgdaaGreatDoor
open Go.RowKit

def noBook : PanicEntry := { v := .iface 142 (.agg #[]), recovered := false }
set_option maxRecDepth 100000 in
theorem giveUp_any (w : World) : Calls Tryz.prog 128 #[] w fun e w' => e = .panicked [noBook] ∧ w' = w := by
  go_enter Tryz.func128, Tryz.ntmps128
  go_wp2
  exact ⟨rfl, rfl, rfl⟩
theorem digL_snoc {l : List UInt8} {k : Nat} (h : k < l.length) (hd : DigL (l.take k)) (hc : 48 ≤ l[k].toNat ∧ l[k].toNat ≤ 57) : DigL (l.take (k + 1)) := by
  rw [List.take_succ_eq_append_getElem h]
  intro c hm
  rcases List.mem_append.1 hm with hm | hm
  · exact hd c hm
  · simp only [List.mem_singleton] at hm
    rw [hm]
    exact hc
theorem valL_take {l : List UInt8} {k : Nat} (h : k < l.length) : valL (l.take (k + 1)) = 10 * valL (l.take k) + (l[k].toNat - 48) := by
  rw [List.take_succ_eq_append_getElem h, valL_snoc]
theorem bytes_some {s : ByteArray} (h : 0 < s.size) : s.toList.isEmpty = false := by
  rw [ByteArray.toList_eq]
  have : s.data.toList.length = s.size := Array.length_toList
  cases hl : s.data.toList with
  | nil => rw [hl] at this; simp at this; omega
  | cons x l => rfl
theorem valL_lt {l : List UInt8} {k : Nat} (hk : k ≤ l.length) (h9 : l.length ≤ 9) (h : DigL (l.take k)) : valL (l.take k) < 1000000000 := by
  have h1 := val_lt h
  have h2 : 10 ^ (l.take k).length ≤ 10 ^ 9 := Nat.pow_le_pow_right (by decide) (by rw [List.length_take]; omega)
  omega
set_option maxRecDepth 100000 in
set_option maxHeartbeats 2000000 in
theorem number_empty (w : World) : Calls Tryz.prog 146 #[.string ⟨#[]⟩] w fun e w' => e = .panicked [noBook] ∧ w' = w := by
  go_enter Tryz.func146, Tryz.ntmps146
  go_wp2_with fail
  refine (giveUp_any _).mono ?_
  rintro e w1 ⟨rfl, rfl⟩
  exact ⟨rfl, rfl, rfl⟩
theorem str_some {s : ByteArray} (h : 0 < s.size) : ¬ s = ByteArray.empty := fun e => by rw [e] at h; exact absurd h (by decide)
set_option maxRecDepth 100000 in
set_option maxHeartbeats 2000000 in
theorem number_long (s : ByteArray) (h : 9 < s.size) (w : World) : Calls Tryz.prog 146 #[.string s] w fun e w' => e = .panicked [noBook] ∧ w' = w := by
  have h1 := bytes_some (s := s) (by omega)
  have h2 := str_some (s := s) (by omega)
  have h3 : (9 : Int) < (s.size : Int) := by omega
  go_enter Tryz.func146, Tryz.ntmps146
  go_wp2_with fail
  refine (giveUp_any _).mono ?_
  rintro e w1 ⟨rfl, rfl⟩
  exact ⟨rfl, rfl, rfl⟩
set_option maxRecDepth 100000 in
set_option maxHeartbeats 2000000 in
theorem number_zero (s : ByteArray) (h : s.size ≤ 9) (h0 : 1 < s.size) (hz : s[0]'(by omega) = 48) (w : World) : Calls Tryz.prog 146 #[.string s] w fun e w' => e = .panicked [noBook] ∧ w' = w := by
  have h1 := bytes_some (s := s) (by omega)
  have h4 := str_some (s := s) (by omega)
  have h2 : 0 < s.size := by omega
  have h3 : ¬ (9 : Int) < (s.size : Int) := by omega
  go_enter Tryz.func146, Tryz.ntmps146
  go_wp2_with fail
  refine (giveUp_any _).mono ?_
  rintro e w1 ⟨rfl, rfl⟩
  exact ⟨rfl, rfl, rfl⟩
set_option maxRecDepth 100000 in
set_option maxHeartbeats 4000000 in
theorem number_loop (s : ByteArray) (h : s.size ≤ 9) (h0 : 0 < s.size) (hz : s[0]'h0 = 48 → s.size = 1) (w : World) :
    Calls Tryz.prog 146 #[.string s] w fun e w' => ((DigL s.data.toList ∧ e = .returned (.int .i64 (valL s.data.toList : Nat))) ∨ (¬ DigL s.data.toList ∧ e = .panicked [noBook])) ∧ Below w.heap.size w w' := by
  have h1 := bytes_some h0
  have h2 := str_some h0
  have HSZ := Lib.hid (show s.size = s.data.toList.length from Array.length_toList.symm)
  have h3 : ¬ (9 : Int) < (s.size : Int) := by omega
  have hq : (s[0]'h0 = 48 ∧ s.size = 1) ∨ ¬ s[0]'h0 = 48 := by
    by_cases e : s[0]'h0 = 48
    · exact .inl ⟨e, hz e⟩
    · exact .inr e
  have H9 := Lib.hid h
  clear hz h
  rcases hq with ⟨h4, h5⟩ | h4
  · have h6 : ¬ (1 : Int) < (s.size : Int) := by omega
    go_enter Tryz.func146, Tryz.ntmps146
    go_wp2_with fail
    go_loopw [3, 25] (fun n i wr => wr = w ∧ ∃ k : Nat, k ≤ s.size ∧ i = .int .i64 k ∧ n = .int .i64 (valL (s.data.toList.take k) : Nat) ∧ DigL (s.data.toList.take k)) (fun _ i _ => s.size - (intOf i).toNat)
    case atStart => exact ⟨rfl, 0, Nat.zero_le _, rfl, rfl, fun c hc => by simp at hc⟩
    case round =>
      obtain ⟨rfl, k, hk, rfl, rfl, hd⟩ := hrel
      have HD := Lib.hid hd; clear hd
      by_cases hlt : k < s.size
      · have hl : k < s.data.toList.length := by have := HSZ.out; omega
        have hget : s[k]'hlt = s.data.toList[k] := by rfl
        have hv := valL_lt (l := s.data.toList) (k := k) (by omega) (by have := HSZ.out; have := H9.out; omega) HD.out
        have ht := valL_take hl
        rw [← hget] at ht
        have hds := fun hc => digL_snoc hl HD.out hc
        rw [← hget] at hds
        have hno := fun (hc : ¬ (48 ≤ (s[k]'hlt).toNat ∧ (s[k]'hlt).toNat ≤ 57)) => (fun hD : DigL s.data.toList => hc (by rw [hget]; exact hD _ (List.getElem_mem hl)))
        have HT := Lib.hid ht; have HDS := Lib.hid hds; have HNO := Lib.hid hno
        clear ht hds hno hget
        obtain ⟨V, hV⟩ : ∃ V, valL (s.data.toList.take k) = V := ⟨_, rfl⟩
        rw [hV] at HT hv ⊢
        clear hV
        obtain ⟨c, hc⟩ : ∃ c : UInt8, (s[k]'hlt) = c := ⟨_, rfl⟩
        rw [hc] at HT HDS HNO
        have hcl := c.toNat_lt
        by_cases c1 : c.toNat < 48
        · have c1' : ((s[k]'hlt).toNat : Int) < 48 := by rw [hc]; omega
          go_wp2_with fail
          refine (giveUp_any _).mono ?_
          rintro e w1 ⟨rfl, rfl⟩
          exact ⟨rfl, .inr ⟨HNO.out (by omega), rfl⟩, Below.refl _ _⟩
        · have c1' : ¬ ((s[k]'hlt).toNat : Int) < 48 := by rw [hc]; omega
          by_cases c2 : 57 < c.toNat
          · have c2' : (57 : Int) < ((s[k]'hlt).toNat : Int) := by rw [hc]; omega
            go_wp2_with fail
            refine (giveUp_any _).mono ?_
            rintro e w1 ⟨rfl, rfl⟩
            exact ⟨rfl, .inr ⟨HNO.out (by omega), rfl⟩, Below.refl _ _⟩
          · have c2' : ¬ (57 : Int) < ((s[k]'hlt).toNat : Int) := by rw [hc]; omega
            go_wp2_with fail
            refine ⟨⟨trivial, k + 1, by omega, by go_num, ?_, HDS.out (by omega)⟩, by simp [intOf]; omega⟩
            rw [HT.out]
            congr 1
            omega
      · have hke : k = s.size := by omega
        have hd := HD.out
        rw [List.take_of_length_le (by have := HSZ.out; omega)] at hd ⊢
        have HD2 := Lib.hid hd; clear hd
        go_wp2_with fail
        go_ret
        exact ⟨.inl ⟨HD2.out, rfl⟩, Below.refl _ _⟩
  · have h5 : ¬ ((s[0]'h0).toNat : Int) = 48 := fun e => h4 (UInt8.toNat_inj.1 (by have : (48 : UInt8).toNat = 48 := rfl; omega))
    go_enter Tryz.func146, Tryz.ntmps146
    go_wp2_with fail
    go_loopw [3, 25] (fun n i wr => wr = w ∧ ∃ k : Nat, k ≤ s.size ∧ i = .int .i64 k ∧ n = .int .i64 (valL (s.data.toList.take k) : Nat) ∧ DigL (s.data.toList.take k)) (fun _ i _ => s.size - (intOf i).toNat)
    case atStart => exact ⟨rfl, 0, Nat.zero_le _, rfl, rfl, fun c hc => by simp at hc⟩
    case round =>
      obtain ⟨rfl, k, hk, rfl, rfl, hd⟩ := hrel
      have HD := Lib.hid hd; clear hd
      by_cases hlt : k < s.size
      · have hl : k < s.data.toList.length := by have := HSZ.out; omega
        have hget : s[k]'hlt = s.data.toList[k] := by rfl
        have hv := valL_lt (l := s.data.toList) (k := k) (by omega) (by have := HSZ.out; have := H9.out; omega) HD.out
        have ht := valL_take hl
        rw [← hget] at ht
        have hds := fun hc => digL_snoc hl HD.out hc
        rw [← hget] at hds
        have hno := fun (hc : ¬ (48 ≤ (s[k]'hlt).toNat ∧ (s[k]'hlt).toNat ≤ 57)) => (fun hD : DigL s.data.toList => hc (by rw [hget]; exact hD _ (List.getElem_mem hl)))
        have HT := Lib.hid ht; have HDS := Lib.hid hds; have HNO := Lib.hid hno
        clear ht hds hno hget
        obtain ⟨V, hV⟩ : ∃ V, valL (s.data.toList.take k) = V := ⟨_, rfl⟩
        rw [hV] at HT hv ⊢
        clear hV
        obtain ⟨c, hc⟩ : ∃ c : UInt8, (s[k]'hlt) = c := ⟨_, rfl⟩
        rw [hc] at HT HDS HNO
        have hcl := c.toNat_lt
        by_cases c1 : c.toNat < 48
        · have c1' : ((s[k]'hlt).toNat : Int) < 48 := by rw [hc]; omega
          go_wp2_with fail
          refine (giveUp_any _).mono ?_
          rintro e w1 ⟨rfl, rfl⟩
          exact ⟨rfl, .inr ⟨HNO.out (by omega), rfl⟩, Below.refl _ _⟩
        · have c1' : ¬ ((s[k]'hlt).toNat : Int) < 48 := by rw [hc]; omega
          by_cases c2 : 57 < c.toNat
          · have c2' : (57 : Int) < ((s[k]'hlt).toNat : Int) := by rw [hc]; omega
            go_wp2_with fail
            refine (giveUp_any _).mono ?_
            rintro e w1 ⟨rfl, rfl⟩
            exact ⟨rfl, .inr ⟨HNO.out (by omega), rfl⟩, Below.refl _ _⟩
          · have c2' : ¬ (57 : Int) < ((s[k]'hlt).toNat : Int) := by rw [hc]; omega
            go_wp2_with fail
            refine ⟨⟨trivial, k + 1, by omega, by go_num, ?_, HDS.out (by omega)⟩, by simp [intOf]; omega⟩
            rw [HT.out]
            congr 1
            omega
      · have hke : k = s.size := by omega
        have hd := HD.out
        rw [List.take_of_length_le (by have := HSZ.out; omega)] at hd ⊢
        have HD2 := Lib.hid hd; clear hd
        go_wp2_with fail
        go_ret
        exact ⟨.inl ⟨HD2.out, rfl⟩, Below.refl _ _⟩
theorem number_any (s : ByteArray) (w : World) :
    Calls Tryz.prog 146 #[.string s] w fun e w' => ((NumL s.data.toList ∧ e = .returned (.int .i64 (valL s.data.toList : Nat))) ∨ (¬ NumL s.data.toList ∧ e = .panicked [noBook])) ∧ Below w.heap.size w w' := by
  have hsz : s.size = s.data.toList.length := Array.length_toList.symm
  by_cases h0 : 0 < s.size
  · by_cases h9 : s.size ≤ 9
    · have hh : s.data.toList[0]? = some (s[0]'h0) := List.getElem?_eq_getElem (by omega)
      by_cases hz : s[0]'h0 = 48 → s.size = 1
      · refine (number_loop s h9 h0 hz w).mono ?_
        rintro e w' ⟨h, hb⟩
        refine ⟨?_, hb⟩
        rcases h with ⟨hd, rfl⟩ | ⟨hd, rfl⟩
        · refine .inl ⟨⟨fun e => by have := congrArg List.length e; simp only [List.length_nil] at this; omega, by omega, fun e => ?_, hd⟩, rfl⟩
          rw [hh] at e
          have := hz (Option.some.inj e)
          omega
        · exact .inr ⟨fun h => hd h.2.2.2, rfl⟩
      · have hz' : s[0]'h0 = 48 ∧ s.size ≠ 1 := by simpa using hz
        refine (number_zero s h9 (by omega) hz'.1 w).mono ?_
        rintro e w' ⟨rfl, rfl⟩
        refine ⟨.inr ⟨fun h => ?_, rfl⟩, Below.refl _ _⟩
        have := h.2.2.1 (by rw [hh, hz'.1])
        omega
    · refine (number_long s (by omega) w).mono ?_
      rintro e w' ⟨rfl, rfl⟩
      exact ⟨.inr ⟨fun h => by have := h.2.1; omega, rfl⟩, Below.refl _ _⟩
  · have hs : s = ⟨#[]⟩ := by
      have : s.data = #[] := Array.eq_empty_of_size_eq_zero (by show s.size = 0; omega)
      cases s; simp_all
    subst hs
    refine (number_empty w).mono ?_
    rintro e w' ⟨rfl, rfl⟩
    exact ⟨.inr ⟨fun h => h.1 rfl, rfl⟩, Below.refl _ _⟩
end Go.Proofs.YtdlaphlpimlgdaaGreatDoor
