/- Numbers of a log, as the program reads them. -/
import Derived.Test.YtccekbdhffccdaaDoorEE
import Derived.Test.YtccekbdhffccdaaDoorLA
import Derived.Test.YtccekbdhffccdaaDoorRP
import Derived.Laws.RangeAny
import Derived.Laws.Strings
import Derived.Laws.Strings2
import Derived.Laws.Strings3
import Derived.LoopTactic
namespace Go.Proofs.YtccekbdhffccdaaDoor
open Go.RowKit

def noLog : PanicEntry := { v := .iface 9 (.string ⟨#[110, 111, 32, 108, 111, 103]⟩), recovered := false }
theorem giveUp_any (w : World) : Calls Tryd.prog 98 #[] w fun e w' => e = .panicked [noLog] ∧ w' = w := by
  go_enter Tryd.func98, Tryd.ntmps98
  go_wp2
  exact ⟨rfl, rfl, rfl⟩
theorem digL_snoc {l : List UInt8} {k : Nat} (h : k < l.length) (hd : DigL (l.take k)) (hc : 48 ≤ l[k].toNat ∧ l[k].toNat ≤ 57) : DigL (l.take (k + 1)) := by
  rw [List.take_succ_eq_append_getElem h]
  intro c hm
  rcases List.mem_append.1 hm with hm | hm
  · exact hd c hm
  · simp only [List.mem_singleton] at hm
    rw [hm]
    exact hc
theorem valL_take {l : List UInt8} {k : Nat} (h : k < l.length) : valL (l.take (k + 1)) = 10 * valL (l.take k) + (l[k].toNat - 48) := by
  rw [List.take_succ_eq_append_getElem h, valL_snoc]
set_option maxRecDepth 100000 in
set_option maxHeartbeats 2000000 in
theorem number_empty (w : World) :
    Calls Tryd.prog 105 #[.string ⟨#[]⟩] w fun e w' => e = .panicked [noLog] ∧ w' = w := by
  go_enter Tryd.func105, Tryd.ntmps105
  go_wp2_with fail
  refine (giveUp_any _).mono ?_
  rintro e w1 ⟨rfl, rfl⟩
  exact ⟨rfl, rfl, rfl⟩
theorem bytes_some {s : ByteArray} (h : 0 < s.size) : s.toList.isEmpty = false := by
  rw [ByteArray.toList_eq]
  have : s.data.toList.length = s.size := Array.length_toList
  cases hl : s.data.toList with
  | nil => rw [hl] at this; simp at this; omega
  | cons x l => rfl
set_option maxRecDepth 100000 in
set_option maxHeartbeats 2000000 in
theorem number_long (s : ByteArray) (h : 8 < s.size) (w : World) :
    Calls Tryd.prog 105 #[.string s] w fun e w' => e = .panicked [noLog] ∧ w' = w := by
  have h1 := bytes_some (s := s) (by omega)
  go_enter Tryd.func105, Tryd.ntmps105
  go_wp2_with fail
  refine (giveUp_any _).mono ?_
  rintro e w1 ⟨rfl, rfl⟩
  exact ⟨rfl, rfl, rfl⟩
set_option maxRecDepth 100000 in
set_option maxHeartbeats 2000000 in
theorem number_zero (s : ByteArray) (h : s.size ≤ 8) (h0 : 1 < s.size) (hz : s[0]'(by omega) = 48) (w : World) :
    Calls Tryd.prog 105 #[.string s] w fun e w' => e = .panicked [noLog] ∧ w' = w := by
  have h1 := bytes_some (s := s) (by omega)
  have h2 : 0 < s.size := by omega
  have h3 : ¬ (8 : Int) < (s.size : Int) := by omega
  go_enter Tryd.func105, Tryd.ntmps105
  go_wp2_with fail
  refine (giveUp_any _).mono ?_
  rintro e w1 ⟨rfl, rfl⟩
  exact ⟨rfl, rfl, rfl⟩
theorem valL_lt {l : List UInt8} {k : Nat} (hk : k ≤ l.length) (h8 : l.length ≤ 8) (h : DigL (l.take k)) : valL (l.take k) < 100000000 := by
  have h1 := val_lt h
  have h2 : 10 ^ (l.take k).length ≤ 10 ^ 8 := Nat.pow_le_pow_right (by decide) (by rw [List.length_take]; omega)
  omega
set_option maxRecDepth 100000 in
set_option maxHeartbeats 4000000 in
theorem number_loop (s : ByteArray) (h : s.size ≤ 8) (h0 : 0 < s.size) (hz : s[0]'h0 = 48 → s.size = 1) (w : World) :
    Calls Tryd.prog 105 #[.string s] w fun e w' => ((DigL s.data.toList ∧ e = .returned (.int .i64 (valL s.data.toList : Nat))) ∨ (¬ DigL s.data.toList ∧ e = .panicked [noLog])) ∧ Below w.heap.size w w' := by
  have h1 := bytes_some h0
  have HSZ := Lib.hid (show s.size = s.data.toList.length from Array.length_toList.symm)
  have h3 : ¬ (8 : Int) < (s.size : Int) := by omega
  have hq : (s[0]'h0 = 48 ∧ s.size = 1) ∨ ¬ s[0]'h0 = 48 := by
    by_cases e : s[0]'h0 = 48
    · exact .inl ⟨e, hz e⟩
    · exact .inr e
  have HB : ∀ k, Below w.heap.size w (w.iter s k) := fun k => (Below.refl _ _).alloc (Nat.le_refl _) _
  have H8 := Lib.hid h
  clear hz h
  rcases hq with ⟨h4, h5⟩ | h4
  · have h6 : ¬ (1 : Int) < (s.size : Int) := by omega
    go_enter Tryd.func105, Tryd.ntmps105
    go_wp2_with fail
    go_loopw [3] (fun n wr => ∃ k : Nat, k ≤ s.size ∧ wr = w.iter s k ∧ n = .int .i64 (valL (s.data.toList.take k) : Nat) ∧ DigL (s.data.toList.take k)) (fun _ wr => s.size - wr.iterPos w.heap.size)
    case atStart => exact ⟨0, Nat.zero_le _, rfl, rfl, fun c hc => by simp at hc⟩
    case round =>
      obtain ⟨k, hk, rfl, rfl, hd⟩ := hrel
      have HD := Lib.hid hd; clear hd
      by_cases hlt : k < s.size
      · have hl : k < s.data.toList.length := by have := HSZ.out; omega
        have hget : s[k]'hlt = s.data.toList[k] := by rfl
        by_cases ha : (s[k]'hlt).toNat < 128
        · have hnx : ∀ ty, (Instr.next (.pointer (some ⟨w.heap.size, 0, none⟩)) true ty).run Tryd.prog (w.iter s k) = _ := fun ty => run_next_ascii w s k ty hlt ha
          have hv := valL_lt (l := s.data.toList) (k := k) (by omega) (by have := HSZ.out; have := H8.out; omega) HD.out
          have ht := valL_take hl
          rw [← hget] at ht
          have hds := fun hc => digL_snoc hl HD.out hc
          rw [← hget] at hds
          have hno := fun (hc : ¬ (48 ≤ (s[k]'hlt).toNat ∧ (s[k]'hlt).toNat ≤ 57)) => (fun hD : DigL s.data.toList => hc (by rw [hget]; exact hD _ (List.getElem_mem hl)))
          have HT := Lib.hid ht; have HDS := Lib.hid hds; have HNO := Lib.hid hno
          clear ht hds hno hget
          obtain ⟨V, hV⟩ : ∃ V, valL (s.data.toList.take k) = V := ⟨_, rfl⟩
          rw [hV] at HT hv ⊢
          clear hV
          obtain ⟨c, hc⟩ : ∃ c : Nat, (s[k]'hlt).toNat = c := ⟨_, rfl⟩
          rw [hc] at HT HDS HNO hnx ha
          clear hc
          by_cases c1 : c < 48
          · have c1' : (c : Int) < 48 := by omega
            go_wp2_with fail
            refine (giveUp_any _).mono ?_
            rintro e w1 ⟨rfl, rfl⟩
            exact ⟨rfl, .inr ⟨HNO.out (by omega), rfl⟩, HB _⟩
          · by_cases c2 : 57 < c
            · have c1' : ¬ (c : Int) < 48 := by omega
              have c2' : (57 : Int) < c := by omega
              go_wp2_with fail
              refine (giveUp_any _).mono ?_
              rintro e w1 ⟨rfl, rfl⟩
              exact ⟨rfl, .inr ⟨HNO.out (by omega), rfl⟩, HB _⟩
            · have c1' : ¬ (c : Int) < 48 := by omega
              have c2' : ¬ (57 : Int) < c := by omega
              go_wp2_with fail
              refine ⟨⟨k + 1, by omega, rfl, ?_, HDS.out (by omega)⟩, by simp; omega⟩
              rw [HT.out]
              congr 1
              omega
        · have hnx : ∀ ty, (Instr.next (.pointer (some ⟨w.heap.size, 0, none⟩)) true ty).run Tryd.prog (w.iter s k) = _ := fun ty => run_next_any w s k ty hlt
          obtain ⟨c, hc⟩ : ∃ c : Nat, (Utf8.decode s k).1 = c := ⟨_, rfl⟩
          have hc1 := (decode_high s k hlt (by omega)).1
          have hc3 := decode_le s k
          rw [hc] at hnx hc1 hc3
          have hno : ¬ DigL s.data.toList := fun hD => by
            have := hD _ (List.getElem_mem hl)
            rw [← hget] at this
            omega
          have HNO := Lib.hid hno
          clear hno hget ha hc
          have c1' : ¬ (c : Int) < 48 := by omega
          have c2' : (57 : Int) < c := by omega
          go_wp2_with fail
          refine (giveUp_any _).mono ?_
          rintro e w1 ⟨rfl, rfl⟩
          exact ⟨rfl, .inr ⟨HNO.out, rfl⟩, HB _⟩
      · have hnx : ∀ ty, (Instr.next (.pointer (some ⟨w.heap.size, 0, none⟩)) true ty).run Tryd.prog (w.iter s k) = _ := fun ty => run_next_end w s k ty hlt
        have hd := HD.out
        rw [List.take_of_length_le (by have := HSZ.out; omega)] at hd ⊢
        have HD2 := Lib.hid hd; clear hd
        go_wp2_with fail
        go_ret
        exact ⟨.inl ⟨HD2.out, rfl⟩, HB _⟩
  · have h5 : ¬ ((s[0]'h0).toNat : Int) = 48 := fun e => h4 (UInt8.toNat_inj.1 (by have : (48 : UInt8).toNat = 48 := rfl; omega))
    go_enter Tryd.func105, Tryd.ntmps105
    go_wp2_with fail
    go_loopw [3] (fun n wr => ∃ k : Nat, k ≤ s.size ∧ wr = w.iter s k ∧ n = .int .i64 (valL (s.data.toList.take k) : Nat) ∧ DigL (s.data.toList.take k)) (fun _ wr => s.size - wr.iterPos w.heap.size)
    case atStart => exact ⟨0, Nat.zero_le _, rfl, rfl, fun c hc => by simp at hc⟩
    case round =>
      obtain ⟨k, hk, rfl, rfl, hd⟩ := hrel
      have HD := Lib.hid hd; clear hd
      by_cases hlt : k < s.size
      · have hl : k < s.data.toList.length := by have := HSZ.out; omega
        have hget : s[k]'hlt = s.data.toList[k] := by rfl
        by_cases ha : (s[k]'hlt).toNat < 128
        · have hnx : ∀ ty, (Instr.next (.pointer (some ⟨w.heap.size, 0, none⟩)) true ty).run Tryd.prog (w.iter s k) = _ := fun ty => run_next_ascii w s k ty hlt ha
          have hv := valL_lt (l := s.data.toList) (k := k) (by omega) (by have := HSZ.out; have := H8.out; omega) HD.out
          have ht := valL_take hl
          rw [← hget] at ht
          have hds := fun hc => digL_snoc hl HD.out hc
          rw [← hget] at hds
          have hno := fun (hc : ¬ (48 ≤ (s[k]'hlt).toNat ∧ (s[k]'hlt).toNat ≤ 57)) => (fun hD : DigL s.data.toList => hc (by rw [hget]; exact hD _ (List.getElem_mem hl)))
          have HT := Lib.hid ht; have HDS := Lib.hid hds; have HNO := Lib.hid hno
          clear ht hds hno hget
          obtain ⟨V, hV⟩ : ∃ V, valL (s.data.toList.take k) = V := ⟨_, rfl⟩
          rw [hV] at HT hv ⊢
          clear hV
          obtain ⟨c, hc⟩ : ∃ c : Nat, (s[k]'hlt).toNat = c := ⟨_, rfl⟩
          rw [hc] at HT HDS HNO hnx ha
          clear hc
          by_cases c1 : c < 48
          · have c1' : (c : Int) < 48 := by omega
            go_wp2_with fail
            refine (giveUp_any _).mono ?_
            rintro e w1 ⟨rfl, rfl⟩
            exact ⟨rfl, .inr ⟨HNO.out (by omega), rfl⟩, HB _⟩
          · by_cases c2 : 57 < c
            · have c1' : ¬ (c : Int) < 48 := by omega
              have c2' : (57 : Int) < c := by omega
              go_wp2_with fail
              refine (giveUp_any _).mono ?_
              rintro e w1 ⟨rfl, rfl⟩
              exact ⟨rfl, .inr ⟨HNO.out (by omega), rfl⟩, HB _⟩
            · have c1' : ¬ (c : Int) < 48 := by omega
              have c2' : ¬ (57 : Int) < c := by omega
              go_wp2_with fail
              refine ⟨⟨k + 1, by omega, rfl, ?_, HDS.out (by omega)⟩, by simp; omega⟩
              rw [HT.out]
              congr 1
              omega
        · have hnx : ∀ ty, (Instr.next (.pointer (some ⟨w.heap.size, 0, none⟩)) true ty).run Tryd.prog (w.iter s k) = _ := fun ty => run_next_any w s k ty hlt
          obtain ⟨c, hc⟩ : ∃ c : Nat, (Utf8.decode s k).1 = c := ⟨_, rfl⟩
          have hc1 := (decode_high s k hlt (by omega)).1
          have hc3 := decode_le s k
          rw [hc] at hnx hc1 hc3
          have hno : ¬ DigL s.data.toList := fun hD => by
            have := hD _ (List.getElem_mem hl)
            rw [← hget] at this
            omega
          have HNO := Lib.hid hno
          clear hno hget ha hc
          have c1' : ¬ (c : Int) < 48 := by omega
          have c2' : (57 : Int) < c := by omega
          go_wp2_with fail
          refine (giveUp_any _).mono ?_
          rintro e w1 ⟨rfl, rfl⟩
          exact ⟨rfl, .inr ⟨HNO.out, rfl⟩, HB _⟩
      · have hnx : ∀ ty, (Instr.next (.pointer (some ⟨w.heap.size, 0, none⟩)) true ty).run Tryd.prog (w.iter s k) = _ := fun ty => run_next_end w s k ty hlt
        have hd := HD.out
        rw [List.take_of_length_le (by have := HSZ.out; omega)] at hd ⊢
        have HD2 := Lib.hid hd; clear hd
        go_wp2_with fail
        go_ret
        exact ⟨.inl ⟨HD2.out, rfl⟩, HB _⟩
theorem number_any (s : ByteArray) (w : World) :
    Calls Tryd.prog 105 #[.string s] w fun e w' => ((NumL s.data.toList ∧ e = .returned (.int .i64 (valL s.data.toList : Nat))) ∨ (¬ NumL s.data.toList ∧ e = .panicked [noLog])) ∧ Below w.heap.size w w' := by
  have hsz : s.size = s.data.toList.length := Array.length_toList.symm
  by_cases h0 : 0 < s.size
  · by_cases h8 : s.size ≤ 8
    · have hh : s.data.toList[0]? = some (s[0]'h0) := List.getElem?_eq_getElem (by omega)
      by_cases hz : s[0]'h0 = 48 → s.size = 1
      · refine (number_loop s h8 h0 hz w).mono ?_
        rintro e w' ⟨h, hb⟩
        refine ⟨?_, hb⟩
        rcases h with ⟨hd, rfl⟩ | ⟨hd, rfl⟩
        · refine .inl ⟨⟨fun e => by have := congrArg List.length e; simp only [List.length_nil] at this; omega, by omega, fun e => ?_, hd⟩, rfl⟩
          rw [hh] at e
          have := hz (Option.some.inj e)
          omega
        · exact .inr ⟨fun h => hd h.2.2.2, rfl⟩
      · have hz' : s[0]'h0 = 48 ∧ s.size ≠ 1 := by simpa using hz
        refine (number_zero s h8 (by omega) hz'.1 w).mono ?_
        rintro e w' ⟨rfl, rfl⟩
        refine ⟨.inr ⟨fun h => ?_, rfl⟩, Below.refl _ _⟩
        have := h.2.2.1 (by rw [hh, hz'.1])
        omega
    · refine (number_long s (by omega) w).mono ?_
      rintro e w' ⟨rfl, rfl⟩
      exact ⟨.inr ⟨fun h => by have := h.2.1; omega, rfl⟩, Below.refl _ _⟩
  · have hs : s = ⟨#[]⟩ := by
      have : s.data = #[] := Array.eq_empty_of_size_eq_zero (by show s.size = 0; omega)
      cases s; simp_all
    subst hs
    refine (number_empty w).mono ?_
    rintro e w' ⟨rfl, rfl⟩
    exact ⟨.inr ⟨fun h => h.1 rfl, rfl⟩, Below.refl _ _⟩
end Go.Proofs.YtccekbdhffccdaaDoor
