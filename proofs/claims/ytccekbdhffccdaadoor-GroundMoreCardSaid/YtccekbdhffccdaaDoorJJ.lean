/- The years of the examples. -/
import Derived.Test.YtccekbdhffccdaaDoorJ
namespace Go.Proofs.YtccekbdhffccdaaDoor
open Go.RowKit

def exY : Yr := ⟨60000, 70000, 50000, 90000, 100, 300⟩
def yrC : List Value := [.int .i64 60000, .int .i64 70000, .int .i64 50000, .int .i64 90000, .int .i64 100, .int .i64 300]
def yrsC (k : Nat) : List Value := (List.replicate k yrC).flatten
theorem yrsC_succ (k : Nat) : yrsC (k + 1) = yrsC k ++ yrC := by
  simp [yrsC, List.replicate_succ']

theorem yrsC_length (k : Nat) : (yrsC k).length = k * 6 := by
  induction k with
  | zero => rfl
  | succ k ih => rw [yrsC_succ, List.length_append, ih]; simp [yrC]; omega
theorem yrsC_get {n j i : Nat} (hj : j < n) (hi : i < 6) : (yrsC n)[j * 6 + i]? = yrC[i]? := by
  induction n with
  | zero => omega
  | succ n ih =>
    rw [yrsC_succ]
    by_cases h : j < n
    · rw [List.getElem?_append_left (by rw [yrsC_length]; omega)]
      exact ih h
    · have : j = n := by omega
      subst this
      rw [List.getElem?_append_right (by rw [yrsC_length]; omega), yrsC_length, Nat.add_sub_cancel_left]
theorem yrsC_at {w : World} {B n : Nat} {v : Value} (h : w.ownsRow B 88 6 v n (yrsC n)) : ∃ A c, v = .slice A n c ∧ n ≤ c ∧ YrsAt w w.heap.size A (List.replicate n exY) := by
  rcases h.2 with ⟨rfl, rfl⟩ | ⟨g, cap, cur, rfl, hg, hh, hn, hc, hs, ht⟩
  · exact ⟨none, 0, rfl, Nat.le_refl _, fun h => absurd rfl h⟩
  · refine ⟨_, cap, rfl, hn, fun _ => ⟨g, 0, rfl, (Array.getElem?_eq_some_iff.1 hh).1, fun j x hx => ?_⟩⟩
    have hj : j < n := by
      have := (List.getElem?_eq_some_iff.1 hx).1
      simpa using this
    have hx' : x = exY := by
      have := List.mem_of_getElem? hx
      simpa using List.eq_of_mem_replicate this
    subst hx'
    have hc2 : ∀ i, i < 6 → w.cell? ⟨g, 0 + j * 6 + i, none⟩ = yrC[i]? := fun i hi => by
      rw [cell_of_row w g _ cur 88 (0, 0) hh, Nat.zero_add, ← yrsC_get hj hi, ← ht, List.getElem?_take_of_lt (by omega), ← Array.getElem?_toList]
    exact ⟨hc2 0 (by omega), hc2 1 (by omega), hc2 2 (by omega), hc2 3 (by omega), hc2 4 (by omega), hc2 5 (by omega)⟩
theorem yr_new (w : World) (t : TypeId) : ∀ j u, yrC[j]? = some u → (w.alloc (.cells #[.int .i64 60000, .int .i64 70000, .int .i64 50000, .int .i64 90000, .int .i64 100, .int .i64 300] t)).cell? ((⟨w.heap.size, 0, none⟩ : Addr).add j) = some u := by
  intro j u hj
  have h := heap_alloc_new w (.cells #[.int .i64 60000, .int .i64 70000, .int .i64 50000, .int .i64 90000, .int .i64 100, .int .i64 300] t)
  have hl : j < 6 := (List.getElem?_eq_some_iff.1 hj).1
  rw [show (⟨w.heap.size, 0, none⟩ : Addr).add j = ⟨w.heap.size, j, none⟩ by simp [Addr.add]; omega, cell_of_row _ w.heap.size _ _ t (0, 0) h]
  match j, hl with
  | 0, _ => exact hj
  | 1, _ => exact hj
  | 2, _ => exact hj
  | 3, _ => exact hj
  | 4, _ => exact hj
  | 5, _ => exact hj
theorem yr_info : (Tryd.prog.info? 88).map (fun i => (i.zero, i.size, i.bytes)) = some (some (.agg #[.int .i64 0, .int .i64 0, .int .i64 0, .int .i64 0, .int .i64 0, .int .i64 0]), 6, 48) := by kernel_rfl

set_option maxRecDepth 100000 in
set_option maxHeartbeats 1000000 in
theorem Y_any (n : Nat) (hn : n ≤ 12) (w : World) :
    Calls Tryd.prog 50 #[.int .i64 n] w fun e w' => ∃ A c, e = .returned (.slice A n c) ∧ n ≤ c ∧ YrsAt w' w'.heap.size A (List.replicate n exY) ∧ Below w.heap.size w w' := by
  obtain ⟨i0, hi0, hz0, hz1, hz2⟩ := info_parts yr_info
  have I0 := Lib.hid hi0; clear hi0
  have Z0 := Lib.hid hz0; clear hz0
  have Z1 := Lib.hid hz1; clear hz1
  have Z2 := Lib.hid hz2; clear hz2
  go_enter Tryd.func50, Tryd.ntmps50
  go_wp2
  go_loopw [3, 4] (fun v i wr => ∃ k : Nat, k ≤ n ∧ i = .int .i64 k ∧ wr.ownsRow w.heap.size 88 6 v k (yrsC k) ∧ Below w.heap.size w wr) (fun _ i _ => n - (intOf i).toNat)
  case atStart => exact ⟨0, Nat.zero_le _, rfl, ⟨rfl, .inl ⟨rfl, rfl⟩⟩, Below.refl _ _⟩
  case round =>
    obtain ⟨k, hk, rfl, hown, hbr⟩ := hrel
    have HO := Lib.hid hown; clear hown
    have HB := Lib.hid hbr; clear hbr
    by_cases hlt : k < n
    · go_wp2_with fail
      refine (span_any _ _ _).mono ?_
      rintro e w1 ⟨rfl, hb1⟩
      have B1 := Lib.hid hb1
      clear hb1
      go_wp2_with fail
      refine (span_any _ _ _).mono ?_
      rintro e w2 ⟨rfl, hb2⟩
      have B2 := Lib.hid (B1.out.trans (hb2.mono B1.out.size))
      clear hb2
      go_wp2_with fail
      refine (span_any _ _ _).mono ?_
      rintro e w3 ⟨rfl, hb3⟩
      have B3 := Lib.hid (B2.out.trans (hb3.mono B2.out.size))
      clear hb3
      have hw3 : w.heap.size ≤ w3.heap.size := Nat.le_trans HB.out.size B3.out.size
      go_wp2_with (first
        | (at_builtin
           refine wpList_append_own _ rfl _ _ 27 rfl w.heap.size 88 i0 _ 6 48 Tryd.underlying27 I0.out Z0.out Z1.out Z2.out rfl (by decide) _ _ _ rfl ((own_next HO.out B3.out).alloc _) ⟨w3.heap.size, 0, none⟩ 1 1 yrC rfl rfl (yr_new _ _) (by decide) (by unfold maxLen; omega) (by omega) (by simp; omega) ?_
           intro v' w4 hown4 hgrow4 hnil4)
        | fail)
      have hb4 : Below w.heap.size w w4 := Below.grown (((HB.out.trans (B3.out.mono HB.out.size))).alloc hw3 _) hgrow4 (by simp; omega) (fun j hj => (HO.out.lt _ hj).1)
      refine ⟨⟨k + 1, by omega, rfl, ?_, hb4⟩, by simp [intOf]; omega⟩
      rw [yrsC_succ]
      exact hown4
    · have hkn : k = n := by omega
      subst hkn
      go_wp2
      go_ret
      obtain ⟨A, c, rfl, h1, h2⟩ := yrsC_at HO.out
      exact ⟨A, c, rfl, h1, h2, HB.out⟩
end Go.Proofs.YtccekbdhffccdaaDoor
