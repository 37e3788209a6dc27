/- The specification's numbers of a book. -/
import Derived.Test.YtdlaphlpimlgdaaGreatDoorET
import Derived.Test.YtdlaphlpimlgdaaGreatDoorEC
import Derived.Laws.IdiomStrings
namespace Go.Proofs.YtdlaphlpimlgdaaGreatDoor
open Go.RowKit Go.Shelf

theorem of_digR {r : Nat} (h : r < 10) : (UInt8.ofNat (48 + r)).toNat = 48 + r := by
  rw [UInt8.toNat_ofNat']
  omega
theorem conv_one (w : World) (r : Nat) (hr : r < 10) : (convert 100 9 (.slice (some ⟨w.heap.size, 0, none⟩) 1 1)).run Tryz.prog (w.alloc (.cells #[.int .u8 (48 + (r : Int))] 5)) = .ok (.string ⟨#[UInt8.ofNat (48 + r)]⟩) (w.alloc (.cells #[.int .u8 (48 + (r : Int))] 5)) := by
  refine run_convert_bytes_back (P := Tryz.prog) (w.alloc (.cells #[.int .u8 (48 + (r : Int))] 5)) 100 9 5 ⟨w.heap.size, 0, none⟩ 1 [UInt8.ofNat (48 + r)] Tryz.underlying100 Tryz.underlying5 Tryz.underlying9 (fun j hj => ?_)
  have hj0 : j = 0 := by simpa using hj
  subst hj0
  show (w.alloc (.cells #[.int .u8 (48 + (r : Int))] 5)).cell? ⟨w.heap.size, 0, none⟩ = _
  rw [cell_of_row _ w.heap.size 0 _ 5 (0, 0) (heap_alloc_new w (.cells #[.int .u8 (48 + (r : Int))] 5))]
  show some (Value.int .u8 (48 + (r : Int))) = some (Value.int .u8 ((UInt8.ofNat (48 + r)).toNat : Int))
  rw [of_digR hr]
  rfl
def preD (v : Nat) : List UInt8 := if v < 10 then [] else Lib.decDigits (v / 10)
theorem dd_pre (v : Nat) : Lib.decDigits v = preD v ++ [UInt8.ofNat (48 + v % 10)] := by
  unfold preD
  split
  · rename_i h
    rw [Lib.decDigits_one h, Nat.mod_eq_of_lt h]
    rfl
  · rename_i h
    exact dd_big h
theorem dd_pre_at {u r2 : Nat} {c2 : UInt8} (hr2 : u % 10 = r2) (hc : UInt8.ofNat (48 + r2) = c2) : Lib.decDigits u = preD u ++ [c2] := by rw [dd_pre, hr2, hc]
theorem u8_factD (r : Nat) (hr : r < 10) : Value.int .u8 (wrap64 (48 + (r : Int)) % 256) = Value.int .u8 (48 + (r : Int)) := by
  have : wrap64 (48 + (r : Int)) = 48 + (r : Int) := by unfold wrap64; omega
  rw [this, Int.emod_eq_of_lt (by omega) (by omega)]
set_option maxRecDepth 100000 in
set_option maxHeartbeats 4000000 in
theorem dec_nat (N : Nat) (h : N < 100000000) (w : World) : Calls Tryz.prog 102 #[.int .i64 (N : Int)] w fun e w' => e = .returned (.string ⟨(Lib.decDigits N).toArray⟩) ∧ Below w.heap.size w w' := by
  obtain ⟨r, hr⟩ : ∃ r : Nat, N % 10 = r := ⟨_, rfl⟩
  have hr10 : r < 10 := by omega
  have t1 : ((N : Nat) : Int).tmod 10 = (r : Int) := by rw [Int.tmod_eq_emod_of_nonneg (by omega)]; omega
  have v1 := u8_factD r hr10
  have cv := conv_one w r hr10
  have hN0 : ¬ ((N : Nat) : Int) < 0 := by omega
  obtain ⟨c, hc⟩ : ∃ c, UInt8.ofNat (48 + r) = c := ⟨_, rfl⟩
  rw [hc] at cv
  have HB1 := Lib.hid ((Below.refl w.heap.size w).alloc (Nat.le_refl _) (.cells #[.int .u8 (48 + (r : Int))] 5))
  have HP := Lib.hid (show Lib.decDigits N = preD N ++ [c] by rw [dd_pre, hr, hc])
  clear hr hc
  go_enter Tryz.func102, Tryz.ntmps102
  go_wp2_with fail
  clear t1 v1 cv hN0
  go_loopw [0, 3] (fun a s wr => ∃ (v : Nat) (S : List UInt8), v < 100000000 ∧ a = .int .i64 (v : Int) ∧ s = .string ⟨S.toArray⟩ ∧ Lib.decDigits N = preD v ++ S ∧ S.length ≤ 20 + N - v ∧ v ≤ N ∧ Below w.heap.size w wr) (fun a _ _ => (intOf a).toNat)
  case atStart => exact ⟨N, [c], h, rfl, rfl, HP.out, by simp, Nat.le_refl _, HB1.out⟩
  case round =>
    obtain ⟨v, S, hv, rfl, rfl, hS, hl, hvn, hb⟩ := hrel
    have HS := Lib.hid hS; have HB := Lib.hid hb
    clear hS hb
    by_cases hlt : 10 ≤ v
    · have q0 : (10 : Int) ≤ (v : Int) := by omega
      obtain ⟨u, hu⟩ : ∃ u : Nat, v / 10 = u := ⟨_, rfl⟩
      obtain ⟨r2, hr2⟩ : ∃ r2 : Nat, u % 10 = r2 := ⟨_, rfl⟩
      have q1 : ((v : Nat) : Int).tdiv 10 = (u : Int) := by rw [Int.tdiv_eq_ediv_of_nonneg (by omega)]; omega
      have t2 : ((u : Nat) : Int).tmod 10 = (r2 : Int) := by rw [Int.tmod_eq_emod_of_nonneg (by omega)]; omega
      have v2 := u8_factD r2 (by omega)
      have cv := conv_one wr r2 (by omega)
      obtain ⟨c2, hc⟩ : ∃ c, UInt8.ofNat (48 + r2) = c := ⟨_, rfl⟩
      rw [hc] at cv
      obtain ⟨B, hB⟩ : ∃ B : ByteArray, ByteArray.mk S.toArray = B := ⟨_, rfl⟩
      have hBs : B.size ≤ 200000000 := by rw [← hB]; show S.toArray.size ≤ _; rw [List.size_toArray]; omega
      rw [hB]
      have HBB := Lib.hid hB
      have HU := Lib.hid (show preD v = preD u ++ [c2] by rw [← dd_pre_at hr2 hc]; unfold preD; rw [if_neg (by omega), hu])
      have HUV := Lib.hid (show u < v by omega)
      have HL := Lib.hid (show S.length + 1 ≤ 20 + N - u ∧ u ≤ N ∧ u < 100000000 by omega)
      have HBA := Lib.hid (HB.out.alloc HB.out.size (.cells #[.int .u8 (48 + (r2 : Int))] 5))
      have qw : wrap64 (u : Int) = (u : Int) := by unfold wrap64; omega
      clear hB hu hr2 hc
      go_wp2_with fail
      refine ⟨⟨u, c2 :: S, HL.out.2.2, by rw [qw], ?_, ?_, by simp only [List.length_cons]; exact HL.out.1, HL.out.2.1, HBA.out⟩, ?_⟩
      · rw [← HBB.out, ByteArray.mk_append_mk]
        rfl
      · rw [HS.out, HU.out]
        simp
      · have h7 := HUV.out
        rw [qw]
        clear qw q1 t2 v2 cv
        simp only [intOf]
        omega
    · have q0 : ¬ (10 : Int) ≤ (v : Int) := by omega
      have hS := HS.out
      unfold preD at hS
      rw [if_pos (by omega), List.nil_append] at hS
      have HS2 := Lib.hid hS
      clear hS
      go_wp2_with fail
      go_ret
      rw [HS2.out]
      exact ⟨rfl, HB.out⟩
set_option maxRecDepth 100000 in
set_option maxHeartbeats 2000000 in
theorem dec_any (x : Int) (h : -10000000 < x ∧ x < 10000000) (w : World) : Calls Tryz.prog 102 #[.int .i64 x] w fun e w' => e = .returned (.string ⟨(Lib.itoa x).toArray⟩) ∧ Below w.heap.size w w' := by
  by_cases h0 : 0 ≤ x
  · have h1 := dec_nat x.toNat (by omega) w
    rw [itoa_nat h0]
    rwa [show ((x.toNat : Nat) : Int) = x by omega] at h1
  · have hx : x < 0 := by omega
    obtain ⟨N, hN⟩ : ∃ N : Nat, -x = (N : Int) := ⟨(-x).toNat, by omega⟩
    have HI : Hid (Lib.itoa x = 45 :: Lib.decDigits N) := Lib.hid (by unfold Lib.itoa; rw [if_pos hx, show x.natAbs = N by omega])
    have hw : wrap64 (-x) = (N : Int) := by unfold wrap64; omega
    have hN8 : N < 100000000 := by omega
    have HDD := Lib.hid (show (Lib.decDigits N).length ≤ 8 from dd_len 7 N (by omega))
    go_enter Tryz.func102, Tryz.ntmps102
    go_wp2_with fail
    clear hw
    refine (dec_nat N hN8 w).mono ?_
    rintro e w5 ⟨rfl, hb5⟩
    have HB5 := Lib.hid hb5
    clear hb5
    obtain ⟨B, hB⟩ : ∃ B : ByteArray, ByteArray.mk (Lib.decDigits N).toArray = B := ⟨_, rfl⟩
    have hBs : B.size ≤ 8 := by rw [← hB]; show (Lib.decDigits N).toArray.size ≤ _; rw [List.size_toArray]; exact HDD.out
    rw [hB]
    have HBB := Lib.hid hB
    clear hB
    go_wp2_with fail
    go_ret
    refine ⟨?_, HB5.out⟩
    rw [HI.out, ← HBB.out, ByteArray.mk_append_mk]
    rfl
end Go.Proofs.YtdlaphlpimlgdaaGreatDoor
