/- Stores: what a plan costs, by the statements' package. -/
import Derived.Test.YtijjkiogmlannaaDoorWV
namespace Go.Proofs.YtijjkiogmlannaaDoor
open Go.RowKit

theorem cosL_nil (S : Sto) : cosL S [] = 0 := rfl
theorem fil_len (p k : Nat) : ((List.range k).filter (hasB p)).length ≤ k := Nat.le_trans (List.length_filter_le _ _) (by simp)
theorem cosF_succ (S : Sto) (p k : Nat) : cosL S ((List.range (k + 1)).filter (hasB p)) = cosL S ((List.range k).filter (hasB p)) + (if hasB p k then (S.ship k).c else 0) := by
  rw [List.range_succ, List.filter_append]
  cases hh : hasB p k with
  | true =>
    have e : [k].filter (hasB p) = [k] := by simp [hh]
    rw [e, cosL_snoc]; rfl
  | false =>
    have e : [k].filter (hasB p) = [] := by simp [hh]
    rw [e, List.append_nil]; simp
set_option maxRecDepth 100000 in
set_option maxHeartbeats 4000000 in
theorem rcost_any {X : SX} {w : World} (h : X.In w) (K : X.S.Ok) (p : Nat) (hp : p ≤ 1000000) : Calls Tryd.prog 30 #[X.v, .int .i64 (p : Int)] w fun e w' => e = .returned (.int .i64 (X.S.cost p)) ∧ Below w.heap.size w w' := by
  have n6 := K.n6
  rcases X with ⟨S, AS, ns, cs, AI, ni, ci, AW, nw, cw⟩
  obtain ⟨z0, hb0⟩ := sto_new ⟨S, AS, ns, cs, AI, ni, ci, AW, nw, cw⟩ w
  obtain ⟨_, _, _, s9, _, _⟩ := sto_box z0
  simp only at s9
  obtain ⟨w1, hw1⟩ : ∃ z, w.alloc (.cells (SX.cells ⟨S, AS, ns, cs, AI, ni, ci, AW, nw, cw⟩) 28) = z := ⟨_, rfl⟩
  rw [hw1] at hb0 s9
  have hls := h.hs
  simp only at hls n6
  have hP := h.P
  simp only at hP
  have HA := Lib.hid (RowAt.up (k := 5) (R := shR) hP hb0)
  have HB := Lib.hid hb0; have HLS := Lib.hid hls; have HK := Lib.hid K
  have HC : Hid (S.cost p = cosL S ((List.range ns).filter (hasB p))) := Lib.hid (by rw [← hls]; rfl)
  clear z0 hb0 h K hP
  show Calls _ _ _ _ fun e w' => e = .returned (.int .i64 (S.cost p)) ∧ _
  go_enter Tryd.func30, Tryd.ntmps30
  go_wp2_with fail
  try rw [hw1]
  clear hw1
  go_loopw [5, 6] (fun v i wr => ∃ (k : Nat) (A : Int), k ≤ ns ∧ i = .int .i64 k ∧ v = .int .i64 A ∧ A = cosL S ((List.range k).filter (hasB p)) ∧ wr = w1) (fun _ i _ => ns - (intOf i).toNat)
  case atStart => exact ⟨0, 0, Nat.zero_le _, rfl, rfl, rfl, rfl⟩
  case round =>
    obtain ⟨k, A, hk, rfl, rfl, hAA, rfl⟩ := hrel
    have HAA := Lib.hid hAA
    by_cases hlt : k < ns
    · have k0 : (0 : Int) ≤ (k : Int) := by omega
      have k1 : (k : Int) < (ns : Int) := by omega
      obtain ⟨s, hs⟩ := get_of_lt (l := S.ships) (k := k) (by rw [HLS.out]; exact hlt)
      have hsh : S.ship k = s := by unfold Sto.ship; rw [List.getD_eq_getElem?_getD, hs]; rfl
      have hsw := (shpB_iff.1 (HK.out.ships s (List.mem_of_getElem? hs))).2.2
      obtain ⟨b, o, rfl, hbb, _, _, _, _, c4⟩ := sh_el HA.out hs
      have hin := cosL_in HK.out ((List.range k).filter (hasB p))
      have hfl := fil_len p k
      rw [← hAA] at hin
      have e1 : Value.int .i64 (wrap64 (A + s.c)) = Value.int .i64 (A + s.c) := by congr 1; exact w64 (by omega)
      have HH := Lib.hid (rhas_any p k wr hp (by unfold maxLen; omega))
      have HS2 : Hid (cosL S ((List.range (k + 1)).filter (hasB p)) = A + (if hasB p k then s.c else 0)) := Lib.hid (by rw [cosF_succ, hsh, hAA])
      obtain ⟨F, hF⟩ : ∃ z, hasB p k = z := ⟨_, rfl⟩
      rw [hF] at HH HS2
      clear hAA hs hsh hin hfl hsw hF
      go_wp2_with fail
      refine HH.out.mono ?_
      rintro e w' ⟨rfl, rfl⟩
      cases F with
      | true =>
        go_wp2_with fail
        exact ⟨⟨k + 1, A + s.c, by omega, by go_num, by go_num, by rw [HS2.out]; rfl, trivial⟩, by simp [intOf]; omega⟩
      | false =>
        go_wp2_with fail
        exact ⟨⟨k + 1, A, by omega, by go_num, rfl, by rw [HS2.out]; simp, trivial⟩, by simp [intOf]; omega⟩
    · have hke : k = ns := by omega
      have k1 : ¬ (k : Int) < (ns : Int) := by omega
      subst hke
      clear hAA
      go_wp2_with fail
      go_ret
      exact ⟨by rw [HC.out, HAA.out]; rfl, HB.out⟩
end Go.Proofs.YtijjkiogmlannaaDoor
