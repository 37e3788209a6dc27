/- The specification's reader: a text cut at a byte. -/
import Derived.Test.YtdlaphlpimlgdaaGreatDoorEX
namespace Go.Proofs.YtdlaphlpimlgdaaGreatDoor
open Go.RowKit Go.Shelf

theorem strs_app (a b : List (List UInt8)) : strs (a ++ b) = strs a ++ strs b := by simp [strs]
theorem strs_len (a : List (List UInt8)) : (strs a).length = a.length := by simp [strs]
theorem byteN_eq {a b : UInt8} : ((a.toNat : Nat) : Int) = ((b.toNat : Nat) : Int) ↔ a = b := by
  constructor
  · intro h; exact UInt8.toNat_inj.1 (by omega)
  · rintro rfl; rfl
theorem ext_mk (s : ByteArray) (f k : Nat) : s.extract f k = ⟨((s.data.toList.drop f).take (k - f)).toArray⟩ := by
  apply ByteArray.ext
  apply Array.toList_inj.1
  rw [Lib.extract_data]
theorem take_more {L : List UInt8} {f k : Nat} {x : UInt8} (hf : f ≤ k) (hx : L[k]? = some x) : (L.drop f).take (k + 1 - f) = (L.drop f).take (k - f) ++ [x] := by
  rw [show k + 1 - f = (k - f) + 1 by omega, List.take_add_one, List.getElem?_drop, show f + (k - f) = k by omega, hx]
  rfl
theorem str_info9 : (Tryz.prog.info? 9).map (fun i => (i.zero, i.size, i.bytes)) = some (some (.string ⟨#[]⟩), 1, 16) := by kernel_rfl
set_option maxRecDepth 100000 in
set_option maxHeartbeats 4000000 in
theorem cutAt_any (s : ByteArray) (c : UInt8) (hs : s.size ≤ 30000) (w : World) :
    Calls Tryz.prog 104 #[.string s, .int .u8 (c.toNat : Nat)] w fun e w' => Below w.heap.size w w' ∧ ∃ v, e = .returned v ∧ w'.ownsRow w.heap.size 9 1 v (pieces c s.data.toList).length (strs (pieces c s.data.toList)) := by
  have HSZ := Lib.hid (show s.size = s.data.toList.length from Array.length_toList.symm)
  have HB0 := Lib.hid (Below.refl w.heap.size w)
  obtain ⟨j0, hj0, jz0, jz1, jz2⟩ := info_parts str_info9
  have J0 := Lib.hid hj0; have JZ0 := Lib.hid jz0; have JZ1 := Lib.hid jz1; have JZ2 := Lib.hid jz2
  obtain ⟨L, hL⟩ : ∃ z, s.data.toList = z := ⟨_, rfl⟩
  have HLL := Lib.hid hL
  have HXM := Lib.hid (ext_mk s)
  rw [hL] at HSZ HXM ⊢
  clear hj0 jz0 jz1 jz2 hL
  go_enter Tryz.func104, Tryz.ntmps104
  go_wp2_with fail
  go_loopw [5, 6, 7] (fun v fr i wr => ∃ (k f : Nat) (ps : List (List UInt8)), k ≤ s.size ∧ f ≤ k ∧ i = .int .i64 k ∧ fr = .int .i64 f ∧ pieces c (L.take k) = ps ++ [(L.drop f).take (k - f)] ∧ Below w.heap.size w wr ∧ wr.ownsRow w.heap.size 9 1 v ps.length (strs ps)) (fun _ _ i _ => s.size - (intOf i).toNat)
  case atStart => exact ⟨0, 0, [], Nat.zero_le _, Nat.le_refl _, rfl, rfl, by simp [pieces], HB0.out, World.ownsRow_nil _ _ _ _⟩
  case round =>
    obtain ⟨k, f, ps, hk, hfk, rfl, rfl, hps, hb, ho⟩ := hrel
    have HB := Lib.hid hb; have HO := Lib.hid ho; have HPS := Lib.hid hps
    have hpl := (pieces_len (c := c) (L.take k)).1
    rw [hps, List.length_append, List.length_singleton, List.length_take] at hpl
    have hpb : ps.length ≤ 30000 := by omega
    clear hb ho hps hpl
    by_cases hlt : k < s.size
    · have hl : k < L.length := by have := HSZ.out; omega
      have hxe : L[k]? = some (s[k]'hlt) := by rw [← HLL.out, List.getElem?_eq_getElem (by rw [HLL.out]; exact hl)]; rfl
      have htk : L.take (k + 1) = L.take k ++ [s[k]'hlt] := by rw [List.take_add_one, hxe]; rfl
      have HTK := Lib.hid htk; have HXE := Lib.hid hxe
      have f0 : (0 : Int) ≤ (f : Int) := by omega
      have f1 : (f : Int) ≤ (k : Int) := by omega
      have k2 : (k : Int) ≤ (s.size : Int) := by omega
      have hx8 := (s[k]'hlt).toNat_lt
      clear htk hxe
      by_cases hc : (s[k]'hlt) = c
      · have hq : ((s[k]'hlt).toNat : Int) = (c.toNat : Int) := by rw [hc]
        have e1 := Lib.hid (show pieces c (L.take (k + 1)) = (ps ++ [(L.drop f).take (k - f)]) ++ [[]] by rw [HTK.out, hc, pieces_hit, HPS.out])
        have HCC := Lib.hid hc
        obtain ⟨N, hN⟩ : ∃ z, ps.length = z := ⟨_, rfl⟩
        have HN := Lib.hid hN
        rw [hN] at HO hpb
        clear hc hN
        go_wp2_with (first
          | (at_builtin
             refine wpList_append_own _ rfl _ _ 146 rfl w.heap.size 9 j0 _ 1 16 Tryz.underlying146 J0.out JZ0.out JZ1.out JZ2.out rfl (by decide) _ _ _ rfl (HO.out.alloc _) ⟨wr.heap.size, 0, none⟩ 1 1 [.string (s.extract f k)] rfl rfl (Go.cell_one_new _ _ _) (by simp [Value.oneCell']) (by unfold maxLen; omega) (by omega) (by have := HB.out.size; simp; omega) ?_
             intro v' w4 hown4 hgrow4 hnil4)
          | fail)
        have hb4 : Below w.heap.size w w4 := Below.grown (HB.out.alloc HB.out.size _) hgrow4 (by have := HB.out.size; simp; omega) (fun j hj => (HO.out.lt _ hj).1)
        refine ⟨⟨k + 1, k + 1, ps ++ [(L.drop f).take (k - f)], by omega, Nat.le_refl _, by go_num, by go_num, ?_, hb4, ?_⟩, by simp [intOf]; omega⟩
        · rw [e1.out, Nat.sub_self, List.take_zero]
        · have h5 := hown4
          rw [HXM.out] at h5
          rw [List.length_append, List.length_singleton, HN.out, strs_app]
          exact h5
      · have hq : ¬ ((s[k]'hlt).toNat : Int) = (c.toNat : Int) := fun e => hc (byteN_eq.1 e)
        obtain ⟨ps', p, e1, e2⟩ := pieces_miss hc (L.take k)
        rw [← HTK.out] at e2
        rw [HPS.out] at e1
        have e3 := List.append_inj' e1 rfl
        have e4 : (L.drop f).take (k - f) = p := by simpa using e3.2
        have E2 := Lib.hid (show pieces c (L.take (k + 1)) = ps ++ [(L.drop f).take (k + 1 - f)] by rw [e2, ← e3.1, take_more hfk HXE.out, e4])
        clear hc e1 e2 e3 e4
        go_wp2_with fail
        exact ⟨⟨k + 1, f, ps, by omega, by omega, by go_num, rfl, E2.out, HB.out, HO.out⟩, by simp [intOf]; omega⟩
    · have hke : k = s.size := by omega
      have f0 : (0 : Int) ≤ (f : Int) := by omega
      have f1 : (f : Int) ≤ (s.size : Int) := by omega
      have hq : ¬ (k : Int) < (s.size : Int) := by omega
      have HFIN := Lib.hid (show pieces c L = ps ++ [(L.drop f).take (s.size - f)] by
        have h5 := HPS.out
        rwa [hke, List.take_of_length_le (by rw [← HSZ.out]; exact Nat.le_refl _)] at h5)
      obtain ⟨N, hN⟩ : ∃ z, ps.length = z := ⟨_, rfl⟩
      have HN := Lib.hid hN
      rw [hN] at HO hpb
      clear hN
      go_wp2_with (first
        | (at_builtin
           refine wpList_append_own _ rfl _ _ 146 rfl w.heap.size 9 j0 _ 1 16 Tryz.underlying146 J0.out JZ0.out JZ1.out JZ2.out rfl (by decide) _ _ _ rfl (HO.out.alloc _) ⟨wr.heap.size, 0, none⟩ 1 1 [.string (s.extract f s.size)] rfl rfl (Go.cell_one_new _ _ _) (by simp [Value.oneCell']) (by unfold maxLen; omega) (by omega) (by have := HB.out.size; simp; omega) ?_
           intro v' w4 hown4 hgrow4 hnil4)
        | fail)
      have hb4 : Below w.heap.size w w4 := Below.grown (HB.out.alloc HB.out.size _) hgrow4 (by have := HB.out.size; simp; omega) (fun j hj => (HO.out.lt _ hj).1)
      go_ret
      refine ⟨hb4, _, rfl, ?_⟩
      have h5 := hown4
      rw [HXM.out] at h5
      rw [HFIN.out, List.length_append, List.length_singleton, HN.out, strs_app]
      exact h5
end Go.Proofs.YtdlaphlpimlgdaaGreatDoor
