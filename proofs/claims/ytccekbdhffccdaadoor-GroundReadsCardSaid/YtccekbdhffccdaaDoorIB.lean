/- The specification's reader: a text cut at a byte. -/
import Derived.Test.YtccekbdhffccdaaDoorHC
import Derived.Test.YtccekbdhffccdaaDoorHA
import Derived.Test.YtccekbdhffccdaaDoorRG
import Derived.Test.YtccekbdhffccdaaDoorRB
namespace Go.Proofs.YtccekbdhffccdaaDoor
open Go.RowKit Go.Shelf

theorem pieces_hit {c : UInt8} : ∀ (l : List UInt8), pieces c (l ++ [c]) = pieces c l ++ [[]]
  | [] => by simp [pieces]
  | x :: l => by
    have h := pieces_hit (c := c) l
    rw [List.cons_append]
    unfold pieces
    by_cases e : x = c
    · rw [if_pos e, if_pos e, h]; rfl
    · rw [if_neg e, if_neg e, h]
      cases hp : pieces c l with
      | nil => exact absurd hp (pieces_ne c l)
      | cons p ps => rfl
theorem pieces_miss {c x : UInt8} (hx : x ≠ c) : ∀ (l : List UInt8), ∃ ps p, pieces c l = ps ++ [p] ∧ pieces c (l ++ [x]) = ps ++ [p ++ [x]]
  | [] => ⟨[], [], rfl, by simp [pieces, hx]⟩
  | y :: l => by
    obtain ⟨ps, p, h1, h2⟩ := pieces_miss hx l
    rw [List.cons_append]
    unfold pieces
    by_cases e : y = c
    · rw [if_pos e, if_pos e, h1, h2]
      exact ⟨[] :: ps, p, rfl, rfl⟩
    · rw [if_neg e, if_neg e, h1, h2]
      cases ps with
      | nil => exact ⟨[], y :: p, rfl, rfl⟩
      | cons q qs => exact ⟨(y :: q) :: qs, p, rfl, rfl⟩
theorem pieces_len {c : UInt8} : ∀ (l : List UInt8), (pieces c l).length ≤ l.length + 1 ∧ ∀ p ∈ pieces c l, p.length ≤ l.length
  | [] => ⟨by simp [pieces], fun p hp => by simp [pieces] at hp; simp [hp]⟩
  | x :: l => by
    obtain ⟨h1, h2⟩ := pieces_len (c := c) l
    unfold pieces
    by_cases e : x = c
    · rw [if_pos e]
      refine ⟨by simp only [List.length_cons]; omega, fun p hp => ?_⟩
      rcases List.mem_cons.1 hp with rfl | hp
      · simp
      · have := h2 p hp; simp only [List.length_cons]; omega
    · rw [if_neg e]
      cases hp : pieces c l with
      | nil => exact absurd hp (pieces_ne c l)
      | cons p ps =>
        rw [hp] at h1 h2
        refine ⟨by simp only [List.length_cons] at h1 ⊢; omega, fun q hq => ?_⟩
        rcases List.mem_cons.1 hq with rfl | hq
        · have := h2 p (by simp); simp only [List.length_cons]; omega
        · have := h2 q (by simp [hq]); simp only [List.length_cons]; omega
theorem strs_app (a b : List (List UInt8)) : strs (a ++ b) = strs a ++ strs b := by simp [strs]
theorem strs_len (a : List (List UInt8)) : (strs a).length = a.length := by simp [strs]
/-- The last of one's own cells is replaced. -/
theorem own_last {w : World} {base g m cap : Nat} {xs : List Value} {y z : Value} (h : w.ownsRow base 9 1 (.slice (some ⟨g, 0, none⟩) (m + 1) cap) (m + 1) (xs ++ [y])) :
    base ≤ g ∧ g < w.heap.size ∧ w.cell? ⟨g, m, none⟩ = some y ∧ w.frozen? ⟨g, m, none⟩ = false ∧ (w.setCell ⟨g, m, none⟩ z).ownsRow base 9 1 (.slice (some ⟨g, 0, none⟩) (m + 1) cap) (m + 1) (xs ++ [z]) := by
  obtain ⟨hl, hh⟩ := h
  rcases hh with ⟨hv, _⟩ | ⟨g', cap', cur, hv, hb, hg, hn, hc, hs, ht⟩
  · exact absurd hv (by simp)
  · simp only [Value.slice.injEq, Option.some.injEq, Addr.mk.injEq, and_true, true_and] at hv
    obtain ⟨rfl, rfl⟩ := hv
    rw [Nat.mul_one] at hl hs ht
    have hxl : xs.length = m := by rw [List.length_append, List.length_singleton] at hl; omega
    have hm : m < cur.size := by omega
    have hy : cur[m]? = some y := by
      have h1 : (cur.toList.take (m + 1))[m]? = some y := by rw [ht, List.getElem?_append_right (by omega), hxl]; simp
      rw [List.getElem?_take_of_lt (by omega)] at h1
      simpa using h1
    refine ⟨hb, (Array.getElem?_eq_some_iff.1 hg).1, ?_, by simp [World.frozen?, hg], ?_, .inr ⟨g, cap, cur.setIfInBounds m z, rfl, hb, ?_, hn, hc, by simpa using hs, ?_⟩⟩
    · rw [cell_of_row w g m cur 9 (0, 0) hg, hy]
    · simp [hxl]
    · exact rd_set hg m z
    · rw [Nat.mul_one, Array.toList_setIfInBounds, List.take_set, ht, List.set_append_right _ _ (by omega), hxl]
      simp
theorem byteN_eq {a b : UInt8} : ((a.toNat : Nat) : Int) = ((b.toNat : Nat) : Int) ↔ a = b := by
  constructor
  · intro h; exact UInt8.toNat_inj.1 (by omega)
  · rintro rfl; rfl
theorem ext_one (s : ByteArray) {k : Nat} (h : k < s.size) : s.extract k (k + 1) = ⟨#[s[k]]⟩ := by
  apply ByteArray.ext
  apply Array.toList_inj.1
  rw [Lib.extract_data]
  have hl : k < s.data.toList.length := by rw [Array.length_toList]; exact h
  rw [List.drop_eq_getElem_cons hl, show k + 1 - k = 1 by omega]
  rfl
theorem str_info : (Tryd.prog.info? 9).map (fun i => (i.zero, i.size, i.bytes)) = some (some (.string ⟨#[]⟩), 1, 16) := by kernel_rfl
set_option maxRecDepth 100000 in
set_option maxHeartbeats 4000000 in
theorem split2_any (s : ByteArray) (c : UInt8) (hs : s.size ≤ 6000) (w : World) :
    Calls Tryd.prog 82 #[.string s, .int .u8 (c.toNat : Nat)] w fun e w' => Below w.heap.size w w' ∧ ∃ v, e = .returned v ∧ w'.ownsRow w.heap.size 9 1 v (pieces c s.data.toList).length (strs (pieces c s.data.toList)) := by
  have HSZ := Lib.hid (show s.size = s.data.toList.length from Array.length_toList.symm)
  have HB1 := Lib.hid ((Below.refl w.heap.size w).alloc (Nat.le_refl _) (.cells #[.string ⟨#[]⟩] 9))
  have Z1 := Lib.hid (heap_alloc_new w (.cells #[.string ⟨#[]⟩] 9))
  obtain ⟨j0, hj0, jz0, jz1, jz2⟩ := info_parts str_info
  have J0 := Lib.hid hj0; have JZ0 := Lib.hid jz0; have JZ1 := Lib.hid jz1; have JZ2 := Lib.hid jz2
  clear hj0 jz0 jz1 jz2
  go_enter Tryd.func82, Tryd.ntmps82
  go_wp2_with fail
  go_loopw [5, 6] (fun v i wr => ∃ k : Nat, k ≤ s.size ∧ i = .int .i64 k ∧ Below w.heap.size w wr ∧ wr.ownsRow w.heap.size 9 1 v (pieces c (s.data.toList.take k)).length (strs (pieces c (s.data.toList.take k)))) (fun _ i _ => s.size - (intOf i).toNat)
  case atStart =>
    refine ⟨0, Nat.zero_le _, rfl, HB1.out, rfl, .inr ⟨_, 1, _, rfl, Nat.le_refl _, Z1.out, Nat.le_refl 1, by decide, rfl, rfl⟩⟩
  case round =>
    obtain ⟨k, hk, rfl, hb, ho⟩ := hrel
    have HB := Lib.hid hb; have HO := Lib.hid ho
    clear hb ho
    by_cases hlt : k < s.size
    · have hl : k < s.data.toList.length := by have := HSZ.out; omega
      have hx := (s.data.toList[k]).toNat_lt
      have hget : s[k]'hlt = s.data.toList[k] := by rfl
      have htk : s.data.toList.take (k + 1) = s.data.toList.take k ++ [s.data.toList[k]] := by rw [List.take_add_one, List.getElem?_eq_getElem hl]; rfl
      have hpl := pieces_len (c := c) (s.data.toList.take k)
      rw [List.length_take] at hpl
      obtain ⟨x, hxe⟩ : ∃ x, s.data.toList[k] = x := ⟨_, rfl⟩
      rw [hxe] at hget htk hx
      have HTK := Lib.hid htk
      clear htk hxe
      by_cases hc : x = c
      · have hq : ((s[k]'hlt).toNat : Int) = (c.toNat : Int) := by rw [hget, hc]
        have e1 := Lib.hid (show pieces c (s.data.toList.take (k + 1)) = pieces c (s.data.toList.take k) ++ [[]] by rw [HTK.out, hc]; exact pieces_hit _)
        obtain ⟨P, hP⟩ : ∃ P, pieces c (s.data.toList.take k) = P := ⟨_, rfl⟩
        rw [hP] at HO e1 hpl
        have hPl := hpl.1
        clear hP hget hpl
        go_wp2_with (first
          | (at_builtin
             refine wpList_append_own _ rfl _ _ 129 rfl w.heap.size 9 j0 _ 1 16 Tryd.underlying129 J0.out JZ0.out JZ1.out JZ2.out rfl (by decide) _ _ _ rfl (HO.out.alloc _) ⟨wr.heap.size, 0, none⟩ 1 1 [.string ⟨#[]⟩] rfl rfl (Go.cell_one_new _ _ _) (by simp [Value.oneCell']) (by unfold maxLen; omega) (by omega) (by have := HB.out.size; simp; omega) ?_
             intro v' w4 hown4 hgrow4 hnil4)
          | fail)
        have hb4 : Below w.heap.size w w4 := Below.grown (HB.out.alloc HB.out.size _) hgrow4 (by have := HB.out.size; simp; omega) (fun j hj => (HO.out.lt _ hj).1)
        refine ⟨⟨k + 1, by omega, by go_num, hb4, ?_⟩, by simp [intOf]; omega⟩
        rw [e1.out, List.length_append, strs_app]
        exact hown4
      · have hq : ¬ ((s[k]'hlt).toNat : Int) = (c.toNat : Int) := by rw [hget]; exact fun e => hc (byteN_eq.1 e)
        obtain ⟨ps, p, e1, e2⟩ := pieces_miss hc (s.data.toList.take k)
        rw [← HTK.out] at e2
        rw [e1] at HO hpl
        have hpl2 := hpl.2 p (by simp)
        have hpl1 := hpl.1
        rw [List.length_append, List.length_singleton] at HO hpl1
        rw [strs_app] at HO
        have HOO := HO
        have E2 := Lib.hid e2
        obtain ⟨g, cap, rfl, hg1, hg2⟩ := HO.out.form (by omega)
        obtain ⟨hbg, hlg, hcg, hfg, hset⟩ := own_last (z := .string ⟨(p ++ [x]).toArray⟩) HO.out
        obtain ⟨B, hB⟩ : ∃ B : ByteArray, ByteArray.mk p.toArray = B := ⟨_, rfl⟩
        have hBs : B.size ≤ 200000000 := by rw [← hB]; show p.toArray.size ≤ _; rw [List.size_toArray]; omega
        have hcg' : wr.cell? ⟨g, ps.length, none⟩ = some (.string B) := by rw [← hB]; exact hcg
        have HBB := Lib.hid hB; have HSET := Lib.hid hset; have HG := Lib.hid hget
        clear e1 e2 hpl hset hB hcg hget
        obtain ⟨N, hN⟩ : ∃ N, ps.length + 1 = N := ⟨_, rfl⟩
        obtain ⟨M, hM⟩ : ∃ M, ps.length = M := ⟨_, rfl⟩
        rw [hN] at HO HSET ⊢
        rw [hM] at HSET hfg hcg' hN
        have q1 : (0 : Int) ≤ (M : Int) := by omega
        have q2 : (M : Int) < (N : Int) := by omega
        have q3 : (0 : Int) ≤ (k : Int) := by omega
        have q4 : (k : Int) + 1 ≤ (s.size : Int) := by omega
        have wN : ((N : Int) - 1) = (M : Int) := by omega
        have v1 : Value.int .i64 (wrap64 (M : Int)) = Value.int .i64 (M : Int) := by congr 1; unfold wrap64; omega
        have v2 : Value.int .i64 (wrap64 ((k : Int) + 1)) = Value.int .i64 ((k : Int) + 1) := by congr 1; unfold wrap64; omega
        have HN := Lib.hid hN; have HMM := Lib.hid hM
        have hcu : ∀ u : KeptW wr, u.w.cell? ⟨g, M, none⟩ = some (.string B) := fun u => ((bcell u.h).1 _ _ hg2).trans hcg'
        have hfu : ∀ u : KeptW wr, u.w.frozen? ⟨g, M, none⟩ = false := fun u => by rw [← hfg]; simp only [World.frozen?, u.h.block g hg2]
        clear hN hM hpl1 hpl2 hcg' hfg
        go_wp2_with fail
        apply rk_tail (C := fun w' => ∃ u : KeptW wr, w' = u.w)
        case hs => exact (rfl : _ = [_, _, _, _, _, _, _, _, _, _, _, _, _, _, _, _, _] ++ [_])
        case hm => kernel_rfl
        case hB => kernel_rfl
        case hT => kernel_rfl
        case hC => exact ⟨⟨wr.drew, (Below.refl wr.heap.size wr).drew⟩, rfl⟩
        repeat (go_big_quiet_step (fail))
        refine wpQuiet_nil ?_
        rintro _ ⟨u, rfl⟩
        have z0 := hfu u
        have z1 := hcu u
        unfold Oper.wp
        simp [go_sem, z0, z1]
        have HS2 := (own_last (z := .string (B ++ s.extract k (k + 1))) (own_next HOO.out u.h)).2.2.2.2
        have HB2 := Lib.hid ((HB.out.trans (u.h.mono HB.out.size)).setCell (p := ⟨g, M, none⟩) hg1 (.string (B ++ s.extract k (k + 1))))
        rw [HMM.out, HN.out] at HS2
        have HS3 := Lib.hid HS2
        clear z0 z1 hcu hfu HS2 v1
        generalize u.w.setCell ⟨g, M, none⟩ (Value.string (B ++ s.extract k (k + 1))) = wb at HS3 HB2 ⊢
        go_wp2_with fail
        refine ⟨⟨k + 1, by omega, by go_num, HB2.out, ?_⟩, by simp [intOf]; omega⟩
        rw [E2.out, List.length_append, List.length_singleton, HMM.out, HN.out, strs_app]
        have := HS3.out
        rwa [ext_one s hlt, HG.out, ← HBB.out, ByteArray.mk_append_mk] at this
    · have hke : k = s.size := by omega
      rw [List.take_of_length_le (by have := HSZ.out; omega)] at HO
      go_wp2_with fail
      go_ret
      exact ⟨HB.out, _, rfl, HO.out⟩
end Go.Proofs.YtccekbdhffccdaaDoor
