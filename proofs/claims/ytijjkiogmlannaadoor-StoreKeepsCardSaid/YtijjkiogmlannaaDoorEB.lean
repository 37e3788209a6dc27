/- Stores: the ships that come, in their order, by the statements' package. -/
import Derived.Test.YtijjkiogmlannaaDoorEA
import Derived.Maps.AppendAt
namespace Go.Proofs.YtijjkiogmlannaaDoor
open Go.RowKit

theorem own_lower {w : World} {base base' : Nat} {e : TypeId} {size n : Nat} {v : Value} {xs : List Value} (h : w.ownsRow base e size v n xs) (hb : base' ≤ base) : w.ownsRow base' e size v n xs := by
  refine ⟨h.1, ?_⟩
  rcases h.2 with h0 | ⟨k, cap, cur, hv, hk, hr⟩
  · exact .inl h0
  · exact .inr ⟨k, cap, cur, hv, Nat.le_trans hb hk, hr⟩
def qsL (l : List Nat) : List Value := l.map fun (j : Nat) => Value.int .i64 (j : Int)
def comT (S : Sto) (p : Nat) (ice : List Bool) (k j : Nat) : List Nat := (List.range j).filter fun x => hasB p x && decide (arrI ice (S.ship x).w.toNat = (k : Int))
theorem comT_succ (S : Sto) (p : Nat) (ice : List Bool) (k j : Nat) : comT S p ice k (j + 1) = comT S p ice k j ++ if (hasB p j && decide (arrI ice (S.ship j).w.toNat = (k : Int))) = true then [j] else [] := by
  unfold comT
  rw [List.range_succ, List.filter_append]
  congr 1
  cases hh : (hasB p j && decide (arrI ice (S.ship j).w.toNat = (k : Int))) with
  | true => rw [if_pos rfl, List.filter_cons, if_pos hh]; rfl
  | false => rw [if_neg Bool.false_ne_true, List.filter_cons, if_neg (by rw [hh]; exact Bool.false_ne_true)]; rfl
theorem qsL_app (a b : List Nat) : qsL (a ++ b) = qsL a ++ qsL b := by unfold qsL; rw [List.map_append]
theorem comT_len (S : Sto) (p : Nat) (ice : List Bool) (k j : Nat) : (comT S p ice k j).length ≤ j := Nat.le_trans (List.length_filter_le _ _) (by simp)
theorem queue_bound (S : Sto) (p : Nat) (ice : List Bool) : ∀ k, (S.queue p ice k).length ≤ k * S.ships.length
  | 0 => by simp [Sto.queue]
  | k + 1 => by
    rw [queue_succ, List.length_append, Nat.succ_mul]
    have h1 := queue_bound S p ice k
    have h2 : (S.comes p ice k).length ≤ S.ships.length := comT_len S p ice k S.ships.length
    omega
set_option maxRecDepth 100000 in
set_option maxHeartbeats 4000000 in
theorem rqueue_any {X : SX} {w : World} (h : X.In w) (K : X.S.Ok) (p i : Nat) (hp : p ≤ 1000000) (hi : i < X.ni) : Calls Tryd.prog 52 #[X.v, .int .i64 (p : Int), .int .i64 (i : Int)] w fun e w' => ∃ v, e = .returned v ∧ Below w.heap.size w w' ∧
    w'.ownsRow w.heap.size 3 1 v (X.S.queue p (X.S.ices.getD i []) X.S.land.toNat).length (qsL (X.S.queue p (X.S.ices.getD i []) X.S.land.toNat)) := by
  have n6 := K.n6; have hland := K.land
  rcases X with ⟨S, AS, ns, cs, AI, ni, ci, AW, nw, cw⟩
  obtain ⟨z0, hb0⟩ := sto_new ⟨S, AS, ns, cs, AI, ni, ci, AW, nw, cw⟩ w
  obtain ⟨w1, hw1⟩ : ∃ z, w.alloc (.cells (SX.cells ⟨S, AS, ns, cs, AI, ni, ci, AW, nw, cw⟩) 28) = z := ⟨_, rfl⟩
  rw [hw1] at z0 hb0
  have hls := h.hs
  simp only at hls n6 hland hi
  have HI := Lib.hid (h.up hb0); have HK := Lib.hid K; have HB0 := Lib.hid hb0; have Z0 := Lib.hid z0; have HW1 := Lib.hid hw1
  obtain ⟨lk, hlk⟩ : ∃ lk : Nat, S.land = (lk : Int) := ⟨S.land.toNat, by omega⟩
  obtain ⟨ice, hice⟩ : ∃ z, S.ices.getD i [] = z := ⟨_, rfl⟩
  have HLK := Lib.hid hlk
  have ns6 : ns ≤ 6 := by omega
  have lk8 : lk ≤ 8 := by omega
  have HQL : Hid (∀ k j, k < lk → j ≤ ns → (S.queue p ice k ++ comT S p ice k j).length ≤ 60) := Lib.hid fun k j hk hj => by
    rw [List.length_append]
    have h1 := queue_bound S p ice k
    have h2 := comT_len S p ice k j
    have h3 : k * S.ships.length ≤ 7 * 6 := Nat.mul_le_mul (by omega) n6
    omega
  have HQ0 : Hid (∀ k, comT S p ice k 0 = []) := Lib.hid fun k => rfl
  have HQN : Hid (∀ k, S.queue p ice (k + 1) = S.queue p ice k ++ comT S p ice k ns) := Lib.hid fun k => by rw [queue_succ, ← hls]; rfl
  have KHA : Hid (∀ u j, j < ns → Calls Tryd.prog 22 #[.int .i64 (p : Int), .int .i64 (j : Int)] u fun e w' => e = .returned (.bool (hasB p j)) ∧ u = w') := Lib.hid fun u j hj => rhas_any p j u hp (by unfold maxLen; omega)
  have KAR : Hid (∀ u, Below w1.heap.size w1 u → ∀ j, j < ns → Calls Tryd.prog 23 #[.agg #[.int .i64 S.st.a, .int .i64 S.st.b, .int .i64 S.st.c, .int .i64 S.yd.a, .int .i64 S.yd.b, .int .i64 S.yd.c, .int .i64 S.rate, .int .i64 S.weeks, .int .i64 S.land, .slice AS ns cs, .slice AI ni ci, .slice AW nw cw], .int .i64 (j : Int), .int .i64 (i : Int)] u fun e w' => e = .returned (.int .i64 (arrI ice (S.ship j).w.toNat)) ∧ Below u.heap.size u w') := Lib.hid fun u hu j hj => by
    have := rarr_any (HI.out.up hu) HK.out j i hj hi
    simp only at this
    rw [hice] at this
    exact this
  show Calls _ _ _ _ fun e w' => ∃ v, e = .returned v ∧ Below w.heap.size w w' ∧ w'.ownsRow w.heap.size 3 1 v (S.queue p (S.ices.getD i []) S.land.toNat).length (qsL (S.queue p (S.ices.getD i []) S.land.toNat))
  rw [hice, hlk]
  show Calls _ _ _ _ fun e w' => ∃ v, e = .returned v ∧ Below w.heap.size w w' ∧ w'.ownsRow w.heap.size 3 1 v (S.queue p ice lk).length (qsL (S.queue p ice lk))
  obtain ⟨i0, hi0, hz0, hz1, hz2⟩ := info_parts int_info
  have u77 := Tryd.underlying77
  clear h K z0 hb0 hw1 hlk hice hls
  go_enter Tryd.func52, Tryd.ntmps52
  go_wp2_with fail
  rw [HW1.out]
  go_loopw [7, 8] (fun v i wr => ∃ (k : Nat), k ≤ lk ∧ i = .int .i64 k ∧ wr.ownsRow w1.heap.size 3 1 v (S.queue p ice k).length (qsL (S.queue p ice k)) ∧ Below w1.heap.size w1 wr) (fun _ i _ => lk - (intOf i).toNat)
  case atStart => exact ⟨0, Nat.zero_le _, rfl, World.ownsRow_nil _ _ _ _, Below.refl _ _⟩
  case round =>
    obtain ⟨k, hk, rfl, hown, hbr⟩ := hrel
    have HOWN := Lib.hid hown; have HBR := Lib.hid hbr
    obtain ⟨⟨s0, s1, s2⟩, ⟨s3, s4, s5⟩, ⟨s6, s7, s8⟩, s9, s10, s11⟩ := sto_box ((hbr.block _ (heapsz Z0.out)).trans Z0.out)
    simp only at s0 s1 s2 s3 s4 s5 s6 s7 s8 s9 s10 s11
    clear hown hbr
    have s8' := s8
    rw [HLK.out] at s8'
    clear s8
    by_cases hlt : k < lk
    · have k1 : (k : Int) < (lk : Int) := by omega
      go_wp2_with fail
      rename World => wt
      go_loopw [7, 9] (fun v i wq => ∃ (j : Nat), j ≤ ns ∧ i = .int .i64 j ∧ wq.ownsRow w1.heap.size 3 1 v (S.queue p ice k ++ comT S p ice k j).length (qsL (S.queue p ice k ++ comT S p ice k j)) ∧ Below w1.heap.size w1 wq) (fun _ i _ => ns - (intOf i).toNat)
      case atStart => exact ⟨0, Nat.zero_le _, rfl, by rw [HQ0.out, List.append_nil]; exact HOWN.out, HBR.out⟩
      case round =>
        clear HOWN HBR s0 s1 s2 s3 s4 s5 s6 s7 s8' s9 s10 s11
        obtain ⟨j, hj, rfl, hown, hbr⟩ := hrel
        have HOWN := Lib.hid hown; have HBR := Lib.hid hbr
        obtain ⟨⟨s0, s1, s2⟩, ⟨s3, s4, s5⟩, ⟨s6, s7, s8⟩, s9, s10, s11⟩ := sto_box ((hbr.block _ (heapsz Z0.out)).trans Z0.out)
        simp only at s0 s1 s2 s3 s4 s5 s6 s7 s8 s9 s10 s11
        clear hown hbr
        by_cases hjn : j < ns
        · have j1 : (j : Int) < (ns : Int) := by omega
          have HJ := Lib.hid hjn
          obtain ⟨F, hF⟩ : ∃ z, hasB p j = z := ⟨_, rfl⟩
          have hHA := KHA.out wr j hjn
          rw [hF] at hHA
          have HHA := Lib.hid hHA
          have HC : Hid (comT S p ice k (j + 1) = comT S p ice k j ++ if (F && decide (arrI ice (S.ship j).w.toNat = (k : Int))) = true then [j] else []) := Lib.hid (by rw [comT_succ, hF])
          clear hF hHA
          go_wp2_with fail
          refine HHA.out.mono ?_
          rintro e w' ⟨rfl, rfl⟩
          cases F with
          | false =>
            go_wp2_with fail
            exact ⟨⟨j + 1, by omega, by go_num, by rw [HC.out]; simpa using HOWN.out, HBR.out⟩, by simp [intOf]; omega⟩
          | true =>
            go_wp2_with fail
            refine (KAR.out _ HBR.out j HJ.out).mono ?_
            rintro e w5 ⟨rfl, hb5⟩
            have HB5 := Lib.hid (HBR.out.trans (hb5.mono HBR.out.size)); have HO5 := Lib.hid (own_next HOWN.out hb5)
            clear hb5 HOWN HBR
            obtain ⟨V, hV⟩ : ∃ z, arrI ice (S.ship j).w.toNat = z := ⟨_, rfl⟩
            have HVV := Lib.hid hV
            rw [hV]
            clear hV
            by_cases he : V = (k : Int)
            · subst he
              have h60 := HQL.out k j hlt hj
              go_wp2_with (first
                | (at_builtin
                   refine wpList_append_own_at _ rfl _ _ 77 rfl w1.heap.size 3 i0 _ 1 8 u77 hi0 hz0 hz1 hz2 rfl (by decide) _ _ _ rfl (HO5.out.alloc _) ⟨w5.heap.size, 0, none⟩ 1 1 [.int .i64 (j : Int)] rfl rfl (Go.cell_one_new _ _ _) (by simp [Value.oneCell']) (by unfold maxLen; omega) (by omega) (by have := HB5.out.size; have := HB0.out.size; simp; omega) ?_
                   intro v' w6 hown6 hgr6 hnil6 hat6)
                | fail)
              have hq := HC.out
              rw [HVV.out] at hq
              refine ⟨⟨j + 1, by omega, by go_num, ?_, ?_⟩, by simp [intOf]; omega⟩
              · rw [hq]
                simp only [decide_true, Bool.and_self, if_true]
                rw [← List.append_assoc, qsL_app, List.length_append]
                exact hown6
              · have hb6 : Below w1.heap.size w1 (w5.alloc (.cells #[.int .i64 (j : Int)] 3)) := HB5.out.alloc HB5.out.size _
                exact hb6.grown hgr6 hb6.size (fun q e => (HO5.out.lt q e).1)
            · have HNE := Lib.hid he
              go_wp2_with fail
              exact ⟨⟨j + 1, by omega, by go_num, by rw [HC.out, HVV.out, decide_eq_false HNE.out]; simpa using HO5.out, HB5.out⟩, by simp [intOf]; omega⟩
        · have hjn2 : j = ns := by omega
          have j1 : ¬ (j : Int) < (ns : Int) := by omega
          subst hjn2
          go_wp2_with fail
          exact ⟨⟨k + 1, by omega, by go_num, by rw [HQN.out]; exact HOWN.out, HBR.out⟩, by simp [intOf]; omega⟩
    · have hkl : k = lk := by omega
      have k1 : ¬ (k : Int) < (lk : Int) := by omega
      subst hkl
      go_wp2_with fail
      go_ret
      exact ⟨_, rfl, HB0.out.trans (HBR.out.mono HB0.out.size), own_lower HOWN.out HB0.out.size⟩
end Go.Proofs.YtijjkiogmlannaaDoor
