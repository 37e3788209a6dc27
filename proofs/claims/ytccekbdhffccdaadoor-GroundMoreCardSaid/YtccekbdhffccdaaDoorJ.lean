/- What a place that is followed holds in memory, and what a step keeps of it. The summer of a year, as the program goes through it. -/
import Derived.Test.YtccekbdhffccdaaDoorB
import Derived.Test.YtccekbdhffccdaaDoorI
import Derived.Laws.OwnMore
import Derived.Deep.AppendLies
import Derived.Deep.Draws
import Derived.BigQuiet
import Derived.BigRegion
import Derived.Deep.RegionHeld3
import Derived.Deep.RegionLaw
import Derived.Deep.DrawnRows
import Derived.ChangeAlike
import Derived.Maps.AppendAt
namespace Go.Proofs.YtccekbdhffccdaaDoor
open Go.RowKit

/-- Block g is the cells of a place that is followed. -/
def FB (w : World) (g : Nat) (cs : Array Value) : Prop := w.heap[g]? = some (.cells cs 103 (0, 0))
theorem FB.lt {w : World} {g : Nat} {cs : Array Value} (h : FB w g cs) : g < w.heap.size := (Array.getElem?_eq_some_iff.1 h).1
theorem FB.cell {w : World} {g : Nat} {cs : Array Value} (h : FB w g cs) (i : Nat) : w.cell? ⟨g, i, none⟩ = cs[i]? := cell_of_row w g i cs 103 (0, 0) h
theorem FB.frozen {w : World} {g : Nat} {cs : Array Value} (h : FB w g cs) (i : Nat) : w.frozen? ⟨g, i, none⟩ = false := by
  unfold FB at h
  simp [World.frozen?, h]
theorem FB.set_ {w : World} {g : Nat} {cs : Array Value} (h : FB w g cs) (i : Nat) (u : Value) : FB (w.setCell ⟨g, i, none⟩ u) g (cs.setIfInBounds i u) := by
  unfold FB at h ⊢
  simp [World.setCell, Array.getElem?_modify, h]
theorem FB.next {w w' : World} {g : Nat} {cs : Array Value} (h : FB w g cs) (hb : Below w.heap.size w w') : FB w' g cs := (hb.block g h.lt).trans h
theorem FB.ne_row {w : World} {g : Nat} {cs : Array Value} (h : FB w g cs) {base : Nat} {size n : Nat} {v : Value} {xs : List Value} (ho : w.ownsRow base 3 size v n xs) : v.ownBlock ≠ some g := by
  rcases ho.2 with ⟨rfl, _⟩ | ⟨g', cap, cur, rfl, _, hh, _⟩
  · simp [Value.ownBlock]
  · intro he
    have : g' = g := by simpa [Value.ownBlock] using he
    subst this
    unfold FB at h
    rw [hh] at h
    injection h with h
    injection h with _ ht
    exact absurd ht (by decide)

/-- What lay below n, but for block g and a row, lies as it lay. -/
structure Frm (n g : Nat) (row : Option Nat) (w w' : World) : Prop where
  os : w'.os = w.os
  tape : w'.tape = w.tape
  output : w'.output = w.output
  size : w.heap.size ≤ w'.heap.size
  block : ∀ b, b < n → b ≠ g → some b ≠ row → w'.heap[b]? = w.heap[b]?
theorem Frm.of_below {n g : Nat} {row : Option Nat} {w w' : World} (h : Below n w w') : Frm n g row w w' := ⟨h.os, h.tape, h.output, h.size, fun b hb _ _ => h.block b hb⟩
theorem Frm.trans {n g : Nat} {row : Option Nat} {a b c : World} (h : Frm n g row a b) (k : Frm n g row b c) : Frm n g row a c :=
  ⟨k.os.trans h.os, k.tape.trans h.tape, k.output.trans h.output, Nat.le_trans h.size k.size, fun x hx h1 h2 => (k.block x hx h1 h2).trans (h.block x hx h1 h2)⟩
theorem Frm.set_ {n g : Nat} {row : Option Nat} (w : World) (i : Nat) (u : Value) : Frm n g row w (w.setCell ⟨g, i, none⟩ u) :=
  ⟨rfl, rfl, rfl, by simp [World.setCell], fun b _ hb _ => Below.heap_setCell w ⟨g, i, none⟩ u b hb⟩
theorem Frm.grown {n g : Nat} {row : Option Nat} {w w' : World} (h : w.grownBy w' row) (hn : n ≤ w.heap.size) : Frm n g row w w' :=
  ⟨h.os, h.tape, h.output, h.size, fun b hb _ hr => h.block b (by omega) hr⟩
theorem Frm.mono {n m g : Nat} {row : Option Nat} {w w' : World} (h : Frm m g row w w') (hn : n ≤ m) : Frm n g row w w' := ⟨h.os, h.tape, h.output, h.size, fun b hb => h.block b (by omega)⟩
theorem Frm.below {n B g : Nat} {row : Option Nat} {w w' : World} (h : Frm n g row w w') (hn : B ≤ n) (hg : B ≤ g) (hr : ∀ k, row = some k → B ≤ k) : Below B w w' :=
  ⟨h.os, h.tape, h.output, h.size, fun b hb => h.block b (by omega) (by omega) (fun e => by have := hr b e.symm; omega)⟩
theorem own_next {w w' : World} {base : Nat} {e : TypeId} {size n : Nat} {v : Value} {xs : List Value} (h : w.ownsRow base e size v n xs) (hb : Below w.heap.size w w') : w'.ownsRow base e size v n xs :=
  h.kept (row := none) ⟨hb.os, hb.tape, hb.output, hb.size, fun b hb' _ => hb.block b hb'⟩ (by
    cases hv : v.ownBlock with
    | none => exact .inl rfl
    | some _ => exact .inr (by simp))
theorem own_frm {w w' : World} {base : Nat} {e : TypeId} {size n g : Nat} {row : Option Nat} {v : Value} {xs : List Value} (h : w.ownsRow base e size v n xs) (hf : Frm w.heap.size g row w w') (h1 : v.ownBlock ≠ some g) (h2 : v.ownBlock = none ∨ v.ownBlock ≠ row) : w'.ownsRow base e size v n xs := by
  refine ⟨h.1, ?_⟩
  rcases h.2 with h0 | ⟨k, cap, cur, rfl, hb, hh, hr⟩
  · exact .inl h0
  · have hlt := (Array.getElem?_eq_some_iff.1 hh).1
    refine .inr ⟨k, cap, cur, rfl, hb, (hf.block k hlt (fun e => h1 (by rw [e]; rfl)) (fun e => ?_)).trans hh, hr⟩
    rcases h2 with h2 | h2
    · simp [Value.ownBlock] at h2
    · exact h2 (by rw [← e]; rfl)
end Go.Proofs.YtccekbdhffccdaaDoor

namespace Go.Proofs.YtccekbdhffccdaaDoor
open Go.RowKit Go.Shelf
attribute [local go_sem ↓] Go.wp_at_zero Go.wp_at_succ

theorem depth_any (g bl ol c bm om L cm : Nat) (ls : List Lay) (ms : List Int) (H : Int) (w : World) (hg : g < w.heap.size) (hbl : bl < w.heap.size) (hbm : bm < w.heap.size)
    (hL : ls.length = L) (h1 : 1 ≤ L) (h6 : L ≤ 6) (hM : ms.length = L) (hcap : L ≤ c) (ht : ∀ x ∈ ls, 1 ≤ x.t ∧ x.t ≤ 20000) (hm : ∀ x ∈ ms, 1 ≤ x ∧ x ≤ 1000) (hH : 0 ≤ H) (hH2 : H ≤ 1000000000)
    (c1 : w.cell? ⟨g, 0, none⟩ = some (.slice (some ⟨bl, ol, none⟩) L c)) (c2 : w.cell? ⟨g, 3, none⟩ = some (.slice (some ⟨bm, om, none⟩) L cm))
    (c3 : ∀ i x, ls[i]? = some x → w.cell? ⟨bl, ol + i * 3, none⟩ = some (.int .i64 x.t) ∧ w.cell? ⟨bl, ol + i * 3 + 1, none⟩ = some (.int .i64 x.lo) ∧ w.cell? ⟨bl, ol + i * 3 + 2, none⟩ = some (.int .i64 x.hi))
    (c4 : ∀ i x, ms[i]? = some x → w.cell? ⟨bm, om + i, none⟩ = some (.int .i64 x)) :
    Calls Tryd.prog 101 #[.pointer (some ⟨g, 0, none⟩), .int .i64 H] w fun e W' => e = .returned (.int .i64 (depthF ls ms H)) ∧ Below w.heap.size w W' :=
  callsIn_wide.1 (depth_in 3 (Nat.le_refl _) g bl ol c bm om L cm ls ms H w hg hbl hbm hL h1 h6 hM hcap ht hm hH hH2 c1 c2 c3 c4)

theorem step_enter {P : Program} {ops : Array Oper} {o : Oper} {a : Act} {w : World} {K : Act → World → Prop} {Q : Exit → Act → World → Prop} {E : Prop} (hgd : o.guard = none) (f : Nat) (vals : Array Value)
    (hrun : (execOp a.eval o).run P w = .ok (.enter f vals) w) (h : Calls P f vals w fun e w' => ∃ v, e = .returned v ∧ K (a.put o.dst v) w') : if Region.wanted o (yielded ops a.tmps) = true then Oper.wp P o a w K Q else E := by
  have hw : Region.wanted o (yielded ops a.tmps) = true := by simp [Region.wanted, hgd]
  rw [if_pos hw]
  unfold Oper.wp
  rw [hrun]
  exact h.mono fun e w' ⟨v, he, hk⟩ => by subst he; exact hk

theorem season_end {w E w2 w3 : World} {g : Nat} {row : Option Nat} {O : Obj} {i : Nat} {u : Value} (h : Frm w.heap.size g row w E) (hs : E.heap.size = w.heap.size) (hb : Below E.drew.heap.size E.drew w2) (hg : (w2.alloc O).grownBy w3 row) :
    Frm w.heap.size g row w (w3.setCell ⟨g, i, none⟩ u) := by
  have hsz : E.heap.size ≤ w2.heap.size := hb.size
  have h1 : Below w.heap.size E w2 := ((Below.refl w.heap.size E).drew).trans (hb.mono (show w.heap.size ≤ E.heap.size by omega))
  have h2 : Below w.heap.size E (w2.alloc O) := h1.alloc (by omega) O
  exact (h.trans (Frm.of_below h2)).trans ((Frm.grown hg (by simp; omega)).trans (Frm.set_ _ i u))

theorem int_info : (Tryd.prog.info? 3).map (fun i => (i.zero, i.size, i.bytes)) = some (some (.int .i64 0), 1, 8) := by kernel_rfl

/-- What a summer leaves. -/
def SummerPost (w : World) (base g n : Nat) (tv v0 v1 v2 v3 v4 v5 v6 v7 v8 v12 v14 : Value) (xs : List Value) (R Lf In d : Int) (e : Ending) (w' : World) : Prop :=
  e = .returned (.tuple #[]) ∧ ∃ gt cap : Nat, FB w' g #[v0, v1, v2, v3, v4, v5, v6, v7, v8, .int .i64 R, .int .i64 Lf, .int .i64 In, v12, .slice (some ⟨gt, 0, none⟩) (n + 1) cap, v14] ∧
    w'.ownsRow base 3 1 (.slice (some ⟨gt, 0, none⟩) (n + 1) cap) (n + 1) (xs ++ [.int .i64 d]) ∧ Frm w.heap.size g tv.ownBlock w w' ∧ (tv.ownBlock = some gt ∨ w.heap.size ≤ gt)

set_option maxRecDepth 100000 in
set_option maxHeartbeats 2000000 in
theorem summer_any (g bl ol c bm om L cm bw ow cw bs os cs N y n base : Nat) (ls : List Lay) (ms : List Int) (W S R Lf In : Int) (tv v1 v2 v6 v7 v8 v12 v14 : Value) (xs : List Value) (w : World)
    (hF : FB w g #[.slice (some ⟨bl, ol, none⟩) L c, v1, v2, .slice (some ⟨bm, om, none⟩) L cm, .slice (some ⟨bw, ow, none⟩) N cw, .slice (some ⟨bs, os, none⟩) N cs, v6, v7, v8, .int .i64 R, .int .i64 Lf, .int .i64 In, v12, tv, v14])
    (hy : y < N) (_hbw : bw < w.heap.size) (_hbs : bs < w.heap.size) (hbl : bl < w.heap.size) (hbm : bm < w.heap.size) (gbl : bl ≠ g) (gbm : bm ≠ g) (_gbw : bw ≠ g) (_gbs : bs ≠ g)
    (hL : ls.length = L) (h1 : 1 ≤ L) (h6 : L ≤ 6) (hM : ms.length = L) (hcap : L ≤ c) (ht : ∀ x ∈ ls, 1 ≤ x.t ∧ x.t ≤ 20000) (hm : ∀ x ∈ ms, 1 ≤ x ∧ x ≤ 1000)
    (c3 : ∀ i x, ls[i]? = some x → w.cell? ⟨bl, ol + i * 3, none⟩ = some (.int .i64 x.t) ∧ w.cell? ⟨bl, ol + i * 3 + 1, none⟩ = some (.int .i64 x.lo) ∧ w.cell? ⟨bl, ol + i * 3 + 2, none⟩ = some (.int .i64 x.hi))
    (c4 : ∀ i x, ms[i]? = some x → w.cell? ⟨bm, om + i, none⟩ = some (.int .i64 x))
    (cW : w.cell? ⟨bw, ow + y, none⟩ = some (.int .i64 W)) (cS : w.cell? ⟨bs, os + y, none⟩ = some (.int .i64 S)) (hW : 0 ≤ W ∧ W ≤ 1000000) (hS : 0 ≤ S ∧ S ≤ 1000000) (hR : 0 ≤ R ∧ R ≤ 100000000) (hLf : 0 ≤ Lf ∧ Lf ≤ 100000000) (hIn : 0 ≤ In ∧ In ≤ 100000000)
    (hown : w.ownsRow base 3 1 tv n xs) (hn : n ≤ 20) (hbase : base ≤ w.heap.size) :
    Calls Tryd.prog 86 #[.pointer (some ⟨g, 0, none⟩), .int .i64 (y : Int)] w
      (SummerPost w base g n tv (.slice (some ⟨bl, ol, none⟩) L c) v1 v2 (.slice (some ⟨bm, om, none⟩) L cm) (.slice (some ⟨bw, ow, none⟩) N cw) (.slice (some ⟨bs, os, none⟩) N cs) v6 v7 v8 v12 v14 xs
        (if R < Lf + (W + S) then Lf + (W + S) else R) (Lf + (W + S)) (In + (W + S)) (depthF ls ms (if R < Lf + (W + S) then Lf + (W + S) else R))) := by
  obtain ⟨hW0, hW1⟩ := hW
  obtain ⟨hS0, hS1⟩ := hS
  obtain ⟨hR0, hR1⟩ := hR
  obtain ⟨hL0, hL1⟩ := hLf
  obtain ⟨hI0, hI1⟩ := hIn
  obtain ⟨i0, hi0, hz0, hz1, hz2⟩ := info_parts int_info
  have HF := Lib.hid hF
  have hg := hF.lt
  have k4 := hF.cell 4
  have k5 := hF.cell 5
  have k9 := hF.cell 9
  have k10 := hF.cell 10
  have k11 := hF.cell 11
  have f9 := hF.frozen 9
  have f10 := hF.frozen 10
  have f11 := hF.frozen 11
  simp at k4 k5 k9 k10 k11
  clear hF
  have C3 := Lib.hid c3; clear c3
  have C4 := Lib.hid c4; clear c4
  have HT := Lib.hid ht; clear ht
  have Hm := Lib.hid hm; clear hm
  have HL := Lib.hid hL; clear hL
  have HM := Lib.hid hM; clear hM
  have HO := Lib.hid hown; clear hown
  have I0 := Lib.hid hi0; clear hi0
  have Z0 := Lib.hid hz0; clear hz0
  have Z1 := Lib.hid hz1; clear hz1
  have Z2 := Lib.hid hz2; clear hz2
  have hy0 : (0 : Int) ≤ (y : Int) := by omega
  have hy1 : (y : Int) < (N : Int) := by omega
  have hne := HF.out.ne_row HO.out
  by_cases hx : R < Lf + (W + S)
  · rw [if_pos hx]
    go_enter Tryd.func86, Tryd.ntmps86
    go_wp2
    go_quiet (fail)
    go_wp2
    go_region
    clear k4 k5 k9 k10 k11 f9 f10 f11 cW cS hx
    have hLb : 0 ≤ Lf + (W + S) ∧ Lf + (W + S) ≤ 200000000 := by omega
    obtain ⟨hLb1, hLb2⟩ := hLb
    obtain ⟨E, hE⟩ : ∃ E, ((((w.drewN nq).setCell ⟨g, 11, none⟩ (.int .i64 (In + (W + S)))).setCell ⟨g, 10, none⟩ (.int .i64 (Lf + (W + S)))).setCell ⟨g, 9, none⟩ (.int .i64 (Lf + (W + S)))).drew = E := ⟨_, rfl⟩
    rw [hE]
    have hFE : FB E g #[.slice (some ⟨bl, ol, none⟩) L c, v1, v2, .slice (some ⟨bm, om, none⟩) L cm, .slice (some ⟨bw, ow, none⟩) N cw, .slice (some ⟨bs, os, none⟩) N cs, v6, v7, v8, .int .i64 (Lf + (W + S)), .int .i64 (Lf + (W + S)), .int .i64 (In + (W + S)), v12, tv, v14] := by
      rw [← hE]
      exact ((((show FB (w.drewN nq) g _ from HF.out).set_ 11 (.int .i64 (In + (W + S)))).set_ 10 (.int .i64 (Lf + (W + S)))).set_ 9 (.int .i64 (Lf + (W + S))))
    have hfE : Frm w.heap.size g tv.ownBlock w E := by
      rw [← hE]
      have h0 : Frm w.heap.size g tv.ownBlock w (w.drewN nq) := Frm.of_below ⟨rfl, rfl, rfl, Nat.le_refl _, fun _ _ => rfl⟩
      have h1 := ((h0.trans (Frm.set_ (n := w.heap.size) (row := tv.ownBlock) (g := g) _ 11 (.int .i64 (In + (W + S))))).trans (Frm.set_ _ 10 (.int .i64 (Lf + (W + S))))).trans (Frm.set_ _ 9 (.int .i64 (Lf + (W + S))))
      exact ⟨h1.os, h1.tape, h1.output, h1.size, h1.block⟩
    have hsE : E.heap.size = w.heap.size := by
      rw [← hE]
      simp [World.setCell, World.drew, World.drewN]
    have hkE : ∀ b o, b < w.heap.size → b ≠ g → E.cell? ⟨b, o, none⟩ = w.cell? ⟨b, o, none⟩ := fun b o hb1 hb2 => by
      rw [← hE]
      have n1 : ∀ (X : World) (i : Nat) (u : Value), (X.setCell ⟨g, i, none⟩ u).cell? ⟨b, o, none⟩ = X.cell? ⟨b, o, none⟩ := fun X i u => World.cell?_setCell_other X _ _ _ (fun e => by injection e; omega)
      exact ((n1 _ _ _).trans (n1 _ _ _)).trans (n1 _ _ _)
    have hOE : E.ownsRow base 3 1 tv n xs := by
      rw [← hE]
      exact own_frm (row := some g) (g := g) HO.out (by
        have h0 : Frm w.heap.size g (some g) w (w.drewN nq) := Frm.of_below ⟨rfl, rfl, rfl, Nat.le_refl _, fun _ _ => rfl⟩
        have h1 := ((h0.trans (Frm.set_ (n := w.heap.size) (row := some g) (g := g) _ 11 (.int .i64 (In + (W + S))))).trans (Frm.set_ _ 10 (.int .i64 (Lf + (W + S))))).trans (Frm.set_ _ 9 (.int .i64 (Lf + (W + S))))
        exact ⟨h1.os, h1.tape, h1.output, h1.size, h1.block⟩) hne (.inr hne)
    clear hE
    have hdep := depth_any g bl ol c bm om L cm ls ms (Lf + (W + S)) E.drew (by show _ < E.heap.size; omega) (by show _ < E.heap.size; omega) (by show _ < E.heap.size; omega) HL.out h1 h6 HM.out hcap HT.out Hm.out (by omega) (by omega)
      (show E.cell? _ = _ by simpa using hFE.cell 0) (show E.cell? _ = _ by simpa using hFE.cell 3)
      (fun i x hi => ⟨(hkE _ _ hbl gbl).trans (C3.out i x hi).1, (hkE _ _ hbl gbl).trans (C3.out i x hi).2.1, (hkE _ _ hbl gbl).trans (C3.out i x hi).2.2⟩) (fun i x hi => (hkE _ _ hbm gbm).trans (C4.out i x hi))
    have k9 := hFE.cell 9
    have k13 := hFE.cell 13
    have f13 := hFE.frozen 13
    simp at k9 k13
    have hgE : g < E.heap.size := by omega
    have HS := Lib.hid hsE
    have HFE := Lib.hid hFE
    have HfE := Lib.hid hfE
    have HOE := Lib.hid hOE
    have HD := Lib.hid hdep
    clear hsE hFE hfE hOE hkE hdep
    go_wp2_with fail
    go_region_law (first
        | (refine step_enter (by rfl) 101 #[.pointer (some ⟨g, 0, none⟩), .int .i64 (Lf + (W + S))] (by go_simp) ?_
           refine HD.out.mono ?_
           rintro e w2 ⟨rfl, hb2⟩
           refine ⟨_, rfl, ?_⟩
           have HB2 := Lib.hid hb2
           have hc13 : w2.cell? ⟨g, 13, none⟩ = some tv := ((bcell hb2).1 _ _ hgE).trans k13
           have hg2 : g < w2.heap.size := Nat.lt_of_lt_of_le hgE hb2.size
           have hbs2 : base ≤ w2.heap.size := Nat.le_trans (show base ≤ E.heap.size by rw [HS.out]; exact hbase) hb2.size
           clear hb2)
        | (refine step_append_lies _ (by rfl) _ _ _ (by rfl) base 3 i0 _ 1 8 Tryd.underlying39 I0.out Z0.out Z1.out Z2.out rfl (by omega) tv n xs (by rfl) ((own_next (w := E.drew) HOE.out HB2.out).alloc _)
             ⟨w2.heap.size, 0, none⟩ 1 1 [.int .i64 (depthF ls ms (Lf + (W + S)))] (by rfl) (by rfl) (cell_one_new _ _ _) (by simp [Value.oneCell']) (by omega) (by unfold maxLen; omega) (by omega) (by simp; omega) (w2.heap.size + 1) (by simp) ?_
           intro gt cap w3 hown3 hgrow hat hlt
           have hF2 : FB w2 g _ := FB.next (w := E.drew) HFE.out HB2.out
           have hF3 : FB w3 g _ := (hgrow.block g (by simp; omega) (Ne.symm hne)).trans ((Below.heap_alloc _ _ g hg2).trans hF2)
           have HF3 := Lib.hid hF3
           have hc13' : w3.cell? ⟨g, 13, none⟩ = some tv := by simpa using hF3.cell 13
           have hf13' : w3.frozen? ⟨g, 13, none⟩ = false := hF3.frozen 13
           have HO3 := Lib.hid hown3
           have HG := Lib.hid hgrow
           have HA := Lib.hid hat
           clear hF2 hF3 hown3 hgrow hat)
        | fail)
    all_goals
      go_end0
      exact ⟨rfl, gt, cap, HF3.out.set_ 13 _, own_frm (row := some g) (g := g) HO3.out (Frm.set_ _ 13 _) (HF3.out.ne_row HO3.out) (.inr (HF3.out.ne_row HO3.out)), season_end HfE.out HS.out HB2.out HG.out,
        HA.out.imp id (fun h => by have h1 : E.heap.size ≤ w2.heap.size := HB2.out.size; rw [HS.out] at h1; omega)⟩
  · rw [if_neg hx]
    go_enter Tryd.func86, Tryd.ntmps86
    go_wp2
    go_quiet (fail)
    go_wp2
    go_region
    clear k4 k5 k9 k10 k11 f9 f10 f11 cW cS hx
    have hLb : 0 ≤ Lf + (W + S) ∧ Lf + (W + S) ≤ 200000000 := by omega
    obtain ⟨hLb1, hLb2⟩ := hLb
    obtain ⟨E, hE⟩ : ∃ E, ((((w.drewN nq).setCell ⟨g, 11, none⟩ (.int .i64 (In + (W + S)))).setCell ⟨g, 10, none⟩ (.int .i64 (Lf + (W + S)))).setCell ⟨g, 9, none⟩ (.int .i64 R)).drew = E := ⟨_, rfl⟩
    rw [hE]
    have hFE : FB E g #[.slice (some ⟨bl, ol, none⟩) L c, v1, v2, .slice (some ⟨bm, om, none⟩) L cm, .slice (some ⟨bw, ow, none⟩) N cw, .slice (some ⟨bs, os, none⟩) N cs, v6, v7, v8, .int .i64 R, .int .i64 (Lf + (W + S)), .int .i64 (In + (W + S)), v12, tv, v14] := by
      rw [← hE]
      exact ((((show FB (w.drewN nq) g _ from HF.out).set_ 11 (.int .i64 (In + (W + S)))).set_ 10 (.int .i64 (Lf + (W + S)))).set_ 9 (.int .i64 R))
    have hfE : Frm w.heap.size g tv.ownBlock w E := by
      rw [← hE]
      have h0 : Frm w.heap.size g tv.ownBlock w (w.drewN nq) := Frm.of_below ⟨rfl, rfl, rfl, Nat.le_refl _, fun _ _ => rfl⟩
      have h1 := ((h0.trans (Frm.set_ (n := w.heap.size) (row := tv.ownBlock) (g := g) _ 11 (.int .i64 (In + (W + S))))).trans (Frm.set_ _ 10 (.int .i64 (Lf + (W + S))))).trans (Frm.set_ _ 9 (.int .i64 R))
      exact ⟨h1.os, h1.tape, h1.output, h1.size, h1.block⟩
    have hsE : E.heap.size = w.heap.size := by
      rw [← hE]
      simp [World.setCell, World.drew, World.drewN]
    have hkE : ∀ b o, b < w.heap.size → b ≠ g → E.cell? ⟨b, o, none⟩ = w.cell? ⟨b, o, none⟩ := fun b o hb1 hb2 => by
      rw [← hE]
      have n1 : ∀ (X : World) (i : Nat) (u : Value), (X.setCell ⟨g, i, none⟩ u).cell? ⟨b, o, none⟩ = X.cell? ⟨b, o, none⟩ := fun X i u => World.cell?_setCell_other X _ _ _ (fun e => by injection e; omega)
      exact ((n1 _ _ _).trans (n1 _ _ _)).trans (n1 _ _ _)
    have hOE : E.ownsRow base 3 1 tv n xs := by
      rw [← hE]
      exact own_frm (row := some g) (g := g) HO.out (by
        have h0 : Frm w.heap.size g (some g) w (w.drewN nq) := Frm.of_below ⟨rfl, rfl, rfl, Nat.le_refl _, fun _ _ => rfl⟩
        have h1 := ((h0.trans (Frm.set_ (n := w.heap.size) (row := some g) (g := g) _ 11 (.int .i64 (In + (W + S))))).trans (Frm.set_ _ 10 (.int .i64 (Lf + (W + S))))).trans (Frm.set_ _ 9 (.int .i64 R))
        exact ⟨h1.os, h1.tape, h1.output, h1.size, h1.block⟩) hne (.inr hne)
    clear hE
    have hdep := depth_any g bl ol c bm om L cm ls ms R E.drew (by show _ < E.heap.size; omega) (by show _ < E.heap.size; omega) (by show _ < E.heap.size; omega) HL.out h1 h6 HM.out hcap HT.out Hm.out (by omega) (by omega)
      (show E.cell? _ = _ by simpa using hFE.cell 0) (show E.cell? _ = _ by simpa using hFE.cell 3)
      (fun i x hi => ⟨(hkE _ _ hbl gbl).trans (C3.out i x hi).1, (hkE _ _ hbl gbl).trans (C3.out i x hi).2.1, (hkE _ _ hbl gbl).trans (C3.out i x hi).2.2⟩) (fun i x hi => (hkE _ _ hbm gbm).trans (C4.out i x hi))
    have k9 := hFE.cell 9
    have k13 := hFE.cell 13
    have f13 := hFE.frozen 13
    simp at k9 k13
    have hgE : g < E.heap.size := by omega
    have HS := Lib.hid hsE
    have HFE := Lib.hid hFE
    have HfE := Lib.hid hfE
    have HOE := Lib.hid hOE
    have HD := Lib.hid hdep
    clear hsE hFE hfE hOE hkE hdep
    go_wp2_with fail
    go_region_law (first
        | (refine step_enter (by rfl) 101 #[.pointer (some ⟨g, 0, none⟩), .int .i64 R] (by go_simp) ?_
           refine HD.out.mono ?_
           rintro e w2 ⟨rfl, hb2⟩
           refine ⟨_, rfl, ?_⟩
           have HB2 := Lib.hid hb2
           have hc13 : w2.cell? ⟨g, 13, none⟩ = some tv := ((bcell hb2).1 _ _ hgE).trans k13
           have hg2 : g < w2.heap.size := Nat.lt_of_lt_of_le hgE hb2.size
           have hbs2 : base ≤ w2.heap.size := Nat.le_trans (show base ≤ E.heap.size by rw [HS.out]; exact hbase) hb2.size
           clear hb2)
        | (refine step_append_lies _ (by rfl) _ _ _ (by rfl) base 3 i0 _ 1 8 Tryd.underlying39 I0.out Z0.out Z1.out Z2.out rfl (by omega) tv n xs (by rfl) ((own_next (w := E.drew) HOE.out HB2.out).alloc _)
             ⟨w2.heap.size, 0, none⟩ 1 1 [.int .i64 (depthF ls ms R)] (by rfl) (by rfl) (cell_one_new _ _ _) (by simp [Value.oneCell']) (by omega) (by unfold maxLen; omega) (by omega) (by simp; omega) (w2.heap.size + 1) (by simp) ?_
           intro gt cap w3 hown3 hgrow hat hlt
           have hF2 : FB w2 g _ := FB.next (w := E.drew) HFE.out HB2.out
           have hF3 : FB w3 g _ := (hgrow.block g (by simp; omega) (Ne.symm hne)).trans ((Below.heap_alloc _ _ g hg2).trans hF2)
           have HF3 := Lib.hid hF3
           have hc13' : w3.cell? ⟨g, 13, none⟩ = some tv := by simpa using hF3.cell 13
           have hf13' : w3.frozen? ⟨g, 13, none⟩ = false := hF3.frozen 13
           have HO3 := Lib.hid hown3
           have HG := Lib.hid hgrow
           have HA := Lib.hid hat
           clear hF2 hF3 hown3 hgrow hat)
        | fail)
    all_goals
      go_end0
      exact ⟨rfl, gt, cap, HF3.out.set_ 13 _, own_frm (row := some g) (g := g) HO3.out (Frm.set_ _ 13 _) (HF3.out.ne_row HO3.out) (.inr (HF3.out.ne_row HO3.out)), season_end HfE.out HS.out HB2.out HG.out,
        HA.out.imp id (fun h => by have h1 : E.heap.size ≤ w2.heap.size := HB2.out.size; rw [HS.out] at h1; omega)⟩
end Go.Proofs.YtccekbdhffccdaaDoor
