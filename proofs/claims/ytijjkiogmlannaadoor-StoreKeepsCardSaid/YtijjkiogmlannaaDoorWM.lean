/- Stores: the best plan, by the code. Stores: the first thing to run out, by the code: the least of what is lacking. -/
import Derived.Test.YtijjkiogmlannaaDoorWK
namespace Go.Proofs.YtijjkiogmlannaaDoor
open Go.RowKit

def bstO (S : Sto) : Option (Nat × Int) := S.best.map fun x => (x, S.cost x)
theorem bstO_is {X : SX} {w : World} (h : X.In w) : (sufP X.S (2 ^ X.ns)).foldl (chF X.S.cost) none = bstO X.S := by
  rw [chF_all]
  unfold bstO Sto.best sufP
  rw [h.hs]
set_option maxRecDepth 100000 in
set_option maxHeartbeats 2000000 in
theorem best_any {X : SX} {w0 w : World} {B M : Nat} (h : LkAt X w0 B M w) (hX : X.In w0) (K : X.S.Ok) :
    Calls Tryd.prog 57 #[.pointer (some ⟨B, 0, none⟩)] w fun e w' => e = .returned (.tuple #[(chB (bstO X.S)).1, (chB (bstO X.S)).2.1, (chB (bstO X.S)).2.2]) ∧ LkAt X w0 B M w' ∧ w.grownBy w' (some M) := by
  rw [← bstO_is hX]
  obtain ⟨z0, z1, hb⟩ := two_new w (.cells #[.pointer (some ⟨B, 0, none⟩)] 79) (.cells #[.pointer (some ⟨B, 0, none⟩)] 79)
  obtain ⟨w1, hw1⟩ : ∃ z, w.alloc (.cells #[.pointer (some ⟨B, 0, none⟩)] 79) = z := ⟨_, rfl⟩
  have y0 := heap_alloc_new w (.cells #[.pointer (some ⟨B, 0, none⟩)] 79)
  have hs1 : w1.heap.size = w.heap.size + 1 := by rw [← hw1]; simp
  rw [hw1] at z0 z1 hb y0
  obtain ⟨w2, hw2⟩ : ∃ z, w1.alloc (.cells #[.pointer (some ⟨B, 0, none⟩)] 79) = z := ⟨_, rfl⟩
  rw [hw2] at z0 z1 hb
  have HC := Lib.hid (cheapI_any (c1 := w.heap.size + 1) (c2 := w.heap.size) ⟨h.up hb, z1⟩ ⟨h.up hb, z0⟩ hX K)
  have HB := Lib.hid hb
  have HW1 := Lib.hid hw1; have HW2 := Lib.hid hw2; have HS1 := Lib.hid hs1
  have c0 := cell_of_row w1 w.heap.size 0 _ 79 (0, 0) y0
  simp at c0
  obtain ⟨R, hR⟩ : ∃ z, (sufP X.S (2 ^ X.ns)).foldl (chF X.S.cost) none = z := ⟨_, rfl⟩
  rw [hR] at HC ⊢
  clear z0 z1 hb y0 hw1 hw2 hs1 h hX K hR
  go_enter Tryd.func57, Tryd.ntmps57
  go_wp2_with fail
  rw [HW1.out]
  refine (sufficing_any B w1).mono ?_
  rintro e w' ⟨rfl, rfl⟩
  rw [HW2.out, HS1.out]
  go_wp2_with fail
  refine HC.out.mono ?_
  rintro e w3 ⟨rfl, hl, hg⟩
  have HF := Lib.hid (And.intro hl (grown_trans (below_grown HB.out (some M)) hg))
  clear hl hg c0
  go_wp2_with fail
  exact bodyPost_ret (v := .tuple #[(chB R).1, (chB R).2.1, (chB R).2.2]) (by simp [results, Tryd.results57, go_sem]) rfl ⟨rfl, HF.out.1, HF.out.2⟩
def bstI (S : Sto) : Int × Int × Int := if stoB S then (match S.best with | none => (0, 0, 5) | some p => ((p : Int), S.cost p, 0)) else (0, 0, 2)
set_option maxRecDepth 100000 in
set_option maxHeartbeats 2000000 in
theorem Best_any {X : SX} {w : World} (h : X.In w) : Calls Tryd.prog 28 #[X.v] w fun e w' => e = .returned (.tuple #[.int .i64 (bstI X.S).1, .int .i64 (bstI X.S).2.1, .int .i64 (bstI X.S).2.2]) ∧ Below w.heap.size w w' := by
  have hsz := (sto_new X w)
  have HI := Lib.hid (h.up hsz.2)
  have HB := Lib.hid hsz.2; have HZ := Lib.hid hsz.1
  rcases X with ⟨S, AS, ns, cs, AI, ni, ci, AW, nw, cw⟩
  obtain ⟨w1, hw1⟩ : ∃ z, w.alloc (.cells (SX.cells ⟨S, AS, ns, cs, AI, ni, ci, AW, nw, cw⟩) 28) = z := ⟨_, rfl⟩
  rw [hw1] at HI HB HZ
  have HW1 := Lib.hid hw1
  obtain ⟨⟨s0, s1, s2⟩, ⟨s3, s4, s5⟩, ⟨s6, s7, s8⟩, s9, s10, s11⟩ := sto_box HZ.out
  simp only at s0 s1 s2 s3 s4 s5 s6 s7 s8 s9 s10 s11
  clear h hsz hw1
  cases hst : stoB S with
  | false =>
    have HCK := Lib.hid (Check_any HI.out)
    have e2 : chkI S = 2 := by unfold chkI; rw [hst]; rfl
    have HE : Hid (bstI S = (0, 0, 2)) := Lib.hid (by unfold bstI; rw [hst]; rfl)
    simp only [e2] at HCK
    clear hst e2
    go_enter Tryd.func28, Tryd.ntmps28
    go_wp2_with fail
    rw [HW1.out]
    refine HCK.out.mono ?_
    rintro e w2 ⟨rfl, hb⟩
    have HB2 := Lib.hid (HB.out.trans (hb.mono HB.out.size))
    clear hb s0 s1 s2 s3 s4 s5 s6 s7 s8 s9 s10 s11
    go_wp2_with fail
    exact bodyPost_ret (v := .tuple #[.int .i64 0, .int .i64 0, .int .i64 2]) (by simp [results, Tryd.results28, go_sem]) rfl ⟨by rw [HE.out], HB2.out⟩
  | true =>
    have HCK := Lib.hid (Check_any HI.out)
    have e2 : chkI S = 0 := by unfold chkI; rw [hst]; rfl
    have HE : Hid (bstI S = (match S.best with | none => (0, 0, 5) | some p => ((p : Int), S.cost p, 0))) := Lib.hid (by unfold bstI; rw [hst]; rfl)
    have HOK := Lib.hid (stoB_iff.1 hst)
    simp only [e2] at HCK
    clear hst e2
    go_enter Tryd.func28, Tryd.ntmps28
    go_wp2_with fail
    rw [HW1.out]
    refine HCK.out.mono ?_
    rintro e w2 ⟨rfl, hb⟩
    have HB2 := Lib.hid (HB.out.trans (hb.mono HB.out.size))
    have HI2 := Lib.hid (HI.out.up hb)
    have HZ2 := (hb.block _ (heapsz HZ.out)).trans HZ.out
    clear hb s0 s1 s2 s3 s4 s5 s6 s7 s8 s9 s10 s11
    obtain ⟨⟨s0, s1, s2⟩, ⟨s3, s4, s5⟩, ⟨s6, s7, s8⟩, s9, s10, s11⟩ := sto_box HZ2
    simp only at s0 s1 s2 s3 s4 s5 s6 s7 s8 s9 s10 s11
    clear HZ2
    go_wp2_with fail
    refine (look_any HI2.out).mono ?_
    rintro e w3 ⟨B, M, rfl, hl⟩
    have HBS := Lib.hid (best_any hl HI2.out HOK.out)
    clear hl s0 s1 s2 s3 s4 s5 s6 s7 s8 s9 s10 s11
    go_wp2_with fail
    refine HBS.out.mono ?_
    rintro e w4 ⟨rfl, hl, _⟩
    have HF := Lib.hid (HB2.out.trans (hl.bel.mono HB2.out.size))
    clear hl HBS
    cases hb : S.best with
    | none =>
      have HE2 : Hid (bstI S = (0, 0, 5)) := Lib.hid (by rw [HE.out, hb])
      have e1 : bstO S = none := by unfold bstO; rw [hb]; rfl
      simp only [e1, chB]
      clear hb e1
      go_wp2_with fail
      exact bodyPost_ret (v := .tuple #[.int .i64 0, .int .i64 0, .int .i64 5]) (by simp [results, Tryd.results28, go_sem]) rfl ⟨by rw [HE2.out], HF.out⟩
    | some p =>
      have HE2 : Hid (bstI S = ((p : Int), S.cost p, 0)) := Lib.hid (by rw [HE.out, hb])
      have e1 : bstO S = some (p, S.cost p) := by unfold bstO; rw [hb]; rfl
      simp only [e1, chB]
      clear hb e1
      go_wp2_with fail
      exact bodyPost_ret (v := .tuple #[.int .i64 (p : Int), .int .i64 (S.cost p), .int .i64 0]) (by simp [results, Tryd.results28, go_sem]) rfl ⟨by rw [HE2.out], HF.out⟩
end Go.Proofs.YtijjkiogmlannaaDoor

namespace Go.Proofs.YtijjkiogmlannaaDoor
open Go.RowKit Go.Shelf
attribute [local go_sem] Oper.semAt_some

def keyF (f : Flt) : Int := (f.w : Int) * 3 + (f.k : Int)
theorem flt_bound {S : Sto} (K : S.Ok) {p : Nat} {f : Flt} (h : f ∈ S.flts p) : f.w < 30 ∧ f.k < 3 ∧ f.i < S.ices.length ∧ f.n < S.wins.length := by
  obtain ⟨h1, h2, h3⟩ := flts_mem.1 h
  obtain ⟨h4, h5, _⟩ := lackL_some h3
  have h6 := (lackG_some h5).1
  have hwn : S.wins.getD f.n [] ∈ S.wins := by
    rw [List.getD_eq_getElem?_getD, List.getElem?_eq_getElem h2, Option.getD_some]
    exact List.getElem_mem _
  have h7 := (runN_ok K (plan := p) (ice := S.ices.getD f.i []) (K.wins _ hwn).2 S.weeks.toNat).ll
  have h8 := K.weeks
  unfold Sto.run at h4
  rw [h7] at h4
  exact ⟨by omega, h6, h1, h2⟩
set_option maxRecDepth 100000 in
set_option maxHeartbeats 1000000 in
theorem first1_any (f : Flt) (hw : f.w < 30) (hk : f.k < 3) (w : World) : Calls Tryd.prog 72 #[.agg #[.bool true, .int .i64 (f.i : Int), .int .i64 (f.n : Int), .int .i64 (f.w : Int), .int .i64 (f.k : Int)]] w fun e w' => e = .returned (.int .i64 (keyF f)) ∧ Below w.heap.size w w' := by
  obtain ⟨i, n, W, k⟩ := f
  simp only at hw hk
  have z0 := heap_alloc_new w (.cells #[.bool true, .int .i64 (i : Int), .int .i64 (n : Int), .int .i64 (W : Int), .int .i64 (k : Int)] 48)
  have HB := Lib.hid ((Below.refl w.heap.size w).alloc (Nat.le_refl _) (.cells #[.bool true, .int .i64 (i : Int), .int .i64 (n : Int), .int .i64 (W : Int), .int .i64 (k : Int)] 48))
  obtain ⟨⟨y0, y1, y2, y3, y4⟩, _⟩ := box5_cells z0
  clear z0
  go_enter Tryd.func72, Tryd.ntmps72
  go_wp2_with fail
  go_ret
  exact ⟨rfl, HB.out⟩
def ffA : Option (Flt × Int) → Array Value
  | none => #[.bool false, .int .i64 0, .int .i64 0, .int .i64 0, .int .i64 0]
  | some (f, _) => #[.bool true, .int .i64 (f.i : Int), .int .i64 (f.n : Int), .int .i64 (f.w : Int), .int .i64 (f.k : Int)]
def ffC : Option (Flt × Int) → Int
  | none => 0
  | some (_, c) => c
def ffL (n : Nat) (a : Option (Flt × Int)) : List (Nat × Array Value × TypeId) := [(n, #[.func (.func 72) #[] #[]], 110), (n + 1, ffA a, 48), (n + 1 + 1, #[.int .i64 (ffC a)], 3), (n + 1 + 1 + 1, #[.bool a.isSome], 4)]
theorem ffA_form (a : Option (Flt × Int)) : ∃ x0 x1 x2 x3 x4, ffA a = #[x0, x1, x2, x3, x4] ∧ (x0.oneCell' = true ∧ x1.oneCell' = true ∧ x2.oneCell' = true ∧ x3.oneCell' = true ∧ x4.oneCell' = true) := by
  cases a with
  | none => exact ⟨_, _, _, _, _, rfl, rfl, rfl, rfl, rfl, rfl⟩
  | some x => exact ⟨_, _, _, _, _, rfl, rfl, rfl, rfl, rfl, rfl⟩
theorem FW.fill {X : SX} {w0 w A : World} {B M : Nat} {fs fs' : List (Nat × Array Value × TypeId)} {b : Nat} {a1 b1 c1 d1 e1 v0 v1 v2 v3 v4 : Value} {t : TypeId} (h : FW X w0 w B M fs A) (hb : (b, #[a1, b1, c1, d1, e1], t) ∈ fs) (ht : t ≠ 104) (h0 : w0.heap.size ≤ w.heap.size) (hn : w.heap.size ≤ b) (hf : ∀ x ∈ fs', x = (b, #[v0, v1, v2, v3, v4], t) ∨ (x ∈ fs ∧ x.1 ≠ b)) :
    ∃ A', A.setCells b 0 (#[v0, v1, v2, v3, v4] : Array Value).toList = A' ∧ A.there b 0 (#[v0, v1, v2, v3, v4] : Array Value).size ∧ FW X w0 w B M fs' A' ∧ (∀ j, j ≠ b → A'.heap[j]? = A.heap[j]?) ∧ A'.heap.size = A.heap.size ∧ ∀ n, n ≤ b → Below n A A' := by
  have hz := h.fix _ hb
  obtain ⟨n1, n2⟩ := lk_ne h.lk hz ht
  obtain ⟨A', h1, h2, h3, h4, h5, h6⟩ := store5 hz v0 v1 v2 v3 v4
  obtain ⟨es, cl, hm, ho⟩ := h.lk.map
  have hbl := h5 w.heap.size hn
  exact ⟨A', h1, h2, ⟨⟨h.lk.bel.trans (hbl.mono h0), (h4 _ n1).trans h.lk.box, h.lk.b0, h.lk.m0, es, cl, (h4 _ n2).trans hm, ho⟩, ⟨hbl.os.trans h.gr.os, hbl.tape.trans h.gr.tape, hbl.output.trans h.gr.output, Nat.le_trans h.gr.size hbl.size, fun j hj hne => (hbl.block j hj).trans (h.gr.block j hj hne)⟩, fun x hx => by
    rcases hf x hx with rfl | ⟨hm', hne⟩
    · exact h3
    · exact (h4 _ hne).trans (h.fix x hm')⟩, h4, h6, h5⟩
theorem ff_set {X : SX} {w0 w A : World} {B M n : Nat} {a : Option (Flt × Int)} (h : FW X w0 w B M (ffL n a) A) (h0 : w0.heap.size ≤ w.heap.size) (hn : w.heap.size ≤ n) (f : Flt) (c : Int) :
    ∃ A1, A.setCells (n + 1) 0 (#[.bool true, .int .i64 (f.i : Int), .int .i64 (f.n : Int), .int .i64 (f.w : Int), .int .i64 (f.k : Int)] : Array Value).toList = A1 ∧ A.there (n + 1) 0 5 ∧
      (A1.cell? ⟨n + 1 + 1, 0, none⟩ = some (.int .i64 (ffC a)) ∧ A1.frozen? ⟨n + 1 + 1, 0, none⟩ = false ∧ A1.cell? ⟨n + 1 + 1 + 1, 0, none⟩ = some (.bool a.isSome) ∧ A1.frozen? ⟨n + 1 + 1 + 1, 0, none⟩ = false) ∧
      FW X w0 w B M (ffL n (some (f, c))) ((A1.setCell ⟨n + 1 + 1, 0, none⟩ (.int .i64 c)).setCell ⟨n + 1 + 1 + 1, 0, none⟩ (.bool true)) ∧ KeepsOthers A A1 ∧ (∀ j, j < n → A1.heap[j]? = A.heap[j]?) ∧ ∀ m, m ≤ n → Below m A A1 := by
  obtain ⟨x0, x1, x2, x3, x4, hx, _⟩ := ffA_form a
  obtain ⟨A1, e1, e2, e3, e4, e5, e6⟩ := h.fill (b := n + 1) (a1 := x0) (b1 := x1) (c1 := x2) (d1 := x3) (e1 := x4) (v0 := .bool true) (v1 := .int .i64 (f.i : Int)) (v2 := .int .i64 (f.n : Int)) (v3 := .int .i64 (f.w : Int)) (v4 := .int .i64 (f.k : Int)) (t := 48) (fs' := [(n, #[.func (.func 72) #[] #[]], 110), (n + 1, ffA (some (f, c)), 48), (n + 1 + 1, #[.int .i64 (ffC a)], 3), (n + 1 + 1 + 1, #[.bool a.isSome], 4)]) (by simp [ffL, hx]) (by decide) h0 (by omega) fun x hm => by
    simp only [ffL, List.mem_cons, List.not_mem_nil, or_false] at hm ⊢
    rcases hm with rfl | rfl | rfl | rfl
    · exact .inr ⟨.inl rfl, by show n ≠ n + 1; omega⟩
    · exact .inl rfl
    · exact .inr ⟨.inr (.inr (.inl rfl)), by show n + 1 + 1 ≠ n + 1; omega⟩
    · exact .inr ⟨.inr (.inr (.inr rfl)), by show n + 1 + 1 + 1 ≠ n + 1; omega⟩
  have g2 := e3.fix (n + 1 + 1, #[.int .i64 (ffC a)], 3) (by simp)
  have g3 := e3.fix (n + 1 + 1 + 1, #[.bool a.isSome], 4) (by simp)
  simp only at g2 g3
  have h2 := e3.put (b := n + 1 + 1) (k := 0) (v := .int .i64 c) (cs := #[.int .i64 (ffC a)]) (t := 3) (fs' := [(n, #[.func (.func 72) #[] #[]], 110), (n + 1, ffA (some (f, c)), 48), (n + 1 + 1, #[.int .i64 c], 3), (n + 1 + 1 + 1, #[.bool a.isSome], 4)]) (by simp) (by decide) h0 (by omega) fun x hm => by
    simp only [List.mem_cons, List.not_mem_nil, or_false] at hm ⊢
    rcases hm with rfl | rfl | rfl | rfl
    · exact .inr ⟨.inl rfl, by show n ≠ n + 1 + 1; omega⟩
    · exact .inr ⟨.inr (.inl rfl), by show n + 1 ≠ n + 1 + 1; omega⟩
    · exact .inl rfl
    · exact .inr ⟨.inr (.inr (.inr rfl)), by show n + 1 + 1 + 1 ≠ n + 1 + 1; omega⟩
  have h3 := h2.put (b := n + 1 + 1 + 1) (k := 0) (v := .bool true) (cs := #[.bool a.isSome]) (t := 4) (fs' := ffL n (some (f, c))) (by simp) (by decide) h0 (by omega) fun x hm => by
    simp only [ffL, ffC, List.mem_cons, List.not_mem_nil, or_false] at hm ⊢
    rcases hm with rfl | rfl | rfl | rfl
    · exact .inr ⟨.inl rfl, by show n ≠ n + 1 + 1 + 1; omega⟩
    · exact .inr ⟨.inr (.inl rfl), by show n + 1 ≠ n + 1 + 1 + 1; omega⟩
    · exact .inr ⟨.inr (.inr (.inl rfl)), by show n + 1 + 1 ≠ n + 1 + 1 + 1; omega⟩
    · exact .inl rfl
  refine ⟨A1, e1, e2, ⟨by have := cell_of_row A1 (n + 1 + 1) 0 _ 3 (0, 0) g2; simpa using this, by simp [World.frozen?, g2], by have := cell_of_row A1 (n + 1 + 1 + 1) 0 _ 4 (0, 0) g3; simpa using this, by simp [World.frozen?, g3]⟩, h3, ⟨by omega, fun k o hk ho => (e4 k (fun e => ?_)).trans hk⟩, fun j hj => e4 j (by omega), fun m hm => e6 m (by omega)⟩
  have := h.fix (n + 1, ffA a, 48) (by simp [ffL])
  rw [e] at hk
  rw [hk] at this
  injection this with this
  rw [this] at ho
  cases ho
end Go.Proofs.YtijjkiogmlannaaDoor
