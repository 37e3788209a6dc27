/- Stores: the least of what is lacking, by the code. Stores: the fault of a plan, and the first thing to run out, by the code. -/
import Derived.Test.YtijjkiogmlannaaDoorWM
namespace Go.Proofs.YtijjkiogmlannaaDoor
open Go.RowKit Go.Shelf
attribute [local go_sem] Oper.semAt_some

def cfCv (n : Nat) (x0 x1 x2 x3 x4 : Value) (c : Int) (b : Bool) : Tmp → Value
  | 4 => .pointer (some ⟨n + 1, 0, none⟩)
  | 5 => .pointer (some ⟨n + 1 + 1, 0, none⟩)
  | 6 => .pointer (some ⟨n + 1 + 1 + 1, 0, none⟩)
  | 23 => .agg #[x0, x1, x2, x3, x4]
  | 24 => .int .i64 c
  | 25 => .bool b
  | _ => undef
set_option maxRecDepth 100000 in
set_option maxHeartbeats 8000000 in
theorem cheapF_any {X : SX} {w0 w : World} {B M c1 c2 p : Nat} (h1 : ItA X w0 B M c1 c2 p w) (hX : X.In w0) (K : X.S.Ok) (hp : p < 2 ^ X.ns) :
    Calls Tryd.prog 71 #[.func (.func 87) #[] #[.pointer (some ⟨c1, 0, none⟩), .pointer (some ⟨c2, 0, none⟩)], .func (.func 72) #[] #[]] w fun e w' => e = .returned (.tuple #[.agg (ffA ((X.S.flts p).foldl (chF keyF) none)), .int .i64 (ffC ((X.S.flts p).foldl (chF keyF) none)), .bool ((X.S.flts p).foldl (chF keyF) none).isSome]) ∧ LkAt X w0 B M w' ∧ w.grownBy w' (some M) := by
  obtain ⟨z0, z1, z2, z3, hb⟩ := four_new w (.cells #[.func (.func 72) #[] #[]] 110) (.cells #[.bool false, .int .i64 0, .int .i64 0, .int .i64 0, .int .i64 0] 48) (.cells #[.int .i64 0] 3) (.cells #[.bool false] 4)
  obtain ⟨w5, hw5⟩ : ∃ z, (((w.alloc (.cells #[.func (.func 72) #[] #[]] 110)).alloc (.cells #[.bool false, .int .i64 0, .int .i64 0, .int .i64 0, .int .i64 0] 48)).alloc (.cells #[.int .i64 0] 3)).alloc (.cells #[.bool false] 4) = z := ⟨_, rfl⟩
  rw [hw5] at z0 z1 z2 z3 hb
  have HFI : Hid (FW X w0 w B M (ffL w.heap.size none) w5) := Lib.hid ⟨h1.lk.up hb, below_grown hb _, fun x hx => by
    simp only [ffL, ffA, ffC, Option.isSome_none, List.mem_cons, List.not_mem_nil, or_false] at hx
    rcases hx with rfl | rfl | rfl | rfl
    · exact z0
    · exact z1
    · exact z2
    · exact z3⟩
  have HIT : Hid (ItA X w0 B M c1 c2 p w5) := Lib.hid ⟨h1.lk.up hb, (hb.block _ (heapsz h1.c1)).trans h1.c1, (hb.block _ (heapsz h1.c2)).trans h1.c2⟩
  have HSZ : Hid (M < w5.heap.size ∧ B < w5.heap.size ∧ c1 < w.heap.size ∧ c2 < w.heap.size ∧ w.heap.size + 1 + 1 + 1 < w5.heap.size ∧ w0.heap.size ≤ w.heap.size ∧ M < w.heap.size ∧ B < w.heap.size) := Lib.hid (by
    obtain ⟨es, c, hm, _⟩ := h1.lk.map
    have e1 := (Array.getElem?_eq_some_iff.1 hm).1; have e2 := heapsz h1.lk.box; have e3 := heapsz z3
    exact ⟨by omega, by omega, heapsz h1.c1, heapsz h1.c2, e3, h1.lk.bel.size, e1, e2⟩)
  have HW5 := Lib.hid hw5; have HX := Lib.hid hX; have HK := Lib.hid K; have HP := Lib.hid hp
  obtain ⟨R, hR⟩ : ∃ z, (X.S.flts p).foldl (chF keyF) none = z := ⟨_, rfl⟩
  have HR := Lib.hid hR
  rw [hR]
  clear z0 z1 z2 z3 hb hw5 h1 hX K hR hp
  refine callsIn_wide.1 (callsIn_of_wp_marks (n := 5) Tryd.func71 rfl trivial (wpIn_wide.2 ?_) rfl)
  simp only [Tryd.ntmps71, List.size_toArray, List.length_cons, List.length_nil, Nat.reduceAdd, Nat.reduceSub, Array.replicate_succ, Array.replicate_zero, List.push_toArray, List.append_toArray, List.nil_append, List.cons_append]
  go_wp2_with fail
  rw [HW5.out]
  refine (wpIn_wide (n := 3)).1 ?_
  refine wpIn_rangeFunc_writes rfl (by decide) (gf := 87) (lb := #[.pointer (some ⟨c1, 0, none⟩), .pointer (some ⟨c2, 0, none⟩)]) rfl trivial (enters_of Tryd.func87 (by kernel_rfl) rfl)
    (faults_seq HX.out HK.out (3 - 1) (by decide) HP.out HIT.out)
    (fun A A' hs k o hk ho hc => (hs.1.block k (Array.getElem?_eq_some_iff.1 ho).1 (fun e => by injection e with e; have := HSZ.out.1; omega)).trans ho)
    kpW_t (kpW_b (by have := HSZ.out; omega) (fun b hb => by
      have := HSZ.out
      simp only [List.mem_cons, List.not_mem_nil, or_false] at hb
      rcases hb with rfl | rfl | rfl | rfl <;> omega)) (Below.refl _ _) (fun _ => rfl)
    (fun pre Wt => FW X w0 w B M (ffL w.heap.size (pre.foldl (chF keyF) none)) Wt)
    (fun _ _ _ => False)
    (fun pre A A' row hs hg hr => hs.own (N := w5.heap.size) (by have := HSZ.out; omega) (by have := HSZ.out; omega) HSZ.out.1 hg hr)
    (fun _ _ _ _ _ hs _ _ => hs)
    (fun pre A A' hs hst => hs.st hst)
    (show FW _ _ _ _ _ _ _ from HFI.out)
    (fun x a' Wt => ∃ Q, Wt.heap[Q]? = some (.cells (fltC x) 48 (0, 0)) ∧ a' = { tmps := List.toArray ((Value.func (.func 87) #[] #[.pointer (some ⟨c1, 0, none⟩), .pointer (some ⟨c2, 0, none⟩)]) :: (Value.func (.func 72) #[] #[]) :: undef :: (Value.pointer (some ⟨w.heap.size, 0, none⟩)) :: (Value.pointer (some ⟨w.heap.size + 1, 0, none⟩)) :: (Value.pointer (some ⟨w.heap.size + 1 + 1, 0, none⟩)) :: (Value.pointer (some ⟨w.heap.size + 1 + 1 + 1, 0, none⟩)) :: (Value.pointer (some ⟨Q, 0, none⟩)) :: undef :: (Value.func (.func 87) #[] #[.pointer (some ⟨c1, 0, none⟩), .pointer (some ⟨c2, 0, none⟩)]) :: (Value.agg (fltC x)) :: undef :: undef :: undef :: undef :: undef :: undef :: undef :: undef :: undef :: undef :: undef :: undef :: undef :: undef :: undef :: []), defers := [] })
    (fun x a' _ A A' row hs hg hr => by
      obtain ⟨Q, h1, h2⟩ := hs
      exact ⟨Q, cells_own h1 hg hr, h2⟩)
    ?assign ?body ?done ?stop
  case assign =>
    intro l pre x Wt Kk hI hK
    have hb := (Below.refl Wt.heap.size Wt).alloc (Nat.le_refl _) (.cells (fltC x) 48)
    have HH := Lib.hid (hK { tmps := List.toArray ((Value.func (.func 87) #[] #[.pointer (some ⟨c1, 0, none⟩), .pointer (some ⟨c2, 0, none⟩)]) :: (Value.func (.func 72) #[] #[]) :: undef :: (Value.pointer (some ⟨w.heap.size, 0, none⟩)) :: (Value.pointer (some ⟨w.heap.size + 1, 0, none⟩)) :: (Value.pointer (some ⟨w.heap.size + 1 + 1, 0, none⟩)) :: (Value.pointer (some ⟨w.heap.size + 1 + 1 + 1, 0, none⟩)) :: (Value.pointer (some ⟨Wt.heap.size, 0, none⟩)) :: undef :: (Value.func (.func 87) #[] #[.pointer (some ⟨c1, 0, none⟩), .pointer (some ⟨c2, 0, none⟩)]) :: (Value.agg (fltC x)) :: undef :: undef :: undef :: undef :: undef :: undef :: undef :: undef :: undef :: undef :: undef :: undef :: undef :: undef :: undef :: []), defers := [] } (Wt.alloc (.cells (fltC x) 48))
      ⟨hb.size, fun k o _ ho _ => (hb.block k (Array.getElem?_eq_some_iff.1 ho).1).trans ho⟩
      ⟨hb.mono hI.lk.bel.size, fun b hbm => hb.block b (by
        have := hI.gr.size; have := HSZ.out
        simp only [List.mem_cons, List.not_mem_nil, or_false] at hbm
        rcases hbm with rfl | rfl | rfl | rfl <;> omega)⟩ (hI.up hb) ⟨Wt.heap.size, heap_alloc_new Wt _, rfl⟩)
    clear hK hb hI
    unfold fltC at HH
    gi_wp2
    exact HH.out
  case body =>
    rintro l pre x a' Wt hI ⟨Q, hQ, rfl⟩ ⟨lst, hlst⟩
    have HI := Lib.hid hI; have HQ := Lib.hid hQ
    have hfb := flt_bound HK.out (p := p) (f := x) (by rw [hlst]; simp)
    have HE : Hid ((pre ++ [x]).foldl (chF keyF) none = chF keyF (pre.foldl (chF keyF) none) x) := Lib.hid (by rw [List.foldl_append]; rfl)
    have HCL := Lib.hid (first1_any x hfb.1 hfb.2.1 Wt)
    obtain ⟨A, hA⟩ : ∃ z, pre.foldl (chF keyF) none = z := ⟨_, rfl⟩
    rw [hA] at HE HI hI
    have a0 := cell_of_row Wt w.heap.size 0 _ 110 (0, 0) (hI.fix (w.heap.size, #[.func (.func 72) #[] #[]], 110) (by simp [ffL]))
    simp at a0
    unfold fltC at hQ
    obtain ⟨⟨y0, y1, y2, y3, y4⟩, _⟩ := box5_cells hQ
    clear hI hA hlst hfb hQ
    unfold fltC
    gi_wp2
    refine ⟨trivial, CallsIn.inRound l (callsIn_wide.2 (Calls.mono (by simpa using HCL.out) ?_))⟩
    rintro e W1 ⟨rfl, hb1⟩
    have hI1 := HI.out.up hb1
    have HI1 := Lib.hid hI1; have HB1 := Lib.hid hb1
    have hQ1 := (hb1.block _ (heapsz HQ.out)).trans HQ.out
    unfold fltC at hQ1
    have b2 := hI1.fix (w.heap.size + 1 + 1, #[.int .i64 (ffC A)], 3) (by simp [ffL])
    have b3 := hI1.fix (w.heap.size + 1 + 1 + 1, #[.bool A.isSome], 4) (by simp [ffL])
    simp only at b2 b3
    have e2 := cell_of_row W1 (w.heap.size + 1 + 1) 0 _ 3 (0, 0) b2
    have e3 := cell_of_row W1 (w.heap.size + 1 + 1 + 1) 0 _ 4 (0, 0) b3
    simp at e2 e3
    have HWB : Hid (w.heap.size ≤ Wt.heap.size) := Lib.hid HI.out.gr.size
    have HKB : Hid (KpW w0 [B, M, c1, c2] Wt W1) := Lib.hid ⟨hb1.mono HI.out.lk.bel.size, fun b hb => hb1.block b (by
      have := HSZ.out; have := HWB.out
      simp only [List.mem_cons, List.not_mem_nil, or_false] at hb
      rcases hb with rfl | rfl | rfl | rfl <;> omega)⟩
    obtain ⟨W2, hs2, ht2, ⟨g1, g2, g3, g4⟩, hN, hKO, hlow, hbel⟩ := ff_set HI1.out HSZ.out.2.2.2.2.2.1 (Nat.le_refl _) x (keyF x)
    have HS2 := Lib.hid hs2; have HT2 := Lib.hid ht2; have HN := Lib.hid hN; have HKO := Lib.hid hKO
    have HKN : Hid (KpW w0 [B, M, c1, c2] W1 ((W2.setCell ⟨w.heap.size + 1 + 1, 0, none⟩ (.int .i64 (keyF x))).setCell ⟨w.heap.size + 1 + 1 + 1, 0, none⟩ (.bool true))) := Lib.hid (by
      have := HSZ.out
      refine ⟨((hbel w0.heap.size this.2.2.2.2.2.1).setCell (p := ⟨w.heap.size + 1 + 1, 0, none⟩) (by simp; omega) _).setCell (p := ⟨w.heap.size + 1 + 1 + 1, 0, none⟩) (by simp; omega) _, fun b hb => ?_⟩
      have hbn : b < w.heap.size := by
        simp only [List.mem_cons, List.not_mem_nil, or_false] at hb
        rcases hb with rfl | rfl | rfl | rfl <;> omega
      exact (Below.heap_setCell _ _ _ _ (show b ≠ w.heap.size + 1 + 1 + 1 by omega)).trans ((Below.heap_setCell _ _ _ _ (show b ≠ w.heap.size + 1 + 1 by omega)).trans (hlow b hbn)))
    obtain ⟨⟨y0, y1, y2, y3, y4⟩, _⟩ := box5_cells hQ1
    clear hI1 b2 b3 hb1 HCL a0 hQ1 hs2 ht2 hN hKO hlow hbel
    obtain ⟨Y, hY⟩ : ∃ z, keyF x = z := ⟨_, rfl⟩
    have HYF := Lib.hid hY
    rw [hY] at HN HKN ⊢
    clear hY
    cases A with
    | none =>
      have hE : chF keyF none x = some (x, Y) := by rw [← HYF.out]; rfl
      have HE2 := Lib.hid (HE.out.trans hE)
      simp only [ffC, Option.isSome_none] at e2 e3 g1 g3
      clear hE
      gi_wp2_with (first
        | (refine wpListIn_store_mid rfl 48 _ _ rfl (w.heap.size + 1) #[.bool true, .int .i64 (x.i : Int), .int .i64 (x.n : Int), .int .i64 (x.w : Int), .int .i64 (x.k : Int)] (by rfl) (by rfl) HT2.out flt_info (one5 ⟨rfl, rfl, rfl, rfl, rfl⟩) ?_; rw [HS2.out])
        | fail)
      refine ⟨(ko_below HB1.out).trans ((HKO.out.trans (KeepsOthers.setCell _ _ _)).trans (KeepsOthers.setCell _ _ _)), kpW_t HKB.out HKN.out, ?_⟩
      show FW _ _ _ _ _ (ffL _ ((pre ++ [x]).foldl (chF keyF) none)) _
      rw [HE2.out]
      exact HN.out
    | some yc =>
      obtain ⟨y, c⟩ := yc
      simp only [ffC, Option.isSome_some] at e2 e3 g1 g3
      by_cases hlt : Y < c
      · have hE : chF keyF (some (y, c)) x = some (x, Y) := by rw [← HYF.out]; exact if_pos (by rw [HYF.out]; exact hlt)
        have HE2 := Lib.hid (HE.out.trans hE)
        clear hE
        gi_wp2_with (first
        | (refine wpListIn_store_mid rfl 48 _ _ rfl (w.heap.size + 1) #[.bool true, .int .i64 (x.i : Int), .int .i64 (x.n : Int), .int .i64 (x.w : Int), .int .i64 (x.k : Int)] (by rfl) (by rfl) HT2.out flt_info (one5 ⟨rfl, rfl, rfl, rfl, rfl⟩) ?_; rw [HS2.out])
        | fail)
        refine ⟨(ko_below HB1.out).trans ((HKO.out.trans (KeepsOthers.setCell _ _ _)).trans (KeepsOthers.setCell _ _ _)), kpW_t HKB.out HKN.out, ?_⟩
        show FW _ _ _ _ _ (ffL _ ((pre ++ [x]).foldl (chF keyF) none)) _
        rw [HE2.out]
        exact HN.out
      · have hE : chF keyF (some (y, c)) x = some (y, c) := if_neg (by rw [HYF.out]; exact hlt)
        have HE2 := Lib.hid (HE.out.trans hE)
        clear hE
        gi_wp2_with (first
        | (refine wpListIn_store_mid rfl 48 _ _ rfl (w.heap.size + 1) #[.bool true, .int .i64 (x.i : Int), .int .i64 (x.n : Int), .int .i64 (x.w : Int), .int .i64 (x.k : Int)] (by rfl) (by rfl) HT2.out flt_info (one5 ⟨rfl, rfl, rfl, rfl, rfl⟩) ?_; rw [HS2.out])
        | fail)
        refine ⟨ko_below HB1.out, HKB.out, ?_⟩
        show FW _ _ _ _ _ (ffL _ ((pre ++ [x]).foldl (chF keyF) none)) _
        rw [HE2.out]
        exact HI1.out
  case done =>
    rintro D ys Wt hD hys hI hK
    rw [hys, HR.out] at hI
    have HI := Lib.hid hI
    have HM : Hid (Marks Wt w5.heap.size [D]) := Lib.hid ⟨by simp, fun E hE => by rw [List.mem_singleton.1 hE]; exact ⟨hD, hK⟩⟩
    clear hI hK hys
    simp only [Exit.inBlock, Exit.then]
    go_wp2_with fail
    obtain ⟨x0, x1, x2, x3, x4, hx, hone⟩ := ffA_form R
    have HXR := Lib.hid hx; have HON := Lib.hid hone
    have HF : Hid (∀ u, FW X w0 w B M (ffL w.heap.size R) u → ((u.cell? ⟨w.heap.size + 1, 0, none⟩ = some x0 ∧ u.cell? ⟨w.heap.size + 1, 1, none⟩ = some x1 ∧ u.cell? ⟨w.heap.size + 1, 2, none⟩ = some x2 ∧ u.cell? ⟨w.heap.size + 1, 3, none⟩ = some x3 ∧ u.cell? ⟨w.heap.size + 1, 4, none⟩ = some x4) ∧ u.cell? ⟨w.heap.size + 1 + 1, 0, none⟩ = some (.int .i64 (ffC R)) ∧ u.cell? ⟨w.heap.size + 1 + 1 + 1, 0, none⟩ = some (.bool R.isSome)) ∧
        (u.frozen? ⟨w.heap.size + 1 + 1, 0, none⟩ = false ∧ u.frozen? ⟨w.heap.size + 1 + 1 + 1, 0, none⟩ = false) ∧
        (∃ u', u.setCells (w.heap.size + 1) 0 (#[x0, x1, x2, x3, x4] : Array Value).toList = u' ∧ u.there (w.heap.size + 1) 0 5 ∧ FW X w0 w B M (ffL w.heap.size R) u' ∧ KeepsOthers u u') ∧ FW X w0 w B M (ffL w.heap.size R) (u.setCell ⟨w.heap.size + 1 + 1, 0, none⟩ (.int .i64 (ffC R))) ∧ FW X w0 w B M (ffL w.heap.size R) (u.setCell ⟨w.heap.size + 1 + 1 + 1, 0, none⟩ (.bool R.isSome))) := Lib.hid fun u hu => by
      have b1 := hu.fix (w.heap.size + 1, ffA R, 48) (by simp [ffL])
      have b2 := hu.fix (w.heap.size + 1 + 1, #[.int .i64 (ffC R)], 3) (by simp [ffL])
      have b3 := hu.fix (w.heap.size + 1 + 1 + 1, #[.bool R.isSome], 4) (by simp [ffL])
      have hz := HSZ.out
      simp only [hx] at b1 b2 b3
      refine ⟨⟨(box5_cells b1).1, by have := cell_of_row u (w.heap.size + 1 + 1) 0 _ 3 (0, 0) b2; simpa using this, by have := cell_of_row u (w.heap.size + 1 + 1 + 1) 0 _ 4 (0, 0) b3; simpa using this⟩, ⟨by simp [World.frozen?, b2], by simp [World.frozen?, b3]⟩, ?_, ?_, ?_⟩
      · obtain ⟨u', e1, e2, e3, e4, e5, _⟩ := hu.fill (b := w.heap.size + 1) (a1 := x0) (b1 := x1) (c1 := x2) (d1 := x3) (e1 := x4) (v0 := x0) (v1 := x1) (v2 := x2) (v3 := x3) (v4 := x4) (t := 48) (fs' := (ffL w.heap.size R)) (by simp [ffL, hx]) (by decide) hz.2.2.2.2.2.1 (by omega) fun x hm => by
          by_cases he : x.1 = w.heap.size + 1
          · refine .inl ?_
            simp only [ffL, List.mem_cons, List.not_mem_nil, or_false] at hm
            rcases hm with rfl | rfl | rfl | rfl <;> simp [hx] at he ⊢ <;> omega
          · exact .inr ⟨hm, he⟩
        exact ⟨u', e1, e2, e3, by omega, fun k o hk ho => (e4 k (fun e => by
          rw [e, b1] at hk
          injection hk with hk
          rw [← hk] at ho
          cases ho)).trans hk⟩
      · refine hu.put (b := w.heap.size + 1 + 1) (cs := #[.int .i64 (ffC R)]) (t := 3) (by simp [ffL]) (by decide) hz.2.2.2.2.2.1 (by omega) fun x hm => ?_
        by_cases he : x.1 = w.heap.size + 1 + 1
        · refine .inl ?_
          simp only [ffL, List.mem_cons, List.not_mem_nil, or_false] at hm
          rcases hm with rfl | rfl | rfl | rfl <;> simp at he ⊢ <;> omega
        · exact .inr ⟨hm, he⟩
      · refine hu.put (b := w.heap.size + 1 + 1 + 1) (cs := #[.bool R.isSome]) (t := 4) (by simp [ffL]) (by decide) hz.2.2.2.2.2.1 (by omega) fun x hm => ?_
        by_cases he : x.1 = w.heap.size + 1 + 1 + 1
        · refine .inl ?_
          simp only [ffL, List.mem_cons, List.not_mem_nil, or_false] at hm
          rcases hm with rfl | rfl | rfl | rfl <;> simp at he ⊢ <;> omega
        · exact .inr ⟨hm, he⟩
    refine wp_region_any (by kernel_rfl) (plan_guarded_any (γ := Unit) [4, 5, 6] (fun _ => cfCv w.heap.size x0 x1 x2 x3 x4 (ffC R) R.isSome) (fun _ _ u => FW X w0 w B M (ffL w.heap.size R) u ∧ KeepsOthers Wt u) () (by kernel_rfl) (by kernel_rfl) (by kernel_rfl) (by kernel_rfl) ?_ ?_ ?_ ?_)
    · intro t ht
      simp only [List.mem_cons, List.not_mem_nil, or_false] at ht
      rcases ht with rfl | rfl | rfl <;> rfl
    · exact ⟨HI.out.up ((Below.refl Wt.heap.size Wt).drew), ⟨Nat.le_refl _, fun _ _ h _ => h⟩⟩
    · refine allOps_array ?_
      refine ⟨?_, ?_, ?_, ?_, ?_, ?_, trivial⟩ <;> intro done g u hS hu hdep _ <;> obtain ⟨⟨⟨k0, k1, k2, k3, k4⟩, e2, e3⟩, ⟨f2, f3⟩, ⟨u', q1, q2, q3, q4⟩, s2, s3⟩ := HF.out u hS.1
      · exact sameQ (T := fun u => FW X w0 w B M (ffL w.heap.size R) u ∧ KeepsOthers Wt u) hS 23 rfl rfl (by simp [go_sem, evalBy, cfCv, k0, k1, k2, k3, k4])
      · exact sameQ (T := fun u => FW X w0 w B M (ffL w.heap.size R) u ∧ KeepsOthers Wt u) hS 24 rfl rfl (by simp [go_sem, evalBy, cfCv, e2])
      · exact sameQ (T := fun u => FW X w0 w B M (ffL w.heap.size R) u ∧ KeepsOthers Wt u) hS 25 rfl rfl (by simp [go_sem, evalBy, cfCv, e3])
      · exact sameS (T := fun u => FW X w0 w B M (ffL w.heap.size R) u ∧ KeepsOthers Wt u) (u' := u') ⟨q3, hS.2.trans q4⟩ rfl rfl (by rw [← q1]; exact exec_store_mid 48 _ _ rfl (w.heap.size + 1) #[x0, x1, x2, x3, x4] rfl rfl q2 flt_info (one5 HON.out))
      · exact sameS (T := fun u => FW X w0 w B M (ffL w.heap.size R) u ∧ KeepsOthers Wt u) (u' := u.setCell ⟨w.heap.size + 1 + 1, 0, none⟩ (.int .i64 (ffC R))) ⟨s2, hS.2.trans (KeepsOthers.setCell _ _ _)⟩ rfl rfl (by simp [go_sem, evalBy, cfCv, e2, f2])
      · exact sameS (T := fun u => FW X w0 w B M (ffL w.heap.size R) u ∧ KeepsOthers Wt u) (u' := u.setCell ⟨w.heap.size + 1 + 1 + 1, 0, none⟩ (.bool R.isSome)) ⟨s3, hS.2.trans (KeepsOthers.setCell _ _ _)⟩ rfl rfl (by simp [go_sem, evalBy, cfCv, e3, f3])
    · intro g u hS
      have hm : Marks u w5.heap.size [D] := ⟨by simp, fun E hE => ⟨(HM.out.2 E hE).1, hS.2.same _ _ (HM.out.2 E hE).2 rfl⟩⟩
      have HS := Lib.hid hS
      have HMM := Lib.hid hm
      clear hS hm
      simp [putAll, Act.put, cfCv]
      go_wp2_with fail
      refine leaves_marks [D] u HMM.out (fun w' hk => ?_)
      have hf := HS.out.1.cellsK (N := w5.heap.size) (by have := HSZ.out; omega) (by have := HSZ.out; omega) HSZ.out.1 hk
      obtain ⟨⟨⟨k0, k1, k2, k3, k4⟩, e2, e3⟩, _⟩ := HF.out _ hf
      exact ⟨.tuple #[.agg #[x0, x1, x2, x3, x4], .int .i64 (ffC R), .bool R.isSome], by simp [results, Tryd.results71, go_sem, k0, k1, k2, k3, k4, e2, e3], by first | rfl | rw [HXR.out], hf.lk, hf.gr⟩
  case stop =>
    rintro D c pre W _ _ h _
    exact h.elim
end Go.Proofs.YtijjkiogmlannaaDoor

namespace Go.Proofs.YtijjkiogmlannaaDoor
open Go.RowKit

theorem ffA_ints (a : Option (Flt × Int)) : ∃ (b : Bool) (x1 x2 x3 x4 : Int), ffA a = #[.bool b, .int .i64 x1, .int .i64 x2, .int .i64 x3, .int .i64 x4] := by
  cases a with
  | none => exact ⟨_, _, _, _, _, rfl⟩
  | some x => exact ⟨_, _, _, _, _, rfl⟩
def fstO (S : Sto) (p : Nat) : Option (Flt × Int) := (S.first p).map fun x => (x, keyF x)
theorem fstO_is (S : Sto) (p : Nat) : (S.flts p).foldl (chF keyF) none = fstO S p := by
  rw [chF_all]
  rfl
set_option maxRecDepth 100000 in
set_option maxHeartbeats 2000000 in
theorem first_any {X : SX} {w0 w : World} {B M : Nat} (h : LkAt X w0 B M w) (hX : X.In w0) (K : X.S.Ok) (p : Nat) (hp : p < 2 ^ X.ns) :
    Calls Tryd.prog 55 #[.pointer (some ⟨B, 0, none⟩), .int .i64 (p : Int)] w fun e w' => e = .returned (.tuple #[.agg (ffA (fstO X.S p)), .bool (fstO X.S p).isSome]) ∧ LkAt X w0 B M w' ∧ w.grownBy w' (some M) := by
  rw [← fstO_is]
  have y0 := heap_alloc_new w (.cells fltA 48)
  have hb0 := (Below.refl w.heap.size w).alloc (Nat.le_refl _) (.cells fltA 48)
  obtain ⟨w1, hw1⟩ : ∃ z, w.alloc (.cells fltA 48) = z := ⟨_, rfl⟩
  have hs1 : w1.heap.size = w.heap.size + 1 := by rw [← hw1]; simp
  rw [hw1] at y0 hb0
  obtain ⟨z0, z1, hb⟩ := two_new w1 (.cells #[.pointer (some ⟨B, 0, none⟩)] 79) (.cells #[.int .i64 (p : Int)] 3)
  obtain ⟨w3, hw3⟩ : ∃ z, (w1.alloc (.cells #[.pointer (some ⟨B, 0, none⟩)] 79)).alloc (.cells #[.int .i64 (p : Int)] 3) = z := ⟨_, rfl⟩
  rw [hw3, hs1] at z0 z1 hb
  have hl3 := (h.up hb0).up (by rw [hs1]; exact hb)
  have HC := Lib.hid (cheapF_any (c1 := w.heap.size + 1) (c2 := w.heap.size + 1 + 1) (p := p) ⟨hl3, z0, z1⟩ hX K hp)
  have HFW : Hid (FW X w0 w B M [(w.heap.size, fltA, 48)] w3) := Lib.hid ⟨hl3, below_grown (hb0.trans (hb.mono (by omega))) _, fun x hx => by
    rw [List.mem_singleton.1 hx]
    exact (hb.block _ (show w.heap.size < _ by omega)).trans y0⟩
  have HSZ : Hid (w0.heap.size ≤ w.heap.size) := Lib.hid h.bel.size
  have HW1 := Lib.hid hw1; have HW3 := Lib.hid hw3; have HS1 := Lib.hid hs1
  obtain ⟨R, hR⟩ : ∃ z, (X.S.flts p).foldl (chF keyF) none = z := ⟨_, rfl⟩
  rw [hR] at HC ⊢
  clear z0 z1 hb y0 hb0 hw1 hw3 hs1 hl3 h hX K hR hp
  unfold fltA at HW1
  go_enter Tryd.func55, Tryd.ntmps55
  go_wp2_with fail
  rw [HW1.out]
  refine (faults_any _ _ rfl w1 B p rfl rfl).mono ?_
  rintro e w' ⟨rfl, rfl⟩
  rw [HW3.out, HS1.out]
  go_wp2_with fail
  refine HC.out.mono ?_
  rintro e w4 ⟨rfl, hl, hg⟩
  obtain ⟨x0, x1, x2, x3, x4, hx⟩ := ffA_ints R
  have HXX := Lib.hid hx
  have hf4 := HFW.out.st ⟨hg, hl⟩
  have z4 := heap_alloc_new w4 (.cells #[.bool x0, .int .i64 x1, .int .i64 x2, .int .i64 x3, .int .i64 x4] 48)
  have hb5 := (Below.refl w4.heap.size w4).alloc (Nat.le_refl _) (.cells #[.bool x0, .int .i64 x1, .int .i64 x2, .int .i64 x3, .int .i64 x4] 48)
  have hf5 := hf4.up hb5
  unfold fltA at hf5
  obtain ⟨⟨y0, y1, y2, y3, y4⟩, _⟩ := box5_cells z4
  obtain ⟨w6, e1, e2, e3, _⟩ := hf5.fill (b := w.heap.size) (a1 := .bool false) (b1 := .int .i64 0) (c1 := .int .i64 0) (d1 := .int .i64 0) (e1 := .int .i64 0) (v0 := .bool x0) (v1 := .int .i64 x1) (v2 := .int .i64 x2) (v3 := .int .i64 x3) (v4 := .int .i64 x4) (t := 48) (fs' := [(w.heap.size, #[.bool x0, .int .i64 x1, .int .i64 x2, .int .i64 x3, .int .i64 x4], 48)]) (by simp) (by decide) HSZ.out (Nat.le_refl _) (fun x hx => .inl (List.mem_singleton.1 hx))
  have HS6 := Lib.hid e1; have HT6 := Lib.hid e2; have HF6 := Lib.hid e3
  have z6 := e3.fix (w.heap.size, #[.bool x0, .int .i64 x1, .int .i64 x2, .int .i64 x3, .int .i64 x4], 48) (by simp)
  simp only at z6
  obtain ⟨⟨g0, g1, g2, g3, g4⟩, _⟩ := box5_cells z6
  simp only [hx]
  clear hl hg hf4 z4 hb5 hf5 e1 e2 e3 z6 hx
  go_wp2_with (first
    | (refine wpList_store_mid rfl 48 _ _ rfl w.heap.size 0 #[.bool x0, .int .i64 x1, .int .i64 x2, .int .i64 x3, .int .i64 x4] (by rfl) (by rfl) HT6.out flt_info (one5 ⟨rfl, rfl, rfl, rfl, rfl⟩) ?_; rw [HS6.out])
    | fail)
  exact bodyPost_ret (v := .tuple #[.agg #[.bool x0, .int .i64 x1, .int .i64 x2, .int .i64 x3, .int .i64 x4], .bool R.isSome]) (by simp [results, Tryd.results55, go_sem, g0, g1, g2, g3, g4]) rfl ⟨by rw [HXX.out], HF6.out.lk, HF6.out.gr⟩
def fstI (S : Sto) (p : Int) : Int × Int × Int := if stoB S && planOk S p then (match S.first p.toNat with | none => (0, 0, 5) | some f => ((f.w : Int), (f.k : Int), 0)) else (0, 0, 2)
def fauV (S : Sto) (p : Int) : Value × Int := if stoB S && planOk S p then (fltO (S.fault p.toNat), 0) else (fltO none, 2)
set_option maxRecDepth 100000 in
set_option maxHeartbeats 4000000 in
theorem First_any {X : SX} {w : World} (h : X.In w) (p : Int) : Calls Tryd.prog 25 #[X.v, .int .i64 p] w fun e w' => e = .returned (.tuple #[.int .i64 (fstI X.S p).1, .int .i64 (fstI X.S p).2.1, .int .i64 (fstI X.S p).2.2]) ∧ Below w.heap.size w w' := by
  have hsz := (sto_new X w)
  have HI := Lib.hid (h.up hsz.2)
  have HB := Lib.hid hsz.2; have HZ := Lib.hid hsz.1
  have hls := h.hs
  rcases X with ⟨S, AS, ns, cs, AI, ni, ci, AW, nw, cw⟩
  simp only at hls
  obtain ⟨w1, hw1⟩ : ∃ z, w.alloc (.cells (SX.cells ⟨S, AS, ns, cs, AI, ni, ci, AW, nw, cw⟩) 28) = z := ⟨_, rfl⟩
  rw [hw1] at HI HB HZ
  have HW1 := Lib.hid hw1
  obtain ⟨⟨s0, s1, s2⟩, ⟨s3, s4, s5⟩, ⟨s6, s7, s8⟩, s9, s10, s11⟩ := sto_box HZ.out
  simp only at s0 s1 s2 s3 s4 s5 s6 s7 s8 s9 s10 s11
  have HCK := Lib.hid (checkPlan_any HI.out p)
  have hci : chpI S p = if (stoB S && planOk S p) then 0 else 2 := rfl
  simp only [hci] at HCK
  clear h hsz hw1 hci
  cases hst : (stoB S && planOk S p) with
  | false =>
    have HE : Hid (fstI S p = (0, 0, 2)) := Lib.hid (by unfold fstI; rw [hst]; rfl)
    simp only [hst] at HCK
    clear hst
    go_enter Tryd.func25, Tryd.ntmps25
    go_wp2_with fail
    rw [HW1.out]
    refine HCK.out.mono ?_
    rintro e w2 ⟨rfl, hb⟩
    have HB2 := Lib.hid (HB.out.trans (hb.mono HB.out.size))
    clear hb s0 s1 s2 s3 s4 s5 s6 s7 s8 s9 s10 s11
    go_wp2_with fail
    exact bodyPost_ret (v := .tuple #[.int .i64 0, .int .i64 0, .int .i64 2]) (by simp [results, Tryd.results25, go_sem]) rfl ⟨by rw [HE.out], HB2.out⟩
  | true =>
    have HE : Hid (fstI S p = (match S.first p.toNat with | none => (0, 0, 5) | some f => ((f.w : Int), (f.k : Int), 0))) := Lib.hid (by unfold fstI; rw [hst]; rfl)
    have HOK := Lib.hid (stoB_iff.1 (Bool.and_eq_true _ _ ▸ hst).1)
    have h3 := inB_iff.1 (Bool.and_eq_true _ _ ▸ hst).2
    obtain ⟨P, rfl⟩ : ∃ P : Nat, p = (P : Int) := ⟨p.toNat, by omega⟩
    have HPn : Hid (P < 2 ^ ns) := Lib.hid (by rw [hls] at h3; omega)
    rw [Int.toNat_natCast] at HE
    simp only [hst] at HCK
    clear hst h3 hls
    go_enter Tryd.func25, Tryd.ntmps25
    go_wp2_with fail
    rw [HW1.out]
    refine HCK.out.mono ?_
    rintro e w2 ⟨rfl, hb⟩
    have HB2 := Lib.hid (HB.out.trans (hb.mono HB.out.size))
    have HI2 := Lib.hid (HI.out.up hb)
    have HZ2 := (hb.block _ (heapsz HZ.out)).trans HZ.out
    clear hb s0 s1 s2 s3 s4 s5 s6 s7 s8 s9 s10 s11
    obtain ⟨⟨s0, s1, s2⟩, ⟨s3, s4, s5⟩, ⟨s6, s7, s8⟩, s9, s10, s11⟩ := sto_box HZ2
    simp only at s0 s1 s2 s3 s4 s5 s6 s7 s8 s9 s10 s11
    clear HZ2
    go_wp2_with fail
    refine (look_any HI2.out).mono ?_
    rintro e w3 ⟨B, M, rfl, hl⟩
    have HBS := Lib.hid (first_any hl HI2.out HOK.out P HPn.out)
    clear hl s0 s1 s2 s3 s4 s5 s6 s7 s8 s9 s10 s11
    go_wp2_with fail
    refine HBS.out.mono ?_
    rintro e w4 ⟨rfl, hl, _⟩
    have HF := Lib.hid (HB2.out.trans (hl.bel.mono HB2.out.size))
    clear hl HBS
    cases hb : S.first P with
    | none =>
      have HE2 : Hid (fstI S P = (0, 0, 5)) := Lib.hid (by rw [HE.out, hb])
      have e1 : fstO S P = none := by unfold fstO; rw [hb]; rfl
      simp only [e1, ffA, Option.isSome_none]
      have z4 := heap_alloc_new w4 (.cells #[.bool false, .int .i64 0, .int .i64 0, .int .i64 0, .int .i64 0] 48)
      have HF5 := Lib.hid (HF.out.alloc HF.out.size (.cells #[.bool false, .int .i64 0, .int .i64 0, .int .i64 0, .int .i64 0] 48))
      clear hb e1 z4
      go_wp2_with fail
      exact bodyPost_ret (v := .tuple #[.int .i64 0, .int .i64 0, .int .i64 5]) (by simp [results, Tryd.results25, go_sem]) rfl ⟨by rw [HE2.out], HF5.out⟩
    | some f =>
      have HE2 : Hid (fstI S P = ((f.w : Int), (f.k : Int), 0)) := Lib.hid (by rw [HE.out, hb])
      have e1 : fstO S P = some (f, keyF f) := by unfold fstO; rw [hb]; rfl
      simp only [e1, ffA, Option.isSome_some]
      have z4 := heap_alloc_new w4 (.cells #[.bool true, .int .i64 (f.i : Int), .int .i64 (f.n : Int), .int .i64 (f.w : Int), .int .i64 (f.k : Int)] 48)
      have HF5 := Lib.hid (HF.out.alloc HF.out.size (.cells #[.bool true, .int .i64 (f.i : Int), .int .i64 (f.n : Int), .int .i64 (f.w : Int), .int .i64 (f.k : Int)] 48))
      obtain ⟨⟨y0, y1, y2, y3, y4⟩, _⟩ := box5_cells z4
      clear hb e1 z4
      go_wp2_with fail
      go_quiet (fail)
      go_wp2_with fail
      exact bodyPost_ret (v := .tuple #[.int .i64 (f.w : Int), .int .i64 (f.k : Int), .int .i64 0]) (by simp [results, Tryd.results25, go_sem]) rfl ⟨by rw [HE2.out], belN HF5.out _⟩
set_option maxRecDepth 100000 in
set_option maxHeartbeats 4000000 in
theorem Fault_any {X : SX} {w : World} (h : X.In w) (p : Int) : Calls Tryd.prog 24 #[X.v, .int .i64 p] w fun e w' => e = .returned (.tuple #[(fauV X.S p).1, .int .i64 (fauV X.S p).2]) ∧ Below w.heap.size w w' := by
  have hls := h.hs
  obtain ⟨z0, z1, hb2⟩ := two_new w (.cells X.cells 28) (.cells fltA 48)
  obtain ⟨w1, hw1⟩ : ∃ z, (w.alloc (.cells X.cells 28)).alloc (.cells fltA 48) = z := ⟨_, rfl⟩
  rw [hw1] at z0 z1 hb2
  have HI := Lib.hid (h.up hb2); have HB := Lib.hid hb2; have HZ := Lib.hid z0; have HR := Lib.hid z1
  rcases X with ⟨S, AS, ns, cs, AI, ni, ci, AW, nw, cw⟩
  simp only at hls
  have HW1 := Lib.hid hw1
  obtain ⟨⟨s0, s1, s2⟩, ⟨s3, s4, s5⟩, ⟨s6, s7, s8⟩, s9, s10, s11⟩ := sto_box HZ.out
  simp only at s0 s1 s2 s3 s4 s5 s6 s7 s8 s9 s10 s11
  have HCK := Lib.hid (checkPlan_any HI.out p)
  have hci : chpI S p = if (stoB S && planOk S p) then 0 else 2 := rfl
  simp only [hci] at HCK
  unfold fltA at HW1 HR
  clear h z0 z1 hb2 hw1 hci
  cases hst : (stoB S && planOk S p) with
  | false =>
    have HE : Hid (fauV S p = (fltO none, 2)) := Lib.hid (by unfold fauV; rw [hst]; rfl)
    simp only [hst] at HCK
    clear hst
    go_enter Tryd.func24, Tryd.ntmps24
    go_wp2_with fail
    rw [HW1.out]
    refine HCK.out.mono ?_
    rintro e w2 ⟨rfl, hb⟩
    have HB2 := Lib.hid (HB.out.trans (hb.mono HB.out.size))
    obtain ⟨w5, hs5, ht5, z5, o5, hb5, _⟩ := store5 ((hb.block _ (heapsz HR.out)).trans HR.out) (.bool false) (.int .i64 0) (.int .i64 0) (.int .i64 0) (.int .i64 0)
    have HS5 := Lib.hid hs5; have HT5 := Lib.hid ht5; have HB5 := Lib.hid (HB2.out.trans (hb5 w.heap.size (by omega)))
    obtain ⟨⟨g0, g1, g2, g3, g4⟩, _⟩ := box5_cells z5
    clear hb s0 s1 s2 s3 s4 s5 s6 s7 s8 s9 s10 s11 hs5 ht5 z5 o5 hb5
    go_wp2_with (first
      | (refine wpList_store_mid rfl 48 _ _ rfl (w.heap.size + 1) 0 #[.bool false, .int .i64 0, .int .i64 0, .int .i64 0, .int .i64 0] (by rfl) (by rfl) HT5.out flt_info (one5 ⟨rfl, rfl, rfl, rfl, rfl⟩) ?_; rw [HS5.out])
      | fail)
    exact bodyPost_ret (v := .tuple #[.agg #[.bool false, .int .i64 0, .int .i64 0, .int .i64 0, .int .i64 0], .int .i64 2]) (by simp [results, Tryd.results24, go_sem, g0, g1, g2, g3, g4]) rfl ⟨by rw [HE.out]; rfl, HB5.out⟩
  | true =>
    have HE : Hid (fauV S p = (fltO (S.fault p.toNat), 0)) := Lib.hid (by unfold fauV; rw [hst]; rfl)
    have HOK := Lib.hid (stoB_iff.1 (Bool.and_eq_true _ _ ▸ hst).1)
    have h3 := inB_iff.1 (Bool.and_eq_true _ _ ▸ hst).2
    obtain ⟨P, rfl⟩ : ∃ P : Nat, p = (P : Int) := ⟨p.toNat, by omega⟩
    have HPn : Hid (P < 2 ^ ns) := Lib.hid (by rw [hls] at h3; omega)
    rw [Int.toNat_natCast] at HE
    simp only [hst] at HCK
    clear hst h3 hls
    go_enter Tryd.func24, Tryd.ntmps24
    go_wp2_with fail
    rw [HW1.out]
    refine HCK.out.mono ?_
    rintro e w2 ⟨rfl, hb⟩
    have HB2 := Lib.hid (HB.out.trans (hb.mono HB.out.size))
    have HI2 := Lib.hid (HI.out.up hb)
    have HZ2 := (hb.block _ (heapsz HZ.out)).trans HZ.out
    have HR2 := Lib.hid ((hb.block _ (heapsz HR.out)).trans HR.out)
    clear hb s0 s1 s2 s3 s4 s5 s6 s7 s8 s9 s10 s11
    obtain ⟨⟨s0, s1, s2⟩, ⟨s3, s4, s5⟩, ⟨s6, s7, s8⟩, s9, s10, s11⟩ := sto_box HZ2
    simp only at s0 s1 s2 s3 s4 s5 s6 s7 s8 s9 s10 s11
    clear HZ2
    go_wp2_with fail
    refine (look_any HI2.out).mono ?_
    rintro e w3 ⟨B, M, rfl, hl⟩
    have HBS := Lib.hid (fault_any hl HI2.out HOK.out P HPn.out)
    clear hl s0 s1 s2 s3 s4 s5 s6 s7 s8 s9 s10 s11
    go_wp2_with fail
    refine HBS.out.mono ?_
    rintro e w4 ⟨rfl, hl, _⟩
    have HF := Lib.hid (HB2.out.trans (hl.bel.mono HB2.out.size))
    have z4 := (hl.bel.block _ (heapsz HR2.out)).trans HR2.out
    clear hl HBS
    obtain ⟨x0, x1, x2, x3, x4, hx⟩ : ∃ (b : Bool) (x1 x2 x3 x4 : Int), fltO (S.fault P) = .agg #[.bool b, .int .i64 x1, .int .i64 x2, .int .i64 x3, .int .i64 x4] := by
      cases S.fault P with
      | none => exact ⟨_, _, _, _, _, rfl⟩
      | some f => exact ⟨_, _, _, _, _, rfl⟩
    have HE2 := Lib.hid hx
    rw [hx] at HE
    simp only [hx]
    obtain ⟨w5, hs5, ht5, z5, o5, hb5, _⟩ := store5 z4 (.bool x0) (.int .i64 x1) (.int .i64 x2) (.int .i64 x3) (.int .i64 x4)
    have HS5 := Lib.hid hs5; have HT5 := Lib.hid ht5; have HB5 := Lib.hid (HF.out.trans (hb5 w.heap.size (by omega)))
    obtain ⟨⟨g0, g1, g2, g3, g4⟩, _⟩ := box5_cells z5
    clear hs5 ht5 z5 o5 hb5 z4 hx
    go_wp2_with (first
      | (refine wpList_store_mid rfl 48 _ _ rfl (w.heap.size + 1) 0 #[.bool x0, .int .i64 x1, .int .i64 x2, .int .i64 x3, .int .i64 x4] (by rfl) (by rfl) HT5.out flt_info (one5 ⟨rfl, rfl, rfl, rfl, rfl⟩) ?_; rw [HS5.out])
      | fail)
    exact bodyPost_ret (v := .tuple #[.agg #[.bool x0, .int .i64 x1, .int .i64 x2, .int .i64 x3, .int .i64 x4], .int .i64 0]) (by simp [results, Tryd.results24, go_sem, g0, g1, g2, g3, g4]) rfl ⟨by rw [HE.out], HB5.out⟩
end Go.Proofs.YtijjkiogmlannaaDoor
