/- A log, as the program reads it. -/
import Derived.Test.YtccekbdhffccdaaDoorGC
import Derived.Recover
import Derived.Defers
import Derived.Laws.Pointers
namespace Go.Proofs.YtccekbdhffccdaaDoor
open Go.RowKit

theorem catch_panicking (p q : Addr) (u : TypeId) (pv : Value) (older : List PanicEntry) (w : World) (A : Option Addr) (n c : Nat) (lo hi x : Int) (P0 E0 : Nat) (hp : p = ⟨P0, 0, none⟩) (hq : q = ⟨E0, 0, none⟩)
    (h0 : w.heap[P0]? = some (.cells #[.slice A n c, .int .i64 lo, .int .i64 hi] 26 (0, 0))) (h1 : w.heap[E0]? = some (.cells #[.int .i64 x] 30 (0, 0))) (_hne : P0 ≠ E0) :
    CallsD Tryd.prog 76 #[.pointer (some p), .pointer (some q)] (.panicking ({ v := .iface u pv, recovered := false } :: older)) w fun e u' w' =>
      e = .returned (.tuple #[]) ∧ u' = .panicking ({ v := .iface u pv, recovered := true } :: older) ∧ w' = ((((w.setCell ⟨P0, 0, none⟩ (.slice none 0 0)).setCell ⟨P0, 1, none⟩ (.int .i64 0)).setCell ⟨P0, 2, none⟩ (.int .i64 0)).setCell ⟨E0, 0, none⟩ (.int .i64 4)) := by
  subst hp hq
  have c0 := cell_of_row w P0 0 _ 26 (0, 0) h0
  have c1 := cell_of_row w P0 1 _ 26 (0, 0) h0
  have c2 := cell_of_row w P0 2 _ 26 (0, 0) h0
  have c3 := cell_of_row w E0 0 _ 30 (0, 0) h1
  simp at c0 c1 c2 c3
  have f0 : ∀ a, w.frozen? ⟨P0, a, none⟩ = false := fun a => by simp [World.frozen?, h0]
  have f3 : w.frozen? ⟨E0, 0, none⟩ = false := by simp [World.frozen?, h1]
  refine callsD_of_wpS Tryd.func76 rfl fun c₀ cs hu => ?_
  apply wpS_seq
  apply wpS_region
  simp [wpOpsS, go_sem, recoverD, hu, Tryd.ntmps76, Exit.thenS]
  refine wpS_cond (t := true) (by simp [Act.eval, Array.replicate]) ?_
  simp only [if_true]
  apply wpS_region
  simp [wpOpsS, go_sem, c0, c1, c2, c3, f0, f3, bodyPostS, results, Tryd.results76]

theorem catch_idle (p q : Addr) (w : World) :
    CallsD Tryd.prog 76 #[.pointer (some p), .pointer (some q)] .returning w fun e u' w' => e = .returned (.tuple #[]) ∧ u' = .returning ∧ w' = w := by
  refine callsD_of_wpS Tryd.func76 rfl fun c₀ cs hu => ?_
  apply wpS_seq
  apply wpS_region
  simp [wpOpsS, go_sem, recoverD, hu, Tryd.ntmps76, Exit.thenS]
  refine wpS_cond (t := false) (by simp [Act.eval, Array.replicate]) ?_
  simp only [Bool.false_eq_true, if_false]
  refine wpS_of_wp (wp_skip ?_)
  cases c₀
  simp_all [bodyPostS, results, Tryd.results76]
theorem caught_any (P0 : Nat) (w w5 : World) (hb : Below P0 w w5) (h0 : w5.heap[P0]? = some (.cells #[.slice none 0 0, .int .i64 0, .int .i64 0] 26 (0, 0))) (h1 : w5.heap[P0 + 1]? = some (.cells #[.int .i64 0] 30 (0, 0))) :
    CallsD Tryd.prog 76 #[.pointer (some ⟨P0, 0, none⟩), .pointer (some ⟨P0 + 1, 0, none⟩)] (.panicking [noLog]) w5 fun e u' w' =>
      e = .returned (.tuple #[]) ∧ u' = .panicking [{ noLog with recovered := true }] ∧ w'.heap[P0]? = some (.cells #[.slice none 0 0, .int .i64 0, .int .i64 0] 26 (0, 0)) ∧ w'.heap[P0 + 1]? = some (.cells #[.int .i64 4] 30 (0, 0)) ∧ Below P0 w w' := by
  refine (catch_panicking ⟨P0, 0, none⟩ ⟨P0 + 1, 0, none⟩ 9 _ [] w5 none 0 0 0 0 0 P0 (P0 + 1) rfl rfl h0 h1 (by omega)).mono ?_
  rintro e u' w' ⟨rfl, rfl, rfl⟩
  refine ⟨rfl, rfl, ?_, ?_, ?_⟩
  · exact (Below.heap_setCell _ _ _ _ (by show P0 ≠ P0 + 1; omega)).trans (rd_set (rd_set (rd_set h0 0 _) 1 _) 2 _)
  · refine rd_set (cs := #[.int .i64 0]) ?_ 0 _
    exact (Below.heap_setCell _ _ _ _ (by show P0 + 1 ≠ P0; omega)).trans ((Below.heap_setCell _ _ _ _ (by show P0 + 1 ≠ P0; omega)).trans ((Below.heap_setCell _ _ _ _ (by show P0 + 1 ≠ P0; omega)).trans h1))
  · exact (((hb.setCell (p := ⟨P0, 0, none⟩) (Nat.le_refl _) _).setCell (p := ⟨P0, 1, none⟩) (Nat.le_refl _) _).setCell (p := ⟨P0, 2, none⟩) (Nat.le_refl _) _).setCell (p := ⟨P0 + 1, 0, none⟩) (by show P0 ≤ P0 + 1; omega) _
theorem flat_getG {α : Type} {f : α → List Value} {n : Nat} (hf : ∀ x, (f x).length = n) : ∀ (l : List α) (i : Nat) (x : α), l[i]? = some x → ∀ j, j < n → (l.flatMap f)[i * n + j]? = (f x)[j]?
  | [], i, x, h, _, _ => by simp at h
  | a :: l, 0, x, h, j, hj => by
    have : a = x := by simpa using h
    subst this
    rw [List.flatMap_cons, List.getElem?_append_left (by rw [hf]; omega)]
    simp
  | a :: l, i + 1, x, h, j, hj => by
    have e : (i + 1) * n = n + i * n := by rw [Nat.add_mul]; omega
    rw [List.flatMap_cons, List.getElem?_append_right (by rw [hf]; omega), hf, ← flat_getG hf l i x (by simpa using h) j hj]
    congr 1
    omega
theorem lays_of_ownG {w : World} {B n : Nat} {v : Value} {l : List Lay} (h : w.ownsRow B 86 3 v n (l.flatMap layRowG)) (hl : l.length = n) : ∃ A c, v = .slice A n c ∧ n ≤ c ∧ LaysAt w w.heap.size A l := by
  rcases h.2 with ⟨rfl, rfl⟩ | ⟨g, cap, cur, rfl, hg, hh, hn, hc, hs, ht⟩
  · exact ⟨none, 0, rfl, Nat.le_refl _, fun hne => absurd (List.length_eq_zero_iff.1 hl) hne⟩
  · refine ⟨_, cap, rfl, hn, fun _ => ⟨g, 0, rfl, (Array.getElem?_eq_some_iff.1 hh).1, fun i x hx => ?_⟩⟩
    have hi : i < l.length := (List.getElem?_eq_some_iff.1 hx).1
    have key : ∀ j, j < 3 → w.cell? ⟨g, 0 + i * 3 + j, none⟩ = (layRowG x)[j]? := fun j hj => by
      rw [cell_of_row w g _ cur 86 (0, 0) hh, Nat.zero_add, ← flat_getG (f := layRowG) (n := 3) (fun _ => rfl) l i x hx j hj, ← ht, List.getElem?_take_of_lt (by omega), ← Array.getElem?_toList]
    exact ⟨key 0 (by decide), key 1 (by decide), key 2 (by decide)⟩
/-- What the reader says of a text. -/
def ReadPost (T : List UInt8) (e : Ending) (w' : World) : Prop :=
  (∃ ls lo hi, OkDoc ls lo hi ∧ T = printT ls lo hi ∧ placeB ls lo hi = true ∧ ∃ A n c, e = .returned (.tuple #[.agg #[.slice A n c, .int .i64 lo, .int .i64 hi], .int .i64 0]) ∧ ls.length = n ∧ n ≤ c ∧ LaysAt w' w'.heap.size A ls) ∨
  (∃ ls lo hi, OkDoc ls lo hi ∧ T = printT ls lo hi ∧ placeB ls lo hi = false ∧ e = .returned (.tuple #[.agg #[.slice none 0 0, .int .i64 0, .int .i64 0], .int .i64 2])) ∨
  (NoLog T ∧ e = .returned (.tuple #[.agg #[.slice none 0 0, .int .i64 0, .int .i64 0], .int .i64 4]))
set_option maxRecDepth 100000 in
set_option maxHeartbeats 4000000 in
theorem read_long (t : ByteArray) (w : World) (h : 5000 < t.size) :
    Calls Tryd.prog 43 #[.string t] w fun e w' => e = .returned (.tuple #[.agg #[.slice none 0 0, .int .i64 0, .int .i64 0], .int .i64 3]) ∧ Below w.heap.size w w' := by
  have h1 : (5000 : Int) < (t.size : Nat) := by omega
  have HB := Lib.hid (((Below.refl w.heap.size w).alloc (Nat.le_refl _) (.cells #[.slice none 0 0, .int .i64 0, .int .i64 0] 26)).alloc (by simp) (.cells #[.int .i64 3] 30))
  go_enter_defers Tryd.func43, Tryd.ntmps43
  go_wp2_with fail
  simp [bodyPostD, Leaves, results, Tryd.results43, go_sem]
  exact HB.out
set_option maxRecDepth 100000 in
set_option maxHeartbeats 4000000 in
theorem read_any (t : ByteArray) (m : Int) (w : World) (h : t.size ≤ 5000) (hm : w.cell? ⟨1, 0, none⟩ = some (.int .i64 m)) (h2 : 1 < w.heap.size) :
    Calls Tryd.prog 43 #[.string t] w fun e w' => ReadPost t.data.toList e w' ∧ Below w.heap.size w w' := by
  have h1 : ¬ (5000 : Int) < (t.size : Nat) := by omega
  have hmf : ∀ (fn : Fn) (first cap : Array Value) (w : World), (Instr.makeFunc fn first cap).run Tryd.prog w = .ok (.func fn first cap) w := fun _ _ _ _ => rfl
  have hi0 : ∀ w : World, (Instr.index 127 (.agg #[.func (.func 77) #[] #[], .func (.func 78) #[] #[], .func (.func 79) #[] #[]]) (.int .i64 0)).run Tryd.prog w = .ok (.func (.func 77) #[] #[]) w := fun _ => by kernel_rfl
  have hi1 : ∀ w : World, (Instr.index 127 (.agg #[.func (.func 77) #[] #[], .func (.func 78) #[] #[], .func (.func 79) #[] #[]]) (.int .i64 1)).run Tryd.prog w = .ok (.func (.func 78) #[] #[]) w := fun _ => by kernel_rfl
  have hi2 : ∀ w : World, (Instr.index 127 (.agg #[.func (.func 77) #[] #[], .func (.func 78) #[] #[], .func (.func 79) #[] #[]]) (.int .i64 2)).run Tryd.prog w = .ok (.func (.func 79) #[] #[]) w := fun _ => by kernel_rfl
  obtain ⟨w2, hw2⟩ : ∃ z, (w.alloc (.cells #[.slice none 0 0, .int .i64 0, .int .i64 0] 26)).alloc (.cells #[.int .i64 0] 30) = z := ⟨_, rfl⟩
  have s2 : w2.heap.size = w.heap.size + 2 := by rw [← hw2]; simp
  have hb2 : Below w.heap.size w w2 := by rw [← hw2]; exact ((Below.refl _ _).alloc (Nat.le_refl _) _).alloc (by simp) _
  have hP : w2.heap[w.heap.size]? = some (.cells #[.slice none 0 0, .int .i64 0, .int .i64 0] 26 (0, 0)) := by
    rw [← hw2, Below.heap_alloc _ _ _ (by simp)]
    exact heap_alloc_new w _
  have hE : w2.heap[w.heap.size + 1]? = some (.cells #[.int .i64 0] 30 (0, 0)) := by
    have := heap_alloc_new (w.alloc (.cells #[.slice none 0 0, .int .i64 0, .int .i64 0] 26)) (.cells #[.int .i64 0] 30)
    rw [← hw2]
    simpa using this
  obtain ⟨w3, hw3⟩ : ∃ z, w2.alloc (.cells #[.string t, .string t, .int .i64 0, .slice none 0 0, .int .i64 0, .int .i64 0] 125) = z := ⟨_, rfl⟩
  obtain ⟨w4, hw4⟩ : ∃ z, w3.alloc (.cells #[.func (.func 77) #[] #[], .func (.func 78) #[] #[], .func (.func 79) #[] #[]] 127) = z := ⟨_, rfl⟩
  have b3 : Below w2.heap.size w2 w3 := by rw [← hw3]; exact (Below.refl _ _).alloc (Nat.le_refl _) _
  have b4 : Below w2.heap.size w2 w4 := by rw [← hw4]; exact b3.alloc b3.size _
  have s3 : w3.heap.size = w.heap.size + 3 := by rw [← hw3]; simp; omega
  have hR : RdB w4 (w.heap.size + 2) t t 0 (.slice none 0 0) 0 0 := by
    unfold RdB
    rw [← hw4, Below.heap_alloc _ _ _ (by omega), ← hw3, ← s2]
    exact heap_alloc_new w2 _
  have hF : w4.heap[w.heap.size + 3]? = some (.cells #[.func (.func 77) #[] #[], .func (.func 78) #[] #[], .func (.func 79) #[] #[]] 127 (0, 0)) := by
    rw [← hw4, ← s3]
    exact heap_alloc_new w3 _
  have g0 := cell_of_row w4 (w.heap.size + 3) 0 _ 127 (0, 0) hF
  have g1 := cell_of_row w4 (w.heap.size + 3) 1 _ 127 (0, 0) hF
  have g2 := cell_of_row w4 (w.heap.size + 3) 2 _ 127 (0, 0) hF
  simp at g0 g1 g2
  have HM := Lib.hid (((bcell hb2).1 1 _ h2).trans hm)
  have HB2 := Lib.hid hb2; have B4 := Lib.hid b4; have HP := Lib.hid hP; have HE := Lib.hid hE; have HR := Lib.hid hR; have S2 := Lib.hid s2
  have HT := Lib.hid h
  clear hb2 b3 b4 hP hE hR hF hm
  go_enter_defers Tryd.func43, Tryd.ntmps43
  go_wp2_with fail
  clear g0 g1 g2 hw2 hw3 hw4 s3 s2
  go_loopw [19] (fun i wr => Below w2.heap.size w2 wr ∧ ((i = .int .i64 0 ∧ RdB wr (w.heap.size + 2) t t 0 (.slice none 0 0) 0 0) ∨
      (i = .int .i64 1 ∧ ∃ cnt lo hi r, ReadAt t.data.toList cnt lo hi [] r ∧ RdB wr (w.heap.size + 2) t ⟨r.toArray⟩ cnt (.slice none 0 0) lo hi) ∨
      (i = .int .i64 2 ∧ ∃ (ls : List Lay) (cnt lo hi : Int) (r : List UInt8) (V : Value), ReadAt t.data.toList cnt lo hi ls r ∧ (ls.length : Int) = cnt ∧ RdB wr (w.heap.size + 2) t ⟨r.toArray⟩ cnt V lo hi ∧ wr.ownsRow w2.heap.size 86 3 V ls.length (ls.flatMap layRowG)) ∨
      (i = .int .i64 3 ∧ ∃ (ls : List Lay) (lo hi : Int) (r : List UInt8) (V : Value) (cnt : Int), OkDoc ls lo hi ∧ t.data.toList = printT ls lo hi ∧ RdB wr (w.heap.size + 2) t ⟨r.toArray⟩ cnt V lo hi ∧ wr.ownsRow w2.heap.size 86 3 V ls.length (ls.flatMap layRowG)))) (fun i _ => 3 - (intOf i).toNat)
  case atStart => exact ⟨B4.out, .inl ⟨rfl, HR.out⟩⟩
  case round =>
    obtain ⟨hb, hrel⟩ := hrel
    have BR := Lib.hid hb
    have M1 := Lib.hid (((bcell hb).1 1 _ (by rw [S2.out]; omega)).trans HM.out)
    have hPr := (hb.block _ (by rw [S2.out]; omega)).trans HP.out
    have hEr := (hb.block _ (by rw [S2.out]; omega)).trans HE.out
    clear hb
    have hlow : w2.heap.size ≤ w.heap.size + 2 := by rw [S2.out]; exact Nat.le_refl _
    have hone : 1 < w2.heap.size := by rw [S2.out]; omega
    have htl : t.data.toList.length = t.size := Array.length_toList
    rcases hrel with ⟨rfl, hr⟩ | ⟨rfl, cnt, lo, hi, r, hA, hr⟩ | ⟨rfl, ls, cnt, lo, hi, r, V, hA, hc, hr, ho⟩ | ⟨rfl, ls, lo, hi, r, V, cnt, hd, ht, hr, ho⟩
    · have HRR := Lib.hid hr; clear hr hPr hEr
      go_wp2_with fail
      refine (hole_any t t 0 0 0 _ m wr HRR.out (by have := HT.out; omega) M1.out (by omega)).mono ?_
      rintro e w5 ⟨hg, hh⟩
      have B5 := BR.out.grown hg BR.out.size (fun k hk => by cases hk; exact hlow)
      rcases hh with ⟨a, b, c, r, hl, rfl, hr5⟩ | ⟨hn, rfl⟩
      · go_wp2_with fail
        refine ⟨⟨B5, .inr (.inl ⟨rfl, a, b, c, r, ⟨?_, fun l hl => by simp at hl⟩, hr5⟩)⟩, by simp [intOf]⟩
        simpa [laysT] using hl
      · have hP5 := (B5.block _ (by rw [S2.out]; omega)).trans HP.out
        have hE5 := (B5.block _ (by rw [S2.out]; omega)).trans HE.out
        refine leaves_cons (f := 76) (args := #[.pointer (some ⟨w.heap.size, 0, none⟩), .pointer (some ⟨w.heap.size + 1, 0, none⟩)]) (by simp) (by simp [go_sem]) ?_
        refine (caught_any w.heap.size w w5 ⟨B5.os.trans HB2.out.os, B5.tape.trans HB2.out.tape, B5.output.trans HB2.out.output, Nat.le_trans HB2.out.size B5.size, fun k hk => (B5.block k (by rw [S2.out]; omega)).trans (HB2.out.block k hk)⟩ hP5 hE5).mono ?_
        rintro e u' w6 ⟨rfl, rfl, hP6, hE6, hb6⟩
        have c0 := cell_of_row w6 w.heap.size 0 _ 26 (0, 0) hP6
        have c1 := cell_of_row w6 w.heap.size 1 _ 26 (0, 0) hP6
        have c2 := cell_of_row w6 w.heap.size 2 _ 26 (0, 0) hP6
        have c3 := cell_of_row w6 (w.heap.size + 1) 0 _ 30 (0, 0) hE6
        simp at c0 c1 c2 c3
        simp [Leaves, settle, results, Tryd.results43, go_sem, c0, c1, c2, c3]
        exact ⟨.inr (.inr ⟨noLog_hole hn, rfl⟩), hb6⟩
    · have HRR := Lib.hid hr; have RA := Lib.hid hA; clear hr hPr hEr hA
      have hcnt := RA.out.1.1
      go_wp2_with fail
      refine (layers_any w2 t ⟨r.toArray⟩ cnt lo hi m wr BR.out HRR.out RA.out (by have := HT.out; omega) HM.out hlow hone).mono ?_
      rintro e w5 ⟨B5, hh⟩
      rcases hh with ⟨ls, V, r', hA', hc, rfl, hr5, ho⟩ | ⟨hn, rfl⟩
      · go_wp2_with fail
        exact ⟨⟨B5, .inr (.inr (.inl ⟨rfl, ls, cnt, lo, hi, r', V, hA', hc, hr5, ho⟩))⟩, by simp [intOf]⟩
      · have hP5 := (B5.block _ (by rw [S2.out]; omega)).trans HP.out
        have hE5 := (B5.block _ (by rw [S2.out]; omega)).trans HE.out
        refine leaves_cons (f := 76) (args := #[.pointer (some ⟨w.heap.size, 0, none⟩), .pointer (some ⟨w.heap.size + 1, 0, none⟩)]) (by simp) (by simp [go_sem]) ?_
        refine (caught_any w.heap.size w w5 ⟨B5.os.trans HB2.out.os, B5.tape.trans HB2.out.tape, B5.output.trans HB2.out.output, Nat.le_trans HB2.out.size B5.size, fun k hk => (B5.block k (by rw [S2.out]; omega)).trans (HB2.out.block k hk)⟩ hP5 hE5).mono ?_
        rintro e u' w6 ⟨rfl, rfl, hP6, hE6, hb6⟩
        have c0 := cell_of_row w6 w.heap.size 0 _ 26 (0, 0) hP6
        have c1 := cell_of_row w6 w.heap.size 1 _ 26 (0, 0) hP6
        have c2 := cell_of_row w6 w.heap.size 2 _ 26 (0, 0) hP6
        have c3 := cell_of_row w6 (w.heap.size + 1) 0 _ 30 (0, 0) hE6
        simp at c0 c1 c2 c3
        simp [Leaves, settle, results, Tryd.results43, go_sem, c0, c1, c2, c3]
        exact ⟨.inr (.inr ⟨hn, rfl⟩), hb6⟩
    · have HRR := Lib.hid hr; have RA := Lib.hid hA; have RO := Lib.hid ho; clear hr hPr hEr hA ho
      have hlr := RA.out.len
      have hrs : (ByteArray.mk r.toArray).size ≤ t.size := by show r.toArray.size ≤ _; rw [List.size_toArray]; omega
      go_wp2_with fail
      refine (end_any t ⟨r.toArray⟩ cnt lo hi V wr HRR.out (by have := HT.out; omega) hrs).mono ?_
      rintro e w5 ⟨hg, hh⟩
      have B5 := BR.out.trans (hg.mono BR.out.size)
      have hbe := RA.out.before hc
      have hsz : t.size - (ByteArray.mk r.toArray).size = t.data.toList.length - r.length := by
        show t.size - r.toArray.size = _
        rw [List.size_toArray, htl]
      rw [hsz, hbe] at hh
      rcases hh with ⟨hq, rfl⟩ | ⟨hn, rfl⟩
      · go_wp2_with fail
        exact ⟨⟨B5, .inr (.inr (.inr ⟨rfl, ls, lo, hi, r, V, cnt, RA.out.doc hc, RA.out.yes hc hq, (hg.block _ (Array.getElem?_eq_some_iff.1 HRR.out).1).trans HRR.out, own_next RO.out hg⟩))⟩, by simp [intOf]⟩
      · have hP5 := (B5.block _ (by rw [S2.out]; omega)).trans HP.out
        have hE5 := (B5.block _ (by rw [S2.out]; omega)).trans HE.out
        refine leaves_cons (f := 76) (args := #[.pointer (some ⟨w.heap.size, 0, none⟩), .pointer (some ⟨w.heap.size + 1, 0, none⟩)]) (by simp) (by simp [go_sem]) ?_
        refine (caught_any w.heap.size w w5 ⟨B5.os.trans HB2.out.os, B5.tape.trans HB2.out.tape, B5.output.trans HB2.out.output, Nat.le_trans HB2.out.size B5.size, fun k hk => (B5.block k (by rw [S2.out]; omega)).trans (HB2.out.block k hk)⟩ hP5 hE5).mono ?_
        rintro e u' w6 ⟨rfl, rfl, hP6, hE6, hb6⟩
        have c0 := cell_of_row w6 w.heap.size 0 _ 26 (0, 0) hP6
        have c1 := cell_of_row w6 w.heap.size 1 _ 26 (0, 0) hP6
        have c2 := cell_of_row w6 w.heap.size 2 _ 26 (0, 0) hP6
        have c3 := cell_of_row w6 (w.heap.size + 1) 0 _ 30 (0, 0) hE6
        simp at c0 c1 c2 c3
        simp [Leaves, settle, results, Tryd.results43, go_sem, c0, c1, c2, c3]
        exact ⟨.inr (.inr ⟨RA.out.noEnd hc hn, rfl⟩), hb6⟩
    · have HRR := Lib.hid hr; have RO := Lib.hid ho; clear hr ho
      obtain ⟨A, c, rfl, hcap, hL⟩ := lays_of_ownG RO.out rfl
      have k3 := cell_of_row wr (w.heap.size + 2) 3 _ 125 (0, 0) HRR.out
      have k4 := cell_of_row wr (w.heap.size + 2) 4 _ 125 (0, 0) HRR.out
      have k5 := cell_of_row wr (w.heap.size + 2) 5 _ 125 (0, 0) HRR.out
      simp at k3 k4 k5
      have hn : ls.length ≤ maxLen := by
        have := hd.1.2
        unfold maxLen
        omega
      go_wp2_with fail
      refine (Check_any A ls.length c ls lo hi wr rfl hn hL).mono ?_
      rintro e w5 ⟨rfl, hg⟩
      have B5 := BR.out.trans (hg.mono BR.out.size)
      have hP5 := (B5.block _ (by rw [S2.out]; omega)).trans HP.out
      have hE5 := (B5.block _ (by rw [S2.out]; omega)).trans HE.out
      have hR5 := (hg.block _ (Array.getElem?_eq_some_iff.1 HRR.out).1).trans HRR.out
      have hL5 := hL.next hg
      have BW : Below w.heap.size w w5 := ⟨B5.os.trans HB2.out.os, B5.tape.trans HB2.out.tape, B5.output.trans HB2.out.output, Nat.le_trans HB2.out.size B5.size, fun k hk => (B5.block k (by rw [S2.out]; omega)).trans (HB2.out.block k hk)⟩
      clear k3 k4 k5
      have k3 := cell_of_row w5 (w.heap.size + 2) 3 _ 125 (0, 0) hR5
      have k4 := cell_of_row w5 (w.heap.size + 2) 4 _ 125 (0, 0) hR5
      have k5 := cell_of_row w5 (w.heap.size + 2) 5 _ 125 (0, 0) hR5
      have c0 := cell_of_row w5 w.heap.size 0 _ 26 (0, 0) hP5
      have c1 := cell_of_row w5 w.heap.size 1 _ 26 (0, 0) hP5
      have c2 := cell_of_row w5 w.heap.size 2 _ 26 (0, 0) hP5
      have c3 := cell_of_row w5 (w.heap.size + 1) 0 _ 30 (0, 0) hE5
      simp at k3 k4 k5 c0 c1 c2 c3
      have f0 : w5.frozen? ⟨w.heap.size, 0, none⟩ = false := by simp [World.frozen?, hP5]
      have f1 : w5.frozen? ⟨w.heap.size, 1, none⟩ = false := by simp [World.frozen?, hP5]
      have f2 : w5.frozen? ⟨w.heap.size, 2, none⟩ = false := by simp [World.frozen?, hP5]
      have f3 : w5.frozen? ⟨w.heap.size + 1, 0, none⟩ = false := by simp [World.frozen?, hE5]
      have BWH := Lib.hid BW; have HP5 := Lib.hid hP5; have HE5 := Lib.hid hE5; have HL5 := Lib.hid hL5
      clear BW hP5 hE5 hL5 hR5 B5 hg hL
      cases hp : placeB ls lo hi with
      | false =>
        have hc : checkI ls lo hi = 2 := by simp [checkI, hp]
        rw [hc]
        have HPB := Lib.hid hp
        clear hc hp
        go_wp2_with fail
        refine leaves_cons (f := 76) (args := #[.pointer (some ⟨w.heap.size, 0, none⟩), .pointer (some ⟨w.heap.size + 1, 0, none⟩)]) (by simp) (by simp [go_sem]) ?_
        refine (catch_idle _ _ _).mono ?_
        rintro e u' w6 ⟨rfl, rfl, hw6⟩
        have BW := BWH.out; have hP5 := HP5.out; have hE5 := HE5.out
        have hwf : (((w5.setCell ⟨w.heap.size, 0, none⟩ (.slice none 0 0)).setCell ⟨w.heap.size, 1, none⟩ (.int .i64 0)).setCell ⟨w.heap.size, 2, none⟩ (.int .i64 0)).setCell ⟨w.heap.size + 1, 0, none⟩ (.int .i64 2) = w6 := hw6.symm
        clear hw6
        have hPf : w6.heap[w.heap.size]? = some (.cells #[.slice none 0 0, .int .i64 0, .int .i64 0] 26 (0, 0)) := by
          rw [← hwf]
          exact (Below.heap_setCell _ _ _ _ (by show w.heap.size ≠ w.heap.size + 1; omega)).trans (rd_set (rd_set (rd_set hP5 0 _) 1 _) 2 _)
        have hEf : w6.heap[w.heap.size + 1]? = some (.cells #[.int .i64 2] 30 (0, 0)) := by
          rw [← hwf]
          refine rd_set (cs := #[.int .i64 0]) ?_ 0 _
          exact (Below.heap_setCell _ _ _ _ (by show w.heap.size + 1 ≠ w.heap.size; omega)).trans ((Below.heap_setCell _ _ _ _ (by show w.heap.size + 1 ≠ w.heap.size; omega)).trans ((Below.heap_setCell _ _ _ _ (by show w.heap.size + 1 ≠ w.heap.size; omega)).trans hE5))
        have hbf : Below w.heap.size w w6 := by
          rw [← hwf]
          exact (((BW.setCell (p := ⟨w.heap.size, 0, none⟩) (Nat.le_refl _) _).setCell (p := ⟨w.heap.size, 1, none⟩) (Nat.le_refl _) _).setCell (p := ⟨w.heap.size, 2, none⟩) (Nat.le_refl _) _).setCell (p := ⟨w.heap.size + 1, 0, none⟩) (by show w.heap.size ≤ w.heap.size + 1; omega) _
        have hsz : w6.heap.size = w5.heap.size := by rw [← hwf]; simp [World.setCell]
        have d0 := cell_of_row w6 w.heap.size 0 _ 26 (0, 0) hPf
        have d1 := cell_of_row w6 w.heap.size 1 _ 26 (0, 0) hPf
        have d2 := cell_of_row w6 w.heap.size 2 _ 26 (0, 0) hPf
        have d3 := cell_of_row w6 (w.heap.size + 1) 0 _ 30 (0, 0) hEf
        simp at d0 d1 d2 d3
        simp [Leaves, settle, results, Tryd.results43, go_sem, d0, d1, d2, d3]
        exact ⟨.inr (.inl ⟨ls, lo, hi, hd, ht, HPB.out, rfl⟩), hbf⟩
      | true =>
        have hc : checkI ls lo hi = 0 := by simp [checkI, hp]
        rw [hc]
        have HPB := Lib.hid hp
        clear hc hp
        go_wp2_with fail
        refine leaves_cons (f := 76) (args := #[.pointer (some ⟨w.heap.size, 0, none⟩), .pointer (some ⟨w.heap.size + 1, 0, none⟩)]) (by simp) (by simp [go_sem]) ?_
        refine (catch_idle _ _ _).mono ?_
        rintro e u' w6 ⟨rfl, rfl, hw6⟩
        have BW := BWH.out; have hP5 := HP5.out; have hE5 := HE5.out
        have hwf : (((w5.setCell ⟨w.heap.size, 0, none⟩ (.slice A ls.length c)).setCell ⟨w.heap.size, 1, none⟩ (.int .i64 lo)).setCell ⟨w.heap.size, 2, none⟩ (.int .i64 hi)).setCell ⟨w.heap.size + 1, 0, none⟩ (.int .i64 0) = w6 := hw6.symm
        clear hw6
        have hPf : w6.heap[w.heap.size]? = some (.cells #[.slice A ls.length c, .int .i64 lo, .int .i64 hi] 26 (0, 0)) := by
          rw [← hwf]
          exact (Below.heap_setCell _ _ _ _ (by show w.heap.size ≠ w.heap.size + 1; omega)).trans (rd_set (rd_set (rd_set hP5 0 _) 1 _) 2 _)
        have hEf : w6.heap[w.heap.size + 1]? = some (.cells #[.int .i64 0] 30 (0, 0)) := by
          rw [← hwf]
          refine rd_set (cs := #[.int .i64 0]) ?_ 0 _
          exact (Below.heap_setCell _ _ _ _ (by show w.heap.size + 1 ≠ w.heap.size; omega)).trans ((Below.heap_setCell _ _ _ _ (by show w.heap.size + 1 ≠ w.heap.size; omega)).trans ((Below.heap_setCell _ _ _ _ (by show w.heap.size + 1 ≠ w.heap.size; omega)).trans hE5))
        have hbf : Below w.heap.size w w6 := by
          rw [← hwf]
          exact (((BW.setCell (p := ⟨w.heap.size, 0, none⟩) (Nat.le_refl _) _).setCell (p := ⟨w.heap.size, 1, none⟩) (Nat.le_refl _) _).setCell (p := ⟨w.heap.size, 2, none⟩) (Nat.le_refl _) _).setCell (p := ⟨w.heap.size + 1, 0, none⟩) (by show w.heap.size ≤ w.heap.size + 1; omega) _
        have hsz : w6.heap.size = w5.heap.size := by rw [← hwf]; simp [World.setCell]
        have d0 := cell_of_row w6 w.heap.size 0 _ 26 (0, 0) hPf
        have d1 := cell_of_row w6 w.heap.size 1 _ 26 (0, 0) hPf
        have d2 := cell_of_row w6 w.heap.size 2 _ 26 (0, 0) hPf
        have d3 := cell_of_row w6 (w.heap.size + 1) 0 _ 30 (0, 0) hEf
        simp at d0 d1 d2 d3
        simp [Leaves, settle, results, Tryd.results43, go_sem, d0, d1, d2, d3]
        have hLf : LaysAt w6 w6.heap.size A ls := by
          rw [hsz]
          intro hne
          obtain ⟨b, o, rfl, hb, hcs⟩ := HL5.out hne
          have hlow := (RO.out.lt b rfl).1
          rw [S2.out] at hlow
          have hh : w6.heap[b]? = w5.heap[b]? := by
            rw [← hwf]
            exact (Below.heap_setCell _ _ _ _ (by show b ≠ w.heap.size + 1; omega)).trans ((Below.heap_setCell _ _ _ _ (by show b ≠ w.heap.size; omega)).trans ((Below.heap_setCell _ _ _ _ (by show b ≠ w.heap.size; omega)).trans (Below.heap_setCell _ _ _ _ (by show b ≠ w.heap.size; omega))))
          have hcell : ∀ j, w6.cell? ⟨b, j, none⟩ = w5.cell? ⟨b, j, none⟩ := fun j => by simp [World.cell?, hh]
          exact ⟨b, o, rfl, hb, fun i x hx => by rw [hcell, hcell, hcell]; exact hcs i x hx⟩
        exact ⟨.inl ⟨ls, lo, hi, hd, ht, HPB.out, A, ls.length, c, rfl, rfl, hcap, hLf⟩, hbf⟩
end Go.Proofs.YtccekbdhffccdaaDoor
