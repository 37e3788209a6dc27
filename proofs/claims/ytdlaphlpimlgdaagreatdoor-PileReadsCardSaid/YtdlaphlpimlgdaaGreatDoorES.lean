/- A book, as the program reads it: the whole reader. -/
import Derived.Test.YtdlaphlpimlgdaaGreatDoorER
namespace Go.Proofs.YtdlaphlpimlgdaaGreatDoor
open Go.RowKit Go.Shelf

/-- What the reader says of a text. -/
def ReadPost (T : List UInt8) (e : Ending) (w' : World) : Prop :=
  (∃ ts ps AV cV, Doc ts ps ∧ T = docT ts ps ∧ bookB ts = true ∧ e = .returned (.tuple #[.slice AV ts.length cV, .int .i64 0]) ∧ ts.length ≤ cV ∧ LvsAt w' w'.heap.size AV ts) ∨
  (∃ ts ps, Doc ts ps ∧ T = docT ts ps ∧ bookB ts = false ∧ e = .returned (.tuple #[.slice none 0 0, .int .i64 2])) ∨
  (NoDoc T ∧ e = .returned (.tuple #[.slice none 0 0, .int .i64 4]))
set_option maxRecDepth 100000 in
set_option maxHeartbeats 4000000 in
theorem read_long (t : ByteArray) (w : World) (h : 20000 < t.size) :
    Calls Tryz.prog 56 #[.string t] w fun e w' => e = .returned (.tuple #[.slice none 0 0, .int .i64 3]) ∧ Below w.heap.size w w' := by
  have h1 : (20000 : Int) < (t.size : Nat) := by omega
  have HB := Lib.hid (((Below.refl w.heap.size w).alloc (Nat.le_refl _) (.cells #[.slice none 0 0] 53)).alloc (by simp) (.cells #[.int .i64 3] 30))
  go_enter_defers Tryz.func56, Tryz.ntmps56
  go_wp2_with fail
  simp [bodyPostD, Leaves, results, Tryz.results56, go_sem]
  exact HB.out
set_option maxRecDepth 100000 in
set_option maxHeartbeats 4000000 in
theorem Read_any (t : ByteArray) (w : World) (ht : Tab w) (hx : MaxW w) (h : t.size ≤ 1000) :
    Calls Tryz.prog 56 #[.string t] w fun e w' => ReadPost t.data.toList e w' ∧ Below w.heap.size w w' := by
  have h1 : ¬ (20000 : Int) < (t.size : Nat) := by omega
  have hmf : ∀ (fn : Fn) (first cap : Array Value) (w : World), (Instr.makeFunc fn first cap).run Tryz.prog w = .ok (.func fn first cap) w := fun _ _ _ _ => rfl
  obtain ⟨w2, hw2⟩ : ∃ z, (w.alloc (.cells #[.slice none 0 0] 53)).alloc (.cells #[.int .i64 0] 30) = z := ⟨_, rfl⟩
  have s2 : w2.heap.size = w.heap.size + 2 := by rw [← hw2]; simp
  have hb2 : Below w.heap.size w w2 := by rw [← hw2]; exact ((Below.refl _ _).alloc (Nat.le_refl _) _).alloc (by simp) _
  have hP : w2.heap[w.heap.size]? = some (.cells #[.slice none 0 0] 53 (0, 0)) := by
    rw [← hw2, Below.heap_alloc _ _ _ (by simp)]
    exact heap_alloc_new w _
  have hE : w2.heap[w.heap.size + 1]? = some (.cells #[.int .i64 0] 30 (0, 0)) := by
    have := heap_alloc_new (w.alloc (.cells #[.slice none 0 0] 53)) (.cells #[.int .i64 0] 30)
    rw [← hw2]
    simpa using this
  have HB2 := Lib.hid hb2; have HP := Lib.hid hP; have HE := Lib.hid hE; have S2 := Lib.hid s2
  have HT2 := Lib.hid (ht.next hb2); have HX2 := Lib.hid (hx.next hb2); have HS := Lib.hid h
  clear hb2 hP hE s2 ht hx h
  go_enter_defers Tryz.func56, Tryz.ntmps56
  go_wp2_with fail
  clear hw2
  refine (readAll_any t w2 HT2.out HX2.out HS.out).mono ?_
  rintro e w5 ⟨hh, B5⟩
  have hP5 := (B5.block _ (by rw [S2.out]; omega)).trans HP.out
  have hE5 := (B5.block _ (by rw [S2.out]; omega)).trans HE.out
  have hs5 := B5.size
  have BW : Below w.heap.size w w5 := HB2.out.trans (B5.mono HB2.out.size)
  rcases hh with ⟨ts, ps, AV, cV, hd, he, rfl, hcV, hml, hLq⟩ | ⟨hn, rfl⟩
  · have c0 := cell_of_row w5 w.heap.size 0 _ 53 (0, 0) hP5
    have c3 := cell_of_row w5 (w.heap.size + 1) 0 _ 30 (0, 0) hE5
    simp only [List.getElem?_toArray, List.getElem?_cons_zero] at c0 c3
    have f0 : w5.frozen? ⟨w.heap.size, 0, none⟩ = false := by simp [World.frozen?, hP5]
    obtain ⟨w6, hw6⟩ : ∃ z, w5.setCell ⟨w.heap.size, 0, none⟩ (.slice AV ts.length cV) = z := ⟨_, rfl⟩
    have hP6 : w6.heap[w.heap.size]? = some (.cells #[.slice AV ts.length cV] 53 (0, 0)) := by
      rw [← hw6]
      exact rd_set hP5 0 _
    have hE6 : w6.heap[w.heap.size + 1]? = some (.cells #[.int .i64 0] 30 (0, 0)) := by
      rw [← hw6]
      exact (Below.heap_setCell _ _ _ _ (by show w.heap.size + 1 ≠ w.heap.size; omega)).trans hE5
    have B6 : Below w.heap.size w w6 := by
      rw [← hw6]
      exact BW.setCell (p := ⟨w.heap.size, 0, none⟩) (Nat.le_refl _) _
    have hk6 : ∀ b, w2.heap.size ≤ b → w6.heap[b]? = w5.heap[b]? := fun b hb => by
      rw [← hw6]
      exact Below.heap_setCell _ _ _ _ (by have := S2.out; show b ≠ w.heap.size; omega)
    have hL6 := hLq w6 hk6
    have HL := Lib.hid hL6; have HLQ := Lib.hid hLq; have HD := Lib.hid hd; have HQ := Lib.hid he; have HCV := Lib.hid hcV; have HML := Lib.hid hml; have HP6 := Lib.hid hP6; have HE6 := Lib.hid hE6; have HB6 := Lib.hid B6; have HK6 := Lib.hid hk6
    have d0 := cell_of_row w6 w.heap.size 0 _ 53 (0, 0) hP6
    have d3 := cell_of_row w6 (w.heap.size + 1) 0 _ 30 (0, 0) hE6
    simp only [List.getElem?_toArray, List.getElem?_cons_zero] at d0 d3
    have g0 : w6.frozen? ⟨w.heap.size, 0, none⟩ = false := by simp [World.frozen?, hP6]
    have g3 : w6.frozen? ⟨w.heap.size + 1, 0, none⟩ = false := by simp [World.frozen?, hE6]
    clear hL6 hLq hd he hcV hml hP6 hE6 B6 hk6 hP5 hE5 B5 BW hs5 hmf
    go_wp2_with fail
    try rw [hw6]
    clear hw6 c0 c3 f0
    refine (bookFine_any AV ts.length cV ts w6 rfl HML.out HL.out).mono ?_
    rintro e w7 ⟨rfl, hw7⟩
    rw [← hw7]
    clear hw7
    cases hb : bookB ts with
    | false =>
      have HF := Lib.hid hb
      clear hb
      go_wp2_with fail
      refine leaves_cons (f := 100) (args := #[.pointer (some ⟨w.heap.size, 0, none⟩), .pointer (some ⟨w.heap.size + 1, 0, none⟩)]) (by simp) (by simp [go_sem]) ?_
      refine (catch_idle _ _ _).mono ?_
      rintro e u' w8 ⟨rfl, rfl, hb8⟩
      obtain ⟨wf, hwf⟩ : ∃ z, (w6.setCell ⟨w.heap.size, 0, none⟩ (.slice none 0 0)).setCell ⟨w.heap.size + 1, 0, none⟩ (.int .i64 2) = z := ⟨_, rfl⟩
      rw [hwf] at hb8
      have hPf : wf.heap[w.heap.size]? = some (.cells #[.slice none 0 0] 53 (0, 0)) := by
        rw [← hwf]
        exact (Below.heap_setCell _ _ _ _ (by show w.heap.size ≠ w.heap.size + 1; omega)).trans (rd_set HP6.out 0 _)
      have hEf : wf.heap[w.heap.size + 1]? = some (.cells #[.int .i64 2] 30 (0, 0)) := by
        rw [← hwf]
        exact rd_set (cs := #[.int .i64 0]) ((Below.heap_setCell _ _ _ _ (by show w.heap.size + 1 ≠ w.heap.size; omega)).trans HE6.out) 0 _
      have hbf : Below w.heap.size w wf := by
        rw [← hwf]
        exact (HB6.out.setCell (p := ⟨w.heap.size, 0, none⟩) (Nat.le_refl _) _).setCell (p := ⟨w.heap.size + 1, 0, none⟩) (by show w.heap.size ≤ w.heap.size + 1; omega) _
      have hkf : ∀ b, w2.heap.size ≤ b → wf.heap[b]? = w5.heap[b]? := fun b hb => by
        rw [← hwf]
        have := S2.out
        exact (Below.heap_setCell _ _ _ _ (by show b ≠ w.heap.size + 1; omega)).trans ((Below.heap_setCell _ _ _ _ (by show b ≠ w.heap.size; omega)).trans (HK6.out b hb))
      have c0 := cell_of_row w8 w.heap.size 0 _ 53 (0, 0) ((hb8.block _ (heapsz hPf)).trans hPf)
      have c3 := cell_of_row w8 (w.heap.size + 1) 0 _ 30 (0, 0) ((hb8.block _ (heapsz hEf)).trans hEf)
      simp only [List.getElem?_toArray, List.getElem?_cons_zero] at c0 c3
      simp [Leaves, settle, results, Tryz.results56, go_sem, c0, c3]
      exact ⟨.inr (.inl ⟨ts, ps, HD.out, HQ.out, HF.out, rfl⟩), hbf.trans (hb8.mono hbf.size)⟩
    | true =>
      have HF := Lib.hid hb
      clear hb
      go_wp2_with fail
      refine leaves_cons (f := 100) (args := #[.pointer (some ⟨w.heap.size, 0, none⟩), .pointer (some ⟨w.heap.size + 1, 0, none⟩)]) (by simp) (by simp [go_sem]) ?_
      refine (catch_idle _ _ _).mono ?_
      rintro e u' w8 ⟨rfl, rfl, hb8⟩
      obtain ⟨wf, hwf⟩ : ∃ z, (w6.setCell ⟨w.heap.size, 0, none⟩ (.slice AV ts.length cV)).setCell ⟨w.heap.size + 1, 0, none⟩ (.int .i64 0) = z := ⟨_, rfl⟩
      rw [hwf] at hb8
      have hPf : wf.heap[w.heap.size]? = some (.cells #[.slice AV ts.length cV] 53 (0, 0)) := by
        rw [← hwf]
        exact (Below.heap_setCell _ _ _ _ (by show w.heap.size ≠ w.heap.size + 1; omega)).trans (rd_set HP6.out 0 _)
      have hEf : wf.heap[w.heap.size + 1]? = some (.cells #[.int .i64 0] 30 (0, 0)) := by
        rw [← hwf]
        exact rd_set (cs := #[.int .i64 0]) ((Below.heap_setCell _ _ _ _ (by show w.heap.size + 1 ≠ w.heap.size; omega)).trans HE6.out) 0 _
      have hbf : Below w.heap.size w wf := by
        rw [← hwf]
        exact (HB6.out.setCell (p := ⟨w.heap.size, 0, none⟩) (Nat.le_refl _) _).setCell (p := ⟨w.heap.size + 1, 0, none⟩) (by show w.heap.size ≤ w.heap.size + 1; omega) _
      have hkf : ∀ b, w2.heap.size ≤ b → wf.heap[b]? = w5.heap[b]? := fun b hb => by
        rw [← hwf]
        have := S2.out
        exact (Below.heap_setCell _ _ _ _ (by show b ≠ w.heap.size + 1; omega)).trans ((Below.heap_setCell _ _ _ _ (by show b ≠ w.heap.size; omega)).trans (HK6.out b hb))
      have c0 := cell_of_row w8 w.heap.size 0 _ 53 (0, 0) ((hb8.block _ (heapsz hPf)).trans hPf)
      have c3 := cell_of_row w8 (w.heap.size + 1) 0 _ 30 (0, 0) ((hb8.block _ (heapsz hEf)).trans hEf)
      simp only [List.getElem?_toArray, List.getElem?_cons_zero] at c0 c3
      simp [Leaves, settle, results, Tryz.results56, go_sem, c0, c3]
      exact ⟨.inl ⟨ts, ps, AV, cV, HD.out, HQ.out, HF.out, rfl, HCV.out, (HLQ.out wf hkf).up hb8⟩, hbf.trans (hb8.mono hbf.size)⟩
  · refine leaves_cons (f := 100) (args := #[.pointer (some ⟨w.heap.size, 0, none⟩), .pointer (some ⟨w.heap.size + 1, 0, none⟩)]) (by simp) (by simp [go_sem]) ?_
    refine (catch_panicking w5 none 0 0 0 w.heap.size hP5 hE5).mono ?_
    rintro e u' w6 ⟨rfl, rfl, hP6, hE6, hb6⟩
    have c0 := cell_of_row w6 w.heap.size 0 _ 53 (0, 0) hP6
    have c3 := cell_of_row w6 (w.heap.size + 1) 0 _ 30 (0, 0) hE6
    simp only [List.getElem?_toArray, List.getElem?_cons_zero] at c0 c3
    simp [Leaves, settle, results, Tryz.results56, go_sem, c0, c3]
    exact ⟨.inr (.inr ⟨hn, rfl⟩), BW.trans hb6⟩
end Go.Proofs.YtdlaphlpimlgdaaGreatDoor
