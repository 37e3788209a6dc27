/- The statement on logs: the statement's function. -/
import Derived.Test.YtccekbdhffccdaaDoorMM
import Derived.Test.YtccekbdhffccdaaDoorGD
import Derived.Test.YtccekbdhffccdaaDoorHB
import Derived.Test.YtccekbdhffccdaaDoorHC
namespace Go.Proofs.YtccekbdhffccdaaDoor
open Go.RowKit

theorem doc_of_place {ls : List Lay} {lo hi : Int} (h : placeB ls lo hi = true) : OkDoc ls lo hi ∧ ls.length ≤ 6 := by
  obtain ⟨⟨q1, q2⟩, ⟨q3, q4, q5⟩, q6⟩ := placeB_spec h
  refine ⟨⟨⟨by omega, by omega⟩, ⟨by omega, by omega⟩, ⟨by omega, by omega⟩, fun l hl => ?_⟩, q2⟩
  have := q6 l hl
  exact ⟨⟨by omega, by omega⟩, ⟨by omega, by omega⟩, ⟨by omega, by omega⟩⟩
theorem line3_len {word : List UInt8} {a b c : Int} (ha : OkN a) (hb : OkN b) (hc : OkN c) : (lineT word [a, b, c]).length ≤ word.length + 28 := by
  have h1 := ((numL_iff _).2 ⟨a, ha, rfl⟩).2.1
  have h2 := ((numL_iff _).2 ⟨b, hb, rfl⟩).2.1
  have h3 := ((numL_iff _).2 ⟨c, hc, rfl⟩).2.1
  have e := lineT3 word a b c []
  rw [List.append_nil] at e
  rw [e]
  unfold wl
  simp only [List.length_append, List.length_cons, List.length_nil]
  omega
theorem laysT_len : ∀ {ls : List Lay}, (∀ l ∈ ls, OkLay l) → (laysT ls).length ≤ 40 * ls.length
  | [], _ => by simp [laysT]
  | l :: ls, h => by
    have hl := h l (by simp)
    have h1 := line3_len (word := [108, 97, 121, 101, 114]) hl.1 hl.2.1 hl.2.2
    have h2 := laysT_len (ls := ls) fun x hx => h x (List.mem_cons_of_mem _ hx)
    rw [laysT_cons, List.length_append, List.length_cons]
    simp only [List.length_cons, List.length_nil] at h1
    show (lineT [108, 97, 121, 101, 114] [l.t, l.lo, l.hi]).length + _ ≤ _
    omega
theorem printT_len {ls : List Lay} {lo hi : Int} (h : OkDoc ls lo hi) : (printT ls lo hi).length ≤ 40 * ls.length + 60 := by
  have h1 := line3_len (word := [104, 111, 108, 101]) h.1 h.2.1 h.2.2.1
  have h2 := laysT_len h.2.2.2
  unfold printT bodyT holeT
  rw [List.length_append, List.length_append, endT_len]
  simp only [List.length_cons, List.length_nil] at h1
  show (lineT _ _).length + (laysT ls).length + 7 ≤ _
  omega
def MaxW (w : World) : Prop := ∃ m, w.cell? ⟨1, 0, none⟩ = some (.int .i64 m) ∧ 1 < w.heap.size
theorem MaxW.next {w w' : World} (h : MaxW w) (hb : Below w.heap.size w w') : MaxW w' := by
  obtain ⟨m, hm, h1⟩ := h
  exact ⟨m, ((bcell hb).1 1 _ h1).trans hm, by have := hb.size; omega⟩
set_option maxRecDepth 100000 in
set_option maxHeartbeats 4000000 in
theorem books_any (A : Option Addr) (n c : Nat) (ls : List Lay) (lo hi : Int) (w : World) (ht : Tab w) (hx : MaxW w) (hl : ls.length = n) (hcap : n ≤ c) (hn : n ≤ maxLen) (hL : LaysAt w w.heap.size A ls) :
    Calls Tryd.prog 12 #[.agg #[.slice A n c, .int .i64 lo, .int .i64 hi]] w fun e w' => e = .returned (.bool true) ∧ Below w.heap.size w w' := by
  have HT := Lib.hid ht; have HX := Lib.hid hx; have HL := Lib.hid hl; have HN := Lib.hid hn; have HCAP := Lib.hid hcap
  have z1 := heap_alloc_new w (.cells #[.slice A n c, .int .i64 lo, .int .i64 hi] 26)
  have p0 := cell_of_row _ w.heap.size 0 _ 26 (0, 0) z1
  have p1 := cell_of_row _ w.heap.size 1 _ 26 (0, 0) z1
  have p2 := cell_of_row _ w.heap.size 2 _ 26 (0, 0) z1
  simp at p0 p1 p2
  have HB1 := Lib.hid ((Below.refl w.heap.size w).alloc (Nat.le_refl _) (.cells #[.slice A n c, .int .i64 lo, .int .i64 hi] 26))
  have Z1 := Lib.hid z1
  clear ht hx hl hn hcap z1
  by_cases h12 : 12 < n
  · have h12' : (12 : Int) < (n : Int) := by omega
    go_enter Tryd.func12, Tryd.ntmps12
    go_wp2_with fail
    refine (known_any _ (HT.out.next HB1.out)).mono ?_
    rintro e w5 ⟨rfl, hb5⟩
    have HB5 := Lib.hid (HB1.out.trans (hb5.mono HB1.out.size))
    clear hb5
    go_wp2_with fail
    go_ret
    exact ⟨rfl, HB5.out⟩
  · have h12' : ¬ (12 : Int) < (n : Int) := by omega
    go_enter Tryd.func12, Tryd.ntmps12
    go_wp2_with fail
    refine (print_any A n c ls lo hi _ HL.out HN.out HCAP.out (hL.next HB1.out) (HT.out.next HB1.out)).mono ?_
    rintro e w2 ⟨rfl, hb2⟩
    have HB2 := Lib.hid (HB1.out.trans (hb2.mono HB1.out.size))
    have Z2 := Lib.hid ((hb2.block _ (Array.getElem?_eq_some_iff.1 Z1.out).1).trans Z1.out)
    clear hb2 p0 p1 p2
    have p0 := cell_of_row w2 w.heap.size 0 _ 26 (0, 0) Z2.out
    have p1 := cell_of_row w2 w.heap.size 1 _ 26 (0, 0) Z2.out
    have p2 := cell_of_row w2 w.heap.size 2 _ 26 (0, 0) Z2.out
    simp at p0 p1 p2
    go_wp2_with fail
    refine (refPlace_any A n c ls lo hi _ HL.out HN.out (hL.next HB2.out)).mono ?_
    rintro e w3 ⟨rfl, hb3⟩
    have HB3 := Lib.hid (HB2.out.trans (hb3.mono HB2.out.size))
    have Z3 := Lib.hid ((hb3.block _ (Array.getElem?_eq_some_iff.1 Z2.out).1).trans Z2.out)
    clear hb3 p0 p1 p2
    cases hp : placeB ls lo hi with
    | false =>
      have hr : printR ls lo hi = ([], 2) := by simp [printR, hp]
      rw [hr]
      clear hr hp
      go_wp2_with fail
      refine (known_any _ (HT.out.next HB3.out)).mono ?_
      rintro e w5 ⟨rfl, hb5⟩
      have HB5 := Lib.hid (HB3.out.trans (hb5.mono HB3.out.size))
      clear hb5
      go_wp2_with fail
      go_ret
      exact ⟨rfl, HB5.out⟩
    | true =>
      have hr : printR ls lo hi = (printT ls lo hi, 0) := by simp [printR, hp]
      rw [hr]
      obtain ⟨hd, h6⟩ := doc_of_place hp
      have hlen := printT_len hd
      have HD := Lib.hid hd; have HP := Lib.hid hp
      obtain ⟨T, hT⟩ : ∃ T, printT ls lo hi = T := ⟨_, rfl⟩
      rw [hT] at hlen
      have HTT := Lib.hid hT
      have hts : (ByteArray.mk T.toArray).size ≤ 5000 := by show T.toArray.size ≤ _; rw [List.size_toArray]; omega
      simp only [hT]
      clear hr hp hd hT
      obtain ⟨m, hm, h1⟩ := HX.out.next HB3.out
      go_wp2_with fail
      refine (read_any ⟨T.toArray⟩ m w3 hts hm h1).mono ?_
      rintro e w4 ⟨hpost, hb4⟩
      have hq : ∃ A' n' c', e = .returned (.tuple #[.agg #[.slice A' n' c', .int .i64 lo, .int .i64 hi], .int .i64 0]) ∧ ls.length = n' ∧ n' ≤ c' ∧ LaysAt w4 w4.heap.size A' ls := by
        rcases hpost with ⟨ls', lo', hi', hd', ht', hp', A', n', c', he, hl', hc', hL'⟩ | ⟨ls', lo', hi', hd', ht', hp', _⟩ | ⟨hno, _⟩
        · obtain ⟨rfl, rfl, rfl⟩ := printT_inj HD.out hd' (HTT.out.trans ht')
          exact ⟨A', n', c', he, hl', hc', hL'⟩
        · obtain ⟨rfl, rfl, rfl⟩ := printT_inj HD.out hd' (HTT.out.trans ht')
          rw [HP.out] at hp'
          exact absurd hp' (by decide)
        · exact absurd HTT.out.symm (hno _ _ _ HD.out)
      obtain ⟨A', n', c', rfl, hl', hc', hL'⟩ := hq
      have hnn : n' = n := by rw [← hl', HL.out]
      subst hnn
      have HB4 := Lib.hid (HB3.out.trans (hb4.mono HB3.out.size))
      have Z4 := Lib.hid ((hb4.block _ (Array.getElem?_eq_some_iff.1 Z3.out).1).trans Z3.out)
      have L4 := Lib.hid hL'
      clear hpost hb4 hL' hm h1
      obtain ⟨w5, hw5⟩ : ∃ z, w4.alloc (.cells #[.slice A' n' c', .int .i64 lo, .int .i64 hi] 26) = z := ⟨_, rfl⟩
      have z5 := heap_alloc_new w4 (.cells #[.slice A' n' c', .int .i64 lo, .int .i64 hi] 26)
      have b5 : Below w4.heap.size w4 w5 := by rw [← hw5]; exact (Below.refl _ _).alloc (Nat.le_refl _) _
      rw [hw5] at z5
      have z5p := (b5.block _ (Array.getElem?_eq_some_iff.1 Z4.out).1).trans Z4.out
      have p0 := cell_of_row w5 w.heap.size 0 _ 26 (0, 0) z5p
      have p1 := cell_of_row w5 w.heap.size 1 _ 26 (0, 0) z5p
      have p2 := cell_of_row w5 w.heap.size 2 _ 26 (0, 0) z5p
      simp at p0 p1 p2
      have HB5 := Lib.hid (HB4.out.trans (b5.mono HB4.out.size))
      have Z5 := Lib.hid z5p; have X5 := Lib.hid z5
      have L5 := Lib.hid (L4.out.next b5)
      clear z5 b5 z5p
      go_wp2_with fail
      clear hw5
      refine (printR_any A n' c ls lo hi w5 hl' (hL.next HB5.out) HD.out (by omega)).mono ?_
      rintro e w6 ⟨rfl, hb6⟩
      rw [HTT.out]
      have HB6 := Lib.hid (HB5.out.trans (hb6.mono HB5.out.size))
      have z6 := (hb6.block _ (Array.getElem?_eq_some_iff.1 Z5.out).1).trans Z5.out
      have x6 := (hb6.block _ (Array.getElem?_eq_some_iff.1 X5.out).1).trans X5.out
      clear p0 p1 p2
      have p0 := cell_of_row w6 w.heap.size 0 _ 26 (0, 0) z6
      have p1 := cell_of_row w6 w.heap.size 1 _ 26 (0, 0) z6
      have p2 := cell_of_row w6 w.heap.size 2 _ 26 (0, 0) z6
      have q0 := cell_of_row w6 w4.heap.size 0 _ 26 (0, 0) x6
      have q1 := cell_of_row w6 w4.heap.size 1 _ 26 (0, 0) x6
      have q2 := cell_of_row w6 w4.heap.size 2 _ 26 (0, 0) x6
      simp at p0 p1 p2 q0 q1 q2
      have L6 := Lib.hid (L5.out.next hb6)
      clear hb6 z6 x6
      go_wp2_with fail
      refine (samePlace_ok A' A n' c' c ls lo hi w6 hl' HN.out L6.out (hL.next HB6.out)).mono ?_
      rintro e w7 ⟨rfl, hb7⟩
      have HB7 := Lib.hid (HB6.out.trans (hb7.mono HB6.out.size))
      clear hb7
      go_wp2_with fail
      refine (known_any _ (HT.out.next HB7.out)).mono ?_
      rintro e w8 ⟨rfl, hb8⟩
      have HB8 := Lib.hid (HB7.out.trans (hb8.mono HB7.out.size))
      clear hb8
      go_wp2_with fail
      go_ret
      exact ⟨rfl, HB8.out⟩
end Go.Proofs.YtccekbdhffccdaaDoor
