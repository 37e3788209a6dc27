/- The first line of a book, as the program reads it; texts that are cut. -/
import Derived.Test.YtdlaphlpimlgdaaGreatDoorEJ
import Derived.Test.YtdlaphlpimlgdaaGreatDoorRP
import Derived.Lib.BufferWrite
import Derived.Lib.BufferOwn
namespace Go.Proofs.YtdlaphlpimlgdaaGreatDoor
open Go.RowKit

def strR (p : List UInt8) : List Value := [.string ⟨p.toArray⟩]
theorem strR_len (p : List UInt8) : (strR p).length = 1 := rfl
abbrev StrsAt := RowAt 1 strR
theorem str_at {w : World} {B : Nat} {b o i : Nat} {ws : List (List UInt8)} {p : List UInt8} (h : StrsAt w B (some ⟨b, o, none⟩) ws) (hp : ws[i]? = some p) : b < B ∧ w.cell? ⟨b, o + i, none⟩ = some (.string ⟨p.toArray⟩) := by
  obtain ⟨b', o', e, h1, h2⟩ := h (by intro e; rw [e] at hp; simp at hp)
  injection e with e
  injection e with e1 e2
  subst e1 e2
  have h3 := h2 i p hp 0 _ rfl
  simp only [Nat.mul_one, Nat.add_zero] at h3
  exact ⟨h1, h3⟩
def strs (l : List (List UInt8)) : List Value := l.map fun p => .string ⟨p.toArray⟩
theorem splitB_pieces (s : ByteArray) (c : UInt8) : ((Lib.splitB ⟨#[c]⟩ 0 (Lib.countB s ⟨#[c]⟩) s).map Value.string) = strs (pieces c s.data.toList) := by
  have h := Lib.splitB_data ⟨#[c]⟩ 0 (Lib.countB s ⟨#[c]⟩) s
  have h2 : Lib.splitK [c] 0 (Lib.countB s ⟨#[c]⟩) s.data.toList = pieces c s.data.toList := split_pieces c s.data.toList
  rw [show (ByteArray.mk #[c]).data.toList = [c] from rfl, h2] at h
  rw [← h, strs, List.map_map]
  rfl
theorem countB_pieces (s : ByteArray) (c : UInt8) : Lib.countB s ⟨#[c]⟩ + 1 = (pieces c s.data.toList).length := by
  have h := congrArg List.length (splitB_pieces s c)
  have h2 := Lib.splitB_all ⟨#[c]⟩ (by show 1 ≤ 1; decide) 0 (Lib.countB s ⟨#[c]⟩) s rfl
  rw [List.length_map, h2] at h
  rw [h, strs, List.length_map]
theorem split_any (s : ByteArray) (c : UInt8) (m : Int) (w : World) (hs : s.size ≤ 100000) (hm : w.cell? ⟨0, 0, none⟩ = some (.int .i64 m)) :
    Calls Tryz.prog 127 #[.string s, .string ⟨#[c]⟩] w fun e w' => e = .returned (.slice (some ⟨w.heap.size, 0, none⟩) (pieces c s.data.toList).length (pieces c s.data.toList).length) ∧ Below w.heap.size w w' ∧ w'.heap.size = w.heap.size + 1 ∧ StrsAt w' w'.heap.size (some ⟨w.heap.size, 0, none⟩) (pieces c s.data.toList) := by
  have h := Tryz.strings_Split s ⟨#[c]⟩ m w (by omega) hm (by show 1 ≤ 1; decide)
  rw [splitB_pieces, countB_pieces] at h
  refine h.mono ?_
  rintro e w' ⟨rfl, rfl⟩
  refine ⟨rfl, (Below.refl _ _).alloc (Nat.le_refl _) _, by simp, fun _ => ⟨w.heap.size, 0, rfl, by simp, fun i p hp j v hv => ?_⟩⟩
  cases j with
  | succ j => simp [strR] at hv
  | zero =>
    simp [strR] at hv
    subst hv
    rw [cell_of_row _ w.heap.size _ _ 9 (0, 0) (heap_alloc_new w _)]
    simp [strs, hp]
theorem cut_any (s : ByteArray) (m : Int) (w : World) (hs : s.size ≤ 100000) (hm : w.cell? ⟨0, 0, none⟩ = some (.int .i64 m)) :
    Calls Tryz.prog 126 #[.string s, .string ⟨#[10]⟩] w fun e w' => ∃ (f r : List UInt8) (b : Bool), e = .returned (.tuple #[.string ⟨f.toArray⟩, .string ⟨r.toArray⟩, .bool b]) ∧
      ((b = true ∧ s.data.toList = f ++ 10 :: r ∧ (10 : UInt8) ∉ f) ∨ (b = false ∧ f = s.data.toList ∧ r = [] ∧ (10 : UInt8) ∉ s.data.toList)) ∧ Below w.heap.size w w' := by
  refine (Tryz.strings_Cut s ⟨#[10]⟩ m w (by omega) hm).mono ?_
  rintro e w' ⟨rfl, n, rfl⟩
  have hb : Below w.heap.size w (w.drewN n) := ⟨rfl, rfl, rfl, Nat.le_refl _, fun _ _ => rfl⟩
  rw [show (ByteArray.mk #[10]).data.toList = [10] from rfl]
  by_cases hc : (10 : UInt8) ∈ s.data.toList
  · obtain ⟨f, r, he, hf⟩ := first_cut hc
    rw [he, cut_hit r hf]
    exact ⟨f, r, true, rfl, .inl ⟨rfl, rfl, hf⟩, hb⟩
  · rw [cut_miss hc]
    exact ⟨_, _, false, rfl, .inr ⟨rfl, rfl, rfl, hc⟩, hb⟩

/-! ### The first line -/

def RdB (w : World) (R : Nat) (Y P : Int) (V : Value) (b : Bool) : Prop := w.heap[R]? = some (.cells #[.int .i64 Y, .int .i64 P, V, .bool b] 177 (0, 0))
theorem RdB.cells {w : World} {R : Nat} {Y P : Int} {V : Value} {b : Bool} (h : RdB w R Y P V b) : w.cell? ⟨R, 0, none⟩ = some (.int .i64 Y) ∧ w.cell? ⟨R, 1, none⟩ = some (.int .i64 P) ∧ w.cell? ⟨R, 2, none⟩ = some V ∧ w.cell? ⟨R, 3, none⟩ = some (.bool b) := by
  have p0 := cell_of_row w R 0 _ 177 (0, 0) h
  have p1 := cell_of_row w R 1 _ 177 (0, 0) h
  have p2 := cell_of_row w R 2 _ 177 (0, 0) h
  have p3 := cell_of_row w R 3 _ 177 (0, 0) h
  simp at p0 p1 p2 p3
  exact ⟨p0, p1, p2, p3⟩
theorem RdB.frozen {w : World} {R : Nat} {Y P : Int} {V : Value} {b : Bool} (h : RdB w R Y P V b) (j : Nat) : w.frozen? ⟨R, j, none⟩ = false := by simp [World.frozen?, show w.heap[R]? = _ from h]
theorem RdB.up {w w' : World} {R : Nat} {Y P : Int} {V : Value} {b : Bool} (h : RdB w R Y P V b) (hb : Below w.heap.size w w') : RdB w' R Y P V b := (hb.block _ (heapsz h)).trans h
/-- Memory while the two numbers of the first line are read. -/
structure FrS (wD : World) (R : Nat) (w1 w2 : List UInt8) (P0 : Int) (V : Value) (b : Bool) (done : Nat → Bool) (w' : World) : Prop where
  grown : wD.grownBy w' (some R)
  n1 : done 5 = true → NumL w1
  n2 : done 9 = true → NumL w2
  box : w'.heap[R]? = some (.cells #[.int .i64 (if done 12 then (valL w1 : Nat) else -1), .int .i64 (if done 15 then (valL w2 : Nat) else P0), V, .bool b] 177 (0, 0))
section
variable {wD : World} {R : Nat} {w1 w2 : List UInt8} {P0 : Int} {V : Value} {b : Bool} {done : Nat → Bool} {w w' : World} {ops : Array Oper} {cv : Tmp → Value} {i : Nat} {o : Oper}
theorem FrS.quiet (h : FrS wD R w1 w2 P0 V b done w) {i : Nat} (h5 : i ≠ 5) (h9 : i ≠ 9) (h12 : i ≠ 12) (h15 : i ≠ 15) : FrS wD R w1 w2 P0 V b (updB done i) w :=
  ⟨h.grown, fun e => h.n1 (by simpa [updB, Ne.symm h5] using e), fun e => h.n2 (by simpa [updB, Ne.symm h9] using e), by
    have e1 : updB done i 12 = done 12 := by simp [updB, Ne.symm h12]
    have e2 : updB done i 15 = done 15 := by simp [updB, Ne.symm h15]
    rw [e1, e2]
    exact h.box⟩
theorem FrS.below (h : FrS wD R w1 w2 P0 V b done w) (hb : Below w.heap.size w w') : FrS wD R w1 w2 P0 V b done w' :=
  ⟨Lib.grownBy_below h.grown hb, h.n1, h.n2, (hb.block _ (Array.getElem?_eq_some_iff.1 h.box).1).trans h.box⟩
theorem FrS.call (h : FrS wD R w1 w2 P0 V b done w) {i : Nat} (h12 : i ≠ 12) (h15 : i ≠ 15) (h5 : i = 5 → NumL w1) (h9 : i = 9 → NumL w2) : FrS wD R w1 w2 P0 V b (updB done i) w :=
  ⟨h.grown, fun e => by
    by_cases hi : 5 = i
    · exact h5 hi.symm
    · exact h.n1 (by simpa [updB, hi] using e), fun e => by
    by_cases hi : 9 = i
    · exact h9 hi.symm
    · exact h.n2 (by simpa [updB, hi] using e), by
    have e1 : updB done i 12 = done 12 := by simp [updB, Ne.symm h12]
    have e2 : updB done i 15 = done 15 := by simp [updB, Ne.symm h15]
    rw [e1, e2]
    exact h.box⟩
abbrev AskF (wD : World) (R : Nat) (w1 w2 : List UInt8) (P0 : Int) (V : Value) (b : Bool) (ops : Array Oper) (cv : Tmp → Value) (done : Nat → Bool) (w : World) (i : Nat) (o : Oper) : Prop :=
  Region.wanted o (yieldedBy ops cv) = true ∧ YieldX Tryz.prog (fun v w' => ∃ _g : Unit, FrS wD R w1 w2 P0 V b (updB done i) w' ∧ (∀ d, o.dst = some d → cv d = v) ∧ ∀ t, o.dst ≠ some t → cv t = cv t) (fun c w' => c = [noBook] ∧ wD.grownBy w' (some R) ∧ ¬ (NumL w1 ∧ NumL w2)) ((execOp (evalBy cv) o).run Tryz.prog w)
theorem quietF (h : FrS wD R w1 w2 P0 V b done w) (d : Tmp) (hd : o.dst = some d) (h5 : i ≠ 5) (h9 : i ≠ 9) (h12 : i ≠ 12) (h15 : i ≠ 15) (hg : Region.wanted o (yieldedBy ops cv) = true)
    (he : (execOp (evalBy cv) o).run Tryz.prog w = .ok (.value (cv d)) w) : AskF wD R w1 w2 P0 V b ops cv done w i o := by
  refine ⟨hg, ?_⟩
  rw [he]
  exact ⟨(), h.quiet h5 h9 h12 h15, fun e hE => by rw [hd] at hE; injection hE with hE; subst hE; rfl, fun _ _ => rfl⟩
theorem callF (h : FrS wD R w1 w2 P0 V b done w) (d : Tmp) (hd : o.dst = some d) (h12 : i ≠ 12) (h15 : i ≠ 15) (x : List UInt8) (h5 : i = 5 → x = w1) (h9 : i = 9 → x = w2) (hx : x = w1 ∨ x = w2) (hg : Region.wanted o (yieldedBy ops cv) = true)
    (he : (execOp (evalBy cv) o).run Tryz.prog w = .ok (.enter 146 #[.string ⟨x.toArray⟩]) w) (hv : cv d = .int .i64 (valL x : Nat)) : AskF wD R w1 w2 P0 V b ops cv done w i o := by
  refine ⟨hg, ?_⟩
  rw [he]
  show Calls Tryz.prog 146 _ w _
  refine (number_any ⟨x.toArray⟩ w).mono ?_
  rintro e w' ⟨hh, hb⟩
  rcases hh with ⟨hn, rfl⟩ | ⟨hn, rfl⟩
  · exact .inl ⟨_, rfl, (), (h.below hb).call h12 h15 (fun e => h5 e ▸ hn) (fun e => h9 e ▸ hn), fun e hE => by rw [hd] at hE; injection hE with hE; subst hE; exact hv, fun _ _ => rfl⟩
  · refine .inr ⟨_, rfl, rfl, (h.below hb).grown, fun hh => hn ?_⟩
    rcases hx with rfl | rfl
    · exact hh.1
    · exact hh.2
theorem storeF1 (h : FrS wD R w1 w2 P0 V b done w) (hd : o.dst = none) (hi : i = 12) (hg : Region.wanted o (yieldedBy ops cv) = true)
    (he : (∀ a, w.frozen? ⟨R, a, none⟩ = false) → (∃ x, w.cell? ⟨R, 0, none⟩ = some (.int .i64 x)) → (execOp (evalBy cv) o).run Tryz.prog w = .ok .skip (w.setCell ⟨R, 0, none⟩ (.int .i64 (valL w1 : Nat)))) : AskF wD R w1 w2 P0 V b ops cv done w i o := by
  subst hi
  refine ⟨hg, ?_⟩
  have hb := h.box
  have c0 := cell_of_row w R 0 _ 177 (0, 0) hb
  simp at c0
  have hf : ∀ a, w.frozen? ⟨R, a, none⟩ = false := fun a => by simp [World.frozen?, hb]
  rw [he hf ⟨_, c0⟩]
  refine ⟨(), ⟨Lib.grownBy_setB h.grown 0 _, fun e => h.n1 (by simpa [updB] using e), fun e => h.n2 (by simpa [updB] using e), ?_⟩, fun e hE => by rw [hd] at hE; exact absurd hE (by simp), fun _ _ => rfl⟩
  simp [World.setCell, Array.getElem?_modify, hb, updB]
theorem storeF2 (h : FrS wD R w1 w2 P0 V b done w) (hd : o.dst = none) (hi : i = 15) (hg : Region.wanted o (yieldedBy ops cv) = true)
    (he : (∀ a, w.frozen? ⟨R, a, none⟩ = false) → (∃ x, w.cell? ⟨R, 1, none⟩ = some (.int .i64 x)) → (execOp (evalBy cv) o).run Tryz.prog w = .ok .skip (w.setCell ⟨R, 1, none⟩ (.int .i64 (valL w2 : Nat)))) : AskF wD R w1 w2 P0 V b ops cv done w i o := by
  subst hi
  refine ⟨hg, ?_⟩
  have hb := h.box
  have c0 := cell_of_row w R 1 _ 177 (0, 0) hb
  simp at c0
  have hf : ∀ a, w.frozen? ⟨R, a, none⟩ = false := fun a => by simp [World.frozen?, hb]
  rw [he hf ⟨_, c0⟩]
  refine ⟨(), ⟨Lib.grownBy_setB h.grown 1 _, fun e => h.n1 (by simpa [updB] using e), fun e => h.n2 (by simpa [updB] using e), ?_⟩, fun e hE => by rw [hd] at hE; exact absurd hE (by simp), fun _ _ => rfl⟩
  simp [World.setCell, Array.getElem?_modify, hb, updB]
end
def frCv (R bw ow n c : Nat) (w1 w2 : List UInt8) : Tmp → Value
  | 0 => .pointer (some ⟨R, 0, none⟩)
  | 1 => .slice (some ⟨bw, ow, none⟩) n c
  | 15 => .pointer (some ⟨R, 0, none⟩)
  | 16 => .pointer (some ⟨R, 0, none⟩)
  | 17 => .slice (some ⟨bw, ow, none⟩) n c
  | 18 => .pointer (some ⟨bw, ow, none⟩)
  | 19 => .string ⟨w1.toArray⟩
  | 20 => .int .i64 (valL w1 : Nat)
  | 21 => .slice (some ⟨bw, ow, none⟩) n c
  | 22 => .pointer (some ⟨bw, ow + 1, none⟩)
  | 23 => .string ⟨w2.toArray⟩
  | 24 => .int .i64 (valL w2 : Nat)
  | 25 => .pointer (some ⟨R, 0, none⟩)
  | 26 => .pointer (some ⟨R, 0, none⟩)
  | 27 => .pointer (some ⟨R, 0, none⟩)
  | 28 => .pointer (some ⟨R, 1, none⟩)
  | _ => undef
/-- What the first line says. -/
def FirstP (Y0 : Int) (ws : List (List UInt8)) (Y P : Int) : Prop := Y0 = -1 ∧ OkN Y ∧ OkN P ∧ ws = [Lib.itoa Y, Lib.itoa P]
set_option maxRecDepth 100000 in
set_option maxHeartbeats 4000000 in
theorem first_any {R : Nat} (Y0 P0 : Int) (V : Value) (b : Bool) (A : Option Addr) (n c : Nat) (ws : List (List UInt8)) (w : World) (hR : RdB w R Y0 P0 V b) (hw : StrsAt w w.heap.size A ws) (hn : ws.length = n) (hbR : ∀ bo o, A = some ⟨bo, o, none⟩ → bo ≠ R) :
    Calls Tryz.prog 123 #[.pointer (some ⟨R, 0, none⟩), .slice A n c] w fun e w' => w.grownBy w' (some R) ∧
      ((∃ Y P, FirstP Y0 ws Y P ∧ e = .returned (.tuple #[]) ∧ RdB w' R Y P V b) ∨ ((∀ Y P, ¬ FirstP Y0 ws Y P) ∧ e = .panicked [noBook])) := by
  have ltR := (Array.getElem?_eq_some_iff.1 hR).1
  have GR := Lib.hid (show w.grownBy w (some R) from ⟨rfl, rfl, rfl, Nat.le_refl _, fun _ _ _ => rfl⟩)
  obtain ⟨c0, c1, c2, c3⟩ := RdB.cells hR
  have HR := Lib.hid hR; have HW := Lib.hid hw; have HN := Lib.hid hn; have HBR := Lib.hid hbR
  clear hR hw hn hbR
  by_cases hy : Y0 = -1
  · subst hy
    by_cases h2 : n = 2
    · subst h2
      obtain ⟨w1, w2, rfl⟩ : ∃ w1 w2, ws = [w1, w2] := by
        have := HN.out
        match ws, this with
        | [w1, w2], _ => exact ⟨w1, w2, rfl⟩
      obtain ⟨bw, ow, rfl, hbw, _⟩ := HW.out (by simp)
      have d0 := (str_at HW.out (i := 0) rfl).2
      have d1 := (str_at HW.out (i := 1) rfl).2
      rw [Nat.add_zero] at d0
      have hne := HBR.out bw ow rfl
      have hbs : some bw ≠ some R := fun e => hne (by injection e)
      go_enter Tryz.func123, Tryz.ntmps123
      go_wp2_with fail
      clear c0 c1 c2 c3
      refine plan_panic (γ := Unit) [0, 1] (fun _ => frCv R bw ow 2 c w1 w2) (fun done _ w' => FrS w R w1 w2 P0 V b done w')
        (fun c w' => c = [noBook] ∧ w.grownBy w' (some R) ∧ ¬ (NumL w1 ∧ NumL w2)) () (by kernel_rfl) (by kernel_rfl) (by kernel_rfl) (by kernel_rfl) (by kernel_rfl) ?_ ?_ ?_ ?_ ?_
      · intro t ht
        simp only [List.mem_cons, List.not_mem_nil, or_false] at ht
        rcases ht with rfl | rfl <;> rfl
      · exact ⟨⟨rfl, rfl, rfl, Nat.le_refl _, fun _ _ _ => rfl⟩, fun h => by simp at h, fun h => by simp at h, HR.out⟩
      · refine allOps_array ?_
        refine ⟨?_, ?_, ?_, ?_, ?_, ?_, ?_, ?_, ?_, ?_, ?_, ?_, ?_, ?_, ?_, ?_, trivial⟩ <;> intro done g w' hS hu hdep _
        · refine quietF hS 15 rfl (by decide) (by decide) (by decide) (by decide) rfl ?_
          simp [go_sem, evalBy, frCv]
        · refine quietF hS 16 rfl (by decide) (by decide) (by decide) (by decide) rfl ?_
          simp [go_sem, evalBy, frCv]
        · refine quietF hS 17 rfl (by decide) (by decide) (by decide) (by decide) rfl ?_
          simp [go_sem, evalBy, frCv]
        · refine quietF hS 18 rfl (by decide) (by decide) (by decide) (by decide) rfl ?_
          simp [go_sem, evalBy, frCv]
        · have h1 := (hS.grown.cell_far ⟨bw, ow, none⟩ hbw hbs).trans d0
          refine quietF hS 19 rfl (by decide) (by decide) (by decide) (by decide) rfl ?_
          simp [go_sem, evalBy, frCv, h1]
        · refine callF hS 20 rfl (show (5 : Nat) ≠ 12 by decide) (show (5 : Nat) ≠ 15 by decide) w1 (fun _ => rfl) (fun e => absurd (e : (5 : Nat) = 9) (by decide)) (.inl rfl) rfl ?_ rfl
          simp [go_sem, evalBy, frCv]
        · refine quietF hS 21 rfl (by decide) (by decide) (by decide) (by decide) rfl ?_
          simp [go_sem, evalBy, frCv]
        · refine quietF hS 22 rfl (by decide) (by decide) (by decide) (by decide) rfl ?_
          simp [go_sem, evalBy, frCv]
        · have h1 := (hS.grown.cell_far ⟨bw, ow + 1, none⟩ hbw hbs).trans d1
          refine quietF hS 23 rfl (by decide) (by decide) (by decide) (by decide) rfl ?_
          simp [go_sem, evalBy, frCv, h1]
        · refine callF hS 24 rfl (show (9 : Nat) ≠ 12 by decide) (show (9 : Nat) ≠ 15 by decide) w2 (fun e => absurd (e : (9 : Nat) = 5) (by decide)) (fun _ => rfl) (.inr rfl) rfl ?_ rfl
          simp [go_sem, evalBy, frCv]
        · refine quietF hS 25 rfl (by decide) (by decide) (by decide) (by decide) rfl ?_
          simp [go_sem, evalBy, frCv]
        · refine quietF hS 26 rfl (by decide) (by decide) (by decide) (by decide) rfl ?_
          simp [go_sem, evalBy, frCv]
        · refine storeF1 hS rfl rfl rfl ?_
          rintro hf ⟨x, c0⟩
          have f0 := hf 0
          clear hf
          simp [go_sem, evalBy, frCv, f0, c0]
        · refine quietF hS 27 rfl (by decide) (by decide) (by decide) (by decide) rfl ?_
          simp [go_sem, evalBy, frCv]
        · refine quietF hS 28 rfl (by decide) (by decide) (by decide) (by decide) rfl ?_
          simp [go_sem, evalBy, frCv]
        · refine storeF2 hS rfl rfl rfl ?_
          rintro hf ⟨x, c0⟩
          have f0 := hf 1
          clear hf
          simp [go_sem, evalBy, frCv, f0, c0]
      · rintro a w' c ⟨rfl, hg, hn⟩ hdf
        refine ⟨hdf, hg, .inr ⟨fun Y P h => hn ?_, rfl⟩⟩
        obtain ⟨_, hY, hP, hE⟩ := h
        simp only [List.cons.injEq, and_true] at hE
        exact ⟨(numL_iff _).2 ⟨Y, hY, hE.1⟩, (numL_iff _).2 ⟨P, hP, hE.2⟩⟩
      · intro g wE hS
        have hbx : RdB wE R (valL w1 : Nat) (valL w2 : Nat) V b := by
          have := hS.box
          rw [if_pos (by decide), if_pos (by decide)] at this
          exact this
        have n1 := numL_val (hS.n1 (by decide)); have n2 := numL_val (hS.n2 (by decide))
        have HBX := Lib.hid hbx; have HGR := Lib.hid hS.grown
        have HNN := Lib.hid (show OkN (valL w1 : Nat) ∧ OkN (valL w2 : Nat) ∧ [w1, w2] = [Lib.itoa (valL w1 : Nat), Lib.itoa (valL w2 : Nat)] from ⟨⟨by omega, by omega⟩, ⟨by omega, by omega⟩, by rw [itoa_nat (by omega), itoa_nat (by omega), Int.toNat_natCast, Int.toNat_natCast, n1.2, n2.2]⟩)
        clear hS hbx n1 n2
        simp [putAll, Act.put, frCv]
        go_wp2_with fail
        refine ⟨rfl, .tuple #[], by simp [results, Tryz.results123, go_sem], HGR.out, .inl ⟨_, _, ⟨rfl, HNN.out.1, HNN.out.2.1, HNN.out.2.2⟩, rfl, HBX.out⟩⟩
    · have hni : ¬ (n : Int) = 2 := by omega
      go_enter Tryz.func123, Tryz.ntmps123
      go_wp2_with fail
      refine (giveUp_any _).mono ?_
      rintro e w5 ⟨rfl, rfl⟩
      refine ⟨rfl, GR.out, .inr ⟨fun Y P h => h2 ?_, rfl⟩⟩
      rw [← HN.out, h.2.2.2]
      rfl
  · go_enter Tryz.func123, Tryz.ntmps123
    go_wp2_with fail
    refine (giveUp_any _).mono ?_
    rintro e w5 ⟨rfl, rfl⟩
    exact ⟨rfl, GR.out, .inr ⟨fun Y P h => hy h.1, rfl⟩⟩
end Go.Proofs.YtdlaphlpimlgdaaGreatDoor
