/- A line of a log, as the program reads it. -/
import Derived.Test.YtccekbdhffccdaaDoorGA
import Derived.Test.YtccekbdhffccdaaDoorLB
import Derived.Test.YtccekbdhffccdaaDoorZF
import Derived.Lib.BufferWrite
import Derived.Lib.BufferOwn
namespace Go.Proofs.YtccekbdhffccdaaDoor
open Go.RowKit

def strs (l : List (List UInt8)) : List Value := l.map fun p => .string ⟨p.toArray⟩
theorem splitB_pieces (s : ByteArray) (c : UInt8) : ((Lib.splitB ⟨#[c]⟩ 0 (Lib.countB s ⟨#[c]⟩) s).map Value.string) = strs (pieces c s.data.toList) := by
  have h := Lib.splitB_data ⟨#[c]⟩ 0 (Lib.countB s ⟨#[c]⟩) s
  have h2 : Lib.splitK [c] 0 (Lib.countB s ⟨#[c]⟩) s.data.toList = pieces c s.data.toList := split_pieces c s.data.toList
  rw [show (ByteArray.mk #[c]).data.toList = [c] from rfl, h2] at h
  rw [← h, strs, List.map_map]
  rfl
theorem countB_pieces (s : ByteArray) (c : UInt8) : Lib.countB s ⟨#[c]⟩ + 1 = (pieces c s.data.toList).length := by
  have h := congrArg List.length (splitB_pieces s c)
  have h2 := Lib.splitB_all ⟨#[c]⟩ (by show 1 ≤ 1; decide) 0 (Lib.countB s ⟨#[c]⟩) s rfl
  rw [List.length_map, h2] at h
  rw [h, strs, List.length_map]
theorem split_any (s : ByteArray) (c : UInt8) (m : Int) (w : World) (hs : s.size ≤ 6000) (hm : w.cell? ⟨1, 0, none⟩ = some (.int .i64 m)) :
    Calls Tryd.prog 104 #[.string s, .string ⟨#[c]⟩] w fun e w' => e = .returned (.slice (some ⟨w.heap.size, 0, none⟩) (pieces c s.data.toList).length (pieces c s.data.toList).length) ∧ w' = w.alloc (.cells (strs (pieces c s.data.toList)).toArray 9) := by
  have h := Tryd.strings_Split s ⟨#[c]⟩ m w (by omega) hm (by show 1 ≤ 1; decide)
  rw [splitB_pieces, countB_pieces] at h
  exact h
theorem cut_any (s : ByteArray) (m : Int) (w : World) (hs : s.size ≤ 6000) (hm : w.cell? ⟨1, 0, none⟩ = some (.int .i64 m)) :
    Calls Tryd.prog 103 #[.string s, .string ⟨#[10]⟩] w fun e w' => ∃ (f r : List UInt8) (b : Bool), e = .returned (.tuple #[.string ⟨f.toArray⟩, .string ⟨r.toArray⟩, .bool b]) ∧
      ((b = true ∧ s.data.toList = f ++ 10 :: r ∧ (10 : UInt8) ∉ f) ∨ (b = false ∧ f = s.data.toList ∧ (10 : UInt8) ∉ s.data.toList)) ∧ f.length ≤ s.size ∧ ∃ n, w' = w.drewN n := by
  refine (Tryd.strings_Cut s ⟨#[10]⟩ m w (by omega) hm).mono ?_
  rintro e w' ⟨rfl, n, rfl⟩
  have hsz : s.size = s.data.toList.length := Array.length_toList.symm
  rw [show (ByteArray.mk #[10]).data.toList = [10] from rfl]
  by_cases hc : (10 : UInt8) ∈ s.data.toList
  · obtain ⟨f, r, he, hf⟩ := first_cut hc
    rw [he, cut_hit r hf]
    refine ⟨f, r, true, rfl, .inl ⟨rfl, rfl, hf⟩, ?_, n, rfl⟩
    rw [hsz, he, List.length_append]
    omega
  · rw [cut_miss hc]
    exact ⟨_, _, false, rfl, .inr ⟨rfl, rfl, hc⟩, by show s.data.toList.length ≤ _; omega, n, rfl⟩
def RdB (w : World) (R : Nat) (t rest : ByteArray) (cnt : Int) (V : Value) (lo hi : Int) : Prop := w.heap[R]? = some (.cells #[.string t, .string rest, .int .i64 cnt, V, .int .i64 lo, .int .i64 hi] 125 (0, 0))
def nmCv (S : Nat) (N : Nat) (w1 w2 w3 : List UInt8) (k c : Nat) : Tmp → Value
  | 4 => .pointer (some ⟨N, 0, none⟩)
  | 8 => .slice (some ⟨S, 0, none⟩) k c
  | 39 => .slice (some ⟨S, 0, none⟩) k c
  | 40 => .pointer (some ⟨S, 1, none⟩)
  | 41 => .string ⟨w1.toArray⟩
  | 42 => .int .i64 (valL w1 : Nat)
  | 43 => .slice (some ⟨S, 0, none⟩) k c
  | 44 => .pointer (some ⟨S, 2, none⟩)
  | 45 => .string ⟨w2.toArray⟩
  | 46 => .int .i64 (valL w2 : Nat)
  | 47 => .slice (some ⟨S, 0, none⟩) k c
  | 48 => .pointer (some ⟨S, 3, none⟩)
  | 49 => .string ⟨w3.toArray⟩
  | 50 => .int .i64 (valL w3 : Nat)
  | 51 => .agg #[.int .i64 (valL w1 : Nat), .int .i64 (valL w2 : Nat), .int .i64 (valL w3 : Nat)]
  | _ => undef
/-- Memory while the three numbers are read. -/
structure NmS (wD : World) (N : Nat) (w1 w2 w3 : List UInt8) (done : Nat → Bool) (w' : World) : Prop where
  grown : wD.grownBy w' (some N)
  n1 : done 3 = true → NumL w1
  n2 : done 7 = true → NumL w2
  n3 : done 11 = true → NumL w3
  box : w'.heap[N]? = some (.cells (if done 13 then #[.int .i64 (valL w1 : Nat), .int .i64 (valL w2 : Nat), .int .i64 (valL w3 : Nat)] else #[.int .i64 0, .int .i64 0, .int .i64 0]) 140 (0, 0))
theorem NmS.quiet {wD : World} {N : Nat} {w1 w2 w3 : List UInt8} {done : Nat → Bool} {w' : World} (h : NmS wD N w1 w2 w3 done w') {i : Nat} (h3 : i ≠ 3) (h7 : i ≠ 7) (h11 : i ≠ 11) (h13 : i ≠ 13) : NmS wD N w1 w2 w3 (updB done i) w' :=
  ⟨h.grown, fun e => h.n1 (by simpa [updB, Ne.symm h3] using e), fun e => h.n2 (by simpa [updB, Ne.symm h7] using e), fun e => h.n3 (by simpa [updB, Ne.symm h11] using e), by
    have : updB done i 13 = done 13 := by simp [updB, Ne.symm h13]
    rw [this]
    exact h.box⟩
theorem NmS.below {wD : World} {N : Nat} {w1 w2 w3 : List UInt8} {done : Nat → Bool} {w' w2' : World} (h : NmS wD N w1 w2 w3 done w') (hb : Below w'.heap.size w' w2') : NmS wD N w1 w2 w3 done w2' :=
  ⟨Lib.grownBy_below h.grown hb, h.n1, h.n2, h.n3, (hb.block _ (Array.getElem?_eq_some_iff.1 h.box).1).trans h.box⟩
theorem NmS.call {wD : World} {N : Nat} {w1 w2 w3 : List UInt8} {done : Nat → Bool} {w' : World} (h : NmS wD N w1 w2 w3 done w') {i : Nat} (h13 : i ≠ 13) (h3 : i = 3 → NumL w1) (h7 : i = 7 → NumL w2) (h11 : i = 11 → NumL w3) : NmS wD N w1 w2 w3 (updB done i) w' :=
  ⟨h.grown, fun e => by
    by_cases hi : 3 = i
    · exact h3 hi.symm
    · exact h.n1 (by simpa [updB, hi] using e), fun e => by
    by_cases hi : 7 = i
    · exact h7 hi.symm
    · exact h.n2 (by simpa [updB, hi] using e), fun e => by
    by_cases hi : 11 = i
    · exact h11 hi.symm
    · exact h.n3 (by simpa [updB, hi] using e), by
    have : updB done i 13 = done 13 := by simp [updB, Ne.symm h13]
    rw [this]
    exact h.box⟩
abbrev AskN (wD : World) (N : Nat) (w1 w2 w3 : List UInt8) (ops : Array Oper) (cv : Tmp → Value) (done : Nat → Bool) (w : World) (i : Nat) (o : Oper) : Prop :=
  Region.wanted o (yieldedBy ops cv) = true ∧ YieldX Tryd.prog (fun v w' => ∃ _g : Unit, NmS wD N w1 w2 w3 (updB done i) w' ∧ (∀ d, o.dst = some d → cv d = v) ∧ ∀ t, o.dst ≠ some t → cv t = cv t) (fun c w' => c = [noLog] ∧ wD.grownBy w' (some N) ∧ ¬ (NumL w1 ∧ NumL w2 ∧ NumL w3)) ((execOp (evalBy cv) o).run Tryd.prog w)
theorem quietN {wD : World} {N : Nat} {w1 w2 w3 : List UInt8} {ops : Array Oper} {cv : Tmp → Value} {done : Nat → Bool} {w : World} {i : Nat} {o : Oper} (h : NmS wD N w1 w2 w3 done w) (d : Tmp) (hd : o.dst = some d) (h3 : i ≠ 3) (h7 : i ≠ 7) (h11 : i ≠ 11) (h13 : i ≠ 13) (hg : Region.wanted o (yieldedBy ops cv) = true)
    (he : (execOp (evalBy cv) o).run Tryd.prog w = .ok (.value (cv d)) w) : AskN wD N w1 w2 w3 ops cv done w i o := by
  refine ⟨hg, ?_⟩
  rw [he]
  exact ⟨(), h.quiet h3 h7 h11 h13, fun e hE => by rw [hd] at hE; injection hE with hE; subst hE; rfl, fun _ _ => rfl⟩
theorem callN {wD : World} {N : Nat} {w1 w2 w3 : List UInt8} {ops : Array Oper} {cv : Tmp → Value} {done : Nat → Bool} {w : World} {i : Nat} {o : Oper} (h : NmS wD N w1 w2 w3 done w) (d : Tmp) (hd : o.dst = some d) (h13 : i ≠ 13) (x : List UInt8) (h3 : i = 3 → x = w1) (h7 : i = 7 → x = w2) (h11 : i = 11 → x = w3) (hx : x = w1 ∨ x = w2 ∨ x = w3) (hg : Region.wanted o (yieldedBy ops cv) = true)
    (he : (execOp (evalBy cv) o).run Tryd.prog w = .ok (.enter 105 #[.string ⟨x.toArray⟩]) w) (hv : cv d = .int .i64 (valL x : Nat)) : AskN wD N w1 w2 w3 ops cv done w i o := by
  refine ⟨hg, ?_⟩
  rw [he]
  show Calls Tryd.prog 105 _ w _
  refine (number_any ⟨x.toArray⟩ w).mono ?_
  rintro e w' ⟨hh, hb⟩
  rcases hh with ⟨hn, rfl⟩ | ⟨hn, rfl⟩
  · exact .inl ⟨_, rfl, (), (h.below hb).call h13 (fun e => h3 e ▸ hn) (fun e => h7 e ▸ hn) (fun e => h11 e ▸ hn), fun e hE => by rw [hd] at hE; injection hE with hE; subst hE; exact hv, fun _ _ => rfl⟩
  · refine .inr ⟨_, rfl, rfl, (h.below hb).grown, fun hh => hn ?_⟩
    rcases hx with rfl | rfl | rfl
    · exact hh.1
    · exact hh.2.1
    · exact hh.2.2
theorem storeN {wD : World} {N : Nat} {w1 w2 w3 : List UInt8} {ops : Array Oper} {cv : Tmp → Value} {done : Nat → Bool} {w : World} {o : Oper} (h : NmS wD N w1 w2 w3 done w) (hd : o.dst = none) (hu : done 13 = false) (hg : Region.wanted o (yieldedBy ops cv) = true)
    (he : (∀ a, w.frozen? ⟨N, a, none⟩ = false) → w.cell? ⟨N, 0, none⟩ = some (.int .i64 0) → w.cell? ⟨N, 1, none⟩ = some (.int .i64 0) → w.cell? ⟨N, 2, none⟩ = some (.int .i64 0) →
      (execOp (evalBy cv) o).run Tryd.prog w = .ok .skip (((w.setCell ⟨N, 0, none⟩ (.int .i64 (valL w1 : Nat))).setCell ⟨N, 1, none⟩ (.int .i64 (valL w2 : Nat))).setCell ⟨N, 2, none⟩ (.int .i64 (valL w3 : Nat)))) : AskN wD N w1 w2 w3 ops cv done w 13 o := by
  refine ⟨hg, ?_⟩
  have hb := h.box
  rw [hu] at hb
  have c0 := cell_of_row w N 0 _ 140 (0, 0) hb
  have c1 := cell_of_row w N 1 _ 140 (0, 0) hb
  have c2 := cell_of_row w N 2 _ 140 (0, 0) hb
  simp at c0 c1 c2
  have hf : ∀ a, w.frozen? ⟨N, a, none⟩ = false := fun a => by simp [World.frozen?, hb]
  rw [he hf c0 c1 c2]
  refine ⟨(), ⟨Lib.grownBy_setB (Lib.grownBy_setB (Lib.grownBy_setB h.grown 0 _) 1 _) 2 _, fun e => h.n1 (by simpa [updB] using e), fun e => h.n2 (by simpa [updB] using e), fun e => h.n3 (by simpa [updB] using e), ?_⟩, fun e hE => by rw [hd] at hE; exact absurd hE (by simp), fun _ _ => rfl⟩
  simp [World.setCell, Array.getElem?_modify, hb, updB]
theorem grown_fin {w wX w' : World} {R N : Nat} (h1 : wX.os = w.os) (h2 : wX.tape = w.tape) (h3 : wX.output = w.output) (h4 : w.heap.size ≤ wX.heap.size) (h5 : ∀ j, j < w.heap.size → j ≠ R → wX.heap[j]? = w.heap[j]?) (hN : w.heap.size ≤ N) (hg : wX.grownBy w' (some N)) : w.grownBy w' (some R) :=
  ⟨hg.os.trans h1, hg.tape.trans h2, hg.output.trans h3, Nat.le_trans h4 hg.size, fun j hj hne => (hg.block j (by omega) (fun e => by cases e; omega)).trans (h5 j hj (fun e => hne (by rw [e])))⟩
set_option maxRecDepth 100000 in
set_option maxHeartbeats 4000000 in
theorem numbers_any {R : Nat} {word : List UInt8} (hw : WordL word) (t rest : ByteArray) (cnt lo hi : Int) (V : Value) (m : Int) (w : World) (hR : RdB w R t rest cnt V lo hi) (hs : rest.size ≤ 6000) (hm : w.cell? ⟨1, 0, none⟩ = some (.int .i64 m)) (h1 : 1 < R) :
    Calls Tryd.prog 97 #[.pointer (some ⟨R, 0, none⟩), .string ⟨word.toArray⟩] w fun e w' => w.grownBy w' (some R) ∧
      ((∃ a b c r, Line3 word rest.data.toList a b c r ∧ e = .returned (.agg #[.int .i64 a, .int .i64 b, .int .i64 c]) ∧ RdB w' R t ⟨r.toArray⟩ cnt V lo hi) ∨ (NoLine word rest.data.toList ∧ e = .panicked [noLog])) := by
  have ltR := (Array.getElem?_eq_some_iff.1 hR).1
  have HR := Lib.hid hR; have HM := Lib.hid hm; have HW := Lib.hid hw; have HS := Lib.hid hs
  clear hR hm hw hs
  have hbA : Below w.heap.size w (w.alloc (.cells #[.int .i64 0, .int .i64 0, .int .i64 0] 140)) := (Below.refl _ _).alloc (Nat.le_refl _) _
  have nA := heap_alloc_new w (.cells #[.int .i64 0, .int .i64 0, .int .i64 0] 140)
  have rA : RdB (w.alloc (.cells #[.int .i64 0, .int .i64 0, .int .i64 0] 140)) R t rest cnt V lo hi := (hbA.block _ ltR).trans HR.out
  have c1 := cell_of_row _ R 1 _ 125 (0, 0) rA
  have mA : (w.alloc (.cells #[.int .i64 0, .int .i64 0, .int .i64 0] 140)).cell? ⟨1, 0, none⟩ = some (.int .i64 m) := ((bcell hbA).1 _ _ (by show (1 : Nat) < _; omega)).trans HM.out
  simp at c1
  have HBA := Lib.hid hbA; have NA := Lib.hid nA; have RA := Lib.hid rA; have MA := Lib.hid mA
  clear hbA nA rA mA
  go_enter Tryd.func97, Tryd.ntmps97
  go_wp2_with fail
  refine (cut_any rest m _ HS.out MA.out).mono ?_
  rintro e wB ⟨f, r, b, rfl, hcut, hfl, n, hwB⟩
  have hsB : wB.heap = (w.alloc (.cells #[.int .i64 0, .int .i64 0, .int .i64 0] 140)).heap := by rw [hwB]; rfl
  have hbB : Below w.heap.size w wB := by rw [hwB]; exact ⟨HBA.out.os, HBA.out.tape, HBA.out.output, HBA.out.size, HBA.out.block⟩
  have HBB := Lib.hid hbB
  have NB := Lib.hid ((congrArg (·[w.heap.size]?) hsB).trans NA.out)
  have RB := Lib.hid (show RdB wB R t rest cnt V lo hi by unfold RdB; rw [hsB]; exact RA.out)
  have MB := Lib.hid (((bcell hbB).1 1 _ (by omega)).trans HM.out)
  have SB := Lib.hid (show wB.heap.size = w.heap.size + 1 by rw [hsB]; simp)
  have HF := Lib.hid (show f.length ≤ 6000 by have := HS.out; omega)
  clear hwB hsB hbB c1 HBA NA RA MA hfl
  go_wp2_with fail
  refine (split_any ⟨f.toArray⟩ 32 m wB HF.out MB.out).mono ?_
  rintro e wC ⟨rfl, hwC⟩
  rw [show (ByteArray.mk f.toArray).data.toList = f from rfl] at hwC ⊢
  obtain ⟨ps, hps⟩ : ∃ z, pieces 32 f = z := ⟨_, rfl⟩
  rw [hps] at hwC ⊢
  have HPS := Lib.hid hps
  clear hps
  have hbC : Below wB.heap.size wB wC := by rw [hwC]; exact (Below.refl _ _).alloc (Nat.le_refl _) _
  have sC : wC.heap[wB.heap.size]? = some (.cells (strs ps).toArray 9 (0, 0)) := by rw [hwC]; exact heap_alloc_new wB _
  have hss := SB.out
  have NC := Lib.hid ((hbC.block _ (by omega)).trans NB.out)
  have RC := Lib.hid (show RdB wC R t rest cnt V lo hi from (hbC.block _ (by omega)).trans RB.out)
  have HBC := Lib.hid (HBB.out.trans (hbC.mono HBB.out.size))
  have SC := Lib.hid sC
  have ZC := Lib.hid (show wC.heap.size = w.heap.size + 2 by rw [hwC]; simp; omega)
  clear hwC hbC sC hss RB NB MB HBB
  rw [SB.out] at SC ⊢
  by_cases hb : b = true
  · rcases hcut with ⟨_, hcut, hf10⟩ | ⟨h, _⟩
    rotate_left
    · rw [hb] at h; exact absurd h (by decide)
    subst hb
    have HCUT := Lib.hid hcut; have HF10 := Lib.hid hf10
    clear hcut hf10
    by_cases hl : ps.length = 4
    · match ps, hl with
      | [w0, w1, w2, w3], _ =>
        have b0 := cell_of_row wC (w.heap.size + 1) 0 _ 9 (0, 0) SC.out
        simp [strs] at b0
        have r0 := cell_of_row wC R 1 _ 125 (0, 0) RC.out
        simp at r0
        have z0 : wC.frozen? ⟨R, 1, none⟩ = false := by simp [World.frozen?, show wC.heap[R]? = _ from RC.out]
        have GF := Lib.hid (show w.grownBy wC (some R) from ⟨HBC.out.os, HBC.out.tape, HBC.out.output, HBC.out.size, fun j hj _ => HBC.out.block j hj⟩)
        by_cases h0 : w0 = word
        · subst h0
          go_wp2_with fail
          clear b0 r0 z0
          have hsR : w.heap.size + 1 ≠ R := by omega
          have hnR : w.heap.size ≠ R := by omega
          have sD : (wC.setCell ⟨R, 1, none⟩ (.string ⟨r.toArray⟩)).heap[w.heap.size + 1]? = _ := (Below.heap_setCell _ _ _ _ hsR).trans SC.out
          have nD : (wC.setCell ⟨R, 1, none⟩ (.string ⟨r.toArray⟩)).heap[w.heap.size]? = _ := (Below.heap_setCell _ _ _ _ hnR).trans NC.out
          have rD : RdB (wC.setCell ⟨R, 1, none⟩ (.string ⟨r.toArray⟩)) R t ⟨r.toArray⟩ cnt V lo hi := by
            have := RC.out
            unfold RdB at this ⊢
            simp [World.setCell, Array.getElem?_modify, this]
          have gD := Lib.hid (show w.grownBy (wC.setCell ⟨R, 1, none⟩ (.string ⟨r.toArray⟩)) (some R) from Lib.grownBy_trans GF.out (Lib.grownBy_setCell wC R 1 _))
          have zD : (wC.setCell ⟨R, 1, none⟩ (.string ⟨r.toArray⟩)).heap.size = w.heap.size + 2 := by rw [← ZC.out]; simp [World.setCell]
          generalize wC.setCell ⟨R, 1, none⟩ (.string ⟨r.toArray⟩) = wD at sD nD rD gD zD ⊢
          have SD := Lib.hid sD; have ND := Lib.hid nD; have RD := Lib.hid rD; have ZD := Lib.hid zD
          clear sD nD rD GF SC NC RC HBC ZC
          have hNS : some w.heap.size ≠ some (w.heap.size + 1) := fun e => by injection e; omega
          have hltS : w.heap.size + 1 < wD.heap.size := by rw [ZD.out]; omega
          have b1 := cell_of_row wD (w.heap.size + 1) 1 _ 9 (0, 0) SD.out
          have b2 := cell_of_row wD (w.heap.size + 1) 2 _ 9 (0, 0) SD.out
          have b3 := cell_of_row wD (w.heap.size + 1) 3 _ 9 (0, 0) SD.out
          simp [strs] at b1 b2 b3
          refine plan_panic (γ := Unit) [4, 8] (fun _ => nmCv (w.heap.size + 1) w.heap.size w1 w2 w3 4 4) (fun done _ w' => NmS wD w.heap.size w1 w2 w3 done w')
            (fun c w' => c = [noLog] ∧ wD.grownBy w' (some w.heap.size) ∧ ¬ (NumL w1 ∧ NumL w2 ∧ NumL w3)) () (by kernel_rfl) (by kernel_rfl) (by kernel_rfl) (by kernel_rfl) (by kernel_rfl) ?_ ?_ ?_ ?_ ?_
          · intro t ht
            simp only [List.mem_cons, List.not_mem_nil, or_false] at ht
            rcases ht with rfl | rfl <;> rfl
          · exact ⟨⟨rfl, rfl, rfl, Nat.le_refl _, fun _ _ _ => rfl⟩, fun h => by simp at h, fun h => by simp at h, fun h => by simp at h, ND.out⟩
          · refine allOps_array ?_
            refine ⟨?_, ?_, ?_, ?_, ?_, ?_, ?_, ?_, ?_, ?_, ?_, ?_, ?_, ?_, trivial⟩
            · intro done g w' hS hu hdep _
              refine quietN hS 39 rfl (by decide) (by decide) (by decide) (by decide) rfl ?_
              simp [go_sem, evalBy, nmCv]
            · intro done g w' hS hu hdep _
              refine quietN hS 40 rfl (by decide) (by decide) (by decide) (by decide) rfl ?_
              simp [go_sem, evalBy, nmCv]
            · intro done g w' hS hu hdep _
              have h1 := (hS.grown.cell_far ⟨w.heap.size + 1, 1, none⟩ hltS (fun e => hNS e.symm)).trans b1
              refine quietN hS 41 rfl (by decide) (by decide) (by decide) (by decide) rfl ?_
              simp [go_sem, evalBy, nmCv, h1]
            · intro done g w' hS hu hdep _
              refine callN hS 42 rfl (show (3 : Nat) ≠ 13 by decide) w1 (fun _ => rfl) (fun e => absurd (e : (3 : Nat) = 7) (by decide)) (fun e => absurd (e : (3 : Nat) = 11) (by decide)) (.inl rfl) rfl ?_ rfl
              simp [go_sem, evalBy, nmCv]
            · intro done g w' hS hu hdep _
              refine quietN hS 43 rfl (by decide) (by decide) (by decide) (by decide) rfl ?_
              simp [go_sem, evalBy, nmCv]
            · intro done g w' hS hu hdep _
              refine quietN hS 44 rfl (by decide) (by decide) (by decide) (by decide) rfl ?_
              simp [go_sem, evalBy, nmCv]
            · intro done g w' hS hu hdep _
              have h1 := (hS.grown.cell_far ⟨w.heap.size + 1, 2, none⟩ hltS (fun e => hNS e.symm)).trans b2
              refine quietN hS 45 rfl (by decide) (by decide) (by decide) (by decide) rfl ?_
              simp [go_sem, evalBy, nmCv, h1]
            · intro done g w' hS hu hdep _
              refine callN hS 46 rfl (show (7 : Nat) ≠ 13 by decide) w2 (fun e => absurd (e : (7 : Nat) = 3) (by decide)) (fun _ => rfl) (fun e => absurd (e : (7 : Nat) = 11) (by decide)) (.inr (.inl rfl)) rfl ?_ rfl
              simp [go_sem, evalBy, nmCv]
            · intro done g w' hS hu hdep _
              refine quietN hS 47 rfl (by decide) (by decide) (by decide) (by decide) rfl ?_
              simp [go_sem, evalBy, nmCv]
            · intro done g w' hS hu hdep _
              refine quietN hS 48 rfl (by decide) (by decide) (by decide) (by decide) rfl ?_
              simp [go_sem, evalBy, nmCv]
            · intro done g w' hS hu hdep _
              have h1 := (hS.grown.cell_far ⟨w.heap.size + 1, 3, none⟩ hltS (fun e => hNS e.symm)).trans b3
              refine quietN hS 49 rfl (by decide) (by decide) (by decide) (by decide) rfl ?_
              simp [go_sem, evalBy, nmCv, h1]
            · intro done g w' hS hu hdep _
              refine callN hS 50 rfl (show (11 : Nat) ≠ 13 by decide) w3 (fun e => absurd (e : (11 : Nat) = 3) (by decide)) (fun e => absurd (e : (11 : Nat) = 7) (by decide)) (fun _ => rfl) (.inr (.inr rfl)) rfl ?_ rfl
              simp [go_sem, evalBy, nmCv]
            · intro done g w' hS hu hdep _
              refine quietN hS 51 rfl (by decide) (by decide) (by decide) (by decide) rfl ?_
              simp [go_sem, evalBy, nmCv]
            · intro done g w' hS hu hdep _
              refine storeN hS rfl hu rfl ?_
              intro hf c0 c1 c2
              have f0 := hf 0; have f1 := hf 1; have f2 := hf 2
              clear hf
              simp [go_sem, evalBy, nmCv, f0, f1, f2, c0, c1, c2]
          · rintro a w' c ⟨rfl, hg, hn⟩ hdf
            refine ⟨hdf, grown_fin gD.out.os gD.out.tape gD.out.output gD.out.size (fun j hj hne => gD.out.block j hj (fun e => hne (by injection e))) (Nat.le_refl _) hg, .inr ⟨fun a b c r' h => hn ?_, rfl⟩⟩
            rw [HCUT.out] at h
            obtain ⟨_, ha, hb, hc, hp⟩ := (line3_iff HW.out HF10.out).1 h
            rw [HPS.out] at hp
            simp only [List.cons.injEq, and_true, true_and] at hp
            exact ⟨(numL_iff _).2 ⟨a, ha, hp.1⟩, (numL_iff _).2 ⟨b, hb, hp.2.1⟩, (numL_iff _).2 ⟨c, hc, hp.2.2⟩⟩
          · intro g wE hS
            have hbx := hS.box
            rw [if_pos (by decide)] at hbx
            have n1 := numL_val (hS.n1 (by decide)); have n2 := numL_val (hS.n2 (by decide)); have n3 := numL_val (hS.n3 (by decide))
            have i1 : Lib.itoa (valL w1 : Nat) = w1 := by rw [itoa_nat (by omega)]; exact n1.2
            have i2 : Lib.itoa (valL w2 : Nat) = w2 := by rw [itoa_nat (by omega)]; exact n2.2
            have i3 : Lib.itoa (valL w3 : Nat) = w3 := by rw [itoa_nat (by omega)]; exact n3.2
            have hfin := grown_fin gD.out.os gD.out.tape gD.out.output gD.out.size (fun j hj hne => gD.out.block j hj (fun e => hne (by injection e))) (Nat.le_refl _) hS.grown
            have hrd : RdB wE R t ⟨r.toArray⟩ cnt V lo hi := (hS.grown.block R (by rw [ZD.out]; omega) (fun e => by injection e; omega)).trans RD.out
            have hline : Line3 w0 rest.data.toList (valL w1 : Nat) (valL w2 : Nat) (valL w3 : Nat) r := by
              rw [HCUT.out]
              refine (line3_iff HW.out HF10.out).2 ⟨rfl, ⟨by omega, by omega⟩, ⟨by omega, by omega⟩, ⟨by omega, by omega⟩, ?_⟩
              rw [HPS.out, i1, i2, i3]
            have FIN := Lib.hid hfin; have RDF := Lib.hid hrd; have LINE := Lib.hid hline
            have q0 := cell_of_row wE w.heap.size 0 _ 140 (0, 0) hbx
            have q1 := cell_of_row wE w.heap.size 1 _ 140 (0, 0) hbx
            have q2 := cell_of_row wE w.heap.size 2 _ 140 (0, 0) hbx
            simp at q0 q1 q2
            clear hS hbx n1 n2 n3 i1 i2 i3 hfin hrd hline
            simp [putAll, Act.put, nmCv]
            go_wp2_with fail
            refine bodyPost_ret (v := .agg #[.int .i64 (valL w1 : Nat), .int .i64 (valL w2 : Nat), .int .i64 (valL w3 : Nat)]) (by simp [results, Tryd.results97, go_sem, q0, q1, q2]) rfl ?_
            exact ⟨FIN.out, .inl ⟨_, _, _, r, LINE.out, rfl, RDF.out⟩⟩
        · have hbeq : (w0 == word) = false := by simpa using h0
          go_wp2_with fail
          refine (giveUp_any _).mono ?_
          rintro e w5 ⟨rfl, rfl⟩
          refine ⟨rfl, GF.out, .inr ⟨fun a b c r' h => ?_, rfl⟩⟩
          rw [HCUT.out] at h
          obtain ⟨_, _, _, _, hp⟩ := (line3_iff HW.out HF10.out).1 h
          rw [HPS.out] at hp
          simp only [List.cons.injEq] at hp
          exact h0 hp.1
    · have GF := Lib.hid (show w.grownBy wC (some R) from ⟨HBC.out.os, HBC.out.tape, HBC.out.output, HBC.out.size, fun j hj _ => HBC.out.block j hj⟩)
      go_wp2_with fail
      refine (giveUp_any _).mono ?_
      rintro e w5 ⟨rfl, rfl⟩
      refine ⟨rfl, GF.out, .inr ⟨fun a b c r' h => ?_, rfl⟩⟩
      rw [HCUT.out] at h
      obtain ⟨_, _, _, _, hp⟩ := (line3_iff HW.out HF10.out).1 h
      rw [HPS.out] at hp
      rw [hp] at hl
      exact hl rfl
  · rcases hcut with ⟨h, _⟩ | ⟨_, _, hcut⟩
    · exact absurd h hb
    have GF := Lib.hid (show w.grownBy wC (some R) from ⟨HBC.out.os, HBC.out.tape, HBC.out.output, HBC.out.size, fun j hj _ => HBC.out.block j hj⟩)
    have hb' : b = false := by simpa using hb
    subst hb'
    have HC := Lib.hid hcut
    clear hcut hb
    go_wp2_with fail
    refine (giveUp_any _).mono ?_
    rintro e w5 ⟨rfl, rfl⟩
    exact ⟨rfl, GF.out, .inr ⟨noLine_cut HC.out, rfl⟩⟩
end Go.Proofs.YtccekbdhffccdaaDoor
