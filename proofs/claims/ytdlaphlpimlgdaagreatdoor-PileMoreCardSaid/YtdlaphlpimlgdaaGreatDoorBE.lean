/- A value again and again. -/
import Derived.Laws.CopyOwn
import Derived.Deep.RegionLaw
import Derived.Test.YtdlaphlpimlgdaaGreatDoorShelf
import Derived.Test.YtdlaphlpimlgdaaGreatDoorBB
import Derived.Lib.AppendIntMem
import Derived.Sort.OwnSortedInts
namespace Go.Proofs.YtdlaphlpimlgdaaGreatDoor
open Go.RowKit Go.Shelf

def rowV (V : Int) (k m : Nat) : List Value := List.replicate k (.int .i64 V) ++ List.replicate (m - k) (.int .i64 0)
theorem rowV_len {V : Int} {k m : Nat} (h : k ≤ m) : (rowV V k m).length = m := by simp [rowV]; omega
theorem rowV_splice {V : Int} {k m c : Nat} (_h : k + c ≤ m) : splice (rowV V k m) k (List.replicate c (.int .i64 V)) = rowV V (k + c) m := by
  unfold splice rowV
  rw [List.take_left' (by simp), List.length_replicate, ← List.append_assoc, List.replicate_append_replicate]
  congr 1
  rw [List.drop_append]
  simp
  omega
theorem int_size : (Tryz.prog.info? 3).map (·.size) = some 1 := by kernel_rfl
set_option maxRecDepth 100000 in
set_option maxHeartbeats 2000000 in
theorem repeat_any (V : Int) (bx cx m : Nat) (hm : 1 ≤ m) (hm2 : m ≤ 1000000) (w : World) (zx : w.cell? ⟨bx, 0, none⟩ = some (.int .i64 V)) (hbx : bx < w.heap.size) :
    Calls Tryz.prog 135 #[.slice (some ⟨bx, 0, none⟩) 1 cx, .int .i64 (m : Int)] w fun e w' => ∃ g, e = .returned (.slice (some ⟨g, 0, none⟩) m m) ∧ w'.heap[g]? = some (.cells (rowV V m m).toArray 3 (0, 0)) ∧ w.heap.size ≤ g ∧ Below w.heap.size w w' := by
  obtain ⟨i0, hi0, hz0, hz1, hz2⟩ := info_parts int_info
  have hmk := fun W : World => run_make (P := Tryz.prog) 34 3 i0 _ Tryz.underlying34 hi0 hz0 .i64 .i64 (m : Int) (m : Int) (by omega) (by omega) (by rw [hz2]; omega) (by omega) (w := W)
  simp only [Int.toNat_natCast, hz1, Nat.mul_one] at hmk
  have m0 : ¬ (m : Int) < 0 := by omega
  have HML : Hid (Calls Tryz.prog 152 #[.int .u64 1, .int .u64 (m : Int)] w fun e w' => e = .returned (.tuple #[.int .u64 0, .int .u64 (m : Int)]) ∧ w = w') := Lib.hid ((Tryz.bits_Mul 1 m (by decide) (by omega) w).mono (by
    rintro e w' ⟨rfl, rfl⟩
    refine ⟨?_, rfl⟩
    rw [Nat.one_mul, Nat.div_eq_of_lt (by omega), Nat.mod_eq_of_lt (by omega)]
    rfl))
  have hmade : madeCells #[Value.int .i64 0] m = (rowV V 0 m).toArray := by
    apply Array.ext_getElem?
    intro i
    unfold madeCells rowV
    by_cases h : i < m
    · simp [h, Nat.mod_one]
    · simp [h]
  have zW := heap_alloc_new w (.cells (rowV V 0 m).toArray 3)
  have hbW := (Below.refl w.heap.size w).alloc (Nat.le_refl _) (.cells (rowV V 0 m).toArray 3)
  have HZ := Lib.hid zW; have HB := Lib.hid hbW
  have HX := Lib.hid (((bcell hbW).1 _ 0 hbx).trans zx)
  have HMD := Lib.hid hmade
  rw [show (Value.int .i64 0).cells = #[Value.int .i64 0] from rfl, hmade] at hmk
  clear zW hbW hmade zx
  have m1 : ¬ (0 : Int) > 0 := by decide
  have m2 : ¬ (m : Int) > 9223372036854775807 := by omega
  go_enter Tryz.func135, Tryz.ntmps135
  go_wp2_with fail
  refine HML.out.mono ?_
  rintro e w' ⟨rfl, rfl⟩
  have hx := HX.out
  have hn1 : [Value.int .i64 V].length = Nat.min 1 m := by show 1 = min 1 m; omega
  have hfit : 0 + [Value.int .i64 V].length ≤ (rowV V 0 m).length := by rw [rowV_len (by omega)]; show 0 + 1 ≤ m; omega
  have hsrc : ∀ (j : Nat) (v : Value), [Value.int .i64 V][j]? = some v → (w.alloc (.cells (rowV V 0 m).toArray 3)).cell? ((⟨bx, 0, none⟩ : Addr).add j) = some v := fun j v hj => by
    cases j with
    | zero => simp at hj; subst hj; simpa [Addr.add] using HX.out
    | succ j => simp at hj
  have HN1 := Lib.hid hn1; have HFT := Lib.hid hfit; have HSR := Lib.hid hsrc
  clear hn1 hfit hsrc
  go_wp2_with (first
    | (refine wpList_copy_splice rfl (.tmp 31) (.tmp 32) 34 34 rfl 3 Tryz.underlying34 int_size _ _ _ _ _ _ rfl rfl w.heap.size 0 (rowV V 0 m) 3 HZ.out [.int .i64 V] HN1.out (fun _ => ⟨rfl, ⟨bx, 0, none⟩, rfl, HSR.out⟩) HFT.out (by simp [Value.oneCell']) w.heap.size w HB.out (Nat.le_refl _) ?_
       intro w4 hg4 hb4)
    | fail)
  rw [show splice (rowV V 0 m) 0 [Value.int .i64 V] = rowV V 1 m from rowV_splice (c := 1) (by omega)] at hg4
  have HB4 := Lib.hid hb4
  clear hb4 hx
  go_loopw [8] (fun i wr => ∃ k : Nat, 1 ≤ k ∧ k ≤ m ∧ i = .int .i64 k ∧ wr.heap[w.heap.size]? = some (.cells (rowV V k m).toArray 3 (0, 0)) ∧ Below w.heap.size w wr) (fun i _ => m - (intOf i).toNat)
  case atStart => exact ⟨1, Nat.le_refl _, hm, rfl, hg4.out, HB4.out⟩
  case round =>
    clear hg4 HB4
    obtain ⟨k, hk1, hk2, rfl, hz, hbr⟩ := hrel
    have HZR := Lib.hid hz; have HBR := Lib.hid hbr
    clear hz hbr
    by_cases hlt : k < m
    · have hlt1 : (k : Int) < (m : Int) := by omega
      have hmne : ¬ m = k := by omega
      have k0 : (0 : Int) ≤ (k : Int) := by omega
      have k2 : (k : Int) ≤ (m : Int) := by omega
      obtain ⟨c, hc⟩ : ∃ c, Nat.min k (m - k) = c := ⟨_, rfl⟩
      have hc1 : 1 ≤ c ∧ k + c ≤ m ∧ c ≤ k := by have : min k (m - k) = c := hc; omega
      have HN : Hid ((List.replicate c (Value.int .i64 V)).length = Nat.min k (m - k)) := Lib.hid (by rw [List.length_replicate, hc])
      have HFT : Hid (k + (List.replicate c (Value.int .i64 V)).length ≤ (rowV V k m).length) := Lib.hid (by rw [rowV_len (by omega), List.length_replicate]; omega)
      have HSR : Hid (∀ (j : Nat) (v : Value), (List.replicate c (Value.int .i64 V))[j]? = some v → wr.drew.cell? ((⟨w.heap.size, 0, none⟩ : Addr).add j) = some v) := Lib.hid fun j v hj => by
        have hjc : j < c := by have := (List.getElem?_eq_some_iff.1 hj).1; simpa using this
        rw [List.getElem?_replicate, if_pos hjc] at hj
        injection hj with hj
        subst hj
        have h1 := cell_of_row wr w.heap.size j _ 3 (0, 0) HZR.out
        have h2 : (rowV V k m).toArray[j]? = some (.int .i64 V) := by
          unfold rowV
          simp
          rw [List.getElem?_append_left (by simp; omega), List.getElem?_replicate, if_pos (by omega)]
        have e1 : (⟨w.heap.size, 0, none⟩ : Addr).add j = ⟨w.heap.size, j, none⟩ := by unfold Addr.add; split <;> simp_all
        rw [e1]
        exact h1.trans h2
      have HO1 : Hid (∀ v ∈ List.replicate c (Value.int .i64 V), v.oneCell' = true) := Lib.hid fun v hv => by rw [(List.mem_replicate.1 hv).2]; rfl
      have HZD : Hid (wr.drew.heap[w.heap.size]? = some (.cells (rowV V k m).toArray 3 (0, 0))) := Lib.hid HZR.out
      have HBD : Hid (Below w.heap.size w wr.drew) := Lib.hid HBR.out.drew
      go_wp2_with fail
      go_region_law (refine step_copy_splice rfl (.tmp 41) (.tmp 44) 34 34 rfl 3 Tryz.underlying34 int_size (some ⟨w.heap.size, k, none⟩) (some ⟨w.heap.size, 0, none⟩) (m - k) (m - k) k m (by simp [Act.eval, Act.put]) (by simp [Act.eval, Act.put]) w.heap.size k (rowV V k m) 3 HZD.out (List.replicate c (Value.int .i64 V)) HN.out (fun _ => ⟨rfl, ⟨w.heap.size, 0, none⟩, rfl, HSR.out⟩) HFT.out HO1.out w.heap.size w HBD.out (Nat.le_refl _) ?_; intro w4 hg4 hb4)
      rw [rowV_splice (by omega)] at hg4
      have HB4 := Lib.hid hb4
      have w1 : IntKind.i64.wrap ((k : Int) + (c : Int)) = (k : Int) + (c : Int) := by rw [IntKind.wrap_i64]; omega
      clear hb4
      simp [Act.put, w1]
      go_wp2_with fail
      exact ⟨⟨k + c, by omega, by omega, by go_num, hg4.out, HB4.out⟩, by simp [intOf]; omega⟩
    · have hke : k = m := by omega
      have hlt1 : ¬ (k : Int) < (m : Int) := by omega
      subst hke
      go_wp2_with fail
      exact bodyPost_ret (v := .slice (some ⟨w.heap.size, 0, none⟩) k k) (by simp [results, Tryz.results135, go_sem]) rfl ⟨_, rfl, HZR.out, Nat.le_refl _, HBR.out⟩
end Go.Proofs.YtdlaphlpimlgdaaGreatDoor
/- The groups of piles of the example: one. -/
namespace Go.Proofs.YtdlaphlpimlgdaaGreatDoor
open Go.RowKit Go.Shelf
attribute [local go_sem] Oper.semAt_some

/-- Memory while a box of one cell is made ('ai') and filled ('si'); g: where it lies. -/
structure NewO (w0 : World) (ai si : Nat) (T : TypeId) (o n : Value) (done : Nat → Bool) (g : Nat) (w' : World) : Prop where
  keep : Below w0.heap.size w0 w'
  ord : done si = true → done ai = true
  box : done ai = true → w0.heap.size ≤ g ∧ w'.heap[g]? = some (.cells (if done si then #[n] else #[o]) T (0, 0))
section
variable {w0 w : World} {ai si : Nat} {T : TypeId} {ov nv : Value} {done : Nat → Bool} {ops : Array Oper} {cv : Nat → Tmp → Value} {i g : Nat} {o : Oper}
abbrev AskO (w0 : World) (ai si : Nat) (T : TypeId) (ov nv : Value) (ops : Array Oper) (cv : Nat → Tmp → Value) (done : Nat → Bool) (g : Nat) (w : World) (i : Nat) (o : Oper) : Prop :=
  Region.wanted o (yieldedBy ops (cv g)) = true ∧ Yield Tryz.prog (fun v w' => ∃ g', NewO w0 ai si T ov nv (updB done i) g' w' ∧ (∀ d, o.dst = some d → cv g' d = v) ∧ ∀ t, o.dst ≠ some t → cv g' t = cv g t) ((execOp (evalBy (cv g)) o).run Tryz.prog w)
theorem NewO.step (h : NewO w0 ai si T ov nv done g w) {w' : World} (hb : Below w.heap.size w w') (hi : i ≠ si) (ha : i ≠ ai) : NewO w0 ai si T ov nv (updB done i) g w' :=
  ⟨h.keep.trans (hb.mono h.keep.size), by
    have e1 : updB done i si = done si := by simp [updB, Ne.symm hi]
    have e2 : updB done i ai = done ai := by simp [updB, Ne.symm ha]
    rw [e1, e2]
    exact h.ord, fun hd => by
    have e1 : updB done i si = done si := by simp [updB, Ne.symm hi]
    have e2 : updB done i ai = done ai := by simp [updB, Ne.symm ha]
    rw [e2] at hd
    rw [e1]
    exact ⟨(h.box hd).1, (hb.block _ (heapszO (h.box hd).2)).trans (h.box hd).2⟩⟩
theorem quietO1 (h : NewO w0 ai si T ov nv done g w) (d : Tmp) (hd : o.dst = some d) (hi : i ≠ si) (ha : i ≠ ai) (hg : Region.wanted o (yieldedBy ops (cv g)) = true)
    (he : (execOp (evalBy (cv g)) o).run Tryz.prog w = .ok (.value (cv g d)) w) : AskO w0 ai si T ov nv ops cv done g w i o := by
  refine ⟨hg, ?_⟩
  rw [he]
  exact ⟨g, h.step (Below.refl _ _) hi ha, fun e hE => by rw [hd] at hE; injection hE with hE; subst hE; rfl, fun _ _ => rfl⟩
theorem callO1 (h : NewO w0 ai si T ov nv done g w) (d : Tmp) (hd : o.dst = some d) (hi : i ≠ si) (ha : i ≠ ai) (hg : Region.wanted o (yieldedBy ops (cv g)) = true) (f : FuncId) (args : Array Value)
    (he : (execOp (evalBy (cv g)) o).run Tryz.prog w = .ok (.enter f args) w) (hc : Calls Tryz.prog f args w fun e w' => e = .returned (cv g d) ∧ Below w.heap.size w w') : AskO w0 ai si T ov nv ops cv done g w i o := by
  refine ⟨hg, ?_⟩
  rw [he]
  show Calls Tryz.prog f args w _
  refine hc.mono ?_
  rintro e w' ⟨rfl, hb⟩
  exact ⟨_, rfl, g, h.step hb hi ha, fun e hE => by rw [hd] at hE; injection hE with hE; subst hE; rfl, fun _ _ => rfl⟩
theorem allocO1 (h : NewO w0 ai si T ov nv done g w) (d : Tmp) (hd : o.dst = some d) (hu : done ai = false) (hne : ai ≠ si) (hg : Region.wanted o (yieldedBy ops (cv g)) = true)
    (hcd : ∀ g', cv g' d = .pointer (some ⟨g', 0, none⟩)) (hct : ∀ g' t, t ≠ d → cv g' t = cv g t)
    (he : (execOp (evalBy (cv g)) o).run Tryz.prog w = .ok (.value (.pointer (some ⟨w.heap.size, 0, none⟩))) (w.alloc (.cells #[ov] T))) : AskO w0 ai si T ov nv ops cv done g w ai o := by
  refine ⟨hg, ?_⟩
  rw [he]
  have hs : done si = false := by
    cases hq : done si with
    | false => rfl
    | true => exact absurd (h.ord hq) (by rw [hu]; exact Bool.false_ne_true)
  refine ⟨w.heap.size, ⟨h.keep.alloc h.keep.size _, fun _ => by simp [updB], fun _ => ⟨h.keep.size, ?_⟩⟩, fun e hE => by rw [hd] at hE; injection hE with hE; subst hE; exact hcd _, fun t ht => hct _ t (fun e => ht (by rw [hd, e]))⟩
  have e1 : updB done ai si = false := by simp [updB, Ne.symm hne, hs]
  rw [e1]
  exact heap_alloc_last w _
theorem storeO1 (h : NewO w0 ai si T ov nv done g w) (hd : o.dst = none) (ha : done ai = true) (hu : done si = false) (hg : Region.wanted o (yieldedBy ops (cv g)) = true)
    (he : (∀ a, w.frozen? ⟨g, a, none⟩ = false) → w.cell? ⟨g, 0, none⟩ = some ov →
      (execOp (evalBy (cv g)) o).run Tryz.prog w = .ok .skip (w.setCell ⟨g, 0, none⟩ nv)) : AskO w0 ai si T ov nv ops cv done g w si o := by
  refine ⟨hg, ?_⟩
  obtain ⟨hge, hb⟩ := h.box ha
  rw [hu] at hb
  have c0 : w.cell? ⟨g, 0, none⟩ = some ov := by simpa using cell_of_row w g 0 _ T (0, 0) hb
  have hf : ∀ a, w.frozen? ⟨g, a, none⟩ = false := fun a => by simp [World.frozen?, hb]
  rw [he hf c0]
  refine ⟨g, ⟨h.keep.setCell (p := ⟨g, 0, none⟩) hge _, fun _ => upd_true ha, fun _ => ⟨hge, ?_⟩⟩, fun e hE => by rw [hd] at hE; exact absurd hE (by simp), fun _ _ => rfl⟩
  have e1 : updB done si si = true := by simp [updB]
  rw [e1]
  simpa using blk_set hb 0 nv
end
def grCv (B b3 : Nat) (g : Nat) : Tmp → Value
  | 3 => .pointer (some ⟨B + 1, 0, none⟩)
  | 6 => .pointer (some ⟨b3, 0, none⟩)
  | 37 => .slice (some ⟨B, 0, none⟩) 2 2
  | 38 => .pointer (some ⟨b3, 0, none⟩)
  | 39 => .int .i64 0
  | 40 => .pointer (some ⟨B, 0, none⟩)
  | 41 => .int .i64 1
  | 42 => .slice (some ⟨B, 0, none⟩) 2 2
  | 43 => .pointer (some ⟨b3, 1, none⟩)
  | 44 => .int .i64 1
  | 45 => .pointer (some ⟨B, 1, none⟩)
  | 46 => .int .i64 2
  | 47 => .int .i64 3
  | 7 => .pointer (some ⟨g, 0, none⟩)
  | _ => undef
set_option maxRecDepth 100000 in
set_option maxHeartbeats 2000000 in
theorem groups_ex {X : Ctx} (hnp : X.np = 2) (hnq : X.nq = 1) (hqs : X.qs = [(0, 1)]) {w : World} (hX : X.At w) :
    Calls Tryz.prog 118 #[.pointer (some ⟨X.G, 0, none⟩)] w fun e w' => ∃ g c, e = .returned (.slice (some ⟨g, 0, none⟩) 1 c) ∧ w'.cell? ⟨g, 0, none⟩ = some (.int .i64 3) ∧ w.heap.size ≤ g ∧ Below w.heap.size w w' := by
  obtain ⟨z0, z1, hb⟩ := two_boxes w (.cells #[.int .i64 0, .int .i64 0] 3) (.cells #[.slice (some ⟨w.heap.size, 0, none⟩) 2 2] 34)
  have Z0 := Lib.hid z0; have Z1 := Lib.hid z1; have HB := Lib.hid hb; have HX := Lib.hid hX
  obtain ⟨i0, hi0, hz0, hz1, hz2⟩ := info_parts int_info
  have hmk := fun W : World => run_make (P := Tryz.prog) 34 3 i0 _ Tryz.underlying34 hi0 hz0 .i64 .i64 (2 : Int) (2 : Int) (by omega) (by omega) (by rw [hz2]; decide) (by omega) (w := W)
  have hmade : madeCells (Value.int .i64 0).cells ((2 : Int).toNat * i0.size) = #[.int .i64 0, .int .i64 0] := by rw [hz1]; kernel_rfl
  simp only [hmade] at hmk
  obtain ⟨g0, _⟩ := look_cells hX.g
  rw [hnp] at g0
  clear z0 z1 hb hX hmade
  refine callsIn_wide.1 (callsIn_of_wp_marks (n := 5) Tryz.func118 rfl trivial (wpIn_wide.2 ?_) rfl)
  simp only [Tryz.ntmps118, List.size_toArray, List.length_cons, List.length_nil, Nat.reduceAdd, Nat.reduceSub, Array.replicate_succ, Array.replicate_zero, List.push_toArray, List.append_toArray, List.nil_append, List.cons_append]
  go_wp2_with fail
  clear g0
  generalize (w.alloc (.cells #[.int .i64 0, .int .i64 0] 3)).alloc (.cells #[.slice (some ⟨w.heap.size, 0, none⟩) 2 2] 34) = W at *
  have s0 := cell_of_row W (w.heap.size + 1) 0 _ 34 (0, 0) Z1.out
  have c0 := cell_of_row W w.heap.size 0 _ 3 (0, 0) Z0.out
  have fz : ∀ j, W.frozen? ⟨w.heap.size, j, none⟩ = false := fun j => by simp [World.frozen?, Z0.out]
  have fz0 := fz 0
  simp only [List.getElem?_toArray, List.getElem?_cons_zero] at s0 c0
  have H1 : Hid (Below w.heap.size w (W.setCell ⟨w.heap.size, 0, none⟩ (.int .i64 1)).drew ∧ (W.setCell ⟨w.heap.size, 0, none⟩ (.int .i64 1)).drew.heap[w.heap.size]? = some (.cells #[.int .i64 1, .int .i64 0] 3 (0, 0)) ∧ (W.setCell ⟨w.heap.size, 0, none⟩ (.int .i64 1)).drew.heap[w.heap.size + 1]? = some (.cells #[.slice (some ⟨w.heap.size, 0, none⟩) 2 2] 34 (0, 0))) :=
    Lib.hid ⟨(HB.out.setCell (p := ⟨w.heap.size, 0, none⟩) (Nat.le_refl _) _).drew, (by show (W.setCell ⟨w.heap.size, 0, none⟩ (.int .i64 1)).heap[w.heap.size]? = _; simpa using blk_set Z0.out 0 (.int .i64 1)), (Below.heap_setCell _ _ _ _ (show w.heap.size + 1 ≠ w.heap.size by omega)).trans Z1.out⟩
  refine wp_loop_rounds 3 ?_
  rw [rounds_succ]
  go_wp2_with fail
  go_region
  clear s0 c0 fz fz0 Z0 Z1 HB
  generalize (W.setCell ⟨w.heap.size, 0, none⟩ (.int .i64 1)).drew = W1 at *
  obtain ⟨h1, h2, h3⟩ := H1.out
  have s0 := cell_of_row W1 (w.heap.size + 1) 0 _ 34 (0, 0) h3
  have c0 := cell_of_row W1 w.heap.size 1 _ 3 (0, 0) h2
  have fz : ∀ j, W1.frozen? ⟨w.heap.size, j, none⟩ = false := fun j => by simp [World.frozen?, h2]
  have fz0 := fz 1
  simp only [List.getElem?_toArray, List.getElem?_cons_zero, List.getElem?_cons_succ] at s0 c0
  have H2 : Hid (Below w.heap.size w (W1.setCell ⟨w.heap.size, 1, none⟩ (.int .i64 2)).drew ∧ (W1.setCell ⟨w.heap.size, 1, none⟩ (.int .i64 2)).drew.heap[w.heap.size]? = some (.cells #[.int .i64 1, .int .i64 2] 3 (0, 0)) ∧ (W1.setCell ⟨w.heap.size, 1, none⟩ (.int .i64 2)).drew.heap[w.heap.size + 1]? = some (.cells #[.slice (some ⟨w.heap.size, 0, none⟩) 2 2] 34 (0, 0))) :=
    Lib.hid ⟨(h1.setCell (p := ⟨w.heap.size, 1, none⟩) (Nat.le_refl _) _).drew, (by show (W1.setCell ⟨w.heap.size, 1, none⟩ (.int .i64 2)).heap[w.heap.size]? = _; simpa using blk_set h2 1 (.int .i64 2)), (Below.heap_setCell _ _ _ _ (show w.heap.size + 1 ≠ w.heap.size by omega)).trans h3⟩
  clear h1 h2 h3 H1
  go_wp2_with fail
  rw [rounds_succ]
  go_wp2_with fail
  go_region
  clear s0 c0 fz fz0
  generalize (W1.setCell ⟨w.heap.size, 1, none⟩ (.int .i64 2)).drew = W2 at *
  have hX2 := HX.out.up H2.out.1
  obtain ⟨_, g1, _⟩ := look_cells hX2.g
  obtain ⟨bq, oq, hAQ, hbq, q0, q1⟩ := pr_at hX2.Q (i := 0) (y := (0, 1)) (by rw [hqs]; rfl)
  rw [hnq, hAQ] at g1
  simp only [Nat.zero_mul, Nat.add_zero] at q0 q1
  clear hX2
  go_wp2_with fail
  rw [rounds_succ]
  go_wp2_with fail
  clear g1
  have hbP := (Below.refl W2.heap.size W2).alloc (Nat.le_refl _) (.cells #[.int .i64 0, .int .i64 1] 74)
  have zP := heap_alloc_new W2 (.cells #[.int .i64 0, .int .i64 1] 74)
  have H3 : Hid (Below w.heap.size w (W2.alloc (.cells #[.int .i64 0, .int .i64 1] 74)) ∧ (W2.alloc (.cells #[.int .i64 0, .int .i64 1] 74)).heap[w.heap.size]? = some (.cells #[.int .i64 1, .int .i64 2] 3 (0, 0)) ∧ (W2.alloc (.cells #[.int .i64 0, .int .i64 1] 74)).heap[w.heap.size + 1]? = some (.cells #[.slice (some ⟨w.heap.size, 0, none⟩) 2 2] 34 (0, 0)) ∧ (W2.alloc (.cells #[.int .i64 0, .int .i64 1] 74)).heap[W2.heap.size]? = some (.cells #[.int .i64 0, .int .i64 1] 74 (0, 0))) :=
    Lib.hid ⟨H2.out.1.trans (hbP.mono H2.out.1.size), (hbP.block _ (heapsz H2.out.2.1)).trans H2.out.2.1, (hbP.block _ (heapsz H2.out.2.2)).trans H2.out.2.2, zP⟩
  obtain ⟨b3, hb3⟩ : ∃ z, W2.heap.size = z := ⟨_, rfl⟩
  rw [hb3] at H3
  clear hbP zP H2
  refine wp_loop_rounds 2 ?_
  rw [rounds_succ]
  go_wp2_with fail
  clear q0 q1 hb3
  generalize W2.alloc (.cells #[.int .i64 0, .int .i64 1] 74) = W3 at *
  obtain ⟨e1, e2, e3, e4⟩ := H3.out
  have s0 := cell_of_row W3 (w.heap.size + 1) 0 _ 34 (0, 0) e3
  have c0 := cell_of_row W3 w.heap.size 0 _ 3 (0, 0) e2
  have c1 := cell_of_row W3 w.heap.size 1 _ 3 (0, 0) e2
  have p0 := cell_of_row W3 b3 0 _ 74 (0, 0) e4
  have p1 := cell_of_row W3 b3 1 _ 74 (0, 0) e4
  simp only [List.getElem?_toArray, List.getElem?_cons_zero, List.getElem?_cons_succ] at s0 c0 c1 p0 p1
  have FC : Hid (∀ u, Below W3.heap.size W3 u → u.cell? ⟨w.heap.size + 1, 0, none⟩ = some (.slice (some ⟨w.heap.size, 0, none⟩) 2 2) ∧ u.cell? ⟨b3, 0, none⟩ = some (.int .i64 0) ∧ u.cell? ⟨w.heap.size, 0, none⟩ = some (.int .i64 1) ∧ u.cell? ⟨b3, 1, none⟩ = some (.int .i64 1) ∧ u.cell? ⟨w.heap.size, 1, none⟩ = some (.int .i64 2)) := Lib.hid fun u hu =>
    ⟨((bcell hu).1 _ 0 (heapsz e3)).trans s0, ((bcell hu).1 _ 0 (heapsz e4)).trans p0, ((bcell hu).1 _ 0 (heapsz e2)).trans c0, ((bcell hu).1 _ 1 (heapsz e4)).trans p1, ((bcell hu).1 _ 1 (heapsz e2)).trans c1⟩
  clear e1 e2 e3 e4 s0 c0 c1 p0 p1
  refine wp_region_any (by kernel_rfl) (plan_guarded_any (γ := Nat) [3, 6] (grCv w.heap.size b3) (fun done g w' => NewO W3 11 12 3 (.int .i64 0) (.int .i64 3) done g w') 0 (by kernel_rfl) (by kernel_rfl) (by kernel_rfl) (by kernel_rfl) ?_ ?_ ?_ ?_)
  · intro t ht
    simp only [List.mem_cons, List.not_mem_nil, or_false] at ht
    rcases ht with rfl | rfl <;> rfl
  · exact ⟨(Below.refl W3.heap.size W3).drew, fun h => by simp at h, fun h => by simp at h⟩
  · refine allOps_array ?_
    refine ⟨?_, ?_, ?_, ?_, ?_, ?_, ?_, ?_, ?_, ?_, ?_, ?_, ?_, trivial⟩
    · intro done g w' hS hu hdep _
      have x := (FC.out w' hS.keep).1
      refine quietO1 hS 37 rfl (by decide) (by decide) rfl ?_
      simp [go_sem, evalBy, grCv, x]
    · intro done g w' hS hu hdep _
      refine quietO1 hS 38 rfl (by decide) (by decide) rfl ?_
      simp [go_sem, evalBy, grCv]
    · intro done g w' hS hu hdep _
      have x := (FC.out w' hS.keep).2.1
      refine quietO1 hS 39 rfl (by decide) (by decide) rfl ?_
      simp [go_sem, evalBy, grCv, x]
    · intro done g w' hS hu hdep _
      refine quietO1 hS 40 rfl (by decide) (by decide) rfl ?_
      simp [go_sem, evalBy, grCv]
    · intro done g w' hS hu hdep _
      have x := (FC.out w' hS.keep).2.2.1
      refine quietO1 hS 41 rfl (by decide) (by decide) rfl ?_
      simp [go_sem, evalBy, grCv, x]
    · intro done g w' hS hu hdep _
      have x := (FC.out w' hS.keep).1
      refine quietO1 hS 42 rfl (by decide) (by decide) rfl ?_
      simp [go_sem, evalBy, grCv, x]
    · intro done g w' hS hu hdep _
      refine quietO1 hS 43 rfl (by decide) (by decide) rfl ?_
      simp [go_sem, evalBy, grCv]
    · intro done g w' hS hu hdep _
      have x := (FC.out w' hS.keep).2.2.2.1
      refine quietO1 hS 44 rfl (by decide) (by decide) rfl ?_
      simp [go_sem, evalBy, grCv, x]
    · intro done g w' hS hu hdep _
      refine quietO1 hS 45 rfl (by decide) (by decide) rfl ?_
      simp [go_sem, evalBy, grCv]
    · intro done g w' hS hu hdep _
      have x := (FC.out w' hS.keep).2.2.2.2
      refine quietO1 hS 46 rfl (by decide) (by decide) rfl ?_
      simp [go_sem, evalBy, grCv, x]
    · intro done g w' hS hu hdep _
      have x : bits .or .i64 1 2 = 3 := by decide
      refine quietO1 hS 47 rfl (by decide) (by decide) rfl ?_
      simp [go_sem, evalBy, grCv, x]
    · intro done g w' hS hu hdep _
      refine allocO1 hS 7 rfl hu (by decide) rfl (fun _ => rfl) ?_ (by simp [go_sem])
      intro g' t' ht'
      unfold grCv
      split <;> first | rfl | exact absurd rfl ht'
    · intro done g w' hS hu hdep _
      refine storeO1 hS rfl (hdep ⟨11, .data⟩ (by simp) rfl) hu rfl ?_
      intro hf d0
      have f0 := hf 0
      clear hf
      simp [go_sem, evalBy, grCv, f0, d0]
  · intro g wE hS
    obtain ⟨hge, hbx⟩ := hS.box (by decide)
    rw [if_pos (by decide)] at hbx
    have hS' := hS.keep
    have HBX := Lib.hid hbx
    have HGE := Lib.hid hge
    clear hS hbx hge
    have hE := H3.out.1.trans (hS'.mono H3.out.1.size)
    have hbN := (Below.refl wE.heap.size wE).alloc (Nat.le_refl _) (.cells #[.int .i64 3] 3)
    have zN := heap_alloc_new wE (.cells #[.int .i64 3] 3)
    have r2 := (hS'.block _ (heapsz H3.out.2.1)).trans H3.out.2.1
    have r3 := (hS'.block _ (heapsz H3.out.2.2.1)).trans H3.out.2.2.1
    have HI : Hid (BkI w.heap.size w [(w.heap.size + 1, #[.slice (some ⟨w.heap.size, 0, none⟩) 2 2], 34), (g, #[.int .i64 3], 3)] w.heap.size (iV [1, 2]) 3 (wE.alloc (.cells #[.int .i64 3] 3))) := Lib.hid ⟨hE.trans (hbN.mono hE.size), fun x hx => by
      rcases List.mem_cons.1 hx with rfl | hx
      · exact (hbN.block _ (heapsz r3)).trans r3
      · rw [List.mem_singleton.1 hx]; exact (hbN.block _ (heapsz HBX.out)).trans HBX.out, (hbN.block _ (heapsz r2)).trans r2⟩
    have HSZ : Hid (wE.heap.size < (wE.alloc (.cells #[.int .i64 3] 3)).heap.size ∧ w.heap.size + 1 < wE.heap.size) := Lib.hid ⟨heapsz zN, heapsz r3⟩
    have HCB : Hid ((wE.alloc (.cells #[.int .i64 3] 3)).cell? ⟨wE.heap.size, 0, none⟩ = some (.int .i64 3)) := Lib.hid (cell_of_row _ wE.heap.size 0 _ 3 (0, 0) zN)
    have HGN : Hid (g ≠ w.heap.size) := Lib.hid (by have := heapsz H3.out.2.2.1; have := HGE.out; omega)
    have g0 := cell_of_row wE g 0 _ 3 (0, 0) HBX.out
    simp only [List.getElem?_toArray, List.getElem?_cons_zero] at g0
    clear hE hbN zN r2 r3 hS' FC H3
    simp [putAll, Act.put, grCv]
    go_wp2_with (first
      | (go_at_call 114; refine (pilesOf_any _ _).mono ?_; rintro e w' ⟨rfl, rfl⟩)
      | fail)
    clear g0
    obtain ⟨Bn, hBn⟩ : ∃ z, wE.heap.size = z := ⟨_, rfl⟩
    rw [hBn] at HSZ HCB ⊢
    clear hBn
    generalize wE.alloc (.cells #[.int .i64 3] 3) = w5 at *
    refine (wpIn_wide (n := 3)).1 ?_
    refine wpIn_rangeFunc_ownF rfl (by decide) (gf := 129) (lb := #[.pointer (some ⟨Bn, 0, none⟩)]) rfl trivial (enters_of Tryz.func129 (by kernel_rfl) rfl)
      (piles_stops (3 - 1) (by decide) Bn w.heap.size 3 w5 HSZ.out.1 HCB.out)
      kpB_t (kpB_b (by have := HSZ.out; omega) HSZ.out.1) (Below.refl _ _) (fun _ => rfl)
      (fun pre W => BkI w.heap.size w [(w.heap.size + 1, #[.slice (some ⟨w.heap.size, 0, none⟩) 2 2], 34), (g, #[.int .i64 3], 3)] w.heap.size (iV ((pre.map Subtype.val).foldl (jakF 3) [1, 2])) 3 W)
      (fun _ _ _ => False)
      (fun pre A B row hs hg hr => hs.own (N := w5.heap.size) (by have := HSZ.out; omega) (by have := heapsz hs.blk; omega) hg hr)
      (fun _ _ _ _ _ hs _ _ => hs)
      (show BkI _ _ _ _ _ _ _ from HI.out)
      (fun x => { tmps := List.toArray ((Value.pointer (some ⟨X.G, 0, none⟩)) :: undef :: (Value.slice none 0 0) :: (Value.pointer (some ⟨w.heap.size + 1, 0, none⟩)) :: (Value.int .i64 1) :: undef :: (Value.pointer (some ⟨b3, 0, none⟩)) :: (Value.pointer (some ⟨g, 0, none⟩)) :: (Value.int .i64 (x.1 : Int)) :: (Value.pointer (some ⟨X.G, 0, none⟩)) :: (Value.pointer (some ⟨X.G, 0, none⟩)) :: (Value.pointer (some ⟨X.G, 0, none⟩)) :: (Value.pointer (some ⟨X.G, 0, none⟩)) :: (Value.slice X.AP 2 X.cp) :: (Value.int .i64 2) :: (Value.slice (some ⟨w.heap.size, 0, none⟩) 2 2) :: (Value.slice (some ⟨w.heap.size, 0, none⟩) 2 2) :: (Value.int .i64 2) :: (Value.int .i64 2) :: (Value.bool false) :: (Value.int .i64 1) :: (Value.slice (some ⟨w.heap.size, 0, none⟩) 2 2) :: (Value.int .i64 1) :: (Value.int .i64 1) :: (Value.int .i64 2) :: (Value.pointer (some ⟨w.heap.size, 1, none⟩)) :: (Value.int .i64 2) :: (Value.pointer (some ⟨X.G, 0, none⟩)) :: (Value.pointer (some ⟨X.G, 0, none⟩)) :: (Value.pointer (some ⟨X.G, 0, none⟩)) :: (Value.pointer (some ⟨X.G, 1, none⟩)) :: (Value.slice (some ⟨bq, oq, none⟩) 1 X.cq) :: (Value.int .i64 1) :: (Value.int .i64 0) :: (Value.bool true) :: (Value.pointer (some ⟨bq, oq, none⟩)) :: (Value.agg #[.int .i64 0, .int .i64 1]) :: (Value.slice (some ⟨w.heap.size, 0, none⟩) 2 2) :: (Value.pointer (some ⟨b3, 0, none⟩)) :: (Value.int .i64 0) :: (Value.pointer (some ⟨w.heap.size, 0, none⟩)) :: (Value.int .i64 1) :: (Value.slice (some ⟨w.heap.size, 0, none⟩) 2 2) :: (Value.pointer (some ⟨b3, 1, none⟩)) :: (Value.int .i64 1) :: (Value.pointer (some ⟨w.heap.size, 1, none⟩)) :: (Value.int .i64 2) :: (Value.int .i64 3) :: (Value.int .i64 3) :: (Value.func (.func 129) #[] #[.pointer (some ⟨Bn, 0, none⟩)]) :: (Value.int .i64 (x.1 : Int)) :: undef :: undef :: undef :: undef :: undef :: undef :: undef :: undef :: undef :: []), defers := [] }) ?assign ?body ?done ?stop
    case assign =>
      intro l x W K hK
      gi_wp2
      exact hK
    case body =>
      rintro l pre ⟨x, hx6, hxj⟩ W hI hlen
      have HI5 := Lib.hid hI
      have hxn : x < 2 := jack_lt (s := 3) (by decide) (by decide) hxj
      have HE : Hid (((pre ++ [(⟨x, hx6, hxj⟩ : PX 3)]).map Subtype.val).foldl (jakF 3) [1, 2] = ((pre.map Subtype.val).foldl (jakF 3) [1, 2]).set x ((3 : Nat) : Int)) := Lib.hid (by rw [List.map_append, List.foldl_append]; rfl)
      have hL := jak_len 3 (pre.map Subtype.val) [1, 2]
      obtain ⟨A, hA⟩ : ∃ z, (pre.map Subtype.val).foldl (jakF 3) [1, 2] = z := ⟨_, rfl⟩
      rw [hA] at HE HI5 hI hL
      obtain ⟨S, hS⟩ := get_of_lt (l := A) (k := x) (by rw [hL]; exact hxn)
      have a0 := cell_of_row W w.heap.size x _ 3 (0, 0) hI.blk
      have a1 := cell_of_row W (w.heap.size + 1) 0 _ 34 (0, 0) (hI.fix _ List.mem_cons_self)
      have a2 := cell_of_row W g 0 _ 3 (0, 0) (hI.fix _ (List.mem_cons_of_mem _ List.mem_cons_self))
      rw [iV_get hS] at a0
      simp only [List.getElem?_toArray, List.getElem?_cons_zero] at a1 a2
      have f2 : W.frozen? ⟨w.heap.size, x, none⟩ = false := by simp [World.frozen?, hI.blk]
      have x6 : (x : Int) < 2 := by omega
      have x0 : (0 : Int) ≤ (x : Int) := by omega
      clear hI hA hS hL
      dsimp only
      gi_wp2
      have HN := HI5.out.set (Nat.le_refl _) (fun z hz => by
        rcases List.mem_cons.1 hz with rfl | hz
        · exact Nat.ne_of_gt (by omega)
        · rw [List.mem_singleton.1 hz]; exact HGN.out) x (.int .i64 3)
      rw [show (Value.int .i64 3) = Value.int .i64 ((3 : Nat) : Int) from rfl, iV_set, ← HE.out] at HN
      exact ⟨KeepsOthers.setCell _ _ _, ⟨(Below.refl _ _).setCell (p := ⟨w.heap.size, x, none⟩) (Nat.le_refl _) _, World.cell?_setCell_other W _ _ _ (fun e => by injection e with e; have := HSZ.out; omega)⟩, HN⟩
    case done =>
      rintro D ys W hD hys hI hK
      rw [hys, pil3, show [0, 1].foldl (jakF 3) [1, 2] = [3, 3] from rfl] at hI
      have HI6 := Lib.hid hI
      have HD : Hid (w.heap.size ≤ D ∧ W.heap[D]? = some (.deferred (some []))) := Lib.hid ⟨by have := HSZ.out; omega, hK⟩
      have a1 := cell_of_row W (w.heap.size + 1) 0 _ 34 (0, 0) (hI.fix _ List.mem_cons_self)
      simp only [List.getElem?_toArray, List.getElem?_cons_zero] at a1
      clear hI hK hys
      simp only [Exit.inBlock, Exit.then]
      go_wp2_with fail
      rw [rounds_succ]
      go_wp2_with fail
      clear a1
      have hH : Sort.Holds (Value.int .i64) W w.heap.size 0 ([3, 3] : List Int).toArray := fun j hj => by
        have hj2 : j < 2 := hj
        have h1 := cell_of_row W w.heap.size j _ 3 (0, 0) HI6.out.blk
        have hf : W.frozen? ⟨w.heap.size, 0 + j, none⟩ = false := by simp [World.frozen?, HI6.out.blk]
        refine ⟨?_, hf⟩
        rw [Nat.zero_add, h1]
        rcases (show j = 0 ∨ j = 1 by omega) with rfl | rfl <;> rfl
      have hms : (([3, 3] : List Int).mergeSort fun x y => decide (x ≤ y)) = [3, 3] := by
        refine List.eq_replicate_iff (n := 2) (a := (3 : Int)) |>.2 ⟨by rw [List.length_mergeSort]; rfl, fun b hb => ?_⟩
        have := List.mem_mergeSort.1 hb
        simpa using this
      have hsrt := Tryz.slices_Sort_int w.heap.size 0 2 [3, 3] W hH (heapsz HI6.out.blk) (by decide)
      rw [hms] at hsrt
      refine hsrt.mono ?_
      rintro e w6 ⟨rfl, n, os, rfl⟩
      rw [Sort.putRow_self (Value.int .i64) (Sort.ahead W n) w.heap.size 0 _ hH]
      have hb6 : Below W.heap.size W (Sort.grow (Sort.ahead W n) os) := ⟨rfl, rfl, rfl, by simp [Sort.grow, Sort.ahead], fun k hk => by
        show (W.heap ++ os)[k]? = W.heap[k]?
        exact Array.getElem?_append_left hk⟩
      have hI7 : BkI w.heap.size w [(w.heap.size + 1, #[.slice (some ⟨w.heap.size, 0, none⟩) 2 2], 34), (g, #[.int .i64 3], 3)] w.heap.size (iV [3, 3]) 3 (Sort.grow (Sort.ahead W n) os) := ⟨HI6.out.bel.trans (hb6.mono HI6.out.bel.size), fun x hx => (hb6.block _ (heapsz (HI6.out.fix x hx))).trans (HI6.out.fix x hx), (hb6.block _ (heapsz HI6.out.blk)).trans HI6.out.blk⟩
      have HI7 := Lib.hid hI7
      have HD7 : Hid (w.heap.size ≤ D ∧ (Sort.grow (Sort.ahead W n) os).heap[D]? = some (.deferred (some []))) := Lib.hid ⟨HD.out.1, (hb6.block _ (Array.getElem?_eq_some_iff.1 HD.out.2).1).trans HD.out.2⟩
      have a1 := cell_of_row _ (w.heap.size + 1) 0 _ 34 (0, 0) (hI7.fix _ List.mem_cons_self)
      simp only [List.getElem?_toArray, List.getElem?_cons_zero] at a1
      clear hI7 hb6 hsrt hH HD HI6
      generalize Sort.grow (Sort.ahead W n) os = W7 at *
      go_wp2_with fail
      clear a1
      have hH7 : Sort.Holds (Value.int .i64) W7 w.heap.size 0 ([3, 3] : List Int).toArray := fun j hj => by
        have hj2 : j < 2 := hj
        have h1 := cell_of_row W7 w.heap.size j _ 3 (0, 0) HI7.out.blk
        have hf : W7.frozen? ⟨w.heap.size, 0 + j, none⟩ = false := by simp [World.frozen?, HI7.out.blk]
        refine ⟨?_, hf⟩
        rw [Nat.zero_add, h1]
        rcases (show j = 0 ∨ j = 1 by omega) with rfl | rfl <;> rfl
      have hcm : Lib.compact ([3, 3] : List Int) = [3] := by decide
      have hcmp := Tryz.slices_Compact_int w.heap.size 0 2 [3, 3] W7 hH7 (by decide) (by decide)
      rw [hcm, show (([3] : List Int) ++ List.replicate (([3, 3] : List Int).length - ([3] : List Int).length) (0 : Int)).toArray = #[3, 0] from rfl] at hcmp
      refine hcmp.mono ?_
      rintro e w8 ⟨rfl, q, rfl⟩
      have hg8 := Go.grownBy_sortedI (w := W7) (g := w.heap.size) (n := q) (os := #[]) (#[3, 0] : Array Int)
      rw [Sort.grow_empty] at hg8
      have hc8 := Sort.cell?_putRow (Value.int .i64) (Sort.ahead W7 q) w.heap.size 0 ([3, 3] : List Int).toArray (#[3, 0] : Array Int) hH7 rfl 0 (by decide)
      have HC8 : Hid ((Sort.putRow (Value.int .i64) (Sort.ahead W7 q) w.heap.size 0 (#[3, 0] : Array Int)).cell? ⟨w.heap.size, 0, none⟩ = some (.int .i64 3)) := Lib.hid hc8
      have HB8 := Lib.hid (HI7.out.bel.grown hg8 HI7.out.bel.size (fun k e => by cases e; exact Nat.le_refl _))
      have HD8 := Lib.hid ((hg8.block D (Array.getElem?_eq_some_iff.1 HD7.out.2).1 (fun e => by
        injection e with e
        have h1 := HD7.out.2
        rw [e, HI7.out.blk] at h1
        cases h1)).trans HD7.out.2)
      clear hg8 hc8 hcmp hH7
      generalize Sort.putRow (Value.int .i64) (Sort.ahead W7 q) w.heap.size 0 (#[3, 0] : Array Int) = W8 at *
      go_wp2_with fail
      refine leaves_marks (B := w.heap.size) [D] W8 ⟨by simp, fun E hE => by rw [List.mem_singleton.1 hE]; exact ⟨HD7.out.1, HD8.out⟩⟩ (fun w' hk => ⟨_, results_tmp rfl _ _ _, ?_⟩)
      refine ⟨w.heap.size, 2, rfl, ?_, Nat.le_refl _, HB8.out.trans hk.1⟩
      obtain ⟨cs, h8, h9⟩ := cells_of_cell HC8.out
      cases cs with
      | cells a t z => exact (World.cell?_of_block (show w'.heap[w.heap.size]? = W8.heap[w.heap.size]? from (hk.2 _ _ _ _ h8).trans h8.symm)).trans HC8.out
      | _ => cases h9
    case stop =>
      rintro D c pre W _ _ h _
      exact h.elim
end Go.Proofs.YtdlaphlpimlgdaaGreatDoor
/- The parts of a slice, one after the other. -/
namespace Go.Proofs.YtdlaphlpimlgdaaGreatDoor
open Go.RowKit Go.Shelf
attribute [local go_sem] Oper.semAt_some

abbrev CX (K : Nat) := { x : Nat // x < K }
def KpT (n₀ B1 B2 : Nat) (W W' : World) : Prop := Below n₀ W W' ∧ W'.cell? ⟨B1, 0, none⟩ = W.cell? ⟨B1, 0, none⟩ ∧ W'.cell? ⟨B2, 0, none⟩ = W.cell? ⟨B2, 0, none⟩
theorem kpT_t {n₀ B1 B2 : Nat} {A B C : World} (h : KpT n₀ B1 B2 A B) (k : KpT n₀ B1 B2 B C) : KpT n₀ B1 B2 A C := ⟨h.1.trans k.1, k.2.1.trans h.2.1, k.2.2.trans h.2.2⟩
def setK (K : Nat) : List Nat := List.range K
set_option maxRecDepth 100000 in
set_option maxHeartbeats 2000000 in
theorem chunk1_in (n : Nat) (hn : 1 ≤ n) (l B1 B2 n₀ g c K m : Nat) (hm : 1 ≤ m) (hc : K * m ≤ c) (hb : K * m ≤ 100000) (hm2 : m ≤ 100000) (J Jx : List (CX K) → World → Prop) (hJd : ∀ s A k, J s A → J s (World.drewN A k))
    (hY : ∀ pre x W, J pre W → pre.length < K → YieldAt Fence.wide (n - 1) Tryz.prog l #[.slice (some ⟨g, x.1 * m, none⟩) m m] W fun e W' =>
      (e = .returned (.bool true) ∧ J (pre ++ [x]) W' ∧ KpT n₀ B1 B2 W W') ∨ (e = .returned (.bool false) ∧ Jx (pre ++ [x]) W'))
    (W : World) (c1 : W.cell? ⟨B1, 0, none⟩ = some (.slice (some ⟨g, 0, none⟩) (K * m) c)) (c2 : W.cell? ⟨B2, 0, none⟩ = some (.int .i64 (m : Int))) (h0 : J [] W) :
    CallsIn Fence.wide n Tryz.prog 180 #[.func (.yield l) #[] #[], .pointer (some ⟨B1, 0, none⟩), .pointer (some ⟨B2, 0, none⟩)] W fun e W' => (∃ v, e = .returned v) ∧
      ((∃ ys, ys.map Subtype.val = setK K ∧ J ys W') ∨ (∃ pre, True ∧ Jx pre W')) := by
  have C1 := Lib.hid c1; have C2 := Lib.hid c2
  obtain ⟨M, hM⟩ : ∃ z, K * m = z := ⟨_, rfl⟩
  have HM := Lib.hid hM
  rw [hM] at c1 hc hb
  have C1' := Lib.hid c1
  clear C1 hM
  refine callsIn_of_wp Tryz.func180 rfl trivial ?_ rfl
  simp only [Tryz.ntmps180, List.size_toArray, List.length_cons, List.length_nil, Nat.reduceAdd, Nat.reduceSub, Array.replicate_succ, Array.replicate_zero, List.push_toArray, List.append_toArray, List.nil_append, List.cons_append]
  gi_wp2
  gi_loopw [4] (fun i wr => ∃ (k : Nat) (pre : List (CX K)), k ≤ K ∧ i = .int .i64 (((k * m : Nat)) : Int) ∧ pre.map Subtype.val = List.range k ∧ J pre wr ∧ wr.cell? ⟨B1, 0, none⟩ = some (.slice (some ⟨g, 0, none⟩) M c) ∧ wr.cell? ⟨B2, 0, none⟩ = some (.int .i64 (m : Int))) (fun i _ => M + 1 - (intOf i).toNat)
  case atStart => exact ⟨0, [], Nat.zero_le _, by simp, by simp, h0, C1'.out, C2.out⟩
  case round =>
    clear c1 c2
    obtain ⟨k, pre, hk, rfl, hpre, hJs, c1, c2⟩ := hrel
    have HP := Lib.hid hpre; clear hpre
    obtain ⟨T, hT⟩ : ∃ z, k * m = z := ⟨_, rfl⟩
    have HT := Lib.hid hT
    rw [hT]
    by_cases hlt : k < K
    · have hTM : T + m ≤ M := by
        rw [← hT, ← HM.out]
        have := Nat.mul_le_mul_right m (show k + 1 ≤ K from hlt)
        rwa [Nat.succ_mul] at this
      have t1 : (T : Int) < (M : Int) := by omega
      have t0 : (0 : Int) ≤ (T : Int) := by omega
      have t2 : (T : Int) ≤ (M : Int) := by omega
      have t3 : ¬ M = T := by omega
      have t4 : (m : Int) ≤ ((M - T : Nat) : Int) := by omega
      have t5 : ¬ ((M - T : Nat) : Int) < (m : Int) := by omega
      clear hT
      gi_wp2
      have t6 : min (m : Int) ((M - T : Nat) : Int) = (m : Int) := by omega
      have t7 : ((T : Int) + (m : Int)).toNat - T = m := by omega
      have hlen : pre.length < K := by
        have := congrArg List.length HP.out
        rw [List.length_map, List.length_range] at this
        omega
      refine wpIn_wide.2 ?_
      go_quiet (fail)
      obtain ⟨fn, tmps, assign, body, hy, hR⟩ := hY pre ⟨k, hlt⟩ _ (hJd _ _ nq hJs) hlen
      simp only [HT.out] at hy
      gi_wp2
      refine hR.mono ?_
      rintro e W3 h4
      obtain ⟨bv, rfl, h3⟩ := two h4
      clear h4 hy
      have hmap : (pre ++ [(⟨k, hlt⟩ : CX K)]).map Subtype.val = List.range (k + 1) := by
        rw [List.map_append, HP.out, List.range_succ]
        rfl
      have HB := Lib.hid hmap
      clear hmap
      rcases h3 with ⟨rfl, hJ3, hk3⟩ | ⟨rfl, hJx3⟩
      · have hcB : W3.cell? ⟨B1, 0, none⟩ = some (.slice (some ⟨g, 0, none⟩) M c) := hk3.2.1.trans c1
        have hcC : W3.cell? ⟨B2, 0, none⟩ = some (.int .i64 (m : Int)) := hk3.2.2.trans c2
        have HcB := Lib.hid hcB
        clear hk3 hcB
        gi_wp2
        exact ⟨⟨k + 1, _, by omega, by rw [Nat.succ_mul, HT.out]; rfl, HB.out, hJ3, HcB.out, hcC⟩, by simp [intOf]; omega⟩
      · gi_wp2
        refine bodyPost_ret (results_none rfl _ _ _) rfl ?_
        exact ⟨⟨_, rfl⟩, .inr ⟨_, trivial, hJx3⟩⟩
    · have hke : k = K := by omega
      subst hke
      have hTM : T = M := by rw [← hT, ← HM.out]
      have t1 : ¬ (T : Int) < (M : Int) := by omega
      clear hT
      gi_wp2
      go_end0
      exact ⟨⟨_, rfl⟩, .inl ⟨_, HP.out, hJs⟩⟩
theorem kpT_b {n₀ B1 B2 : Nat} {w : World} (hn : n₀ ≤ w.heap.size) (h1 : B1 < w.heap.size) (h2 : B2 < w.heap.size) (W : World) (l : Nat) (o o' : Obj) (hl : w.heap.size ≤ l) (h : W.heap[l]? = some o) (h3 : o.isCells = false) (h4 : o.isWalk = false) : KpT n₀ B1 B2 W (W.putObj l o') := by
  have hlt := (Array.getElem?_eq_some_iff.1 h).1
  exact ⟨belowK_b hn W l o o' hl h h3 h4, World.cell?_of_block ((grownBy_putObj' W l o').block B1 (by omega) (by intro e; injection e; omega)), World.cell?_of_block ((grownBy_putObj' W l o').block B2 (by omega) (by intro e; injection e; omega))⟩
theorem chunk_stops (n : Nat) (hn : 1 ≤ n) (B1 B2 n₀ g c K m : Nat) (hm : 1 ≤ m) (hc : K * m ≤ c) (hb : K * m ≤ 100000) (hm2 : m ≤ 100000) (w : World) (h1 : B1 < w.heap.size) (h2 : B2 < w.heap.size)
    (c1 : w.cell? ⟨B1, 0, none⟩ = some (.slice (some ⟨g, 0, none⟩) (K * m) c)) (c2 : w.cell? ⟨B2, 0, none⟩ = some (.int .i64 (m : Int))) :
    SeqStopsK Fence.wide n Tryz.prog 180 #[.pointer (some ⟨B1, 0, none⟩), .pointer (some ⟨B2, 0, none⟩)] (fun x : CX K => #[.slice (some ⟨g, x.1 * m, none⟩) m m]) (KpT n₀ B1 B2) (fun ys => ys.map Subtype.val = setK K) (fun _ => True) K w := fun l J Jx W hW hJ _ hY h0 => by
  obtain ⟨r1, _⟩ := bcell hW
  exact chunk1_in n hn l B1 B2 n₀ g c K m hm hc hb hm2 J Jx (fun s A k hs => hJ s A _ none hs ⟨rfl, rfl, rfl, Nat.le_refl _, fun _ _ _ => rfl⟩ (fun _ e => by cases e)) hY W ((r1 _ _ h1).trans c1) ((r1 _ _ h2).trans c2) h0
set_option maxHeartbeats 400000 in
theorem chunk_any (v : Value) (m : Nat) (hm : 1 ≤ m) (w : World) (A : Option Addr) (k c : Nat) (hv : v = .slice A k c) :
    Calls Tryz.prog 157 #[v, .int .i64 (m : Int)] w fun e w' => e = .returned (.func (.func 180) #[] #[.pointer (some ⟨w.heap.size, 0, none⟩), .pointer (some ⟨w.heap.size + 1, 0, none⟩)]) ∧ (w.alloc (.cells #[v] 34)).alloc (.cells #[.int .i64 (m : Int)] 3) = w' := by
  subst hv
  have h1 : ¬ (m : Int) < 1 := by omega
  go_enter Tryz.func157, Tryz.ntmps157
  go_wp2_with fail
  go_ret
  exact ⟨rfl, rfl⟩
end Go.Proofs.YtdlaphlpimlgdaaGreatDoor
