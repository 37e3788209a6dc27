/- Pipes: the first of some things with the greatest slack. Pipes: the slack of what a crew has left, by the code that keeps what it has found. A range over a function whose rounds may write what lay ahead of it, and are told what came before; the loops of a set, so told. Pipes: the first weak fault; the slack of a place; the places, one after the other. Pipes: the slack of a place; the places, one after the other. Pipes: the first order with enough slack. -/
import Derived.Test.YticmeeinjkoodaaCB
import Derived.RangeFuncWrites
namespace Go.Proofs.Yticmeeinjkoodaa
open Go.RowKit Go.Shelf
attribute [local go_sem] Oper.semAt_some

/-- All is kept but the map of slacks; some blocks lie as they are. -/
structure FW (N : Nt) (m M : Nat) (w : World) (fs : List (Nat × Array Value × TypeId)) (W : World) : Prop where
  gw : Gw N m M w W
  fix : ∀ x ∈ fs, W.heap[x.1]? = some (.cells x.2.1 x.2.2 (0, 0))
section
variable {N : Nt} {m M n : Nat} {w A B : World} {fs fs' : List (Nat × Array Value × TypeId)}
theorem Gw.ne (h : Gw N m M w A) {b : Nat} {cs : Array Value} {T : TypeId} (hb : A.heap[b]? = some (.cells cs T (0, 0))) : b ≠ M := fun e => by
  obtain ⟨_, _, h1, _⟩ := h.map
  rw [e, h1] at hb
  cases hb
theorem FW.go (h : FW N m M w fs A) (g : Gw N m M A B) : FW N m M w fs B := ⟨h.gw.trans g, fun x hx => g.cell (h.fix x hx) (h.gw.ne (h.fix x hx))⟩
theorem FW.up (h : FW N m M w fs A) (hb : Below A.heap.size A B) : FW N m M w fs B := ⟨h.gw.up hb, fun x hx => (hb.block _ (heapsz (h.fix x hx))).trans (h.fix x hx)⟩
theorem FW.own {row : Option Nat} (h : FW N m M w fs A) (hn : w.heap.size ≤ n) (hg : A.grownBy B row) (hr : ∀ r, row = some r → n ≤ r ∧ ∃ o : Obj, A.heap[r]? = some o ∧ o.isCells = false) : FW N m M w fs B :=
  ⟨h.gw.own hn hg hr, fun x hx => by
    have hb := h.fix x hx
    refine (hg.block x.1 (heapsz hb) (fun e => ?_)).trans hb
    obtain ⟨_, o, h2, h3⟩ := hr x.1 e.symm
    rw [hb] at h2
    injection h2 with h2
    rw [← h2] at h3
    cases h3⟩
theorem FW.put {b k : Nat} {v : Value} {cs : Array Value} {t : TypeId} (h : FW N m M w fs A) (hb : (b, cs, t) ∈ fs) (hn : w.heap.size ≤ b) (hf : ∀ x ∈ fs', x = (b, cs.setIfInBounds k v, t) ∨ (x ∈ fs ∧ x.1 ≠ b)) : FW N m M w fs' (A.setCell ⟨b, k, none⟩ v) :=
  ⟨h.gw.put v hn, fun x hx => by
    rcases hf x hx with rfl | ⟨hm, hne⟩
    · exact blk_set (h.fix _ hb) k v
    · exact (Below.heap_setCell _ _ _ _ hne).trans (h.fix x hm)⟩
theorem FW.cellsK (h : FW N m M w fs A) (hn : w.heap.size ≤ n) (hk : CellsK n A B) : FW N m M w fs B := ⟨h.gw.low hn hk.1, fun x hx => hk.2 _ _ _ _ (h.fix x hx)⟩
theorem FW.sub (h : FW N m M w fs A) (hs : ∀ x ∈ fs', x ∈ fs) : FW N m M w fs' A := ⟨h.gw, fun x hx => h.fix x (hs x hx)⟩
end
def grB (n : Nat) (fv : Value) (fs : List (Nat × Array Value × TypeId)) (a : Nat × Int) : List (Nat × Array Value × TypeId) := (n, #[fv], 120) :: (n + 1, #[.int .i64 (a.1 : Int)], 3) :: (n + 1 + 1, #[.int .i64 a.2], 3) :: fs
theorem gr_set {N : Nt} {m M n : Nat} {w A : World} {fs : List (Nat × Array Value × TypeId)} {fv : Value} {a : Nat × Int} (h : FW N m M w (grB n fv fs a) A) (hn : w.heap.size ≤ n) (hlow : ∀ x ∈ fs, x.1 < n) (y : Nat) (c : Int) :
    FW N m M w (grB n fv fs (y, c)) ((A.setCell ⟨n + 1, 0, none⟩ (.int .i64 (y : Int))).setCell ⟨n + 1 + 1, 0, none⟩ (.int .i64 c)) := by
  have h1 := h.put (b := n + 1) (k := 0) (v := .int .i64 (y : Int)) (cs := #[.int .i64 (a.1 : Int)]) (t := 3) (fs' := grB n fv fs (y, a.2)) (by simp [grB]) (by omega) fun x hx => by
    simp only [grB, List.mem_cons] at hx ⊢
    rcases hx with rfl | rfl | rfl | hx
    · exact .inr ⟨.inl rfl, by show n ≠ n + 1; omega⟩
    · exact .inl rfl
    · exact .inr ⟨.inr (.inr (.inl rfl)), by show n + 1 + 1 ≠ n + 1; omega⟩
    · exact .inr ⟨.inr (.inr (.inr hx)), by have := hlow x hx; omega⟩
  exact h1.put (b := n + 1 + 1) (k := 0) (v := .int .i64 c) (cs := #[.int .i64 a.2]) (t := 3) (by simp [grB]) (by omega) fun x hx => by
    simp only [grB, List.mem_cons] at hx ⊢
    rcases hx with rfl | rfl | rfl | hx
    · exact .inr ⟨.inl rfl, by show n ≠ n + 1 + 1; omega⟩
    · exact .inr ⟨.inr (.inl rfl), by show n + 1 ≠ n + 1 + 1; omega⟩
    · exact .inl rfl
    · exact .inr ⟨.inr (.inr (.inr hx)), by have := hlow x hx; omega⟩
def geCv (n : Nat) (v1 v2 : Value) : Tmp → Value
  | 4 => .pointer (some ⟨n + 1, 0, none⟩)
  | 5 => .pointer (some ⟨n + 1 + 1, 0, none⟩)
  | 18 => v1
  | 19 => v2
  | _ => undef
set_option maxRecDepth 100000 in
set_option maxHeartbeats 4000000 in
theorem greatest_any {α : Type} {vl : α → Nat} {w0 w : World} {P M m : Nat} {V : NV} {N : Nt} {bv dv : Value} (h : Lw w0 P M V N m bv dv w) {gf g1 sf s1 s2 gm : Nat} {fs : List (Nat × Array Value × TypeId)} (hfs : ∀ x ∈ fs, w.heap[x.1]? = some (.cells x.2.1 x.2.2 (0, 0))) {gc : Array Value} {gt : TypeId} (hg1 : (g1, gc, gt) ∈ fs)
    (heg : ∀ args w, (callFunc gf args).run Try.prog w = .ok (.enter gf args) w) (hes : ∀ args w, (callFunc sf args).run Try.prog w = .ok (.enter sf args) w)
    (xs : List Nat) (f : Nat → Int) (hseq : ∀ W, w.heap.size ≤ W.heap.size → FW N m M w fs W → SeqStopsK Fence.wide 2 Try.prog gf #[.pointer (some ⟨g1, 0, none⟩)] (fun x : α => #[.int .i64 (vl x : Int)]) (KpB w0.heap.size g1) (fun ys => ys.map vl = xs) (fun _ => True) gm W)
    (hcall : ∀ x : α, ∀ W, FW N m M w fs W → Calls Try.prog sf #[.int .i64 (vl x : Int), .pointer (some ⟨s1, 0, none⟩), .pointer (some ⟨s2, 0, none⟩)] W fun e w' => e = .returned (.int .i64 (f (vl x))) ∧ Gw N m M W w') :
    Calls Try.prog 78 #[.func (.func gf) #[] #[.pointer (some ⟨g1, 0, none⟩)], .func (.func sf) #[] #[.pointer (some ⟨s1, 0, none⟩), .pointer (some ⟨s2, 0, none⟩)]] w fun e w' => e = .returned (.tuple #[.int .i64 ((grL f xs).1 : Int), .int .i64 (grL f xs).2]) ∧ Gw N m M w w' := by
  obtain ⟨z0, z1, z2, hb⟩ := three_new w (.cells #[(.func (.func sf) #[] #[.pointer (some ⟨s1, 0, none⟩), .pointer (some ⟨s2, 0, none⟩)])] 120) (.cells #[.int .i64 0] 3) (.cells #[.int .i64 (-1)] 3)
  obtain ⟨w5, hw5⟩ : ∃ z, ((w.alloc (.cells #[(.func (.func sf) #[] #[.pointer (some ⟨s1, 0, none⟩), .pointer (some ⟨s2, 0, none⟩)])] 120)).alloc (.cells #[.int .i64 0] 3)).alloc (.cells #[.int .i64 (-1)] 3) = z := ⟨_, rfl⟩
  rw [hw5] at z0 z1 z2 hb
  have HFI : Hid (FW N m M w (grB w.heap.size (.func (.func sf) #[] #[.pointer (some ⟨s1, 0, none⟩), .pointer (some ⟨s2, 0, none⟩)]) fs (0, -1)) w5) := Lib.hid ⟨h.gw0.up hb, fun x hx => by
    simp only [grB, List.mem_cons] at hx
    rcases hx with rfl | rfl | rfl | hx
    · exact z0
    · exact z1
    · exact z2
    · exact (hb.block _ (heapsz (hfs x hx))).trans (hfs x hx)⟩
  have HLOW : Hid (∀ x ∈ fs, x.1 < w.heap.size) := Lib.hid fun x hx => heapsz (hfs x hx)
  have HSZ : Hid (M < w5.heap.size ∧ w.heap.size ≤ w5.heap.size ∧ w0.heap.size ≤ M ∧ M < w.heap.size ∧ w0.heap.size ≤ w.heap.size ∧ g1 < w.heap.size) := Lib.hid (by
    have e1 := h.mlt; have e2 := hb.size; have e3 := h.lt.2; have e4 := h.bel.size; have e5 := heapsz (hfs _ hg1); simp only at e5
    exact ⟨by omega, e2, e3, e1, e4, e5⟩)
  have HSUB : Hid (∀ a, ∀ x ∈ fs, x ∈ grB w.heap.size (.func (.func sf) #[] #[.pointer (some ⟨s1, 0, none⟩), .pointer (some ⟨s2, 0, none⟩)]) fs a) := Lib.hid fun a x hx => by simp [grB, hx]
  have HW5 := Lib.hid hw5
  have HSQ := Lib.hid (hseq w5 hb.size (HFI.out.sub (HSUB.out _)))
  have HCL := Lib.hid hcall
  obtain ⟨R, hR⟩ : ∃ z, grL f xs = z := ⟨_, rfl⟩
  have HR := Lib.hid hR
  rw [hR]
  clear z0 z1 z2 hb hw5 h hR hfs hseq hcall
  refine callsIn_wide.1 (callsIn_of_wp_marks (n := 5) Try.func78 rfl trivial (wpIn_wide.2 ?_) rfl)
  simp only [Try.ntmps78, List.size_toArray, List.length_cons, List.length_nil, Nat.reduceAdd, Nat.reduceSub, Array.replicate_succ, Array.replicate_zero, List.push_toArray, List.append_toArray, List.nil_append, List.cons_append]
  go_wp2_with fail
  rw [HW5.out]
  refine (wpIn_wide (n := 3)).1 ?_
  refine wpIn_rangeFunc_ownG rfl (by decide) (gf := gf) (lb := #[.pointer (some ⟨g1, 0, none⟩)]) rfl trivial heg HSQ.out
    kpB_t (kpB_b (by have := HSZ.out; omega) (by have := HSZ.out; omega)) (Below.refl _ _) (fun _ => rfl)
    (fun pre Wt => FW N m M w (grB w.heap.size (.func (.func sf) #[] #[.pointer (some ⟨s1, 0, none⟩), .pointer (some ⟨s2, 0, none⟩)]) fs ((pre.map vl).foldl (grF f) (0, -1))) Wt)
    (fun _ _ _ => False)
    (fun pre A B row hs hg hr => hs.own (n := w5.heap.size) HSZ.out.2.1 hg hr)
    (fun _ _ _ _ _ hs _ _ => hs)
    (show FW _ _ _ _ _ _ from HFI.out)
    (fun x => { tmps := List.toArray ((Value.func (.func gf) #[] #[.pointer (some ⟨g1, 0, none⟩)]) :: (.func (.func sf) #[] #[.pointer (some ⟨s1, 0, none⟩), .pointer (some ⟨s2, 0, none⟩)]) :: undef :: (Value.pointer (some ⟨w.heap.size, 0, none⟩)) :: (Value.pointer (some ⟨w.heap.size + 1, 0, none⟩)) :: (Value.pointer (some ⟨w.heap.size + 1 + 1, 0, none⟩)) :: (Value.int .i64 (vl x : Int)) :: undef :: (Value.func (.func gf) #[] #[.pointer (some ⟨g1, 0, none⟩)]) :: (Value.int .i64 (vl x : Int)) :: undef :: undef :: undef :: undef :: undef :: undef :: undef :: undef :: undef :: undef :: []), defers := [] })
    ?assign ?body ?done ?stop
  case assign =>
    intro l x Wt Kk hK
    gi_wp2
    exact hK
  case body =>
    intro l pre x Wt hI hlen
    have HI := Lib.hid hI
    have HE : Hid (((pre ++ [x]).map vl).foldl (grF f) (0, -1) = grF f ((pre.map vl).foldl (grF f) (0, -1)) (vl x)) := Lib.hid (by rw [List.map_append, List.foldl_append]; rfl)
    have HC := Lib.hid (HCL.out x Wt (hI.sub (HSUB.out _)))
    obtain ⟨⟨y, c⟩, hA⟩ : ∃ z, (pre.map vl).foldl (grF f) (0, -1) = z := ⟨_, rfl⟩
    rw [hA] at HE HI hI
    have a0 := cell_of_row Wt w.heap.size 0 _ 120 (0, 0) (hI.fix (w.heap.size, #[(.func (.func sf) #[] #[.pointer (some ⟨s1, 0, none⟩), .pointer (some ⟨s2, 0, none⟩)])], 120) (by simp [grB]))
    simp at a0
    clear hI hA hlen
    gi_wp2
    refine ⟨trivial, CallsIn.inRound l (callsIn_wide.2 (Calls.mono (by simpa using HC.out) ?_))⟩
    rintro e W1 ⟨rfl, hg⟩
    have hI1 := HI.out.go hg
    have HI1 := Lib.hid hI1
    have b1 := hI1.fix (w.heap.size + 1, #[.int .i64 (y : Int)], 3) (by simp [grB])
    have b2 := hI1.fix (w.heap.size + 1 + 1, #[.int .i64 c], 3) (by simp [grB])
    simp only at b1 b2
    have e1 := cell_of_row W1 (w.heap.size + 1) 0 _ 3 (0, 0) b1
    have e2 := cell_of_row W1 (w.heap.size + 1 + 1) 0 _ 3 (0, 0) b2
    simp at e1 e2
    have f1 : W1.frozen? ⟨w.heap.size + 1, 0, none⟩ = false := by simp [World.frozen?, b1]
    have f2 : W1.frozen? ⟨w.heap.size + 1 + 1, 0, none⟩ = false := by simp [World.frozen?, b2]
    have HKF : Hid (KeepsFrom w5.heap.size Wt W1) := Lib.hid (KeepsFrom.of_grownBy hg.gr (fun j e => by injection e with e; have := HSZ.out; omega))
    have HKB : Hid (KpB w0.heap.size g1 Wt W1) := Lib.hid ⟨hg.bel HSZ.out.2.2.1, World.cell?_of_block (a := ⟨g1, 0, none⟩) (by
      have hq := HI.out.fix (g1, gc, gt) (by simp [grB, hg1])
      exact (hg.cell hq (HI.out.gw.ne hq)).trans hq.symm)⟩
    have HN := Lib.hid (gr_set HI1.out (Nat.le_refl _) HLOW.out (vl x) (f (vl x)))
    have HKN : Hid (KpB w0.heap.size g1 W1 ((W1.setCell ⟨w.heap.size + 1, 0, none⟩ (.int .i64 (vl x : Int))).setCell ⟨w.heap.size + 1 + 1, 0, none⟩ (.int .i64 (f (vl x))))) := Lib.hid (by
      have hz := HSZ.out
      refine ⟨((Below.refl _ W1).setCell (p := ⟨w.heap.size + 1, 0, none⟩) (by simp; omega) _).setCell (p := ⟨w.heap.size + 1 + 1, 0, none⟩) (by simp; omega) _, World.cell?_of_block (a := ⟨g1, 0, none⟩) ?_⟩
      exact (Below.heap_setCell _ _ _ _ (show g1 ≠ w.heap.size + 1 + 1 by omega)).trans (Below.heap_setCell _ _ _ _ (show g1 ≠ w.heap.size + 1 by omega)))
    clear hI1 b1 b2 hg a0
    obtain ⟨Y, hY⟩ : ∃ z, f (vl x) = z := ⟨_, rfl⟩
    have HYF := Lib.hid hY
    rw [hY] at HN HKN ⊢
    clear hY HC
    by_cases hlt : c < Y
    · have HE2 : Hid (((pre ++ [x]).map vl).foldl (grF f) (0, -1) = (vl x, Y)) := Lib.hid (by rw [HE.out]; unfold grF; rw [HYF.out, if_pos hlt])
      gi_wp2
      refine ⟨HKF.out.trans (((KeepsOthers.setCell _ _ _).trans (KeepsOthers.setCell _ _ _)).from _), kpB_t HKB.out HKN.out, ?_⟩
      show FW _ _ _ _ (grB _ _ _ (((pre ++ [x]).map vl).foldl (grF f) (0, -1))) _
      rw [HE2.out]
      exact HN.out
    · have HE2 : Hid (((pre ++ [x]).map vl).foldl (grF f) (0, -1) = (y, c)) := Lib.hid (by rw [HE.out]; unfold grF; rw [HYF.out, if_neg hlt])
      gi_wp2
      refine ⟨HKF.out, HKB.out, ?_⟩
      show FW _ _ _ _ (grB _ _ _ (((pre ++ [x]).map vl).foldl (grF f) (0, -1))) _
      rw [HE2.out]
      exact HI1.out
  case done =>
    rintro D ys Wt hD hys hI hK
    have hRR : (ys.map vl).foldl (grF f) (0, -1) = R := by rw [hys]; exact HR.out
    rw [hRR] at hI
    have HI := Lib.hid hI
    have HM : Hid (Marks Wt w5.heap.size [D]) := Lib.hid ⟨by simp, fun E hE => by rw [List.mem_singleton.1 hE]; exact ⟨hD, hK⟩⟩
    clear hI hK hys hRR
    simp only [Exit.inBlock, Exit.then]
    go_wp2_with fail
    obtain ⟨r1, r2⟩ := R
    have HF : Hid (∀ u, FW N m M w (grB w.heap.size (.func (.func sf) #[] #[.pointer (some ⟨s1, 0, none⟩), .pointer (some ⟨s2, 0, none⟩)]) fs (r1, r2)) u → (u.cell? ⟨w.heap.size + 1, 0, none⟩ = some (.int .i64 (r1 : Int)) ∧ u.cell? ⟨w.heap.size + 1 + 1, 0, none⟩ = some (.int .i64 r2)) ∧
        (u.frozen? ⟨w.heap.size + 1, 0, none⟩ = false ∧ u.frozen? ⟨w.heap.size + 1 + 1, 0, none⟩ = false) ∧
        FW N m M w (grB w.heap.size (.func (.func sf) #[] #[.pointer (some ⟨s1, 0, none⟩), .pointer (some ⟨s2, 0, none⟩)]) fs (r1, r2)) (u.setCell ⟨w.heap.size + 1, 0, none⟩ (.int .i64 (r1 : Int))) ∧ FW N m M w (grB w.heap.size (.func (.func sf) #[] #[.pointer (some ⟨s1, 0, none⟩), .pointer (some ⟨s2, 0, none⟩)]) fs (r1, r2)) (u.setCell ⟨w.heap.size + 1 + 1, 0, none⟩ (.int .i64 r2))) := Lib.hid fun u hu => by
      have b1 := hu.fix (w.heap.size + 1, #[.int .i64 (r1 : Int)], 3) (by simp [grB])
      have b2 := hu.fix (w.heap.size + 1 + 1, #[.int .i64 r2], 3) (by simp [grB])
      simp only at b1 b2
      refine ⟨⟨by have := cell_of_row u (w.heap.size + 1) 0 _ 3 (0, 0) b1; simpa using this, by have := cell_of_row u (w.heap.size + 1 + 1) 0 _ 3 (0, 0) b2; simpa using this⟩, ⟨by simp [World.frozen?, b1], by simp [World.frozen?, b2]⟩, ?_, ?_⟩
      · refine hu.put (b := w.heap.size + 1) (cs := #[.int .i64 (r1 : Int)]) (t := 3) (by simp [grB]) (by omega) fun x hx => ?_
        by_cases he : x.1 = w.heap.size + 1
        · refine .inl ?_
          simp only [grB, List.mem_cons] at hx
          rcases hx with rfl | rfl | rfl | hx
          · simp at he
          · rfl
          · simp at he
          · have := HLOW.out x hx; omega
        · exact .inr ⟨hx, he⟩
      · refine hu.put (b := w.heap.size + 1 + 1) (cs := #[.int .i64 r2]) (t := 3) (by simp [grB]) (by omega) fun x hx => ?_
        by_cases he : x.1 = w.heap.size + 1 + 1
        · refine .inl ?_
          simp only [grB, List.mem_cons] at hx
          rcases hx with rfl | rfl | rfl | hx
          · simp at he; omega
          · simp at he
          · rfl
          · have := HLOW.out x hx; omega
        · exact .inr ⟨hx, he⟩
    refine wp_region_any (by kernel_rfl) (plan_guarded_any (γ := Unit) [4, 5] (fun _ => geCv w.heap.size (.int .i64 (r1 : Int)) (.int .i64 r2)) (fun _ _ u => FW N m M w (grB w.heap.size (.func (.func sf) #[] #[.pointer (some ⟨s1, 0, none⟩), .pointer (some ⟨s2, 0, none⟩)]) fs (r1, r2)) u ∧ KeepsOthers Wt u) () (by kernel_rfl) (by kernel_rfl) (by kernel_rfl) (by kernel_rfl) ?_ ?_ ?_ ?_)
    · intro t ht
      simp only [List.mem_cons, List.not_mem_nil, or_false] at ht
      rcases ht with rfl | rfl <;> rfl
    · exact ⟨HI.out.up ((Below.refl Wt.heap.size Wt).drew), ⟨Nat.le_refl _, fun _ _ h _ => h⟩⟩
    · refine allOps_array ?_
      refine ⟨?_, ?_, ?_, ?_, trivial⟩ <;> intro done g u hS hu hdep _ <;> obtain ⟨⟨e1, e2⟩, ⟨f1, f2⟩, y1, y2⟩ := HF.out u hS.1
      · exact sameQ (T := fun u => FW N m M w (grB w.heap.size (.func (.func sf) #[] #[.pointer (some ⟨s1, 0, none⟩), .pointer (some ⟨s2, 0, none⟩)]) fs (r1, r2)) u ∧ KeepsOthers Wt u) hS 18 rfl rfl (by simp [go_sem, evalBy, geCv, e1])
      · exact sameQ (T := fun u => FW N m M w (grB w.heap.size (.func (.func sf) #[] #[.pointer (some ⟨s1, 0, none⟩), .pointer (some ⟨s2, 0, none⟩)]) fs (r1, r2)) u ∧ KeepsOthers Wt u) hS 19 rfl rfl (by simp [go_sem, evalBy, geCv, e2])
      · exact sameS (T := fun u => FW N m M w (grB w.heap.size (.func (.func sf) #[] #[.pointer (some ⟨s1, 0, none⟩), .pointer (some ⟨s2, 0, none⟩)]) fs (r1, r2)) u ∧ KeepsOthers Wt u) (u' := u.setCell ⟨w.heap.size + 1, 0, none⟩ (.int .i64 (r1 : Int))) ⟨y1, hS.2.trans (KeepsOthers.setCell _ _ _)⟩ rfl rfl (by simp [go_sem, evalBy, geCv, e1, f1])
      · exact sameS (T := fun u => FW N m M w (grB w.heap.size (.func (.func sf) #[] #[.pointer (some ⟨s1, 0, none⟩), .pointer (some ⟨s2, 0, none⟩)]) fs (r1, r2)) u ∧ KeepsOthers Wt u) (u' := u.setCell ⟨w.heap.size + 1 + 1, 0, none⟩ (.int .i64 r2)) ⟨y2, hS.2.trans (KeepsOthers.setCell _ _ _)⟩ rfl rfl (by simp [go_sem, evalBy, geCv, e2, f2])
    · intro g u hS
      have hm : Marks u w5.heap.size [D] := ⟨by simp, fun E hE => ⟨(HM.out.2 E hE).1, hS.2.same _ _ (HM.out.2 E hE).2 rfl⟩⟩
      have HS := Lib.hid hS
      have HMM := Lib.hid hm
      clear hS hm
      simp [putAll, Act.put, geCv]
      go_wp2_with fail
      refine leaves_marks [D] u HMM.out (fun w' hk => ?_)
      have hf := HS.out.1.cellsK (n := w5.heap.size) HSZ.out.2.1 hk
      obtain ⟨⟨e1, e2⟩, _⟩ := HF.out _ hf
      exact ⟨.tuple #[.int .i64 (r1 : Int), .int .i64 r2], by simp [results, Try.results78, go_sem, e1, e2], rfl, hf.gw⟩
  case stop =>
    rintro D c pre W _ _ h _
    exact h.elim
end Go.Proofs.Yticmeeinjkoodaa

namespace Go.Proofs.Yticmeeinjkoodaa
open Go.RowKit Go.Shelf
attribute [local go_sem] Oper.semAt_some

theorem bit_lt {s k n : Nat} (hs : s < 2 ^ n) (hb : s.testBit k = true) : k < n := by
  rcases Nat.lt_or_ge k n with h | h
  · exact h
  · exfalso
    rw [Nat.testBit_lt_two_pow (Nat.lt_of_lt_of_le hs (Nat.pow_le_pow_right (by decide) h))] at hb
    exact absurd hb (by decide)
theorem pow32 {N : Nt} (K : NtOk N) : 2 ^ N.lo.length ≤ 32 := Nat.le_trans (Nat.pow_le_pow_right (by decide) K.n5.2) (by decide)
/-- What is asked of the slack of a set of loops. -/
def SlackC (w0 : World) (P M m : Nat) (V : NV) (N : Nt) (bv dv : Value) (s : Nat) : Prop :=
  ∀ W a t, Lw w0 P M V N m bv dv W → a ≤ N.lo.length → 0 ≤ t ∧ t ≤ 72 → Calls Try.prog 71 #[.pointer (some ⟨P, 0, none⟩), keyV s a t] W fun e w' => e = .returned (.int .i64 (slk N m s a t)) ∧ Gw N m M W w'
set_option maxRecDepth 100000 in
set_option maxHeartbeats 4000000 in
theorem slack1_any {w0 w : World} {P M m : Nat} {V : NV} {N : Nt} {bv dv : Value} (h : Lw w0 P M V N m bv dv w) {s a k s1 s2 : Nat} {t : Int} (hs : s < 32) (hb : s.testBit k = true) (hk : k < N.lo.length) (ha : a ≤ N.lo.length) (ht : 0 ≤ t ∧ t ≤ 72)
    (z1 : w.heap[s1]? = some (.cells #[.pointer (some ⟨P, 0, none⟩)] 94 (0, 0))) (z2 : w.heap[s2]? = some (.cells #[.int .i64 (s : Int), .int .i64 (a : Int), .int .i64 t] 108 (0, 0))) (hS : SlackC w0 P M m V N bv dv (s - 2 ^ k)) :
    Calls Try.prog 89 #[.int .i64 k, .pointer (some ⟨s1, 0, none⟩), .pointer (some ⟨s2, 0, none⟩)] w fun e w' => e = .returned (.int .i64 (byI N m (slk N m) s a t k)) ∧ Gw N m M w w' := by
  have HC := Lib.hid (slackBy_any h hs hb hk ha ht hS)
  have c1 := cell_of_row w s1 0 _ 94 (0, 0) z1
  simp at c1
  obtain ⟨x0, x1, x2⟩ := box3_cells z2
  clear z1 z2 h hs hb hk ha hS
  go_enter Try.func89, Try.ntmps89
  go_wp2_with fail
  refine HC.out.mono ?_
  rintro e w' ⟨rfl, hg⟩
  go_wp2_with fail
  go_ret
  exact ⟨rfl, hg⟩
def slCv (P C D M : Nat) (kv : Value) (v : Int) (b : Bool) : Tmp → Value
  | 2 => .pointer (some ⟨C, 0, none⟩)
  | 3 => .pointer (some ⟨D, 0, none⟩)
  | 17 => .pointer (some ⟨P, 0, none⟩)
  | 18 => .pointer (some ⟨P, 0, none⟩)
  | 19 => .pointer (some ⟨P, 5, none⟩)
  | 20 => .map (some M)
  | 21 => kv
  | 22 => .tuple #[.int .i64 v, .bool b]
  | 16 => .tuple #[.int .i64 v, .bool b]
  | 23 => .int .i64 v
  | 24 => .bool b
  | 5 => .int .i64 v
  | 6 => .bool b
  | _ => undef
def smCv (P C D M : Nat) (kv : Value) (v : Int) : Tmp → Value
  | 2 => .pointer (some ⟨C, 0, none⟩)
  | 3 => .pointer (some ⟨D, 0, none⟩)
  | 5 => .int .i64 v
  | 35 => .pointer (some ⟨P, 0, none⟩)
  | 36 => .pointer (some ⟨P, 0, none⟩)
  | 37 => .pointer (some ⟨P, 5, none⟩)
  | 38 => .map (some M)
  | 39 => kv
  | 40 => .int .i64 v
  | _ => undef
section
attribute [local irreducible] QT
set_option maxRecDepth 100000 in
set_option maxHeartbeats 4000000 in
theorem slack_step {w0 : World} {P M m : Nat} {V : NV} {N : Nt} {bv dv : Value} {s : Nat} (hs : s < 2 ^ N.lo.length) (hS : ∀ q, q < s → SlackC w0 P M m V N bv dv q) : SlackC w0 P M m V N bv dv s := by
  intro w a t h ha ht
  have hmf : ∀ (fn : Fn) (first cap : Array Value) (w : World), (Instr.makeFunc fn first cap).run Try.prog w = .ok (.func fn first cap) w := fun _ _ _ _ => rfl
  obtain ⟨z0, z1, hbn⟩ := two_new w (.cells #[.pointer (some ⟨P, 0, none⟩)] 94) (.cells #[.int .i64 (s : Int), .int .i64 (a : Int), .int .i64 t] 108)
  obtain ⟨w2, hw2⟩ : ∃ z, (w.alloc (.cells #[.pointer (some ⟨P, 0, none⟩)] 94)).alloc (.cells #[.int .i64 (s : Int), .int .i64 (a : Int), .int .i64 t] 108) = z := ⟨_, rfl⟩
  rw [hw2] at z0 z1 hbn
  have HW2 := Lib.hid hw2; have HB2 := Lib.hid hbn; have HLW := Lib.hid h
  have HL2 := Lib.hid (h.up hbn); have Z0 := Lib.hid z0; have Z1 := Lib.hid z1
  have c0 := cell_of_row w2 w.heap.size 0 _ 94 (0, 0) z0
  simp at c0
  obtain ⟨x0, x1, x2⟩ := box3_cells z1
  obtain ⟨AB, AD, cb, cd, _, r⟩ := HL2.out.rd
  have r1 := r.c1
  have r5' := r.c5
  have HNF := Lib.hid r.net.nf
  have hmf := r.net.mf
  have hn5 := h.ok.n5
  unfold maxLen at hmf
  have HS := Lib.hid hS; have HA := Lib.hid (And.intro ha (And.intro ht hs))
  have h32 := pow32 h.ok
  have HKB : Hid (KB s a t) := Lib.hid ⟨by omega, by omega, ht⟩
  obtain ⟨v, hv⟩ : ∃ z, slk N m s a t = z := ⟨_, rfl⟩
  have HV := Lib.hid hv
  rw [hv]
  have hs0 : (0 : Int) ≤ (s : Int) := by omega
  clear z0 z1 hbn hw2 h hS r ha hv hn5 h32
  by_cases h0 : s = 0
  · have hs1 : (s : Int) = 0 := by omega
    rw [hs1] at HW2
    rw [← HW2.out] at r1
    go_enter Try.func71, Try.ntmps71
    go_wp2_with fail
    go_ret
    rw [HW2.out]
    exact ⟨by rw [← HV.out, h0, slk_zero, HNF.out]; rfl, HLW.out.gw0.up HB2.out⟩
  · have h0' : ¬ (s : Int) = 0 := by omega
    have r5 := r5'
    clear r1 r5'
    obtain ⟨es, c, hm, ho⟩ := HL2.out.map
    obtain ⟨lv, lb, hlk, hlv⟩ := memo_look ho HKB.out M c
    have HLK := Lib.hid hlk; have HLV := Lib.hid hlv; have HM := Lib.hid (And.intro hm ho)
    have HF : Hid (∀ u : World, Below w2.heap.size w2 u → u.cell? ⟨w.heap.size, 0, none⟩ = some (.pointer (some ⟨P, 0, none⟩)) ∧ u.cell? ⟨P, 5, none⟩ = some (.map (some M)) ∧ (u.cell? ⟨w.heap.size + 1, 0, none⟩ = some (.int .i64 (s : Int)) ∧ u.cell? ⟨w.heap.size + 1, 1, none⟩ = some (.int .i64 (a : Int)) ∧ u.cell? ⟨w.heap.size + 1, 2, none⟩ = some (.int .i64 t)) ∧
        (Instr.lookup 123 (.map (some M)) (.agg #[.int .i64 (s : Int), .int .i64 (a : Int), .int .i64 t]) true).run Try.prog u = .ok (.tuple #[.int .i64 lv, .bool lb]) u) := Lib.hid fun u hu => by
      have q := (bcell hu).1
      exact ⟨(q _ _ (heapsz Z0.out)).trans c0, (q _ _ (cell_lt r5)).trans r5, ⟨(q _ _ (heapsz Z1.out)).trans x0, (q _ _ (heapsz Z1.out)).trans x1, (q _ _ (heapsz Z1.out)).trans x2⟩, HLK.out u ((hu.block _ (Array.getElem?_eq_some_iff.1 HM.out.1).1).trans HM.out.1)⟩
    clear hm ho hlk hlv c0 x0 x1 x2 r5
    go_enter Try.func71, Try.ntmps71
    go_wp2_with fail
    rw [HW2.out]
    refine wp_region_any (by kernel_rfl) (plan_guarded_any (γ := Unit) [2, 3] (fun _ => slCv P w.heap.size (w.heap.size + 1) M (.agg #[.int .i64 (s : Int), .int .i64 (a : Int), .int .i64 t]) lv lb) (fun _ _ u => Below w2.heap.size w2 u) () (by kernel_rfl) (by kernel_rfl) (by kernel_rfl) (by kernel_rfl) ?_ ?_ ?_ ?_)
    · intro t ht
      simp only [List.mem_cons, List.not_mem_nil, or_false] at ht
      rcases ht with rfl | rfl <;> rfl
    · exact (Below.refl w2.heap.size w2).drew
    · refine allOps_array ?_
      refine ⟨?_, ?_, ?_, ?_, ?_, ?_, ?_, ?_, ?_, ?_, ?_, trivial⟩ <;> intro done g u hS hu hdep _ <;> obtain ⟨p0, p5, ⟨y0, y1, y2⟩, hlk⟩ := HF.out u hS
      · exact sameQ (T := fun u => Below w2.heap.size w2 u) hS 17 rfl rfl (by simp [go_sem, evalBy, slCv, p0])
      · exact sameQ (T := fun u => Below w2.heap.size w2 u) hS 18 rfl rfl (by simp [go_sem, evalBy, slCv])
      · exact sameQ (T := fun u => Below w2.heap.size w2 u) hS 19 rfl rfl (by simp [go_sem, evalBy, slCv])
      · exact sameQ (T := fun u => Below w2.heap.size w2 u) hS 20 rfl rfl (by simp [go_sem, evalBy, slCv, p5])
      · exact sameQ (T := fun u => Below w2.heap.size w2 u) hS 21 rfl rfl (by simp [go_sem, evalBy, slCv, y0, y1, y2])
      · exact sameQ (T := fun u => Below w2.heap.size w2 u) hS 22 rfl rfl (by simp [go_sem, evalBy, slCv, hlk])
      · exact sameQ (T := fun u => Below w2.heap.size w2 u) hS 16 rfl rfl (by simp [go_sem, evalBy, slCv])
      · exact sameQ (T := fun u => Below w2.heap.size w2 u) hS 23 rfl rfl (by simp [go_sem, evalBy, slCv])
      · exact sameQ (T := fun u => Below w2.heap.size w2 u) hS 24 rfl rfl (by simp [go_sem, evalBy, slCv])
      · exact sameQ (T := fun u => Below w2.heap.size w2 u) hS 5 rfl rfl (by simp [go_sem, evalBy, slCv])
      · exact sameQ (T := fun u => Below w2.heap.size w2 u) hS 6 rfl rfl (by simp [go_sem, evalBy, slCv])
    · intro g w3 hb3
      obtain ⟨p0, p5, ⟨y0, y1, y2⟩, _⟩ := HF.out w3 hb3
      have HB3 := Lib.hid hb3
      simp [putAll, Act.put, slCv]
      clear hb3
      cases lb with
      | true =>
        have hev : lv = v := by rw [HLV.out rfl]; exact HV.out
        clear p0 p5 y0 y1 y2
        go_wp2_with fail
        go_ret
        exact ⟨rfl, HLW.out.gw0.up (HB2.out.trans (HB3.out.mono HB2.out.size))⟩
      | false =>
        have HL3 := Lib.hid (HL2.out.up HB3.out)
        clear p5
        go_wp2_with fail
        refine (loopsOf_any _ _).mono ?_
        rintro e w' ⟨rfl, rfl⟩
        have zs := heap_alloc_new w3 (.cells #[.int .i64 (s : Int)] 3)
        have hbs := (Below.refl w3.heap.size w3).alloc (Nat.le_refl _) (.cells #[.int .i64 (s : Int)] 3)
        obtain ⟨w4, hw4⟩ : ∃ z, w3.alloc (.cells #[.int .i64 (s : Int)] 3) = z := ⟨_, rfl⟩
        rw [hw4] at zs hbs ⊢
        have HB4 := Lib.hid (HB3.out.trans (hbs.mono HB3.out.size))
        have HL4 := Lib.hid (HL3.out.up hbs)
        have ZS := Lib.hid zs
        have hfs : ∀ x ∈ [(w.heap.size, #[Value.pointer (some ⟨P, 0, none⟩)], 94), (w.heap.size + 1, #[.int .i64 (s : Int), .int .i64 (a : Int), .int .i64 t], 108), (w3.heap.size, #[.int .i64 (s : Int)], 3)], w4.heap[x.1]? = some (.cells x.2.1 x.2.2 (0, 0)) := fun x hx => by
          simp only [List.mem_cons, List.not_mem_nil, or_false] at hx
          rcases hx with rfl | rfl | rfl
          · exact (HB4.out.block _ (heapsz Z0.out)).trans Z0.out
          · exact (HB4.out.block _ (heapsz Z1.out)).trans Z1.out
          · exact ZS.out
        have HGR := Lib.hid (greatest_any (α := PX (s : Int)) (vl := Subtype.val) HL4.out (gf := 96) (g1 := w3.heap.size) (sf := 89) (s1 := w.heap.size) (s2 := w.heap.size + 1) (gm := 5) hfs (gc := #[.int .i64 (s : Int)]) (gt := 3) (by simp) (enters_of Try.func96 (by kernel_rfl) rfl) (enters_of Try.func89 (by kernel_rfl) rfl) (pilL (s : Int)) (byI N m (slk N m) s a t)
          (fun W hW hF => plan_stops 2 (by decide) w3.heap.size w0.heap.size (s : Int) W (by have := heapsz ZS.out; omega) (by have := cell_of_row W w3.heap.size 0 _ 3 (0, 0) (hF.fix (w3.heap.size, #[.int .i64 (s : Int)], 3) (by simp)); simpa using this))
          (fun x W hF => by
            have hb := x.2.2
            rw [jack_bit] at hb
            have h32 := pow32 HL4.out.ok
            have hA := HA.out
            have hle := bit_le hb
            have hp := Nat.two_pow_pos x.1
            exact slack1_any (HL4.out.go hF.gw) (by omega) hb (bit_lt hA.2.2 hb) hA.1 hA.2.1 (hF.fix (w.heap.size, #[Value.pointer (some ⟨P, 0, none⟩)], 94) (by simp)) (hF.fix (w.heap.size + 1, #[.int .i64 (s : Int), .int .i64 (a : Int), .int .i64 t], 108) (by simp)) (HS.out _ (by omega))))
        clear zs hbs hw4 hfs p0 y0 y1 y2
        go_wp2_with fail
        refine HGR.out.mono ?_
        rintro e w5 ⟨rfl, hg5⟩
        have HG5 := Lib.hid hg5
        have HGW : Hid (Gw N m M w w5) := Lib.hid ((HLW.out.gw0.up (HB2.out.trans (HB4.out.mono HB2.out.size))).trans hg5)
        have hne0 : w.heap.size ≠ M := HL2.out.ne Z0.out
        have hne1 : w.heap.size + 1 ≠ M := HL2.out.ne Z1.out
        have z0 := hg5.cell ((HB4.out.block _ (heapsz Z0.out)).trans Z0.out) hne0
        have z1 := hg5.cell ((HB4.out.block _ (heapsz Z1.out)).trans Z1.out) hne1
        have HL5 := Lib.hid (HL4.out.go hg5)
        have HV2 : Hid ((grL (byI N m (slk N m) s a t) (pilL (s : Int))).2 = v) := Lib.hid (by rw [grL_snd, ← HV.out, slk_pos h0])
        obtain ⟨⟨r1, r2⟩, hR⟩ : ∃ z, grL (byI N m (slk N m) s a t) (pilL (s : Int)) = z := ⟨_, rfl⟩
        rw [hR] at HV2 ⊢
        have hv2 := HV2.out
        simp only at hv2
        subst hv2
        have Z05 := Lib.hid z0; have Z15 := Lib.hid z1
        clear hg5 z0 z1 hR hne0 hne1 HGR
        go_wp2_with fail
        apply tail_regionX
        case hs => exact (rfl : _ = [_, _, _, _, _, _] ++ [_])
        case hm => kernel_rfl
        case hT => kernel_rfl
        refine rel_any [2, 3, 5] [] (smCv P w.heap.size (w.heap.size + 1) M (.agg #[.int .i64 (s : Int), .int .i64 (a : Int), .int .i64 t]) r2) noF (by kernel_rfl) (by kernel_rfl) (by kernel_rfl) (by kernel_rfl) (by kernel_rfl) ?_ (fun _ _ _ _ _ _ => trivial) ?_ ?_
        · intro t ht
          simp only [List.mem_cons, List.not_mem_nil, or_false] at ht
          rcases ht with rfl | rfl | rfl <;> rfl
        · refine allOps_array ?_
          obtain ⟨AB, AD, cb, cd, _, r⟩ := HL5.out.rd
          have p5 := r.c5
          refine ⟨?_, ?_, ?_, ?_, ?_, ?_, trivial⟩ <;> intro g u hd_ <;> have q := (bcell u.h).1 <;> have y5 := (q _ _ (cell_lt p5)).trans p5 <;> obtain ⟨y0, y1, y2⟩ := box3_cells ((u.h.block _ (heapsz Z15.out)).trans Z15.out) <;> have yp := cell_of_row u.w w.heap.size 0 _ 94 (0, 0) ((u.h.block _ (heapsz Z05.out)).trans Z05.out) <;> simp at yp
          · refine ⟨rfl, relQ 35 rfl trivial ?_⟩
            simp [go_sem, evalBy, rhoT, relOf, smCv, yp]
          · refine ⟨rfl, relQ 36 rfl trivial ?_⟩
            simp [go_sem, evalBy, rhoT, relOf, smCv]
          · refine ⟨rfl, relQ 37 rfl trivial ?_⟩
            simp [go_sem, evalBy, rhoT, relOf, smCv]
          · refine ⟨rfl, relQ 38 rfl trivial ?_⟩
            simp [go_sem, evalBy, rhoT, relOf, smCv, y5]
          · refine ⟨rfl, relQ 39 rfl trivial ?_⟩
            simp [go_sem, evalBy, rhoT, relOf, smCv, y0, y1, y2]
          · refine ⟨rfl, relQ 40 rfl trivial ?_⟩
            simp [go_sem, evalBy, rhoT, relOf, smCv]
        · intro g u hf
          obtain ⟨es', c', hm', ho'⟩ := (HL5.out.up u.h).map
          obtain ⟨w6, hp6, hg6, hm6⟩ := memo_put hm' ho' HKB.out
          rw [HV.out] at hp6
          have HGF : Hid (Gw N m M w w6) := Lib.hid ((HGW.out.up u.h).trans ⟨hg6, (HL5.out.up u.h).mlt, hm6⟩)
          simp only [QT]
          unfold Oper.wp
          simp [go_sem, putAll, Act.put, rhoT, relOf, smCv, hp6]
          clear hp6 hg6 hm6 hm' ho' hf
          go_wp2_with fail
          go_ret
          exact ⟨rfl, HGF.out⟩
end
theorem slack_any {w0 : World} {P M m : Nat} {V : NV} {N : Nt} {bv dv : Value} : ∀ s, s < 2 ^ N.lo.length → SlackC w0 P M m V N bv dv s := by
  intro s
  induction s using Nat.strongRecOn with
  | ind s ih => exact fun hs => slack_step hs fun q hq => ih q hq (by omega)
theorem slackB {w0 w : World} {P M m : Nat} {V : NV} {N : Nt} {bv dv : Value} (h : Lw w0 P M V N m bv dv w) {s a k : Nat} {t : Int} (hs : s < 2 ^ N.lo.length) (hb : s.testBit k = true) (ha : a ≤ N.lo.length) (ht : 0 ≤ t ∧ t ≤ 72) :
    Calls Try.prog 90 #[.pointer (some ⟨P, 0, none⟩), keyV s a t, .int .i64 k] w fun e w' => e = .returned (.int .i64 (byI N m (slk N m) s a t k)) ∧ Gw N m M w w' :=
  slackBy_any h (by have := pow32 h.ok; omega) hb (bit_lt hs hb) ha ht (slack_any _ (Nat.lt_of_le_of_lt (Nat.sub_le _ _) hs))
end Go.Proofs.Yticmeeinjkoodaa

namespace Go
open Go.RowKit
variable {F : Fence} {n : Nat} {P : Program}
theorem wpIn_rangeFunc_writesG {α : Type} {g : Operand} {ps : Array Tmp} {assign body : Code} {Q : Exit → Act → World → Prop} {a : Act} {w : World}
    (hro : F.round = none) (h1 : 1 ≤ n) {gf : Nat} {lb : Array Value} (hg : a.eval g = .func (.func gf) #[] lb) (hFg : F.fn gf) (eg : ∀ args w, (callFunc gf args).run P w = .ok (.enter gf args) w)
    {encs : α → Array Value} {Kp St : World → World → Prop} {S Sp : List α → Prop} {w0 : World} (hseq : SeqW F (n - 1) P gf lb encs Kp St S Sp w0)
    (hSt : ∀ A B, St A B → ∀ k o, w.heap.size ≤ k → A.heap[k]? = some o → o.isCells = false → B.heap[k]? = some o)
    (hKt : ∀ {A B C : World}, Kp A B → Kp B C → Kp A C) (hKb : ∀ (W : World) (l : Nat) (o o' : Obj), w.heap.size ≤ l → W.heap[l]? = some o → o.isCells = false → o.isWalk = false → Kp W (W.putObj l o')) (hb0 : Below w0.heap.size w0 w) (hps : ∀ x, (encs x).size = ps.size)
    (I : List α → World → Prop) (Ix : Code → List α → World → Prop) (hI : OwnFrom w.heap.size I) (hIx : ∀ c, OwnFrom w.heap.size (Ix c)) (hIS : ∀ s A B, I s A → St A B → I s B) (h0 : I [] w) (Ax : α → Act → World → Prop) (hAx : ∀ x a', OwnFrom w.heap.size (fun (_ : Unit) W => Ax x a' W))
    (hassign : ∀ (l : Nat) (pre : List α) (x : α) (W : World) (K : Act → World → Prop), I pre W → (∀ a' W', KeepsFrom w.heap.size W W' → Kp W W' → I pre W' → Ax x a' W' → K a' W') →
      assign.wpIn (F.inRound l) (n - 1 - 1) P (Exit.then K (fun _ _ _ => False)) { tmps := (ps.zip (encs x)).foldl (fun t (p, v) => t.setIfInBounds p v) a.tmps, defers := [] } W)
    (hbody : ∀ (l : Nat) (pre : List α) (x : α) (a' : Act) (W : World), I pre W → Ax x a' W → Sp (pre ++ [x]) → body.wpIn (F.inRound l) (n - 1 - 1) P (ownPostG w.heap.size Kp I Ix (pre ++ [x]) W) a' W)
    (hdone : ∀ (D : Nat) (xs : List α) (W : World), w.heap.size ≤ D → S xs → I xs W → W.heap[D]? = some (.deferred (some [])) → Q .normal { a with defers := { target := .collected D, args := #[] } :: a.defers } W)
    (hstop : ∀ (D : Nat) (c : Code) (pre : List α) (W : World), w.heap.size ≤ D → Sp pre → Ix c pre W → W.heap[D]? = some (.deferred (some [])) → c.wpIn F n P Q { a with defers := { target := .collected D, args := #[] } :: a.defers } W) :
    (Code.rangeFunc g ps assign body).wpIn F n P Q a w := by
  refine wpIn_rangeFunc fun fn hfn => ?_
  rw [hro]
  obtain ⟨R, hR⟩ : ∃ R : LoopState → Option Code → Loop, R = fun st pe => { state := st, pending := pe, fn, tmps := a.tmps, params := ps, assign, body, defers := w.heap.size } := ⟨_, rfl⟩
  obtain ⟨V, hV⟩ : ∃ V, (w.alloc (.deferred (some []))).alloc (.loop (R .ready none)) = V := ⟨_, rfl⟩
  have hLV : LoopLaid w.heap.size (R .ready none) V := by
    subst hV
    refine ⟨?_, (Below.heap_alloc _ _ _ (by simp)).trans (World.alloc_heap_new w _)⟩
    have := World.alloc_heap_new (w.alloc (.deferred (some []))) (.loop (R .ready none))
    rwa [World.size_alloc] at this
  have hIV : I [] V := by rw [← hV]; exact hI.alloc _ (hI.alloc _ h0)
  have hBV : Below w0.heap.size w0 V := by
    rw [← hV]
    exact hb0.trans ((((Below.refl _ w).alloc (Nat.le_refl _) _).alloc (by simp) _).mono hb0.size)
  refine ⟨w.heap.size + 1, [{ target := .collected w.heap.size, args := #[] }], V, { target := .fn (.func gf) lb, args := #[.func (.yield (w.heap.size + 1)) #[] #[]] }, V, gf,
    #[.func (.yield (w.heap.size + 1)) #[] #[]] ++ lb, V, ?_, ?_, ?_, ?_, fun _ => h1, ?_⟩
  · rw [← hV, hR]; exact run_enterLoop_outer _ _ _ _ _
  · simp only [resolve, hg]
    simp [go_sem]
  · intro f' hf'; simp [Target.leads] at hf'; subst hf'; exact hFg
  · simp [invoke, go_sem, eg]
  · refine (hseq (w.heap.size + 1) (fun pre W => I pre W ∧ LoopLaid w.heap.size (R .ready none) W) (fun pre W => ∃ c, Ix c pre W ∧ LoopLaid w.heap.size (R .done (some c)) W) V hBV
      (fun s A B h hs => ⟨hIS s A B h.1 hs, h.2.keep (hSt A B hs)⟩) ?_ ⟨hIV, hLV⟩).mono ?_
    · rintro pre x W ⟨hi, hl⟩ hlen
      have hy := run_yield (P := P) (args := encs x) hl.1 (by rw [hR]; exact hps x)
      rw [hR] at hy
      refine ⟨fn, _, assign, body, hy, roundIn_of_wpIn hfn (hassign _ pre x W _ hi fun a' Wa hka hkpa hia hax => ?_)⟩
      replace hl := hl.keep hka.same
      refine ⟨_, run_beginRound hl.1 (by rw [hR]), ?_⟩
      obtain ⟨RB, hRB⟩ : ∃ z, ({ R .ready none with state := .busy } : Loop) = z := ⟨_, rfl⟩
      have hlb := hl.put (r' := RB)
      have hkb : Kp Wa (Wa.putObj (w.heap.size + 1) (.loop RB)) := hKb _ _ _ _ (by omega) hl.1 rfl rfl
      rw [hRB]
      refine wpIn_mono (hbody _ pre x _ _ (hI.putObj _ hia (by omega) hl.1 rfl) ((hAx x a').putObj (s := ()) _ hax (by omega) hl.1 rfl) hlen) ?_
      have fin : ∀ (jump : Option Code) (W3 : World), KeepsFrom w.heap.size (Wa.putObj (w.heap.size + 1) (.loop RB)) W3 →
          (Instr.endRound (w.heap.size + 1) jump).run P W3 = .ok (.bool jump.isNone) (W3.putObj (w.heap.size + 1) (.loop (R (if jump.isNone then .ready else .done) jump))) ∧ LoopLaid w.heap.size RB W3 ∧
          LoopLaid w.heap.size (R (if jump.isNone then .ready else .done) jump) (W3.putObj (w.heap.size + 1) (.loop (R (if jump.isNone then .ready else .done) jump))) := fun jump W3 hk3 => by
        have h3 := hlb.keep fun k o hB => hk3.same k o hB
        refine ⟨?_, h3, h3.put⟩
        have := run_endRound (P := P) jump h3.1
        rw [← hRB, hR] at this
        rw [hR]
        exact this
      rintro e a3 W3 hp
      have leave : ∀ (c : Code), KeepsFrom w.heap.size (Wa.putObj (w.heap.size + 1) (.loop RB)) W3 → Ix c (pre ++ [x]) W3 → Ix c (pre ++ [x]) (W3.putObj (w.heap.size + 1) (.loop (R .done (some c)))) ∧ LoopLaid w.heap.size (R .done (some c)) (W3.putObj (w.heap.size + 1) (.loop (R .done (some c)))) := fun c hk hi3 => by
        obtain ⟨_, h3, h4⟩ := fin (some c) W3 hk
        exact ⟨(hIx c).putObj _ hi3 (by omega) h3.1 rfl, h4⟩
      cases e with
      | normal =>
        obtain ⟨hk3, hkp3, hi3⟩ := hp
        obtain ⟨hr, h3, h4⟩ := fin none W3 hk3
        exact ⟨_, _, hr, .inl ⟨rfl, ⟨hI.putObj _ hi3 (by omega) h3.1 rfl, h4⟩, hKt (hKt (hKt hkpa hkb) hkp3) (hKb _ _ _ _ (by omega) h3.1 rfl rfl)⟩⟩
      | ret => exact ⟨_, _, (fin (some .ret) W3 hp.1).1, .inr ⟨rfl, .ret, leave _ hp.1 hp.2⟩⟩
      | exit id => exact ⟨_, _, (fin (some (.exit id)) W3 hp.1).1, .inr ⟨rfl, .exit id, leave _ hp.1 hp.2⟩⟩
      | goto t => exact ⟨_, _, (fin (some (.goto t)) W3 hp.1).1, .inr ⟨rfl, .goto t, leave _ hp.1 hp.2⟩⟩
      | panic ch => exact hp.elim
      | outgrown => exact hp.elim
    · rintro e W2 ⟨⟨v, rfl⟩, (⟨xs, hS, hi, hl⟩ | ⟨pre, hSp, c, hi, hl⟩)⟩
      · refine ⟨none, _, by have := run_endLoop (P := P) hl.1 (by rw [hR]; simp); rw [hR] at this; exact this, ?_⟩
        exact hdone _ xs _ (Nat.le_refl _) hS (hI.putObj _ hi (by omega) hl.1 rfl) ((World.putObj_heap_other (by omega)).trans hl.2)
      · refine ⟨some c, _, by have := run_endLoop (P := P) hl.1 (by rw [hR]; simp); rw [hR] at this; exact this, ?_⟩
        exact hstop _ c pre _ (Nat.le_refl _) hSp ((hIx c).putObj _ hi (by omega) hl.1 rfl) ((World.putObj_heap_other (by omega)).trans hl.2)
end Go
namespace Go.Proofs.Yticmeeinjkoodaa
open Go.RowKit Go.Shelf
attribute [local go_sem] Oper.semAt_some

theorem pil_pre {s : Int} {k : Nat} (hk : k < 5) (hj : jackB s k = true) : ∃ rest, pilL s = (List.range k).filter (fun k => jackB s k) ++ k :: rest := by
  obtain ⟨d, hd⟩ : ∃ d, 5 = (k + 1) + d := ⟨5 - (k + 1), by omega⟩
  refine ⟨((List.range d).map (k + 1 + ·)).filter fun k => jackB s k, ?_⟩
  show (List.range 5).filter (fun k => jackB s k) = _
  rw [hd, List.range_add, List.filter_append, pil_take, if_pos hj]
  simp
set_option maxRecDepth 100000 in
set_option maxHeartbeats 2000000 in
theorem plan1_inP (n : Nat) (hn : 1 ≤ n) (l Bn n₀ : Nat) (s : Int) (J Jx : List (PX s) → World → Prop)
    (hY : ∀ pre x W, J pre W → (∃ rest, pilL s = pre.map Subtype.val ++ x.1 :: rest) → YieldAt Fence.wide (n - 1) Try.prog l #[.int .i64 (x.1 : Int)] W fun e W' =>
      (e = .returned (.bool true) ∧ J (pre ++ [x]) W' ∧ KpB n₀ Bn W W') ∨ (e = .returned (.bool false) ∧ Jx (pre ++ [x]) W'))
    (W : World) (c0 : W.cell? ⟨Bn, 0, none⟩ = some (.int .i64 s)) (h0 : J [] W) :
    CallsIn Fence.wide n Try.prog 96 #[.func (.yield l) #[] #[], .pointer (some ⟨Bn, 0, none⟩)] W fun e W' => (∃ v, e = .returned v) ∧
      ((∃ ys, ys.map Subtype.val = pilL s ∧ J ys W') ∨ (∃ pre, True ∧ Jx pre W')) := by
  have C0 := Lib.hid c0
  refine callsIn_of_wp Try.func96 rfl trivial ?_ rfl
  simp only [Try.ntmps96, List.size_toArray, List.length_cons, List.length_nil, Nat.reduceAdd, Nat.reduceSub, Array.replicate_succ, Array.replicate_zero, List.push_toArray, List.append_toArray, List.nil_append, List.cons_append]
  gi_wp2
  gi_loopw [4] (fun i wr => ∃ (k : Nat) (pre : List (PX s)), k ≤ 5 ∧ i = .int .i64 k ∧ pre.map Subtype.val = (List.range k).filter (fun k => jackB s k) ∧ J pre wr ∧ wr.cell? ⟨Bn, 0, none⟩ = some (.int .i64 s)) (fun i _ => 5 - (intOf i).toNat)
  case atStart => exact ⟨0, [], by omega, rfl, by simp, h0, C0.out⟩
  case round =>
    clear c0
    obtain ⟨k, pre, hk, rfl, hpre, hJs, c0⟩ := hrel
    have HP := Lib.hid hpre; clear hpre
    by_cases hlt : k < 5
    · have hk1 : (k : Int) < 5 := by omega
      have hb := and_one (s / 2 ^ k)
      have hkk0 : (0 : Int) ≤ (k : Int) := by omega
      have hkk1 : (k : Int) ≤ 64 := by omega
      have hjb : jackB s k = decide (s / 2 ^ k % 2 = 1) := by unfold jackB; rw [half_pow]
      cases hj : jackB s k with
      | false =>
        have HJ := Lib.hid hj
        rw [hjb] at hj
        have hz : s / 2 ^ k % 2 = 0 := by have := of_decide_eq_false hj; omega
        rw [hz] at hb
        clear hj hjb hz
        gi_wp2
        refine ⟨fun _ _ => trivial, ?_⟩
        gi_wp2
        go_roundw
        case rel => exact ⟨k + 1, pre, by omega, by go_num, by rw [pil_take, HJ.out, HP.out]; simp, hJs, c0⟩
        case measure => simp [intOf]; omega
      | true =>
        have HJ := Lib.hid hj
        rw [hjb] at hj
        rw [of_decide_eq_true hj] at hb
        clear hj hjb
        have hj := HJ.out
        obtain ⟨fn, tmps, assign, body, hy, hR⟩ := hY pre ⟨k, hlt, hj⟩ _ hJs (by rw [HP.out]; exact pil_pre hlt hj)
        dsimp only at hy
        gi_wp2
        refine hR.mono ?_
        rintro e W3 h4
        obtain ⟨bv, rfl, h3⟩ := two h4
        clear h4 hy
        have hmap : (pre ++ [(⟨k, hlt, hj⟩ : PX s)]).map Subtype.val = (List.range (k + 1)).filter (fun k => jackB s k) := by
          rw [List.map_append, HP.out, pil_take, if_pos HJ.out]
          rfl
        have HB := Lib.hid hmap
        clear hmap
        rcases h3 with ⟨rfl, hJ3, hk3⟩ | ⟨rfl, hJx3⟩
        · have hcB : W3.cell? ⟨Bn, 0, none⟩ = some (.int .i64 s) := hk3.2.trans c0
          have HcB := Lib.hid hcB
          clear hcB hk3
          gi_wp2
          go_roundw
          case rel => exact ⟨k + 1, _, by omega, by go_num, HB.out, hJ3, HcB.out⟩
          case measure => simp [intOf]; omega
        · gi_wp2
          refine bodyPost_ret (results_none rfl _ _ _) rfl ?_
          exact ⟨⟨_, rfl⟩, .inr ⟨_, trivial, hJx3⟩⟩
    · have hk1 : ¬ (k : Int) < 5 := by omega
      have hk6 : k = 5 := by omega
      subst hk6
      gi_wp2
      go_end0
      exact ⟨⟨_, rfl⟩, .inl ⟨_, HP.out, hJs⟩⟩
theorem plan_seqP (n : Nat) (hn : 1 ≤ n) (Bn n₀ : Nat) (s : Int) (w : World) (hBn : Bn < w.heap.size) (c0 : w.cell? ⟨Bn, 0, none⟩ = some (.int .i64 s)) :
    SeqW Fence.wide n Try.prog 96 #[.pointer (some ⟨Bn, 0, none⟩)] (fun x : PX s => #[.int .i64 (x.1 : Int)]) (KpB n₀ Bn) (fun A B => A = B) (fun ys => ys.map Subtype.val = pilL s) (fun l => ∃ pre x rest, l = pre ++ [x] ∧ pilL s = pre.map Subtype.val ++ x.1 :: rest) w := fun l J Jx W hW _ hY h0 => by
  obtain ⟨r1, _⟩ := bcell hW
  refine (plan1_inP n hn l Bn n₀ s J (fun p W => (∃ pre x rest, p = pre ++ [x] ∧ pilL s = pre.map Subtype.val ++ x.1 :: rest) ∧ Jx p W) (fun pre x W hJ hr => ?_) W ((r1 _ _ hBn).trans c0) h0).mono ?_
  · obtain ⟨rest, hr⟩ := hr
    refine (hY pre x W hJ ⟨pre, x, rest, rfl, hr⟩).mono ?_
    rintro e W' (h | h)
    · exact .inl h
    · exact .inr ⟨h.1, ⟨pre, x, rest, rfl, hr⟩, h.2⟩
  · rintro e W' ⟨h1, h2 | ⟨pre, _, h3, h4⟩⟩
    · exact ⟨h1, .inl h2⟩
    · exact ⟨h1, .inr ⟨pre, h3, h4⟩⟩
end Go.Proofs.Yticmeeinjkoodaa

namespace Go.Proofs.Yticmeeinjkoodaa
open Go.RowKit Go.Shelf
attribute [local go_sem] Oper.semAt_some

theorem weak_at {N : Nt} {m place : Nat} : ∀ (fs : List Int) (i k : Nat) (f : Int), fs[k]? = some f → (∀ j g, j < k → fs[j]? = some g → ¬ slk N m g.toNat place 0 = -1) → slk N m f.toNat place 0 = -1 → weakF N m place fs i = ((i + k : Nat) : Int)
  | [], _, _, _, h, _, _ => by simp at h
  | g :: fs, i, 0, f, h, _, h1 => by
    simp at h
    subst h
    unfold weakF
    rw [if_pos h1]
    simp
  | g :: fs, i, k + 1, f, h, h0, h1 => by
    unfold weakF
    rw [if_neg (h0 0 g (by omega) rfl), weak_at fs (i + 1) k f (by simpa using h) (fun j x hj hx => h0 (j + 1) x (by omega) (by simpa using hx)) h1]
    omega
theorem weak_none {N : Nt} {m place : Nat} : ∀ (fs : List Int) (i : Nat), (∀ (j : Nat) (g : Int), fs[j]? = some g → ¬ slk N m g.toNat place 0 = -1) → weakF N m place fs i = -1
  | [], _, _ => rfl
  | g :: fs, i, h => by
    unfold weakF
    rw [if_neg (h 0 g rfl)]
    exact weak_none fs (i + 1) fun j x hx => h (j + 1) x (by simpa using hx)
set_option maxRecDepth 100000 in
set_option maxHeartbeats 4000000 in
theorem weak_any {w0 w : World} {P M m : Nat} {V : NV} {N : Nt} {bv dv : Value} (h : Lw w0 P M V N m bv dv w) {place : Nat} (hp : place ≤ N.lo.length) {A : Option Addr} {n c : Nat} {fs : List Int} (hl : fs.length = n) (hn : n ≤ maxLen) (hA : IntsAt w M A fs) (hf : ∀ f ∈ fs, 0 ≤ f ∧ f < 2 ^ N.lo.length) :
    Calls Try.prog 77 #[.pointer (some ⟨P, 0, none⟩), .int .i64 place, .slice A n c] w fun e w' => e = .returned (.int .i64 (weakI N m place fs)) ∧ Gw N m M w w' := by
  unfold maxLen at hn
  have HL := Lib.hid h; have HG := Lib.hid h.gw0; have HLN := Lib.hid hl; have HA := Lib.hid hA; have HFS := Lib.hid hf; have HP := Lib.hid hp
  have hwi : ∀ (k : Nat) (f : Int), fs[k]? = some f → (∀ (j : Nat) (g : Int), j < k → fs[j]? = some g → ¬ slk N m g.toNat place 0 = -1) → slk N m f.toNat place 0 = -1 → weakI N m place fs = (k : Int) := fun k f h1 h2 h3 => by unfold weakI; rw [weak_at fs 0 k f h1 h2 h3]; simp
  have hwn : (∀ (j : Nat) (g : Int), fs[j]? = some g → ¬ slk N m g.toNat place 0 = -1) → weakI N m place fs = -1 := fun h1 => weak_none fs 0 h1
  have HWI := Lib.hid hwi; have HWN := Lib.hid hwn
  clear h hl hA hf hp hwi hwn
  go_enter Try.func77, Try.ntmps77
  go_wp2_with fail
  go_loopw [11] (fun ii wr => ∃ k : Nat, k ≤ n ∧ ii = .int .i64 k ∧ (∀ (j : Nat) (g : Int), j < k → fs[j]? = some g → ¬ slk N m g.toNat place 0 = -1) ∧ Gw N m M w wr) (fun ii _ => n - (intOf ii).toNat)
  case atStart => exact ⟨0, by omega, rfl, fun _ _ hj => absurd hj (Nat.not_lt_zero _), HG.out⟩
  case round =>
    obtain ⟨k, hk, rfl, hno, hg⟩ := hrel
    have HNO := Lib.hid hno; have HGW := Lib.hid hg
    clear hno hg
    by_cases hlt : k < n
    · have k3 : (0 : Int) ≤ (k : Int) := by omega
      have k4 : (k : Int) < (n : Int) := by omega
      obtain ⟨f, hfk⟩ := get_of_lt (l := fs) (k := k) (by rw [HLN.out]; exact hlt)
      obtain ⟨b, o, rfl, hbb, d0⟩ := ints_el (HA.out.next (HGW.out.bel (Nat.le_refl _)) (Nat.le_refl _)) hfk
      obtain ⟨hf0, hf1⟩ := HFS.out f (List.mem_of_getElem? hfk)
      obtain ⟨s, rfl⟩ : ∃ s : Nat, f = s := ⟨f.toNat, by omega⟩
      have HX := Lib.hid hfk
      have HC := Lib.hid (slack_any (m := m) s (by have : ((2 : Int) ^ N.lo.length) = ((2 ^ N.lo.length : Nat) : Int) := by simp
                                                   omega) wr place 0 (HL.out.go HGW.out) HP.out (by omega))
      clear hfk hbb hf0 hf1
      go_wp2_with fail
      refine HC.out.mono ?_
      rintro e w' ⟨rfl, hg⟩
      have HG2 := Lib.hid (HGW.out.trans hg)
      obtain ⟨v, hv⟩ : ∃ z, slk N m s place 0 = z := ⟨_, rfl⟩
      have HV := Lib.hid hv
      rw [hv]
      clear hg hv HC
      by_cases hv1 : v = -1
      · go_wp2_with fail
        go_ret
        exact ⟨by rw [HWI.out k (s : Int) HX.out HNO.out (by rw [Int.toNat_natCast, HV.out]; exact hv1)]; rfl, HG2.out⟩
      · go_wp2_with fail
        refine ⟨⟨k + 1, by omega, rfl, fun j g hj hg => ?_, HG2.out⟩, by simp [intOf]; omega⟩
        by_cases hjk : j < k
        · exact HNO.out j g hjk hg
        · obtain rfl : j = k := by omega
          rw [HX.out] at hg
          injection hg with hg
          rw [← hg, Int.toNat_natCast, HV.out]
          exact hv1
    · obtain rfl : n = k := by omega
      have k4 : ¬ (n : Int) < (n : Int) := by omega
      go_wp2_with fail
      go_ret
      exact ⟨by rw [HWN.out fun j g hg => HNO.out j g (by have := (List.getElem?_eq_some_iff.1 hg).1; have := HLN.out; omega) hg]; rfl, HGW.out⟩
end Go.Proofs.Yticmeeinjkoodaa

namespace Go.Proofs.Yticmeeinjkoodaa
open Go.RowKit Go.Shelf
attribute [local go_sem] Oper.semAt_some

theorem sof_take {N : Nt} {m place k : Nat} {fs : List Int} {f : Int} (h : fs[k]? = some f) : sofI N m (fs.take (k + 1)) place = min (sofI N m (fs.take k) place) (slk N m f.toNat place 0) := by
  unfold sofI
  rw [List.take_add_one, h, Option.toList_some, List.foldl_append]
  rfl
theorem sof_in {N : Nt} (K : NtOk N) (m place : Nat) : ∀ (fs : List Int) , -1 ≤ sofI N m fs place ∧ sofI N m fs place ≤ N.fr.length := by
  have key : ∀ (fs : List Int) (a : Int), -1 ≤ a → a ≤ N.fr.length → -1 ≤ fs.foldl (fun a f => min a (slk N m f.toNat place 0)) a ∧ fs.foldl (fun a f => min a (slk N m f.toNat place 0)) a ≤ N.fr.length := fun fs => by
    induction fs with
    | nil => exact fun a h1 h2 => ⟨h1, h2⟩
    | cons f fs ih =>
      intro a h1 h2
      have h3 := slk_ge N m f.toNat place 0
      have h4 := slk_le (wayOk K) m f.toNat place (t := 0) (by omega)
      exact ih (min a (slk N m f.toNat place 0)) (by omega) (by omega)
  exact fun fs => key fs _ (by omega) (by omega)
set_option maxRecDepth 100000 in
set_option maxHeartbeats 4000000 in
theorem slackOf_any {w0 w : World} {P M m : Nat} {V : NV} {N : Nt} {bv dv : Value} (h : Lw w0 P M V N m bv dv w) {place : Nat} (hp : place ≤ N.lo.length) {A : Option Addr} {n c : Nat} {fs : List Int} (hl : fs.length = n) (hn : n ≤ maxLen) (hA : IntsAt w M A fs) (hf : ∀ f ∈ fs, 0 ≤ f ∧ f < 2 ^ N.lo.length) :
    Calls Try.prog 81 #[.pointer (some ⟨P, 0, none⟩), .int .i64 place, .slice A n c] w fun e w' => e = .returned (.int .i64 (sofI N m fs place)) ∧ Gw N m M w w' := by
  unfold maxLen at hn
  obtain ⟨AB, AD, cb, cd, _, r⟩ := h.rd
  have r1 := r.c1
  have HNF := Lib.hid r.net.nf
  have hmf := r.net.mf
  unfold maxLen at hmf
  have HL := Lib.hid h; have HG := Lib.hid h.gw0; have HLN := Lib.hid hl; have HA := Lib.hid hA; have HFS := Lib.hid hf; have HP := Lib.hid hp
  clear h hl hA hf hp r
  go_enter Try.func81, Try.ntmps81
  go_wp2_with fail
  go_loopw [7, 9, 18] (fun aa xx ii wr => ∃ k : Nat, k ≤ n ∧ ii = .int .i64 k ∧ aa = .int .i64 (sofI N m (fs.take k) place) ∧ Gw N m M w wr) (fun _ _ ii _ => n - (intOf ii).toNat)
  case atStart => exact ⟨0, by omega, rfl, by rw [← HNF.out]; rfl, HG.out⟩
  case round =>
    obtain ⟨k, hk, rfl, rfl, hg⟩ := hrel
    have HGW := Lib.hid hg
    clear hg r1
    by_cases hlt : k < n
    · have k3 : (0 : Int) ≤ (k : Int) := by omega
      have k4 : (k : Int) < (n : Int) := by omega
      obtain ⟨f, hfk⟩ := get_of_lt (l := fs) (k := k) (by rw [HLN.out]; exact hlt)
      obtain ⟨b, o, rfl, hbb, d0⟩ := ints_el (HA.out.next (HGW.out.bel (Nat.le_refl _)) (Nat.le_refl _)) hfk
      obtain ⟨hf0, hf1⟩ := HFS.out f (List.mem_of_getElem? hfk)
      obtain ⟨s, rfl⟩ : ∃ s : Nat, f = s := ⟨f.toNat, by omega⟩
      have HT : Hid (sofI N m (fs.take (k + 1)) place = min (sofI N m (fs.take k) place) (slk N m s place 0)) := Lib.hid (by rw [sof_take hfk, Int.toNat_natCast])
      have HC := Lib.hid (slack_any (m := m) s (by have : ((2 : Int) ^ N.lo.length) = ((2 ^ N.lo.length : Nat) : Int) := by simp
                                                   omega) wr place 0 (HL.out.go HGW.out) HP.out (by omega))
      clear hfk hbb hf0 hf1
      obtain ⟨v, hv⟩ : ∃ z, slk N m s place 0 = z := ⟨_, rfl⟩
      obtain ⟨u, hu⟩ : ∃ z, sofI N m (fs.take k) place = z := ⟨_, rfl⟩
      rw [hv, hu] at HT
      rw [hv] at HC
      rw [hu]
      clear hv hu
      go_wp2_with fail
      refine HC.out.mono ?_
      rintro e w' ⟨rfl, hg⟩
      have HG2 := Lib.hid (HGW.out.trans hg)
      clear hg HC
      by_cases hvu : v < u
      · go_wp2_with fail
        exact ⟨⟨k + 1, by omega, rfl, by rw [HT.out, show min u v = v by omega], HG2.out⟩, by simp [intOf]; omega⟩
      · go_wp2_with fail
        exact ⟨⟨k + 1, by omega, rfl, by rw [HT.out, show min u v = u by omega], HG2.out⟩, by simp [intOf]; omega⟩
    · obtain rfl : n = k := by omega
      have k4 : ¬ (n : Int) < (n : Int) := by omega
      have hte : fs.take n = fs := by rw [← HLN.out, List.take_length]
      rw [hte]
      go_wp2_with fail
      go_ret
      exact ⟨rfl, HGW.out⟩
set_option maxRecDepth 100000 in
set_option maxHeartbeats 4000000 in
theorem post1_any {w0 w : World} {P M m s1 s2 : Nat} {V : NV} {N : Nt} {bv dv : Value} (h : Lw w0 P M V N m bv dv w) {place : Nat} (hp : place ≤ N.lo.length) {A : Option Addr} {n c : Nat} {fs : List Int} (hl : fs.length = n) (hn : n ≤ maxLen) (hA : IntsAt w M A fs) (hf : ∀ f ∈ fs, 0 ≤ f ∧ f < 2 ^ N.lo.length)
    (z1 : w.heap[s1]? = some (.cells #[.pointer (some ⟨P, 0, none⟩)] 94 (0, 0))) (z2 : w.heap[s2]? = some (.cells #[.slice A n c] 57 (0, 0))) :
    Calls Try.prog 80 #[.int .i64 place, .pointer (some ⟨s1, 0, none⟩), .pointer (some ⟨s2, 0, none⟩)] w fun e w' => e = .returned (.int .i64 (sofI N m fs place)) ∧ Gw N m M w w' := by
  have HC := Lib.hid (slackOf_any h hp (c := c) hl hn hA hf)
  have c1 := cell_of_row w s1 0 _ 94 (0, 0) z1
  have c2 := cell_of_row w s2 0 _ 57 (0, 0) z2
  simp at c1 c2
  clear z1 z2 h hl hn hA hf hp
  go_enter Try.func80, Try.ntmps80
  go_wp2_with fail
  refine HC.out.mono ?_
  rintro e w' ⟨rfl, hg⟩
  go_wp2_with fail
  go_ret
  exact ⟨rfl, hg⟩
theorem places_any (P : Nat) (w : World) :
    Calls Try.prog 79 #[.pointer (some ⟨P, 0, none⟩)] w fun e w' => e = .returned (.func (.func 94) #[] #[.pointer (some ⟨w.heap.size, 0, none⟩)]) ∧ w.alloc (.cells #[.pointer (some ⟨P, 0, none⟩)] 94) = w' := by
  have hmf : ∀ (fn : Fn) (first cap : Array Value) (w : World), (Instr.makeFunc fn first cap).run Try.prog w = .ok (.func fn first cap) w := fun _ _ _ _ => rfl
  go_enter Try.func79, Try.ntmps79
  go_wp2
  go_ret
  exact ⟨rfl, rfl⟩
abbrev PL (n : Nat) := { x : Nat // x < n }
set_option maxRecDepth 100000 in
set_option maxHeartbeats 2000000 in
theorem places1_in (n : Nat) (hn : 1 ≤ n) (l Bn n₀ P nw cw : Nat) (aw : Option Addr) (hnw : nw ≤ maxLen) (J Jx : List (PL nw) → World → Prop)
    (hY : ∀ pre x W, J pre W → pre.length < nw → YieldAt Fence.wide (n - 1) Try.prog l #[.int .i64 (x.1 : Int)] W fun e W' =>
      (e = .returned (.bool true) ∧ J (pre ++ [x]) W' ∧ KpB n₀ Bn W W') ∨ (e = .returned (.bool false) ∧ Jx (pre ++ [x]) W'))
    (W : World) (c0 : W.cell? ⟨Bn, 0, none⟩ = some (.pointer (some ⟨P, 0, none⟩))) (c2 : W.cell? ⟨P, 2, none⟩ = some (.slice aw nw cw)) (h0 : J [] W) :
    CallsIn Fence.wide n Try.prog 94 #[.func (.yield l) #[] #[], .pointer (some ⟨Bn, 0, none⟩)] W fun e W' => (∃ v, e = .returned v) ∧
      ((∃ ys, ys.map Subtype.val = List.range nw ∧ J ys W') ∨ (∃ pre, True ∧ Jx pre W')) := by
  unfold maxLen at hnw
  refine callsIn_of_wp Try.func94 rfl trivial ?_ rfl
  simp only [Try.ntmps94, List.size_toArray, List.length_cons, List.length_nil, Nat.reduceAdd, Nat.reduceSub, Array.replicate_succ, Array.replicate_zero, List.push_toArray, List.append_toArray, List.nil_append, List.cons_append]
  gi_wp2
  gi_loopw [10] (fun i wr => ∃ (k : Nat) (pre : List (PL nw)), k ≤ nw ∧ i = .int .i64 k ∧ pre.map Subtype.val = List.range k ∧ J pre wr) (fun i _ => nw - (intOf i).toNat)
  case atStart => exact ⟨0, [], by omega, rfl, by simp, h0⟩
  case round =>
    clear c0 c2
    obtain ⟨k, pre, hk, rfl, hpre, hJs⟩ := hrel
    have HP := Lib.hid hpre; clear hpre
    by_cases hlt : k < nw
    · have hk1 : (k : Int) < (nw : Int) := by omega
      have hlen : pre.length < nw := by
        have := congrArg List.length HP.out
        rw [List.length_map, List.length_range] at this
        omega
      obtain ⟨fn, tmps, assign, body, hy, hR⟩ := hY pre ⟨k, hlt⟩ _ hJs hlen
      dsimp only at hy
      have hmap : (pre ++ [(⟨k, hlt⟩ : PL nw)]).map Subtype.val = List.range (k + 1) := by
        rw [List.map_append, HP.out, List.range_succ]
        rfl
      have HB := Lib.hid hmap
      clear hmap
      gi_wp2
      refine hR.mono ?_
      rintro e W3 h4
      obtain ⟨bv, rfl, h3⟩ := two h4
      clear h4 hy
      rcases h3 with ⟨rfl, hJ3, hk3⟩ | ⟨rfl, hJx3⟩
      · clear hk3
        gi_wp2
        go_roundw
        case rel => exact ⟨k + 1, _, by omega, by go_num, HB.out, hJ3⟩
        case measure => simp [intOf]; omega
      · gi_wp2
        refine bodyPost_ret (results_none rfl _ _ _) rfl ?_
        exact ⟨⟨_, rfl⟩, .inr ⟨_, trivial, hJx3⟩⟩
    · have hk1 : ¬ (k : Int) < (nw : Int) := by omega
      have hk6 : k = nw := by omega
      subst hk6
      gi_wp2
      go_end0
      exact ⟨⟨_, rfl⟩, .inl ⟨_, HP.out, hJs⟩⟩
theorem places_stops (n : Nat) (hn : 1 ≤ n) (Bn n₀ P nw cw : Nat) (aw : Option Addr) (hnw : nw ≤ maxLen) (w : World) (hBn : Bn < w.heap.size) (hP : P < w.heap.size) (c0 : w.cell? ⟨Bn, 0, none⟩ = some (.pointer (some ⟨P, 0, none⟩))) (c2 : w.cell? ⟨P, 2, none⟩ = some (.slice aw nw cw)) :
    SeqStopsK Fence.wide n Try.prog 94 #[.pointer (some ⟨Bn, 0, none⟩)] (fun x : PL nw => #[.int .i64 (x.1 : Int)]) (KpB n₀ Bn) (fun ys => ys.map Subtype.val = List.range nw) (fun _ => True) nw w := fun l J Jx W hW _ _ hY h0 => by
  obtain ⟨r1, _⟩ := bcell hW
  exact places1_in n hn l Bn n₀ P nw cw aw hnw J Jx hY W ((r1 _ _ hBn).trans c0) ((r1 _ _ hP).trans c2) h0
end Go.Proofs.Yticmeeinjkoodaa

namespace Go.Proofs.Yticmeeinjkoodaa
open Go.RowKit Go.Shelf
attribute [local go_sem] Oper.semAt_some

theorem own_cells {w w' : World} {base : Nat} {e : TypeId} {size n : Nat} {v : Value} {xs : List Value} (h : w.ownsRow base e size v n xs) (hk : ∀ (b : Nat) (cs : Array Value), w.heap[b]? = some (Obj.cells cs e (0, 0)) → w'.heap[b]? = some (Obj.cells cs e (0, 0))) : w'.ownsRow base e size v n xs :=
  own_of_blocks h fun B hB => by
    obtain ⟨_, cur, hc⟩ := own_at h hB
    exact (hk B cur hc).trans hc.symm
/-- All that is no cells, but for the map, stays. -/
structure KM (M : Nat) (A B : World) : Prop where
  size : A.heap.size ≤ B.heap.size
  same : ∀ (k : Nat) (o : Obj), k ≠ M → A.heap[k]? = some o → o.isCells = false → B.heap[k]? = some o
theorem KM.refl (M : Nat) (A : World) : KM M A A := ⟨Nat.le_refl _, fun _ _ _ h _ => h⟩
theorem KM.trans {M : Nat} {A B C : World} (h : KM M A B) (k : KM M B C) : KM M A C := ⟨Nat.le_trans h.size k.size, fun i o hi ho hc => k.same i o hi (h.same i o hi ho hc) hc⟩
theorem Gw.km {N : Nt} {m M : Nat} {A B : World} (h : Gw N m M A B) : KM M A B := ⟨h.gr.size, fun k o hk ho _ => (h.gr.block k (heapszO ho) (fun e => hk (by injection e))).trans ho⟩
theorem ko_km {M : Nat} {A B : World} (h : KeepsOthers A B) : KM M A B := ⟨h.size, fun k o _ ho hc => h.same k o ho hc⟩
theorem KM.from {M n : Nat} {A B : World} (h : KM M A B) (hn : M < n) : KeepsFrom n A B := ⟨h.size, fun k o hk ho hc => h.same k o (by omega) ho hc⟩
theorem below_km {M : Nat} {A B : World} (h : Below A.heap.size A B) : KM M A B := ⟨h.size, fun _ _ _ ho _ => (h.block _ (heapszO ho)).trans ho⟩
/-- The order that grows. -/
structure OS (N : Nt) (m M : Nat) (wB : World) (fs : List (Nat × Array Value × TypeId)) (base b3 : Nat) (pre : List Int) (W : World) : Prop where
  fw : FW N m M wB fs W
  od : ∃ v, W.heap[b3]? = some (.cells #[v] 57 (0, 0)) ∧ W.ownsRow base 3 1 v pre.length (flatR intR pre)
  sz : base ≤ W.heap.size
abbrev fo3 (P b1 b2 b3 b4 : Nat) (en : Int) : List (Nat × Array Value × TypeId) := [(b1, #[.pointer (some ⟨P, 0, none⟩)], 94), (b2, #[.int .i64 en], 3), (b4, #[.func (.func 91) #[] #[.pointer (some ⟨b1, 0, none⟩), .pointer (some ⟨b2, 0, none⟩), .pointer (some ⟨b3, 0, none⟩), .pointer (some ⟨b4, 0, none⟩)]], 138)]
abbrev fo6 (P b1 b2 b3 b4 n Bn s a : Nat) (t en : Int) (v : Value) : List (Nat × Array Value × TypeId) := (n, #[.int .i64 (s : Int), .int .i64 (a : Int), .int .i64 t], 108) :: (Bn, #[.int .i64 (s : Int)], 3) :: (b3, #[v], 57) :: fo3 P b1 b2 b3 b4 en
theorem fo_sub {P b1 b2 b3 b4 n Bn s a : Nat} {t en : Int} {v : Value} {x : Nat × Array Value × TypeId} (h : x ∈ fo3 P b1 b2 b3 b4 en) : x ∈ fo6 P b1 b2 b3 b4 n Bn s a t en v := List.mem_cons_of_mem _ (List.mem_cons_of_mem _ (List.mem_cons_of_mem _ h))
theorem find_first {α : Type} {q : α → Bool} : ∀ (l : List α) (x : α) (rest : List α), (∀ y ∈ l, q y = false) → q x = true → (l ++ x :: rest).find? q = some x
  | [], x, rest, _, h => by simp [h]
  | y :: l, x, rest, h0, h => by
    rw [List.cons_append, List.find?_cons, h0 y (by simp)]
    exact find_first l x rest (fun z hz => h0 z (List.mem_cons_of_mem _ hz)) h
def ordN (N : Nt) (m : Nat) (en : Int) (s a : Nat) (t : Int) : List Int := (ordI N m en s a t).map fun k : Nat => (k : Int)
theorem fo_push {N : Nt} {m M : Nat} {wB u w4 : World} {P base b1 b2 b3 b4 n Bn s a : Nat} {t en : Int} {v v' : Value} {pre : List Int} {x : Int} {tmp : Obj} (hF : FW N m M wB (fo6 P b1 b2 b3 b4 n Bn s a t en v) u) (ho : u.ownsRow base 3 1 v pre.length (flatR intR pre)) (hlt : wB.heap.size ≤ b3 ∧ b3 < base ∧ b1 < base ∧ b2 < base ∧ b4 < base) (hsz : base ≤ u.heap.size)
    (hg : (u.alloc tmp).grownBy w4 v.ownBlock) (ho4 : w4.ownsRow base 3 1 v' (pre.length + 1) (flatR intR pre ++ [.int .i64 x])) :
    (w4.cell? ⟨b3, 0, none⟩ = some v ∧ w4.frozen? ⟨b3, 0, none⟩ = false) ∧ OS N m M wB (fo3 P b1 b2 b3 b4 en) base b3 (pre ++ [x]) (w4.setCell ⟨b3, 0, none⟩ v') ∧ (w4.setCell ⟨b3, 0, none⟩ v').heap[n]? = some (.cells #[.int .i64 (s : Int), .int .i64 (a : Int), .int .i64 t] 108 (0, 0)) ∧ KM M u (w4.setCell ⟨b3, 0, none⟩ v') := by
  have hrow : ∀ q, v.ownBlock = some q → base ≤ q := fun q e => (own_at ho e).1
  have keep : ∀ (b : Nat) (cs : Array Value) (T : TypeId), u.heap[b]? = some (.cells cs T (0, 0)) → some b ≠ v.ownBlock → w4.heap[b]? = some (.cells cs T (0, 0)) := fun b cs T hb hne =>
    (hg.block b (by have := heapsz hb; simp; omega) hne).trans ((Below.heap_alloc _ _ _ (heapsz hb)).trans hb)
  have low : ∀ b, b < base → some b ≠ v.ownBlock := fun b hb e => by have := hrow b e.symm; omega
  have h1 := hF.fix (b1, #[.pointer (some ⟨P, 0, none⟩)], 94) (by simp [fo6])
  have h2 := hF.fix (b2, #[.int .i64 en], 3) (by simp [fo6])
  have h3 := hF.fix (b3, #[v], 57) (by simp [fo6])
  have h4 := hF.fix (b4, #[.func (.func 91) #[] #[.pointer (some ⟨b1, 0, none⟩), .pointer (some ⟨b2, 0, none⟩), .pointer (some ⟨b3, 0, none⟩), .pointer (some ⟨b4, 0, none⟩)]], 138) (by simp [fo6])
  have h5 := hF.fix (n, #[.int .i64 (s : Int), .int .i64 (a : Int), .int .i64 t], 108) (by simp [fo6])
  simp only at h1 h2 h3 h4 h5
  have k1 := keep _ _ _ h1 (low _ hlt.2.2.1)
  have k2 := keep _ _ _ h2 (low _ hlt.2.2.2.1)
  have k3 := keep _ _ _ h3 (low _ hlt.2.1)
  have k4 := keep _ _ _ h4 (low _ hlt.2.2.2.2)
  have k5 := keep _ _ _ h5 (fun e => own_ne_type ho h5 (by decide) e.symm)
  have hb4 : Below wB.heap.size u w4 := ((Below.refl wB.heap.size u).alloc hF.gw.gr.size tmp).grown hg (by have := hF.gw.gr.size; simp; omega) (fun q e => by have := hrow q e; omega)
  have hg4 : Gw N m M wB w4 := hF.gw.low (Nat.le_refl _) hb4
  have n3 : ∀ {b : Nat} {cs : Array Value} {T : TypeId}, w4.heap[b]? = some (.cells cs T (0, 0)) → T ≠ 57 → (w4.setCell ⟨b3, 0, none⟩ v').heap[b]? = some (.cells cs T (0, 0)) := fun hb hT => (Below.heap_setCell _ _ _ _ (cells_ne hb k3 hT)).trans hb
  refine ⟨⟨by simpa using cell_of_row w4 b3 0 _ 57 (0, 0) k3, by simp [World.frozen?, k3]⟩, ⟨⟨hg4.put v' hlt.1, fun y hy => ?_⟩, ⟨v', blk_set k3 0 v', ?_⟩, ?_⟩, n3 k5 (by decide), ?_⟩
  · simp only [fo3, List.mem_cons, List.not_mem_nil, or_false] at hy
    rcases hy with rfl | rfl | rfl
    · exact n3 k1 (show (94 : Nat) ≠ 57 by decide)
    · exact n3 k2 (show (3 : Nat) ≠ 57 by decide)
    · exact n3 k4 (show (138 : Nat) ≠ 57 by decide)
  · have : (flatR intR (pre ++ [x])) = flatR intR pre ++ [.int .i64 x] := flatR_snoc _ _ _
    rw [this, List.length_append]
    exact own_cells ho4 fun b cs hb => n3 hb (by decide)
  · have := hg.size
    simp at this
    simp [World.setCell]
    omega
  · refine ko_km (((KeepsOthers.alloc u tmp).trans (KeepsOthers.of_grownBy hg fun j o ej hj => ?_)).trans (KeepsOthers.setCell _ _ _))
    obtain ⟨_, cur, hc⟩ := own_at ho ej
    rw [(Below.heap_alloc u tmp j (heapsz hc)).trans hc] at hj
    cases hj
    rfl
/-- What is asked of the closure that adds loops to the order. -/
def OrdC (P M m : Nat) (N : Nt) (wB : World) (base b1 b2 b3 b4 : Nat) (en : Int) (s : Nat) : Prop :=
  ∀ W a t pre, OS N m M wB (fo3 P b1 b2 b3 b4 en) base b3 pre W → a ≤ N.lo.length → 0 ≤ t ∧ t ≤ 72 → en ≤ slk N m s a t → pre.length + s ≤ 100 →
    Calls Try.prog 91 #[keyV s a t, .pointer (some ⟨b1, 0, none⟩), .pointer (some ⟨b2, 0, none⟩), .pointer (some ⟨b3, 0, none⟩), .pointer (some ⟨b4, 0, none⟩)] W fun e W' => e = .returned (.tuple #[]) ∧ OS N m M wB (fo3 P b1 b2 b3 b4 en) base b3 (pre ++ ordN N m en s a t) W' ∧ KM M W W'
theorem cells_keep {A B : World} {n b : Nat} {row : Option Nat} {cs : Array Value} {t : TypeId} (hb : A.heap[b]? = some (.cells cs t (0, 0))) (hg : A.grownBy B row) (hr : ∀ r, row = some r → n ≤ r ∧ ∃ o : Obj, A.heap[r]? = some o ∧ o.isCells = false) : B.heap[b]? = some (.cells cs t (0, 0)) := by
  refine (hg.block b (heapsz hb) (fun e => ?_)).trans hb
  obtain ⟨_, o, h2, h3⟩ := hr b e.symm
  rw [hb] at h2
  injection h2 with h2
  rw [← h2] at h3
  cases h3
theorem KM.own {M n : Nat} {w A B : World} {row : Option Nat} (h : KM M w A) (hg : A.grownBy B row) (hr : ∀ r, row = some r → n ≤ r ∧ ∃ o : Obj, A.heap[r]? = some o ∧ o.isCells = false) (hn : w.heap.size ≤ n) : KM M w B :=
  ⟨Nat.le_trans h.size hg.size, fun k o hk ho hc => (hg.block k (Nat.lt_of_lt_of_le (heapszO ho) h.size) (fun e => by have h1 := (hr k e.symm).1; have h2 := heapszO ho; omega)).trans (h.same k o hk ho hc)⟩
theorem OS.own {N : Nt} {m M n base b3 : Nat} {wB A B : World} {fs : List (Nat × Array Value × TypeId)} {pre : List Int} {row : Option Nat} (h : OS N m M wB fs base b3 pre A) (hn : wB.heap.size ≤ n) (hg : A.grownBy B row) (hr : ∀ r, row = some r → n ≤ r ∧ ∃ o : Obj, A.heap[r]? = some o ∧ o.isCells = false) : OS N m M wB fs base b3 pre B := by
  obtain ⟨v, h1, h2⟩ := h.od
  exact ⟨h.fw.own hn hg hr, ⟨v, cells_keep h1 hg hr, own_cells h2 fun b cs hb => cells_keep hb hg hr⟩, Nat.le_trans h.sz hg.size⟩
theorem OS.cellsK {N : Nt} {m M n base b3 : Nat} {wB A B : World} {fs : List (Nat × Array Value × TypeId)} {pre : List Int} (h : OS N m M wB fs base b3 pre A) (hn : wB.heap.size ≤ n) (hk : CellsK n A B) : OS N m M wB fs base b3 pre B := by
  obtain ⟨v, h1, h2⟩ := h.od
  exact ⟨h.fw.cellsK hn hk, ⟨v, hk.2 _ _ _ _ h1, own_cells h2 fun b cs hb => hk.2 _ _ _ _ hb⟩, Nat.le_trans h.sz hk.1.size⟩
theorem OS.up {N : Nt} {m M base b3 : Nat} {wB A B : World} {fs : List (Nat × Array Value × TypeId)} {pre : List Int} (h : OS N m M wB fs base b3 pre A) (hb : Below A.heap.size A B) : OS N m M wB fs base b3 pre B := by
  obtain ⟨v, h1, h2⟩ := h.od
  exact ⟨h.fw.up hb, ⟨v, (hb.block _ (heapsz h1)).trans h1, own_next h2 hb⟩, Nat.le_trans h.sz hb.size⟩
theorem KM.cellsK {M n : Nat} {w A B : World} (h : KM M w A) (hn : w.heap.size ≤ n) (hk : CellsK n A B) : KM M w B :=
  ⟨Nat.le_trans h.size hk.1.size, fun k o hM ho hc => (hk.1.block k (by have := heapszO ho; omega)).trans (h.same k o hM ho hc)⟩
def fcCv (P n b1 b2 b3 b4 x : Nat) (kv : Value) (S en : Int) (bb : Bool) : Tmp → Value
  | 1 => .pointer (some ⟨b1, 0, none⟩)
  | 2 => .pointer (some ⟨b2, 0, none⟩)
  | 3 => .pointer (some ⟨b3, 0, none⟩)
  | 4 => .pointer (some ⟨b4, 0, none⟩)
  | 5 => .pointer (some ⟨n, 0, none⟩)
  | 6 => .int .i64 x
  | 11 => .pointer (some ⟨P, 0, none⟩)
  | 12 => kv
  | 13 => .int .i64 x
  | 14 => .int .i64 S
  | 15 => .int .i64 en
  | 16 => .bool bb
  | _ => undef
def fdCv (P n b1 b2 b3 b4 x : Nat) (fv kv kv2 : Value) : Tmp → Value
  | 1 => .pointer (some ⟨b1, 0, none⟩)
  | 2 => .pointer (some ⟨b2, 0, none⟩)
  | 3 => .pointer (some ⟨b3, 0, none⟩)
  | 4 => .pointer (some ⟨b4, 0, none⟩)
  | 5 => .pointer (some ⟨n, 0, none⟩)
  | 6 => .int .i64 x
  | 21 => fv
  | 22 => .pointer (some ⟨P, 0, none⟩)
  | 23 => kv
  | 24 => .int .i64 x
  | 25 => kv2
  | _ => undef
section
attribute [local irreducible] QT
set_option maxRecDepth 100000 in
set_option maxHeartbeats 4000000 in
theorem ord_step {w0 wB : World} {P M m base b1 b2 b3 b4 : Nat} {V : NV} {N : Nt} {bv dv : Value} (hB : Lw w0 P M V N m bv dv wB) {en : Int} (hen : 0 ≤ en) (hlt : wB.heap.size ≤ b3 ∧ b3 < base ∧ b1 < base ∧ b2 < base ∧ b4 < base) {s : Nat} (hs : s < 2 ^ N.lo.length)
    (hI : ∀ q, q < s → OrdC P M m N wB base b1 b2 b3 b4 en q) : OrdC P M m N wB base b1 b2 b3 b4 en s := by
  intro w a t pre h ha ht hsl hpl
  obtain ⟨v, z3, hv⟩ := h.od
  have zn := heap_alloc_new w (.cells #[.int .i64 (s : Int), .int .i64 (a : Int), .int .i64 t] 108)
  have hbn := (Below.refl w.heap.size w).alloc (Nat.le_refl _) (.cells #[.int .i64 (s : Int), .int .i64 (a : Int), .int .i64 t] 108)
  obtain ⟨w1, hw1⟩ : ∃ z, w.alloc (.cells #[.int .i64 (s : Int), .int .i64 (a : Int), .int .i64 t] 108) = z := ⟨_, rfl⟩
  rw [hw1] at zn hbn
  have zs := heap_alloc_new w1 (.cells #[.int .i64 (s : Int)] 3)
  have hbs := (Below.refl w1.heap.size w1).alloc (Nat.le_refl _) (.cells #[.int .i64 (s : Int)] 3)
  obtain ⟨w2, hw2⟩ : ∃ z, w1.alloc (.cells #[.int .i64 (s : Int)] 3) = z := ⟨_, rfl⟩
  rw [hw2] at zs hbs
  have hb2 := hbn.trans (hbs.mono hbn.size)
  have hown2 : w2.ownsRow base 3 1 v pre.length (flatR intR pre) := own_next hv hb2
  have hfw2 : FW N m M wB (fo6 P b1 b2 b3 b4 w.heap.size w1.heap.size s a t en v) w2 := ⟨h.fw.gw.up hb2, fun x hx => by
    simp only [fo6, List.mem_cons] at hx
    rcases hx with rfl | rfl | rfl | hx
    · exact (hbs.block _ (heapsz zn)).trans zn
    · exact zs
    · exact (hb2.block _ (heapsz z3)).trans z3
    · exact (hb2.block _ (heapsz (h.fw.fix x (by simpa using hx)))).trans (h.fw.fix x (by simpa using hx))⟩
  have hvlt : ∀ B, v.ownBlock = some B → B < w.heap.size := fun B hB => by
    obtain ⟨_, cur, hc⟩ := own_at hv hB
    exact heapsz hc
  have HF2 := Lib.hid hfw2; have HO2 := Lib.hid hown2; have HVL := Lib.hid hvlt; have HW1 := Lib.hid hw1; have HW2 := Lib.hid hw2
  have HKM : Hid (KM M w w2) := Lib.hid (below_km hb2)
  have HSZ : Hid (M < w2.heap.size ∧ w1.heap.size < w2.heap.size ∧ wB.heap.size ≤ w2.heap.size ∧ w0.heap.size ≤ M ∧ w.heap.size < w1.heap.size ∧ M < wB.heap.size ∧ base ≤ w.heap.size) := Lib.hid ⟨by have := hfw2.gw.gr.size; have := hfw2.gw.lt; omega, heapsz zs, hfw2.gw.gr.size, hB.lt.2, heapsz zn, hfw2.gw.lt, h.sz⟩
  have HSQ := Lib.hid (plan_seqP (3 - 1) (by decide) w1.heap.size w0.heap.size (s : Int) w2 (heapsz zs) (by have := cell_of_row w2 w1.heap.size 0 _ 3 (0, 0) zs; simpa using this))
  have HA := Lib.hid (And.intro ha (And.intro ht (And.intro hsl hpl))); have HLT := Lib.hid hlt; have HS := Lib.hid hs; have HI := Lib.hid hI; have HBB := Lib.hid hB; have HEN := Lib.hid hen
  obtain ⟨x0, x1, x2⟩ := box3_cells zn
  clear zn hbn hw1 zs hbs hw2 hb2 hown2 hfw2 hvlt h z3 hv ha ht hsl hpl hlt hs hI hB
  refine callsIn_wide.1 (callsIn_of_wp_marks (n := 5) Try.func91 rfl trivial (wpIn_wide.2 ?_) rfl)
  simp only [Try.ntmps91, List.size_toArray, List.length_cons, List.length_nil, Nat.reduceAdd, Nat.reduceSub, Array.replicate_succ, Array.replicate_zero, List.push_toArray, List.append_toArray, List.nil_append, List.cons_append]
  go_wp2_with fail
  rw [HW1.out]
  go_wp2_with fail
  refine (loopsOf_any _ _).mono ?_
  rintro e w' ⟨rfl, rfl⟩
  rw [HW2.out]
  clear x0 x1 x2
  go_wp2_with fail
  refine (wpIn_wide (n := 3)).1 ?_
  refine wpIn_rangeFunc_writesG rfl (by decide) (gf := 96) (lb := #[.pointer (some ⟨w1.heap.size, 0, none⟩)]) rfl trivial (enters_of Try.func96 (by kernel_rfl) rfl)
    HSQ.out (fun A A' hs k o hk ho hc => by rw [← hs]; exact ho)
    kpB_t (kpB_b (by have := HSZ.out; omega) HSZ.out.2.1) (Below.refl _ _) (fun _ => rfl)
    (fun p Wt => (∀ x ∈ p, byI N m (slk N m) s a t x.1 < en) ∧ FW N m M wB (fo6 P b1 b2 b3 b4 w.heap.size w1.heap.size s a t en v) Wt ∧ Wt.ownsRow base 3 1 v pre.length (flatR intR pre) ∧ KM M w Wt ∧ w2.heap.size ≤ Wt.heap.size)
    (fun c p Wt => c = .ret ∧ OS N m M wB (fo3 P b1 b2 b3 b4 en) base b3 (pre ++ ordN N m en s a t) Wt ∧ KM M w Wt)
    (fun p A B row hs hg hr => ⟨hs.1, hs.2.1.own (n := w2.heap.size) HSZ.out.2.2.1 hg hr, own_cells hs.2.2.1 (fun b cs hb => cells_keep hb hg hr), hs.2.2.2.1.own hg hr (by have := HSZ.out; omega), Nat.le_trans hs.2.2.2.2 hg.size⟩)
    (fun c p A B row hs hg hr => ⟨hs.1, hs.2.1.own (n := w2.heap.size) HSZ.out.2.2.1 hg hr, hs.2.2.own hg hr (by have := HSZ.out; omega)⟩)
    (fun p A A' hs hst => by rw [← hst]; exact hs)
    ⟨fun _ hx => by simp at hx, HF2.out, HO2.out, HKM.out, Nat.le_refl _⟩
    (fun x a' _ => a' = { tmps := List.toArray ((keyV s a t) :: (Value.pointer (some ⟨b1, 0, none⟩)) :: (Value.pointer (some ⟨b2, 0, none⟩)) :: (Value.pointer (some ⟨b3, 0, none⟩)) :: (Value.pointer (some ⟨b4, 0, none⟩)) :: (Value.pointer (some ⟨w.heap.size, 0, none⟩)) :: (Value.int .i64 (x.1 : Int)) :: (Value.pointer (some ⟨w.heap.size, 0, none⟩)) :: (Value.int .i64 (s : Int)) :: (Value.func (.func 96) #[] #[.pointer (some ⟨w1.heap.size, 0, none⟩)]) :: (Value.int .i64 (x.1 : Int)) :: undef :: undef :: undef :: undef :: undef :: undef :: undef :: undef :: undef :: undef :: undef :: undef :: undef :: undef :: undef :: undef :: []), defers := [] })
    (fun x a' _ A A' row hs hg hr => hs)
    ?assign ?body ?done ?stop
  case assign =>
    intro l p x Wt Kk hI hK
    have HH := Lib.hid (hK _ Wt ⟨Nat.le_refl _, fun _ _ _ h _ => h⟩ ⟨Below.refl _ _, rfl⟩ hI rfl)
    clear hK hI
    gi_wp2
    exact HH.out
  case body =>
    rintro l p x a' Wt ⟨hall, hI, hown, hkm, hsz⟩ rfl ⟨p', x', rest, hpx, hpil⟩
    obtain ⟨rfl, hxx⟩ := List.append_inj' hpx rfl
    obtain rfl : x = x' := by simpa using hxx
    have fol : Try.prog.follows .mixedOrders = true := by kernel_rfl
    have hbit : s.testBit x.1 = true := by have := x.2.2; rwa [jack_bit] at this
    have HALL := Lib.hid hall; have HFI := Lib.hid hI; have HOW := Lib.hid hown; have HKW := Lib.hid hkm; have HPIL := Lib.hid hpil; have HBIT := Lib.hid hbit; have HSW := Lib.hid hsz
    have HLW := Lib.hid (HBB.out.go hI.gw)
    have HSB := Lib.hid (fun u (g : Gw N m M Wt u) => slackB (HLW.out.go g) HS.out hbit HA.out.1 HA.out.2.1 (t := t))
    have HC3 : Hid (∀ u, FW N m M wB (fo6 P b1 b2 b3 b4 w.heap.size w1.heap.size s a t en v) u → u.cell? ⟨b1, 0, none⟩ = some (.pointer (some ⟨P, 0, none⟩)) ∧ u.cell? ⟨b2, 0, none⟩ = some (.int .i64 en) ∧ u.cell? ⟨b3, 0, none⟩ = some v ∧ u.frozen? ⟨b3, 0, none⟩ = false ∧ u.cell? ⟨b4, 0, none⟩ = some (.func (.func 91) #[] #[.pointer (some ⟨b1, 0, none⟩), .pointer (some ⟨b2, 0, none⟩), .pointer (some ⟨b3, 0, none⟩), .pointer (some ⟨b4, 0, none⟩)]) ∧ (u.cell? ⟨w.heap.size, 0, none⟩ = some (.int .i64 (s : Int)) ∧ u.cell? ⟨w.heap.size, 1, none⟩ = some (.int .i64 (a : Int)) ∧ u.cell? ⟨w.heap.size, 2, none⟩ = some (.int .i64 t))) := Lib.hid fun u hu => by
      have h1 := hu.fix (b1, #[.pointer (some ⟨P, 0, none⟩)], 94) (by simp [fo6])
      have h2 := hu.fix (b2, #[.int .i64 en], 3) (by simp [fo6])
      have h3 := hu.fix (b3, #[v], 57) (by simp [fo6])
      have h4 := hu.fix (b4, #[.func (.func 91) #[] #[.pointer (some ⟨b1, 0, none⟩), .pointer (some ⟨b2, 0, none⟩), .pointer (some ⟨b3, 0, none⟩), .pointer (some ⟨b4, 0, none⟩)]], 138) (by simp [fo6])
      have h5 := hu.fix (w.heap.size, #[.int .i64 (s : Int), .int .i64 (a : Int), .int .i64 t], 108) (by simp [fo6])
      refine ⟨by simpa using cell_of_row u b1 0 _ 94 (0, 0) h1, by simpa using cell_of_row u b2 0 _ 3 (0, 0) h2, by simpa using cell_of_row u b3 0 _ 57 (0, 0) h3, by simp [World.frozen?, h3], by simpa using cell_of_row u b4 0 _ 138 (0, 0) h4, box3_cells h5⟩
    obtain ⟨S, hS⟩ : ∃ z, byI N m (slk N m) s a t x.1 = z := ⟨_, rfl⟩
    have HSS := Lib.hid hS
    rw [hS] at HSB
    clear hall hI hown hkm hpil hbit hsz hS hpx hxx
    gi_wp2
    refine wpIn_region_any fol (wpAnyIn_round_of_wpAny (by kernel_rfl) (by rintro ⟨_, _, hq⟩; exact hq) _ _ _ _ ?_)
    refine plan_guarded_any (γ := Unit) [1, 2, 3, 4, 5, 6] (fun _ => fcCv P w.heap.size b1 b2 b3 b4 x.1 (keyV s a t) S en (decide (en ≤ S))) (fun _ _ u => Gw N m M Wt u) () (by kernel_rfl) (by kernel_rfl) (by kernel_rfl) (by kernel_rfl) ?_ ?_ ?_ ?_
    · intro t ht
      simp only [List.mem_cons, List.not_mem_nil, or_false] at ht
      rcases ht with rfl | rfl | rfl | rfl | rfl | rfl <;> rfl
    · exact HLW.out.gw0.up ((Below.refl Wt.heap.size Wt).drew)
    · refine allOps_array ?_
      refine ⟨?_, ?_, ?_, ?_, ?_, ?_, trivial⟩ <;> intro done g u hS hu hdep _ <;> obtain ⟨y1, y2, y3, _, y4, y5, y6, y7⟩ := HC3.out u (HFI.out.go hS)
      · exact sameQ (T := fun u => Gw N m M Wt u) hS 11 rfl rfl (by simp [go_sem, evalBy, fcCv, y1])
      · exact sameQ (T := fun u => Gw N m M Wt u) hS 12 rfl rfl (by simp [go_sem, evalBy, fcCv, y5, y6, y7])
      · exact sameQ (T := fun u => Gw N m M Wt u) hS 13 rfl rfl (by simp [go_sem, evalBy, fcCv])
      · refine sameC (T := fun u => Gw N m M Wt u) 14 rfl rfl 90 #[.pointer (some ⟨P, 0, none⟩), keyV s a t, .int .i64 (x.1 : Int)] (by simp [go_sem, evalBy, fcCv]) ((HSB.out u hS).mono ?_)
        rintro e w' ⟨rfl, hg⟩
        exact ⟨rfl, hS.trans hg⟩
      · exact sameQ (T := fun u => Gw N m M Wt u) hS 15 rfl rfl (by simp [go_sem, evalBy, fcCv, y2])
      · exact sameQ (T := fun u => Gw N m M Wt u) hS 16 rfl rfl (by simp [go_sem, evalBy, fcCv])
    · intro g u hg
      have HG := Lib.hid hg
      have HFU := Lib.hid (HFI.out.go hg)
      simp [putAll, Act.put, fcCv]
      clear hg
      by_cases hge : en ≤ S
      · obtain ⟨y1, y2, y3, f3, y4, y5, y6, y7⟩ := HC3.out u HFU.out
        have HOU : Hid (u.ownsRow base 3 1 v pre.length (flatR intR pre)) := Lib.hid (own_cells HOW.out (fun b cs hb => HG.out.cell hb (HFI.out.gw.ne hb)))
        have HUZ : Hid (base ≤ u.heap.size) := Lib.hid (by have := HSZ.out; have := HG.out.gr.size; have := HSW.out; omega)
        obtain ⟨i0, hi0, hz0, hz1, hz2⟩ := info_parts int_info
        have hpl : pre.length ≤ 100 := by have := HA.out; omega
        clear y1 y2 y4 y5 y6 y7
        gi_wp2_with (first
          | (gi_at_builtin
             refine wpListIn_append_own _ rfl _ _ 57 rfl base 3 i0 _ 1 8 Try.underlying57 hi0 hz0 hz1 hz2 rfl (by decide) _ _ _ rfl (own_next HOU.out ((Below.refl _ u).alloc (Nat.le_refl _) _)) ⟨u.heap.size, 0, none⟩ 1 1 [.int .i64 (x.1 : Int)] rfl rfl (cells_new u [.int .i64 (x.1 : Int)] 3) (by simp [Value.oneCell']) (by unfold maxLen; omega) (by omega) (by have := HUZ.out; simp; omega) ?_
             intro v' w4 hown4 hgr4 _
             have HP := Lib.hid (fo_push HFU.out HOU.out HLT.out HUZ.out hgr4 hown4)
             have v1 := HP.out.1.1
             have f1 := HP.out.1.2
             obtain ⟨g, cap, rfl⟩ := ownsRow_succ hown4
             clear hown4 hgr4)
          | fail)
        obtain ⟨_, hos, hcr, hkm⟩ := HP.out
        obtain ⟨w6, hw6⟩ : ∃ z, w4.setCell ⟨b3, 0, none⟩ (.slice (some ⟨g, 0, none⟩) (pre.length + 1) cap) = z := ⟨_, rfl⟩
        rw [hw6] at hos hcr hkm ⊢
        have HOS := Lib.hid hos; have HCR := Lib.hid hcr; have HK6 := Lib.hid (HKW.out.trans (HG.out.km.trans hkm)); have HKP := Lib.hid hkm
        have hsn := HS.out
        have hbl := bit_lt hsn HBIT.out
        have hble := bit_le HBIT.out
        have h32 := pow32 HBB.out.ok
        have hAA := HA.out
        have hby := HSS.out
        unfold byI at hby
        have hen0 := HEN.out
        have hle : N.arr a t x.1 ≤ N.due m x.1 := by
          rcases Int.lt_or_le (N.due m x.1) (N.arr a t x.1) with hlt | hle
          · rw [if_pos hlt] at hby; omega
          · exact hle
        rw [if_neg (by omega)] at hby
        have hsl2 : en ≤ slk N m (s - 2 ^ x.1) (x.1 + 1) (N.arr a t x.1) := by omega
        have hdi := due_N N m x.1
        have h72 := HBB.out.ok.h72
        have hai := (arr_in (wayOk HBB.out.ok) (a := a) hAA.2.1.1 x.1).1
        have h2p := Nat.two_pow_pos x.1
        have hfind : (pilL (s : Int)).find? (fun k => decide (en ≤ byI N m (slk N m) s a t k)) = some x.1 := by
          rw [HPIL.out]
          refine find_first _ _ _ (fun y hy => ?_) (by rw [HSS.out]; simpa using hge)
          obtain ⟨z, hz, rfl⟩ := List.mem_map.1 hy
          have := HALL.out z hz
          simp only [decide_eq_false_iff_not]
          omega
        have HON : Hid (pre ++ ordN N m en s a t = (pre ++ [(x.1 : Int)]) ++ ordN N m en (s - 2 ^ x.1) (x.1 + 1) (N.arr a t x.1)) := Lib.hid (by unfold ordN; rw [ordI_some hfind]; simp)
        have HRP : Hid (∀ q, Below w6.heap.size w6 q → Calls Try.prog 92 #[.pointer (some ⟨P, 0, none⟩), keyV s a t, .int .i64 (x.1 : Int)] q fun e w' => e = .returned (keyV (s - 2 ^ x.1) (x.1 + 1) (N.arr a t x.1)) ∧ Below w6.heap.size w6 w') := Lib.hid fun q hq => by
          refine (repair_any (HBB.out.go (hos.fw.gw.up hq)) (by omega) HBIT.out hbl hAA.1 hAA.2.1).mono ?_
          rintro e w' ⟨hb, ⟨h1, _⟩ | ⟨_, rfl⟩⟩
          · omega
          · exact ⟨rfl, hq.trans (hb.mono hq.size)⟩
        have HRC : Hid (∀ q, Below w6.heap.size w6 q → Calls Try.prog 91 #[keyV (s - 2 ^ x.1) (x.1 + 1) (N.arr a t x.1), .pointer (some ⟨b1, 0, none⟩), .pointer (some ⟨b2, 0, none⟩), .pointer (some ⟨b3, 0, none⟩), .pointer (some ⟨b4, 0, none⟩)] q fun e W' => e = .returned (.tuple #[]) ∧ OS N m M wB (fo3 P b1 b2 b3 b4 en) base b3 (pre ++ ordN N m en s a t) W' ∧ KM M q W') := Lib.hid fun q hq => by
          rw [HON.out]
          exact HI.out _ (by omega) q _ _ _ (hos.up hq) (by omega) (by omega) hsl2 (by simp; omega)
        have HC6 : Hid (∀ q, Below w6.heap.size w6 q → q.cell? ⟨b1, 0, none⟩ = some (.pointer (some ⟨P, 0, none⟩)) ∧ q.cell? ⟨b4, 0, none⟩ = some (.func (.func 91) #[] #[.pointer (some ⟨b1, 0, none⟩), .pointer (some ⟨b2, 0, none⟩), .pointer (some ⟨b3, 0, none⟩), .pointer (some ⟨b4, 0, none⟩)]) ∧ (q.cell? ⟨w.heap.size, 0, none⟩ = some (.int .i64 (s : Int)) ∧ q.cell? ⟨w.heap.size, 1, none⟩ = some (.int .i64 (a : Int)) ∧ q.cell? ⟨w.heap.size, 2, none⟩ = some (.int .i64 t))) := Lib.hid fun q hq => by
          have h1 := (HOS.out.up hq).fw.fix (b1, #[.pointer (some ⟨P, 0, none⟩)], 94) (by simp [fo3])
          have h4 := (HOS.out.up hq).fw.fix (b4, #[.func (.func 91) #[] #[.pointer (some ⟨b1, 0, none⟩), .pointer (some ⟨b2, 0, none⟩), .pointer (some ⟨b3, 0, none⟩), .pointer (some ⟨b4, 0, none⟩)]], 138) (by simp [fo3])
          exact ⟨by simpa using cell_of_row q b1 0 _ 94 (0, 0) h1, by simpa using cell_of_row q b4 0 _ 138 (0, 0) h4, box3_cells ((hq.block _ (heapsz HCR.out)).trans HCR.out)⟩
        clear hos hcr hkm hw6 hsn hbl hble h32 hAA hby hen0 hle hsl2 hdi h72 hai h2p hfind y3 f3 hpl
        refine wpIn_region_any fol (wpAnyIn_round_of_wpAny (by kernel_rfl) (by rintro ⟨_, _, hq⟩; exact hq) _ _ _ _ ?_)
        refine tail_startX [_, _, _, _, _] _ rfl (by kernel_rfl) ?_
        refine plan_guarded_any (γ := Unit) [1, 2, 3, 4, 5, 6] (fun _ => fdCv P w.heap.size b1 b2 b3 b4 x.1 (.func (.func 91) #[] #[.pointer (some ⟨b1, 0, none⟩), .pointer (some ⟨b2, 0, none⟩), .pointer (some ⟨b3, 0, none⟩), .pointer (some ⟨b4, 0, none⟩)]) (keyV s a t) (keyV (s - 2 ^ x.1) (x.1 + 1) (N.arr a t x.1))) (fun _ _ q => Below w6.heap.size w6 q) () (by kernel_rfl) (by kernel_rfl) (by kernel_rfl) (by kernel_rfl) ?_ ?_ ?_ ?_
        · intro t ht
          simp only [List.mem_cons, List.not_mem_nil, or_false] at ht
          rcases ht with rfl | rfl | rfl | rfl | rfl | rfl <;> rfl
        · exact (Below.refl w6.heap.size w6).drew
        · refine allOps_array ?_
          refine ⟨?_, ?_, ?_, ?_, ?_, trivial⟩ <;> intro done g q hS hu hdep _ <;> obtain ⟨y1, y4, y5, y6, y7⟩ := HC6.out q hS
          · exact sameQ (T := fun q => Below w6.heap.size w6 q) hS 21 rfl rfl (by simp [go_sem, evalBy, fdCv, y4])
          · exact sameQ (T := fun q => Below w6.heap.size w6 q) hS 22 rfl rfl (by simp [go_sem, evalBy, fdCv, y1])
          · exact sameQ (T := fun q => Below w6.heap.size w6 q) hS 23 rfl rfl (by simp [go_sem, evalBy, fdCv, y5, y6, y7])
          · exact sameQ (T := fun q => Below w6.heap.size w6 q) hS 24 rfl rfl (by simp [go_sem, evalBy, fdCv])
          · exact sameC (T := fun q => Below w6.heap.size w6 q) 25 rfl rfl 92 #[.pointer (some ⟨P, 0, none⟩), keyV s a t, .int .i64 (x.1 : Int)] (by simp [go_sem, evalBy, fdCv]) (HRP.out q hS)
        · intro g q hq
          have HRQ := Lib.hid (HRC.out q hq)
          have HKQ := Lib.hid (HK6.out.trans (below_km hq))
          have HKU : Hid (KM M Wt q) := Lib.hid ((HG.out.km.trans HKP.out).trans (below_km hq))
          simp only [QT]
          unfold Oper.wp
          simp [go_sem, putAll, Act.put, fdCv]
          refine HRQ.out.mono ?_
          rintro e w9 ⟨rfl, h1, h2⟩
          have HE := Lib.hid (And.intro h1 h2)
          clear h1 h2 hq
          gi_wp2
          exact ⟨(HKU.out.trans HE.out.2).from HSZ.out.1, rfl, HE.out.1, HKQ.out.trans HE.out.2⟩
      · have HX : Hid (∀ y ∈ p ++ [x], byI N m (slk N m) s a t y.1 < en) := Lib.hid fun y hy => by
          rcases List.mem_append.1 hy with h | h
          · exact HALL.out y h
          · rw [List.mem_singleton.1 h, HSS.out]; omega
        gi_wp2
        have hz := HSZ.out
        refine ⟨HG.out.km.from hz.1, ⟨HG.out.bel hz.2.2.2.1, ?_⟩, fun z hz hm => HX.out ⟨z, hz⟩ hm, HFU.out, own_cells HOW.out (fun b cs hb => HG.out.cell hb (HFI.out.gw.ne hb)), HKW.out.trans HG.out.km, Nat.le_trans HSW.out HG.out.gr.size⟩
        exact World.cell?_of_block (a := ⟨w1.heap.size, 0, none⟩) ((HFU.out.fix (w1.heap.size, #[.int .i64 (s : Int)], 3) (by simp [fo6])).trans (HFI.out.fix (w1.heap.size, #[.int .i64 (s : Int)], 3) (by simp [fo6])).symm)
  case done =>
    rintro D ys Wt hD hys ⟨hall, hI, hown, hkm, _⟩ hK
    have HM : Hid (Marks Wt w2.heap.size [D]) := Lib.hid ⟨by simp, fun E hE => by rw [List.mem_singleton.1 hE]; exact ⟨hD, hK⟩⟩
    have hno : ordN N m en s a t = [] := by
      have hsl := HA.out.2.2.1
      by_cases h0 : s = 0
      · subst h0; unfold ordN ordI ordF; rfl
      · exfalso
        obtain ⟨k, hf, hk, _⟩ := ord_found (N := N) (m := m) HEN.out h0 hsl
        have hge := List.find?_some hf
        simp only [decide_eq_true_eq] at hge
        rw [← hys] at hk
        obtain ⟨x, hx, rfl⟩ := List.mem_map.1 hk
        have := hall x hx
        omega
    have HOS : Hid (OS N m M wB (fo3 P b1 b2 b3 b4 en) base b3 (pre ++ ordN N m en s a t) Wt) := Lib.hid ⟨hI.sub (fun x hx => fo_sub hx), ⟨v, hI.fix (b3, #[v], 57) (by simp [fo6]), by rw [hno, List.append_nil]; exact hown⟩, by have := hkm.size; have := HSZ.out; omega⟩
    have HKW := Lib.hid hkm
    clear hI hK hys hown hall hkm hno
    simp only [Exit.inBlock]
    go_wp2_with fail
    refine leaves_marks [D] Wt HM.out (fun w' hk => ?_)
    exact ⟨.tuple #[], by simp [results, Try.results91, go_sem], rfl, HOS.out.cellsK HSZ.out.2.2.1 hk, HKW.out.cellsK (by have := HSZ.out; omega) hk⟩
  case stop =>
    rintro D c p Wt hD _ ⟨rfl, hI, hkm⟩ hK
    have HM : Hid (Marks Wt w2.heap.size [D]) := Lib.hid ⟨by simp, fun E hE => by rw [List.mem_singleton.1 hE]; exact ⟨hD, hK⟩⟩
    have HF6 := Lib.hid hI; have HKW := Lib.hid hkm
    clear hI hK hkm
    simp only []
    refine (wpIn_wide (n := 3)).2 ?_
    go_wp2_with fail
    refine leaves_marks [D] Wt HM.out (fun w' hk => ?_)
    exact ⟨.tuple #[], by simp [results, Try.results91, go_sem], rfl, HF6.out.cellsK HSZ.out.2.2.1 hk, HKW.out.cellsK (by have := HSZ.out; omega) hk⟩
end
theorem ord_any {w0 wB : World} {P M m base b1 b2 b3 b4 : Nat} {V : NV} {N : Nt} {bv dv : Value} (hB : Lw w0 P M V N m bv dv wB) {en : Int} (hen : 0 ≤ en) (hlt : wB.heap.size ≤ b3 ∧ b3 < base ∧ b1 < base ∧ b2 < base ∧ b4 < base) : ∀ s, s < 2 ^ N.lo.length → OrdC P M m N wB base b1 b2 b3 b4 en s := by
  intro s
  induction s using Nat.strongRecOn with
  | ind s ih => exact fun hs => ord_step hB hen hlt hs fun q hq => ih q hq (by omega)
set_option maxRecDepth 100000 in
set_option maxHeartbeats 4000000 in
theorem firstOrder_any {w0 w : World} {P M m : Nat} {V : NV} {N : Nt} {bv dv : Value} (h : Lw w0 P M V N m bv dv w) {s a : Nat} {t en : Int} (hs : s < 2 ^ N.lo.length) (ha : a ≤ N.lo.length) (ht : 0 ≤ t ∧ t ≤ 72) (hen : 0 ≤ en) (hsl : en ≤ slk N m s a t) :
    Calls Try.prog 72 #[.pointer (some ⟨P, 0, none⟩), keyV s a t, .int .i64 en] w fun e w' => ∃ v, e = .returned v ∧ Gw N m M w w' ∧ RowIs intR 3 w.heap.size (ordN N m en s a t) v w' := by
  have hmf : ∀ (fn : Fn) (first cap : Array Value) (w : World), (Instr.makeFunc fn first cap).run Try.prog w = .ok (.func fn first cap) w := fun _ _ _ _ => rfl
  obtain ⟨z0, z1, z2, hb3⟩ := three_new w (.cells #[.pointer (some ⟨P, 0, none⟩)] 94) (.cells #[.int .i64 (s : Int), .int .i64 (a : Int), .int .i64 t] 108) (.cells #[.int .i64 en] 3)
  obtain ⟨w3, hw3⟩ : ∃ z, ((w.alloc (.cells #[.pointer (some ⟨P, 0, none⟩)] 94)).alloc (.cells #[.int .i64 (s : Int), .int .i64 (a : Int), .int .i64 t] 108)).alloc (.cells #[.int .i64 en] 3) = z := ⟨_, rfl⟩
  have hs3 : w3.heap.size = w.heap.size + 1 + 1 + 1 := by rw [← hw3]; simp
  rw [hw3] at z0 z1 z2 hb3
  obtain ⟨z3, z4, hb5⟩ := two_new w3 (.cells #[.slice none 0 0] 57) (.cells #[.func (.func 91) #[] #[.pointer (some ⟨w.heap.size, 0, none⟩), .pointer (some ⟨w.heap.size + 1 + 1, 0, none⟩), .pointer (some ⟨w3.heap.size, 0, none⟩), .pointer (some ⟨w3.heap.size + 1, 0, none⟩)]] 138)
  obtain ⟨w5, hw5⟩ : ∃ z, (w3.alloc (.cells #[.slice none 0 0] 57)).alloc (.cells #[.func (.func 91) #[] #[.pointer (some ⟨w.heap.size, 0, none⟩), .pointer (some ⟨w.heap.size + 1 + 1, 0, none⟩), .pointer (some ⟨w3.heap.size, 0, none⟩), .pointer (some ⟨w3.heap.size + 1, 0, none⟩)]] 138) = z := ⟨_, rfl⟩
  have hs5 : w5.heap.size = w3.heap.size + 2 := by rw [← hw5]; simp
  rw [hw5] at z3 z4 hb5
  have hb : Below w.heap.size w w5 := hb3.trans (hb5.mono hb3.size)
  have HW3 := Lib.hid hw3; have HW5 := Lib.hid hw5
  have y0 := (hb5.block _ (heapsz z0)).trans z0
  have y1 := (hb5.block _ (heapsz z1)).trans z1
  have y2 := (hb5.block _ (heapsz z2)).trans z2
  have hOS : OS N m M w (fo3 P w.heap.size (w.heap.size + 1 + 1) w3.heap.size (w3.heap.size + 1) en) w5.heap.size w3.heap.size [] w5 := ⟨⟨h.gw0.up hb, fun x hx => by
    simp only [fo3, List.mem_cons, List.not_mem_nil, or_false] at hx
    rcases hx with rfl | rfl | rfl
    · exact y0
    · exact y2
    · exact z4⟩, ⟨_, z3, World.ownsRow_nil _ _ _ _⟩, Nat.le_refl _⟩
  have h32 := pow32 h.ok
  have HC := Lib.hid (ord_any h hen (base := w5.heap.size) (b1 := w.heap.size) (b2 := w.heap.size + 1 + 1) (b3 := w3.heap.size) (b4 := w3.heap.size + 1) (by omega) s hs w5 a t [] hOS ha ht hsl (by simp; omega))
  have c0 := cell_of_row w5 w.heap.size 0 _ 94 (0, 0) y0
  simp at c0
  obtain ⟨x0, x1, x2⟩ := box3_cells y1
  have c4 := cell_of_row w5 (w3.heap.size + 1) 0 _ 138 (0, 0) z4
  simp at c4
  rw [hs3] at HC HW5 c4
  have HWS : Hid (w.heap.size ≤ w5.heap.size) := Lib.hid hb.size
  clear z0 z1 z2 hb3 hw3 z3 z4 hb5 hw5 hb y0 y1 y2 hOS h hs3 hs5 hs ha ht hen hsl h32
  go_enter Try.func72, Try.ntmps72
  go_wp2_with fail
  rw [HW3.out, HW5.out]
  refine HC.out.mono ?_
  rintro e w6 ⟨rfl, hos, _⟩
  obtain ⟨v, z3, hv⟩ := hos.od
  have hg := hos.fw.gw
  have cv := cell_of_row w6 (w.heap.size + 1 + 1 + 1) 0 _ 57 (0, 0) z3
  simp at cv
  rw [List.nil_append] at hv
  have HV := Lib.hid (RowIs.low (RowIs.of_own (R := intR) hv) HWS.out)
  have HG := Lib.hid hg
  clear hos z3 hv hg c0 x0 x1 x2 c4 hmf
  go_wp2_with fail
  go_ret
  exact ⟨_, rfl, HG.out, HV.out⟩
end Go.Proofs.Yticmeeinjkoodaa
