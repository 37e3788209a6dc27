/- Coolers: with how many failures they bear; what is kept of it. Coolers: the specification's own check of a town. Coolers: short lists, by the statements; coolers, by the specification. Coolers: short lists, by the statements. -/
import Derived.Test.YtmppiiamcpjhnaaBH
import Derived.Maps.Own
import Derived.DeepKeys4
import Derived.Recover
import Derived.Defers
import Derived.Laws.Pointers
namespace Go.Proofs.Ytmppiiamcpjhnaa
open Go.RowKit Go.Shelf
open Go.Maps (Keyed)
open Go.ChangeMaps (setBlock heap_setBlock_same heap_setBlock_other)

/-! ### What is left of some numbers, when those that fail are the greatest -/
def insD (x : Int) : List Int → List Int
  | [] => [x]
  | y :: l => if y ≤ x then x :: y :: l else y :: insD x l
def dsc : List Int → List Int
  | [] => []
  | x :: l => insD x (dsc l)
theorem insD_perm (x : Int) : ∀ l : List Int, (insD x l).Perm (x :: l)
  | [] => List.Perm.refl _
  | y :: l => by
    unfold insD
    split
    · exact List.Perm.refl _
    · exact ((insD_perm x l).cons y).trans (List.Perm.swap x y l)
theorem dsc_perm : ∀ vs : List Int, (dsc vs).Perm vs
  | [] => List.Perm.refl _
  | x :: l => by
    unfold dsc
    exact (insD_perm x _).trans ((dsc_perm l).cons x)
theorem insD_sorted (x : Int) : ∀ {l : List Int}, l.Pairwise (fun a b => b ≤ a) → (insD x l).Pairwise (fun a b => b ≤ a)
  | [], _ => by simp [insD]
  | y :: l, h => by
    obtain ⟨h1, h2⟩ := List.pairwise_cons.1 h
    unfold insD
    split
    · rename_i hyx
      refine List.pairwise_cons.2 ⟨fun z hz => ?_, h⟩
      rcases List.mem_cons.1 hz with rfl | hz
      · exact hyx
      · exact Int.le_trans (h1 z hz) hyx
    · rename_i hyx
      refine List.pairwise_cons.2 ⟨fun z hz => ?_, insD_sorted x h2⟩
      rcases List.mem_cons.1 ((insD_perm x l).mem_iff.1 hz) with rfl | hz
      · omega
      · exact h1 z hz
theorem dsc_sorted : ∀ vs : List Int, (dsc vs).Pairwise (fun a b => b ≤ a)
  | [] => by simp [dsc]
  | x :: l => by
    unfold dsc
    exact insD_sorted x (dsc_sorted l)
theorem dsc_unique {l vs : List Int} (hp : l.Perm vs) (hs : l.Pairwise (fun a b => b ≤ a)) : l = dsc vs :=
  List.Perm.eq_of_pairwise (le := fun a b : Int => b ≤ a) (fun a b _ _ h1 h2 => by omega) hs (dsc_sorted vs) (hp.trans (dsc_perm vs).symm)
theorem sum_perm {l1 l2 : List Int} (h : l1.Perm l2) : l1.sum = l2.sum := by
  induction h with
  | nil => rfl
  | cons x _ ih => rw [List.sum_cons, List.sum_cons, ih]
  | swap x y l => simp only [List.sum_cons]; omega
  | trans _ _ ih1 ih2 => rw [ih1, ih2]
theorem sum_nonneg : ∀ {l : List Int}, (∀ x ∈ l, 0 ≤ x) → 0 ≤ l.sum
  | [], _ => Int.le_refl _
  | x :: l, h => by
    have h1 := h x (by simp)
    have h2 := sum_nonneg (l := l) fun y hy => h y (List.mem_cons_of_mem _ hy)
    rw [List.sum_cons]
    omega
theorem take_cons_ge : ∀ (t : List Int) (x : Int) (k : Nat), t.Pairwise (fun a b => b ≤ a) → 0 ≤ x → (∀ y ∈ t, y ≤ x) → (t.take k).sum ≤ ((x :: t).take k).sum
  | _, _, 0, _, _, _ => by simp
  | [], x, k + 1, _, hx, _ => by simp; exact hx
  | y :: t, x, k + 1, hs, hx, hb => by
    rw [List.take_succ_cons, List.take_succ_cons, List.sum_cons, List.sum_cons]
    have hy := hb y (by simp)
    obtain ⟨h1, h2⟩ := List.pairwise_cons.1 hs
    by_cases hy0 : 0 ≤ y
    · have := take_cons_ge t y k h2 hy0 h1
      omega
    · have key : y + (t.take k).sum ≤ x + ((y :: t).take k).sum := by
        cases k with
        | zero => simp; omega
        | succ k =>
          rw [List.take_succ_cons, List.sum_cons]
          have : (t.take (k + 1)).sum ≤ (t.take k).sum := by
            rw [List.take_add_one, List.sum_append]
            cases hq : t[k]? with
            | none => simp
            | some z =>
              have := h1 z (List.mem_of_getElem? hq)
              simp
              omega
          omega
      exact key
theorem top_sum : ∀ (l : List Int), l.Pairwise (fun a b => b ≤ a) → (∀ x ∈ l, 0 ≤ x) → ∀ (l' r : List Int), (l' ++ r).Perm l → l'.sum ≤ (l.take l'.length).sum
  | [], _, _, l', r, hp => by
    have := hp.length_eq
    simp at this
    obtain rfl := this.1
    simp
  | x :: t, hs, h0, l', r, hp => by
    obtain ⟨h1, h2⟩ := List.pairwise_cons.1 hs
    have h0t : ∀ y ∈ t, 0 ≤ y := fun y hy => h0 y (List.mem_cons_of_mem _ hy)
    by_cases hx : x ∈ l'
    · have hpe := List.perm_cons_erase hx
      have hlen : l'.length = (l'.erase x).length + 1 := hpe.length_eq
      have hp2 : (l'.erase x ++ r).Perm t := by
        have h3 : (x :: (l'.erase x ++ r)).Perm (x :: t) := (List.Perm.append_right r hpe).symm.trans hp
        exact List.Perm.cons_inv h3
      have ih := top_sum t h2 h0t (l'.erase x) r hp2
      rw [sum_perm hpe, hlen, List.take_succ_cons, List.sum_cons, List.sum_cons]
      omega
    · have hxr : x ∈ r := by
        have := hp.mem_iff (a := x)
        simp [hx] at this
        exact this
      have hpe := List.perm_cons_erase hxr
      have hp2 : (l' ++ r.erase x).Perm t := by
        have h3 : (x :: (l' ++ r.erase x)).Perm (x :: t) := (List.perm_middle.symm.trans (List.Perm.append_left l' hpe.symm)).trans hp
        exact List.Perm.cons_inv h3
      have ih := top_sum t h2 h0t l' (r.erase x) hp2
      exact Int.le_trans ih (take_cons_ge t x _ h2 (h0 x (by simp)) h1)
theorem rest_sum {vs l' r : List Int} (h0 : ∀ x ∈ vs, 0 ≤ x) (hp : (l' ++ r).Perm vs) : ((dsc vs).drop l'.length).sum ≤ r.sum := by
  have h1 := top_sum (dsc vs) (dsc_sorted vs) (fun x hx => h0 x ((dsc_perm vs).mem_iff.1 hx)) l' r (hp.trans (dsc_perm vs).symm)
  have h2 : ((dsc vs).take l'.length).sum + ((dsc vs).drop l'.length).sum = l'.sum + r.sum := by
    rw [← List.sum_append, ← List.sum_append, List.take_append_drop]
    exact sum_perm ((dsc_perm vs).trans hp.symm)
  omega
theorem drop_less {d : List Int} (h0 : ∀ x ∈ d, 0 ≤ x) : ∀ (j k : Nat), j ≤ k → (d.drop k).sum ≤ (d.drop j).sum := fun j k h => by
  obtain ⟨e, rfl⟩ : ∃ e, k = j + e := ⟨k - j, by omega⟩
  have h2 : (d.drop j).sum = ((d.drop j).take e).sum + ((d.drop j).drop e).sum := by rw [← List.sum_append, List.take_append_drop]
  have h3 := sum_nonneg (l := (d.drop j).take e) fun x hx => h0 x (List.mem_of_mem_drop (List.mem_of_mem_take hx))
  rw [List.drop_drop] at h2
  omega
/-- With how many failures some numbers are still enough; -1 if they aren't even with none. -/
def bearsV (need : Int) (vs : List Int) : Int :=
  if (dsc vs).sum < need then -1 else if ((dsc vs).drop 1).sum < need then 0 else if ((dsc vs).drop 2).sum < need then 1 else if ((dsc vs).drop 3).sum < need then 2 else 3
theorem bearsV_in (need : Int) (vs : List Int) : -1 ≤ bearsV need vs ∧ bearsV need vs ≤ 3 := by
  unfold bearsV
  repeat' split
  all_goals omega
theorem bearsV_drop {need : Int} {vs : List Int} (h0 : ∀ x ∈ vs, 0 ≤ x) {f : Nat} (hf : f ≤ 3) : (f : Int) ≤ bearsV need vs ↔ need ≤ ((dsc vs).drop f).sum := by
  have h0d : ∀ x ∈ dsc vs, 0 ≤ x := fun x hx => h0 x ((dsc_perm vs).mem_iff.1 hx)
  have d1 := drop_less h0d 0 1 (by omega)
  have d2 := drop_less h0d 1 2 (by omega)
  have d3 := drop_less h0d 2 3 (by omega)
  rw [List.drop_zero] at d1
  unfold bearsV
  match f, hf with
  | 0, _ => rw [List.drop_zero]; repeat' split
            all_goals omega
  | 1, _ => repeat' split
            all_goals omega
  | 2, _ => repeat' split
            all_goals omega
  | 3, _ => repeat' split
            all_goals omega
theorem bearsV_iff {need : Int} {vs : List Int} (h0 : ∀ x ∈ vs, 0 ≤ x) {f : Nat} (hf : f ≤ 3) : (f : Int) ≤ bearsV need vs ↔ ∀ l' r : List Int, (l' ++ r).Perm vs → l'.length ≤ f → need ≤ r.sum := by
  rw [bearsV_drop h0 hf]
  have h0d : ∀ x ∈ dsc vs, 0 ≤ x := fun x hx => h0 x ((dsc_perm vs).mem_iff.1 hx)
  constructor
  · intro h l' r hp hl
    have h1 := rest_sum h0 hp
    have h2 := drop_less h0d l'.length f hl
    omega
  · intro h
    refine h ((dsc vs).take f) ((dsc vs).drop f) ?_ (by rw [List.length_take]; omega)
    rw [List.take_append_drop]
    exact dsc_perm vs

/-! ### What is kept -/
def needI (T : Tn) (h : Nat) : Int := (T.hs.getD h ⟨0, 0, 0⟩).nh
def givL (T : Tn) (h s : Nat) : List Int := (sitL (s : Int)).map fun x => lowI T h x
def bearsI (T : Tn) (h s : Nat) : Int := bearsV (needI T h) (givL T h s)
abbrev keyV (h s : Nat) : Value := .agg #[.int .i64 (h : Int), .int .i64 (s : Int)]
theorem keyV_inj {h s h' s' : Nat} (e : keyV h s = keyV h' s') : h = h' ∧ s = s' := by
  simp at e
  omega
theorem laid_out : laidOutB Try.prog = true := by kernel_rfl
theorem key_row : 117 < Try.prog.types.size := of_decide_eq_true (by kernel_rfl)
theorem key_type : Try.prog.keyTypeAt 2 117 = true := by kernel_rfl
set_option maxRecDepth 100000 in
theorem key_law : Keyed Try.prog 117 := Keyed.of_law (deep_law_laid laid_out (m := 2) (by omega) key_row key_type (by rw [Try.underlying117]))
theorem key_keyType : Try.prog.keyType 117 = true := by kernel_rfl
theorem key_cells : Try.prog.cellsOf 117 = 2 := by kernel_rfl
theorem key_cells3 : Try.prog.cellsOf 3 = 1 := by kernel_rfl
structure KB (h s : Nat) : Prop where
  h : h < 10
  s : s < 2 ^ 10
theorem lit_wf {x : Int} (h : 0 ≤ x ∧ x < 2000) : (Lit.int .i64 x).wf = true := by
  have h1 : IntKind.i64.min = -9223372036854775808 := by decide
  have h2 : IntKind.i64.max = 9223372036854775807 := by decide
  simp only [Lit.wf, h1, h2, Bool.and_eq_true, decide_eq_true_eq]
  omega
set_option maxRecDepth 100000 in
theorem key_of {h s : Nat} (k : KB h s) : ∃ l, keyOf Try.prog 117 (keyV h s) = some l := by
  have w1 : (Lit.int .i64 (h : Int)).wf = true := lit_wf (by have := k.h; omega)
  have w2 : (Lit.int .i64 (s : Int)).wf = true := lit_wf (by have := k.s; omega)
  unfold keyOf
  rw [Try.underlying117]
  simp only [key_keyType, Value.formed, Try.underlying117, key_cells]
  obtain ⟨d, hd⟩ : ∃ d, Try.prog.types.size + 1 = d + 1 + 1 := ⟨Try.prog.types.size - 1, by have := key_row; omega⟩
  rw [hd]
  simp [Program.keyLits, Try.underlying117, Try.underlying3, key_cells, key_cells3, w1, w2, Value.cells]
def MemoOk (T : Tn) (es : Array MapEntry) : Prop := ∀ e ∈ es.toList, ∃ (h s : Nat), KB h s ∧ e.key = keyV h s ∧ e.val = .int .i64 (bearsI T h s)
theorem memo_key {T : Tn} {es : Array MapEntry} (ho : MemoOk T es) : ∀ e ∈ es.toList, ∃ l, keyOf Try.prog 117 e.key = some l := fun e he => by
  obtain ⟨_, _, hb, hk, _⟩ := ho e he
  rw [hk]
  exact key_of hb
theorem memo_val {T : Tn} {es : Array MapEntry} (ho : MemoOk T es) {e : MapEntry} (he : e ∈ es.toList) {h s : Nat} (hk : e.key = keyV h s) : e.val = .int .i64 (bearsI T h s) := by
  obtain ⟨h', s', _, hk', hv⟩ := ho e he
  obtain ⟨rfl, rfl⟩ := keyV_inj (hk'.symm.trans hk)
  exact hv
/-- What is found under a key. -/
theorem memo_look {T : Tn} {es : Array MapEntry} (ho : MemoOk T es) {h s : Nat} (hb : KB h s) (M c : Nat) :
    ∃ (v : Int) (b : Bool), (∀ W : World, W.heap[M]? = some (.map es c) → (Instr.lookup 87 (.map (some M)) (keyV h s) true).run Try.prog W = .ok (.tuple #[.int .i64 v, .bool b]) W) ∧ (b = true → v = bearsI T h s) := by
  obtain ⟨kl, hkey⟩ := key_of hb
  by_cases hin : ∃ e ∈ es.toList, e.key = keyV h s
  · refine ⟨_, true, fun W hW => ?_, fun _ => rfl⟩
    rcases key_law.find W hkey es.toList (memo_key ho) with ⟨h1, h2⟩ | ⟨j, e0, h1, h2, h3⟩
    · obtain ⟨e, he, hk⟩ := hin
      exact absurd hk (h2 e he)
    · have hv := memo_val ho (List.mem_of_getElem? h2) h3
      simp [Instr.lookup, run_underlying Try.underlying87, MapKept.run_getObj_map hW, key_law.check W _ hkey, h1, Result.andThen, hv]
  · refine ⟨0, false, fun W hW => ?_, fun h => by cases h⟩
    rcases key_law.find W hkey es.toList (memo_key ho) with ⟨h1, h2⟩ | ⟨j, e0, h1, h2, h3⟩
    · simp [Instr.lookup, run_underlying Try.underlying87, MapKept.run_getObj_map hW, key_law.check W _ hkey, h1, Result.andThen, go_sem]
    · exact absurd ⟨e0, List.mem_of_getElem? h2, h3⟩ hin
theorem memo_put {T : Tn} {w : World} {M c : Nat} {es : Array MapEntry} (hm : w.heap[M]? = some (.map es c)) (ho : MemoOk T es) {h s : Nat} (hb : KB h s) :
    ∃ w2, (Instr.mapUpdate 87 (.map (some M)) (keyV h s) (.int .i64 (bearsI T h s))).run Try.prog w = .ok () w2 ∧ w.grownBy w2 (some M) ∧ ∃ es' c', w2.heap[M]? = some (.map es' c') ∧ MemoOk T es' := by
  obtain ⟨kl, hkey⟩ := key_of hb
  rcases key_law.find w hkey es.toList (memo_key ho) with ⟨h1, h2⟩ | ⟨j, e0, h1, h2, h3⟩
  · refine ⟨setBlock w M (.map (es.push ⟨keyV h s, .int .i64 (bearsI T h s), c⟩) (c + 1)), ?_, ⟨rfl, rfl, rfl, by simp [setBlock], fun k _ hk => heap_setBlock_other hm _ (fun e => hk (by rw [e]))⟩, _, _, heap_setBlock_same hm _, fun e he => ?_⟩
    · simp [Instr.mapUpdate, run_underlying Try.underlying87, MapKept.run_getObj_map hm, key_law.check w false hkey, h1, MapKept.run_setObj_map _ hm, Result.andThen, setBlock]
    · simp only [Array.toList_push, List.mem_append, List.mem_singleton] at he
      rcases he with he | rfl
      · exact ho e he
      · exact ⟨h, s, hb, rfl, rfl⟩
  · have h2' : es[j]? = some e0 := by simpa using h2
    have hst := key_law.stays w hkey
    refine ⟨setBlock w M (.map (es.modify j fun e => { e with key := keyV h s, val := .int .i64 (bearsI T h s) }) c), ?_, ⟨rfl, rfl, rfl, by simp [setBlock], fun k _ hk => heap_setBlock_other hm _ (fun e => hk (by rw [e]))⟩, _, _, heap_setBlock_same hm _, fun e he => ?_⟩
    · simp [Instr.mapUpdate, run_underlying Try.underlying87, MapKept.run_getObj_map hm, key_law.check w false hkey, h1, h2', h3, hst, MapKept.run_setObj_map _ hm, Result.andThen, setBlock]
    · obtain ⟨i, hi⟩ := List.getElem?_of_mem he
      simp only [Array.getElem?_toList, Array.getElem?_modify] at hi
      split at hi
      · rename_i hji
        subst hji
        rw [h2'] at hi
        injection hi with hi
        exact ⟨h, s, hb, by rw [← hi], by rw [← hi]⟩
      · exact ho e (List.mem_of_getElem? (by simpa using hi))
end Go.Proofs.Ytmppiiamcpjhnaa

namespace Go.Proofs.Ytmppiiamcpjhnaa
open Go.RowKit Go.Shelf

theorem tnB_hs {T : Tn} (h : T.hs.all hsB = false) : tnB T = false := by unfold tnB; rw [h]; simp
theorem tnB_ss {T : Tn} (h : T.ss.all (siB T.hs.length) = false) : tnB T = false := by unfold tnB; rw [h]; simp
theorem hsB_cold {h : Hs} (hc : coldB (h.nl, h.nh) = false) : hsB h = false := by
  unfold hsB; rw [show withinB 0 h.nl h.nh 1000000 = coldB (h.nl, h.nh) from rfl, hc]; rfl
theorem hsB_in {h : Hs} (hc : coldB (h.nl, h.nh) = true) : hsB h = inB 0 h.g 100 := by
  unfold hsB; rw [show withinB 0 h.nl h.nh 1000000 = coldB (h.nl, h.nh) from rfl, hc, Bool.true_and]
set_option maxRecDepth 100000 in
set_option maxHeartbeats 8000000 in
theorem rtown_any (V : TV) (T : Tn) (w : World) (hN : TnAt w w.heap.size V T) :
    Calls Try.prog 19 #[tvV V] w fun e w' => e = .returned (.bool (tnB T)) ∧ Below w.heap.size w w' := by
  have z := heap_alloc_new w (.cells (tvC V) 25)
  have hb := (Below.refl w.heap.size w).alloc (Nat.le_refl _) (.cells (tvC V) 25)
  obtain ⟨w1, hw1⟩ : ∃ z, w.alloc (.cells (tvC V) 25) = z := ⟨_, rfl⟩
  rw [hw1] at z hb
  have HW := Lib.hid hw1
  have HN := Lib.hid (hN.up hb)
  obtain ⟨ah, nh, ch, az, ns, cs⟩ := V
  have HV := Lib.hid (box2 z)
  have hmh := hN.mh; have hms := hN.ms
  unfold maxLen at hmh hms
  simp only at hmh hms
  have HB := Lib.hid hb; have LZ := Lib.hid (heapsz z)
  have HNH := Lib.hid hN.nh; have HNS := Lib.hid hN.ns
  clear z hb hw1 hN
  go_enter Try.func19, Try.ntmps19
  go_wp2_with fail
  rw [show w.alloc (.cells #[.slice ah nh ch, .slice az ns cs] 25) = w1 from HW.out]
  go_loopw [3] (fun i wr => ∃ k : Nat, k ≤ nh ∧ i = .int .i64 k ∧ (∀ j x, j < k → T.hs[j]? = some x → hsB x = true) ∧ Below w1.heap.size w1 wr) (fun i _ => nh - (intOf i).toNat)
  case atStart => exact ⟨0, Nat.zero_le _, rfl, fun j _ hj => absurd hj (Nat.not_lt_zero _), Below.refl _ _⟩
  case round =>
    obtain ⟨k, hk, rfl, hall, hbr⟩ := hrel
    have HAL := Lib.hid hall; have HBR := Lib.hid hbr
    have v0 := ((bcell hbr).1 _ _ LZ.out).trans HV.out.1
    clear hall hbr
    by_cases hlt : k < nh
    · have k0 : (0 : Int) ≤ (k : Int) := by omega
      have k1 : (k : Int) < (nh : Int) := by omega
      obtain ⟨x, hx⟩ := get_of_lt (l := T.hs) (k := k) (by rw [HNH.out]; exact hlt)
      obtain ⟨b, o, rfl, hbb, c0, c1, c2⟩ := hs_el (HN.out.hs.up HBR.out) hx
      have HX := Lib.hid hx; have HBB := Lib.hid hbb
      clear hx hbb
      go_wp2_with fail
      refine (rcold_any (x.nl, x.nh) _).mono ?_
      rintro e w' ⟨rfl, hb9⟩
      replace v0 := ((bcell hb9).1 _ _ (Nat.lt_of_lt_of_le LZ.out HBR.out.size)).trans v0
      replace c2 := ((bcell hb9).1 _ _ HBB.out).trans c2
      have HB9 := Lib.hid (HBR.out.trans (hb9.mono HBR.out.size))
      clear hb9 c0 c1
      cases hc : coldB (x.nl, x.nh)
      · go_wp2_with fail
        go_ret
        exact ⟨by rw [tnB_hs (allB_no HX.out (hsB_cold hc))]; rfl, HB.out.trans (HB9.out.mono HB.out.size)⟩
      have HC := Lib.hid (hsB_in hc)
      clear hc
      go_wp2_with fail
      refine (rin_any _ _ _ _).mono ?_
      rintro e w' ⟨rfl, rfl⟩
      cases hin : inB 0 x.g 100
      · go_wp2_with fail
        go_ret
        exact ⟨by rw [tnB_hs (allB_no HX.out (HC.out.trans hin))]; rfl, HB.out.trans (HB9.out.mono HB.out.size)⟩
      · go_wp2_with fail
        refine ⟨⟨k + 1, by omega, rfl, fun j z hj hz => ?_, HB9.out⟩, by simp [intOf]; omega⟩
        by_cases hjq : j < k
        · exact HAL.out j z hjq hz
        · obtain rfl : j = k := by omega
          have hyz := HX.out
          rw [hz] at hyz
          injection hyz with hyz
          rw [hyz]
          exact HC.out.trans hin
    · obtain rfl : nh = k := by omega
      have k1 : ¬ (nh : Int) < (nh : Int) := by omega
      have HHS : Hid (T.hs.all hsB = true) := Lib.hid (allB_yes fun j x hx => HAL.out j x (by have := HNH.out; have := (List.getElem?_eq_some_iff.1 hx).1; omega) hx)
      have HB1 := HBR
      clear HAL HBR hlt hk
      go_wp2_with fail
      clear v0
      go_loopw [4] (fun i wq => ∃ k : Nat, k ≤ ns ∧ i = .int .i64 k ∧ (∀ j x, j < k → T.ss[j]? = some x → siB nh x = true) ∧ Below w1.heap.size w1 wq) (fun i _ => ns - (intOf i).toNat)
      case atStart => exact ⟨0, Nat.zero_le _, rfl, fun j _ hj => absurd hj (Nat.not_lt_zero _), HB1.out⟩
      case round =>
        obtain ⟨k, hk, rfl, hall, hbr⟩ := hrel
        have HAL := Lib.hid hall; have HBR := Lib.hid hbr
        have v1 := ((bcell hbr).1 _ _ LZ.out).trans HV.out.2
        clear hall hbr
        by_cases hlt : k < ns
        · have k0 : (0 : Int) ≤ (k : Int) := by omega
          have k1 : (k : Int) < (ns : Int) := by omega
          obtain ⟨x, hx⟩ := get_of_lt (l := T.ss) (k := k) (by rw [HNS.out]; exact hlt)
          obtain ⟨b, o, A', m, c', rfl, hbb, hm, ⟨c0, c1, c2⟩, hpr, hmx⟩ := si_el (HN.out.ss.next HBR.out HBR.out.size) hx
          have HX := Lib.hid hx
          obtain ⟨w5, hw5⟩ : ∃ z, wr.alloc (.cells #[.int .i64 x.co, .int .i64 x.we, .slice A' m c'] 77) = z := ⟨_, rfl⟩
          have z5 := heap_alloc_new wr (.cells #[.int .i64 x.co, .int .i64 x.we, .slice A' m c'] 77)
          have hb5 := (Below.refl wr.heap.size wr).alloc (Nat.le_refl _) (.cells #[.int .i64 x.co, .int .i64 x.we, .slice A' m c'] 77)
          rw [hw5] at z5 hb5
          have HW5 := Lib.hid hw5; have HM := Lib.hid hm.symm; have HPR := Lib.hid (RowAt.up hpr hb5)
          have HLQ := Lib.hid (Nat.lt_of_lt_of_le LZ.out HBR.out.size)
          have HV5 := Lib.hid (And.intro (((bcell hb5).1 _ _ HLQ.out).trans (((bcell HBR.out).1 _ _ LZ.out).trans HV.out.1)) (And.intro (((bcell hb5).1 _ _ HLQ.out).trans (((bcell HBR.out).1 _ _ LZ.out).trans HV.out.2)) (box3_cells z5)))
          have HB5 := Lib.hid (HBR.out.trans (hb5.mono HBR.out.size))
          have HL5 := Lib.hid (heapsz z5)
          have hmm := hmx
          unfold maxLen at hmm
          clear hx hbb hm hpr hmx hw5 z5 hb5
          go_wp2_with fail
          rw [show wr.alloc (.cells #[.int .i64 x.co, .int .i64 x.we, .slice A' m c'] 77) = w5 from HW5.out]
          obtain ⟨y0, y1, u0, u1, u2⟩ := HV5.out
          clear v1 c0 c1 c2
          refine (rin_any _ _ _ _).mono ?_
          rintro e w' ⟨rfl, rfl⟩
          cases h1 : inB 0 x.co 1000000
          · go_wp2_with fail
            go_ret
            have hno : siB nh x = false := by unfold siB; rw [h1]; rfl
            exact ⟨by rw [tnB_ss (allB_no HX.out (by rw [HNH.out]; exact hno))]; rfl, HB.out.trans (HB5.out.mono HB.out.size)⟩
          go_wp2_with fail
          refine (rin_any _ _ _ _).mono ?_
          rintro e w' ⟨rfl, rfl⟩
          cases h2 : inB 1 x.we 100
          · go_wp2_with fail
            go_ret
            have hno : siB nh x = false := by unfold siB; rw [h1, h2]; rfl
            exact ⟨by rw [tnB_ss (allB_no HX.out (by rw [HNH.out]; exact hno))]; rfl, HB.out.trans (HB5.out.mono HB.out.size)⟩
          have H1 : Hid (siB nh x = (decide (x.gv.length = nh) && x.gv.all coldB)) := Lib.hid (by unfold siB; rw [h1, h2]; rfl)
          clear h1 h2
          by_cases hmn : ¬ (m : Int) = (nh : Int)
          · go_wp2_with fail
            go_ret
            have hno : siB nh x = false := by rw [H1.out, HM.out, decide_eq_false (by omega)]; rfl
            exact ⟨by rw [tnB_ss (allB_no HX.out (by rw [HNH.out]; exact hno))]; rfl, HB.out.trans (HB5.out.mono HB.out.size)⟩
          have hmn' : (m : Int) = (nh : Int) := Classical.byContradiction hmn
          clear hmn
          have H2 : Hid (siB nh x = x.gv.all coldB) := Lib.hid (by rw [H1.out, HM.out, decide_eq_true (by omega), Bool.true_and])
          go_wp2_with fail
          clear y0 y1 u0 u1 u2
          have HKA := HAL; have HKX := HX
          clear HAL
          go_loopw [6] (fun i wp => ∃ g : Nat, g ≤ m ∧ i = .int .i64 g ∧ (∀ j y, j < g → x.gv[j]? = some y → coldB y = true) ∧ Below w5.heap.size w5 wp) (fun i _ => m - (intOf i).toNat)
          case atStart => exact ⟨0, Nat.zero_le _, rfl, fun j _ hj => absurd hj (Nat.not_lt_zero _), Below.refl _ _⟩
          case round =>
            obtain ⟨g, hg, rfl, hall, hbp⟩ := hrel
            have HAG := Lib.hid hall; have HBP := Lib.hid hbp
            have u2 := ((bcell hbp).1 _ _ HL5.out).trans HV5.out.2.2.2.2
            clear hall hbp
            by_cases hlg : g < m
            · have g0 : (0 : Int) ≤ (g : Int) := by omega
              have g1 : (g : Int) < (m : Int) := by omega
              obtain ⟨y, hy⟩ := get_of_lt (l := x.gv) (k := g) (by rw [HM.out]; exact hlg)
              obtain ⟨b2, o2, rfl, hbb, d0, d1⟩ := pr_el (RowAt.up HPR.out HBP.out) hy
              have HY := Lib.hid hy
              clear hy hbb
              go_wp2_with fail
              refine (rcold_any y _).mono ?_
              rintro e w' ⟨rfl, hb9⟩
              have HB9 := Lib.hid (HBP.out.trans (hb9.mono HBP.out.size))
              clear hb9
              cases hin : coldB y
              · go_wp2_with fail
                go_ret
                have hno : siB nh x = false := by rw [H2.out, allB_no HY.out hin]
                exact ⟨by rw [tnB_ss (allB_no HKX.out (by rw [HNH.out]; exact hno))]; rfl, HB.out.trans ((HB5.out.trans (HB9.out.mono HB5.out.size)).mono HB.out.size)⟩
              · go_wp2_with fail
                refine ⟨⟨g + 1, by omega, rfl, fun j z hj hz => ?_, HB9.out⟩, by simp [intOf]; omega⟩
                by_cases hjq : j < g
                · exact HAG.out j z hjq hz
                · obtain rfl : j = g := by omega
                  have hyz := HY.out
                  rw [hz] at hyz
                  injection hyz with hyz
                  rw [hyz]
                  exact hin
            · obtain rfl : m = g := by omega
              have g1 : ¬ (m : Int) < (m : Int) := by omega
              have hyes : siB nh x = true := by rw [H2.out]; exact allB_yes fun j y hy => HAG.out j y (by have := HM.out; have := (List.getElem?_eq_some_iff.1 hy).1; omega) hy
              have HYES := Lib.hid hyes
              clear hyes
              go_wp2_with fail
              refine ⟨⟨k + 1, by omega, rfl, fun j z hj hz => ?_, HB5.out.trans (HBP.out.mono HB5.out.size)⟩, by simp [intOf]; omega⟩
              by_cases hjq : j < k
              · exact HKA.out j z hjq hz
              · obtain rfl : j = k := by omega
                have hyz := HKX.out
                rw [hz] at hyz
                injection hyz with hyz
                rw [hyz]
                exact HYES.out
        · obtain rfl : ns = k := by omega
          have k1 : ¬ (ns : Int) < (ns : Int) := by omega
          have HSS : Hid (T.ss.all (siB nh) = true) := Lib.hid (allB_yes fun j x hx => HAL.out j x (by have := HNS.out; have := (List.getElem?_eq_some_iff.1 hx).1; omega) hx)
          have v0 := ((bcell HBR.out).1 _ _ LZ.out).trans HV.out.1
          have HE : Hid (tnB T = (inB 1 nh 6 && inB 1 ns 10)) := Lib.hid (by unfold tnB; rw [HNH.out, HNS.out, HHS.out, HSS.out]; simp)
          clear HAL hlt hk
          go_wp2_with fail
          refine (rin_any _ _ _ _).mono ?_
          rintro e w' ⟨rfl, rfl⟩
          cases h1 : inB 1 nh 6
          · go_wp2_with fail
            go_ret
            exact ⟨by rw [HE.out, h1]; rfl, HB.out.trans (HBR.out.mono HB.out.size)⟩
          go_wp2_with fail
          refine (rin_any _ _ _ _).mono ?_
          rintro e w' ⟨rfl, rfl⟩
          go_wp2_with fail
          go_ret
          exact ⟨by rw [HE.out, h1]; rfl, HB.out.trans (HBR.out.mono HB.out.size)⟩
end Go.Proofs.Ytmppiiamcpjhnaa

namespace Go.Proofs.Ytmppiiamcpjhnaa
open Go.RowKit Go.Shelf

theorem rin_b (n a b : Int) (w : World) : Calls Try.prog 57 #[.int .i64 n, .int .i64 a, .int .i64 b] w fun e w' => e = .returned (.bool (inB a n b)) ∧ Below w.heap.size w w' :=
  (rin_any n a b w).mono fun _ _ h => ⟨h.1, by rw [← h.2]; exact Below.refl _ _⟩
set_option maxRecDepth 100000 in
set_option maxHeartbeats 8000000 in
theorem rcoolers_any (V : TV) (T : Tn) (A : Option Addr) (n c : Nat) (cs : List Int) (w : World) (hN : TnAt w w.heap.size V T) (hl : cs.length = n) (hn : n ≤ maxLen) (hA : IntsAt w w.heap.size A cs) :
    Calls Try.prog 29 #[tvV V, .slice A n c] w fun e w' => e = .returned (.bool (coolB T cs)) ∧ Below w.heap.size w w' := by
  have z := heap_alloc_new w (.cells (tvC V) 25)
  have hb := (Below.refl w.heap.size w).alloc (Nat.le_refl _) (.cells (tvC V) 25)
  obtain ⟨w1, hw1⟩ : ∃ z, w.alloc (.cells (tvC V) 25) = z := ⟨_, rfl⟩
  rw [hw1] at z hb
  have HW := Lib.hid hw1
  have HA := Lib.hid (RowAt.up hA hb); have HL := Lib.hid hl
  obtain ⟨ah, nh, ch, az, ns, cz⟩ := V
  have HV := Lib.hid (box2 z)
  have hms := hN.ms
  unfold maxLen at hms hn
  simp only at hms
  have HB := Lib.hid hb; have LZ := Lib.hid (heapsz z)
  have HNS := Lib.hid hN.ns
  clear z hb hw1 hN hl hA
  have HC : Hid (coolB T cs = clB ns (-1) cs) := Lib.hid (by unfold coolB; rw [HNS.out])
  have hsub : wrap64 ((ns : Int) - 1) = (ns : Int) - 1 := w64 (by omega)
  go_enter Try.func29, Try.ntmps29
  go_wp2_with fail
  rw [show w.alloc (.cells #[.slice ah nh ch, .slice az ns cz] 25) = w1 from HW.out]
  go_loopw [5] (fun i wr => ∃ (k : Nat) (b : Int), k ≤ n ∧ i = .int .i64 k ∧ -1 ≤ b ∧ b < (ns : Int) ∧ (k = 0 → b = -1) ∧ (∀ j, k = j + 1 → cs[j]? = some b ∧ 0 ≤ b) ∧ clB ns (-1) cs = clB ns b (cs.drop k) ∧ Below w1.heap.size w1 wr) (fun i _ => n - (intOf i).toNat)
  case atStart => exact ⟨0, -1, Nat.zero_le _, rfl, by omega, by omega, fun _ => rfl, fun j hj => by omega, rfl, Below.refl _ _⟩
  case round =>
    obtain ⟨k, bv, hk, rfl, hb1, hb2, hz, hs, heq, hbr⟩ := hrel
    have HE := Lib.hid heq; have HBR := Lib.hid hbr; have HZ := Lib.hid hz; have HS := Lib.hid hs
    clear heq hbr hz hs
    by_cases hlt : k < n
    · have k0 : (0 : Int) ≤ (k : Int) := by omega
      have k1 : (k : Int) < (n : Int) := by omega
      obtain ⟨x, hx⟩ := get_of_lt (l := cs) (k := k) (by rw [HL.out]; exact hlt)
      obtain ⟨b, o, rfl, hbb, c0⟩ := ints_el (RowAt.up HA.out HBR.out) hx
      have HBB := Lib.hid hbb
      have HD : Hid (cs.drop k = x :: cs.drop (k + 1)) := Lib.hid (by rw [List.drop_eq_getElem_cons (by rw [HL.out]; exact hlt)]; congr 1; have := List.getElem?_eq_some_iff.1 hx; exact this.2)
      have HQ : Hid (clB ns (-1) cs = (inB (bv + 1) x ((ns : Int) - 1) && clB ns x (cs.drop (k + 1)))) := Lib.hid (by rw [HE.out, HD.out]; rfl)
      have HX := Lib.hid hx
      have LW := Lib.hid (Nat.lt_of_lt_of_le LZ.out HBR.out.size)
      have a0 : ∀ u : KeptW wr, u.w.cell? ⟨w.heap.size, 1, none⟩ = some (.slice az ns cz) := fun u => ((bcell u.h).1 _ _ LW.out).trans (((bcell HBR.out).1 _ _ LZ.out).trans HV.out.2)
      have a1 : ∀ u : KeptW wr, u.w.cell? ⟨b, o + k, none⟩ = some (.int .i64 x) := fun u => ((bcell u.h).1 _ _ HBB.out).trans c0
      have HR := Lib.hid (fun u : KeptW wr => Calls.in_kept u (rin_b x 0 ((ns : Int) - 1) u.w))
      clear hx hbb c0
      go_wp2_with fail
      cases h1 : inB 0 x ((ns : Int) - 1)
      · rw [h1] at HR
        refine rk_region (by kernel_rfl) (by kernel_rfl) ?_
        repeat (go_big_quiet_step (first | (with_reducible exact HR.out _) | fail))
        refine wpQuiet_nil ?_
        rintro _ ⟨⟨wz, hbz⟩, rfl⟩
        have HBZ := Lib.hid (HBR.out.trans (hbz.mono HBR.out.size))
        clear hbz
        go_wp2_with fail
        go_ret
        have hno : inB (bv + 1) x ((ns : Int) - 1) = false := by
          cases e : inB (bv + 1) x ((ns : Int) - 1) with
          | false => rfl
          | true =>
            have := inB_iff.1 e
            rw [inB_iff.2 (show 0 ≤ x ∧ x ≤ (ns : Int) - 1 by omega)] at h1
            cases h1
        exact ⟨by rw [HC.out, HQ.out, hno]; rfl, HB.out.trans (HBZ.out.mono HB.out.size)⟩
      have hx0 := inB_iff.1 h1
      have HX0 := Lib.hid hx0
      rw [h1] at HR
      clear h1
      by_cases hk0 : k = 0
      · subst hk0
        have HYES : Hid (inB (bv + 1) x ((ns : Int) - 1) = true) := Lib.hid (inB_iff.2 (by have := HZ.out rfl; omega))
        clear hx0
        simp only [Nat.add_zero] at a1
        refine rk_region (by kernel_rfl) (by kernel_rfl) ?_
        repeat (go_big_quiet_step (first | (with_reducible exact HR.out _) | fail))
        refine wpQuiet_nil ?_
        rintro _ ⟨⟨wz, hbz⟩, rfl⟩
        have HBZ := Lib.hid (HBR.out.trans (hbz.mono HBR.out.size))
        clear hbz
        go_wp2_with fail
        refine ⟨⟨1, x, by omega, rfl, by have := HX0.out; omega, by have := HX0.out; omega, fun h => by omega, fun j hj => ?_, by rw [HQ.out, HYES.out, Bool.true_and], HBZ.out⟩, by simp [intOf]; omega⟩
        obtain rfl : j = 0 := by omega
        exact ⟨HX.out, HX0.out.1⟩
      obtain ⟨j, rfl⟩ : ∃ j, k = j + 1 := ⟨k - 1, by omega⟩
      obtain ⟨hpj, hp0⟩ := HS.out j rfl
      obtain ⟨b', o', hA', hbb', d0⟩ := ints_el (RowAt.up HA.out HBR.out) hpj
      injection hA' with hA'
      injection hA' with e1 e2
      subst e1; subst e2
      have HBV := Lib.hid hp0
      have a2 : ∀ u : KeptW wr, u.w.cell? ⟨b, o + j, none⟩ = some (.int .i64 bv) := fun u => ((bcell u.h).1 _ _ HBB.out).trans d0
      have hj1 : wrap64 (((j + 1 : Nat) : Int) - 1) = (j : Int) := by rw [w64 (by omega)]; omega
      have j0 : (0 : Int) ≤ (j : Int) := by omega
      have j1 : (j : Int) < (n : Int) := by omega
      have jp : (0 : Int) < ((j + 1 : Nat) : Int) := by omega
      clear hpj hp0 d0 hbb' hk0
      by_cases hle : x ≤ bv
      · refine rk_region (by kernel_rfl) (by kernel_rfl) ?_
        repeat (go_big_quiet_step (first | (with_reducible exact HR.out _) | fail))
        refine wpQuiet_nil ?_
        rintro _ ⟨⟨wz, hbz⟩, rfl⟩
        have HBZ := Lib.hid (HBR.out.trans (hbz.mono HBR.out.size))
        clear hbz
        go_wp2_with fail
        go_ret
        have hno : inB (bv + 1) x ((ns : Int) - 1) = false := by
          cases e : inB (bv + 1) x ((ns : Int) - 1) with
          | false => rfl
          | true =>
            have := inB_iff.1 e
            omega
        exact ⟨by rw [HC.out, HQ.out, hno]; rfl, HB.out.trans (HBZ.out.mono HB.out.size)⟩
      · have HYES : Hid (inB (bv + 1) x ((ns : Int) - 1) = true) := Lib.hid (inB_iff.2 (by omega))
        refine rk_region (by kernel_rfl) (by kernel_rfl) ?_
        repeat (go_big_quiet_step (first | (with_reducible exact HR.out _) | fail))
        refine wpQuiet_nil ?_
        rintro _ ⟨⟨wz, hbz⟩, rfl⟩
        have HBZ := Lib.hid (HBR.out.trans (hbz.mono HBR.out.size))
        clear hbz
        go_wp2_with fail
        refine ⟨⟨j + 1 + 1, x, by omega, rfl, by have := HX0.out; omega, by have := HX0.out; omega, fun h => by omega, fun i hi => ?_, by rw [HQ.out, HYES.out, Bool.true_and], HBZ.out⟩, by simp [intOf]; omega⟩
        obtain rfl : i = j + 1 := by omega
        exact ⟨HX.out, HX0.out.1⟩
    · obtain rfl : n = k := by omega
      have k1 : ¬ (n : Int) < (n : Int) := by omega
      go_wp2_with fail
      go_ret
      exact ⟨by rw [HC.out, HE.out, List.drop_of_length_le (by rw [HL.out]; omega)]; rfl, HB.out.trans (HBR.out.mono HB.out.size)⟩
set_option maxRecDepth 100000 in
set_option maxHeartbeats 4000000 in
theorem asked_any (V : TV) (T : Tn) (A : Option Addr) (n c : Nat) (cs : List Int) (w : World) (hN : TnAt w w.heap.size V T) (hl : cs.length = n) (hn : n ≤ maxLen) (hA : IntsAt w w.heap.size A cs) :
    Calls Try.prog 20 #[tvV V, .slice A n c] w fun e w' => e = .returned (.bool (tnB T && coolB T cs)) ∧ Below w.heap.size w w' := by
  have z := heap_alloc_new w (.cells (tvC V) 25)
  have hb := (Below.refl w.heap.size w).alloc (Nat.le_refl _) (.cells (tvC V) 25)
  obtain ⟨w1, hw1⟩ : ∃ z, w.alloc (.cells (tvC V) 25) = z := ⟨_, rfl⟩
  rw [hw1] at z hb
  have HW := Lib.hid hw1
  have HN := Lib.hid (hN.up hb)
  have HA := Lib.hid (RowAt.up hA hb); have HL := Lib.hid hl
  obtain ⟨ah, nh, ch, az, ns, cz⟩ := V
  obtain ⟨v0, v1⟩ := box2 z
  have HB := Lib.hid hb; have Z := Lib.hid z
  clear z hb hw1 hN hl hA
  have HM := Lib.hid hn
  clear hn
  go_enter Try.func20, Try.ntmps20
  go_wp2_with fail
  rw [show w.alloc (.cells #[.slice ah nh ch, .slice az ns cz] 25) = w1 from HW.out]
  go_wp2_with fail
  refine (rtown_any _ T _ HN.out).mono ?_
  rintro e w2 ⟨rfl, hb2⟩
  replace v0 := ((bcell hb2).1 _ _ (heapsz Z.out)).trans v0
  replace v1 := ((bcell hb2).1 _ _ (heapsz Z.out)).trans v1
  have HB2 := Lib.hid (HB.out.trans (hb2.mono HB.out.size))
  have HN2 := Lib.hid (HN.out.up hb2)
  have HA2 := Lib.hid (RowAt.up HA.out hb2)
  clear hb2
  cases h1 : tnB T
  · go_wp2_with fail
    go_ret
    exact ⟨by simp [h1], HB2.out⟩
  go_wp2_with fail
  refine (rcoolers_any _ T A n c cs _ HN2.out HL.out HM.out HA2.out).mono ?_
  rintro e w3 ⟨rfl, hb3⟩
  have HB3 := Lib.hid (HB2.out.trans (hb3.mono HB2.out.size))
  clear hb3
  go_wp2_with fail
  go_ret
  exact ⟨by simp [h1], HB3.out⟩
end Go.Proofs.Ytmppiiamcpjhnaa

namespace Go.Proofs.Ytmppiiamcpjhnaa
open Go.RowKit Go.Shelf

def gsB (T : Tn) : Bool := (List.range (min T.ss.length 15)).all fun i => decide ((T.ss.getD i ⟨0, 0, []⟩).gv.length ≤ 10)
def shortB (T : Tn) : Bool := gsB T && (decide (T.hs.length ≤ 10) && decide (T.ss.length ≤ 15))
theorem gsB_no {T : Tn} {k : Nat} {r : Si} (h : T.ss[k]? = some r) (hk : k < 15) (hr : ¬ r.gv.length ≤ 10) : gsB T = false := by
  cases e : gsB T with
  | false => rfl
  | true =>
    exfalso
    unfold gsB at e
    rw [List.all_eq_true] at e
    have := e k (List.mem_range.2 (by have := (List.getElem?_eq_some_iff.1 h).1; omega))
    rw [List.getD_eq_getElem?_getD, h] at this
    exact hr (by simpa using this)
theorem gsB_yes {T : Tn} (h : ∀ (k : Nat) (r : Si), k < 15 → T.ss[k]? = some r → r.gv.length ≤ 10) : gsB T = true := by
  unfold gsB
  rw [List.all_eq_true]
  intro i hi
  have hi := List.mem_range.1 hi
  obtain ⟨r, hr⟩ := get_of_lt (l := T.ss) (k := i) (by omega)
  rw [List.getD_eq_getElem?_getD, hr]
  simpa using h i r (by omega) hr
set_option maxRecDepth 100000 in
set_option maxHeartbeats 4000000 in
theorem short_any (V : TV) (T : Tn) (w : World) (hN : TnAt w w.heap.size V T) :
    Calls Try.prog 13 #[tvV V] w fun e w' => e = .returned (.bool (shortB T)) ∧ Below w.heap.size w w' := by
  have z := heap_alloc_new w (.cells (tvC V) 25)
  have hb := (Below.refl w.heap.size w).alloc (Nat.le_refl _) (.cells (tvC V) 25)
  obtain ⟨w1, hw1⟩ : ∃ z, w.alloc (.cells (tvC V) 25) = z := ⟨_, rfl⟩
  rw [hw1] at z hb
  have HW := Lib.hid hw1
  have HN := Lib.hid (hN.up hb)
  obtain ⟨ah, nh, ch, az, ns, cz⟩ := V
  obtain ⟨v0, v1⟩ := box2 z
  have hmh := hN.mh; have hms := hN.ms
  unfold maxLen at hmh hms
  simp only at hmh hms v0 v1
  have HB := Lib.hid hb
  have HNH := Lib.hid hN.nh; have HNS := Lib.hid hN.ns
  clear z hb hw1 hN
  go_enter Try.func13, Try.ntmps13
  go_wp2_with fail
  rw [show w.alloc (.cells #[.slice ah nh ch, .slice az ns cz] 25) = w1 from HW.out]
  go_loopw [3] (fun ii wr => ∃ k : Nat, k ≤ ns ∧ k ≤ 15 ∧ ii = .int .i64 k ∧ w1 = wr ∧ ∀ (j : Nat) (r : Si), j < k → T.ss[j]? = some r → r.gv.length ≤ 10) (fun ii _ => ns - (intOf ii).toNat)
  case atStart => exact ⟨0, by omega, by omega, rfl, rfl, fun _ _ h => absurd h (Nat.not_lt_zero _)⟩
  case round =>
    obtain ⟨k, hk, hk15, rfl, rfl, hal⟩ := hrel
    have HAL := Lib.hid hal
    clear hal
    by_cases hlt : k < ns
    · have k3 : (0 : Int) ≤ (k : Int) := by omega
      have k4 : (k : Int) < (ns : Int) := by omega
      by_cases h15 : k < 15
      · have k5 : (k : Int) < 15 := by omega
        obtain ⟨x, hx⟩ := get_of_lt (l := T.ss) (k := k) (by rw [HNS.out]; exact hlt)
        obtain ⟨b, o, A', m, c', rfl, hbb, hm, ⟨c0, c1, c2⟩, hpr, hmx⟩ := si_el HN.out.ss hx
        have HX := Lib.hid hx; have HM := Lib.hid hm
        unfold maxLen at hmx
        clear hx hm hpr hbb c0 c1
        by_cases hpn : 10 < (m : Int)
        · go_wp2_with fail
          go_ret
          exact ⟨by unfold shortB; rw [gsB_no HX.out h15 (by have := HM.out; omega)]; rfl, HB.out⟩
        · go_wp2_with fail
          refine ⟨⟨k + 1, by omega, by omega, rfl, (by first | rfl | trivial), fun j r hj hr => ?_⟩, by simp [intOf]; omega⟩
          by_cases hjk : j < k
          · exact HAL.out j r hjk hr
          · obtain rfl : j = k := by omega
            have h2 := HX.out
            rw [h2] at hr
            injection hr with hr
            rw [← hr, ← HM.out]
            omega
      · have k5 : ¬ (k : Int) < 15 := by omega
        have hws : gsB T = true := gsB_yes fun j r hj hr => HAL.out j r (by omega) hr
        have HWS : Hid (shortB T = (decide (nh ≤ 10) && decide (ns ≤ 15))) := Lib.hid (by unfold shortB; rw [hws, HNH.out, HNS.out]; rfl)
        clear hws
        go_wp2_with fail
        all_goals
          go_ret
          refine ⟨?_, HB.out⟩
          rw [HWS.out]
          simp [*]
          try (first | omega | (intros; omega) | (rw [Bool.eq_iff_iff]; simp; omega) | (rw [Bool.eq_iff_iff]; simp; intros; omega))
    · obtain rfl : ns = k := by omega
      have k4 : ¬ (ns : Int) < (ns : Int) := by omega
      have hws : gsB T = true := gsB_yes fun j r hj hr => HAL.out j r (by have := (List.getElem?_eq_some_iff.1 hr).1; have := HNS.out; omega) hr
      have HWS : Hid (shortB T = (decide (nh ≤ 10) && decide (ns ≤ 15))) := Lib.hid (by unfold shortB; rw [hws, HNH.out, HNS.out]; rfl)
      clear hws
      go_wp2_with fail
      all_goals
        go_ret
        refine ⟨?_, HB.out⟩
        rw [HWS.out]
        simp [*]
        try (first | omega | (intros; omega) | (rw [Bool.eq_iff_iff]; simp; omega) | (rw [Bool.eq_iff_iff]; simp; intros; omega))
end Go.Proofs.Ytmppiiamcpjhnaa
