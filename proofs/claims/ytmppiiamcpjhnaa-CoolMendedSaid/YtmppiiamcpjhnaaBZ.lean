/- Coolers: numbers are sorted by insertion, the greatest first. Coolers: those first that surely give the most. Coolers: with how many failures they bear a house, by the code that keeps what it has found. Coolers: with how many failures they bear a house: the walk. Coolers: the first house that isn't surely level. -/
import Derived.Test.YtmppiiamcpjhnaaBU
namespace Go.Proofs.Ytmppiiamcpjhnaa
open Go.RowKit Go.Shelf

/-! ### Lists -/
def Dsc (f : Int → Int) (l : List Int) : Prop := l.Pairwise fun a b => f b ≤ f a
theorem dsc_join {f : Int → Int} {p q : List Int} {z : Int} (h : Dsc f (p ++ q)) (hq : ∀ y ∈ q, f y ≤ f z) (hp : ∀ y ∈ p, f z ≤ f y) : Dsc f (p ++ z :: q) := by
  unfold Dsc at *
  obtain ⟨h1, h2, h3⟩ := List.pairwise_append.1 h
  refine List.pairwise_append.2 ⟨h1, List.pairwise_cons.2 ⟨hq, h2⟩, fun a ha b hb => ?_⟩
  rcases List.mem_cons.1 hb with rfl | hb
  · exact hp a ha
  · exact h3 a ha b hb
theorem dsc_last {f : Int → Int} {p q : List Int} {y z : Int} (h : Dsc f ((p ++ [y]) ++ q)) (hz : f z ≤ f y) : ∀ x ∈ p ++ [y], f z ≤ f x := fun x hx => by
  unfold Dsc at h
  obtain ⟨h1, _, _⟩ := List.pairwise_append.1 h
  obtain ⟨_, _, h3⟩ := List.pairwise_append.1 h1
  rcases List.mem_append.1 hx with hx | hx
  · have := h3 x hx y (by simp); omega
  · rw [List.mem_singleton.1 hx]; exact hz
theorem swap_perm (p r : List Int) (y z : Int) : (p ++ z :: y :: r).Perm (p ++ y :: z :: r) := (List.Perm.swap y z r).append_left p
/-! ### The numbers in their block -/
def RowB (B : Nat) (ys : List Int) (w : World) : Prop := ∃ cs, w.heap[B]? = some (.cells cs 3 (0, 0)) ∧ ∀ (i : Nat) (x : Int), ys[i]? = some x → cs[i]? = some (.int .i64 x)
theorem rowB_cell {B : Nat} {p r : List Int} {z : Int} {w : World} (h : RowB B (p ++ z :: r) w) : w.cell? ⟨B, p.length, none⟩ = some (.int .i64 z) := by
  obtain ⟨cs, h1, h2⟩ := h
  rw [cell_of_row w B _ _ 3 (0, 0) h1]
  exact h2 _ _ (by simp)
theorem rowB_up {B : Nat} {ys : List Int} {w w' : World} (h : RowB B ys w) (hb : Below w.heap.size w w') : RowB B ys w' := by
  obtain ⟨cs, h1, h2⟩ := h
  exact ⟨cs, (hb.block _ (heapsz h1)).trans h1, h2⟩
theorem swap_cells {cs : Array Value} {p r : List Int} {y z : Int} (h : ∀ (i : Nat) (x : Int), (p ++ y :: z :: r)[i]? = some x → cs[i]? = some (.int .i64 x)) : ∀ (i : Nat) (x : Int), (p ++ z :: y :: r)[i]? = some x → ((cs.setIfInBounds (p.length + 1) (.int .i64 y)).setIfInBounds p.length (.int .i64 z))[i]? = some (.int .i64 x) := fun i x hx => by
  have h0 := h p.length y (by simp)
  have h1 := h (p.length + 1) z (by simp)
  have s0 := (Array.getElem?_eq_some_iff.1 h0).1
  have s1 := (Array.getElem?_eq_some_iff.1 h1).1
  by_cases e0 : i = p.length
  · subst e0
    simp at hx
    subst hx
    simp [s0]
  · by_cases e1 : i = p.length + 1
    · subst e1
      simp at hx
      subst hx
      simp [s1]
    · rw [Array.getElem?_setIfInBounds_ne (by omega), Array.getElem?_setIfInBounds_ne (by omega)]
      refine h i x ?_
      rcases Nat.lt_or_ge i p.length with hl | hl
      · rw [List.getElem?_append_left hl] at hx ⊢
        exact hx
      · rw [List.getElem?_append_right hl] at hx ⊢
        obtain ⟨k, hk⟩ : ∃ k, i - p.length = k + 2 := ⟨i - p.length - 2, by omega⟩
        rw [hk] at hx ⊢
        simpa using hx
/-- The two numbers change places. -/
structure SwS (w0 : World) (B j : Nat) (y : Int) (cs : Array Value) (done : Nat → Bool) (u : World) : Prop where
  gr : w0.grownBy u (some B)
  row : u.heap[B]? = some (.cells (if done 15 then cs.setIfInBounds j (.int .i64 y) else cs) 3 (0, 0))
  o9 : done 15 = true → done 9 = true
  o13 : done 15 = true → done 13 = true
section
variable {w0 u : World} {B j i : Nat} {y : Int} {cs : Array Value} {done : Nat → Bool} {ops : Array Oper} {cv : Tmp → Value} {o : Oper}
abbrev AskW (w0 : World) (B j : Nat) (y : Int) (cs : Array Value) (ops : Array Oper) (cv : Tmp → Value) (done : Nat → Bool) (u : World) (i : Nat) (o : Oper) : Prop :=
  Region.wanted o (yieldedBy ops cv) = true ∧ Yield Try.prog (fun v w' => ∃ _ : Unit, SwS w0 B j y cs (updB done i) w' ∧ (∀ d, o.dst = some d → cv d = v) ∧ ∀ t, o.dst ≠ some t → cv t = cv t) ((execOp (evalBy cv) o).run Try.prog u)
theorem quietW (h : SwS w0 B j y cs done u) (d : Tmp) (hd : o.dst = some d) (hi : i ≠ 15) (hg : Region.wanted o (yieldedBy ops cv) = true) (he : (execOp (evalBy cv) o).run Try.prog u = .ok (.value (cv d)) u) : AskW w0 B j y cs ops cv done u i o := by
  refine ⟨hg, ?_⟩
  rw [he]
  exact ⟨(), ⟨h.gr, by rw [updM_ne hi]; exact h.row, fun e => updM_le (h.o9 (by rwa [updM_ne hi] at e)), fun e => updM_le (h.o13 (by rwa [updM_ne hi] at e))⟩, fun e hE => by rw [hd] at hE; injection hE with hE; subst hE; rfl, fun _ _ => rfl⟩
theorem storeW (h : SwS w0 B j y cs done u) (hd : o.dst = none) (hu : done 15 = false) (h9 : done 9 = true) (h13 : done 13 = true) (hg : Region.wanted o (yieldedBy ops cv) = true) (he : u.heap[B]? = some (.cells cs 3 (0, 0)) → (execOp (evalBy cv) o).run Try.prog u = .ok .skip (u.setCell ⟨B, j, none⟩ (.int .i64 y))) : AskW w0 B j y cs ops cv done u 15 o := by
  refine ⟨hg, ?_⟩
  have hr := h.row
  rw [hu] at hr
  rw [he hr]
  refine ⟨(), ⟨?_, ?_, fun _ => updM_le h9, fun _ => updM_le h13⟩, fun e hE => by rw [hd] at hE; exact absurd hE (by simp), fun _ _ => rfl⟩
  · exact ⟨h.gr.os, h.gr.tape, h.gr.output, by simpa [World.setCell] using h.gr.size, fun k hk hne => (Below.heap_setCell _ _ _ _ (show k ≠ B from fun e => hne (by rw [e]))).trans (h.gr.block k hk hne)⟩
  · rw [updM_eq]
    exact blk_set hr j _
end
/-- What is asked of the comparison. -/
def CmpOk (w0 : World) (B F : Nat) (f : Int → Int) (xs : List Int) : Prop := ∀ u, w0.grownBy u (some B) → ∀ x ∈ xs, ∀ y ∈ xs,
  Calls Try.prog 112 #[.int .i64 x, .int .i64 y, .pointer (some ⟨F, 0, none⟩)] u fun e u' => e = .returned (.int .i64 (cmpI (f y) (f x))) ∧ Below u.heap.size u u'
theorem grownBy_up {a b c : World} {row : Option Nat} (h : a.grownBy b row) (k : Below b.heap.size b c) : a.grownBy c row := grownBy_trans h k
def swCv (B jp n c : Nat) (y z : Int) : Tmp → Value
  | 0 => .slice (some ⟨B, 0, none⟩) n c
  | 9 => .int .i64 ((jp : Int) + 1)
  | 37 => .slice (some ⟨B, 0, none⟩) n c
  | 38 => .int .i64 ((jp : Int) + 1)
  | 39 => .slice (some ⟨B, 0, none⟩) n c
  | 40 => .int .i64 ((jp : Int) + 1)
  | 41 => .int .i64 (jp : Int)
  | 42 => .slice (some ⟨B, 0, none⟩) n c
  | 43 => .int .i64 ((jp : Int) + 1)
  | 44 => .int .i64 (jp : Int)
  | 45 => .pointer (some ⟨B, jp, none⟩)
  | 46 => .int .i64 y
  | 47 => .slice (some ⟨B, 0, none⟩) n c
  | 48 => .int .i64 ((jp : Int) + 1)
  | 49 => .pointer (some ⟨B, jp + 1, none⟩)
  | 50 => .int .i64 z
  | 51 => .pointer (some ⟨B, jp + 1, none⟩)
  | 52 => .pointer (some ⟨B, jp, none⟩)
  | _ => undef
section
attribute [local irreducible] QT
set_option maxRecDepth 100000 in
set_option maxHeartbeats 4000000 in
theorem insertion_any (B n c F : Nat) (f : Int → Int) (xs : List Int) (w : World) (hn : xs.length = n) (h10 : n ≤ 10) (hR : RowB B xs w) (hC : CmpOk w B F f xs) :
    Calls Try.prog 118 #[.slice (some ⟨B, 0, none⟩) n c, .int .i64 0, .int .i64 n, .func (.func 112) #[] #[.pointer (some ⟨F, 0, none⟩)]] w fun e w' => e = .returned (.tuple #[]) ∧ w.grownBy w' (some B) ∧ ∃ ys, ys.Perm xs ∧ Dsc f ys ∧ RowB B ys w' := by
  have HN := Lib.hid hn; have HR := Lib.hid hR; have HC := Lib.hid hC
  have HBL : Hid (B < w.heap.size) := Lib.hid (by obtain ⟨cs, h1, _⟩ := hR; exact heapsz h1)
  have HG0 : Hid (w.grownBy w (some B)) := Lib.hid ⟨rfl, rfl, rfl, Nat.le_refl _, fun _ _ _ => rfl⟩
  have hst : 0 < n → Dsc f (xs.take 1) := fun _ => by
    cases xs with
    | nil => simp [Dsc]
    | cons x l => simp [Dsc]
  have HST := Lib.hid hst
  clear hn hR hC hst
  go_enter Try.func118, Try.ntmps118
  go_wp2_with fail
  go_loopw [8] (fun ii wr => (n = 0 ∧ ii = .int .i64 1 ∧ wr = w) ∨ ∃ d r : List Int, 1 ≤ d.length ∧ ii = .int .i64 d.length ∧ Dsc f d ∧ (d ++ r).Perm xs ∧ RowB B (d ++ r) wr ∧ w.grownBy wr (some B)) (fun ii _ => 10 - (intOf ii).toNat)
  case atStart =>
    by_cases h0 : n = 0
    · exact .inl ⟨h0, rfl, rfl⟩
    · refine .inr ⟨xs.take 1, xs.drop 1, ?_, ?_, HST.out (by omega), by rw [List.take_append_drop], by rw [List.take_append_drop]; exact HR.out, HG0.out⟩
      · rw [List.length_take, HN.out]; omega
      · rw [List.length_take, HN.out, Nat.min_eq_left (by omega)]; rfl
  case round =>
    rcases hrel with ⟨h0, rfl, rfl⟩ | ⟨d, r, hd1, rfl, hds, hpm, hrow, hgr⟩
    · have k4 : ¬ (1 : Int) < (n : Int) := by omega
      have hxe : xs = [] := List.eq_nil_of_length_eq_zero (by rw [HN.out]; exact h0)
      have HXE := Lib.hid hxe
      clear hxe
      go_wp2_with fail
      go_end0
      exact ⟨rfl, HG0.out, xs, List.Perm.refl _, by rw [HXE.out]; simp [Dsc], HR.out⟩
    · have hlen : d.length + r.length = n := by
        have := hpm.length_eq
        rw [List.length_append, HN.out] at this
        exact this
      have HDS := Lib.hid hds; have HPM := Lib.hid hpm; have HRW := Lib.hid hrow; have HGR := Lib.hid hgr; have HLN := Lib.hid hlen
      clear hds hpm hrow hgr
      cases r with
      | nil =>
        have hdn : d.length = n := by simpa using hlen
        rw [hdn]
        clear hlen
        have k4 : ¬ (n : Int) < (n : Int) := by omega
        go_wp2_with fail
        go_end0
        exact ⟨rfl, HGR.out, d, by have := HPM.out; rwa [List.append_nil] at this, HDS.out, by have := HRW.out; rwa [List.append_nil] at this⟩
      | cons z0 r =>
        have hlt : d.length < n := by simp at hlen; omega
        have k4 : (d.length : Int) < (n : Int) := by omega
        obtain ⟨i, hi⟩ : ∃ i, d.length = i := ⟨_, rfl⟩
        rw [hi] at hlt k4 hd1 ⊢
        have HI := Lib.hid hi
        clear hlen hi
        go_wp2_with fail
        go_loopw [9] (fun jj wq => ∃ (p q : List Int) (z : Int), jj = .int .i64 p.length ∧ p.length + q.length = i ∧ Dsc f (p ++ q) ∧ (∀ y ∈ q, f y ≤ f z) ∧ (p ++ z :: (q ++ r)).Perm xs ∧ RowB B (p ++ z :: (q ++ r)) wq ∧ w.grownBy wq (some B)) (fun jj _ => (intOf jj).toNat)
        case atStart => exact ⟨d, [], z0, by rw [HI.out], by rw [HI.out]; rfl, by rw [List.append_nil]; exact HDS.out, fun y hy => by simp at hy, HPM.out, HRW.out, HGR.out⟩
        case round =>
          obtain ⟨p, q, z, rfl, hpq, hds, hq, hpm, hrow, hgr⟩ := hrel
          have HD2 := Lib.hid hds; have HQ2 := Lib.hid hq; have HP2 := Lib.hid hpm; have HR2 := Lib.hid hrow; have HG2 := Lib.hid hgr; have HPQ := Lib.hid hpq
          have fin : (∀ y ∈ p, f z ≤ f y) → ∃ d' r' : List Int, 1 ≤ d'.length ∧ d'.length = i + 1 ∧ Dsc f d' ∧ (d' ++ r').Perm xs ∧ RowB B (d' ++ r') wr ∧ w.grownBy wr (some B) := fun hp => by
            refine ⟨p ++ z :: q, r, by simp; omega, by simp; have := HPQ.out; omega, dsc_join HD2.out HQ2.out hp, ?_, ?_, HG2.out⟩
            · have := HP2.out; simpa using this
            · have := HR2.out; simpa using this
          have HFIN := Lib.hid fin
          clear hds hq hpm hrow hgr hpq fin
          rcases List.eq_nil_or_concat p with rfl | ⟨p', y, rfl⟩
          · have hc0 : ¬ ((([] : List Int).length : Nat) : Int) > 0 := by simp
            have HE := Lib.hid (HFIN.out (fun y hy => by simp at hy))
            simp only [List.length_nil]
            have k5 : ¬ (0 : Int) < ((0 : Nat) : Int) := by omega
            clear hc0
            go_wp2_with fail
            refine rk_region (by kernel_rfl) (by kernel_rfl) ?_
            repeat (go_big_quiet_step (fail))
            refine wpQuiet_nil ?_
            rintro wv ⟨⟨_, hbv⟩, rfl⟩
            obtain ⟨d', r', e1, e2, e3, e4, e5, e6⟩ := HE.out
            have HB5 := Lib.hid (rowB_up e5 hbv); have HB6 := Lib.hid (grownBy_up e6 hbv); have H34 := Lib.hid (And.intro e2 (And.intro e3 e4))
            clear e2 e3 e4 e5 e6 hbv
            go_wp2_with fail
            exact ⟨.inr ⟨d', r', e1, by rw [H34.out.1]; rfl, H34.out.2.1, H34.out.2.2, HB5.out, HB6.out⟩, by simp [intOf]; omega⟩
          · have hpl : (p'.concat y).length = p'.length + 1 := by simp
            rw [List.concat_eq_append] at HD2 HP2 HR2 HPQ HFIN ⊢
            simp only [List.length_append, List.length_cons, List.length_nil] at HPQ ⊢
            obtain ⟨jp, hjp⟩ : ∃ jp, p'.length = jp := ⟨_, rfl⟩
            have HJP := Lib.hid hjp
            have c1 := rowB_cell (p := p' ++ [y]) (z := z) HR2.out
            have c0 := rowB_cell (p := p') (z := y) (r := z :: (q ++ r)) (by have := HR2.out; simpa using this)
            simp only [List.length_append, List.length_cons, List.length_nil] at c1
            rw [hjp] at c0 c1 HPQ ⊢
            have LB : B < wr.heap.size := Nat.lt_of_lt_of_le HBL.out HG2.out.size
            have hjn : jp + 1 < n := by have := HPQ.out; omega
            have HCM : Hid (∀ u : KeptW wr, Calls Try.prog 112 #[.int .i64 z, .int .i64 y, .pointer (some ⟨F, 0, none⟩)] u.w fun e u' => e = .returned (.int .i64 (cmpI (f y) (f z))) ∧ ∃ q : KeptW wr, u' = q.w) := Lib.hid fun u => Calls.in_kept u (HC.out u.w (grownBy_up HG2.out u.h) z (HP2.out.mem_iff.1 (by simp)) y (HP2.out.mem_iff.1 (by simp)))
            have a1 : ∀ u : KeptW wr, u.w.cell? ⟨B, jp + 1, none⟩ = some (.int .i64 z) := fun u => ((bcell u.h).1 _ _ LB).trans c1
            have a0 : ∀ u : KeptW wr, u.w.cell? ⟨B, jp, none⟩ = some (.int .i64 y) := fun u => ((bcell u.h).1 _ _ LB).trans c0
            clear hpl hjp c0 c1
            rw [show ((jp + 1 : Nat) : Int) = (jp : Int) + 1 from rfl]
            have g0 : (0 : Int) < (jp : Int) + 1 := by omega
            have g1 : (jp : Int) < (n : Int) := by omega
            have g2 : (jp : Int) + 1 < (n : Int) := by omega
            have e2 : wrap64 ((jp : Int) + 1 - 1) = (jp : Int) := by rw [Int.add_sub_cancel]; exact w64 (by omega)
            have e3 : wrap64 (jp : Int) = (jp : Int) := w64 (by omega)
            have e4 : IntKind.i64.wrap (jp : Int) = (jp : Int) := by rw [IntKind.wrap_i64]; omega
            by_cases hc : f y < f z
            · have hcv : cmpI (f y) (f z) = -1 := by unfold cmpI; rw [if_pos hc]
              rw [hcv] at HCM
              go_wp2_with fail
              refine rk_region (by kernel_rfl) (by kernel_rfl) ?_
              repeat (go_big_quiet_step (first | (with_reducible exact HCM.out _) | fail))
              refine wpQuiet_nil ?_
              rintro wv ⟨⟨_, hbv⟩, rfl⟩
              clear a0 a1
              have HGV := Lib.hid (grownBy_up HG2.out hbv)
              obtain ⟨cs, hcs, hcx⟩ := rowB_up HR2.out hbv
              have HCS := Lib.hid (And.intro hcs hcx)
              have HCELL : Hid (∀ u : World, u.heap[B]? = some (.cells cs 3 (0, 0)) → u.cell? ⟨B, jp, none⟩ = some (.int .i64 y) ∧ u.cell? ⟨B, jp + 1, none⟩ = some (.int .i64 z)) := Lib.hid fun u hu => by
                refine ⟨(cell_of_row u B _ _ 3 (0, 0) hu).trans (HCS.out.2 _ _ ?_), (cell_of_row u B _ _ 3 (0, 0) hu).trans (HCS.out.2 _ _ ?_)⟩
                · rw [← HJP.out]; simp
                · rw [← HJP.out]; simp
              have k0 : (0 : Int) ≤ (jp : Int) := by omega
              have k1 : (0 : Int) ≤ (jp : Int) + 1 := by omega
              clear hbv hcs hcx hcv
              go_wp2_with fail
              apply tail_regionX
              case hs => exact (rfl : _ = [_, _, _, _, _, _, _, _, _, _, _, _, _, _, _, _, _] ++ [_])
              case hm => kernel_rfl
              case hT => kernel_rfl
              refine plan_guarded_any (γ := Unit) [0, 9] (fun _ => swCv B jp n c y z) (fun done _ u => SwS w B (jp + 1) y cs done u) () (by kernel_rfl) (by kernel_rfl) (by kernel_rfl) (by kernel_rfl) ?_ ⟨grownBy_up HGV.out (Below.refl _ _).drew, by simpa using HCS.out.1, fun h => by simp at h, fun h => by simp at h⟩ ?_ ?_
              · intro t ht
                simp only [List.mem_cons, List.not_mem_nil, or_false] at ht
                rcases ht with rfl | rfl <;> rfl
              · refine allOps_array ?_
                refine ⟨?_, ?_, ?_, ?_, ?_, ?_, ?_, ?_, ?_, ?_, ?_, ?_, ?_, ?_, ?_, ?_, ?_, trivial⟩ <;> intro done g u hS hu hdep _
                · refine quietW hS 37 rfl (by decide) rfl ?_
                  simp [go_sem, evalBy, swCv]
                · refine quietW hS 38 rfl (by decide) rfl ?_
                  simp [go_sem, evalBy, swCv]
                · refine quietW hS 39 rfl (by decide) rfl ?_
                  simp [go_sem, evalBy, swCv]
                · refine quietW hS 40 rfl (by decide) rfl ?_
                  simp [go_sem, evalBy, swCv]
                · refine quietW hS 41 rfl (by decide) rfl ?_
                  simp [go_sem, evalBy, swCv, e4]
                · refine quietW hS 42 rfl (by decide) rfl ?_
                  simp [go_sem, evalBy, swCv]
                · refine quietW hS 43 rfl (by decide) rfl ?_
                  simp [go_sem, evalBy, swCv]
                · refine quietW hS 44 rfl (by decide) rfl ?_
                  simp [go_sem, evalBy, swCv, e4]
                · refine quietW hS 45 rfl (by decide) rfl ?_
                  simp [go_sem, evalBy, swCv, g1, k0]
                · have hd : done 15 = false := by
                    cases hq : done 15 with
                    | false => rfl
                    | true => have := hS.o9 hq; rw [hu] at this; cases this
                  have hr := hS.row
                  rw [hd] at hr
                  obtain ⟨c0, c1⟩ := HCELL.out u hr
                  refine quietW hS 46 rfl (by decide) rfl ?_
                  simp [go_sem, evalBy, swCv, c0]
                · refine quietW hS 47 rfl (by decide) rfl ?_
                  simp [go_sem, evalBy, swCv]
                · refine quietW hS 48 rfl (by decide) rfl ?_
                  simp [go_sem, evalBy, swCv]
                · refine quietW hS 49 rfl (by decide) rfl ?_
                  simp [go_sem, evalBy, swCv, g2, k1]
                · have hd : done 15 = false := by
                    cases hq : done 15 with
                    | false => rfl
                    | true => have := hS.o13 hq; rw [hu] at this; cases this
                  have hr := hS.row
                  rw [hd] at hr
                  obtain ⟨c0, c1⟩ := HCELL.out u hr
                  refine quietW hS 50 rfl (by decide) rfl ?_
                  simp [go_sem, evalBy, swCv, c1]
                · refine quietW hS 51 rfl (by decide) rfl ?_
                  simp [go_sem, evalBy, swCv, g2, k1]
                · refine storeW hS rfl hu (hdep ⟨9, .data⟩ (by simp) rfl) (hdep ⟨13, .phase⟩ (by simp) rfl) rfl (fun hr => ?_)
                  obtain ⟨c0, c1⟩ := HCELL.out u hr
                  have f1 : u.frozen? ⟨B, jp + 1, none⟩ = false := by simp [World.frozen?, hr]
                  simp [go_sem, evalBy, swCv, c1, f1]
                · refine quietW hS 52 rfl (by decide) rfl ?_
                  simp [go_sem, evalBy, swCv, g1, k0]
              · intro g u hS
                have hr := hS.row
                rw [if_pos (by decide)] at hr
                have hsz : jp < cs.size := (Array.getElem?_eq_some_iff.1 (HCS.out.2 jp y (by rw [← HJP.out]; simp))).1
                have c0 := cell_of_row u B jp _ 3 (0, 0) hr
                have f0 : u.frozen? ⟨B, jp, none⟩ = false := by simp [World.frozen?, hr]
                have hc0 : (cs.setIfInBounds (jp + 1) (.int .i64 y))[jp]? = some (.int .i64 y) := by
                  rw [Array.getElem?_setIfInBounds_ne (by omega)]
                  exact HCS.out.2 jp y (by rw [← HJP.out]; simp)
                rw [hc0] at c0
                have hg9 : w.grownBy (u.setCell ⟨B, jp, none⟩ (.int .i64 z)) (some B) := ⟨hS.gr.os, hS.gr.tape, hS.gr.output, by simpa [World.setCell] using hS.gr.size, fun k hk hne => (Below.heap_setCell _ _ _ _ (show k ≠ B from fun e => hne (by rw [e]))).trans (hS.gr.block k hk hne)⟩
                have hrow9 : RowB B (p' ++ z :: y :: (q ++ r)) (u.setCell ⟨B, jp, none⟩ (.int .i64 z)) := ⟨_, blk_set hr jp _, by
                  have h := swap_cells (cs := cs) (p := p') (r := q ++ r) (y := y) (z := z) (by have := HCS.out.2; simpa using this)
                  rwa [HJP.out] at h⟩
                have HG9 := Lib.hid hg9; have HR9 := Lib.hid hrow9
                have HC2 := Lib.hid (show f y ≤ f z by omega)
                clear hS hr hc0 hg9 hrow9 hsz
                simp only [QT]
                unfold Oper.wp
                simp [go_sem, putAll, Act.put, swCv, c0, f0]
                obtain ⟨w9, hw9⟩ : ∃ v, u.setCell ⟨B, jp, none⟩ (.int .i64 z) = v := ⟨_, rfl⟩
                rw [hw9] at HG9 HR9 ⊢
                clear hw9 c0 f0
                go_wp2_with fail
                refine ⟨⟨p', y :: q, z, by rw [HJP.out], ?_, ?_, ?_, ?_, HR9.out, HG9.out⟩, by simp [intOf]⟩
                · rw [HJP.out]; have := HPQ.out; simp; omega
                · have := HD2.out; simpa using this
                · intro x hx
                  rcases List.mem_cons.1 hx with rfl | hx
                  · exact HC2.out
                  · exact HQ2.out x hx
                · refine (swap_perm p' (q ++ r) y z).trans ?_
                  have := HP2.out
                  simpa using this
            · obtain ⟨V, hV⟩ : ∃ V, cmpI (f y) (f z) = V := ⟨_, rfl⟩
              have hV0 : ¬ V < 0 := by rw [← hV]; unfold cmpI; rw [if_neg hc]; split <;> omega
              rw [hV] at HCM
              have HE := Lib.hid (HFIN.out (dsc_last HD2.out (by omega)))
              clear hV hc
              go_wp2_with fail
              have hV0 : ¬ V < 0 := by omega
              refine rk_region (by kernel_rfl) (by kernel_rfl) ?_
              repeat (go_big_quiet_step (first | (with_reducible exact HCM.out _) | fail))
              refine wpQuiet_nil ?_
              rintro wv ⟨⟨_, hbv⟩, rfl⟩
              obtain ⟨d', r', e1, e5, e6, e7, e8, e9⟩ := HE.out
              have HB5 := Lib.hid (rowB_up e8 hbv); have HB6 := Lib.hid (grownBy_up e9 hbv); have H34 := Lib.hid (And.intro e5 (And.intro e6 e7))
              clear e5 e6 e7 e8 e9 hbv a0 a1
              go_wp2_with fail
              exact ⟨.inr ⟨d', r', e1, by rw [H34.out.1]; rfl, H34.out.2.1, H34.out.2.2, HB5.out, HB6.out⟩, by simp [intOf]; omega⟩
end
end Go.Proofs.Ytmppiiamcpjhnaa

namespace Go.Proofs.Ytmppiiamcpjhnaa
open Go.RowKit Go.Shelf

set_option maxRecDepth 100000 in
set_option maxHeartbeats 4000000 in
theorem insertion_nil (A : Option Addr) (c F : Nat) (w : World) :
    Calls Try.prog 118 #[.slice A 0 c, .int .i64 0, .int .i64 (0 : Nat), .func (.func 112) #[] #[.pointer (some ⟨F, 0, none⟩)]] w fun e w' => e = .returned (.tuple #[]) ∧ w = w' := by
  go_enter Try.func118, Try.ntmps118
  go_wp2_with fail
  go_loopw [8] (fun ii wr => ii = .int .i64 1 ∧ w = wr) (fun _ _ => 0)
  case atStart => exact ⟨rfl, rfl⟩
  case round =>
    obtain ⟨rfl, rfl⟩ := hrel
    go_wp2_with fail
    go_end0
    exact ⟨rfl, rfl⟩
set_option maxRecDepth 100000 in
set_option maxHeartbeats 4000000 in
theorem stable_any (A : Option Addr) (n c F : Nat) (w : World) (Q : World → Prop) (hn : n ≤ 10)
    (h : Calls Try.prog 118 #[.slice A n c, .int .i64 0, .int .i64 n, .func (.func 112) #[] #[.pointer (some ⟨F, 0, none⟩)]] w fun e w' => e = .returned (.tuple #[]) ∧ Q w') :
    Calls Try.prog 117 #[.slice A n c, .int .i64 n, .func (.func 112) #[] #[.pointer (some ⟨F, 0, none⟩)]] w fun e w' => e = .returned (.tuple #[]) ∧ Q w' := by
  have H := Lib.hid h
  clear h
  have h20 : ¬ (20 : Int) ≤ (n : Int) := by omega
  have h21 : ¬ (20 : Int) < (n : Int) := by omega
  go_enter Try.func117, Try.ntmps117
  go_wp2_with fail
  go_loopw [7, 8] (fun aa bb wr => aa = .int .i64 0 ∧ bb = .int .i64 20 ∧ w = wr) (fun _ _ _ => 0)
  case atStart => exact ⟨rfl, rfl, rfl⟩
  case round =>
    obtain ⟨rfl, rfl, rfl⟩ := hrel
    have h20 : ¬ (20 : Int) ≤ (n : Int) := by omega
    have h21 : ¬ (20 : Int) < (n : Int) := by omega
    go_wp2_with fail
    refine H.out.mono ?_
    rintro e w' ⟨rfl, hq⟩
    have HQ := Lib.hid hq
    clear hq
    go_wp2_with fail
    go_loopw [6] (fun aa wr => aa = .int .i64 20 ∧ w' = wr) (fun _ _ => 0)
    case atStart => exact ⟨rfl, rfl⟩
    case round =>
      obtain ⟨rfl, rfl⟩ := hrel
      have h21 : ¬ (20 : Int) < (n : Int) := by omega
      go_wp2_with fail
      go_end0
      exact ⟨rfl, HQ.out⟩
set_option maxRecDepth 100000 in
set_option maxHeartbeats 4000000 in
theorem sortStable_any (A : Option Addr) (n c F : Nat) (w : World) (Q : World → Prop) (hn : n ≤ 10)
    (h : Calls Try.prog 118 #[.slice A n c, .int .i64 0, .int .i64 n, .func (.func 112) #[] #[.pointer (some ⟨F, 0, none⟩)]] w fun e w' => e = .returned (.tuple #[]) ∧ Q w') :
    Calls Try.prog 115 #[.slice A n c, .func (.func 112) #[] #[.pointer (some ⟨F, 0, none⟩)]] w fun e w' => e = .returned (.tuple #[]) ∧ Q w' := by
  have H := Lib.hid (stable_any A n c F w Q hn h)
  clear h
  go_enter Try.func115, Try.ntmps115
  go_wp2_with fail
  refine H.out.mono ?_
  rintro e w' ⟨rfl, hq⟩
  have HQ := Lib.hid hq
  clear hq
  go_wp2_with fail
  go_end0
  exact ⟨rfl, HQ.out⟩
/-- What is asked of the comparison, ahead of the sort. -/
def CmpA (w : World) (F : Nat) (f : Int → Int) (xs : List Int) : Prop := ∀ u, Below w.heap.size w u → ∀ x ∈ xs, ∀ y ∈ xs,
  Calls Try.prog 112 #[.int .i64 x, .int .i64 y, .pointer (some ⟨F, 0, none⟩)] u fun e u' => e = .returned (.int .i64 (cmpI (f y) (f x))) ∧ Below u.heap.size u u'
set_option maxRecDepth 100000 in
set_option maxHeartbeats 4000000 in
theorem sorted_any (s : Int) (Bn F : Nat) (f : Int → Int) (w : World) (z : w.heap[Bn]? = some (.cells #[.int .i64 s] 3 (0, 0))) (hC : CmpA w F f (sitZ s)) :
    Calls Try.prog 111 #[.func (.func 101) #[] #[.pointer (some ⟨Bn, 0, none⟩)], .func (.func 112) #[] #[.pointer (some ⟨F, 0, none⟩)]] w fun e w' => ∃ v ys, e = .returned v ∧ Below w.heap.size w w' ∧ ys.Perm (sitZ s) ∧ Dsc f ys ∧ RowIs intR 3 w.heap.size ys v w' := by
  have HC := Lib.hid (collect_any s Bn w z); have HCM := Lib.hid hC
  have hl := sitZ_len s
  have HL := Lib.hid hl
  clear z hC hl
  go_enter Try.func111, Try.ntmps111
  go_wp2_with fail
  refine HC.out.mono ?_
  rintro e w1 ⟨v, rfl, hb, hv⟩
  have HB := Lib.hid hb
  rcases RowIs.of_own (R := intR) hv with ⟨h0, rfl⟩ | ⟨b, c, rfl, hb1, hb2, cs, hcs, hcx⟩
  · have H0 := Lib.hid h0
    clear hb hv h0
    go_wp2_with fail
    refine (sortStable_any none 0 0 F w1 (fun w' => w1 = w') (by omega) (insertion_nil none 0 F w1)).mono ?_
    rintro e w2 ⟨rfl, rfl⟩
    go_wp2_with fail
    go_ret
    exact ⟨_, [], rfl, HB.out, by rw [H0.out], by simp [Dsc], .inl ⟨rfl, rfl⟩⟩
  · have hrow : RowB b (sitZ s) w1 := ⟨cs, hcs, fun i x hx => hcx i _ (by
      have := flat_get (k := 1) (R := intR) (fun _ => rfl) (sitZ s) i x 0 hx (by decide)
      simpa [intR, flatR] using this)⟩
    have HR := Lib.hid hrow; have HV := Lib.hid (And.intro hb1 hb2)
    have hco : CmpOk w1 b F f (sitZ s) := fun u hg => HCM.out u (HB.out.trans ((Below.refl w.heap.size w1).grown hg HB.out.size (fun k e => by injection e with e; have := HV.out; omega)))
    have HIN := Lib.hid (insertion_any b (sitZ s).length c F f (sitZ s) w1 rfl HL.out hrow hco)
    clear hb hv hcs hcx hrow hco hb1 hb2
    go_wp2_with fail
    refine (sortStable_any (some ⟨b, 0, none⟩) (sitZ s).length c F w1 (fun w' => w1.grownBy w' (some b) ∧ ∃ ys, ys.Perm (sitZ s) ∧ Dsc f ys ∧ RowB b ys w') HL.out HIN.out).mono ?_
    rintro e w2 ⟨rfl, hg, ys, hp, hd, hr⟩
    have hbb : Below w.heap.size w w2 := HB.out.trans ((Below.refl w.heap.size w1).grown hg HB.out.size (fun k e => by injection e with e; have := HV.out; omega))
    have HE : Hid (Below w.heap.size w w2 ∧ ys.Perm (sitZ s) ∧ Dsc f ys ∧ RowIs intR 3 w.heap.size ys (.slice (some ⟨b, 0, none⟩) (sitZ s).length c) w2) := Lib.hid ⟨hbb, hp, hd, .inr ⟨b, c, by rw [hp.length_eq], HV.out.1, by rw [hp.length_eq]; exact HV.out.2, by
      obtain ⟨cs, h1, h2⟩ := hr
      refine ⟨cs, h1, fun i x hx => ?_⟩
      obtain ⟨i', r, y, e, hy, hr⟩ := flat_in (k := 1) (R := intR) (fun _ => rfl) ys i x hx
      have hr0 : r = 0 := by
        rcases r with _ | r
        · rfl
        · simp [intR] at hr
      subst hr0
      obtain rfl : i = i' := by omega
      simp [intR] at hr
      subst hr
      exact h2 _ _ hy⟩⟩
    clear hg hp hd hr hbb
    go_wp2_with fail
    go_ret
    exact ⟨_, ys, rfl, HE.out⟩
/-! ### The comparison -/
theorem KeptW_heap {w : World} (u : KeptW w) {b : Nat} {cs : Array Value} {T : TypeId} (h : w.heap[b]? = some (.cells cs T (0, 0))) : u.w.heap[b]? = some (.cells cs T (0, 0)) := (u.h.block _ (heapsz h)).trans h
set_option maxRecDepth 100000 in
set_option maxHeartbeats 4000000 in
theorem cmp_any (V : TV) (T : Tn) (s M h P H F x y : Nat) (w : World) (hF : w.heap[F]? = some (.cells #[.func (.func 100) #[] #[.pointer (some ⟨P, 0, none⟩), .pointer (some ⟨H, 0, none⟩)]] 94 (0, 0))) (hP : w.heap[P]? = some (.cells (coC V s M) 89 (0, 0))) (hH : w.heap[H]? = some (.cells #[.int .i64 (h : Int)] 3 (0, 0))) (hN : TnAt w w.heap.size V T) (hK : TnOk T) (hx : x < V.ns) (hy : y < V.ns) (hh : h < V.nh) :
    Calls Try.prog 112 #[.int .i64 (x : Int), .int .i64 (y : Int), .pointer (some ⟨F, 0, none⟩)] w fun e w' => e = .returned (.int .i64 (cmpI (lowI T h y) (lowI T h x))) ∧ Below w.heap.size w w' := by
  have hc (k : Nat) (hk : k < V.ns) : Hid (∀ u : KeptW w, Calls Try.prog 100 #[.int .i64 (k : Int), .pointer (some ⟨P, 0, none⟩), .pointer (some ⟨H, 0, none⟩)] u.w fun e u' => e = .returned (.int .i64 (lowI T h k)) ∧ ∃ q : KeptW w, u' = q.w) := Lib.hid fun u => Calls.in_kept u (stronger_any V T s M k h P H u.w (KeptW_heap u hP) (KeptW_heap u hH) (hN.next u.h u.h.size) hK hk hh)
  have HX := hc x hx; have HY := hc y hy
  have HCM : Hid (∀ u : KeptW w, Calls Try.prog 113 #[.int .i64 (lowI T h y), .int .i64 (lowI T h x)] u.w fun e u' => e = .returned (.int .i64 (cmpI (lowI T h y) (lowI T h x))) ∧ ∃ q : KeptW w, u' = q.w) := Lib.hid fun u => (compare_any _ _ u.w).mono fun e w' hh => ⟨hh.1, u, hh.2.symm⟩
  have a0 : ∀ u : KeptW w, u.w.cell? ⟨F, 0, none⟩ = some (.func (.func 100) #[] #[.pointer (some ⟨P, 0, none⟩), .pointer (some ⟨H, 0, none⟩)]) := fun u => by
    have := cell_of_row u.w F 0 _ 94 (0, 0) (KeptW_heap u hF)
    simpa using this
  clear hF hP hH hN hK hx hy hh hc
  go_enter Try.func112, Try.ntmps112
  go_wp2_with fail
  refine rk_region (by kernel_rfl) (by kernel_rfl) ?_
  repeat (go_big_quiet_step (first | (with_reducible exact HX.out _) | (with_reducible exact HY.out _) | (with_reducible exact HCM.out _) | fail))
  refine wpQuiet_nil ?_
  rintro wv ⟨⟨_, hbv⟩, rfl⟩
  have HB := Lib.hid hbv
  clear hbv a0
  go_wp2_with fail
  go_ret
  exact ⟨rfl, HB.out⟩
def lowZ (T : Tn) (h : Nat) (x : Int) : Int := lowI T h x.toNat
set_option maxRecDepth 100000 in
set_option maxHeartbeats 4000000 in
theorem strongest_any (V : TV) (T : Tn) (s M h : Nat) (w : World) (hN : TnAt w w.heap.size V T) (hK : TnOk T) (hs : s < 2 ^ V.ns) (hh : h < V.nh) :
    Calls Try.prog 84 #[coV V s M, .int .i64 (h : Int)] w fun e w' => ∃ v ys, e = .returned v ∧ Below w.heap.size w w' ∧ ys.Perm (sitZ (s : Int)) ∧ Dsc (lowZ T h) ys ∧ RowIs intR 3 w.heap.size ys v w' := by
  have hmf : ∀ (fn : Fn) (first cap : Array Value) (w : World), (Instr.makeFunc fn first cap).run Try.prog w = .ok (.func fn first cap) w := fun _ _ _ _ => rfl
  obtain ⟨z0, z1, hb⟩ := two_new w (.cells (coC V s M) 89) (.cells #[.int .i64 (h : Int)] 3)
  obtain ⟨w2, hw2⟩ : ∃ z, (w.alloc (.cells (coC V s M) 89)).alloc (.cells #[.int .i64 (h : Int)] 3) = z := ⟨_, rfl⟩
  rw [hw2] at z0 z1 hb
  have HG : Hid (∀ (u : World) (Bn : Nat), Below w2.heap.size w2 u → u.heap[Bn]? = some (.cells #[.int .i64 (s : Int)] 3 (0, 0)) → Calls Try.prog 99 #[.func (.func 101) #[] #[.pointer (some ⟨Bn, 0, none⟩)], .func (.func 100) #[] #[.pointer (some ⟨w.heap.size, 0, none⟩), .pointer (some ⟨w.heap.size + 1, 0, none⟩)]] u fun e u' => ∃ v ys, e = .returned v ∧ Below u.heap.size u u' ∧ ys.Perm (sitZ (s : Int)) ∧ Dsc (lowZ T h) ys ∧ RowIs intR 3 u.heap.size ys v u') := Lib.hid fun u Bn hu hz => by
    have zf := heap_alloc_new u (.cells #[.func (.func 100) #[] #[.pointer (some ⟨w.heap.size, 0, none⟩), .pointer (some ⟨w.heap.size + 1, 0, none⟩)]] 94)
    have hbf := (Below.refl u.heap.size u).alloc (Nat.le_refl _) (.cells #[.func (.func 100) #[] #[.pointer (some ⟨w.heap.size, 0, none⟩), .pointer (some ⟨w.heap.size + 1, 0, none⟩)]] 94)
    obtain ⟨u1, hu1⟩ : ∃ z, u.alloc (.cells #[.func (.func 100) #[] #[.pointer (some ⟨w.heap.size, 0, none⟩), .pointer (some ⟨w.heap.size + 1, 0, none⟩)]] 94) = z := ⟨_, rfl⟩
    rw [hu1] at zf hbf
    have hCA : CmpA u1 u.heap.size (lowZ T h) (sitZ (s : Int)) := fun q hq x hx y hy => by
      have hq2 : Below w2.heap.size w2 q := hu.trans ((hbf.mono hu.size).trans (hq.mono (Nat.le_trans hu.size hbf.size)))
      obtain ⟨x', hx', rfl⟩ := List.mem_map.1 hx
      obtain ⟨y', hy', rfl⟩ := List.mem_map.1 hy
      exact cmp_any V T s M h w.heap.size (w.heap.size + 1) u.heap.size x' y' q ((hq.block _ (heapsz zf)).trans zf) ((hq2.block _ (heapsz z0)).trans z0) ((hq2.block _ (heapsz z1)).trans z1) ((hN.up hb).next hq2 hq2.size) hK (sit_ns hs (sit_10 hx').2) (sit_ns hs (sit_10 hy').2) hh
    have HS := Lib.hid (sorted_any (s : Int) Bn u.heap.size (lowZ T h) u1 ((hbf.block _ (heapsz hz)).trans hz) hCA)
    have HU1 := Lib.hid hu1; have HBF := Lib.hid hbf
    clear zf hbf hu1 hCA hz hu z0 z1 hb hw2 hN hK hs hh
    go_enter Try.func99, Try.ntmps99
    go_wp2_with fail
    rw [HU1.out]
    refine HS.out.mono ?_
    rintro e u2 ⟨v, ys, rfl, hb2, hp, hd, hr⟩
    have HE := Lib.hid (And.intro (HBF.out.trans (hb2.mono HBF.out.size)) (And.intro hp (And.intro hd (hr.low HBF.out.size))))
    clear hb2 hp hd hr
    go_wp2_with fail
    go_ret
    exact ⟨v, ys, rfl, HE.out⟩
  have HW := Lib.hid hw2; have HB := Lib.hid hb
  obtain ⟨ah, nh, ch, az, ns, cz⟩ := V
  obtain ⟨⟨v0, v1, v2, v3⟩, _⟩ := box4 z0
  clear z0 z1 hb hw2 hN hK hs hh
  go_enter Try.func84, Try.ntmps84
  go_wp2_with fail
  rw [HW.out]
  go_wp2_with fail
  refine (sitesOf_any _ _).mono ?_
  rintro e w3 ⟨rfl, hw3⟩
  have hb3 : Below w2.heap.size w2 w3 := by rw [← hw3]; exact (Below.refl _ w2).alloc (Nat.le_refl _) _
  have z3 : w3.heap[w2.heap.size]? = some (.cells #[.int .i64 (s : Int)] 3 (0, 0)) := by rw [← hw3]; exact heap_alloc_new _ _
  have HC := Lib.hid (HG.out w3 _ hb3 z3); have HB3 := Lib.hid (HB.out.trans (hb3.mono HB.out.size))
  clear hw3 hb3 z3 v0 v1 v2 v3
  go_wp2_with fail
  refine HC.out.mono ?_
  rintro e w4 ⟨v, ys, rfl, hb4, hp, hd, hr⟩
  have HE := Lib.hid (And.intro (HB3.out.trans (hb4.mono HB3.out.size)) (And.intro hp (And.intro hd (hr.low HB3.out.size))))
  clear hb4 hp hd hr
  go_wp2_with fail
  go_ret
  exact ⟨v, ys, rfl, HE.out⟩
end Go.Proofs.Ytmppiiamcpjhnaa

namespace Go.Proofs.Ytmppiiamcpjhnaa
open Go.RowKit Go.Shelf

theorem cell_lt {w : World} {b o : Nat} {v : Value} (h : w.cell? ⟨b, o, none⟩ = some v) : b < w.heap.size := by
  rcases Nat.lt_or_ge b w.heap.size with hb | hb
  · exact hb
  · simp [World.cell?, Array.getElem?_eq_none hb] at h
theorem below_grown {A B : World} (hb : Below A.heap.size A B) (row : Option Nat) : A.grownBy B row := ⟨hb.os, hb.tape, hb.output, hb.size, fun k hk _ => hb.block k hk⟩
theorem grown_trans {a b c : World} {row : Option Nat} (h : a.grownBy b row) (k : b.grownBy c row) : a.grownBy c row :=
  ⟨k.os.trans h.os, k.tape.trans h.tape, k.output.trans h.output, Nat.le_trans h.size k.size, fun i hi hr => (k.block i (Nat.lt_of_lt_of_le hi h.size) hr).trans (h.block i hi hr)⟩
/-- All stays, but for what is kept in the map. -/
structure Cw (T : Tn) (M : Nat) (w A : World) : Prop where
  gr : w.grownBy A (some M)
  lt : M < w.heap.size
  map : ∃ es c, A.heap[M]? = some (.map es c) ∧ MemoOk T es
section
variable {T : Tn} {M n : Nat} {w A B : World}
theorem Cw.trans (h : Cw T M w A) (k : Cw T M A B) : Cw T M w B := ⟨grown_trans h.gr k.gr, h.lt, k.map⟩
theorem Cw.up (h : Cw T M w A) (hb : Below A.heap.size A B) : Cw T M w B := by
  obtain ⟨es, c, h1, h2⟩ := h.map
  exact ⟨grown_trans h.gr (below_grown hb _), h.lt, es, c, (hb.block _ (Array.getElem?_eq_some_iff.1 h1).1).trans h1, h2⟩
theorem Cw.cell (h : Cw T M w A) {b : Nat} {cs : Array Value} {t : TypeId} (hb : w.heap[b]? = some (.cells cs t (0, 0))) (hne : b ≠ M) : A.heap[b]? = some (.cells cs t (0, 0)) :=
  (h.gr.block b (heapsz hb) (fun e => hne (by injection e))).trans hb
theorem Cw.bel (h : Cw T M w A) (hn : n ≤ M) : Below n w A := (Below.refl n w).grown h.gr (by have := h.lt; omega) (fun k e => by injection e with e; omega)
end
/-- A town that was looked at (w0), with what was found. -/
structure Lw (w0 : World) (V : TV) (T : Tn) (M : Nat) (w : World) : Prop where
  bel : Below w0.heap.size w0 w
  map : ∃ es c, w.heap[M]? = some (.map es c) ∧ MemoOk T es
  lt : w0.heap.size ≤ M
  net : TnAt w0 w0.heap.size V T
  ok : TnOk T
section
variable {w0 w A B : World} {M : Nat} {V : TV} {T : Tn}
theorem Lw.mlt (h : Lw w0 V T M w) : M < w.heap.size := by
  obtain ⟨_, _, h1, _⟩ := h.map
  exact (Array.getElem?_eq_some_iff.1 h1).1
theorem Lw.cw0 (h : Lw w0 V T M w) : Cw T M w w := ⟨⟨rfl, rfl, rfl, Nat.le_refl _, fun _ _ _ => rfl⟩, h.mlt, h.map⟩
theorem Lw.ne (h : Lw w0 V T M w) {b : Nat} {cs : Array Value} {t : TypeId} (hb : w.heap[b]? = some (.cells cs t (0, 0))) : b ≠ M := fun e => by
  obtain ⟨_, _, h1, _⟩ := h.map
  rw [e, h1] at hb
  cases hb
theorem Lw.go (h : Lw w0 V T M w) (g : Cw T M w A) : Lw w0 V T M A := ⟨h.bel.trans (g.bel h.lt), g.map, h.lt, h.net, h.ok⟩
theorem Lw.up (h : Lw w0 V T M w) (hb : Below w.heap.size w A) : Lw w0 V T M A := h.go (h.cw0.up hb)
theorem Lw.tn (h : Lw w0 V T M w) : TnAt w w.heap.size V T := h.net.next h.bel h.bel.size
theorem Lw.rc (h : Lw w0 V T M w) (g : Cw T M w A) {b o : Nat} {v : Value} (hc : w.cell? ⟨b, o, none⟩ = some v) : A.cell? ⟨b, o, none⟩ = some v := by
  obtain ⟨es, c, h1, _⟩ := h.map
  have hne : b ≠ M := fun e => by
    subst e
    simp [World.cell?, h1] at hc
  exact (World.cell?_of_block (g.gr.block b (cell_lt hc) (fun e => hne (by injection e)))).trans hc
end
/-! ### A list that is cut in front -/
set_option maxRecDepth 100000 in
theorem elem26 : Try.prog.underlying 26 = some (.slice (Try.prog.elem 26)) := by kernel_rfl
set_option maxRecDepth 100000 in
theorem size26 (W : World) : (sizeOf (Try.prog.elem 26)).run Try.prog W = .ok 1 W := by
  rw [show Try.prog.elem 26 = 3 by kernel_rfl]
  simp [go_sem]
theorem cut_any {w : World} {B : Nat} {A : Option Addr} {cs : List Int} {n c k : Nat} (hA : IntsAt w B A cs) (hl : cs.length = n) (hk : k ≤ n) (hc : n ≤ c) :
    ∃ A', (∀ W : World, (Instr.slice 26 (.slice A n c) (some (.int .i64 (k : Int))) none none).run Try.prog W = .ok (.slice A' (n - k) (c - k)) W) ∧ IntsAt w B A' (cs.drop k) := by
  refine ⟨if c = k then A else A.map (·.add k), fun W => ?_, fun hne => ?_⟩
  · have h0 : (0 : Int) ≤ (k : Int) := by omega
    have h1 : (k : Int) ≤ (n : Int) := by omega
    have h2 := run_slice_l (P := Try.prog) (w := W) (t := 26) (a := A) (len := n) (cap := c) elem26 .i64 (k : Int) h0 h1
    rw [h2, size26]
    simp [Result.andThen, sliced]
  · have hkn : k < n := by
      rcases Nat.lt_or_ge k n with h | h
      · exact h
      · exact absurd (List.drop_eq_nil_of_le (by omega)) hne
    obtain ⟨b, o, rfl, h1, h2⟩ := hA (fun e => by rw [e] at hl; simp at hl; omega)
    refine ⟨b, o + k, ?_, h1, fun i x hx j v hv => ?_⟩
    · rw [if_neg (by omega)]
      simp [addr_add]
    · rw [List.getElem?_drop] at hx
      have := h2 (k + i) x hx j v hv
      rw [show o + k + i * 1 + j = o + (k + i) * 1 + j by omega]
      exact this
/-! ### The number -/
theorem bears_stop {need : Int} {vs : List Int} {k : Nat} (hk : k ≤ 4) (h1 : ∀ j, j < k → need ≤ ((dsc vs).drop j).sum) (h2 : k = 4 ∨ ((dsc vs).drop k).sum < need) : bearsV need vs = (k : Int) - 1 := by
  unfold bearsV
  have d0 := h1 0; have d1 := h1 1; have d2 := h1 2; have d3 := h1 3
  rw [List.drop_zero] at d0
  match k, hk with
  | 0, _ =>
    rw [List.drop_zero] at h2
    rw [if_pos (by omega)]; rfl
  | 1, _ =>
    have := d0 (by omega)
    rw [if_neg (by omega), if_pos (by omega)]; rfl
  | 2, _ =>
    have := d0 (by omega); have := d1 (by omega)
    rw [if_neg (by omega), if_neg (by omega), if_pos (by omega)]; rfl
  | 3, _ =>
    have := d0 (by omega); have := d1 (by omega); have := d2 (by omega)
    rw [if_neg (by omega), if_neg (by omega), if_neg (by omega), if_pos (by omega)]; rfl
  | 4, _ =>
    have := d0 (by omega); have := d1 (by omega); have := d2 (by omega); have := d3 (by omega)
    rw [if_neg (by omega), if_neg (by omega), if_neg (by omega), if_neg (by omega)]; rfl
theorem giv_dsc {T : Tn} {h s : Nat} {ys : List Int} (hp : ys.Perm (sitZ (s : Int))) (hd : Dsc (lowZ T h) ys) : ys.map (lowZ T h) = dsc (givL T h s) := by
  refine dsc_unique ?_ (List.pairwise_map.2 hd)
  have h1 := hp.map (lowZ T h)
  have e1 : (sitZ (s : Int)).map (lowZ T h) = givL T h s := by
    unfold sitZ givL
    rw [List.map_map]
    rfl
  rwa [e1] at h1
theorem low_in {T : Tn} (K : TnOk T) (h x : Nat) : 0 ≤ lowI T h x ∧ lowI T h x ≤ 1000000 := by
  unfold lowI
  rw [List.getD_eq_getElem?_getD, List.getD_eq_getElem?_getD]
  cases e : T.ss[x]? with
  | none => simp
  | some s =>
    simp only [Option.getD_some]
    cases e2 : s.gv[h]? with
    | none => simp
    | some g =>
      have := (K.ss s (List.mem_of_getElem? e)).gv g (List.mem_of_getElem? e2)
      simp only [Option.getD_some]
      omega
theorem pow10 {n : Nat} (h : n ≤ 10) : 2 ^ n ≤ 1024 := Nat.le_trans (Nat.pow_le_pow_right (by decide) h) (by decide)
theorem Lw.ns {w0 w : World} {M : Nat} {V : TV} {T : Tn} (h : Lw w0 V T M w) : T.ss.length = V.ns ∧ V.ns ≤ 10 ∧ T.hs.length = V.nh ∧ V.nh ≤ 6 := by
  have h1 := h.net.ns; have h2 := h.net.nh; have h3 := h.ok.s10; have h4 := h.ok.h6
  omega
end Go.Proofs.Ytmppiiamcpjhnaa

namespace Go.Proofs.Ytmppiiamcpjhnaa
open Go.RowKit Go.Shelf

theorem cell_blk {w : World} {b k : Nat} {cs : Array Value} {t : TypeId} {v : Value} (h : w.heap[b]? = some (.cells cs t (0, 0))) (hv : cs[k]? = some v) : w.cell? ⟨b, k, none⟩ = some v := (cell_of_row w b k _ t (0, 0) h).trans hv
set_option maxRecDepth 100000 in
set_option maxHeartbeats 8000000 in
theorem bears_any {w0 w : World} {M : Nat} {V : TV} {T : Tn} (hL : Lw w0 V T M w) {s h : Nat} (hs : s < 2 ^ V.ns) (hh : h < V.nh) :
    Calls Try.prog 55 #[coV V s M, .int .i64 (h : Int)] w fun e w' => e = .returned (.int .i64 (bearsI T h s)) ∧ Cw T M w w' := by
  have hn := hL.ns
  have p10 := pow10 hn.2.1
  -- the boxes
  obtain ⟨z0, z1, hb⟩ := two_new w (.cells (coC V s M) 89) (.cells #[.int .i64 (h : Int), .int .i64 (s : Int)] 117)
  obtain ⟨w3, hw3⟩ : ∃ z, (w.alloc (.cells (coC V s M) 89)).alloc (.cells #[.int .i64 (h : Int), .int .i64 (s : Int)] 117) = z := ⟨_, rfl⟩
  rw [hw3] at z0 z1 hb
  have HB3 := Lib.hid hb; have HL := Lib.hid hL; have HL3 := Lib.hid (hL.up hb); have HZP := Lib.hid z0; have HZK := Lib.hid z1
  have HHS := Lib.hid (And.intro hs (And.intro hh hn))
  have HKB : Hid (KB h s) := Lib.hid ⟨by omega, by omega⟩
  obtain ⟨es, c, hm, ho⟩ := HL3.out.map
  obtain ⟨lv, lb, hlk, hlv⟩ := memo_look ho HKB.out M c
  have hlk3 := hlk w3 hm
  have HLV := Lib.hid hlv
  obtain ⟨y0, y1⟩ := box2 z1
  obtain ⟨⟨v0, v1, v2, v3⟩, _⟩ := box4 z0
  obtain ⟨ah, nh, ch, az, ns, cz⟩ := V
  simp only at v0 v1 v2 v3 hw3
  have HST := Lib.hid (strongest_any ⟨ah, nh, ch, az, ns, cz⟩ T s M h w3 HL3.out.tn hL.ok hs hh)
  obtain ⟨i0, hi0, hz0, hz1, hz2⟩ := info_parts int_info
  have HFIN : Hid (∀ W, Below w3.heap.size w3 W → Cw T M w W) := Lib.hid fun W hW => HL.out.cw0.up (HB3.out.trans (hW.mono HB3.out.size))
  clear z0 z1 hb hm ho hlk hlv hL hs hh hn p10
  go_enter Try.func55, Try.ntmps55
  cases lb with
  | true =>
    have hev := HLV.out rfl
    subst hev
    go_wp2_with fail
    go_ret
    exact ⟨rfl, HFIN.out w3 (Below.refl _ _)⟩
  | false =>
    have HW3 := Lib.hid hw3
    go_wp2_with fail
    clear hw3 hlk3 y0 y1 v0 v1 v2 v3
    refine HST.out.mono ?_
    rintro e w4 ⟨v, ys, rfl, hb4, hp, hd, hr⟩
    obtain ⟨A4, c4, rfl, hA4, _⟩ := hr.at_ (k := 1) (fun _ => rfl)
    have hlen : ys.length ≤ 10 := by rw [hp.length_eq]; exact sitZ_len _
    have HGV := Lib.hid (giv_dsc hp hd)
    obtain ⟨n, hn⟩ : ∃ n, ys.length = n := ⟨_, rfl⟩
    rw [hn] at hlen ⊢
    have HB4 := Lib.hid hb4; have HP := Lib.hid hp; have HA4 := Lib.hid hA4; have HN := Lib.hid hn
    have HL4 := Lib.hid (HL3.out.up hb4); have HP4 := Lib.hid ((hb4.block _ (heapsz HZP.out)).trans HZP.out); have HK4 := Lib.hid ((hb4.block _ (heapsz HZK.out)).trans HZK.out)
    have HSZ4 := Lib.hid hb4.size
    clear hb4 hp hd hr hA4 hn
    go_wp2_with fail
    go_loopw [8, 30] (fun gg ii wr => ∃ k : Nat, k ≤ n ∧ ii = .int .i64 k ∧ Below w4.heap.size w4 wr ∧ wr.ownsRow w4.heap.size 3 1 gg k (flatR intR ((ys.take k).map (lowZ T h)))) (fun _ ii _ => n - (intOf ii).toNat)
    case atStart => exact ⟨0, by omega, rfl, Below.refl _ _, World.ownsRow_nil _ _ _ _⟩
    case round =>
      obtain ⟨k, hk, rfl, hbr, hown⟩ := hrel
      have HBR := Lib.hid hbr; have HOWN := Lib.hid hown
      have hsz : w4.heap.size ≤ wr.heap.size := hbr.size
      have zP := (hbr.block _ (heapsz HP4.out)).trans HP4.out
      obtain ⟨⟨v0, v1, v2, v3⟩, _⟩ := box4 zP
      simp only at v0 v1 v2 v3
      by_cases hlt : k < n
      · have k3 : (0 : Int) ≤ (k : Int) := by omega
        have k4 : (k : Int) < (n : Int) := by omega
        obtain ⟨x, hx⟩ := get_of_lt (l := ys) (k := k) (by rw [HN.out]; exact hlt)
        obtain ⟨b, o, rfl, hbb, c0⟩ := ints_el (RowAt.next HA4.out hbr hbr.size) hx
        obtain ⟨x', hx', rfl⟩ := List.mem_map.1 (HP.out.mem_iff.1 (List.mem_of_getElem? hx))
        have HLS := Lib.hid (fun u (hu : Below wr.heap.size wr u) => least_any ⟨ah, nh, ch, az, ns, cz⟩ T s M h x' u ((HL4.out.up (hbr.trans (hu.mono hbr.size))).tn) (sit_ns HHS.out.1 (sit_10 hx').2) HL.out.ok HHS.out.2.1)
        have hlx : lowZ T h (Int.ofNat x') = lowI T h x' := rfl
        have HS : Hid ((ys.take (k + 1)).map (lowZ T h) = (ys.take k).map (lowZ T h) ++ [lowI T h x']) := Lib.hid (by rw [List.take_add_one, hx, List.map_append]; rfl)
        clear hown hbr zP hx hbb hx' hlx
        go_wp2_with fail
        refine (HLS.out wr (Below.refl _ _)).mono ?_
        rintro e w6 ⟨rfl, hb6⟩
        have HO6 := Lib.hid (own_next HOWN.out hb6); have HB6 := Lib.hid (HBR.out.trans (hb6.mono HBR.out.size)); have hsz6 : w4.heap.size ≤ w6.heap.size := Nat.le_trans hsz hb6.size
        clear hb6 v0 v1 v2 v3 c0
        go_wp2_with (first
          | (at_builtin
             refine wpList_append_own _ rfl _ _ 26 rfl w4.heap.size 3 i0 _ 1 8 Try.underlying26 hi0 hz0 hz1 hz2 rfl (by decide) _ _ _ rfl (own_next HO6.out ((Below.refl _ w6).alloc (Nat.le_refl _) _)) ⟨w6.heap.size, 0, none⟩ 1 1 [.int .i64 (lowI T h x')] rfl rfl (cells_new w6 [.int .i64 (lowI T h x')] 3) (by simp [Value.oneCell']) (by unfold maxLen; omega) (by omega) (by simp; omega) ?_
             intro v' w7 hown7 hgr7 hnil7)
          | fail)
        refine ⟨⟨k + 1, by omega, rfl, ?_, ?_⟩, by simp [intOf]; omega⟩
        · have hb7 : Below w4.heap.size w4 (w6.alloc (.cells #[.int .i64 (lowI T h x')] 3)) := HB6.out.alloc hsz6 _
          exact hb7.grown hgr7 hb7.size (fun q e => (own_at HO6.out e).1)
        · rw [HS.out, flatR_snoc]
          exact hown7
      · obtain rfl : n = k := by omega
        have k4 : ¬ (n : Int) < (n : Int) := by omega
        rw [List.take_of_length_le (by rw [HN.out]; omega), HGV.out] at hown
        have hlg : (dsc (givL T h s)).length = n := by rw [← HGV.out, List.length_map, HN.out]
        obtain ⟨A5, c5, e5, hA5⟩ := ints_of_own hown hlg
        have hc5 : n ≤ c5 := by
          rw [e5] at hown
          rcases hown.2 with ⟨h1, h2⟩ | ⟨g, cap, cur, h1, h2, h3, h4, _⟩
          · omega
          · injection h1 with _ _ h1
            omega
        subst e5
        have HA5 := Lib.hid hA5; have HLG := Lib.hid hlg; have HC5 := Lib.hid hc5
        have HL5 := Lib.hid (HL4.out.up hbr); have HP5 := Lib.hid zP; have HK5 := Lib.hid ((hbr.block _ (heapsz HK4.out)).trans HK4.out)
        have HBB5 := Lib.hid (HB4.out.trans (hbr.mono HB4.out.size))
        obtain ⟨w5, hw5⟩ : ∃ z, z = wr := ⟨_, rfl⟩
        rw [← hw5] at HA5 HL5 HP5 HK5 HBB5 ⊢
        clear hown hbr zP v0 v1 v2 v3 hlg hA5 hc5 HBR HOWN hsz hw5
        go_wp2_with fail
        go_loopw [11, 42] (fun bb ii wq => ∃ k : Nat, k ≤ 4 ∧ ii = .int .i64 k ∧ bb = .int .i64 ((k : Int) - 1) ∧ (∀ j, j < k → needI T h ≤ ((dsc (givL T h s)).drop j).sum) ∧ Below w5.heap.size w5 wq) (fun _ ii _ => 4 - (intOf ii).toNat)
        case atStart => exact ⟨0, by omega, rfl, rfl, fun j hj => by omega, Below.refl _ _⟩
        case round =>
          obtain ⟨k, hk, rfl, rfl, hall, hbq⟩ := hrel
          have HBQ := Lib.hid hbq; have HALL := Lib.hid hall
          -- what is written down in the end
          have HEND : Hid (∀ W (bv : Int), Below w5.heap.size w5 W → bearsI T h s = bv → ∃ w9, (Instr.mapUpdate 87 (.map (some M)) (keyV h s) (.int .i64 bv)).run Try.prog W = .ok () w9 ∧ Cw T M w w9) := Lib.hid fun W bv hW he => by
            obtain ⟨es2, c2, hm2, ho2⟩ := (HL5.out.up hW).map
            obtain ⟨w9, h1, h2, h3⟩ := memo_put hm2 ho2 HKB.out
            rw [he] at h1
            exact ⟨w9, h1, (HFIN.out W (HBB5.out.trans (hW.mono HBB5.out.size))).trans ⟨h2, (HL5.out.up hW).mlt, h3⟩⟩
          have HC : Hid (∀ W, Below w5.heap.size w5 W → (W.cell? ⟨w.heap.size, 3, none⟩ = some (.map (some M)) ∧ W.cell? ⟨w.heap.size + 1, 0, none⟩ = some (.int .i64 (h : Int)) ∧ W.cell? ⟨w.heap.size + 1, 1, none⟩ = some (.int .i64 (s : Int)))) := Lib.hid fun W hW => by
            obtain ⟨⟨v0, v1, v2, v3⟩, _⟩ := box4 ((hW.block _ (heapsz HP5.out)).trans HP5.out)
            obtain ⟨y0, y1⟩ := box2 ((hW.block _ (heapsz HK5.out)).trans HK5.out)
            exact ⟨v3, y0, y1⟩
          clear hbq hall
          by_cases h4 : k = 4
          · subst h4
            have k5 : ¬ ((4 : Nat) : Int) < 4 := by omega
            have he : bearsI T h s = 3 := (bears_stop (k := 4) (by omega) HALL.out (.inl rfl)).trans rfl
            have HE := Lib.hid he
            obtain ⟨w9, hput, hcw⟩ := HEND.out wr 3 HBQ.out he
            have HCW := Lib.hid hcw
            obtain ⟨v3, y0, y1⟩ := HC.out wr HBQ.out
            clear he hcw
            go_wp2_with fail
            go_ret
            exact ⟨by rw [HE.out]; rfl, HCW.out⟩
          · have k5 : (k : Int) < 4 := by omega
            obtain ⟨S, hS⟩ := get_of_lt (l := T.hs) (k := h) (by have := HHS.out.2.1; have := HHS.out.2.2.2.2; omega)
            obtain ⟨b, o, hAH, hbb, _, c1, _⟩ := hs_el (HL5.out.up HBQ.out).tn.hs hS
            simp only at hAH
            have hneed : needI T h = S.nh := by
              unfold needI
              rw [List.getD_eq_getElem?_getD, hS]; rfl
            have hin := (HL.out.ok.hs S (List.mem_of_getElem? hS)).n
            have hmx := HL.out.net.mh
            have hlh := HHS.out.2.1
            simp only at hmx hlh
            obtain ⟨A6, hsl, hA6⟩ := cut_any (k := min k n) (RowAt.next HA5.out HBQ.out HBQ.out.size) HLG.out (Nat.min_le_right _ _) HC5.out
            have hmin : min (k : Int) (n : Int) = ((min k n : Nat) : Int) := by omega
            have hdrop : (dsc (givL T h s)).drop (min k n) = (dsc (givL T h s)).drop k := by
              rcases Nat.le_total k n with hkn | hkn
              · rw [Nat.min_eq_left hkn]
              · rw [Nat.min_eq_right hkn, List.drop_eq_nil_of_le (by rw [HLG.out]; exact Nat.le_refl _), List.drop_eq_nil_of_le (by rw [HLG.out]; exact hkn)]
            have hLW := HLG.out
            rw [hdrop] at hA6
            have hlen6 : ((dsc (givL T h s)).drop k).length = n - min k n := by rw [List.length_drop, hLW]; omega
            have hin6 : ∀ x ∈ (dsc (givL T h s)).drop k, 0 ≤ x ∧ x ≤ 1000000 := fun x hx => by
              have := (dsc_perm _).mem_iff.1 (List.mem_of_mem_drop hx)
              obtain ⟨y, _, rfl⟩ := List.mem_map.1 this
              exact low_in HL.out.ok h y
            have HSUM : Hid (∀ u : KeptW wr, Calls Try.prog 63 #[.slice A6 (n - min k n) (c5 - min k n)] u.w fun e u' => e = .returned (.int .i64 ((dsc (givL T h s)).drop k).sum) ∧ ∃ q : KeptW wr, u' = q.w) := Lib.hid fun u => (sum_any A6 _ _ _ u.w hlen6 (by omega) (hA6.next u.h u.h.size) hin6).mono fun e w' hh => ⟨hh.1, u, hh.2.symm⟩
            have HSL := Lib.hid hsl; have HMIN := Lib.hid hmin
            have hPL := heapsz ((HBQ.out.block _ (heapsz HP5.out)).trans HP5.out)
            have hP1 := (HBQ.out.block _ (heapsz HP5.out)).trans HP5.out
            obtain ⟨⟨v0, _, _, _⟩, _⟩ := box4 hP1
            simp only at v0
            rw [hAH] at v0 ⊢
            have a0 : ∀ u : KeptW wr, u.w.cell? ⟨w.heap.size, 0, none⟩ = some (.slice (some ⟨b, o, none⟩) nh ch) := fun u => ((bcell u.h).1 _ _ hPL).trans v0
            have a1 : ∀ u : KeptW wr, u.w.cell? ⟨b, o + h * 3 + 1, none⟩ = some (.int .i64 S.nh) := fun u => ((bcell u.h).1 _ _ hbb).trans c1
            have h0' : (0 : Int) ≤ (h : Int) := by omega
            have h1' : (h : Int) < (nh : Int) := by omega
            obtain ⟨Q, hQ⟩ : ∃ z, ((dsc (givL T h s)).drop k).sum = z := ⟨_, rfl⟩
            rw [hQ] at HSUM
            obtain ⟨m, hm⟩ : ∃ z, min k n = z := ⟨_, rfl⟩
            rw [hm] at HSUM HSL HMIN
            have HQ := Lib.hid hQ; have HNE := Lib.hid hneed
            have hsl2 := HSL.out
            have hmin2 := HMIN.out
            clear hS hin hmx hlh hsl hmin hdrop hLW hA6 hlen6 hin6 hP1 v0 c1 hbb hQ hneed hm hAH hPL
            by_cases hcmp : Q < S.nh
            · have he : bearsI T h s = (k : Int) - 1 := bears_stop (by omega) HALL.out (.inr (by rw [HQ.out, HNE.out]; exact hcmp))
              have HE := Lib.hid he
              go_wp2_with fail
              refine rk_region (by kernel_rfl) (by kernel_rfl) ?_
              repeat (go_big_quiet_step (first | (with_reducible exact HSUM.out _) | fail))
              refine wpQuiet_nil ?_
              rintro wv ⟨⟨_, hbv⟩, rfl⟩
              have HBV := Lib.hid (HBQ.out.trans (hbv.mono HBQ.out.size))
              obtain ⟨w9, hput, hcw⟩ := HEND.out wv _ HBV.out HE.out
              have HCW := Lib.hid hcw
              obtain ⟨v3, y0, y1⟩ := HC.out wv HBV.out
              clear he hcw hbv a0 a1 hsl2 hmin2
              go_wp2_with fail
              go_ret
              exact ⟨by rw [HE.out]; rfl, HCW.out⟩
            · have HX : Hid (∀ j, j < k + 1 → needI T h ≤ ((dsc (givL T h s)).drop j).sum) := Lib.hid fun j hj => by
                rcases Nat.lt_succ_iff_lt_or_eq.1 hj with hj | rfl
                · exact HALL.out j hj
                · rw [HQ.out, HNE.out]; omega
              go_wp2_with fail
              have hcmp : ¬ Q < S.nh := by omega
              refine rk_region (by kernel_rfl) (by kernel_rfl) ?_
              repeat (go_big_quiet_step (first | (with_reducible exact HSUM.out _) | fail))
              refine wpQuiet_nil ?_
              rintro wv ⟨⟨_, hbv⟩, rfl⟩
              have HBV := Lib.hid (HBQ.out.trans (hbv.mono HBQ.out.size))
              clear hbv a0 a1 hsl2 hmin2
              go_wp2_with fail
              exact ⟨⟨k + 1, by omega, rfl, by rw [show ((k + 1 : Nat) : Int) - 1 = (k : Int) by omega], HX.out, HBV.out⟩, by simp [intOf]; omega⟩
end Go.Proofs.Ytmppiiamcpjhnaa

namespace Go.Proofs.Ytmppiiamcpjhnaa
open Go.RowKit Go.Shelf

theorem Cw.put {T : Tn} {M : Nat} {w A : World} (h : Cw T M w A) {b k : Nat} (v : Value) (hb : w.heap.size ≤ b) : Cw T M w (A.setCell ⟨b, k, none⟩ v) := by
  obtain ⟨es, c, h1, h2⟩ := h.map
  have hlt := h.lt
  exact ⟨⟨h.gr.os, h.gr.tape, h.gr.output, by simpa [World.setCell] using h.gr.size, fun j hj hne => (Below.heap_setCell _ _ _ _ (show j ≠ b by omega)).trans (h.gr.block j hj hne)⟩, hlt, es, c, (Below.heap_setCell _ _ _ _ (show M ≠ b by omega)).trans h1, h2⟩
theorem Cw.low {T : Tn} {M n : Nat} {w A B : World} (h : Cw T M w A) (hn : w.heap.size ≤ n) (hb : Below n A B) : Cw T M w B := by
  obtain ⟨es, c, h1, h2⟩ := h.map
  have hlt := h.lt
  exact ⟨⟨hb.os.trans h.gr.os, hb.tape.trans h.gr.tape, hb.output.trans h.gr.output, Nat.le_trans h.gr.size hb.size, fun k hk hne => (hb.block k (by omega)).trans (h.gr.block k hk hne)⟩, hlt, es, c, (hb.block M (by omega)).trans h1, h2⟩
set_option maxRecDepth 100000 in
set_option maxHeartbeats 4000000 in
theorem surely_any {w0 w : World} {M : Nat} {V : TV} {T : Tn} (hL : Lw w0 V T M w) {s h : Nat} (hs : s < 2 ^ V.ns) (hh : h < V.nh) :
    Calls Try.prog 82 #[coV V s M, .int .i64 (h : Int)] w fun e w' => e = .returned (.bool (decide (0 ≤ bearsI T h s))) ∧ Cw T M w w' := by
  have z := heap_alloc_new w (.cells (coC V s M) 89)
  have hb := (Below.refl w.heap.size w).alloc (Nat.le_refl _) (.cells (coC V s M) 89)
  obtain ⟨w1, hw1⟩ : ∃ z, w.alloc (.cells (coC V s M) 89) = z := ⟨_, rfl⟩
  rw [hw1] at z hb
  have HC := Lib.hid (bears_any (hL.up hb) hs hh)
  have HW := Lib.hid hw1; have HCW := Lib.hid (hL.cw0.up hb)
  obtain ⟨ah, nh, ch, az, ns, cz⟩ := V
  obtain ⟨⟨v0, v1, v2, v3⟩, _⟩ := box4 z
  simp only at v0 v1 v2 v3
  clear z hb hw1 hL hs hh
  go_enter Try.func82, Try.ntmps82
  go_wp2_with fail
  rw [HW.out]
  go_wp2_with fail
  refine HC.out.mono ?_
  rintro e w2 ⟨rfl, hg⟩
  have HG := Lib.hid (HCW.out.trans hg)
  obtain ⟨b, hbi⟩ : ∃ b, bearsI T h s = b := ⟨_, rfl⟩
  rw [hbi]
  have HBI := Lib.hid hbi
  clear hg v0 v1 v2 v3 hbi
  by_cases h0 : 0 ≤ b
  · go_wp2_with fail
    go_ret
    exact ⟨by rw [HBI.out]; simp [h0], HG.out⟩
  · have h1 : b < 0 := by omega
    go_wp2_with fail
    go_ret
    exact ⟨by rw [HBI.out]; simp [], HG.out⟩
/-- The first house that isn't surely level with some number of failures. -/
def unevenI (T : Tn) (nh s : Nat) (f : Int) : Option Nat := (List.range nh).find? fun h => !decide (f ≤ bearsI T h s)
theorem uneven_none {T : Tn} {nh s : Nat} {f : Int} (h : ∀ k, k < nh → f ≤ bearsI T k s) : unevenI T nh s f = none := by
  unfold unevenI
  rw [List.find?_eq_none]
  intro k hk
  simp [h k (List.mem_range.1 hk)]
theorem find_first {α : Type} {q : α → Bool} : ∀ (l : List α) (x : α) (rest : List α), (∀ y ∈ l, q y = false) → q x = true → (l ++ x :: rest).find? q = some x
  | [], x, rest, _, h => by simp [h]
  | y :: l, x, rest, h0, h => by
    rw [List.cons_append, List.find?_cons, h0 y (by simp)]
    exact find_first l x rest (fun z hz => h0 z (List.mem_cons_of_mem _ hz)) h
theorem uneven_some {T : Tn} {nh s k : Nat} {f : Int} (hk : k < nh) (h : ∀ j, j < k → f ≤ bearsI T j s) (hx : bearsI T k s < f) : unevenI T nh s f = some k := by
  unfold unevenI
  obtain ⟨d, rfl⟩ : ∃ d, nh = k + (d + 1) := ⟨nh - k - 1, by omega⟩
  rw [List.range_add, List.range_succ_eq_map, List.map_cons]
  exact find_first _ _ _ (fun y hy => by simp [h y (List.mem_range.1 hy)]) (by simp; omega)
theorem uneven_iff {T : Tn} {nh s k : Nat} {f : Int} (h : unevenI T nh s f = some k) : k < nh ∧ (∀ j, j < k → f ≤ bearsI T j s) ∧ bearsI T k s < f := by
  unfold unevenI at h
  rw [List.find?_range_eq_some] at h
  obtain ⟨h1, h2, h3⟩ := h
  refine ⟨List.mem_range.1 h2, fun j hj => ?_, ?_⟩
  · have := h3 j hj
    simpa using this
  · have : ¬ f ≤ bearsI T k s := by simpa using h1
    omega
theorem uneven_no {T : Tn} {nh s : Nat} {f : Int} (h : unevenI T nh s f = none) : ∀ k, k < nh → f ≤ bearsI T k s := fun k hk => by
  unfold unevenI at h
  rw [List.find?_eq_none] at h
  have := h k (List.mem_range.2 hk)
  simpa using this
def unevenP (h : Nat) : PanicEntry := { v := .iface 109 (.agg #[.int .i64 (h : Int)]), recovered := false }
set_option maxRecDepth 100000 in
set_option maxHeartbeats 4000000 in
theorem mustKeep_any {w0 w : World} {M : Nat} {V : TV} {T : Tn} (hL : Lw w0 V T M w) {s : Nat} (f : Int) (hs : s < 2 ^ V.ns) :
    Calls Try.prog 79 #[coV V s M, .int .i64 f] w fun e w' => Cw T M w w' ∧ ((e = .returned (.tuple #[]) ∧ unevenI T V.nh s f = none) ∨ ∃ h, e = .panicked [unevenP h] ∧ unevenI T V.nh s f = some h) := by
  have z := heap_alloc_new w (.cells (coC V s M) 89)
  have hb := (Below.refl w.heap.size w).alloc (Nat.le_refl _) (.cells (coC V s M) 89)
  obtain ⟨w1, hw1⟩ : ∃ z, w.alloc (.cells (coC V s M) 89) = z := ⟨_, rfl⟩
  rw [hw1] at z hb
  have HW := Lib.hid hw1; have HCW := Lib.hid (hL.cw0.up hb); have HL1 := Lib.hid (hL.up hb); have HS := Lib.hid hs; have HZ := Lib.hid z
  have hn := hL.ns
  obtain ⟨ah, nh, ch, az, ns, cz⟩ := V
  obtain ⟨⟨v0, v1, v2, v3⟩, _⟩ := box4 z
  simp only at v0 v1 v2 v3 hn ⊢
  have hnh := hn.2.2.2
  clear z hb hw1 hL hs hn
  go_enter Try.func79, Try.ntmps79
  go_wp2_with fail
  rw [HW.out]
  go_wp2_with fail
  clear v0 v1 v2 v3
  go_loopw [9] (fun ii wr => ∃ k : Nat, k ≤ nh ∧ ii = .int .i64 k ∧ (∀ j, j < k → f ≤ bearsI T j s) ∧ Cw T M w1 wr) (fun ii _ => nh - (intOf ii).toNat)
  case atStart => exact ⟨0, by omega, rfl, fun j hj => by omega, HL1.out.cw0⟩
  case round =>
    obtain ⟨k, hk, rfl, hall, hcw⟩ := hrel
    have HA := Lib.hid hall; have HCR := Lib.hid hcw
    by_cases hlt : k < nh
    · have k3 : (0 : Int) ≤ (k : Int) := by omega
      have k4 : (k : Int) < (nh : Int) := by omega
      have HB := Lib.hid (bears_any (HL1.out.go hcw) (s := s) (h := k) HS.out hlt)
      obtain ⟨⟨v0, v1, v2, v3⟩, _⟩ := box4 (hcw.cell HZ.out (HL1.out.ne HZ.out))
      simp only at v0 v1 v2 v3
      clear hall hcw
      go_wp2_with fail
      refine HB.out.mono ?_
      rintro e w3 ⟨rfl, hg⟩
      have HG := Lib.hid (HCR.out.trans hg)
      obtain ⟨b, hbi⟩ : ∃ b, bearsI T k s = b := ⟨_, rfl⟩
      rw [hbi]
      have HBI := Lib.hid hbi
      clear hg v0 v1 v2 v3 hbi
      by_cases h0 : b < f
      · go_wp2_with fail
        exact ⟨rfl, HCW.out.trans HG.out, .inr ⟨k, rfl, uneven_some hlt HA.out (by rw [HBI.out]; exact h0)⟩⟩
      · have HX : Hid (∀ j, j < k + 1 → f ≤ bearsI T j s) := Lib.hid fun j hj => by
          rcases Nat.lt_succ_iff_lt_or_eq.1 hj with hj | rfl
          · exact HA.out j hj
          · rw [HBI.out]; omega
        go_wp2_with fail
        exact ⟨⟨k + 1, by omega, rfl, HX.out, HG.out⟩, by simp [intOf]; omega⟩
    · obtain rfl : nh = k := by omega
      have k4 : ¬ (nh : Int) < (nh : Int) := by omega
      have HN := Lib.hid (uneven_none hall)
      clear hall hcw
      go_wp2_with fail
      go_end0
      exact ⟨HCW.out.trans HCR.out, .inl ⟨rfl, HN.out⟩⟩
/-! ### The catch -/
set_option maxRecDepth 100000 in
theorem hT109 (v : Value) (W : World) : Sem.run Try.prog (Instr.typeAssert (Value.iface 109 (Value.agg #[v])) 20 109 true) W = .ok (.tuple #[.agg #[v], .bool true]) W := by
  rfl
set_option maxRecDepth 100000 in
theorem hTnil (W : World) : Sem.run Try.prog (Instr.typeAssert Value.nilIface 20 109 true) W = .ok (.tuple #[.agg #[.int .i64 0], .bool false]) W := by
  rfl
set_option maxRecDepth 100000 in
set_option maxHeartbeats 1000000 in
theorem catch_panicking (w : World) (h R : Nat) (h0 : w.heap[R]? = some (.cells #[.int .i64 0] 3 (0, 0))) (h1 : w.heap[R + 1]? = some (.cells #[.bool false] 4 (0, 0))) :
    CallsD Try.prog 78 #[.pointer (some ⟨R, 0, none⟩), .pointer (some ⟨R + 1, 0, none⟩)] (.panicking [unevenP h]) w fun e u' w' =>
      e = .returned (.tuple #[]) ∧ u' = .panicking [{ unevenP h with recovered := true }] ∧ w'.heap[R]? = some (.cells #[.int .i64 (h : Int)] 3 (0, 0)) ∧ w'.heap[R + 1]? = some (.cells #[.bool true] 4 (0, 0)) ∧ Below R w w' := by
  have l0 := heapsz h0; have l1 := heapsz h1
  have z := heap_alloc_new w (.cells #[.int .i64 (h : Int)] 109)
  have hbz := (Below.refl w.heap.size w).alloc (Nat.le_refl _) (.cells #[.int .i64 (h : Int)] 109)
  refine callsD_of_wpS Try.func78 rfl fun c₀ cs hu => ?_
  apply wpS_seq
  apply wpS_region
  simp [wpOpsS, go_sem, recoverD, hu, Try.ntmps78, Exit.thenS, unevenP, hT109]
  obtain ⟨wz, hwz⟩ : ∃ z, w.alloc (.cells #[.int .i64 (h : Int)] 109) = z := ⟨_, rfl⟩
  rw [hwz] at hbz z ⊢
  have g0 := (hbz.block _ l0).trans h0
  have g1 := (hbz.block _ l1).trans h1
  have c0 := cell_of_row _ R 0 _ 3 (0, 0) g0
  have c9 := cell_of_row _ w.heap.size 0 _ 109 (0, 0) z
  simp only [List.getElem?_toArray, List.getElem?_cons_zero] at c0 c9
  have f0 : ∀ a, wz.frozen? ⟨R, a, none⟩ = false := fun a => by simp [World.frozen?, g0]
  have g2 : (wz.setCell ⟨R, 0, none⟩ (.int .i64 (h : Int))).heap[R + 1]? = some (.cells #[.bool false] 4 (0, 0)) := (Below.heap_setCell _ _ _ _ (show R + 1 ≠ R by omega)).trans g1
  have c2 := cell_of_row _ (R + 1) 0 _ 4 (0, 0) g2
  simp only [List.getElem?_toArray, List.getElem?_cons_zero] at c2
  have f2 : ∀ a, (wz.setCell ⟨R, 0, none⟩ (.int .i64 (h : Int))).frozen? ⟨R + 1, a, none⟩ = false := fun a => by simp [World.frozen?, g2]
  have g3 : (wz.setCell ⟨R, 0, none⟩ (.int .i64 (h : Int))).heap[R]? = some (.cells #[.int .i64 (h : Int)] 3 (0, 0)) := blk_set (cs := #[.int .i64 0]) g0 0 _
  apply wpS_seq
  apply wpS_region
  simp [wpOpsS, go_sem, Exit.thenS]
  refine wpS_cond (t := true) (by simp [Act.eval, Array.replicate]) ?_
  simp only [if_true]
  apply wpS_region
  simp [wpOpsS, go_sem, c0, f0, c9, c2, f2, bodyPostS, results, Try.results78]
  refine ⟨?_, ?_, ?_⟩
  · exact (Below.heap_setCell _ _ _ _ (show R ≠ R + 1 by omega)).trans g3
  · exact blk_set (cs := #[.bool false]) g2 0 _
  · exact ((hbz.mono (Nat.le_of_lt l0)).setCell (p := ⟨R, 0, none⟩) (Nat.le_refl _) _).setCell (p := ⟨R + 1, 0, none⟩) (Nat.le_succ _) _
set_option maxRecDepth 100000 in
set_option maxHeartbeats 1000000 in
theorem catch_idle (p q : Addr) (w : World) :
    CallsD Try.prog 78 #[.pointer (some p), .pointer (some q)] .returning w fun e u' w' => e = .returned (.tuple #[]) ∧ u' = .returning ∧ Below w.heap.size w w' := by
  have hbz := (Below.refl w.heap.size w).alloc (Nat.le_refl _) (.cells #[.int .i64 0] 109)
  refine callsD_of_wpS Try.func78 rfl fun c₀ cs hu => ?_
  apply wpS_seq
  apply wpS_region
  simp [wpOpsS, go_sem, recoverD, hu, Try.ntmps78, Exit.thenS, hTnil]
  obtain ⟨wz, hwz⟩ : ∃ z, w.alloc (.cells #[.int .i64 0] 109) = z := ⟨_, rfl⟩
  rw [hwz] at hbz ⊢
  apply wpS_seq
  apply wpS_region
  simp [wpOpsS, go_sem, Exit.thenS]
  refine wpS_cond (t := false) (by simp [Act.eval, Array.replicate]) ?_
  simp only [Bool.false_eq_true, if_false]
  refine wpS_of_wp (wp_skip ?_)
  cases c₀
  simp_all [bodyPostS, results, Try.results78]
def unevenV (o : Option Nat) : Value := .tuple #[.int .i64 ((o.getD 0 : Nat) : Int), .bool o.isSome]
set_option maxRecDepth 100000 in
set_option maxHeartbeats 4000000 in
theorem first_any {w0 w : World} {M : Nat} {V : TV} {T : Tn} (hL : Lw w0 V T M w) {s : Nat} (f : Int) (hs : s < 2 ^ V.ns) :
    Calls Try.prog 52 #[coV V s M, .int .i64 f] w fun e w' => e = .returned (unevenV (unevenI T V.nh s f)) ∧ Cw T M w w' := by
  have hmf : ∀ (fn : Fn) (first cap : Array Value) (w : World), (Instr.makeFunc fn first cap).run Try.prog w = .ok (.func fn first cap) w := fun _ _ _ _ => rfl
  obtain ⟨z0, z1, z2, hb⟩ := three_new w (.cells (coC V s M) 89) (.cells #[.int .i64 0] 3) (.cells #[.bool false] 4)
  obtain ⟨w3, hw3⟩ : ∃ z, ((w.alloc (.cells (coC V s M) 89)).alloc (.cells #[.int .i64 0] 3)).alloc (.cells #[.bool false] 4) = z := ⟨_, rfl⟩
  rw [hw3] at z0 z1 z2 hb
  have HC := Lib.hid (mustKeep_any (hL.up hb) f hs)
  have HW := Lib.hid hw3; have HCW := Lib.hid (hL.cw0.up hb); have HL3 := Lib.hid (hL.up hb); have HZ1 := Lib.hid z1; have HZ2 := Lib.hid z2
  have HB := Lib.hid hb
  have HLT := Lib.hid (And.intro hL.mlt hL.lt)
  obtain ⟨ah, nh, ch, az, ns, cz⟩ := V
  obtain ⟨⟨v0, v1, v2, v3⟩, _⟩ := box4 z0
  simp only at v0 v1 v2 v3 hw3 ⊢
  clear z0 z1 z2 hb hL hs
  go_enter_defers Try.func52, Try.ntmps52
  go_wp2_with fail
  clear hw3
  refine HC.out.mono ?_
  rintro e w4 ⟨hg, hh⟩
  have zr0 := hg.cell HZ1.out (HL3.out.ne HZ1.out)
  have zr1 := hg.cell HZ2.out (HL3.out.ne HZ2.out)
  have HG := Lib.hid (HCW.out.trans hg)
  rcases hh with ⟨rfl, hu⟩ | ⟨h, rfl, hu⟩
  · have HU := Lib.hid hu
    have c0 := cell_of_row w4 (w.heap.size + 1) 0 _ 3 (0, 0) zr0
    simp only [List.getElem?_toArray, List.getElem?_cons_zero] at c0
    have f0 : w4.frozen? ⟨w.heap.size + 1, 0, none⟩ = false := by simp [World.frozen?, zr0]
    have g1 : (w4.setCell ⟨w.heap.size + 1, 0, none⟩ (.int .i64 0)).heap[w.heap.size + 1 + 1]? = some (.cells #[.bool false] 4 (0, 0)) := (Below.heap_setCell _ _ _ _ (show w.heap.size + 1 + 1 ≠ w.heap.size + 1 by omega)).trans zr1
    have g0 : (w4.setCell ⟨w.heap.size + 1, 0, none⟩ (.int .i64 0)).heap[w.heap.size + 1]? = some (.cells #[.int .i64 0] 3 (0, 0)) := blk_set zr0 0 _
    have hgs : Cw T M w (w4.setCell ⟨w.heap.size + 1, 0, none⟩ (.int .i64 0)) := HG.out.put _ (Nat.le_succ _)
    obtain ⟨w5, hw5⟩ : ∃ z, w4.setCell ⟨w.heap.size + 1, 0, none⟩ (.int .i64 0) = z := ⟨_, rfl⟩
    rw [hw5] at g0 g1 hgs
    have c1 := cell_of_row w5 (w.heap.size + 1 + 1) 0 _ 4 (0, 0) g1
    simp only [List.getElem?_toArray, List.getElem?_cons_zero] at c1
    have f1 : w5.frozen? ⟨w.heap.size + 1 + 1, 0, none⟩ = false := by simp [World.frozen?, g1]
    have k0 : (w5.setCell ⟨w.heap.size + 1 + 1, 0, none⟩ (.bool false)).heap[w.heap.size + 1]? = some (.cells #[.int .i64 0] 3 (0, 0)) := (Below.heap_setCell _ _ _ _ (show w.heap.size + 1 ≠ w.heap.size + 1 + 1 by omega)).trans g0
    have k1 : (w5.setCell ⟨w.heap.size + 1 + 1, 0, none⟩ (.bool false)).heap[w.heap.size + 1 + 1]? = some (.cells #[.bool false] 4 (0, 0)) := blk_set g1 0 _
    have hgk : Cw T M w (w5.setCell ⟨w.heap.size + 1 + 1, 0, none⟩ (.bool false)) := hgs.put _ (by omega)
    obtain ⟨w6, hw6⟩ : ∃ z, w5.setCell ⟨w.heap.size + 1 + 1, 0, none⟩ (.bool false) = z := ⟨_, rfl⟩
    rw [hw6] at k0 k1 hgk
    have HK := Lib.hid (And.intro k0 (And.intro k1 hgk))
    clear g0 g1 k0 k1 hgs hgk zr0 zr1 hg hu v0 v1 v2 v3
    go_wp2_with fail
    refine leaves_cons (f := 78) (args := #[.pointer (some ⟨w.heap.size + 1, 0, none⟩), .pointer (some ⟨w.heap.size + 1 + 1, 0, none⟩)]) (by simp) (by simp [go_sem]) ?_
    refine (catch_idle _ _ _).mono ?_
    rintro e u' w8 ⟨rfl, rfl, hb8⟩
    obtain ⟨k0, k1, hgk⟩ := HK.out
    have e0 := cell_of_row w8 (w.heap.size + 1) 0 _ 3 (0, 0) ((hb8.block _ (heapsz k0)).trans k0)
    have e1 := cell_of_row w8 (w.heap.size + 1 + 1) 0 _ 4 (0, 0) ((hb8.block _ (heapsz k1)).trans k1)
    simp only [List.getElem?_toArray, List.getElem?_cons_zero] at e0 e1
    simp [Leaves, settle, results, Try.results52, go_sem, e0, e1]
    exact ⟨by rw [HU.out]; rfl, hgk.up hb8⟩
  · have HU := Lib.hid hu
    refine leaves_cons (f := 78) (args := #[.pointer (some ⟨w.heap.size + 1, 0, none⟩), .pointer (some ⟨w.heap.size + 1 + 1, 0, none⟩)]) (by simp) (by simp [go_sem]) ?_
    refine (catch_panicking w4 h (w.heap.size + 1) zr0 zr1).mono ?_
    rintro e u' w6 ⟨rfl, rfl, k0, k1, hb6⟩
    have e0 := cell_of_row w6 (w.heap.size + 1) 0 _ 3 (0, 0) k0
    have e1 := cell_of_row w6 (w.heap.size + 1 + 1) 0 _ 4 (0, 0) k1
    simp only [List.getElem?_toArray, List.getElem?_cons_zero] at e0 e1
    simp [Leaves, settle, results, Try.results52, go_sem, e0, e1]
    exact ⟨by rw [HU.out]; rfl, HG.out.low (n := w.heap.size + 1) (by omega) hb6⟩
end Go.Proofs.Ytmppiiamcpjhnaa
