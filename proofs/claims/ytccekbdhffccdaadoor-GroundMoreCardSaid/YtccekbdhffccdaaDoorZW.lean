/- The statement on what is known better: three places made in one statement, and lists of layers and years that grow. -/
import Derived.Test.YtccekbdhffccdaaDoorRG
import Derived.Test.YtccekbdhffccdaaDoorZV
namespace Go.Proofs.YtccekbdhffccdaaDoor
open Go.RowKit Go.Shelf

/-- Three boxes are made, and filled. -/
structure S3 (wS : World) (pv : Value × Value × Value) (done : Nat → Bool) (g : Nat → Nat) (w : World) : Prop where
  bel : Below wS.heap.size wS w
  box : ∀ j, j < 3 → done (3 + j) = true → wS.heap.size ≤ g j ∧ w.heap[g j]? = some (.cells (if done (6 + j) = true then #[pv.1, pv.2.1, pv.2.2] else #[.slice none 0 0, .int .i64 0, .int .i64 0]) 26 (0, 0))
  sep : ∀ i j, i < 3 → j < 3 → i ≠ j → done (3 + i) = true → done (3 + j) = true → g i ≠ g j
  ord : ∀ j, j < 3 → done (6 + j) = true → done (3 + j) = true
def updN (f : Nat → Nat) (j v : Nat) : Nat → Nat := fun i => if i = j then v else f i
theorem updN_at (f : Nat → Nat) (j v : Nat) : updN f j v j = v := if_pos rfl
theorem updN_ne {f : Nat → Nat} {i j v : Nat} (h : i ≠ j) : updN f j v i = f i := if_neg h
theorem S3.quiet {wS w : World} {pv : Value × Value × Value} {done : Nat → Bool} {g : Nat → Nat} (h : S3 wS pv done g w) {i : Nat} (hi : i < 3) : S3 wS pv (updB done i) g w := by
  have e : ∀ m, 3 ≤ m → updB done i m = done m := fun m hm => updB_ne (by omega)
  refine ⟨h.bel, fun j hj hd => ?_, fun a b ha hb hab da db => ?_, fun j hj hd => ?_⟩
  · rw [e _ (by omega)] at hd ⊢
    exact h.box j hj hd
  · rw [e _ (by omega)] at da db
    exact h.sep a b ha hb hab da db
  · rw [e _ (by omega)] at hd ⊢
    exact h.ord j hj hd
theorem S3.make {wS w : World} {pv : Value × Value × Value} {done : Nat → Bool} {g : Nat → Nat} (h : S3 wS pv done g w) {j : Nat} (hj : j < 3) (hu : done (3 + j) = false) : S3 wS pv (updB done (3 + j)) (updN g j w.heap.size) (w.alloc (.cells #[.slice none 0 0, .int .i64 0, .int .i64 0] 26)) := by
  have hb := (Below.refl w.heap.size w).alloc (Nat.le_refl _) (.cells #[.slice none 0 0, .int .i64 0, .int .i64 0] 26)
  have e6 : ∀ a, a < 3 → updB done (3 + j) (6 + a) = done (6 + a) := fun a ha => updB_ne (by omega)
  have ns : done (6 + j) = false := by
    cases hd : done (6 + j) with
    | false => rfl
    | true => have := h.ord j hj hd; rw [hu] at this; exact absurd this (by decide)
  refine ⟨h.bel.trans (hb.mono h.bel.size), fun a ha hd => ?_, fun a b ha hb' hab da db => ?_, fun a ha hd => ?_⟩
  · rw [e6 a ha]
    by_cases haj : a = j
    · subst haj
      rw [updN_at, ns]
      exact ⟨h.bel.size, heap_alloc_new w _⟩
    · rw [updB_ne (by omega)] at hd
      obtain ⟨b1, b2⟩ := h.box a ha hd
      rw [updN_ne haj]
      exact ⟨b1, (hb.block _ (Array.getElem?_eq_some_iff.1 b2).1).trans b2⟩
  · by_cases haj : a = j
    · subst haj
      rw [updB_ne (by omega)] at db
      rw [updN_at, updN_ne (Ne.symm hab)]
      have := (Array.getElem?_eq_some_iff.1 (h.box b hb' db).2).1
      omega
    · rw [updB_ne (by omega)] at da
      rw [updN_ne haj]
      by_cases hbj : b = j
      · subst hbj
        rw [updN_at]
        have := (Array.getElem?_eq_some_iff.1 (h.box a ha da).2).1
        omega
      · rw [updB_ne (by omega)] at db
        rw [updN_ne hbj]
        exact h.sep a b ha hb' hab da db
  · rw [e6 a ha] at hd
    have := h.ord a ha hd
    unfold updB
    split
    · rfl
    · exact this
theorem S3.fill {wS w : World} {pv : Value × Value × Value} {done : Nat → Bool} {g : Nat → Nat} (h : S3 wS pv done g w) {j : Nat} (hj : j < 3) (hd : done (3 + j) = true) (hu : done (6 + j) = false) :
    S3 wS pv (updB done (6 + j)) g (((w.setCell ⟨g j, 0, none⟩ pv.1).setCell ⟨g j, 1, none⟩ pv.2.1).setCell ⟨g j, 2, none⟩ pv.2.2) := by
  obtain ⟨b1, b2⟩ := h.box j hj hd
  rw [hu] at b2
  have e3 : ∀ a, a < 3 → updB done (6 + j) (3 + a) = done (3 + a) := fun a ha => updB_ne (by omega)
  have hset : (((w.setCell ⟨g j, 0, none⟩ pv.1).setCell ⟨g j, 1, none⟩ pv.2.1).setCell ⟨g j, 2, none⟩ pv.2.2).heap[g j]? = some (.cells #[pv.1, pv.2.1, pv.2.2] 26 (0, 0)) := by
    simp [World.setCell, Array.getElem?_modify, b2]
  refine ⟨((h.bel.setCell (p := ⟨g j, 0, none⟩) b1 _).setCell (p := ⟨g j, 1, none⟩) b1 _).setCell (p := ⟨g j, 2, none⟩) b1 _, fun a ha hd' => ?_, fun a b ha hb' hab da db => ?_, fun a ha hd' => ?_⟩
  · rw [e3 a ha] at hd'
    obtain ⟨c1, c2⟩ := h.box a ha hd'
    by_cases haj : a = j
    · subst haj
      rw [updB_at, if_pos rfl]
      exact ⟨c1, hset⟩
    · rw [updB_ne (by omega)]
      have hne := h.sep a j ha hj haj hd' hd
      exact ⟨c1, (Below.heap_setCell _ _ _ _ hne).trans ((Below.heap_setCell _ _ _ _ hne).trans ((Below.heap_setCell _ _ _ _ hne).trans c2))⟩
  · rw [e3 a ha] at da
    rw [e3 b hb'] at db
    exact h.sep a b ha hb' hab da db
  · rw [e3 a ha]
    by_cases haj : a = j
    · subst haj; exact hd
    · rw [updB_ne (by omega)] at hd'
      exact h.ord a ha hd'
/-- What is asked of an operation. -/
abbrev Ask3 (wS : World) (pv : Value × Value × Value) (ops : Array Oper) (ρ : (Nat → Nat) → Tmp → Value) (done : Nat → Bool) (g : Nat → Nat) (w : World) (i : Nat) (o : Oper) : Prop :=
  Region.wanted o (yieldedBy ops (ρ g)) = true ∧ Yield Tryd.prog (fun v w' => ∃ g', S3 wS pv (updB done i) g' w' ∧ (∀ d, o.dst = some d → ρ g' d = v) ∧ ∀ t, o.dst ≠ some t → ρ g' t = ρ g t) ((execOp (evalBy (ρ g)) o).run Tryd.prog w)
theorem quiet3 {wS w : World} {pv : Value × Value × Value} {ops : Array Oper} {ρ : (Nat → Nat) → Tmp → Value} {done : Nat → Bool} {g : Nat → Nat} {i : Nat} {o : Oper} (h : S3 wS pv done g w) (d : Tmp) (hd : o.dst = some d) (hi : i < 3) (hg : Region.wanted o (yieldedBy ops (ρ g)) = true)
    (he : (execOp (evalBy (ρ g)) o).run Tryd.prog w = .ok (.value (ρ g d)) w) : Ask3 wS pv ops ρ done g w i o := by
  refine ⟨hg, ?_⟩
  rw [he]
  exact ⟨g, h.quiet hi, fun e hE => by rw [hd] at hE; injection hE with hE; subst hE; rfl, fun _ _ => rfl⟩
theorem make3 {wS w : World} {pv : Value × Value × Value} {ops : Array Oper} {ρ : (Nat → Nat) → Tmp → Value} {done : Nat → Bool} {g : Nat → Nat} {i : Nat} {o : Oper} (h : S3 wS pv done g w) (j : Nat) (hj : j < 3) (d : Tmp) (hd : o.dst = some d) (hi : i = 3 + j) (hu : done i = false) (hg : Region.wanted o (yieldedBy ops (ρ g)) = true)
    (he : (execOp (evalBy (ρ g)) o).run Tryd.prog w = .ok (.value (.pointer (some ⟨w.heap.size, 0, none⟩))) (w.alloc (.cells #[.slice none 0 0, .int .i64 0, .int .i64 0] 26)))
    (h1 : ∀ g' : Nat → Nat, ρ g' d = .pointer (some ⟨g' j, 0, none⟩)) (h2 : ∀ (t : Tmp) (v : Nat), t ≠ d → ρ (updN g j v) t = ρ g t) : Ask3 wS pv ops ρ done g w i o := by
  subst hi
  refine ⟨hg, ?_⟩
  rw [he]
  exact ⟨_, h.make hj hu, fun e hE => by rw [hd] at hE; injection hE with hE; subst hE; rw [h1, updN_at], fun t ht => h2 t _ (fun e => ht (by rw [hd, e]))⟩
theorem fill3 {wS w : World} {pv : Value × Value × Value} {ops : Array Oper} {ρ : (Nat → Nat) → Tmp → Value} {done : Nat → Bool} {g : Nat → Nat} {i : Nat} {o : Oper} (h : S3 wS pv done g w) (j : Nat) (hj : j < 3) (hd : o.dst = none) (hi : i = 6 + j) (hu : done i = false) (hb : done (3 + j) = true) (hg : Region.wanted o (yieldedBy ops (ρ g)) = true)
    (he : (∀ a, w.frozen? ⟨g j, a, none⟩ = false) → w.cell? ⟨g j, 0, none⟩ = some (.slice none 0 0) → w.cell? ⟨g j, 1, none⟩ = some (.int .i64 0) → w.cell? ⟨g j, 2, none⟩ = some (.int .i64 0) →
      (execOp (evalBy (ρ g)) o).run Tryd.prog w = .ok .skip (((w.setCell ⟨g j, 0, none⟩ pv.1).setCell ⟨g j, 1, none⟩ pv.2.1).setCell ⟨g j, 2, none⟩ pv.2.2)) : Ask3 wS pv ops ρ done g w i o := by
  subst hi
  obtain ⟨_, b2⟩ := h.box j hj hb
  rw [hu] at b2
  have c0 := cell_of_row w (g j) 0 _ 26 (0, 0) b2
  have c1 := cell_of_row w (g j) 1 _ 26 (0, 0) b2
  have c2 := cell_of_row w (g j) 2 _ 26 (0, 0) b2
  refine ⟨hg, ?_⟩
  rw [he (fun a => by simp [World.frozen?, b2]) (by simpa using c0) (by simpa using c1) (by simpa using c2)]
  exact ⟨g, h.fill hj hb hu, fun d hD => by rw [hd] at hD; exact absurd hD (by simp), fun _ _ => rfl⟩

/-- Memory while both lists of layers grow: the boxes of four places, and the rows of two of them. -/
structure M1 (w0 wr : World) (bx by_ bz : Nat) (PL YL : Array Value) (x1 x2 z1 z2 : Value) (vx vz : Value) (kx kz : Nat) (rx rz : List Value) : Prop where
  bel : Below w0.heap.size w0 wr
  pb : wr.heap[w0.heap.size]? = some (.cells PL 26 (0, 0))
  xb : wr.heap[bx]? = some (.cells #[vx, x1, x2] 26 (0, 0))
  yb : wr.heap[by_]? = some (.cells YL 26 (0, 0))
  zb : wr.heap[bz]? = some (.cells #[vz, z1, z2] 26 (0, 0))
  ox : wr.ownsRow w0.heap.size 86 3 vx kx rx
  oz : wr.ownsRow w0.heap.size 86 3 vz kz rz
  sp : ∀ B, vx.ownBlock = some B → vz.ownBlock ≠ some B
  nb : w0.heap.size < bx ∧ w0.heap.size < by_ ∧ w0.heap.size < bz ∧ bx ≠ by_ ∧ bx ≠ bz ∧ by_ ≠ bz
section
variable {w0 wr w : World} {bx by_ bz : Nat} {PL YL : Array Value} {x1 x2 z1 z2 vx vz : Value} {kx kz : Nat} {rx rz : List Value}
theorem M1.next (h : M1 w0 wr bx by_ bz PL YL x1 x2 z1 z2 vx vz kx kz rx rz) (hb : Below wr.heap.size wr w) : M1 w0 w bx by_ bz PL YL x1 x2 z1 z2 vx vz kx kz rx rz := by
  have hk : ∀ {B : Nat} {o : Obj}, wr.heap[B]? = some o → w.heap[B]? = some o := fun hB => (hb.block _ (Array.getElem?_eq_some_iff.1 hB).1).trans hB
  exact ⟨h.bel.trans (hb.mono h.bel.size), hk h.pb, hk h.xb, hk h.yb, hk h.zb, own_next h.ox hb, own_next h.oz hb, h.sp, h.nb⟩
/-- A list of something else grows. -/
theorem M1.grow (h : M1 w0 wr bx by_ bz PL YL x1 x2 z1 z2 vx vz kx kz rx rz) {row : Option Nat} (hg : wr.grownBy w row) (hr : ∀ B, row = some B → w0.heap.size ≤ B ∧ ∃ cs, wr.heap[B]? = some (.cells cs 88 (0, 0))) : M1 w0 w bx by_ bz PL YL x1 x2 z1 z2 vx vz kx kz rx rz := by
  have hk : ∀ {B : Nat} {cs : Array Value} {t : TypeId}, wr.heap[B]? = some (.cells cs t (0, 0)) → (88 : Nat) ≠ t → w.heap[B]? = some (.cells cs t (0, 0)) := fun {B cs t} hB hne => by
    refine (hg.block _ (Array.getElem?_eq_some_iff.1 hB).1 (fun e => ?_)).trans hB
    obtain ⟨_, cs', hc⟩ := hr B e.symm
    rw [hB] at hc
    injection hc with hc
    injection hc with _ ht
    exact hne ht.symm
  have ho : ∀ {v : Value} {k : Nat} {xs : List Value}, wr.ownsRow w0.heap.size 86 3 v k xs → w.ownsRow w0.heap.size 86 3 v k xs := fun ho => own_of_blocks ho fun B hB => by
    obtain ⟨cs, hc⟩ := own_cells ho hB
    rw [hc]
    exact hk hc (by decide)
  exact ⟨h.bel.grown hg h.bel.size (fun B hB => (hr B hB).1), hk h.pb (by decide), hk h.xb (by decide), hk h.yb (by decide), hk h.zb (by decide), ho h.ox, ho h.oz, h.sp, h.nb⟩
theorem box_row {B : Nat} {cs : Array Value} {v : Value} {k : Nat} {xs : List Value} {base : Nat} (hB : wr.heap[B]? = some (.cells cs 26 (0, 0))) (ho : wr.ownsRow base 86 3 v k xs) : some B ≠ v.ownBlock := fun e => own_not ho hB (by decide) e.symm
/-- The first list grows, and is stored. -/
theorem M1.stepX (h : M1 w0 wr bx by_ bz PL YL x1 x2 z1 z2 vx vz kx kz rx rz) {v' : Value} {ns : List Value} (hg : wr.grownBy w vx.ownBlock) (ho : w.ownsRow w0.heap.size 86 3 v' (kx + 1) (rx ++ ns)) (hf : v'.ownBlock = vx.ownBlock ∨ ∃ B, v'.ownBlock = some B ∧ wr.heap.size ≤ B) :
    M1 w0 (w.setCell ⟨bx, 0, none⟩ v') bx by_ bz PL YL x1 x2 z1 z2 v' vz (kx + 1) kz (rx ++ ns) rz := by
  obtain ⟨n1, n2, n3, n4, n5, n6⟩ := h.nb
  have hk : ∀ {B : Nat} {cs : Array Value}, wr.heap[B]? = some (.cells cs 26 (0, 0)) → w.heap[B]? = some (.cells cs 26 (0, 0)) := fun hB => (hg.block _ (Array.getElem?_eq_some_iff.1 hB).1 (box_row hB h.ox)).trans hB
  have hs : ∀ {B : Nat} {o : Obj}, w.heap[B]? = some o → B ≠ bx → (w.setCell ⟨bx, 0, none⟩ v').heap[B]? = some o := fun hB hne => (Below.heap_setCell _ _ _ _ hne).trans hB
  have hzo : w.ownsRow w0.heap.size 86 3 vz kz rz := own_of_blocks h.oz fun B hB => hg.block B (h.oz.lt _ hB).2 (fun e => h.sp B e.symm hB)
  have hso : ∀ {v : Value} {k : Nat} {xs : List Value}, w.ownsRow w0.heap.size 86 3 v k xs → (w.setCell ⟨bx, 0, none⟩ v').ownsRow w0.heap.size 86 3 v k xs := fun ho' => own_of_blocks ho' fun B hB => Below.heap_setCell _ _ _ _ (fun e => own_not ho' (hk h.xb) (by decide) (by rw [hB, e]))
  refine ⟨(h.bel.grown hg h.bel.size (fun B hB => (h.ox.lt _ hB).1)).setCell (p := ⟨bx, 0, none⟩) (by show _ ≤ bx; omega) _, hs (hk h.pb) (by omega), ?_, hs (hk h.yb) (Ne.symm n4), hs (hk h.zb) (Ne.symm n5), hso ho, hso hzo, fun B hB hz => ?_, h.nb⟩
  · have := hk h.xb
    simp [World.setCell, Array.getElem?_modify, this]
  · rcases hf with hf | ⟨B', hf, hle⟩
    · rw [hf] at hB
      exact h.sp B hB hz
    · rw [hf] at hB
      injection hB with hB
      have := (h.oz.lt _ hz).2
      omega
/-- The second one. -/
theorem M1.stepZ (h : M1 w0 wr bx by_ bz PL YL x1 x2 z1 z2 vx vz kx kz rx rz) {v' : Value} {ns : List Value} (hg : wr.grownBy w vz.ownBlock) (ho : w.ownsRow w0.heap.size 86 3 v' (kz + 1) (rz ++ ns)) (hf : v'.ownBlock = vz.ownBlock ∨ ∃ B, v'.ownBlock = some B ∧ wr.heap.size ≤ B) :
    M1 w0 (w.setCell ⟨bz, 0, none⟩ v') bx by_ bz PL YL x1 x2 z1 z2 vx v' kx (kz + 1) rx (rz ++ ns) := by
  obtain ⟨n1, n2, n3, n4, n5, n6⟩ := h.nb
  have hk : ∀ {B : Nat} {cs : Array Value}, wr.heap[B]? = some (.cells cs 26 (0, 0)) → w.heap[B]? = some (.cells cs 26 (0, 0)) := fun hB => (hg.block _ (Array.getElem?_eq_some_iff.1 hB).1 (box_row hB h.oz)).trans hB
  have hs : ∀ {B : Nat} {o : Obj}, w.heap[B]? = some o → B ≠ bz → (w.setCell ⟨bz, 0, none⟩ v').heap[B]? = some o := fun hB hne => (Below.heap_setCell _ _ _ _ hne).trans hB
  have hzo : w.ownsRow w0.heap.size 86 3 vx kx rx := own_of_blocks h.ox fun B hB => hg.block B (h.ox.lt _ hB).2 (fun e => h.sp B hB e.symm)
  have hso : ∀ {v : Value} {k : Nat} {xs : List Value}, w.ownsRow w0.heap.size 86 3 v k xs → (w.setCell ⟨bz, 0, none⟩ v').ownsRow w0.heap.size 86 3 v k xs := fun ho' => own_of_blocks ho' fun B hB => Below.heap_setCell _ _ _ _ (fun e => own_not ho' (hk h.zb) (by decide) (by rw [hB, e]))
  refine ⟨(h.bel.grown hg h.bel.size (fun B hB => (h.oz.lt _ hB).1)).setCell (p := ⟨bz, 0, none⟩) (by show _ ≤ bz; omega) _, hs (hk h.pb) (by omega), hs (hk h.xb) n5, hs (hk h.yb) n6, ?_, hso hzo, hso ho, fun B hB hz => ?_, h.nb⟩
  · have := hk h.zb
    simp [World.setCell, Array.getElem?_modify, this]
  · rcases hf with hf | ⟨B', hf, hle⟩
    · rw [hf] at hz
      exact h.sp B hB hz
    · rw [hf] at hz
      injection hz with hz
      have := (h.ox.lt _ hB).2
      omega
end
/-- Rows of layers, and of years. -/
def layRow (l : Lay) : List Value := [.int .i64 l.t, .int .i64 l.lo, .int .i64 l.hi]
def yrRow (y : Yr) : List Value := [.int .i64 y.sl, .int .i64 y.sh, .int .i64 y.wl, .int .i64 y.wh, .int .i64 y.nl, .int .i64 y.nh]
theorem flat_get {α : Type} {f : α → List Value} {n : Nat} (hf : ∀ x, (f x).length = n) : ∀ (l : List α) (i : Nat) (x : α), l[i]? = some x → ∀ j, j < n → (l.flatMap f)[i * n + j]? = (f x)[j]?
  | [], i, x, h, _, _ => by simp at h
  | a :: l, 0, x, h, j, hj => by
    have : a = x := by simpa using h
    subst this
    rw [List.flatMap_cons, List.getElem?_append_left (by rw [hf]; omega)]
    simp
  | a :: l, i + 1, x, h, j, hj => by
    have e : (i + 1) * n = n + i * n := by rw [Nat.add_mul]; omega
    rw [List.flatMap_cons, List.getElem?_append_right (by rw [hf]; omega), hf, ← flat_get hf l i x (by simpa using h) j hj]
    congr 1
    omega
theorem flat_take {α : Type} {f : α → List Value} {l : List α} {k : Nat} {x : α} (h : l[k]? = some x) : (l.take (k + 1)).flatMap f = (l.take k).flatMap f ++ f x := by
  rw [List.take_add_one, h]
  simp
theorem lays_of_own {w : World} {B n : Nat} {v : Value} {l : List Lay} (h : w.ownsRow B 86 3 v n (l.flatMap layRow)) (hl : l.length = n) : ∃ A c, v = .slice A n c ∧ n ≤ c ∧ LaysAt w w.heap.size A l := by
  rcases h.2 with ⟨rfl, rfl⟩ | ⟨g, cap, cur, rfl, hg, hh, hn, hc, hs, ht⟩
  · exact ⟨none, 0, rfl, Nat.le_refl _, fun hne => absurd (List.length_eq_zero_iff.1 hl) hne⟩
  · refine ⟨_, cap, rfl, hn, fun _ => ⟨g, 0, rfl, (Array.getElem?_eq_some_iff.1 hh).1, fun i x hx => ?_⟩⟩
    have hi : i < l.length := (List.getElem?_eq_some_iff.1 hx).1
    have key : ∀ j, j < 3 → w.cell? ⟨g, 0 + i * 3 + j, none⟩ = (layRow x)[j]? := fun j hj => by
      rw [cell_of_row w g _ cur 86 (0, 0) hh, Nat.zero_add, ← flat_get (f := layRow) (n := 3) (fun _ => rfl) l i x hx j hj, ← ht, List.getElem?_take_of_lt (by omega), ← Array.getElem?_toList]
    exact ⟨key 0 (by decide), key 1 (by decide), key 2 (by decide)⟩
theorem yrs_of_own {w : World} {B n : Nat} {v : Value} {l : List Yr} (h : w.ownsRow B 88 6 v n (l.flatMap yrRow)) (hl : l.length = n) : ∃ A c, v = .slice A n c ∧ n ≤ c ∧ YrsAt w w.heap.size A l := by
  rcases h.2 with ⟨rfl, rfl⟩ | ⟨g, cap, cur, rfl, hg, hh, hn, hc, hs, ht⟩
  · exact ⟨none, 0, rfl, Nat.le_refl _, fun hne => absurd (List.length_eq_zero_iff.1 hl) hne⟩
  · refine ⟨_, cap, rfl, hn, fun _ => ⟨g, 0, rfl, (Array.getElem?_eq_some_iff.1 hh).1, fun i x hx => ?_⟩⟩
    have hi : i < l.length := (List.getElem?_eq_some_iff.1 hx).1
    have key : ∀ j, j < 6 → w.cell? ⟨g, 0 + i * 6 + j, none⟩ = (yrRow x)[j]? := fun j hj => by
      rw [cell_of_row w g _ cur 88 (0, 0) hh, Nat.zero_add, ← flat_get (f := yrRow) (n := 6) (fun _ => rfl) l i x hx j hj, ← ht, List.getElem?_take_of_lt (by omega), ← Array.getElem?_toList]
    exact ⟨key 0 (by decide), key 1 (by decide), key 2 (by decide), key 3 (by decide), key 4 (by decide), key 5 (by decide)⟩
end Go.Proofs.YtccekbdhffccdaaDoor
