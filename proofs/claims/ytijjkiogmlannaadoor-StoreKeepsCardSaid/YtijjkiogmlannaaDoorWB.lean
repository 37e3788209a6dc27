/- A range over an iterator that writes memory of its own between two rounds: what it writes is told by a relation St, which what the caller keeps must abide. Stores: ships that never arrive are left out of a plan; what is lacking first, as the code keeps it. -/
import Derived.Test.YtijjkiogmlannaaDoorVM
import Derived.Maps.Own
import Derived.DeepKeys4
namespace Go
open Go.RowKit

variable {F : Fence} {n : Nat} {P : Program}

/-- The contract of an iterator that writes: between two rounds the world may change as St says. -/
def SeqW {α : Type} (F : Fence) (n : Nat) (P : Program) (g : Nat) (lb : Array Value) (encs : α → Array Value) (Kp St : World → World → Prop) (S Sp : List α → Prop) (w : World) : Prop :=
  ∀ (l : Nat) (J Jx : List α → World → Prop) (W : World), Below w.heap.size w W → (∀ s A B, J s A → St A B → J s B) →
    (∀ pre x W1, J pre W1 → Sp (pre ++ [x]) → YieldAt F (n - 1) P l (encs x) W1 fun e W' =>
      (e = .returned (.bool true) ∧ J (pre ++ [x]) W' ∧ Kp W1 W') ∨ (e = .returned (.bool false) ∧ Jx (pre ++ [x]) W')) →
    J [] W →
    CallsIn F n P g (#[.func (.yield l) #[] #[]] ++ lb) W fun e W' => (∃ v, e = .returned v) ∧ ((∃ xs, S xs ∧ J xs W') ∨ (∃ pre, Sp pre ∧ Jx pre W'))

/-- The two blocks that a range over a function lays: its record, and the one for what its rounds defer. -/
def LoopLaid (b : Nat) (r : Loop) (W : World) : Prop := W.heap[b + 1]? = some (.loop r) ∧ W.heap[b]? = some (.deferred (some []))
theorem LoopLaid.put {b : Nat} {r r' : Loop} {W : World} (h : LoopLaid b r W) : LoopLaid b r' (W.putObj (b + 1) (.loop r')) :=
  ⟨World.putObj_heap_same (Array.getElem?_eq_some_iff.1 h.1).1, (World.putObj_heap_other (by omega)).trans h.2⟩
theorem LoopLaid.keep {b : Nat} {r : Loop} {W W' : World} (h : LoopLaid b r W) (hk : ∀ k o, b ≤ k → W.heap[k]? = some o → o.isCells = false → W'.heap[k]? = some o) : LoopLaid b r W' :=
  ⟨hk _ _ (by omega) h.1 rfl, hk _ _ (Nat.le_refl _) h.2 rfl⟩

theorem wpIn_rangeFunc_writes {α : Type} {g : Operand} {ps : Array Tmp} {assign body : Code} {Q : Exit → Act → World → Prop} {a : Act} {w : World}
    (hro : F.round = none) (h1 : 1 ≤ n) {gf : Nat} {lb : Array Value} (hg : a.eval g = .func (.func gf) #[] lb) (hFg : F.fn gf) (eg : ∀ args w, (callFunc gf args).run P w = .ok (.enter gf args) w)
    {encs : α → Array Value} {Kp St : World → World → Prop} {S Sp : List α → Prop} {w0 : World} (hseq : SeqW F (n - 1) P gf lb encs Kp St S Sp w0)
    (hSt : ∀ A B, St A B → ∀ k o, w.heap.size ≤ k → A.heap[k]? = some o → o.isCells = false → B.heap[k]? = some o)
    (hKt : ∀ {A B C : World}, Kp A B → Kp B C → Kp A C) (hKb : ∀ (W : World) (l : Nat) (o o' : Obj), w.heap.size ≤ l → W.heap[l]? = some o → o.isCells = false → o.isWalk = false → Kp W (W.putObj l o')) (hb0 : Below w0.heap.size w0 w) (hps : ∀ x, (encs x).size = ps.size)
    (I : List α → World → Prop) (Ix : Code → List α → World → Prop) (hI : OwnFrom w.heap.size I) (hIx : ∀ c, OwnFrom w.heap.size (Ix c)) (hIS : ∀ s A B, I s A → St A B → I s B) (h0 : I [] w) (Ax : α → Act → World → Prop) (hAx : ∀ x a', OwnFrom w.heap.size (fun (_ : Unit) W => Ax x a' W))
    (hassign : ∀ (l : Nat) (pre : List α) (x : α) (W : World) (K : Act → World → Prop), I pre W → (∀ a' W', KeepsFrom w.heap.size W W' → Kp W W' → I pre W' → Ax x a' W' → K a' W') →
      assign.wpIn (F.inRound l) (n - 1 - 1) P (Exit.then K (fun _ _ _ => False)) { tmps := (ps.zip (encs x)).foldl (fun t (p, v) => t.setIfInBounds p v) a.tmps, defers := [] } W)
    (hbody : ∀ (l : Nat) (pre : List α) (x : α) (a' : Act) (W : World), I pre W → Ax x a' W → Sp (pre ++ [x]) → body.wpIn (F.inRound l) (n - 1 - 1) P (ownPostK Kp I Ix (pre ++ [x]) W) a' W)
    (hdone : ∀ (D : Nat) (xs : List α) (W : World), w.heap.size ≤ D → S xs → I xs W → W.heap[D]? = some (.deferred (some [])) → Q .normal { a with defers := { target := .collected D, args := #[] } :: a.defers } W)
    (hstop : ∀ (D : Nat) (c : Code) (pre : List α) (W : World), w.heap.size ≤ D → Sp pre → Ix c pre W → W.heap[D]? = some (.deferred (some [])) → c.wpIn F n P Q { a with defers := { target := .collected D, args := #[] } :: a.defers } W) :
    (Code.rangeFunc g ps assign body).wpIn F n P Q a w := by
  refine wpIn_rangeFunc fun fn hfn => ?_
  rw [hro]
  obtain ⟨R, hR⟩ : ∃ R : LoopState → Option Code → Loop, R = fun st pe => { state := st, pending := pe, fn, tmps := a.tmps, params := ps, assign, body, defers := w.heap.size } := ⟨_, rfl⟩
  obtain ⟨V, hV⟩ : ∃ V, (w.alloc (.deferred (some []))).alloc (.loop (R .ready none)) = V := ⟨_, rfl⟩
  have hLV : LoopLaid w.heap.size (R .ready none) V := by
    subst hV
    refine ⟨?_, (Below.heap_alloc _ _ _ (by simp)).trans (World.alloc_heap_new w _)⟩
    have := World.alloc_heap_new (w.alloc (.deferred (some []))) (.loop (R .ready none))
    rwa [World.size_alloc] at this
  have hIV : I [] V := by rw [← hV]; exact hI.alloc _ (hI.alloc _ h0)
  have hBV : Below w0.heap.size w0 V := by
    rw [← hV]
    exact hb0.trans ((((Below.refl _ w).alloc (Nat.le_refl _) _).alloc (by simp) _).mono hb0.size)
  refine ⟨w.heap.size + 1, [{ target := .collected w.heap.size, args := #[] }], V, { target := .fn (.func gf) lb, args := #[.func (.yield (w.heap.size + 1)) #[] #[]] }, V, gf,
    #[.func (.yield (w.heap.size + 1)) #[] #[]] ++ lb, V, ?_, ?_, ?_, ?_, fun _ => h1, ?_⟩
  · rw [← hV, hR]; exact run_enterLoop_outer _ _ _ _ _
  · simp only [resolve, hg]
    simp [go_sem]
  · intro f' hf'; simp [Target.leads] at hf'; subst hf'; exact hFg
  · simp [invoke, go_sem, eg]
  · refine (hseq (w.heap.size + 1) (fun pre W => I pre W ∧ LoopLaid w.heap.size (R .ready none) W) (fun pre W => ∃ c, Ix c pre W ∧ LoopLaid w.heap.size (R .done (some c)) W) V hBV
      (fun s A B h hs => ⟨hIS s A B h.1 hs, h.2.keep (hSt A B hs)⟩) ?_ ⟨hIV, hLV⟩).mono ?_
    · rintro pre x W ⟨hi, hl⟩ hlen
      have hy := run_yield (P := P) (args := encs x) hl.1 (by rw [hR]; exact hps x)
      rw [hR] at hy
      refine ⟨fn, _, assign, body, hy, roundIn_of_wpIn hfn (hassign _ pre x W _ hi fun a' Wa hka hkpa hia hax => ?_)⟩
      replace hl := hl.keep hka.same
      refine ⟨_, run_beginRound hl.1 (by rw [hR]), ?_⟩
      obtain ⟨RB, hRB⟩ : ∃ z, ({ R .ready none with state := .busy } : Loop) = z := ⟨_, rfl⟩
      have hlb := hl.put (r' := RB)
      have hkb : Kp Wa (Wa.putObj (w.heap.size + 1) (.loop RB)) := hKb _ _ _ _ (by omega) hl.1 rfl rfl
      rw [hRB]
      refine wpIn_mono (hbody _ pre x _ _ (hI.putObj _ hia (by omega) hl.1 rfl) ((hAx x a').putObj (s := ()) _ hax (by omega) hl.1 rfl) hlen) ?_
      have fin : ∀ (jump : Option Code) (W3 : World), KeepsOthers (Wa.putObj (w.heap.size + 1) (.loop RB)) W3 →
          (Instr.endRound (w.heap.size + 1) jump).run P W3 = .ok (.bool jump.isNone) (W3.putObj (w.heap.size + 1) (.loop (R (if jump.isNone then .ready else .done) jump))) ∧ LoopLaid w.heap.size RB W3 ∧
          LoopLaid w.heap.size (R (if jump.isNone then .ready else .done) jump) (W3.putObj (w.heap.size + 1) (.loop (R (if jump.isNone then .ready else .done) jump))) := fun jump W3 hk3 => by
        have h3 := hlb.keep fun k o _ => hk3.same k o
        refine ⟨?_, h3, h3.put⟩
        have := run_endRound (P := P) jump h3.1
        rw [← hRB, hR] at this
        rw [hR]
        exact this
      rintro e a3 W3 hp
      have leave : ∀ (c : Code), KeepsOthers (Wa.putObj (w.heap.size + 1) (.loop RB)) W3 → Ix c (pre ++ [x]) W3 → Ix c (pre ++ [x]) (W3.putObj (w.heap.size + 1) (.loop (R .done (some c)))) ∧ LoopLaid w.heap.size (R .done (some c)) (W3.putObj (w.heap.size + 1) (.loop (R .done (some c)))) := fun c hk hi3 => by
        obtain ⟨_, h3, h4⟩ := fin (some c) W3 hk
        exact ⟨(hIx c).putObj _ hi3 (by omega) h3.1 rfl, h4⟩
      cases e with
      | normal =>
        obtain ⟨hk3, hkp3, hi3⟩ := hp
        obtain ⟨hr, h3, h4⟩ := fin none W3 hk3
        exact ⟨_, _, hr, .inl ⟨rfl, ⟨hI.putObj _ hi3 (by omega) h3.1 rfl, h4⟩, hKt (hKt (hKt hkpa hkb) hkp3) (hKb _ _ _ _ (by omega) h3.1 rfl rfl)⟩⟩
      | ret => exact ⟨_, _, (fin (some .ret) W3 hp.1).1, .inr ⟨rfl, .ret, leave _ hp.1 hp.2⟩⟩
      | exit id => exact ⟨_, _, (fin (some (.exit id)) W3 hp.1).1, .inr ⟨rfl, .exit id, leave _ hp.1 hp.2⟩⟩
      | goto t => exact ⟨_, _, (fin (some (.goto t)) W3 hp.1).1, .inr ⟨rfl, .goto t, leave _ hp.1 hp.2⟩⟩
      | panic ch => exact hp.elim
      | outgrown => exact hp.elim
    · rintro e W2 ⟨⟨v, rfl⟩, (⟨xs, hS, hi, hl⟩ | ⟨pre, hSp, c, hi, hl⟩)⟩
      · refine ⟨none, _, by have := run_endLoop (P := P) hl.1 (by rw [hR]; simp); rw [hR] at this; exact this, ?_⟩
        exact hdone _ xs _ (Nat.le_refl _) hS (hI.putObj _ hi (by omega) hl.1 rfl) ((World.putObj_heap_other (by omega)).trans hl.2)
      · refine ⟨some c, _, by have := run_endLoop (P := P) hl.1 (by rw [hR]; simp); rw [hR] at this; exact this, ?_⟩
        exact hstop _ c pre _ (Nat.le_refl _) hSp ((hIx c).putObj _ hi (by omega) hl.1 rfl) ((World.putObj_heap_other (by omega)).trans hl.2)
end Go

namespace Go.Proofs.YtijjkiogmlannaaDoor
open Go.RowKit

def stripB (q j : Nat) : Nat := if hasB q j then q - 2 ^ j else q
theorem strip_has : ∀ q, q < 64 → ∀ j, j < 6 → ∀ i, i < 6 → hasB (stripB q j) i = (hasB q i && !decide (i = j)) := by decide +kernel
theorem strip_le (q j : Nat) : stripB q j ≤ q := by
  unfold stripB
  split
  · exact Nat.sub_le _ _
  · exact Nat.le_refl q
theorem andnot_strip : ∀ q : Nat, q < 64 → ∀ j : Nat, j < 6 → bits .andNot .i64 (q : Int) ((2 ^ j : Nat) : Int) = (stripB q j : Int) := by decide +kernel
def stripF (no : Nat → Bool) (q j : Nat) : Nat := if no j then stripB q j else q
def stripL (no : Nat → Bool) (q : Nat) (js : List Nat) : Nat := js.foldl (stripF no) q
theorem stripL_le (no : Nat → Bool) : ∀ (js : List Nat) (q : Nat), stripL no q js ≤ q
  | [], q => Nat.le_refl q
  | j :: js, q => by
    refine Nat.le_trans (stripL_le no js (stripF no q j)) ?_
    unfold stripF
    split
    · exact strip_le q j
    · exact Nat.le_refl q
theorem stripF_has (no : Nat → Bool) {q j i : Nat} (hq : q < 64) (hj : j < 6) (hi : i < 6) : hasB (stripF no q j) i = (hasB q i && !(decide (i = j) && no i)) := by
  unfold stripF
  cases hn : no j with
  | true =>
    rw [if_pos rfl, strip_has q hq j hj i hi]
    by_cases h : i = j
    · subst h; rw [hn]; simp
    · simp [h]
  | false =>
    rw [if_neg (by simp)]
    by_cases h : i = j
    · subst h; rw [hn]; simp
    · simp [h]
theorem stripF_le (no : Nat → Bool) (q j : Nat) : stripF no q j ≤ q := by
  unfold stripF
  split
  · exact strip_le q j
  · exact Nat.le_refl q
theorem stripL_has (no : Nat → Bool) {i : Nat} (hi : i < 6) : ∀ (js : List Nat) (q : Nat), q < 64 → (∀ j ∈ js, j < 6) → hasB (stripL no q js) i = (hasB q i && !(decide (i ∈ js) && no i))
  | [], q, _, _ => by simp [stripL]
  | j :: js, q, hq, hjs => by
    have hj := hjs j (List.mem_cons_self ..)
    have ih := stripL_has no hi js (stripF no q j) (Nat.lt_of_le_of_lt (stripF_le no q j) hq) fun a ha => hjs a (List.mem_cons_of_mem _ ha)
    show hasB (stripL no (stripF no q j) js) i = _
    rw [ih, stripF_has no hq hj hi]
    by_cases h1 : i = j
    · subst h1; cases hasB q i <;> cases no i <;> simp
    · simp only [List.mem_cons, h1, false_or]
      cases hasB q i <;> cases no i <;> simp
theorem pilL_mem {p j : Nat} : j ∈ pilL (p : Int) ↔ j < 6 ∧ hasB p j = true := by
  unfold pilL
  rw [List.mem_filter, List.mem_range, jack_has]
def Sto.no (S : Sto) (ice : List Bool) (j : Nat) : Bool := decide (arrI ice (S.ship j).w.toNat = -1)
def Sto.strip (S : Sto) (p : Nat) (ice : List Bool) : Nat := stripL (S.no ice) p (pilL (p : Int))
theorem Sto.strip_le (S : Sto) (p : Nat) (ice : List Bool) : S.strip p ice ≤ p := stripL_le _ _ _
theorem Sto.strip_run {S : Sto} (h6 : S.ships.length ≤ 6) {p : Nat} (hp : p < 64) (ice : List Bool) (win : List Gd) : S.run (S.strip p ice) ice win = S.run p ice win := by
  refine run_strip (fun j hj => ?_) win
  unfold Sto.strip
  rw [stripL_has (S.no ice) (by omega) _ _ hp fun a ha => (pilL_mem.1 ha).1]
  have e : decide (j ∈ pilL (p : Int)) = hasB p j := by
    rw [Bool.eq_iff_iff, decide_eq_true_eq, pilL_mem]
    exact ⟨fun h => h.2, fun h => ⟨by omega, h⟩⟩
  rw [e]
  unfold Sto.no
  cases hasB p j <;> simp
theorem Sto.strip_lack {S : Sto} (h6 : S.ships.length ≤ 6) {p : Nat} (hp : p < 64) (i n : Nat) : S.lackO (S.strip p (S.ices.getD i [])) i n = S.lackO p i n := by
  unfold Sto.lackO
  rw [S.strip_run h6 hp]
/-- What is lacking first, as the code keeps it. -/
def fltV (i n : Nat) : Option (Nat × Nat) → Value
  | none => .agg #[.bool false, .int .i64 0, .int .i64 0, .int .i64 0, .int .i64 0]
  | some (w, k) => .agg #[.bool true, .int .i64 (i : Int), .int .i64 (n : Int), .int .i64 (w : Int), .int .i64 (k : Int)]
def keyV (p i n : Nat) : Value := .agg #[.int .i64 (p : Int), .int .i64 (i : Int), .int .i64 (n : Int)]
theorem keyV_inj {p i n p' i' n' : Nat} (h : keyV p i n = keyV p' i' n') : p = p' ∧ i = i' ∧ n = n' := by
  unfold keyV at h
  simp at h
  omega
/-- Some blocks, as they are. -/
structure FI (n0 : Nat) (w : World) (fs : List (Nat × Array Value × TypeId)) (W : World) : Prop where
  bel : Below n0 w W
  fix : ∀ x ∈ fs, W.heap[x.1]? = some (.cells x.2.1 x.2.2 (0, 0))
theorem FI.own {n0 N : Nat} {w A B : World} {fs : List (Nat × Array Value × TypeId)} {row : Option Nat} (hN : n0 ≤ N) (h : FI n0 w fs A) (hA : n0 ≤ A.heap.size) (hg : A.grownBy B row) (hr : ∀ r, row = some r → N ≤ r ∧ ∃ o : Obj, A.heap[r]? = some o ∧ o.isCells = false) : FI n0 w fs B :=
  ⟨h.bel.grown hg hA (fun k e => by have := (hr k e).1; omega), fun x hx => by
    have hb := h.fix x hx
    refine (hg.block x.1 (Array.getElem?_eq_some_iff.1 hb).1 (fun e => ?_)).trans hb
    obtain ⟨_, o, h2, h3⟩ := hr x.1 e.symm
    rw [hb] at h2
    injection h2 with h2
    rw [← h2] at h3
    cases h3⟩
theorem FI.up {n0 : Nat} {w W W' : World} {fs : List (Nat × Array Value × TypeId)} (h : FI n0 w fs W) (hn : n0 ≤ W.heap.size) (hb : Below W.heap.size W W') : FI n0 w fs W' :=
  ⟨h.bel.trans (hb.mono hn), fun x hx => (hb.block _ (Array.getElem?_eq_some_iff.1 (h.fix x hx)).1).trans (h.fix x hx)⟩
theorem FI.put {n0 : Nat} {w W : World} {fs fs' : List (Nat × Array Value × TypeId)} {b k : Nat} {v : Value} {cs : Array Value} {t : TypeId} (h : FI n0 w fs W) (hb : (b, cs, t) ∈ fs) (hn : n0 ≤ b) (hf : ∀ x ∈ fs', x = (b, cs.setIfInBounds k v, t) ∨ (x ∈ fs ∧ x.1 ≠ b)) : FI n0 w fs' (W.setCell ⟨b, k, none⟩ v) :=
  ⟨h.bel.setCell (p := ⟨b, k, none⟩) hn v, fun x hx => by
    rcases hf x hx with rfl | ⟨hm, hne⟩
    · exact blk_set (h.fix _ hb) k v
    · exact (Below.heap_setCell _ _ _ _ hne).trans (h.fix x hm)⟩
theorem FI.cellsK {n0 : Nat} {w W W' : World} {fs : List (Nat × Array Value × TypeId)} {B : Nat} (h : FI n0 w fs W) (hB : n0 ≤ B) (hk : CellsK B W W') : FI n0 w fs W' :=
  ⟨h.bel.trans (hk.1.mono hB), fun x hx => hk.2 _ _ _ _ (h.fix x hx)⟩
/-- A store that is looked at: the box, and what was found. -/
abbrev lkC (X : SX) (M : Nat) : Array Value := #[.int .i64 X.S.st.a, .int .i64 X.S.st.b, .int .i64 X.S.st.c, .int .i64 X.S.yd.a, .int .i64 X.S.yd.b, .int .i64 X.S.yd.c, .int .i64 X.S.rate, .int .i64 X.S.weeks, .int .i64 X.S.land, .slice X.AS X.ns X.cs, .slice X.AI X.ni X.ci, .slice X.AW X.nw X.cw, .map (some M)]
def MemoOk (X : SX) (es : Array MapEntry) : Prop := ∀ e ∈ es.toList, ∃ p i n : Nat, (p < 64 ∧ i < 4 ∧ n < 4) ∧ e.key = keyV p i n ∧ e.val = fltV i n (X.S.lackO p i n)
structure LkAt (X : SX) (w0 : World) (B M : Nat) (w : World) : Prop where
  bel : Below w0.heap.size w0 w
  box : w.heap[B]? = some (.cells (lkC X M) 104 (0, 0))
  b0 : w0.heap.size ≤ B
  m0 : w0.heap.size ≤ M
  map : ∃ es clock, w.heap[M]? = some (.map es clock) ∧ MemoOk X es
theorem LkAt.up {X : SX} {w0 w w' : World} {B M : Nat} (h : LkAt X w0 B M w) (hb : Below w.heap.size w w') : LkAt X w0 B M w' := by
  obtain ⟨es, c, hm, ho⟩ := h.map
  exact ⟨h.bel.trans (hb.mono h.bel.size), (hb.block _ (heapsz h.box)).trans h.box, h.b0, h.m0, es, c, (hb.block _ (Array.getElem?_eq_some_iff.1 hm).1).trans hm, ho⟩
theorem LkAt.xin {X : SX} {w0 w : World} {B M : Nat} (h : LkAt X w0 B M w) (hX : X.In w0) : X.In w := hX.up h.bel
theorem lk_cells {X : SX} {w0 w : World} {B M : Nat} (h : LkAt X w0 B M w) : (w.cell? ⟨B, 0, none⟩ = some (.int .i64 X.S.st.a) ∧ w.cell? ⟨B, 1, none⟩ = some (.int .i64 X.S.st.b) ∧ w.cell? ⟨B, 2, none⟩ = some (.int .i64 X.S.st.c)) ∧ (w.cell? ⟨B, 3, none⟩ = some (.int .i64 X.S.yd.a) ∧ w.cell? ⟨B, 4, none⟩ = some (.int .i64 X.S.yd.b) ∧ w.cell? ⟨B, 5, none⟩ = some (.int .i64 X.S.yd.c)) ∧
    (w.cell? ⟨B, 6, none⟩ = some (.int .i64 X.S.rate) ∧ w.cell? ⟨B, 7, none⟩ = some (.int .i64 X.S.weeks) ∧ w.cell? ⟨B, 8, none⟩ = some (.int .i64 X.S.land)) ∧ w.cell? ⟨B, 9, none⟩ = some (.slice X.AS X.ns X.cs) ∧ w.cell? ⟨B, 10, none⟩ = some (.slice X.AI X.ni X.ci) ∧ w.cell? ⟨B, 11, none⟩ = some (.slice X.AW X.nw X.cw) ∧ w.cell? ⟨B, 12, none⟩ = some (.map (some M)) := by
  have c := fun k => cell_of_row w B k _ 104 (0, 0) h.box
  exact ⟨⟨c 0, c 1, c 2⟩, ⟨c 3, c 4, c 5⟩, ⟨c 6, c 7, c 8⟩, c 9, c 10, c 11, c 12⟩
set_option maxRecDepth 100000 in
set_option maxHeartbeats 1000000 in
theorem look_any {X : SX} {w : World} (h : X.In w) : Calls Tryd.prog 53 #[X.v] w fun e w' => ∃ B M, e = .returned (.pointer (some ⟨B, 0, none⟩)) ∧ LkAt X w B M w' := by
  rcases X with ⟨S, AS, ns, cs, AI, ni, ci, AW, nw, cw⟩
  have hmm := fun W : World => run_makeMap (P := Tryd.prog) 102 W
  obtain ⟨z0, hb0⟩ := sto_new ⟨S, AS, ns, cs, AI, ni, ci, AW, nw, cw⟩ w
  obtain ⟨⟨s0, s1, s2⟩, ⟨s3, s4, s5⟩, ⟨s6, s7, s8⟩, s9, s10, s11⟩ := sto_box z0
  simp only at s0 s1 s2 s3 s4 s5 s6 s7 s8 s9 s10 s11
  clear h
  have HB0 := Lib.hid hb0
  clear hb0 z0
  go_enter Tryd.func53, Tryd.ntmps53
  go_wp2_with fail
  go_ret
  obtain ⟨y0, y1, hb1⟩ := two_new (w.alloc (.cells (SX.cells ⟨S, AS, ns, cs, AI, ni, ci, AW, nw, cw⟩) 28)) (.map #[] 0) (.cells (lkC ⟨S, AS, ns, cs, AI, ni, ci, AW, nw, cw⟩ (w.heap.size + 1)) 104)
  have e1 : (w.alloc (.cells (SX.cells ⟨S, AS, ns, cs, AI, ni, ci, AW, nw, cw⟩) 28)).heap.size = w.heap.size + 1 := by simp
  rw [e1] at y0 y1 hb1
  exact ⟨_, w.heap.size + 1, rfl, HB0.out.trans (hb1.mono (by omega)), y1, by omega, by omega, #[], 0, y0, fun e he => by simp at he⟩
end Go.Proofs.YtijjkiogmlannaaDoor
