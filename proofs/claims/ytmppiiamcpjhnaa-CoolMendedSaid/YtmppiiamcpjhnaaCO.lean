/- Coolers: ranges over functions that write, and may be left. Coolers: a drawn statement in which one call waits for all before it; the sets of so many sites. Coolers: to choose sets: none is left to be chosen. Coolers: to choose sets: a site is chosen, then others. Coolers: all sets of so many coolers, one after the other. -/
import Derived.Test.YtmppiiamcpjhnaaCJ
namespace Go
open Go.RowKit
variable {F : Fence} {n : Nat} {P : Program}
theorem wpIn_rangeFunc_writesG {α : Type} {g : Operand} {ps : Array Tmp} {assign body : Code} {Q : Exit → Act → World → Prop} {a : Act} {w : World}
    (hro : F.round = none) (h1 : 1 ≤ n) {gf : Nat} {lb : Array Value} (hg : a.eval g = .func (.func gf) #[] lb) (hFg : F.fn gf) (eg : ∀ args w, (callFunc gf args).run P w = .ok (.enter gf args) w)
    {encs : α → Array Value} {Kp St : World → World → Prop} {S Sp : List α → Prop} {w0 : World} (hseq : SeqW F (n - 1) P gf lb encs Kp St S Sp w0)
    (hSt : ∀ A B, St A B → ∀ k o, w.heap.size ≤ k → A.heap[k]? = some o → o.isCells = false → B.heap[k]? = some o)
    (hKt : ∀ {A B C : World}, Kp A B → Kp B C → Kp A C) (hKb : ∀ (W : World) (l : Nat) (o o' : Obj), w.heap.size ≤ l → W.heap[l]? = some o → o.isCells = false → o.isWalk = false → Kp W (W.putObj l o')) (hb0 : Below w0.heap.size w0 w) (hps : ∀ x, (encs x).size = ps.size)
    (I : List α → World → Prop) (Ix : Code → List α → World → Prop) (hI : OwnFrom w.heap.size I) (hIx : ∀ c, OwnFrom w.heap.size (Ix c)) (hIS : ∀ s A B, I s A → St A B → I s B) (h0 : I [] w) (Ax : α → Act → World → Prop) (hAx : ∀ x a', OwnFrom w.heap.size (fun (_ : Unit) W => Ax x a' W))
    (hassign : ∀ (l : Nat) (pre : List α) (x : α) (W : World) (K : Act → World → Prop), I pre W → (∀ a' W', KeepsFrom w.heap.size W W' → Kp W W' → I pre W' → Ax x a' W' → K a' W') →
      assign.wpIn (F.inRound l) (n - 1 - 1) P (Exit.then K (fun _ _ _ => False)) { tmps := (ps.zip (encs x)).foldl (fun t (p, v) => t.setIfInBounds p v) a.tmps, defers := [] } W)
    (hbody : ∀ (l : Nat) (pre : List α) (x : α) (a' : Act) (W : World), I pre W → Ax x a' W → Sp (pre ++ [x]) → body.wpIn (F.inRound l) (n - 1 - 1) P (ownPostG w.heap.size Kp I Ix (pre ++ [x]) W) a' W)
    (hdone : ∀ (D : Nat) (xs : List α) (W : World), w.heap.size ≤ D → S xs → I xs W → W.heap[D]? = some (.deferred (some [])) → Q .normal { a with defers := { target := .collected D, args := #[] } :: a.defers } W)
    (hstop : ∀ (D : Nat) (c : Code) (pre : List α) (W : World), w.heap.size ≤ D → Sp pre → Ix c pre W → W.heap[D]? = some (.deferred (some [])) → c.wpIn F n P Q { a with defers := { target := .collected D, args := #[] } :: a.defers } W) :
    (Code.rangeFunc g ps assign body).wpIn F n P Q a w := by
  refine wpIn_rangeFunc fun fn hfn => ?_
  rw [hro]
  obtain ⟨R, hR⟩ : ∃ R : LoopState → Option Code → Loop, R = fun st pe => { state := st, pending := pe, fn, tmps := a.tmps, params := ps, assign, body, defers := w.heap.size } := ⟨_, rfl⟩
  obtain ⟨V, hV⟩ : ∃ V, (w.alloc (.deferred (some []))).alloc (.loop (R .ready none)) = V := ⟨_, rfl⟩
  have hLV : LoopLaid w.heap.size (R .ready none) V := by
    subst hV
    refine ⟨?_, (Below.heap_alloc _ _ _ (by simp)).trans (World.alloc_heap_new w _)⟩
    have := World.alloc_heap_new (w.alloc (.deferred (some []))) (.loop (R .ready none))
    rwa [World.size_alloc] at this
  have hIV : I [] V := by rw [← hV]; exact hI.alloc _ (hI.alloc _ h0)
  have hBV : Below w0.heap.size w0 V := by
    rw [← hV]
    exact hb0.trans ((((Below.refl _ w).alloc (Nat.le_refl _) _).alloc (by simp) _).mono hb0.size)
  refine ⟨w.heap.size + 1, [{ target := .collected w.heap.size, args := #[] }], V, { target := .fn (.func gf) lb, args := #[.func (.yield (w.heap.size + 1)) #[] #[]] }, V, gf,
    #[.func (.yield (w.heap.size + 1)) #[] #[]] ++ lb, V, ?_, ?_, ?_, ?_, fun _ => h1, ?_⟩
  · rw [← hV, hR]; exact run_enterLoop_outer _ _ _ _ _
  · simp only [resolve, hg]
    simp [go_sem]
  · intro f' hf'; simp [Target.leads] at hf'; subst hf'; exact hFg
  · simp [invoke, go_sem, eg]
  · refine (hseq (w.heap.size + 1) (fun pre W => I pre W ∧ LoopLaid w.heap.size (R .ready none) W) (fun pre W => ∃ c, Ix c pre W ∧ LoopLaid w.heap.size (R .done (some c)) W) V hBV
      (fun s A B h hs => ⟨hIS s A B h.1 hs, h.2.keep (hSt A B hs)⟩) ?_ ⟨hIV, hLV⟩).mono ?_
    · rintro pre x W ⟨hi, hl⟩ hlen
      have hy := run_yield (P := P) (args := encs x) hl.1 (by rw [hR]; exact hps x)
      rw [hR] at hy
      refine ⟨fn, _, assign, body, hy, roundIn_of_wpIn hfn (hassign _ pre x W _ hi fun a' Wa hka hkpa hia hax => ?_)⟩
      replace hl := hl.keep hka.same
      refine ⟨_, run_beginRound hl.1 (by rw [hR]), ?_⟩
      obtain ⟨RB, hRB⟩ : ∃ z, ({ R .ready none with state := .busy } : Loop) = z := ⟨_, rfl⟩
      have hlb := hl.put (r' := RB)
      have hkb : Kp Wa (Wa.putObj (w.heap.size + 1) (.loop RB)) := hKb _ _ _ _ (by omega) hl.1 rfl rfl
      rw [hRB]
      refine wpIn_mono (hbody _ pre x _ _ (hI.putObj _ hia (by omega) hl.1 rfl) ((hAx x a').putObj (s := ()) _ hax (by omega) hl.1 rfl) hlen) ?_
      have fin : ∀ (jump : Option Code) (W3 : World), KeepsFrom w.heap.size (Wa.putObj (w.heap.size + 1) (.loop RB)) W3 →
          (Instr.endRound (w.heap.size + 1) jump).run P W3 = .ok (.bool jump.isNone) (W3.putObj (w.heap.size + 1) (.loop (R (if jump.isNone then .ready else .done) jump))) ∧ LoopLaid w.heap.size RB W3 ∧
          LoopLaid w.heap.size (R (if jump.isNone then .ready else .done) jump) (W3.putObj (w.heap.size + 1) (.loop (R (if jump.isNone then .ready else .done) jump))) := fun jump W3 hk3 => by
        have h3 := hlb.keep fun k o hB => hk3.same k o hB
        refine ⟨?_, h3, h3.put⟩
        have := run_endRound (P := P) jump h3.1
        rw [← hRB, hR] at this
        rw [hR]
        exact this
      rintro e a3 W3 hp
      have leave : ∀ (c : Code), KeepsFrom w.heap.size (Wa.putObj (w.heap.size + 1) (.loop RB)) W3 → Ix c (pre ++ [x]) W3 → Ix c (pre ++ [x]) (W3.putObj (w.heap.size + 1) (.loop (R .done (some c)))) ∧ LoopLaid w.heap.size (R .done (some c)) (W3.putObj (w.heap.size + 1) (.loop (R .done (some c)))) := fun c hk hi3 => by
        obtain ⟨_, h3, h4⟩ := fin (some c) W3 hk
        exact ⟨(hIx c).putObj _ hi3 (by omega) h3.1 rfl, h4⟩
      cases e with
      | normal =>
        obtain ⟨hk3, hkp3, hi3⟩ := hp
        obtain ⟨hr, h3, h4⟩ := fin none W3 hk3
        exact ⟨_, _, hr, .inl ⟨rfl, ⟨hI.putObj _ hi3 (by omega) h3.1 rfl, h4⟩, hKt (hKt (hKt hkpa hkb) hkp3) (hKb _ _ _ _ (by omega) h3.1 rfl rfl)⟩⟩
      | ret => exact ⟨_, _, (fin (some .ret) W3 hp.1).1, .inr ⟨rfl, .ret, leave _ hp.1 hp.2⟩⟩
      | exit id => exact ⟨_, _, (fin (some (.exit id)) W3 hp.1).1, .inr ⟨rfl, .exit id, leave _ hp.1 hp.2⟩⟩
      | goto t => exact ⟨_, _, (fin (some (.goto t)) W3 hp.1).1, .inr ⟨rfl, .goto t, leave _ hp.1 hp.2⟩⟩
      | panic ch => exact hp.elim
      | outgrown => exact hp.elim
    · rintro e W2 ⟨⟨v, rfl⟩, (⟨xs, hS, hi, hl⟩ | ⟨pre, hSp, c, hi, hl⟩)⟩
      · refine ⟨none, _, by have := run_endLoop (P := P) hl.1 (by rw [hR]; simp); rw [hR] at this; exact this, ?_⟩
        exact hdone _ xs _ (Nat.le_refl _) hS (hI.putObj _ hi (by omega) hl.1 rfl) ((World.putObj_heap_other (by omega)).trans hl.2)
      · refine ⟨some c, _, by have := run_endLoop (P := P) hl.1 (by rw [hR]; simp); rw [hR] at this; exact this, ?_⟩
        exact hstop _ c pre _ (Nat.le_refl _) hSp ((hIx c).putObj _ hi (by omega) hl.1 rfl) ((World.putObj_heap_other (by omega)).trans hl.2)
end Go
/-! A range over an iterator that writes memory of its own; its rounds may write what lay ahead of it, and leave it. -/
namespace Go
open Go.RowKit
section
variable {P : Program} {n : Nat}
/-- Each operation before c is waited for by a later one, up to c; c has a place. -/
def succB (ops : Array Oper) (c : Nat) : Bool :=
  (List.range c).all fun i => (List.range (c + 1)).any fun j => decide (i < j) && (ops[j]?).any fun o => o.after.any fun e => Region.binds .any e && e.on == i
def ClosedD (ops : Array Oper) (done : Nat → Bool) : Prop := ∀ i o, ops[i]? = some o → done i = true → ∀ e ∈ o.after, Region.binds .any e = true → done e.on = true
theorem all_before {ops : Array Oper} {c : Nat} (h : succB ops c = true) {done : Nat → Bool} (hC : ClosedD ops done) (hc : ∀ o, ops[c]? = some o → ∀ e ∈ o.after, Region.binds .any e = true → done e.on = true) : ∀ n i, i < c → c - i ≤ n → done i = true
  | 0, i, hi, hn => by omega
  | n + 1, i, hi, hn => by
    have h1 := List.all_eq_true.1 h i (List.mem_range.2 hi)
    obtain ⟨j, hj, h2⟩ := List.any_eq_true.1 h1
    rw [Bool.and_eq_true, Option.any_eq_true] at h2
    obtain ⟨h3, o, ho, h4⟩ := h2
    obtain ⟨e, he, h5⟩ := Array.any_eq_true'.1 h4
    rw [Bool.and_eq_true] at h5
    have hon : e.on = i := by simpa using h5.2
    have hij : i < j := of_decide_eq_true h3
    have hjc : j ≤ c := by have := List.mem_range.1 hj; omega
    by_cases hjc2 : j = c
    · subst hjc2
      rw [← hon]
      exact hc o ho e he h5.1
    · rw [← hon]
      exact hC j o ho (all_before h hC hc n j (by omega) (by omega)) e he h5.1
theorem closed_upd {ops : Array Oper} {done : Nat → Bool} (hC : ClosedD ops done) {i : Nat} {o : Oper} (ho : ops[i]? = some o) (hdep : ∀ e ∈ o.after, Region.binds .any e = true → done e.on = true) : ClosedD ops (updB done i) := fun j p hp hj e he hb => by
  unfold updB at hj ⊢
  split
  · rfl
  · by_cases hji : j = i
    · subst hji
      rw [ho] at hp
      injection hp with hp
      subst hp
      exact hdep e he hb
    · rw [if_neg hji] at hj
      exact hC j p hp hj e he hb
/-- What a round keeps: all blocks from some one on. -/
structure KpN (n0 : Nat) (A B : World) : Prop where
  b0 : Below 0 A B
  same : ∀ k, n0 ≤ k → k < A.heap.size → B.heap[k]? = A.heap[k]?
theorem KpN.refl (n0 : Nat) (A : World) : KpN n0 A A := ⟨Below.refl _ _, fun _ _ _ => rfl⟩
theorem KpN.trans {n0 : Nat} {A B C : World} (h : KpN n0 A B) (k : KpN n0 B C) : KpN n0 A C :=
  ⟨h.b0.trans k.b0, fun i h1 h2 => (k.same i h1 (Nat.lt_of_lt_of_le h2 h.b0.size)).trans (h.same i h1 h2)⟩
theorem KpN.mono {n0 n1 : Nat} {A B : World} (h : KpN n0 A B) (hn : n0 ≤ n1) : KpN n1 A B := ⟨h.b0, fun i h1 h2 => h.same i (by omega) h2⟩
theorem KpN.of_below {n0 : Nat} {A B : World} (h : Below A.heap.size A B) : KpN n0 A B := ⟨h.mono (Nat.zero_le _), fun k _ hk => h.block k hk⟩
theorem KpN.put {n0 l : Nat} {A : World} (o : Obj) (hl : l < n0) : KpN n0 A (A.putObj l o) :=
  ⟨(Below.refl 0 A).grown (grownBy_putObj' A l o) (Nat.zero_le _) (fun _ _ => Nat.zero_le _), fun k hk _ => World.putObj_heap_other (by omega)⟩
/-- All below n0 stays, and all cells from N on. -/
structure StabX (n0 N : Nat) (A B : World) : Prop where
  bel : Below n0 A B
  cel : ∀ (b : Nat) (cs : Array Value) (t : TypeId) (z : Nat × Nat), N ≤ b → A.heap[b]? = some (.cells cs t z) → B.heap[b]? = some (.cells cs t z)
theorem StabX.of_below {n0 N : Nat} {A B : World} (h : Below A.heap.size A B) (hn : n0 ≤ A.heap.size) : StabX n0 N A B :=
  ⟨h.mono hn, fun _ _ _ _ _ hb => (h.block _ (Array.getElem?_eq_some_iff.1 hb).1).trans hb⟩
theorem StabX.trans {n0 N : Nat} {A B C : World} (h : StabX n0 N A B) (k : StabX n0 N B C) : StabX n0 N A C :=
  ⟨h.bel.trans k.bel, fun b cs t z hN hb => k.cel b cs t z hN (h.cel b cs t z hN hb)⟩
theorem StabX.mono {n0 n1 N : Nat} {A B : World} (h : StabX n0 N A B) (hn : n1 ≤ n0) : StabX n1 N A B := ⟨h.bel.mono hn, h.cel⟩
theorem StabX.put {n0 N l : Nat} {A : World} {o : Obj} (o' : Obj) (hl : n0 ≤ l) (h : A.heap[l]? = some o) (ho : o.isCells = false) (hn : n0 ≤ A.heap.size) : StabX n0 N A (A.putObj l o') :=
  ⟨(Below.refl n0 A).grown (grownBy_putObj' A l o') hn (fun k e => by cases e; exact hl), fun b cs t z _ hb => (World.putObj_heap_other (fun e => by
    subst e
    rw [h] at hb
    injection hb with hb
    subst hb
    simp [Obj.isCells] at ho)).trans hb⟩
theorem StabX.set {n0 N b k : Nat} {A : World} (v : Value) (hn : n0 ≤ b) (hN : b < N) : StabX n0 N A (A.setCell ⟨b, k, none⟩ v) :=
  ⟨(Below.refl n0 A).setCell (p := ⟨b, k, none⟩) hn v, fun j _ _ _ hj hb => (Below.heap_setCell _ _ _ _ (show j ≠ b by omega)).trans hb⟩
def SeqFS {α : Type} (n : Nat) (P : Program) (g : Nat) (lb : Array Value) (encs : α → Array Value) (Ok : Nat → α → World → Prop) (S Sp : List α → Prop) (w : World) : Prop :=
  ∀ (l : Nat) (J : List α → World → Prop) (Jx : Nat → List α → World → Prop) (W : World), Below w.heap.size w W → (∀ s A B, J s A → Below W.heap.size A B → J s B) → (∀ N s A B, Jx N s A → StabX W.heap.size N A B → Jx N s B) →
    (∀ N pre x W1, N ≤ W1.heap.size → Ok N x W1 → J pre W1 → YieldAt Fence.wide (n - 1) P l (encs x) W1 fun e W' => KpN W.heap.size W1 W' ∧ ((e = .returned (.bool true) ∧ J (pre ++ [x]) W') ∨ (e = .returned (.bool false) ∧ Jx N (pre ++ [x]) W'))) →
    J [] W → CallsIn Fence.wide n P g (#[.func (.yield l) #[] #[]] ++ lb) W fun e W' => (∃ v, e = .returned v) ∧ ((∃ xs, S xs ∧ J xs W') ∨ (∃ N pre, Sp pre ∧ Jx N pre W'))
def postFS {α : Type} (B N : Nat) (I : List α → World → Prop) (Ix : Nat → Code → List α → World → Prop) (xs : List α) (W : World) : Exit → Act → World → Prop
  | .normal, _, W' => KeepsFrom B W W' ∧ KpN (B + 1 + 1) W W' ∧ I xs W'
  | .ret, _, W' => KeepsFrom B W W' ∧ KpN (B + 1 + 1) W W' ∧ Ix N .ret xs W'
  | .exit id, _, W' => KeepsFrom B W W' ∧ KpN (B + 1 + 1) W W' ∧ Ix N (.exit id) xs W'
  | _, _, _ => False
theorem below_put {N : Nat} {W : World} {l : Nat} {o : Obj} (o' : Obj) (hl : N ≤ l) (_h : W.heap[l]? = some o) (hN : N ≤ W.heap.size) : Below N W (W.putObj l o') :=
  (Below.refl N W).grown (grownBy_putObj' W l o') hN (fun k e => by cases e; exact hl)
theorem wpIn_range_freeS {α : Type} {g : Operand} {ps : Array Tmp} {assign body : Code} {Q : Exit → Act → World → Prop} {a : Act} {w : World}
    (h1 : 1 ≤ n) {gf : Nat} {lb : Array Value} (hg : a.eval g = .func (.func gf) #[] lb) (eg : ∀ args w, (callFunc gf args).run P w = .ok (.enter gf args) w)
    {encs : α → Array Value} {Ok : Nat → α → World → Prop} {S Sp : List α → Prop} (hseq : SeqFS (n - 1) P gf lb encs Ok S Sp w) (hOk : ∀ N x A l o o', Ok N x A → A.heap[l]? = some o → o.isCells = false → Ok N x (A.putObj l o')) (hps : ∀ x, (encs x).size = ps.size)
    (I : List α → World → Prop) (Ix : Nat → Code → List α → World → Prop) (hI : ∀ s A B, I s A → w.heap.size ≤ A.heap.size → Below w.heap.size A B → I s B) (hIx : ∀ N c s A B, Ix N c s A → w.heap.size ≤ A.heap.size → StabX w.heap.size N A B → Ix N c s B) (h0 : I [] w) (a₁ : α → Act)
    (hassign : ∀ (l : Nat) (x : α) (W : World) (K : Act → World → Prop), K (a₁ x) W →
      assign.wpIn (Fence.wide.inRound l) (n - 1 - 1) P (Exit.then K (fun _ _ _ => False)) { tmps := (ps.zip (encs x)).foldl (fun t (p, v) => t.setIfInBounds p v) a.tmps, defers := [] } W)
    (hbody : ∀ (l N : Nat) (pre : List α) (x : α) (W : World), w.heap.size ≤ W.heap.size → N ≤ W.heap.size → Ok N x W → I pre W → body.wpIn (Fence.wide.inRound l) (n - 1 - 1) P (postFS w.heap.size N I Ix (pre ++ [x]) W) (a₁ x) W)
    (hdone : ∀ (D : Nat) (xs : List α) (W : World), w.heap.size ≤ D → S xs → I xs W → W.heap[D]? = some (.deferred (some [])) → Q .normal { a with defers := { target := .collected D, args := #[] } :: a.defers } W)
    (hstop : ∀ (D N : Nat) (c : Code) (pre : List α) (W : World), w.heap.size ≤ D → Sp pre → Ix N c pre W → W.heap[D]? = some (.deferred (some [])) → c.wpIn Fence.wide n P Q { a with defers := { target := .collected D, args := #[] } :: a.defers } W) :
    (Code.rangeFunc g ps assign body).wpIn Fence.wide n P Q a w := by
  refine wpIn_rangeFunc ?_
  intro fn hfn
  obtain ⟨rec, hrec⟩ : ∃ rec : LoopState → Option Code → Loop, rec = fun st pe => { state := st, pending := pe, fn, tmps := a.tmps, params := ps, assign, body, defers := w.heap.size } := ⟨_, rfl⟩
  obtain ⟨W1, hW1⟩ : ∃ W1, (w.alloc (.deferred (some []))).alloc (.loop (rec .ready none)) = W1 := ⟨_, rfl⟩
  have hs1 : W1.heap.size = w.heap.size + 1 + 1 := by rw [← hW1]; simp
  have hL1 : W1.heap[w.heap.size + 1]? = some (.loop (rec .ready none)) := by
    rw [← hW1]; have := World.alloc_heap_new (w.alloc (.deferred (some []))) (.loop (rec .ready none)); rwa [World.size_alloc] at this
  have hK1 : W1.heap[w.heap.size]? = some (.deferred (some [])) := by
    rw [← hW1]; exact (Below.heap_alloc _ _ _ (by simp)).trans (World.alloc_heap_new w _)
  have hb1 : Below w.heap.size w W1 := by
    rw [← hW1]; exact ((Below.refl _ w).alloc (Nat.le_refl _) _).alloc (by simp) _
  refine ⟨w.heap.size + 1, [{ target := .collected w.heap.size, args := #[] }], W1, { target := .fn (.func gf) lb, args := #[.func (.yield (w.heap.size + 1)) #[] #[]] }, W1, gf,
    #[.func (.yield (w.heap.size + 1)) #[] #[]] ++ lb, W1, ?_, ?_, ?_, ?_, fun _ => h1, ?_⟩
  · rw [← hW1, hrec]; exact run_enterLoop_outer _ _ _ _ _
  · simp only [resolve, hg]
    simp [go_sem]
  · intro f' hf'; simp [Target.leads] at hf'; subst hf'; trivial
  · simp [invoke, go_sem, eg]
  · refine (hseq (w.heap.size + 1)
      (fun pre W => I pre W ∧ w.heap.size + 1 + 1 ≤ W.heap.size ∧ W.heap[w.heap.size + 1]? = some (.loop (rec .ready none)) ∧ W.heap[w.heap.size]? = some (.deferred (some [])))
      (fun N pre W => ∃ c, Ix N c pre W ∧ w.heap.size + 1 + 1 ≤ W.heap.size ∧ W.heap[w.heap.size + 1]? = some (.loop (rec .done (some c))) ∧ W.heap[w.heap.size]? = some (.deferred (some [])))
      W1 hb1
      (fun s A B hs hb => ⟨hI s A B hs.1 (by omega) (hb.mono (by omega)), by have := hb.size; omega, (hb.block _ (by omega)).trans hs.2.2.1, (hb.block _ (by omega)).trans hs.2.2.2⟩)
      (fun N s A B ⟨c, hs⟩ hb => ⟨c, hIx N c s A B hs.1 (by omega) (hb.mono (by omega)), by have := hb.bel.size; omega, (hb.bel.block _ (by omega)).trans hs.2.2.1, (hb.bel.block _ (by omega)).trans hs.2.2.2⟩)
      ?_ ⟨hI [] w W1 h0 (Nat.le_refl _) hb1, by omega, hL1, hK1⟩).mono ?_
    · rintro N pre x W hNW hok ⟨hi, hsz, hl, hk⟩
      have hy := run_yield (P := P) (args := encs x) hl (by rw [hrec]; exact hps x)
      rw [hrec] at hy
      refine ⟨fn, _, assign, body, hy, roundIn_of_wpIn hfn (hassign _ x W _ ⟨_, run_beginRound hl (by rw [hrec]), ?_⟩)⟩
      have hb2 := below_put (N := w.heap.size) (.loop { rec .ready none with state := .busy }) (by omega : w.heap.size ≤ w.heap.size + 1) hl (by omega)
      have hl2 : (W.putObj (w.heap.size + 1) (.loop { rec .ready none with state := .busy })).heap[w.heap.size + 1]? = some (.loop { rec .ready none with state := .busy }) := World.putObj_heap_same (by omega)
      have hk2 : (W.putObj (w.heap.size + 1) (.loop { rec .ready none with state := .busy })).heap[w.heap.size]? = some (.deferred (some [])) := (World.putObj_heap_other (by omega)).trans hk
      have hp2 : KpN W1.heap.size W (W.putObj (w.heap.size + 1) (.loop { rec .ready none with state := .busy })) := KpN.put _ (by omega)
      refine wpIn_mono (hbody _ N pre x _ (Nat.le_trans (by omega) hb2.size) (Nat.le_trans hNW hb2.size) (hOk _ _ _ _ _ _ hok hl rfl) (hI _ _ _ hi (by omega) hb2)) ?_
      rintro e a3 W3 hp
      have leave : ∀ c, KeepsFrom w.heap.size (W.putObj (w.heap.size + 1) (.loop { rec .ready none with state := .busy })) W3 → KpN (w.heap.size + 1 + 1) (W.putObj (w.heap.size + 1) (.loop { rec .ready none with state := .busy })) W3 → Ix N c (pre ++ [x]) W3 →
          KpN W1.heap.size W (W3.putObj (w.heap.size + 1) (.loop (rec .done (some c)))) ∧ (Instr.endRound (w.heap.size + 1) (some c)).run P W3 = .ok (.bool false) (W3.putObj (w.heap.size + 1) (.loop (rec .done (some c)))) ∧
          (Ix N c (pre ++ [x]) (W3.putObj (w.heap.size + 1) (.loop (rec .done (some c)))) ∧ w.heap.size + 1 + 1 ≤ (W3.putObj (w.heap.size + 1) (.loop (rec .done (some c)))).heap.size ∧ (W3.putObj (w.heap.size + 1) (.loop (rec .done (some c)))).heap[w.heap.size + 1]? = some (.loop (rec .done (some c))) ∧ (W3.putObj (w.heap.size + 1) (.loop (rec .done (some c)))).heap[w.heap.size]? = some (.deferred (some []))) := fun c hk3 hkp3 hix => by
        have hl3 := hk3.same _ _ (Nat.le_succ _) hl2 rfl
        have hsz3 : w.heap.size + 1 + 1 ≤ W3.heap.size := Nat.le_trans (Nat.le_trans hsz hb2.size) hk3.size
        have hb3 := below_put (N := w.heap.size) (.loop (rec .done (some c))) (by omega : w.heap.size ≤ w.heap.size + 1) hl3 (by omega)
        have hr := run_endRound (P := P) (some c) hl3
        rw [hrec] at hr
        refine ⟨(hp2.trans (hkp3.mono (by omega))).trans (KpN.put _ (by omega)), by rw [hrec]; exact hr, hIx _ _ _ _ _ hix (by omega) (StabX.put _ (by omega) hl3 rfl (by omega)), Nat.le_trans hsz3 hb3.size, World.putObj_heap_same (by omega), (World.putObj_heap_other (by omega)).trans (hk3.same _ _ (Nat.le_refl _) hk2 rfl)⟩
      cases e with
      | normal =>
        obtain ⟨hk3, hkp3, hi3⟩ := hp
        have hl3 := hk3.same _ _ (Nat.le_succ _) hl2 rfl
        have hsz3 : w.heap.size + 1 + 1 ≤ W3.heap.size := Nat.le_trans (Nat.le_trans hsz hb2.size) hk3.size
        have hr := run_endRound (P := P) none hl3
        have hb3 := below_put (N := w.heap.size) (.loop (rec .ready none)) (by omega : w.heap.size ≤ w.heap.size + 1) hl3 (by omega)
        rw [hrec] at hr
        refine ⟨_, W3.putObj (w.heap.size + 1) (.loop (rec .ready none)), by rw [hrec]; exact hr, (hp2.trans (hkp3.mono (by omega))).trans (KpN.put _ (by omega)), .inl ⟨rfl, hI _ _ _ hi3 (by omega) hb3, Nat.le_trans hsz3 hb3.size, World.putObj_heap_same (by omega), (World.putObj_heap_other (by omega)).trans (hk3.same _ _ (Nat.le_refl _) hk2 rfl)⟩⟩
      | ret =>
        obtain ⟨e1, e2, e3⟩ := leave .ret hp.1 hp.2.1 hp.2.2
        exact ⟨_, _, e2, e1, .inr ⟨rfl, _, e3⟩⟩
      | exit id =>
        obtain ⟨e1, e2, e3⟩ := leave (.exit id) hp.1 hp.2.1 hp.2.2
        exact ⟨_, _, e2, e1, .inr ⟨rfl, _, e3⟩⟩
      | _ => exact hp.elim
    · rintro e W2 ⟨⟨v, rfl⟩, (⟨xs, hS, hi, hsz, hl, hk⟩ | ⟨N, pre, hSp, c, hi, hsz, hl, hk⟩)⟩
      · have hb3 := below_put (N := w.heap.size) (.loop (rec .done none)) (by omega : w.heap.size ≤ w.heap.size + 1) hl (by omega)
        refine ⟨none, _, by have := run_endLoop (P := P) hl (by rw [hrec]; simp); rw [hrec] at this; exact this, hdone _ xs _ (Nat.le_refl _) hS (hI _ _ _ hi (by omega) ?_) ((World.putObj_heap_other (by omega)).trans hk)⟩
        exact below_put (N := w.heap.size) _ (by omega : w.heap.size ≤ w.heap.size + 1) hl (by omega)
      · refine ⟨some c, _, by have := run_endLoop (P := P) hl (by rw [hrec]; simp); rw [hrec] at this; exact this, ?_⟩
        exact hstop _ N c pre _ (Nat.le_refl _) hSp (hIx _ _ _ _ _ hi (by omega) (StabX.put _ (by omega) hl rfl (by omega))) ((World.putObj_heap_other (by omega)).trans hk)
end
end Go
namespace Go.Proofs.Ytmppiiamcpjhnaa
open Go.RowKit Go.Shelf
attribute [local go_sem] Oper.semAt_some

theorem sit_pre {s : Int} {k : Nat} (hk : k < 10) (hj : jackB s k = true) : ∃ rest, sitL s = (List.range k).filter (fun k => jackB s k) ++ k :: rest := by
  obtain ⟨d, hd⟩ : ∃ d, 10 = (k + 1) + d := ⟨10 - (k + 1), by omega⟩
  refine ⟨((List.range d).map (k + 1 + ·)).filter fun k => jackB s k, ?_⟩
  show (List.range 10).filter (fun k => jackB s k) = _
  rw [hd, List.range_add, List.filter_append, sit_take, if_pos hj]
  simp
set_option maxRecDepth 100000 in
set_option maxHeartbeats 2000000 in
theorem sit1_inP (n : Nat) (hn : 1 ≤ n) (l Bn n₀ : Nat) (s : Int) (J Jx : List (PX s) → World → Prop)
    (hY : ∀ pre x W, J pre W → (∃ rest, sitL s = pre.map Subtype.val ++ x.1 :: rest) → YieldAt Fence.wide (n - 1) Try.prog l #[.int .i64 (x.1 : Int)] W fun e W' =>
      (e = .returned (.bool true) ∧ J (pre ++ [x]) W' ∧ KpB n₀ Bn W W') ∨ (e = .returned (.bool false) ∧ Jx (pre ++ [x]) W'))
    (W : World) (c0 : W.cell? ⟨Bn, 0, none⟩ = some (.int .i64 s)) (h0 : J [] W) :
    CallsIn Fence.wide n Try.prog 101 #[.func (.yield l) #[] #[], .pointer (some ⟨Bn, 0, none⟩)] W fun e W' => (∃ v, e = .returned v) ∧
      ((∃ ys, ys.map Subtype.val = sitL s ∧ J ys W') ∨ (∃ pre, True ∧ Jx pre W')) := by
  have C0 := Lib.hid c0
  refine callsIn_of_wp Try.func101 rfl trivial ?_ rfl
  simp only [Try.ntmps101, List.size_toArray, List.length_cons, List.length_nil, Nat.reduceAdd, Nat.reduceSub, Array.replicate_succ, Array.replicate_zero, List.push_toArray, List.append_toArray, List.nil_append, List.cons_append]
  gi_wp2
  gi_loopw [4] (fun i wr => ∃ (k : Nat) (pre : List (PX s)), k ≤ 10 ∧ i = .int .i64 k ∧ pre.map Subtype.val = (List.range k).filter (fun k => jackB s k) ∧ J pre wr ∧ wr.cell? ⟨Bn, 0, none⟩ = some (.int .i64 s)) (fun i _ => 10 - (intOf i).toNat)
  case atStart => exact ⟨0, [], by omega, rfl, by simp, h0, C0.out⟩
  case round =>
    clear c0
    obtain ⟨k, pre, hk, rfl, hpre, hJs, c0⟩ := hrel
    have HP := Lib.hid hpre; clear hpre
    by_cases hlt : k < 10
    · have hk1 : (k : Int) < 10 := by omega
      have hb := and_one (s / 2 ^ k)
      have hkk0 : (0 : Int) ≤ (k : Int) := by omega
      have hkk1 : (k : Int) ≤ 64 := by omega
      have hjb : jackB s k = decide (s / 2 ^ k % 2 = 1) := by unfold jackB; rw [half_pow]
      cases hj : jackB s k with
      | false =>
        have HJ := Lib.hid hj
        rw [hjb] at hj
        have hz : s / 2 ^ k % 2 = 0 := by have := of_decide_eq_false hj; omega
        rw [hz] at hb
        clear hj hjb hz
        gi_wp2
        refine ⟨fun _ _ => trivial, ?_⟩
        gi_wp2
        go_roundw
        case rel => exact ⟨k + 1, pre, by omega, by go_num, by rw [sit_take, HJ.out, HP.out]; simp, hJs, c0⟩
        case measure => simp [intOf]; omega
      | true =>
        have HJ := Lib.hid hj
        rw [hjb] at hj
        rw [of_decide_eq_true hj] at hb
        clear hj hjb
        have hj := HJ.out
        obtain ⟨fn, tmps, assign, body, hy, hR⟩ := hY pre ⟨k, hlt, hj⟩ _ hJs (by rw [HP.out]; exact sit_pre hlt hj)
        dsimp only at hy
        gi_wp2
        refine hR.mono ?_
        rintro e W3 h4
        obtain ⟨bv, rfl, h3⟩ := two h4
        clear h4 hy
        have hmap : (pre ++ [(⟨k, hlt, hj⟩ : PX s)]).map Subtype.val = (List.range (k + 1)).filter (fun k => jackB s k) := by
          rw [List.map_append, HP.out, sit_take, if_pos HJ.out]
          rfl
        have HB := Lib.hid hmap
        clear hmap
        rcases h3 with ⟨rfl, hJ3, hk3⟩ | ⟨rfl, hJx3⟩
        · have hcB : W3.cell? ⟨Bn, 0, none⟩ = some (.int .i64 s) := hk3.2.trans c0
          have HcB := Lib.hid hcB
          clear hcB hk3
          gi_wp2
          go_roundw
          case rel => exact ⟨k + 1, _, by omega, by go_num, HB.out, hJ3, HcB.out⟩
          case measure => simp [intOf]; omega
        · gi_wp2
          refine bodyPost_ret (results_none rfl _ _ _) rfl ?_
          exact ⟨⟨_, rfl⟩, .inr ⟨_, trivial, hJx3⟩⟩
    · have hk1 : ¬ (k : Int) < 10 := by omega
      have hk6 : k = 10 := by omega
      subst hk6
      gi_wp2
      go_end0
      exact ⟨⟨_, rfl⟩, .inl ⟨_, HP.out, hJs⟩⟩
theorem sit_seqP (n : Nat) (hn : 1 ≤ n) (Bn n₀ : Nat) (s : Int) (w : World) (hBn : Bn < w.heap.size) (c0 : w.cell? ⟨Bn, 0, none⟩ = some (.int .i64 s)) :
    SeqW Fence.wide n Try.prog 101 #[.pointer (some ⟨Bn, 0, none⟩)] (fun x : PX s => #[.int .i64 (x.1 : Int)]) (KpB n₀ Bn) (fun A B => A = B) (fun ys => ys.map Subtype.val = sitL s) (fun l => ∃ pre x rest, l = pre ++ [x] ∧ sitL s = pre.map Subtype.val ++ x.1 :: rest) w := fun l J Jx W hW _ hY h0 => by
  obtain ⟨r1, _⟩ := bcell hW
  refine (sit1_inP n hn l Bn n₀ s J (fun p W => (∃ pre x rest, p = pre ++ [x] ∧ sitL s = pre.map Subtype.val ++ x.1 :: rest) ∧ Jx p W) (fun pre x W hJ hr => ?_) W ((r1 _ _ hBn).trans c0) h0).mono ?_
  · obtain ⟨rest, hr⟩ := hr
    refine (hY pre x W hJ ⟨pre, x, rest, rfl, hr⟩).mono ?_
    rintro e W' (h | h)
    · exact .inl h
    · exact .inr ⟨h.1, ⟨pre, x, rest, rfl, hr⟩, h.2⟩
  · rintro e W' ⟨h1, h2 | ⟨pre, _, h3, h4⟩⟩
    · exact ⟨h1, .inl h2⟩
    · exact ⟨h1, .inr ⟨pre, h3, h4⟩⟩
end Go.Proofs.Ytmppiiamcpjhnaa

namespace Go
open Go.RowKit
section
variable {P : Program}
/-- Each operation behind c waits for one from c on. -/
def tailC (ops : Array Oper) (c : Nat) : Bool := (List.range ops.size).all fun i => decide (i ≤ c) || (ops[i]?).any fun o => o.after.any fun e => Region.binds .any e && decide (c ≤ e.on) && decide (e.on < i)
theorem done_c {ops : Array Oper} {c : Nat} (h : tailC ops c = true) {done : Nat → Bool} (hC : ClosedD ops done) : ∀ i o, c < i → ops[i]? = some o → (∀ e ∈ o.after, Region.binds .any e = true → done e.on = true) → done c = true := by
  intro i
  induction i using Nat.strongRecOn with
  | ind i ih =>
    intro o hi ho hdep
    have h1 := List.all_eq_true.1 h i (List.mem_range.2 (Array.getElem?_eq_some_iff.1 ho).1)
    rw [Bool.or_eq_true, ho] at h1
    rcases h1 with h1 | h1
    · have := of_decide_eq_true h1; omega
    · rw [Option.any_some] at h1
      obtain ⟨e, he, h2⟩ := Array.any_eq_true'.1 h1
      rw [Bool.and_eq_true, Bool.and_eq_true] at h2
      have h3 : c ≤ e.on := of_decide_eq_true h2.1.2
      have h4 : e.on < i := of_decide_eq_true h2.2
      have hd := hdep e he h2.1.1
      by_cases hec : e.on = c
      · rw [← hec]; exact hd
      · cases hp : ops[e.on]? with
        | none => exact absurd (Array.getElem?_eq_none_iff.1 hp) (by have := (Array.getElem?_eq_some_iff.1 ho).1; omega)
        | some p => exact ih e.on h4 p (by omega) hp (fun e' he' hb' => hC e.on p hp hd e' he' hb')
theorem Yield.mono {R R' : Value → World → Prop} {r : Result Next} (h : Yield P R r) (k : ∀ v w', R v w' → R' v w') : Yield P R' r := by
  cases r with
  | ok n w' =>
    cases n with
    | value v => exact k _ _ h
    | skip => exact k _ _ h
    | enter f args => exact Calls.mono h (by rintro e w2 ⟨v, rfl, hv⟩; exact ⟨v, rfl, k _ _ hv⟩)
    | _ => exact h
  | _ => exact h
structure OnceS {γ : Type} (ops : Array Oper) (c : Nat) (B : (Nat → Bool) → γ → World → Prop) (R : γ → World → Prop) (done : Nat → Bool) (g : γ) (u : World) : Prop where
  clo : ClosedD ops done
  bef : done c = false → B done g u
  aft : done c = true → R g u
theorem plan_once_any {γ : Type} {ops : Array Oper} {Q : Exit → Act → World → Prop} {a0 : Act} {w : World} (c : Nat) (outs : List Tmp) (ρ : γ → Tmp → Value) (B : (Nat → Bool) → γ → World → Prop) (R : γ → World → Prop) (g0 : γ)
    (hE : earlyB ops = true) (hN : Region.noSelect ops = true) (hD : planGB ops a0.tmps.size outs = true) (hU : outs.all (fun t => (whoPuts ops t).isNone) = true) (hS : succB ops c = true) (hT : tailC ops c = true) (hcs : c < ops.size) (hout : ∀ t ∈ outs, a0.eval (.tmp t) = ρ g0 t)
    (h0 : B (fun _ => false) g0 { w with drawn := w.drawn + 1 })
    (hs : ∀ i o, ops[i]? = some o →
      (i < c → ∀ done g u, B done g u → done i = false → (∀ e ∈ o.after, Region.binds .any e = true → done e.on = true) → Region.wanted o (yieldedBy ops (ρ g)) = true ∧ Yield P (fun v w' => ∃ g', B (updB done i) g' w' ∧ (∀ d, o.dst = some d → ρ g' d = v) ∧ ∀ t, o.dst ≠ some t → ρ g' t = ρ g t) ((execOp (evalBy (ρ g)) o).run P u)) ∧
      (i = c → ∀ done g u, B done g u → (∀ j, j < c → done j = true) → Region.wanted o (yieldedBy ops (ρ g)) = true ∧ Yield P (fun v w' => ∃ g', R g' w' ∧ (∀ d, o.dst = some d → ρ g' d = v) ∧ ∀ t, o.dst ≠ some t → ρ g' t = ρ g t) ((execOp (evalBy (ρ g)) o).run P u)) ∧
      (c < i → ∀ g u, R g u → Region.wanted o (yieldedBy ops (ρ g)) = true ∧ Yield P (fun v w' => ∃ g', R g' w' ∧ (∀ d, o.dst = some d → ρ g' d = v) ∧ ∀ t, o.dst ≠ some t → ρ g' t = ρ g t) ((execOp (evalBy (ρ g)) o).run P u)))
    (he : ∀ g u, R g u → Q .normal (putAll (ρ g) ops.toList a0) u) : wpAny P .any ops Q ops.size (Array.replicate ops.size false) a0 { w with drawn := w.drawn + 1 } := by
  refine plan_guarded_any outs ρ (OnceS ops c B R) g0 hE hN hD hU hout ?_ ?_ ?_
  · exact ⟨fun i o _ h => by simp at h, fun _ => h0, fun h => by simp at h⟩
  · intro i o ho done g u hS' hu hdep _
    have hclo := closed_upd hS'.clo ho hdep
    have hsame (hne : i ≠ c) : updB done i c = done c := by simp [updB, Ne.symm hne]
    rcases Nat.lt_trichotomy i c with hlt | heq | hgt
    · have hdc : done c = false := by
        cases hq : done c with
        | false => rfl
        | true =>
          have := all_before hS hS'.clo (fun p hp e he hb => hS'.clo c p hp hq e he hb) (c - i) i hlt (Nat.le_refl _)
          rw [hu] at this
          cases this
      obtain ⟨h1, h2⟩ := (hs i o ho).1 hlt done g u (hS'.bef hdc) hu hdep
      refine ⟨h1, Yield.mono h2 ?_⟩
      rintro v w' ⟨g', hb, hv⟩
      exact ⟨g', ⟨hclo, fun _ => hb, fun h => by rw [hsame (by omega), hdc] at h; cases h⟩, hv⟩
    · subst heq
      have hall : ∀ j, j < i → done j = true := fun j hj => all_before hS hS'.clo (fun p hp => by rw [ho] at hp; injection hp with hp; subst hp; exact hdep) (i - j) j hj (Nat.le_refl _)
      obtain ⟨h1, h2⟩ := (hs i o ho).2.1 rfl done g u (hS'.bef hu) hall
      refine ⟨h1, Yield.mono h2 ?_⟩
      rintro v w' ⟨g', hb, hv⟩
      exact ⟨g', ⟨hclo, fun h => by simp [updB] at h, fun _ => hb⟩, hv⟩
    · cases hdc : done c with
      | false => rw [done_c hT hS'.clo i o hgt ho hdep] at hdc; cases hdc
      | true =>
        obtain ⟨h1, h2⟩ := (hs i o ho).2.2 hgt g u (hS'.aft hdc)
        refine ⟨h1, Yield.mono h2 ?_⟩
        rintro v w' ⟨g', hb, hv⟩
        exact ⟨g', ⟨hclo, fun h => (by rw [hsame (by omega), hdc] at h; cases h), fun _ => hb⟩, hv⟩
  · intro g u hS'
    exact he g u (hS'.aft (by simp [hcs]))
end
end Go
namespace Go.Proofs.Ytmppiiamcpjhnaa
open Go.RowKit Go.Shelf

/-! ### All sets of so many sites -/
def aboveS (r x : Nat) : Nat := (r >>> (x + 1)) <<< (x + 1)
theorem above_bit (r x j : Nat) : (aboveS r x).testBit j = (r.testBit j && decide (x < j)) := by
  unfold aboveS
  rw [Nat.testBit_shiftLeft, Nat.testBit_shiftRight]
  by_cases h : x < j
  · have h1 : x + 1 ≤ j := h
    simp only [h1, decide_true, Bool.true_and, h, Bool.and_true]
    rw [show x + 1 + (j - (x + 1)) = j by omega]
  · have h1 : ¬ x + 1 ≤ j := h
    simp [h1, h]
def setsI : Nat → Nat → Nat → List Nat
  | 0, ch, _ => [ch]
  | m + 1, ch, r => (sitL (r : Int)).flatMap fun x => setsI m (ch ||| 2 ^ x) (aboveS r x)
theorem lt_of_bits {s n : Nat} (h : ∀ i, s.testBit i = true → i < n) : s < 2 ^ n := Nat.lt_pow_two_of_testBit _ fun i hi => by
  cases hq : s.testBit i with
  | false => rfl
  | true => have := h i hq; omega
theorem set_one (x : Nat) : setL [x] = 2 ^ x := by
  unfold setL
  simp
/-- What is left of the sites, when those up to one are gone through. -/
theorem rest_above {r R x : Nat} {pre rest : List Nat} (hR : ∀ j, R.testBit j = (r.testBit j && !decide (j ∈ pre))) (hr : r < 2 ^ 10) (hs : sitL (r : Int) = pre ++ x :: rest) : dropS R (2 ^ x) = aboveS r x := by
  have hR10 : R < 2 ^ 10 := lt_of_bits fun i hi => by
    rw [hR] at hi
    exact testBit_lt hr ((Bool.and_eq_true _ _ ▸ hi : _ ∧ _).1)
  have hsort : (sitL (r : Int)).Pairwise (· < ·) := List.Pairwise.filter _ List.pairwise_lt_range
  have hx10 : x < 10 := (sit_10 (by rw [hs]; simp : x ∈ sitL (r : Int))).1
  have hp : 2 ^ x < 2 ^ 64 := Nat.pow_lt_pow_right (by decide) (by omega)
  refine Nat.eq_of_testBit_eq fun j => ?_
  rw [dropS_bit hp (by omega), hR, above_bit, Nat.testBit_two_pow]
  cases hj : r.testBit j with
  | false => simp
  | true =>
    have hjm : j ∈ sitL (r : Int) := mem_sit.2 ⟨testBit_lt hr hj, hj⟩
    rw [hs] at hjm hsort
    obtain ⟨_, h2, h3⟩ := List.pairwise_append.1 hsort
    obtain ⟨h4, _⟩ := List.pairwise_cons.1 h2
    rcases List.mem_append.1 hjm with h | h
    · have := h3 j h x (by simp)
      simp [h]
      omega
    · have hnp : ¬ j ∈ pre := fun hm => by
        have := h3 j hm j h
        omega
      rcases List.mem_cons.1 h with rfl | h
      · simp [hnp]
      · have := h4 j h
        have hne : ¬ x = j := by omega
        simp [hnp, hne, this]
theorem buildV {w0 u : World} {P : Value → World → Prop} {i i2 : Nat} {done : Nat → Bool} {g : Value × Value} {ops : Array Oper} {cv : Value × Value → Tmp → Value} {o : Oper} (hP : ∀ v A B, P v A → Below A.heap.size A B → P v B) (h : OneV w0 P i i2 done g u) (hne : i ≠ i2) (d : Tmp) (hd : o.dst = some d) (hg : Region.wanted o (yieldedBy ops (cv g)) = true)
    (v : Value) (ob : Obj) (he : (execOp (evalBy (cv g)) o).run Try.prog u = .ok (.value v) (u.alloc ob)) (hv : P v (u.alloc ob)) (hcd : ∀ v, cv (v, g.2) d = v) (hct : ∀ v t, t ≠ d → cv (v, g.2) t = cv g t) : AskV w0 P i i2 ops cv done g u i o := by
  refine ⟨hg, ?_⟩
  rw [he]
  have hb := (Below.refl u.heap.size u).alloc (Nat.le_refl _) ob
  exact ⟨(v, g.2), ⟨h.bel.trans (hb.mono h.bel.size), fun _ => hv, fun e => hP _ _ _ (h.l2 (by rwa [updM_ne hne] at e)) hb⟩, fun e hE => by rw [hd] at hE; injection hE with hE; subst hE; exact hcd v, fun t ht => hct v t (fun e => ht (by rw [hd, e]))⟩
/-- A list of one number. -/
def One1 (x : Nat) (v : Value) (u : World) : Prop := ∃ b, v = .slice (some ⟨b, 0, none⟩) 1 1 ∧ u.heap[b]? = some (.cells #[.int .i64 (x : Int)] 3 (0, 0))
theorem one1_up {x : Nat} : ∀ (v : Value) (A B : World), One1 x v A → Below A.heap.size A B → One1 x v B := fun _ _ _ ⟨b, h1, h2⟩ hb => ⟨b, h1, (hb.block _ (heapsz h2)).trans h2⟩
theorem setOne_any {x : Nat} (hx : x < 10) {v : Value} {u : World} (h : One1 x v u) : Calls Try.prog 77 #[v] u fun e w' => e = .returned (.int .i64 ((2 ^ x : Nat) : Int)) ∧ Below u.heap.size u w' := by
  obtain ⟨b, rfl, hb⟩ := h
  refine (setOf_any (some ⟨b, 0, none⟩) 1 1 [x] u rfl (by unfold maxLen; omega) (row_made (rows := [(x : Int)]) hb (fun _ => rfl) rfl (Nat.le_refl 1)) (fun y hy => by rw [List.mem_singleton.1 hy]; exact hx)).mono ?_
  rintro e w' ⟨rfl, rfl⟩
  exact ⟨by rw [set_one], Below.refl _ _⟩
end Go.Proofs.Ytmppiiamcpjhnaa

namespace Go.Proofs.Ytmppiiamcpjhnaa
open Go.RowKit Go.Shelf
attribute [local go_sem] Oper.semAt_some

structure ChW (l n0 yb cb : Nat) (W : World) : Prop where
  y : W.heap[yb]? = some (.cells #[.func (.yield l) #[] #[]] 39 (0, 0))
  c : W.heap[cb]? = some (.cells #[.func (.func 98) #[] #[.pointer (some ⟨yb, 0, none⟩), .pointer (some ⟨cb, 0, none⟩)]] 82 (0, 0))
  ly : n0 ≤ yb
  lc : n0 ≤ cb
theorem ChW.kp {l n0 yb cb : Nat} {W W' : World} (h : ChW l n0 yb cb W) (k : KpN n0 W W') : ChW l n0 yb cb W' :=
  ⟨(k.same _ h.ly (heapsz h.y)).trans h.y, (k.same _ h.lc (heapsz h.c)).trans h.c, h.ly, h.lc⟩
/-- What a chooser hands over. -/
def ChooseC (l n0 yb cb : Nat) (J : List Nat → World → Prop) (Jx : Nat → List Nat → World → Prop) (m : Nat) : Prop :=
  ∀ (W : World) (pre : List Nat) (ch r : Nat), ch < 2 ^ 10 → r < 2 ^ 10 → J pre W → ChW l n0 yb cb W →
    Calls Try.prog 98 #[.int .i64 (ch : Int), .int .i64 (r : Int), .int .i64 (m : Int), .pointer (some ⟨yb, 0, none⟩), .pointer (some ⟨cb, 0, none⟩)] W fun e W' => KpN n0 W W' ∧ ((e = .returned (.bool true) ∧ J (pre ++ setsI m ch r) W') ∨ (e = .returned (.bool false) ∧ ∃ N q rest, W.heap.size ≤ N ∧ setsI m ch r = q ++ rest ∧ q ≠ [] ∧ Jx N (pre ++ q) W'))
theorem four_new (w : World) (o0 o1 o2 o3 : Obj) : ((((w.alloc o0).alloc o1).alloc o2).alloc o3).heap[w.heap.size]? = some o0 ∧ ((((w.alloc o0).alloc o1).alloc o2).alloc o3).heap[w.heap.size + 1]? = some o1 ∧ ((((w.alloc o0).alloc o1).alloc o2).alloc o3).heap[w.heap.size + 1 + 1]? = some o2 ∧ ((((w.alloc o0).alloc o1).alloc o2).alloc o3).heap[w.heap.size + 1 + 1 + 1]? = some o3 ∧ Below w.heap.size w ((((w.alloc o0).alloc o1).alloc o2).alloc o3) := by
  obtain ⟨z0, z1, z2, hb⟩ := three_new w o0 o1 o2
  have z3 := heap_alloc_new (((w.alloc o0).alloc o1).alloc o2) o3
  simp only [World.size_alloc] at z3
  have h2 := (Below.refl (((w.alloc o0).alloc o1).alloc o2).heap.size (((w.alloc o0).alloc o1).alloc o2)).alloc (Nat.le_refl _) o3
  exact ⟨(h2.block _ (Array.getElem?_eq_some_iff.1 z0).1).trans z0, (h2.block _ (Array.getElem?_eq_some_iff.1 z1).1).trans z1, (h2.block _ (Array.getElem?_eq_some_iff.1 z2).1).trans z2, z3, hb.trans (h2.mono hb.size)⟩
set_option maxRecDepth 100000 in
set_option maxHeartbeats 4000000 in
theorem choose_zero {l n0 yb cb n : Nat} {J : List Nat → World → Prop} {Jx : Nat → List Nat → World → Prop} (hJ : ∀ s A B, J s A → Below n0 A B → J s B) (hJx : ∀ N s A B, Jx N s A → StabX n0 N A B → Jx N s B)
    (hY : ∀ (pre : List Nat) (x : Nat) W1, x < 2 ^ 10 → J pre W1 → YieldAt Fence.wide (n - 1) Try.prog l #[.int .i64 (x : Int)] W1 fun e W' => KpN n0 W1 W' ∧ ((e = .returned (.bool true) ∧ J (pre ++ [x]) W') ∨ (e = .returned (.bool false) ∧ Jx W1.heap.size (pre ++ [x]) W'))) : ChooseC l n0 yb cb J Jx 0 := by
  intro w pre ch r hch hr hj hC
  obtain ⟨z0, z1, z2, z3, hb⟩ := four_new w (.cells #[.int .i64 (ch : Int)] 3) (.cells #[.int .i64 (r : Int)] 3) (.cells #[.int .i64 0] 3) (.cells #[.bool false] 4)
  obtain ⟨w4, hw4⟩ : ∃ z, (((w.alloc (.cells #[.int .i64 (ch : Int)] 3)).alloc (.cells #[.int .i64 (r : Int)] 3)).alloc (.cells #[.int .i64 0] 3)).alloc (.cells #[.bool false] 4) = z := ⟨_, rfl⟩
  rw [hw4] at z0 z1 z2 z3 hb
  have hn0 : n0 ≤ w.heap.size := by have := hC.ly; have := heapsz hC.y; omega
  have hC4 := hC.kp (KpN.of_below hb)
  obtain ⟨fn, tmps, assign, body, hy, hR⟩ := hY pre ch w4 hch (hJ _ _ _ hj (hb.mono hn0))
  have HC4 := Lib.hid hC4; have HB := Lib.hid hb; have HZ3 := Lib.hid z3; have HN := Lib.hid hn0
  have c0 := cell_blk (k := 0) z0 rfl
  have c2 := cell_blk (k := 0) z2 rfl
  have cy := cell_blk (k := 0) hC4.y rfl
  clear z0 z1 z2 z3 hb hC hC4 hj hY hn0
  refine callsIn_wide.1 (callsIn_of_wp (n := n) Try.func98 rfl trivial ?_ rfl)
  simp only [Try.ntmps98, List.size_toArray, List.length_cons, List.length_nil, Nat.reduceAdd, Nat.reduceSub, Array.replicate_succ, Array.replicate_zero, List.push_toArray, List.append_toArray, List.nil_append, List.cons_append]
  gi_wp2
  refine ⟨fun h => by simp [Fence.wide] at h, hR.mono ?_⟩
  rintro e W3 ⟨hk, hh⟩
  have hz3 : W3.heap[w.heap.size + 1 + 1 + 1]? = some (.cells #[.bool false] 4 (0, 0)) := (hk.same _ (by have := HN.out; omega) (heapsz HZ3.out)).trans HZ3.out
  have c3 := cell_blk (k := 0) hz3 rfl
  have f3 : W3.frozen? ⟨w.heap.size + 1 + 1 + 1, 0, none⟩ = false := by simp [World.frozen?, hz3]
  have hkw : ∀ b : Bool, KpN n0 w (W3.setCell ⟨w.heap.size + 1 + 1 + 1, 0, none⟩ (.bool b)) := fun b => ⟨(((HB.out.mono (Nat.zero_le _)).trans hk.b0).setCell (p := ⟨w.heap.size + 1 + 1 + 1, 0, none⟩) (Nat.zero_le _) _), fun k h1 h2 => by
    have hlt : k < w4.heap.size := Nat.lt_of_lt_of_le h2 HB.out.size
    have hne : k ≠ w.heap.size + 1 + 1 + 1 := by omega
    exact (Below.heap_setCell _ _ _ _ hne).trans ((hk.same k h1 hlt).trans (HB.out.block k h2))⟩
  have hbs : ∀ b : Bool, Below n0 W3 (W3.setCell ⟨w.heap.size + 1 + 1 + 1, 0, none⟩ (.bool b)) := fun b => (Below.refl _ W3).setCell (p := ⟨w.heap.size + 1 + 1 + 1, 0, none⟩) (by have := HN.out; show n0 ≤ w.heap.size + 1 + 1 + 1; omega) _
  have hres : ∀ b : Bool, (W3.setCell ⟨w.heap.size + 1 + 1 + 1, 0, none⟩ (.bool b)).cell? ⟨w.heap.size + 1 + 1 + 1, 0, none⟩ = some (.bool b) := fun b => cell_blk (k := 0) (blk_set hz3 0 (.bool b)) rfl
  have HE : Hid (∀ b : Bool, KpN n0 w (W3.setCell ⟨w.heap.size + 1 + 1 + 1, 0, none⟩ (.bool b)) ∧ Below n0 W3 (W3.setCell ⟨w.heap.size + 1 + 1 + 1, 0, none⟩ (.bool b)) ∧ (W3.setCell ⟨w.heap.size + 1 + 1 + 1, 0, none⟩ (.bool b)).cell? ⟨w.heap.size + 1 + 1 + 1, 0, none⟩ = some (.bool b)) := Lib.hid fun b => ⟨hkw b, hbs b, hres b⟩
  clear hk hz3 hkw hbs hres hw4 c0 c2 cy hy
  rcases hh with ⟨rfl, hj⟩ | ⟨rfl, hj⟩
  · have HJ := Lib.hid hj
    clear hj
    gi_wp2
    obtain ⟨h1, h2, h3⟩ := HE.out true
    exact bodyPost_ret (v := .bool true) (by simp [results, Try.results98, go_sem, h3]) rfl ⟨h1, .inl ⟨rfl, hJ _ _ _ HJ.out h2⟩⟩
  · have HJ := Lib.hid hj
    clear hj
    gi_wp2
    obtain ⟨h1, h2, h3⟩ := HE.out false
    have hz := HB.out.size
    have hz4 := heapsz HZ3.out
    exact bodyPost_ret (v := .bool false) (by simp [results, Try.results98, go_sem, h3]) rfl ⟨h1, .inr ⟨rfl, w4.heap.size, [ch], [], hz, rfl, by simp, hJx _ _ _ _ HJ.out (StabX.set _ (by have := HN.out; omega) hz4)⟩⟩
end Go.Proofs.Ytmppiiamcpjhnaa

namespace Go.Proofs.Ytmppiiamcpjhnaa
open Go.RowKit Go.Shelf
attribute [local go_sem] Oper.semAt_some

/-- The chooser's boxes. -/
structure ChB (b0 ch R mm Bn r : Nat) (W : World) : Prop where
  fc : W.heap[b0]? = some (.cells #[.int .i64 (ch : Int)] 3 (0, 0))
  fr : W.heap[b0 + 1]? = some (.cells #[.int .i64 (R : Int)] 3 (0, 0))
  fm : W.heap[b0 + 1 + 1]? = some (.cells #[.int .i64 (mm : Int)] 3 (0, 0))
  fe : W.heap[b0 + 1 + 1 + 1]? = some (.cells #[.bool false] 4 (0, 0))
  fb : W.heap[Bn]? = some (.cells #[.int .i64 (r : Int)] 3 (0, 0))
theorem ChB.keep {b0 ch R mm Bn r : Nat} {W W' : World} (h : ChB b0 ch R mm Bn r W) (hk : ∀ (b : Nat) (cs : Array Value) (t : TypeId), W.heap[b]? = some (.cells cs t (0, 0)) → b0 ≤ b → W'.heap[b]? = some (.cells cs t (0, 0))) (hB : b0 ≤ Bn) : ChB b0 ch R mm Bn r W' :=
  ⟨hk _ _ _ h.fc (Nat.le_refl _), hk _ _ _ h.fr (by omega), hk _ _ _ h.fm (by omega), hk _ _ _ h.fe (by omega), hk _ _ _ h.fb hB⟩
theorem ChB.kp {b0 ch R mm Bn r n0 : Nat} {W W' : World} (h : ChB b0 ch R mm Bn r W) (k : KpN n0 W W') (hn : n0 ≤ b0) (hB : b0 ≤ Bn) : ChB b0 ch R mm Bn r W' :=
  h.keep (fun b _ _ hb h0 => (k.same b (by omega) (heapsz hb)).trans hb) hB
theorem ChB.set {b0 ch R R' mm Bn r : Nat} {W : World} (h : ChB b0 ch R mm Bn r W) (hB : b0 + 1 < Bn) : ChB b0 ch R' mm Bn r (W.setCell ⟨b0 + 1, 0, none⟩ (.int .i64 (R' : Int))) := by
  have kb (b : Nat) (hb : b ≠ b0 + 1) : (W.setCell ⟨b0 + 1, 0, none⟩ (.int .i64 (R' : Int))).heap[b]? = W.heap[b]? := Below.heap_setCell _ _ _ _ hb
  exact ⟨(kb _ (by omega)).trans h.fc, blk_set h.fr 0 _, (kb _ (by omega)).trans h.fm, (kb _ (by omega)).trans h.fe, (kb _ (by omega)).trans h.fb⟩
/-- What holds while sites are gone through. -/
structure ChI (n0 b0 ch mm Bn r : Nat) (w : World) (Js : List Nat → World → Prop) (p : List Nat) (W : World) : Prop where
  j : Js p W
  k : KpN n0 w W
  b : ∃ R, (∀ j, R.testBit j = (r.testBit j && !decide (j ∈ p))) ∧ ChB b0 ch R mm Bn r W
theorem bits_next (a : Bool) (j x : Nat) (ps : List Nat) : ((a && !decide (j ∈ ps)) && !decide (x = j)) = (a && !decide (j ∈ ps ++ [x])) := by
  by_cases h2 : x = j
  · subst h2
    simp
  · have h3 : ¬ j = x := fun e => h2 e.symm
    simp [h2, h3]
def c5Cv (b0 x R D : Nat) (g : Value × Value) : Tmp → Value
  | 6 => .pointer (some ⟨b0 + 1, 0, none⟩)
  | 9 => .int .i64 (x : Int)
  | 18 => .int .i64 (R : Int)
  | 19 => .int .i64 (x : Int)
  | 20 => g.1
  | 21 => .int .i64 ((2 ^ x : Nat) : Int)
  | 22 => .int .i64 (D : Int)
  | _ => undef
def c6Cv (b0 yb cb x ch C D mm m : Nat) (g : Value × Value) : Tmp → Value
  | 4 => .pointer (some ⟨cb, 0, none⟩)
  | 5 => .pointer (some ⟨b0, 0, none⟩)
  | 6 => .pointer (some ⟨b0 + 1, 0, none⟩)
  | 7 => .pointer (some ⟨b0 + 1 + 1, 0, none⟩)
  | 9 => .int .i64 (x : Int)
  | 23 => .func (.func 98) #[] #[.pointer (some ⟨yb, 0, none⟩), .pointer (some ⟨cb, 0, none⟩)]
  | 24 => .int .i64 (ch : Int)
  | 25 => .int .i64 (x : Int)
  | 26 => g.1
  | 27 => .int .i64 ((2 ^ x : Nat) : Int)
  | 28 => .int .i64 (C : Int)
  | 29 => .int .i64 (D : Int)
  | 30 => .int .i64 (mm : Int)
  | 31 => .int .i64 (m : Int)
  | 32 => g.2
  | _ => undef
section
attribute [local irreducible] QT
set_option maxRecDepth 100000 in
set_option maxHeartbeats 8000000 in
theorem choose_succ {l n0 yb cb m : Nat} {J : List Nat → World → Prop} {Jx : Nat → List Nat → World → Prop} (hm : m ≤ 100) (hJ : ∀ s A B, J s A → Below n0 A B → J s B) (hJx : ∀ N s A B, Jx N s A → StabX n0 N A B → Jx N s B) (ih : ChooseC l n0 yb cb J Jx m) : ChooseC l n0 yb cb J Jx (m + 1) := by
  intro w pre ch r hch hr hj hC
  obtain ⟨mm, hmm⟩ : ∃ mm, m + 1 = mm := ⟨_, rfl⟩
  have HMM := Lib.hid hmm
  rw [hmm]
  obtain ⟨z0, z1, z2, z3, hb⟩ := four_new w (.cells #[.int .i64 (ch : Int)] 3) (.cells #[.int .i64 (r : Int)] 3) (.cells #[.int .i64 (mm : Int)] 3) (.cells #[.bool false] 4)
  obtain ⟨w4, hw4⟩ : ∃ z, (((w.alloc (.cells #[.int .i64 (ch : Int)] 3)).alloc (.cells #[.int .i64 (r : Int)] 3)).alloc (.cells #[.int .i64 (mm : Int)] 3)).alloc (.cells #[.bool false] 4) = z := ⟨_, rfl⟩
  have hs4 : w4.heap.size = w.heap.size + 4 := by rw [← hw4]; simp
  rw [hw4] at z0 z1 z2 z3 hb
  have z5 := heap_alloc_new w4 (.cells #[.int .i64 (r : Int)] 3)
  have hb5 := (Below.refl w4.heap.size w4).alloc (Nat.le_refl _) (.cells #[.int .i64 (r : Int)] 3)
  obtain ⟨w5, hw5⟩ : ∃ z, w4.alloc (.cells #[.int .i64 (r : Int)] 3) = z := ⟨_, rfl⟩
  have hs5 : w5.heap.size = w.heap.size + 5 := by rw [← hw5]; simp; omega
  rw [hw5] at z5 hb5
  have hn0 : n0 ≤ w.heap.size := by have := hC.ly; have := heapsz hC.y; omega
  have hbw5 := hb.trans (hb5.mono hb.size)
  have hI0 : ChI n0 w.heap.size ch mm w4.heap.size r w (fun p W => J (pre ++ p.flatMap fun x => setsI m (ch ||| 2 ^ x) (aboveS r x)) W) [] w5 :=
    ⟨by simpa using hJ _ _ _ hj (hbw5.mono hn0), KpN.of_below hbw5, r, fun j => by simp, ⟨(hb5.block _ (heapsz z0)).trans z0, (hb5.block _ (heapsz z1)).trans z1, (hb5.block _ (heapsz z2)).trans z2, (hb5.block _ (heapsz z3)).trans z3, z5⟩⟩
  have HI0 := Lib.hid hI0; have HW5 := Lib.hid hw5; have HSZ := Lib.hid (And.intro hs4 (And.intro hs5 hn0)); have HC := Lib.hid hC
  have HSQ := Lib.hid (sit_seqP (3 - 1) (by decide) w4.heap.size 0 (r : Int) w5 (heapsz z5) (cell_blk (k := 0) z5 rfl))
  have fol : Try.prog.follows .mixedOrders = true := by kernel_rfl
  have hE98 : ∀ (args : Array Value) (w : World), (callFunc 98 args).run Try.prog w = .ok (.enter 98 args) w := enters_of Try.func98 (by kernel_rfl) rfl
  have hm0 : ¬ (mm : Int) = 0 := by omega
  have hwm : IntKind.i64.wrap ((mm : Int) - 1) = (m : Int) := by rw [IntKind.wrap_i64]; omega
  have c1 := cell_blk (k := 0) z1 rfl
  have c2 := cell_blk (k := 0) z2 rfl
  have HR := Lib.hid (And.intro hch hr)
  clear z0 z1 z2 z3 hb z5 hb5 hw5 hC hj hbw5 hI0 hs4 hs5 hn0 hch hr
  refine callsIn_wide.1 (callsIn_of_wp_marks (n := 5) Try.func98 rfl trivial (wpIn_wide.2 ?_) rfl)
  simp only [Try.ntmps98, List.size_toArray, List.length_cons, List.length_nil, Nat.reduceAdd, Nat.reduceSub, Array.replicate_succ, Array.replicate_zero, List.push_toArray, List.append_toArray, List.nil_append, List.cons_append]
  go_wp2_with fail
  clear hw4
  refine (sitesOf_any _ _).mono ?_
  rintro e w' ⟨rfl, rfl⟩
  rw [HW5.out]
  clear c1 c2
  go_wp2_with fail
  refine (wpIn_wide (n := 3)).1 ?_
  refine wpIn_rangeFunc_writesG rfl (by decide) (gf := 101) (lb := #[.pointer (some ⟨w4.heap.size, 0, none⟩)]) rfl trivial (enters_of Try.func101 (by kernel_rfl) rfl)
    HSQ.out (fun A A' hs k o hk ho hc => by rw [← hs]; exact ho)
    kpB_t (kpB_b (Nat.zero_le _) (by have := HSZ.out; omega)) (Below.refl _ _) (fun _ => rfl)
    (fun p Wt => ChI n0 w.heap.size ch mm w4.heap.size r w (fun p W => J (pre ++ p.flatMap fun x => setsI m (ch ||| 2 ^ x) (aboveS r x)) W) (p.map Subtype.val) Wt ∧ w5.heap.size ≤ Wt.heap.size)
    (fun c p Wt => c = .ret ∧ (∃ N q rest, w5.heap.size ≤ N ∧ setsI (m + 1) ch r = q ++ rest ∧ q ≠ [] ∧ Jx N (pre ++ q) Wt) ∧ KpN n0 w Wt ∧ Wt.heap[w.heap.size + 1 + 1 + 1]? = some (.cells #[.bool false] 4 (0, 0)))
    (fun p A B row hs hg hr => by
      have hz := HSZ.out
      have hbl : Below n0 A B := (Below.refl n0 A).grown hg (by have := hs.2; omega) (fun k e => by have := (hr k e).1; omega)
      refine ⟨⟨hJ _ _ _ hs.1.j hbl, ⟨(hs.1.k.b0).trans (hbl.mono (Nat.zero_le _)), fun k h1 h2 => (hg.block k (by have := hs.2; omega) (fun e => by have := (hr k e.symm).1; omega)).trans (hs.1.k.same k h1 h2)⟩, ?_⟩, Nat.le_trans hs.2 hg.size⟩
      obtain ⟨R, h1, h2⟩ := hs.1.b
      exact ⟨R, h1, h2.keep (fun b cs t hb _ => cells_keep hb hg hr) (by omega)⟩)
    (fun c p A B row hs hg hr => by
      have hz := HSZ.out
      obtain ⟨h1, ⟨N, q, rest, hN, h2, h3, h4⟩, h5, h6⟩ := hs
      have hbl : Below n0 A B := (Below.refl n0 A).grown hg (by have := h5.b0.size; omega) (fun k e => by have := (hr k e).1; omega)
      exact ⟨h1, ⟨N, q, rest, hN, h2, h3, hJx _ _ _ _ h4 ⟨hbl, fun b cs t z _ hb => by
        refine (hg.block b (Array.getElem?_eq_some_iff.1 hb).1 (fun e => ?_)).trans hb
        obtain ⟨_, o, h7, h8⟩ := hr b e.symm
        rw [hb] at h7
        injection h7 with h7
        rw [← h7] at h8
        cases h8⟩⟩, ⟨h5.b0.trans (hbl.mono (Nat.zero_le _)), fun k h7 h8 => (hg.block k (by have := h5.b0.size; omega) (fun e => by have := (hr k e.symm).1; omega)).trans (h5.same k h7 h8)⟩, cells_keep h6 hg hr⟩)
    (fun p A A' hs hst => by rw [← hst]; exact hs)
    ⟨HI0.out, Nat.le_refl _⟩
    (fun x a' _ => a' = { tmps := List.toArray ((Value.int .i64 (ch : Int)) :: (Value.int .i64 (r : Int)) :: (Value.int .i64 (mm : Int)) :: (Value.pointer (some ⟨yb, 0, none⟩)) :: (Value.pointer (some ⟨cb, 0, none⟩)) :: (Value.pointer (some ⟨w.heap.size, 0, none⟩)) :: (Value.pointer (some ⟨w.heap.size + 1, 0, none⟩)) :: (Value.pointer (some ⟨w.heap.size + 1 + 1, 0, none⟩)) :: (Value.pointer (some ⟨w.heap.size + 1 + 1 + 1, 0, none⟩)) :: (Value.int .i64 (x.1 : Int)) :: (Value.int .i64 (mm : Int)) :: (Value.bool false) :: undef :: undef :: undef :: (Value.int .i64 (r : Int)) :: (Value.func (.func 101) #[] #[.pointer (some ⟨w4.heap.size, 0, none⟩)]) :: (Value.int .i64 (x.1 : Int)) :: undef :: undef :: undef :: undef :: undef :: undef :: undef :: undef :: undef :: undef :: undef :: undef :: undef :: undef :: undef :: undef :: []), defers := [] })
    (fun x a' _ A A' row hs hg hr => hs)
    ?assign ?body ?done ?stop
  case assign =>
    intro l p x Wt Kk hI hK
    have HH := Lib.hid (hK _ Wt ⟨Nat.le_refl _, fun _ _ _ h _ => h⟩ ⟨Below.refl _ _, rfl⟩ hI rfl)
    clear hK hI
    gi_wp2
    exact HH.out
  case body =>
    rintro l p x a' Wt ⟨hI, hsz⟩ rfl ⟨p', x', rest, hpx, hpil⟩
    obtain ⟨rfl, hxx⟩ := List.append_inj' hpx rfl
    obtain rfl : x = x' := by simpa using hxx
    obtain ⟨R, hbits, hbx⟩ := hI.b
    have hx10 : x.1 < 10 := x.2.1
    have hab := rest_above hbits HR.out.2 hpil
    obtain ⟨D, hD⟩ : ∃ D, aboveS r x.1 = D := ⟨_, rfl⟩
    rw [hD] at hab
    have HDD := Lib.hid hD
    have hR10 : R < 2 ^ 10 := lt_of_bits fun i hi => by
      rw [hbits] at hi
      exact testBit_lt HR.out.2 ((Bool.and_eq_true _ _ ▸ hi : _ ∧ _).1)
    have hD10 : D < 2 ^ 10 := by rw [← hab]; exact dropS_lt hR10
    have hbitsD : ∀ j, D.testBit j = (r.testBit j && !decide (j ∈ (p ++ [x]).map Subtype.val)) := fun j => by
      have hp : 2 ^ x.1 < 2 ^ 64 := Nat.pow_lt_pow_right (by decide) (by omega)
      rw [← hab, dropS_bit hp (by omega), hbits, Nat.testBit_two_pow, List.map_append]
      exact bits_next _ _ _ _
    have hand : bits .andNot .i64 (R : Int) ((2 ^ x.1 : Nat) : Int) = (D : Int) := by
      rw [dropS_and (by omega) (Nat.pow_lt_pow_right (by decide) (by omega)), hab]
    rw [Int.natCast_pow, show ((2 : Nat) : Int) = 2 from rfl] at hand
    obtain ⟨C, hCe⟩ : ∃ C, ch ||| 2 ^ x.1 = C := ⟨_, rfl⟩
    have hp10 : 2 ^ x.1 < 2 ^ 10 := Nat.pow_lt_pow_right (by decide) hx10
    have hC10 : C < 2 ^ 10 := by rw [← hCe]; exact Nat.or_lt_two_pow HR.out.1 hp10
    have hor : bits .or .i64 (ch : Int) ((2 ^ x.1 : Nat) : Int) = (C : Int) := by
      rw [or_nat (by have := HR.out.1; omega) (Nat.pow_lt_pow_right (by decide) (by omega)), hCe]
    rw [Int.natCast_pow, show ((2 : Nat) : Int) = 2 from rfl] at hor
    have HI := Lib.hid hI; have HBX := Lib.hid hbx; have HWS := Lib.hid hsz; have HPIL := Lib.hid hpil; have HBD := Lib.hid hbitsD
    have HCE := Lib.hid hCe
    have HCD := Lib.hid (And.intro hC10 hD10)
    have hcW := HC.out.kp hI.k
    have HCW := Lib.hid hcW
    have f0 : Wt.frozen? ⟨w.heap.size + 1, 0, none⟩ = false := by simp [World.frozen?, hbx.fr]
    have HX10 := Lib.hid hx10
    clear hI hbx hsz hpil hbits hbitsD hab hD hCe hpx hxx hR10 hD10 hC10 hp10 hcW hx10 f0
    gi_wp2
    refine wpIn_region_any fol (wpAnyIn_round_of_wpAny (by kernel_rfl) (by rintro ⟨_, _, hq⟩; exact hq) _ _ _ _ ?_)
    refine tail_startX [_, _, _, _, _] _ rfl (by kernel_rfl) ?_
    refine plan_guarded_any (γ := Value × Value) [6, 9] (c5Cv w.heap.size x.1 R D) (OneV Wt (One1 x.1) 2 77) (undef, undef) (by kernel_rfl) (by kernel_rfl) (by kernel_rfl) (by kernel_rfl) ?_ ⟨(Below.refl _ Wt).drew, fun h => by simp at h, fun h => by simp at h⟩ ?_ ?_
    · intro t ht
      simp only [List.mem_cons, List.not_mem_nil, or_false] at ht
      rcases ht with rfl | rfl <;> rfl
    · refine allOps_array ?_
      refine ⟨?_, ?_, ?_, ?_, ?_, trivial⟩ <;> intro done g u hS hu hdep _ <;> have p1 := cell_blk (k := 0) ((hS.bel.block _ (heapsz HBX.out.fr)).trans HBX.out.fr) rfl
      · exact quietV hS 18 rfl (by decide) (by decide) rfl (by simp [go_sem, evalBy, c5Cv, p1])
      · exact quietV hS 19 rfl (by decide) (by decide) rfl (by simp [go_sem, evalBy, c5Cv])
      · exact buildV one1_up hS (by decide) 20 rfl rfl (.slice (some ⟨u.heap.size, 0, none⟩) 1 1) (.cells #[.int .i64 (x.1 : Int)] 3) (by simp [go_sem, evalBy, c5Cv]) ⟨_, rfl, heap_alloc_new u _⟩ (fun _ => rfl) (fun v t ht => by unfold c5Cv; split <;> first | rfl | exact absurd rfl ht)
      · exact callV one1_up hS 21 rfl (by decide) (by decide) rfl 77 #[g.1] (by simp [go_sem, evalBy, c5Cv]) (setOne_any HX10.out (hS.l1 (hdep ⟨2, .data⟩ (by simp) rfl)))
      · exact quietV hS 22 rfl (by decide) (by decide) rfl (by simp [go_sem, evalBy, c5Cv, hand])
    · intro g u hS
      have hzr := (hS.bel.block _ (heapsz HBX.out.fr)).trans HBX.out.fr
      have p1 := cell_blk (k := 0) hzr rfl
      have f1 : u.frozen? ⟨w.heap.size + 1, 0, none⟩ = false := by simp [World.frozen?, hzr]
      have hz := HSZ.out
      have hbx1 : ChB w.heap.size ch D mm w4.heap.size r (u.setCell ⟨w.heap.size + 1, 0, none⟩ (.int .i64 (D : Int))) := (HBX.out.keep (fun b cs t hb _ => (hS.bel.block _ (heapsz hb)).trans hb) (by omega)).set (by omega)
      have hko : KeepsOthers Wt (u.setCell ⟨w.heap.size + 1, 0, none⟩ (.int .i64 (D : Int))) := (ko_below hS.bel).trans (KeepsOthers.setCell _ _ _)
      have hbl : Below n0 Wt (u.setCell ⟨w.heap.size + 1, 0, none⟩ (.int .i64 (D : Int))) := (hS.bel.mono (by have := HWS.out; omega)).setCell (p := ⟨w.heap.size + 1, 0, none⟩) (by show n0 ≤ w.heap.size + 1; omega) _
      have hkw : KpN n0 w (u.setCell ⟨w.heap.size + 1, 0, none⟩ (.int .i64 (D : Int))) := ⟨HI.out.k.b0.trans (hbl.mono (Nat.zero_le _)), fun k h1 h2 => by
        have hne : k ≠ w.heap.size + 1 := by omega
        have hlt : k < Wt.heap.size := by have := HWS.out; omega
        exact (Below.heap_setCell _ _ _ _ hne).trans ((hS.bel.block k hlt).trans (HI.out.k.same k h1 h2))⟩
      have hB0 : (u.setCell ⟨w.heap.size + 1, 0, none⟩ (.int .i64 (D : Int))).cell? ⟨w4.heap.size, 0, none⟩ = Wt.cell? ⟨w4.heap.size, 0, none⟩ := (cell_blk (k := 0) hbx1.fb rfl).trans (cell_blk (k := 0) HBX.out.fb rfl).symm
      have HALL := Lib.hid (And.intro hbx1 (And.intro hko (And.intro hbl (And.intro hkw hB0))))
      clear hS hzr hbx1 hko hbl hkw hB0
      simp only [QT]
      unfold Oper.wp
      simp [go_sem, putAll, Act.put, c5Cv, p1, f1]
      obtain ⟨w6, hw6⟩ : ∃ z, u.setCell ⟨w.heap.size + 1, 0, none⟩ (.int .i64 (D : Int)) = z := ⟨_, rfl⟩
      rw [hw6] at HALL ⊢
      clear hw6 p1 f1
      have HJ6 := Lib.hid (hJ _ _ _ HI.out.j HALL.out.2.2.1)
      have HC6 := Lib.hid (HC.out.kp HALL.out.2.2.2.1)
      have HCF : Hid (∀ q, Below w6.heap.size w6 q → q.cell? ⟨cb, 0, none⟩ = some (.func (.func 98) #[] #[.pointer (some ⟨yb, 0, none⟩), .pointer (some ⟨cb, 0, none⟩)]) ∧ q.cell? ⟨w.heap.size, 0, none⟩ = some (.int .i64 (ch : Int)) ∧ q.cell? ⟨w.heap.size + 1, 0, none⟩ = some (.int .i64 (D : Int)) ∧ q.cell? ⟨w.heap.size + 1 + 1, 0, none⟩ = some (.int .i64 (mm : Int))) := Lib.hid fun q hq =>
        ⟨cell_blk (k := 0) ((hq.block _ (heapsz HC6.out.c)).trans HC6.out.c) rfl, cell_blk (k := 0) ((hq.block _ (heapsz HALL.out.1.fc)).trans HALL.out.1.fc) rfl, cell_blk (k := 0) ((hq.block _ (heapsz HALL.out.1.fr)).trans HALL.out.1.fr) rfl, cell_blk (k := 0) ((hq.block _ (heapsz HALL.out.1.fm)).trans HALL.out.1.fm) rfl⟩
      have HREC : Hid (∀ q, Below w6.heap.size w6 q → Calls Try.prog 98 #[.int .i64 (C : Int), .int .i64 (D : Int), .int .i64 (m : Int), .pointer (some ⟨yb, 0, none⟩), .pointer (some ⟨cb, 0, none⟩)] q fun e W' => ∃ b, e = .returned (.bool b) ∧ KpN n0 w6 W' ∧ ((b = true ∧ J ((pre ++ (p.map Subtype.val).flatMap fun x => setsI m (ch ||| 2 ^ x) (aboveS r x)) ++ setsI m C D) W') ∨ (b = false ∧ ∃ N q' rest, w6.heap.size ≤ N ∧ setsI m C D = q' ++ rest ∧ q' ≠ [] ∧ Jx N ((pre ++ (p.map Subtype.val).flatMap fun x => setsI m (ch ||| 2 ^ x) (aboveS r x)) ++ q') W'))) := Lib.hid fun q hq => by
        refine (ih q _ C D HCD.out.1 HCD.out.2 (hJ _ _ _ HJ6.out (hq.mono (by have := HSZ.out; have := HWS.out; have := HALL.out.2.1.size; omega))) (HC6.out.kp (KpN.of_below hq))).mono ?_
        rintro e W' ⟨hk, ⟨rfl, h⟩ | ⟨rfl, h⟩⟩
        · exact ⟨true, rfl, (KpN.of_below hq).trans hk, .inl ⟨rfl, h⟩⟩
        · obtain ⟨N, q', rest', hN, h⟩ := h
          exact ⟨false, rfl, (KpN.of_below hq).trans hk, .inr ⟨rfl, N, q', rest', Nat.le_trans hq.size hN, h⟩⟩
      gi_wp2
      refine wpIn_region_any fol (wpAnyIn_round_of_wpAny (by kernel_rfl) (by rintro ⟨_, _, hq⟩; exact hq) _ _ _ _ ?_)
      refine tail_startX [_, _, _, _, _, _, _, _, _, _] _ rfl (by kernel_rfl) ?_
      refine plan_once_any (γ := Value × Value) 9 [4, 5, 6, 7, 9] (c6Cv w.heap.size yb cb x.1 ch C D mm m) (fun done g u => OneV w6 (One1 x.1) 3 77 done g u) (fun g u => ∃ b, g.2 = .bool b ∧ KpN n0 w6 u ∧ ((b = true ∧ J ((pre ++ (p.map Subtype.val).flatMap fun x => setsI m (ch ||| 2 ^ x) (aboveS r x)) ++ setsI m C D) u) ∨ (b = false ∧ ∃ N q' rest, w6.heap.size ≤ N ∧ setsI m C D = q' ++ rest ∧ q' ≠ [] ∧ Jx N ((pre ++ (p.map Subtype.val).flatMap fun x => setsI m (ch ||| 2 ^ x) (aboveS r x)) ++ q') u))) (undef, undef) (by kernel_rfl) (by kernel_rfl) (by kernel_rfl) (by kernel_rfl) (by kernel_rfl) (by kernel_rfl) (by decide) ?_ ⟨(Below.refl _ w6).drew, fun h => by simp at h, fun h => by simp at h⟩ ?_ ?_
      · intro t ht
        simp only [List.mem_cons, List.not_mem_nil, or_false] at ht
        rcases ht with rfl | rfl | rfl | rfl | rfl <;> rfl
      · refine allOps_array ?_
        refine ⟨⟨fun _ => ?_, fun e => absurd e (by decide), fun e => absurd e (by decide)⟩, ⟨fun _ => ?_, fun e => absurd e (by decide), fun e => absurd e (by decide)⟩, ⟨fun _ => ?_, fun e => absurd e (by decide), fun e => absurd e (by decide)⟩, ⟨fun _ => ?_, fun e => absurd e (by decide), fun e => absurd e (by decide)⟩, ⟨fun _ => ?_, fun e => absurd e (by decide), fun e => absurd e (by decide)⟩, ⟨fun _ => ?_, fun e => absurd e (by decide), fun e => absurd e (by decide)⟩, ⟨fun _ => ?_, fun e => absurd e (by decide), fun e => absurd e (by decide)⟩, ⟨fun _ => ?_, fun e => absurd e (by decide), fun e => absurd e (by decide)⟩, ⟨fun _ => ?_, fun e => absurd e (by decide), fun e => absurd e (by decide)⟩, ⟨fun e => absurd e (by decide), fun _ => ?_, fun e => absurd e (by decide)⟩, trivial⟩
        · intro done g q hS hu hdep
          obtain ⟨y0, y1, y2, y3⟩ := HCF.out q hS.bel
          exact quietV hS 23 rfl (by decide) (by decide) rfl (by simp [go_sem, evalBy, c6Cv, y0])
        · intro done g q hS hu hdep
          obtain ⟨y0, y1, y2, y3⟩ := HCF.out q hS.bel
          exact quietV hS 24 rfl (by decide) (by decide) rfl (by simp [go_sem, evalBy, c6Cv, y1])
        · intro done g q hS hu hdep
          exact quietV hS 25 rfl (by decide) (by decide) rfl (by simp [go_sem, evalBy, c6Cv])
        · intro done g q hS hu hdep
          exact buildV one1_up hS (by decide) 26 rfl rfl (.slice (some ⟨q.heap.size, 0, none⟩) 1 1) (.cells #[.int .i64 (x.1 : Int)] 3) (by simp [go_sem, evalBy, c6Cv]) ⟨_, rfl, heap_alloc_new q _⟩ (fun _ => rfl) (fun v t ht => by unfold c6Cv; split <;> first | rfl | exact absurd rfl ht)
        · intro done g q hS hu hdep
          exact callV one1_up hS 27 rfl (by decide) (by decide) rfl 77 #[g.1] (by simp [go_sem, evalBy, c6Cv]) (setOne_any HX10.out (hS.l1 (hdep ⟨3, .data⟩ (by simp) rfl)))
        · intro done g q hS hu hdep
          exact quietV hS 28 rfl (by decide) (by decide) rfl (by simp [go_sem, evalBy, c6Cv, hor])
        · intro done g q hS hu hdep
          obtain ⟨y0, y1, y2, y3⟩ := HCF.out q hS.bel
          exact quietV hS 29 rfl (by decide) (by decide) rfl (by simp [go_sem, evalBy, c6Cv, y2])
        · intro done g q hS hu hdep
          obtain ⟨y0, y1, y2, y3⟩ := HCF.out q hS.bel
          exact quietV hS 30 rfl (by decide) (by decide) rfl (by simp [go_sem, evalBy, c6Cv, y3])
        · intro done g q hS hu hdep
          exact quietV hS 31 rfl (by decide) (by decide) rfl (by simp [go_sem, evalBy, c6Cv, hwm])
        · intro done g q hS _
          refine ⟨rfl, ?_⟩
          rw [show (execOp (evalBy (c6Cv w.heap.size yb cb x.1 ch C D mm m g)) _).run Try.prog q = .ok (.enter 98 #[.int .i64 (C : Int), .int .i64 (D : Int), .int .i64 (m : Int), .pointer (some ⟨yb, 0, none⟩), .pointer (some ⟨cb, 0, none⟩)]) q from by simp [go_sem, evalBy, c6Cv, hE98]]
          show Calls Try.prog 98 _ q _
          refine (HREC.out q hS.bel).mono ?_
          rintro e W' ⟨b, rfl, h1, h2⟩
          exact ⟨_, rfl, (g.1, .bool b), ⟨b, rfl, h1, h2⟩, fun d hd => by injection hd with hd; subst hd; rfl, fun t ht => by
            have h32 : t ≠ 32 := fun e => ht (by rw [e])
            unfold c6Cv
            split <;> first | rfl | exact absurd rfl h32⟩
      · rintro g q ⟨b, hb, h1, h2⟩
        have hz := HSZ.out
        have hws := HWS.out
        have hal := HALL.out
        have hkq : KpN n0 w q := hal.2.2.2.1.trans h1
        have hkf : KeepsFrom w5.heap.size Wt q := (hal.2.1.from _).trans ⟨h1.b0.size, fun k o hk ho _ => (h1.same k (by omega) (heapszO ho)).trans ho⟩
        have hbq : ChB w.heap.size ch D mm w4.heap.size r q := hal.1.kp h1 hz.2.2 (by omega)
        have hkb : KpB 0 w4.heap.size Wt q := ⟨(hal.2.2.1.mono (Nat.zero_le _)).trans h1.b0, (cell_blk (k := 0) hbq.fb rfl).trans (cell_blk (k := 0) HBX.out.fb rfl).symm⟩
        have HQ := Lib.hid (And.intro hkq (And.intro hkf (And.intro hbq hkb)))
        have HSP : Hid (setsI (m + 1) ch r = ((p.map Subtype.val).flatMap fun x => setsI m (ch ||| 2 ^ x) (aboveS r x)) ++ (setsI m C D ++ rest.flatMap fun x => setsI m (ch ||| 2 ^ x) (aboveS r x))) := Lib.hid (by
          show (sitL (r : Int)).flatMap _ = _
          rw [HPIL.out, List.flatMap_append, List.flatMap_cons, HCE.out, HDD.out])
        clear hz hws hal hkq hkf hbq hkb h1
        simp only [QT]
        unfold Oper.wp
        simp [go_sem, putAll, Act.put, c6Cv, hb]
        rcases h2 with ⟨rfl, h⟩ | ⟨rfl, N, q', rest', hN, h3, h4, h5⟩
        · have HJQ := Lib.hid h
          clear h hb
          gi_wp2
          refine ⟨HQ.out.2.1, HQ.out.2.2.2, ⟨?_, HQ.out.1, D, HBD.out, HQ.out.2.2.1⟩, ?_⟩
          · rw [List.map_append, List.flatMap_append]
            simp only [List.map_cons, List.map_nil, List.flatMap_cons, List.flatMap_nil, List.append_nil]
            rw [HCE.out, HDD.out, ← List.append_assoc]
            exact HJQ.out
          · have := HWS.out
            have := HQ.out.2.1.size
            omega
        · have HJQ := Lib.hid (And.intro h3 (And.intro h4 h5))
          have HNN : Hid (w5.heap.size ≤ N) := Lib.hid (by have := HALL.out.2.1.size; have := HWS.out; omega)
          have ze := HQ.out.2.2.1.fe
          have pe := cell_blk (k := 0) ze rfl
          have fe : q.frozen? ⟨w.heap.size + 1 + 1 + 1, 0, none⟩ = false := by simp [World.frozen?, ze]
          clear h3 h4 h5 hb ze
          gi_wp2
          have hz := HSZ.out
          have hbs : Below n0 q (q.setCell ⟨w.heap.size + 1 + 1 + 1, 0, none⟩ (.bool false)) := (Below.refl _ q).setCell (p := ⟨w.heap.size + 1 + 1 + 1, 0, none⟩) (by show n0 ≤ w.heap.size + 1 + 1 + 1; omega) _
          refine ⟨HQ.out.2.1.trans ((KeepsOthers.setCell _ _ _).from _), rfl, ⟨N, ((p.map Subtype.val).flatMap fun x => setsI m (ch ||| 2 ^ x) (aboveS r x)) ++ q', rest' ++ rest.flatMap fun x => setsI m (ch ||| 2 ^ x) (aboveS r x), HNN.out, HSP.out.trans ?_, ?_, ?_⟩, ⟨HQ.out.1.b0.trans (hbs.mono (Nat.zero_le _)), fun k h1 h2 => ?_⟩, blk_set HQ.out.2.2.1.fe 0 _⟩
          · rw [HJQ.out.1]
            simp only [List.append_assoc]
          · intro e
            have := (List.append_eq_nil_iff.1 e).2
            exact HJQ.out.2.1 this
          · rw [← List.append_assoc]
            exact hJx _ _ _ _ HJQ.out.2.2 (StabX.set _ (by omega) (by have := HNN.out; omega))
          · have hne : k ≠ w.heap.size + 1 + 1 + 1 := by omega
            exact (Below.heap_setCell _ _ _ _ hne).trans (HQ.out.1.same k h1 h2)
  case done =>
    rintro D ys Wt hD hys ⟨hI, hsz⟩ hK
    have HM : Hid (Marks Wt w5.heap.size [D]) := Lib.hid ⟨by simp, fun E hE => by rw [List.mem_singleton.1 hE]; exact ⟨hD, hK⟩⟩
    obtain ⟨R, _, hbx⟩ := hI.b
    have ze := hbx.fe
    have pe := cell_blk (k := 0) ze rfl
    have fe : Wt.frozen? ⟨w.heap.size + 1 + 1 + 1, 0, none⟩ = false := by simp [World.frozen?, ze]
    have hj := hI.j
    rw [hys] at hj
    have HJE := Lib.hid hj; have HKE := Lib.hid hI.k; have HZE := Lib.hid ze; have HWS := Lib.hid hsz; have HDK := Lib.hid hK
    clear hI hK hys hj hbx ze hsz
    simp only [Exit.inBlock, Exit.then]
    go_wp2_with fail
    have hz := HSZ.out
    have hbs : Below n0 Wt (Wt.setCell ⟨w.heap.size + 1 + 1 + 1, 0, none⟩ (.bool true)) := (Below.refl _ Wt).setCell (p := ⟨w.heap.size + 1 + 1 + 1, 0, none⟩) (by show n0 ≤ w.heap.size + 1 + 1 + 1; omega) _
    have hkk : KpN n0 w (Wt.setCell ⟨w.heap.size + 1 + 1 + 1, 0, none⟩ (.bool true)) := ⟨HKE.out.b0.trans (hbs.mono (Nat.zero_le _)), fun k h1 h2 => by
      have hne : k ≠ w.heap.size + 1 + 1 + 1 := by omega
      exact (Below.heap_setCell _ _ _ _ hne).trans (HKE.out.same k h1 h2)⟩
    have hze : (Wt.setCell ⟨w.heap.size + 1 + 1 + 1, 0, none⟩ (.bool true)).heap[w.heap.size + 1 + 1 + 1]? = some (.cells #[.bool true] 4 (0, 0)) := blk_set HZE.out 0 _
    have hDne : D ≠ w.heap.size + 1 + 1 + 1 := by omega
    refine leaves_marks [D] _ (B := w5.heap.size) ⟨by simp, fun E hE => by rw [List.mem_singleton.1 hE]; exact ⟨hD, (Below.heap_setCell _ _ _ _ hDne).trans HDK.out⟩⟩ (fun w' hk => ?_)
    have h9 := cell_blk (k := 0) (hk.2 _ _ _ _ hze) rfl
    exact ⟨.bool true, by simp [results, Try.results98, go_sem, h9], ⟨hkk.b0.trans (hk.1.mono (Nat.zero_le _)), fun k h1 h2 => (hk.1.block k (by omega)).trans (hkk.same k h1 h2)⟩, .inl ⟨rfl, by rw [← HMM.out]; exact hJ _ _ _ (hJ _ _ _ HJE.out hbs) (hk.1.mono (by omega))⟩⟩
  case stop =>
    rintro D c p Wt hD _ ⟨rfl, hI, hkm, hze⟩ hK
    have HM : Hid (Marks Wt w5.heap.size [D]) := Lib.hid ⟨by simp, fun E hE => by rw [List.mem_singleton.1 hE]; exact ⟨hD, hK⟩⟩
    have HII := Lib.hid hI; have HKW := Lib.hid hkm; have HZE := Lib.hid hze
    clear hI hK hkm hze
    simp only []
    refine (wpIn_wide (n := 3)).2 ?_
    go_wp2_with fail
    refine leaves_marks [D] Wt HM.out (fun w' hk => ?_)
    have hz := HSZ.out
    have h9 := cell_blk (k := 0) (hk.2 _ _ _ _ HZE.out) rfl
    obtain ⟨N, q, rest, hN, h2, h3, h4⟩ := HII.out
    exact ⟨.bool false, by simp [results, Try.results98, go_sem, h9], ⟨HKW.out.b0.trans (hk.1.mono (Nat.zero_le _)), fun k h1 h2 => (hk.1.block k (by omega)).trans (HKW.out.same k h1 h2)⟩, .inr ⟨rfl, N, q, rest, by omega, by rw [← HMM.out]; exact h2, h3, hJx _ _ _ _ h4 ⟨hk.1.mono (by omega), fun b cs t z _ hb => hk.2 b cs t z hb⟩⟩⟩
end
end Go.Proofs.Ytmppiiamcpjhnaa

namespace Go.Proofs.Ytmppiiamcpjhnaa
open Go.RowKit Go.Shelf
attribute [local go_sem] Oper.semAt_some

theorem choose_any {l n0 yb cb n : Nat} {J : List Nat → World → Prop} {Jx : Nat → List Nat → World → Prop} (hJ : ∀ s A B, J s A → Below n0 A B → J s B) (hJx : ∀ N s A B, Jx N s A → StabX n0 N A B → Jx N s B)
    (hY : ∀ (pre : List Nat) (x : Nat) W1, x < 2 ^ 10 → J pre W1 → YieldAt Fence.wide (n - 1) Try.prog l #[.int .i64 (x : Int)] W1 fun e W' => KpN n0 W1 W' ∧ ((e = .returned (.bool true) ∧ J (pre ++ [x]) W') ∨ (e = .returned (.bool false) ∧ Jx W1.heap.size (pre ++ [x]) W'))) : ∀ m, m ≤ 100 → ChooseC l n0 yb cb J Jx m
  | 0, _ => choose_zero hJ hJx hY
  | m + 1, hm => choose_succ (by omega) hJ hJx (choose_any hJ hJx hY m (by omega))
abbrev S10 := { x : Nat // x < 2 ^ 10 }
set_option maxRecDepth 100000 in
set_option maxHeartbeats 4000000 in
theorem sets_seq (n : Nat) {b1 b2 s m : Nat} {w : World} (h1 : w.heap[b1]? = some (.cells #[.int .i64 (s : Int)] 3 (0, 0))) (h2 : w.heap[b2]? = some (.cells #[.int .i64 (m : Int)] 3 (0, 0))) (hs : s < 2 ^ 10) (hm : m ≤ 100) :
    SeqFS n Try.prog 97 #[.pointer (some ⟨b1, 0, none⟩), .pointer (some ⟨b2, 0, none⟩)] (fun x : S10 => #[.int .i64 (x.1 : Int)]) (fun _ _ _ => True) (fun xs => xs.map Subtype.val = setsI m 0 s) (fun pre => ∃ rest, setsI m 0 s = pre.map Subtype.val ++ rest ∧ pre ≠ []) w := by
  intro l J Jx W hW hJ hJx hY h0
  have hmf : ∀ (fn : Fn) (first cap : Array Value) (w : World), (Instr.makeFunc fn first cap).run Try.prog w = .ok (.func fn first cap) w := fun _ _ _ _ => rfl
  refine callsIn_wide.2 ?_
  obtain ⟨z0, z1, hb⟩ := two_new W (.cells #[.func (.yield l) #[] #[]] 39) (.cells #[.func (.func 98) #[] #[.pointer (some ⟨W.heap.size, 0, none⟩), .pointer (some ⟨W.heap.size + 1, 0, none⟩)]] 82)
  obtain ⟨w2, hw2⟩ : ∃ z, (W.alloc (.cells #[.func (.yield l) #[] #[]] 39)).alloc (.cells #[.func (.func 98) #[] #[.pointer (some ⟨W.heap.size, 0, none⟩), .pointer (some ⟨W.heap.size + 1, 0, none⟩)]] 82) = z := ⟨_, rfl⟩
  rw [hw2] at z0 z1 hb
  have hJ' : ∀ s A B, (∃ q : List S10, q.map Subtype.val = s ∧ J q A) → Below W.heap.size A B → ∃ q : List S10, q.map Subtype.val = s ∧ J q B := fun s A B ⟨q, h1, h2⟩ hb => ⟨q, h1, hJ _ _ _ h2 hb⟩
  have hJx' : ∀ N s A B, (∃ q : List S10, q.map Subtype.val = s ∧ Jx N q A) → StabX W.heap.size N A B → ∃ q : List S10, q.map Subtype.val = s ∧ Jx N q B := fun N s A B ⟨q, h1, h2⟩ hb => ⟨q, h1, hJx _ _ _ _ h2 hb⟩
  have HC := Lib.hid (choose_any (l := l) (n0 := W.heap.size) (yb := W.heap.size) (cb := W.heap.size + 1) (n := n) (J := fun p W => ∃ q : List S10, q.map Subtype.val = p ∧ J q W) (Jx := fun N p W => ∃ q : List S10, q.map Subtype.val = p ∧ Jx N q W) hJ' hJx' (fun pre x W1 hx ⟨q, h1, h2⟩ => (hY W1.heap.size q ⟨x, hx⟩ W1 (Nat.le_refl _) trivial h2).mono (by
    rintro e W' ⟨hk, ⟨rfl, h⟩ | ⟨rfl, h⟩⟩
    · exact ⟨hk, .inl ⟨rfl, q ++ [⟨x, hx⟩], by rw [List.map_append, h1]; rfl, h⟩⟩
    · exact ⟨hk, .inr ⟨rfl, q ++ [⟨x, hx⟩], by rw [List.map_append, h1]; rfl, h⟩⟩)) m hm w2 [] 0 s (by decide) hs ⟨[], rfl, hJ _ _ _ h0 hb⟩ ⟨z0, z1, Nat.le_refl _, Nat.le_succ _⟩)
  have hbb := hW.trans (hb.mono hW.size)
  have d1 := cell_blk (k := 0) ((hbb.block _ (heapsz h1)).trans h1) rfl
  have d2 := cell_blk (k := 0) ((hbb.block _ (heapsz h2)).trans h2) rfl
  have k1 := cell_blk (k := 0) z1 rfl
  clear z0 z1 hb hbb h1 h2 hW hJ hJx hY h0 hJ' hJx'
  show Calls Try.prog 97 #[.func (.yield l) #[] #[], .pointer (some ⟨b1, 0, none⟩), .pointer (some ⟨b2, 0, none⟩)] W _
  go_enter Try.func97, Try.ntmps97
  go_wp2_with fail
  clear hw2
  refine HC.out.mono ?_
  rintro e w3 ⟨_, ⟨rfl, h⟩ | ⟨rfl, N, q, rest, _, h3, h4, h5⟩⟩
  · have HH := Lib.hid h
    clear h d1 d2 k1
    go_wp2_with fail
    go_end0
    obtain ⟨q, h1, h2⟩ := HH.out
    exact ⟨⟨_, rfl⟩, .inl ⟨q, by simpa using h1, h2⟩⟩
  · have HH := Lib.hid (And.intro h3 (And.intro h4 h5))
    clear h3 h4 h5 d1 d2 k1
    go_wp2_with fail
    go_end0
    obtain ⟨q', h1, h2⟩ := HH.out.2.2
    rw [List.nil_append] at h1
    exact ⟨⟨_, rfl⟩, .inr ⟨N, q', ⟨rest, by rw [h1]; exact HH.out.1, fun e => HH.out.2.1 (by rw [← h1, e]; rfl)⟩, h2⟩⟩
theorem setsOf_any (s m : Nat) (w : World) :
    Calls Try.prog 80 #[.int .i64 (s : Int), .int .i64 (m : Int)] w fun e w' => e = .returned (.func (.func 97) #[] #[.pointer (some ⟨w.heap.size, 0, none⟩), .pointer (some ⟨w.heap.size + 1, 0, none⟩)]) ∧ (w.alloc (.cells #[.int .i64 (s : Int)] 3)).alloc (.cells #[.int .i64 (m : Int)] 3) = w' := by
  have hmf : ∀ (fn : Fn) (first cap : Array Value) (w : World), (Instr.makeFunc fn first cap).run Try.prog w = .ok (.func fn first cap) w := fun _ _ _ _ => rfl
  go_enter Try.func80, Try.ntmps80
  go_wp2_with fail
  go_ret
  exact ⟨rfl, rfl⟩
end Go.Proofs.Ytmppiiamcpjhnaa
