/- Where the heat of all years has gone, as the specification reckons it. -/
import Derived.Test.YtccekbdhffccdaaDoorZB
namespace Go.Proofs.YtccekbdhffccdaaDoor
open Go.RowKit Go.Shelf
theorem blkt_set {w : World} {g : Nat} {cs : Array Value} {t : TypeId} (h : w.heap[g]? = some (.cells cs t (0, 0))) (j : Nat) (u : Value) : (w.setCell ⟨g, j, none⟩ u).heap[g]? = some (.cells (cs.setIfInBounds j u) t (0, 0)) := by
  simp [World.setCell, Array.getElem?_modify, h]
/-- What holds of memory while the specification reckons the ledger: the boxes of the truth, of what is handed back, of the state and of the ledger. -/
structure LW (w wr : World) (tc : Array Value) (I O R L : Int) : Prop where
  tb : wr.heap[w.heap.size]? = some (.cells tc 41 (0, 0))
  rb : wr.heap[w.heap.size + 1]? = some (.cells #[.int .i64 0, .int .i64 0, .int .i64 0] 44 (0, 0))
  sb : wr.heap[w.heap.size + 1 + 1]? = some (.cells #[.int .i64 R, .int .i64 L] 108 (0, 0))
  ob : wr.heap[w.heap.size + 1 + 1 + 1]? = some (.cells #[.int .i64 I, .int .i64 O, .int .i64 0] 44 (0, 0))
  bel : Below w.heap.size w wr
theorem LW.next {w wr w2 : World} {tc : Array Value} {I O R L : Int} (h : LW w wr tc I O R L) (hb : Below wr.heap.size wr w2) : LW w w2 tc I O R L :=
  ⟨(hb.block _ (Array.getElem?_eq_some_iff.1 h.tb).1).trans h.tb, (hb.block _ (Array.getElem?_eq_some_iff.1 h.rb).1).trans h.rb, (hb.block _ (Array.getElem?_eq_some_iff.1 h.sb).1).trans h.sb, (hb.block _ (Array.getElem?_eq_some_iff.1 h.ob).1).trans h.ob, h.bel.trans (hb.mono h.bel.size)⟩
theorem keep_two {wr : World} {g b j i : Nat} {x y : Value} {o : Option Obj} (h : wr.heap[b]? = o) (hne : b ≠ g) : ((wr.setCell ⟨g, i, none⟩ x).setCell ⟨g, j, none⟩ y).heap[b]? = o :=
  (Below.heap_setCell _ _ _ _ hne).trans ((Below.heap_setCell _ _ _ _ hne).trans h)
theorem LW.state {w wr : World} {tc : Array Value} {I O R L R' L' : Int} (h : LW w wr tc I O R L) :
    LW w ((wr.setCell ⟨w.heap.size + 1 + 1, 0, none⟩ (.int .i64 R')).setCell ⟨w.heap.size + 1 + 1, 1, none⟩ (.int .i64 L')) tc I O R' L' :=
  ⟨keep_two h.tb (by omega), keep_two h.rb (by omega), blkt_set (blkt_set h.sb 0 _) 1 _, keep_two h.ob (by omega),
    (h.bel.setCell (p := ⟨w.heap.size + 1 + 1, 0, none⟩) (by show _ ≤ w.heap.size + 1 + 1; omega) _).setCell (p := ⟨w.heap.size + 1 + 1, 1, none⟩) (by show _ ≤ w.heap.size + 1 + 1; omega) _⟩
theorem LW.outs {w wr : World} {tc : Array Value} {I O R L I' O' : Int} (h : LW w wr tc I O R L) :
    LW w ((wr.setCell ⟨w.heap.size + 1 + 1 + 1, 0, none⟩ (.int .i64 I')).setCell ⟨w.heap.size + 1 + 1 + 1, 1, none⟩ (.int .i64 O')) tc I' O' R L :=
  ⟨keep_two h.tb (by omega), keep_two h.rb (by omega), keep_two h.sb (by omega), blkt_set (blkt_set h.ob 0 _) 1 _,
    (h.bel.setCell (p := ⟨w.heap.size + 1 + 1 + 1, 0, none⟩) (by show _ ≤ w.heap.size + 1 + 1 + 1; omega) _).setCell (p := ⟨w.heap.size + 1 + 1 + 1, 1, none⟩) (by show _ ≤ w.heap.size + 1 + 1 + 1; omega) _⟩
theorem summer_here {R L h R' L' : Int} {w : World} (hR : 0 ≤ R ∧ R ≤ 100000000) (hL : 0 ≤ L ∧ L ≤ 100000000) (hh : 0 ≤ h ∧ h ≤ 100000000) (e1 : reachI R (L + h) = R') (e2 : L + h = L') :
    Calls Tryd.prog 62 #[.agg #[.int .i64 R, .int .i64 L], .int .i64 h] w fun e w' => e = .returned (.agg #[.int .i64 R', .int .i64 L']) ∧ Below w.heap.size w w' := by
  rw [← e1, ← e2]; exact summerR_any R L h hR hL hh w
theorem winter_here {R L g R' L' : Int} {w : World} (hL : 0 ≤ L ∧ L ≤ 100000000) (hg : 0 ≤ g ∧ g ≤ 100000000) (e1 : (if L ≤ g then 0 else R) = R') (e2 : (if L ≤ g then 0 else L - g) = L') :
    Calls Tryd.prog 64 #[.agg #[.int .i64 R, .int .i64 L], .int .i64 g] w fun e w' => e = .returned (.agg #[.int .i64 R', .int .i64 L']) ∧ Below w.heap.size w w' := by
  rw [← e1, ← e2]; exact winterR_any R L g hL hg w
/-- A year of the ledger. -/
theorem ledger_at {ls : List Lay} {ms : List Int} {S : St} {I O R L h e3 e4 g R1 L1 R2 L2 : Int} (h1 : S.R = R) (h2 : S.Lf = L) (hI : S.In = I) (hO : S.Out = O) (h3 : L + h = L1) (h4 : reachI R L1 = R1) (h5 : e3 * (1000 - e4) / 1000 = g)
    (h7 : (if L1 ≤ g then 0 else R1) = R2) (h8 : (if L1 ≤ g then 0 else L1 - g) = L2) :
    (stepS ls ms S h (letsI e3 e4 0)).R = R2 ∧ (stepS ls ms S h (letsI e3 e4 0)).Lf = L2 ∧ (stepS ls ms S h (letsI e3 e4 0)).In = I + h ∧ (stepS ls ms S h (letsI e3 e4 0)).Out = O + L1 - L2 := by
  have hl : letsI e3 e4 0 = g := by unfold letsI; rw [h5]; omega
  rw [hl, step_eq]
  subst h1 h2 h3 h4 h7 h8 hI hO
  refine ⟨rfl, rfl, rfl, ?_⟩
  show (if S.Lf + h ≤ g then S.Out + (S.Lf + h) else S.Out + g) = _
  split <;> omega
theorem LW.past {w wr : World} {tc : Array Value} {I O R L : Int} (h : LW w wr tc I O R L) : w.heap.size + 1 + 1 + 1 < wr.heap.size := (Array.getElem?_eq_some_iff.1 h.ob).1
theorem LW.fresh {w wr : World} {tc : Array Value} {I O R L : Int} {a b : Value} (h : LW w wr tc I O R L) : LW w (wr.alloc (.cells #[a, b] 108)) tc I O R L ∧ (wr.alloc (.cells #[a, b] 108)).heap[wr.heap.size]? = some (.cells #[a, b] 108 (0, 0)) ∧ w.heap.size + 1 + 1 + 1 < wr.heap.size :=
  ⟨h.next ((Below.refl wr.heap.size wr).alloc (Nat.le_refl _) _), heap_alloc_new wr _, h.past⟩
theorem LW.sets {w wr : World} {tc : Array Value} {I O R L : Int} {a b x y : Value} {g : Nat} (h : LW w wr tc I O R L) (hg : wr.heap[g]? = some (.cells #[x, y] 108 (0, 0))) (hn : w.heap.size + 1 + 1 + 1 < g) :
    LW w ((wr.setCell ⟨g, 0, none⟩ a).setCell ⟨g, 1, none⟩ b) tc I O R L ∧ ((wr.setCell ⟨g, 0, none⟩ a).setCell ⟨g, 1, none⟩ b).heap[g]? = some (.cells #[a, b] 108 (0, 0)) ∧ w.heap.size + 1 + 1 + 1 < g :=
  ⟨⟨keep_two h.tb (by omega), keep_two h.rb (by omega), keep_two h.sb (by omega), keep_two h.ob (by omega),
    (h.bel.setCell (p := ⟨g, 0, none⟩) (by show _ ≤ g; omega) _).setCell (p := ⟨g, 1, none⟩) (by show _ ≤ g; omega) _⟩, blkt_set (blkt_set hg 0 _) 1 _, hn⟩
set_option maxRecDepth 100000 in
set_option maxHeartbeats 4000000 in
theorem ledgerR_any (AM AW AS AV AN : Option Addr) (n N cm cw cs cv cn : Nat) (ls : List Lay) (T : Tru) (w : World) (hT : TruOk T n N) (hN : N ≤ 12)
    (i2 : IntsAt w w.heap.size AW T.ws) (i3 : IntsAt w w.heap.size AS T.ss) (i4 : IntsAt w w.heap.size AV T.vs) (i5 : IntsAt w w.heap.size AN T.ns) :
    Calls Tryd.prog 29 #[.agg #[.slice AM n cm, .slice AW N cw, .slice AS N cs, .slice AV N cv, .slice AN N cn]] w fun e w' => e = .returned (.agg #[.int .i64 (runS ls T 0 N).In, .int .i64 (runS ls T 0 N).Out, .int .i64 (runS ls T 0 N).Lf]) ∧ Below w.heap.size w w' := by
  have HTK := Lib.hid hT
  clear hT
  have hF : LW w ((((w.alloc (.cells #[.slice AM n cm, .slice AW N cw, .slice AS N cs, .slice AV N cv, .slice AN N cn] 41)).alloc (.cells #[.int .i64 0, .int .i64 0, .int .i64 0] 44)).alloc (.cells #[.int .i64 0, .int .i64 0] 108)).alloc (.cells #[.int .i64 0, .int .i64 0, .int .i64 0] 44)) #[.slice AM n cm, .slice AW N cw, .slice AS N cs, .slice AV N cv, .slice AN N cn] 0 0 0 0 := by
    have e0 := heap_alloc_new w (.cells #[.slice AM n cm, .slice AW N cw, .slice AS N cs, .slice AV N cv, .slice AN N cn] 41)
    have e1 := heap_alloc_new (w.alloc (.cells #[.slice AM n cm, .slice AW N cw, .slice AS N cs, .slice AV N cv, .slice AN N cn] 41)) (.cells #[.int .i64 0, .int .i64 0, .int .i64 0] 44)
    have e2 := heap_alloc_new ((w.alloc (.cells #[.slice AM n cm, .slice AW N cw, .slice AS N cs, .slice AV N cv, .slice AN N cn] 41)).alloc (.cells #[.int .i64 0, .int .i64 0, .int .i64 0] 44)) (.cells #[.int .i64 0, .int .i64 0] 108)
    have e3 := heap_alloc_new (((w.alloc (.cells #[.slice AM n cm, .slice AW N cw, .slice AS N cs, .slice AV N cv, .slice AN N cn] 41)).alloc (.cells #[.int .i64 0, .int .i64 0, .int .i64 0] 44)).alloc (.cells #[.int .i64 0, .int .i64 0] 108)) (.cells #[.int .i64 0, .int .i64 0, .int .i64 0] 44)
    simp only [World.size_alloc] at e1 e2 e3
    have kp : ∀ {v : World} {b : Nat} {x y : Obj}, v.heap[b]? = some x → (v.alloc y).heap[b]? = some x := fun h => (Below.heap_alloc _ _ _ (Array.getElem?_eq_some_iff.1 h).1).trans h
    exact ⟨kp (kp (kp e0)), kp (kp e1), kp e2, e3, ((((Below.refl _ _).alloc (Nat.le_refl _) _).alloc (by simp) _).alloc (by simp; omega) _).alloc (by simp; omega) _⟩
  have F0 := Lib.hid hF
  clear hF
  have hN0 : (N : Int) ≤ 12 := by omega
  go_enter Tryd.func29, Tryd.ntmps29
  go_wp2
  go_loopw [5] (fun i wr => ∃ k : Nat, k ≤ N ∧ i = .int .i64 k ∧ LW w wr #[.slice AM n cm, .slice AW N cw, .slice AS N cs, .slice AV N cv, .slice AN N cn] (runS ls T 0 k).In (runS ls T 0 k).Out (runS ls T 0 k).R (runS ls T 0 k).Lf) (fun i _ => N - (intOf i).toNat)
  case atStart => exact ⟨0, Nat.zero_le _, rfl, F0.out⟩
  case round =>
    obtain ⟨k, hk, rfl, hI⟩ := hrel
    have F := Lib.hid hI
    have t2 := cell_of_row wr w.heap.size 2 _ 41 (0, 0) F.out.tb
    simp at t2
    clear hI F0
    by_cases hlt : k < N
    · have rb := runS_b (ls := ls) (mo := 0) HTK.out (by omega) k (by omega)
      obtain ⟨x1, x1'⟩ := at0_mem (l := T.ws) (k := k) (by rw [HTK.out.lw]; exact hlt)
      obtain ⟨x2, x2'⟩ := at0_mem (l := T.ss) (k := k) (by rw [HTK.out.lS]; exact hlt)
      obtain ⟨x3, x3'⟩ := at0_mem (l := T.vs) (k := k) (by rw [HTK.out.lv]; exact hlt)
      obtain ⟨x4, x4'⟩ := at0_mem (l := T.ns) (k := k) (by rw [HTK.out.ln]; exact hlt)
      have w1 := HTK.out.bw _ x1'
      have w2 := HTK.out.bS _ x2'
      have w3 := HTK.out.bv _ x3'
      have w4 := HTK.out.bn _ x4'
      obtain ⟨b1, u1, rfl, lb1, c1⟩ := i2 (by intro h; rw [h] at x1; simp at x1)
      obtain ⟨b2, u2, rfl, lb2, c2⟩ := i3 (by intro h; rw [h] at x2; simp at x2)
      obtain ⟨b3, u3, rfl, lb3, c3⟩ := i4 (by intro h; rw [h] at x3; simp at x3)
      obtain ⟨b4, u4, rfl, lb4, c4⟩ := i5 (by intro h; rw [h] at x4; simp at x4)
      replace c1 := ((bcell F.out.bel).1 _ _ lb1).trans (c1 k _ x1)
      replace c2 := ((bcell F.out.bel).1 _ _ lb2).trans (c2 k _ x2)
      have c3' := Lib.hid (c3 k _ x3)
      have c4' := Lib.hid (c4 k _ x4)
      have MX : Hid (runS ls T 0 (k + 1) = stepS ls T.ms (runS ls T 0 k) (at0 T.ws k + at0 T.ss k) (letsI (at0 T.vs k) (at0 T.ns k) 0)) := Lib.hid rfl
      obtain ⟨S, hS⟩ : ∃ S, runS ls T 0 k = S := ⟨_, rfl⟩
      rw [hS] at rb MX F
      obtain ⟨e1, he1⟩ : ∃ x, at0 T.ws k = x := ⟨_, rfl⟩
      obtain ⟨e2, he2⟩ : ∃ x, at0 T.ss k = x := ⟨_, rfl⟩
      obtain ⟨e3, he3⟩ : ∃ x, at0 T.vs k = x := ⟨_, rfl⟩
      obtain ⟨e4, he4⟩ : ∃ x, at0 T.ns k = x := ⟨_, rfl⟩
      rw [he1] at c1 w1 MX
      rw [he2] at c2 w2 MX
      rw [he3] at w3 MX c3'
      rw [he4] at w4 MX c4'
      obtain ⟨R, hR⟩ : ∃ x, S.R = x := ⟨_, rfl⟩
      obtain ⟨L, hLe⟩ : ∃ x, S.Lf = x := ⟨_, rfl⟩
      obtain ⟨I, hIe⟩ : ∃ x, S.In = x := ⟨_, rfl⟩
      obtain ⟨O, hOe⟩ : ∃ x, S.Out = x := ⟨_, rfl⟩
      rw [hR, hLe, hIe, hOe] at F
      rw [hR, hLe, hIe, hOe] at rb
      have r0 : 0 ≤ R ∧ R ≤ 24000000 := by omega
      have l0 : 0 ≤ L ∧ L ≤ 24000000 := by omega
      have n0 : 0 ≤ I ∧ I ≤ 24000000 := by omega
      have o0 : 0 ≤ O ∧ O ≤ 24000000 := by omega
      have hw0 : 0 ≤ e1 + e2 ∧ e1 + e2 ≤ 2000000 := by omega
      have SR := Lib.hid hR; have SL := Lib.hid hLe; have SI := Lib.hid hIe; have SO := Lib.hid hOe; have R0 := Lib.hid r0; have L0 := Lib.hid l0; have N0 := Lib.hid n0; have O0 := Lib.hid o0; have W0 := Lib.hid hw0; have W3 := Lib.hid w3; have W4 := Lib.hid w4
      have hz := F.out.bel.size
      have lt1 : b1 < wr.heap.size := by omega
      have lt2 : b2 < wr.heap.size := by omega
      have ltT := (Array.getElem?_eq_some_iff.1 F.out.tb).1
      have d1 := cell_of_row wr w.heap.size 1 _ 41 (0, 0) F.out.tb
      simp at d1
      obtain ⟨w1a, w1b⟩ := w1
      obtain ⟨w2a, w2b⟩ := w2
      have hk0 : (0 : Int) ≤ (k : Int) := by omega
      have hk1 : (k : Int) < (N : Int) := by omega
      have hwr : IntKind.i64.wrap (e1 + e2) = e1 + e2 := IntWalk.i64_in _ (by omega)
      clear x1 x2 x3 x4 x1' x2' x3' x4' hS he1 he2 he3 he4 hR hLe hIe hOe rb r0 l0 n0 o0 hw0 w3 w4 c3 c4 hz
      obtain ⟨R1, hR1⟩ : ∃ x, reachI R (L + (e1 + e2)) = x := ⟨_, rfl⟩
      obtain ⟨L1, hL1⟩ : ∃ x, L + (e1 + e2) = x := ⟨_, rfl⟩
      have HR1 := Lib.hid hR1; have HL1 := Lib.hid hL1
      clear hR1 hL1
      have d1u : ∀ u : KeptW wr, u.w.cell? ⟨w.heap.size, 1, none⟩ = some (.slice (some ⟨b1, u1, none⟩) N cw) := fun u => ((bcell u.h).1 _ _ ltT).trans d1
      have t2u : ∀ u : KeptW wr, u.w.cell? ⟨w.heap.size, 2, none⟩ = some (.slice (some ⟨b2, u2, none⟩) N cs) := fun u => ((bcell u.h).1 _ _ ltT).trans t2
      have c1u : ∀ u : KeptW wr, u.w.cell? ⟨b1, u1 + k, none⟩ = some (.int .i64 e1) := fun u => ((bcell u.h).1 _ _ lt1).trans c1
      have c2u : ∀ u : KeptW wr, u.w.cell? ⟨b2, u2 + k, none⟩ = some (.int .i64 e2) := fun u => ((bcell u.h).1 _ _ lt2).trans c2
      go_wp2_with fail
      clear d1 t2 c1 c2
      refine rk_region (by kernel_rfl) (by kernel_rfl) ?_
      repeat (go_big_quiet_step (fail))
      refine wpQuiet_nil ?_
      rintro _ ⟨u, rfl⟩
      have G := Lib.hid (F.out.next u.h)
      clear d1u t2u c1u c2u F hwr lt1 lt2 ltT
      obtain ⟨wa, hwa⟩ : ∃ x, u.w = x := ⟨_, rfl⟩
      rw [hwa] at G ⊢
      clear hwa
      have s0 := cell_of_row wa (w.heap.size + 1 + 1) 0 _ 108 (0, 0) G.out.sb
      have s1 := cell_of_row wa (w.heap.size + 1 + 1) 1 _ 108 (0, 0) G.out.sb
      simp at s0 s1
      go_wp2_with fail
      refine (summer_here ⟨R0.out.1, Int.le_trans R0.out.2 (by decide)⟩ ⟨L0.out.1, Int.le_trans L0.out.2 (by decide)⟩ ⟨W0.out.1, Int.le_trans W0.out.2 (by decide)⟩ HR1.out HL1.out).mono ?_
      rintro e wb ⟨rfl, hbb⟩
      have G2 := Lib.hid (G.out.next hbb)
      clear s0 s1 G hbb
      have q0 := cell_of_row wb (w.heap.size + 1 + 1) 0 _ 108 (0, 0) G2.out.sb
      have q1 := cell_of_row wb (w.heap.size + 1 + 1) 1 _ 108 (0, 0) G2.out.sb
      simp at q0 q1
      have z0 : wb.frozen? ⟨w.heap.size + 1 + 1, 0, none⟩ = false := by simp [World.frozen?, G2.out.sb]
      have z1 : wb.frozen? ⟨w.heap.size + 1 + 1, 1, none⟩ = false := by simp [World.frozen?, G2.out.sb]
      have G := Lib.hid (G2.out.state (R' := R1) (L' := L1))
      go_wp2_with fail
      clear q0 q1 z0 z1 G2
      generalize (wb.setCell ⟨w.heap.size + 1 + 1, 0, none⟩ (Value.int .i64 R1)).setCell ⟨w.heap.size + 1 + 1, 1, none⟩ (Value.int .i64 L1) = wc at G ⊢
      have hL1b : 0 ≤ L1 ∧ L1 ≤ 100000000 := by
        have a1 := HL1.out; have a3 := L0.out; have a4 := W0.out
        omega
      obtain ⟨g0, hg0⟩ : ∃ x, e3 * (1000 - e4) / 1000 = x := ⟨_, rfl⟩
      have hgb : 0 ≤ g0 ∧ g0 ≤ 1000000 := by
        have := goes_b W3.out W4.out
        rw [hg0] at this
        exact this
      obtain ⟨R2, hR2⟩ : ∃ x, (if L1 ≤ g0 then 0 else R1) = x := ⟨_, rfl⟩
      obtain ⟨L2, hL2⟩ : ∃ x, (if L1 ≤ g0 then 0 else L1 - g0) = x := ⟨_, rfl⟩
      have GM := Lib.hid (show 0 ≤ g0 ∧ g0 ≤ 100000000 by omega)
      have HG0 := Lib.hid hg0; have L1B := Lib.hid hL1b; have HR2 := Lib.hid hR2; have HL2 := Lib.hid hL2
      clear hR2 hL2 hgb hg0 hL1b
      have ltT2 := (Array.getElem?_eq_some_iff.1 G.out.tb).1
      have ltS2 := (Array.getElem?_eq_some_iff.1 G.out.sb).1
      have lt3 := Nat.lt_of_lt_of_le lb3 G.out.bel.size
      have lt4 := Nat.lt_of_lt_of_le lb4 G.out.bel.size
      have t3 := cell_of_row wc w.heap.size 3 _ 41 (0, 0) G.out.tb
      have t4 := cell_of_row wc w.heap.size 4 _ 41 (0, 0) G.out.tb
      have s0 := cell_of_row wc (w.heap.size + 1 + 1) 0 _ 108 (0, 0) G.out.sb
      have s1 := cell_of_row wc (w.heap.size + 1 + 1) 1 _ 108 (0, 0) G.out.sb
      simp at t3 t4 s0 s1
      have c3 := ((bcell G.out.bel).1 _ _ lb3).trans c3'.out
      have c4 := ((bcell G.out.bel).1 _ _ lb4).trans c4'.out
      have n0 := World.new_ne wc _ t3
      have n1 := World.new_ne wc _ t4
      have n2 := World.new_ne wc _ s0
      have n3 := World.new_ne wc _ s1
      have n4 := World.new_ne wc _ c3
      have n5 := World.new_ne wc _ c4
      have BD := Lib.hid ((Below.refl wc.heap.size wc).drew)
      have BA := Lib.hid (((Below.refl wc.heap.size wc).alloc (Nat.le_refl _) (.cells #[.int .i64 0, .int .i64 0] 108)).drew)
      have NB : Hid ((wc.alloc (.cells #[.int .i64 0, .int .i64 0] 108)).drew.heap[wc.heap.size]? = some (.cells #[.int .i64 0, .int .i64 0] 108 (0, 0))) := Lib.hid (heap_alloc_new wc _)
      go_region_held3 (fun w' => w'.cell? ⟨w.heap.size, 3, none⟩ = some (.slice (some ⟨b3, u3, none⟩) N cv) ∧ w'.cell? ⟨w.heap.size, 4, none⟩ = some (.slice (some ⟨b4, u4, none⟩) N cn) ∧ w'.cell? ⟨b3, u3 + k, none⟩ = some (.int .i64 e3) ∧ w'.cell? ⟨b4, u4 + k, none⟩ = some (.int .i64 e4) ∧ w'.cell? ⟨w.heap.size + 1 + 1, 0, none⟩ = some (.int .i64 R1) ∧ w'.cell? ⟨w.heap.size + 1 + 1, 1, none⟩ = some (.int .i64 L1)) (go_keep)
        (first
          | (go_at_call 31
             with_reducible refine (goes_any e3 e4 W3.out W4.out _).mono ?_
             rintro e wx ⟨rfl, rfl⟩
             rw [HG0.out])
          | (go_at_call 64
             with_reducible refine (winter_here L1B.out GM.out HR2.out HL2.out).mono ?_
             rintro e wd ⟨rfl, hbd⟩
             have QB := Lib.hid (BD.out.trans hbd)
             obtain ⟨q, q'⟩ := bcell QB.out
             have f0 := (q _ 3 ltT2).trans t3
             have f1 := (q _ 4 ltT2).trans t4
             have f2 := (q _ _ lt3).trans c3
             have f3 := (q _ _ lt4).trans c4
             have f4 := (q _ 0 ltS2).trans s0
             have f5 := (q _ 1 ltS2).trans s1
             have n0 := World.new_ne wd _ f0
             have n1 := World.new_ne wd _ f1
             have n2 := World.new_ne wd _ f2
             have n3 := World.new_ne wd _ f3
             have n4 := World.new_ne wd _ f4
             have n5 := World.new_ne wd _ f5
             clear q q' hbd)
          | (go_at_call 64
             with_reducible refine (winter_here L1B.out GM.out HR2.out HL2.out).mono ?_
             rintro e wd ⟨rfl, hbd⟩
             have QB := Lib.hid (BA.out.trans (hbd.mono BA.out.size))
             obtain ⟨q, q'⟩ := bcell QB.out
             have f0 := (q _ 3 ltT2).trans t3
             have f1 := (q _ 4 ltT2).trans t4
             have f2 := (q _ _ lt3).trans c3
             have f3 := (q _ _ lt4).trans c4
             have f4 := (q _ 0 ltS2).trans s0
             have f5 := (q _ 1 ltS2).trans s1
             have hNB := (hbd.block _ (Array.getElem?_eq_some_iff.1 NB.out).1).trans NB.out
             have f6 := cell_of_row wd wc.heap.size 0 _ 108 (0, 0) hNB
             have f7 := cell_of_row wd wc.heap.size 1 _ 108 (0, 0) hNB
             simp at f6 f7
             have f8 : wd.frozen? ⟨wc.heap.size, 0, none⟩ = false := by simp [World.frozen?, hNB]
             have f9 : wd.frozen? ⟨wc.heap.size, 1, none⟩ = false := by simp [World.frozen?, hNB]
             have NB2 := Lib.hid hNB
             clear q q' hbd hNB)
          | fail)
      all_goals
        clear f0 f1 f2 f3 f4 f5
      case' refine_2.refine_3.refine_3.refine_3.refine_3.refine_3.refine_3.refine_3.refine_3.refine_3.refine_3.refine_3.refine_1.refine_2.refine_1.refine_2.refine_1.refine_2.refine_1.refine_2 =>
        have HE := Lib.hid ((G.out.next QB.out).fresh (a := .int .i64 R2) (b := .int .i64 L2))
        clear n0 n1 n2 n3 n4 n5
        generalize wd.alloc (.cells #[.int .i64 R2, .int .i64 L2] 108) = we at HE ⊢
        generalize wd.heap.size = nb at HE ⊢
      case' refine_2.refine_3.refine_3.refine_3.refine_3.refine_3.refine_3.refine_3.refine_3.refine_3.refine_3.refine_3.refine_1.refine_2.refine_2.refine_1.refine_2.refine_1.refine_2.refine_1.refine_2 =>
        have HE := Lib.hid ((G.out.next QB.out).sets (a := .int .i64 R2) (b := .int .i64 L2) NB2.out G.out.past)
        clear f6 f7 f8 f9
        generalize (wd.setCell ⟨wc.heap.size, 0, none⟩ (Value.int .i64 R2)).setCell ⟨wc.heap.size, 1, none⟩ (Value.int .i64 L2) = we at HE ⊢
        generalize wc.heap.size = nb at HE ⊢
      case' refine_2.refine_3.refine_3.refine_3.refine_3.refine_3.refine_3.refine_3.refine_3.refine_3.refine_3.refine_3.refine_2.refine_1.refine_2.refine_1.refine_2.refine_1.refine_2.refine_1.refine_2 =>
        have HE := Lib.hid ((G.out.next QB.out).sets (a := .int .i64 R2) (b := .int .i64 L2) NB2.out G.out.past)
        clear f6 f7 f8 f9
        generalize (wd.setCell ⟨wc.heap.size, 0, none⟩ (Value.int .i64 R2)).setCell ⟨wc.heap.size, 1, none⟩ (Value.int .i64 L2) = we at HE ⊢
        generalize wc.heap.size = nb at HE ⊢
      all_goals
        clear NB BA BD QB t3 t4 s0 s1 c3 c4 ltT2 ltS2 lt3 lt4
        have GE := Lib.hid HE.out.1
        have EB := Lib.hid HE.out.2.1
        have hnb := HE.out.2.2
        have o0 := cell_of_row we (w.heap.size + 1 + 1 + 1) 0 _ 44 (0, 0) GE.out.ob
        have o1 := cell_of_row we (w.heap.size + 1 + 1 + 1) 1 _ 44 (0, 0) GE.out.ob
        have s1 := cell_of_row we (w.heap.size + 1 + 1) 1 _ 108 (0, 0) GE.out.sb
        have m0 := cell_of_row we nb 0 _ 108 (0, 0) EB.out
        have m1 := cell_of_row we nb 1 _ 108 (0, 0) EB.out
        simp at o0 o1 s1 m0 m1
        have zo0 : we.frozen? ⟨w.heap.size + 1 + 1 + 1, 0, none⟩ = false := by simp [World.frozen?, GE.out.ob]
        have zo1 : we.frozen? ⟨w.heap.size + 1 + 1 + 1, 1, none⟩ = false := by simp [World.frozen?, GE.out.ob]
        have q1 : ¬ nb = w.heap.size + 1 + 1 + 1 := by omega
        have q2 : ¬ w.heap.size + 1 + 1 + 1 = nb := by omega
        have hL2b : 0 ≤ L2 ∧ L2 ≤ 100000000 := by
          have a1 := HL2.out; have a2 := GM.out; have a3 := L1B.out
          split at a1 <;> omega
        have v1 : IntKind.i64.wrap (I + (e1 + e2)) = I + (e1 + e2) := IntWalk.i64_in _ (by have := N0.out; have := W0.out; omega)
        have v2 : IntKind.i64.wrap (O + L1) = O + L1 := IntWalk.i64_in _ (by have := O0.out; have := L1B.out; omega)
        have v3 : IntKind.i64.wrap (O + L1 - L2) = O + L1 - L2 := IntWalk.i64_in _ (by have := O0.out; have := L1B.out; omega)
        go_wp2_with fail
        go_region
        have GO := Lib.hid ((GE.out.outs (I' := I + (e1 + e2)) (O' := O + L1 - L2)).next ((Below.refl _ _).drew))
        have EO : Hid (((we.setCell ⟨w.heap.size + 1 + 1 + 1, 0, none⟩ (.int .i64 (I + (e1 + e2)))).setCell ⟨w.heap.size + 1 + 1 + 1, 1, none⟩ (.int .i64 (O + L1 - L2))).drew.heap[nb]? = some (.cells #[.int .i64 R2, .int .i64 L2] 108 (0, 0))) := Lib.hid (keep_two EB.out (by omega))
        clear o0 o1 s1 m0 m1 zo0 zo1 q1 q2 v1 v2 v3 HE GE EB
        generalize ((we.setCell ⟨w.heap.size + 1 + 1 + 1, 0, none⟩ (Value.int .i64 (I + (e1 + e2)))).setCell ⟨w.heap.size + 1 + 1 + 1, 1, none⟩ (Value.int .i64 (O + L1 - L2))).drew = wf at GO EO ⊢
        have m0 := cell_of_row wf nb 0 _ 108 (0, 0) EO.out
        have m1 := cell_of_row wf nb 1 _ 108 (0, 0) EO.out
        have q0 := cell_of_row wf (w.heap.size + 1 + 1) 0 _ 108 (0, 0) GO.out.sb
        have q1 := cell_of_row wf (w.heap.size + 1 + 1) 1 _ 108 (0, 0) GO.out.sb
        simp at m0 m1 q0 q1
        have z0 : wf.frozen? ⟨w.heap.size + 1 + 1, 0, none⟩ = false := by simp [World.frozen?, GO.out.sb]
        have z1 : wf.frozen? ⟨w.heap.size + 1 + 1, 1, none⟩ = false := by simp [World.frozen?, GO.out.sb]
        have GS := Lib.hid (GO.out.state (R' := R2) (L' := L2))
        go_wp2_with fail
        obtain ⟨p1, p2, p3, p4⟩ := ledger_at (ls := ls) (ms := T.ms) SR.out SL.out SI.out SO.out HL1.out (by rw [← HL1.out]; exact HR1.out) HG0.out HR2.out HL2.out
        refine ⟨⟨k + 1, by omega, rfl, ?_⟩, by simp [intOf]; omega⟩
        rw [MX.out, p1, p2, p3, p4]
        exact GS.out
    · have hkn : k = N := by omega
      subst hkn
      have s1 := cell_of_row wr (w.heap.size + 1 + 1) 1 _ 108 (0, 0) F.out.sb
      have o0 := cell_of_row wr (w.heap.size + 1 + 1 + 1) 0 _ 44 (0, 0) F.out.ob
      have o1 := cell_of_row wr (w.heap.size + 1 + 1 + 1) 1 _ 44 (0, 0) F.out.ob
      have o2 := cell_of_row wr (w.heap.size + 1 + 1 + 1) 2 _ 44 (0, 0) F.out.ob
      have r0 := cell_of_row wr (w.heap.size + 1) 0 _ 44 (0, 0) F.out.rb
      have r1 := cell_of_row wr (w.heap.size + 1) 1 _ 44 (0, 0) F.out.rb
      have r2 := cell_of_row wr (w.heap.size + 1) 2 _ 44 (0, 0) F.out.rb
      simp at s1 o0 o1 o2 r0 r1 r2
      have zo2 : wr.frozen? ⟨w.heap.size + 1 + 1 + 1, 2, none⟩ = false := by simp [World.frozen?, F.out.ob]
      have zr0 : wr.frozen? ⟨w.heap.size + 1, 0, none⟩ = false := by simp [World.frozen?, F.out.rb]
      have zr1 : wr.frozen? ⟨w.heap.size + 1, 1, none⟩ = false := by simp [World.frozen?, F.out.rb]
      have zr2 : wr.frozen? ⟨w.heap.size + 1, 2, none⟩ = false := by simp [World.frozen?, F.out.rb]
      go_wp2
      obtain ⟨W, hW⟩ : ∃ x, (((wr.setCell ⟨w.heap.size + 1 + 1 + 1, 2, none⟩ (Value.int .i64 (runS ls T 0 k).Lf)).setCell ⟨w.heap.size + 1, 0, none⟩ (Value.int .i64 (runS ls T 0 k).In)).setCell ⟨w.heap.size + 1, 1, none⟩ (Value.int .i64 (runS ls T 0 k).Out)).setCell ⟨w.heap.size + 1, 2, none⟩ (Value.int .i64 (runS ls T 0 k).Lf) = x := ⟨_, rfl⟩
      have hR : W.heap[w.heap.size + 1]? = some (.cells #[.int .i64 (runS ls T 0 k).In, .int .i64 (runS ls T 0 k).Out, .int .i64 (runS ls T 0 k).Lf] 44 (0, 0)) := by
        rw [← hW]
        exact blkt_set (blkt_set (blkt_set ((Below.heap_setCell _ _ _ _ (by show w.heap.size + 1 ≠ w.heap.size + 1 + 1 + 1; omega)).trans F.out.rb) 0 _) 1 _) 2 _
      have hBW : Below w.heap.size w W := by
        rw [← hW]
        exact (((F.out.bel.setCell (p := ⟨w.heap.size + 1 + 1 + 1, 2, none⟩) (by show _ ≤ w.heap.size + 1 + 1 + 1; omega) _).setCell (p := ⟨w.heap.size + 1, 0, none⟩) (by show _ ≤ w.heap.size + 1; omega) _).setCell (p := ⟨w.heap.size + 1, 1, none⟩) (by show _ ≤ w.heap.size + 1; omega) _).setCell (p := ⟨w.heap.size + 1, 2, none⟩) (by show _ ≤ w.heap.size + 1; omega) _
      rw [hW]
      clear hW s1 o0 o1 o2 r0 r1 r2 zo2 zr0 zr1 zr2
      have r0 := cell_of_row W (w.heap.size + 1) 0 _ 44 (0, 0) hR
      have r1 := cell_of_row W (w.heap.size + 1) 1 _ 44 (0, 0) hR
      have r2 := cell_of_row W (w.heap.size + 1) 2 _ 44 (0, 0) hR
      simp at r0 r1 r2
      refine bodyPost_ret (v := .agg #[.int .i64 (runS ls T 0 k).In, .int .i64 (runS ls T 0 k).Out, .int .i64 (runS ls T 0 k).Lf]) (by simp [results, Tryd.results29, go_sem, r0, r1, r2]) rfl ?_
      exact ⟨rfl, hBW⟩
end Go.Proofs.YtccekbdhffccdaaDoor
