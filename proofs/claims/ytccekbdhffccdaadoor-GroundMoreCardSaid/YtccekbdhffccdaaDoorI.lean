/- A region of reads before one store, inside a round of a range over a function: it may be walked in the order of the text. The depth of some heat, as the program reckons it. -/
import Derived.Test.YtccekbdhffccdaaDoorE
import Derived.RangeFuncNested
import Derived.RangeFuncCalls
import Derived.OrdersIn
import Derived.StillTail
import Derived.StillTailTactics
namespace Go
section
variable {P : Program} {ops : Array Oper} {Q : Exit → Act → World → Prop}

def Oper.noDefer (o : Oper) : Bool := match o.op with
  | .defer _ => false
  | _ => true
theorem Oper.noDefer_spec {o : Oper} (h : o.noDefer = true) : ∀ c, o.op ≠ .defer c := fun c e => by simp [Oper.noDefer, e] at h

theorem Oper.wpIn_round_of_wp {n l : Nat} {o : Oper} {a : Act} {w : World} {K K' : Act → World → Prop} (hd : o.noDefer = true) (hK : ∀ a w, K a w → K' a w) (h : o.wp P a w K Q) :
    o.wpIn (Fence.wide.inRound l) n P a w K' Q := by
  refine ⟨fun _ _ => trivial, ?_⟩
  unfold Oper.wp at h
  rw [Oper.semAt_eq _ _ _ (Oper.noDefer_spec hd)]
  generalize (execOp a.eval o).run P w = r at *
  cases r with
  | ok x w' =>
    cases x with
    | enter f args =>
      simp only [Oper.upon, Oper.uponIn] at h ⊢
      refine ⟨(fun hh => by simp [Fence.wide] at hh), CallsIn.inRound l (callsIn_wide.2 (h.mono ?_))⟩
      intro e w'' he
      cases e
      · exact hK _ _ he
      · exact he
      · exact he
    | row r args =>
      simp only [Oper.upon, Oper.uponIn] at h ⊢
      exact ⟨(fun hh => by simp [Fence.wide] at hh), fun c cs _ => let ⟨v, w2, r, s⟩ := h c cs; ⟨v, w2, hK _ _ r, stepsIn_wide.2 s⟩⟩
    | _ => simp only [Oper.upon, Oper.uponIn] at h ⊢ <;> first | exact hK _ _ h | exact h
  | halt x w' => cases x <;> simp only [Oper.upon, Oper.uponIn] at h ⊢ <;> exact h

theorem wpAnyIn_round_of_wpAny {n l : Nat} {md : Region.Mode} (hd : ops.all Oper.noDefer = true) (hQ : ¬ LetsOut Q) : ∀ (fuel : Nat) (listed : Array Bool) (a : Act) (w : World), wpAny P md ops Q fuel listed a w →
    wpAnyIn (Fence.wide.inRound l) n P md ops Q fuel listed a w := by
  intro fuel
  induction fuel with
  | zero => intro listed a w h; exact h
  | succ fuel ih =>
    intro listed a w h
    refine ⟨h.1, fun i hi => ?_⟩
    have h2 := h.2 i hi
    unfold wpOp at h2
    unfold wpOpIn
    cases ho : ops[i]? with
    | none => rw [ho] at h2; exact ih _ _ _ h2
    | some o =>
      rw [ho] at h2
      dsimp only at h2 ⊢
      split at h2
      · rename_i hw
        rw [if_pos hw]
        rcases h2 with h2 | ⟨_, h2⟩
        · have hod : o.noDefer = true := by
            obtain ⟨hi', he⟩ := Array.getElem?_eq_some_iff.1 ho
            rw [Array.all_eq_true] at hd
            rw [← he]
            exact hd i hi'
          exact Oper.wpIn_round_of_wp hod (fun a w => ih _ a w) h2
        · exact absurd h2 hQ
      · rename_i hw
        rw [if_neg hw]
        exact ⟨fun _ _ => trivial, ih _ _ _ h2⟩

theorem wpIn_round_still_tail {id n₀ l₀ : Nat} {a : Act} {w : World} {l : List Oper} (n : Nat) (hm : P.follows .mixedOrders = true) (hB : Region.lexTailB .any l.toArray n = true) (hd : l.toArray.all Oper.noDefer = true) (hQ : ¬ LetsOut Q)
    (h : wpStill P l.toArray w.drew (fun a' => wpList P l.toArray Q (l.drop n) a' w.drew) (l.take n) a) : (Code.region id l.toArray true).wpIn (Fence.wide.inRound l₀) n₀ P Q a w := by
  simp only [Region.lexTailB, Bool.and_eq_true, decide_eq_true_eq] at hB
  obtain ⟨⟨⟨⟨hsel, hn⟩, hs⟩, hc⟩, hlex⟩ := hB
  have hn' : n < l.length := by simpa using hn
  have htl : (l.take n).length = n := by simp; omega
  have hdl : (l.drop n).length = l.toArray.size - n := by simp
  have inv0 : HeadInv .any l.toArray n (Array.replicate l.toArray.size false) :=
    ⟨by simp, fun j oj _ hl => (by rw [getD_replicate_false] at hl; cases hl), fun t _ ht => getD_in (by simpa using ht) (getD_replicate_false _ _)⟩
  have H := wpAnyL_lex (md := .any) (g := l.toArray.size - n) hsel hs hc hn (l.take n) 0 _ a (fun j hj => by
    have hj' : j < n := by rw [htl] at hj; exact hj
    simp [hj']) (by simpa using htl) inv0 (by rw [htl]; exact hlex) h
  have := wpAny_of_head (Q' := Q) (g := l.toArray.size - n) (fun listed a' hL => by
    have := wpAny_of_seq (md := .any) (Q' := Q) (l.drop n) n listed a' w.drew (fun j => by simp [List.getElem?_drop]) (by rw [hdl]; exact hL.1) hL.2
    rwa [hdl] at this) _ _ _ H
  rw [htl, show n + (l.toArray.size - n) = l.toArray.size by omega] at this
  exact wpIn_region_any hm (wpAnyIn_round_of_wpAny hd hQ _ _ _ _ this)
end
end Go

namespace Go.Proofs.YtccekbdhffccdaaDoor
open Go.RowKit Go.Shelf
attribute [local go_sem] Oper.semAt_some

def dstep (ms : List Int) (s : Int × Int) (p : Nat × Int) : Int × Int := (s.1 + min s.2 p.2 / ms[p.1]?.getD 0, s.2 - min s.2 p.2)
def dfold (ms : List Int) (H : Int) (ps : List (Nat × Int)) : Int × Int := ps.foldl (dstep ms) (0, H)
def depthF (ls : List Lay) (ms : List Int) (H : Int) : Int := (dfold ms H (heatsL ls ms)).1
theorem dfold_snoc (ms : List Int) (H : Int) (ps : List (Nat × Int)) (p : Nat × Int) : dfold ms H (ps ++ [p]) = dstep ms (dfold ms H ps) p := by simp [dfold]

theorem kpB_t {n₀ Bn : Nat} {A B C : World} (h : KpB n₀ Bn A B) (k : KpB n₀ Bn B C) : KpB n₀ Bn A C := ⟨h.1.trans k.1, k.2.trans h.2⟩
theorem kpB_b {n₀ Bn : Nat} {w : World} (hn : n₀ ≤ w.heap.size) (hB : Bn < w.heap.size) (W : World) (l : Nat) (o o' : Obj) (hl : w.heap.size ≤ l) (h : W.heap[l]? = some o) (h1 : o.isCells = false) (h2 : o.isWalk = false) : KpB n₀ Bn W (W.putObj l o') :=
  ⟨belowK_b hn W l o o' hl h h1 h2, World.cell?_of_block ((grownBy_putObj' W l o').block Bn (by have := (Array.getElem?_eq_some_iff.1 h).1; omega) (by intro e; injection e; omega))⟩

/-- What the two boxes of a call of depth hold when some layers have come. -/
def DI (ms : List Int) (H : Int) (B : Nat) (pre : List (Nat × Int)) (W : World) : Prop :=
  ∃ d h : Int, W.cell? ⟨B + 1, 0, none⟩ = some (.int .i64 h) ∧ W.frozen? ⟨B + 1, 0, none⟩ = false ∧ W.cell? ⟨B + 1 + 1, 0, none⟩ = some (.int .i64 d) ∧ W.frozen? ⟨B + 1 + 1, 0, none⟩ = false ∧
    0 ≤ d ∧ 0 ≤ h ∧ d + h ≤ H ∧ dfold ms H pre = (d, h)

theorem body_end {ms : List Int} {H : Int} {B : Nat} {g : Option Addr} {w W : World} {pre : List (Nat × Int)} {p : Nat × Int} (hB : Below w.heap.size w W) (hBs : B = w.heap.size)
    (h : DI ms H B pre W) (h9 : W.cell? ⟨B, 0, none⟩ = some (.pointer g)) (d' h' : Int) (hd : dfold ms H (pre ++ [p]) = (d', h')) (b1 : 0 ≤ d') (b2 : 0 ≤ h') (b3 : d' + h' ≤ H) :
    KeepsOthers W ((W.setCell ⟨B + 1 + 1, 0, none⟩ (.int .i64 d')).setCell ⟨B + 1, 0, none⟩ (.int .i64 h')).drew ∧
    KpB B (B + 1 + 1 + 1) W ((W.setCell ⟨B + 1 + 1, 0, none⟩ (.int .i64 d')).setCell ⟨B + 1, 0, none⟩ (.int .i64 h')).drew ∧
    (DI ms H B (pre ++ [p]) ((W.setCell ⟨B + 1 + 1, 0, none⟩ (.int .i64 d')).setCell ⟨B + 1, 0, none⟩ (.int .i64 h')).drew ∧
      ((W.setCell ⟨B + 1 + 1, 0, none⟩ (.int .i64 d')).setCell ⟨B + 1, 0, none⟩ (.int .i64 h')).drew.cell? ⟨B, 0, none⟩ = some (.pointer g)) ∧
    Below w.heap.size w ((W.setCell ⟨B + 1 + 1, 0, none⟩ (.int .i64 d')).setCell ⟨B + 1, 0, none⟩ (.int .i64 h')).drew := by
  obtain ⟨d0, h0, e1, e2, e3, e4, e5, e6, e7, e8⟩ := h
  have o1 : ∀ (v : Value) (b : Nat), b ≠ B + 1 + 1 → (W.setCell ⟨B + 1 + 1, 0, none⟩ v).cell? ⟨b, 0, none⟩ = W.cell? ⟨b, 0, none⟩ := fun v b hb => World.cell?_setCell_other W _ _ _ (fun e => by injection e; omega)
  have o2 : ∀ (W1 : World) (v : Value) (b : Nat), b ≠ B + 1 → (W1.setCell ⟨B + 1, 0, none⟩ v).cell? ⟨b, 0, none⟩ = W1.cell? ⟨b, 0, none⟩ := fun W1 v b hb => World.cell?_setCell_other W1 _ _ _ (fun e => by injection e; omega)
  have c1 : ((W.setCell ⟨B + 1 + 1, 0, none⟩ (.int .i64 d')).setCell ⟨B + 1, 0, none⟩ (.int .i64 h')).cell? ⟨B + 1, 0, none⟩ = some (.int .i64 h') :=
    World.cell?_setCell_same' _ _ _ (by rw [o1 _ _ (by omega), e1]; rfl)
  have c2 : ((W.setCell ⟨B + 1 + 1, 0, none⟩ (.int .i64 d')).setCell ⟨B + 1, 0, none⟩ (.int .i64 h')).cell? ⟨B + 1 + 1, 0, none⟩ = some (.int .i64 d') :=
    (o2 _ _ _ (by omega)).trans (World.cell?_setCell_same' _ _ _ (by rw [e3]; rfl))
  have bel : ∀ {n : Nat} {a : World}, n ≤ B → Below n a W → Below n a ((W.setCell ⟨B + 1 + 1, 0, none⟩ (.int .i64 d')).setCell ⟨B + 1, 0, none⟩ (.int .i64 h')).drew := fun hn h =>
    ((h.setCell (p := ⟨B + 1 + 1, 0, none⟩) (by show _ ≤ B + 1 + 1; omega) _).setCell (p := ⟨B + 1, 0, none⟩) (by show _ ≤ B + 1; omega) _).drew
  refine ⟨((KeepsOthers.setCell _ _ _).trans (KeepsOthers.setCell _ _ _)).trans (KeepsOthers.drew _), ⟨bel (Nat.le_refl _) (Below.refl _ _), (o2 _ _ _ (by omega)).trans (o1 _ _ (by omega))⟩, ⟨⟨d', h', c1, ?_, c2, ?_, b1, b2, b3, hd⟩, ((o2 _ _ _ (by omega)).trans (o1 _ _ (by omega))).trans h9⟩, bel (by omega) hB⟩
  · exact (World.frozen?_setCell _ _ _ _).trans ((World.frozen?_setCell _ _ _ _).trans e2)
  · exact (World.frozen?_setCell _ _ _ _).trans ((World.frozen?_setCell _ _ _ _).trans e4)

set_option maxRecDepth 100000 in
set_option maxHeartbeats 2000000 in
theorem depth_in (n : Nat) (hn : 3 ≤ n) (g bl ol c bm om L cm : Nat) (ls : List Lay) (ms : List Int) (H : Int) (w : World) (hg : g < w.heap.size) (hbl : bl < w.heap.size) (hbm : bm < w.heap.size)
    (hL : ls.length = L) (h1 : 1 ≤ L) (h6 : L ≤ 6) (hM : ms.length = L) (hcap : L ≤ c) (ht : ∀ x ∈ ls, 1 ≤ x.t ∧ x.t ≤ 20000) (hm : ∀ x ∈ ms, 1 ≤ x ∧ x ≤ 1000) (hH : 0 ≤ H) (hH2 : H ≤ 1000000000)
    (c1 : w.cell? ⟨g, 0, none⟩ = some (.slice (some ⟨bl, ol, none⟩) L c)) (c2 : w.cell? ⟨g, 3, none⟩ = some (.slice (some ⟨bm, om, none⟩) L cm))
    (c3 : ∀ i x, ls[i]? = some x → w.cell? ⟨bl, ol + i * 3, none⟩ = some (.int .i64 x.t) ∧ w.cell? ⟨bl, ol + i * 3 + 1, none⟩ = some (.int .i64 x.lo) ∧ w.cell? ⟨bl, ol + i * 3 + 2, none⟩ = some (.int .i64 x.hi))
    (c4 : ∀ i x, ms[i]? = some x → w.cell? ⟨bm, om + i, none⟩ = some (.int .i64 x)) :
    CallsIn Fence.wide n Tryd.prog 101 #[.pointer (some ⟨g, 0, none⟩), .int .i64 H] w fun e W' => e = .returned (.int .i64 (depthF ls ms H)) ∧ Below w.heap.size w W' := by
  have hn1 : 1 ≤ n := by omega
  have HL := Lib.hid hL; clear hL
  have HM := Lib.hid hM; clear hM
  have C3 := Lib.hid c3; clear c3
  have C4 := Lib.hid c4; clear c4
  have HT := Lib.hid ht; clear ht
  have Hm := Lib.hid hm; clear hm
  have C1 := Lib.hid c1; clear c1
  have C2 := Lib.hid c2; clear c2
  refine callsIn_of_wp_marks Tryd.func101 rfl trivial ?_ rfl
  simp only [Tryd.ntmps101, List.size_toArray, List.length_cons, List.length_nil, Nat.reduceAdd, Nat.reduceSub, Array.replicate_succ, Array.replicate_zero, List.push_toArray, List.append_toArray, List.nil_append, List.cons_append]
  gi_wp2_with (refine ⟨trivial, ?_⟩; gi_at_call 106; refine (callsIn_wide.2 (heats_any _ _)).mono ?_; rintro e w' ⟨rfl, rfl⟩)
  have b0 := Boxed.new w 94 (.pointer (some ⟨g, 0, none⟩))
  have b1 := Boxed.new (w.alloc (.cells #[.pointer (some ⟨g, 0, none⟩)] 94)) 3 (.int .i64 H)
  have b2 := Boxed.new ((w.alloc (.cells #[.pointer (some ⟨g, 0, none⟩)] 94)).alloc (.cells #[.int .i64 H] 3)) 3 (.int .i64 0)
  have b3 := Boxed.new (((w.alloc (.cells #[.pointer (some ⟨g, 0, none⟩)] 94)).alloc (.cells #[.int .i64 H] 3)).alloc (.cells #[.int .i64 0] 3)) 94 (.pointer (some ⟨g, 0, none⟩))
  simp only [World.size_alloc] at b1 b2 b3
  have hB0 : Below w.heap.size w ((((w.alloc (.cells #[.pointer (some ⟨g, 0, none⟩)] 94)).alloc (.cells #[.int .i64 H] 3)).alloc (.cells #[.int .i64 0] 3)).alloc (.cells #[.pointer (some ⟨g, 0, none⟩)] 94)) :=
    ((((Below.refl _ w).alloc (Nat.le_refl _) _).alloc (by simp) _).alloc (by simp; omega) _).alloc (by simp; omega) _
  obtain ⟨r1, r2⟩ := bcell hB0
  have hcB : ((((w.alloc (.cells #[.pointer (some ⟨g, 0, none⟩)] 94)).alloc (.cells #[.int .i64 H] 3)).alloc (.cells #[.int .i64 0] 3)).alloc (.cells #[.pointer (some ⟨g, 0, none⟩)] 94)).cell? ⟨w.heap.size, 0, none⟩ = some (.pointer (some ⟨g, 0, none⟩)) := (((b0.alloc _).alloc _).alloc _).cell
  refine wpIn_rangeFunc_ownF rfl hn1 (gf := 110) (lb := #[.pointer (some ⟨w.heap.size + 1 + 1 + 1, 0, none⟩)]) rfl trivial (enters_of Tryd.func110 (by kernel_rfl) rfl)
    (heats_stops (n - 1) (by omega) (w.heap.size + 1 + 1 + 1) w.heap.size g bl ol c bm om L cm ls ms hg hbl hbm HL.out h1 h6 HM.out hcap HT.out Hm.out _ (by simp; omega) (by simp) b3.cell ((r1 _ _ hg).trans C1.out) ((r1 _ _ hg).trans C2.out)
      (fun i x hi => ⟨(r1 _ _ hbl).trans (C3.out i x hi).1, (r1 _ _ hbl).trans (C3.out i x hi).2.1, (r1 _ _ hbl).trans (C3.out i x hi).2.2⟩) (fun i x hi => (r1 _ _ hbm).trans (C4.out i x hi)))
    kpB_t (kpB_b (by simp; omega) (by simp)) (Below.refl _ _) (fun _ => rfl)
    (fun pre W => (DI ms H w.heap.size (pre.map Subtype.val) W ∧ W.cell? ⟨w.heap.size, 0, none⟩ = some (.pointer (some ⟨g, 0, none⟩))) ∧ Below w.heap.size w W)
    (fun _ _ _ => False)
    (OwnFrom.and (Own.from (fun s A B row hs hg' hr => ⟨by
      obtain ⟨d, h, e1, e2, e3, e4, e5⟩ := hs.1
      exact ⟨d, h, cell_kept e1 hg' hr, (frozen_kept e1 hg' hr).trans e2, cell_kept e3 hg' hr, (frozen_kept e3 hg' hr).trans e4, e5⟩, cell_kept hs.2 hg' hr⟩) _) (ownFrom_below (Nat.le_refl _) (by simp; omega)))
    (fun _ _ _ _ _ hs _ _ => hs)
    ⟨⟨⟨0, H, ((b1.alloc _).alloc _).cell, ((b1.alloc _).alloc _).frozen, (b2.alloc _).cell, (b2.alloc _).frozen, by omega, hH, by omega, rfl⟩, hcB⟩, hB0⟩
    (fun x => { tmps := #[.pointer (some ⟨g, 0, none⟩), .int .i64 H, .pointer (some ⟨w.heap.size, 0, none⟩), .pointer (some ⟨w.heap.size + 1, 0, none⟩), .int .i64 0, .pointer (some ⟨w.heap.size + 1 + 1, 0, none⟩),
      .int .i64 (x.1.1 : Int), .int .i64 x.1.2, undef, .pointer (some ⟨g, 0, none⟩), .func (.func 110) #[] #[.pointer (some ⟨w.heap.size + 1 + 1 + 1, 0, none⟩)], .int .i64 (x.1.1 : Int), .int .i64 x.1.2,
      undef, undef, undef, undef, undef, undef, undef, undef, undef, undef, undef, undef, undef, undef, undef, undef, undef, undef, undef], defers := [] }) ?assign ?body ?done ?stop
  case assign =>
    intro l x W K hK
    gi_wp2
    exact hK
  case body =>
    rintro l pre ⟨⟨k, hh⟩, hk, hh0, hh1⟩ W ⟨⟨⟨d, h, e1, e2, e3, e4, e5, e6, e7, e8⟩, e9⟩, hB⟩ hlen
    have E8 := Lib.hid e8; clear e8
    have hW := hB.size
    obtain ⟨q1, q2⟩ := bcell hB
    obtain ⟨m, hmk⟩ := get_of_lt (l := ms) (k := k) (by rw [HM.out]; exact hk)
    have f2 := (q1 _ _ hg).trans C2.out
    have f4 := (q1 _ _ hbm).trans (C4.out k m hmk)
    obtain ⟨m1, m2⟩ := Hm.out m (List.mem_of_getElem? hmk)
    have HK := Lib.hid hmk; clear hmk
    have fol : Tryd.prog.follows Departure.mixedOrders = true := by kernel_rfl
    clear r1 r2 q1 q2
    dsimp only
    have HD : Hid (DI ms H w.heap.size (pre.map Subtype.val) W) := Lib.hid ⟨d, h, e1, e2, e3, e4, e5, e6, e7, E8.out⟩
    by_cases hmin : h ≤ hh
    · have hm0 : 0 ≤ h / m := Int.ediv_nonneg e6 (by omega)
      have hm1 : h / m ≤ h := Int.ediv_le_self _ e6
      have hend := body_end (p := (k, hh)) hB rfl HD.out e9 (d + h / m) (0) (by rw [dfold_snoc, E8.out]; simp only [dstep, HK.out, Option.getD_some]; rw [Int.min_eq_left (by omega)]; simp) (by omega) (by omega) (by omega)
      have HE := Lib.hid hend; clear hend
      have hz0 : ¬ m = 0 := by omega
      have hq : Value.int .i64 (IntKind.i64.wrap (h.tdiv m)) = Value.int .i64 (h / m) := congrArg _ (IntWalk.i64_quo h m (by omega))
      have ha : Value.int .i64 (IntKind.i64.wrap (d + h / m)) = Value.int .i64 (d + h / m) := congrArg _ (IntWalk.i64_in _ (by omega))
      gi_wp2
      refine wpIn_round_still_tail 12 fol (by kernel_rfl) (by kernel_rfl) (by rintro ⟨_, _, hq⟩; exact hq) ?_
      simp only [List.take_succ_cons, List.take_zero, List.drop_succ_cons, List.drop_zero]
      repeat still_step
      refine wpStill_nil ?_
      clear hq ha hz0
      go_wp2
      gi_wp2
      obtain ⟨k1, k2, ⟨k3, k4⟩, k5⟩ := HE.out
      have k6 : (pre ++ [(⟨(k, hh), hk, hh0, hh1⟩ : Hx L)]).map Subtype.val = pre.map Subtype.val ++ [(k, hh)] := by rw [List.map_append]; rfl
      exact ⟨k1, k2, ⟨by rw [k6]; exact k3, k4⟩, k5⟩
    · have hm0 : 0 ≤ hh / m := Int.ediv_nonneg hh0 (by omega)
      have hm1 : hh / m ≤ hh := Int.ediv_le_self _ hh0
      have hend := body_end (p := (k, hh)) hB rfl HD.out e9 (d + hh / m) (h - hh) (by rw [dfold_snoc, E8.out]; simp only [dstep, HK.out, Option.getD_some]; rw [Int.min_eq_right (by omega)]) (by omega) (by omega) (by omega)
      have HE := Lib.hid hend; clear hend
      have hz0 : ¬ m = 0 := by omega
      have hq : Value.int .i64 (IntKind.i64.wrap (hh.tdiv m)) = Value.int .i64 (hh / m) := congrArg _ (IntWalk.i64_quo hh m (by omega))
      have ha : Value.int .i64 (IntKind.i64.wrap (d + hh / m)) = Value.int .i64 (d + hh / m) := congrArg _ (IntWalk.i64_in _ (by omega))
      gi_wp2
      refine wpIn_round_still_tail 12 fol (by kernel_rfl) (by kernel_rfl) (by rintro ⟨_, _, hq⟩; exact hq) ?_
      simp only [List.take_succ_cons, List.take_zero, List.drop_succ_cons, List.drop_zero]
      repeat still_step
      refine wpStill_nil ?_
      clear hq ha hz0
      go_wp2
      gi_wp2
      obtain ⟨k1, k2, ⟨k3, k4⟩, k5⟩ := HE.out
      have k6 : (pre ++ [(⟨(k, hh), hk, hh0, hh1⟩ : Hx L)]).map Subtype.val = pre.map Subtype.val ++ [(k, hh)] := by rw [List.map_append]; rfl
      exact ⟨k1, k2, ⟨by rw [k6]; exact k3, k4⟩, k5⟩
  case done =>
    rintro D ys W hD hys ⟨⟨⟨d, h, e1, e2, e3, e4, e5, e6, e7, e8⟩, e9⟩, hB⟩ hK
    have E8 := Lib.hid e8; clear e8
    have HY := Lib.hid hys; clear hys
    clear r1 r2
    gi_wp2
    refine ⟨by simp, .inl ⟨_, _, rfl, run_takeDeferred hK, ?_⟩⟩
    have fin : depthF ls ms H = d := by rw [depthF, ← HY.out, E8.out]
    exact ⟨_, results_tmp rfl _ _ _, by rw [fin]; rfl, hB.trans (belowK_b (w := w) (Nat.le_refl _) W D _ _ (by simp at hD; omega) hK rfl rfl)⟩
  case stop =>
    rintro D c pre W _ _ h _
    exact h.elim
end Go.Proofs.YtccekbdhffccdaaDoor
