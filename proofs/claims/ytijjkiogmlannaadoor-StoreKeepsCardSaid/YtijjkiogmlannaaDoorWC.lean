/- Stores: what comes of a plan, without the ships that never arrive, by the code. -/
import Derived.Test.YtijjkiogmlannaaDoorWB
namespace Go.Proofs.YtijjkiogmlannaaDoor
end Go.Proofs.YtijjkiogmlannaaDoor
namespace Go
section
variable {P : Program}
theorem tail_startX {ops : List Oper} (l : List Oper) (o : Oper) (hs : ops = l ++ [o]) {Q : Exit → Act → World → Prop} {a : Act} {w : World} (hT : tailXB l o = true)
    (h : wpAny P .any l.toArray (QT P o Q) l.toArray.size (Array.replicate l.toArray.size false) a { w with drawn := w.drawn + 1 }) : wpAny P .any ops.toArray Q ops.toArray.size (Array.replicate ops.toArray.size false) a { w with drawn := w.drawn + 1 } := by
  subst hs
  have h2 := tail_anyX (rkt_tail_okX hT) l.toArray.size (Array.replicate l.toArray.size false) a { w with drawn := w.drawn + 1 } (by simp) (by rw [show l.toArray.size = l.length by simp]; exact cl_start l) h
  have e1 : (l ++ [o]).toArray.size = l.toArray.size + 1 := by simp
  rw [e1, Array.replicate_succ]
  exact h2
end
end Go
namespace Go.Proofs.YtijjkiogmlannaaDoor
open Go.RowKit Go.Shelf
attribute [local go_sem] Oper.semAt_some

def sbCv (n q x Y : Nat) : Tmp → Value
  | 9 => .pointer (some ⟨n + 1 + 1 + 1, 0, none⟩)
  | 10 => .int .i64 (x : Int)
  | 33 => .int .i64 (q : Int)
  | 34 => .int .i64 (x : Int)
  | 35 => .int .i64 ((2 : Int) ^ x)
  | 36 => .int .i64 (Y : Int)
  | _ => undef
def lnCv (n B b o ns cs bi oi i ni ci x : Nat) (AI Ai : Option Addr) (mi cii : Nat) (s : Shp) (A : Int) (F : Bool) : Tmp → Value
  | 4 => .pointer (some ⟨n, 0, none⟩)
  | 6 => .pointer (some ⟨n + 1, 0, none⟩)
  | 10 => .int .i64 (x : Int)
  | 15 => .pointer (some ⟨B, 0, none⟩)
  | 16 => .pointer (some ⟨B, 0, none⟩)
  | 17 => .pointer (some ⟨B, 0, none⟩)
  | 18 => .pointer (some ⟨B, 9, none⟩)
  | 19 => .slice (some ⟨b, o, none⟩) ns cs
  | 20 => .int .i64 (x : Int)
  | 21 => .pointer (some ⟨b, o + x * 5, none⟩)
  | 22 => sV s
  | 23 => .pointer (some ⟨B, 0, none⟩)
  | 24 => .pointer (some ⟨B, 0, none⟩)
  | 25 => .pointer (some ⟨B, 0, none⟩)
  | 26 => .pointer (some ⟨B, 10, none⟩)
  | 27 => .slice AI ni ci
  | 28 => .int .i64 (i : Int)
  | 29 => .pointer (some ⟨bi, oi + i, none⟩)
  | 30 => .slice Ai mi cii
  | 31 => .int .i64 A
  | 32 => .bool F
  | _ => undef
def lnL (n B p i q : Nat) : List (Nat × Array Value × TypeId) := [(n, #[.pointer (some ⟨B, 0, none⟩)], 79), (n + 1, #[.int .i64 (i : Int)], 3), (n + 1 + 1, #[.int .i64 0, .int .i64 0, .int .i64 0], 130), (n + 1 + 1 + 1, #[.int .i64 (q : Int)], 3), (n + 1 + 1 + 1 + 1, #[.int .i64 (p : Int)], 3)]
theorem ln_set {n B p i q q' : Nat} {w W : World} (h : FI n w (lnL n B p i q) W) : FI n w (lnL n B p i q') (W.setCell ⟨n + 1 + 1 + 1, 0, none⟩ (.int .i64 (q' : Int))) :=
  h.put (b := n + 1 + 1 + 1) (cs := #[.int .i64 (q : Int)]) (t := 3) (by simp [lnL]) (by omega) fun x hx => by
    simp only [lnL, List.mem_cons, List.not_mem_nil, or_false] at hx ⊢
    rcases hx with rfl | rfl | rfl | rfl | rfl
    · exact .inr ⟨.inl rfl, by show n ≠ n + 1 + 1 + 1; omega⟩
    · exact .inr ⟨.inr (.inl rfl), by show n + 1 ≠ n + 1 + 1 + 1; omega⟩
    · exact .inr ⟨.inr (.inr (.inl rfl)), by show n + 1 + 1 ≠ n + 1 + 1 + 1; omega⟩
    · exact .inl rfl
    · exact .inr ⟨.inr (.inr (.inr (.inr rfl))), by show n + 1 + 1 + 1 + 1 ≠ n + 1 + 1 + 1; omega⟩
theorem five_new (w : World) (a b c d e : Obj) : ((((((w.alloc a).alloc b).alloc c).alloc d).alloc e).heap[w.heap.size]? = some a ∧ (((((w.alloc a).alloc b).alloc c).alloc d).alloc e).heap[w.heap.size + 1]? = some b ∧ (((((w.alloc a).alloc b).alloc c).alloc d).alloc e).heap[w.heap.size + 1 + 1]? = some c ∧ (((((w.alloc a).alloc b).alloc c).alloc d).alloc e).heap[w.heap.size + 1 + 1 + 1]? = some d ∧ (((((w.alloc a).alloc b).alloc c).alloc d).alloc e).heap[w.heap.size + 1 + 1 + 1 + 1]? = some e) ∧ Below w.heap.size w (((((w.alloc a).alloc b).alloc c).alloc d).alloc e) := by
  obtain ⟨h0, h1, h2, h3⟩ := three_new w a b c
  obtain ⟨g0, g1, g2⟩ := two_new (((w.alloc a).alloc b).alloc c) d e
  have es : (((w.alloc a).alloc b).alloc c).heap.size = w.heap.size + 1 + 1 + 1 := by simp
  rw [es] at g0 g1 g2
  have k := fun j (hj : j < w.heap.size + 1 + 1 + 1) => g2.block j hj
  exact ⟨⟨(k _ (by omega)).trans h0, (k _ (by omega)).trans h1, (k _ (by omega)).trans h2, g0, g1⟩, h3.trans (g2.mono (by omega))⟩
section
attribute [local irreducible] QT
set_option maxRecDepth 100000 in
set_option maxHeartbeats 8000000 in
theorem landing_any {X : SX} {w0 w : World} {B M : Nat} (h : LkAt X w0 B M w) (hX : X.In w0) (K : X.S.Ok) (p i n : Nat) (hp : p < 2 ^ X.ns) (hi : i < X.ni) :
    Calls Tryd.prog 93 #[.pointer (some ⟨B, 0, none⟩), .int .i64 (p : Int), .int .i64 (i : Int), .int .i64 (n : Int)] w fun e w' => e = .returned (keyV (X.S.strip p (X.S.ices.getD i [])) i n) ∧ Below w.heap.size w w' := by
  have n6 := K.n6; have hsl := hX.hs
  have hp64 : p < 64 := Nat.lt_of_lt_of_le hp (by rw [hsl] at n6; exact Nat.le_trans (Nat.pow_le_pow_right (by decide) n6) (by decide))
  obtain ⟨ice, hice⟩ := get_of_lt (l := X.S.ices) (k := i) (by rw [hX.hi]; exact hi)
  have e1 : X.S.ices.getD i [] = ice := by rw [List.getD_eq_getElem?_getD, hice]; rfl
  obtain ⟨bi, oi, Ai, mi, cii, eAI, hbi, hmi, d1, p1, _⟩ := grid_row hX.I hice
  have hland := K.ices ice (List.mem_of_getElem? hice)
  have HLAND : Hid (mi ≤ 8) := Lib.hid (by have h2 := K.land; rw [hmi]; omega)
  have HMI := Lib.hid hmi
  rw [e1]
  obtain ⟨y, hy⟩ := five_new w (.cells #[.pointer (some ⟨B, 0, none⟩)] 79) (.cells #[.int .i64 (i : Int)] 3) (.cells #[.int .i64 0, .int .i64 0, .int .i64 0] 130) (.cells #[.int .i64 (p : Int)] 3) (.cells #[.int .i64 (p : Int)] 3)
  obtain ⟨w4, hw4⟩ : ∃ z, (((w.alloc (.cells #[.pointer (some ⟨B, 0, none⟩)] 79)).alloc (.cells #[.int .i64 (i : Int)] 3)).alloc (.cells #[.int .i64 0, .int .i64 0, .int .i64 0] 130)).alloc (.cells #[.int .i64 (p : Int)] 3) = z := ⟨_, rfl⟩
  have hs4 : w4.heap.size = w.heap.size + 1 + 1 + 1 + 1 := by rw [← hw4]; simp
  rw [hw4] at y hy
  obtain ⟨w5, hw5⟩ : ∃ z, w4.alloc (.cells #[.int .i64 (p : Int)] 3) = z := ⟨_, rfl⟩
  rw [hw5] at y hy
  have HI5 : Hid (FI w.heap.size w (lnL w.heap.size B p i p) w5) := Lib.hid ⟨hy, fun x hx => by
    simp only [lnL, List.mem_cons, List.not_mem_nil, or_false] at hx
    rcases hx with rfl | rfl | rfl | rfl | rfl
    · exact y.1
    · exact y.2.1
    · exact y.2.2.1
    · exact y.2.2.2.1
    · exact y.2.2.2.2⟩
  have HCB : Hid (w5.cell? ⟨w.heap.size + 1 + 1 + 1 + 1, 0, none⟩ = some (.int .i64 (p : Int))) := Lib.hid (by
    have := cell_of_row w5 (w.heap.size + 1 + 1 + 1 + 1) 0 _ 3 (0, 0) (HI5.out.fix (w.heap.size + 1 + 1 + 1 + 1, #[.int .i64 (p : Int)], 3) (by simp [lnL]))
    simpa using this)
  have HSZ : Hid (w.heap.size + 1 + 1 + 1 + 1 < w5.heap.size) := Lib.hid (by rw [← hw5]; simp; omega)
  have HW4 := Lib.hid hw4; have HW5 := Lib.hid hw5; have HS4 := Lib.hid hs4; have HK := Lib.hid K; have HP := Lib.hid hp; have HLK := Lib.hid h; have HXX := Lib.hid hX; have HP64 := Lib.hid hp64
  have hi0 : (0 : Int) ≤ (i : Int) := by omega
  have hi1 : (i : Int) < (X.ni : Int) := by omega
  have HPN : Hid (((p : Nat) : Int) ≤ (2 ^ X.ns : Int) - 1) := Lib.hid (by
    have : ((p : Nat) : Int) < ((2 ^ X.ns : Nat) : Int) := Int.ofNat_lt.2 hp
    have e : ((2 ^ X.ns : Nat) : Int) = (2 : Int) ^ X.ns := by simp
    omega)
  have HST2 := Lib.hid (And.intro eAI (And.intro hbi d1)); have HP1 := Lib.hid p1
  clear y hy hw4 hw5 hs4 K h hX hp hp64 n6 hsl eAI hbi d1 p1 hland hmi e1 hice hi
  refine callsIn_wide.1 (callsIn_of_wp_marks (n := 5) Tryd.func93 rfl trivial (wpIn_wide.2 ?_) rfl)
  simp only [Tryd.ntmps93, List.size_toArray, List.length_cons, List.length_nil, Nat.reduceAdd, Nat.reduceSub, Array.replicate_succ, Array.replicate_zero, List.push_toArray, List.append_toArray, List.nil_append, List.cons_append]
  go_wp2_with fail
  rw [HW4.out]
  refine (shipsOf_any _ _).mono ?_
  rintro e w' ⟨rfl, rfl⟩
  rw [HW5.out, HS4.out]
  go_wp2_with fail
  refine (wpIn_wide (n := 3)).1 ?_
  refine wpIn_rangeFunc_ownF rfl (by decide) (gf := 90) (lb := #[.pointer (some ⟨w.heap.size + 1 + 1 + 1 + 1, 0, none⟩)]) rfl trivial (enters_of Tryd.func90 (by kernel_rfl) rfl)
    (plan_stops (3 - 1) (by decide) (w.heap.size + 1 + 1 + 1 + 1) w.heap.size (p : Int) w5 HSZ.out HCB.out)
    kpB_t (kpB_b (by have := HSZ.out; omega) HSZ.out) (Below.refl _ _) (fun _ => rfl)
    (fun pre Wt => FI w.heap.size w (lnL w.heap.size B p i (stripL (X.S.no ice) p (pre.map Subtype.val))) Wt)
    (fun _ _ _ => False)
    (fun pre A B row hs hg hr => hs.own (N := w5.heap.size) (by have := HSZ.out; omega) hs.bel.size hg hr)
    (fun _ _ _ _ _ hs _ _ => hs)
    (show FI _ _ _ _ from HI5.out)
    (fun x => { tmps := List.toArray ((Value.pointer (some ⟨B, 0, none⟩)) :: (Value.int .i64 (p : Int)) :: (Value.int .i64 (i : Int)) :: (Value.int .i64 (n : Int)) :: (Value.pointer (some ⟨w.heap.size, 0, none⟩)) :: undef :: (Value.pointer (some ⟨w.heap.size + 1, 0, none⟩)) :: undef :: (Value.pointer (some ⟨w.heap.size + 1 + 1, 0, none⟩)) :: (Value.pointer (some ⟨w.heap.size + 1 + 1 + 1, 0, none⟩)) :: (Value.int .i64 (x.1 : Int)) :: (Value.int .i64 (p : Int)) :: (Value.int .i64 (p : Int)) :: (Value.func (.func 90) #[] #[.pointer (some ⟨w.heap.size + 1 + 1 + 1 + 1, 0, none⟩)]) :: (Value.int .i64 (x.1 : Int)) :: undef :: undef :: undef :: undef :: undef :: undef :: undef :: undef :: undef :: undef :: undef :: undef :: undef :: undef :: undef :: undef :: undef :: undef :: undef :: undef :: undef :: undef :: undef :: undef :: undef :: undef :: []), defers := [] }) ?assign ?body ?done ?stop
  case assign =>
    intro l x Wt Kk hK
    gi_wp2
    exact hK
  case body =>
    rintro l pre ⟨x, hx6, hxj⟩ Wt hI hlen
    have HI := Lib.hid hI
    have hxn := jack_lt (np := X.ns) (Int.natCast_nonneg p) HPN.out hxj
    have hx0 : (0 : Int) ≤ (x : Int) := by omega
    have hx1 : (x : Int) < (X.ns : Int) := by omega
    obtain ⟨s, hs⟩ := get_of_lt (l := X.S.ships) (k := x) (by rw [HXX.out.hs]; exact hxn)
    have hsh : X.S.ship x = s := by unfold Sto.ship; rw [List.getD_eq_getElem?_getD, hs]; rfl
    have hsw := (shpB_iff.1 (HK.out.ships s (List.mem_of_getElem? hs))).1
    obtain ⟨b, o, hA, hbb, c0, c1, c2, c3, c4⟩ := sh_el (RowAt.next (k := 5) (R := shR) HXX.out.P (HLK.out.bel.trans (hI.bel.mono HLK.out.bel.size)) (Nat.le_trans HLK.out.bel.size hI.bel.size)) hs
    have HST := Lib.hid (And.intro hA hbb); have HC5 := Lib.hid (And.intro c0 (And.intro c1 (And.intro c2 (And.intro c3 c4))))
    have KA : Hid (∀ u, Below Wt.heap.size Wt u → Calls Tryd.prog 81 #[sV s, .slice Ai mi cii] u fun e w' => e = .returned (.int .i64 (arrI ice s.w.toNat)) ∧ Below u.heap.size u w') := Lib.hid fun u hu => arrival_any s Ai mi cii ice u HMI.out.symm (by have := HLAND.out; unfold maxLen; omega) (by omega) (RowAt.next (k := 1) (R := boolR) HP1.out ((HLK.out.bel.trans (HI.out.bel.mono HLK.out.bel.size)).trans (hu.mono (Nat.le_trans HLK.out.bel.size HI.out.bel.size))) (Nat.le_trans (Nat.le_trans HLK.out.bel.size HI.out.bel.size) hu.size))
    obtain ⟨q, hq⟩ : ∃ z, stripL (X.S.no ice) p (pre.map Subtype.val) = z := ⟨_, rfl⟩
    have HQ : Hid (stripL (X.S.no ice) p ((pre ++ [(⟨x, hx6, hxj⟩ : PX (p : Int))]).map Subtype.val) = stripF (X.S.no ice) q x) := Lib.hid (by rw [List.map_append, ← hq]; unfold stripL; rw [List.foldl_append]; rfl)
    have hq64 : q < 64 := by rw [← hq]; exact Nat.lt_of_le_of_lt (stripL_le _ _ _) HP64.out
    have HQ64 := Lib.hid hq64
    rw [hq] at HI hI
    have HNO : Hid (X.S.no ice x = decide (arrI ice s.w.toNat = -1)) := Lib.hid (by unfold Sto.no; rw [hsh])
    obtain ⟨A, hAA⟩ : ∃ z, arrI ice s.w.toNat = z := ⟨_, rfl⟩
    rw [hAA] at KA HNO
    obtain ⟨F, hF⟩ : ∃ z, (A == (-1 : Int)) = z := ⟨_, rfl⟩
    have HFF := Lib.hid hF
    have fol : Tryd.prog.follows .mixedOrders = true := by kernel_rfl
    clear hI hs hsh hsw hA hbb c0 c1 c2 c3 c4 hq hAA hq64
    dsimp only
    gi_wp2
    refine wpIn_region_any fol (wpAnyIn_round_of_wpAny (by kernel_rfl) (by rintro ⟨_, _, hq⟩; exact hq) _ _ _ _ ?_)
    refine rel_any [4, 6, 10] [] (lnCv w.heap.size B b o X.ns X.cs bi oi i X.ni X.ci x (some ⟨bi, oi, none⟩) Ai mi cii s A F) noF (by kernel_rfl) (by kernel_rfl) (by kernel_rfl) (by kernel_rfl) (by kernel_rfl) ?_ (fun _ _ _ _ _ _ => trivial) ?_ ?_
    · intro t ht
      simp only [List.mem_cons, List.not_mem_nil, or_false] at ht
      rcases ht with rfl | rfl | rfl <;> rfl
    · refine allOps_array ?_
      have hI2 : ∀ u : KeptW Wt, FI w.heap.size w (lnL w.heap.size B p i q) u.w := fun u => HI.out.up HI.out.bel.size u.h
      have hL2 : ∀ u : KeptW Wt, LkAt X w0 B M u.w := fun u => (HLK.out.up HI.out.bel).up u.h
      refine ⟨?_, ?_, ?_, ?_, ?_, ?_, ?_, ?_, ?_, ?_, ?_, ?_, ?_, ?_, ?_, ?_, ?_, ?_, trivial⟩ <;> intro g u hd_ <;> obtain ⟨_, _, _, r9, r10, _⟩ := lk_cells (hL2 u) <;> rw [HST.out.1] at r9 <;> have x0 := cell_of_row u.w w.heap.size 0 _ 79 (0, 0) ((hI2 u).fix (w.heap.size, #[.pointer (some ⟨B, 0, none⟩)], 79) (by simp [lnL])) <;> have x1 := cell_of_row u.w (w.heap.size + 1) 0 _ 3 (0, 0) ((hI2 u).fix (w.heap.size + 1, #[.int .i64 (i : Int)], 3) (by simp [lnL])) <;> simp at x0 x1 <;> have c0 := ((bcell u.h).1 _ _ HST.out.2).trans HC5.out.1 <;> have c1 := ((bcell u.h).1 _ _ HST.out.2).trans HC5.out.2.1 <;> have c2 := ((bcell u.h).1 _ _ HST.out.2).trans HC5.out.2.2.1 <;> have c3 := ((bcell u.h).1 _ _ HST.out.2).trans HC5.out.2.2.2.1 <;> have c4 := ((bcell u.h).1 _ _ HST.out.2).trans HC5.out.2.2.2.2 <;> have d1 := ((bcell (hL2 u).bel).1 _ (oi + i) HST2.out.2.1).trans HST2.out.2.2 <;> rw [HST2.out.1] at r10
      · refine ⟨rfl, relQ 15 rfl trivial ?_⟩
        simp [go_sem, evalBy, rhoT, relOf, lnCv, x0]
      · refine ⟨rfl, relQ 16 rfl trivial ?_⟩
        simp [go_sem, evalBy, rhoT, relOf, lnCv]
      · refine ⟨rfl, relQ 17 rfl trivial ?_⟩
        simp [go_sem, evalBy, rhoT, relOf, lnCv]
      · refine ⟨rfl, relQ 18 rfl trivial ?_⟩
        simp [go_sem, evalBy, rhoT, relOf, lnCv]
      · refine ⟨rfl, relQ 19 rfl trivial ?_⟩
        simp [go_sem, evalBy, rhoT, relOf, lnCv, r9]
      · refine ⟨rfl, relQ 20 rfl trivial ?_⟩
        simp [go_sem, evalBy, rhoT, relOf, lnCv]
      · refine ⟨rfl, relQ 21 rfl trivial ?_⟩
        simp [go_sem, evalBy, rhoT, relOf, lnCv, hx0, hx1]
      · refine ⟨rfl, relQ 22 rfl trivial ?_⟩
        simp [go_sem, evalBy, rhoT, relOf, lnCv, c0, c1, c2, c3, c4]
      · refine ⟨rfl, relQ 23 rfl trivial ?_⟩
        simp [go_sem, evalBy, rhoT, relOf, lnCv, x0]
      · refine ⟨rfl, relQ 24 rfl trivial ?_⟩
        simp [go_sem, evalBy, rhoT, relOf, lnCv]
      · refine ⟨rfl, relQ 25 rfl trivial ?_⟩
        simp [go_sem, evalBy, rhoT, relOf, lnCv]
      · refine ⟨rfl, relQ 26 rfl trivial ?_⟩
        simp [go_sem, evalBy, rhoT, relOf, lnCv]
      · refine ⟨rfl, relQ 27 rfl trivial ?_⟩
        simp [go_sem, evalBy, rhoT, relOf, lnCv, r10]
      · refine ⟨rfl, relQ 28 rfl trivial ?_⟩
        simp [go_sem, evalBy, rhoT, relOf, lnCv, x1]
      · refine ⟨rfl, relQ 29 rfl trivial ?_⟩
        simp [go_sem, evalBy, rhoT, relOf, lnCv, hi0, hi1]
      · refine ⟨rfl, relQ 30 rfl trivial ?_⟩
        simp [go_sem, evalBy, rhoT, relOf, lnCv, d1]
      · refine ⟨rfl, relK 31 rfl (fun _ => trivial) 81 #[sV s, .slice Ai mi cii] (by simp [go_sem, evalBy, rhoT, relOf, lnCv]) ?_⟩
        exact KA.out u.w u.h
      · refine ⟨rfl, relQ 32 rfl trivial ?_⟩
        simp [go_sem, evalBy, rhoT, relOf, lnCv, hF]
    · intro g u hf
      have HU := Lib.hid (HI.out.up HI.out.bel.size u.h)
      have HUB := Lib.hid u.h
      obtain ⟨wu, hwo⟩ : ∃ z, u.w = z := ⟨_, rfl⟩
      rw [hwo] at HU HUB ⊢
      have x3 := cell_of_row wu (w.heap.size + 1 + 1 + 1) 0 _ 3 (0, 0) (HU.out.fix (w.heap.size + 1 + 1 + 1, #[.int .i64 (q : Int)], 3) (by simp [lnL]))
      simp at x3
      have f3 : wu.frozen? ⟨w.heap.size + 1 + 1 + 1, 0, none⟩ = false := by
        have := HU.out.fix (w.heap.size + 1 + 1 + 1, #[.int .i64 (q : Int)], 3) (by simp [lnL])
        simp only at this
        simp [World.frozen?, this]
      simp [putAll, Act.put, rhoT, relOf, lnCv]
      clear hf hwo hF
      cases F with
      | false =>
        have hne : ¬ A = -1 := by have := HFF.out; simpa using this
        gi_wp2
        refine ⟨ko_below HUB.out, ⟨HUB.out.mono HI.out.bel.size, (bcell HUB.out).1 _ 0 (heapsz (HI.out.fix (w.heap.size + 1 + 1 + 1 + 1, #[.int .i64 (p : Int)], 3) (by simp [lnL])))⟩, ?_⟩
        show FI _ _ (lnL _ B p i (stripL (X.S.no ice) p ((pre ++ [(⟨x, hx6, hxj⟩ : PX (p : Int))]).map Subtype.val))) _
        rw [HQ.out]
        unfold stripF
        rw [HNO.out, decide_eq_false hne, if_neg (by simp)]
        exact HU.out
      | true =>
        have hee : A = -1 := by have := HFF.out; simpa using this
        have hsl : IntKind.i64.wrap ((2 : Int) ^ x) = (2 : Int) ^ x := by
          rcases (show x = 0 ∨ x = 1 ∨ x = 2 ∨ x = 3 ∨ x = 4 ∨ x = 5 by omega) with rfl | rfl | rfl | rfl | rfl | rfl <;> decide
        have hst : (bits .andNot .i64 (q : Int) ((2 : Int) ^ x)) = (stripB q x : Int) := by have := andnot_strip q HQ64.out x hx6; simpa using this
        have hx64 : (x : Int) ≤ 64 := by omega
        obtain ⟨Y, hY⟩ : ∃ z, stripB q x = z := ⟨_, rfl⟩
        rw [hY] at hst
        have HYY := Lib.hid hY
        clear hY x3 f3
        gi_wp2
        refine wpIn_region_any fol (wpAnyIn_round_of_wpAny (by kernel_rfl) (by rintro ⟨_, _, hq⟩; exact hq) _ _ _ _ ?_)
        refine tail_startX [_, _, _, _] _ rfl (by kernel_rfl) ?_
        refine rel_any [9, 10] [] (sbCv w.heap.size q x Y) noF (by kernel_rfl) (by kernel_rfl) (by kernel_rfl) (by kernel_rfl) (by kernel_rfl) ?_ (fun _ _ _ _ _ _ => trivial) ?_ ?_
        · intro t ht
          simp only [List.mem_cons, List.not_mem_nil, or_false] at ht
          rcases ht with rfl | rfl <;> rfl
        · refine allOps_array ?_
          refine ⟨?_, ?_, ?_, ?_, trivial⟩ <;> intro g u hd_ <;> have x3 := cell_of_row u.w (w.heap.size + 1 + 1 + 1) 0 _ 3 (0, 0) ((HU.out.up HU.out.bel.size u.h).fix (w.heap.size + 1 + 1 + 1, #[.int .i64 (q : Int)], 3) (by simp [lnL])) <;> simp at x3
          · refine ⟨rfl, relQ 33 rfl trivial ?_⟩
            simp [go_sem, evalBy, rhoT, relOf, sbCv, x3]
          · refine ⟨rfl, relQ 34 rfl trivial ?_⟩
            simp [go_sem, evalBy, rhoT, relOf, sbCv]
          · refine ⟨rfl, relQ 35 rfl trivial ?_⟩
            simp [go_sem, evalBy, rhoT, relOf, sbCv, hsl]
          · refine ⟨rfl, relQ 36 rfl trivial ?_⟩
            simp [go_sem, evalBy, rhoT, relOf, sbCv, hst]
        · intro g u hf
          have HU2 := HU.out.up HU.out.bel.size u.h
          have h3 := HU2.fix (w.heap.size + 1 + 1 + 1, #[.int .i64 (q : Int)], 3) (by simp [lnL])
          simp only at h3
          have x3 := cell_of_row u.w (w.heap.size + 1 + 1 + 1) 0 _ 3 (0, 0) h3
          simp at x3
          have f3 : u.w.frozen? ⟨w.heap.size + 1 + 1 + 1, 0, none⟩ = false := by simp [World.frozen?, h3]
          have HS2 := ln_set (q' := Y) HU2
          have hub := HUB.out.trans (u.h.mono HUB.out.size)
          simp only [QT]
          unfold Oper.wp
          simp [go_sem, putAll, Act.put, rhoT, relOf, sbCv, x3, f3, Exit.inBlock]
          refine ⟨(ko_below hub).trans (KeepsOthers.setCell _ _ _), ⟨(hub.mono HI.out.bel.size).setCell (p := ⟨w.heap.size + 1 + 1 + 1, 0, none⟩) (by show w.heap.size ≤ w.heap.size + 1 + 1 + 1; omega) _, ?_⟩, ?_⟩
          · exact (World.cell?_setCell_other _ _ _ _ (fun e => by injection e with e; omega)).trans ((bcell hub).1 _ 0 (heapsz (HI.out.fix (w.heap.size + 1 + 1 + 1 + 1, #[.int .i64 (p : Int)], 3) (by simp [lnL]))))
          · show FI _ _ (lnL _ B p i (stripL (X.S.no ice) p ((pre ++ [(⟨x, hx6, hxj⟩ : PX (p : Int))]).map Subtype.val))) _
            rw [HQ.out]
            unfold stripF
            rw [HNO.out, hee, decide_eq_true rfl, if_pos rfl, HYY.out]
            exact HS2
  case done =>
    rintro D ys Wt hD hys hI hK
    rw [hys] at hI
    have HI := Lib.hid hI
    have HM : Hid (Marks Wt w5.heap.size [D]) := Lib.hid ⟨by simp, fun E hE => by rw [List.mem_singleton.1 hE]; exact ⟨hD, hK⟩⟩
    have x1 := cell_of_row Wt (w.heap.size + 1) 0 _ 3 (0, 0) (hI.fix (w.heap.size + 1, #[.int .i64 (i : Int)], 3) (by simp [lnL]))
    have x3 := cell_of_row Wt (w.heap.size + 1 + 1 + 1) 0 _ 3 (0, 0) (hI.fix (w.heap.size + 1 + 1 + 1, #[.int .i64 (stripL (X.S.no ice) p (pilL (p : Int)) : Int)], 3) (by simp [lnL]))
    have z2 := hI.fix (w.heap.size + 1 + 1, #[.int .i64 0, .int .i64 0, .int .i64 0], 130) (by simp [lnL])
    simp only at z2
    simp at x1 x3
    obtain ⟨y0, y1, y2⟩ := box3_cells z2
    have fZ : ∀ k, Wt.frozen? ⟨w.heap.size + 1 + 1, k, none⟩ = false := fun k => by simp [World.frozen?, z2]
    have f0 := fZ 0; have f1 := fZ 1; have f2 := fZ 2
    have HE : Hid (stripL (X.S.no ice) p (pilL (p : Int)) = X.S.strip p ice) := Lib.hid rfl
    obtain ⟨R, hR⟩ : ∃ z, stripL (X.S.no ice) p (pilL (p : Int)) = z := ⟨_, rfl⟩
    rw [hR] at x3 HE HI
    have HZ := Lib.hid z2
    clear hI hK hys hR z2 fZ
    simp only [Exit.inBlock, Exit.then]
    go_wp2_with fail
    have z9 := blk_set (blk_set (blk_set HZ.out 0 (.int .i64 (R : Int))) 1 (.int .i64 (i : Int))) 2 (.int .i64 (n : Int))
    have o9 := (set3_only Wt (w.heap.size + 1 + 1) 0 (.int .i64 (R : Int)) (.int .i64 (i : Int)) (.int .i64 (n : Int))).2
    simp only [Nat.zero_add] at o9
    have hb9 := ((HI.out.bel.setCell (p := ⟨w.heap.size + 1 + 1, 0, none⟩) (by show w.heap.size ≤ w.heap.size + 1 + 1; omega) (.int .i64 (R : Int))).setCell (p := ⟨w.heap.size + 1 + 1, 1, none⟩) (by show w.heap.size ≤ w.heap.size + 1 + 1; omega) (.int .i64 (i : Int))).setCell (p := ⟨w.heap.size + 1 + 1, 2, none⟩) (by show w.heap.size ≤ w.heap.size + 1 + 1; omega) (.int .i64 (n : Int))
    have hm9 : Marks (((Wt.setCell ⟨w.heap.size + 1 + 1, 0, none⟩ (.int .i64 (R : Int))).setCell ⟨w.heap.size + 1 + 1, 1, none⟩ (.int .i64 (i : Int))).setCell ⟨w.heap.size + 1 + 1, 2, none⟩ (.int .i64 (n : Int))) w5.heap.size [D] := ⟨by simp, fun E hE => ⟨(HM.out.2 E hE).1, (o9 E (by have := (HM.out.2 E hE).1; have := HSZ.out; omega)).trans (HM.out.2 E hE).2⟩⟩
    refine leaves_marks [D] _ hm9 (fun w' hk => ?_)
    obtain ⟨g0, g1, g2⟩ := box3_cells (hk.2 _ _ _ _ z9)
    refine ⟨keyV R i n, by simp [results, Tryd.results93, go_sem, g0, g1, g2, keyV], ?_⟩
    exact ⟨by rw [HE.out], hb9.trans (hk.1.mono (by have := HSZ.out; omega))⟩
  case stop =>
    rintro D c pre W _ _ h _
    exact h.elim
end
end Go.Proofs.YtijjkiogmlannaaDoor
