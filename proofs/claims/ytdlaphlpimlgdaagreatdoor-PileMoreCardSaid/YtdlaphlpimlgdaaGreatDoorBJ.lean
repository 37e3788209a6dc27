/- The planner: what the one group of the example costs. -/
import Derived.StillTailTactics
import Derived.Test.YtdlaphlpimlgdaaGreatDoorBG
namespace Go.Proofs.YtdlaphlpimlgdaaGreatDoor
open Go.RowKit Go.Shelf
open Go.ChangeMaps (setBlock heap_setBlock_same heap_setBlock_other)
attribute [local go_sem] Oper.semAt_some

/-- All below is kept, but for one block. -/
structure BelX (bm n : Nat) (w w' : World) : Prop where
  os : w'.os = w.os
  tape : w'.tape = w.tape
  output : w'.output = w.output
  size : w.heap.size ≤ w'.heap.size
  block : ∀ k, k < n → k ≠ bm → w'.heap[k]? = w.heap[k]?
theorem BelX.of {bm n : Nat} {w w' : World} (h : Below n w w') : BelX bm n w w' := ⟨h.os, h.tape, h.output, h.size, fun k hk _ => h.block k hk⟩
theorem BelX.trans {bm n : Nat} {a b c : World} (h : BelX bm n a b) (k : BelX bm n b c) : BelX bm n a c := ⟨k.os.trans h.os, k.tape.trans h.tape, k.output.trans h.output, Nat.le_trans h.size k.size, fun i hi hn => (k.block i hi hn).trans (h.block i hi hn)⟩
theorem BelX.mono {bm n m : Nat} {w w' : World} (h : BelX bm n w w') (hm : m ≤ n) : BelX bm m w w' := ⟨h.os, h.tape, h.output, h.size, fun k hk hn => h.block k (by omega) hn⟩
theorem BelX.below {bm n m : Nat} {w w' : World} (h : BelX bm n w w') (h1 : m ≤ n) (h2 : m ≤ bm) : Below m w w' := ⟨h.os, h.tape, h.output, h.size, fun k hk => h.block k (by omega) (by omega)⟩
theorem belX_set (bm n : Nat) (w : World) (o : Obj) : BelX bm n w (setBlock w bm o) := ⟨rfl, rfl, rfl, by simp [setBlock], fun k _ hn => by simp [setBlock, Ne.symm hn]⟩
/-- A planner whose map may have changed. -/
theorem plb {X : Ctx} {LL : List (List Sp)} {p bm : Nat} {A3 : Option Addr} {c3 : Nat} {w0 w w' : World} (hX : X.At w0) (hL : SpsAt w0 w0.heap.size A3 LL) (hlen : LL.length = X.n) (hrows : ∀ row ∈ LL, row.length = X.np ∧ ∀ x ∈ row, spLo x) (hb : Below w0.heap.size w0 w) (hbm : w0.heap.size ≤ bm)
    (hz : w.heap[p]? = some (.cells #[.pointer (some ⟨X.G, 0, none⟩), .slice A3 X.n c3, .map (some bm)] 167 (0, 0))) (hm : ∃ es c, w.heap[bm]? = some (.map es c)) (h : BelX bm w.heap.size w w') : PlAt X LL p A3 c3 (.map (some bm)) w' := by
  have hb2 : Below w0.heap.size w0 w' := hb.trans (h.below hb.size hbm)
  obtain ⟨es, c, hm⟩ := hm
  refine ⟨(h.block p (heapsz hz) (fun e => ?_)).trans hz, hX.up hb2, hL.up hb2, hlen, hrows⟩
  rw [e, hm] at hz
  cases hz
/-- What is yielded: a place, and the next one. -/
abbrev YX (m k : Nat) := { x : Nat × Nat // x.1 < m ∧ x.2 < k }
def yE (y m k : Nat) (hm : 0 < m) (hk : 0 < k) (a b : Nat) : YX m k := ⟨(min (a * (y + 1) + b) (m - 1), min (a * (y + 2) + b) (k - 1)), by constructor <;> simp only <;> omega⟩
abbrev nev : Int := 61000000
theorem place31 : plN 3 1 = 4 := by kernel_rfl
theorem place30 : plN 3 0 = 1 := by kernel_rfl
def cst (L : List Value) (f : Nat → Int) (xs : List (Nat × Nat)) : List Value := xs.foldl (fun L x => L.set x.1 (.int .i64 (f x.2))) L
theorem st1 : (en2 (fun _ => true) (fun a _ => decide (a = 1)) (yE 1 4 9 (by decide) (by decide)) 1 (1 + 1)).map Subtype.val = [(2, 3), (3, 4)] := by kernel_rfl
theorem ct1 : cst (rowV nev 4 4) (fun _ => 0) [(2, 3), (3, 4)] = [.int .i64 nev, .int .i64 nev, .int .i64 0, .int .i64 0] := by kernel_rfl
theorem drew_b1 (W : World) : Below W.heap.size W W.drew := (Below.refl _ _).drew
theorem st0 : (en2 (fun _ => true) (fun _ _ => true) (yE 0 1 1 (by decide) (by decide)) 0 (0 + 1)).map Subtype.val = [(0, 0)] := by kernel_rfl
theorem ct0 : cst (rowV nev 1 1) (fun _ => 5) [(0, 0)] = [.int .i64 5] := by kernel_rfl
theorem cst_snoc (L : List Value) (f : Nat → Int) (xs : List (Nat × Nat)) (x : Nat × Nat) : cst L f (xs ++ [x]) = (cst L f xs).set x.1 (.int .i64 (f x.2)) := by unfold cst; rw [List.foldl_append]; rfl
theorem cst_len (f : Nat → Int) : ∀ (xs : List (Nat × Nat)) (L : List Value), (cst L f xs).length = L.length
  | [], _ => rfl
  | x :: xs, L => by
    show (cst (L.set x.1 _) f xs).length = _
    rw [cst_len f xs, List.length_set]
set_option maxRecDepth 100000 in
set_option maxHeartbeats 4000000 in
theorem cost_X {X : Ctx} (K : X.Ok) (hord : ∀ q ∈ X.qs, q.1 < q.2) (hnp : X.np = 2) (hn : X.n = 2) {LL : List (List Sp)} {p bm clock : Nat} {A3 : Option Addr} {c3 : Nat} {w0 w : World} (hX : X.At w0) (hL : SpsAt w0 w0.heap.size A3 LL) (hlen : LL.length = X.n) (hrows : ∀ row ∈ LL, row.length = X.np ∧ ∀ x ∈ row, spLo x)
    (hb : Below w0.heap.size w0 w) (hbm : w0.heap.size ≤ bm) (hz : w.heap[p]? = some (.cells #[.pointer (some ⟨X.G, 0, none⟩), .slice A3 X.n c3, .map (some bm)] 167 (0, 0))) (hm : w.heap[bm]? = some (.map #[] clock))
    (h10 : ∀ a b, a ≤ 1 → b ≤ 1 → standB X LL [((a : Nat) : Int), ((b : Nat) : Int), 0, 0, 0, 0] 1 0 = true) (h11 : ∀ a b, a ≤ 1 → b ≤ 1 → standB X LL [((a : Nat) : Int), ((b : Nat) : Int), 0, 0, 0, 0] 1 1 = decide (a = 1))
    (h00 : standB X LL [((0 : Nat) : Int), ((0 : Nat) : Int), 0, 0, 0, 0] 0 0 = true) (h01 : standB X LL [((0 : Nat) : Int), ((0 : Nat) : Int), 0, 0, 0, 0] 0 1 = true)
    (hch1 : chosenF X 3 1 [nev, nev, 0, 0] = [5, 5, 0, 0]) :
    Calls Tryz.prog 119 #[.pointer (some ⟨p, 0, none⟩), .int .i64 3] w fun e w' => e = .returned (.int .i64 5) ∧ BelX bm w.heap.size w w' ∧ ∃ g1 v0 k1 k0 clock', w'.heap[bm]? = some (.map #[⟨keyV 3 1, .slice (some ⟨g1, 0, none⟩) 4 4, k1⟩, ⟨keyV 3 0, v0, k0⟩] clock') ∧ w.heap.size ≤ g1 ∧ w'.heap[g1]? = some (.cells #[.int .i64 nev, .int .i64 nev, .int .i64 0, .int .i64 0] 3 (0, 0)) := by
  have HK := Lib.hid K
  have HP : Hid (∀ w', BelX bm w.heap.size w w' → PlAt X LL p A3 c3 (.map (some bm)) w') := Lib.hid fun w' h => plb hX hL hlen hrows hb hbm hz ⟨_, _, hm⟩ h
  have hPW := HP.out w (BelX.of (Below.refl _ _))
  obtain ⟨p0, _, p2⟩ := hPW.cells
  obtain ⟨_, _, _, _, _, _, g6⟩ := look_cells hPW.x.g
  rw [hn] at g6
  have lp := heapsz hz
  have lG := heapsz hPW.x.g
  have HMAP := Lib.hid hm
  have HORD := Lib.hid hord
  have H10 := Lib.hid h10; have H11 := Lib.hid h11; have H00 := Lib.hid h00; have H01 := Lib.hid h01; have HC1 := Lib.hid hch1
  have hba := (Below.refl w.heap.size w).alloc (Nat.le_refl _) (.cells #[.slice none 0 0] 34)
  have zl := heap_alloc_new w (.cells #[.slice none 0 0] 34)
  have p0' := ((bcell hba).1 _ 0 lp).trans p0
  have g6' := ((bcell hba).1 _ 6 lG).trans g6
  have HBA := Lib.hid hba; have ZL := Lib.hid zl
  clear hPW hX hL hlen hrows hb hz hm hord h10 h11 h00 h01 hch1 K p0 g6 p2 hba zl
  refine callsIn_wide.1 (callsIn_of_wp_marks (n := 5) Tryz.func119 rfl trivial (wpIn_wide.2 ?_) rfl)
  simp only [Tryz.ntmps119, List.size_toArray, List.length_cons, List.length_nil, Nat.reduceAdd, Nat.reduceSub, Array.replicate_succ, Array.replicate_zero, List.push_toArray, List.append_toArray, List.nil_append, List.cons_append]
  go_wp2_with fail
  generalize w.alloc (.cells #[.slice none 0 0] 34) = wa at *
  refine wp_loop_rounds 3 ?_
  rw [rounds_succ]
  go_wp2_with fail
  have hba2 := (Below.refl wa.heap.size wa).alloc (Nat.le_refl _) (.cells #[.int .i64 61000000] 3)
  have zx := heap_alloc_new wa (.cells #[.int .i64 61000000] 3)
  have HP1 : Hid (Calls Tryz.prog 136 #[.int .i64 3, .int .i64 1] (wa.alloc (.cells #[.int .i64 61000000] 3)) fun e w' => e = .returned (.int .i64 4) ∧ Below (wa.alloc (.cells #[.int .i64 61000000] 3)).heap.size (wa.alloc (.cells #[.int .i64 61000000] 3)) w') := Lib.hid ((places_any 3 1 (by decide) _).mono (by
    rintro e w' ⟨rfl, h⟩
    exact ⟨by rw [place31]; rfl, h⟩))
  have HA2 := Lib.hid hba2; have ZX := Lib.hid zx
  clear hba2 zx p0' g6'
  refine HP1.out.mono ?_
  rintro e wb ⟨rfl, hbb⟩
  have zx := (hbb.block _ (heapsz ZX.out)).trans ZX.out
  have HBB := Lib.hid (HA2.out.trans (hbb.mono HA2.out.size))
  have HR1 : Hid (Calls Tryz.prog 135 #[.slice (some ⟨wa.heap.size, 0, none⟩) 1 1, .int .i64 4] wb fun e w' => ∃ g, e = .returned (.slice (some ⟨g, 0, none⟩) 4 4) ∧ w'.heap[g]? = some (.cells (rowV nev 4 4).toArray 3 (0, 0)) ∧ wb.heap.size ≤ g ∧ Below wb.heap.size wb w') :=
    Lib.hid (repeat_any nev wa.heap.size 1 4 (by decide) (by decide) wb (cell_of_row wb _ 0 _ 3 (0, 0) zx) (heapsz zx))
  clear hbb zx ZX HP1 HA2
  go_wp2_with fail
  refine HR1.out.mono ?_
  rintro e wc ⟨g, rfl, zg, hgb, hbc⟩
  have HG := Lib.hid zg
  have HGB : Hid (wa.heap.size ≤ g) := Lib.hid (Nat.le_trans HBB.out.size hgb)
  have HBC := Lib.hid (HBB.out.trans (hbc.mono HBB.out.size))
  clear zg hgb hbc HBB HR1
  have hbd := (Below.refl wc.heap.size wc).alloc (Nat.le_refl _) (.cells #[.slice (some ⟨g, 0, none⟩) 4 4] 34)
  have zc := heap_alloc_new wc (.cells #[.slice (some ⟨g, 0, none⟩) 4 4] 34)
  have HBD := Lib.hid hbd; have ZC := Lib.hid zc
  have ZG := Lib.hid ((hbd.block _ (heapsz HG.out)).trans HG.out)
  have HSC : Hid (g < wc.heap.size) := Lib.hid (heapsz HG.out)
  clear hbd zc HG
  go_wp2_with fail
  generalize wc.alloc (.cells #[.slice (some ⟨g, 0, none⟩) 4 4] 34) = wd at *
  have HST : Hid (Calls Tryz.prog 137 #[.pointer (some ⟨p, 0, none⟩), .int .i64 3, .int .i64 1] wd fun e w' => ∃ bq bpl cpl yb pb cs, e = .returned (.func (.func 154) #[] #[.pointer (some ⟨bq, 0, none⟩), .pointer (some ⟨yb, 0, none⟩), .pointer (some ⟨pb, 0, none⟩)]) ∧ StIt wd p 1 bq bpl cpl yb pb cs w') := Lib.hid (standing_any p 1 wd)
  refine HST.out.mono ?_
  rintro e we ⟨bq, bpl, cpl, yb, pb, cs, rfl, hst⟩
  have HS := Lib.hid hst
  clear hst HST
  go_wp2_with fail
  have HBA2 := Lib.hid (HBC.out.trans (HBD.out.mono HBC.out.size))
  have HBE := Lib.hid (HBA2.out.trans (HS.out.bel.mono HBA2.out.size))
  have ZC2 := Lib.hid ((HS.out.bel.block _ (heapsz ZC.out)).trans ZC.out)
  have ZG2 := Lib.hid ((HS.out.bel.block _ (heapsz ZG.out)).trans ZG.out)
  have HLW : Hid (w.heap.size < wa.heap.size) := Lib.hid (heapsz ZL.out)
  have ZL2 := Lib.hid ((HBE.out.block _ (heapsz ZL.out)).trans ZL.out)
  have HSD : Hid (wc.heap.size < wd.heap.size) := Lib.hid (heapsz ZC.out)
  have HX0 : Hid (BelX bm w.heap.size w we) := Lib.hid (BelX.of (HBA.out.trans (HBE.out.mono (by have := HLW.out; omega))))
  have HSE : Hid (wd.heap.size ≤ we.heap.size) := Lib.hid HS.out.bel.size
  have hge := HS.out.ge
  have HGE := Lib.hid hge
  have HGW := HGB.out; have HSCO := HSC.out; have HSDO := HSD.out; have HLWO := HLW.out; have HSEO := HSE.out
  refine (wpIn_wide (n := 5)).1 ?_
  refine wpIn_range_free (n := 5) (by decide) (gf := 154) (lb := #[.pointer (some ⟨bq, 0, none⟩), .pointer (some ⟨yb, 0, none⟩), .pointer (some ⟨pb, 0, none⟩)]) rfl (enters_of Tryz.func154 (by kernel_rfl) rfl)
    (encs := fun x : YX 4 9 => #[.int .i64 (x.1.1 : Int), .int .i64 (x.1.2 : Int)])
    (stand_free HK.out HORD.out hnp (HP.out wa (BelX.of HBA.out)) HBE.out bq bpl cpl yb pb 1 g cs HS.out.c0 HS.out.c1 (by omega) (by omega) HS.out.q HS.out.pl HS.out.y HS.out.p (by decide) (by omega) (5 - 1) (fun _ => true) (fun a _ => decide (a = 1)) (fun a b ha hb' => H10.out a b ha hb') (fun a b ha hb' => H11.out a b ha hb') (yE 1 4 9 (by decide) (by decide))
      (fun a b ha hb' _ => by
        have e1 : min (a * (1 + 1) + b) (4 - 1) = a * 2 + b := by omega
        have e2 : min (a * (1 + 2) + b) (9 - 1) = a * 3 + b := by omega
        simp only [yE, e1, e2]
        congr 2 <;> push_cast <;> rfl))
    kpC_t (kpC_b (by omega)) (fun _ => rfl)
    (fun pre V => Below wa.heap.size wa V ∧ V.heap[wc.heap.size]? = some (.cells #[.slice (some ⟨g, 0, none⟩) 4 4] 34 (0, 0)) ∧ V.heap[g]? = some (.cells (cst (rowV nev 4 4) (fun _ => 0) (pre.map Subtype.val)).toArray 3 (0, 0)))
    (fun pre A B hs hA hb' => ⟨hs.1.trans (hb'.mono (by omega)), (hb'.block _ (by omega)).trans hs.2.1, (hb'.block _ (by omega)).trans hs.2.2⟩)
    ⟨HBE.out, ZC2.out, ZG2.out⟩
    (fun x => { tmps := List.toArray ((Value.pointer (some ⟨p, 0, none⟩)) :: (Value.int .i64 3) :: undef :: undef :: (Value.int .i64 0) :: (Value.pointer (some ⟨w.heap.size, 0, none⟩)) :: (Value.int .i64 1) :: (Value.pointer (some ⟨wc.heap.size, 0, none⟩)) :: (Value.int .i64 (x.1.1 : Int)) :: (Value.int .i64 (x.1.2 : Int)) :: (Value.pointer (some ⟨p, 0, none⟩)) :: (Value.pointer (some ⟨p, 0, none⟩)) :: (Value.pointer (some ⟨p, 0, none⟩)) :: (Value.pointer (some ⟨X.G, 0, none⟩)) :: (Value.pointer (some ⟨X.G, 0, none⟩)) :: (Value.pointer (some ⟨X.G, 6, none⟩)) :: (Value.slice X.A 2 X.c) :: (Value.int .i64 2) :: (Value.int .i64 1) :: (Value.int .i64 1) :: (Value.bool true) :: undef :: undef :: (Value.slice (some ⟨wa.heap.size, 0, none⟩) 1 1) :: (Value.int .i64 3) :: (Value.int .i64 1) :: (Value.int .i64 4) :: (Value.slice (some ⟨g, 0, none⟩) 4 4) :: (Value.pointer (some ⟨p, 0, none⟩)) :: (Value.int .i64 3) :: (Value.int .i64 1) :: (Value.func (.func 154) #[] #[.pointer (some ⟨bq, 0, none⟩), .pointer (some ⟨yb, 0, none⟩), .pointer (some ⟨pb, 0, none⟩)]) :: (Value.int .i64 (x.1.1 : Int)) :: (Value.int .i64 (x.1.2 : Int)) :: undef :: undef :: undef :: undef :: undef :: undef :: undef :: undef :: undef :: undef :: undef :: undef :: undef :: undef :: undef :: undef :: undef :: undef :: undef :: undef :: undef :: undef :: undef :: undef :: undef :: undef :: undef :: undef :: undef :: undef :: undef :: undef :: undef :: undef :: []), defers := [] }) ?assign ?body ?done
  case assign =>
    intro l x V K' hK
    gi_wp2
    exact hK
  case body =>
    rintro l pre ⟨⟨pl, nx⟩, hpl, hnx⟩ V ⟨hbx, h2, h3⟩
    have HBX := Lib.hid hbx; have HH2 := Lib.hid h2; have HH3 := Lib.hid h3
    have a5 := cell_of_row V w.heap.size 0 _ 34 (0, 0) ((hbx.block _ (heapsz ZL.out)).trans ZL.out)
    have a7 := cell_of_row V wc.heap.size 0 _ 34 (0, 0) h2
    simp only [List.getElem?_toArray, List.getElem?_cons_zero] at a5 a7
    obtain ⟨v0, hv0⟩ := get_of_lt (l := cst (rowV nev 4 4) (fun _ => 0) (pre.map Subtype.val)) (k := pl) (by rw [cst_len, rowV_len (Nat.le_refl _)]; exact hpl)
    have ag := cell_of_row V g pl _ 3 (0, 0) h3
    rw [List.getElem?_toArray, hv0] at ag
    have fg : V.frozen? ⟨g, pl, none⟩ = false := by simp [World.frozen?, h3]
    have i0 : (0 : Int) ≤ (pl : Int) := by omega
    have i1 : (pl : Int) < 4 := by have : pl < 4 := hpl; omega
    clear hbx h2 h3 hv0
    dsimp only
    gi_wp2
    have HS3 := blk_set HH3.out pl (.int .i64 0)
    rw [List.setIfInBounds_toArray] at HS3
    refine ⟨KeepsOthers.setCell _ _ _, ⟨(Below.refl _ _).setCell (p := ⟨g, pl, none⟩) (by show _ ≤ g; omega) _, by simp, fun b cs t hb hc => (Below.heap_setCell _ _ _ _ hb).trans hc⟩, HBX.out.setCell (p := ⟨g, pl, none⟩) (by show _ ≤ g; omega) _, (Below.heap_setCell _ _ _ _ (show wc.heap.size ≠ g by omega)).trans HH2.out, ?_⟩
    refine (show (V.setCell ⟨g, pl, none⟩ (.int .i64 0)).heap[g]? = some (.cells (cst (rowV nev 4 4) (fun _ => 0) ((pre ++ [(⟨(pl, nx), hpl, hnx⟩ : YX 4 9)]).map Subtype.val)).toArray 3 (0, 0)) from ?_)
    rw [List.map_append, List.map_cons, List.map_nil, cst_snoc]
    exact HS3
  case done =>
    rintro D xs V hD hxs ⟨hbx, h2, h3⟩ hDk
    rw [hxs, st1, ct1] at h3
    have HBX := Lib.hid hbx; have HH2 := Lib.hid h2; have HH3 := Lib.hid h3
    have HD : Hid (wa.heap.size ≤ D ∧ V.heap[D]? = some (.deferred (some []))) := Lib.hid ⟨by omega, hDk⟩
    have hmv : V.heap[bm]? = some (.map #[] clock) := (hbx.block _ (by have := (Array.getElem?_eq_some_iff.1 HMAP.out).1; omega)).trans ((HBA.out.block _ (Array.getElem?_eq_some_iff.1 HMAP.out).1).trans HMAP.out)
    have hmp := map_put (w := V.drew) hmv (key := keyV 3 1) (val := .slice (some ⟨g, 0, none⟩) 4 4) key_31.choose_spec (by simp) (by simp)
    obtain ⟨V1, hV1⟩ : ∃ z, setBlock V.drew bm (.map (#[].push ⟨keyV 3 1, .slice (some ⟨g, 0, none⟩) 4 4, clock⟩) (clock + 1)) = z := ⟨_, rfl⟩
    rw [hV1] at hmp
    have hx1 : BelX bm V.heap.size V V1 := by rw [← hV1]; exact (BelX.of (drew_b1 V)).trans (belX_set bm _ _ _)
    have hm1 : V1.heap[bm]? = some (.map #[⟨keyV 3 1, .slice (some ⟨g, 0, none⟩) 4 4, clock⟩] (clock + 1)) := by
      rw [← hV1]
      exact heap_setBlock_same (show V.drew.heap[bm]? = some (.map #[] clock) from hmv) _
    have nbm : ∀ {k : Nat} {cs : Array Value} {t : TypeId}, V.heap[k]? = some (.cells cs t (0, 0)) → k ≠ bm := fun h e => by rw [e, hmv] at h; cases h
    have hc1 := (hx1.block _ (heapsz h2) (nbm h2)).trans h2
    have hg1 := (hx1.block _ (heapsz h3) (nbm h3)).trans h3
    have hl0 := (hbx.block _ (heapsz ZL.out)).trans ZL.out
    have hl1 := (hx1.block _ (heapsz hl0) (nbm hl0)).trans hl0
    have hd1 := (hx1.block D (Array.getElem?_eq_some_iff.1 hDk).1 (fun e => by rw [e, hmv] at hDk; cases hDk)).trans hDk
    have hxw := (BelX.of (HBA.out.trans (hbx.mono (by omega)))).trans (hx1.mono (n := V.heap.size) (m := w.heap.size) (by have := hbx.size; omega))
    have HX1 := Lib.hid hxw; have HM1 := Lib.hid hm1; have HC1V := Lib.hid hc1; have HG1 := Lib.hid hg1; have HL1 := Lib.hid hl1; have HD1 := Lib.hid hd1
    have HS1 : Hid (wc.heap.size < V1.heap.size) := Lib.hid (heapsz hc1)
    have b7 := cell_of_row V1 wc.heap.size 0 _ 34 (0, 0) hc1
    simp only [List.getElem?_toArray, List.getElem?_cons_zero] at b7
    have HCH : Hid (Calls Tryz.prog 138 #[.pointer (some ⟨p, 0, none⟩), .int .i64 3, .int .i64 1, .slice (some ⟨g, 0, none⟩) 4 4] V1 fun e w' => ∃ g2 c2, e = .returned (.slice (some ⟨g2, 0, none⟩) 4 c2) ∧ (∃ cs, w'.heap[g2]? = some (.cells cs 3 (0, 0)) ∧ ∀ (i : Nat) (x : Int), (chosenF X 3 1 [nev, nev, 0, 0])[i]? = some x → cs[i]? = some (.int .i64 x)) ∧ V1.heap.size ≤ g2 ∧ Below V1.heap.size V1 w') := Lib.hid (chosen_X HK.out (HP.out V1 hxw) 3 (by decide) (by rw [hnp]; decide) 1 (by decide) g 0 4 [nev, nev, 0, 0] (by rw [pil3]; decide) (by decide) (by unfold costs_ok; decide) (heapsz hg1) (fun i x hx => by
      rw [Nat.zero_add, cell_of_row V1 g i _ 3 (0, 0) hg1, List.getElem?_toArray]
      have : [Value.int .i64 nev, .int .i64 nev, .int .i64 0, .int .i64 0] = [nev, nev, 0, 0].map (fun z => Value.int .i64 z) := rfl
      rw [this, List.getElem?_map, hx]
      rfl))
    unfold keyV at hmp
    have hPV := HP.out V (BelX.of (HBA.out.trans (hbx.mono (by omega))))
    obtain ⟨_, _, p2⟩ := hPV.cells
    have lp2 := heapsz hPV.z
    have a7 := cell_of_row V wc.heap.size 0 _ 34 (0, 0) h2
    simp only [List.getElem?_toArray, List.getElem?_cons_zero] at a7
    clear hbx h2 h3 hDk hxs hPV hmv hV1 hx1 hm1 hc1 hg1 hl0 hl1 hd1 hxw nbm
    have fol : Tryz.prog.follows Departure.mixedOrders = true := by kernel_rfl
    simp only [Exit.inBlock, Exit.then]
    go_wp2_with fail
    go_still_tail 8, fol
    go_wp2_with fail
    refine HCH.out.mono ?_
    rintro e V2 ⟨g2, c2, rfl, hcs2, hg2, hb2⟩
    rw [HC1.out] at hcs2
    obtain ⟨cs2, hz2, hv2⟩ := hcs2
    have hv20 := hv2 0 5 rfl
    have hl2 := (hb2.block _ (heapsz HL1.out)).trans HL1.out
    have L2 := cell_of_row V2 w.heap.size 0 _ 34 (0, 0) hl2
    simp only [List.getElem?_toArray, List.getElem?_cons_zero] at L2
    have f2 : V2.frozen? ⟨w.heap.size, 0, none⟩ = false := by simp [World.frozen?, hl2]
    have hl3 : (V2.setCell ⟨w.heap.size, 0, none⟩ (.slice (some ⟨g2, 0, none⟩) 4 c2)).heap[w.heap.size]? = some (.cells #[.slice (some ⟨g2, 0, none⟩) 4 c2] 34 (0, 0)) := by simpa using blk_set hl2 0 (.slice (some ⟨g2, 0, none⟩) 4 c2)
    have ho3 : ∀ k, k ≠ w.heap.size → (V2.setCell ⟨w.heap.size, 0, none⟩ (.slice (some ⟨g2, 0, none⟩) 4 c2)).heap[k]? = V2.heap[k]? := fun k hk => Below.heap_setCell _ _ _ _ hk
    have hb3 := hb2.trans ((Below.refl V1.heap.size V2))
    have HM3 := Lib.hid ((ho3 bm (by have := (Array.getElem?_eq_some_iff.1 HMAP.out).1; omega)).trans ((hb2.block _ (Array.getElem?_eq_some_iff.1 HM1.out).1).trans HM1.out))
    have HG3 := Lib.hid ((ho3 g (by omega)).trans ((hb2.block _ (heapsz HG1.out)).trans HG1.out))
    have HZ3 := Lib.hid ((ho3 g2 (by have := HS1.out; omega)).trans hz2)
    have HV3 := Lib.hid hv20
    have HD3 := Lib.hid ((ho3 D (by have := HD.out.1; omega)).trans ((hb2.block _ (Array.getElem?_eq_some_iff.1 HD1.out).1).trans HD1.out))
    have HL3 := Lib.hid hl3
    have HX3 : Hid (BelX bm w.heap.size w (V2.setCell ⟨w.heap.size, 0, none⟩ (.slice (some ⟨g2, 0, none⟩) 4 c2))) := Lib.hid ((HX1.out.trans (BelX.of (hb2.mono (by have := HX1.out.size; omega)))).trans (BelX.of ((Below.refl _ _).setCell (p := ⟨w.heap.size, 0, none⟩) (Nat.le_refl _) _)))
    have HS3 : Hid (wc.heap.size < (V2.setCell ⟨w.heap.size, 0, none⟩ (.slice (some ⟨g2, 0, none⟩) 4 c2)).heap.size) := Lib.hid (by have := HS1.out; have := hb2.size; simp; omega)
    clear hz2 hv2 hv20 hl2 hl3 ho3 hb3 hg2 hb2 hmp HCH p2 a7 b7 HG1 HM1 HC1V HL1 HD1
    go_wp2_with fail
    generalize V2.setCell ⟨w.heap.size, 0, none⟩ (.slice (some ⟨g2, 0, none⟩) 4 c2) = wf at *
    clear HX1 HS1 L2 f2
    rw [rounds_succ]
    go_wp2_with fail
    have hba2 := (Below.refl wf.heap.size wf).alloc (Nat.le_refl _) (.cells #[.int .i64 61000000] 3)
    have zx := heap_alloc_new wf (.cells #[.int .i64 61000000] 3)
    have HP1 : Hid (Calls Tryz.prog 136 #[.int .i64 3, .int .i64 0] (wf.alloc (.cells #[.int .i64 61000000] 3)) fun e w' => e = .returned (.int .i64 1) ∧ Below (wf.alloc (.cells #[.int .i64 61000000] 3)).heap.size (wf.alloc (.cells #[.int .i64 61000000] 3)) w') := Lib.hid ((places_any 3 0 (by decide) _).mono (by
      rintro e w' ⟨rfl, h⟩
      exact ⟨by rw [place30]; rfl, h⟩))
    have HA2 := Lib.hid hba2; have ZX := Lib.hid zx
    clear hba2 zx
    refine HP1.out.mono ?_
    rintro e xb ⟨rfl, hbb⟩
    have zx := (hbb.block _ (heapsz ZX.out)).trans ZX.out
    have HBB := Lib.hid (HA2.out.trans (hbb.mono HA2.out.size))
    have HR1 : Hid (Calls Tryz.prog 135 #[.slice (some ⟨wf.heap.size, 0, none⟩) 1 1, .int .i64 1] xb fun e w' => ∃ g, e = .returned (.slice (some ⟨g, 0, none⟩) 1 1) ∧ w'.heap[g]? = some (.cells (rowV nev 1 1).toArray 3 (0, 0)) ∧ xb.heap.size ≤ g ∧ Below xb.heap.size xb w') :=
      Lib.hid (repeat_any nev wf.heap.size 1 1 (by decide) (by decide) xb (cell_of_row xb _ 0 _ 3 (0, 0) zx) (heapsz zx))
    clear hbb zx ZX HP1 HA2
    go_wp2_with fail
    refine HR1.out.mono ?_
    rintro e xc ⟨u, rfl, zg, hgb, hbc⟩
    have HU := Lib.hid zg
    have HUB : Hid (wf.heap.size ≤ u) := Lib.hid (Nat.le_trans HBB.out.size hgb)
    have HBC2 := Lib.hid (HBB.out.trans (hbc.mono HBB.out.size))
    clear zg hgb hbc HBB HR1
    have hbd := (Below.refl xc.heap.size xc).alloc (Nat.le_refl _) (.cells #[.slice (some ⟨u, 0, none⟩) 1 1] 34)
    have zc := heap_alloc_new xc (.cells #[.slice (some ⟨u, 0, none⟩) 1 1] 34)
    have HBD2 := Lib.hid hbd; have ZCX := Lib.hid zc
    have ZU := Lib.hid ((hbd.block _ (heapsz HU.out)).trans HU.out)
    have HSU : Hid (u < xc.heap.size) := Lib.hid (heapsz HU.out)
    clear hbd zc HU
    go_wp2_with fail
    generalize xc.alloc (.cells #[.slice (some ⟨u, 0, none⟩) 1 1] 34) = xd at *
    have HST : Hid (Calls Tryz.prog 137 #[.pointer (some ⟨p, 0, none⟩), .int .i64 3, .int .i64 0] xd fun e w' => ∃ bq bpl cpl yb pb cs, e = .returned (.func (.func 154) #[] #[.pointer (some ⟨bq, 0, none⟩), .pointer (some ⟨yb, 0, none⟩), .pointer (some ⟨pb, 0, none⟩)]) ∧ StIt xd p 0 bq bpl cpl yb pb cs w') := Lib.hid (standing_any p 0 xd)
    refine HST.out.mono ?_
    rintro e xe ⟨bq2, bpl2, cpl2, yb2, pb2, cs3, rfl, hst⟩
    have HSX := Lib.hid hst
    clear hst HST
    go_wp2_with fail
    have HBA3 := Lib.hid (HBC2.out.trans (HBD2.out.mono HBC2.out.size))
    have HBE3 := Lib.hid (HBA3.out.trans (HSX.out.bel.mono HBA3.out.size))
    have ZCX2 := Lib.hid ((HSX.out.bel.block _ (heapsz ZCX.out)).trans ZCX.out)
    have ZU2 := Lib.hid ((HSX.out.bel.block _ (heapsz ZU.out)).trans ZU.out)
    have HSD2 : Hid (xc.heap.size < xd.heap.size) := Lib.hid (heapsz ZCX.out)
    have HSE2 : Hid (xd.heap.size ≤ xe.heap.size) := Lib.hid HSX.out.bel.size
    have hge2 := HSX.out.ge
    have HUBO := HUB.out; have HSUO := HSU.out; have HSD2O := HSD2.out; have HSE2O := HSE2.out; have HS3O := HS3.out
    refine (wpIn_wide (n := 5)).1 ?_
    refine wpIn_range_free (n := 5) (by decide) (gf := 154) (lb := #[.pointer (some ⟨bq2, 0, none⟩), .pointer (some ⟨yb2, 0, none⟩), .pointer (some ⟨pb2, 0, none⟩)]) rfl (enters_of Tryz.func154 (by kernel_rfl) rfl)
      (encs := fun x : YX 1 1 => #[.int .i64 (x.1.1 : Int), .int .i64 (x.1.2 : Int)])
      (stand_free HK.out HORD.out hnp (HP.out wf HX3.out) HBE3.out bq2 bpl2 cpl2 yb2 pb2 0 u cs3 HSX.out.c0 HSX.out.c1 (by omega) (by omega) HSX.out.q HSX.out.pl HSX.out.y HSX.out.p (by decide) (by omega) (5 - 1) (fun _ => true) (fun _ _ => true)
        (fun a b ha hb' => by
          obtain rfl : a = 0 := by omega
          obtain rfl : b = 0 := by omega
          exact H00.out)
        (fun a b ha hb' => by
          obtain rfl : a = 0 := by omega
          obtain rfl : b = 0 := by omega
          exact H01.out) (yE 0 1 1 (by decide) (by decide))
        (fun a b ha hb' _ => by
          obtain rfl : a = 0 := by omega
          obtain rfl : b = 0 := by omega
          rfl))
      kpC_t (kpC_b (by omega)) (fun _ => rfl)
      (fun pre V => Below wf.heap.size wf V ∧ V.heap[xc.heap.size]? = some (.cells #[.slice (some ⟨u, 0, none⟩) 1 1] 34 (0, 0)) ∧ V.heap[u]? = some (.cells (cst (rowV nev 1 1) (fun _ => 5) (pre.map Subtype.val)).toArray 3 (0, 0)))
      (fun pre A B hs hA hb' => ⟨hs.1.trans (hb'.mono (by omega)), (hb'.block _ (by omega)).trans hs.2.1, (hb'.block _ (by omega)).trans hs.2.2⟩)
      ⟨HBE3.out, ZCX2.out, ZU2.out⟩
      (fun x => { tmps := List.toArray ((Value.pointer (some ⟨p, 0, none⟩)) :: (Value.int .i64 3) :: undef :: undef :: (Value.int .i64 0) :: (Value.pointer (some ⟨w.heap.size, 0, none⟩)) :: (Value.int .i64 0) :: (Value.pointer (some ⟨xc.heap.size, 0, none⟩)) :: (Value.int .i64 (x.1.1 : Int)) :: (Value.int .i64 (x.1.2 : Int)) :: (Value.pointer (some ⟨p, 0, none⟩)) :: (Value.pointer (some ⟨p, 0, none⟩)) :: (Value.pointer (some ⟨p, 0, none⟩)) :: (Value.pointer (some ⟨X.G, 0, none⟩)) :: (Value.pointer (some ⟨X.G, 0, none⟩)) :: (Value.pointer (some ⟨X.G, 6, none⟩)) :: (Value.slice X.A 2 X.c) :: (Value.int .i64 2) :: (Value.int .i64 1) :: (Value.int .i64 0) :: (Value.bool true) :: (Value.int .i64 1) :: (Value.int .i64 0) :: (Value.slice (some ⟨wf.heap.size, 0, none⟩) 1 1) :: (Value.int .i64 3) :: (Value.int .i64 0) :: (Value.int .i64 1) :: (Value.slice (some ⟨u, 0, none⟩) 1 1) :: (Value.pointer (some ⟨p, 0, none⟩)) :: (Value.int .i64 3) :: (Value.int .i64 0) :: (Value.func (.func 154) #[] #[.pointer (some ⟨bq2, 0, none⟩), .pointer (some ⟨yb2, 0, none⟩), .pointer (some ⟨pb2, 0, none⟩)]) :: (Value.int .i64 (x.1.1 : Int)) :: (Value.int .i64 (x.1.2 : Int)) :: undef :: undef :: undef :: undef :: undef :: undef :: undef :: undef :: undef :: undef :: undef :: undef :: (Value.pointer (some ⟨p, 0, none⟩)) :: (Value.pointer (some ⟨p, 0, none⟩)) :: (Value.pointer (some ⟨p, 2, none⟩)) :: (Value.map (some bm)) :: (Value.int .i64 3) :: (Value.int .i64 1) :: (Value.agg #[Value.int .i64 3, Value.int .i64 1]) :: (Value.slice (some ⟨g, 0, none⟩) 4 4) :: (Value.pointer (some ⟨p, 0, none⟩)) :: (Value.int .i64 3) :: (Value.int .i64 1) :: (Value.slice (some ⟨g, 0, none⟩) 4 4) :: (Value.slice (some ⟨g2, 0, none⟩) 4 c2) :: undef :: undef :: undef :: undef :: undef :: undef :: undef :: undef :: undef :: []), defers := [] }) ?assign2 ?body2 ?done2
    case assign2 =>
      intro l x V K' hK
      gi_wp2
      exact hK
    case body2 =>
      rintro l pre ⟨⟨pl, nx⟩, hpl, hnx⟩ V ⟨hbx, h2, h3⟩
      obtain rfl : pl = 0 := by have : pl < 1 := hpl; omega
      obtain rfl : nx = 0 := by have : nx < 1 := hnx; omega
      have HBX := Lib.hid hbx; have HH2 := Lib.hid h2; have HH3 := Lib.hid h3
      have a5 := cell_of_row V w.heap.size 0 _ 34 (0, 0) ((hbx.block _ (heapsz HL3.out)).trans HL3.out)
      have a7 := cell_of_row V xc.heap.size 0 _ 34 (0, 0) h2
      simp only [List.getElem?_toArray, List.getElem?_cons_zero] at a5 a7
      obtain ⟨v0, hv0⟩ := get_of_lt (l := cst (rowV nev 1 1) (fun _ => 5) (pre.map Subtype.val)) (k := 0) (by rw [cst_len, rowV_len (Nat.le_refl _)]; decide)
      have ag := cell_of_row V u 0 _ 3 (0, 0) h3
      rw [List.getElem?_toArray, hv0] at ag
      have fg : V.frozen? ⟨u, 0, none⟩ = false := by simp [World.frozen?, h3]
      have ne2 : u ≠ g2 := fun e => by have := heapsz HZ3.out; omega
      have k2 := cell_of_row V g2 0 _ 3 (0, 0) ((hbx.block _ (heapsz HZ3.out)).trans HZ3.out)
      rw [HV3.out] at k2
      have HS4 := blk_set (blk_set HH3.out 0 (.int .i64 0)) 0 (.int .i64 5)
      rw [List.setIfInBounds_toArray, List.setIfInBounds_toArray, List.set_set] at HS4
      have HHS := Lib.hid HS4
      have lg2 := heapsz HZ3.out
      clear hbx h2 h3 hv0 HS4
      have fol : Tryz.prog.follows Departure.mixedOrders = true := by kernel_rfl
      dsimp only
      gi_wp2
      refine wpIn_round_still_tail 7 fol (by kernel_rfl) (by kernel_rfl) (by rintro ⟨_, _, hq⟩; exact hq) ?_
      simp only [List.take_succ_cons, List.take_zero, List.drop_succ_cons, List.drop_zero]
      repeat still_step
      refine wpStill_nil ?_
      go_wp2
      gi_wp2
      refine ⟨((KeepsOthers.setCell _ _ _).trans (KeepsOthers.setCell _ _ _)).trans (KeepsOthers.drew _), ⟨(((Below.refl _ _).setCell (p := ⟨u, 0, none⟩) (by show _ ≤ u; omega) _).setCell (p := ⟨u, 0, none⟩) (by show _ ≤ u; omega) _).drew, by simp, fun b cs t hb hc => (Below.heap_setCell _ _ _ _ hb).trans ((Below.heap_setCell _ _ _ _ hb).trans hc)⟩, ((HBX.out.setCell (p := ⟨u, 0, none⟩) (by show _ ≤ u; omega) _).setCell (p := ⟨u, 0, none⟩) (by show _ ≤ u; omega) _).drew, ((Below.heap_setCell _ _ _ _ (show xc.heap.size ≠ u by omega)).trans (Below.heap_setCell _ _ _ _ (show xc.heap.size ≠ u by omega))).trans HH2.out, ?_⟩
      refine (show ((V.setCell ⟨u, 0, none⟩ (.int .i64 0)).setCell ⟨u, 0, none⟩ (.int .i64 5)).heap[u]? = some (.cells (cst (rowV nev 1 1) (fun _ => 5) ((pre ++ [(⟨(0, 0), hpl, hnx⟩ : YX 1 1)]).map Subtype.val)).toArray 3 (0, 0)) from ?_)
      rw [List.map_append, List.map_cons, List.map_nil, cst_snoc]
      exact HHS.out
    case done2 =>
      rintro D2 xs V hD2 hxs ⟨hbx, h2, h3⟩ hDk
      rw [hxs, st0, ct0] at h3
      have hmv := (hbx.block _ (Array.getElem?_eq_some_iff.1 HM3.out).1).trans HM3.out
      have hmp := map_put (w := V.drew) hmv (key := keyV 3 0) (val := .slice (some ⟨u, 0, none⟩) 1 1) key_30.choose_spec (fun e he => by rw [List.mem_singleton.1 he]; exact key_31) (fun e he => by rw [List.mem_singleton.1 he]; unfold keyV; intro h; injection h with h; simp at h)
      obtain ⟨es, hes⟩ : ∃ z, (#[⟨keyV 3 1, .slice (some ⟨g, 0, none⟩) 4 4, clock⟩] : Array MapEntry).push ⟨keyV 3 0, .slice (some ⟨u, 0, none⟩) 1 1, clock + 1⟩ = z := ⟨_, rfl⟩
      have HES := Lib.hid hes
      rw [hes] at hmp
      obtain ⟨V1, hV1⟩ : ∃ z, setBlock V.drew bm (.map es (clock + 1 + 1)) = z := ⟨_, rfl⟩
      rw [hV1] at hmp
      have hx1 : BelX bm V.heap.size V V1 := by rw [← hV1]; exact (BelX.of (drew_b1 V)).trans (belX_set bm _ _ _)
      have hm1 : V1.heap[bm]? = some (.map es (clock + 1 + 1)) := by
        rw [← hV1]
        exact heap_setBlock_same (show V.drew.heap[bm]? = some (.map _ _) from hmv) _
      have nbm : ∀ {k : Nat} {cs : Array Value} {t : TypeId}, V.heap[k]? = some (.cells cs t (0, 0)) → k ≠ bm := fun h e => by rw [e, hmv] at h; cases h
      have hc1 := (hx1.block _ (heapsz h2) (nbm h2)).trans h2
      have hu1 := (hx1.block _ (heapsz h3) (nbm h3)).trans h3
      have hg0 := (hbx.block _ (heapsz HG3.out)).trans HG3.out
      have hg1 := (hx1.block _ (heapsz hg0) (nbm hg0)).trans hg0
      have hl0 := (hbx.block _ (heapsz HL3.out)).trans HL3.out
      have hl1 := (hx1.block _ (heapsz hl0) (nbm hl0)).trans hl0
      have hd0 := (hbx.block D (Array.getElem?_eq_some_iff.1 HD3.out).1).trans HD3.out
      have hd1 := (hx1.block D (Array.getElem?_eq_some_iff.1 hd0).1 (fun e => by rw [e, hmv] at hd0; cases hd0)).trans hd0
      have hd2 := (hx1.block D2 (Array.getElem?_eq_some_iff.1 hDk).1 (fun e => by rw [e, hmv] at hDk; cases hDk)).trans hDk
      have hxw := (HX3.out.trans (BelX.of (hbx.mono HX3.out.size))).trans (hx1.mono (n := V.heap.size) (m := w.heap.size) (by have := hbx.size; have := HX3.out.size; omega))
      have HX1 := Lib.hid hxw; have HM1 := Lib.hid hm1; have HU1 := Lib.hid hu1; have HG1 := Lib.hid hg1; have HL1 := Lib.hid hl1; have HD1 := Lib.hid hd1; have HD2 := Lib.hid hd2
      have HDN : Hid (D < D2 ∧ w.heap.size < D) := Lib.hid ⟨by have := (Array.getElem?_eq_some_iff.1 HD3.out).1; have := HBE3.out.size; omega, by have := HD.out.1; omega⟩
      have HS1 : Hid (xc.heap.size < V1.heap.size) := Lib.hid (heapsz hc1)
      have b7 := cell_of_row V1 xc.heap.size 0 _ 34 (0, 0) hc1
      simp only [List.getElem?_toArray, List.getElem?_cons_zero] at b7
      have HCH : Hid (Calls Tryz.prog 138 #[.pointer (some ⟨p, 0, none⟩), .int .i64 3, .int .i64 0, .slice (some ⟨u, 0, none⟩) 1 1] V1 fun e w' => ∃ g2 c2, e = .returned (.slice (some ⟨g2, 0, none⟩) 1 c2) ∧ (∃ cs, w'.heap[g2]? = some (.cells cs 3 (0, 0)) ∧ ∀ (i : Nat) (x : Int), (chosenF X 3 0 [5])[i]? = some x → cs[i]? = some (.int .i64 x)) ∧ V1.heap.size ≤ g2 ∧ Below V1.heap.size V1 w') := Lib.hid (chosen_X HK.out (HP.out V1 hxw) 3 (by decide) (by rw [hnp]; decide) 0 (by decide) u 0 1 [5] (by rw [pil3]; decide) (by decide) (by unfold costs_ok; decide) (heapsz hu1) (fun i x hx => by
        rw [Nat.zero_add, cell_of_row V1 u i _ 3 (0, 0) hu1, List.getElem?_toArray]
        have : [Value.int .i64 5] = [(5 : Int)].map (fun z => Value.int .i64 z) := rfl
        rw [this, List.getElem?_map, hx]
        rfl))
      unfold keyV at hmp
      have hPV := HP.out V (HX3.out.trans (BelX.of (hbx.mono HX3.out.size)))
      obtain ⟨_, _, p2⟩ := hPV.cells
      have lp2 := heapsz hPV.z
      have a7 := cell_of_row V xc.heap.size 0 _ 34 (0, 0) h2
      simp only [List.getElem?_toArray, List.getElem?_cons_zero] at a7
      clear hbx h2 h3 hDk hxs hPV hmv hV1 hx1 hm1 hc1 hu1 hg0 hg1 hl0 hl1 hd0 hd1 hd2 hxw nbm hes
      have fol : Tryz.prog.follows Departure.mixedOrders = true := by kernel_rfl
      simp only [Exit.inBlock, Exit.then]
      go_wp2_with fail
      go_still_tail 8, fol
      go_wp2_with fail
      refine HCH.out.mono ?_
      rintro e V2 ⟨g3, c4, rfl, _, hg3, hb2⟩
      have hl2 := (hb2.block _ (heapsz HL1.out)).trans HL1.out
      have L2 := cell_of_row V2 w.heap.size 0 _ 34 (0, 0) hl2
      simp only [List.getElem?_toArray, List.getElem?_cons_zero] at L2
      have f2 : V2.frozen? ⟨w.heap.size, 0, none⟩ = false := by simp [World.frozen?, hl2]
      have ho3 : ∀ k, k ≠ w.heap.size → (V2.setCell ⟨w.heap.size, 0, none⟩ (.slice (some ⟨g3, 0, none⟩) 1 c4)).heap[k]? = V2.heap[k]? := fun k hk => Below.heap_setCell _ _ _ _ hk
      have hm4 := (ho3 bm (by have := (Array.getElem?_eq_some_iff.1 HMAP.out).1; omega)).trans ((hb2.block _ (Array.getElem?_eq_some_iff.1 HM1.out).1).trans HM1.out)
      have HM4 := Lib.hid hm4
      have HG4 := Lib.hid ((ho3 g (by omega)).trans ((hb2.block _ (heapsz HG1.out)).trans HG1.out))
      have hu4 := (ho3 u (by omega)).trans ((hb2.block _ (heapsz HU1.out)).trans HU1.out)
      have HD4 := Lib.hid ((ho3 D (by have := HDN.out; omega)).trans ((hb2.block _ (Array.getElem?_eq_some_iff.1 HD1.out).1).trans HD1.out))
      have HD5 := Lib.hid ((ho3 D2 (by have := HDN.out; omega)).trans ((hb2.block _ (Array.getElem?_eq_some_iff.1 HD2.out).1).trans HD2.out))
      have hx4 : BelX bm w.heap.size w (V2.setCell ⟨w.heap.size, 0, none⟩ (.slice (some ⟨g3, 0, none⟩) 1 c4)) := (HX1.out.trans (BelX.of (hb2.mono (by have := HX1.out.size; omega)))).trans (BelX.of ((Below.refl _ _).setCell (p := ⟨w.heap.size, 0, none⟩) (Nat.le_refl _) _))
      have HX4 := Lib.hid hx4
      have hP4 := HP.out _ hx4
      obtain ⟨_, _, q2⟩ := hP4.cells
      have lp4 := heapsz hP4.z
      have u4 := cell_of_row _ u 0 _ 3 (0, 0) hu4
      simp only [List.getElem?_toArray, List.getElem?_cons_zero] at u4
      have lu4 := heapsz hu4
      have hget := map_get (w := V2.setCell ⟨w.heap.size, 0, none⟩ (.slice (some ⟨g3, 0, none⟩) 1 c4)) hm4 (key := keyV 3 0) (v := .slice (some ⟨u, 0, none⟩) 1 1) key_30.choose_spec
        (fun e he => by rw [← HES.out] at he; simp at he; rcases he with rfl | rfl; exact key_31; exact key_30)
        ⟨⟨keyV 3 0, .slice (some ⟨u, 0, none⟩) 1 1, clock + 1⟩, by rw [← HES.out]; simp, rfl⟩
        (fun e he hk => by
          rw [← HES.out] at he
          simp at he
          rcases he with rfl | rfl
          · unfold keyV at hk; injection hk with hk; simp at hk
          · rfl)
      unfold keyV at hget
      clear hl2 ho3 hg3 hb2 hmp HCH p2 a7 b7 HG1 HM1 HU1 HL1 HD1 HD2 hm4 hu4 hx4 hP4
      go_wp2_with fail
      generalize V2.setCell ⟨w.heap.size, 0, none⟩ (.slice (some ⟨g3, 0, none⟩) 1 c4) = wh at *
      rw [rounds_succ]
      go_wp2_with fail
      have HMK : Hid (Marks wh w.heap.size [D2, D]) := Lib.hid ⟨by simp; have := HDN.out; omega, fun E hE => by
        have hdn := HDN.out
        simp only [List.mem_cons, List.not_mem_nil, or_false] at hE
        rcases hE with rfl | rfl
        · exact ⟨by omega, HD5.out⟩
        · exact ⟨by omega, HD4.out⟩⟩
      refine leaves_marks [D2, D] wh HMK.out (fun w' hk => ⟨_, results_tmp rfl _ _ _, ?_⟩)
      have hbmw := (Array.getElem?_eq_some_iff.1 HMAP.out).1
      refine ⟨rfl, HX4.out.trans (BelX.of hk.1), g, .slice (some ⟨u, 0, none⟩) 1 1, clock, clock + 1, clock + 1 + 1, ?_, by omega, hk.2 _ _ _ _ HG4.out⟩
      rw [hk.1.block bm hbmw, HM4.out, ← HES.out]
      rfl
end Go.Proofs.YtdlaphlpimlgdaaGreatDoor
/- The example: its numbers; the search for the best plan. -/
namespace Go.Proofs.YtdlaphlpimlgdaaGreatDoor
open Go.RowKit Go.Shelf
attribute [local go_sem] Oper.semAt_some

def exPs : List Pil := [⟨8000, 20, 30, 100, 120, 230, 5⟩, ⟨10000, 0, 40, 100, 100, 360, 5⟩]
def exRs : List Rw := [⟨500, 2, 4⟩, ⟨700, 5, 9⟩, ⟨900, 10, 20⟩]
def exTs : List (List Sp) := [[(1000, 2000), (1000, 2000)], [(1000, 2000), (1000, 2000)]]
def exC (G : Nat) (AP AQ AR A : Option Addr) (cp cq cr c : Nat) : Ctx := ⟨G, AP, AQ, AR, A, 2, cp, 1, cq, 3, cr, 2, c, 200, 25, 10, exPs, [(0, 1)], exRs, exTs⟩
def exL : List (List Sp) := [[(-9, -2), (-4, -2)], [(-18, -4), (-8, -4)]]
section
variable (G : Nat) (AP AQ AR A : Option Addr) (cp cq cr c : Nat)
theorem ex_ok : (exC G AP AQ AR A cp cq cr c).Ok := ⟨rfl, rfl, rfl, rfl, by kernel_rfl⟩
theorem ex_span : spanL exPs exRs exTs [0, 0] = exL := by kernel_rfl
theorem ex_fau : fauI (fauF (exC G AP AQ AR A cp cq cr c) exL) = (1, 5, 0) := by kernel_rfl
theorem ex_plan : planI (exC G AP AQ AR A cp cq cr c).sit exTs [0, 0] = 0 := by kernel_rfl
theorem ex_thaws : thawsI (exC G AP AQ AR A cp cq cr c).sit exTs = 0 := by kernel_rfl
theorem ex_los : ∀ t, t < 2 → ∀ i, i < 2 → losF exPs exTs 200 t i = false := by decide +kernel
theorem ex_fai : ∀ t, t < 2 → ∀ i, i < 2 → faiF exPs exRs exTs t i = false := by decide +kernel
theorem ex_10 : ∀ a b, a ≤ 1 → b ≤ 1 → standB (exC G AP AQ AR A cp cq cr c) exL [((a : Nat) : Int), ((b : Nat) : Int), 0, 0, 0, 0] 1 0 = true := fun a b ha hb => by
  have h1 : a = 0 ∨ a = 1 := by omega
  have h2 : b = 0 ∨ b = 1 := by omega
  rcases h1 with rfl | rfl <;> rcases h2 with rfl | rfl <;> (show _ = _; kernel_rfl)
theorem ex_11 : ∀ a b, a ≤ 1 → b ≤ 1 → standB (exC G AP AQ AR A cp cq cr c) exL [((a : Nat) : Int), ((b : Nat) : Int), 0, 0, 0, 0] 1 1 = decide (a = 1) := fun a b ha hb => by
  have h1 : a = 0 ∨ a = 1 := by omega
  have h2 : b = 0 ∨ b = 1 := by omega
  rcases h1 with rfl | rfl <;> rcases h2 with rfl | rfl <;> (show _ = _; kernel_rfl)
theorem ex_00 : standB (exC G AP AQ AR A cp cq cr c) exL [((0 : Nat) : Int), ((0 : Nat) : Int), 0, 0, 0, 0] 0 0 = true := by kernel_rfl
theorem ex_01 : standB (exC G AP AQ AR A cp cq cr c) exL [((0 : Nat) : Int), ((0 : Nat) : Int), 0, 0, 0, 0] 0 1 = true := by kernel_rfl
theorem ex_ch : chosenF (exC G AP AQ AR A cp cq cr c) 3 1 [nev, nev, 0, 0] = [5, 5, 0, 0] := by kernel_rfl
def exF : Nat → Int
  | 0 => 61000000
  | 1 => 5
  | 2 => 61000005
  | _ => 10
theorem ex_f : exF 0 = priI (exC G AP AQ AR A cp cq cr c) 0 + 61000000 ∧ exF 1 = priI (exC G AP AQ AR A cp cq cr c) 1 + 0 ∧ exF 2 = priI (exC G AP AQ AR A cp cq cr c) 2 + 61000000 ∧ exF 3 = priI (exC G AP AQ AR A cp cq cr c) 3 + 0 := ⟨by kernel_rfl, by kernel_rfl, by kernel_rfl, by kernel_rfl⟩
theorem ex_chI : chI exF 3 = 1 := by kernel_rfl
theorem ex_or : bits .or .i64 0 1 = 1 := by decide
theorem ex_rows : ∀ row ∈ exL, row.length = 2 ∧ ∀ x ∈ row, spLo x := by
  intro row hr
  unfold exL at hr
  simp only [List.mem_cons, List.not_mem_nil, or_false] at hr
  rcases hr with rfl | rfl <;> refine ⟨rfl, fun x hx => ?_⟩ <;> simp only [List.mem_cons, List.not_mem_nil, or_false] at hx <;> rcases hx with rfl | rfl <;> unfold spLo <;> decide
end
theorem rule_size : (Tryz.prog.info? 62).map (fun i => i.size) = some 1 := by kernel_rfl
theorem field_1 (a b c : Value) (w : World) : (Instr.field 64 (.agg #[a, b, c]) 1).run Tryz.prog w = .ok b w := by
  obtain ⟨i, hi, hs⟩ := Option.map_eq_some_iff.1 rule_size
  simp [Instr.field, asAgg, go_sem, part, isAgg, sizeOf, typeInfo, hi, hs]
/-- What is said of a site with thaws that is the example's. -/
structure Ex (X : Ctx) : Prop where
  ok : X.Ok
  np : X.np = 2
  nq : X.nq = 1
  n : X.n = 2
  qs : X.qs = [(0, 1)]
  span : spanL X.ps X.rs X.ts [0, 0] = exL
  fau : fauI (fauF X exL) = (1, 5, 0)
  los : ∀ t, t < 2 → ∀ i, i < 2 → losF X.ps X.ts X.may t i = false
  fai : ∀ t, t < 2 → ∀ i, i < 2 → faiF X.ps X.rs X.ts t i = false
  h10 : ∀ a b, a ≤ 1 → b ≤ 1 → standB X exL [((a : Nat) : Int), ((b : Nat) : Int), 0, 0, 0, 0] 1 0 = true
  h11 : ∀ a b, a ≤ 1 → b ≤ 1 → standB X exL [((a : Nat) : Int), ((b : Nat) : Int), 0, 0, 0, 0] 1 1 = decide (a = 1)
  h00 : standB X exL [((0 : Nat) : Int), ((0 : Nat) : Int), 0, 0, 0, 0] 0 0 = true
  h01 : standB X exL [((0 : Nat) : Int), ((0 : Nat) : Int), 0, 0, 0, 0] 0 1 = true
  ch : chosenF X 3 1 [nev, nev, 0, 0] = [5, 5, 0, 0]
  f : exF 0 = priI X 0 + 61000000 ∧ exF 1 = priI X 1 + 0 ∧ exF 2 = priI X 2 + 61000000 ∧ exF 3 = priI X 3 + 0
theorem ex_all (G : Nat) (AP AQ AR A : Option Addr) (cp cq cr c : Nat) : Ex (exC G AP AQ AR A cp cq cr c) :=
  ⟨ex_ok _ _ _ _ _ _ _ _ _, rfl, rfl, rfl, rfl, ex_span, ex_fau _ _ _ _ _ _ _ _ _, ex_los, ex_fai, ex_10 _ _ _ _ _ _ _ _ _, ex_11 _ _ _ _ _ _ _ _ _, ex_00 _ _ _ _ _ _ _ _ _, ex_01 _ _ _ _ _ _ _ _ _, ex_ch _ _ _ _ _ _ _ _ _, ex_f _ _ _ _ _ _ _ _ _⟩
set_option maxRecDepth 100000 in
set_option maxHeartbeats 4000000 in
theorem bestPlan_ex {X : Ctx} (E : Ex X) {w : World} (hX : X.At w) :
    Calls Tryz.prog 88 #[.pointer (some ⟨X.G, 0, none⟩)] w fun e w' => ∃ bp, e = .returned (.tuple #[.slice (some ⟨bp, 0, none⟩) 2 2, .int .i64 5, .bool true]) ∧ w'.heap[bp]? = some (.cells #[.int .i64 1, .int .i64 0] 3 (0, 0)) ∧ w.heap.size ≤ bp ∧ Below w.heap.size w w' := by
  have HE := Lib.hid E
  have hnp := E.np; have hn := E.n
  have hbp := (Below.refl w.heap.size w).alloc (Nat.le_refl _) (.cells #[.int .i64 0, .int .i64 0] 3)
  have zp := heap_alloc_new w (.cells #[.int .i64 0, .int .i64 0] 3)
  have hpi := two_ints w 0 0
  obtain ⟨i0, hi0, hz0, hz1, hz2⟩ := info_parts int_info
  have hmk := fun W : World => run_make (P := Tryz.prog) 34 3 i0 _ Tryz.underlying34 hi0 hz0 .i64 .i64 (2 : Int) (2 : Int) (by omega) (by omega) (by rw [hz2]; decide) (by omega) (w := W)
  have hmade : madeCells (Value.int .i64 0).cells ((2 : Int).toNat * i0.size) = #[.int .i64 0, .int .i64 0] := by rw [hz1]; kernel_rfl
  simp only [hmade] at hmk
  obtain ⟨_, _, _, _, _, _, g6⟩ := look_cells hX.g
  rw [hn] at g6
  have HX := Lib.hid hX; have HB := Lib.hid hbp; have ZP := Lib.hid zp; have HPI := Lib.hid hpi
  have hX1 := hX.up hbp
  have HX1 := Lib.hid hX1
  have HFF : Hid (Calls Tryz.prog 85 #[.pointer (some ⟨X.G, 0, none⟩), .slice (some ⟨w.heap.size, 0, none⟩) 2 2] (w.alloc (.cells #[.int .i64 0, .int .i64 0] 3)) fun e w' => e = .returned (.agg #[.int .i64 1, .int .i64 5, .int .i64 0]) ∧ Below (w.alloc (.cells #[.int .i64 0, .int .i64 0] 3)).heap.size (w.alloc (.cells #[.int .i64 0, .int .i64 0] 3)) w') :=
    Lib.hid ((firstFault_X E.ok hX1 (some ⟨w.heap.size, 0, none⟩) 2 2 [0, 0] rfl hn.symm hpi (by rw [hnp]; kernel_rfl)).mono (by
      rintro e w' ⟨rfl, h⟩
      rw [E.span, E.fau]
      exact ⟨rfl, h⟩))
  clear hX hbp zp hpi hmade hX1 hz0 hz1 hz2 hi0 E
  go_enter Tryz.func88, Tryz.ntmps88
  go_wp2_with fail
  generalize hWA : w.alloc (.cells #[.int .i64 0, .int .i64 0] 3) = wa at *
  clear hWA
  refine HFF.out.mono ?_
  rintro e wb ⟨rfl, hbb⟩
  have HXB := Lib.hid (HX1.out.up hbb)
  have HBB := Lib.hid (HB.out.trans (hbb.mono HB.out.size))
  have ZPB := Lib.hid ((hbb.block _ (heapsz ZP.out)).trans ZP.out)
  have g0 := (look_cells HXB.out.g).1
  rw [hnp] at g0
  have hfd := fun W : World => field_1 (.int .i64 1) (.int .i64 5) (.int .i64 0) W
  clear hbb HFF HX1 HB ZP g6
  have HLO : Hid (∀ u, Below wb.heap.size wb u → ∀ i : Nat, i < 2 → Calls Tryz.prog 71 #[.pointer (some ⟨X.G, 0, none⟩), .int .i64 (i : Int), .func (.func 72) #[.pointer (some ⟨X.G, 0, none⟩)] #[]] u fun e w' => e = .returned (.int .i64 (-1)) ∧ Below u.heap.size u w') :=
    Lib.hid fun u hu i hi => firstYear_none (by rw [hn]; decide) 72 #[.pointer (some ⟨X.G, 0, none⟩)] #[] (i : Int) u (HXB.out.up hu) (enters_of Tryz.func72 (by kernel_rfl) rfl) (fun v hv t ht => (loses_X HE.out.ok ((HXB.out.up hu).up hv) ht (by rw [hnp]; exact hi)).mono (by
      rintro e w' ⟨rfl, h⟩
      rw [HE.out.los t (by rw [← hn]; exact ht) i hi]
      exact ⟨rfl, h⟩))
  have HFA : Hid (∀ u, Below wb.heap.size wb u → ∀ i : Nat, i < 2 → Calls Tryz.prog 71 #[.pointer (some ⟨X.G, 0, none⟩), .int .i64 (i : Int), .func (.func 117) #[.pointer (some ⟨X.G, 0, none⟩)] #[]] u fun e w' => e = .returned (.int .i64 (-1)) ∧ Below u.heap.size u w') :=
    Lib.hid fun u hu i hi => firstYear_none (by rw [hn]; decide) 117 #[.pointer (some ⟨X.G, 0, none⟩)] #[] (i : Int) u (HXB.out.up hu) (enters_of Tryz.func117 (by kernel_rfl) rfl) (fun v hv t ht => (fails_X HE.out.ok ((HXB.out.up hu).up hv) ht (by rw [hnp]; exact hi)).mono (by
      rintro e w' ⟨rfl, h⟩
      rw [HE.out.fai t (by rw [← hn]; exact ht) i hi]
      exact ⟨rfl, h⟩))
  go_wp2_with fail
  clear g0
  refine wp_loop_rounds 3 ?_
  rw [rounds_succ]
  go_wp2_with fail
  refine (show Calls Tryz.prog 71 #[.pointer (some ⟨X.G, 0, none⟩), .int .i64 0, .func (.func 72) #[.pointer (some ⟨X.G, 0, none⟩)] #[]] wb _ from HLO.out wb (Below.refl _ _) 0 (by decide)).mono ?_
  rintro e w1 ⟨rfl, hb1⟩
  have B1 := Lib.hid hb1
  clear hb1
  go_wp2_with fail
  refine (show Calls Tryz.prog 71 #[.pointer (some ⟨X.G, 0, none⟩), .int .i64 0, .func (.func 117) #[.pointer (some ⟨X.G, 0, none⟩)] #[]] w1 _ from HFA.out w1 B1.out 0 (by decide)).mono ?_
  rintro e w2 ⟨rfl, hb2⟩
  have B2 := Lib.hid (B1.out.trans (hb2.mono B1.out.size))
  clear hb2 B1
  go_wp2_with fail
  rw [rounds_succ]
  go_wp2_with fail
  refine (show Calls Tryz.prog 71 #[.pointer (some ⟨X.G, 0, none⟩), .int .i64 1, .func (.func 72) #[.pointer (some ⟨X.G, 0, none⟩)] #[]] w2 _ from HLO.out w2 B2.out 1 (by decide)).mono ?_
  rintro e w3 ⟨rfl, hb3⟩
  have B3 := Lib.hid (B2.out.trans (hb3.mono B2.out.size))
  clear hb3 B2
  go_wp2_with fail
  refine (show Calls Tryz.prog 71 #[.pointer (some ⟨X.G, 0, none⟩), .int .i64 1, .func (.func 117) #[.pointer (some ⟨X.G, 0, none⟩)] #[]] w3 _ from HFA.out w3 B3.out 1 (by decide)).mono ?_
  rintro e w4 ⟨rfl, hb4⟩
  have B4 := Lib.hid (B3.out.trans (hb4.mono B3.out.size))
  clear hb4 B3 HLO HFA
  go_wp2_with fail
  rw [rounds_succ]
  go_wp2_with fail
  have HX4 := Lib.hid (HXB.out.up B4.out)
  have ZP4 := Lib.hid ((B4.out.block _ (heapsz ZPB.out)).trans ZPB.out)
  have HB4 := Lib.hid (HBB.out.trans (B4.out.mono HBB.out.size))
  have hpi4 : IntsAt w4 w4.heap.size (some ⟨w.heap.size, 0, none⟩) [0, 0] := fun _ => ⟨w.heap.size, 0, rfl, heapsz ZP4.out, fun i x hx j v hv => by
    rw [Nat.zero_add, Nat.mul_one]
    rw [cell_of_row w4 w.heap.size (i + j) _ 3 (0, 0) ZP4.out]
    cases j with
    | succ j => simp [intR] at hv
    | zero =>
      simp [intR] at hv
      subst hv
      match i, hx with
      | 0, hx => simp at hx; subst hx; rfl
      | 1, hx => simp at hx; subst hx; rfl⟩
  have HLV : Hid (Calls Tryz.prog 77 #[.pointer (some ⟨X.G, 0, none⟩), .slice (some ⟨w.heap.size, 0, none⟩) 2 2] w4 fun e w' => ∃ A3 c3, e = .returned (.slice A3 2 c3) ∧ SpsAt w' w'.heap.size A3 exL ∧ 2 ≤ c3 ∧ Below w4.heap.size w4 w') :=
    Lib.hid (by
      have := levels_any HE.out.ok (some ⟨w.heap.size, 0, none⟩) 2 2 [0, 0] w4 HX4.out rfl (by rw [hn]; exact Nat.le_refl _) hpi4 (by rw [hnp]; kernel_rfl)
      rw [HE.out.span] at this
      exact this)
  clear hpi4 B4 HBB ZPB HXB
  have hmm := @run_makeMap Tryz.prog
  refine HLV.out.mono ?_
  rintro e w5 ⟨A3, c3, rfl, hsp, _, hb5⟩
  obtain ⟨z0, z1, hb6⟩ := two_boxes w5 (.map #[] 0) (.cells #[.pointer (some ⟨X.G, 0, none⟩), .slice A3 2 c3, .map (some w5.heap.size)] 167)
  have HX5 := Lib.hid (HX4.out.up hb5)
  have HSP := Lib.hid hsp
  have HB5 := Lib.hid (HB4.out.trans (hb5.mono HB4.out.size))
  have ZP5 := Lib.hid ((hb5.block _ (heapsz ZP4.out)).trans ZP4.out)
  have HB6 := Lib.hid hb6; have Z0 := Lib.hid z0; have Z1 := Lib.hid z1
  have HGR := Lib.hid (groups_ex HE.out.np HE.out.nq HE.out.qs (HX5.out.up hb6))
  clear hsp hb5 z0 z1 hb6 HLV ZP4 HB4 HX4
  go_wp2_with fail
  generalize (w5.alloc (.map #[] 0)).alloc (.cells #[.pointer (some ⟨X.G, 0, none⟩), .slice A3 2 c3, .map (some w5.heap.size)] 167) = w6 at *
  refine HGR.out.mono ?_
  rintro e w7 ⟨gg, cg, rfl, hg3, hgs, hb7⟩
  have HB7 := Lib.hid (HB6.out.trans (hb7.mono HB6.out.size))
  have Z0' := Lib.hid ((hb7.block _ (Array.getElem?_eq_some_iff.1 Z0.out).1).trans Z0.out)
  have Z1' := Lib.hid ((hb7.block _ (heapsz Z1.out)).trans Z1.out)
  have HCO : Hid (Calls Tryz.prog 119 #[.pointer (some ⟨w5.heap.size + 1, 0, none⟩), .int .i64 3] w7 fun e w' => e = .returned (.int .i64 5) ∧ BelX w5.heap.size w7.heap.size w7 w' ∧ ∃ g1 v0 k1 k0 clock', w'.heap[w5.heap.size]? = some (.map #[⟨keyV 3 1, .slice (some ⟨g1, 0, none⟩) 4 4, k1⟩, ⟨keyV 3 0, v0, k0⟩] clock') ∧ w7.heap.size ≤ g1 ∧ w'.heap[g1]? = some (.cells #[.int .i64 nev, .int .i64 nev, .int .i64 0, .int .i64 0] 3 (0, 0))) :=
    Lib.hid (cost_X HE.out.ok (by rw [HE.out.qs]; simp) HE.out.np HE.out.n HX5.out HSP.out (by rw [hn]; rfl) (by rw [hnp]; exact ex_rows) HB7.out (Nat.le_refl _) (by rw [hn]; exact Z1'.out) Z0'.out HE.out.h10 HE.out.h11 HE.out.h00 HE.out.h01 HE.out.ch)
  clear hgs hb7 Z0 Z1 HB6 HGR
  go_wp2_with fail
  refine wp_loop_rounds 2 ?_
  rw [rounds_succ]
  go_wp2_with fail
  refine HCO.out.mono ?_
  rintro e w8 ⟨rfl, hx8, g1, v0, k1, k0, clock', hm8, hg1, hz8⟩
  have HX8 := Lib.hid hx8
  have HM8 := Lib.hid hm8
  have hle : w.heap.size ≤ w5.heap.size := HB5.out.size
  have lbp : w.heap.size < w5.heap.size := heapsz ZP5.out
  have zp8 := (hx8.block w.heap.size (by have := HB7.out.size; omega) (by omega)).trans ((HB7.out.block _ lbp).trans ZP5.out)
  have hP8 : PlAt X exL (w5.heap.size + 1) A3 c3 (.map (some w5.heap.size)) w8 := plb HX5.out HSP.out (by rw [hn]; rfl) (by rw [hnp]; exact ex_rows) HB7.out (Nat.le_refl _) (by rw [hn]; exact Z1'.out) ⟨_, _, Z0'.out⟩ hx8
  obtain ⟨es, hes⟩ : ∃ z, (#[⟨keyV 3 1, .slice (some ⟨g1, 0, none⟩) 4 4, k1⟩, ⟨keyV 3 0, v0, k0⟩] : Array MapEntry) = z := ⟨_, rfl⟩
  rw [hes] at hm8
  have HJ := Lib.hid (jack_X HE.out.ok HE.out.np HE.out.n hP8 es clock' hm8 (fun u hu => by
      have := map_get (w := u) hu (key := keyV 3 1) (v := .slice (some ⟨g1, 0, none⟩) 4 4) key_31.choose_spec
        (fun e he => by rw [← hes] at he; simp at he; rcases he with rfl | rfl; exact key_31; exact key_30)
        ⟨⟨keyV 3 1, .slice (some ⟨g1, 0, none⟩) 4 4, k1⟩, by rw [← hes]; simp, rfl⟩
        (fun e he hk => by
          rw [← hes] at he
          simp at he
          rcases he with rfl | rfl
          · rfl
          · unfold keyV at hk; injection hk with hk; simp at hk)
      exact this) _ 61000000 61000000 0 0 hz8 rfl rfl rfl rfl (by decide) zp8 exF HE.out.f 1 ex_chI ex_or)
  have HB8 : Hid (Below w.heap.size w w8) := Lib.hid ((HB5.out.trans (HB7.out.mono hle)).trans (hx8.below (by have := HB7.out.size; omega) hle))
  have HLT8 : Hid (w.heap.size ≤ w8.heap.size) := Lib.hid HB8.out.size
  clear hx8 hm8 hz8 zp8 hP8 hes hg3 HCO
  go_wp2_with fail
  refine HJ.out.mono ?_
  rintro e w9 ⟨⟨v, rfl⟩, hz9, hb9⟩
  have HZ9 := Lib.hid hz9
  have HB9 := Lib.hid (HB8.out.trans (hb9 w.heap.size (Nat.le_refl _) HLT8.out))
  clear hz9 hb9 HJ
  go_wp2_with fail
  rw [rounds_succ]
  go_wp2_with fail
  try rw [Exit.noGoto_ret]
  exact bodyPost_ret (v := .tuple #[.slice (some ⟨w.heap.size, 0, none⟩) 2 2, .int .i64 5, .bool true]) (by simp [results, Tryz.results88, go_sem]) rfl ⟨w.heap.size, rfl, HZ9.out, Nat.le_refl _, HB9.out⟩
end Go.Proofs.YtdlaphlpimlgdaaGreatDoor
/- The best plan of the example: the exported function. -/
namespace Go.Proofs.YtdlaphlpimlgdaaGreatDoor
open Go.RowKit Go.Shelf

set_option maxRecDepth 100000 in
set_option maxHeartbeats 4000000 in
theorem Best_ex {X : Ctx} (hth : thawsI X.sit X.ts = 0) (hE : ∀ G, Ex (X.up G)) {w : World} (h : X.In w) :
    Calls Tryz.prog 44 #[X.sv, X.tv] w fun e w' => ∃ bp, e = .returned (.tuple #[.slice (some ⟨bp, 0, none⟩) 2 2, .int .i64 5, .int .i64 0]) ∧ w'.heap[bp]? = some (.cells #[.int .i64 1, .int .i64 0] 3 (0, 0)) ∧ w.heap.size ≤ bp ∧ Below w.heap.size w w' := by
  obtain ⟨z0, hb0⟩ := site_new X w
  have HI := Lib.hid (h.up hb0); have HB := Lib.hid hb0
  have Z0 := Lib.hid z0
  have HT := Lib.hid hth; have HE := Lib.hid hE
  obtain ⟨s0, s1, s2, s3, s4, s5⟩ := site_box z0
  clear h z0 hb0 hth hE
  go_enter Tryz.func44, Tryz.ntmps44
  go_wp2_with fail
  refine (checkThaws_X HI.out).mono ?_
  rintro e w1 ⟨rfl, hb1⟩
  rw [HT.out]
  have HB1 := Lib.hid (HB.out.trans (hb1.mono HB.out.size))
  have HI1 := Lib.hid (HI.out.up hb1)
  have z1 := (hb1.block _ (heapsz Z0.out)).trans Z0.out
  clear s0 s1 s2 s3 s4 s5 hb1 HI Z0 HB
  obtain ⟨s0, s1, s2, s3, s4, s5⟩ := site_box z1
  clear z1
  go_wp2_with fail
  refine (look_X HI1.out).mono ?_
  rintro e w2 ⟨G, rfl, hX, hb2⟩
  have HB2 := Lib.hid (HB1.out.trans (hb2.mono HB1.out.size))
  have HBP : Hid (Calls Tryz.prog 88 #[.pointer (some ⟨G, 0, none⟩)] w2 fun e w' => ∃ bp, e = .returned (.tuple #[.slice (some ⟨bp, 0, none⟩) 2 2, .int .i64 5, .bool true]) ∧ w'.heap[bp]? = some (.cells #[.int .i64 1, .int .i64 0] 3 (0, 0)) ∧ w2.heap.size ≤ bp ∧ Below w2.heap.size w2 w') := Lib.hid (bestPlan_ex (HE.out G) hX)
  clear hX hb2 s0 s1 s2 s3 s4 s5
  go_wp2_with fail
  refine HBP.out.mono ?_
  rintro e w3 ⟨bp, rfl, hz, hge, hb3⟩
  have HZ := Lib.hid hz
  have HG : Hid (w.heap.size ≤ bp) := Lib.hid (Nat.le_trans HB2.out.size hge)
  have HB3 := Lib.hid (HB2.out.trans (hb3.mono HB2.out.size))
  clear hz hge hb3 HBP
  go_wp2_with fail
  exact bodyPost_ret (v := .tuple #[.slice (some ⟨bp, 0, none⟩) 2 2, .int .i64 5, .int .i64 0]) (by simp [results, Tryz.results44, go_sem]) rfl ⟨bp, rfl, HZ.out, HG.out, HB3.out⟩
end Go.Proofs.YtdlaphlpimlgdaaGreatDoor
