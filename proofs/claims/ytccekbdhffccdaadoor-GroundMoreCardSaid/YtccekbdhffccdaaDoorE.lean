/- The depth of some heat: the layers are gone through by an iterator of the program's own. -/
import Derived.RangeFuncNested
import Derived.RangeFuncBound
import Derived.RangeFuncCalls
import Derived.RangeFuncLeaves
import Derived.RangeFuncBox
import Derived.RangeFuncFrom
import Derived.Shelf.Abstract
import Derived.Shelf.RegionOpen
import Derived.OwnWalkIn
import Derived.TacticsInMore
import Derived.LoopNIn
import Derived.LoopIn
import Derived.RegionIn
import Derived.Test.YtccekbdhffccdaaDoorB
namespace Go.Proofs.YtccekbdhffccdaaDoor
open Go.RowKit Go.Shelf
attribute [local go_sem] Oper.semAt_some

abbrev Hx (L : Nat) := { p : Nat × Int // p.1 < L ∧ 0 ≤ p.2 ∧ p.2 ≤ 9223372036854775807 }
def heatOf (ls : List Lay) (ms : List Int) (k : Nat) : Int := (ls[k]?.elim 0 (·.t)) * (ms[k]?.getD 0)
def heatsL (ls : List Lay) (ms : List Int) : List (Nat × Int) := (List.range (ls.length - 1)).map (fun k => (k, heatOf ls ms k)) ++ [(ls.length - 1, 9223372036854775807)]

def KpB (n₀ Bn : Nat) (W W' : World) : Prop := Below n₀ W W' ∧ W'.cell? ⟨Bn, 0, none⟩ = W.cell? ⟨Bn, 0, none⟩
theorem heatsL_get {ls : List Lay} {ms : List Int} {L k : Nat} {x : Lay} {m : Int} (hL : ls.length = L) (hk : k + 1 < L) (hx : ls[k]? = some x) (hm : ms[k]? = some m) : (heatsL ls ms)[k]? = some (k, x.t * m) := by
  unfold heatsL
  rw [List.getElem?_append_left (by simp; omega), List.getElem?_map, List.getElem?_range (by omega)]
  simp [heatOf, hx, hm]
theorem heatsL_all {ls : List Lay} {ms : List Int} {L k : Nat} (hL : ls.length = L) (hk : k = L - 1) : (heatsL ls ms).take k ++ [(L - 1, 9223372036854775807)] = heatsL ls ms := by
  subst hk
  unfold heatsL
  rw [hL, List.take_append_of_le_length (by simp), List.take_of_length_le (by simp)]
theorem two {e : Ending} {A B : Prop} (h : (e = .returned (.bool true) ∧ A) ∨ (e = .returned (.bool false) ∧ B)) : ∃ b, e = .returned (.bool b) ∧ ((b = true ∧ A) ∨ (b = false ∧ B)) := by
  rcases h with ⟨rfl, h⟩ | ⟨rfl, h⟩
  · exact ⟨true, rfl, .inl ⟨rfl, h⟩⟩
  · exact ⟨false, rfl, .inr ⟨rfl, h⟩⟩
set_option maxRecDepth 100000 in
set_option maxHeartbeats 2000000 in
theorem heats1_in (n : Nat) (hn : 1 ≤ n) (l Bn n₀ g bl ol c bm om L cm : Nat) (ls : List Lay) (ms : List Int) (hg : g < n₀) (hbl : bl < n₀) (hbm : bm < n₀)
    (hL : ls.length = L) (h1 : 1 ≤ L) (h6 : L ≤ 6) (hM : ms.length = L) (hcap : L ≤ c) (ht : ∀ x ∈ ls, 1 ≤ x.t ∧ x.t ≤ 20000) (hm : ∀ x ∈ ms, 1 ≤ x ∧ x ≤ 1000) (J Jx : List (Hx L) → World → Prop) (hJa : ∀ s W W', J s W → W.grownBy W' none → J s W')
    (hY : ∀ pre x W, J pre W → pre.length < L → YieldAt Fence.wide (n - 1) Tryd.prog l #[.int .i64 (x.1.1 : Int), .int .i64 x.1.2] W fun e W' =>
      (e = .returned (.bool true) ∧ J (pre ++ [x]) W' ∧ KpB n₀ Bn W W') ∨ (e = .returned (.bool false) ∧ Jx (pre ++ [x]) W'))
    (W : World) (hn₀ : n₀ ≤ W.heap.size) (hBn : Bn < W.heap.size) (c0 : W.cell? ⟨Bn, 0, none⟩ = some (.pointer (some ⟨g, 0, none⟩))) (c1 : W.cell? ⟨g, 0, none⟩ = some (.slice (some ⟨bl, ol, none⟩) L c))
    (c2 : W.cell? ⟨g, 3, none⟩ = some (.slice (some ⟨bm, om, none⟩) L cm))
    (c3 : ∀ i x, ls[i]? = some x → W.cell? ⟨bl, ol + i * 3, none⟩ = some (.int .i64 x.t) ∧ W.cell? ⟨bl, ol + i * 3 + 1, none⟩ = some (.int .i64 x.lo) ∧ W.cell? ⟨bl, ol + i * 3 + 2, none⟩ = some (.int .i64 x.hi))
    (c4 : ∀ i x, ms[i]? = some x → W.cell? ⟨bm, om + i, none⟩ = some (.int .i64 x)) (h0 : J [] W) :
    CallsIn Fence.wide n Tryd.prog 110 #[.func (.yield l) #[] #[], .pointer (some ⟨Bn, 0, none⟩)] W fun e W' => (∃ v, e = .returned v) ∧
      ((∃ ys, ys.map Subtype.val = heatsL ls ms ∧ J ys W') ∨ (∃ pre, True ∧ Jx pre W')) := by
  have C0 := Lib.hid c0
  have HL := Lib.hid hL; clear hL
  have HM := Lib.hid hM; clear hM
  have C3 := Lib.hid c3; clear c3
  have C4 := Lib.hid c4; clear c4
  have HT := Lib.hid ht; clear ht
  have Hm := Lib.hid hm; clear hm
  refine callsIn_of_wp Tryd.func110 rfl trivial ?_ rfl
  simp only [Tryd.ntmps110, List.size_toArray, List.length_cons, List.length_nil, Nat.reduceAdd, Nat.reduceSub, Array.replicate_succ, Array.replicate_zero, List.push_toArray, List.append_toArray, List.nil_append, List.cons_append]
  gi_wp2
  gi_loopw [21] (fun i wr => ∃ (k : Nat) (pre : List (Hx L)), k + 1 ≤ L ∧ i = .int .i64 k ∧ pre.map Subtype.val = (heatsL ls ms).take k ∧ J pre wr ∧ Below n₀ W wr ∧ wr.cell? ⟨Bn, 0, none⟩ = some (.pointer (some ⟨g, 0, none⟩))) (fun i _ => L - (intOf i).toNat)
  case atStart => exact ⟨0, [], by omega, rfl, by simp, h0, Below.refl _ _, C0.out⟩
  case round =>
    clear c0
    obtain ⟨k, pre, hk, rfl, hpre, hJs, hbr, c0⟩ := hrel
    have HP := Lib.hid hpre; clear hpre
    have hz := hbr.size
    obtain ⟨r1, r2⟩ := bcell hbr
    replace c1 := (r1 _ _ hg).trans c1
    replace c2 := (r1 _ _ hg).trans c2
    clear r2
    by_cases hlt : k + 1 < L
    · obtain ⟨x, hx⟩ := get_of_lt (l := ls) (k := k) (by rw [HL.out]; omega)
      obtain ⟨m, hmk⟩ := get_of_lt (l := ms) (k := k) (by rw [HM.out]; omega)
      obtain ⟨d0, d1, d2⟩ := C3.out k x hx
      have d3 := C4.out k m hmk
      replace d0 := (r1 _ _ hbl).trans d0
      replace d1 := (r1 _ _ hbl).trans d1
      replace d2 := (r1 _ _ hbl).trans d2
      replace d3 := (r1 _ _ hbm).trans d3
      obtain ⟨t1, t2⟩ := HT.out x (List.mem_of_getElem? hx)
      obtain ⟨m1, m2⟩ := Hm.out m (List.mem_of_getElem? hmk)
      have HX := Lib.hid hx; clear hx
      have HK := Lib.hid hmk; clear hmk
      clear r1
      have hmul0 : 0 ≤ x.t * m := Int.mul_nonneg (by omega) (by omega)
      have hmul1 : x.t * m ≤ 20000000 := Int.le_trans (Int.mul_le_mul t2 m2 (by omega) (by omega)) (by decide)
      gi_wp2
      have fol : Tryd.prog.follows Departure.mixedOrders = true := by kernel_rfl
      have hBw : Bn < wr.heap.size := by omega
      have hgw : g < wr.heap.size := by omega
      have hblw : bl < wr.heap.size := by omega
      have hbmw : bm < wr.heap.size := by omega
      have hz1 : W.heap.size < (wr.alloc (Obj.cells #[Value.int IntKind.i64 x.t, Value.int IntKind.i64 x.lo, Value.int IntKind.i64 x.hi] 86)).heap.size := by simp; omega
      have hJ' : J pre ((wr.alloc (Obj.cells #[Value.int IntKind.i64 x.t, Value.int IntKind.i64 x.lo, Value.int IntKind.i64 x.hi] 86)).drew) := hJa _ _ _ (hJa _ _ _ hJs (World.grownBy_alloc _ _ none)) ⟨rfl, rfl, rfl, Nat.le_refl _, fun _ _ _ => rfl⟩
      have hlen : pre.length < L := by
        have := congrArg List.length HP.out
        rw [List.length_map, List.length_take] at this
        omega
      obtain ⟨fn, tmps, assign, body, hy, hR⟩ := hY pre ⟨(k, x.t * m), by omega, hmul0, by omega⟩ _ hJ' hlen
      dsimp only at hy
      have hwrap : Value.int .i64 (IntKind.i64.wrap (x.t * m)) = Value.int .i64 (x.t * m) := congrArg _ (IntWalk.i64_in _ (by omega))
      gi_region_with_o (refine hR.mono ?_; rintro e W3 h4; obtain ⟨bv, rfl, h3⟩ := two h4; clear h4)
      all_goals
        clear hwrap
        rcases h3 with ⟨rfl, hJ3, hk3⟩ | ⟨rfl, hJx3⟩
        · have hb3 : Below n₀ W W3 := hbr.trans ((((Below.refl n₀ wr).alloc (by omega) _).drew).trans hk3.1)
          have hcB : W3.cell? ⟨Bn, 0, none⟩ = some (.pointer (some ⟨g, 0, none⟩)) := hk3.2.trans ((World.cell?_alloc_lt wr _ ⟨Bn, 0, none⟩ hBw).trans c0)
          have HcB := Lib.hid hcB
          clear hcB hk3
          have hmap : (pre ++ [(⟨(k, x.t * m), by omega, hmul0, by omega⟩ : Hx L)]).map Subtype.val = (heatsL ls ms).take (k + 1) := by
            rw [List.map_append, HP.out, List.take_add_one, heatsL_get HL.out hlt HX.out HK.out]
            rfl
          have HB := Lib.hid hmap
          clear hmap hy
          gi_wp2
          go_roundw
          case rel => exact ⟨k + 1, _, by omega, by go_num, HB.out, hJ3, hb3, HcB.out⟩
          case measure => simp [intOf]; omega
        · clear hy
          gi_wp2
          refine bodyPost_ret (results_none rfl _ _ _) rfl ?_
          exact ⟨⟨_, rfl⟩, .inr ⟨_, trivial, hJx3⟩⟩
    · have HK : Hid (k = L - 1) := Lib.hid (by omega)
      have hlen : pre.length < L := by
        have := congrArg List.length HP.out
        rw [List.length_map, List.length_take] at this
        omega
      obtain ⟨fn, tmps, assign, body, hy, hR⟩ := hY pre ⟨(L - 1, 9223372036854775807), by omega, by show (0 : Int) ≤ 9223372036854775807; omega, by show (9223372036854775807 : Int) ≤ 9223372036854775807; omega⟩ _ hJs hlen
      have eL : ((L - 1 : Nat) : Int) = (L : Int) - 1 := by omega
      dsimp only at hy
      rw [eL] at hy
      clear eL r1
      have hge : L - 1 ≤ k := by omega
      gi_wp2
      refine hR.mono ?_
      rintro e W3 h4
      obtain ⟨bv, rfl, h3⟩ := two h4
      clear h4
      clear hy
      rcases h3 with ⟨rfl, hJ3, hk3⟩ | ⟨rfl, hJx3⟩
      · gi_wp2
        go_end0
        exact ⟨⟨_, rfl⟩, .inl ⟨_, by rw [List.map_append, HP.out]; exact heatsL_all HL.out HK.out, hJ3⟩⟩
      · gi_wp2
        go_end0
        exact ⟨⟨_, rfl⟩, .inr ⟨_, trivial, hJx3⟩⟩

theorem heats_stops (n : Nat) (hn : 1 ≤ n) (Bn n₀ g bl ol c bm om L cm : Nat) (ls : List Lay) (ms : List Int) (hg : g < n₀) (hbl : bl < n₀) (hbm : bm < n₀)
    (hL : ls.length = L) (h1 : 1 ≤ L) (h6 : L ≤ 6) (hM : ms.length = L) (hcap : L ≤ c) (ht : ∀ x ∈ ls, 1 ≤ x.t ∧ x.t ≤ 20000) (hm : ∀ x ∈ ms, 1 ≤ x ∧ x ≤ 1000)
    (w : World) (hn₀ : n₀ ≤ w.heap.size) (hBn : Bn < w.heap.size) (c0 : w.cell? ⟨Bn, 0, none⟩ = some (.pointer (some ⟨g, 0, none⟩))) (c1 : w.cell? ⟨g, 0, none⟩ = some (.slice (some ⟨bl, ol, none⟩) L c))
    (c2 : w.cell? ⟨g, 3, none⟩ = some (.slice (some ⟨bm, om, none⟩) L cm))
    (c3 : ∀ i x, ls[i]? = some x → w.cell? ⟨bl, ol + i * 3, none⟩ = some (.int .i64 x.t) ∧ w.cell? ⟨bl, ol + i * 3 + 1, none⟩ = some (.int .i64 x.lo) ∧ w.cell? ⟨bl, ol + i * 3 + 2, none⟩ = some (.int .i64 x.hi))
    (c4 : ∀ i x, ms[i]? = some x → w.cell? ⟨bm, om + i, none⟩ = some (.int .i64 x)) :
    SeqStopsK Fence.wide n Tryd.prog 110 #[.pointer (some ⟨Bn, 0, none⟩)] (fun x : Hx L => #[.int .i64 (x.1.1 : Int), .int .i64 x.1.2]) (KpB n₀ Bn) (fun ys => ys.map Subtype.val = heatsL ls ms) (fun _ => True) L w := fun l J Jx W hW hJ hJx hY h0 => by
  have hs := hW.size
  obtain ⟨r1, r2⟩ := bcell hW
  exact heats1_in n hn l Bn n₀ g bl ol c bm om L cm ls ms hg hbl hbm hL h1 h6 hM hcap ht hm J Jx (fun s W W' h1 h2 => hJ s W W' none h1 h2 (fun r e => by cases e)) hY W (by omega) (by omega)
    ((r1 _ _ hBn).trans c0) ((r1 _ _ (by omega)).trans c1) ((r1 _ _ (by omega)).trans c2)
    (fun i x hi => ⟨(r1 _ _ (by omega)).trans (c3 i x hi).1, (r1 _ _ (by omega)).trans (c3 i x hi).2.1, (r1 _ _ (by omega)).trans (c3 i x hi).2.2⟩)
    (fun i x hi => (r1 _ _ (by omega)).trans (c4 i x hi)) h0

set_option maxHeartbeats 400000 in
theorem heats_any (g : Option Addr) (w : World) :
    Calls Tryd.prog 106 #[.pointer g] w fun e w' => e = .returned (.func (.func 110) #[] #[.pointer (some ⟨w.heap.size, 0, none⟩)]) ∧ w.alloc (.cells #[.pointer g] 94) = w' := by
  go_enter Tryd.func106, Tryd.ntmps106
  go_wp2
  go_ret
  exact ⟨rfl, rfl⟩
end Go.Proofs.YtccekbdhffccdaaDoor
