/- The truth in which the ground is as cold as can be, as the program puts it together. -/
import Derived.Test.YtccekbdhffccdaaDoorN
import Derived.Deep.DeepCutAuto
namespace Go.Proofs.YtccekbdhffccdaaDoor
open Go.RowKit Go.Shelf
attribute [local go_sem ↓] Go.wp_at_zero Go.wp_at_succ

def yrA (x : Yr) : Array Value := #[.int .i64 x.sl, .int .i64 x.sh, .int .i64 x.wl, .int .i64 x.wh, .int .i64 x.nl, .int .i64 x.nh]
theorem own88_ne {w : World} {T : Nat} {cs : Array Value} (h : w.heap[T]? = some (.cells cs 88 (0, 0))) {base size n : Nat} {v : Value} {xs : List Value} (ho : w.ownsRow base 3 size v n xs) : v.ownBlock ≠ some T := by
  rcases ho.2 with ⟨rfl, _⟩ | ⟨g', cap, cur, rfl, _, hh, _⟩
  · simp [Value.ownBlock]
  · intro he
    have : g' = T := by simpa [Value.ownBlock] using he
    subst this
    rw [hh] at h
    injection h with h
    injection h with _ ht
    exact absurd ht (by decide)
def extT (warm : Bool) (ls : List Lay) (lo hi : Int) (ys : List Yr) : Tru :=
  ⟨ls.map fun l => if warm then l.lo else l.hi, ys.map fun _ => if warm then hi else lo, ys.map fun y => if warm then y.sh else y.sl, ys.map fun y => if warm then y.wl else y.wh, ys.map fun y => if warm then y.nh else y.nl⟩
/-- What a call of extreme leaves. -/
def ExtPost (w : World) (t : Tru) (e : Ending) (w' : World) : Prop :=
  ∃ v0 v1 v2 v3 v4 : Value, e = .returned (.agg #[v0, v1, v2, v3, v4]) ∧ w'.ownsRow w.heap.size 3 1 v0 t.ms.length (ints t.ms) ∧ w'.ownsRow w.heap.size 3 1 v1 t.ws.length (ints t.ws) ∧
    w'.ownsRow w.heap.size 3 1 v2 t.ss.length (ints t.ss) ∧ w'.ownsRow w.heap.size 3 1 v3 t.vs.length (ints t.vs) ∧ w'.ownsRow w.heap.size 3 1 v4 t.ns.length (ints t.ns) ∧ Below w.heap.size w w'

theorem ext_end {w wr : World} {pc : Array Value} {T k : Nat} {u0 u1 u2 u3 u4 x0 x1 x2 x3 x4 : Value} {ls : List Lay} {ys : List Yr} {lo hi : Int}
    (h : EI w wr pc T [u0, u1, u2, u3, u4] [ls.map (fun l => l.hi), (ys.take k).map (fun _ => lo), (ys.take k).map (fun y => y.sl), (ys.take k).map (fun y => y.wh), (ys.take k).map (fun y => y.nl)]) (ht : ys.take k = ys) :
    ExtPost w (extT false ls lo hi ys) (.returned (.agg #[u0, u1, u2, u3, u4])) (((((wr.setCell ⟨w.heap.size + 1, 0, none⟩ x0).setCell ⟨w.heap.size + 1, 1, none⟩ x1).setCell ⟨w.heap.size + 1, 2, none⟩ x2).setCell ⟨w.heap.size + 1, 3, none⟩ x3).setCell ⟨w.heap.size + 1, 4, none⟩ x4) := by
  rw [ht] at h
  have hf : ∀ row, Frm wr.heap.size (w.heap.size + 1) row wr (((((wr.setCell ⟨w.heap.size + 1, 0, none⟩ x0).setCell ⟨w.heap.size + 1, 1, none⟩ x1).setCell ⟨w.heap.size + 1, 2, none⟩ x2).setCell ⟨w.heap.size + 1, 3, none⟩ x3).setCell ⟨w.heap.size + 1, 4, none⟩ x4) := fun row =>
    ((((Frm.set_ _ 0 x0).trans (Frm.set_ _ 1 x1)).trans (Frm.set_ _ 2 x2)).trans (Frm.set_ _ 3 x3)).trans (Frm.set_ _ 4 x4)
  have keep : ∀ {n : Nat} {u : Value} {zs : List Value}, wr.ownsRow w.heap.size 3 1 u n zs → (((((wr.setCell ⟨w.heap.size + 1, 0, none⟩ x0).setCell ⟨w.heap.size + 1, 1, none⟩ x1).setCell ⟨w.heap.size + 1, 2, none⟩ x2).setCell ⟨w.heap.size + 1, 3, none⟩ x3).setCell ⟨w.heap.size + 1, 4, none⟩ x4).ownsRow w.heap.size 3 1 u n zs := fun hu =>
    own_frm (row := some (w.heap.size + 1)) (g := w.heap.size + 1) hu (hf _) (own41_ne h.rb hu) (.inr (own41_ne h.rb hu))
  exact ⟨u0, u1, u2, u3, u4, rfl, keep (h.own 0 _ _ rfl rfl), keep (h.own 1 _ _ rfl rfl), keep (h.own 2 _ _ rfl rfl), keep (h.own 3 _ _ rfl rfl), keep (h.own 4 _ _ rfl rfl), h.bel.trans ((hf none).below h.bel.size (by omega) (by simp))⟩

set_option maxRecDepth 100000 in
set_option maxHeartbeats 4000000 in
theorem extreme_cold (A A2 : Option Addr) (n c m c' : Nat) (ls : List Lay) (ys : List Yr) (lo hi : Int) (w : World) (hl : ls.length = n) (hn : n ≤ 6) (hL : LaysAt w w.heap.size A ls)
    (hm : ys.length = m) (hm2 : m ≤ 12) (hY : YrsAt w w.heap.size A2 ys) :
    Calls Tryd.prog 56 #[.agg #[.slice A n c, .int .i64 lo, .int .i64 hi], .slice A2 m c', .func (.func 84) #[] #[], .func (.func 85) #[] #[]] w (ExtPost w (extT false ls lo hi ys)) := by
  have HL := Lib.hid hl; clear hl
  have HM := Lib.hid hm; clear hm
  obtain ⟨i0, hi0, hz0, hz1, hz2⟩ := info_parts int_info
  have I0 := Lib.hid hi0; clear hi0
  have Z0 := Lib.hid hz0; clear hz0
  have Z1 := Lib.hid hz1; clear hz1
  have Z2 := Lib.hid hz2; clear hz2
  have hEI : EI w (((w.alloc (.cells #[.slice A n c, .int .i64 lo, .int .i64 hi] 26)).alloc (.cells #[nilV, nilV, nilV, nilV, nilV] 41)).alloc (.cells #[nilV, nilV, nilV, nilV, nilV] 41)) #[.slice A n c, .int .i64 lo, .int .i64 hi] (w.heap.size + 1 + 1) [nilV, nilV, nilV, nilV, nilV] [[], [], [], [], []] := by
    have hb := heap_alloc_new ((w.alloc (.cells #[.slice A n c, .int .i64 lo, .int .i64 hi] 26)).alloc (.cells #[nilV, nilV, nilV, nilV, nilV] 41)) (.cells #[nilV, nilV, nilV, nilV, nilV] 41)
    have hr := heap_alloc_new (w.alloc (.cells #[.slice A n c, .int .i64 lo, .int .i64 hi] 26)) (.cells #[nilV, nilV, nilV, nilV, nilV] 41)
    have hp := heap_alloc_new w (.cells #[.slice A n c, .int .i64 lo, .int .i64 hi] 26)
    simp only [World.size_alloc] at hb hr
    refine ⟨hb, ?_, ?_, (((Below.refl _ w).alloc (Nat.le_refl _) _).alloc (by simp) _).alloc (by simp; omega) _, by omega, rfl, (Below.heap_alloc _ _ _ (by simp; omega)).trans ((Below.heap_alloc _ _ _ (by simp)).trans hp), by omega, (Below.heap_alloc _ _ _ (by simp)).trans hr, by omega⟩
    · intro j v l hv hl
      have h1 : v = nilV := by match j, hv with | 0, hv => simpa using hv.symm | 1, hv => simpa using hv.symm | 2, hv => simpa using hv.symm | 3, hv => simpa using hv.symm | 4, hv => simpa using hv.symm | j + 5, hv => simp at hv
      have h2 : l = [] := by match j, hl with | 0, hl => simpa using hl.symm | 1, hl => simpa using hl.symm | 2, hl => simpa using hl.symm | 3, hl => simpa using hl.symm | 4, hl => simpa using hl.symm | j + 5, hl => simp at hl
      subst h1 h2
      exact World.ownsRow_nil _ _ _ _
    · intro i j v u b hij hv hu hb
      have h1 : v = nilV := by match i, hv with | 0, hv => simpa using hv.symm | 1, hv => simpa using hv.symm | 2, hv => simpa using hv.symm | 3, hv => simpa using hv.symm | 4, hv => simpa using hv.symm | j + 5, hv => simp at hv
      subst h1
      simp [nilV, Value.ownBlock] at hb
  have HEI := Lib.hid hEI; clear hEI
  go_enter Tryd.func56, Tryd.ntmps56
  go_wp2
  go_loopw [17] (fun i wr => ∃ (k : Nat) (v0 : Value), k ≤ n ∧ i = .int .i64 k ∧ EI w wr #[.slice A n c, .int .i64 lo, .int .i64 hi] (w.heap.size + 1 + 1) [v0, nilV, nilV, nilV, nilV] [(ls.take k).map (fun l => l.hi), [], [], [], []]) (fun i _ => n - (intOf i).toNat)
  case atStart => exact ⟨0, nilV, Nat.zero_le _, rfl, HEI.out⟩
  case round =>
    obtain ⟨k, v0, hk, rfl, hI⟩ := hrel
    have HI := Lib.hid hI
    have hbl := hI.blk
    clear hI
    by_cases hlt : k < n
    · obtain ⟨x, hx⟩ := get_of_lt (l := ls) (k := k) (by rw [HL.out]; exact hlt)
      obtain ⟨b, o, rfl, hb, hcs⟩ := hL (by intro h; rw [h] at hx; simp at hx)
      obtain ⟨c0, c1, c2⟩ := hcs k x hx
      have hz := HI.out.bel.size
      replace c0 := ((bcell HI.out.bel).1 _ _ hb).trans c0
      replace c1 := ((bcell HI.out.bel).1 _ _ hb).trans c1
      replace c2 := ((bcell HI.out.bel).1 _ _ hb).trans c2
      have hT := (Array.getElem?_eq_some_iff.1 hbl).1
      have kT : wr.cell? ⟨w.heap.size + 1 + 1, 0, none⟩ = some v0 := by simpa using cell_of_row wr (w.heap.size + 1 + 1) 0 _ 41 (0, 0) hbl
      have HX := Lib.hid hx
      have hlk : ((ls.take k).map (fun l => l.hi)).length ≤ 6 := by simp; omega
      clear hx hcs hbl
      go_wp2_with fail
      go_region_law
        (first
          | (refine step_enter (by rfl) 85 #[.agg #[.int .i64 x.lo, .int .i64 x.hi]] (by go_simp) ?_
             refine (high_any x.lo x.hi _).mono ?_
             rintro e w2 ⟨rfl, hb2⟩
             refine ⟨_, rfl, ?_⟩
             have HB2 := Lib.hid (((Below.refl _ _).alloc (Nat.le_refl _) _).drew.trans (hb2.mono (by show wr.heap.size ≤ (wr.alloc _).heap.size; simp)))
             have h2 := HI.out.next HB2.out
             have hcT : w2.cell? ⟨w.heap.size + 1 + 1, 0, none⟩ = some v0 := by simpa using cell_of_row w2 (w.heap.size + 1 + 1) 0 _ 41 (0, 0) h2.blk
             have hT2 : w.heap.size + 1 + 1 < w2.heap.size := (Array.getElem?_eq_some_iff.1 h2.blk).1
             have hB2 : w.heap.size ≤ w2.heap.size := by omega
             have H2 := Lib.hid h2
             clear h2 hb2)
          | (refine step_append_lies _ (by rfl) _ _ _ (by rfl) w.heap.size 3 i0 _ 1 8 Tryd.underlying39 I0.out Z0.out Z1.out Z2.out rfl (by omega) v0 ((ls.take k).map (fun l => l.hi)).length (ints ((ls.take k).map (fun l => l.hi))) (by rfl) ((H2.out.own 0 _ _ rfl rfl).alloc _)
               ⟨w2.heap.size, 0, none⟩ 1 1 [.int .i64 x.hi] (by rfl) (by rfl) (cell_one_new _ _ _) (by simp [Value.oneCell']) (by omega) (by unfold maxLen; omega) (by omega) (by simp; omega) (w2.heap.size + 1) (by simp) ?_
             intro gt cap w3 hown3 hgrow hat hlt3
             have hI3 := HI.out.app (j := 0) rfl rfl HB2.out hgrow hown3 hat
             have hf3 : w3.heap[w.heap.size + 1 + 1]? = _ := (hgrow.block (w.heap.size + 1 + 1) (by simp; omega) (fun e => own41_ne HI.out.blk (HI.out.own 0 _ _ rfl rfl) e.symm)).trans ((Below.heap_alloc _ _ (w.heap.size + 1 + 1) hT2).trans H2.out.blk)
             have hc3 : w3.cell? ⟨w.heap.size + 1 + 1, 0, none⟩ = some v0 := by simpa using cell_of_row w3 (w.heap.size + 1 + 1) 0 _ 41 (0, 0) hf3
             have hz3 : w3.frozen? ⟨w.heap.size + 1 + 1, 0, none⟩ = false := by simp [World.frozen?, hf3]
             have HI3 := Lib.hid hI3
             clear hown3 hgrow hat hf3 hI3)
          | fail)
      all_goals
        go_wp2
        go_roundw
        case rel => exact ⟨k + 1, _, by omega, by go_num, by rw [List.take_add_one, HX.out]; simpa using HI3.out⟩
        case measure => simp [intOf]; omega
    · obtain rfl : n = k := by omega
      have hI0 : EI w wr #[.slice A n c, .int .i64 lo, .int .i64 hi] (w.heap.size + 1 + 1) [v0, nilV, nilV, nilV, nilV] [ls.map (fun l => l.hi), (ys.take 0).map (fun _ => lo), (ys.take 0).map (fun y => y.sl), (ys.take 0).map (fun y => y.wh), (ys.take 0).map (fun y => y.nl)] := by
        have := HI.out
        rw [List.take_of_length_le (by rw [HL.out]; exact Nat.le_refl _)] at this
        exact this
      have H00 := Lib.hid hI0
      clear hI0 hbl
      go_wp2_with fail
      obtain ⟨wo, hwo⟩ : ∃ wo : World, wo = wr := ⟨_, rfl⟩
      subst hwo
      go_loopw [33] (fun i wr => ∃ (k : Nat) (v1 v2 v3 v4 : Value), k ≤ m ∧ i = .int .i64 k ∧ EI w wr #[.slice A n c, .int .i64 lo, .int .i64 hi] (w.heap.size + 1 + 1) [v0, v1, v2, v3, v4] [ls.map (fun l => l.hi), (ys.take k).map (fun _ => lo), (ys.take k).map (fun y => y.sl), (ys.take k).map (fun y => y.wh), (ys.take k).map (fun y => y.nl)]) (fun i _ => m - (intOf i).toNat)
      case atStart => exact ⟨0, nilV, nilV, nilV, nilV, Nat.zero_le _, rfl, H00.out⟩
      case round =>
        clear HI H00
        obtain ⟨k, v1, v2, v3, v4, hk, rfl, hI⟩ := hrel
        have HI := Lib.hid hI
        clear hI
        by_cases hlt : k < m
        · obtain ⟨x, hx⟩ := get_of_lt (l := ys) (k := k) (by rw [HM.out]; exact hlt)
          obtain ⟨b, o, rfl, hb, hcs⟩ := hY (by intro h; rw [h] at hx; simp at hx)
          obtain ⟨c0, c1, c2, c3, c4, c5⟩ := hcs k x hx
          have hz := HI.out.bel.size
          replace c0 := ((bcell HI.out.bel).1 _ _ hb).trans c0
          replace c1 := ((bcell HI.out.bel).1 _ _ hb).trans c1
          replace c2 := ((bcell HI.out.bel).1 _ _ hb).trans c2
          replace c3 := ((bcell HI.out.bel).1 _ _ hb).trans c3
          replace c4 := ((bcell HI.out.bel).1 _ _ hb).trans c4
          replace c5 := ((bcell HI.out.bel).1 _ _ hb).trans c5
          have HX := Lib.hid hx
          clear hx hcs
          go_upto_region 10 with fail
          obtain ⟨by_, hby⟩ : ∃ by_, wr.heap.size = by_ := ⟨_, rfl⟩
          obtain ⟨W0, hW0⟩ : ∃ W0, wr.alloc (.cells (yrA x) 88) = W0 := ⟨_, rfl⟩
          have hI0 : EI w W0 #[.slice A n c, .int .i64 lo, .int .i64 hi] (w.heap.size + 1 + 1) [v0, v1, v2, v3, v4] [ls.map (fun l => l.hi), (ys.take k).map (fun _ => lo), (ys.take k).map (fun y => y.sl), (ys.take k).map (fun y => y.wh), (ys.take k).map (fun y => y.nl)] := by rw [← hW0]; exact HI.out.next ((Below.refl _ _).alloc (Nat.le_refl _) _)
          have hY0 : W0.heap[by_]? = some (.cells (yrA x) 88 (0, 0)) := by rw [← hW0, ← hby]; exact heap_alloc_new _ _
          dsimp only [yrA] at hW0
          rw [hW0, hby]
          have H0 := Lib.hid hI0
          have Y0 := Lib.hid hY0
          clear hI0 hY0 hW0 hby c0 c1 c2 c3 c4 c5
          have kT0 : W0.cell? ⟨w.heap.size + 1 + 1, 1, none⟩ = some v1 := by simpa using cell_of_row W0 (w.heap.size + 1 + 1) 1 _ 41 (0, 0) H0.out.blk
          have hT0 := (Array.getElem?_eq_some_iff.1 H0.out.blk).1
          have hs0 := H0.out.bel.size
          have p1 : W0.cell? ⟨w.heap.size, 1, none⟩ = some (.int .i64 lo) := by simpa using cell_of_row W0 w.heap.size 1 _ 26 (0, 0) H0.out.pb
          have p2 : W0.cell? ⟨w.heap.size, 2, none⟩ = some (.int .i64 hi) := by simpa using cell_of_row W0 w.heap.size 2 _ 26 (0, 0) H0.out.pb
          have hyT0 : by_ ≠ w.heap.size + 1 + 1 := fun e => by
            have h1 := Y0.out
            rw [e, H0.out.blk] at h1
            injection h1 with h1
            injection h1 with _ h2
            exact absurd h2 (by decide)
          go_cut [] (fun wx => ∃ (W1 : World) (u0 : Value), W1 = wx ∧ EI w W1 #[.slice A n c, .int .i64 lo, .int .i64 hi] (w.heap.size + 1 + 1) [v0, u0, v2, v3, v4] [ls.map (fun l => l.hi), (ys.take k).map (fun _ => lo) ++ [lo], (ys.take k).map (fun y => y.sl), (ys.take k).map (fun y => y.wh), (ys.take k).map (fun y => y.nl)] ∧ W1.heap[by_]? = some (.cells (yrA x) 88 (0, 0)))
          case first =>
            go_region_law
              (first
            | (refine step_enter (by rfl) 84 #[.agg #[.int .i64 lo, .int .i64 hi]] (by go_simp) ?_
               refine (low_any lo hi _).mono ?_
               rintro e w2 ⟨rfl, hb2⟩
               refine ⟨_, rfl, ?_⟩
               have HB2 := Lib.hid ((Below.refl W0.heap.size W0).drew.trans hb2)
               have h2 := H0.out.next HB2.out
               have hcT : w2.cell? ⟨w.heap.size + 1 + 1, 1, none⟩ = some v1 := by simpa using cell_of_row w2 (w.heap.size + 1 + 1) 1 _ 41 (0, 0) h2.blk
               have hT2 : w.heap.size + 1 + 1 < w2.heap.size := (Array.getElem?_eq_some_iff.1 h2.blk).1
               have hB2 : w.heap.size ≤ w2.heap.size := by omega
               have hY2 : w2.heap[by_]? = some (.cells (yrA x) 88 (0, 0)) := (HB2.out.block by_ (Array.getElem?_eq_some_iff.1 Y0.out).1).trans Y0.out
               have HY2 := Lib.hid hY2
               have HW2 := Lib.hid h2
               clear h2 hb2 hY2)
            | (refine step_append_lies _ (by rfl) _ _ _ (by rfl) w.heap.size 3 i0 _ 1 8 Tryd.underlying39 I0.out Z0.out Z1.out Z2.out rfl (by omega) v1 ((ys.take k).map (fun _ => lo)).length (ints ((ys.take k).map (fun _ => lo))) (by rfl) ((HW2.out.own 1 _ _ rfl rfl).alloc _)
                 ⟨w2.heap.size, 0, none⟩ 1 1 [.int .i64 lo] (by rfl) (by rfl) (cell_one_new _ _ _) (by simp [Value.oneCell']) (by omega) (by unfold maxLen; simp; omega) (by simp; omega) (by simp; omega) (w2.heap.size + 1) (by simp) ?_
               intro gt cap w3 hown3 hgrow hat hlt3
               have hI3 := H0.out.app (j := 1) rfl rfl HB2.out hgrow hown3 hat
               have hf3 : w3.heap[w.heap.size + 1 + 1]? = _ := (hgrow.block (w.heap.size + 1 + 1) (by simp; omega) (fun e => own41_ne H0.out.blk (H0.out.own 1 _ _ rfl rfl) e.symm)).trans ((Below.heap_alloc _ _ (w.heap.size + 1 + 1) hT2).trans HW2.out.blk)
               have hc3 : w3.cell? ⟨w.heap.size + 1 + 1, 1, none⟩ = some v1 := by simpa using cell_of_row w3 (w.heap.size + 1 + 1) 1 _ 41 (0, 0) hf3
               have hz3 : w3.frozen? ⟨w.heap.size + 1 + 1, 1, none⟩ = false := by simp [World.frozen?, hf3]
               have hyl := (Array.getElem?_eq_some_iff.1 HY2.out).1
               have HY3 : Hid (w3.heap[by_]? = some (.cells (yrA x) 88 (0, 0))) := Lib.hid ((hgrow.block by_ (by simp; omega) (fun e => own88_ne Y0.out (H0.out.own 1 _ _ rfl rfl) e.symm)).trans ((Below.heap_alloc _ _ by_ hyl).trans HY2.out))
               have HI3 := Lib.hid hI3
               clear hown3 hgrow hat hf3 hI3)
            | fail)
            all_goals
              (try go_wp2_with fail)
              go_meet
              exact ⟨_, .slice (some ⟨gt, 0, none⟩) (min k ys.length + 1) cap, rfl, by simpa using HI3.out, (Below.heap_setCell _ _ _ _ (by exact hyT0)).trans HY3.out⟩
          obtain ⟨W1, u0, rfl, hI1, hY1⟩ := hcut
          have H1 := Lib.hid hI1
          have Y1 := Lib.hid hY1
          clear hI1 hY1 kT0 hT0 hs0 hyT0 H0 Y0 p1 p2
          go_upto_region 11 with fail
          have kT1 : W1.cell? ⟨w.heap.size + 1 + 1, 2, none⟩ = some v2 := by simpa using cell_of_row W1 (w.heap.size + 1 + 1) 2 _ 41 (0, 0) H1.out.blk
          have hT1 := (Array.getElem?_eq_some_iff.1 H1.out.blk).1
          have hs1 := H1.out.bel.size
          have y0 : W1.cell? ⟨by_, 0, none⟩ = some (.int .i64 x.sl) := by simpa [yrA] using cell_of_row W1 by_ 0 _ 88 (0, 0) Y1.out
          have y1 : W1.cell? ⟨by_, 1, none⟩ = some (.int .i64 x.sh) := by simpa [yrA] using cell_of_row W1 by_ 1 _ 88 (0, 0) Y1.out
          have hyT1 : by_ ≠ w.heap.size + 1 + 1 := fun e => by
            have h1 := Y1.out
            rw [e, H1.out.blk] at h1
            injection h1 with h1
            injection h1 with _ h2
            exact absurd h2 (by decide)
          go_cut [] (fun wx => ∃ (W2 : World) (u1 : Value), W2 = wx ∧ EI w W2 #[.slice A n c, .int .i64 lo, .int .i64 hi] (w.heap.size + 1 + 1) [v0, u0, u1, v3, v4] [ls.map (fun l => l.hi), (ys.take k).map (fun _ => lo) ++ [lo], (ys.take k).map (fun y => y.sl) ++ [x.sl], (ys.take k).map (fun y => y.wh), (ys.take k).map (fun y => y.nl)] ∧ W2.heap[by_]? = some (.cells (yrA x) 88 (0, 0)))
          case first =>
            go_region_law
              (first
            | (refine step_enter (by rfl) 84 #[.agg #[.int .i64 x.sl, .int .i64 x.sh]] (by go_simp) ?_
               refine (low_any x.sl x.sh _).mono ?_
               rintro e w2 ⟨rfl, hb2⟩
               refine ⟨_, rfl, ?_⟩
               have HB2 := Lib.hid ((Below.refl W1.heap.size W1).drew.trans hb2)
               have h2 := H1.out.next HB2.out
               have hcT : w2.cell? ⟨w.heap.size + 1 + 1, 2, none⟩ = some v2 := by simpa using cell_of_row w2 (w.heap.size + 1 + 1) 2 _ 41 (0, 0) h2.blk
               have hT2 : w.heap.size + 1 + 1 < w2.heap.size := (Array.getElem?_eq_some_iff.1 h2.blk).1
               have hB2 : w.heap.size ≤ w2.heap.size := by omega
               have hY2 : w2.heap[by_]? = some (.cells (yrA x) 88 (0, 0)) := (HB2.out.block by_ (Array.getElem?_eq_some_iff.1 Y1.out).1).trans Y1.out
               have HY2 := Lib.hid hY2
               have HW2 := Lib.hid h2
               clear h2 hb2 hY2)
            | (refine step_append_lies _ (by rfl) _ _ _ (by rfl) w.heap.size 3 i0 _ 1 8 Tryd.underlying39 I0.out Z0.out Z1.out Z2.out rfl (by omega) v2 ((ys.take k).map (fun y => y.sl)).length (ints ((ys.take k).map (fun y => y.sl))) (by rfl) ((HW2.out.own 2 _ _ rfl rfl).alloc _)
                 ⟨w2.heap.size, 0, none⟩ 1 1 [.int .i64 x.sl] (by rfl) (by rfl) (cell_one_new _ _ _) (by simp [Value.oneCell']) (by omega) (by unfold maxLen; simp; omega) (by simp; omega) (by simp; omega) (w2.heap.size + 1) (by simp) ?_
               intro gt cap w3 hown3 hgrow hat hlt3
               have hI3 := H1.out.app (j := 2) rfl rfl HB2.out hgrow hown3 hat
               have hf3 : w3.heap[w.heap.size + 1 + 1]? = _ := (hgrow.block (w.heap.size + 1 + 1) (by simp; omega) (fun e => own41_ne H1.out.blk (H1.out.own 2 _ _ rfl rfl) e.symm)).trans ((Below.heap_alloc _ _ (w.heap.size + 1 + 1) hT2).trans HW2.out.blk)
               have hc3 : w3.cell? ⟨w.heap.size + 1 + 1, 2, none⟩ = some v2 := by simpa using cell_of_row w3 (w.heap.size + 1 + 1) 2 _ 41 (0, 0) hf3
               have hz3 : w3.frozen? ⟨w.heap.size + 1 + 1, 2, none⟩ = false := by simp [World.frozen?, hf3]
               have hyl := (Array.getElem?_eq_some_iff.1 HY2.out).1
               have HY3 : Hid (w3.heap[by_]? = some (.cells (yrA x) 88 (0, 0))) := Lib.hid ((hgrow.block by_ (by simp; omega) (fun e => own88_ne Y1.out (H1.out.own 2 _ _ rfl rfl) e.symm)).trans ((Below.heap_alloc _ _ by_ hyl).trans HY2.out))
               have HI3 := Lib.hid hI3
               clear hown3 hgrow hat hf3 hI3)
            | fail)
            all_goals
              (try go_wp2_with fail)
              go_meet
              exact ⟨_, .slice (some ⟨gt, 0, none⟩) (min k ys.length + 1) cap, rfl, by simpa using HI3.out, (Below.heap_setCell _ _ _ _ (by exact hyT1)).trans HY3.out⟩
          obtain ⟨W2, u1, rfl, hI2, hY2⟩ := hcut
          have H2 := Lib.hid hI2
          have Y2 := Lib.hid hY2
          clear hI2 hY2 kT1 hT1 hs1 hyT1 H1 Y1 y0 y1
          go_upto_region 12 with fail
          have kT2 : W2.cell? ⟨w.heap.size + 1 + 1, 3, none⟩ = some v3 := by simpa using cell_of_row W2 (w.heap.size + 1 + 1) 3 _ 41 (0, 0) H2.out.blk
          have hT2 := (Array.getElem?_eq_some_iff.1 H2.out.blk).1
          have hs2 := H2.out.bel.size
          have y2 : W2.cell? ⟨by_, 2, none⟩ = some (.int .i64 x.wl) := by simpa [yrA] using cell_of_row W2 by_ 2 _ 88 (0, 0) Y2.out
          have y3 : W2.cell? ⟨by_, 3, none⟩ = some (.int .i64 x.wh) := by simpa [yrA] using cell_of_row W2 by_ 3 _ 88 (0, 0) Y2.out
          have hyT2 : by_ ≠ w.heap.size + 1 + 1 := fun e => by
            have h1 := Y2.out
            rw [e, H2.out.blk] at h1
            injection h1 with h1
            injection h1 with _ h2
            exact absurd h2 (by decide)
          go_cut [] (fun wx => ∃ (W3 : World) (u2 : Value), W3 = wx ∧ EI w W3 #[.slice A n c, .int .i64 lo, .int .i64 hi] (w.heap.size + 1 + 1) [v0, u0, u1, u2, v4] [ls.map (fun l => l.hi), (ys.take k).map (fun _ => lo) ++ [lo], (ys.take k).map (fun y => y.sl) ++ [x.sl], (ys.take k).map (fun y => y.wh) ++ [x.wh], (ys.take k).map (fun y => y.nl)] ∧ W3.heap[by_]? = some (.cells (yrA x) 88 (0, 0)))
          case first =>
            go_region_law
              (first
            | (refine step_enter (by rfl) 85 #[.agg #[.int .i64 x.wl, .int .i64 x.wh]] (by go_simp) ?_
               refine (high_any x.wl x.wh _).mono ?_
               rintro e w2 ⟨rfl, hb2⟩
               refine ⟨_, rfl, ?_⟩
               have HB2 := Lib.hid ((Below.refl W2.heap.size W2).drew.trans hb2)
               have h2 := H2.out.next HB2.out
               have hcT : w2.cell? ⟨w.heap.size + 1 + 1, 3, none⟩ = some v3 := by simpa using cell_of_row w2 (w.heap.size + 1 + 1) 3 _ 41 (0, 0) h2.blk
               have hT2 : w.heap.size + 1 + 1 < w2.heap.size := (Array.getElem?_eq_some_iff.1 h2.blk).1
               have hB2 : w.heap.size ≤ w2.heap.size := by omega
               have hY2 : w2.heap[by_]? = some (.cells (yrA x) 88 (0, 0)) := (HB2.out.block by_ (Array.getElem?_eq_some_iff.1 Y2.out).1).trans Y2.out
               have HY2 := Lib.hid hY2
               have HW2 := Lib.hid h2
               clear h2 hb2 hY2)
            | (refine step_append_lies _ (by rfl) _ _ _ (by rfl) w.heap.size 3 i0 _ 1 8 Tryd.underlying39 I0.out Z0.out Z1.out Z2.out rfl (by omega) v3 ((ys.take k).map (fun y => y.wh)).length (ints ((ys.take k).map (fun y => y.wh))) (by rfl) ((HW2.out.own 3 _ _ rfl rfl).alloc _)
                 ⟨w2.heap.size, 0, none⟩ 1 1 [.int .i64 x.wh] (by rfl) (by rfl) (cell_one_new _ _ _) (by simp [Value.oneCell']) (by omega) (by unfold maxLen; simp; omega) (by simp; omega) (by simp; omega) (w2.heap.size + 1) (by simp) ?_
               intro gt cap w3 hown3 hgrow hat hlt3
               have hI3 := H2.out.app (j := 3) rfl rfl HB2.out hgrow hown3 hat
               have hf3 : w3.heap[w.heap.size + 1 + 1]? = _ := (hgrow.block (w.heap.size + 1 + 1) (by simp; omega) (fun e => own41_ne H2.out.blk (H2.out.own 3 _ _ rfl rfl) e.symm)).trans ((Below.heap_alloc _ _ (w.heap.size + 1 + 1) hT2).trans HW2.out.blk)
               have hc3 : w3.cell? ⟨w.heap.size + 1 + 1, 3, none⟩ = some v3 := by simpa using cell_of_row w3 (w.heap.size + 1 + 1) 3 _ 41 (0, 0) hf3
               have hz3 : w3.frozen? ⟨w.heap.size + 1 + 1, 3, none⟩ = false := by simp [World.frozen?, hf3]
               have hyl := (Array.getElem?_eq_some_iff.1 HY2.out).1
               have HY3 : Hid (w3.heap[by_]? = some (.cells (yrA x) 88 (0, 0))) := Lib.hid ((hgrow.block by_ (by simp; omega) (fun e => own88_ne Y2.out (H2.out.own 3 _ _ rfl rfl) e.symm)).trans ((Below.heap_alloc _ _ by_ hyl).trans HY2.out))
               have HI3 := Lib.hid hI3
               clear hown3 hgrow hat hf3 hI3)
            | fail)
            all_goals
              (try go_wp2_with fail)
              go_meet
              exact ⟨_, .slice (some ⟨gt, 0, none⟩) (min k ys.length + 1) cap, rfl, by simpa using HI3.out, (Below.heap_setCell _ _ _ _ (by exact hyT2)).trans HY3.out⟩
          obtain ⟨W3, u2, rfl, hI3, hY3⟩ := hcut
          have H3 := Lib.hid hI3
          have Y3 := Lib.hid hY3
          clear hI3 hY3 kT2 hT2 hs2 hyT2 H2 Y2 y2 y3
          go_upto_region 13 with fail
          have kT3 : W3.cell? ⟨w.heap.size + 1 + 1, 4, none⟩ = some v4 := by simpa using cell_of_row W3 (w.heap.size + 1 + 1) 4 _ 41 (0, 0) H3.out.blk
          have hT3 := (Array.getElem?_eq_some_iff.1 H3.out.blk).1
          have hs3 := H3.out.bel.size
          have y4 : W3.cell? ⟨by_, 4, none⟩ = some (.int .i64 x.nl) := by simpa [yrA] using cell_of_row W3 by_ 4 _ 88 (0, 0) Y3.out
          have y5 : W3.cell? ⟨by_, 5, none⟩ = some (.int .i64 x.nh) := by simpa [yrA] using cell_of_row W3 by_ 5 _ 88 (0, 0) Y3.out
          have hyT3 : by_ ≠ w.heap.size + 1 + 1 := fun e => by
            have h1 := Y3.out
            rw [e, H3.out.blk] at h1
            injection h1 with h1
            injection h1 with _ h2
            exact absurd h2 (by decide)
          go_wp2_with fail
          go_region_law
            (first
            | (refine step_enter (by rfl) 84 #[.agg #[.int .i64 x.nl, .int .i64 x.nh]] (by go_simp) ?_
               refine (low_any x.nl x.nh _).mono ?_
               rintro e w2 ⟨rfl, hb2⟩
               refine ⟨_, rfl, ?_⟩
               have HB2 := Lib.hid ((Below.refl W3.heap.size W3).drew.trans hb2)
               have h2 := H3.out.next HB2.out
               have hcT : w2.cell? ⟨w.heap.size + 1 + 1, 4, none⟩ = some v4 := by simpa using cell_of_row w2 (w.heap.size + 1 + 1) 4 _ 41 (0, 0) h2.blk
               have hT2 : w.heap.size + 1 + 1 < w2.heap.size := (Array.getElem?_eq_some_iff.1 h2.blk).1
               have hB2 : w.heap.size ≤ w2.heap.size := by omega
               have hY2 : w2.heap[by_]? = some (.cells (yrA x) 88 (0, 0)) := (HB2.out.block by_ (Array.getElem?_eq_some_iff.1 Y3.out).1).trans Y3.out
               have HY2 := Lib.hid hY2
               have HW2 := Lib.hid h2
               clear h2 hb2 hY2)
            | (refine step_append_lies _ (by rfl) _ _ _ (by rfl) w.heap.size 3 i0 _ 1 8 Tryd.underlying39 I0.out Z0.out Z1.out Z2.out rfl (by omega) v4 ((ys.take k).map (fun y => y.nl)).length (ints ((ys.take k).map (fun y => y.nl))) (by rfl) ((HW2.out.own 4 _ _ rfl rfl).alloc _)
                 ⟨w2.heap.size, 0, none⟩ 1 1 [.int .i64 x.nl] (by rfl) (by rfl) (cell_one_new _ _ _) (by simp [Value.oneCell']) (by omega) (by unfold maxLen; simp; omega) (by simp; omega) (by simp; omega) (w2.heap.size + 1) (by simp) ?_
               intro gt cap w3 hown3 hgrow hat hlt3
               have hI3 := H3.out.app (j := 4) rfl rfl HB2.out hgrow hown3 hat
               have hf3 : w3.heap[w.heap.size + 1 + 1]? = _ := (hgrow.block (w.heap.size + 1 + 1) (by simp; omega) (fun e => own41_ne H3.out.blk (H3.out.own 4 _ _ rfl rfl) e.symm)).trans ((Below.heap_alloc _ _ (w.heap.size + 1 + 1) hT2).trans HW2.out.blk)
               have hc3 : w3.cell? ⟨w.heap.size + 1 + 1, 4, none⟩ = some v4 := by simpa using cell_of_row w3 (w.heap.size + 1 + 1) 4 _ 41 (0, 0) hf3
               have hz3 : w3.frozen? ⟨w.heap.size + 1 + 1, 4, none⟩ = false := by simp [World.frozen?, hf3]
               have hyl := (Array.getElem?_eq_some_iff.1 HY2.out).1
               have HY3 : Hid (w3.heap[by_]? = some (.cells (yrA x) 88 (0, 0))) := Lib.hid ((hgrow.block by_ (by simp; omega) (fun e => own88_ne Y3.out (H3.out.own 4 _ _ rfl rfl) e.symm)).trans ((Below.heap_alloc _ _ by_ hyl).trans HY2.out))
               have HI3 := Lib.hid hI3
               clear hown3 hgrow hat hf3 hI3)
            | fail)
          all_goals
            go_wp2
            go_roundw
            case rel => exact ⟨k + 1, u0, u1, u2, _, by omega, by go_num, by rw [List.take_add_one, HX.out]; simpa using HI3.out⟩
            case measure => simp [intOf]; omega
        · obtain rfl : k = m := by omega
          have cT := fun i => cell_of_row wr (w.heap.size + 1 + 1) i _ 41 (0, 0) HI.out.blk
          have cR := fun i => cell_of_row wr (w.heap.size + 1) i _ 41 (0, 0) HI.out.rb
          have fR : ∀ i, wr.frozen? ⟨w.heap.size + 1, i, none⟩ = false := fun i => by simp [World.frozen?, HI.out.rb]
          have t0 := cT 0
          have t1 := cT 1
          have t2 := cT 2
          have t3 := cT 3
          have t4 := cT 4
          have s0 := cR 0
          have s1 := cR 1
          have s2 := cR 2
          have s3 := cR 3
          have s4 := cR 4
          have f0 := fR 0
          have f1 := fR 1
          have f2 := fR 2
          have f3 := fR 3
          have f4 := fR 4
          simp at t0 t1 t2 t3 t4 s0 s1 s2 s3 s4
          clear cT cR fR
          have hTl : ys.take k = ys := List.take_of_length_le (by rw [HM.out]; exact Nat.le_refl _)
          have HT := Lib.hid hTl
          clear hTl
          obtain ⟨a0, n0, c0, rfl⟩ := own_slice (HI.out.own 0 _ _ rfl rfl)
          obtain ⟨a1, n1, c1, rfl⟩ := own_slice (HI.out.own 1 _ _ rfl rfl)
          obtain ⟨a2, n2, c2, rfl⟩ := own_slice (HI.out.own 2 _ _ rfl rfl)
          obtain ⟨a3, n3, c3, rfl⟩ := own_slice (HI.out.own 3 _ _ rfl rfl)
          obtain ⟨a4, n4, c4, rfl⟩ := own_slice (HI.out.own 4 _ _ rfl rfl)
          go_wp2
          exact bodyPost_ret (v := .agg #[.slice a0 n0 c0, .slice a1 n1 c1, .slice a2 n2 c2, .slice a3 n3 c3, .slice a4 n4 c4]) (by simp [results, Tryd.results56, go_sem, s0, s1, s2, s3, s4]) rfl (ext_end HI.out HT.out)

end Go.Proofs.YtccekbdhffccdaaDoor
