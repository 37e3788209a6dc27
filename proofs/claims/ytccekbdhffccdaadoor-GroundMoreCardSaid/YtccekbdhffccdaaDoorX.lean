/- In which year a depth is first exceeded, as the program tells it. Exceeds, for every place, years and depth. -/
import Derived.Test.YtccekbdhffccdaaDoorV
namespace Go.Proofs.YtccekbdhffccdaaDoor
open Go.RowKit Go.Shelf

set_option maxRecDepth 100000 in
set_option maxHeartbeats 1000000 in
theorem exc_cold (bp by_ bd : Nat) (A A2 : Option Addr) (n c m c' : Nat) (ls : List Lay) (ys : List Yr) (lo hi : Int) (d : Int) (w : World) (hl : ls.length = n) (hcap : n ≤ c) (hL : LaysAt w w.heap.size A ls) (hm : ys.length = m) (hm2 : m ≤ 12) (hY : YrsAt w w.heap.size A2 ys)
    (hp : placeB ls lo hi = true) (hy : ys.all yrB = true) (hbp : bp < w.heap.size) (hby : by_ < w.heap.size) (hbd : bd < w.heap.size)
    (c0 : w.cell? ⟨bp, 0, none⟩ = some (.slice A n c)) (c1 : w.cell? ⟨bp, 1, none⟩ = some (.int .i64 lo)) (c2 : w.cell? ⟨bp, 2, none⟩ = some (.int .i64 hi)) (d0 : w.cell? ⟨by_, 0, none⟩ = some (.slice A2 m c')) (d1 : w.cell? ⟨bd, 0, none⟩ = some (.int .i64 d)) :
    Calls Tryd.prog 67 #[.func (.func 84) #[] #[], .func (.func 85) #[] #[], .pointer (some ⟨bp, 0, none⟩), .pointer (some ⟨by_, 0, none⟩), .pointer (some ⟨bd, 0, none⟩)] w fun e w' => e = .returned (.int .i64 (firstI d (runS ls (extT false ls lo hi ys) 0 m).th : Nat)) ∧ Below w.heap.size w w' := by
  have HL := Lib.hid hl; clear hl
  have HM := Lib.hid hm; clear hm
  have HP := Lib.hid hp; clear hp
  have HY := Lib.hid hy; clear hy
  have hn6 : n ≤ 6 := by have := (placeB_spec HP.out).1.2; rw [HL.out] at this; exact this
  have hTk : TruOk (extT false ls lo hi ys) n m := by have := extT_ok false HP.out HY.out; rw [HL.out, HM.out] at this; exact this
  have HT := Lib.hid hTk; clear hTk
  have hlen : (runS ls (extT false ls lo hi ys) 0 m).th.length ≤ 20 := by have := (runS_b (ls := ls) (mo := 0) HT.out ⟨by omega, by omega⟩ m (Nat.le_refl _)).2.2.2.2.1; omega
  go_enter Tryd.func67, Tryd.ntmps67
  go_wp2_with fail
  go_region_held3 (fun w' => w'.cell? ⟨bp, 0, none⟩ = some (.slice A n c) ∧ w'.cell? ⟨bp, 1, none⟩ = some (.int .i64 lo) ∧ w'.cell? ⟨bp, 2, none⟩ = some (.int .i64 hi) ∧ w'.cell? ⟨by_, 0, none⟩ = some (.slice A2 m c') ∧ w'.cell? ⟨bd, 0, none⟩ = some (.int .i64 d)) (go_keep)
    (first
      | (go_at_call 56
         refine (extreme_cold A A2 n c m c' ls ys lo hi w.drew HL.out hn6 (hL.next ((Below.refl w.heap.size w).drew)) HM.out hm2 (hY.next ((Below.refl w.heap.size w).drew))).mono ?_
         rintro e w2 ⟨v0, v1, v2, v3, v4, rfl, o0, o1, o2, o3, o4, hb⟩
         have HB := Lib.hid (Below.trans ((Below.refl w.heap.size w).drew) (hb.mono (by exact Nat.le_refl _)))
         have S0 := Lib.hid (SlInts.of_own o0 rfl)
         have S1 := Lib.hid (SlInts.of_own o1 rfl)
         have S2 := Lib.hid (SlInts.of_own o2 rfl)
         have S3 := Lib.hid (SlInts.of_own o3 rfl)
         have S4 := Lib.hid (SlInts.of_own o4 rfl)
         have e0 := ((bcell HB.out).1 _ 0 hbp).trans c0
         have e1 := ((bcell HB.out).1 _ 1 hbp).trans c1
         have e2 := ((bcell HB.out).1 _ 2 hbp).trans c2
         have e3 := ((bcell HB.out).1 _ 0 hby).trans d0
         have e4 := ((bcell HB.out).1 _ 0 hbd).trans d1
         clear o0 o1 o2 o3 o4 hb)
      | (go_at_call 55
         refine (follow_got A n c ls (extT false ls lo hi ys) v0 v1 v2 v3 v4 lo hi 0 m w2 HL.out hcap HP.out (hL.next HB.out) HT.out hm2 ⟨by omega, by omega⟩ S0.out S1.out S2.out S3.out S4.out).mono ?_
         rintro e w3 ⟨v, rfl, hg⟩
         have hb4 := hg.bel
         have hb3 : Below w.heap.size w w3 := HB.out.trans (hb4.mono HB.out.size)
         obtain ⟨g, u0, u1, u2, u3, u4, u5, u6, u7, u8, tv, lv, rfl, hF, hth, hlf, _⟩ := hg
         have HF := Lib.hid hF
         have HTH := Lib.hid hth
         have HB3 := Lib.hid hb3
         have k0 := ((bcell hb3).1 _ 0 hbp).trans c0
         have k1 := ((bcell hb3).1 _ 1 hbp).trans c1
         have k2 := ((bcell hb3).1 _ 2 hbp).trans c2
         have k3 := ((bcell hb3).1 _ 0 hby).trans d0
         have k4 := ((bcell hb3).1 _ 0 hbd).trans d1
         clear hF hth hlf hb3 hb4)
      | (go_at_call 68
         refine (first_any g (runS ls (extT false ls lo hi ys) 0 m).th tv d w3 (by simpa using HF.out.cell 13) HTH.out hlen).mono ?_
         rintro e w4 ⟨rfl, rfl⟩)
      | fail)
  all_goals
    (try go_wp2)
    go_ret
    exact ⟨rfl, HB3.out⟩

set_option maxRecDepth 100000 in
set_option maxHeartbeats 1000000 in
theorem exc_warm (bp by_ bd : Nat) (A A2 : Option Addr) (n c m c' : Nat) (ls : List Lay) (ys : List Yr) (lo hi : Int) (d : Int) (w : World) (hl : ls.length = n) (hcap : n ≤ c) (hL : LaysAt w w.heap.size A ls) (hm : ys.length = m) (hm2 : m ≤ 12) (hY : YrsAt w w.heap.size A2 ys)
    (hp : placeB ls lo hi = true) (hy : ys.all yrB = true) (hbp : bp < w.heap.size) (hby : by_ < w.heap.size) (hbd : bd < w.heap.size)
    (c0 : w.cell? ⟨bp, 0, none⟩ = some (.slice A n c)) (c1 : w.cell? ⟨bp, 1, none⟩ = some (.int .i64 lo)) (c2 : w.cell? ⟨bp, 2, none⟩ = some (.int .i64 hi)) (d0 : w.cell? ⟨by_, 0, none⟩ = some (.slice A2 m c')) (d1 : w.cell? ⟨bd, 0, none⟩ = some (.int .i64 d)) :
    Calls Tryd.prog 67 #[.func (.func 85) #[] #[], .func (.func 84) #[] #[], .pointer (some ⟨bp, 0, none⟩), .pointer (some ⟨by_, 0, none⟩), .pointer (some ⟨bd, 0, none⟩)] w fun e w' => e = .returned (.int .i64 (firstI d (runS ls (extT true ls lo hi ys) 0 m).th : Nat)) ∧ Below w.heap.size w w' := by
  have HL := Lib.hid hl; clear hl
  have HM := Lib.hid hm; clear hm
  have HP := Lib.hid hp; clear hp
  have HY := Lib.hid hy; clear hy
  have hn6 : n ≤ 6 := by have := (placeB_spec HP.out).1.2; rw [HL.out] at this; exact this
  have hTk : TruOk (extT true ls lo hi ys) n m := by have := extT_ok true HP.out HY.out; rw [HL.out, HM.out] at this; exact this
  have HT := Lib.hid hTk; clear hTk
  have hlen : (runS ls (extT true ls lo hi ys) 0 m).th.length ≤ 20 := by have := (runS_b (ls := ls) (mo := 0) HT.out ⟨by omega, by omega⟩ m (Nat.le_refl _)).2.2.2.2.1; omega
  go_enter Tryd.func67, Tryd.ntmps67
  go_wp2_with fail
  go_region_held3 (fun w' => w'.cell? ⟨bp, 0, none⟩ = some (.slice A n c) ∧ w'.cell? ⟨bp, 1, none⟩ = some (.int .i64 lo) ∧ w'.cell? ⟨bp, 2, none⟩ = some (.int .i64 hi) ∧ w'.cell? ⟨by_, 0, none⟩ = some (.slice A2 m c') ∧ w'.cell? ⟨bd, 0, none⟩ = some (.int .i64 d)) (go_keep)
    (first
      | (go_at_call 56
         refine (extreme_warm A A2 n c m c' ls ys lo hi w.drew HL.out hn6 (hL.next ((Below.refl w.heap.size w).drew)) HM.out hm2 (hY.next ((Below.refl w.heap.size w).drew))).mono ?_
         rintro e w2 ⟨v0, v1, v2, v3, v4, rfl, o0, o1, o2, o3, o4, hb⟩
         have HB := Lib.hid (Below.trans ((Below.refl w.heap.size w).drew) (hb.mono (by exact Nat.le_refl _)))
         have S0 := Lib.hid (SlInts.of_own o0 rfl)
         have S1 := Lib.hid (SlInts.of_own o1 rfl)
         have S2 := Lib.hid (SlInts.of_own o2 rfl)
         have S3 := Lib.hid (SlInts.of_own o3 rfl)
         have S4 := Lib.hid (SlInts.of_own o4 rfl)
         have e0 := ((bcell HB.out).1 _ 0 hbp).trans c0
         have e1 := ((bcell HB.out).1 _ 1 hbp).trans c1
         have e2 := ((bcell HB.out).1 _ 2 hbp).trans c2
         have e3 := ((bcell HB.out).1 _ 0 hby).trans d0
         have e4 := ((bcell HB.out).1 _ 0 hbd).trans d1
         clear o0 o1 o2 o3 o4 hb)
      | (go_at_call 55
         refine (follow_got A n c ls (extT true ls lo hi ys) v0 v1 v2 v3 v4 lo hi 0 m w2 HL.out hcap HP.out (hL.next HB.out) HT.out hm2 ⟨by omega, by omega⟩ S0.out S1.out S2.out S3.out S4.out).mono ?_
         rintro e w3 ⟨v, rfl, hg⟩
         have hb4 := hg.bel
         have hb3 : Below w.heap.size w w3 := HB.out.trans (hb4.mono HB.out.size)
         obtain ⟨g, u0, u1, u2, u3, u4, u5, u6, u7, u8, tv, lv, rfl, hF, hth, hlf, _⟩ := hg
         have HF := Lib.hid hF
         have HTH := Lib.hid hth
         have HB3 := Lib.hid hb3
         have k0 := ((bcell hb3).1 _ 0 hbp).trans c0
         have k1 := ((bcell hb3).1 _ 1 hbp).trans c1
         have k2 := ((bcell hb3).1 _ 2 hbp).trans c2
         have k3 := ((bcell hb3).1 _ 0 hby).trans d0
         have k4 := ((bcell hb3).1 _ 0 hbd).trans d1
         clear hF hth hlf hb3 hb4)
      | (go_at_call 68
         refine (first_any g (runS ls (extT true ls lo hi ys) 0 m).th tv d w3 (by simpa using HF.out.cell 13) HTH.out hlen).mono ?_
         rintro e w4 ⟨rfl, rfl⟩)
      | fail)
  all_goals
    (try go_wp2)
    go_ret
    exact ⟨rfl, HB3.out⟩

set_option maxRecDepth 100000 in
set_option maxHeartbeats 1000000 in
theorem both_int (bp by_ bd : Nat) (A A2 : Option Addr) (n c m c' : Nat) (ls : List Lay) (ys : List Yr) (lo hi : Int) (d : Int) (w : World) (hl : ls.length = n) (hcap : n ≤ c) (hL : LaysAt w w.heap.size A ls) (hm : ys.length = m) (hm2 : m ≤ 12) (hY : YrsAt w w.heap.size A2 ys)
    (hp : placeB ls lo hi = true) (hy : ys.all yrB = true) (hbp : bp < w.heap.size) (hby : by_ < w.heap.size) (hbd : bd < w.heap.size)
    (c0 : w.cell? ⟨bp, 0, none⟩ = some (.slice A n c)) (c1 : w.cell? ⟨bp, 1, none⟩ = some (.int .i64 lo)) (c2 : w.cell? ⟨bp, 2, none⟩ = some (.int .i64 hi)) (d0 : w.cell? ⟨by_, 0, none⟩ = some (.slice A2 m c')) (d1 : w.cell? ⟨bd, 0, none⟩ = some (.int .i64 d)) :
    Calls Tryd.prog 66 #[.func (.func 67) #[] #[.pointer (some ⟨bp, 0, none⟩), .pointer (some ⟨by_, 0, none⟩), .pointer (some ⟨bd, 0, none⟩)]] w fun e w' =>
      e = .returned (.tuple #[.int .i64 (firstI d (runS ls (extT false ls lo hi ys) 0 m).th : Nat), .int .i64 (firstI d (runS ls (extT true ls lo hi ys) 0 m).th : Nat)]) ∧ Below w.heap.size w w' := by
  have HC := Lib.hid (exc_cold bp by_ bd A A2 n c m c' ls ys lo hi d w hl hcap hL hm hm2 hY hp hy hbp hby hbd c0 c1 c2 d0 d1)
  have HW := Lib.hid (p := ∀ w2 : World, Below w.heap.size w w2 → Calls Tryd.prog 67 #[.func (.func 85) #[] #[], .func (.func 84) #[] #[], .pointer (some ⟨bp, 0, none⟩), .pointer (some ⟨by_, 0, none⟩), .pointer (some ⟨bd, 0, none⟩)] w2 fun e w' => e = .returned (.int .i64 (firstI d (runS ls (extT true ls lo hi ys) 0 m).th : Nat)) ∧ Below w2.heap.size w2 w')
    (fun w2 hb => exc_warm bp by_ bd A A2 n c m c' ls ys lo hi d w2 hl hcap (hL.next hb) hm hm2 (hY.next hb) hp hy (by have := hb.size; omega) (by have := hb.size; omega) (by have := hb.size; omega) (((bcell hb).1 _ _ hbp).trans c0) (((bcell hb).1 _ _ hbp).trans c1) (((bcell hb).1 _ _ hbp).trans c2) (((bcell hb).1 _ _ hby).trans d0) (((bcell hb).1 _ _ hbd).trans d1))
  clear hl hcap hL hm hm2 hY hp hy hbp hby hbd c0 c1 c2 d0 d1
  go_enter Tryd.func66, Tryd.ntmps66
  go_wp2_with fail
  refine HC.out.mono ?_
  rintro e w2 ⟨rfl, hb1⟩
  have B1 := Lib.hid hb1; clear hb1
  go_wp2_with fail
  refine (HW.out w2 B1.out).mono ?_
  rintro e w3 ⟨rfl, hb2⟩
  have B2 := Lib.hid hb2; clear hb2
  go_wp2_with fail
  go_ret2
  exact ⟨rfl, B1.out.trans (B2.out.mono B1.out.size)⟩

set_option maxRecDepth 100000 in
set_option maxHeartbeats 1000000 in
theorem can_any (A A2 : Option Addr) (n c m c' : Nat) (ls : List Lay) (ys : List Yr) (lo hi : Int) (d mo : Int) (w : World) (hl : ls.length = n) (hcap : n ≤ c) (hL : LaysAt w w.heap.size A ls) (hm : ys.length = m) (hm2 : m ≤ 12) (hY : YrsAt w w.heap.size A2 ys)
    (hp : placeB ls lo hi = true) (hy : ys.all yrB = true) (hmo : 0 ≤ mo ∧ mo ≤ 1000000) :
    Calls Tryd.prog 71 #[.agg #[.slice A n c, .int .i64 lo, .int .i64 hi], .slice A2 m c', .int .i64 d, .int .i64 mo] w fun e w' => e = .returned (.bool (decide (firstI d (runS ls (extT true ls lo hi ys) mo m).th < m))) ∧ Below w.heap.size w w' := by
  have HMO := Lib.hid hmo; clear hmo
  have HL := Lib.hid hl; clear hl
  have HM := Lib.hid hm; clear hm
  have HP := Lib.hid hp; clear hp
  have HY := Lib.hid hy; clear hy
  have hn6 : n ≤ 6 := by have := (placeB_spec HP.out).1.2; rw [HL.out] at this; exact this
  have hTk : TruOk (extT true ls lo hi ys) n m := by have := extT_ok true HP.out HY.out; rw [HL.out, HM.out] at this; exact this
  have HT := Lib.hid hTk; clear hTk
  have hlen : (runS ls (extT true ls lo hi ys) mo m).th.length ≤ 20 := by have := (runS_b (ls := ls) (mo := mo) HT.out HMO.out m (Nat.le_refl _)).2.2.2.2.1; omega
  have hbp : w.heap.size < (w.alloc (.cells #[.slice A n c, .int .i64 lo, .int .i64 hi] 26)).heap.size := by simp
  have z0 := heap_alloc_new w (.cells #[.slice A n c, .int .i64 lo, .int .i64 hi] 26)
  have c0 := cell_of_row _ w.heap.size 0 _ 26 (0, 0) z0
  have c1 := cell_of_row _ w.heap.size 1 _ 26 (0, 0) z0
  have c2 := cell_of_row _ w.heap.size 2 _ 26 (0, 0) z0
  clear z0
  go_enter Tryd.func71, Tryd.ntmps71
  go_wp2_with fail
  go_region_held3 (fun w' => w'.cell? ⟨w.heap.size, 0, none⟩ = some (.slice A n c) ∧ w'.cell? ⟨w.heap.size, 1, none⟩ = some (.int .i64 lo) ∧ w'.cell? ⟨w.heap.size, 2, none⟩ = some (.int .i64 hi)) (go_keep)
    (first
      | (go_at_call 56
         refine (extreme_warm A A2 n c m c' ls ys lo hi (w.alloc (.cells #[.slice A n c, .int .i64 lo, .int .i64 hi] 26)).drew HL.out hn6 (hL.next (((Below.refl w.heap.size w).alloc (Nat.le_refl _) _).drew)) HM.out hm2 (hY.next (((Below.refl w.heap.size w).alloc (Nat.le_refl _) _).drew))).mono ?_
         rintro e w2 ⟨v0, v1, v2, v3, v4, rfl, o0, o1, o2, o3, o4, hb⟩
         have HB := Lib.hid (Below.trans (((Below.refl w.heap.size w).alloc (Nat.le_refl _) _).drew) (hb.mono (by show w.heap.size ≤ (w.alloc _).heap.size; simp)))
         have S0 := Lib.hid (SlInts.of_own o0 rfl)
         have S1 := Lib.hid (SlInts.of_own o1 rfl)
         have S2 := Lib.hid (SlInts.of_own o2 rfl)
         have S3 := Lib.hid (SlInts.of_own o3 rfl)
         have S4 := Lib.hid (SlInts.of_own o4 rfl)
         have e0 := ((bcell hb).1 _ 0 hbp).trans c0
         have e1 := ((bcell hb).1 _ 1 hbp).trans c1
         have e2 := ((bcell hb).1 _ 2 hbp).trans c2
         clear o0 o1 o2 o3 o4 )
      | (go_at_call 55
         refine (follow_got A n c ls (extT true ls lo hi ys) v0 v1 v2 v3 v4 lo hi mo m w2 HL.out hcap HP.out (hL.next HB.out) HT.out hm2 HMO.out S0.out S1.out S2.out S3.out S4.out).mono ?_
         rintro e w3 ⟨v, rfl, hg⟩
         have hb4 := hg.bel
         have hb3 : Below w.heap.size w w3 := HB.out.trans (hb4.mono HB.out.size)
         obtain ⟨g, u0, u1, u2, u3, u4, u5, u6, u7, u8, tv, lv, rfl, hF, hth, hlf, _⟩ := hg
         have HF := Lib.hid hF
         have HTH := Lib.hid hth
         have HB3 := Lib.hid hb3
         have k0 := ((bcell hb4).1 _ 0 (Nat.lt_of_lt_of_le hbp hb.size)).trans e0
         have k1 := ((bcell hb4).1 _ 1 (Nat.lt_of_lt_of_le hbp hb.size)).trans e1
         have k2 := ((bcell hb4).1 _ 2 (Nat.lt_of_lt_of_le hbp hb.size)).trans e2
         clear hF hth hlf hb3 hb4)
      | fail)
  all_goals
    go_wp2_with fail
    refine (first_any g (runS ls (extT true ls lo hi ys) mo m).th tv d w3 (by simpa using HF.out.cell 13) HTH.out hlen).mono ?_
    rintro e w4 ⟨rfl, rfl⟩
    go_wp2_with fail
    go_ret
    exact ⟨by simp, HB3.out⟩
end Go.Proofs.YtccekbdhffccdaaDoor

namespace Go.Proofs.YtccekbdhffccdaaDoor
open Go.RowKit Go.Shelf

theorem depthI_cases (ls : List Lay) (lo hi : Int) (ys : List Yr) (d : Int) : depthI ls lo hi ys d = 0 ∨ depthI ls lo hi ys d = 2 ∨ depthI ls lo hi ys d = 3 := by
  unfold depthI
  rcases yearsI_cases ls lo hi ys with h | h | h <;> rw [h]
  · rw [if_pos rfl]
    split
    · exact .inl rfl
    · exact .inr (.inl rfl)
  · exact .inr (.inl rfl)
  · exact .inr (.inr rfl)
theorem yearsI_zero {ls : List Lay} {lo hi : Int} {ys : List Yr} (h : yearsI ls lo hi ys = 0) : ys.length ≤ 12 ∧ placeB ls lo hi = true ∧ ys.all yrB = true := by
  unfold yearsI at h
  split at h
  · cases h
  · split at h
    · rename_i h1 h2
      rw [Bool.and_eq_true] at h2
      exact ⟨by omega, h2.1, h2.2⟩
    · cases h
theorem depthI_zero {ls : List Lay} {lo hi : Int} {ys : List Yr} {d : Int} (h : depthI ls lo hi ys d = 0) : yearsI ls lo hi ys = 0 ∧ 0 ≤ d ∧ d ≤ 2000000 := by
  unfold depthI at h
  split at h
  · split at h
    · rename_i h1 h2; exact ⟨h1, h2⟩
    · cases h
  · rename_i h1; exact absurd h h1
theorem checkDepth_is (r : Int) (A A2 : Option Addr) (n c m c' : Nat) (ls : List Lay) (ys : List Yr) (lo hi d : Int) (w : World) (hl : ls.length = n) (hn : n ≤ maxLen) (hL : LaysAt w w.heap.size A ls)
    (hm : ys.length = m) (hm2 : m ≤ maxLen) (hY : YrsAt w w.heap.size A2 ys) (hr : depthI ls lo hi ys d = r) :
    Calls Tryd.prog 65 #[.agg #[.slice A n c, .int .i64 lo, .int .i64 hi], .slice A2 m c', .int .i64 d] w fun e w' => e = .returned (.int .i64 r) ∧ Below w.heap.size w w' := by
  have h := checkDepth_any A A2 n c m c' ls ys lo hi d w hl hn hL hm hm2 hY
  rwa [hr] at h

def excI (warm : Bool) (ls : List Lay) (lo hi : Int) (ys : List Yr) (d mo : Int) : Int := (firstI d (runS ls (extT warm ls lo hi ys) mo ys.length).th : Nat)

set_option maxRecDepth 100000 in
set_option maxHeartbeats 1000000 in
theorem exceeds_any (A A2 : Option Addr) (n c m c' : Nat) (ls : List Lay) (ys : List Yr) (lo hi d : Int) (w : World) (hl : ls.length = n) (hn : n ≤ maxLen) (hcap : n ≤ c) (hL : LaysAt w w.heap.size A ls)
    (hm : ys.length = m) (hm2 : m ≤ maxLen) (hY : YrsAt w w.heap.size A2 ys) :
    Calls Tryd.prog 34 #[.agg #[.slice A n c, .int .i64 lo, .int .i64 hi], .slice A2 m c', .int .i64 d] w fun e w' =>
      e = .returned (.tuple #[.int .i64 (if depthI ls lo hi ys d = 0 then excI true ls lo hi ys d 0 else 0), .int .i64 (if depthI ls lo hi ys d = 0 then excI false ls lo hi ys d 0 else 0), .int .i64 (depthI ls lo hi ys d)]) ∧ Below w.heap.size w w' := by
  have HL := Lib.hid hl; clear hl
  have HM := Lib.hid hm; clear hm
  have HN := Lib.hid hn; clear hn
  have HN2 := Lib.hid hm2; clear hm2
  have hB : Below w.heap.size w (((w.alloc (.cells #[.slice A n c, .int .i64 lo, .int .i64 hi] 26)).alloc (.cells #[.slice A2 m c'] 27)).alloc (.cells #[.int .i64 d] 3)) :=
    (((Below.refl _ _).alloc (Nat.le_refl _) _).alloc (by simp) _).alloc (by simp; omega) _
  have z0 := heap_alloc_new w (.cells #[.slice A n c, .int .i64 lo, .int .i64 hi] 26)
  have z1 := heap_alloc_new (w.alloc (.cells #[.slice A n c, .int .i64 lo, .int .i64 hi] 26)) (.cells #[.slice A2 m c'] 27)
  have z2 := heap_alloc_new ((w.alloc (.cells #[.slice A n c, .int .i64 lo, .int .i64 hi] 26)).alloc (.cells #[.slice A2 m c'] 27)) (.cells #[.int .i64 d] 3)
  simp only [World.size_alloc] at z1 z2
  have y0 := (Below.heap_alloc _ (.cells #[.int .i64 d] 3) _ (by simp; omega)).trans ((Below.heap_alloc _ (.cells #[.slice A2 m c'] 27) _ (by simp)).trans z0)
  have y1 := (Below.heap_alloc _ (.cells #[.int .i64 d] 3) _ (by simp)).trans z1
  have HB := Lib.hid hB
  have Y0 := Lib.hid y0
  have Y1 := Lib.hid y1
  have Y2 := Lib.hid z2
  clear hB z0 z1 z2 y0 y1
  rcases depthI_cases ls lo hi ys d with hr | hr | hr
  · obtain ⟨h1, h2, h3⟩ := depthI_zero hr
    obtain ⟨g1, g2, g3⟩ := yearsI_zero h1
    have hm12 : m ≤ 12 := by rw [HM.out] at g1; exact g1
    have HR := Lib.hid hr; have GP := Lib.hid g2; have GY := Lib.hid g3
    rw [HR.out, if_pos rfl, if_pos rfl]
    clear hr h1 g1 g2 g3
    go_enter Tryd.func34, Tryd.ntmps34
    go_wp2_with fail
    refine (checkDepth_is 0 A A2 n c m c' ls ys lo hi d _ HL.out HN.out (hL.next HB.out) HM.out HN2.out (hY.next HB.out) HR.out).mono ?_
    rintro e w2 ⟨rfl, hb⟩
    have B2 := Lib.hid (HB.out.trans (hb.mono HB.out.size))
    have X0 := Lib.hid ((hb.block _ (Array.getElem?_eq_some_iff.1 Y0.out).1).trans Y0.out)
    have X1 := Lib.hid ((hb.block _ (Array.getElem?_eq_some_iff.1 Y1.out).1).trans Y1.out)
    have X2 := Lib.hid ((hb.block _ (Array.getElem?_eq_some_iff.1 Y2.out).1).trans Y2.out)
    clear hb
    go_wp2_with fail
    refine (both_int w.heap.size (w.heap.size + 1) (w.heap.size + 1 + 1) A A2 n c m c' ls ys lo hi d w2 HL.out hcap (hL.next B2.out) HM.out hm12 (hY.next B2.out) GP.out GY.out (Array.getElem?_eq_some_iff.1 X0.out).1 (Array.getElem?_eq_some_iff.1 X1.out).1 (Array.getElem?_eq_some_iff.1 X2.out).1
      (cell_of_row _ _ 0 _ 26 (0, 0) X0.out) (cell_of_row _ _ 1 _ 26 (0, 0) X0.out) (cell_of_row _ _ 2 _ 26 (0, 0) X0.out) (cell_of_row _ _ 0 _ 27 (0, 0) X1.out) (cell_of_row _ _ 0 _ 3 (0, 0) X2.out)).mono ?_
    rintro e w3 ⟨rfl, hb⟩
    have B3 := Lib.hid (B2.out.trans (hb.mono B2.out.size))
    clear hb
    go_wp2_with fail
    go_ret3
    exact ⟨by simp [excI, HM.out], B3.out⟩
  all_goals
    have HR := Lib.hid hr
    rw [HR.out, if_neg (by decide), if_neg (by decide)]
    clear hr
    go_enter Tryd.func34, Tryd.ntmps34
    go_wp2_with fail
    refine (checkDepth_is _ A A2 n c m c' ls ys lo hi d _ HL.out HN.out (hL.next HB.out) HM.out HN2.out (hY.next HB.out) HR.out).mono ?_
    rintro e w2 ⟨rfl, hb⟩
    have B2 := Lib.hid (HB.out.trans (hb.mono HB.out.size))
    clear hb
    go_wp2_with fail
    go_ret3
    exact ⟨rfl, B2.out⟩
end Go.Proofs.YtccekbdhffccdaaDoor
