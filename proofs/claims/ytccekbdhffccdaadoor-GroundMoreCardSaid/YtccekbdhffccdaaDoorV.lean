/- Both ends of what is known of a place, as the program follows them. Both ends of what is known, one after the other. -/
import Derived.Test.YtccekbdhffccdaaDoorT
import Derived.Test.YtccekbdhffccdaaDoorQ
import Derived.Deep.RegionHeld3
namespace Go.Proofs.YtccekbdhffccdaaDoor
open Go.RowKit Go.Shelf
def EndPost (w : World) (s : St) (e : Ending) (w' : World) : Prop := ∃ v, e = .returned v ∧ GotF w s v w'
theorem gotF_base {w w2 w3 : World} {s : St} {v : Value} (h : GotF w2 s v w3) (hb : Below w.heap.size w w3) : GotF w s v w3 := by
  obtain ⟨g, u0, u1, u2, u3, u4, u5, u6, u7, u8, tv, lv, e, hf, h1, h2, h3⟩ := h
  exact ⟨g, u0, u1, u2, u3, u4, u5, u6, u7, u8, tv, lv, e, hf, h1, h2, hb⟩

set_option maxRecDepth 100000 in
set_option maxHeartbeats 1000000 in
theorem ends_cold (bp by_ : Nat) (A A2 : Option Addr) (n c m c' : Nat) (ls : List Lay) (ys : List Yr) (lo hi : Int) (w : World) (hl : ls.length = n) (hcap : n ≤ c) (hL : LaysAt w w.heap.size A ls) (hm : ys.length = m) (hm2 : m ≤ 12) (hY : YrsAt w w.heap.size A2 ys)
    (hp : placeB ls lo hi = true) (hy : ys.all yrB = true) (hbp : bp < w.heap.size) (hby : by_ < w.heap.size)
    (c0 : w.cell? ⟨bp, 0, none⟩ = some (.slice A n c)) (c1 : w.cell? ⟨bp, 1, none⟩ = some (.int .i64 lo)) (c2 : w.cell? ⟨bp, 2, none⟩ = some (.int .i64 hi)) (d0 : w.cell? ⟨by_, 0, none⟩ = some (.slice A2 m c')) :
    Calls Tryd.prog 54 #[.func (.func 84) #[] #[], .func (.func 85) #[] #[], .pointer (some ⟨bp, 0, none⟩), .pointer (some ⟨by_, 0, none⟩)] w (EndPost w (runS ls (extT false ls lo hi ys) 0 m)) := by
  have HL := Lib.hid hl; clear hl
  have HM := Lib.hid hm; clear hm
  have HP := Lib.hid hp; clear hp
  have HY := Lib.hid hy; clear hy
  have hn6 : n ≤ 6 := by have := (placeB_spec HP.out).1.2; rw [HL.out] at this; exact this
  have hTk : TruOk (extT false ls lo hi ys) n m := by have := extT_ok false HP.out HY.out; rw [HL.out, HM.out] at this; exact this
  have HT := Lib.hid hTk; clear hTk
  go_enter Tryd.func54, Tryd.ntmps54
  go_wp2_with fail
  go_region_held3 (fun w' => w'.cell? ⟨bp, 0, none⟩ = some (.slice A n c) ∧ w'.cell? ⟨bp, 1, none⟩ = some (.int .i64 lo) ∧ w'.cell? ⟨bp, 2, none⟩ = some (.int .i64 hi) ∧ w'.cell? ⟨by_, 0, none⟩ = some (.slice A2 m c')) (go_keep)
    (first
      | (go_at_call 56
         refine (extreme_cold A A2 n c m c' ls ys lo hi w.drew HL.out hn6 (hL.next (Below.refl _ _).drew) HM.out hm2 (hY.next (Below.refl _ _).drew)).mono ?_
         rintro e w2 ⟨v0, v1, v2, v3, v4, rfl, o0, o1, o2, o3, o4, hb⟩
         have HB := Lib.hid ((Below.refl w.heap.size w).drew.trans hb)
         have S0 := Lib.hid (SlInts.of_own o0 rfl)
         have S1 := Lib.hid (SlInts.of_own o1 rfl)
         have S2 := Lib.hid (SlInts.of_own o2 rfl)
         have S3 := Lib.hid (SlInts.of_own o3 rfl)
         have S4 := Lib.hid (SlInts.of_own o4 rfl)
         have e0 := ((bcell HB.out).1 _ 0 hbp).trans c0
         have e1 := ((bcell HB.out).1 _ 1 hbp).trans c1
         have e2 := ((bcell HB.out).1 _ 2 hbp).trans c2
         have e3 := ((bcell HB.out).1 _ 0 hby).trans d0
         clear o0 o1 o2 o3 o4 hb)
      | (go_at_call 55
         refine (follow_got A n c ls (extT false ls lo hi ys) v0 v1 v2 v3 v4 lo hi 0 m w2 HL.out hcap HP.out (hL.next HB.out) HT.out hm2 ⟨by omega, by omega⟩ S0.out S1.out S2.out S3.out S4.out).mono ?_
         rintro e w3 ⟨v, rfl, hg⟩
         have HG := Lib.hid hg
         have hb3 : Below w.heap.size w w3 := by obtain ⟨g, u0, u1, u2, u3, u4, u5, u6, u7, u8, tv, lv, _, _, _, _, h3⟩ := hg; exact HB.out.trans (h3.mono HB.out.size)
         have HB3 := Lib.hid hb3
         have k0 := ((bcell hb3).1 _ 0 hbp).trans c0
         have k1 := ((bcell hb3).1 _ 1 hbp).trans c1
         have k2 := ((bcell hb3).1 _ 2 hbp).trans c2
         have k3 := ((bcell hb3).1 _ 0 hby).trans d0
         clear hg hb3)
      | fail)
  all_goals
    (try go_wp2)
    go_ret
    exact ⟨_, rfl, gotF_base HG.out HB3.out⟩

set_option maxRecDepth 100000 in
set_option maxHeartbeats 1000000 in
theorem ends_warm (bp by_ : Nat) (A A2 : Option Addr) (n c m c' : Nat) (ls : List Lay) (ys : List Yr) (lo hi : Int) (w : World) (hl : ls.length = n) (hcap : n ≤ c) (hL : LaysAt w w.heap.size A ls) (hm : ys.length = m) (hm2 : m ≤ 12) (hY : YrsAt w w.heap.size A2 ys)
    (hp : placeB ls lo hi = true) (hy : ys.all yrB = true) (hbp : bp < w.heap.size) (hby : by_ < w.heap.size)
    (c0 : w.cell? ⟨bp, 0, none⟩ = some (.slice A n c)) (c1 : w.cell? ⟨bp, 1, none⟩ = some (.int .i64 lo)) (c2 : w.cell? ⟨bp, 2, none⟩ = some (.int .i64 hi)) (d0 : w.cell? ⟨by_, 0, none⟩ = some (.slice A2 m c')) :
    Calls Tryd.prog 54 #[.func (.func 85) #[] #[], .func (.func 84) #[] #[], .pointer (some ⟨bp, 0, none⟩), .pointer (some ⟨by_, 0, none⟩)] w (EndPost w (runS ls (extT true ls lo hi ys) 0 m)) := by
  have HL := Lib.hid hl; clear hl
  have HM := Lib.hid hm; clear hm
  have HP := Lib.hid hp; clear hp
  have HY := Lib.hid hy; clear hy
  have hn6 : n ≤ 6 := by have := (placeB_spec HP.out).1.2; rw [HL.out] at this; exact this
  have hTk : TruOk (extT true ls lo hi ys) n m := by have := extT_ok true HP.out HY.out; rw [HL.out, HM.out] at this; exact this
  have HT := Lib.hid hTk; clear hTk
  go_enter Tryd.func54, Tryd.ntmps54
  go_wp2_with fail
  go_region_held3 (fun w' => w'.cell? ⟨bp, 0, none⟩ = some (.slice A n c) ∧ w'.cell? ⟨bp, 1, none⟩ = some (.int .i64 lo) ∧ w'.cell? ⟨bp, 2, none⟩ = some (.int .i64 hi) ∧ w'.cell? ⟨by_, 0, none⟩ = some (.slice A2 m c')) (go_keep)
    (first
      | (go_at_call 56
         refine (extreme_warm A A2 n c m c' ls ys lo hi w.drew HL.out hn6 (hL.next (Below.refl _ _).drew) HM.out hm2 (hY.next (Below.refl _ _).drew)).mono ?_
         rintro e w2 ⟨v0, v1, v2, v3, v4, rfl, o0, o1, o2, o3, o4, hb⟩
         have HB := Lib.hid ((Below.refl w.heap.size w).drew.trans hb)
         have S0 := Lib.hid (SlInts.of_own o0 rfl)
         have S1 := Lib.hid (SlInts.of_own o1 rfl)
         have S2 := Lib.hid (SlInts.of_own o2 rfl)
         have S3 := Lib.hid (SlInts.of_own o3 rfl)
         have S4 := Lib.hid (SlInts.of_own o4 rfl)
         have e0 := ((bcell HB.out).1 _ 0 hbp).trans c0
         have e1 := ((bcell HB.out).1 _ 1 hbp).trans c1
         have e2 := ((bcell HB.out).1 _ 2 hbp).trans c2
         have e3 := ((bcell HB.out).1 _ 0 hby).trans d0
         clear o0 o1 o2 o3 o4 hb)
      | (go_at_call 55
         refine (follow_got A n c ls (extT true ls lo hi ys) v0 v1 v2 v3 v4 lo hi 0 m w2 HL.out hcap HP.out (hL.next HB.out) HT.out hm2 ⟨by omega, by omega⟩ S0.out S1.out S2.out S3.out S4.out).mono ?_
         rintro e w3 ⟨v, rfl, hg⟩
         have HG := Lib.hid hg
         have hb3 : Below w.heap.size w w3 := by obtain ⟨g, u0, u1, u2, u3, u4, u5, u6, u7, u8, tv, lv, _, _, _, _, h3⟩ := hg; exact HB.out.trans (h3.mono HB.out.size)
         have HB3 := Lib.hid hb3
         have k0 := ((bcell hb3).1 _ 0 hbp).trans c0
         have k1 := ((bcell hb3).1 _ 1 hbp).trans c1
         have k2 := ((bcell hb3).1 _ 2 hbp).trans c2
         have k3 := ((bcell hb3).1 _ 0 hby).trans d0
         clear hg hb3)
      | fail)
  all_goals
    (try go_wp2)
    go_ret
    exact ⟨_, rfl, gotF_base HG.out HB3.out⟩
end Go.Proofs.YtccekbdhffccdaaDoor

namespace Go.Proofs.YtccekbdhffccdaaDoor
open Go.RowKit Go.Shelf

def BothPost (w : World) (s1 s2 : St) (e : Ending) (w' : World) : Prop := ∃ v1 v2, e = .returned (.tuple #[v1, v2]) ∧ GotF w s1 v1 w' ∧ GotF w s2 v2 w' ∧ Below w.heap.size w w'
theorem GotF.bel {w w' : World} {s : St} {v : Value} (h : GotF w s v w') : Below w.heap.size w w' := by
  obtain ⟨g, u0, u1, u2, u3, u4, u5, u6, u7, u8, tv, lv, _, _, _, _, h3⟩ := h
  exact h3

set_option maxRecDepth 100000 in
set_option maxHeartbeats 1000000 in
theorem both_any (bp by_ : Nat) (A A2 : Option Addr) (n c m c' : Nat) (ls : List Lay) (ys : List Yr) (lo hi : Int) (w : World) (hl : ls.length = n) (hcap : n ≤ c) (hL : LaysAt w w.heap.size A ls) (hm : ys.length = m) (hm2 : m ≤ 12) (hY : YrsAt w w.heap.size A2 ys)
    (hp : placeB ls lo hi = true) (hy : ys.all yrB = true) (hbp : bp < w.heap.size) (hby : by_ < w.heap.size)
    (c0 : w.cell? ⟨bp, 0, none⟩ = some (.slice A n c)) (c1 : w.cell? ⟨bp, 1, none⟩ = some (.int .i64 lo)) (c2 : w.cell? ⟨bp, 2, none⟩ = some (.int .i64 hi)) (d0 : w.cell? ⟨by_, 0, none⟩ = some (.slice A2 m c')) :
    Calls Tryd.prog 53 #[.func (.func 54) #[] #[.pointer (some ⟨bp, 0, none⟩), .pointer (some ⟨by_, 0, none⟩)]] w (BothPost w (runS ls (extT false ls lo hi ys) 0 m) (runS ls (extT true ls lo hi ys) 0 m)) := by
  have hc := ends_cold bp by_ A A2 n c m c' ls ys lo hi w hl hcap hL hm hm2 hY hp hy hbp hby c0 c1 c2 d0
  have HC := Lib.hid hc; clear hc
  have HW : Hid (∀ w2 : World, Below w.heap.size w w2 → Calls Tryd.prog 54 #[.func (.func 85) #[] #[], .func (.func 84) #[] #[], .pointer (some ⟨bp, 0, none⟩), .pointer (some ⟨by_, 0, none⟩)] w2 (EndPost w2 (runS ls (extT true ls lo hi ys) 0 m))) :=
    Lib.hid (fun w2 hb => ends_warm bp by_ A A2 n c m c' ls ys lo hi w2 hl hcap (hL.next hb) hm hm2 (hY.next hb) hp hy (by have := hb.size; omega) (by have := hb.size; omega) (((bcell hb).1 _ _ hbp).trans c0) (((bcell hb).1 _ _ hbp).trans c1) (((bcell hb).1 _ _ hbp).trans c2) (((bcell hb).1 _ _ hby).trans d0))
  clear hl hcap hL hm hm2 hY hp hy hbp hby c0 c1 c2 d0
  go_enter Tryd.func53, Tryd.ntmps53
  go_wp2_with fail
  refine HC.out.mono ?_
  rintro e w2 ⟨v1, rfl, hg1⟩
  have G1 := Lib.hid hg1; clear hg1
  go_wp2_with fail
  refine (HW.out w2 G1.out.bel).mono ?_
  rintro e w3 ⟨v2, rfl, hg2⟩
  have G2 := Lib.hid hg2; clear hg2
  go_wp2_with fail
  go_ret2
  have hb := G1.out.bel.trans (G2.out.bel.mono G1.out.bel.size)
  exact ⟨v1, v2, rfl, G1.out.next G2.out.bel, gotF_base G2.out hb, hb⟩
end Go.Proofs.YtccekbdhffccdaaDoor
