/- PileBlamed, its function: what is too long, or not as defined, or has no fault; a pile that is blamed. -/
import Derived.Test.YtdlaphlpimlgdaaGreatDoorEF
namespace Go.Proofs.YtdlaphlpimlgdaaGreatDoor
open Go.RowKit Go.Shelf

section
attribute [local irreducible] QT
set_option maxRecDepth 100000 in
set_option maxHeartbeats 16000000 in
theorem blamed_short {X : Ctx} {w : World} (h : X.In w) (ht : Tab w) (A2 : Option Addr) (m c2 : Nat) (plan : List Int) (hm : plan.length = m) (hm2 : m ≤ maxLen) (hL : IntsAt w w.heap.size A2 plan) (hS : shortB X.np X.nq X.nr X.ts = false) :
    Calls Tryz.prog 9 #[X.sv, X.tv, .slice A2 m c2] w fun e w' => e = .returned (.bool true) ∧ Below w.heap.size w w' := by
  obtain ⟨z0, hb0⟩ := site_new X w
  have HM := Lib.hid hm; have HM2 := Lib.hid hm2; have HT := Lib.hid ht
  obtain ⟨w1, hw1⟩ : ∃ z, w.alloc (.cells X.cells 26) = z := ⟨_, rfl⟩
  rw [hw1] at z0 hb0
  have HI := Lib.hid (h.up hb0); have HB := Lib.hid hb0; have HL := Lib.hid (RowAt.up (k := 1) (R := intR) hL hb0)
  have Z0 := Lib.hid z0
  obtain ⟨s0, s1, s2, s3, s4, s5⟩ := site_box z0
  have htv : X.tv = .slice X.A X.n X.c := rfl
  rw [htv]
  clear h ht z0 hb0 hm hm2 hL htv
  have HSH := Lib.hid (short_X HI.out)
  rw [hS] at HSH
  have HKN : Hid (∀ u, Below w.heap.size w u → Calls Tryz.prog 19 #[] u fun e w' => e = .returned (.bool true) ∧ Below u.heap.size u w') := Lib.hid fun u hu => known_any u (HT.out.next hu)
  clear hS
  go_enter Tryz.func9, Tryz.ntmps9
  go_wp2_with fail
  refine HSH.out.mono ?_
  rintro e w2 ⟨rfl, hb⟩
  have HBX := Lib.hid (HB.out.trans (hb.mono HB.out.size)); clear hb
  go_wp2_with fail
  refine (HKN.out _ HBX.out).mono ?_
  rintro e wy ⟨rfl, hb⟩
  have HBY := Lib.hid (HBX.out.trans (hb.mono HBX.out.size)); clear hb
  go_wp2_with fail
  go_ret
  exact ⟨rfl, HBY.out⟩
end
section
attribute [local irreducible] QT
set_option maxRecDepth 100000 in
set_option maxHeartbeats 16000000 in
theorem blamed_bad {X : Ctx} {w : World} (h : X.In w) (ht : Tab w) (A2 : Option Addr) (m c2 : Nat) (plan : List Int) (hm : plan.length = m) (hm2 : m ≤ maxLen) (hL : IntsAt w w.heap.size A2 plan) (hS : shortB X.np X.nq X.nr X.ts = true) (h0 : planI X.sit X.ts plan ≠ 0) :
    Calls Tryz.prog 9 #[X.sv, X.tv, .slice A2 m c2] w fun e w' => e = .returned (.bool true) ∧ Below w.heap.size w w' := by
  obtain ⟨z0, hb0⟩ := site_new X w
  have HM := Lib.hid hm; have HM2 := Lib.hid hm2; have HT := Lib.hid ht
  obtain ⟨w1, hw1⟩ : ∃ z, w.alloc (.cells X.cells 26) = z := ⟨_, rfl⟩
  rw [hw1] at z0 hb0
  have HI := Lib.hid (h.up hb0); have HB := Lib.hid hb0; have HL := Lib.hid (RowAt.up (k := 1) (R := intR) hL hb0)
  have Z0 := Lib.hid z0
  obtain ⟨s0, s1, s2, s3, s4, s5⟩ := site_box z0
  have htv : X.tv = .slice X.A X.n X.c := rfl
  rw [htv]
  clear h ht z0 hb0 hm hm2 hL htv
  have HSH := Lib.hid (short_X HI.out)
  rw [hS] at HSH
  have HKN : Hid (∀ u, Below w.heap.size w u → Calls Tryz.prog 19 #[] u fun e w' => e = .returned (.bool true) ∧ Below u.heap.size u w') := Lib.hid fun u hu => known_any u (HT.out.next hu)
  clear hS
  have H0 := Lib.hid h0; clear h0
  go_enter Tryz.func9, Tryz.ntmps9
  go_wp2_with fail
  refine HSH.out.mono ?_
  rintro e w2 ⟨rfl, hb⟩
  have HB2 := Lib.hid (HB.out.trans (hb.mono HB.out.size)); have HI2 := Lib.hid (HI.out.up hb); have HL2 := Lib.hid (RowAt.up (k := 1) (R := intR) HL.out hb)
  have Z2 := Lib.hid ((hb.block _ (heapsz Z0.out)).trans Z0.out)
  clear hb s0 s1 s2 s3 s4 s5 HSH
  obtain ⟨s0, s1, s2, s3, s4, s5⟩ := site_box Z2.out
  have hPL := planned_X (c2 := c2) HI2.out A2 m plan HM.out HM2.out HL2.out
  have hv := planI_v X.sit X.ts plan
  obtain ⟨I, hI⟩ : ∃ z, planI X.sit X.ts plan = z := ⟨_, rfl⟩
  have h0 := H0.out
  rw [hI] at hv hPL h0
  have HPL := Lib.hid hPL
  clear hI hPL H0
  go_wp2_with fail
  refine HPL.out.mono ?_
  rintro e wp ⟨rfl, hb⟩
  have HBX := Lib.hid (HB2.out.trans (hb.mono HB2.out.size))
  clear hb s0 s1 s2 s3 s4 s5 HPL HB2 HI2 HL2 Z2
  have hI : I = 2 ∨ I = 3 := by omega
  clear hv h0
  rcases hI with rfl | rfl
  all_goals
    go_wp2_with fail
    refine (HKN.out _ HBX.out).mono ?_
    rintro e wy ⟨rfl, hb⟩
    have HBY := Lib.hid (HBX.out.trans (hb.mono HBX.out.size)); clear hb
    go_wp2_with fail
    go_ret
    exact ⟨rfl, HBY.out⟩
end
section
attribute [local irreducible] QT
set_option maxRecDepth 100000 in
set_option maxHeartbeats 16000000 in
theorem blamed_fine {X : Ctx} {w : World} (h : X.In w) (ht : Tab w) (A2 : Option Addr) (m c2 : Nat) (plan : List Int) (hm : plan.length = m) (hm2 : m ≤ maxLen) (hL : IntsAt w w.heap.size A2 plan) (hS : shortB X.np X.nq X.nr X.ts = true) (h0 : planI X.sit X.ts plan = 0) (v0 v1 v2 : Int) (hv : v0 = 0 ∧ v1 = 1 ∧ v2 = 0) (hF : fauI (fauF X (spanL X.ps X.rs X.ts plan)) = (v0, v1, v2)) :
    Calls Tryz.prog 9 #[X.sv, X.tv, .slice A2 m c2] w fun e w' => e = .returned (.bool true) ∧ Below w.heap.size w w' := by
  obtain ⟨z0, hb0⟩ := site_new X w
  have HM := Lib.hid hm; have HM2 := Lib.hid hm2; have HT := Lib.hid ht
  obtain ⟨w1, hw1⟩ : ∃ z, w.alloc (.cells X.cells 26) = z := ⟨_, rfl⟩
  rw [hw1] at z0 hb0
  have HI := Lib.hid (h.up hb0); have HB := Lib.hid hb0; have HL := Lib.hid (RowAt.up (k := 1) (R := intR) hL hb0)
  have Z0 := Lib.hid z0
  obtain ⟨s0, s1, s2, s3, s4, s5⟩ := site_box z0
  have htv : X.tv = .slice X.A X.n X.c := rfl
  rw [htv]
  clear h ht z0 hb0 hm hm2 hL htv
  have HSH := Lib.hid (short_X HI.out)
  rw [hS] at HSH
  have HKN : Hid (∀ u, Below w.heap.size w u → Calls Tryz.prog 19 #[] u fun e w' => e = .returned (.bool true) ∧ Below u.heap.size u w') := Lib.hid fun u hu => known_any u (HT.out.next hu)
  clear hS
  have HF := Lib.hid hF
  have e0 : (v0 == 0) = true := by rw [hv.1]; rfl
  have e1 : (v1 == 1) = true := by rw [hv.2.1]; rfl
  have e2 : (v2 == 0) = true := by rw [hv.2.2]; rfl
  clear hF hv
  have H0 := Lib.hid h0; clear h0
  go_enter Tryz.func9, Tryz.ntmps9
  go_wp2_with fail
  refine HSH.out.mono ?_
  rintro e w2 ⟨rfl, hb⟩
  have HB2 := Lib.hid (HB.out.trans (hb.mono HB.out.size)); have HI2 := Lib.hid (HI.out.up hb); have HL2 := Lib.hid (RowAt.up (k := 1) (R := intR) HL.out hb)
  have Z2 := Lib.hid ((hb.block _ (heapsz Z0.out)).trans Z0.out)
  clear hb s0 s1 s2 s3 s4 s5 HSH
  obtain ⟨s0, s1, s2, s3, s4, s5⟩ := site_box Z2.out
  have hPL := planned_X (c2 := c2) HI2.out A2 m plan HM.out HM2.out HL2.out
  rw [H0.out] at hPL
  have HPL := Lib.hid hPL
  have HZ := Lib.hid (planI_0 H0.out)
  have HTH := Lib.hid HZ.out.1
  obtain rfl : m = X.n := (by rw [← HM.out, HZ.out.2.1, HI2.out.hl])
  have HK : Hid X.Ok := Lib.hid ⟨HI2.out.hp, HI2.out.hq, HI2.out.hr, HI2.out.hl, HZ.out.1⟩
  have np6 := HK.out.np6; have n10 := HK.out.n10
  have hni : ((X.n : Int) == (X.n : Int)) = true := beq_self_eq_true _
  have hnpi : ((X.np : Int) == (X.np : Int)) = true := beq_self_eq_true _
  clear hPL
  go_wp2_with fail
  refine HPL.out.mono ?_
  rintro e w3 ⟨rfl, hb⟩
  have HB3 := Lib.hid (HB2.out.trans (hb.mono HB2.out.size)); have HI3 := Lib.hid (HI2.out.up hb); have HL3 := Lib.hid (RowAt.up (k := 1) (R := intR) HL2.out hb)
  have Z3 := Lib.hid ((hb.block _ (heapsz Z2.out)).trans Z2.out)
  clear hb s0 s1 s2 s3 s4 s5 HPL HB2 HI2 HL2 Z2
  obtain ⟨s0, s1, s2, s3, s4, s5⟩ := site_box Z3.out
  have hFA := Fault_any HI3.out A2 X.n c2 plan HM.out HM2.out HL3.out
  rw [H0.out] at hFA
  unfold FauPost at hFA
  simp only [HF.out, fauV, if_pos] at hFA
  have HFA := Lib.hid hFA
  clear hFA
  go_wp2_with fail
  refine HFA.out.mono ?_
  rintro e w4 ⟨rfl, hb⟩
  have HB4 := Lib.hid (HB3.out.trans (hb.mono HB3.out.size)); have HI4 := Lib.hid (HI3.out.up hb); have HL4 := Lib.hid (RowAt.up (k := 1) (R := intR) HL3.out hb)
  have Z4 := Lib.hid ((hb.block _ (heapsz Z3.out)).trans Z3.out)
  clear hb s0 s1 s2 s3 s4 s5 HFA HB3 HI3 HL3 Z3
  have hbz := (Below.refl w4.heap.size w4).alloc (Nat.le_refl _) (.cells #[.int .i64 v0, .int .i64 v1, .int .i64 v2] 64)
  have zf := heap_alloc_new w4 (.cells #[.int .i64 v0, .int .i64 v1, .int .i64 v2] 64)
  obtain ⟨wf, hwf⟩ : ∃ z, w4.alloc (.cells #[.int .i64 v0, .int .i64 v1, .int .i64 v2] 64) = z := ⟨_, rfl⟩
  rw [hwf] at hbz zf
  have HBF := Lib.hid (HB4.out.trans (hbz.mono HB4.out.size)); have HIF := Lib.hid (HI4.out.up hbz); have HLF := Lib.hid (RowAt.up (k := 1) (R := intR) HL4.out hbz)
  have ZX := Lib.hid ((hbz.block _ (heapsz Z4.out)).trans Z4.out); have ZF := Lib.hid zf
  clear hbz zf HB4 HI4 HL4 Z4
  obtain ⟨f0, f1, f2⟩ := box3_cells ZF.out
  obtain ⟨s0, s1, s2, s3, s4, s5⟩ := site_box ZX.out
  have HBX := Lib.hid HBF.out
  go_wp2_with fail
  try rw [hwf]
  refine (HKN.out _ HBX.out).mono ?_
  rintro e wy ⟨rfl, hb⟩
  have HBY := Lib.hid (HBX.out.trans (hb.mono HBX.out.size)); clear hb
  go_wp2_with fail
  go_ret
  exact ⟨rfl, HBY.out⟩
end
def blF (n : Nat) (T1 T2 : List (List Tru)) : Nat → Value → World → Prop
  | 2, v, w => TruG n T1 v w
  | 5, v, w => TruG n T2 v w
  | 6, v, w => TruG n T1 v w
  | 7, v, w => TruG n T2 v w
  | _, _, _ => True
theorem blF_keep (n : Nat) (T1 T2 : List (List Tru)) (i : Nat) (v : Value) (w1 w2 : World) (h : blF n T1 T2 i v w1) (hb : Below w1.heap.size w1 w2) : blF n T1 T2 i v w2 := by
  unfold blF at *
  split
  · exact TruG.next h hb
  · exact TruG.next h hb
  · exact TruG.next h hb
  · exact TruG.next h hb
  · trivial
def blCv (sv tv : Value) (bs : Nat) : Tmp → Value
  | 3 => .pointer (some ⟨bs, 0, none⟩)
  | 1 => tv
  | 73 => sv
  | 74 => tv
  | 76 => sv
  | 77 => tv
  | _ => undef
theorem ends_row {X : Ctx} (most : Bool) {t : Nat} (ht : t < X.n) : (X.endsL most)[t]? = some ((List.range X.np).map (X.endT most t)) := by
  unfold Ctx.endsL
  exact gridL_at _ ht

def bpCv (bs bf bm om n cm bp op np cp t o b9 o9 c9 : Nat) (p : Pil) (y : Tru) (g : Nat → Nat) : Tmp → Value
  | 3 => .pointer (some ⟨bs, 0, none⟩)
  | 7 => .pointer (some ⟨bf, 0, none⟩)
  | 9 => .slice (some ⟨bm, om, none⟩) n cm
  | 178 => .pointer (some ⟨bs, 0, none⟩)
  | 179 => .slice (some ⟨bp, op, none⟩) np cp
  | 180 => .pointer (some ⟨bf, 2, none⟩)
  | 181 => .int .i64 (o : Int)
  | 182 => .pointer (some ⟨bp, op + o * 7, none⟩)
  | 183 => .agg #[.int .i64 p.d, .int .i64 p.p, .int .i64 p.s, .int .i64 p.l, .int .i64 p.h, .int .i64 p.g, .int .i64 p.c]
  | 184 => .slice (some ⟨bm, om, none⟩) n cm
  | 185 => .pointer (some ⟨bf, 0, none⟩)
  | 186 => .int .i64 (t : Int)
  | 187 => .pointer (some ⟨bm, om + t, none⟩)
  | 188 => .slice (some ⟨b9, o9, none⟩) np c9
  | 189 => .pointer (some ⟨bf, 2, none⟩)
  | 190 => .int .i64 (o : Int)
  | 191 => .pointer (some ⟨b9, o9 + o * 3, none⟩)
  | 192 => .agg #[.int .i64 y.t, .int .i64 y.l, .int .i64 y.s]
  | 18 => .pointer (some ⟨g 0, 0, none⟩)
  | 19 => .pointer (some ⟨g 1, 0, none⟩)
  | _ => undef
def bpE (w : World) (p : Pil) (y : Tru) : EnvB := ⟨w, 2, fun j => 15 + j, fun j => 17 + j, fun j => if j = 0 then 45 else 68, fun j => if j = 0 then #[.int .i64 0, .int .i64 0, .int .i64 0, .int .i64 0, .int .i64 0, .int .i64 0, .int .i64 0] else #[.int .i64 0, .int .i64 0, .int .i64 0], fun j => if j = 0 then #[.int .i64 p.d, .int .i64 p.p, .int .i64 p.s, .int .i64 p.l, .int .i64 p.h, .int .i64 p.g, .int .i64 p.c] else #[.int .i64 y.t, .int .i64 y.l, .int .i64 y.s]⟩
theorem bpE_start (w : World) (p : Pil) (y : Tru) (g : Nat → Nat) : SB (bpE w p y) (fun _ => false) g { w with drawn := w.drawn + 1 } :=
  ⟨(Below.refl _ _).drew, fun _ _ hd => by simp at hd, fun _ _ _ _ _ hd => by simp at hd, fun _ _ hd => by simp at hd, fun i j _ _ h => ⟨by show 15 + i ≠ 15 + j; omega, by show 17 + i ≠ 17 + j; omega⟩, fun i j hi _ => by
    have hi : i < 2 := hi
    show 15 + i ≠ 17 + j
    omega⟩

section
attribute [local irreducible] QT
set_option maxRecDepth 100000 in
set_option maxHeartbeats 16000000 in
theorem blamed_pile {X : Ctx} {w : World} (h : X.In w) (ht : Tab w) (A2 : Option Addr) (m c2 : Nat) (plan : List Int) (hm : plan.length = m) (hm2 : m ≤ maxLen) (hL : IntsAt w w.heap.size A2 plan) (hS : shortB X.np X.nq X.nr X.ts = true) (h0 : planI X.sit X.ts plan = 0) (t o : Nat) (R : Int) (hR : R = 2 ∨ R = 3 ∨ R = 4) (htn : t < X.n) (hto : o < X.np) (hF : fauI (fauF X (spanL X.ps X.rs X.ts plan)) = ((t : Int), R, (o : Int)))
    (hr2 : R = 2 → loseI X.may (X.pile o) (X.th t o).2 = true) (hr3 : R = 3 → (rowI X.rs (carI (X.pile o) (X.th t o).2) (X.pile o).h).2 = true) (hr4 : R = 4 → lvI X.most plan t o < -X.sink) :
    Calls Tryz.prog 9 #[X.sv, X.tv, .slice A2 m c2] w fun e w' => e = .returned (.bool true) ∧ Below w.heap.size w w' := by
  obtain ⟨z0, hb0⟩ := site_new X w
  have HM := Lib.hid hm; have HM2 := Lib.hid hm2; have HT := Lib.hid ht
  obtain ⟨w1, hw1⟩ : ∃ z, w.alloc (.cells X.cells 26) = z := ⟨_, rfl⟩
  rw [hw1] at z0 hb0
  have HI := Lib.hid (h.up hb0); have HB := Lib.hid hb0; have HL := Lib.hid (RowAt.up (k := 1) (R := intR) hL hb0)
  have Z0 := Lib.hid z0
  obtain ⟨s0, s1, s2, s3, s4, s5⟩ := site_box z0
  have htv : X.tv = .slice X.A X.n X.c := rfl
  rw [htv]
  clear h ht z0 hb0 hm hm2 hL htv
  have HSH := Lib.hid (short_X HI.out)
  rw [hS] at HSH
  have HKN : Hid (∀ u, Below w.heap.size w u → Calls Tryz.prog 19 #[] u fun e w' => e = .returned (.bool true) ∧ Below u.heap.size u w') := Lib.hid fun u hu => known_any u (HT.out.next hu)
  clear hS
  have HF := Lib.hid hF; have HRC := Lib.hid hR; have HR2 := Lib.hid hr2; have HR3 := Lib.hid hr3; have HR4 := Lib.hid hr4
  have R1 : (R == 1) = false := beq_eq_false_iff_ne.2 (by omega)
  have R5 : (R == 5) = false := beq_eq_false_iff_ne.2 (by omega)
  have t0 : (0 : Int) ≤ (t : Int) := by omega
  have t1 : (t : Int) < (X.n : Int) := by omega
  have o0 : (0 : Int) ≤ (o : Int) := by omega
  have o1 : (o : Int) < (X.np : Int) := by omega
  clear hF hR hr2 hr3 hr4
  have H0 := Lib.hid h0; clear h0
  go_enter Tryz.func9, Tryz.ntmps9
  go_wp2_with fail
  refine HSH.out.mono ?_
  rintro e w2 ⟨rfl, hb⟩
  have HB2 := Lib.hid (HB.out.trans (hb.mono HB.out.size)); have HI2 := Lib.hid (HI.out.up hb); have HL2 := Lib.hid (RowAt.up (k := 1) (R := intR) HL.out hb)
  have Z2 := Lib.hid ((hb.block _ (heapsz Z0.out)).trans Z0.out)
  clear hb s0 s1 s2 s3 s4 s5 HSH
  obtain ⟨s0, s1, s2, s3, s4, s5⟩ := site_box Z2.out
  have hPL := planned_X (c2 := c2) HI2.out A2 m plan HM.out HM2.out HL2.out
  rw [H0.out] at hPL
  have HPL := Lib.hid hPL
  have HZ := Lib.hid (planI_0 H0.out)
  have HTH := Lib.hid HZ.out.1
  obtain rfl : m = X.n := (by rw [← HM.out, HZ.out.2.1, HI2.out.hl])
  have HK : Hid X.Ok := Lib.hid ⟨HI2.out.hp, HI2.out.hq, HI2.out.hr, HI2.out.hl, HZ.out.1⟩
  have np6 := HK.out.np6; have n10 := HK.out.n10
  have hni : ((X.n : Int) == (X.n : Int)) = true := beq_self_eq_true _
  have hnpi : ((X.np : Int) == (X.np : Int)) = true := beq_self_eq_true _
  clear hPL
  go_wp2_with fail
  refine HPL.out.mono ?_
  rintro e w3 ⟨rfl, hb⟩
  have HB3 := Lib.hid (HB2.out.trans (hb.mono HB2.out.size)); have HI3 := Lib.hid (HI2.out.up hb); have HL3 := Lib.hid (RowAt.up (k := 1) (R := intR) HL2.out hb)
  have Z3 := Lib.hid ((hb.block _ (heapsz Z2.out)).trans Z2.out)
  clear hb s0 s1 s2 s3 s4 s5 HPL HB2 HI2 HL2 Z2
  obtain ⟨s0, s1, s2, s3, s4, s5⟩ := site_box Z3.out
  have hFA := Fault_any HI3.out A2 X.n c2 plan HM.out HM2.out HL3.out
  rw [H0.out] at hFA
  unfold FauPost at hFA
  simp only [HF.out, fauV, if_pos] at hFA
  have HFA := Lib.hid hFA
  clear hFA
  go_wp2_with fail
  refine HFA.out.mono ?_
  rintro e w4 ⟨rfl, hb⟩
  have HB4 := Lib.hid (HB3.out.trans (hb.mono HB3.out.size)); have HI4 := Lib.hid (HI3.out.up hb); have HL4 := Lib.hid (RowAt.up (k := 1) (R := intR) HL3.out hb)
  have Z4 := Lib.hid ((hb.block _ (heapsz Z3.out)).trans Z3.out)
  clear hb s0 s1 s2 s3 s4 s5 HFA HB3 HI3 HL3 Z3
  have hbz := (Below.refl w4.heap.size w4).alloc (Nat.le_refl _) (.cells #[.int .i64 (t : Int), .int .i64 R, .int .i64 (o : Int)] 64)
  have zf := heap_alloc_new w4 (.cells #[.int .i64 (t : Int), .int .i64 R, .int .i64 (o : Int)] 64)
  obtain ⟨wf, hwf⟩ : ∃ z, w4.alloc (.cells #[.int .i64 (t : Int), .int .i64 R, .int .i64 (o : Int)] 64) = z := ⟨_, rfl⟩
  rw [hwf] at hbz zf
  have HBF := Lib.hid (HB4.out.trans (hbz.mono HB4.out.size)); have HIF := Lib.hid (HI4.out.up hbz); have HLF := Lib.hid (RowAt.up (k := 1) (R := intR) HL4.out hbz)
  have ZX := Lib.hid ((hbz.block _ (heapsz Z4.out)).trans Z4.out); have ZF := Lib.hid zf
  clear hbz zf HB4 HI4 HL4 Z4
  obtain ⟨f0, f1, f2⟩ := box3_cells ZF.out
  obtain ⟨s0, s1, s2, s3, s4, s5⟩ := site_box ZX.out
  go_wp2_with fail
  try rw [hwf]
  obtain ⟨bf, hbf⟩ : ∃ z, w4.heap.size = z := ⟨_, rfl⟩
  rw [hbf] at ZF
  try rw [hbf]
  clear hwf hbf f0 f1 f2 s0 s1 s2 s3 s4 s5
  refine rel_region [3, 1] [(75, 2), (78, 5), (9, 6), (10, 7)] (blCv X.sv X.tv w.heap.size) (blF X.n (X.endsL true) (X.endsL false)) (by kernel_rfl) (by kernel_rfl) (by kernel_rfl) (by kernel_rfl) (by kernel_rfl) (by kernel_rfl) ?_ (blF_keep X.n (X.endsL true) (X.endsL false)) ?_ ?_
  · intro t ht
    simp only [List.mem_cons, List.not_mem_nil, or_false] at ht
    rcases ht with rfl | rfl <;> rfl
  · refine allOps_array ?_
    have hp : ∀ u : KeptW wf, _ := fun u => site_box ((u.h.block _ (heapsz ZX.out)).trans ZX.out)
    refine ⟨?_, ?_, ?_, ?_, ?_, ?_, ?_, ?_, trivial⟩ <;> intro g u hd_ <;> obtain ⟨q0, q1, q2, q3, q4, q5⟩ := hp u
    · refine ⟨rfl, relQ 73 rfl trivial ?_⟩
      simp [go_sem, evalBy, rhoT, relOf, blCv, q0, q1, q2, q3, q4, q5]
    · refine ⟨rfl, relQ 74 rfl trivial ?_⟩
      simp [go_sem, evalBy, rhoT, relOf, blCv]
    · refine ⟨rfl, relC 39 #[X.sv, X.tv, .bool true] (by simp [go_sem, evalBy, rhoT, relOf, blCv]) ?_⟩
      refine (refEnds_any (HIF.out.up u.h) HTH.out true).mono ?_
      rintro e w' ⟨A3, c3, rfl, g1, _, hb⟩
      exact ⟨_, rfl, hb, ⟨A3, c3, rfl, g1⟩, fun e he hn => by injection he with he; subst he; exact absurd hn (by simp [relOf])⟩
    · refine ⟨rfl, relQ 76 rfl trivial ?_⟩
      simp [go_sem, evalBy, rhoT, relOf, blCv, q0, q1, q2, q3, q4, q5]
    · refine ⟨rfl, relQ 77 rfl trivial ?_⟩
      simp [go_sem, evalBy, rhoT, relOf, blCv]
    · refine ⟨rfl, relC 39 #[X.sv, X.tv, .bool false] (by simp [go_sem, evalBy, rhoT, relOf, blCv]) ?_⟩
      refine (refEnds_any (HIF.out.up u.h) HTH.out false).mono ?_
      rintro e w' ⟨A3, c3, rfl, g1, _, hb⟩
      exact ⟨_, rfl, hb, ⟨A3, c3, rfl, g1⟩, fun e he hn => by injection he with he; subst he; exact absurd hn (by simp [relOf])⟩
    · have hv := hd_ ⟨2, .data⟩ (by simp) rfl
      refine ⟨rfl, relM (g 2) hv (fun e he hn => by injection he with he; subst he; exact absurd hn (by simp [relOf])) ?_⟩
      simp [go_sem, evalBy, rhoT, relOf]
    · have hv := hd_ ⟨5, .data⟩ (by simp) rfl
      refine ⟨rfl, relM (g 5) hv (fun e he hn => by injection he with he; subst he; exact absurd hn (by simp [relOf])) ?_⟩
      simp [go_sem, evalBy, rhoT, relOf]
  · intro g u hf
    obtain ⟨Am, cm, em, hgm⟩ : TruG X.n (X.endsL true) (g 6) u.w := hf 6 (by decide)
    obtain ⟨Al, cl, el, hgl⟩ : TruG X.n (X.endsL false) (g 7) u.w := hf 7 (by decide)
    simp [putAll, Act.put, rhoT, relOf, blCv, em, el]
    have hub := u.h
    obtain ⟨w5, hwo⟩ : ∃ x, u.w = x := ⟨_, rfl⟩
    obtain ⟨k2, hk2⟩ : ∃ x, g 2 = x := ⟨_, rfl⟩
    obtain ⟨k5, hk5⟩ : ∃ x, g 5 = x := ⟨_, rfl⟩
    rw [hwo] at hgm hgl hub ⊢
    try rw [hk2]
    try rw [hk5]
    clear hf em el hwo hk2 hk5
    have HB5 := Lib.hid (HBF.out.trans (hub.mono HBF.out.size)); have HI5 := Lib.hid (HIF.out.up hub); have HL5 := Lib.hid (RowAt.up (k := 1) (R := intR) HLF.out hub)
    have HGM := Lib.hid hgm; have HGL := Lib.hid hgl
    have ZX5 := Lib.hid ((hub.block _ (heapsz ZX.out)).trans ZX.out); have ZF5 := Lib.hid ((hub.block _ (heapsz ZF.out)).trans ZF.out)
    clear hub hgm hgl HBF HIF HLF ZX ZF u g
    obtain ⟨f0, f1, f2⟩ := box3_cells ZF5.out
    obtain ⟨s0, s1, s2, s3, s4, s5⟩ := site_box ZX5.out
    obtain ⟨bm, om, A9, m9, c9, rfl, hbm, hm9, dm, pm, _⟩ := grid_row HGM.out (ends_row true htn)
    have n9 : m9 = X.np := by rw [hm9]; simp
    rw [n9] at dm
    obtain ⟨b9, o9, rfl, hb9, u0c, u1c, u2c⟩ := tru_el pm (rowL_at (X.endT true t) hto)
    obtain ⟨bp, op, eAP, hbp, p0c, p1c, p2c, p3c, p4c, p5c, p6c⟩ := HI5.out.cells_p HK.out hto
    have HRP : Hid ((lvT (setF (X.endsL true)) plan X.np)[t]? = some (lvL X.most plan X.np t)) := Lib.hid (by
      have e : lvT (setF (X.endsL true)) plan X.np = lvT X.most plan X.np := by
        refine lvT_eq fun t' i ht' hi => ?_
        rw [HM.out] at ht'
        unfold setF
        rw [List.getD_eq_getElem?_getD (l := X.endsL true), ends_row true ht', Option.getD_some, List.getD_eq_getElem?_getD, rowL_at _ hi]
        rfl
      rw [e]
      unfold lvT
      rw [List.getElem?_map, List.getElem?_range (by rw [HM.out]; exact htn)]
      rfl)
    have hpB := (HK.out.at_pile hto).2
    have hyB : 0 ≤ (X.th t o).1 ∧ (X.th t o).1 ≤ (X.th t o).2 ∧ (X.th t o).2 ≤ 50000 := by
      obtain ⟨_, _, _, _, h5⟩ := HK.out.at_th htn hto
      exact withinB_iff.1 h5
    have hpl := (pilB_iff.1 hpB).2.2.2.1
    have eY1 : (X.endT true t o).t = (X.th t o).2 := rfl
    have eY2 : (X.endT true t o).l = (X.pile o).h := rfl
    have hYB : (0 ≤ (X.endT true t o).t ∧ (X.endT true t o).t ≤ 50000) ∧ (0 ≤ (X.endT true t o).l ∧ (X.endT true t o).l ≤ 100000) := by rw [eY1, eY2]; omega
    rw [← eY1] at HR2 HR3
    rw [← eY2] at HR3
    have FC : Hid (∀ u, Below w5.heap.size w5 u → (u.cell? ⟨w.heap.size, 0, none⟩ = some (.slice X.AP X.np X.cp) ∧ u.cell? ⟨w.heap.size, 1, none⟩ = some (.slice X.AQ X.nq X.cq) ∧ u.cell? ⟨w.heap.size, 2, none⟩ = some (.slice X.AR X.nr X.cr) ∧ u.cell? ⟨w.heap.size, 3, none⟩ = some (.int .i64 X.may) ∧ u.cell? ⟨w.heap.size, 4, none⟩ = some (.int .i64 X.sink) ∧ u.cell? ⟨w.heap.size, 5, none⟩ = some (.int .i64 X.tilt)) ∧
        (u.cell? ⟨bf, 0, none⟩ = some (.int .i64 (t : Int)) ∧ u.cell? ⟨bf, 1, none⟩ = some (.int .i64 R) ∧ u.cell? ⟨bf, 2, none⟩ = some (.int .i64 (o : Int))) ∧
        (u.cell? ⟨bp, op + o * 7, none⟩ = some (.int .i64 (X.pile o).d) ∧ u.cell? ⟨bp, op + o * 7 + 1, none⟩ = some (.int .i64 (X.pile o).p) ∧ u.cell? ⟨bp, op + o * 7 + 2, none⟩ = some (.int .i64 (X.pile o).s) ∧ u.cell? ⟨bp, op + o * 7 + 3, none⟩ = some (.int .i64 (X.pile o).l) ∧ u.cell? ⟨bp, op + o * 7 + 4, none⟩ = some (.int .i64 (X.pile o).h) ∧ u.cell? ⟨bp, op + o * 7 + 5, none⟩ = some (.int .i64 (X.pile o).g) ∧ u.cell? ⟨bp, op + o * 7 + 6, none⟩ = some (.int .i64 (X.pile o).c)) ∧
        u.cell? ⟨bm, om + t, none⟩ = some (.slice (some ⟨b9, o9, none⟩) X.np c9) ∧ u.cell? ⟨b9, o9 + o * 3, none⟩ = some (.int .i64 (X.endT true t o).t) ∧ u.cell? ⟨b9, o9 + o * 3 + 1, none⟩ = some (.int .i64 (X.endT true t o).l) ∧ u.cell? ⟨b9, o9 + o * 3 + 2, none⟩ = some (.int .i64 (X.endT true t o).s)) :=
      Lib.hid fun u hu => by
        have hk := (bcell hu).1
        exact ⟨site_box ((hu.block _ (heapsz ZX5.out)).trans ZX5.out), box3_cells ((hu.block _ (heapsz ZF5.out)).trans ZF5.out), ⟨(hk _ _ hbp).trans p0c, (hk _ _ hbp).trans p1c, (hk _ _ hbp).trans p2c, (hk _ _ hbp).trans p3c, (hk _ _ hbp).trans p4c, (hk _ _ hbp).trans p5c, (hk _ _ hbp).trans p6c⟩, (hk _ _ hbm).trans dm, (hk _ _ hb9).trans u0c, (hk _ _ hb9).trans u1c, (hk _ _ hb9).trans u2c⟩
    obtain ⟨P, hP⟩ : ∃ z, X.pile o = z := ⟨_, rfl⟩
    obtain ⟨Y, hY⟩ : ∃ z, X.endT true t o = z := ⟨_, rfl⟩
    have HPB := Lib.hid hpB; have HYB := Lib.hid hYB
    simp only [hP, hY] at FC HR2 HR3 HPB HYB
    simp only [eAP] at FC
    clear eAP p0c p1c p2c p3c p4c p5c p6c u0c u1c u2c hbm hm9 dm pm n9 hb9 hbp hpB hyB hpl eY1 eY2 hYB hP hY
    go_wp2_with fail
    clear f0 f1 f2 s0 s1 s2 s3 s4 s5
    refine wp_region_any (by kernel_rfl) (plan_guarded_any (γ := Nat → Nat) [3, 7, 9] (bpCv w.heap.size bf bm om X.n cm bp op X.np X.cp t o b9 o9 c9 P Y) (SB (bpE w5 P Y)) (fun _ => 0) (by kernel_rfl) (by kernel_rfl) (by kernel_rfl) (by kernel_rfl) ?_ (bpE_start w5 P Y _) ?_ ?_)
    · intro t ht
      simp only [List.mem_cons, List.not_mem_nil, or_false] at ht
      rcases ht with rfl | rfl | rfl <;> rfl
    · refine allOps_array ?_
      refine ⟨?_, ?_, ?_, ?_, ?_, ?_, ?_, ?_, ?_, ?_, ?_, ?_, ?_, ?_, ?_, ?_, ?_, ?_, ?_, trivial⟩ <;> intro done g w' hS hu hdep _ <;> obtain ⟨⟨x0, x1, x2, x3, x4, x5⟩, ⟨y0, y1, y2⟩, ⟨p0, p1, p2, p3, p4, p5, p6⟩, m0, u0, u1, u2⟩ := FC.out w' hS.bel
      · refine quietB hS 178 rfl (fun j hj => by have hj : j < 2 := hj; exact ⟨by show 0 ≠ 15 + j; omega, by show 0 ≠ 17 + j; omega⟩) rfl ?_
        simp [go_sem, evalBy, bpCv]
      · refine quietB hS 179 rfl (fun j hj => by have hj : j < 2 := hj; exact ⟨by show 1 ≠ 15 + j; omega, by show 1 ≠ 17 + j; omega⟩) rfl ?_
        simp [go_sem, evalBy, bpCv, x0]
      · refine quietB hS 180 rfl (fun j hj => by have hj : j < 2 := hj; exact ⟨by show 2 ≠ 15 + j; omega, by show 2 ≠ 17 + j; omega⟩) rfl ?_
        simp [go_sem, evalBy, bpCv]
      · refine quietB hS 181 rfl (fun j hj => by have hj : j < 2 := hj; exact ⟨by show 3 ≠ 15 + j; omega, by show 3 ≠ 17 + j; omega⟩) rfl ?_
        simp [go_sem, evalBy, bpCv, y2]
      · refine quietB hS 182 rfl (fun j hj => by have hj : j < 2 := hj; exact ⟨by show 4 ≠ 15 + j; omega, by show 4 ≠ 17 + j; omega⟩) rfl ?_
        simp [go_sem, evalBy, bpCv, o0, o1]
      · refine quietB hS 183 rfl (fun j hj => by have hj : j < 2 := hj; exact ⟨by show 5 ≠ 15 + j; omega, by show 5 ≠ 17 + j; omega⟩) rfl ?_
        simp [go_sem, evalBy, bpCv, p0, p1, p2, p3, p4, p5, p6]
      · refine quietB hS 184 rfl (fun j hj => by have hj : j < 2 := hj; exact ⟨by show 6 ≠ 15 + j; omega, by show 6 ≠ 17 + j; omega⟩) rfl ?_
        simp [go_sem, evalBy, bpCv]
      · refine quietB hS 185 rfl (fun j hj => by have hj : j < 2 := hj; exact ⟨by show 7 ≠ 15 + j; omega, by show 7 ≠ 17 + j; omega⟩) rfl ?_
        simp [go_sem, evalBy, bpCv]
      · refine quietB hS 186 rfl (fun j hj => by have hj : j < 2 := hj; exact ⟨by show 8 ≠ 15 + j; omega, by show 8 ≠ 17 + j; omega⟩) rfl ?_
        simp [go_sem, evalBy, bpCv, y0]
      · refine quietB hS 187 rfl (fun j hj => by have hj : j < 2 := hj; exact ⟨by show 9 ≠ 15 + j; omega, by show 9 ≠ 17 + j; omega⟩) rfl ?_
        simp [go_sem, evalBy, bpCv, t0, t1]
      · refine quietB hS 188 rfl (fun j hj => by have hj : j < 2 := hj; exact ⟨by show 10 ≠ 15 + j; omega, by show 10 ≠ 17 + j; omega⟩) rfl ?_
        simp [go_sem, evalBy, bpCv, m0]
      · refine quietB hS 189 rfl (fun j hj => by have hj : j < 2 := hj; exact ⟨by show 11 ≠ 15 + j; omega, by show 11 ≠ 17 + j; omega⟩) rfl ?_
        simp [go_sem, evalBy, bpCv]
      · refine quietB hS 190 rfl (fun j hj => by have hj : j < 2 := hj; exact ⟨by show 12 ≠ 15 + j; omega, by show 12 ≠ 17 + j; omega⟩) rfl ?_
        simp [go_sem, evalBy, bpCv, y2]
      · refine quietB hS 191 rfl (fun j hj => by have hj : j < 2 := hj; exact ⟨by show 13 ≠ 15 + j; omega, by show 13 ≠ 17 + j; omega⟩) rfl ?_
        simp [go_sem, evalBy, bpCv, o0, o1]
      · refine quietB hS 192 rfl (fun j hj => by have hj : j < 2 := hj; exact ⟨by show 14 ≠ 15 + j; omega, by show 14 ≠ 17 + j; omega⟩) rfl ?_
        simp [go_sem, evalBy, bpCv, u0, u1, u2]
      · refine makeB hS 0 (by show 0 < 2; decide) 18 rfl rfl hu rfl ?_ (fun _ => rfl) ?_
        · simp [go_sem, bpE]
        · intro t v ht
          unfold bpCv
          split <;> first | rfl | exact absurd rfl ht | simp [updN]
      · refine makeB hS 1 (by show 1 < 2; decide) 19 rfl rfl hu rfl ?_ (fun _ => rfl) ?_
        · simp [go_sem, bpE]
        · intro t v ht
          unfold bpCv
          split <;> first | rfl | exact absurd rfl ht | simp [updN]
      · refine fillB hS 0 (by show 0 < 2; decide) rfl rfl hu (hdep ⟨15, .data⟩ (by simp) rfl) rfl rfl ?_
        intro hf hc
        have f0 := hf 0; have f1 := hf 1; have f2 := hf 2; have f3 := hf 3; have f4 := hf 4; have f5 := hf 5; have f6 := hf 6
        have c0 := hc 0 _ rfl; have c1 := hc 1 _ rfl; have c2 := hc 2 _ rfl; have c3 := hc 3 _ rfl; have c4 := hc 4 _ rfl; have c5 := hc 5 _ rfl; have c6 := hc 6 _ rfl
        clear hf hc
        simp [go_sem, evalBy, bpCv, bpE, setsC, f0, f1, f2, f3, f4, f5, f6, c0, c1, c2, c3, c4, c5, c6]
      · refine fillB hS 1 (by show 1 < 2; decide) rfl rfl hu (hdep ⟨16, .data⟩ (by simp) rfl) rfl rfl ?_
        intro hf hc
        have f0 := hf 0; have f1 := hf 1; have f2 := hf 2
        have c0 := hc 0 _ rfl; have c1 := hc 1 _ rfl; have c2 := hc 2 _ rfl
        clear hf hc
        simp [go_sem, evalBy, bpCv, bpE, setsC, f0, f1, f2, c0, c1, c2]
    · intro g wd hS
      obtain ⟨bx, hbx⟩ : ∃ z, g 0 = z := ⟨_, rfl⟩
      obtain ⟨by_, hby⟩ : ∃ z, g 1 = z := ⟨_, rfl⟩
      have xb : wd.heap[g 0]? = some (.cells #[.int .i64 P.d, .int .i64 P.p, .int .i64 P.s, .int .i64 P.l, .int .i64 P.h, .int .i64 P.g, .int .i64 P.c] 45 (0, 0)) := (hS.box 0 (by show 0 < 2; decide) rfl).2
      have yb : wd.heap[g 1]? = some (.cells #[.int .i64 Y.t, .int .i64 Y.l, .int .i64 Y.s] 68 (0, 0)) := (hS.box 1 (by show 1 < 2; decide) rfl).2
      rw [hbx] at xb
      rw [hby] at yb
      have hbd : Below w5.heap.size w5 wd := hS.bel
      simp [putAll, Act.put, bpCv, hbx, hby]
      clear hS hbx hby FC
      have HBD := Lib.hid (HB5.out.trans (hbd.mono HB5.out.size)); have HID := Lib.hid (HI5.out.up hbd); have HLD := Lib.hid (RowAt.up (k := 1) (R := intR) HL5.out hbd)
      have HGD := Lib.hid (HGM.out.up hbd)
      have ZXD := Lib.hid ((hbd.block _ (heapsz ZX5.out)).trans ZX5.out); have ZFD := Lib.hid ((hbd.block _ (heapsz ZF5.out)).trans ZF5.out)
      have XB := Lib.hid xb; have YB := Lib.hid yb
      clear hbd xb yb HB5 HI5 HL5 HGM HGL ZX5 ZF5 g
      have hPT := playT_any HID.out A2 c2 plan HM.out HLD.out H0.out HK.out.n10 (X.endsL true) (ends_len X true) (poss_ends HK.out true) _ ⟨_, cm, rfl, HGD.out⟩
      obtain ⟨LL, hLL⟩ : ∃ z, lvT (setF (X.endsL true)) plan X.np = z := ⟨_, rfl⟩
      rw [hLL] at hPT HRP
      have HPT := Lib.hid hPT
      clear hPT hLL
      obtain ⟨s0, s1, s2, s3, s4, s5⟩ := site_box ZXD.out
      go_wp2_with fail
      refine HPT.out.mono ?_
      rintro e w8 ⟨v, rfl, hb, A8, c8, rfl, hc⟩
      have HC8 := Lib.hid hc
      clear HPT
      have HB8 := Lib.hid (HBD.out.trans (hb.mono HBD.out.size)); have HI8 := Lib.hid (HID.out.up hb)
      have ZX8 := Lib.hid ((hb.block _ (heapsz ZXD.out)).trans ZXD.out); have ZF8 := Lib.hid ((hb.block _ (heapsz ZFD.out)).trans ZFD.out)
      have XB8 := Lib.hid ((hb.block _ (heapsz XB.out)).trans XB.out); have YB8 := Lib.hid ((hb.block _ (heapsz YB.out)).trans YB.out)
      clear hb hc s0 s1 s2 s3 s4 s5 HBD HID HLD HGD ZXD ZFD XB YB
      go_wp2_with fail
      obtain ⟨b8, o8, R8, m8, d8, rfl, hb8, hm8, e8, q8, _⟩ := lvs_row HC8.out HRP.out
      have n8 : m8 = X.np := by rw [hm8]; unfold lvL; simp
      rw [n8] at e8
      have Q8 := Lib.hid q8
      have FD : Hid (∀ u, Below w8.heap.size w8 u → u.cell? ⟨b8, o8 + t, none⟩ = some (.slice R8 X.np d8) ∧ (u.cell? ⟨bf, 0, none⟩ = some (.int .i64 (t : Int)) ∧ u.cell? ⟨bf, 1, none⟩ = some (.int .i64 R) ∧ u.cell? ⟨bf, 2, none⟩ = some (.int .i64 (o : Int))) ∧ u.cell? ⟨w.heap.size, 0, none⟩ = some (.slice X.AP X.np X.cp) ∧ u.cell? ⟨w.heap.size, 4, none⟩ = some (.int .i64 X.sink)) :=
        Lib.hid fun u hu => ⟨((bcell hu).1 _ _ hb8).trans e8, box3_cells ((hu.block _ (heapsz ZF8.out)).trans ZF8.out), (site_box ((hu.block _ (heapsz ZX8.out)).trans ZX8.out)).1, (site_box ((hu.block _ (heapsz ZX8.out)).trans ZX8.out)).2.2.2.2.1⟩
      clear hb8 hm8 e8 q8 n8
      have fu := fun u : KeptW w8 => FD.out u.w u.h
      have r8 := fun u => (fu u).1; have y0 := fun u => (fu u).2.1.1; have x0 := fun u => (fu u).2.2.1
      clear fu
      refine rk_region (by kernel_rfl) (by kernel_rfl) ?_
      repeat (go_big_quiet_step (fail))
      refine wpQuiet_nil ?_
      rintro _ ⟨u, rfl⟩
      have hub := u.h
      obtain ⟨wv, hwv⟩ : ∃ x, u.w = x := ⟨_, rfl⟩
      rw [hwv] at hub ⊢
      have HBV := Lib.hid hub
      have HB9 := Lib.hid (HB8.out.trans (hub.mono HB8.out.size)); have HI9 := Lib.hid (HI8.out.up hub)
      have ZX9 := Lib.hid ((hub.block _ (heapsz ZX8.out)).trans ZX8.out)
      have XB9 := Lib.hid ((hub.block _ (heapsz XB8.out)).trans XB8.out); have YB9 := Lib.hid ((hub.block _ (heapsz YB8.out)).trans YB8.out)
      have y1 := (FD.out wv hub).2.1.2.1
      clear r8 y0 x0 hub hwv u
      rcases HRC.out with rfl | rfl | rfl
      · obtain ⟨s0, s1, s2, s3, s4, s5⟩ := site_box ZX9.out
        obtain ⟨z0, z1, z2, z3, z4, z5, z6⟩ := pil_box XB9.out
        obtain ⟨v0, v1, v2⟩ := box3_cells YB9.out
        have hC := refLoses_any X.AP X.AQ X.AR X.np X.cp X.nq X.cq X.nr X.cr X.may X.sink X.tilt P Y.t wv HPB.out HYB.out.1 HK.out.parts.may
        rw [HR2.out rfl] at hC
        have HC := Lib.hid hC
        clear hC
        unfold pilV at HC
        go_wp2_with fail
        refine HC.out.mono ?_
        rintro e wz ⟨rfl, hb⟩
        have HBX := Lib.hid (HB9.out.trans (hb.mono HB9.out.size))
        clear hb s0 s1 s2 s3 s4 s5 z0 z1 z2 z3 z4 z5 z6 v0 v1 v2 y1 HC
        go_wp2_with fail
        refine (HKN.out _ HBX.out).mono ?_
        rintro e wy ⟨rfl, hb⟩
        have HBY := Lib.hid (HBX.out.trans (hb.mono HBX.out.size)); clear hb
        go_wp2_with fail
        go_ret
        exact ⟨rfl, HBY.out⟩
      · obtain ⟨s0, s1, s2, s3, s4, s5⟩ := site_box ZX9.out
        obtain ⟨z0, z1, z2, z3, z4, z5, z6⟩ := pil_box XB9.out
        obtain ⟨v0, v1, v2⟩ := box3_cells YB9.out
        have nr6 := HK.out.parts.nr6
        have hC := refFails_any X.AP X.AQ X.AR X.np X.cp X.nq X.cq X.nr X.cr X.rs X.may X.sink X.tilt P Y.t Y.l wv HK.out.hr nr6.1 (by unfold maxLen; omega) HK.out.parts.rs HI9.out.R HPB.out HYB.out.1 HYB.out.2
        rw [HR3.out rfl] at hC
        have HC := Lib.hid hC
        clear hC
        unfold pilV at HC
        go_wp2_with fail
        refine HC.out.mono ?_
        rintro e wz ⟨rfl, hb⟩
        have HBX := Lib.hid (HB9.out.trans (hb.mono HB9.out.size))
        clear hb s0 s1 s2 s3 s4 s5 z0 z1 z2 z3 z4 z5 z6 v0 v1 v2 y1 HC
        go_wp2_with fail
        refine (HKN.out _ HBX.out).mono ?_
        rintro e wy ⟨rfl, hb⟩
        have HBY := Lib.hid (HBX.out.trans (hb.mono HBX.out.size)); clear hb
        go_wp2_with fail
        go_ret
        exact ⟨rfl, HBY.out⟩
      · have hlp : (lvL X.most plan X.np t)[o]? = some (lvI X.most plan t o) := by unfold lvL; exact rowL_at _ hto
        obtain ⟨bc, oc, rfl, hbc, hcl⟩ := Q8.out (by intro h; rw [h] at hlp; simp at hlp)
        have k0 := hcl o _ hlp 0 (.int .i64 (lvI X.most plan t o)) rfl
        simp only [Nat.mul_one, Nat.add_zero] at k0
        obtain ⟨V, hV⟩ : ∃ z, lvI X.most plan t o = z := ⟨_, rfl⟩
        have HR4' : Hid (V < -X.sink) := Lib.hid (by rw [← hV]; exact HR4.out rfl)
        rw [hV] at k0
        have sk := HK.out.parts.sink
        have vs : Value.int .i64 (wrap64 (-X.sink)) = Value.int .i64 (-X.sink) := by congr 1; exact w64 (by omega)
        have FE : Hid (∀ u, Below wv.heap.size wv u → u.cell? ⟨bc, oc + o, none⟩ = some (.int .i64 V) ∧ u.cell? ⟨b8, o8 + t, none⟩ = some (.slice (some ⟨bc, oc, none⟩) X.np d8) ∧ u.cell? ⟨bf, 0, none⟩ = some (.int .i64 (t : Int)) ∧ u.cell? ⟨bf, 2, none⟩ = some (.int .i64 (o : Int)) ∧ u.cell? ⟨w.heap.size, 4, none⟩ = some (.int .i64 X.sink)) :=
          Lib.hid fun u hu => by
            have h1 := HBV.out.trans (hu.mono HBV.out.size)
            obtain ⟨g1, ⟨g2, _, g3⟩, _, g4⟩ := FD.out u h1
            exact ⟨((bcell h1).1 _ _ hbc).trans k0, g1, g2, g3, g4⟩
        clear hlp hbc hcl k0 hV
        go_wp2_with fail
        have fu := fun u : KeptW wv => FE.out u.w u.h
        have k0 := fun u => (fu u).1; have r8 := fun u => (fu u).2.1; have y0 := fun u => (fu u).2.2.1; have y2 := fun u => (fu u).2.2.2.1; have s4 := fun u => (fu u).2.2.2.2
        have hlt := HR4'.out
        clear fu y1
        refine rk_region (by kernel_rfl) (by kernel_rfl) ?_
        repeat (go_big_quiet_step (fail))
        refine wpQuiet_nil ?_
        rintro _ ⟨u, rfl⟩
        have HBX := Lib.hid (HB9.out.trans (u.h.mono HB9.out.size))
        clear k0 r8 y0 y2 s4 vs
        go_wp2_with fail
        refine (HKN.out _ HBX.out).mono ?_
        rintro e wy ⟨rfl, hb⟩
        have HBY := Lib.hid (HBX.out.trans (hb.mono HBX.out.size)); clear hb
        go_wp2_with fail
        go_ret
        exact ⟨rfl, HBY.out⟩
end
end Go.Proofs.YtdlaphlpimlgdaaGreatDoor
