/- The least number for which something holds: what was looked at is kept in a map. The search for the least number. -/
import Derived.Test.YtccekbdhffccdaaDoorX
import Derived.Maps.Own
import Derived.Maps.OwnSet
import Derived.Maps.Views
namespace Go.Proofs.YtccekbdhffccdaaDoor
open Go.RowKit Go.Shelf Go.Maps

theorem keyLaw : Keyed Tryd.prog 3 := int_keyed Tryd.underlying3
theorem zero4 (w : World) : (zeroValue 4).run Tryd.prog w = .ok (.bool false) w := by kernel_rfl
theorem elem_bool {v : Value} {d : DataW Unit} {ps : List MemPlace} (h : plainElem (H := Unit) Tryd.prog 4 v = some (d, ps)) : ∃ x, v = .bool x ∧ d = .lit (.bool x) := by
  have he := Tryd.underlying4
  cases v <;> simp [plainElem, he] at h
  exact ⟨_, rfl, h.1.symm⟩
theorem wf_i64 {k : Int} (h0 : 0 ≤ k) (h1 : k ≤ 1000000) : (Lit.int .i64 k).wf = true := WalkArith.wf_i64 (by omega)

/-- A map of the call's own that says of each number in it whether something holds. -/
def MI (w : World) (b cnt : Nat) (hf : Int → Bool) : Prop :=
  ∃ D : DataW Unit, Maps.IsMap D ∧ w.ownsMap Tryd.prog 3 (plainElem Tryd.prog 4) b cnt D ∧ ∀ k : Int, Maps.has D (.int .i64 k) = true → D.atKey (.int .i64 k) (.lit (.bool false)) = .lit (.bool (hf k))
theorem MI.more {w : World} {b c c' : Nat} {hf : Int → Bool} (h : MI w b c hf) (hc : c ≤ c') : MI w b c' hf := by
  obtain ⟨D, h0, h1, h2⟩ := h
  exact ⟨D, h0, h1.mono hc, h2⟩
theorem MI.next {w w' : World} {b c : Nat} {hf : Int → Bool} (h : MI w b c hf) (hb : Below w.heap.size w w') : MI w' b c hf := by
  obtain ⟨D, h0, h1, h2⟩ := h
  exact ⟨D, h0, h1.kept (row := none) ⟨hb.os, hb.tape, hb.output, hb.size, fun j hj _ => hb.block j hj⟩ (by simp), h2⟩
theorem MI.look {w : World} {b c : Nat} {hf : Int → Bool} (h : MI w b c hf) (k : Int) (h0 : 0 ≤ k) (h1 : k ≤ 1000000) :
    (Instr.lookup 139 (.map (some b)) (.int .i64 k) true).run Tryd.prog w = .ok (.tuple #[.bool (hf k), .bool true]) w ∨ ∃ x, (Instr.lookup 139 (.map (some b)) (.int .i64 k) true).run Tryd.prog w = .ok (.tuple #[.bool x, .bool false]) w := by
  obtain ⟨D, _, ho, ha⟩ := h
  obtain ⟨v, ps, hrun, hv⟩ := ho.look_ok keyLaw Tryd.underlying139 (zero4 w) (plainElem_bool Tryd.underlying4 false) (keyOf_int_mk Tryd.underlying3 (wf_i64 h0 h1))
  obtain ⟨x, rfl, hx⟩ := elem_bool hv
  cases hh : Maps.has D (.int .i64 k) with
  | false => rw [hh] at hrun; exact .inr ⟨x, hrun⟩
  | true =>
    rw [hh] at hrun
    have := ha k hh
    rw [hx] at this
    injection this with this
    injection this with this
    subst this
    exact .inl hrun
theorem MI.put {w : World} {b c : Nat} {hf : Int → Bool} (h : MI w b c hf) (k : Int) (h0 : 0 ≤ k) (h1 : k ≤ 1000000) (hc : c < 100000000) :
    ∃ w', (Instr.mapUpdate 139 (.map (some b)) (.int .i64 k) (.bool (hf k))).run Tryd.prog w = .ok () w' ∧ MI w' b (c + 1) hf ∧ w.grownBy w' (some b) := by
  obtain ⟨D, hm, ho, ha⟩ := h
  obtain ⟨w', hr, h1', hg⟩ := ho.update keyLaw Tryd.underlying139 (Nat.lt_of_lt_of_le hc (by simp [maxLen])) (keyOf_int_mk Tryd.underlying3 (wf_i64 h0 h1)) (plainElem_bool Tryd.underlying4 (hf k))
  have hkl : WideAt.IsKeyLit (.int .i64 k) := trivial
  refine ⟨w', hr, ⟨_, hm.put _ _, h1', fun j hj => ?_⟩, hg⟩
  by_cases hjk : j = k
  · subst hjk
    exact Maps.atKey_put_same hm hkl _ _
  · have hne : (Lit.int .i64 j) ≠ .int .i64 k := by intro e; injection e with _ e; exact hjk e
    rw [Maps.atKey_put_other hne]
    rw [Maps.has_put_other hne] at hj
    exact ha j hj
def LookPost (w0 : World) (n0 : Nat) (w : World) (bx bh b cnt : Nat) (hf : Int → Bool) (x : Bool) (e : Ending) (w' : World) : Prop :=
  e = .returned (.bool x) ∧ MI w' b (cnt + 1) hf ∧ Below n0 w0 w' ∧ w'.cell? ⟨bx, 0, none⟩ = w.cell? ⟨bx, 0, none⟩ ∧ w'.cell? ⟨bh, 0, none⟩ = w.cell? ⟨bh, 0, none⟩ ∧ w.heap.size ≤ w'.heap.size

set_option maxHeartbeats 1000000 in
theorem look70 (bx bh b cnt n0 : Nat) (p q r : Value) (hf : Int → Bool) (k : Int) (w0 w : World) (hk : 0 ≤ k ∧ k ≤ 1000000) (hb0 : Below n0 w0 w) (hn0 : n0 ≤ w0.heap.size) (hx : bx < w.heap.size) (hh : bh < w.heap.size) (hbx : bx ≠ b) (hbh : bh ≠ b) (hbn : n0 ≤ b)
    (c0 : w.cell? ⟨bx, 0, none⟩ = some (.map (some b))) (c1 : w.cell? ⟨bh, 0, none⟩ = some (.func (.func 70) #[] #[p, q, r])) (hM : MI w b cnt hf) (hcnt : cnt < 10000000)
    (hc : ∀ (w2 : World) (j : Int), Below n0 w0 w2 → 0 ≤ j → j ≤ 1000000 → Calls Tryd.prog 70 #[.int .i64 j, p, q, r] w2 fun e w3 => e = .returned (.bool (hf j)) ∧ Below w2.heap.size w2 w3) :
    Calls Tryd.prog 95 #[.int .i64 k, .pointer (some ⟨bx, 0, none⟩), .pointer (some ⟨bh, 0, none⟩)] w (LookPost w0 n0 w bx bh b cnt hf (hf k)) := by
  obtain ⟨hk0, hk1⟩ := hk
  have HC := Lib.hid hc; clear hc
  have HM := Lib.hid hM
  rcases hM.look k hk0 hk1 with hl | ⟨x, hl⟩
  · go_enter Tryd.func95, Tryd.ntmps95
    go_wp2
    go_ret
    exact ⟨rfl, HM.out.more (by omega), hb0, rfl, rfl, Nat.le_refl _⟩
  · go_enter Tryd.func95, Tryd.ntmps95
    go_wp2_with fail
    refine (HC.out w k hb0 hk0 hk1).mono ?_
    rintro e w2 ⟨rfl, hb⟩
    have B2 := Lib.hid hb
    have c0' := ((bcell hb).1 _ 0 hx).trans c0
    have hM2 := HM.out.next hb
    clear hb hl
    obtain ⟨w3, hr, hM3, hg⟩ := hM2.put k hk0 hk1 (by omega)
    have HM3 := Lib.hid hM3; have HG := Lib.hid hg
    clear hM3 hg hM2
    go_wp2
    go_ret
    have hs := B2.out.size
    exact ⟨rfl, HM3.out, (hb0.trans (B2.out.mono (Nat.le_trans hn0 hb0.size))).grown HG.out (by have := hb0.size; omega) (fun j hj => by injection hj; omega),
      (World.cell?_of_block (HG.out.block bx (by omega) (by intro e; injection e; omega))).trans (((bcell B2.out).1 _ 0 hx)), (World.cell?_of_block (HG.out.block bh (by omega) (by intro e; injection e; omega))).trans ((bcell B2.out).1 _ 0 hh), Nat.le_trans hs HG.out.size⟩

set_option maxHeartbeats 1000000 in
theorem look72 (bx bh b cnt n0 : Nat) (p q r : Value) (hf : Int → Bool) (k : Int) (w0 w : World) (hk : 0 ≤ k ∧ k ≤ 1000000) (hb0 : Below n0 w0 w) (hn0 : n0 ≤ w0.heap.size) (hx : bx < w.heap.size) (hh : bh < w.heap.size) (hbx : bx ≠ b) (hbh : bh ≠ b) (hbn : n0 ≤ b)
    (c0 : w.cell? ⟨bx, 0, none⟩ = some (.map (some b))) (c1 : w.cell? ⟨bh, 0, none⟩ = some (.func (.func 72) #[] #[p, q, r])) (hM : MI w b cnt hf) (hcnt : cnt < 10000000)
    (hc : ∀ (w2 : World) (j : Int), Below n0 w0 w2 → 0 ≤ j → j ≤ 1000000 → Calls Tryd.prog 72 #[.int .i64 j, p, q, r] w2 fun e w3 => e = .returned (.bool (hf j)) ∧ Below w2.heap.size w2 w3) :
    Calls Tryd.prog 95 #[.int .i64 k, .pointer (some ⟨bx, 0, none⟩), .pointer (some ⟨bh, 0, none⟩)] w (LookPost w0 n0 w bx bh b cnt hf (hf k)) := by
  obtain ⟨hk0, hk1⟩ := hk
  have HC := Lib.hid hc; clear hc
  have HM := Lib.hid hM
  rcases hM.look k hk0 hk1 with hl | ⟨x, hl⟩
  · go_enter Tryd.func95, Tryd.ntmps95
    go_wp2
    go_ret
    exact ⟨rfl, HM.out.more (by omega), hb0, rfl, rfl, Nat.le_refl _⟩
  · go_enter Tryd.func95, Tryd.ntmps95
    go_wp2_with fail
    refine (HC.out w k hb0 hk0 hk1).mono ?_
    rintro e w2 ⟨rfl, hb⟩
    have B2 := Lib.hid hb
    have c0' := ((bcell hb).1 _ 0 hx).trans c0
    have hM2 := HM.out.next hb
    clear hb hl
    obtain ⟨w3, hr, hM3, hg⟩ := hM2.put k hk0 hk1 (by omega)
    have HM3 := Lib.hid hM3; have HG := Lib.hid hg
    clear hM3 hg hM2
    go_wp2
    go_ret
    have hs := B2.out.size
    exact ⟨rfl, HM3.out, (hb0.trans (B2.out.mono (Nat.le_trans hn0 hb0.size))).grown HG.out (by have := hb0.size; omega) (fun j hj => by injection hj; omega),
      (World.cell?_of_block (HG.out.block bx (by omega) (by intro e; injection e; omega))).trans (((bcell B2.out).1 _ 0 hx)), (World.cell?_of_block (HG.out.block bh (by omega) (by intro e; injection e; omega))).trans ((bcell B2.out).1 _ 0 hh), Nat.le_trans hs HG.out.size⟩
end Go.Proofs.YtccekbdhffccdaaDoor

namespace Go.Proofs.YtccekbdhffccdaaDoor
open Go.RowKit Go.Shelf Go.Maps

def bsF (hf : Int → Bool) : Nat → Int → Int → Int
  | 0, l, _ => l
  | f + 1, l, h => if l < h then if hf ((l + h) / 2) then bsF hf f l ((l + h) / 2) else bsF hf f ((l + h) / 2 + 1) h else l
def leastF (hf : Int → Bool) : Int := bsF hf 1000000 0 1000000
theorem bsF_same (hf : Int → Bool) (f : Nat) (l : Int) : bsF hf f l l = l := by cases f <;> simp [bsF]
theorem bsF_step (hf : Int → Bool) (f : Nat) {l h : Int} (hlt : l < h) : bsF hf (f + 1) l h = if hf ((l + h) / 2) then bsF hf f l ((l + h) / 2) else bsF hf f ((l + h) / 2 + 1) h := by
  rw [bsF, if_pos hlt]
structure LI (w : World) (hf : Int → Bool) (wr : World) (fv : Value) (cnt : Nat) : Prop where
  map : MI wr (w.heap.size + 1) cnt hf
  bel : Below w.heap.size w wr
  c0 : wr.cell? ⟨w.heap.size + 1 + 1, 0, none⟩ = some (.map (some (w.heap.size + 1)))
  c1 : wr.cell? ⟨w.heap.size, 0, none⟩ = some fv
  sz : w.heap.size + 1 + 1 < wr.heap.size

set_option maxRecDepth 100000 in
set_option maxHeartbeats 2000000 in
theorem least70 (p q r : Value) (hf : Int → Bool) (w : World)
    (hc : ∀ (w2 : World) (j : Int), Below w.heap.size w w2 → 0 ≤ j → j ≤ 1000000 → Calls Tryd.prog 70 #[.int .i64 j, p, q, r] w2 fun e w3 => e = .returned (.bool (hf j)) ∧ Below w2.heap.size w2 w3) :
    Calls Tryd.prog 69 #[.int .i64 1000000, .func (.func 70) #[] #[p, q, r]] w fun e w' => e = .returned (.tuple #[.int .i64 (if hf (leastF hf) then leastF hf else 0), .bool (hf (leastF hf))]) ∧ Below w.heap.size w w' := by
  have HC := Lib.hid hc; clear hc
  have hst : LI w hf (((w.alloc (.cells #[.func (.func 70) #[] #[p, q, r]] 119)).alloc (.map #[] 0)).alloc (.cells #[.map (some (w.heap.size + 1))] 139)) (.func (.func 70) #[] #[p, q, r]) 0 := by
    have z0 := heap_alloc_new w (.cells #[.func (.func 70) #[] #[p, q, r]] 119)
    have z2 := heap_alloc_new ((w.alloc (.cells #[.func (.func 70) #[] #[p, q, r]] 119)).alloc (.map #[] 0)) (.cells #[.map (some (w.heap.size + 1))] 139)
    simp only [World.size_alloc] at z2
    have zm := World.ownsMap_made (H := Unit) (w.alloc (.cells #[.func (.func 70) #[] #[p, q, r]] 119)) Tryd.prog 3 (plainElem Tryd.prog 4)
    simp only [World.size_alloc] at zm
    refine ⟨⟨_, ⟨[], rfl⟩, zm.kept (row := none) (World.grownBy_alloc _ _ none) (by simp), fun k hk => by simp [Maps.has] at hk⟩, (((Below.refl _ _).alloc (Nat.le_refl _) _).alloc (by simp) _).alloc (by simp; omega) _, ?_, ?_, by simp⟩
    · exact cell_of_row _ _ 0 _ 139 (0, 0) z2
    · exact cell_of_row _ w.heap.size 0 _ 119 (0, 0) ((Below.heap_alloc _ _ _ (by simp; omega)).trans ((Below.heap_alloc _ _ _ (by simp)).trans z0))
  have HS := Lib.hid hst; clear hst
  have hmm := @run_makeMap Tryd.prog
  go_enter Tryd.func69, Tryd.ntmps69
  go_wp2
  go_step3
  go_wp2
  go_step3
  go_wp2
  clear hmm
  go_loopw [8, 9] (fun lo hi wr => ∃ (l h : Int) (cnt f : Nat), lo = .int .i64 l ∧ hi = .int .i64 h ∧ 0 ≤ l ∧ l ≤ h ∧ h ≤ 1000000 ∧ (cnt : Int) + (h - l) ≤ 1000000 ∧ h - l ≤ f ∧ bsF hf f l h = leastF hf ∧ LI w hf wr (.func (.func 70) #[] #[p, q, r]) cnt)
    (fun lo hi _ => (intOf hi - intOf lo).toNat)
  case atStart => exact ⟨0, 1000000, 0, 1000000, rfl, rfl, by omega, by omega, by omega, by omega, by omega, rfl, HS.out⟩
  case round =>
    obtain ⟨l, h, cnt, f, rfl, rfl, h0, h1, h2, h3, h4, h5, hI⟩ := hrel
    have H5 := Lib.hid h5; clear h5
    have HI := Lib.hid hI
    obtain ⟨hM, hB, k0, k1, hsz⟩ := hI
    have hsw := hB.size
    by_cases heq : l = h
    · have hb : (l == h) = true := beq_iff_eq.2 heq
      have HL := look70 (w.heap.size + 1 + 1) w.heap.size (w.heap.size + 1) cnt w.heap.size p q r hf l w _ ⟨h0, by omega⟩ HI.out.bel (Nat.le_refl _) (by omega) (by omega) (by omega) (by omega) (by omega) k0 k1 hM (by omega) HC.out
      have HK := Lib.hid HL
      have HE := Lib.hid heq
      have hR : leastF hf = l := by rw [← H5.out, ← heq]; exact bsF_same hf f l
      have HR := Lib.hid hR
      clear HL heq hM hB k0 k1 hR
      cases hfl : hf l with
      | false =>
        rw [hfl] at HK
        have HF := Lib.hid hfl; clear hfl
        go_wp2_with fail
        refine HK.out.mono ?_
        rintro e w2 ⟨rfl, _, hb2, _⟩
        have B2 := Lib.hid hb2; clear hb2
        go_wp2_with fail
        (try rw [Exit.noGoto_ret])
        go_ret2
        exact ⟨by rw [HR.out, HF.out]; rfl, B2.out⟩
      | true =>
        rw [hfl] at HK
        have HF := Lib.hid hfl; clear hfl
        go_wp2_with fail
        refine HK.out.mono ?_
        rintro e w2 ⟨rfl, _, hb2, _⟩
        have B2 := Lib.hid hb2; clear hb2
        go_wp2_with fail
        (try rw [Exit.noGoto_ret])
        go_ret2
        exact ⟨by rw [HR.out, HF.out]; rfl, B2.out⟩
    · have hb : (l == h) = false := beq_eq_false_iff_ne.2 heq
      have hlt : l < h := by omega
      have HL := look70 (w.heap.size + 1 + 1) w.heap.size (w.heap.size + 1) cnt w.heap.size p q r hf ((l + h) / 2) w _ ⟨by omega, by omega⟩ HI.out.bel (Nat.le_refl _) (by omega) (by omega) (by omega) (by omega) (by omega) k0 k1 hM (by omega) HC.out
      have HK := Lib.hid HL
      obtain ⟨f', rfl⟩ : ∃ f', f = f' + 1 := ⟨f - 1, by omega⟩
      have hstep := bsF_step hf f' hlt
      have HT := Lib.hid hstep
      clear HL heq hM hB hstep
      have K0 := Lib.hid k0; have K1 := Lib.hid k1
      clear k0 k1
      cases hfl : hf ((l + h) / 2) with
      | false =>
        rw [hfl] at HK HT
        clear hfl
        go_wp2_with fail
        refine HK.out.mono ?_
        rintro e w2 ⟨rfl, hM2, hb2, q0, q1, hs2⟩
        have HI2 : Hid (LI w hf w2 (.func (.func 70) #[] #[p, q, r]) (cnt + 1)) := Lib.hid ⟨hM2, hb2, q0.trans K0.out, q1.trans K1.out, by omega⟩
        clear hM2 hb2 q0 q1 hs2
        go_wp2_with fail
        go_roundw
        case rel => exact ⟨(l + h) / 2 + 1, h, cnt + 1, f', rfl, rfl, by omega, by omega, by omega, by omega, by omega, by rw [← H5.out, HT.out]; rfl, HI2.out⟩
        case measure => simp [intOf]; omega
      | true =>
        rw [hfl] at HK HT
        clear hfl
        go_wp2_with fail
        refine HK.out.mono ?_
        rintro e w2 ⟨rfl, hM2, hb2, q0, q1, hs2⟩
        have HI2 : Hid (LI w hf w2 (.func (.func 70) #[] #[p, q, r]) (cnt + 1)) := Lib.hid ⟨hM2, hb2, q0.trans K0.out, q1.trans K1.out, by omega⟩
        clear hM2 hb2 q0 q1 hs2
        go_wp2_with fail
        go_roundw
        case rel => exact ⟨l, (l + h) / 2, cnt + 1, f', rfl, rfl, by omega, by omega, by omega, by omega, by omega, by rw [← H5.out, HT.out]; rfl, HI2.out⟩
        case measure => simp [intOf]; omega

set_option maxRecDepth 100000 in
set_option maxHeartbeats 2000000 in
theorem least72 (p q r : Value) (hf : Int → Bool) (w : World)
    (hc : ∀ (w2 : World) (j : Int), Below w.heap.size w w2 → 0 ≤ j → j ≤ 1000000 → Calls Tryd.prog 72 #[.int .i64 j, p, q, r] w2 fun e w3 => e = .returned (.bool (hf j)) ∧ Below w2.heap.size w2 w3) :
    Calls Tryd.prog 69 #[.int .i64 1000000, .func (.func 72) #[] #[p, q, r]] w fun e w' => e = .returned (.tuple #[.int .i64 (if hf (leastF hf) then leastF hf else 0), .bool (hf (leastF hf))]) ∧ Below w.heap.size w w' := by
  have HC := Lib.hid hc; clear hc
  have hst : LI w hf (((w.alloc (.cells #[.func (.func 72) #[] #[p, q, r]] 119)).alloc (.map #[] 0)).alloc (.cells #[.map (some (w.heap.size + 1))] 139)) (.func (.func 72) #[] #[p, q, r]) 0 := by
    have z0 := heap_alloc_new w (.cells #[.func (.func 72) #[] #[p, q, r]] 119)
    have z2 := heap_alloc_new ((w.alloc (.cells #[.func (.func 72) #[] #[p, q, r]] 119)).alloc (.map #[] 0)) (.cells #[.map (some (w.heap.size + 1))] 139)
    simp only [World.size_alloc] at z2
    have zm := World.ownsMap_made (H := Unit) (w.alloc (.cells #[.func (.func 72) #[] #[p, q, r]] 119)) Tryd.prog 3 (plainElem Tryd.prog 4)
    simp only [World.size_alloc] at zm
    refine ⟨⟨_, ⟨[], rfl⟩, zm.kept (row := none) (World.grownBy_alloc _ _ none) (by simp), fun k hk => by simp [Maps.has] at hk⟩, (((Below.refl _ _).alloc (Nat.le_refl _) _).alloc (by simp) _).alloc (by simp; omega) _, ?_, ?_, by simp⟩
    · exact cell_of_row _ _ 0 _ 139 (0, 0) z2
    · exact cell_of_row _ w.heap.size 0 _ 119 (0, 0) ((Below.heap_alloc _ _ _ (by simp; omega)).trans ((Below.heap_alloc _ _ _ (by simp)).trans z0))
  have HS := Lib.hid hst; clear hst
  have hmm := @run_makeMap Tryd.prog
  go_enter Tryd.func69, Tryd.ntmps69
  go_wp2
  go_step3
  go_wp2
  go_step3
  go_wp2
  clear hmm
  go_loopw [8, 9] (fun lo hi wr => ∃ (l h : Int) (cnt f : Nat), lo = .int .i64 l ∧ hi = .int .i64 h ∧ 0 ≤ l ∧ l ≤ h ∧ h ≤ 1000000 ∧ (cnt : Int) + (h - l) ≤ 1000000 ∧ h - l ≤ f ∧ bsF hf f l h = leastF hf ∧ LI w hf wr (.func (.func 72) #[] #[p, q, r]) cnt)
    (fun lo hi _ => (intOf hi - intOf lo).toNat)
  case atStart => exact ⟨0, 1000000, 0, 1000000, rfl, rfl, by omega, by omega, by omega, by omega, by omega, rfl, HS.out⟩
  case round =>
    obtain ⟨l, h, cnt, f, rfl, rfl, h0, h1, h2, h3, h4, h5, hI⟩ := hrel
    have H5 := Lib.hid h5; clear h5
    have HI := Lib.hid hI
    obtain ⟨hM, hB, k0, k1, hsz⟩ := hI
    have hsw := hB.size
    by_cases heq : l = h
    · have hb : (l == h) = true := beq_iff_eq.2 heq
      have HL := look72 (w.heap.size + 1 + 1) w.heap.size (w.heap.size + 1) cnt w.heap.size p q r hf l w _ ⟨h0, by omega⟩ HI.out.bel (Nat.le_refl _) (by omega) (by omega) (by omega) (by omega) (by omega) k0 k1 hM (by omega) HC.out
      have HK := Lib.hid HL
      have HE := Lib.hid heq
      have hR : leastF hf = l := by rw [← H5.out, ← heq]; exact bsF_same hf f l
      have HR := Lib.hid hR
      clear HL heq hM hB k0 k1 hR
      cases hfl : hf l with
      | false =>
        rw [hfl] at HK
        have HF := Lib.hid hfl; clear hfl
        go_wp2_with fail
        refine HK.out.mono ?_
        rintro e w2 ⟨rfl, _, hb2, _⟩
        have B2 := Lib.hid hb2; clear hb2
        go_wp2_with fail
        (try rw [Exit.noGoto_ret])
        go_ret2
        exact ⟨by rw [HR.out, HF.out]; rfl, B2.out⟩
      | true =>
        rw [hfl] at HK
        have HF := Lib.hid hfl; clear hfl
        go_wp2_with fail
        refine HK.out.mono ?_
        rintro e w2 ⟨rfl, _, hb2, _⟩
        have B2 := Lib.hid hb2; clear hb2
        go_wp2_with fail
        (try rw [Exit.noGoto_ret])
        go_ret2
        exact ⟨by rw [HR.out, HF.out]; rfl, B2.out⟩
    · have hb : (l == h) = false := beq_eq_false_iff_ne.2 heq
      have hlt : l < h := by omega
      have HL := look72 (w.heap.size + 1 + 1) w.heap.size (w.heap.size + 1) cnt w.heap.size p q r hf ((l + h) / 2) w _ ⟨by omega, by omega⟩ HI.out.bel (Nat.le_refl _) (by omega) (by omega) (by omega) (by omega) (by omega) k0 k1 hM (by omega) HC.out
      have HK := Lib.hid HL
      obtain ⟨f', rfl⟩ : ∃ f', f = f' + 1 := ⟨f - 1, by omega⟩
      have hstep := bsF_step hf f' hlt
      have HT := Lib.hid hstep
      clear HL heq hM hB hstep
      have K0 := Lib.hid k0; have K1 := Lib.hid k1
      clear k0 k1
      cases hfl : hf ((l + h) / 2) with
      | false =>
        rw [hfl] at HK HT
        clear hfl
        go_wp2_with fail
        refine HK.out.mono ?_
        rintro e w2 ⟨rfl, hM2, hb2, q0, q1, hs2⟩
        have HI2 : Hid (LI w hf w2 (.func (.func 72) #[] #[p, q, r]) (cnt + 1)) := Lib.hid ⟨hM2, hb2, q0.trans K0.out, q1.trans K1.out, by omega⟩
        clear hM2 hb2 q0 q1 hs2
        go_wp2_with fail
        go_roundw
        case rel => exact ⟨(l + h) / 2 + 1, h, cnt + 1, f', rfl, rfl, by omega, by omega, by omega, by omega, by omega, by rw [← H5.out, HT.out]; rfl, HI2.out⟩
        case measure => simp [intOf]; omega
      | true =>
        rw [hfl] at HK HT
        clear hfl
        go_wp2_with fail
        refine HK.out.mono ?_
        rintro e w2 ⟨rfl, hM2, hb2, q0, q1, hs2⟩
        have HI2 : Hid (LI w hf w2 (.func (.func 72) #[] #[p, q, r]) (cnt + 1)) := Lib.hid ⟨hM2, hb2, q0.trans K0.out, q1.trans K1.out, by omega⟩
        clear hM2 hb2 q0 q1 hs2
        go_wp2_with fail
        go_roundw
        case rel => exact ⟨l, (l + h) / 2, cnt + 1, f', rfl, rfl, by omega, by omega, by omega, by omega, by omega, by rw [← H5.out, HT.out]; rfl, HI2.out⟩
        case measure => simp [intOf]; omega
end Go.Proofs.YtccekbdhffccdaaDoor
