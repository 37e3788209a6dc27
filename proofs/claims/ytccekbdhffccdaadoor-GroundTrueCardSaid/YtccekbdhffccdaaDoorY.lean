/- The least number for which something holds: what was looked at is kept in a map. -/
import Derived.Test.YtccekbdhffccdaaDoorX
import Derived.Maps.Own
import Derived.Maps.OwnSet
import Derived.Maps.Views
namespace Go.Proofs.YtccekbdhffccdaaDoor
open Go.RowKit Go.Shelf Go.Maps

theorem keyLaw : Keyed Tryd.prog 3 := int_keyed Tryd.underlying3
theorem zero4 (w : World) : (zeroValue 4).run Tryd.prog w = .ok (.bool false) w := by kernel_rfl
theorem elem_bool {v : Value} {d : DataW Unit} {ps : List MemPlace} (h : plainElem (H := Unit) Tryd.prog 4 v = some (d, ps)) : ∃ x, v = .bool x ∧ d = .lit (.bool x) := by
  have he := Tryd.underlying4
  cases v <;> simp [plainElem, he] at h
  exact ⟨_, rfl, h.1.symm⟩
theorem wf_i64 {k : Int} (h0 : 0 ≤ k) (h1 : k ≤ 1000000) : (Lit.int .i64 k).wf = true := WalkArith.wf_i64 (by omega)

/-- A map of the call's own that says of each number in it whether something holds. -/
def MI (w : World) (b cnt : Nat) (hf : Int → Bool) : Prop :=
  ∃ D : DataW Unit, Maps.IsMap D ∧ w.ownsMap Tryd.prog 3 (plainElem Tryd.prog 4) b cnt D ∧ ∀ k : Int, Maps.has D (.int .i64 k) = true → D.atKey (.int .i64 k) (.lit (.bool false)) = .lit (.bool (hf k))
theorem MI.more {w : World} {b c c' : Nat} {hf : Int → Bool} (h : MI w b c hf) (hc : c ≤ c') : MI w b c' hf := by
  obtain ⟨D, h0, h1, h2⟩ := h
  exact ⟨D, h0, h1.mono hc, h2⟩
theorem MI.next {w w' : World} {b c : Nat} {hf : Int → Bool} (h : MI w b c hf) (hb : Below w.heap.size w w') : MI w' b c hf := by
  obtain ⟨D, h0, h1, h2⟩ := h
  exact ⟨D, h0, h1.kept (row := none) ⟨hb.os, hb.tape, hb.output, hb.size, fun j hj _ => hb.block j hj⟩ (by simp), h2⟩
theorem MI.look {w : World} {b c : Nat} {hf : Int → Bool} (h : MI w b c hf) (k : Int) (h0 : 0 ≤ k) (h1 : k ≤ 1000000) :
    (Instr.lookup 139 (.map (some b)) (.int .i64 k) true).run Tryd.prog w = .ok (.tuple #[.bool (hf k), .bool true]) w ∨ ∃ x, (Instr.lookup 139 (.map (some b)) (.int .i64 k) true).run Tryd.prog w = .ok (.tuple #[.bool x, .bool false]) w := by
  obtain ⟨D, _, ho, ha⟩ := h
  obtain ⟨v, ps, hrun, hv⟩ := ho.look_ok keyLaw Tryd.underlying139 (zero4 w) (plainElem_bool Tryd.underlying4 false) (keyOf_int_mk Tryd.underlying3 (wf_i64 h0 h1))
  obtain ⟨x, rfl, hx⟩ := elem_bool hv
  cases hh : Maps.has D (.int .i64 k) with
  | false => rw [hh] at hrun; exact .inr ⟨x, hrun⟩
  | true =>
    rw [hh] at hrun
    have := ha k hh
    rw [hx] at this
    injection this with this
    injection this with this
    subst this
    exact .inl hrun
theorem MI.put {w : World} {b c : Nat} {hf : Int → Bool} (h : MI w b c hf) (k : Int) (h0 : 0 ≤ k) (h1 : k ≤ 1000000) (hc : c < 100000000) :
    ∃ w', (Instr.mapUpdate 139 (.map (some b)) (.int .i64 k) (.bool (hf k))).run Tryd.prog w = .ok () w' ∧ MI w' b (c + 1) hf ∧ w.grownBy w' (some b) := by
  obtain ⟨D, hm, ho, ha⟩ := h
  obtain ⟨w', hr, h1', hg⟩ := ho.update keyLaw Tryd.underlying139 (Nat.lt_of_lt_of_le hc (by simp [maxLen])) (keyOf_int_mk Tryd.underlying3 (wf_i64 h0 h1)) (plainElem_bool Tryd.underlying4 (hf k))
  have hkl : WideAt.IsKeyLit (.int .i64 k) := trivial
  refine ⟨w', hr, ⟨_, hm.put _ _, h1', fun j hj => ?_⟩, hg⟩
  by_cases hjk : j = k
  · subst hjk
    exact Maps.atKey_put_same hm hkl _ _
  · have hne : (Lit.int .i64 j) ≠ .int .i64 k := by intro e; injection e with _ e; exact hjk e
    rw [Maps.atKey_put_other hne]
    rw [Maps.has_put_other hne] at hj
    exact ha j hj
def LookPost (w0 : World) (n0 : Nat) (w : World) (bx bh b cnt : Nat) (hf : Int → Bool) (x : Bool) (e : Ending) (w' : World) : Prop :=
  e = .returned (.bool x) ∧ MI w' b (cnt + 1) hf ∧ Below n0 w0 w' ∧ w'.cell? ⟨bx, 0, none⟩ = w.cell? ⟨bx, 0, none⟩ ∧ w'.cell? ⟨bh, 0, none⟩ = w.cell? ⟨bh, 0, none⟩ ∧ w.heap.size ≤ w'.heap.size

set_option maxHeartbeats 1000000 in
theorem look70 (bx bh b cnt n0 : Nat) (p q r : Value) (hf : Int → Bool) (k : Int) (w0 w : World) (hk : 0 ≤ k ∧ k ≤ 1000000) (hb0 : Below n0 w0 w) (hn0 : n0 ≤ w0.heap.size) (hx : bx < w.heap.size) (hh : bh < w.heap.size) (hbx : bx ≠ b) (hbh : bh ≠ b) (hbn : n0 ≤ b)
    (c0 : w.cell? ⟨bx, 0, none⟩ = some (.map (some b))) (c1 : w.cell? ⟨bh, 0, none⟩ = some (.func (.func 70) #[] #[p, q, r])) (hM : MI w b cnt hf) (hcnt : cnt < 10000000)
    (hc : ∀ (w2 : World) (j : Int), Below n0 w0 w2 → 0 ≤ j → j ≤ 1000000 → Calls Tryd.prog 70 #[.int .i64 j, p, q, r] w2 fun e w3 => e = .returned (.bool (hf j)) ∧ Below w2.heap.size w2 w3) :
    Calls Tryd.prog 95 #[.int .i64 k, .pointer (some ⟨bx, 0, none⟩), .pointer (some ⟨bh, 0, none⟩)] w (LookPost w0 n0 w bx bh b cnt hf (hf k)) := by
  obtain ⟨hk0, hk1⟩ := hk
  have HC := Lib.hid hc; clear hc
  have HM := Lib.hid hM
  rcases hM.look k hk0 hk1 with hl | ⟨x, hl⟩
  · go_enter Tryd.func95, Tryd.ntmps95
    go_wp2
    go_ret
    exact ⟨rfl, HM.out.more (by omega), hb0, rfl, rfl, Nat.le_refl _⟩
  · go_enter Tryd.func95, Tryd.ntmps95
    go_wp2_with fail
    refine (HC.out w k hb0 hk0 hk1).mono ?_
    rintro e w2 ⟨rfl, hb⟩
    have B2 := Lib.hid hb
    have c0' := ((bcell hb).1 _ 0 hx).trans c0
    have hM2 := HM.out.next hb
    clear hb hl
    obtain ⟨w3, hr, hM3, hg⟩ := hM2.put k hk0 hk1 (by omega)
    have HM3 := Lib.hid hM3; have HG := Lib.hid hg
    clear hM3 hg hM2
    go_wp2
    go_ret
    have hs := B2.out.size
    exact ⟨rfl, HM3.out, (hb0.trans (B2.out.mono (Nat.le_trans hn0 hb0.size))).grown HG.out (by have := hb0.size; omega) (fun j hj => by injection hj; omega),
      (World.cell?_of_block (HG.out.block bx (by omega) (by intro e; injection e; omega))).trans (((bcell B2.out).1 _ 0 hx)), (World.cell?_of_block (HG.out.block bh (by omega) (by intro e; injection e; omega))).trans ((bcell B2.out).1 _ 0 hh), Nat.le_trans hs HG.out.size⟩

set_option maxHeartbeats 1000000 in
theorem look72 (bx bh b cnt n0 : Nat) (p q r : Value) (hf : Int → Bool) (k : Int) (w0 w : World) (hk : 0 ≤ k ∧ k ≤ 1000000) (hb0 : Below n0 w0 w) (hn0 : n0 ≤ w0.heap.size) (hx : bx < w.heap.size) (hh : bh < w.heap.size) (hbx : bx ≠ b) (hbh : bh ≠ b) (hbn : n0 ≤ b)
    (c0 : w.cell? ⟨bx, 0, none⟩ = some (.map (some b))) (c1 : w.cell? ⟨bh, 0, none⟩ = some (.func (.func 72) #[] #[p, q, r])) (hM : MI w b cnt hf) (hcnt : cnt < 10000000)
    (hc : ∀ (w2 : World) (j : Int), Below n0 w0 w2 → 0 ≤ j → j ≤ 1000000 → Calls Tryd.prog 72 #[.int .i64 j, p, q, r] w2 fun e w3 => e = .returned (.bool (hf j)) ∧ Below w2.heap.size w2 w3) :
    Calls Tryd.prog 95 #[.int .i64 k, .pointer (some ⟨bx, 0, none⟩), .pointer (some ⟨bh, 0, none⟩)] w (LookPost w0 n0 w bx bh b cnt hf (hf k)) := by
  obtain ⟨hk0, hk1⟩ := hk
  have HC := Lib.hid hc; clear hc
  have HM := Lib.hid hM
  rcases hM.look k hk0 hk1 with hl | ⟨x, hl⟩
  · go_enter Tryd.func95, Tryd.ntmps95
    go_wp2
    go_ret
    exact ⟨rfl, HM.out.more (by omega), hb0, rfl, rfl, Nat.le_refl _⟩
  · go_enter Tryd.func95, Tryd.ntmps95
    go_wp2_with fail
    refine (HC.out w k hb0 hk0 hk1).mono ?_
    rintro e w2 ⟨rfl, hb⟩
    have B2 := Lib.hid hb
    have c0' := ((bcell hb).1 _ 0 hx).trans c0
    have hM2 := HM.out.next hb
    clear hb hl
    obtain ⟨w3, hr, hM3, hg⟩ := hM2.put k hk0 hk1 (by omega)
    have HM3 := Lib.hid hM3; have HG := Lib.hid hg
    clear hM3 hg hM2
    go_wp2
    go_ret
    have hs := B2.out.size
    exact ⟨rfl, HM3.out, (hb0.trans (B2.out.mono (Nat.le_trans hn0 hb0.size))).grown HG.out (by have := hb0.size; omega) (fun j hj => by injection hj; omega),
      (World.cell?_of_block (HG.out.block bx (by omega) (by intro e; injection e; omega))).trans (((bcell B2.out).1 _ 0 hx)), (World.cell?_of_block (HG.out.block bh (by omega) (by intro e; injection e; omega))).trans ((bcell B2.out).1 _ 0 hh), Nat.le_trans hs HG.out.size⟩
end Go.Proofs.YtccekbdhffccdaaDoor
