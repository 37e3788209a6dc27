/- The last line of a book, as the program reads it. -/
import Derived.Test.YtdlaphlpimlgdaaGreatDoorEN
namespace Go.Proofs.YtdlaphlpimlgdaaGreatDoor
open Go.RowKit Go.Shelf

theorem rd_check {w0 : World} {R : Nat} {Y P : Int} {LL : List (List Int)} {b : Bool} {w : World} (h : RdI w0 R Y P LL b w) (hl : LL.length ≤ 10000) (ht : Tab w) : ∃ AV cV rows, RdB w R Y P (.slice AV LL.length cV) b ∧ GrdI intR 3 34 w0 (R + 1) LL (.slice AV LL.length cV) rows w ∧
    ∀ u : KeptW w, Calls Tryz.prog 99 #[.slice AV LL.length cV] u.w fun e w' => e = .returned (.string ⟨(ckT LL).toArray⟩) ∧ Below u.w.heap.size u.w w' := by
  obtain ⟨AV, cV, rows, hR, hG, hLv, _⟩ := h.form
  refine ⟨AV, cV, rows, hR, hG, fun u => (checkOf_any AV LL.length cV LL u.w rfl hl (hLv.up u.h) (fun row hr => ⟨(h.rl row hr).1, fun x hx => ?_⟩) (ht.next u.h)).mono ?_⟩
  · have := (h.rl row hr).2 x hx
    unfold OkL at this
    omega
  · rintro e w' ⟨rfl, _, hb⟩
    exact ⟨rfl, hb⟩
def EndP (Y : Int) (LL : List (List Int)) (ws : List (List UInt8)) : Prop := (LL.length : Int) = Y ∧ ws = [ckT LL]
set_option maxRecDepth 100000 in
set_option maxHeartbeats 8000000 in
theorem end_any {w0 : World} {R : Nat} (Y P : Int) (LL : List (List Int)) (A : Option Addr) (n c : Nat) (ws : List (List UInt8)) (w : World) (hI : RdI w0 R Y P LL false w) (hw : StrsAt w w.heap.size A ws) (hn : ws.length = n) (hL2 : LL.length ≤ 10000)
    (ht : Tab w) :
    Calls Tryz.prog 125 #[.pointer (some ⟨R, 0, none⟩), .slice A n c] w fun e w' =>
      ((EndP Y LL ws ∧ e = .returned (.tuple #[]) ∧ RdI w0 R Y P LL true w') ∨ (¬ EndP Y LL ws ∧ e = .panicked [noBook])) ∧ Below w0.heap.size w0 w' := by
  obtain ⟨AV, cV, rows, hR, hG, hC⟩ := rd_check hI hL2 ht
  have HBW := Lib.hid hG.bel; have HLW := Lib.hid hI.low; have HRL := Lib.hid hI.rl
  have HW := Lib.hid hw; have HN := Lib.hid hn; have HR := Lib.hid hR; have HG := Lib.hid hG
  have HCC := Lib.hid fun u : KeptW w => Calls.in_kept u (hC u)
  have hbq := fun p0 => bytes_beq p0 (ckT LL)
  obtain ⟨k, hk⟩ : ∃ z, LL.length = z := ⟨_, rfl⟩
  obtain ⟨E, hE⟩ : ∃ z, ByteArray.mk (ckT LL).toArray = z := ⟨_, rfl⟩
  have HK := Lib.hid hk
  simp only [hk] at hL2 HG HR HCC
  simp only [hE] at HCC hbq
  have HBQ := Lib.hid hbq
  have HC0 := Lib.hid fun u : KeptW w => (HR.out.up u.h).cells
  clear hI hw hn ht hR hG hC hk hE hbq
  go_enter Tryz.func125, Tryz.ntmps125
  go_wp2_with fail
  have g0 := fun u => (HC0.out u).1; have g2 := fun u => (HC0.out u).2.2.1
  by_cases hY : (k : Int) = Y
  · have hY2 : ((k : Int) != Y) = false := by rw [hY]; simp
    by_cases h1 : n = 1
    · subst h1
      obtain ⟨p0, rfl⟩ : ∃ p0, ws = [p0] := by
        have := HN.out
        match ws, this with
        | [p], _ => exact ⟨p, rfl⟩
      obtain ⟨bw, ow, rfl, hbw, _⟩ := HW.out (by simp)
      have d0 := (str_at HW.out (i := 0) rfl).2
      rw [Nat.add_zero] at d0
      have D0 : ∀ u : KeptW w, u.w.cell? ⟨bw, ow, none⟩ = some (.string ⟨p0.toArray⟩) := fun u => ((bcell u.h).1 _ _ hbw).trans d0
      have hbq := HBQ.out p0
      obtain ⟨Q, hQ⟩ : ∃ z, ByteArray.mk p0.toArray = z := ⟨_, rfl⟩
      rw [hQ] at hbq
      simp only [hQ] at D0
      have HYK := Lib.hid hY
      clear d0 hQ hY
      by_cases hp : p0 = ckT LL
      · rw [decide_eq_true hp] at hbq
        have HP0 := Lib.hid hp
        clear hp
        refine rk_region (by kernel_rfl) (by kernel_rfl) ?_
        repeat (go_big_quiet_step (first | (with_reducible exact HCC.out _) | fail))
        refine wpQuiet_nil ?_
        rintro _ ⟨u, rfl⟩
        have hR6 := HR.out.up u.h
        obtain ⟨e0, e1, e2, e3⟩ := hR6.cells
        have f3 := hR6.frozen 3
        have HR6 := Lib.hid hR6; have HG6 := Lib.hid (HG.out.below u.h)
        clear g0 g2 D0 hbq HCC HC0 hR6
        go_wp2_with fail
        refine ⟨rfl, .tuple #[], by simp [results, Tryz.results125, go_sem], .inl ⟨⟨by rw [HK.out, HYK.out], by rw [HP0.out]⟩, rfl, ⟨⟨_, _, blk_set HR6.out 3 (.bool true), HG6.out.keep ?_ ?_⟩, HLW.out, HRL.out⟩⟩, ?_⟩
        · exact HG6.out.bel.setCell (p := ⟨R, 3, none⟩) HLW.out _
        · intro b hb1 hb2
          exact Below.heap_setCell _ _ _ _ (by show b ≠ R; omega)
        · exact HG6.out.bel.setCell (p := ⟨R, 3, none⟩) HLW.out _
      · rw [decide_eq_false hp] at hbq
        refine rk_region (by kernel_rfl) (by kernel_rfl) ?_
        repeat (go_big_quiet_step (first | (with_reducible exact HCC.out _) | fail))
        refine wpQuiet_nil ?_
        rintro _ ⟨u, rfl⟩
        have HBU := Lib.hid (HBW.out.trans (u.h.mono HBW.out.size))
        clear g0 g2 D0 hbq
        go_wp2_with fail
        refine (giveUp_any _).mono ?_
        rintro e w5 ⟨rfl, rfl⟩
        refine ⟨rfl, .inr ⟨fun h => hp ?_, rfl⟩, HBU.out⟩
        have h4 := h.2
        simp only [List.cons.injEq, and_true] at h4
        exact h4
    · have hn2 : ((n : Int) != 1) = true := by simp; omega
      refine rk_region (by kernel_rfl) (by kernel_rfl) ?_
      repeat (go_big_quiet_step (fail))
      refine wpQuiet_nil ?_
      rintro _ ⟨u, rfl⟩
      have HBU := Lib.hid (HBW.out.trans (u.h.mono HBW.out.size))
      clear g0 g2
      go_wp2_with fail
      refine (giveUp_any _).mono ?_
      rintro e w5 ⟨rfl, rfl⟩
      refine ⟨rfl, .inr ⟨fun h => h1 ?_, rfl⟩, HBU.out⟩
      rw [← HN.out, h.2]
      rfl
  · have hY2 : ((k : Int) != Y) = true := by simpa using hY
    refine rk_region (by kernel_rfl) (by kernel_rfl) ?_
    repeat (go_big_quiet_step (fail))
    refine wpQuiet_nil ?_
    rintro _ ⟨u, rfl⟩
    have HBU := Lib.hid (HBW.out.trans (u.h.mono HBW.out.size))
    clear g0 g2
    go_wp2_with fail
    refine (giveUp_any _).mono ?_
    rintro e w5 ⟨rfl, rfl⟩
    refine ⟨rfl, .inr ⟨fun h => hY ?_, rfl⟩, HBU.out⟩
    rw [← HK.out]
    exact h.1
end Go.Proofs.YtdlaphlpimlgdaaGreatDoor
