/- Coolers: the error of repairs, by the statements. -/
import Derived.Test.YtmppiiamcpjhnaaDB
namespace Go.Proofs.Ytmppiiamcpjhnaa
open Go.RowKit Go.Shelf

set_option maxRecDepth 100000 in
set_option maxHeartbeats 4000000 in
theorem repaired_any (V : TV) (T : Tn) (A : Option Addr) (n c : Nat) (bo : List Int) (A2 : Option Addr) (p q : Nat) (or : List Int) (w : World) (hN : TnAt w w.heap.size V T) (hl : bo.length = n) (hn : n ≤ maxLen) (hA : IntsAt w w.heap.size A bo) (hl2 : or.length = p) (hp : p ≤ maxLen) (hpq : p ≤ q) (hA2 : IntsAt w w.heap.size A2 or) :
    Calls Try.prog 39 #[tvV V, .slice A n c, .slice A2 p q] w fun e w' => e = .returned (.int .i64 (ordI T bo or)) ∧ Below w.heap.size w w' := by
  have z := heap_alloc_new w (.cells (tvC V) 25)
  have hb := (Below.refl w.heap.size w).alloc (Nat.le_refl _) (.cells (tvC V) 25)
  obtain ⟨w1, hw1⟩ : ∃ z, w.alloc (.cells (tvC V) 25) = z := ⟨_, rfl⟩
  rw [hw1] at z hb
  have HAS := Lib.hid (asked_any V T A n c bo w1 (hN.up hb) hl hn (RowAt.up hA hb))
  have HB := Lib.hid hb; have HW := Lib.hid hw1; have HL2 := Lib.hid hl2
  have HOR := Lib.hid (fun (u : World) (hu : Below w1.heap.size w1 u) (h6 : p ≤ 6) => rorder_any bo or A A2 n c p q u hl hl2 hn (by omega) hpq ((RowAt.up hA hb).next hu hu.size) ((RowAt.up hA2 hb).next hu hu.size))
  obtain ⟨ah, nh, ch, az, ns, cz⟩ := V
  obtain ⟨v0, v1⟩ := box2 z
  simp only at v0 v1
  unfold maxLen at hp
  clear z hb hw1 hN hl hA hA2 hl2
  go_enter Try.func39, Try.ntmps39
  by_cases h6 : (6 : Int) < (p : Int)
  · have HE : Hid (ordI T bo or = 3) := Lib.hid (by unfold ordI; rw [if_pos (by have := HL2.out; omega)])
    go_wp2_with fail
    rw [show w.alloc (.cells #[.slice ah nh ch, .slice az ns cz] 25) = w1 from HW.out]
    go_ret
    exact ⟨by rw [HE.out]; rfl, HB.out⟩
  have HE : Hid (ordI T bo or = if tnB T && (coolB T bo && ordB bo or) then 0 else 2) := Lib.hid (by unfold ordI; rw [if_neg (by have := HL2.out; omega)])
  go_wp2_with fail
  rw [show w.alloc (.cells #[.slice ah nh ch, .slice az ns cz] 25) = w1 from HW.out]
  go_wp2_with fail
  refine HAS.out.mono ?_
  rintro e w2 ⟨rfl, hb2⟩
  have HB2 := Lib.hid (HB.out.trans (hb2.mono HB.out.size))
  cases hask : (tnB T && coolB T bo) with
  | false =>
    have HF : Hid (ordI T bo or = 2) := Lib.hid (by rw [HE.out, ← Bool.and_assoc, hask]; rfl)
    clear hb2 v0 v1 hask
    go_wp2_with fail
    go_ret
    exact ⟨by rw [HF.out]; rfl, HB2.out⟩
  | true =>
    have HO := Lib.hid (HOR.out w2 hb2 (by omega))
    have HF : Hid (ordI T bo or = if ordB bo or then 0 else 2) := Lib.hid (by rw [HE.out, ← Bool.and_assoc, hask, Bool.true_and])
    clear hb2 v0 v1 hask
    go_wp2_with fail
    refine HO.out.mono ?_
    rintro e w3 ⟨rfl, hb3⟩
    have HB3 := Lib.hid (HB2.out.trans (hb3.mono HB2.out.size))
    clear hb3
    cases ho : ordB bo or with
    | false =>
      have HG : Hid (ordI T bo or = 2) := Lib.hid (by rw [HF.out, ho]; rfl)
      clear ho
      go_wp2_with fail
      go_ret
      exact ⟨by rw [HG.out]; rfl, HB3.out⟩
    | true =>
      have HG : Hid (ordI T bo or = 0) := Lib.hid (by rw [HF.out, ho]; rfl)
      clear ho
      go_wp2_with fail
      go_ret
      exact ⟨by rw [HG.out]; rfl, HB3.out⟩
end Go.Proofs.Ytmppiiamcpjhnaa
