/- Contracts of the checks of a truth: one number for each thing, of the thing's span. -/
import Derived.Test.YtccekbdhffccdaaDoorF
namespace Go.Proofs.YtccekbdhffccdaaDoor
open Go.RowKit

def okB (p : Int × (Int × Int)) : Bool := inB p.1 p.2.1 p.2.2
def allB (xs : List Int) (ss : List (Int × Int)) : Bool := decide (xs.length = ss.length) && (xs.zip ss).all okB
theorem allB_len {xs : List Int} {ss : List (Int × Int)} (h : xs.length ≠ ss.length) : allB xs ss = false := by simp [allB, h]
theorem allB_bad {xs : List Int} {ss : List (Int × Int)} {k : Nat} {x : Int} {s : Int × Int} (hx : xs[k]? = some x) (hs : ss[k]? = some s) (h : okB (x, s) = false) : allB xs ss = false := by
  have : (xs.zip ss)[k]? = some (x, s) := by rw [List.getElem?_zip_eq_some]; exact ⟨hx, hs⟩
  simp [allB, all_of_get this h]
theorem allB_fine {xs : List Int} {ss : List (Int × Int)} (h : xs.length = ss.length) (ha : (xs.zip ss).all okB = true) : allB xs ss = true := by simp [allB, h, ha]
theorem zip_take_succ {xs : List Int} {ss : List (Int × Int)} {k : Nat} {x : Int} {s : Int × Int} (hx : xs[k]? = some x) (hs : ss[k]? = some s) (hk : ((xs.zip ss).take k).all okB = true) (h : okB (x, s) = true) : ((xs.zip ss).take (k + 1)).all okB = true :=
  take_succ_all (by rw [List.getElem?_zip_eq_some]; exact ⟨hx, hs⟩) hk h

theorem bel2 {w wr w2 : World} {o : Obj} (hbr : Below w.heap.size w wr) (hb3 : Below (wr.alloc o).heap.size (wr.alloc o) w2) : Below w.heap.size w w2 :=
  (hbr.alloc hbr.size o).trans (hb3.mono (by have := hbr.size; simp; omega))
theorem belN {w wr : World} (h : Below w.heap.size w wr) (n : Nat) : Below w.heap.size w (wr.drewN n) := ⟨h.os, h.tape, h.output, h.size, h.block⟩
def laySpans (ls : List Lay) : List (Int × Int) := ls.map fun l => (l.lo, l.hi)

set_option maxHeartbeats 1000000 in
theorem allOf88 (AN A : Option Addr) (m cm n c : Nat) (xs : List Int) (ls : List Lay) (w : World) (hx : xs.length = m) (hm : m ≤ maxLen) (hX : IntsAt w w.heap.size AN xs) (hl : ls.length = n) (hn : n ≤ maxLen) (hL : LaysAt w w.heap.size A ls) :
    Calls Tryd.prog 88 #[.slice AN m cm, .slice A n c, .func (.func 89) #[] #[]] w fun e w' => e = .returned (.bool (allB xs (laySpans ls))) ∧ Below w.heap.size w w' := by
  unfold maxLen at hm hn
  have HX := Lib.hid hx; clear hx
  have HL := Lib.hid hl; clear hl
  have hls : (laySpans ls).length = n := by simp [laySpans, HL.out]
  have HS := Lib.hid hls; clear hls
  by_cases hmn : m = n
  · subst hmn
    go_enter Tryd.func88, Tryd.ntmps88
    go_wp2_with fail
    go_loopw [17] (fun i wr => ∃ k : Nat, k ≤ m ∧ i = .int .i64 k ∧ ((xs.zip (laySpans ls)).take k).all okB = true ∧ Below w.heap.size w wr) (fun i _ => m - (intOf i).toNat)
    case atStart => exact ⟨0, Nat.zero_le _, rfl, by simp, Below.refl _ _⟩
    case round =>
      obtain ⟨k, hk, rfl, hall, hbr⟩ := hrel
      have HA := Lib.hid hall; clear hall
      have hz := hbr.size
      by_cases hlt : k < m
      · obtain ⟨x, hx⟩ := get_of_lt (l := xs) (k := k) (by rw [HX.out]; exact hlt)
        obtain ⟨l, hl⟩ := get_of_lt (l := ls) (k := k) (by rw [HL.out]; exact hlt)
        obtain ⟨b1, o1, rfl, hb1, hcs1⟩ := hX (by intro h; rw [h] at hx; simp at hx)
        obtain ⟨b2, o2, rfl, hb2, hcs2⟩ := hL (by intro h; rw [h] at hl; simp at hl)
        have d0 := ((bcell hbr).1 _ _ hb1).trans (hcs1 k x hx)
        obtain ⟨c0, c1, c2⟩ := hcs2 k l hl
        replace c0 := ((bcell hbr).1 _ _ hb2).trans c0
        replace c1 := ((bcell hbr).1 _ _ hb2).trans c1
        replace c2 := ((bcell hbr).1 _ _ hb2).trans c2
        have hls : (laySpans ls)[k]? = some (l.lo, l.hi) := by simp [laySpans, hl]
        have HK := Lib.hid hx
        have HKS := Lib.hid hls
        clear hx hl hls hcs1 hcs2
        have hbw : b1 < wr.heap.size := by omega
        by_cases g : okB (x, (l.lo, l.hi)) = true
        · have G := Lib.hid g
          simp only [okB, inB, decide_eq_true_eq] at g
          obtain ⟨g1, g2⟩ := g
          go_wp2_with (go_at_call 89; refine (p1_any _ _).mono ?_; rintro e w2 ⟨rfl, hb3⟩; obtain ⟨hc3, hf3⟩ := bcell hb3; have hz3 : wr.heap.size < w2.heap.size := (by have := hb3.size; (try simp at this); omega); have hbw2 : b1 < w2.heap.size := (by omega))
          go_quiet (fail)
          go_wp2
          go_roundw
          case rel => exact ⟨k + 1, by omega, by go_num, zip_take_succ HK.out HKS.out HA.out G.out, belN ((bel2 hbr hb3).alloc (bel2 hbr hb3).size _) _⟩
          case measure => simp [intOf]; omega
        · have G : Hid (okB (x, (l.lo, l.hi)) = false) := Lib.hid (by simpa using g)
          have g' : ¬ (l.lo ≤ x ∧ x ≤ l.hi) := by simpa [okB, inB] using g
          clear g
          by_cases g1 : x < l.lo
          · clear g'
            go_wp2_with (go_at_call 89; refine (p1_any _ _).mono ?_; rintro e w2 ⟨rfl, hb3⟩; obtain ⟨hc3, hf3⟩ := bcell hb3; have hz3 : wr.heap.size < w2.heap.size := (by have := hb3.size; (try simp at this); omega); have hbw2 : b1 < w2.heap.size := (by omega))
            go_quiet (fail)
            go_wp2
            go_ret
            exact ⟨ret_bool (allB_bad HK.out HKS.out G.out).symm, belN ((bel2 hbr hb3).alloc (bel2 hbr hb3).size _) _⟩
          · have g2 : l.hi < x := by omega
            have g3 : l.lo ≤ x := by omega
            clear g' g1
            go_wp2_with (go_at_call 89; refine (p1_any _ _).mono ?_; rintro e w2 ⟨rfl, hb3⟩; obtain ⟨hc3, hf3⟩ := bcell hb3; have hz3 : wr.heap.size < w2.heap.size := (by have := hb3.size; (try simp at this); omega); have hbw2 : b1 < w2.heap.size := (by omega))
            go_quiet (fail)
            go_wp2
            go_ret
            exact ⟨ret_bool (allB_bad HK.out HKS.out G.out).symm, belN ((bel2 hbr hb3).alloc (bel2 hbr hb3).size _) _⟩
      · go_wp2
        go_ret
        exact ⟨ret_bool (allB_fine (by rw [HX.out, HS.out]) (by
          have := HA.out
          rwa [List.take_of_length_le (by simp [HX.out, HS.out]; omega)] at this)).symm, hbr⟩
  · have hne : ((m : Int) != n) = true := by rw [bne_iff_ne]; omega
    go_enter Tryd.func88, Tryd.ntmps88
    go_wp2
    go_ret
    exact ⟨ret_bool (allB_len (by rw [HX.out, HS.out]; exact hmn)).symm, Below.refl _ _⟩
end Go.Proofs.YtccekbdhffccdaaDoor
