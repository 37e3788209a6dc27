/- Contracts of the checks of a truth's years. -/
import Derived.Test.YtccekbdhffccdaaDoorG
namespace Go.Proofs.YtccekbdhffccdaaDoor
open Go.RowKit
def warmSpans (lo hi : Int) (ys : List Yr) : List (Int × Int) := ys.map fun _ => (lo, hi)
def sumSpans (ys : List Yr) : List (Int × Int) := ys.map fun y => (y.sl, y.sh)
def winSpans (ys : List Yr) : List (Int × Int) := ys.map fun y => (y.wl, y.wh)
def snowSpans (ys : List Yr) : List (Int × Int) := ys.map fun y => (y.nl, y.nh)

set_option maxHeartbeats 1000000 in
theorem allOf91 (AN A : Option Addr) (m cm n c : Nat) (xs : List Int) (ls : List Yr) (w : World) (hx : xs.length = m) (hm : m ≤ maxLen) (hX : IntsAt w w.heap.size AN xs) (hl : ls.length = n) (hn : n ≤ maxLen) (hL : YrsAt w w.heap.size A ls) (lo hi : Int) (g : Nat) (hg : g < w.heap.size) (e1 : w.cell? ⟨g, 1, none⟩ = some (.int .i64 lo)) (e2 : w.cell? ⟨g, 2, none⟩ = some (.int .i64 hi)) :
    Calls Tryd.prog 90 #[.slice AN m cm, .slice A n c, .func (.func 91) #[] #[.pointer (some ⟨g, 0, none⟩)]] w fun e w' => e = .returned (.bool (allB xs (warmSpans lo hi ls))) ∧ Below w.heap.size w w' := by
  unfold maxLen at hm hn
  have HX := Lib.hid hx; clear hx
  have HL := Lib.hid hl; clear hl
  have hls : (warmSpans lo hi ls).length = n := by simp [warmSpans, HL.out]
  have HS := Lib.hid hls; clear hls
  by_cases hmn : m = n
  · subst hmn
    go_enter Tryd.func90, Tryd.ntmps90
    go_wp2_with fail
    go_loopw [17] (fun i wr => ∃ k : Nat, k ≤ m ∧ i = .int .i64 k ∧ ((xs.zip (warmSpans lo hi ls)).take k).all okB = true ∧ Below w.heap.size w wr) (fun i _ => m - (intOf i).toNat)
    case atStart => exact ⟨0, Nat.zero_le _, rfl, by simp, Below.refl _ _⟩
    case round =>
      obtain ⟨k, hk, rfl, hall, hbr⟩ := hrel
      have HA := Lib.hid hall; clear hall
      have hz := hbr.size
      by_cases hlt : k < m
      · obtain ⟨x, hx⟩ := get_of_lt (l := xs) (k := k) (by rw [HX.out]; exact hlt)
        obtain ⟨l, hl⟩ := get_of_lt (l := ls) (k := k) (by rw [HL.out]; exact hlt)
        obtain ⟨b1, o1, rfl, hb1, hcs1⟩ := hX (by intro h; rw [h] at hx; simp at hx)
        obtain ⟨b2, o2, rfl, hb2, hcs2⟩ := hL (by intro h; rw [h] at hl; simp at hl)
        have d0 := ((bcell hbr).1 _ _ hb1).trans (hcs1 k x hx)
        obtain ⟨c0, c1, c2, c3, c4, c5⟩ := hcs2 k l hl
        replace c0 := ((bcell hbr).1 _ _ hb2).trans c0
        replace c1 := ((bcell hbr).1 _ _ hb2).trans c1
        replace c2 := ((bcell hbr).1 _ _ hb2).trans c2
        replace c3 := ((bcell hbr).1 _ _ hb2).trans c3
        replace c4 := ((bcell hbr).1 _ _ hb2).trans c4
        replace c5 := ((bcell hbr).1 _ _ hb2).trans c5
        have hgr : g < wr.heap.size := by omega
        replace e1 := ((bcell hbr).1 _ _ hg).trans e1
        replace e2 := ((bcell hbr).1 _ _ hg).trans e2
        have hls : (warmSpans lo hi ls)[k]? = some (lo, hi) := by simp [warmSpans, hl]
        have HK := Lib.hid hx
        have HKS := Lib.hid hls
        clear hx hl hls hcs1 hcs2
        have hbw : b1 < wr.heap.size := by omega
        by_cases g : okB (x, (lo, hi)) = true
        · have G := Lib.hid g
          simp only [okB, inB, decide_eq_true_eq] at g
          obtain ⟨g1, g2⟩ := g
          go_wp2_with (go_at_call 91; refine (p2_any _ lo hi g _ (by simp; omega) (by exact (World.cell?_alloc_lt _ _ _ (by exact hgr)).trans e1) (by exact (World.cell?_alloc_lt _ _ _ (by exact hgr)).trans e2)).mono ?_; rintro e w2 ⟨rfl, hb3⟩; obtain ⟨hc3, hf3⟩ := bcell hb3; have hz3 : wr.heap.size < w2.heap.size := (by have := hb3.size; (try simp at this); omega); have hbw2 : b1 < w2.heap.size := (by omega))
          go_quiet (fail)
          go_wp2
          go_roundw
          case rel => exact ⟨k + 1, by omega, by go_num, zip_take_succ HK.out HKS.out HA.out G.out, belN ((bel2 hbr hb3).alloc (bel2 hbr hb3).size _) _⟩
          case measure => simp [intOf]; omega
        · have G : Hid (okB (x, (lo, hi)) = false) := Lib.hid (by simpa using g)
          have g' : ¬ (lo ≤ x ∧ x ≤ hi) := by simpa [okB, inB] using g
          clear g
          by_cases g1 : x < lo
          · clear g'
            go_wp2_with (go_at_call 91; refine (p2_any _ lo hi g _ (by simp; omega) (by exact (World.cell?_alloc_lt _ _ _ (by exact hgr)).trans e1) (by exact (World.cell?_alloc_lt _ _ _ (by exact hgr)).trans e2)).mono ?_; rintro e w2 ⟨rfl, hb3⟩; obtain ⟨hc3, hf3⟩ := bcell hb3; have hz3 : wr.heap.size < w2.heap.size := (by have := hb3.size; (try simp at this); omega); have hbw2 : b1 < w2.heap.size := (by omega))
            go_quiet (fail)
            go_wp2
            go_ret
            exact ⟨ret_bool (allB_bad HK.out HKS.out G.out).symm, belN ((bel2 hbr hb3).alloc (bel2 hbr hb3).size _) _⟩
          · have g2 : hi < x := by omega
            have g3 : lo ≤ x := by omega
            clear g' g1
            go_wp2_with (go_at_call 91; refine (p2_any _ lo hi g _ (by simp; omega) (by exact (World.cell?_alloc_lt _ _ _ (by exact hgr)).trans e1) (by exact (World.cell?_alloc_lt _ _ _ (by exact hgr)).trans e2)).mono ?_; rintro e w2 ⟨rfl, hb3⟩; obtain ⟨hc3, hf3⟩ := bcell hb3; have hz3 : wr.heap.size < w2.heap.size := (by have := hb3.size; (try simp at this); omega); have hbw2 : b1 < w2.heap.size := (by omega))
            go_quiet (fail)
            go_wp2
            go_ret
            exact ⟨ret_bool (allB_bad HK.out HKS.out G.out).symm, belN ((bel2 hbr hb3).alloc (bel2 hbr hb3).size _) _⟩
      · go_wp2
        go_ret
        exact ⟨ret_bool (allB_fine (by rw [HX.out, HS.out]) (by
          have := HA.out
          rwa [List.take_of_length_le (by simp [HX.out, HS.out]; omega)] at this)).symm, hbr⟩
  · have hne : ((m : Int) != n) = true := by rw [bne_iff_ne]; omega
    go_enter Tryd.func90, Tryd.ntmps90
    go_wp2
    go_ret
    exact ⟨ret_bool (allB_len (by rw [HX.out, HS.out]; exact hmn)).symm, Below.refl _ _⟩
set_option maxHeartbeats 1000000 in
theorem allOf92 (AN A : Option Addr) (m cm n c : Nat) (xs : List Int) (ls : List Yr) (w : World) (hx : xs.length = m) (hm : m ≤ maxLen) (hX : IntsAt w w.heap.size AN xs) (hl : ls.length = n) (hn : n ≤ maxLen) (hL : YrsAt w w.heap.size A ls) :
    Calls Tryd.prog 90 #[.slice AN m cm, .slice A n c, .func (.func 92) #[] #[]] w fun e w' => e = .returned (.bool (allB xs (sumSpans ls))) ∧ Below w.heap.size w w' := by
  unfold maxLen at hm hn
  have HX := Lib.hid hx; clear hx
  have HL := Lib.hid hl; clear hl
  have hls : (sumSpans ls).length = n := by simp [sumSpans, HL.out]
  have HS := Lib.hid hls; clear hls
  by_cases hmn : m = n
  · subst hmn
    go_enter Tryd.func90, Tryd.ntmps90
    go_wp2_with fail
    go_loopw [17] (fun i wr => ∃ k : Nat, k ≤ m ∧ i = .int .i64 k ∧ ((xs.zip (sumSpans ls)).take k).all okB = true ∧ Below w.heap.size w wr) (fun i _ => m - (intOf i).toNat)
    case atStart => exact ⟨0, Nat.zero_le _, rfl, by simp, Below.refl _ _⟩
    case round =>
      obtain ⟨k, hk, rfl, hall, hbr⟩ := hrel
      have HA := Lib.hid hall; clear hall
      have hz := hbr.size
      by_cases hlt : k < m
      · obtain ⟨x, hx⟩ := get_of_lt (l := xs) (k := k) (by rw [HX.out]; exact hlt)
        obtain ⟨l, hl⟩ := get_of_lt (l := ls) (k := k) (by rw [HL.out]; exact hlt)
        obtain ⟨b1, o1, rfl, hb1, hcs1⟩ := hX (by intro h; rw [h] at hx; simp at hx)
        obtain ⟨b2, o2, rfl, hb2, hcs2⟩ := hL (by intro h; rw [h] at hl; simp at hl)
        have d0 := ((bcell hbr).1 _ _ hb1).trans (hcs1 k x hx)
        obtain ⟨c0, c1, c2, c3, c4, c5⟩ := hcs2 k l hl
        replace c0 := ((bcell hbr).1 _ _ hb2).trans c0
        replace c1 := ((bcell hbr).1 _ _ hb2).trans c1
        replace c2 := ((bcell hbr).1 _ _ hb2).trans c2
        replace c3 := ((bcell hbr).1 _ _ hb2).trans c3
        replace c4 := ((bcell hbr).1 _ _ hb2).trans c4
        replace c5 := ((bcell hbr).1 _ _ hb2).trans c5
        have hls : (sumSpans ls)[k]? = some (l.sl, l.sh) := by simp [sumSpans, hl]
        have HK := Lib.hid hx
        have HKS := Lib.hid hls
        clear hx hl hls hcs1 hcs2
        have hbw : b1 < wr.heap.size := by omega
        by_cases g : okB (x, (l.sl, l.sh)) = true
        · have G := Lib.hid g
          simp only [okB, inB, decide_eq_true_eq] at g
          obtain ⟨g1, g2⟩ := g
          go_wp2_with (go_at_call 92; refine (p3_any _ _).mono ?_; rintro e w2 ⟨rfl, hb3⟩; obtain ⟨hc3, hf3⟩ := bcell hb3; have hz3 : wr.heap.size < w2.heap.size := (by have := hb3.size; (try simp at this); omega); have hbw2 : b1 < w2.heap.size := (by omega))
          go_quiet (fail)
          go_wp2
          go_roundw
          case rel => exact ⟨k + 1, by omega, by go_num, zip_take_succ HK.out HKS.out HA.out G.out, belN ((bel2 hbr hb3).alloc (bel2 hbr hb3).size _) _⟩
          case measure => simp [intOf]; omega
        · have G : Hid (okB (x, (l.sl, l.sh)) = false) := Lib.hid (by simpa using g)
          have g' : ¬ (l.sl ≤ x ∧ x ≤ l.sh) := by simpa [okB, inB] using g
          clear g
          by_cases g1 : x < l.sl
          · clear g'
            go_wp2_with (go_at_call 92; refine (p3_any _ _).mono ?_; rintro e w2 ⟨rfl, hb3⟩; obtain ⟨hc3, hf3⟩ := bcell hb3; have hz3 : wr.heap.size < w2.heap.size := (by have := hb3.size; (try simp at this); omega); have hbw2 : b1 < w2.heap.size := (by omega))
            go_quiet (fail)
            go_wp2
            go_ret
            exact ⟨ret_bool (allB_bad HK.out HKS.out G.out).symm, belN ((bel2 hbr hb3).alloc (bel2 hbr hb3).size _) _⟩
          · have g2 : l.sh < x := by omega
            have g3 : l.sl ≤ x := by omega
            clear g' g1
            go_wp2_with (go_at_call 92; refine (p3_any _ _).mono ?_; rintro e w2 ⟨rfl, hb3⟩; obtain ⟨hc3, hf3⟩ := bcell hb3; have hz3 : wr.heap.size < w2.heap.size := (by have := hb3.size; (try simp at this); omega); have hbw2 : b1 < w2.heap.size := (by omega))
            go_quiet (fail)
            go_wp2
            go_ret
            exact ⟨ret_bool (allB_bad HK.out HKS.out G.out).symm, belN ((bel2 hbr hb3).alloc (bel2 hbr hb3).size _) _⟩
      · go_wp2
        go_ret
        exact ⟨ret_bool (allB_fine (by rw [HX.out, HS.out]) (by
          have := HA.out
          rwa [List.take_of_length_le (by simp [HX.out, HS.out]; omega)] at this)).symm, hbr⟩
  · have hne : ((m : Int) != n) = true := by rw [bne_iff_ne]; omega
    go_enter Tryd.func90, Tryd.ntmps90
    go_wp2
    go_ret
    exact ⟨ret_bool (allB_len (by rw [HX.out, HS.out]; exact hmn)).symm, Below.refl _ _⟩
set_option maxHeartbeats 1000000 in
theorem allOf93 (AN A : Option Addr) (m cm n c : Nat) (xs : List Int) (ls : List Yr) (w : World) (hx : xs.length = m) (hm : m ≤ maxLen) (hX : IntsAt w w.heap.size AN xs) (hl : ls.length = n) (hn : n ≤ maxLen) (hL : YrsAt w w.heap.size A ls) :
    Calls Tryd.prog 90 #[.slice AN m cm, .slice A n c, .func (.func 93) #[] #[]] w fun e w' => e = .returned (.bool (allB xs (winSpans ls))) ∧ Below w.heap.size w w' := by
  unfold maxLen at hm hn
  have HX := Lib.hid hx; clear hx
  have HL := Lib.hid hl; clear hl
  have hls : (winSpans ls).length = n := by simp [winSpans, HL.out]
  have HS := Lib.hid hls; clear hls
  by_cases hmn : m = n
  · subst hmn
    go_enter Tryd.func90, Tryd.ntmps90
    go_wp2_with fail
    go_loopw [17] (fun i wr => ∃ k : Nat, k ≤ m ∧ i = .int .i64 k ∧ ((xs.zip (winSpans ls)).take k).all okB = true ∧ Below w.heap.size w wr) (fun i _ => m - (intOf i).toNat)
    case atStart => exact ⟨0, Nat.zero_le _, rfl, by simp, Below.refl _ _⟩
    case round =>
      obtain ⟨k, hk, rfl, hall, hbr⟩ := hrel
      have HA := Lib.hid hall; clear hall
      have hz := hbr.size
      by_cases hlt : k < m
      · obtain ⟨x, hx⟩ := get_of_lt (l := xs) (k := k) (by rw [HX.out]; exact hlt)
        obtain ⟨l, hl⟩ := get_of_lt (l := ls) (k := k) (by rw [HL.out]; exact hlt)
        obtain ⟨b1, o1, rfl, hb1, hcs1⟩ := hX (by intro h; rw [h] at hx; simp at hx)
        obtain ⟨b2, o2, rfl, hb2, hcs2⟩ := hL (by intro h; rw [h] at hl; simp at hl)
        have d0 := ((bcell hbr).1 _ _ hb1).trans (hcs1 k x hx)
        obtain ⟨c0, c1, c2, c3, c4, c5⟩ := hcs2 k l hl
        replace c0 := ((bcell hbr).1 _ _ hb2).trans c0
        replace c1 := ((bcell hbr).1 _ _ hb2).trans c1
        replace c2 := ((bcell hbr).1 _ _ hb2).trans c2
        replace c3 := ((bcell hbr).1 _ _ hb2).trans c3
        replace c4 := ((bcell hbr).1 _ _ hb2).trans c4
        replace c5 := ((bcell hbr).1 _ _ hb2).trans c5
        have hls : (winSpans ls)[k]? = some (l.wl, l.wh) := by simp [winSpans, hl]
        have HK := Lib.hid hx
        have HKS := Lib.hid hls
        clear hx hl hls hcs1 hcs2
        have hbw : b1 < wr.heap.size := by omega
        by_cases g : okB (x, (l.wl, l.wh)) = true
        · have G := Lib.hid g
          simp only [okB, inB, decide_eq_true_eq] at g
          obtain ⟨g1, g2⟩ := g
          go_wp2_with (go_at_call 93; refine (p4_any _ _).mono ?_; rintro e w2 ⟨rfl, hb3⟩; obtain ⟨hc3, hf3⟩ := bcell hb3; have hz3 : wr.heap.size < w2.heap.size := (by have := hb3.size; (try simp at this); omega); have hbw2 : b1 < w2.heap.size := (by omega))
          go_quiet (fail)
          go_wp2
          go_roundw
          case rel => exact ⟨k + 1, by omega, by go_num, zip_take_succ HK.out HKS.out HA.out G.out, belN ((bel2 hbr hb3).alloc (bel2 hbr hb3).size _) _⟩
          case measure => simp [intOf]; omega
        · have G : Hid (okB (x, (l.wl, l.wh)) = false) := Lib.hid (by simpa using g)
          have g' : ¬ (l.wl ≤ x ∧ x ≤ l.wh) := by simpa [okB, inB] using g
          clear g
          by_cases g1 : x < l.wl
          · clear g'
            go_wp2_with (go_at_call 93; refine (p4_any _ _).mono ?_; rintro e w2 ⟨rfl, hb3⟩; obtain ⟨hc3, hf3⟩ := bcell hb3; have hz3 : wr.heap.size < w2.heap.size := (by have := hb3.size; (try simp at this); omega); have hbw2 : b1 < w2.heap.size := (by omega))
            go_quiet (fail)
            go_wp2
            go_ret
            exact ⟨ret_bool (allB_bad HK.out HKS.out G.out).symm, belN ((bel2 hbr hb3).alloc (bel2 hbr hb3).size _) _⟩
          · have g2 : l.wh < x := by omega
            have g3 : l.wl ≤ x := by omega
            clear g' g1
            go_wp2_with (go_at_call 93; refine (p4_any _ _).mono ?_; rintro e w2 ⟨rfl, hb3⟩; obtain ⟨hc3, hf3⟩ := bcell hb3; have hz3 : wr.heap.size < w2.heap.size := (by have := hb3.size; (try simp at this); omega); have hbw2 : b1 < w2.heap.size := (by omega))
            go_quiet (fail)
            go_wp2
            go_ret
            exact ⟨ret_bool (allB_bad HK.out HKS.out G.out).symm, belN ((bel2 hbr hb3).alloc (bel2 hbr hb3).size _) _⟩
      · go_wp2
        go_ret
        exact ⟨ret_bool (allB_fine (by rw [HX.out, HS.out]) (by
          have := HA.out
          rwa [List.take_of_length_le (by simp [HX.out, HS.out]; omega)] at this)).symm, hbr⟩
  · have hne : ((m : Int) != n) = true := by rw [bne_iff_ne]; omega
    go_enter Tryd.func90, Tryd.ntmps90
    go_wp2
    go_ret
    exact ⟨ret_bool (allB_len (by rw [HX.out, HS.out]; exact hmn)).symm, Below.refl _ _⟩
set_option maxHeartbeats 1000000 in
theorem allOf94 (AN A : Option Addr) (m cm n c : Nat) (xs : List Int) (ls : List Yr) (w : World) (hx : xs.length = m) (hm : m ≤ maxLen) (hX : IntsAt w w.heap.size AN xs) (hl : ls.length = n) (hn : n ≤ maxLen) (hL : YrsAt w w.heap.size A ls) :
    Calls Tryd.prog 90 #[.slice AN m cm, .slice A n c, .func (.func 94) #[] #[]] w fun e w' => e = .returned (.bool (allB xs (snowSpans ls))) ∧ Below w.heap.size w w' := by
  unfold maxLen at hm hn
  have HX := Lib.hid hx; clear hx
  have HL := Lib.hid hl; clear hl
  have hls : (snowSpans ls).length = n := by simp [snowSpans, HL.out]
  have HS := Lib.hid hls; clear hls
  by_cases hmn : m = n
  · subst hmn
    go_enter Tryd.func90, Tryd.ntmps90
    go_wp2_with fail
    go_loopw [17] (fun i wr => ∃ k : Nat, k ≤ m ∧ i = .int .i64 k ∧ ((xs.zip (snowSpans ls)).take k).all okB = true ∧ Below w.heap.size w wr) (fun i _ => m - (intOf i).toNat)
    case atStart => exact ⟨0, Nat.zero_le _, rfl, by simp, Below.refl _ _⟩
    case round =>
      obtain ⟨k, hk, rfl, hall, hbr⟩ := hrel
      have HA := Lib.hid hall; clear hall
      have hz := hbr.size
      by_cases hlt : k < m
      · obtain ⟨x, hx⟩ := get_of_lt (l := xs) (k := k) (by rw [HX.out]; exact hlt)
        obtain ⟨l, hl⟩ := get_of_lt (l := ls) (k := k) (by rw [HL.out]; exact hlt)
        obtain ⟨b1, o1, rfl, hb1, hcs1⟩ := hX (by intro h; rw [h] at hx; simp at hx)
        obtain ⟨b2, o2, rfl, hb2, hcs2⟩ := hL (by intro h; rw [h] at hl; simp at hl)
        have d0 := ((bcell hbr).1 _ _ hb1).trans (hcs1 k x hx)
        obtain ⟨c0, c1, c2, c3, c4, c5⟩ := hcs2 k l hl
        replace c0 := ((bcell hbr).1 _ _ hb2).trans c0
        replace c1 := ((bcell hbr).1 _ _ hb2).trans c1
        replace c2 := ((bcell hbr).1 _ _ hb2).trans c2
        replace c3 := ((bcell hbr).1 _ _ hb2).trans c3
        replace c4 := ((bcell hbr).1 _ _ hb2).trans c4
        replace c5 := ((bcell hbr).1 _ _ hb2).trans c5
        have hls : (snowSpans ls)[k]? = some (l.nl, l.nh) := by simp [snowSpans, hl]
        have HK := Lib.hid hx
        have HKS := Lib.hid hls
        clear hx hl hls hcs1 hcs2
        have hbw : b1 < wr.heap.size := by omega
        by_cases g : okB (x, (l.nl, l.nh)) = true
        · have G := Lib.hid g
          simp only [okB, inB, decide_eq_true_eq] at g
          obtain ⟨g1, g2⟩ := g
          go_wp2_with (go_at_call 94; refine (p5_any _ _).mono ?_; rintro e w2 ⟨rfl, hb3⟩; obtain ⟨hc3, hf3⟩ := bcell hb3; have hz3 : wr.heap.size < w2.heap.size := (by have := hb3.size; (try simp at this); omega); have hbw2 : b1 < w2.heap.size := (by omega))
          go_quiet (fail)
          go_wp2
          go_roundw
          case rel => exact ⟨k + 1, by omega, by go_num, zip_take_succ HK.out HKS.out HA.out G.out, belN ((bel2 hbr hb3).alloc (bel2 hbr hb3).size _) _⟩
          case measure => simp [intOf]; omega
        · have G : Hid (okB (x, (l.nl, l.nh)) = false) := Lib.hid (by simpa using g)
          have g' : ¬ (l.nl ≤ x ∧ x ≤ l.nh) := by simpa [okB, inB] using g
          clear g
          by_cases g1 : x < l.nl
          · clear g'
            go_wp2_with (go_at_call 94; refine (p5_any _ _).mono ?_; rintro e w2 ⟨rfl, hb3⟩; obtain ⟨hc3, hf3⟩ := bcell hb3; have hz3 : wr.heap.size < w2.heap.size := (by have := hb3.size; (try simp at this); omega); have hbw2 : b1 < w2.heap.size := (by omega))
            go_quiet (fail)
            go_wp2
            go_ret
            exact ⟨ret_bool (allB_bad HK.out HKS.out G.out).symm, belN ((bel2 hbr hb3).alloc (bel2 hbr hb3).size _) _⟩
          · have g2 : l.nh < x := by omega
            have g3 : l.nl ≤ x := by omega
            clear g' g1
            go_wp2_with (go_at_call 94; refine (p5_any _ _).mono ?_; rintro e w2 ⟨rfl, hb3⟩; obtain ⟨hc3, hf3⟩ := bcell hb3; have hz3 : wr.heap.size < w2.heap.size := (by have := hb3.size; (try simp at this); omega); have hbw2 : b1 < w2.heap.size := (by omega))
            go_quiet (fail)
            go_wp2
            go_ret
            exact ⟨ret_bool (allB_bad HK.out HKS.out G.out).symm, belN ((bel2 hbr hb3).alloc (bel2 hbr hb3).size _) _⟩
      · go_wp2
        go_ret
        exact ⟨ret_bool (allB_fine (by rw [HX.out, HS.out]) (by
          have := HA.out
          rwa [List.take_of_length_le (by simp [HX.out, HS.out]; omega)] at this)).symm, hbr⟩
  · have hne : ((m : Int) != n) = true := by rw [bne_iff_ne]; omega
    go_enter Tryd.func90, Tryd.ntmps90
    go_wp2
    go_ret
    exact ⟨ret_bool (allB_len (by rw [HX.out, HS.out]; exact hmn)).symm, Below.refl _ _⟩
end Go.Proofs.YtccekbdhffccdaaDoor
