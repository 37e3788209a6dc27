/- The specification's own small functions: what the ground is like after a summer, after a winter; the depth of some heat. What the ground is like year by year, as the specification follows it. -/
import Derived.Test.YtccekbdhffccdaaDoorXW
import Derived.Test.YtccekbdhffccdaaDoorRB
import Derived.Outline
import Derived.IntWalk
namespace Go.Proofs.YtccekbdhffccdaaDoor
open Go.RowKit

theorem reach_max (R X : Int) : max R X = reachI R X := by unfold reachI; split <;> omega
set_option maxRecDepth 100000 in
set_option maxHeartbeats 1000000 in
theorem summerR_any (R L h : Int) (hR : 0 ≤ R ∧ R ≤ 100000000) (hL : 0 ≤ L ∧ L ≤ 100000000) (hh : 0 ≤ h ∧ h ≤ 100000000) (w : World) :
    Calls Tryd.prog 62 #[.agg #[.int .i64 R, .int .i64 L], .int .i64 h] w fun e w' => e = .returned (.agg #[.int .i64 (reachI R (L + h)), .int .i64 (L + h)]) ∧ Below w.heap.size w w' := by
  obtain ⟨r1, r2⟩ := hR
  obtain ⟨l1, l2⟩ := hL
  obtain ⟨h1, h2⟩ := hh
  go_enter Tryd.func62, Tryd.ntmps62
  go_wp2
  exact bodyPost_ret (v := .agg #[.int .i64 (max R (L + h)), .int .i64 (L + h)]) (by simp [results, Tryd.results62, go_sem]) rfl ⟨by rw [reach_max], ((Below.refl _ _).alloc (Nat.le_refl _) _).alloc (by simp) _⟩

set_option maxRecDepth 100000 in
set_option maxHeartbeats 1000000 in
theorem winterR_any (R L g : Int) (hL : 0 ≤ L ∧ L ≤ 100000000) (hg : 0 ≤ g ∧ g ≤ 100000000) (w : World) :
    Calls Tryd.prog 64 #[.agg #[.int .i64 R, .int .i64 L], .int .i64 g] w fun e w' => e = .returned (.agg #[.int .i64 (if L ≤ g then 0 else R), .int .i64 (if L ≤ g then 0 else L - g)]) ∧ Below w.heap.size w w' := by
  obtain ⟨l1, l2⟩ := hL
  obtain ⟨g1, g2⟩ := hg
  by_cases hc : L ≤ g
  · have hm : min L g = L := Int.min_eq_left hc
    go_enter Tryd.func64, Tryd.ntmps64
    go_wp2
    exact bodyPost_ret (v := .agg #[.int .i64 0, .int .i64 0]) (by simp [results, Tryd.results64, go_sem]) rfl ⟨rfl, (((Below.refl _ _).alloc (Nat.le_refl _) _).alloc (by simp) _).alloc (by simp; omega) _⟩
  · have hm : min L g = g := Int.min_eq_right (by omega)
    have h0 : 0 < L - g := by omega
    go_enter Tryd.func64, Tryd.ntmps64
    go_wp2
    exact bodyPost_ret (v := .agg #[.int .i64 R, .int .i64 (L - g)]) (by simp [results, Tryd.results64, go_sem]) rfl ⟨rfl, (((Below.refl _ _).alloc (Nat.le_refl _) _).alloc (by simp) _).alloc (by simp; omega) _⟩

theorem depthC_step (t m : Int) (r : List (Int × Int)) (h : Int) (hr : r ≠ []) : depthC ((t, m) :: r) h = if h < t * m then h / m else t + depthC r (h - t * m) := by
  cases r with
  | nil => exact absurd rfl hr
  | cons p r => rfl
theorem lp_drop {ls : List Lay} {ms : List Int} {k : Nat} {x : Lay} {m : Int} (hx : ls[k]? = some x) (hm : ms[k]? = some m) : (lpOf ls ms).drop k = (x.t, m) :: (lpOf ls ms).drop (k + 1) := by
  have hg := lpOf_get hx hm
  obtain ⟨hk, e⟩ := List.getElem?_eq_some_iff.1 hg
  rw [List.drop_eq_getElem_cons hk, e]
theorem lp_len {ls : List Lay} {ms : List Int} {n : Nat} (h1 : ls.length = n) (h2 : ms.length = n) : (lpOf ls ms).length = n := by simp [lpOf, h1, h2]
theorem div_lt_iff {h t q : Int} (hq : 1 ≤ q) : h / q < t ↔ h < t * q := by
  rw [Int.ediv_lt_iff_lt_mul (by omega)]

set_option maxRecDepth 100000 in
set_option maxHeartbeats 4000000 in
theorem depthR_any (A AM : Option Addr) (n c cm : Nat) (ls : List Lay) (ms : List Int) (lo hi H : Int) (w : World) (hl : ls.length = n) (h1 : 1 ≤ n) (h6 : n ≤ 6) (hL : LaysAt w w.heap.size A ls) (hm : ms.length = n) (hM : IntsAt w w.heap.size AM ms)
    (ht : ∀ x ∈ ls, 1 ≤ x.t ∧ x.t ≤ 20000) (hq : ∀ x ∈ ms, 1 ≤ x ∧ x ≤ 1000) (hH : 0 ≤ H) (hH2 : H ≤ 100000000) :
    Calls Tryd.prog 63 #[.agg #[.slice A n c, .int .i64 lo, .int .i64 hi], .slice AM n cm, .int .i64 H] w fun e w' => e = .returned (.int .i64 (depthC (lpOf ls ms) H)) ∧ Below w.heap.size w w' := by
  have HL := Lib.hid hl; have HM := Lib.hid hm; have HT := Lib.hid ht; have HQ := Lib.hid hq
  have hLL := lp_len hl hm
  have LL := Lib.hid hLL
  clear hl hm ht hq hLL
  have z0 := heap_alloc_new w (.cells #[.slice A n c, .int .i64 lo, .int .i64 hi] 26)
  have hB : Below w.heap.size w (w.alloc (.cells #[.slice A n c, .int .i64 lo, .int .i64 hi] 26)) := (Below.refl _ _).alloc (Nat.le_refl _) _
  obtain ⟨W, hW⟩ : ∃ W, w.alloc (.cells #[.slice A n c, .int .i64 lo, .int .i64 hi] 26) = W := ⟨_, rfl⟩
  rw [hW] at z0 hB
  have HW := Lib.hid hW; have HB := Lib.hid hB; have Z0 := Lib.hid z0
  have LY := Lib.hid (hL.next hB); have MI := Lib.hid (hM.next hB)
  clear hW hB z0 hL hM
  obtain ⟨D, hD⟩ : ∃ D, depthC (lpOf ls ms) H = D := ⟨_, rfl⟩
  rw [hD]
  have HD := Lib.hid hD
  clear hD
  go_enter Tryd.func63, Tryd.ntmps63
  go_wp2
  simp only [HW.out]
  clear HW
  go_loopw [2, 7, 8] (fun a b i wr => ∃ (k : Nat) (d h : Int), k ≤ n ∧ i = .int .i64 k ∧ a = .int .i64 h ∧ b = .int .i64 d ∧ 0 ≤ d ∧ 0 ≤ h ∧ d + h ≤ 100000000 ∧ d + depthC ((lpOf ls ms).drop k) h = D ∧ Below W.heap.size W wr) (fun _ _ i _ => n - (intOf i).toNat)
  case atStart => exact ⟨0, 0, H, Nat.zero_le _, rfl, rfl, rfl, Int.le_refl _, hH, by omega, by rw [List.drop_zero, HD.out]; omega, Below.refl _ _⟩
  case round =>
    obtain ⟨k, d, h, hk, rfl, rfl, rfl, d0, h0, dh, hdc, hbr⟩ := hrel
    have DC := Lib.hid hdc
    have HBR := Lib.hid hbr
    have X0 := Lib.hid ((hbr.block _ (Array.getElem?_eq_some_iff.1 Z0.out).1).trans Z0.out)
    have p0 := cell_of_row wr w.heap.size 0 _ 26 (0, 0) X0.out
    simp at p0
    clear hdc
    by_cases hlt : k < n
    · obtain ⟨x, hx⟩ := get_of_lt (l := ls) (k := k) (by rw [HL.out]; exact hlt)
      obtain ⟨q, hqk⟩ := get_of_lt (l := ms) (k := k) (by rw [HM.out]; exact hlt)
      obtain ⟨b1, o1, rfl, hb1, hc1⟩ := LY.out (by intro h; rw [h] at hx; simp at hx)
      obtain ⟨b2, o2, rfl, hb2, hc2⟩ := MI.out (by intro h; rw [h] at hqk; simp at hqk)
      obtain ⟨c0, _, _⟩ := hc1 k x hx
      replace c0 := ((bcell hbr).1 _ _ hb1).trans c0
      have c2 := ((bcell hbr).1 _ _ hb2).trans (hc2 k q hqk)
      replace hb2 := Nat.lt_of_lt_of_le hb2 hbr.size
      obtain ⟨t1, t2⟩ := HT.out x (List.mem_of_getElem? hx)
      obtain ⟨q1, q2⟩ := HQ.out q (List.mem_of_getElem? hqk)
      have dr := lp_drop hx hqk
      obtain ⟨t, het⟩ : ∃ t, x.t = t := ⟨_, rfl⟩
      rw [het] at c0 t1 t2 dr
      have DR := Lib.hid dr
      have n0 : 0 ≤ h / q := Int.ediv_nonneg h0 (by omega)
      have n1 : h / q ≤ h := Int.ediv_le_self _ h0
      have n2 : h / q * q ≤ h := Int.ediv_mul_le _ (by omega)
      have n3 : 0 ≤ h / q * q := Int.mul_nonneg n0 (by omega)
      have n4 : h / q ≤ h / q * q := by have := Int.mul_le_mul_of_nonneg_left q1 n0; omega
      have hk0 : (0 : Int) ≤ (k : Int) := by omega
      have hk1 : (k : Int) < (n : Int) := by omega
      have hqne : ¬ q = 0 := by omega
      replace hb1 := Nat.lt_of_lt_of_le hb1 hbr.size
      clear hx hqk hc1 hc2 dr het hbr
      have nl : (lpOf ls ms).drop (k + 1) = [] ↔ ¬ k + 1 < n := by rw [List.drop_eq_nil_iff, LL.out]; omega
      by_cases hla : k + 1 < n
      · have st : depthC ((lpOf ls ms).drop k) h = if h < t * q then h / q else t + depthC ((lpOf ls ms).drop (k + 1)) (h - t * q) := by
          rw [DR.out]; exact depthC_step _ _ _ _ (fun e => nl.1 e hla)
        have ST := Lib.hid st
        have di := div_lt_iff (h := h) (t := t) q1
        have m0 : 0 ≤ t * q := Int.mul_nonneg (by omega) (by omega)
        have hla' : (k : Int) + 1 < (n : Int) := by omega
        have lt1 : b2 < wr.heap.size := hb2
        clear nl st
        rcases Int.lt_trichotomy (h / q) t with hc | hc | hc
        · have hd : h < t * q := di.1 hc
          have e : d + h / q = D := by rw [← DC.out, ST.out, if_pos hd]
          have E := Lib.hid e
          clear di e m0
          go_wp2_with fail
          replace c2 : ∀ u : KeptW wr, u.w.cell? ⟨b2, o2 + k, none⟩ = some (.int .i64 q) := fun u => ((bcell u.h).1 _ _ hb2).trans c2
          refine rk_region (by kernel_rfl) (by kernel_rfl) ?_
          repeat (go_big_quiet_step (fail))
          refine wpQuiet_nil ?_
          rintro wy ⟨⟨_, hby⟩, rfl⟩
          have BY := Lib.hid (HBR.out.trans (hby.mono HBR.out.size))
          replace p0 := ((bcell hby).1 _ 0 (Array.getElem?_eq_some_iff.1 X0.out).1).trans p0
          replace c0 := ((bcell hby).1 _ _ hb1).trans c0
          clear c2 hby
          go_wp2_with fail
          go_ret
          exact ⟨ret_int E.out, HB.out.trans (BY.out.mono HB.out.size)⟩
        · have hd : ¬ h < t * q := fun e => by have := di.2 e; omega
          have e : d + (t + depthC ((lpOf ls ms).drop (k + 1)) (h - t * q)) = D := by rw [← DC.out, ST.out, if_neg hd]
          have E := Lib.hid e
          have m2 : t * q ≤ h := by omega
          have m3 : t ≤ t * q := by have := Int.mul_le_mul_of_nonneg_left q1 (show 0 ≤ t by omega); omega
          rw [hc] at n0 n1 n2 n3 n4
          clear di e
          go_wp2_with fail
          replace c2 : ∀ u : KeptW wr, u.w.cell? ⟨b2, o2 + k, none⟩ = some (.int .i64 q) := fun u => ((bcell u.h).1 _ _ hb2).trans c2
          refine rk_region (by kernel_rfl) (by kernel_rfl) ?_
          repeat (go_big_quiet_step (fail))
          refine wpQuiet_nil ?_
          rintro wy ⟨⟨_, hby⟩, rfl⟩
          have BY := Lib.hid (HBR.out.trans (hby.mono HBR.out.size))
          replace p0 := ((bcell hby).1 _ 0 (Array.getElem?_eq_some_iff.1 X0.out).1).trans p0
          replace c0 := ((bcell hby).1 _ _ hb1).trans c0
          clear c2 hby
          go_wp2_with fail
          exact ⟨⟨k + 1, d + t, h - t * q, by omega, by go_num, rfl, rfl, by omega, by omega, by omega, by have := E.out; omega, BY.out⟩, by simp [intOf]; omega⟩
        · have hd : ¬ h < t * q := fun e => by have := di.2 e; omega
          have e : d + (t + depthC ((lpOf ls ms).drop (k + 1)) (h - t * q)) = D := by rw [← DC.out, ST.out, if_neg hd]
          have E := Lib.hid e
          have m2 : t * q ≤ h := by omega
          have m3 : t ≤ t * q := by have := Int.mul_le_mul_of_nonneg_left q1 (show 0 ≤ t by omega); omega
          clear di e n2 n3 n4
          go_wp2_with fail
          replace c2 : ∀ u : KeptW wr, u.w.cell? ⟨b2, o2 + k, none⟩ = some (.int .i64 q) := fun u => ((bcell u.h).1 _ _ hb2).trans c2
          refine rk_region (by kernel_rfl) (by kernel_rfl) ?_
          repeat (go_big_quiet_step (fail))
          refine wpQuiet_nil ?_
          rintro wy ⟨⟨_, hby⟩, rfl⟩
          have BY := Lib.hid (HBR.out.trans (hby.mono HBR.out.size))
          replace p0 := ((bcell hby).1 _ 0 (Array.getElem?_eq_some_iff.1 X0.out).1).trans p0
          replace c0 := ((bcell hby).1 _ _ hb1).trans c0
          clear c2 hby
          go_wp2_with fail
          exact ⟨⟨k + 1, d + t, h - t * q, by omega, by go_num, rfl, rfl, by omega, by omega, by omega, by have := E.out; omega, BY.out⟩, by simp [intOf]; omega⟩
      · have e : d + h / q = D := by
          have := DC.out
          rw [DR.out, nl.2 hla] at this
          simpa [depthC] using this
        have E := Lib.hid e
        have hla' : ¬ (k : Int) + 1 < (n : Int) := by omega
        have hdn : Hid ((lpOf ls ms).drop (k + 1) = []) := Lib.hid (nl.2 hla)
        clear nl e
        go_wp2_with fail
        replace c2 : ∀ u : KeptW wr, u.w.cell? ⟨b2, o2 + k, none⟩ = some (.int .i64 q) := fun u => ((bcell u.h).1 _ _ hb2).trans c2
        refine rk_region (by kernel_rfl) (by kernel_rfl) ?_
        repeat (go_big_quiet_step (fail))
        refine wpQuiet_nil ?_
        rintro wy ⟨⟨_, hby⟩, rfl⟩
        have BY := Lib.hid (HBR.out.trans (hby.mono HBR.out.size))
        replace p0 := ((bcell hby).1 _ 0 (Array.getElem?_eq_some_iff.1 X0.out).1).trans p0
        replace c0 := ((bcell hby).1 _ _ hb1).trans c0
        clear c2 hby
        go_wp2_with fail
        exact ⟨⟨k + 1, d + h / q, h - h / q * q, by omega, by go_num, rfl, rfl, by omega, by omega, by omega, by rw [hdn.out]; have := E.out; simp [depthC]; omega, BY.out⟩, by simp [intOf]; omega⟩
    · obtain rfl : k = n := by omega
      have e : d = D := by
        have := DC.out
        rw [List.drop_of_length_le (by rw [LL.out]; exact Nat.le_refl _)] at this
        simpa [depthC] using this
      subst e
      go_wp2_with fail
      go_ret
      exact ⟨rfl, HB.out.trans (HBR.out.mono HB.out.size)⟩
end Go.Proofs.YtccekbdhffccdaaDoor

namespace Go.Proofs.YtccekbdhffccdaaDoor
open Go.RowKit Go.Shelf

def prs (th lf : List Int) : List Value := (th.zip lf).flatMap fun p => [.int .i64 p.1, .int .i64 p.2]
theorem prs_snoc {th lf : List Int} (h : th.length = lf.length) (a b : Int) : prs (th ++ [a]) (lf ++ [b]) = prs th lf ++ [.int .i64 a, .int .i64 b] := by
  simp [prs, List.zip_append h]
theorem own_ne {w : World} {T : Nat} {cs : Array Value} {tid e : TypeId} (h : w.heap[T]? = some (.cells cs tid (0, 0))) {base size n : Nat} {v : Value} {xs : List Value} (ho : w.ownsRow base e size v n xs) (hne : e ≠ tid) : v.ownBlock ≠ some T := by
  rcases ho.2 with ⟨rfl, _⟩ | ⟨g', cap, cur, rfl, _, hh, _⟩
  · simp [Value.ownBlock]
  · intro he
    have : g' = T := by simpa [Value.ownBlock] using he
    subst this
    rw [hh] at h
    injection h with h
    injection h with _ ht
    exact hne ht
/-- What holds of memory while the specification follows a place: both boxes, what the ground is like, the list. -/
structure FW (w wr : World) (pc tc : Array Value) (R L : Int) (out : Value) (k : Nat) (xs : List Value) : Prop where
  pb : wr.heap[w.heap.size]? = some (.cells pc 26 (0, 0))
  tb : wr.heap[w.heap.size + 1]? = some (.cells tc 41 (0, 0))
  sb : wr.heap[w.heap.size + 1 + 1]? = some (.cells #[.int .i64 R, .int .i64 L] 108 (0, 0))
  own : wr.ownsRow w.heap.size 51 2 out k xs
  bel : Below w.heap.size w wr
theorem FW.next {w wr w2 : World} {pc tc : Array Value} {R L : Int} {out : Value} {k : Nat} {xs : List Value} (h : FW w wr pc tc R L out k xs) (hb : Below wr.heap.size wr w2) : FW w w2 pc tc R L out k xs :=
  ⟨(hb.block _ (Array.getElem?_eq_some_iff.1 h.pb).1).trans h.pb, (hb.block _ (Array.getElem?_eq_some_iff.1 h.tb).1).trans h.tb, (hb.block _ (Array.getElem?_eq_some_iff.1 h.sb).1).trans h.sb, own_next h.own hb, h.bel.trans (hb.mono h.bel.size)⟩
theorem blk108_set {w : World} {g : Nat} {cs : Array Value} (h : w.heap[g]? = some (.cells cs 108 (0, 0))) (j : Nat) (u : Value) : (w.setCell ⟨g, j, none⟩ u).heap[g]? = some (.cells (cs.setIfInBounds j u) 108 (0, 0)) := by
  simp [World.setCell, Array.getElem?_modify, h]
theorem FW.sets {w wr : World} {pc tc : Array Value} {R L R' L' : Int} {out : Value} {k : Nat} {xs : List Value} (h : FW w wr pc tc R L out k xs) :
    FW w ((wr.setCell ⟨w.heap.size + 1 + 1, 0, none⟩ (.int .i64 R')).setCell ⟨w.heap.size + 1 + 1, 1, none⟩ (.int .i64 L')) pc tc R' L' out k xs := by
  have f : Frm wr.heap.size (w.heap.size + 1 + 1) (some (w.heap.size + 1 + 1)) wr ((wr.setCell ⟨w.heap.size + 1 + 1, 0, none⟩ (.int .i64 R')).setCell ⟨w.heap.size + 1 + 1, 1, none⟩ (.int .i64 L')) := (Frm.set_ _ 0 _).trans (Frm.set_ _ 1 _)
  refine ⟨?_, ?_, blk108_set (blk108_set h.sb 0 _) 1 _, own_frm h.own f (own_ne h.sb h.own (by decide)) (.inr (own_ne h.sb h.own (by decide))), ?_⟩
  · exact (Below.heap_setCell _ _ _ _ (by show w.heap.size ≠ _; simp; omega)).trans ((Below.heap_setCell _ _ _ _ (by show w.heap.size ≠ _; simp; omega)).trans h.pb)
  · exact (Below.heap_setCell _ _ _ _ (by show w.heap.size + 1 ≠ _; simp)).trans ((Below.heap_setCell _ _ _ _ (by show w.heap.size + 1 ≠ _; simp)).trans h.tb)
  · exact (h.bel.setCell (p := ⟨w.heap.size + 1 + 1, 0, none⟩) (by show _ ≤ w.heap.size + 1 + 1; omega) _).setCell (p := ⟨w.heap.size + 1 + 1, 1, none⟩) (by show _ ≤ w.heap.size + 1 + 1; omega) _
theorem FW.app {w wr w3 : World} {pc tc : Array Value} {R L : Int} {out v' : Value} {k : Nat} {xs ys : List Value} {o : Obj} (h : FW w wr pc tc R L out k xs) (hg : (wr.alloc o).grownBy w3 out.ownBlock) (ho : w3.ownsRow w.heap.size 51 2 v' (k + 1) ys) :
    FW w w3 pc tc R L v' (k + 1) ys := by
  have h2 := h.next ((Below.refl wr.heap.size wr).alloc (Nat.le_refl _) o)
  have kb : ∀ {T : Nat} {cs : Array Value} {tid : TypeId}, (wr.alloc o).heap[T]? = some (.cells cs tid (0, 0)) → (51 : TypeId) ≠ tid → w3.heap[T]? = some (.cells cs tid (0, 0)) := fun hT hne =>
    (hg.block _ (Array.getElem?_eq_some_iff.1 hT).1 (fun e => own_ne hT h2.own hne e.symm)).trans hT
  exact ⟨kb h2.pb (by decide), kb h2.tb (by decide), kb h2.sb (by decide), ho, h2.bel.grown hg h2.bel.size (fun j hj => (h2.own.lt _ hj).1)⟩
/-- A slice that reads as what is seen of years. -/
def SeenAt (w : World) (A : Option Addr) (s : St) : Prop :=
  s.th ≠ [] → ∃ b o, A = some ⟨b, o, none⟩ ∧ b < w.heap.size ∧ ∀ i, i < s.th.length → w.cell? ⟨b, o + i * 2, none⟩ = some (.int .i64 (at0 s.th i)) ∧ w.cell? ⟨b, o + i * 2 + 1, none⟩ = some (.int .i64 (at0 s.lf i))
theorem seen_info : (Tryd.prog.info? 51).map (fun i => (i.zero, i.size, i.bytes)) = some (some (.agg #[.int .i64 0, .int .i64 0]), 2, 16) := by kernel_rfl

theorem summer_kept {R L h R' L' : Int} {w0 : World} (hR : 0 ≤ R ∧ R ≤ 100000000) (hL : 0 ≤ L ∧ L ≤ 100000000) (hh : 0 ≤ h ∧ h ≤ 100000000) (e1 : reachI R (L + h) = R') (e2 : L + h = L') (u : KeptW w0) :
    Calls Tryd.prog 62 #[.agg #[.int .i64 R, .int .i64 L], .int .i64 h] u.w fun e w' => e = .returned (.agg #[.int .i64 R', .int .i64 L']) ∧ ∃ u' : KeptW w0, w' = u'.w :=
  Calls.in_kept u (by rw [← e1, ← e2]; exact summerR_any R L h hR hL hh u.w)
theorem winter_kept {R L g R' L' : Int} {w0 : World} (hL : 0 ≤ L ∧ L ≤ 100000000) (hg : 0 ≤ g ∧ g ≤ 100000000) (e1 : (if L ≤ g then 0 else R) = R') (e2 : (if L ≤ g then 0 else L - g) = L') (u : KeptW w0) :
    Calls Tryd.prog 64 #[.agg #[.int .i64 R, .int .i64 L], .int .i64 g] u.w fun e w' => e = .returned (.agg #[.int .i64 R', .int .i64 L']) ∧ ∃ u' : KeptW w0, w' = u'.w :=
  Calls.in_kept u (by rw [← e1, ← e2]; exact winterR_any R L g hL hg u.w)
theorem goes_b {W S : Int} (hW : 0 ≤ W ∧ W ≤ 1000000) (hS : 0 ≤ S ∧ S ≤ 1000) : 0 ≤ W * (1000 - S) / 1000 ∧ W * (1000 - S) / 1000 ≤ 1000000 := by
  have hp0 : 0 ≤ W * (1000 - S) := Int.mul_nonneg hW.1 (by omega)
  have hp1 : W * (1000 - S) ≤ 1000000000 := Int.le_trans (Int.mul_le_mul hW.2 (show 1000 - S ≤ 1000 by omega) (by omega) (by omega)) (by decide)
  generalize W * (1000 - S) = p at *
  omega
theorem prs_get : ∀ (th lf : List Int) (j : Nat), j < th.length → th.length = lf.length → (prs th lf)[j * 2]? = some (.int .i64 (at0 th j)) ∧ (prs th lf)[j * 2 + 1]? = some (.int .i64 (at0 lf j))
  | [], _, j, h, _ => by simp at h
  | a :: th, [], j, _, h2 => by simp at h2
  | a :: th, b :: lf, 0, _, _ => by simp [prs, at0]
  | a :: th, b :: lf, j + 1, h, h2 => by
    have := prs_get th lf j (by simpa using h) (by simpa using h2)
    have e : prs (a :: th) (b :: lf) = .int .i64 a :: .int .i64 b :: prs th lf := by simp [prs]
    rw [e, show (j + 1) * 2 = j * 2 + 1 + 1 by omega]
    simpa [at0] using this
theorem runS_len (ls : List Lay) (t : Tru) (mo : Int) : ∀ k, (runS ls t mo k).th.length = k ∧ (runS ls t mo k).lf.length = k
  | 0 => by simp [runS, st0]
  | k + 1 => by
    have := runS_len ls t mo k
    rw [runS, step_eq]
    simp [this]
theorem seen_of_own {w : World} {B n : Nat} {v : Value} {s : St} (h : w.ownsRow B 51 2 v n (prs s.th s.lf)) (h1 : s.th.length = n) (h2 : s.lf.length = n) : ∃ A c, v = .slice A n c ∧ n ≤ c ∧ SeenAt w A s := by
  rcases h.2 with ⟨rfl, rfl⟩ | ⟨g, cap, cur, rfl, hg, hh, hn, hc, hs, ht⟩
  · exact ⟨none, 0, rfl, Nat.le_refl _, fun hne => absurd (List.length_eq_zero_iff.1 h1) hne⟩
  · refine ⟨_, cap, rfl, hn, fun _ => ⟨g, 0, rfl, (Array.getElem?_eq_some_iff.1 hh).1, fun j hj => ?_⟩⟩
    have hc2 : ∀ i, i < 2 → w.cell? ⟨g, 0 + j * 2 + i, none⟩ = (prs s.th s.lf)[j * 2 + i]? := fun i hi => by
      rw [cell_of_row w g _ cur 51 (0, 0) hh, Nat.zero_add, ← ht, List.getElem?_take_of_lt (by omega), ← Array.getElem?_toList]
    obtain ⟨q0, q1⟩ := prs_get s.th s.lf j hj (by omega)
    exact ⟨(hc2 0 (by omega)).trans q0, (hc2 1 (by omega)).trans q1⟩
theorem two_new (w : World) (a b : Value) (t : TypeId) : ∀ j u, [a, b][j]? = some u → (w.alloc (.cells #[a, b] t)).cell? ((⟨w.heap.size, 0, none⟩ : Addr).add j) = some u := by
  intro j u hj
  have h := heap_alloc_new w (.cells #[a, b] t)
  have hl : j < 2 := (List.getElem?_eq_some_iff.1 hj).1
  rw [show (⟨w.heap.size, 0, none⟩ : Addr).add j = ⟨w.heap.size, j, none⟩ by simp [Addr.add]; omega, cell_of_row _ w.heap.size _ _ t (0, 0) h]
  match j, hl with
  | 0, _ => exact hj
  | 1, _ => exact hj
theorem step_at {ls : List Lay} {ms : List Int} {S : St} {R L h e3 e4 mo g R1 L1 D R2 L2 : Int} (h1 : S.R = R) (h2 : S.Lf = L) (h3 : L + h = L1) (h4 : reachI R L1 = R1) (h5 : e3 * (1000 - e4) / 1000 = g) (h6 : depthF ls ms R1 = D)
    (h7 : (if L1 ≤ g + mo then 0 else R1) = R2) (h8 : (if L1 ≤ g + mo then 0 else L1 - (g + mo)) = L2) :
    (stepS ls ms S h (letsI e3 e4 mo)).R = R2 ∧ (stepS ls ms S h (letsI e3 e4 mo)).Lf = L2 ∧ (stepS ls ms S h (letsI e3 e4 mo)).th = S.th ++ [D] ∧ (stepS ls ms S h (letsI e3 e4 mo)).lf = S.lf ++ [L2] := by
  have hl : letsI e3 e4 mo = g + mo := by unfold letsI; rw [h5]
  rw [hl, step_eq]
  subst h1 h2 h3 h4 h6 h7 h8
  exact ⟨rfl, rfl, rfl, rfl⟩
theorem depth_here {A AM : Option Addr} {n c cm : Nat} {ls : List Lay} {ms : List Int} {lo hi H D : Int} {w : World} (hl : ls.length = n) (h1 : 1 ≤ n) (h6 : n ≤ 6) (hL : LaysAt w w.heap.size A ls) (hm : ms.length = n) (hM : IntsAt w w.heap.size AM ms)
    (ht : ∀ x ∈ ls, 1 ≤ x.t ∧ x.t ≤ 20000) (hq : ∀ x ∈ ms, 1 ≤ x ∧ x ≤ 1000) (hH : 0 ≤ H) (hH2 : H ≤ 100000000) (e : depthF ls ms H = D) :
    Calls Tryd.prog 63 #[.agg #[.slice A n c, .int .i64 lo, .int .i64 hi], .slice AM n cm, .int .i64 H] w fun e w' => e = .returned (.int .i64 D) ∧ Below w.heap.size w w' := by
  rw [← e, depthF_C (by omega) (by omega) (fun x hx => (ht x hx).1) (fun x hx => (hq x hx).1) hH (by omega)]
  exact depthR_any A AM n c cm ls ms lo hi H w hl h1 h6 hL hm hM ht hq hH hH2
set_option maxRecDepth 100000 in
set_option maxHeartbeats 4000000 in
theorem followR_any (A AM AW AS AV AN : Option Addr) (n c N cm cw cs cv cn : Nat) (ls : List Lay) (T : Tru) (lo hi mo : Int) (w : World) (hl : ls.length = n) (h1 : 1 ≤ n) (h6 : n ≤ 6) (hL : LaysAt w w.heap.size A ls) (ht : ∀ x ∈ ls, 1 ≤ x.t ∧ x.t ≤ 20000) (hT : TruOk T n N) (hN : N ≤ 12) (hmo : 0 ≤ mo ∧ mo ≤ 1000000)
    (i1 : IntsAt w w.heap.size AM T.ms) (i2 : IntsAt w w.heap.size AW T.ws) (i3 : IntsAt w w.heap.size AS T.ss) (i4 : IntsAt w w.heap.size AV T.vs) (i5 : IntsAt w w.heap.size AN T.ns) :
    Calls Tryd.prog 27 #[.agg #[.slice A n c, .int .i64 lo, .int .i64 hi], .agg #[.slice AM n cm, .slice AW N cw, .slice AS N cs, .slice AV N cv, .slice AN N cn], .int .i64 mo] w fun e w' => ∃ (B : Option Addr) (k : Nat), e = .returned (.slice B N k) ∧ N ≤ k ∧ SeenAt w' B (runS ls T mo N) ∧ Below w.heap.size w w' := by
  have HL := Lib.hid hl; have HTT := Lib.hid ht; have HTK := Lib.hid hT; have HMO := Lib.hid hmo
  clear hl ht hT
  obtain ⟨mo0, mo1⟩ := hmo
  obtain ⟨j0, hj0, jz0, jz1, jz2⟩ := info_parts seen_info
  have J0 := Lib.hid hj0; have JZ0 := Lib.hid jz0; have JZ1 := Lib.hid jz1; have JZ2 := Lib.hid jz2
  clear hj0 jz0 jz1 jz2
  have hF : FW w (((w.alloc (.cells #[.slice A n c, .int .i64 lo, .int .i64 hi] 26)).alloc (.cells #[.slice AM n cm, .slice AW N cw, .slice AS N cs, .slice AV N cv, .slice AN N cn] 41)).alloc (.cells #[.int .i64 0, .int .i64 0] 108)) #[.slice A n c, .int .i64 lo, .int .i64 hi] #[.slice AM n cm, .slice AW N cw, .slice AS N cs, .slice AV N cv, .slice AN N cn] 0 0 (.slice none 0 0) 0 [] := by
    have e0 := heap_alloc_new w (.cells #[.slice A n c, .int .i64 lo, .int .i64 hi] 26)
    have e1 := heap_alloc_new (w.alloc (.cells #[.slice A n c, .int .i64 lo, .int .i64 hi] 26)) (.cells #[.slice AM n cm, .slice AW N cw, .slice AS N cs, .slice AV N cv, .slice AN N cn] 41)
    have e2 := heap_alloc_new ((w.alloc (.cells #[.slice A n c, .int .i64 lo, .int .i64 hi] 26)).alloc (.cells #[.slice AM n cm, .slice AW N cw, .slice AS N cs, .slice AV N cv, .slice AN N cn] 41)) (.cells #[.int .i64 0, .int .i64 0] 108)
    simp only [World.size_alloc] at e1 e2
    exact ⟨(Below.heap_alloc _ _ _ (by simp; omega)).trans ((Below.heap_alloc _ _ _ (by simp)).trans e0), (Below.heap_alloc _ _ _ (by simp)).trans e1, e2, World.ownsRow_nil _ _ _ _, (((Below.refl _ _).alloc (Nat.le_refl _) _).alloc (by simp) _).alloc (by simp; omega) _⟩
  have F0 := Lib.hid hF
  clear hF
  have hN0 : (N : Int) ≤ 12 := by omega
  go_enter Tryd.func27, Tryd.ntmps27
  go_wp2
  go_loopw [7, 9] (fun o i wr => ∃ k : Nat, k ≤ N ∧ i = .int .i64 k ∧ FW w wr #[.slice A n c, .int .i64 lo, .int .i64 hi] #[.slice AM n cm, .slice AW N cw, .slice AS N cs, .slice AV N cv, .slice AN N cn] (runS ls T mo k).R (runS ls T mo k).Lf o k (prs (runS ls T mo k).th (runS ls T mo k).lf)) (fun _ i _ => N - (intOf i).toNat)
  case atStart => exact ⟨0, Nat.zero_le _, rfl, F0.out⟩
  case round =>
    obtain ⟨k, hk, rfl, hI⟩ := hrel
    have F := Lib.hid hI
    have t2 := cell_of_row wr (w.heap.size + 1) 2 _ 41 (0, 0) F.out.tb
    simp at t2
    clear hI F0
    by_cases hlt : k < N
    · have rb := runS_b (ls := ls) HTK.out ⟨mo0, mo1⟩ k (by omega)
      obtain ⟨x1, x1'⟩ := at0_mem (l := T.ws) (k := k) (by rw [HTK.out.lw]; exact hlt)
      obtain ⟨x2, x2'⟩ := at0_mem (l := T.ss) (k := k) (by rw [HTK.out.lS]; exact hlt)
      obtain ⟨x3, x3'⟩ := at0_mem (l := T.vs) (k := k) (by rw [HTK.out.lv]; exact hlt)
      obtain ⟨x4, x4'⟩ := at0_mem (l := T.ns) (k := k) (by rw [HTK.out.ln]; exact hlt)
      have w1 := HTK.out.bw _ x1'
      have w2 := HTK.out.bS _ x2'
      have w3 := HTK.out.bv _ x3'
      have w4 := HTK.out.bn _ x4'
      obtain ⟨b1, u1, rfl, lb1, c1⟩ := i2 (by intro h; rw [h] at x1; simp at x1)
      obtain ⟨b2, u2, rfl, lb2, c2⟩ := i3 (by intro h; rw [h] at x2; simp at x2)
      obtain ⟨b3, u3, rfl, lb3, c3⟩ := i4 (by intro h; rw [h] at x3; simp at x3)
      obtain ⟨b4, u4, rfl, lb4, c4⟩ := i5 (by intro h; rw [h] at x4; simp at x4)
      replace c1 := ((bcell F.out.bel).1 _ _ lb1).trans (c1 k _ x1)
      replace c2 := ((bcell F.out.bel).1 _ _ lb2).trans (c2 k _ x2)
      have c3' := Lib.hid (c3 k _ x3)
      have c4' := Lib.hid (c4 k _ x4)
      have MX : Hid (runS ls T mo (k + 1) = stepS ls T.ms (runS ls T mo k) (at0 T.ws k + at0 T.ss k) (letsI (at0 T.vs k) (at0 T.ns k) mo)) := Lib.hid rfl
      obtain ⟨S, hS⟩ : ∃ S, runS ls T mo k = S := ⟨_, rfl⟩
      rw [hS] at rb MX F
      obtain ⟨e1, he1⟩ : ∃ x, at0 T.ws k = x := ⟨_, rfl⟩
      obtain ⟨e2, he2⟩ : ∃ x, at0 T.ss k = x := ⟨_, rfl⟩
      obtain ⟨e3, he3⟩ : ∃ x, at0 T.vs k = x := ⟨_, rfl⟩
      obtain ⟨e4, he4⟩ : ∃ x, at0 T.ns k = x := ⟨_, rfl⟩
      rw [he1] at c1 w1 MX
      rw [he2] at c2 w2 MX
      rw [he3] at w3 MX c3'
      rw [he4] at w4 MX c4'
      obtain ⟨R, hR⟩ : ∃ x, S.R = x := ⟨_, rfl⟩
      obtain ⟨L, hLe⟩ : ∃ x, S.Lf = x := ⟨_, rfl⟩
      rw [hR, hLe] at F
      rw [hR, hLe] at rb
      have r0 : 0 ≤ R ∧ R ≤ 24000000 := by omega
      have l0 : 0 ≤ L ∧ L ≤ 24000000 := by omega
      have hw0 : 0 ≤ e1 + e2 ∧ e1 + e2 ≤ 2000000 := by omega
      have SR := Lib.hid hR; have SL := Lib.hid hLe; have SS_ := Lib.hid hS; have RB := Lib.hid rb; have R0 := Lib.hid r0; have L0 := Lib.hid l0; have W0 := Lib.hid hw0; have W3 := Lib.hid w3; have W4 := Lib.hid w4
      have hz := F.out.bel.size
      have lt1 : b1 < wr.heap.size := by omega
      have lt2 : b2 < wr.heap.size := by omega
      have ltT := (Array.getElem?_eq_some_iff.1 F.out.tb).1
      have d1 := cell_of_row wr (w.heap.size + 1) 1 _ 41 (0, 0) F.out.tb
      have s0 := cell_of_row wr (w.heap.size + 1 + 1) 0 _ 108 (0, 0) F.out.sb
      have s1 := cell_of_row wr (w.heap.size + 1 + 1) 1 _ 108 (0, 0) F.out.sb
      simp at d1 s0 s1
      obtain ⟨w1a, w1b⟩ := w1
      obtain ⟨w2a, w2b⟩ := w2
      have hk0 : (0 : Int) ≤ (k : Int) := by omega
      have hk1 : (k : Int) < (N : Int) := by omega
      have hwr : IntKind.i64.wrap (e1 + e2) = e1 + e2 := IntWalk.i64_in _ (by omega)
      have y1 : ¬ b1 = w.heap.size + 1 + 1 := by omega
      have y2 : ¬ b2 = w.heap.size + 1 + 1 := by omega
      have y3 : ¬ w.heap.size + 1 + 1 = b1 := by omega
      have y4 : ¬ w.heap.size + 1 + 1 = b2 := by omega
      clear x1 x2 x3 x4 x1' x2' x3' x4' hS he1 he2 he3 he4 hR hLe rb r0 l0 hw0 w3 w4 c3 c4 hz
      obtain ⟨R1, hR1⟩ : ∃ x, reachI R (L + (e1 + e2)) = x := ⟨_, rfl⟩
      obtain ⟨L1, hL1⟩ : ∃ x, L + (e1 + e2) = x := ⟨_, rfl⟩
      have HR1 := Lib.hid hR1; have HL1 := Lib.hid hL1
      clear hR1 hL1
      have d1u : ∀ u : KeptW wr, u.w.cell? ⟨w.heap.size + 1, 1, none⟩ = some (.slice (some ⟨b1, u1, none⟩) N cw) := fun u => ((bcell u.h).1 _ _ ltT).trans d1
      have t2u : ∀ u : KeptW wr, u.w.cell? ⟨w.heap.size + 1, 2, none⟩ = some (.slice (some ⟨b2, u2, none⟩) N cs) := fun u => ((bcell u.h).1 _ _ ltT).trans t2
      have c1u : ∀ u : KeptW wr, u.w.cell? ⟨b1, u1 + k, none⟩ = some (.int .i64 e1) := fun u => ((bcell u.h).1 _ _ lt1).trans c1
      have c2u : ∀ u : KeptW wr, u.w.cell? ⟨b2, u2 + k, none⟩ = some (.int .i64 e2) := fun u => ((bcell u.h).1 _ _ lt2).trans c2
      have ltS := (Array.getElem?_eq_some_iff.1 F.out.sb).1
      have s0u : ∀ u : KeptW wr, u.w.cell? ⟨w.heap.size + 1 + 1, 0, none⟩ = some (.int .i64 R) := fun u => ((bcell u.h).1 _ _ ltS).trans s0
      have s1u : ∀ u : KeptW wr, u.w.cell? ⟨w.heap.size + 1 + 1, 1, none⟩ = some (.int .i64 L) := fun u => ((bcell u.h).1 _ _ ltS).trans s1
      have zfu : ∀ (u : KeptW wr) (j : Nat), u.w.frozen? ⟨w.heap.size + 1 + 1, j, none⟩ = false := fun u j => by simp [World.frozen?, (u.h.block _ ltS).trans F.out.sb]
      go_wp2_with fail
      clear d1 t2 c1 c2 s0 s1
      apply rk_tail (C := fun w' => ∃ u : KeptW wr, w' = u.w)
      case hs => exact (rfl : _ = [_, _, _, _, _, _, _, _, _, _, _, _, _] ++ [_])
      case hm => kernel_rfl
      case hB => kernel_rfl
      case hT => kernel_rfl
      case hC => exact ⟨⟨wr.drew, (Below.refl wr.heap.size wr).drew⟩, rfl⟩
      repeat (go_big_quiet_step (first | (with_reducible exact summer_kept ⟨R0.out.1, Int.le_trans R0.out.2 (by decide)⟩ ⟨L0.out.1, Int.le_trans L0.out.2 (by decide)⟩ ⟨W0.out.1, Int.le_trans W0.out.2 (by decide)⟩ HR1.out HL1.out _) | fail))
      refine wpQuiet_nil ?_
      rintro _ ⟨u, rfl⟩
      have z0 := zfu u 0
      have z1 := zfu u 1
      have q0 := s0u u
      have q1 := s1u u
      unfold Oper.wp
      simp [go_sem, z0, z1, q0, q1]
      have G := Lib.hid ((F.out.next u.h).sets (R' := R1) (L' := L1))
      clear z0 z1 q0 q1 d1u t2u c1u c2u s0u s1u zfu
      generalize (u.w.setCell ⟨w.heap.size + 1 + 1, 0, none⟩ (Value.int .i64 R1)).setCell ⟨w.heap.size + 1 + 1, 1, none⟩ (Value.int .i64 L1) = wb at G ⊢
      clear F
      have hR1b : 0 ≤ R1 ∧ R1 ≤ 100000000 := by
        have a1 := HR1.out; have a2 := R0.out; have a3 := L0.out; have a4 := W0.out
        rw [← reach_max] at a1
        omega
      have hL1b : 0 ≤ L1 ∧ L1 ≤ 100000000 := by
        have a1 := HL1.out; have a3 := L0.out; have a4 := W0.out
        omega
      have R1B := Lib.hid hR1b; have L1B := Lib.hid hL1b
      clear hR1b hL1b
      obtain ⟨D, hD⟩ : ∃ x, depthF ls T.ms R1 = x := ⟨_, rfl⟩
      have HD := Lib.hid hD
      clear hD
      have ltP := (Array.getElem?_eq_some_iff.1 G.out.pb).1
      have ltT2 := (Array.getElem?_eq_some_iff.1 G.out.tb).1
      have ltS2 := (Array.getElem?_eq_some_iff.1 G.out.sb).1
      have p0 := cell_of_row wb w.heap.size 0 _ 26 (0, 0) G.out.pb
      have p1 := cell_of_row wb w.heap.size 1 _ 26 (0, 0) G.out.pb
      have p2 := cell_of_row wb w.heap.size 2 _ 26 (0, 0) G.out.pb
      have t0 := cell_of_row wb (w.heap.size + 1) 0 _ 41 (0, 0) G.out.tb
      have s0 := cell_of_row wb (w.heap.size + 1 + 1) 0 _ 108 (0, 0) G.out.sb
      simp at p0 p1 p2 t0 s0
      have iL := Lib.hid (hL.next G.out.bel)
      have iM := Lib.hid (i1.next G.out.bel)
      go_wp2_with fail
      refine (depth_here HL.out h1 h6 iL.out HTK.out.lm iM.out HTT.out HTK.out.bm R1B.out.1 R1B.out.2 HD.out).mono ?_
      rintro e wc ⟨rfl, hbc⟩
      have G2 := Lib.hid (G.out.next hbc)
      clear p0 p1 p2 t0 s0 ltP ltT2 ltS2 iL iM G hbc
      obtain ⟨g0, hg0⟩ : ∃ x, e3 * (1000 - e4) / 1000 = x := ⟨_, rfl⟩
      have hgb : 0 ≤ g0 ∧ g0 ≤ 1000000 := by
        have := goes_b W3.out W4.out
        rw [hg0] at this
        exact this
      have HG0 := Lib.hid hg0; have HGB := Lib.hid hgb
      clear hg0
      have hwg : IntKind.i64.wrap (g0 + mo) = g0 + mo := IntWalk.i64_in _ (by omega)
      obtain ⟨R2, hR2⟩ : ∃ x, (if L1 ≤ g0 + mo then 0 else R1) = x := ⟨_, rfl⟩
      obtain ⟨L2, hL2⟩ : ∃ x, (if L1 ≤ g0 + mo then 0 else L1 - (g0 + mo)) = x := ⟨_, rfl⟩
      have HR2 := Lib.hid hR2; have HL2 := Lib.hid hL2
      have GM := Lib.hid (show 0 ≤ g0 + mo ∧ g0 + mo ≤ 100000000 by omega)
      clear hR2 hL2 hgb
      have ltT2 := (Array.getElem?_eq_some_iff.1 G2.out.tb).1
      have ltS2 := (Array.getElem?_eq_some_iff.1 G2.out.sb).1
      have lt3 := Nat.lt_of_lt_of_le lb3 G2.out.bel.size
      have lt4 := Nat.lt_of_lt_of_le lb4 G2.out.bel.size
      have t3 := cell_of_row wc (w.heap.size + 1) 3 _ 41 (0, 0) G2.out.tb
      have t4 := cell_of_row wc (w.heap.size + 1) 4 _ 41 (0, 0) G2.out.tb
      have s0 := cell_of_row wc (w.heap.size + 1 + 1) 0 _ 108 (0, 0) G2.out.sb
      have s1 := cell_of_row wc (w.heap.size + 1 + 1) 1 _ 108 (0, 0) G2.out.sb
      simp at t3 t4 s0 s1
      have c3 := ((bcell G2.out.bel).1 _ _ lb3).trans c3'.out
      have c4 := ((bcell G2.out.bel).1 _ _ lb4).trans c4'.out
      replace t3 : ∀ u : KeptW wc, u.w.cell? ⟨w.heap.size + 1, 3, none⟩ = some (.slice (some ⟨b3, u3, none⟩) N cv) := fun u => ((bcell u.h).1 _ _ ltT2).trans t3
      replace t4 : ∀ u : KeptW wc, u.w.cell? ⟨w.heap.size + 1, 4, none⟩ = some (.slice (some ⟨b4, u4, none⟩) N cn) := fun u => ((bcell u.h).1 _ _ ltT2).trans t4
      replace c3 : ∀ u : KeptW wc, u.w.cell? ⟨b3, u3 + k, none⟩ = some (.int .i64 e3) := fun u => ((bcell u.h).1 _ _ lt3).trans c3
      replace c4 : ∀ u : KeptW wc, u.w.cell? ⟨b4, u4 + k, none⟩ = some (.int .i64 e4) := fun u => ((bcell u.h).1 _ _ lt4).trans c4
      replace s0 : ∀ u : KeptW wc, u.w.cell? ⟨w.heap.size + 1 + 1, 0, none⟩ = some (.int .i64 R1) := fun u => ((bcell u.h).1 _ _ ltS2).trans s0
      replace s1 : ∀ u : KeptW wc, u.w.cell? ⟨w.heap.size + 1 + 1, 1, none⟩ = some (.int .i64 L1) := fun u => ((bcell u.h).1 _ _ ltS2).trans s1
      have zfc : ∀ (u : KeptW wc) (j : Nat), u.w.frozen? ⟨w.heap.size + 1 + 1, j, none⟩ = false := fun u j => by simp [World.frozen?, (u.h.block _ ltS2).trans G2.out.sb]
      go_wp2_with fail
      apply rk_tail (C := fun w' => ∃ u : KeptW wc, w' = u.w)
      case hs => exact (rfl : _ = [_, _, _, _, _, _, _, _, _, _, _, _, _, _, _] ++ [_])
      case hm => kernel_rfl
      case hB => kernel_rfl
      case hT => kernel_rfl
      case hC => exact ⟨⟨wc.drew, (Below.refl wc.heap.size wc).drew⟩, rfl⟩
      repeat (go_big_quiet_step (first | (with_reducible exact goes_kept HG0.out W3.out W4.out _) | (with_reducible exact winter_kept L1B.out GM.out HR2.out HL2.out _) | fail))
      refine wpQuiet_nil ?_
      rintro _ ⟨u2, rfl⟩
      have z0 := zfc u2 0
      have z1 := zfc u2 1
      have q0 := s0 u2
      have q1 := s1 u2
      unfold Oper.wp
      simp [go_sem, z0, z1, q0, q1]
      have G := Lib.hid ((G2.out.next u2.h).sets (R' := R2) (L' := L2))
      clear z0 z1 q0 q1 t3 t4 c3 c4 s0 s1 zfc ltT2 ltS2 lt3 lt4 hwg
      generalize (u2.w.setCell ⟨w.heap.size + 1 + 1, 0, none⟩ (Value.int .i64 R2)).setCell ⟨w.heap.size + 1 + 1, 1, none⟩ (Value.int .i64 L2) = wd at G ⊢
      clear G2
      have s1 := cell_of_row wd (w.heap.size + 1 + 1) 1 _ 108 (0, 0) G.out.sb
      simp at s1
      have LS := runS_len ls T mo k
      rw [SS_.out] at LS
      have hown := Lib.hid G.out.own
      have hkz : k + 1 ≤ 12 := by omega
      go_wp2_with (first
        | (at_builtin
           refine wpList_append_own _ rfl _ _ 48 rfl w.heap.size 51 j0 _ 2 16 Tryd.underlying48 J0.out JZ0.out JZ1.out JZ2.out rfl (by decide) _ _ _ rfl (hown.out.alloc _) ⟨wd.heap.size, 0, none⟩ 1 1 [.int .i64 D, .int .i64 L2] rfl rfl (two_new _ _ _ _) (by simp [Value.oneCell']) (by unfold maxLen; omega) (by omega) (by have := G.out.bel.size; simp; omega) ?_
           intro v' w4 hown4 hgrow4 _)
        | fail)
      have G4 := Lib.hid (G.out.app hgrow4 hown4)
      obtain ⟨m1, m2, m3, m4⟩ := step_at (ls := ls) (ms := T.ms) SR.out SL.out HL1.out (by rw [← HL1.out]; exact HR1.out) HG0.out HD.out HR2.out HL2.out
      refine ⟨⟨k + 1, by omega, rfl, ?_⟩, by simp [intOf]; omega⟩
      rw [MX.out, m1, m2, m3, m4, prs_snoc (by omega)]
      exact G4.out
    · have hkn : k = N := by omega
      subst hkn
      go_wp2
      go_ret
      have LS := runS_len ls T mo k
      obtain ⟨B, c, rfl, h1, h2⟩ := seen_of_own F.out.own LS.1 LS.2
      exact ⟨B, c, rfl, h1, h2, F.out.bel⟩
end Go.Proofs.YtccekbdhffccdaaDoor
