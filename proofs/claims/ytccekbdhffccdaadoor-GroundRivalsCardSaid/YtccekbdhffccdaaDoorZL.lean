/- What is known of each year, as the specification says it; the statement on years. -/
import Derived.Test.YtccekbdhffccdaaDoorRF
import Derived.Test.YtccekbdhffccdaaDoorZH
import Derived.Test.YtccekbdhffccdaaDoorZJ
import Derived.Test.YtccekbdhffccdaaDoorHH
namespace Go.Proofs.YtccekbdhffccdaaDoor
open Go.RowKit Go.Shelf

def snc (x : Sn) : List Value := [.int .i64 x.tl, .int .i64 x.th, .int .i64 x.ll, .int .i64 x.lh, .int .i64 x.tk]
def snRows (l : List Sn) : List Value := l.flatMap snc
theorem snRows_get : ∀ (l : List Sn) (i : Nat) (x : Sn), l[i]? = some x → ∀ j, j < 5 → (snRows l)[i * 5 + j]? = (snc x)[j]?
  | [], i, x, h, _, _ => by simp at h
  | a :: l, 0, x, h, j, hj => by
    have : a = x := by simpa using h
    subst this
    have e : snRows (a :: l) = snc a ++ snRows l := by simp [snRows]
    rw [e, List.getElem?_append_left (by simp [snc]; omega)]
    simp
  | a :: l, i + 1, x, h, j, hj => by
    have e : snRows (a :: l) = snc a ++ snRows l := by simp [snRows]
    rw [e, List.getElem?_append_right (by simp [snc]; omega)]
    have := snRows_get l i x (by simpa using h) j hj
    rw [← this]
    congr 1
    simp [snc]
    omega
theorem seenI_succ (a b : St) (k : Nat) : snRows (seenI a b (k + 1)) = snRows (seenI a b k) ++ snc (snI a b k) := by
  simp [snRows, seenI, List.range_succ]
theorem sns_of_own {w : World} {B n : Nat} {v : Value} {l : List Sn} (h : w.ownsRow B 58 5 v n (snRows l)) (hl : l.length = n) : ∃ A c, v = .slice A n c ∧ SnsAt w w.heap.size A l := by
  rcases h.2 with ⟨rfl, rfl⟩ | ⟨g, cap, cur, rfl, hg, hh, hn, hc, hs, ht⟩
  · exact ⟨none, 0, rfl, fun hne => absurd (List.length_eq_zero_iff.1 hl) hne⟩
  · refine ⟨_, cap, rfl, fun _ => ⟨g, 0, rfl, (Array.getElem?_eq_some_iff.1 hh).1, fun i x hx => ?_⟩⟩
    have hi : i < l.length := (List.getElem?_eq_some_iff.1 hx).1
    have key : ∀ j, j < 5 → w.cell? ⟨g, 0 + i * 5 + j, none⟩ = (snc x)[j]? := fun j hj => by
      rw [cell_of_row w g _ cur 58 (0, 0) hh, Nat.zero_add, ← snRows_get l i x hx j hj, ← ht, List.getElem?_take_of_lt (by omega), ← Array.getElem?_toList]
    exact ⟨key 0 (by decide), key 1 (by decide), key 2 (by decide), key 3 (by decide), key 4 (by decide)⟩
def knCv (PV Y : Value) (pb : Nat) : Tmp → Value
  | 1 => Y
  | 2 => .pointer (some ⟨pb, 0, none⟩)
  | 10 => PV
  | 11 => PV
  | 12 => Y
  | 15 => PV
  | 16 => PV
  | 17 => Y
  | _ => undef
def knF (m : Nat) (T1 T2 : Tru) (S1 S2 : St) : Nat → Value → World → Prop
  | 3, v, w => TruAt w v T1
  | 4, v, w => SnAt w v m S1
  | 8, v, w => TruAt w v T2
  | 9, v, w => SnAt w v m S2
  | 10, v, w => SnAt w v m S1
  | 11, v, w => SnAt w v m S2
  | _, _, _ => True
theorem knF_keep (m : Nat) (T1 T2 : Tru) (S1 S2 : St) (i : Nat) (v : Value) (w1 w2 : World) (h : knF m T1 T2 S1 S2 i v w1) (hb : Below w1.heap.size w1 w2) : knF m T1 T2 S1 S2 i v w2 := by
  unfold knF at *
  split
  · exact TruAt.next h hb
  · exact SnAt.next h hb
  · exact TruAt.next h hb
  · exact SnAt.next h hb
  · exact SnAt.next h hb
  · exact SnAt.next h hb
  · trivial
/-- An operation that hands on what another one has left. -/
theorem relM {P : Program} {w : World} {rels : List (Tmp × Nat)} {cv : Tmp → Value} {F : Nat → Value → World → Prop} {i : Nat} {o : Oper} {g : Nat → Value} {u : KeptW w} (v : Value) (hF : F i v u.w) (hd : ∀ d, o.dst = some d → relOf rels d = none → v = cv d)
    (he : (execOp (evalBy (rhoT rels cv g)) o).run P u.w = .ok (.value v) u.w) :
    Yield P (fun v w' => Below u.w.heap.size u.w w' ∧ F i v w' ∧ ∀ d, o.dst = some d → relOf rels d = none → v = cv d) ((execOp (evalBy (rhoT rels cv g)) o).run P u.w) := by
  rw [he]
  exact ⟨Below.refl _ _, hF, hd⟩
def loopCv (o5 o6 o7 : Value) (b1 u1 b2 u2 k : Nat) (ta tb la lb W : Int) : Tmp → Value
  | 5 => o5
  | 6 => o6
  | 7 => o7
  | 8 => .int .i64 (k : Int)
  | 9 => .int .i64 W
  | 38 => o7
  | 39 => o5
  | 40 => .int .i64 (k : Int)
  | 41 => .pointer (some ⟨b1, u1 + k * 2, none⟩)
  | 42 => .pointer (some ⟨b1, u1 + k * 2, none⟩)
  | 43 => .int .i64 ta
  | 44 => o6
  | 45 => .int .i64 (k : Int)
  | 46 => .pointer (some ⟨b2, u2 + k * 2, none⟩)
  | 47 => .pointer (some ⟨b2, u2 + k * 2, none⟩)
  | 48 => .int .i64 tb
  | 49 => .agg #[.int .i64 ta, .int .i64 tb]
  | 50 => o5
  | 51 => .int .i64 (k : Int)
  | 52 => .pointer (some ⟨b1, u1 + k * 2, none⟩)
  | 53 => .pointer (some ⟨b1, u1 + k * 2 + 1, none⟩)
  | 54 => .int .i64 la
  | 55 => o6
  | 56 => .int .i64 (k : Int)
  | 57 => .pointer (some ⟨b2, u2 + k * 2, none⟩)
  | 58 => .pointer (some ⟨b2, u2 + k * 2 + 1, none⟩)
  | 59 => .int .i64 lb
  | 60 => .agg #[.int .i64 la, .int .i64 lb]
  | 61 => .int .i64 W
  | 62 => .agg #[.int .i64 ta, .int .i64 tb, .int .i64 la, .int .i64 lb, .int .i64 W]
  | _ => undef
theorem lf_order {ls : List Lay} {lo hi : Int} {ys : List Yr} {k m : Nat} (hp : placeB ls lo hi = true) (hy : ys.all yrB = true) (hm : ys.length = m) (h12 : m ≤ 12) (hk : k < m) :
    0 ≤ at0 (runS ls (extT false ls lo hi ys) 0 m).lf k ∧ at0 (runS ls (extT false ls lo hi ys) 0 m).lf k ≤ at0 (runS ls (extT true ls lo hi ys) 0 m).lf k := by
  rw [(lf_at ls _ 0 m k hk).1, (lf_at ls _ 0 m k hk).1]
  have h1 := runS_b (ls := ls) (extT_ok (lo := lo) (hi := hi) false hp hy) ⟨Int.le_refl 0, by decide⟩ (k + 1) (by omega)
  have h2 := (between hp hy (by omega) (possT_ext false hp hy) (k + 1) (by omega)).1.2
  exact ⟨h1.2.1.1, h2⟩
theorem talik_is {l h W : Int} (h0 : 0 ≤ l) (hh : l ≤ h) (hW : W = if h = 0 then 1 else if 0 < l then 3 else 2) : talikI l h = W := by
  unfold talikI
  subst hW
  split <;> split <;> first | omega | (split <;> omega) | rfl

set_option maxRecDepth 100000 in
set_option maxHeartbeats 4000000 in
theorem known_ok (A A2 : Option Addr) (n c m c' : Nat) (ls : List Lay) (ys : List Yr) (lo hi : Int) (w : World) (hl : ls.length = n) (hL : LaysAt w w.heap.size A ls) (hy : ys.length = m) (hY : YrsAt w w.heap.size A2 ys)
    (hr : yearsI ls lo hi ys = 0) :
    Calls Tryd.prog 23 #[.agg #[.slice A n c, .int .i64 lo, .int .i64 hi], .slice A2 m c'] w fun e w' => ∃ (B : Option Addr) (k : Nat), e = .returned (.slice B m k) ∧ SnsAt w' w'.heap.size B (seenI (runS ls (extT false ls lo hi ys) 0 m) (runS ls (extT true ls lo hi ys) 0 m) m) ∧ Below w.heap.size w w' := by
  obtain ⟨v1, v2, v3⟩ := yearsI_zero hr
  have hT1 := extT_ok false v2 v3
  have hT2 := extT_ok true v2 v3
  obtain ⟨⟨v4, v5⟩, _, v6⟩ := placeB_spec v2
  rw [hl, hy] at hT1 hT2
  have LF : Hid (∀ k, k < m → 0 ≤ at0 (runS ls (extT false ls lo hi ys) 0 m).lf k ∧ at0 (runS ls (extT false ls lo hi ys) 0 m).lf k ≤ at0 (runS ls (extT true ls lo hi ys) 0 m).lf k) := Lib.hid (fun k hk => lf_order v2 v3 hy (by omega) hk)
  have N1 : Hid (1 ≤ n) := Lib.hid (by omega)
  have N6 : Hid (n ≤ 6) := Lib.hid (by omega)
  have M12 : Hid (m ≤ 12) := Lib.hid (by omega)
  have TT_ : Hid (∀ x ∈ ls, 1 ≤ x.t ∧ x.t ≤ 20000) := Lib.hid (fun x hx => (v6 x hx).1)
  have L1 := Lib.hid (runS_len ls (extT false ls lo hi ys) 0 m)
  have L2 := Lib.hid (runS_len ls (extT true ls lo hi ys) 0 m)
  obtain ⟨T1, e1⟩ : ∃ T, extT false ls lo hi ys = T := ⟨_, rfl⟩
  obtain ⟨T2, e2⟩ : ∃ T, extT true ls lo hi ys = T := ⟨_, rfl⟩
  rw [e1] at hT1 L1 LF ⊢
  rw [e2] at hT2 L2 LF ⊢
  obtain ⟨S1, f1⟩ : ∃ S, runS ls T1 0 m = S := ⟨_, rfl⟩
  obtain ⟨S2, f2⟩ : ∃ S, runS ls T2 0 m = S := ⟨_, rfl⟩
  rw [f1] at L1 LF ⊢
  rw [f2] at L2 LF ⊢
  obtain ⟨j0, hj0, jz0, jz1, jz2⟩ := info_parts sn_info
  have J0 := Lib.hid hj0; have JZ0 := Lib.hid jz0; have JZ1 := Lib.hid jz1; have JZ2 := Lib.hid jz2
  have E1 := Lib.hid e1; have E2 := Lib.hid e2; have F1 := Lib.hid f1; have F2 := Lib.hid f2; have TK1 := Lib.hid hT1; have TK2 := Lib.hid hT2
  have HL := Lib.hid hl; have HY := Lib.hid hy
  clear hl hy hr v1 v2 v3 v4 v5 v6 e1 e2 f1 f2 hT1 hT2 hj0 jz0 jz1 jz2
  have HB1 := Lib.hid ((Below.refl w.heap.size w).alloc (Nat.le_refl _) (.cells #[.slice A n c, .int .i64 lo, .int .i64 hi] 26))
  have Z1 := Lib.hid (heap_alloc_new w (.cells #[.slice A n c, .int .i64 lo, .int .i64 hi] 26))
  go_enter Tryd.func23, Tryd.ntmps23
  go_wp2_with fail
  obtain ⟨w4, hw4⟩ : ∃ x, w.alloc (.cells #[.slice A n c, .int .i64 lo, .int .i64 hi] 26) = x := ⟨_, rfl⟩
  rw [hw4] at HB1 Z1 ⊢
  clear hw4
  have ltp := (Array.getElem?_eq_some_iff.1 Z1.out).1
  refine rel_region [1, 2] [(13, 3), (14, 4), (18, 8), (19, 9), (5, 10), (6, 11)] (knCv (.agg #[.slice A n c, .int .i64 lo, .int .i64 hi]) (.slice A2 m c') w.heap.size) (knF m T1 T2 S1 S2) (by kernel_rfl) (by kernel_rfl) (by kernel_rfl) (by kernel_rfl) (by kernel_rfl) (by kernel_rfl) ?_ (knF_keep m T1 T2 S1 S2) ?_ ?_
  · intro t ht
    simp only [List.mem_cons, List.not_mem_nil, or_false] at ht
    rcases ht with rfl | rfl <;> rfl
  · refine allOps_array ?_
    have hp : ∀ u : KeptW w4, u.w.cell? ⟨w.heap.size, 0, none⟩ = some (.slice A n c) ∧ u.w.cell? ⟨w.heap.size, 1, none⟩ = some (.int .i64 lo) ∧ u.w.cell? ⟨w.heap.size, 2, none⟩ = some (.int .i64 hi) := fun u => by
      have hz := (u.h.block _ ltp).trans Z1.out
      have q0 := cell_of_row u.w w.heap.size 0 _ 26 (0, 0) hz
      have q1 := cell_of_row u.w w.heap.size 1 _ 26 (0, 0) hz
      have q2 := cell_of_row u.w w.heap.size 2 _ 26 (0, 0) hz
      simp at q0 q1 q2
      exact ⟨q0, q1, q2⟩
    have hbu : ∀ u : KeptW w4, Below w.heap.size w u.w := fun u => HB1.out.trans (u.h.mono HB1.out.size)
    refine ⟨?_, ?_, ?_, ?_, ?_, ?_, ?_, ?_, ?_, ?_, ?_, ?_, trivial⟩
    · intro g u hd_
      refine ⟨rfl, relQ 10 rfl trivial ?_⟩
      obtain ⟨q0, q1, q2⟩ := hp u
      simp [go_sem, evalBy, rhoT, relOf, knCv, q0, q1, q2]
    · intro g u hd_
      refine ⟨rfl, relQ 11 rfl trivial ?_⟩
      obtain ⟨q0, q1, q2⟩ := hp u
      simp [go_sem, evalBy, rhoT, relOf, knCv, q0, q1, q2]
    · intro g u hd_
      refine ⟨rfl, relQ 12 rfl trivial ?_⟩
      simp [go_sem, evalBy, rhoT, relOf, knCv]
    · intro g u hd_
      refine ⟨rfl, relC 33 #[.agg #[.slice A n c, .int .i64 lo, .int .i64 hi], .slice A2 m c', .bool false] (by simp [go_sem, evalBy, rhoT, relOf, knCv]) ?_⟩
      refine (endT_any false A A2 n c m c' ls ys lo hi _ HL.out N6.out (hL.next (hbu u)) HY.out M12.out (hY.next (hbu u))).mono ?_
      rintro e w' ⟨v, rfl, hb, hv⟩
      rw [E1.out] at hv
      exact ⟨v, rfl, hb, hv, fun e he hn => by injection he with he; subst he; exact absurd hn (by simp [relOf])⟩
    · intro g u hd_
      refine ⟨rfl, relC 27 #[.agg #[.slice A n c, .int .i64 lo, .int .i64 hi], g 3, .int .i64 0] (by simp [go_sem, evalBy, rhoT, relOf, knCv]) ?_⟩
      refine (followT_any A n c m ls T1 (g 3) lo hi 0 _ HL.out N1.out N6.out (hL.next (hbu u)) TT_.out TK1.out M12.out ⟨Int.le_refl 0, by decide⟩ (hd_ ⟨3, .data⟩ (by simp) rfl)).mono ?_
      rintro e w' ⟨v, rfl, hb, hv⟩
      rw [F1.out] at hv
      exact ⟨v, rfl, hb, hv, fun e he hn => by injection he with he; subst he; exact absurd hn (by simp [relOf])⟩
    · intro g u hd_
      refine ⟨rfl, relQ 15 rfl trivial ?_⟩
      obtain ⟨q0, q1, q2⟩ := hp u
      simp [go_sem, evalBy, rhoT, relOf, knCv, q0, q1, q2]
    · intro g u hd_
      refine ⟨rfl, relQ 16 rfl trivial ?_⟩
      obtain ⟨q0, q1, q2⟩ := hp u
      simp [go_sem, evalBy, rhoT, relOf, knCv, q0, q1, q2]
    · intro g u hd_
      refine ⟨rfl, relQ 17 rfl trivial ?_⟩
      simp [go_sem, evalBy, rhoT, relOf, knCv]
    · intro g u hd_
      refine ⟨rfl, relC 33 #[.agg #[.slice A n c, .int .i64 lo, .int .i64 hi], .slice A2 m c', .bool true] (by simp [go_sem, evalBy, rhoT, relOf, knCv]) ?_⟩
      refine (endT_any true A A2 n c m c' ls ys lo hi _ HL.out N6.out (hL.next (hbu u)) HY.out M12.out (hY.next (hbu u))).mono ?_
      rintro e w' ⟨v, rfl, hb, hv⟩
      rw [E2.out] at hv
      exact ⟨v, rfl, hb, hv, fun e he hn => by injection he with he; subst he; exact absurd hn (by simp [relOf])⟩
    · intro g u hd_
      refine ⟨rfl, relC 27 #[.agg #[.slice A n c, .int .i64 lo, .int .i64 hi], g 8, .int .i64 0] (by simp [go_sem, evalBy, rhoT, relOf, knCv]) ?_⟩
      refine (followT_any A n c m ls T2 (g 8) lo hi 0 _ HL.out N1.out N6.out (hL.next (hbu u)) TT_.out TK2.out M12.out ⟨Int.le_refl 0, by decide⟩ (hd_ ⟨8, .data⟩ (by simp) rfl)).mono ?_
      rintro e w' ⟨v, rfl, hb, hv⟩
      rw [F2.out] at hv
      exact ⟨v, rfl, hb, hv, fun e he hn => by injection he with he; subst he; exact absurd hn (by simp [relOf])⟩
    · intro g u hd_
      have hv := hd_ ⟨4, .data⟩ (by simp) rfl
      refine ⟨rfl, relM (g 4) hv (fun e he hn => by injection he with he; subst he; exact absurd hn (by simp [relOf])) ?_⟩
      simp [go_sem, evalBy, rhoT, relOf]
    · intro g u hd_
      have hv := hd_ ⟨9, .data⟩ (by simp) rfl
      refine ⟨rfl, relM (g 9) hv (fun e he hn => by injection he with he; subst he; exact absurd hn (by simp [relOf])) ?_⟩
      simp [go_sem, evalBy, rhoT, relOf]
  · intro g u hf
    obtain ⟨B1, k1, eg1, _, hs1⟩ : SnAt u.w (g 10) m S1 := hf 10 (by decide)
    obtain ⟨B2, k2, eg2, _, hs2⟩ : SnAt u.w (g 11) m S2 := hf 11 (by decide)
    have HBU := Lib.hid (HB1.out.trans (u.h.mono HB1.out.size))
    simp [putAll, Act.put, rhoT, relOf, knCv, eg1, eg2]
    obtain ⟨w1, hw1⟩ : ∃ x, u.w = x := ⟨_, rfl⟩
    rw [hw1] at hs1 hs2 HBU ⊢
    have SN1 := Lib.hid hs1; have SN2 := Lib.hid hs2
    clear hw1 hs1 hs2 hf eg1 eg2 Z1 HB1
    have hm0 : (m : Int) ≤ 12 := by have := M12.out; omega
    go_wp2_with fail
    go_loopw [7, 8] (fun o i wr => ∃ k : Nat, k ≤ m ∧ i = .int .i64 k ∧ wr.ownsRow w1.heap.size 58 5 o k (snRows (seenI S1 S2 k)) ∧ Below w1.heap.size w1 wr) (fun _ i _ => m - (intOf i).toNat)
    case atStart => exact ⟨0, Nat.zero_le _, rfl, World.ownsRow_nil _ _ _ _, Below.refl _ _⟩
    case round =>
      obtain ⟨k, hk, rfl, hown, hbr⟩ := hrel
      have OWN := Lib.hid hown
      have HBR := Lib.hid hbr
      obtain ⟨ao, no, co, rfl⟩ := own_slice hown
      clear hown
      by_cases hlt : k < m
      · obtain ⟨b1, u1, rfl, lb1, hc1⟩ := SN1.out (by intro h; have := L1.out.1; rw [h] at this; simp at this; omega)
        obtain ⟨b2, u2, rfl, lb2, hc2⟩ := SN2.out (by intro h; have := L2.out.1; rw [h] at this; simp at this; omega)
        obtain ⟨a1, a2⟩ := hc1 k (by rw [L1.out.1]; exact hlt)
        obtain ⟨a3, a4⟩ := hc2 k (by rw [L2.out.1]; exact hlt)
        have lfo := LF.out k hlt
        have ex : snc (snI S1 S2 k) = [.int .i64 (at0 S1.th k), .int .i64 (at0 S2.th k), .int .i64 (at0 S1.lf k), .int .i64 (at0 S2.lf k), .int .i64 (talikI (at0 S1.lf k) (at0 S2.lf k))] := rfl
        have EX := Lib.hid ex
        clear ex hc1 hc2
        obtain ⟨ta, hta⟩ : ∃ x, at0 S1.th k = x := ⟨_, rfl⟩
        obtain ⟨tb, htb⟩ : ∃ x, at0 S2.th k = x := ⟨_, rfl⟩
        obtain ⟨la, hla⟩ : ∃ x, at0 S1.lf k = x := ⟨_, rfl⟩
        obtain ⟨lb, hlb⟩ : ∃ x, at0 S2.lf k = x := ⟨_, rfl⟩
        rw [hta] at a1 EX
        rw [htb] at a3 EX
        rw [hla] at a2 EX lfo
        rw [hlb] at a4 EX lfo
        clear hta htb hla hlb
        have A1_ := Lib.hid a1; have A2_ := Lib.hid a2; have A3_ := Lib.hid a3; have A4_ := Lib.hid a4
        have c2 := ((bcell hbr).1 _ _ lb1).trans a2
        have c4 := ((bcell hbr).1 _ _ lb2).trans a4
        have hk0 : (0 : Int) ≤ (k : Int) := by omega
        have hk1 : (k : Int) < (m : Int) := by omega
        obtain ⟨lf0, lf1⟩ := lfo
        clear a1 a2 a3 a4 hbr
        have fin : ∀ W : Int, talikI la lb = W → True := fun _ _ => trivial
        clear fin
        rcases Int.lt_trichotomy 0 lb with hb | hb | hb
        · have hbz : ¬ lb = 0 := by omega
          by_cases hap : 0 < la
          · have TW : Hid (talikI la lb = 3) := Lib.hid (talik_is lf0 lf1 (by rw [if_neg hbz, if_pos hap]))
            go_wp2_with fail
            apply tail_region
            case hs => exact (rfl : _ = [_, _, _, _, _, _, _, _, _, _, _, _, _, _, _, _, _, _, _, _, _, _, _, _, _, _, _] ++ [_])
            case hm => kernel_rfl
            case hT => kernel_rfl
            refine plan_guarded_any (γ := GhE) [5, 6, 7, 8, 9] (rhoO 63 64 (loopCv (.slice (some ⟨b1, u1, none⟩) m k1) (.slice (some ⟨b2, u2, none⟩) m k2) (.slice ao no co) b1 u1 b2 u2 k ta tb la lb 3)) (SO ⟨w1, 58, 5, k, .slice ao no co, snRows (seenI S1 S2 k), [.int .i64 ta, .int .i64 tb, .int .i64 la, .int .i64 lb, .int .i64 3], 25, 26⟩) ⟨fun _ => undef, fun _ => undef⟩ (by kernel_rfl) (by kernel_rfl) (by kernel_rfl) (by kernel_rfl) ?_ (SO.start HBR.out OWN.out (by decide)).drew ?_ ?_
            · intro t ht
              simp only [List.mem_cons, List.not_mem_nil, or_false] at ht
              rcases ht with rfl | rfl | rfl | rfl | rfl <;> rfl
            · refine allOps_array ?_
              refine ⟨?_, ?_, ?_, ?_, ?_, ?_, ?_, ?_, ?_, ?_, ?_, ?_, ?_, ?_, ?_, ?_, ?_, ?_, ?_, ?_, ?_, ?_, ?_, ?_, ?_, ?_, ?_, trivial⟩
              · intro done g w' hS hu hdep _
                refine quietO hS 38 rfl (by show (0 : Nat) ≠ 25; decide) (by show (0 : Nat) ≠ 26; decide) rfl ?_
                simp [go_sem, evalBy, rhoO, loopCv]
              · intro done g w' hS hu hdep _
                refine quietO hS 39 rfl (by show (1 : Nat) ≠ 25; decide) (by show (1 : Nat) ≠ 26; decide) rfl ?_
                simp [go_sem, evalBy, rhoO, loopCv]
              · intro done g w' hS hu hdep _
                refine quietO hS 40 rfl (by show (2 : Nat) ≠ 25; decide) (by show (2 : Nat) ≠ 26; decide) rfl ?_
                simp [go_sem, evalBy, rhoO, loopCv]
              · intro done g w' hS hu hdep _
                refine quietO hS 41 rfl (by show (3 : Nat) ≠ 25; decide) (by show (3 : Nat) ≠ 26; decide) rfl ?_
                simp [go_sem, evalBy, rhoO, loopCv, hk0, hk1]
              · intro done g w' hS hu hdep _
                refine quietO hS 42 rfl (by show (4 : Nat) ≠ 25; decide) (by show (4 : Nat) ≠ 26; decide) rfl ?_
                simp [go_sem, evalBy, rhoO, loopCv]
              · intro done g w' hS hu hdep _
                have h1 := ((bcell hS.bel).1 _ _ lb1).trans A1_.out
                refine quietO hS 43 rfl (by show (5 : Nat) ≠ 25; decide) (by show (5 : Nat) ≠ 26; decide) rfl ?_
                simp [go_sem, evalBy, rhoO, loopCv, h1]
              · intro done g w' hS hu hdep _
                refine quietO hS 44 rfl (by show (6 : Nat) ≠ 25; decide) (by show (6 : Nat) ≠ 26; decide) rfl ?_
                simp [go_sem, evalBy, rhoO, loopCv]
              · intro done g w' hS hu hdep _
                refine quietO hS 45 rfl (by show (7 : Nat) ≠ 25; decide) (by show (7 : Nat) ≠ 26; decide) rfl ?_
                simp [go_sem, evalBy, rhoO, loopCv]
              · intro done g w' hS hu hdep _
                refine quietO hS 46 rfl (by show (8 : Nat) ≠ 25; decide) (by show (8 : Nat) ≠ 26; decide) rfl ?_
                simp [go_sem, evalBy, rhoO, loopCv, hk0, hk1]
              · intro done g w' hS hu hdep _
                refine quietO hS 47 rfl (by show (9 : Nat) ≠ 25; decide) (by show (9 : Nat) ≠ 26; decide) rfl ?_
                simp [go_sem, evalBy, rhoO, loopCv]
              · intro done g w' hS hu hdep _
                have h1 := ((bcell hS.bel).1 _ _ lb2).trans A3_.out
                refine quietO hS 48 rfl (by show (10 : Nat) ≠ 25; decide) (by show (10 : Nat) ≠ 26; decide) rfl ?_
                simp [go_sem, evalBy, rhoO, loopCv, h1]
              · intro done g w' hS hu hdep _
                refine quietO hS 49 rfl (by show (11 : Nat) ≠ 25; decide) (by show (11 : Nat) ≠ 26; decide) rfl ?_
                simp [go_sem, evalBy, rhoO, loopCv]
              · intro done g w' hS hu hdep _
                refine quietO hS 50 rfl (by show (12 : Nat) ≠ 25; decide) (by show (12 : Nat) ≠ 26; decide) rfl ?_
                simp [go_sem, evalBy, rhoO, loopCv]
              · intro done g w' hS hu hdep _
                refine quietO hS 51 rfl (by show (13 : Nat) ≠ 25; decide) (by show (13 : Nat) ≠ 26; decide) rfl ?_
                simp [go_sem, evalBy, rhoO, loopCv]
              · intro done g w' hS hu hdep _
                refine quietO hS 52 rfl (by show (14 : Nat) ≠ 25; decide) (by show (14 : Nat) ≠ 26; decide) rfl ?_
                simp [go_sem, evalBy, rhoO, loopCv, hk0, hk1]
              · intro done g w' hS hu hdep _
                refine quietO hS 53 rfl (by show (15 : Nat) ≠ 25; decide) (by show (15 : Nat) ≠ 26; decide) rfl ?_
                simp [go_sem, evalBy, rhoO, loopCv]
              · intro done g w' hS hu hdep _
                have h1 := ((bcell hS.bel).1 _ _ lb1).trans A2_.out
                refine quietO hS 54 rfl (by show (16 : Nat) ≠ 25; decide) (by show (16 : Nat) ≠ 26; decide) rfl ?_
                simp [go_sem, evalBy, rhoO, loopCv, h1]
              · intro done g w' hS hu hdep _
                refine quietO hS 55 rfl (by show (17 : Nat) ≠ 25; decide) (by show (17 : Nat) ≠ 26; decide) rfl ?_
                simp [go_sem, evalBy, rhoO, loopCv]
              · intro done g w' hS hu hdep _
                refine quietO hS 56 rfl (by show (18 : Nat) ≠ 25; decide) (by show (18 : Nat) ≠ 26; decide) rfl ?_
                simp [go_sem, evalBy, rhoO, loopCv]
              · intro done g w' hS hu hdep _
                refine quietO hS 57 rfl (by show (19 : Nat) ≠ 25; decide) (by show (19 : Nat) ≠ 26; decide) rfl ?_
                simp [go_sem, evalBy, rhoO, loopCv, hk0, hk1]
              · intro done g w' hS hu hdep _
                refine quietO hS 58 rfl (by show (20 : Nat) ≠ 25; decide) (by show (20 : Nat) ≠ 26; decide) rfl ?_
                simp [go_sem, evalBy, rhoO, loopCv]
              · intro done g w' hS hu hdep _
                have h1 := ((bcell hS.bel).1 _ _ lb2).trans A4_.out
                refine quietO hS 59 rfl (by show (21 : Nat) ≠ 25; decide) (by show (21 : Nat) ≠ 26; decide) rfl ?_
                simp [go_sem, evalBy, rhoO, loopCv, h1]
              · intro done g w' hS hu hdep _
                refine quietO hS 60 rfl (by show (22 : Nat) ≠ 25; decide) (by show (22 : Nat) ≠ 26; decide) rfl ?_
                simp [go_sem, evalBy, rhoO, loopCv]
              · intro done g w' hS hu hdep _
                refine quietO hS 61 rfl (by show (23 : Nat) ≠ 25; decide) (by show (23 : Nat) ≠ 26; decide) rfl ?_
                simp [go_sem, evalBy, rhoO, loopCv]
              · intro done g w' hS hu hdep _
                refine quietO hS 62 rfl (by show (24 : Nat) ≠ 25; decide) (by show (24 : Nat) ≠ 26; decide) rfl ?_
                simp [go_sem, evalBy, rhoO, loopCv]
              · intro done g w' hS hu hdep _
                refine buildO hS 63 rfl rfl rfl ?_ (fun _ => rfl) (fun t b' ht => rhoO_b t b' ht)
                simp [go_sem, evalBy, rhoO, loopCv]
              · intro done g w' hS hu hdep _
                exact appendO hS 64 rfl rfl hu (hdep ⟨25, .data⟩ (by simp) rfl) rfl 38 63 32 rfl rfl rfl j0 _ 40 Tryd.underlying32 J0.out JZ0.out JZ1.out JZ2.out rfl (by show 0 < 5; decide) rfl (by simp [Value.oneCell']) (by unfold maxLen; show k + 1 ≤ _; omega) (by show (k + 1) * 40 ≤ _; omega) (fun _ => rfl) (fun t c' ht => rhoO_c t c' ht)
            · intro g wq hS
              obtain ⟨hb9, ho9⟩ := hS.after (by decide)
              have NB := Lib.hid hb9; have NO := Lib.hid ho9
              clear hS hb9 ho9
              simp only [QT]
              unfold Oper.wp
              simp [go_sem, putAll, Act.put, rhoO, loopCv]
              go_wp2_with fail
              refine ⟨⟨k + 1, by omega, by go_num, ?_, NB.out⟩, by simp [intOf]; omega⟩
              rw [seenI_succ, EX.out, TW.out]
              exact NO.out
          · have TW : Hid (talikI la lb = 2) := Lib.hid (talik_is lf0 lf1 (by rw [if_neg hbz, if_neg hap]))
            go_wp2_with fail
            apply tail_region
            case hs => exact (rfl : _ = [_, _, _, _, _, _, _, _, _, _, _, _, _, _, _, _, _, _, _, _, _, _, _, _, _, _, _] ++ [_])
            case hm => kernel_rfl
            case hT => kernel_rfl
            refine plan_guarded_any (γ := GhE) [5, 6, 7, 8, 9] (rhoO 63 64 (loopCv (.slice (some ⟨b1, u1, none⟩) m k1) (.slice (some ⟨b2, u2, none⟩) m k2) (.slice ao no co) b1 u1 b2 u2 k ta tb la lb 2)) (SO ⟨w1, 58, 5, k, .slice ao no co, snRows (seenI S1 S2 k), [.int .i64 ta, .int .i64 tb, .int .i64 la, .int .i64 lb, .int .i64 2], 25, 26⟩) ⟨fun _ => undef, fun _ => undef⟩ (by kernel_rfl) (by kernel_rfl) (by kernel_rfl) (by kernel_rfl) ?_ (SO.start HBR.out OWN.out (by decide)).drew ?_ ?_
            · intro t ht
              simp only [List.mem_cons, List.not_mem_nil, or_false] at ht
              rcases ht with rfl | rfl | rfl | rfl | rfl <;> rfl
            · refine allOps_array ?_
              refine ⟨?_, ?_, ?_, ?_, ?_, ?_, ?_, ?_, ?_, ?_, ?_, ?_, ?_, ?_, ?_, ?_, ?_, ?_, ?_, ?_, ?_, ?_, ?_, ?_, ?_, ?_, ?_, trivial⟩
              · intro done g w' hS hu hdep _
                refine quietO hS 38 rfl (by show (0 : Nat) ≠ 25; decide) (by show (0 : Nat) ≠ 26; decide) rfl ?_
                simp [go_sem, evalBy, rhoO, loopCv]
              · intro done g w' hS hu hdep _
                refine quietO hS 39 rfl (by show (1 : Nat) ≠ 25; decide) (by show (1 : Nat) ≠ 26; decide) rfl ?_
                simp [go_sem, evalBy, rhoO, loopCv]
              · intro done g w' hS hu hdep _
                refine quietO hS 40 rfl (by show (2 : Nat) ≠ 25; decide) (by show (2 : Nat) ≠ 26; decide) rfl ?_
                simp [go_sem, evalBy, rhoO, loopCv]
              · intro done g w' hS hu hdep _
                refine quietO hS 41 rfl (by show (3 : Nat) ≠ 25; decide) (by show (3 : Nat) ≠ 26; decide) rfl ?_
                simp [go_sem, evalBy, rhoO, loopCv, hk0, hk1]
              · intro done g w' hS hu hdep _
                refine quietO hS 42 rfl (by show (4 : Nat) ≠ 25; decide) (by show (4 : Nat) ≠ 26; decide) rfl ?_
                simp [go_sem, evalBy, rhoO, loopCv]
              · intro done g w' hS hu hdep _
                have h1 := ((bcell hS.bel).1 _ _ lb1).trans A1_.out
                refine quietO hS 43 rfl (by show (5 : Nat) ≠ 25; decide) (by show (5 : Nat) ≠ 26; decide) rfl ?_
                simp [go_sem, evalBy, rhoO, loopCv, h1]
              · intro done g w' hS hu hdep _
                refine quietO hS 44 rfl (by show (6 : Nat) ≠ 25; decide) (by show (6 : Nat) ≠ 26; decide) rfl ?_
                simp [go_sem, evalBy, rhoO, loopCv]
              · intro done g w' hS hu hdep _
                refine quietO hS 45 rfl (by show (7 : Nat) ≠ 25; decide) (by show (7 : Nat) ≠ 26; decide) rfl ?_
                simp [go_sem, evalBy, rhoO, loopCv]
              · intro done g w' hS hu hdep _
                refine quietO hS 46 rfl (by show (8 : Nat) ≠ 25; decide) (by show (8 : Nat) ≠ 26; decide) rfl ?_
                simp [go_sem, evalBy, rhoO, loopCv, hk0, hk1]
              · intro done g w' hS hu hdep _
                refine quietO hS 47 rfl (by show (9 : Nat) ≠ 25; decide) (by show (9 : Nat) ≠ 26; decide) rfl ?_
                simp [go_sem, evalBy, rhoO, loopCv]
              · intro done g w' hS hu hdep _
                have h1 := ((bcell hS.bel).1 _ _ lb2).trans A3_.out
                refine quietO hS 48 rfl (by show (10 : Nat) ≠ 25; decide) (by show (10 : Nat) ≠ 26; decide) rfl ?_
                simp [go_sem, evalBy, rhoO, loopCv, h1]
              · intro done g w' hS hu hdep _
                refine quietO hS 49 rfl (by show (11 : Nat) ≠ 25; decide) (by show (11 : Nat) ≠ 26; decide) rfl ?_
                simp [go_sem, evalBy, rhoO, loopCv]
              · intro done g w' hS hu hdep _
                refine quietO hS 50 rfl (by show (12 : Nat) ≠ 25; decide) (by show (12 : Nat) ≠ 26; decide) rfl ?_
                simp [go_sem, evalBy, rhoO, loopCv]
              · intro done g w' hS hu hdep _
                refine quietO hS 51 rfl (by show (13 : Nat) ≠ 25; decide) (by show (13 : Nat) ≠ 26; decide) rfl ?_
                simp [go_sem, evalBy, rhoO, loopCv]
              · intro done g w' hS hu hdep _
                refine quietO hS 52 rfl (by show (14 : Nat) ≠ 25; decide) (by show (14 : Nat) ≠ 26; decide) rfl ?_
                simp [go_sem, evalBy, rhoO, loopCv, hk0, hk1]
              · intro done g w' hS hu hdep _
                refine quietO hS 53 rfl (by show (15 : Nat) ≠ 25; decide) (by show (15 : Nat) ≠ 26; decide) rfl ?_
                simp [go_sem, evalBy, rhoO, loopCv]
              · intro done g w' hS hu hdep _
                have h1 := ((bcell hS.bel).1 _ _ lb1).trans A2_.out
                refine quietO hS 54 rfl (by show (16 : Nat) ≠ 25; decide) (by show (16 : Nat) ≠ 26; decide) rfl ?_
                simp [go_sem, evalBy, rhoO, loopCv, h1]
              · intro done g w' hS hu hdep _
                refine quietO hS 55 rfl (by show (17 : Nat) ≠ 25; decide) (by show (17 : Nat) ≠ 26; decide) rfl ?_
                simp [go_sem, evalBy, rhoO, loopCv]
              · intro done g w' hS hu hdep _
                refine quietO hS 56 rfl (by show (18 : Nat) ≠ 25; decide) (by show (18 : Nat) ≠ 26; decide) rfl ?_
                simp [go_sem, evalBy, rhoO, loopCv]
              · intro done g w' hS hu hdep _
                refine quietO hS 57 rfl (by show (19 : Nat) ≠ 25; decide) (by show (19 : Nat) ≠ 26; decide) rfl ?_
                simp [go_sem, evalBy, rhoO, loopCv, hk0, hk1]
              · intro done g w' hS hu hdep _
                refine quietO hS 58 rfl (by show (20 : Nat) ≠ 25; decide) (by show (20 : Nat) ≠ 26; decide) rfl ?_
                simp [go_sem, evalBy, rhoO, loopCv]
              · intro done g w' hS hu hdep _
                have h1 := ((bcell hS.bel).1 _ _ lb2).trans A4_.out
                refine quietO hS 59 rfl (by show (21 : Nat) ≠ 25; decide) (by show (21 : Nat) ≠ 26; decide) rfl ?_
                simp [go_sem, evalBy, rhoO, loopCv, h1]
              · intro done g w' hS hu hdep _
                refine quietO hS 60 rfl (by show (22 : Nat) ≠ 25; decide) (by show (22 : Nat) ≠ 26; decide) rfl ?_
                simp [go_sem, evalBy, rhoO, loopCv]
              · intro done g w' hS hu hdep _
                refine quietO hS 61 rfl (by show (23 : Nat) ≠ 25; decide) (by show (23 : Nat) ≠ 26; decide) rfl ?_
                simp [go_sem, evalBy, rhoO, loopCv]
              · intro done g w' hS hu hdep _
                refine quietO hS 62 rfl (by show (24 : Nat) ≠ 25; decide) (by show (24 : Nat) ≠ 26; decide) rfl ?_
                simp [go_sem, evalBy, rhoO, loopCv]
              · intro done g w' hS hu hdep _
                refine buildO hS 63 rfl rfl rfl ?_ (fun _ => rfl) (fun t b' ht => rhoO_b t b' ht)
                simp [go_sem, evalBy, rhoO, loopCv]
              · intro done g w' hS hu hdep _
                exact appendO hS 64 rfl rfl hu (hdep ⟨25, .data⟩ (by simp) rfl) rfl 38 63 32 rfl rfl rfl j0 _ 40 Tryd.underlying32 J0.out JZ0.out JZ1.out JZ2.out rfl (by show 0 < 5; decide) rfl (by simp [Value.oneCell']) (by unfold maxLen; show k + 1 ≤ _; omega) (by show (k + 1) * 40 ≤ _; omega) (fun _ => rfl) (fun t c' ht => rhoO_c t c' ht)
            · intro g wq hS
              obtain ⟨hb9, ho9⟩ := hS.after (by decide)
              have NB := Lib.hid hb9; have NO := Lib.hid ho9
              clear hS hb9 ho9
              simp only [QT]
              unfold Oper.wp
              simp [go_sem, putAll, Act.put, rhoO, loopCv]
              go_wp2_with fail
              refine ⟨⟨k + 1, by omega, by go_num, ?_, NB.out⟩, by simp [intOf]; omega⟩
              rw [seenI_succ, EX.out, TW.out]
              exact NO.out
        · have hbz : lb = 0 := by omega
          have hap : ¬ 0 < la := by omega
          have TW : Hid (talikI la lb = 1) := Lib.hid (talik_is lf0 lf1 (by rw [if_pos hbz]))
          clear hb
          go_wp2_with fail
          apply tail_region
          case hs => exact (rfl : _ = [_, _, _, _, _, _, _, _, _, _, _, _, _, _, _, _, _, _, _, _, _, _, _, _, _, _, _] ++ [_])
          case hm => kernel_rfl
          case hT => kernel_rfl
          refine plan_guarded_any (γ := GhE) [5, 6, 7, 8, 9] (rhoO 63 64 (loopCv (.slice (some ⟨b1, u1, none⟩) m k1) (.slice (some ⟨b2, u2, none⟩) m k2) (.slice ao no co) b1 u1 b2 u2 k ta tb la lb 1)) (SO ⟨w1, 58, 5, k, .slice ao no co, snRows (seenI S1 S2 k), [.int .i64 ta, .int .i64 tb, .int .i64 la, .int .i64 lb, .int .i64 1], 25, 26⟩) ⟨fun _ => undef, fun _ => undef⟩ (by kernel_rfl) (by kernel_rfl) (by kernel_rfl) (by kernel_rfl) ?_ (SO.start HBR.out OWN.out (by decide)).drew ?_ ?_
          · intro t ht
            simp only [List.mem_cons, List.not_mem_nil, or_false] at ht
            rcases ht with rfl | rfl | rfl | rfl | rfl <;> rfl
          · refine allOps_array ?_
            refine ⟨?_, ?_, ?_, ?_, ?_, ?_, ?_, ?_, ?_, ?_, ?_, ?_, ?_, ?_, ?_, ?_, ?_, ?_, ?_, ?_, ?_, ?_, ?_, ?_, ?_, ?_, ?_, trivial⟩
            · intro done g w' hS hu hdep _
              refine quietO hS 38 rfl (by show (0 : Nat) ≠ 25; decide) (by show (0 : Nat) ≠ 26; decide) rfl ?_
              simp [go_sem, evalBy, rhoO, loopCv]
            · intro done g w' hS hu hdep _
              refine quietO hS 39 rfl (by show (1 : Nat) ≠ 25; decide) (by show (1 : Nat) ≠ 26; decide) rfl ?_
              simp [go_sem, evalBy, rhoO, loopCv]
            · intro done g w' hS hu hdep _
              refine quietO hS 40 rfl (by show (2 : Nat) ≠ 25; decide) (by show (2 : Nat) ≠ 26; decide) rfl ?_
              simp [go_sem, evalBy, rhoO, loopCv]
            · intro done g w' hS hu hdep _
              refine quietO hS 41 rfl (by show (3 : Nat) ≠ 25; decide) (by show (3 : Nat) ≠ 26; decide) rfl ?_
              simp [go_sem, evalBy, rhoO, loopCv, hk0, hk1]
            · intro done g w' hS hu hdep _
              refine quietO hS 42 rfl (by show (4 : Nat) ≠ 25; decide) (by show (4 : Nat) ≠ 26; decide) rfl ?_
              simp [go_sem, evalBy, rhoO, loopCv]
            · intro done g w' hS hu hdep _
              have h1 := ((bcell hS.bel).1 _ _ lb1).trans A1_.out
              refine quietO hS 43 rfl (by show (5 : Nat) ≠ 25; decide) (by show (5 : Nat) ≠ 26; decide) rfl ?_
              simp [go_sem, evalBy, rhoO, loopCv, h1]
            · intro done g w' hS hu hdep _
              refine quietO hS 44 rfl (by show (6 : Nat) ≠ 25; decide) (by show (6 : Nat) ≠ 26; decide) rfl ?_
              simp [go_sem, evalBy, rhoO, loopCv]
            · intro done g w' hS hu hdep _
              refine quietO hS 45 rfl (by show (7 : Nat) ≠ 25; decide) (by show (7 : Nat) ≠ 26; decide) rfl ?_
              simp [go_sem, evalBy, rhoO, loopCv]
            · intro done g w' hS hu hdep _
              refine quietO hS 46 rfl (by show (8 : Nat) ≠ 25; decide) (by show (8 : Nat) ≠ 26; decide) rfl ?_
              simp [go_sem, evalBy, rhoO, loopCv, hk0, hk1]
            · intro done g w' hS hu hdep _
              refine quietO hS 47 rfl (by show (9 : Nat) ≠ 25; decide) (by show (9 : Nat) ≠ 26; decide) rfl ?_
              simp [go_sem, evalBy, rhoO, loopCv]
            · intro done g w' hS hu hdep _
              have h1 := ((bcell hS.bel).1 _ _ lb2).trans A3_.out
              refine quietO hS 48 rfl (by show (10 : Nat) ≠ 25; decide) (by show (10 : Nat) ≠ 26; decide) rfl ?_
              simp [go_sem, evalBy, rhoO, loopCv, h1]
            · intro done g w' hS hu hdep _
              refine quietO hS 49 rfl (by show (11 : Nat) ≠ 25; decide) (by show (11 : Nat) ≠ 26; decide) rfl ?_
              simp [go_sem, evalBy, rhoO, loopCv]
            · intro done g w' hS hu hdep _
              refine quietO hS 50 rfl (by show (12 : Nat) ≠ 25; decide) (by show (12 : Nat) ≠ 26; decide) rfl ?_
              simp [go_sem, evalBy, rhoO, loopCv]
            · intro done g w' hS hu hdep _
              refine quietO hS 51 rfl (by show (13 : Nat) ≠ 25; decide) (by show (13 : Nat) ≠ 26; decide) rfl ?_
              simp [go_sem, evalBy, rhoO, loopCv]
            · intro done g w' hS hu hdep _
              refine quietO hS 52 rfl (by show (14 : Nat) ≠ 25; decide) (by show (14 : Nat) ≠ 26; decide) rfl ?_
              simp [go_sem, evalBy, rhoO, loopCv, hk0, hk1]
            · intro done g w' hS hu hdep _
              refine quietO hS 53 rfl (by show (15 : Nat) ≠ 25; decide) (by show (15 : Nat) ≠ 26; decide) rfl ?_
              simp [go_sem, evalBy, rhoO, loopCv]
            · intro done g w' hS hu hdep _
              have h1 := ((bcell hS.bel).1 _ _ lb1).trans A2_.out
              refine quietO hS 54 rfl (by show (16 : Nat) ≠ 25; decide) (by show (16 : Nat) ≠ 26; decide) rfl ?_
              simp [go_sem, evalBy, rhoO, loopCv, h1]
            · intro done g w' hS hu hdep _
              refine quietO hS 55 rfl (by show (17 : Nat) ≠ 25; decide) (by show (17 : Nat) ≠ 26; decide) rfl ?_
              simp [go_sem, evalBy, rhoO, loopCv]
            · intro done g w' hS hu hdep _
              refine quietO hS 56 rfl (by show (18 : Nat) ≠ 25; decide) (by show (18 : Nat) ≠ 26; decide) rfl ?_
              simp [go_sem, evalBy, rhoO, loopCv]
            · intro done g w' hS hu hdep _
              refine quietO hS 57 rfl (by show (19 : Nat) ≠ 25; decide) (by show (19 : Nat) ≠ 26; decide) rfl ?_
              simp [go_sem, evalBy, rhoO, loopCv, hk0, hk1]
            · intro done g w' hS hu hdep _
              refine quietO hS 58 rfl (by show (20 : Nat) ≠ 25; decide) (by show (20 : Nat) ≠ 26; decide) rfl ?_
              simp [go_sem, evalBy, rhoO, loopCv]
            · intro done g w' hS hu hdep _
              have h1 := ((bcell hS.bel).1 _ _ lb2).trans A4_.out
              refine quietO hS 59 rfl (by show (21 : Nat) ≠ 25; decide) (by show (21 : Nat) ≠ 26; decide) rfl ?_
              simp [go_sem, evalBy, rhoO, loopCv, h1]
            · intro done g w' hS hu hdep _
              refine quietO hS 60 rfl (by show (22 : Nat) ≠ 25; decide) (by show (22 : Nat) ≠ 26; decide) rfl ?_
              simp [go_sem, evalBy, rhoO, loopCv]
            · intro done g w' hS hu hdep _
              refine quietO hS 61 rfl (by show (23 : Nat) ≠ 25; decide) (by show (23 : Nat) ≠ 26; decide) rfl ?_
              simp [go_sem, evalBy, rhoO, loopCv]
            · intro done g w' hS hu hdep _
              refine quietO hS 62 rfl (by show (24 : Nat) ≠ 25; decide) (by show (24 : Nat) ≠ 26; decide) rfl ?_
              simp [go_sem, evalBy, rhoO, loopCv]
            · intro done g w' hS hu hdep _
              refine buildO hS 63 rfl rfl rfl ?_ (fun _ => rfl) (fun t b' ht => rhoO_b t b' ht)
              simp [go_sem, evalBy, rhoO, loopCv]
            · intro done g w' hS hu hdep _
              exact appendO hS 64 rfl rfl hu (hdep ⟨25, .data⟩ (by simp) rfl) rfl 38 63 32 rfl rfl rfl j0 _ 40 Tryd.underlying32 J0.out JZ0.out JZ1.out JZ2.out rfl (by show 0 < 5; decide) rfl (by simp [Value.oneCell']) (by unfold maxLen; show k + 1 ≤ _; omega) (by show (k + 1) * 40 ≤ _; omega) (fun _ => rfl) (fun t c' ht => rhoO_c t c' ht)
          · intro g wq hS
            obtain ⟨hb9, ho9⟩ := hS.after (by decide)
            have NB := Lib.hid hb9; have NO := Lib.hid ho9
            clear hS hb9 ho9
            simp only [QT]
            unfold Oper.wp
            simp [go_sem, putAll, Act.put, rhoO, loopCv]
            go_wp2_with fail
            refine ⟨⟨k + 1, by omega, by go_num, ?_, NB.out⟩, by simp [intOf]; omega⟩
            rw [seenI_succ, EX.out, TW.out]
            exact NO.out
        · omega
      · obtain rfl : k = m := by omega
        obtain ⟨B, cc, e, hs⟩ := sns_of_own OWN.out (by simp [seenI])
        injection e with e1 e2 e3
        subst e1 e2 e3
        have SNS := Lib.hid hs
        clear hs hbr
        go_wp2_with fail
        go_ret
        exact ⟨_, _, rfl, SNS.out, HBU.out.trans (HBR.out.mono HBU.out.size)⟩
end Go.Proofs.YtccekbdhffccdaaDoor
