/- Stores: what is lacking first with a plan, with an ice, in a winter, by the code that keeps what it has found. Stores: what is lacking first with a plan, ice by ice and winter by winter: the iterator. -/
import Derived.Test.YtijjkiogmlannaaDoorWE
namespace Go.Proofs.YtijjkiogmlannaaDoor
open Go.RowKit

def fltA : Array Value := #[.bool false, .int .i64 0, .int .i64 0, .int .i64 0, .int .i64 0]
theorem fltV_form (i n : Nat) (o : Option (Nat × Nat)) : ∃ x0 x1 x2 x3 x4, fltV i n o = .agg #[x0, x1, x2, x3, x4] ∧ (x0.oneCell' = true ∧ x1.oneCell' = true ∧ x2.oneCell' = true ∧ x3.oneCell' = true ∧ x4.oneCell' = true) := by
  cases o with
  | none => exact ⟨_, _, _, _, _, rfl, rfl, rfl, rfl, rfl, rfl⟩
  | some x => exact ⟨_, _, _, _, _, rfl, rfl, rfl, rfl, rfl, rfl⟩
def lcCv (B M kb q i n : Nat) (v : Value) (b : Bool) (g : Nat) : Tmp → Value
  | 0 => .pointer (some ⟨B, 0, none⟩)
  | 9 => .pointer (some ⟨kb, 0, none⟩)
  | 18 => .pointer (some ⟨B, 0, none⟩)
  | 19 => .pointer (some ⟨B, 0, none⟩)
  | 20 => .pointer (some ⟨B, 12, none⟩)
  | 21 => .map (some M)
  | 22 => .agg #[.int .i64 (q : Int), .int .i64 (i : Int), .int .i64 (n : Int)]
  | 23 => .tuple #[v, .bool b]
  | 17 => .tuple #[v, .bool b]
  | 24 => v
  | 25 => .bool b
  | 10 => .pointer (some ⟨g, 0, none⟩)
  | 11 => .bool b
  | _ => undef
def ldCv (B M kb g q i n : Nat) (v : Value) : Tmp → Value
  | 0 => .pointer (some ⟨B, 0, none⟩)
  | 9 => .pointer (some ⟨kb, 0, none⟩)
  | 10 => .pointer (some ⟨g, 0, none⟩)
  | 31 => .pointer (some ⟨B, 0, none⟩)
  | 32 => .pointer (some ⟨B, 0, none⟩)
  | 33 => .pointer (some ⟨B, 12, none⟩)
  | 34 => .map (some M)
  | 35 => .agg #[.int .i64 (q : Int), .int .i64 (i : Int), .int .i64 (n : Int)]
  | 36 => v
  | _ => undef
theorem below_grown {w w' : World} (h : Below w.heap.size w w') (r : Option Nat) : w.grownBy w' r := ⟨h.os, h.tape, h.output, h.size, fun k hk _ => h.block k hk⟩
theorem grown_trans {a b c : World} {r : Option Nat} (h : a.grownBy b r) (k : b.grownBy c r) : a.grownBy c r :=
  ⟨k.os.trans h.os, k.tape.trans h.tape, k.output.trans h.output, Nat.le_trans h.size k.size, fun j hj hne => (k.block j (Nat.lt_of_lt_of_le hj h.size) hne).trans (h.block j hj hne)⟩
section
attribute [local irreducible] QT
set_option maxRecDepth 100000 in
set_option maxHeartbeats 8000000 in
theorem lacking_any {X : SX} {w0 w : World} {B M : Nat} (h : LkAt X w0 B M w) (hX : X.In w0) (K : X.S.Ok) (p i n : Nat) (hp : p < 2 ^ X.ns) (hi : i < X.ni) (hn : n < X.nw) :
    Calls Tryd.prog 88 #[.pointer (some ⟨B, 0, none⟩), .int .i64 (p : Int), .int .i64 (i : Int), .int .i64 (n : Int)] w fun e w' => e = .returned (fltV i n (X.S.lackO p i n)) ∧ LkAt X w0 B M w' ∧ w.grownBy w' (some M) := by
  have HWS : Hid (w0.heap.size ≤ w.heap.size) := Lib.hid h.bel.size
  have n6 := K.n6; have hsl := hX.hs; have i4 := K.i4; have w4 := K.w4; have hni := hX.hi; have hnw := hX.hw
  have hp64 : p < 64 := Nat.lt_of_lt_of_le hp (by rw [hsl] at n6; exact Nat.le_trans (Nat.pow_le_pow_right (by decide) n6) (by decide))
  obtain ⟨q, hq⟩ : ∃ z, X.S.strip p (X.S.ices.getD i []) = z := ⟨_, rfl⟩
  have hqp : q ≤ p := by rw [← hq]; exact X.S.strip_le _ _
  have hql : X.S.lackO q i n = X.S.lackO p i n := by rw [← hq]; exact X.S.strip_lack n6 hp64 i n
  have HBD : Hid (q < 64 ∧ i < 4 ∧ n < 4) := Lib.hid ⟨by omega, by omega, by omega⟩
  have HQ2 : Hid (q < 2 ^ X.ns) := Lib.hid (by omega)
  rw [← hql]
  have hb0 := (Below.refl w.heap.size w).alloc (Nat.le_refl _) (.cells fltA 48)
  have z0 := heap_alloc_new w (.cells fltA 48)
  have h0 := h.up hb0
  have HLN := Lib.hid (landing_any h0 hX K p i n hp hi)
  rw [hq] at HLN
  have HX := Lib.hid hX; have HK := Lib.hid K; have HI := Lib.hid (And.intro hi hn); have HB0 := Lib.hid hb0; have Z0 := Lib.hid z0; have H0 := Lib.hid h0
  clear n6 hsl i4 w4 hni hnw hp64 hq hqp hql hb0 z0 h0 h hX K hp hi hn
  unfold fltA at HLN Z0 HB0 H0
  unfold keyV at HLN
  go_enter Tryd.func88, Tryd.ntmps88
  go_wp2_with fail
  refine HLN.out.mono ?_
  rintro e w1 ⟨rfl, hb1⟩
  have hl1 := H0.out.up hb1
  have hbk := (Below.refl w1.heap.size w1).alloc (Nat.le_refl _) (.cells #[.int .i64 (q : Int), .int .i64 (i : Int), .int .i64 (n : Int)] 130)
  have zk := heap_alloc_new w1 (.cells #[.int .i64 (q : Int), .int .i64 (i : Int), .int .i64 (n : Int)] 130)
  obtain ⟨w2, hw2⟩ : ∃ z, w1.alloc (.cells #[.int .i64 (q : Int), .int .i64 (i : Int), .int .i64 (n : Int)] 130) = z := ⟨_, rfl⟩
  rw [hw2] at hbk zk
  have HW2 := Lib.hid hw2
  have HL2 := Lib.hid (hl1.up hbk)
  have HB2 := Lib.hid (HB0.out.trans ((hb1.trans (hbk.mono hb1.size)).mono HB0.out.size))
  have HZ2 := Lib.hid ((hbk.block _ (by have := heapsz Z0.out; have := hb1.size; omega)).trans ((hb1.block _ (heapsz Z0.out)).trans Z0.out))
  have ZK := Lib.hid zk
  have HKB : Hid (w.heap.size < w1.heap.size) := Lib.hid (by have := heapsz Z0.out; have := hb1.size; omega)
  clear hl1 hbk zk hw2 hb1 HLN H0 Z0 HB0
  go_wp2_with fail
  rw [HW2.out]
  obtain ⟨es, c, hm, ho⟩ := HL2.out.map
  have HMO := Lib.hid (And.intro hm ho)
  obtain ⟨v, b, HLOOK⟩ : ∃ v b, Hid ((∀ W : World, W.heap[M]? = some (.map es c) → (Instr.lookup 102 (.map (some M)) (keyV q i n) true).run Tryd.prog W = .ok (.tuple #[v, .bool b]) W) ∧ ((b = true ∧ v = fltV i n (X.S.lackO q i n)) ∨ (b = false ∧ v = fltV 0 0 none ∧ ∀ e ∈ es.toList, e.key ≠ keyV q i n))) := by
    rcases memo_look ho HBD.out M c with h | h
    · exact ⟨_, _, Lib.hid ⟨h, .inl ⟨rfl, rfl⟩⟩⟩
    · exact ⟨_, _, Lib.hid ⟨h.1, .inr ⟨rfl, rfl, h.2⟩⟩⟩
  obtain ⟨x0, x1, x2, x3, x4, HV⟩ : ∃ x0 x1 x2 x3 x4, Hid (v = .agg #[x0, x1, x2, x3, x4] ∧ (x0.oneCell' = true ∧ x1.oneCell' = true ∧ x2.oneCell' = true ∧ x3.oneCell' = true ∧ x4.oneCell' = true)) := by
    rcases HLOOK.out.2 with ⟨_, rfl⟩ | ⟨_, rfl, _⟩ <;> obtain ⟨x0, x1, x2, x3, x4, h1, h2⟩ := fltV_form _ _ _ <;> exact ⟨x0, x1, x2, x3, x4, Lib.hid ⟨h1, h2⟩⟩
  have hve := HV.out.1
  subst hve
  have HONE := Lib.hid HV.out.2
  have HF : Hid (∀ u : World, Below w2.heap.size w2 u → u.cell? ⟨B, 12, none⟩ = some (.map (some M)) ∧ u.cell? ⟨w1.heap.size, 0, none⟩ = some (.int .i64 (q : Int)) ∧ u.cell? ⟨w1.heap.size, 1, none⟩ = some (.int .i64 (i : Int)) ∧ u.cell? ⟨w1.heap.size, 2, none⟩ = some (.int .i64 (n : Int)) ∧
      (Instr.lookup 102 (.map (some M)) (.agg #[.int .i64 (q : Int), .int .i64 (i : Int), .int .i64 (n : Int)]) true).run Tryd.prog u = .ok (.tuple #[.agg #[x0, x1, x2, x3, x4], .bool b]) u) := Lib.hid fun u hu => by
    obtain ⟨_, _, _, _, _, _, h12⟩ := lk_cells (HL2.out.up hu)
    obtain ⟨k0, k1, k2⟩ := box3_cells ((hu.block _ (heapsz ZK.out)).trans ZK.out)
    exact ⟨h12, k0, k1, k2, HLOOK.out.1 u ((hu.block _ (Array.getElem?_eq_some_iff.1 HMO.out.1).1).trans HMO.out.1)⟩
  clear hm ho HV
  refine wp_region_any (by kernel_rfl) (plan_guarded_any (γ := Nat) [0, 9] (lcCv B M w1.heap.size q i n (.agg #[x0, x1, x2, x3, x4]) b) (fun done g w' => NewA w2 9 10 48 fltA #[x0, x1, x2, x3, x4] done g w') 0 (by kernel_rfl) (by kernel_rfl) (by kernel_rfl) (by kernel_rfl) ?_ ?_ ?_ ?_)
  · intro t ht
    simp only [List.mem_cons, List.not_mem_nil, or_false] at ht
    rcases ht with rfl | rfl <;> rfl
  · exact ⟨(Below.refl w2.heap.size w2).drew, fun h => by simp at h, fun h => by simp at h⟩
  · refine allOps_array ?_
    refine ⟨?_, ?_, ?_, ?_, ?_, ?_, ?_, ?_, ?_, ?_, ?_, ?_, trivial⟩
    · intro done g u hS hu hdep _
      obtain ⟨r12, k0, k1, k2, hlk⟩ := HF.out u hS.keep
      refine quietN hS 18 rfl (by decide) (by decide) rfl ?_
      simp [go_sem, evalBy, lcCv]
    · intro done g u hS hu hdep _
      obtain ⟨r12, k0, k1, k2, hlk⟩ := HF.out u hS.keep
      refine quietN hS 19 rfl (by decide) (by decide) rfl ?_
      simp [go_sem, evalBy, lcCv]
    · intro done g u hS hu hdep _
      obtain ⟨r12, k0, k1, k2, hlk⟩ := HF.out u hS.keep
      refine quietN hS 20 rfl (by decide) (by decide) rfl ?_
      simp [go_sem, evalBy, lcCv]
    · intro done g u hS hu hdep _
      obtain ⟨r12, k0, k1, k2, hlk⟩ := HF.out u hS.keep
      refine quietN hS 21 rfl (by decide) (by decide) rfl ?_
      simp [go_sem, evalBy, lcCv, r12]
    · intro done g u hS hu hdep _
      obtain ⟨r12, k0, k1, k2, hlk⟩ := HF.out u hS.keep
      refine quietN hS 22 rfl (by decide) (by decide) rfl ?_
      simp [go_sem, evalBy, lcCv, k0, k1, k2]
    · intro done g u hS hu hdep _
      obtain ⟨r12, k0, k1, k2, hlk⟩ := HF.out u hS.keep
      refine quietN hS 23 rfl (by decide) (by decide) rfl ?_
      simp [go_sem, evalBy, lcCv, hlk]
    · intro done g u hS hu hdep _
      obtain ⟨r12, k0, k1, k2, hlk⟩ := HF.out u hS.keep
      refine quietN hS 17 rfl (by decide) (by decide) rfl ?_
      simp [go_sem, evalBy, lcCv]
    · intro done g u hS hu hdep _
      obtain ⟨r12, k0, k1, k2, hlk⟩ := HF.out u hS.keep
      refine quietN hS 24 rfl (by decide) (by decide) rfl ?_
      simp [go_sem, evalBy, lcCv]
    · intro done g u hS hu hdep _
      obtain ⟨r12, k0, k1, k2, hlk⟩ := HF.out u hS.keep
      refine quietN hS 25 rfl (by decide) (by decide) rfl ?_
      simp [go_sem, evalBy, lcCv]
    · intro done g u hS hu hdep _
      refine allocN hS 10 rfl hu (by decide) rfl (fun _ => rfl) (fun g' t ht => by unfold lcCv; split <;> first | rfl | exact absurd rfl ht) (by simp [go_sem, fltA])
    · intro done g u hS hu hdep _
      refine storeN hS rfl (hdep ⟨9, .data⟩ (by simp) rfl) hu rfl (fun hb => ?_)
      obtain ⟨w2, h1, h2, h3, _, h5, _⟩ := store5 hb x0 x1 x2 x3 x4
      exact ⟨w2, by rw [← h1]; exact exec_store_mid 48 _ _ rfl g #[x0, x1, x2, x3, x4] rfl (by simp [evalBy, lcCv]) h2 flt_info (one5 HONE.out), h5, h3⟩
    · intro done g u hS hu hdep _
      obtain ⟨r12, k0, k1, k2, hlk⟩ := HF.out u hS.keep
      refine quietN hS 11 rfl (by decide) (by decide) rfl ?_
      simp [go_sem, evalBy, lcCv]
  · intro g u hS
    have hbu := hS.keep
    obtain ⟨hg, zg⟩ := hS.box (by decide)
    rw [if_pos (by decide)] at zg
    obtain ⟨⟨y0, y1, y2, y3, y4⟩, _⟩ := box5_cells zg
    have hz := (hbu.block _ (heapsz HZ2.out)).trans HZ2.out
    have zk := (hbu.block _ (heapsz ZK.out)).trans ZK.out
    have HLU := Lib.hid (HL2.out.up hbu)
    have HBU := Lib.hid (HB2.out.trans (hbu.mono HB2.out.size))
    have HMU := Lib.hid ((hbu.block _ (Array.getElem?_eq_some_iff.1 HMO.out.1).1).trans HMO.out.1)
    have hgk : w.heap.size ≠ g := by have := heapsz HZ2.out; omega
    have HGE : Hid (w.heap.size < g ∧ w1.heap.size < g) := Lib.hid (by have := heapsz HZ2.out; have := heapsz ZK.out; omega)
    simp [putAll, Act.put, lcCv]
    have HZ := Lib.hid hz; have HZG := Lib.hid zg; have HZK := Lib.hid zk
    rcases HLOOK.out.2 with ⟨rfl, hv⟩ | ⟨rfl, hv, hnone⟩
    · obtain ⟨w8, hs8, ht8, z8, o8, hb8, s8⟩ := store5 hz x0 x1 x2 x3 x4
      obtain ⟨⟨e0, e1, e2, e3, e4⟩, _⟩ := box5_cells z8
      have HS8 := Lib.hid hs8; have HT8 := Lib.hid ht8; have HV := Lib.hid hv
      have HBF := Lib.hid (HBU.out.trans (hb8 w.heap.size (Nat.le_refl _)))
      have HLF : Hid (LkAt X w0 B M w8) := Lib.hid (by
        have hu := HLU.out
        have hne1 : B ≠ w.heap.size := fun e => by have := hu.box; rw [e, hz] at this; cases this
        have hne2 : M ≠ w.heap.size := fun e => by have := HMU.out; rw [e, hz] at this; cases this
        exact ⟨hu.bel.trans (hb8 _ (by have := hu.bel.size; have := HL2.out.bel.size; exact HWS.out)), (o8 _ hne1).trans hu.box, hu.b0, hu.m0, es, c, (o8 _ hne2).trans HMU.out, HMO.out.2⟩)
      clear hz zg zk hbu hS hs8 ht8 z8 o8 hb8 hv s8
      go_wp2_with (first
        | (refine wpList_store_mid rfl 48 _ _ rfl w.heap.size 0 #[x0, x1, x2, x3, x4] (by rfl) (by rfl) HT8.out flt_info (one5 HONE.out) ?_; rw [HS8.out])
        | fail)
      exact bodyPost_ret (v := .agg #[x0, x1, x2, x3, x4]) (by simp [results, Tryd.results88, go_sem, e0, e1, e2, e3, e4]) rfl ⟨by rw [HV.out], HLF.out, below_grown HBF.out _⟩
    · have HNO := Lib.hid hnone; have HV0 := Lib.hid hv
      have hsr := search_any HLU.out HX.out HK.out q i n HQ2.out HI.out.1 HI.out.2
      unfold keyV at hsr
      obtain ⟨s0, s1, s2, s3, s4, hs, hso⟩ := fltV_form i n (X.S.lackO q i n)
      have HS := Lib.hid hs; have HSO := Lib.hid hso
      rw [hs] at hsr
      have HSR := Lib.hid hsr
      obtain ⟨_, _, _, _, _, _, r12⟩ := lk_cells HLU.out
      obtain ⟨k0, k1, k2⟩ := box3_cells zk
      clear hz zg zk hbu hS hv hnone hs hso hsr r12 y0 y1 y2 y3 y4
      go_wp2_with fail
      refine HSR.out.mono ?_
      rintro e w3 ⟨rfl, hb3⟩
      have zg := (hb3.block _ (heapsz HZG.out)).trans HZG.out
      obtain ⟨w5, hs5, ht5, z5, o5, hb5, e5⟩ := store5 zg s0 s1 s2 s3 s4
      have HS5 := Lib.hid hs5; have HT5 := Lib.hid ht5; have Z5 := Lib.hid z5
      have HLE : Hid (∀ j, j < u.heap.size → j ≠ g → w5.heap[j]? = u.heap[j]?) := Lib.hid fun j hj hne => (o5 j hne).trans (hb3.block _ hj)
      have H5U : Hid (Below g u w5) := Lib.hid ((hb3.mono (Nat.le_of_lt (heapsz HZG.out))).trans (hb5 _ (Nat.le_refl _)))
      have HUW : Hid (w0.heap.size ≤ g) := Lib.hid (by have := HWS.out; have := HGE.out; omega)
      have hnB : B ≠ g := fun e => by have := HLU.out.box; rw [e, HZG.out] at this; cases this
      have hnM : M ≠ g := fun e => by have := HMU.out; rw [e, HZG.out] at this; cases this
      have HL5 : Hid (LkAt X w0 B M w5) := Lib.hid ⟨HLU.out.bel.trans (H5U.out.mono HUW.out), (HLE.out B (heapsz HLU.out.box) hnB).trans HLU.out.box, HLU.out.b0, HLU.out.m0, es, c, (HLE.out M (Array.getElem?_eq_some_iff.1 HMU.out).1 hnM).trans HMU.out, HMO.out.2⟩
      have HM5 : Hid (w5.heap[M]? = some (.map es c)) := Lib.hid ((HLE.out M (Array.getElem?_eq_some_iff.1 HMU.out).1 hnM).trans HMU.out)
      have HK5 : Hid (w5.heap[w1.heap.size]? = some (.cells #[.int .i64 (q : Int), .int .i64 (i : Int), .int .i64 (n : Int)] 130 (0, 0))) := Lib.hid ((HLE.out _ (heapsz HZK.out) (by have := HGE.out; omega)).trans HZK.out)
      have HZ5 : Hid (w5.heap[w.heap.size]? = some (.cells fltA 48 (0, 0))) := Lib.hid ((HLE.out _ (heapsz HZ.out) (by have := HGE.out; omega)).trans HZ.out)
      have HB5 : Hid (Below w.heap.size w w5) := Lib.hid (HBU.out.trans (H5U.out.mono (by have := HGE.out; omega)))
      clear hb3 zg hs5 ht5 z5 o5 hb5 e5 k0 k1 k2
      go_wp2_with (first
        | (refine wpList_store_mid rfl 48 _ _ rfl g 0 #[s0, s1, s2, s3, s4] (by rfl) (by rfl) HT5.out flt_info (one5 HSO.out) ?_; rw [HS5.out])
        | fail)
      apply tail_regionX
      case hs => exact (rfl : _ = [_, _, _, _, _, _] ++ [_])
      case hm => kernel_rfl
      case hT => kernel_rfl
      refine rel_any [0, 9, 10] [] (ldCv B M w1.heap.size g q i n (.agg #[s0, s1, s2, s3, s4])) noF (by kernel_rfl) (by kernel_rfl) (by kernel_rfl) (by kernel_rfl) (by kernel_rfl) ?_ (fun _ _ _ _ _ _ => trivial) ?_ ?_
      · intro t ht
        simp only [List.mem_cons, List.not_mem_nil, or_false] at ht
        rcases ht with rfl | rfl | rfl <;> rfl
      · refine allOps_array ?_
        refine ⟨?_, ?_, ?_, ?_, ?_, ?_, trivial⟩ <;> intro g u hd_ <;> obtain ⟨_, _, _, _, _, _, r12⟩ := lk_cells (HL5.out.up u.h) <;> obtain ⟨k0, k1, k2⟩ := box3_cells ((u.h.block _ (heapsz HK5.out)).trans HK5.out) <;> obtain ⟨⟨y0, y1, y2, y3, y4⟩, _⟩ := box5_cells ((u.h.block _ (heapsz Z5.out)).trans Z5.out)
        · refine ⟨rfl, relQ 31 rfl trivial ?_⟩
          simp [go_sem, evalBy, rhoT, relOf, ldCv]
        · refine ⟨rfl, relQ 32 rfl trivial ?_⟩
          simp [go_sem, evalBy, rhoT, relOf, ldCv]
        · refine ⟨rfl, relQ 33 rfl trivial ?_⟩
          simp [go_sem, evalBy, rhoT, relOf, ldCv]
        · refine ⟨rfl, relQ 34 rfl trivial ?_⟩
          simp [go_sem, evalBy, rhoT, relOf, ldCv, r12]
        · refine ⟨rfl, relQ 35 rfl trivial ?_⟩
          simp [go_sem, evalBy, rhoT, relOf, ldCv, k0, k1, k2]
        · refine ⟨rfl, relQ 36 rfl trivial ?_⟩
          simp [go_sem, evalBy, rhoT, relOf, ldCv, y0, y1, y2, y3, y4]
      · intro g' u' hf
        obtain ⟨w6, hp6, hg6, hz6, es6, c6, hm6, ho6⟩ := memo_put ((u'.h.block _ (Array.getElem?_eq_some_iff.1 HM5.out).1).trans HM5.out) HMO.out.2 HBD.out HNO.out
        rw [HS.out] at hp6
        unfold keyV at hp6
        have zg6 := (hg6.block g (heapsz ((u'.h.block _ (heapsz Z5.out)).trans Z5.out)) (fun e => hnM (by injection e with e; exact e.symm))).trans ((u'.h.block _ (heapsz Z5.out)).trans Z5.out)
        obtain ⟨⟨y0, y1, y2, y3, y4⟩, _⟩ := box5_cells zg6
        have hne0 : M ≠ w.heap.size := fun e => by have := HM5.out; rw [e, HZ5.out] at this; cases this
        have hneB : B ≠ w.heap.size := fun e => by have := HL5.out.box; rw [e, HZ5.out] at this; cases this
        have hneM : B ≠ M := fun e => by have := HL5.out.box; rw [e, HM5.out] at this; cases this
        have z06 := (hg6.block w.heap.size (heapsz ((u'.h.block _ (heapsz HZ5.out)).trans HZ5.out)) (fun e => hne0 (by injection e with e; exact e.symm))).trans ((u'.h.block _ (heapsz HZ5.out)).trans HZ5.out)
        obtain ⟨w8, hs8, ht8, z8, o8, hb8, e8⟩ := store5 z06 s0 s1 s2 s3 s4
        obtain ⟨⟨e0, e1, e2, e3, e4⟩, _⟩ := box5_cells z8
        have HS8 := Lib.hid hs8; have HT8 := Lib.hid ht8
        have HGF : Hid (w.grownBy w8 (some M)) := Lib.hid (by
          have g1 := HB5.out.trans (u'.h.mono HB5.out.size)
          have g2 := hb8 0 (Nat.zero_le _)
          refine ⟨g2.os.trans (hg6.os.trans g1.os), g2.tape.trans (hg6.tape.trans g1.tape), g2.output.trans (hg6.output.trans g1.output), Nat.le_trans g1.size (Nat.le_trans hg6.size g2.size), fun j hj hne => ?_⟩
          exact (o8 j (by omega)).trans ((hg6.block j (Nat.lt_of_lt_of_le hj g1.size) hne).trans (g1.block j hj)))
        have HLF : Hid (LkAt X w0 B M w8) := Lib.hid (by
          have hu := HL5.out.up u'.h
          refine ⟨(hu.bel.trans ((Below.refl _ u'.w).grown hg6 hu.bel.size (fun k e => by injection e with e; rw [← e]; exact hu.m0))).trans (hb8 _ HWS.out), (o8 _ hneB).trans ((hg6.block B (heapsz hu.box) (fun e => hneM (by injection e with e))).trans hu.box), hu.b0, hu.m0, es6, c6, (o8 _ hne0).trans hm6, ho6⟩)
        simp only [QT]
        unfold Oper.wp
        simp [go_sem, putAll, Act.put, rhoT, relOf, ldCv, hp6]
        clear hf hp6 hg6 hz6 hm6 ho6 zg6 z06 hs8 ht8 z8 o8 hb8 e8
        go_wp2_with (first
          | (refine wpList_store_mid rfl 48 _ _ rfl w.heap.size 0 #[s0, s1, s2, s3, s4] (by rfl) (by rfl) HT8.out flt_info (one5 HSO.out) ?_; rw [HS8.out])
          | fail)
        exact bodyPost_ret (v := .agg #[s0, s1, s2, s3, s4]) (by simp [results, Tryd.results88, go_sem, e0, e1, e2, e3, e4]) rfl ⟨by rw [HS.out], HLF.out, HGF.out⟩
end
end Go.Proofs.YtijjkiogmlannaaDoor

namespace Go.Proofs.YtijjkiogmlannaaDoor
open Go.RowKit Go.Shelf
attribute [local go_sem] Oper.semAt_some

def fltR (S : Sto) (p i n : Nat) : List Flt := (List.range n).filterMap fun m => (S.lackO p i m).map fun x => ⟨i, m, x.1, x.2⟩
def fltP (S : Sto) (p i n : Nat) : List Flt := ((List.range i).flatMap fun a => fltR S p a S.wins.length) ++ fltR S p i n
theorem fltP_zero (S : Sto) (p : Nat) : fltP S p 0 0 = [] := rfl
theorem fltP_none {S : Sto} {p i n : Nat} (h : S.lackO p i n = none) : fltP S p i (n + 1) = fltP S p i n := by
  unfold fltP fltR
  rw [List.range_succ, List.filterMap_append]
  simp [h]
theorem fltP_some {S : Sto} {p i n w k : Nat} (h : S.lackO p i n = some (w, k)) : fltP S p i (n + 1) = fltP S p i n ++ [⟨i, n, w, k⟩] := by
  unfold fltP fltR
  rw [List.range_succ, List.filterMap_append]
  simp [h]
theorem fltP_row (S : Sto) (p i : Nat) : fltP S p i S.wins.length = fltP S p (i + 1) 0 := by
  unfold fltP
  rw [List.range_succ, List.flatMap_append]
  simp [fltR]
theorem fltP_all (S : Sto) (p : Nat) : fltP S p S.ices.length 0 = S.flts p := by
  unfold fltP Sto.flts Sto.pairs
  rw [List.filterMap_flatMap]
  simp only [fltR, List.range_zero, List.filterMap_nil, List.append_nil]
  congr 1
  funext i
  rw [List.filterMap_map]
  rfl
theorem fltR_pre (S : Sto) (p i : Nat) {n m : Nat} (h : n ≤ m) : ∃ l, fltR S p i m = fltR S p i n ++ l := by
  obtain ⟨d, rfl⟩ : ∃ d, m = n + d := ⟨m - n, by omega⟩
  refine ⟨((List.range d).map (n + ·)).filterMap fun m => (S.lackO p i m).map fun x => ⟨i, m, x.1, x.2⟩, ?_⟩
  unfold fltR
  rw [List.range_add, List.filterMap_append]
theorem fltP_pre (S : Sto) (p : Nat) {i n : Nat} (hi : i < S.ices.length) (hn : n ≤ S.wins.length) : ∃ l, S.flts p = fltP S p i n ++ l := by
  rw [← fltP_all]
  obtain ⟨d, hd⟩ : ∃ d, S.ices.length = (i + 1) + d := ⟨S.ices.length - (i + 1), by omega⟩
  obtain ⟨l1, h1⟩ := fltR_pre S p i hn
  refine ⟨l1 ++ ((List.range d).map (i + 1 + ·)).flatMap fun a => fltR S p a S.wins.length, ?_⟩
  unfold fltP
  rw [hd, List.range_add, List.flatMap_append, List.range_succ, List.flatMap_append]
  simp [fltR, List.append_assoc] at h1 ⊢
  rw [h1, List.append_assoc]
abbrev fltE (x : Flt) : Array Value := #[fltV x.i x.n (some (x.w, x.k))]
/-- What a round keeps of the iterator's things, and what the iterator leaves of all others. -/
def KpW (w0 : World) (bs : List Nat) (W W' : World) : Prop := Below w0.heap.size W W' ∧ ∀ b ∈ bs, W'.heap[b]? = W.heap[b]?
theorem kpW_t {w0 : World} {bs : List Nat} {A B C : World} (h : KpW w0 bs A B) (k : KpW w0 bs B C) : KpW w0 bs A C := ⟨h.1.trans k.1, fun b hb => (k.2 b hb).trans (h.2 b hb)⟩
theorem kpW_b {w0 w : World} {bs : List Nat} (hn : w0.heap.size ≤ w.heap.size) (hB : ∀ b ∈ bs, b < w.heap.size) (W : World) (l : Nat) (o o' : Obj) (hl : w.heap.size ≤ l) (h : W.heap[l]? = some o) (h1 : o.isCells = false) (h2 : o.isWalk = false) : KpW w0 bs W (W.putObj l o') :=
  ⟨belowK_b hn W l o o' hl h h1 h2, fun b hb => World.putObj_heap_other (fun e => by have := hB b hb; omega)⟩
def StW (X : SX) (w0 : World) (B M : Nat) (A A' : World) : Prop := A.grownBy A' (some M) ∧ LkAt X w0 B M A'
/-- The iterator's things. -/
structure ItA (X : SX) (w0 : World) (B M b1 b2 p : Nat) (W : World) : Prop where
  lk : LkAt X w0 B M W
  c1 : W.heap[b1]? = some (.cells #[.pointer (some ⟨B, 0, none⟩)] 79 (0, 0))
  c2 : W.heap[b2]? = some (.cells #[.int .i64 (p : Int)] 3 (0, 0))
theorem ItA.kp {X : SX} {w0 : World} {B M b1 b2 p : Nat} {W W' : World} (h : ItA X w0 B M b1 b2 p W) (hk : KpW w0 [B, M, b1, b2] W W') : ItA X w0 B M b1 b2 p W' := by
  obtain ⟨es, c, hm, ho⟩ := h.lk.map
  exact ⟨⟨h.lk.bel.trans hk.1, (hk.2 B (by simp)).trans h.lk.box, h.lk.b0, h.lk.m0, es, c, (hk.2 M (by simp)).trans hm, ho⟩, (hk.2 b1 (by simp)).trans h.c1, (hk.2 b2 (by simp)).trans h.c2⟩
theorem ItA.st {X : SX} {w0 : World} {B M b1 b2 p : Nat} {W W' : World} (h : ItA X w0 B M b1 b2 p W) (hk : StW X w0 B M W W') : ItA X w0 B M b1 b2 p W' := by
  obtain ⟨es, c, hm, ho⟩ := h.lk.map
  have n1 : some b1 ≠ some M := fun e => by injection e with e; have := h.c1; rw [e, hm] at this; cases this
  have n2 : some b2 ≠ some M := fun e => by injection e with e; have := h.c2; rw [e, hm] at this; cases this
  exact ⟨hk.2, (hk.1.block _ (heapsz h.c1) n1).trans h.c1, (hk.1.block _ (heapsz h.c2) n2).trans h.c2⟩
set_option maxRecDepth 100000 in
set_option maxHeartbeats 4000000 in
theorem faults1_in {X : SX} {w0 : World} (hX : X.In w0) (K : X.S.Ok) (n : Nat) (hn : 1 ≤ n) (l B M b1 b2 p : Nat) (hp : p < 2 ^ X.ns) (J Jx : List Flt → World → Prop) (hJ : ∀ s A A', J s A → StW X w0 B M A A' → J s A')
    (hY : ∀ pre x W, J pre W → (∃ l, X.S.flts p = (pre ++ [x]) ++ l) → YieldAt Fence.wide (n - 1) Tryd.prog l (fltE x) W fun e W' =>
      (e = .returned (.bool true) ∧ J (pre ++ [x]) W' ∧ KpW w0 [B, M, b1, b2] W W') ∨ (e = .returned (.bool false) ∧ Jx (pre ++ [x]) W'))
    (W : World) (hW : ItA X w0 B M b1 b2 p W) (h0 : J [] W) :
    CallsIn Fence.wide n Tryd.prog 87 #[.func (.yield l) #[] #[], .pointer (some ⟨b1, 0, none⟩), .pointer (some ⟨b2, 0, none⟩)] W fun e W' => (∃ v, e = .returned v) ∧
      ((∃ ys, ys = X.S.flts p ∧ J ys W') ∨ (∃ pre, (∃ l, X.S.flts p = pre ++ l) ∧ Jx pre W')) := by
  rcases X with ⟨S, AS, ns, cs, AI, ni, ci, AW, nw, cw⟩
  have hli := hX.hi; have hlw := hX.hw; have hi2 := hX.i2; have hw2 := hX.w2
  simp only at hli hlw hi2 hw2
  have i4 := K.i4; have w4 := K.w4
  simp only at i4 w4
  have HJ := Lib.hid hJ; have HW := Lib.hid hW; have HX := Lib.hid hX; have HK := Lib.hid K; have HP := Lib.hid hp; have HLI := Lib.hid hli; have HLW := Lib.hid hlw
  have hni : ni ≤ 4 := by omega
  have hnw : nw ≤ 4 := by omega
  have c1 := cell_of_row W b1 0 _ 79 (0, 0) hW.c1
  obtain ⟨_, _, _, _, r10, _⟩ := lk_cells hW.lk
  simp at c1
  simp only at r10
  clear hW hX K hp hli hlw i4 w4 hi2 hw2 hJ
  refine callsIn_of_wp Tryd.func87 rfl trivial ?_ rfl
  simp only [Tryd.ntmps87, List.size_toArray, List.length_cons, List.length_nil, Nat.reduceAdd, Nat.reduceSub, Array.replicate_succ, Array.replicate_zero, List.push_toArray, List.append_toArray, List.nil_append, List.cons_append]
  gi_wp2
  gi_loopw [13] (fun i wr => ∃ k : Nat, k ≤ ni ∧ i = .int .i64 k ∧ J (fltP S p k 0) wr ∧ ItA ⟨S, AS, ns, cs, AI, ni, ci, AW, nw, cw⟩ w0 B M b1 b2 p wr) (fun i _ => ni - (intOf i).toNat)
  case atStart => exact ⟨0, Nat.zero_le _, rfl, h0, HW.out⟩
  case round =>
    clear c1 r10
    obtain ⟨k, hk, rfl, hJs, hI⟩ := hrel
    by_cases hlt : k < ni
    · have hk0 : (k : Int) < (ni : Int) := by omega
      have c1 := cell_of_row wr b1 0 _ 79 (0, 0) hI.c1
      obtain ⟨_, _, _, _, _, r11, _⟩ := lk_cells hI.lk
      simp at c1
      simp only at r11
      have HI := Lib.hid hI
      clear hI
      gi_wp2
      rename World => wa
      gi_loopw [22] (fun j wq => ∃ m : Nat, m ≤ nw ∧ j = .int .i64 m ∧ J (fltP S p k m) wq ∧ ItA ⟨S, AS, ns, cs, AI, ni, ci, AW, nw, cw⟩ w0 B M b1 b2 p wq) (fun j _ => nw - (intOf j).toNat)
      case atStart => exact ⟨0, Nat.zero_le _, rfl, hJs, HI.out⟩
      case round =>
        clear c1 r11 hJs HI
        obtain ⟨m, hm, rfl, hJs, hI⟩ := hrel
        by_cases hmt : m < nw
        · have hm0 : (m : Int) < (nw : Int) := by omega
          have c1 := cell_of_row wr b1 0 _ 79 (0, 0) hI.c1
          have c2 := cell_of_row wr b2 0 _ 3 (0, 0) hI.c2
          simp at c1 c2
          have HL := Lib.hid (lacking_any hI.lk HX.out HK.out p k m HP.out hlt hmt)
          have HI := Lib.hid hI
          have HJS := Lib.hid hJs
          clear hI hJs
          gi_wp2
          refine ⟨trivial, callsIn_wide.2 (HL.out.mono ?_)⟩
          rintro e W2 ⟨rfl, hl2, hg2⟩
          have hs2 : StW ⟨S, AS, ns, cs, AI, ni, ci, AW, nw, cw⟩ w0 B M wr W2 := ⟨hg2, hl2⟩
          have HI2 := Lib.hid (HI.out.st hs2)
          have HJ2 := Lib.hid (HJ.out _ _ _ HJS.out hs2)
          have hal : ∀ o : Obj, StW ⟨S, AS, ns, cs, AI, ni, ci, AW, nw, cw⟩ w0 B M W2 (W2.alloc o) := fun o => ⟨World.grownBy_alloc W2 o (some M), hl2.up ((Below.refl _ _).alloc (Nat.le_refl _) o)⟩
          have HAL := Lib.hid hal
          clear hl2 hg2 hs2 hal HL c1 c2
          simp only
          cases ho : S.lackO p k m with
          | none =>
            have HE := Lib.hid (fltP_none ho)
            clear ho
            simp only [fltV]
            have z3 := heap_alloc_new W2 (.cells #[.bool false, .int .i64 0, .int .i64 0, .int .i64 0, .int .i64 0] 48)
            have HJ3 := Lib.hid (HJ.out _ _ _ HJ2.out (HAL.out (.cells #[.bool false, .int .i64 0, .int .i64 0, .int .i64 0, .int .i64 0] 48)))
            have HI3 := Lib.hid (HI2.out.st (HAL.out (.cells #[.bool false, .int .i64 0, .int .i64 0, .int .i64 0, .int .i64 0] 48)))
            obtain ⟨⟨y0, y1, y2, y3, y4⟩, _⟩ := box5_cells z3
            clear z3
            gi_wp2
            refine ⟨fun _ _ => trivial, ?_⟩
            gi_wp2
            go_roundw
            case rel => exact ⟨m + 1, by omega, by go_num, by rw [HE.out]; exact HJ3.out, HI3.out⟩
            case measure => simp [intOf]; omega
          | some x =>
            obtain ⟨xw, xk⟩ := x
            have HE := Lib.hid (fltP_some ho)
            clear ho
            simp only [fltV]
            have z3 := heap_alloc_new W2 (.cells #[.bool true, .int .i64 (k : Int), .int .i64 (m : Int), .int .i64 (xw : Int), .int .i64 (xk : Int)] 48)
            have HJ3 := Lib.hid (HJ.out _ _ _ HJ2.out (HAL.out (.cells #[.bool true, .int .i64 (k : Int), .int .i64 (m : Int), .int .i64 (xw : Int), .int .i64 (xk : Int)] 48)))
            have HI3 := Lib.hid (HI2.out.st (HAL.out (.cells #[.bool true, .int .i64 (k : Int), .int .i64 (m : Int), .int .i64 (xw : Int), .int .i64 (xk : Int)] 48)))
            obtain ⟨⟨y0, y1, y2, y3, y4⟩, _⟩ := box5_cells z3
            have hlen : ∃ l, S.flts p = (fltP S p k m ++ [⟨k, m, xw, xk⟩]) ++ l := by rw [← HE.out]; exact fltP_pre S p (by rw [HLI.out]; exact hlt) (by rw [HLW.out]; omega)
            obtain ⟨fn, tmps, assign, body, hy, hR⟩ := hY (fltP S p k m) ⟨k, m, xw, xk⟩ _ HJ3.out hlen
            dsimp only [fltE, fltV] at hy
            clear z3
            gi_wp2
            refine hR.mono ?_
            rintro e W4 h4
            obtain ⟨bv, rfl, h3⟩ := two h4
            clear h4 hy y0 y1 y2 y3 y4
            rcases h3 with ⟨rfl, hJ3, hk3⟩ | ⟨rfl, hJx3⟩
            · have HI4 := Lib.hid (HI3.out.kp hk3)
              have HJ4 := Lib.hid hJ3
              clear hk3 hJ3
              gi_wp2
              go_roundw
              case rel => exact ⟨m + 1, by omega, by go_num, by rw [HE.out]; exact HJ4.out, HI4.out⟩
              case measure => simp [intOf]; omega
            · have HJX := Lib.hid hJx3
              clear hJx3
              gi_wp2
              refine bodyPost_ret (results_none rfl _ _ _) rfl ?_
              exact ⟨⟨_, rfl⟩, .inr ⟨_, by rw [← HE.out]; exact fltP_pre S p (by rw [HLI.out]; exact hlt) (by rw [HLW.out]; omega), HJX.out⟩⟩
        · have hmm : m = nw := by omega
          subst hmm
          have HI := Lib.hid hI
          have HJS := Lib.hid hJs
          clear hI hJs
          gi_wp2
          go_roundw
          case rel => exact ⟨k + 1, by omega, by go_num, by rw [← fltP_row, HLW.out]; exact HJS.out, HI.out⟩
          case measure => simp [intOf]; omega
    · have hkk : k = ni := by omega
      subst hkk
      have HJS := Lib.hid hJs
      clear hJs hI
      gi_wp2
      go_end0
      exact ⟨⟨_, rfl⟩, .inl ⟨_, rfl, by rw [← fltP_all, HLI.out]; exact HJS.out⟩⟩
end Go.Proofs.YtijjkiogmlannaaDoor
