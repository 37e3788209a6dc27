/- Coolers: how much more cold houses are given than they need, by the specification. -/
import Derived.Test.YtmppiiamcpjhnaaDG
namespace Go.Proofs.Ytmppiiamcpjhnaa
open Go.RowKit Go.Shelf

def sumA (X : Tu) (cs : List Int) (h : Nat) : Int := (cs.map fun x => givA X h x.toNat).sum
def ovV (X : Tu) (cs : List Int) (h : Nat) : Int := sumA X cs h - X.ns.getD h 0
def ovL (T : Tn) (X : Tu) (cs : List Int) : List Int := (List.range T.hs.length).map (ovV X cs)
theorem sumA_succ {X : Tu} {cs : List Int} {h j : Nat} {x : Int} (hx : cs[j]? = some x) : sumA X (cs.take (j + 1)) h = sumA X (cs.take j) h + givA X h x.toNat := by
  unfold sumA
  rw [List.take_add_one, hx, Option.toList_some, List.map_append, List.sum_append]
  simp
theorem sumI_in : ∀ {l : List Int}, (∀ x ∈ l, 0 ≤ x ∧ x ≤ 1000000) → 0 ≤ l.sum ∧ l.sum ≤ 1000000 * (l.length : Int)
  | [], _ => by simp
  | x :: l, h => by
    have h1 := h x (by simp)
    have h2 := sumI_in (l := l) fun y hy => h y (by simp [hy])
    rw [List.sum_cons, List.length_cons]
    omega
theorem sumA_in {T : Tn} {X : Tu} (K : TnOk T) (O : TuOk T X) {cs : List Int} (hin : ∀ x ∈ cs, 0 ≤ x ∧ x < T.ss.length) {h : Nat} (hh : h < T.hs.length) : 0 ≤ sumA X cs h ∧ sumA X cs h ≤ 1000000 * (cs.length : Int) := by
  have h1 := sumI_in (l := cs.map fun x => givA X h x.toNat) fun y hy => by
    obtain ⟨x, hx, rfl⟩ := List.mem_map.1 hy
    have hx2 := hin x hx
    obtain ⟨g, n, hg, hn, h1, h2⟩ := cold_get K O (i := x.toNat) (k := h) (by omega) hh
    rw [giv_eq hg hn]
    exact ⟨h1, h2⟩
  rw [List.length_map] at h1
  exact h1
set_option maxRecDepth 100000 in
set_option maxHeartbeats 8000000 in
theorem rover_any (V : TV) (T : Tn) (A : Option Addr) (n c : Nat) (cs : List Int) (U : UV) (X : Tu) (w : World) (hN : TnAt w w.heap.size V T) (hl : cs.length = n) (hn : n ≤ 100) (hA : IntsAt w w.heap.size A cs) (hX : TuAt w w.heap.size U X) (hK : TnOk T) (hO : TuOk T X) (hin : ∀ x ∈ cs, 0 ≤ x ∧ x < T.ss.length) :
    Calls Try.prog 28 #[tvV V, .slice A n c, uvV U] w fun e w' => ∃ v, e = .returned v ∧ Below w.heap.size w w' ∧ RowIs intR 3 w.heap.size (ovL T X cs) v w' := by
  have ht := TX.new (T := T) (X := X) hN hX
  obtain ⟨w2, hw2⟩ : ∃ z, (w.alloc (.cells (tvC V) 25)).alloc (.cells (uvC U) 46) = z := ⟨_, rfl⟩
  rw [hw2] at ht
  have HT := Lib.hid ht; have HK := Lib.hid hK; have HO := Lib.hid hO; have HIN := Lib.hid hin
  have HA := Lib.hid (hA.next ht.bel ht.bel.size)
  have HNH := Lib.hid hN.nh; have HNS := Lib.hid hN.ns; have HNN := Lib.hid hX.nn; have HNG := Lib.hid hX.ng; have HL := Lib.hid hl
  have hh6 := hK.h6
  obtain ⟨ah, nh, ch, az, ns, cz⟩ := V
  obtain ⟨an, nn, cn, ag, ng, cg⟩ := U
  have hnh6 : nh ≤ 6 := by have h1 : T.hs.length = nh := HNH.out; omega
  have hnn : nn = nh := by have h1 : T.hs.length = nh := HNH.out; have h2 : X.ns.length = nn := HNN.out; have := hO.n; omega
  subst hnn
  have hng : ng = ns := by have h1 : T.ss.length = ns := HNS.out; have h2 : X.gs.length = ng := HNG.out; have := hO.g; omega
  subst hng
  obtain ⟨i0, hi0, hz0, hz1, hz2⟩ := info_parts int_info
  have hw2' : (w.alloc (.cells #[.slice ah nn ch, .slice az ng cz] 25)).alloc (.cells #[.slice an nn cn, .slice ag ng cg] 46) = w2 := hw2
  clear hw2 ht hN hX hK hO hin hA hl hh6
  go_enter Try.func28, Try.ntmps28
  go_wp2_with fail
  clear hw2'
  go_loopw [7, 8] (fun vv ii wr => ∃ (k : Nat) (v : Value), k ≤ nn ∧ ii = .int .i64 k ∧ vv = v ∧ Below w2.heap.size w2 wr ∧ wr.ownsRow w2.heap.size 3 1 v k (flatR intR ((List.range k).map (ovV X cs)))) (fun _ ii _ => nn - (intOf ii).toNat)
  case atStart => exact ⟨0, _, by omega, rfl, rfl, Below.refl _ _, World.ownsRow_nil _ _ _ _⟩
  case round =>
    obtain ⟨k, vv, hk, rfl, hvv, hbr, hown⟩ := hrel
    have hvv := hvv.symm
    subst hvv
    have HBR := Lib.hid hbr; have HOWN := Lib.hid hown
    have htx := HT.out.up hbr
    have HTX := Lib.hid htx
    obtain ⟨v0, v1⟩ := box2 htx.zt
    obtain ⟨x0, x1⟩ := box2 htx.zx
    simp only at v0 v1 x0 x1
    by_cases hlt : k < nn
    · have k3 : (0 : Int) ≤ (k : Int) := by omega
      have k4 : (k : Int) < (nn : Int) := by omega
      have hkT : k < T.hs.length := by have h1 : T.hs.length = nn := HNH.out; omega
      obtain ⟨nd, hnd, hn0, hn1⟩ := need_get HK.out HO.out hkT
      obtain ⟨b1, o1, han, hb1, e0⟩ := ints_el htx.tu.ns hnd
      have han2 : an = some ⟨b1, o1, none⟩ := han
      subst han2
      have hneg : IntKind.i64.wrap (-nd) = -nd := IntWalk.i64_in _ (by omega)
      have HKT := Lib.hid hkT
      have HOV : Hid (ovV X cs k = sumA X cs k - nd) := Lib.hid (by unfold ovV; rw [List.getD_eq_getElem?_getD, hnd]; rfl)
      have HND := Lib.hid (And.intro hn0 hn1)
      clear hbr hown htx hnd han hb1
      go_wp2_with fail
      clear v0 v1 x0 x1 e0 hneg
      go_loopw [9, 10] (fun ss ii wq => ∃ j : Nat, j ≤ n ∧ ii = .int .i64 j ∧ ss = .int .i64 (sumA X (cs.take j) k - nd) ∧ Below wr.heap.size wr wq) (fun _ ii _ => n - (intOf ii).toNat)
      case atStart => exact ⟨0, by omega, rfl, by simp [sumA], Below.refl _ _⟩
      case round =>
        obtain ⟨j, hj, rfl, rfl, hbq⟩ := hrel
        have HBQ := Lib.hid hbq
        have htx := HTX.out.up hbq
        obtain ⟨x0, x1⟩ := box2 htx.zx
        simp only at x0 x1
        by_cases hltj : j < n
        · have k5 : (0 : Int) ≤ (j : Int) := by omega
          have k6 : (j : Int) < (n : Int) := by omega
          obtain ⟨x, hx⟩ := get_of_lt (l := cs) (k := j) (by rw [HL.out]; exact hltj)
          have hx2 := HIN.out x (List.mem_of_getElem? hx)
          obtain ⟨i, rfl⟩ := Int.eq_ofNat_of_zero_le hx2.1
          have hi : i < T.ss.length := by omega
          obtain ⟨g, m, hg, hm, hm0, hm1⟩ := cold_get HK.out HO.out hi HKT.out
          have HSC : Hid (sumA X (cs.take (j + 1)) k = sumA X (cs.take j) k + m) := Lib.hid (by rw [sumA_succ hx, Int.toNat_natCast, giv_eq hg hm])
          have hsi := sumA_in HK.out HO.out (cs := cs.take j) (fun y hy => HIN.out y (List.mem_of_mem_take hy)) HKT.out
          rw [List.length_take] at hsi
          obtain ⟨S, hS⟩ : ∃ S, sumA X (cs.take j) k = S := ⟨_, rfl⟩
          rw [hS] at hsi HSC
          have hnd := HND.out
          have hwr : IntKind.i64.wrap (S - nd + m) = S - nd + m := IntWalk.i64_in _ (by omega)
          have HWR : Hid (S - nd + m = sumA X (cs.take (j + 1)) k - nd) := Lib.hid (by rw [HSC.out]; omega)
          obtain ⟨b3, o3, rfl, hb3, d0⟩ := ints_el ((HA.out.next HBR.out HBR.out.size).next hbq hbq.size) hx
          obtain ⟨b, o, A', p, c', hag, hbb, hp, c0, hrow, hmx⟩ := grid_row htx.tu.gs hg
          have hag2 : ag = some ⟨b, o, none⟩ := hag
          subst hag2
          obtain ⟨b4, o4, rfl, hb4, d1⟩ := ints_el hrow hm
          have hkp : k < p := by have := (List.getElem?_eq_some_iff.1 hm).1; omega
          have hin2 : i < ng := by have h1 : X.gs.length = ng := HNG.out; have := (List.getElem?_eq_some_iff.1 hg).1; omega
          have k7 : (k : Int) < (p : Int) := by omega
          have k8 : (0 : Int) ≤ (i : Int) := by omega
          have k9 : (i : Int) < (ng : Int) := by omega
          rw [hS]
          clear hx hx2 hg hm hsi hS hb3 hb4 hbb hag hp hrow htx hbq hnd
          go_wp2_with fail
          go_quiet (fail)
          go_wp2_with fail
          exact ⟨⟨j + 1, by omega, rfl, by rw [HWR.out], belN HBQ.out _⟩, by simp [intOf]; omega⟩
        · obtain rfl : n = j := by omega
          have k6 : ¬ (n : Int) < (n : Int) := by omega
          have HOV2 : Hid (sumA X (cs.take n) k - nd = ovV X cs k) := Lib.hid (by rw [HOV.out, List.take_of_length_le (by rw [HL.out]; omega)])
          rw [HOV2.out]
          have HO2 := Lib.hid (own_next HOWN.out hbq)
          have HBA := Lib.hid (HBR.out.trans (hbq.mono HBR.out.size))
          have hsz := HBR.out.size
          have hsz2 := hbq.size
          clear hbq htx x0 x1
          go_wp2_with (first
            | (at_builtin
               refine wpList_append_own _ rfl _ _ 26 rfl w2.heap.size 3 i0 _ 1 8 Try.underlying26 hi0 hz0 hz1 hz2 rfl (by decide) _ _ _ rfl (own_next HO2.out ((Below.refl _ wr).alloc (Nat.le_refl _) _)) ⟨wr.heap.size, 0, none⟩ 1 1 [.int .i64 (ovV X cs k)] rfl rfl (cells_new wr [.int .i64 (ovV X cs k)] 3) (by simp [Value.oneCell']) (by unfold maxLen; omega) (by omega) (by simp; omega) ?_
               intro v' w6 hown6 hgr6 hnil6)
            | fail)
          refine ⟨⟨k + 1, v', by omega, rfl, rfl, ?_, ?_⟩, by simp [intOf]; omega⟩
          · have hb6 : Below w2.heap.size w2 (wr.alloc (.cells #[.int .i64 (ovV X cs k)] 3)) := HBA.out.alloc (by omega) _
            exact hb6.grown hgr6 hb6.size (fun q e => (own_at HO2.out e).1)
          · rw [List.range_succ, List.map_append, List.map_singleton, flatR_snoc]
            exact hown6
    · obtain rfl : nn = k := by omega
      have k4 : ¬ (nn : Int) < (nn : Int) := by omega
      have hro := RowIs.of_own (R := intR) (row := (List.range nn).map (ovV X cs)) (by simpa using hown)
      have HRO : Hid (RowIs intR 3 w.heap.size (ovL T X cs) vv wr) := Lib.hid (by
        have h1 : T.hs.length = nn := HNH.out
        unfold ovL
        rw [h1]
        exact hro.low HT.out.bel.size)
      clear hbr hown htx hro
      go_wp2_with fail
      go_ret
      exact ⟨_, rfl, HTX.out.bel, HRO.out⟩
end Go.Proofs.Ytmppiiamcpjhnaa
