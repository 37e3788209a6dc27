/- Coolers: whether something can be true of a town. -/
import Derived.Test.YtmppiiamcpjhnaaDE
namespace Go.Proofs.Ytmppiiamcpjhnaa
open Go.RowKit Go.Shelf

/-- A town and a truth in two boxes. -/
structure TX (w : World) (V : TV) (U : UV) (T : Tn) (X : Tu) (wr : World) : Prop where
  bel : Below w.heap.size w wr
  zt : wr.heap[w.heap.size]? = some (.cells (tvC V) 25 (0, 0))
  zx : wr.heap[w.heap.size + 1]? = some (.cells (uvC U) 46 (0, 0))
  tn : TnAt wr wr.heap.size V T
  tu : TuAt wr wr.heap.size U X
theorem TX.up {w wr wq : World} {V : TV} {U : UV} {T : Tn} {X : Tu} (h : TX w V U T X wr) (hb : Below wr.heap.size wr wq) : TX w V U T X wq :=
  ⟨h.bel.trans (hb.mono h.bel.size), (hb.block _ (heapsz h.zt)).trans h.zt, (hb.block _ (heapsz h.zx)).trans h.zx, h.tn.up hb, h.tu.up hb⟩
theorem TX.new {w : World} {V : TV} {U : UV} {T : Tn} {X : Tu} (hN : TnAt w w.heap.size V T) (hX : TuAt w w.heap.size U X) : TX w V U T X ((w.alloc (.cells (tvC V) 25)).alloc (.cells (uvC U) 46)) := by
  obtain ⟨z0, z1, hb⟩ := two_new w (.cells (tvC V) 25) (.cells (uvC U) 46)
  exact ⟨hb, z0, z1, hN.up hb, hX.up hb⟩
theorem need_eq {T : Tn} {X : Tu} {h : Nat} {x : Hs} {n : Int} (h1 : T.hs[h]? = some x) (h2 : X.ns[h]? = some n) : needB T X h = inB x.nl n x.nh := by unfold needB; rw [h1, h2]
theorem cold_eq {T : Tn} {X : Tu} {i k : Nat} {s : Si} {g : List Int} {x : Int × Int} {n : Int} (h1 : T.ss[i]? = some s) (h2 : X.gs[i]? = some g) (h3 : s.gv[k]? = some x) (h4 : g[k]? = some n) : coldAt T X i k = inB x.1 n x.2 := by
  unfold coldAt
  rw [h1, h2]
  simp only
  rw [h3, h4]
theorem row_yes {T : Tn} {X : Tu} {i : Nat} {g : List Int} (h1 : X.gs[i]? = some g) (h2 : g.length = T.hs.length) (h3 : ∀ k, k < T.hs.length → coldAt T X i k = true) : rowB T X i = true := by
  unfold rowB
  rw [List.getD_eq_getElem?_getD, h1]
  simp only [Option.getD_some, h2, decide_true, Bool.true_and, List.all_eq_true, List.mem_range]
  exact h3
theorem row_no {T : Tn} {X : Tu} {i : Nat} {g : List Int} (h1 : X.gs[i]? = some g) (h2 : g.length ≠ T.hs.length ∨ ∃ k, k < T.hs.length ∧ coldAt T X i k = false) : rowB T X i = false := by
  cases e : rowB T X i with
  | false => rfl
  | true =>
    unfold rowB at e
    rw [List.getD_eq_getElem?_getD, h1] at e
    simp only [Option.getD_some, Bool.and_eq_true, decide_eq_true_eq, List.all_eq_true, List.mem_range] at e
    rcases h2 with h | ⟨k, hk, h⟩
    · exact absurd e.1 h
    · rw [e.2 k hk] at h
      cases h
set_option maxRecDepth 100000 in
set_option maxHeartbeats 8000000 in
theorem possible_any (V : TV) (T : Tn) (U : UV) (X : Tu) (w : World) (hN : TnAt w w.heap.size V T) (hX : TuAt w w.heap.size U X) (hK : TnOk T) :
    Calls Try.prog 60 #[tvV V, uvV U] w fun e w' => e = .returned (.bool (truB T X)) ∧ Below w.heap.size w w' := by
  have ht := TX.new (T := T) (X := X) hN hX
  obtain ⟨w2, hw2⟩ : ∃ z, (w.alloc (.cells (tvC V) 25)).alloc (.cells (uvC U) 46) = z := ⟨_, rfl⟩
  rw [hw2] at ht
  have HT := Lib.hid ht; have HW := Lib.hid hw2; have HK := Lib.hid hK
  have HNH := Lib.hid hN.nh; have HNS := Lib.hid hN.ns; have HNN := Lib.hid hX.nn; have HNG := Lib.hid hX.ng
  obtain ⟨ah, nh, ch, az, ns, cz⟩ := V
  obtain ⟨an, nn, cn, ag, ng, cg⟩ := U
  have m1 := hN.mh; have m2 := hN.ms; have m3 := hX.mn; have m4 := hX.mg
  unfold maxLen at m1 m2 m3 m4
  simp only at m1 m2 m3 m4
  obtain ⟨v0, v1⟩ := box2 ht.zt
  obtain ⟨x0, x1⟩ := box2 ht.zx
  simp only at v0 v1 x0 x1
  have hw2' : (w.alloc (.cells #[.slice ah nh ch, .slice az ns cz] 25)).alloc (.cells #[.slice an nn cn, .slice ag ng cg] 46) = w2 := hw2
  clear hw2 ht hN hX hK
  go_enter Try.func60, Try.ntmps60
  by_cases hn : nn = nh
  · subst hn
    by_cases hg : ng = ns
    · subst hg
      go_wp2_with fail
      clear hw2' v0 v1 x0 x1
      go_loopw [30] (fun ii wr => ∃ k : Nat, k ≤ nn ∧ ii = .int .i64 k ∧ TX w ⟨ah, nn, ch, az, ng, cz⟩ ⟨an, nn, cn, ag, ng, cg⟩ T X wr ∧ ∀ j, j < k → needB T X j = true) (fun ii _ => nn - (intOf ii).toNat)
      case atStart => exact ⟨0, by omega, rfl, HT.out, fun _ h => absurd h (Nat.not_lt_zero _)⟩
      case round =>
        obtain ⟨k, hk, rfl, htx, hal⟩ := hrel
        have HTX := Lib.hid htx; have HAL := Lib.hid hal
        obtain ⟨v0, v1⟩ := box2 htx.zt
        obtain ⟨x0, x1⟩ := box2 htx.zx
        simp only at v0 v1 x0 x1
        clear htx hal
        by_cases hlt : k < nn
        · have k3 : (0 : Int) ≤ (k : Int) := by omega
          have k4 : (k : Int) < (nn : Int) := by omega
          obtain ⟨x, hx⟩ := get_of_lt (l := T.hs) (k := k) (by rw [HNH.out]; exact hlt)
          obtain ⟨n, hn⟩ := get_of_lt (l := X.ns) (k := k) (by rw [HNN.out]; exact hlt)
          obtain ⟨b1, o1, rfl, hb1, d0, d1, _⟩ := hs_el HTX.out.tn.hs hx
          obtain ⟨b2, o2, rfl, hb2, e0⟩ := ints_el HTX.out.tu.ns hn
          have HE := Lib.hid (need_eq hx hn)
          have HS := Lib.hid (spanIn_any n (x.nl, x.nh) wr)
          clear hx hn hb1 hb2
          go_wp2_with fail
          refine HS.out.mono ?_
          rintro e w4 ⟨rfl, hb⟩
          have HTX4 := Lib.hid (HTX.out.up hb)
          obtain ⟨q, hq⟩ : ∃ q, inB x.nl n x.nh = q := ⟨_, rfl⟩
          have HQ : Hid (needB T X k = q) := Lib.hid (HE.out.trans hq)
          simp only
          rw [hq]
          clear hb v0 v1 x0 x1 d0 d1 e0 hq
          cases q with
          | false =>
            have HF : Hid (truB T X = false) := Lib.hid (truB_no fun h => by have := h.nd k (by rw [HNH.out]; exact hlt); rw [HQ.out] at this; cases this)
            go_wp2_with fail
            go_ret
            exact ⟨by rw [HF.out]; rfl, HTX4.out.bel⟩
          | true =>
            go_wp2_with fail
            exact ⟨⟨k + 1, by omega, rfl, HTX4.out, fun j hj => by
              rcases Nat.lt_succ_iff_lt_or_eq.1 hj with hj | rfl
              · exact HAL.out j hj
              · exact HQ.out⟩, by simp [intOf]; omega⟩
        · obtain rfl : nn = k := by omega
          have k4 : ¬ (nn : Int) < (nn : Int) := by omega
          go_wp2_with fail
          clear v0 v1 x0 x1
          go_loopw [48] (fun ii wr => ∃ k : Nat, k ≤ ng ∧ ii = .int .i64 k ∧ TX w ⟨ah, nn, ch, az, ng, cz⟩ ⟨an, nn, cn, ag, ng, cg⟩ T X wr ∧ ∀ j, j < k → rowB T X j = true) (fun ii _ => ng - (intOf ii).toNat)
          case atStart => exact ⟨0, by omega, rfl, HTX.out, fun _ h => absurd h (Nat.not_lt_zero _)⟩
          case round =>
            obtain ⟨i, hi, rfl, htx, hal2⟩ := hrel
            have HTY := Lib.hid htx; have HAL2 := Lib.hid hal2
            obtain ⟨v0, v1⟩ := box2 htx.zt
            obtain ⟨x0, x1⟩ := box2 htx.zx
            simp only at v0 v1 x0 x1
            clear htx hal2
            by_cases hlt2 : i < ng
            · have k5 : (0 : Int) ≤ (i : Int) := by omega
              have k6 : (i : Int) < (ng : Int) := by omega
              obtain ⟨g, hg⟩ := get_of_lt (l := X.gs) (k := i) (by rw [HNG.out]; exact hlt2)
              obtain ⟨s, hs⟩ := get_of_lt (l := T.ss) (k := i) (by rw [HNS.out]; exact hlt2)
              have HG := Lib.hid hg; have HSI := Lib.hid hs
              obtain ⟨b, o, A', m, c', rfl, hbb, hm, c0, hrow, hmx⟩ := grid_row HTY.out.tu.gs hg
              have HM := Lib.hid hm
              unfold maxLen at hmx
              by_cases hmn : m = nn
              · subst hmn
                have HLEN : Hid (s.gv.length = m) := Lib.hid (by have := (HK.out.ss s (List.mem_of_getElem? hs)).len; have h2 : T.hs.length = m := HNH.out; omega)
                have HR0 := Lib.hid hrow
                clear hg hs hm hbb hrow
                go_wp2_with fail
                clear v0 v1 x0 x1 c0
                go_loopw [61] (fun ii wr => ∃ k : Nat, k ≤ m ∧ ii = .int .i64 k ∧ TX w ⟨ah, m, ch, az, ng, cz⟩ ⟨an, m, cn, some ⟨b, o, none⟩, ng, cg⟩ T X wr ∧ IntsAt wr wr.heap.size A' g ∧ ∀ j, j < k → coldAt T X i j = true) (fun ii _ => m - (intOf ii).toNat)
                case atStart => exact ⟨0, by omega, rfl, HTY.out, HR0.out, fun _ h => absurd h (Nat.not_lt_zero _)⟩
                case round =>
                  obtain ⟨k2, hk2, rfl, htx, hrw, hal3⟩ := hrel
                  have HRW := Lib.hid hrw
                  have HTZ := Lib.hid htx; have HAL3 := Lib.hid hal3
                  obtain ⟨v0, v1⟩ := box2 htx.zt
                  simp only at v0 v1
                  clear htx hal3
                  by_cases hlt3 : k2 < m
                  · have k7 : (0 : Int) ≤ (k2 : Int) := by omega
                    have k8 : (k2 : Int) < (m : Int) := by omega
                    obtain ⟨n, hn⟩ := get_of_lt (l := g) (k := k2) (by have := HM.out; omega)
                    obtain ⟨x, hx⟩ := get_of_lt (l := s.gv) (k := k2) (by rw [HLEN.out]; exact hlt3)
                    obtain ⟨b3, o3, rfl, hb3, e0⟩ := ints_el hrw hn
                    obtain ⟨b4, o4, A4, m4', c4, rfl, hb4, hm4, ⟨_, _, d2⟩, hpr, hmx4⟩ := si_el HTZ.out.tn.ss HSI.out
                    obtain ⟨b5, o5, rfl, hb5, g0, g1⟩ := pr_el hpr hx
                    have HE := Lib.hid (cold_eq HSI.out HG.out hx hn)
                    have hm4m : m4' = m := by rw [hm4]; exact HLEN.out
                    subst hm4m
                    unfold maxLen at hmx4
                    have HS := Lib.hid (spanIn_any n x wr)
                    clear hn hx hb3 hb4 hb5 hpr hm4 hrw
                    go_wp2_with fail
                    refine HS.out.mono ?_
                    rintro e w4 ⟨rfl, hb⟩
                    have HTX4 := Lib.hid (HTZ.out.up hb)
                    have HRW4 := Lib.hid (RowAt.up HRW.out hb)
                    obtain ⟨q, hq⟩ : ∃ q, inB x.1 n x.2 = q := ⟨_, rfl⟩
                    have HQ : Hid (coldAt T X i k2 = q) := Lib.hid (HE.out.trans hq)
                    rw [hq]
                    clear hb v0 v1 e0 d2 g0 g1 hq
                    cases q with
                    | false =>
                      have HF : Hid (truB T X = false) := Lib.hid (truB_no fun h => by
                        have := h.r i (by rw [HNS.out]; exact hlt2)
                        rw [row_no HG.out (.inr ⟨k2, by rw [HNH.out]; exact hlt3, HQ.out⟩)] at this
                        cases this)
                      go_wp2_with fail
                      go_ret
                      exact ⟨by rw [HF.out]; rfl, HTX4.out.bel⟩
                    | true =>
                      go_wp2_with fail
                      exact ⟨⟨k2 + 1, by omega, rfl, HTX4.out, HRW4.out, fun j hj => by
                        rcases Nat.lt_succ_iff_lt_or_eq.1 hj with hj | rfl
                        · exact HAL3.out j hj
                        · exact HQ.out⟩, by simp [intOf]; omega⟩
                  · obtain rfl : m = k2 := by omega
                    have k8 : ¬ (m : Int) < (m : Int) := by omega
                    have HRY : Hid (rowB T X i = true) := Lib.hid (row_yes HG.out (by rw [← HM.out]; exact HNH.out.symm) fun j hj => HAL3.out j (by have h2 : T.hs.length = m := HNH.out; omega))
                    clear hrw
                    go_wp2_with fail
                    exact ⟨⟨i + 1, by omega, rfl, HTZ.out, fun j hj => by
                      rcases Nat.lt_succ_iff_lt_or_eq.1 hj with hj | rfl
                      · exact HAL2.out j hj
                      · exact HRY.out⟩, by simp [intOf]; omega⟩
              · have HF : Hid (truB T X = false) := Lib.hid (truB_no fun h => by
                  have := h.r i (by rw [HNS.out]; exact hlt2)
                  rw [row_no HG.out (.inl (by have h2 : T.hs.length = nn := HNH.out; have := HM.out; omega))] at this
                  cases this)
                have hmn2 : ¬ (m : Int) = (nn : Int) := by omega
                clear hg hs hm hbb hrow
                go_wp2_with fail
                go_ret
                exact ⟨by rw [HF.out]; rfl, HTY.out.bel⟩
            · obtain rfl : ng = i := by omega
              have k6 : ¬ (ng : Int) < (ng : Int) := by omega
              have HF : Hid (truB T X = true) := Lib.hid (truB_iff.2 ⟨HNN.out.trans HNH.out.symm, HNG.out.trans HNS.out.symm, fun h hh => HAL.out h (by rw [HNH.out] at hh; exact hh), fun j hj => HAL2.out j (by rw [HNS.out] at hj; exact hj)⟩)
              go_wp2_with fail
              go_ret
              exact ⟨by rw [HF.out]; rfl, HTY.out.bel⟩
    · have HF : Hid (truB T X = false) := Lib.hid (truB_no fun h => hg (by have := h.g; have h1 := HNG.out; have h2 := HNS.out; simp only at h1 h2; omega))
      have hg2 : ¬ (ng : Int) = (ns : Int) := by omega
      go_wp2_with fail
      go_ret
      exact ⟨by rw [HF.out]; rfl, HT.out.bel⟩
  · have HF : Hid (truB T X = false) := Lib.hid (truB_no fun h => hn (by have := h.n; have h1 := HNN.out; have h2 := HNH.out; simp only at h1 h2; omega))
    have hn2 : ¬ (nn : Int) = (nh : Int) := by omega
    go_wp2_with fail
    go_ret
    exact ⟨by rw [HF.out]; rfl, HT.out.bel⟩
end Go.Proofs.Ytmppiiamcpjhnaa
