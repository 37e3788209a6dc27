/- Pipes: all orders, by the specification. -/
import Derived.Test.YticmeeinjkoodaaSE
import Derived.Laws.AppendOwnNone
namespace Go.Proofs.Yticmeeinjkoodaa
open Go.RowKit Go.Shelf

def gI (l : List (List Nat)) : List (List Int) := l.map fun o => o.map fun k : Nat => (k : Int)
theorem gI_app (a b : List (List Nat)) : gI (a ++ b) = gI a ++ gI b := by simp [gI]
theorem gI_len (a : List (List Nat)) : (gI a).length = a.length := by simp [gI]
theorem gI_at {l : List (List Nat)} {j : Nat} {o : List Nat} (h : l[j]? = some o) : (gI l)[j]? = some (o.map fun k : Nat => (k : Int)) := by
  unfold gI
  rw [List.getElem?_map, h]
  rfl
def moreK (s : Nat) (o : List Nat) (k : Nat) : List (List Nat) := ((List.range k).filter fun l => s.testBit l && !o.contains l).map fun l => o ++ [l]
theorem moreK_yes {s k : Nat} {o : List Nat} (h1 : s.testBit k = true) (h2 : o.contains k = false) : moreK s o (k + 1) = moreK s o k ++ [o ++ [k]] := by
  unfold moreK
  have h3 : ¬ k ∈ o := by simpa using h2
  rw [List.range_succ, List.filter_append, List.map_append]
  simp [h1, h3]
theorem moreK_no {s k : Nat} {o : List Nat} (h : s.testBit k = false ∨ o.contains k = true) : moreK s o (k + 1) = moreK s o k := by
  unfold moreK
  have h3 : s.testBit k = false ∨ k ∈ o := h.imp id fun q => by simpa using q
  rw [List.range_succ, List.filter_append, List.map_append]
  rcases h3 with h | h <;> simp [h]
theorem moreK_all {s n : Nat} (hn : n ≤ 5) (hs : s < 2 ^ n) (o : List Nat) : moreK s o n = moreO (pilL (s : Int)) o := by
  unfold moreK moreO
  congr 1
  unfold pilL
  rw [List.filter_filter]
  obtain ⟨d, hd⟩ : ∃ d, 5 = n + d := ⟨5 - n, by omega⟩
  rw [hd, List.range_add, List.filter_append]
  have e : (((List.range d).map (n + ·)).filter fun a => !o.contains a && jackB (s : Int) a) = [] := by
    rw [List.filter_eq_nil_iff]
    intro a ha
    obtain ⟨i, hi, rfl⟩ := List.mem_map.1 ha
    have hi2 := List.mem_range.1 hi
    have hb : s.testBit (n + i) = false := Nat.testBit_lt_two_pow (Nat.lt_of_lt_of_le hs (Nat.pow_le_pow_right (by decide) (Nat.le_add_right _ _)))
    have hj : jackB (s : Int) (n + i) = false := by
      cases hq : jackB (s : Int) (n + i) with
      | false => rfl
      | true =>
        have := pil_bit (s := s) (k := n + i) (List.mem_filter.2 ⟨List.mem_range.2 (by omega), hq⟩)
        rw [hb] at this
        cases this
    simp [hj]
  rw [e, List.append_nil]
  refine List.filter_congr fun a ha => ?_
  have ha2 := List.mem_range.1 ha
  have hq : jackB (s : Int) a = s.testBit a := by
    have := mem_pil (m := s) (i := a) (by omega)
    unfold pilL at this
    rw [List.mem_filter, List.mem_range] at this
    cases h1 : jackB (s : Int) a <;> cases h2 : s.testBit a <;> simp_all <;> omega
  rw [hq, Bool.and_comm]
theorem moreK_len (s : Nat) (o : List Nat) (k : Nat) : (moreK s o k).length ≤ k := by
  unfold moreK
  rw [List.length_map]
  exact Nat.le_trans (List.length_filter_le _ _) (by simp)
theorem moreO_len (P o : List Nat) : (moreO P o).length ≤ P.length := by
  unfold moreO
  rw [List.length_map]
  exact List.length_filter_le _ _
theorem flat_len5 {P : List Nat} (hP : P.length ≤ 5) : ∀ L : List (List Nat), (L.flatMap (moreO P)).length ≤ 5 * L.length
  | [] => by simp
  | o :: L => by
    have := moreO_len P o
    have := flat_len5 hP L
    rw [List.flatMap_cons, List.length_append, List.length_cons]
    omega
theorem ords_len {P : List Nat} (hP : P.length ≤ 5) : ∀ r, (ordsK P r).length ≤ 5 ^ r
  | 0 => by simp [ordsK]
  | r + 1 => by
    have := flat_len5 hP (ordsK P r)
    have := ords_len hP r
    show ((ordsK P r).flatMap (moreO P)).length ≤ _
    rw [Nat.pow_succ]
    omega
theorem flat_take {P : List Nat} {L : List (List Nat)} {j : Nat} {o : List Nat} (h : L[j]? = some o) : (L.take (j + 1)).flatMap (moreO P) = (L.take j).flatMap (moreO P) ++ moreO P o := by
  rw [List.take_add_one, h, List.flatMap_append]
  simp
theorem flat1_len : ∀ xs : List Int, (flatR intR xs).length = xs.length
  | [] => rfl
  | x :: r => by
    show ([Value.int .i64 x] ++ flatR intR r).length = _
    rw [List.length_append, flat1_len r, List.length_cons]
    show 1 + r.length = r.length + 1
    omega
theorem cnt_le (s : Nat) : ∀ k, cntK s k ≤ k
  | 0 => by simp [cntK]
  | k + 1 => by
    have := cnt_le s k
    rw [cnt_succ]
    split <;> omega
section
variable {α : Type} {R : α → List Value} {eT sT : TypeId} {w wr wq : World} {base : Nat} {LL : List (List α)} {lv : Value} {rows : List Value}
theorem GrdI.cell (h : GrdI R eT sT w base LL lv rows wr) {j : Nat} {row : List α} (hj : LL[j]? = some row) :
    ∃ g c v, lv = .slice (some ⟨g, 0, none⟩) LL.length c ∧ g < wr.heap.size ∧ wr.cell? ⟨g, j, none⟩ = some v ∧ RowIs R eT base row v wr := by
  obtain ⟨v, h1, h2⟩ := h.rws.2 j row hj
  have hlt := (List.getElem?_eq_some_iff.1 hj).1
  have hown := h.own
  rcases hown.2 with ⟨e1, e2⟩ | ⟨g, cap, cur, rfl, _, hg, _⟩
  · omega
  · exact ⟨g, cap, v, rfl, heapsz hg, by rw [hown.cellAt j (by omega)]; exact h1, h2⟩
theorem GrdI.rebase {w0 : World} (h : GrdI R eT sT w base LL lv rows wr) (hb : Below w0.heap.size w0 w) : GrdI R eT sT w0 w0.heap.size LL lv rows wr :=
  ⟨hb.trans (h.bel.mono hb.size), ⟨h.own.1, h.own.2.imp id fun ⟨g, cap, cur, e1, e2, e3⟩ => ⟨g, cap, cur, e1, Nat.le_trans (Nat.le_trans hb.size h.low) e2, e3⟩⟩, ⟨h.rws.1, fun j row hj => by
    obtain ⟨v, h1, h2⟩ := h.rws.2 j row hj
    exact ⟨v, h1, h2.low (Nat.le_trans hb.size h.low)⟩⟩, Nat.le_refl _⟩
end
theorem contains_take {o : List Nat} {i x : Nat} (h : o[i]? = some x) (k : Nat) : (o.take (i + 1)).contains k = ((o.take i).contains k || (x == k)) := by
  rw [Bool.eq_iff_iff, List.contains_iff_mem, Bool.or_eq_true, List.contains_iff_mem, List.take_add_one, h, List.mem_append, beq_iff_eq]
  exact or_congr Iff.rfl ⟨fun q => by simpa [eq_comm] using q, fun q => by simp [q]⟩
set_option maxRecDepth 100000 in
set_option maxHeartbeats 16000000 in
theorem rorders_any (V : NV) (N : Nt) {s : Nat} (w : World) (hN : NtAt w w.heap.size V N) (hK : NtOk N) (hs : s < 2 ^ N.lo.length) :
    Calls Try.prog 74 #[nvV V, .int .i64 s] w fun e w' => ∃ lv rows w0, e = .returned lv ∧ Below w.heap.size w w' ∧ GrdI intR 3 57 w0 w0.heap.size (gI (ordsK (pilL (s : Int)) (pilL (s : Int)).length)) lv rows w' ∧ w.heap.size ≤ w0.heap.size := by
  have HK := Lib.hid hK; have HSL := Lib.hid hs
  have z := heap_alloc_new w (.cells (nvC V) 26)
  have hb := (Below.refl w.heap.size w).alloc (Nat.le_refl _) (.cells (nvC V) 26)
  obtain ⟨w1, hw1⟩ : ∃ z, w.alloc (.cells (nvC V) 26) = z := ⟨_, rfl⟩
  rw [hw1] at z hb
  have HW := Lib.hid hw1
  have HN := Lib.hid (hN.up hb)
  obtain ⟨al, nl, cl, af, nf, cf, aw, nw, cw⟩ := V
  obtain ⟨v0, v1, v2⟩ := box3_cells z
  have hml := hN.ml; have hmf := hN.mf; have hmw := hN.mw
  unfold maxLen at hml hmf hmw
  simp only at hml hmf hmw v0 v1 v2
  have HB := Lib.hid hb; have Z := Lib.hid z
  have HNL := Lib.hid hN.nl; have HNF := Lib.hid hN.nf; have HNW := Lib.hid hN.nw
  clear z hb hw1 hN
  clear hK hs
  have hnl5 : nl ≤ 5 := by have h1 := HNL.out; have h2 := HK.out.n5; first | omega | (simp only at h1; omega)
  have hs32 : s < 32 := Nat.lt_of_lt_of_le HSL.out (Nat.pow_le_pow_right (show 0 < 2 by decide) HK.out.n5.2)
  have HSN : Hid (s < 2 ^ nl) := Lib.hid (by have h1 := HNL.out; have h2 := HSL.out; first | rwa [h1] at h2 | (simp only at h1; rwa [h1] at h2))
  obtain ⟨P, hP⟩ : ∃ P, pilL (s : Int) = P := ⟨_, rfl⟩
  have HPL : Hid (P.length ≤ 5) := Lib.hid (by rw [← hP]; exact pil_len (s := (s : Int)) (k := 5))
  have HPP := Lib.hid hP
  have HM : Hid (∀ o, moreK s o nl = moreO P o) := Lib.hid fun o => by rw [← hP]; exact moreK_all hnl5 HSN.out o
  have HC : Hid (cntK s nl = P.length) := Lib.hid (by rw [← hP]; exact cnt_all hnl5 HSN.out)
  rw [hP]
  clear hP
  obtain ⟨i0, hi0, hz0, hz1, hz2⟩ := info_parts int_info
  obtain ⟨j0, hj0, jz0, jz1, jz2⟩ := info_parts (show (Try.prog.info? 57).map (fun i => (i.zero, i.size, i.bytes)) = some (some (.slice none 0 0), 1, 24) by kernel_rfl)
  have hlit := World.ownsRow_lit (base := w.heap.size + 1) (e := 57) (size := 1) w1 #[.slice none 0 0] 1 (by rw [← HW.out]; simp) (by unfold maxLen; omega) rfl
  have hs1 : w1.heap.size = w.heap.size + 1 := by rw [← HW.out]; simp
  rw [hs1] at hlit
  have HG0 : Hid (GrdI intR 3 57 w1 w1.heap.size (gI (ordsK P (cntK s 0))) (.slice (some ⟨w.heap.size + 1, 0, none⟩) 1 1) [.slice none 0 0] (w1.alloc (.cells #[.slice none 0 0] 57))) := Lib.hid ⟨(Below.refl w1.heap.size w1).alloc (Nat.le_refl _) _, by rw [hs1]; exact hlit, ⟨rfl, fun j row hj => by
    have e : gI (ordsK P (cntK s 0)) = [[]] := rfl
    rw [e] at hj
    match j, hj with
    | 0, hj =>
      simp only [List.getElem?_cons_zero, Option.some.injEq] at hj
      subst hj
      exact ⟨_, rfl, .inl ⟨rfl, rfl⟩⟩
    | j + 1, hj => simp at hj⟩, Nat.le_refl _⟩
  clear hlit
  go_enter Try.func74, Try.ntmps74
  go_wp2_with fail
  rw [show w.alloc (.cells #[.slice al nl cl, .slice af nf cf, .slice aw nw cw] 26) = w1 from HW.out]
  go_loopw [5, 6, 7, 8, 9, 10, 11] (fun vv ii _ _ _ _ _ wr => ∃ (k : Nat) (rows : List Value), k ≤ nl ∧ ii = .int .i64 k ∧ GrdI intR 3 57 w1 w1.heap.size (gI (ordsK P (cntK s k))) vv rows wr) (fun _ ii _ _ _ _ _ _ => nl - (intOf ii).toNat)
  case atStart => exact ⟨0, _, by omega, rfl, HG0.out⟩
  case round =>
    obtain ⟨k, rows, hk, rfl, hG⟩ := hrel
    have HG := Lib.hid hG
    have u0 := ((bcell hG.bel).1 _ _ (heapsz Z.out)).trans v0
    clear hG v0 v1 v2
    by_cases hlt : k < nl
    · have k3 : (0 : Int) ≤ (k : Int) := by omega
      have k4 : (k : Int) < (nl : Int) := by omega
      have HCS := Lib.hid (cnt_succ s k)
      have hck := cnt_le s k
      obtain ⟨wo, rfl⟩ : ∃ z : World, z = wr := ⟨_, rfl⟩
      go_wp2_with fail
      refine (has_any hs32 (by omega) _).mono ?_
      rintro e w' ⟨rfl, rfl⟩
      cases hb : s.testBit k
      · rw [hb, if_neg (by decide), Nat.add_zero] at HCS
        clear hb
        go_wp2_with fail
        exact ⟨⟨k + 1, rows, by omega, rfl, by rw [HCS.out]; exact HG.out⟩, by simp [intOf]; omega⟩
      · rw [hb, if_pos rfl] at HCS
        clear hb
        obtain ⟨r, hr⟩ : ∃ r, cntK s k = r := ⟨_, rfl⟩
        rw [hr] at HG HCS hck
        clear hr
        have HLN := Lib.hid (ords_len HPL.out r)
        have HR5 : Hid (5 ^ r ≤ 3125) := Lib.hid (Nat.le_trans (Nat.pow_le_pow_right (by decide) (show r ≤ 5 by omega)) (by decide))
        have HOR : Hid (∀ o ∈ ordsK P r, o.length = r) := Lib.hid fun o ho => ((mem_ordsK r o).1 ho).2.2
        obtain ⟨A3, c3, rfl, _, _, _⟩ := HG.out.grid (k := 1) (fun _ => rfl) (fun row hrow => by
          obtain ⟨o, ho, rfl⟩ := List.mem_map.1 hrow
          rw [List.length_map, HOR.out o ho]
          unfold maxLen
          omega)
        obtain ⟨m, hm⟩ : ∃ m, (gI (ordsK P r)).length = m := ⟨_, rfl⟩
        have HMM : Hid ((ordsK P r).length = m) := Lib.hid (by rw [← hm, gI_len])
        have hm3 : m ≤ 3125 := by have h1 := HLN.out; have h2 := HR5.out; have h3 := HMM.out; omega
        rw [hm]
        have HGM := Lib.hid hm
        clear hm
        go_wp2_with fail
        go_loopw [7, 8, 9, 10, 11] (fun nn jj _ _ _ wz => ∃ (j : Nat) (rows2 : List Value), j ≤ m ∧ jj = .int .i64 j ∧ GrdI intR 3 57 wo wo.heap.size (gI (((ordsK P r).take j).flatMap (moreO P))) nn rows2 wz) (fun _ jj _ _ _ _ => m - (intOf jj).toNat)
        case atStart => exact ⟨0, [], by omega, rfl, GrdI.nil (Below.refl _ _) (Nat.le_refl _)⟩
        case round =>
          obtain ⟨j, rows2, hj, rfl, hG2⟩ := hrel
          have HG2 := Lib.hid hG2
          clear hG2
          by_cases hjt : j < m
          · have j3 : (0 : Int) ≤ (j : Int) := by omega
            have j4 : (j : Int) < (m : Int) := by omega
            obtain ⟨o, ho⟩ := get_of_lt (l := ordsK P r) (k := j) (by rw [HMM.out]; exact hjt)
            have hol := HOR.out o (List.mem_of_getElem? ho)
            obtain ⟨g, c, v, hlv, hglt, hgc, hri⟩ := HG.out.cell (gI_at ho)
            injection hlv with hlv _ _
            subst hlv
            obtain ⟨F, hF⟩ : ∃ F, ((ordsK P r).take j).flatMap (moreO P) = F := ⟨_, rfl⟩
            have HFT : Hid (((ordsK P r).take (j + 1)).flatMap (moreO P) = F ++ moreO P o) := Lib.hid (by rw [flat_take ho, hF])
            have HFL : Hid (F.length ≤ 15625) := Lib.hid (by
              have h1 := flat_len5 HPL.out ((ordsK P r).take j)
              rw [hF, List.length_take] at h1
              omega)
            rw [hF] at HG2
            have HGL := Lib.hid hglt
            have HGC := Lib.hid hgc
            have HRI := Lib.hid hri
            obtain ⟨A', c', hv, hra, _⟩ := hri.at_ (k := 1) (fun _ => rfl)
            rw [List.length_map, hol] at hv
            subst hv
            have HRA := Lib.hid hra
            have HOL := Lib.hid hol
            obtain ⟨wp, rfl⟩ : ∃ z : World, z = wr := ⟨_, rfl⟩
            clear ho hF hglt hgc hri hra hol
            go_wp2_with fail
            go_loopw [7, 9, 10, 11] (fun nn ll _ _ wz => ∃ (k2 : Nat) (rows3 : List Value), k2 ≤ nl ∧ ll = .int .i64 k2 ∧ GrdI intR 3 57 wo wo.heap.size (gI (F ++ moreK s o k2)) nn rows3 wz) (fun _ ll _ _ _ => nl - (intOf ll).toNat)
            case atStart => exact ⟨0, rows2, by omega, rfl, by rw [show moreK s o 0 = [] from rfl, List.append_nil]; exact HG2.out⟩
            case round =>
              obtain ⟨k2, rows3, hk2, rfl, hG3⟩ := hrel
              have HG3 := Lib.hid hG3
              have t0 := ((bcell hG3.bel).1 _ _ (Nat.lt_of_lt_of_le (heapsz Z.out) HG.out.bel.size)).trans u0
              have tg := ((bcell hG3.bel).1 _ _ HGL.out).trans HGC.out
              clear hG3 u0
              by_cases hlt2 : k2 < nl
              · have l3 : (0 : Int) ≤ (k2 : Int) := by omega
                have l4 : (k2 : Int) < (nl : Int) := by omega
                go_wp2_with fail
                go_loopw [10, 11] (fun mm ii wq => ∃ i : Nat, i ≤ r ∧ ii = .int .i64 i ∧ mm = .bool ((o.take i).contains k2) ∧ wr = wq) (fun _ ii _ => r - (intOf ii).toNat)
                case atStart => exact ⟨0, by omega, rfl, rfl, rfl⟩
                case round =>
                  obtain ⟨i, hi, rfl, rfl, rfl⟩ := hrel
                  by_cases hit : i < r
                  · have i3 : (0 : Int) ≤ (i : Int) := by omega
                    have i4 : (i : Int) < (r : Int) := by omega
                    obtain ⟨x, hx⟩ := get_of_lt (l := o) (k := i) (by rw [HOL.out]; exact hit)
                    have hxx : (o.map fun k : Nat => (k : Int))[i]? = some (x : Int) := by rw [List.getElem?_map, hx]; rfl
                    obtain ⟨b6, o6, rfl, hb6, x0⟩ := ints_el HRA.out hxx
                    have x1 := ((bcell HG3.out.bel).1 _ _ hb6).trans x0
                    have HCT := Lib.hid (contains_take hx k2)
                    clear hx hxx hb6 x0
                    cases hc : (o.take i).contains k2
                    · by_cases hxk : x = k2
                      · have hxk2 : (x : Int) = (k2 : Int) := by omega
                        have HV : Hid ((o.take (i + 1)).contains k2 = true) := Lib.hid (by rw [HCT.out, hxk]; simp)
                        clear hc hxk
                        go_wp2_with fail
                        exact ⟨⟨i + 1, by omega, rfl, by rw [HV.out], by first | rfl | trivial⟩, by simp [intOf]; omega⟩
                      · have hxk2 : ¬ (x : Int) = (k2 : Int) := by omega
                        have HV : Hid ((o.take (i + 1)).contains k2 = false) := Lib.hid (by rw [HCT.out, hc]; simp [hxk])
                        clear hc
                        go_wp2_with fail
                        exact ⟨⟨i + 1, by omega, rfl, by rw [HV.out]; first | rfl | rw [show ((x : Int) == (k2 : Int)) = false from beq_eq_false_iff_ne.2 hxk2], by first | rfl | trivial⟩, by simp [intOf]; omega⟩
                    · have HV : Hid ((o.take (i + 1)).contains k2 = true) := Lib.hid (by rw [HCT.out, hc]; rfl)
                      clear hc
                      go_wp2_with fail
                      exact ⟨⟨i + 1, by omega, rfl, by rw [HV.out], by first | rfl | trivial⟩, by simp [intOf]; omega⟩
                  · obtain rfl : r = i := by omega
                    have i4 : ¬ (r : Int) < (r : Int) := by omega
                    rw [List.take_of_length_le (by rw [HOL.out]; exact Nat.le_refl _)]
                    cases hc : o.contains k2
                    · cases ht : s.testBit k2
                      · have HMK := Lib.hid (moreK_no (k := k2) (o := o) (.inl ht))
                        clear hc
                        go_wp2_with fail
                        refine (has_any hs32 (by omega) _).mono ?_
                        rintro e w' ⟨rfl, rfl⟩
                        rw [ht]
                        clear ht
                        go_wp2_with fail
                        exact ⟨⟨k2 + 1, rows3, by omega, rfl, by rw [HMK.out]; exact HG3.out⟩, by simp [intOf]; omega⟩
                      · have HMK := Lib.hid (moreK_yes ht hc)
                        clear hc
                        go_wp2_with fail
                        refine (has_any hs32 (by omega) _).mono ?_
                        rintro e w' ⟨rfl, rfl⟩
                        rw [ht]
                        clear ht
                        obtain ⟨q, hq⟩ : ∃ q, (gI (F ++ moreK s o k2)).length = q := ⟨_, rfl⟩
                        have HQ := Lib.hid hq
                        have hq5 : q ≤ 15630 := by
                          have h1 := HFL.out
                          have h2 := moreK_len s o k2
                          rw [gI_len, List.length_append] at hq
                          omega
                        have hown3 := HG3.out.own
                        rw [hq] at hown3
                        have HOWQ := Lib.hid hown3
                        clear hq hown3
                        rcases HRI.out with ⟨ho0, hv0⟩ | ⟨b7, c7, hv7, hb7, hl7, cs7, hz7, hc7⟩
                        · injection hv0 with e1 e2 e3
                          subst e1 e3
                          have ho1 : o = [] := List.map_eq_nil_iff.1 ho0
                          have HO1 := Lib.hid ho1
                          clear ho0 ho1
                          subst e2
                          go_wp2_with (first
                            | (at_builtin
                               refine wpList_append_own_none rfl _ _ 57 rfl wr.heap.size 3 i0 1 Try.underlying57 hi0 (.slice none 0 0) 0 [] rfl (World.ownsRow_nil _ _ _ _) rfl ?_)
                            | (at_builtin
                               refine wpList_append_own _ rfl _ _ 57 rfl wr.heap.size 3 i0 _ 1 8 Try.underlying57 hi0 hz0 hz1 hz2 rfl (by decide) (.slice none 0 0) 0 [] rfl (World.ownsRow_nil _ _ _ _) ⟨wr.heap.size, 0, none⟩ 1 1 [.int .i64 (k2 : Int)] rfl rfl (Go.cell_one_new _ _ _) (by simp [Value.oneCell']) (by unfold maxLen; omega) (by omega) (by simp) ?_
                               intro v6 w6 hown6 hgr6 _
                               have hri6 : RowIs intR 3 wr.heap.size ((o ++ [k2]).map fun k : Nat => (k : Int)) v6 w6 := by
                                 rw [HO1.out]
                                 exact RowIs.of_own (row := [(k2 : Int)]) hown6
                               have hb6 : Below wr.heap.size wr w6 := ((Below.refl wr.heap.size wr).alloc (Nat.le_refl _) _).grown hgr6 (by simp) (fun q e => by cases e)
                               obtain ⟨A9, c9, hv9, _, _⟩ := hri6.at_ (k := 1) (fun _ => rfl)
                               subst hv9
                               obtain ⟨n9, hn9⟩ : ∃ n9, ((o ++ [k2]).map fun k : Nat => (k : Int)).length = n9 := ⟨_, rfl⟩
                               rw [hn9] at hri6 ⊢
                               have HG6 := Lib.hid (HG3.out.below hb6)
                               have HR6 := Lib.hid (hri6.low (Nat.le_trans (Nat.le_refl _) HG3.out.bel.size))
                               have HOW6 := Lib.hid (own_next HOWQ.out hb6)
                               have hs6 : wo.heap.size ≤ w6.heap.size := Nat.le_trans HG3.out.bel.size hb6.size
                               clear hown6 hgr6 hb6 hri6 hn9)
                            | (at_builtin
                               refine wpList_append_own_at _ rfl _ _ 24 rfl wo.heap.size 57 j0 _ 1 24 Try.underlying24 hj0 jz0 jz1 jz2 rfl (by decide) _ _ _ rfl (HOW6.out.alloc _) ⟨w6.heap.size, 0, none⟩ 1 1 [.slice A9 n9 c9] rfl rfl (Go.cell_one_new _ _ _) (by simp [Value.oneCell']) (by unfold maxLen; omega) (by omega) (by simp; omega) ?_
                               intro v8 w8 hown8 hgr8 _ _)
                            | fail)
                          refine ⟨⟨k2 + 1, rows3 ++ [.slice A9 n9 c9], by omega, rfl, ?_⟩, by simp [intOf]; omega⟩
                          rw [HMK.out, ← List.append_assoc, gI_app]
                          exact HG6.out.append (by decide) HR6.out (by rw [HQ.out]; exact hown8) hgr8
                        · injection hv7 with e1 e2 e3
                          subst e1 e3
                          have hlo : (o.map fun k : Nat => (k : Int)).length = r := e2.symm
                          have HNEW : Hid (∀ (i : Nat) (u : Value), (flatR intR (o.map fun k : Nat => (k : Int)))[i]? = some u → wr.cell? ((⟨b7, 0, none⟩ : Addr).add i) = some u) := Lib.hid fun i u hu => by
                            rw [addr_add, Nat.zero_add, cell_of_row wr b7 i cs7 3 (0, 0) ((HG3.out.bel.block _ (heapsz hz7)).trans hz7)]
                            exact hc7 i u hu
                          have HONE : Hid (∀ u ∈ flatR intR (o.map fun k : Nat => (k : Int)), u.oneCell' = true) := Lib.hid fun u hu => by
                            unfold flatR at hu
                            obtain ⟨x, hx, hux⟩ := List.mem_flatten.1 hu
                            obtain ⟨y, _, rfl⟩ := List.mem_map.1 hx
                            simp only [intR, List.mem_singleton] at hux
                            rw [hux]
                            rfl
                          have HFLN : Hid ((flatR intR (o.map fun k : Nat => (k : Int))).length = r * 1) := Lib.hid (by rw [Nat.mul_one, flat1_len]; exact hlo)
                          clear hb7 hl7 hz7 hc7 e2 hlo
                          go_wp2_with (first
                            | (at_builtin
                               refine wpList_append_own _ rfl _ _ 57 rfl wr.heap.size 3 i0 _ 1 8 Try.underlying57 hi0 hz0 hz1 hz2 rfl (by decide) (.slice none 0 0) 0 [] rfl (World.ownsRow_nil _ _ _ _) ⟨b7, 0, none⟩ r c' (flatR intR (o.map fun k : Nat => (k : Int))) rfl HFLN.out HNEW.out HONE.out (by unfold maxLen; omega) (by omega) (Nat.le_refl _) ?_
                               intro v5 w5 hown5 hgr5 _
                               rw [Nat.zero_add, List.nil_append] at hown5
                               have hb5 : Below wr.heap.size wr w5 := (Below.refl wr.heap.size wr).grown hgr5 (Nat.le_refl _) (fun q e => by cases e)
                               have HOW5 := Lib.hid hown5
                               have HB5 := Lib.hid hb5
                               have hs5 : wr.heap.size ≤ w5.heap.size := hb5.size
                               clear hown5 hgr5 hb5)
                            | (at_builtin
                               refine wpList_append_own _ rfl _ _ 57 rfl wr.heap.size 3 i0 _ 1 8 Try.underlying57 hi0 hz0 hz1 hz2 rfl (by decide) _ _ _ rfl (HOW5.out.alloc _) ⟨w5.heap.size, 0, none⟩ 1 1 [.int .i64 (k2 : Int)] rfl rfl (Go.cell_one_new _ _ _) (by simp [Value.oneCell']) (by unfold maxLen; omega) (by omega) (by simp; omega) ?_
                               intro v6 w6 hown6 hgr6 _
                               have hri6 : RowIs intR 3 wr.heap.size ((o ++ [k2]).map fun k : Nat => (k : Int)) v6 w6 := RowIs.of_own (k := 1) (by
                                 rw [List.map_append, List.length_append, List.length_map, HOL.out]
                                 rw [show (List.map (fun k : Nat => (k : Int)) [k2]) = [(k2 : Int)] from rfl, flatR_snoc]
                                 exact hown6)
                               have hb6 : Below wr.heap.size wr w6 := (HB5.out.alloc hs5 _).grown hgr6 (by simp; omega) (fun q e => (own_at HOW5.out e).1)
                               obtain ⟨A9, c9, hv9, _, _⟩ := hri6.at_ (k := 1) (fun _ => rfl)
                               subst hv9
                               obtain ⟨n9, hn9⟩ : ∃ n9, ((o ++ [k2]).map fun k : Nat => (k : Int)).length = n9 := ⟨_, rfl⟩
                               rw [hn9] at hri6 ⊢
                               have HG6 := Lib.hid (HG3.out.below hb6)
                               have HR6 := Lib.hid (hri6.low (Nat.le_trans (Nat.le_refl _) HG3.out.bel.size))
                               have HOW6 := Lib.hid (own_next HOWQ.out hb6)
                               have hs6 : wo.heap.size ≤ w6.heap.size := Nat.le_trans HG3.out.bel.size hb6.size
                               clear hown6 hgr6 hb6 hri6 hn9)
                            | (at_builtin
                               refine wpList_append_own_at _ rfl _ _ 24 rfl wo.heap.size 57 j0 _ 1 24 Try.underlying24 hj0 jz0 jz1 jz2 rfl (by decide) _ _ _ rfl (HOW6.out.alloc _) ⟨w6.heap.size, 0, none⟩ 1 1 [.slice A9 n9 c9] rfl rfl (Go.cell_one_new _ _ _) (by simp [Value.oneCell']) (by unfold maxLen; omega) (by omega) (by simp; omega) ?_
                               intro v8 w8 hown8 hgr8 _ _)
                            | fail)
                          refine ⟨⟨k2 + 1, rows3 ++ [.slice A9 n9 c9], by omega, rfl, ?_⟩, by simp [intOf]; omega⟩
                          rw [HMK.out, ← List.append_assoc, gI_app]
                          exact HG6.out.append (by decide) HR6.out (by rw [HQ.out]; exact hown8) hgr8
                    · have HMK := Lib.hid (moreK_no (s := s) (k := k2) (o := o) (.inr hc))
                      cases ht : s.testBit k2
                      · clear hc
                        go_wp2_with fail
                        refine (has_any hs32 (by omega) _).mono ?_
                        rintro e w' ⟨rfl, rfl⟩
                        rw [ht]
                        clear ht
                        go_wp2_with fail
                        exact ⟨⟨k2 + 1, rows3, by omega, rfl, by rw [HMK.out]; exact HG3.out⟩, by simp [intOf]; omega⟩
                      · clear hc
                        go_wp2_with fail
                        refine (has_any hs32 (by omega) _).mono ?_
                        rintro e w' ⟨rfl, rfl⟩
                        rw [ht]
                        clear ht
                        go_wp2_with fail
                        exact ⟨⟨k2 + 1, rows3, by omega, rfl, by rw [HMK.out]; exact HG3.out⟩, by simp [intOf]; omega⟩
              · obtain rfl : nl = k2 := by omega
                have l4 : ¬ (nl : Int) < (nl : Int) := by omega
                go_wp2_with fail
                have hfin : GrdI intR 3 57 wo wo.heap.size (gI (((ordsK P r).take (j + 1)).flatMap (moreO P))) u7 rows3 wr := by
                  rw [HFT.out, ← HM.out o]
                  exact HG3.out
                first | exact ⟨⟨j + 1, rows3, by omega, rfl, hfin⟩, by simp [intOf]; omega⟩ | exact ⟨⟨j + 1, by omega, rfl, rows3, hfin⟩, by simp [intOf]; omega⟩
          · obtain rfl : m = j := by omega
            have j4 : ¬ (m : Int) < (m : Int) := by omega
            go_wp2_with fail
            have h := HG2.out.rebase HG.out.bel
            rw [List.take_of_length_le (by rw [HMM.out]; exact Nat.le_refl _)] at h
            have h2 : GrdI intR 3 57 w1 w1.heap.size (gI (ordsK P (cntK s (k + 1)))) u7 rows2 wr := by
              rw [HCS.out]
              exact h
            first | exact ⟨⟨k + 1, rows2, by omega, rfl, h2⟩, by simp [intOf]; omega⟩ | exact ⟨⟨k + 1, by omega, rfl, rows2, h2⟩, by simp [intOf]; omega⟩
    · obtain rfl : nl = k := by omega
      have k4 : ¬ (nl : Int) < (nl : Int) := by omega
      go_wp2_with fail
      exact bodyPost_ret (v := u5) (by simp [results, Try.results74, go_sem]) rfl (by
        have h1 := HB.out.trans (HG.out.bel.mono HB.out.size)
        have h2 := HG.out
        rw [HC.out] at h2
        first | exact ⟨u5, rows, w1, rfl, h1, h2, HB.out.size⟩ | exact ⟨u5, rfl, h1, rows, w1, h2, HB.out.size⟩)
end Go.Proofs.Yticmeeinjkoodaa
