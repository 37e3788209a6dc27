/- Coolers: all sets of so many, by the specification. -/
import Derived.Test.YtmppiiamcpjhnaaEC
namespace Go.Proofs.Ytmppiiamcpjhnaa
open Go.RowKit Go.Shelf

theorem subL_len {α : Type} : ∀ (m : Nat) (l : List α), (subL m l).length ≤ 2 ^ l.length
  | 0, l => by simp only [subL, List.length_singleton]; exact Nat.one_le_two_pow
  | m + 1, [] => by simp [subL]
  | m + 1, x :: l => by
    have h1 := subL_len m l
    have h2 := subL_len (m + 1) l
    unfold subL
    rw [List.length_append, List.length_map, List.length_cons, Nat.pow_succ]
    omega
/-- What was found behind the first so many elements. -/
def subK (m : Nat) (l : List Int) : Nat → List (List Int)
  | 0 => []
  | i + 1 => subK m l i ++ (match l[i]? with | some x => (subL m (l.drop (i + 1))).map fun o => x :: o | none => [])
theorem subK_succ {m : Nat} {l : List Int} {i : Nat} {x : Int} (h : l[i]? = some x) : subK m l (i + 1) = subK m l i ++ (subL m (l.drop (i + 1))).map fun o => x :: o := by
  show subK m l i ++ _ = _
  rw [h]
theorem subK_cons (m : Nat) (x : Int) (l : List Int) : ∀ i, subK m (x :: l) (i + 1) = ((subL m l).map fun o => x :: o) ++ subK m l i
  | 0 => by
    show [] ++ _ = _ ++ []
    simp
  | i + 1 => by
    have ih := subK_cons m x l i
    have e : subK m (x :: l) (i + 1 + 1) = subK m (x :: l) (i + 1) ++ (match (x :: l)[i + 1]? with | some y => (subL m ((x :: l).drop (i + 1 + 1))).map fun o => y :: o | none => []) := rfl
    rw [e, ih, List.append_assoc]
    rfl
theorem subK_all (m : Nat) : ∀ l : List Int, subK m l l.length = subL (m + 1) l
  | [] => rfl
  | x :: l => by
    rw [List.length_cons, subK_cons, subK_all m l]
    rfl
theorem subK_len (m : Nat) (l : List Int) (K : Nat) (hK : ∀ i, (subL m (l.drop i)).length ≤ K) : ∀ i, (subK m l i).length ≤ i * K
  | 0 => by simp [subK]
  | i + 1 => by
    have ih := subK_len m l K hK i
    show (subK m l i ++ _).length ≤ _
    rw [List.length_append, Nat.succ_mul]
    refine Nat.add_le_add ih ?_
    cases h : l[i]? with
    | none => exact Nat.zero_le _
    | some x =>
      rw [List.length_map]
      exact hK (i + 1)
theorem ints44 : (Try.prog.info? 26).map (fun i => (i.zero, i.size, i.bytes)) = some (some (.slice none 0 0), 1, 24) := by kernel_rfl
section
variable {α : Type} {R : α → List Value} {eT sT : TypeId} {w wr wq : World} {base : Nat} {LL : List (List α)} {lv : Value} {rows : List Value}
/-- Another row is appended, out of a world in which all is made. -/
theorem GrdI.append2 {v v' : Value} {row : List α} (h : GrdI R eT sT w base LL lv rows wr) (hne : eT ≠ sT) (hr : RowIs R eT base row v wr)
    (ho : wq.ownsRow base sT 1 v' (LL.length + 1) (rows ++ [v])) (hq : wr.grownBy wq lv.ownBlock) :
    GrdI R eT sT w base (LL ++ [row]) v' (rows ++ [v]) wq := by
  have hk : ∀ b cs, base ≤ b → wr.heap[b]? = some (.cells cs eT (0, 0)) → wq.heap[b]? = some (.cells cs eT (0, 0)) := fun b cs _ hx => by
    have hlt := (Array.getElem?_eq_some_iff.1 hx).1
    exact (hq.block b hlt (own_ne h.own hx (.inr fun _ e => by injection e with _ e; exact hne e))).trans hx
  refine ⟨h.bel.grown hq h.bel.size (fun B hB => Nat.le_trans h.low (own_at h.own hB).1), by rw [List.length_append]; exact ho, ⟨by rw [List.length_append, List.length_append, h.rws.1]; rfl, fun j r hj => ?_⟩, h.low⟩
  by_cases hjl : j < LL.length
  · rw [List.getElem?_append_left hjl] at hj
    obtain ⟨u, h1, h2⟩ := h.rws.2 j r hj
    exact ⟨u, by rw [List.getElem?_append_left (by rw [h.rws.1]; exact hjl)]; exact h1, h2.keep hk⟩
  · have : j = LL.length := by
      have := (List.getElem?_eq_some_iff.1 hj).1
      simp at this
      omega
    subst this
    rw [List.getElem?_append_right (Nat.le_refl _), Nat.sub_self] at hj
    simp at hj
    subst hj
    exact ⟨v, by rw [← h.rws.1, List.getElem?_append_right (Nat.le_refl _), Nat.sub_self]; rfl, hr.keep hk⟩
end
theorem cell_same {w w' : World} {b k : Nat} (h : w'.heap[b]? = w.heap[b]?) : w'.cell? ⟨b, k, none⟩ = w.cell? ⟨b, k, none⟩ := by
  simp only [World.cell?, h]
def seCv (vv l0 lv vr : Value) (b o g i k : Nat) (x : Int) : Tmp → Value
  | 5 => vv
  | 0 => l0
  | 6 => .int .i64 (i : Int)
  | 7 => lv
  | 8 => .int .i64 (k : Int)
  | 31 => vv
  | 32 => l0
  | 33 => .int .i64 (i : Int)
  | 34 => .pointer (some ⟨b, o + i, none⟩)
  | 35 => .int .i64 x
  | 37 => lv
  | 38 => .int .i64 (k : Int)
  | 39 => .pointer (some ⟨g, k, none⟩)
  | 40 => vr
  | _ => undef
def seF (B : Nat) (x : Int) (row : List Int) : Nat → Value → World → Prop
  | 5, v, w => ∃ q, v = .slice (some ⟨q, 0, none⟩) 1 1 ∧ B ≤ q ∧ w.heap[q]? = some (.cells #[.int .i64 x] 3 (0, 0))
  | 10, v, w => RowIs intR 3 B (x :: row) v w
  | 11, v, w => ∃ q vx, v = .slice (some ⟨q, 0, none⟩) 1 1 ∧ w.heap[q]? = some (.cells #[vx] 26 (0, 0)) ∧ RowIs intR 3 B (x :: row) vx w
  | _, _, _ => True
theorem seF_keep (B : Nat) (x : Int) (row : List Int) : ∀ i v w1 w2, seF B x row i v w1 → Below w1.heap.size w1 w2 → seF B x row i v w2 := fun i v w1 w2 h hb => by
  unfold seF at h ⊢
  split
  · obtain ⟨q, e, h1, h2⟩ := h
    exact ⟨q, e, h1, (hb.block _ (heapsz h2)).trans h2⟩
  · exact h.below hb
  · obtain ⟨q, vx, e, h1, h2⟩ := h
    exact ⟨q, vx, e, (hb.block _ (heapsz h1)).trans h1, h2.below hb⟩
  · trivial
section
attribute [local irreducible] QT
set_option maxRecDepth 100000 in
set_option maxHeartbeats 16000000 in
theorem rsets_any : ∀ (m : Nat) (l : List Int) (A : Option Addr) (n c : Nat) (w : World), m ≤ 10 → l.length = n → n ≤ 10 → n ≤ c → IntsAt w w.heap.size A l →
    Calls Try.prog 68 #[.slice A n c, .int .i64 (m : Int)] w fun e w' => ∃ lv rows w0, e = .returned lv ∧ Below w.heap.size w w' ∧ GrdI intR 3 26 w0 w0.heap.size (subL m l) lv rows w' ∧ w.heap.size ≤ w0.heap.size := by
  intro m
  induction m with
  | zero =>
    intro l A n c w _ hl hn hnc hA
    have hlit := World.ownsRow_lit (base := w.heap.size) (e := 26) (size := 1) w #[.slice none 0 0] 1 (Nat.le_refl _) (by unfold maxLen; omega) rfl
    have e0 : subL 0 l = [[]] := by simp [subL]
    rw [e0]
    have HG0 : Hid (GrdI intR 3 26 w w.heap.size [[]] (.slice (some ⟨w.heap.size, 0, none⟩) 1 1) [.slice none 0 0] (w.alloc (.cells #[.slice none 0 0] 26))) := Lib.hid ⟨(Below.refl w.heap.size w).alloc (Nat.le_refl _) _, hlit, ⟨rfl, fun j row hj => by
      match j, hj with
      | 0, hj =>
        simp only [List.getElem?_cons_zero, Option.some.injEq] at hj
        subst hj
        exact ⟨_, rfl, .inl ⟨rfl, rfl⟩⟩
      | j + 1, hj => simp at hj⟩, Nat.le_refl _⟩
    clear hlit hA
    go_enter Try.func68, Try.ntmps68
    go_wp2_with fail
    refine bodyPost_ret (v := .slice (some ⟨w.heap.size, 0, none⟩) 1 1) (by simp [results, Try.results68, go_sem]) rfl ?_
    first | exact ⟨_, _, w, rfl, HG0.out.bel, HG0.out, Nat.le_refl _⟩ | exact ⟨_, rfl, HG0.out.bel, _, w, HG0.out, Nat.le_refl _⟩
  | succ m ih =>
    intro l A n c w hm hl hn hnc hA
    have HIH := Lib.hid ih
    have HA := Lib.hid hA; have HL := Lib.hid hl
    obtain ⟨i0, hi0, hz0, hz1, hz2⟩ := info_parts int_info
    obtain ⟨j0, hj0, jz0, jz1, jz2⟩ := info_parts ints44
    clear ih hA hl
    go_enter Try.func68, Try.ntmps68
    have hm0 : ¬ ((m + 1 : Nat) : Int) = 0 := by omega
    have hm1 : (((m + 1 : Nat) : Int) == 0) = false := beq_eq_false_iff_ne.2 hm0
    have hmw : IntKind.i64.wrap (((m + 1 : Nat) : Int) - 1) = (m : Int) := by rw [show ((m + 1 : Nat) : Int) - 1 = (m : Int) by omega]; exact IntWalk.i64_in _ (by omega)
    obtain ⟨mm, hmm⟩ : ∃ mm : Int, ((m + 1 : Nat) : Int) = mm := ⟨_, rfl⟩
    rw [hmm] at hm0 hm1 hmw ⊢
    clear hmm
    go_wp2_with fail
    clear hm0 hm1
    go_loopw [5, 6, 7, 8] (fun vv ii _ _ wr => ∃ (i : Nat) (rows : List Value), i ≤ n ∧ ii = .int .i64 i ∧ GrdI intR 3 26 w w.heap.size (subK m l i) vv rows wr) (fun _ ii _ _ _ => n - (intOf ii).toNat)
    case atStart => exact ⟨0, [], by omega, rfl, GrdI.nil (Below.refl _ _) (Nat.le_refl _)⟩
    case round =>
      obtain ⟨i, rows, hi, rfl, hG⟩ := hrel
      have HG := Lib.hid hG
      clear hG
      obtain ⟨wo, rfl⟩ : ∃ z : World, z = wr := ⟨_, rfl⟩
      obtain ⟨vv0, rfl⟩ : ∃ z : Value, z = u5 := ⟨_, rfl⟩
      by_cases hlt : i < n
      · have k3 : (0 : Int) ≤ (i : Int) := by omega
        have k4 : (i : Int) < (n : Int) := by omega
        have k5 : (i : Int) + 1 ≤ (n : Int) := by omega
        have HAO := Lib.hid (HA.out.next HG.out.bel HG.out.bel.size)
        obtain ⟨x, hx⟩ := get_of_lt (l := l) (k := i) (by rw [HL.out]; exact hlt)
        have HX := Lib.hid hx
        have HKS := Lib.hid (subK_succ (m := m) hx)
        obtain ⟨A3, hsl, hA3⟩ := cut_any (k := i + 1) HAO.out HL.out (by omega) hnc
        have hslw := hsl wo
        rw [show ((i + 1 : Nat) : Int) = (i : Int) + 1 by omega] at hslw
        have HREC := Lib.hid (HIH.out (l.drop (i + 1)) A3 (n - (i + 1)) (c - (i + 1)) wo (by omega) (by rw [List.length_drop, HL.out]) (by omega) (by omega) hA3)
        clear hsl hA3 hx
        go_wp2_with fail
        refine HREC.out.mono ?_
        rintro e w2 ⟨lv, rows2, w0, rfl, hb2, hg2, hw0⟩
        have HG2 := Lib.hid hg2
        have HGO := Lib.hid (HG.out.below hb2)
        have HAO2 := Lib.hid (HAO.out.next hb2 hb2.size)
        obtain ⟨g2, c2, hlv2⟩ : ∃ A2 c2, lv = .slice A2 (subL m (l.drop (i + 1))).length c2 := by
          obtain ⟨A2, c2, e, _⟩ := hg2.grid (k := 1) (fun _ => rfl) (fun row hrow => by
            have h1 := (sub_mem.1 hrow).1.length_le
            rw [List.length_drop, HL.out] at h1
            unfold maxLen
            omega)
          exact ⟨A2, c2, e⟩
        subst hlv2
        have hlen2 := subL_len m (l.drop (i + 1))
        have hp10 : (2 : Nat) ^ (l.drop (i + 1)).length ≤ 1024 := Nat.le_trans (Nat.pow_le_pow_right (by decide) (show _ ≤ 10 by rw [List.length_drop, HL.out]; omega)) (by decide)
        obtain ⟨S, hS⟩ : ∃ S, subL m (l.drop (i + 1)) = S := ⟨_, rfl⟩
        have HSL : Hid (∀ row ∈ S, row.length ≤ 10) := Lib.hid fun row hrow => by
          rw [← hS] at hrow
          have h1 := (sub_mem.1 hrow).1.length_le
          rw [List.length_drop, HL.out] at h1
          omega
        rw [hS] at HG2 HKS hlen2 ⊢
        obtain ⟨sn, hsn⟩ : ∃ sn, S.length = sn := ⟨_, rfl⟩
        rw [hsn] at hlen2 ⊢
        have hsn10 : sn ≤ 1024 := by omega
        have HSN := Lib.hid hsn
        have HKL : Hid ((subK m l i).length ≤ 10 * 1024) := Lib.hid (Nat.le_trans (subK_len m l 1024 (fun j => Nat.le_trans (subL_len _ _) (Nat.le_trans (Nat.pow_le_pow_right (by decide) (show _ ≤ 10 by rw [List.length_drop, HL.out]; omega)) (by decide))) i) (Nat.mul_le_mul_right _ (by omega)))
        have HW0 := Lib.hid hw0
        have HG2B : Hid (∀ q, g2 = some ⟨q, 0, none⟩ → w0.heap.size ≤ q) := Lib.hid fun q e => by
          subst e
          exact (own_at hg2.own rfl).1
        have HB2 := Lib.hid hb2
        clear hb2 hg2 hw0 hS hsn hlen2 hp10 hslw hmw
        go_wp2_with fail
        clear k5
        go_loopw [5, 8] (fun vv kk wr => ∃ (k : Nat) (rows3 : List Value), k ≤ sn ∧ kk = .int .i64 k ∧ GrdI intR 3 26 w w.heap.size (subK m l i ++ (S.take k).map fun o => x :: o) vv rows3 wr ∧ w2.grownBy wr vv0.ownBlock ∧ (vv.ownBlock = vv0.ownBlock ∨ ∃ B, vv.ownBlock = some B ∧ w2.heap.size ≤ B)) (fun _ kk _ => sn - (intOf kk).toNat)
        case atStart => exact ⟨0, rows, by omega, rfl, by simpa using HGO.out, ⟨rfl, rfl, rfl, Nat.le_refl _, fun _ _ _ => rfl⟩, .inl rfl⟩
        case round =>
          obtain ⟨k, rows3, hk, rfl, hG3, hbr, hfr⟩ := hrel
          obtain ⟨vv3, rfl⟩ : ∃ z : Value, z = u5 := ⟨_, rfl⟩
          obtain ⟨wp, rfl⟩ : ∃ z : World, z = wr := ⟨_, rfl⟩
          have HG3 := Lib.hid hG3; have HBR := Lib.hid hbr; have HFR := Lib.hid hfr
          clear hfr
          by_cases hkt : k < sn
          · have l3 : (0 : Int) ≤ (k : Int) := by omega
            have l4 : (k : Int) < (sn : Int) := by omega
            obtain ⟨row, hrow⟩ := get_of_lt (l := S) (k := k) (by rw [HSN.out]; exact hkt)
            obtain ⟨g, c3, vr, hlv, hglt, hgc, hri⟩ := HG2.out.cell hrow
            injection hlv with hlv _ hcc
            subst hlv hcc
            obtain ⟨b, o, rfl, hbb, c0⟩ := ints_el HAO2.out HX.out
            obtain ⟨b', o', e', hbw, _⟩ := ints_el HA.out HX.out
            simp only [Option.some.injEq, Addr.mk.injEq, and_true] at e'
            obtain ⟨rfl, rfl⟩ := e'
            have hnb : some b ≠ vv0.ownBlock := fun e => by have := (own_at HG.out.own e.symm).1; omega
            have hnB : ∀ q, w0.heap.size ≤ q → some q ≠ vv0.ownBlock := fun q hq e => by
              obtain ⟨_, cur, h9⟩ := own_at HG.out.own e.symm
              have h8 := heapsz h9
              have h7 := HW0.out
              omega
            have hgw : w0.heap.size ≤ g := HG2B.out _ rfl
            have HRI := Lib.hid (hri.keep (w' := wp) fun q cs hq hc => (hbr.block q (heapsz hc) (hnB q hq)).trans hc)
            have tg : wp.cell? ⟨g, k, none⟩ = some vr := (cell_same (hbr.block g hglt (hnB g hgw))).trans hgc
            have c1 : wp.cell? ⟨b, o + i, none⟩ = some (.int .i64 x) := (cell_same (hbr.block b (by omega) hnb)).trans c0
            have hbb2 : b < wp.heap.size := Nat.lt_of_lt_of_le hbb hbr.size
            have hglt2 : g < wp.heap.size := Nat.lt_of_lt_of_le hglt hbr.size
            have HRL := Lib.hid (HSL.out row (List.mem_of_getElem? hrow))
            have HFT : Hid ((S.take (k + 1)).map (fun o => x :: o) = (S.take k).map (fun o => x :: o) ++ [x :: row]) := Lib.hid (by rw [List.take_add_one, hrow, List.map_append]; rfl)
            obtain ⟨F, hF⟩ : ∃ F, (subK m l i ++ (S.take k).map fun o => x :: o) = F := ⟨_, rfl⟩
            have HFE : Hid ((subK m l i ++ (S.take (k + 1)).map fun o => x :: o) = F ++ [x :: row]) := Lib.hid (by rw [HFT.out, ← List.append_assoc, hF])
            have hFl : F.length ≤ 11264 := by
              rw [← hF, List.length_append, List.length_map, List.length_take]
              have h1 := HKL.out
              omega
            rw [hF] at HG3
            have hcells : ∀ u : KeptW wp, u.w.cell? ⟨g, k, none⟩ = some vr ∧ u.w.cell? ⟨b, o + i, none⟩ = some (.int .i64 x) := fun u => ⟨((bcell u.h).1 _ _ hglt2).trans tg, ((bcell u.h).1 _ _ hbb2).trans c1⟩
            have HCELL := Lib.hid hcells
            clear hG3 hbr hri hgc hrow hF tg hcells hbb c0 c1 hbw
            go_wp2_with fail
            apply tail_regionX
            case hs => exact (rfl : _ = [_, _, _, _, _, _, _, _, _, _, _, _, _] ++ [_])
            case hm => kernel_rfl
            case hT => kernel_rfl
            refine tail_startY [_, _, _, _, _, _, _, _, _, _, _, _] _ [12, 3, 3, 4, 5, 10, 8, 8, 9, 10, 11, 12] rfl (by kernel_rfl) ?_
            refine rel_any [5, 0, 6, 7, 8] [(36, 5), (41, 10), (42, 11)] (seCv vv3 (.slice (some ⟨b, o, none⟩) n c) (.slice (some ⟨g, 0, none⟩) sn c2) vr b o g i k x) (seF wp.heap.size x row) (by kernel_rfl) (by kernel_rfl) (by kernel_rfl) (by kernel_rfl) (by kernel_rfl) ?_ (seF_keep _ _ _) ?_ ?_
            · intro t ht
              simp only [List.mem_cons, List.not_mem_nil, or_false] at ht
              rcases ht with rfl | rfl | rfl | rfl | rfl <;> rfl
            · refine allOps_array ?_
              refine ⟨?_, ?_, ?_, ?_, ?_, ?_, ?_, ?_, ?_, ?_, ?_, ?_, trivial⟩ <;> intro gg u hd_ <;> obtain ⟨q0, q1⟩ := HCELL.out u
              · refine ⟨rfl, relQ 31 rfl trivial ?_⟩
                simp [go_sem, evalBy, rhoT, relOf, seCv]
              · refine ⟨rfl, relQ 32 rfl trivial ?_⟩
                simp [go_sem, evalBy, rhoT, relOf, seCv]
              · refine ⟨rfl, relQ 33 rfl trivial ?_⟩
                simp [go_sem, evalBy, rhoT, relOf, seCv]
              · refine ⟨rfl, relQ 34 rfl trivial ?_⟩
                simp [go_sem, evalBy, rhoT, relOf, seCv, k3, k4]
              · refine ⟨rfl, relQ 35 rfl trivial ?_⟩
                simp [go_sem, evalBy, rhoT, relOf, seCv, q1]
              · refine ⟨rfl, relA (.slice (some ⟨u.w.heap.size, 0, none⟩) 1 1) (.cells #[.int .i64 x] 3) (fun d hd => by injection hd with hd; subst hd; simp [relOf]) ?_ ⟨_, rfl, u.h.size, heap_alloc_new u.w _⟩⟩
                simp [go_sem, evalBy, rhoT, relOf, seCv]
              · refine ⟨rfl, relQ 37 rfl trivial ?_⟩
                simp [go_sem, evalBy, rhoT, relOf, seCv]
              · refine ⟨rfl, relQ 38 rfl trivial ?_⟩
                simp [go_sem, evalBy, rhoT, relOf, seCv]
              · refine ⟨rfl, relQ 39 rfl trivial ?_⟩
                simp [go_sem, evalBy, rhoT, relOf, seCv, l3, l4]
              · refine ⟨rfl, relQ 40 rfl trivial ?_⟩
                simp [go_sem, evalBy, rhoT, relOf, seCv, q0]
              · obtain ⟨q, e5, h5, h6⟩ : ∃ q, gg 5 = .slice (some ⟨q, 0, none⟩) 1 1 ∧ wp.heap.size ≤ q ∧ u.w.heap[q]? = some (.cells #[.int .i64 x] 3 (0, 0)) := hd_ ⟨5, .data⟩ (by simp) rfl
                exact ⟨rfl, relCons (.tmp 36) (.tmp 40) 26 rfl 3 i0 _ Try.underlying26 hi0 hz0 hz1 hz2 wp.heap.size q x (by simp [evalBy, rhoT, relOf, e5]) h6 h5 row vr (by simp [evalBy, rhoT, relOf, seCv]) _ (HRI.out.below u.h) (by have := HRL.out; omega) (fun d hd => by injection hd with hd; subst hd; simp [relOf]) (fun _ _ h => h)⟩
              · have h10 : RowIs intR 3 wp.heap.size (x :: row) (gg 10) u.w := hd_ ⟨10, .data⟩ (by simp) rfl
                have hform : ∃ A c, gg 10 = .slice A (x :: row).length c := h10.len
                obtain ⟨A9, c9, e9⟩ := hform
                refine ⟨rfl, relA (.slice (some ⟨u.w.heap.size, 0, none⟩) 1 1) (.cells #[gg 10] 26) (fun d hd => by injection hd with hd; subst hd; simp [relOf]) ?_ ⟨_, _, rfl, heap_alloc_new u.w _, h10.below ((Below.refl _ _).alloc (Nat.le_refl _) _)⟩⟩
                simp [go_sem, evalBy, rhoT, relOf, e9]
            · intro gg u hf
              obtain ⟨q, vx, e11, h11, h12⟩ : ∃ q vx, gg 11 = .slice (some ⟨q, 0, none⟩) 1 1 ∧ u.w.heap[q]? = some (.cells #[vx] 26 (0, 0)) ∧ RowIs intR 3 wp.heap.size (x :: row) vx u.w := hf 11 (by decide)
              have hgu := HG3.out.below u.h
              obtain ⟨A9, c9, e9⟩ := h12.len
              simp only [QT]
              refine app_wp (d := 43) (s := .tmp 31) (x := .tmp 42) (t := 44) rfl rfl w.heap.size 26 j0 (.slice none 0 0) 1 24 Try.underlying44 hj0 jz0 jz1 jz2 rfl (by decide) vv3 (by simp [putAll, Act.put, Act.eval, rhoT, relOf, seCv]) F.length rows3 hgu.own ⟨q, 0, none⟩ 1 1 [vx] (by simp [putAll, Act.put, Act.eval, rhoT, relOf, seCv, e11]) rfl (fun j u' hj => by
                rw [addr_add, Nat.zero_add, cell_of_row u.w q j _ 26 (0, 0) h11]
                simpa using hj) (by
                intro u' hu'
                rw [List.mem_singleton.1 hu', e9]
                rfl) (by unfold maxLen; omega) (by omega) (Nat.le_trans HG3.out.bel.size u.h.size) ?_
              intro v' w6 hown6 hgr6 hat6
              have HG6 := Lib.hid (hgu.append2 (by decide) (h12.low HG3.out.bel.size) hown6 hgr6)
              have HB6 := Lib.hid (grow_step HBR.out u.h hgr6 HFR.out)
              have HF6 : Hid (v'.ownBlock = vv0.ownBlock ∨ ∃ B, v'.ownBlock = some B ∧ w2.heap.size ≤ B) := Lib.hid (by
                rcases hat6 with e | e
                · rw [e]
                  exact HFR.out
                · exact .inr ⟨_, e, Nat.le_trans HBR.out.size u.h.size⟩)
              clear hat6
              simp only [QT]
              unfold Oper.wp
              simp [go_sem, putAll, Act.put, rhoT, relOf, seCv]
              go_wp2_with fail
              exact ⟨⟨k + 1, _, by omega, rfl, by rw [HFE.out]; exact HG6.out, HB6.out, HF6.out⟩, by simp [intOf]; omega⟩
          · obtain rfl : sn = k := by omega
            have l4 : ¬ (sn : Int) < (sn : Int) := by omega
            go_wp2_with fail
            have hfin : GrdI intR 3 26 w w.heap.size (subK m l (i + 1)) vv3 rows3 wp := by
              rw [HKS.out]
              have := HG3.out
              rw [List.take_of_length_le (by rw [HSN.out]; exact Nat.le_refl _)] at this
              exact this
            exact ⟨⟨i + 1, rows3, by omega, rfl, hfin⟩, by simp [intOf]; omega⟩
      · obtain rfl : n = i := by omega
        have k4 : ¬ (n : Int) < (n : Int) := by omega
        have hfin : Hid (subK m l n = subL (m + 1) l) := Lib.hid (by rw [← HL.out]; exact subK_all m l)
        have hg9 := HG.out
        rw [hfin.out] at hg9
        have HG9 := Lib.hid hg9
        clear hg9
        go_wp2_with fail
        refine bodyPost_ret (v := vv0) (by simp [results, Try.results68, go_sem]) rfl ?_
        first | exact ⟨_, _, w, rfl, HG9.out.bel, HG9.out, Nat.le_refl _⟩ | exact ⟨_, rfl, HG9.out.bel, _, w, HG9.out, Nat.le_refl _⟩
end
end Go.Proofs.Ytmppiiamcpjhnaa
