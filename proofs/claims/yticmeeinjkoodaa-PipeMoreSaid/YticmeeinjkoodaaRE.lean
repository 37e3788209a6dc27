/- Pipes: the law PipeSharp. -/
import Derived.Test.YticmeeinjkoodaaRD
namespace Go.Proofs.Yticmeeinjkoodaa
open Go.RowKit Go.Shelf

theorem eq47 (a b a' b' : Int) (w : World) : (Op.equalIn 10000 47 (.agg #[.int .i64 a, .int .i64 b]) (.agg #[.int .i64 a', .int .i64 b'])).run Try.prog w = .ok (a == a' && b == b') w := by
  have u3 := Try.underlying3
  have a3 := Try.isAgg3
  have z3 := Try.sizeOf3
  have hS : Try.prog.underlying 47 = some (.struct (Try.prog.fieldsOf 47)) := by kernel_rfl
  have hp : Try.prog.stoodInHeld 47 = false := by kernel_rfl
  rw [show (10000 : Nat) = 9999 + 1 from rfl, run_equalIn_agg w 9999 47 _ _ hS hp]
  simp only [Program.fieldsOf, Try.underlying47]
  go_simp
  by_cases h1 : a = a' <;> by_cases h2 : b = b' <;> simp [h1, h2]
theorem eq47s (a b : Int) : (∀ w, (Op.equalIn 10000 47 (.agg #[.int .i64 a, .int .i64 b]) (.agg #[.int .i64 a, .int .i64 b])).run Try.prog w = .ok true w) ∧ Try.prog.eqGuardType Try.prog.depth 47 = false := ⟨fun w => by rw [eq47]; simp, by kernel_rfl⟩
/-! ### The truth in which a loop cools most, or least -/
theorem end_play (l : Lp) (fr : List (Int × Int)) : ∀ k, k ≤ fr.length → (playI l l.wl ((endT l true fr).take k)).w = wK l false fr 0 k ∧ (playI l l.wh ((endT l false fr).take k)).w = wK l false fr 1 k
  | 0, _ => by
    rw [List.take_zero, List.take_zero]
    exact ⟨rfl, rfl⟩
  | k + 1, hk => by
    obtain ⟨h1, h2⟩ := end_play l fr k (by omega)
    obtain ⟨f, hf⟩ := get_of_lt (l := fr) (k := k) (by omega)
    have hd : fr.getD k (0, 0) = f := by rw [List.getD_eq_getElem?_getD, hf]; rfl
    rw [playI_take (endT_at (l := l) (most := true) hf), playI_take (endT_at (l := l) (most := false) hf)]
    refine ⟨?_, ?_⟩
    · show (playI l l.wl ((endT l true fr).take k)).w + (hourI l (playI l l.wl ((endT l true fr).take k)).w ⟨l.lh, f.2, false⟩).w = coolI l (wK l false fr 0 k) (sel 0 (leakI false l)) (sel 0 (fr.getD k (0, 0)))
      rw [h1, hd]
      rfl
    · show (playI l l.wh ((endT l false fr).take k)).w + (hourI l (playI l l.wh ((endT l false fr).take k)).w ⟨l.ll, f.1, false⟩).w = coolI l (wK l false fr 1 k) (sel 1 (leakI false l)) (sel 1 (fr.getD k (0, 0)))
      rw [h2, hd]
      rfl
theorem end_ok {N : Nt} (K : NtOk N) {l : Lp} (hl : l ∈ N.lo) (most : Bool) (H : Nat) : thsB l N.fr ((endT l most N.fr).take H) = true := by
  refine thsB_iff.2 fun k t hk => ?_
  rw [List.getElem?_take] at hk
  split at hk
  · obtain ⟨f, hf⟩ := get_of_lt (l := N.fr) (k := k) (by have := (List.getElem?_eq_some_iff.1 hk).1; rwa [endT_len] at this)
    rw [endT_at hf] at hk
    injection hk with hk
    have h1 := (K.lo l hl).l
    have h2 := K.fr f (List.mem_of_getElem? hf)
    unfold thOkB
    rw [List.getD_eq_getElem?_getD, hf, Bool.and_eq_true, inB_iff, inB_iff]
    simp only [Option.getD_some]
    subst hk
    cases most <;> simp <;> omega
  · cases hk
theorem end_call {V : NV} {N : Nt} (K : NtOk N) {L : Nat} {l : Lp} (hL : N.lo[L]? = some l) (most : Bool) {H : Nat} (hH : H ≤ N.fr.length) {x : Int} (hx : l.wl ≤ x ∧ x ≤ l.wh) (v : Value) (u : World) (hN : NtAt u u.heap.size V N) {B : Nat} (hr : RowIs thR 54 B ((endT l most N.fr).take H) v u) :
    Calls Try.prog 26 #[nvV V, .int .i64 L, .int .i64 x, v] u fun e w' => e = .returned (.tuple #[htV (playI l x ((endT l most N.fr).take H)), .int .i64 0]) ∧ Below u.heap.size u w' := by
  obtain ⟨A, c, rfl, hA, _⟩ := hr.at_ (k := 3) (fun _ => rfl)
  have hlt := (List.getElem?_eq_some_iff.1 hL).1
  have hlen : ((endT l most N.fr).take H).length ≤ N.fr.length := by rw [List.length_take]; omega
  have h72 := K.h72
  have h := Play_any V N L x A _ c ((endT l most N.fr).take H) u hN rfl (by unfold maxLen; omega) hA
  have hat : N.at (L : Int) = l := by unfold Nt.at; rw [Int.toNat_natCast, List.getD_eq_getElem?_getD, hL]; rfl
  have hlb : loopB N L = true := by unfold loopB; rw [ntB_iff.2 K, inB_iff.2 ⟨by omega, by omega⟩]; rfl
  have hE0 : truthI N L x ((endT l most N.fr).take H) = 0 := by
    unfold truthI
    rw [if_neg (by omega), hlb, hat, inB_iff.2 hx, end_ok K (List.mem_of_getElem? hL)]
    rfl
  have hX0 : plaI N L x ((endT l most N.fr).take H) = playI l x ((endT l most N.fr).take H) := by unfold plaI; rw [if_pos hE0, hat]
  rw [hX0, hE0] at h
  exact h
def shA (Z L H : Nat) (al : Addr) (nl cl : Nat) (nv : Value) (x : Int) (S : Ht) (g : Nat × Value) : Tmp → Value
  | 1 => .int .i64 L
  | 2 => .int .i64 H
  | 3 => .pointer (some ⟨Z, 0, none⟩)
  | 45 => nv
  | 46 => .int .i64 L
  | 47 => .pointer (some ⟨Z, 0, none⟩)
  | 48 => .slice (some ⟨al.block, al.off, none⟩) nl cl
  | 49 => .int .i64 L
  | 50 => .pointer (some ⟨al.block, al.off + L * 12, none⟩)
  | 51 => .pointer (some ⟨al.block, al.off + L * 12, none⟩)
  | 52 => .pointer (some ⟨al.block, al.off + L * 12, none⟩)
  | 53 => .int .i64 x
  | 54 => nv
  | 55 => .int .i64 L
  | 56 => .int .i64 H
  | 57 => g.2
  | 58 => .tuple #[htV S, .int .i64 0]
  | 44 => .tuple #[htV S, .int .i64 0]
  | 59 => htV S
  | 60 => .int .i64 0
  | 9 => .pointer (some ⟨g.1, 0, none⟩)
  | 10 => .int .i64 0
  | _ => default
def shB (Z L H : Nat) (al : Addr) (nl cl : Nat) (nv : Value) (x : Int) (S : Ht) (g : Nat × Value) : Tmp → Value
  | 1 => .int .i64 L
  | 2 => .int .i64 H
  | 3 => .pointer (some ⟨Z, 0, none⟩)
  | 62 => nv
  | 63 => .int .i64 L
  | 64 => .pointer (some ⟨Z, 0, none⟩)
  | 65 => .slice (some ⟨al.block, al.off, none⟩) nl cl
  | 66 => .int .i64 L
  | 67 => .pointer (some ⟨al.block, al.off + L * 12, none⟩)
  | 68 => .pointer (some ⟨al.block, al.off + L * 12, none⟩)
  | 69 => .pointer (some ⟨al.block, al.off + L * 12 + 1, none⟩)
  | 70 => .int .i64 x
  | 71 => nv
  | 72 => .int .i64 L
  | 73 => .int .i64 H
  | 74 => g.2
  | 75 => .tuple #[htV S, .int .i64 0]
  | 61 => .tuple #[htV S, .int .i64 0]
  | 76 => htV S
  | 77 => .int .i64 0
  | 11 => .pointer (some ⟨g.1, 0, none⟩)
  | 12 => .int .i64 0
  | _ => default
set_option maxRecDepth 100000 in
set_option maxHeartbeats 16000000 in
theorem sharp_law (V : NV) (N : Nt) (loop hours : Int) (w : World) (hN : NtAt w w.heap.size V N) :
    Calls Try.prog 7 #[nvV V, .int .i64 loop, .int .i64 hours] w fun e w' => e = .returned (.bool true) ∧ Below w.heap.size w w' := by
  have z := heap_alloc_new w (.cells (nvC V) 26)
  have hb := (Below.refl w.heap.size w).alloc (Nat.le_refl _) (.cells (nvC V) 26)
  obtain ⟨w1, hw1⟩ : ∃ z, w.alloc (.cells (nvC V) 26) = z := ⟨_, rfl⟩
  rw [hw1] at z hb
  have HW := Lib.hid hw1
  have HN := Lib.hid (hN.up hb)
  obtain ⟨al, nl, cl, af, nf, cf, aw, nw, cw⟩ := V
  obtain ⟨v0, v1, v2⟩ := box3_cells z
  have hml := hN.ml; have hmf := hN.mf; have hmw := hN.mw
  unfold maxLen at hml hmf hmw
  simp only at hml hmf hmw v0 v1 v2
  have HB := Lib.hid hb; have Z := Lib.hid z
  have HNL := Lib.hid hN.nl; have HNF := Lib.hid hN.nf; have HNW := Lib.hid hN.nw
  clear z hb hw1 hN
  have HZ1 := Z; have HB1 := HB; have HN1 := HN
  clear Z HB HN
  go_enter Try.func7, Try.ntmps7
  go_wp2_with fail
  rw [show w.alloc (.cells #[.slice al nl cl, .slice af nf cf, .slice aw nw cw] 26) = w1 from HW.out]
  refine (short_any _ N _ HN1.out).mono ?_
  rintro e w2 ⟨rfl, hb⟩
  have HZ2 := Lib.hid ((hb.block _ (heapsz HZ1.out)).trans HZ1.out)
  have HB2 := Lib.hid (HB1.out.trans (hb.mono HB1.out.size))
  have HN2 := Lib.hid (HN1.out.up hb)
  clear hb
  clear v0 v1 v2
  obtain ⟨v0, v1, v2⟩ := box3_cells HZ2.out
  cases hsh : shortB N
  · clear v0 v1 v2 hsh
    go_wp2_with fail
    refine (known_any _).mono ?_
    rintro e wk ⟨rfl, hbk⟩
    have HBK := Lib.hid (HB2.out.trans (hbk.mono HB2.out.size))
    clear hbk
    go_wp2_with fail
    go_ret
    exact ⟨rfl, HBK.out⟩
  have h8 : nl ≤ 8 := by
    unfold shortB at hsh
    simp only [Bool.and_eq_true, decide_eq_true_eq] at hsh
    have := hsh.2.1
    have h1 := HNL.out
    first | omega | (simp only at h1; omega)
  clear hsh
  go_wp2_with fail
  refine (rnet_any _ N _ HN2.out (by simp only; omega)).mono ?_
  rintro e w3 ⟨rfl, hb⟩
  have HZ3 := Lib.hid ((hb.block _ (heapsz HZ2.out)).trans HZ2.out)
  have HB3 := Lib.hid (HB2.out.trans (hb.mono HB2.out.size))
  have HN3 := Lib.hid (HN2.out.up hb)
  clear hb
  clear v0 v1 v2
  obtain ⟨v0, v1, v2⟩ := box3_cells HZ3.out
  cases hnt : ntB N
  · clear v0 v1 v2 hnt
    go_wp2_with fail
    refine (known_any _).mono ?_
    rintro e wk ⟨rfl, hbk⟩
    have HBK := Lib.hid (HB3.out.trans (hbk.mono HB3.out.size))
    clear hbk
    go_wp2_with fail
    go_ret
    exact ⟨rfl, HBK.out⟩
  have HOK := Lib.hid (ntB_iff.1 hnt)
  have HNT := Lib.hid hnt
  clear hnt
  go_wp2_with fail
  refine (risLoop_any _ N loop _ HN3.out).mono ?_
  rintro e w4 ⟨rfl, hb⟩
  have HZ4 := Lib.hid ((hb.block _ (heapsz HZ3.out)).trans HZ3.out)
  have HB4 := Lib.hid (HB3.out.trans (hb.mono HB3.out.size))
  have HN4 := Lib.hid (HN3.out.up hb)
  clear hb
  clear v0 v1 v2
  obtain ⟨v0, v1, v2⟩ := box3_cells HZ4.out
  cases hil : inB 0 loop (N.lo.length - 1)
  · clear v0 v1 v2 hil
    go_wp2_with fail
    refine (known_any _).mono ?_
    rintro e wk ⟨rfl, hbk⟩
    have HBK := Lib.hid (HB4.out.trans (hbk.mono HB4.out.size))
    clear hbk
    go_wp2_with fail
    go_ret
    exact ⟨rfl, HBK.out⟩
  have hlb : loopB N loop = true := by unfold loopB; rw [ntB_iff.2 HOK.out, hil]; rfl
  obtain ⟨L, rfl, hL1, hL2⟩ := loopB_get hlb
  obtain ⟨l, hll⟩ : ∃ z, N.at (L : Int) = z := ⟨_, rfl⟩
  rw [hll] at hL2
  have HL2 := Lib.hid hL2
  clear hlb hil hL1
  by_cases hh1 : hours < 1
  · go_wp2_with fail
    refine (known_any _).mono ?_
    rintro e wk ⟨rfl, hbk⟩
    have HBK := Lib.hid (HB4.out.trans (hbk.mono HB4.out.size))
    clear hbk
    go_wp2_with fail
    go_ret
    exact ⟨rfl, HBK.out⟩
  by_cases hh2 : (nf : Int) < hours
  · go_wp2_with fail
    refine (known_any _).mono ?_
    rintro e wk ⟨rfl, hbk⟩
    have HBK := Lib.hid (HB4.out.trans (hbk.mono HB4.out.size))
    clear hbk
    go_wp2_with fail
    go_ret
    exact ⟨rfl, HBK.out⟩
  obtain ⟨H, rfl⟩ : ∃ p : Nat, hours = p := ⟨hours.toNat, by omega⟩
  have hH1 : 1 ≤ H := by omega
  have HHF : Hid (H ≤ N.fr.length) := Lib.hid (by have h1 := HNF.out; first | omega | (simp only at h1; omega))
  have hH72 : H ≤ 72 := by have h1 := HHF.out; have h2 := HOK.out.h72; omega
  clear hll hL2
  go_wp2_with fail
  refine (Warmth_any _ N _ HN4.out).mono ?_
  rintro e w5 ⟨hb, ⟨hf, _⟩ | ⟨_, lv, rows, w0, rfl, hg, _⟩⟩
  · rw [HNT.out] at hf
    cases hf
  have HZ5 := Lib.hid ((hb.block _ (heapsz HZ4.out)).trans HZ4.out)
  have HB5 := Lib.hid (HB4.out.trans (hb.mono HB4.out.size))
  have HN5 := Lib.hid (HN4.out.up hb)
  clear hb
  clear v0 v1 v2
  obtain ⟨v0, v1, v2⟩ := box3_cells HZ5.out
  obtain ⟨A3, c3, rfl, hgr, hlc, _⟩ := hg.grid (k := 2) (fun _ => rfl) (fun row hr => by
    unfold warL at hr
    obtain ⟨q, hq, rfl⟩ := List.mem_map.1 hr
    have := HOK.out.h72
    rw [spansL_len]
    unfold maxLen
    omega)
  have hwl : (warL N N.lo.length).length = nl := by unfold warL; rw [List.length_map, List.take_length]; exact HNL.out
  have hrow : (warL N N.lo.length)[L]? = some (spansL l false N.fr) := by unfold warL; rw [List.take_length, List.getElem?_map, HL2.out]; rfl
  obtain ⟨gb, go, A', m, c', rfl, hgb, hm, hgc, hra, _⟩ := grid_row hgr hrow
  have hsp : (spansL l false N.fr)[H - 1]? = some (wK l false N.fr 0 H, wK l false N.fr 1 H) := by
    rw [spansL_at (by have := HHF.out; omega), show H - 1 + 1 = H by omega]
  obtain ⟨rb, ro, rfl, hrb, hr0, hr1⟩ := pr_el hra hsp
  rw [spansL_len] at hm
  rw [hwl] at hlc ⊢
  have hmf2 : m = nf := by rw [hm]; exact HNF.out
  subst hmf2
  obtain ⟨b1, o1, hal1, hb1, ⟨c0, c1⟩, _⟩ := lp_el HN5.out.lo HL2.out
  have hal2 : al = some ⟨b1, o1, none⟩ := hal1
  subst hal2
  have hLn : L < nl := by have h1 := HNL.out; have h2 := (List.getElem?_eq_some_iff.1 HL2.out).1; first | omega | (simp only at h1; omega)
  have L0 : (0 : Int) ≤ (L : Int) := by omega
  have L1 : (L : Int) < (nl : Int) := by omega
  have HF : Hid (∀ u : World, Below w5.heap.size w5 u → u.cell? ⟨w.heap.size, 0, none⟩ = some (.slice (some ⟨b1, o1, none⟩) nl cl) ∧ u.cell? ⟨w.heap.size, 1, none⟩ = some (.slice af m cf) ∧ u.cell? ⟨w.heap.size, 2, none⟩ = some (.slice aw nw cw) ∧ u.cell? ⟨b1, o1 + L * 12, none⟩ = some (.int .i64 l.wl) ∧ u.cell? ⟨b1, o1 + L * 12 + 1, none⟩ = some (.int .i64 l.wh)) := Lib.hid fun u hu => by
    obtain ⟨p0, p1, p2⟩ := box3_cells ((hu.block _ (heapsz HZ5.out)).trans HZ5.out)
    exact ⟨p0, p1, p2, ((bcell hu).1 _ _ hb1).trans c0, ((bcell hu).1 _ _ hb1).trans c1⟩
  have HG : Hid (∀ u : World, Below w5.heap.size w5 u → u.cell? ⟨gb, go + L, none⟩ = some (.slice (some ⟨rb, ro, none⟩) m c') ∧ u.cell? ⟨rb, ro + (H - 1) * 2, none⟩ = some (.int .i64 (wK l false N.fr 0 H)) ∧ u.cell? ⟨rb, ro + (H - 1) * 2 + 1, none⟩ = some (.int .i64 (wK l false N.fr 1 H))) := Lib.hid fun u hu =>
    ⟨((bcell hu).1 _ _ hgb).trans hgc, ((bcell hu).1 _ _ hrb).trans hr0, ((bcell hu).1 _ _ hrb).trans hr1⟩
  have HNU : Hid (∀ u : World, Below w5.heap.size w5 u → NtAt u u.heap.size ⟨some ⟨b1, o1, none⟩, nl, cl, af, m, cf, aw, nw, cw⟩ N) := Lib.hid fun u hu => HN5.out.next hu hu.size
  have HKL := Lib.hid (HOK.out.lo l (List.mem_of_getElem? HL2.out)).w
  have HBG5 := Lib.hid (Below.refl w5.heap.size w5)
  obtain ⟨hE1, hE2⟩ := end_play l N.fr H HHF.out
  obtain ⟨S1, hS1⟩ : ∃ z, playI l l.wl ((endT l true N.fr).take H) = z := ⟨_, rfl⟩
  obtain ⟨S2, hS2⟩ : ∃ z, playI l l.wh ((endT l false N.fr).take H) = z := ⟨_, rfl⟩
  rw [hS1] at hE1
  rw [hS2] at hE2
  have HS1 := Lib.hid hS1; have HS2 := Lib.hid hS2
  rw [← hE1, ← hE2] at HG
  clear hg hgr hlc hwl hrow hgb hm hgc hra hsp hrb hr0 hr1 hal1 hb1 c0 c1 hS1 hS2 hE1 hE2 v0 v1 v2
  go_wp2_with fail
  have HPY : Hid (∀ (u : World) (v : Value), Below w5.heap.size w5 u → RowIs thR 54 w5.heap.size ((endT l true N.fr).take H) v u → Calls Try.prog 26 #[nvV ⟨some ⟨b1, o1, none⟩, nl, cl, af, m, cf, aw, nw, cw⟩, .int .i64 L, .int .i64 l.wl, v] u fun e w' => e = .returned (.tuple #[htV S1, .int .i64 0]) ∧ Below u.heap.size u w') := Lib.hid fun u v hu hr => by
    have h := end_call HOK.out HL2.out true HHF.out (x := l.wl) (by have := HKL.out; omega) v u (HNU.out u (HBG5.out.trans (hu.mono HBG5.out.size))) hr
    rw [HS1.out] at h
    exact h
  have HND : Hid (∀ u : World, Below w5.heap.size w5 u → Calls Try.prog 33 #[nvV ⟨some ⟨b1, o1, none⟩, nl, cl, af, m, cf, aw, nw, cw⟩, .int .i64 L, .int .i64 H, .bool true] u fun e w' => ∃ v, e = .returned v ∧ Below u.heap.size u w' ∧ RowIs thR 54 w5.heap.size ((endT l true N.fr).take H) v w') := Lib.hid fun u hu =>
    (rend_any _ N H true u (HNU.out u (HBG5.out.trans (hu.mono HBG5.out.size))) HL2.out HHF.out (by have := HOK.out.h72; omega)).mono fun e w' ⟨v, h1, h2, h3⟩ => ⟨v, h1, h2, h3.low hu.size⟩
  have hX : ∀ (v : Value) (A B : World), RowIs thR 54 w5.heap.size ((endT l true N.fr).take H) v A → Below A.heap.size A B → RowIs thR 54 w5.heap.size ((endT l true N.fr).take H) v B := fun v A B h hb => h.below hb
  refine wp_region_any (by kernel_rfl) (plan_guarded_any (γ := Nat × Value) [1, 2, 3] (shA w.heap.size L H ⟨b1, o1, none⟩ nl cl (nvV ⟨some ⟨b1, o1, none⟩, nl, cl, af, m, cf, aw, nw, cw⟩) l.wl S1) (fun done q w' => NewX w5 17 18 12 13 43 (htC z4) (htC S1) (fun v u => RowIs thR 54 w5.heap.size ((endT l true N.fr).take H) v u) done q w') (0, .int .i64 0) (by kernel_rfl) (by kernel_rfl) (by kernel_rfl) (by kernel_rfl) ?_ ?_ ?_ ?_)
  · intro t ht
    simp only [List.mem_cons, List.not_mem_nil, or_false] at ht
    rcases ht with rfl | rfl | rfl <;> rfl
  · exact ⟨⟨(Below.refl w5.heap.size w5).drew, fun h => by simp at h, fun h => by simp at h⟩, fun h => by simp at h, fun h => by simp at h⟩
  · refine allOps_array ?_
    refine ⟨?_, ?_, ?_, ?_, ?_, ?_, ?_, ?_, ?_, ?_, ?_, ?_, ?_, ?_, ?_, ?_, ?_, ?_, ?_, ?_, trivial⟩
    · intro done q u hS hu hdep _
      obtain ⟨p0, p1, p2, p3, p4⟩ := HF.out u (HBG5.out.trans (hS.a.keep.mono HBG5.out.size))
      refine quietX hX hS 45 rfl (by decide) (by decide) (by decide) rfl ?_
      simp [go_sem, evalBy, shA, p0, p1, p2]
    · intro done q u hS hu hdep _
      obtain ⟨p0, p1, p2, p3, p4⟩ := HF.out u (HBG5.out.trans (hS.a.keep.mono HBG5.out.size))
      refine quietX hX hS 46 rfl (by decide) (by decide) (by decide) rfl ?_
      simp [go_sem, evalBy, shA]
    · intro done q u hS hu hdep _
      obtain ⟨p0, p1, p2, p3, p4⟩ := HF.out u (HBG5.out.trans (hS.a.keep.mono HBG5.out.size))
      refine quietX hX hS 47 rfl (by decide) (by decide) (by decide) rfl ?_
      simp [go_sem, evalBy, shA]
    · intro done q u hS hu hdep _
      obtain ⟨p0, p1, p2, p3, p4⟩ := HF.out u (HBG5.out.trans (hS.a.keep.mono HBG5.out.size))
      refine quietX hX hS 48 rfl (by decide) (by decide) (by decide) rfl ?_
      simp [go_sem, evalBy, shA, p0]
    · intro done q u hS hu hdep _
      obtain ⟨p0, p1, p2, p3, p4⟩ := HF.out u (HBG5.out.trans (hS.a.keep.mono HBG5.out.size))
      refine quietX hX hS 49 rfl (by decide) (by decide) (by decide) rfl ?_
      simp [go_sem, evalBy, shA]
    · intro done q u hS hu hdep _
      obtain ⟨p0, p1, p2, p3, p4⟩ := HF.out u (HBG5.out.trans (hS.a.keep.mono HBG5.out.size))
      refine quietX hX hS 50 rfl (by decide) (by decide) (by decide) rfl ?_
      simp [go_sem, evalBy, shA, L0, L1]
    · intro done q u hS hu hdep _
      obtain ⟨p0, p1, p2, p3, p4⟩ := HF.out u (HBG5.out.trans (hS.a.keep.mono HBG5.out.size))
      refine quietX hX hS 51 rfl (by decide) (by decide) (by decide) rfl ?_
      simp [go_sem, evalBy, shA]
    · intro done q u hS hu hdep _
      obtain ⟨p0, p1, p2, p3, p4⟩ := HF.out u (HBG5.out.trans (hS.a.keep.mono HBG5.out.size))
      refine quietX hX hS 52 rfl (by decide) (by decide) (by decide) rfl ?_
      simp [go_sem, evalBy, shA]
    · intro done q u hS hu hdep _
      obtain ⟨p0, p1, p2, p3, p4⟩ := HF.out u (HBG5.out.trans (hS.a.keep.mono HBG5.out.size))
      refine quietX hX hS 53 rfl (by decide) (by decide) (by decide) rfl ?_
      simp [go_sem, evalBy, shA, p3]
    · intro done q u hS hu hdep _
      obtain ⟨p0, p1, p2, p3, p4⟩ := HF.out u (HBG5.out.trans (hS.a.keep.mono HBG5.out.size))
      refine quietX hX hS 54 rfl (by decide) (by decide) (by decide) rfl ?_
      simp [go_sem, evalBy, shA, p0, p1, p2]
    · intro done q u hS hu hdep _
      obtain ⟨p0, p1, p2, p3, p4⟩ := HF.out u (HBG5.out.trans (hS.a.keep.mono HBG5.out.size))
      refine quietX hX hS 55 rfl (by decide) (by decide) (by decide) rfl ?_
      simp [go_sem, evalBy, shA]
    · intro done q u hS hu hdep _
      obtain ⟨p0, p1, p2, p3, p4⟩ := HF.out u (HBG5.out.trans (hS.a.keep.mono HBG5.out.size))
      refine quietX hX hS 56 rfl (by decide) (by decide) (by decide) rfl ?_
      simp [go_sem, evalBy, shA]
    · intro done q u hS hu hdep _
      exact listX hS 57 rfl (by decide) (by decide) rfl 33 #[nvV ⟨some ⟨b1, o1, none⟩, nl, cl, af, m, cf, aw, nw, cw⟩, .int .i64 L, .int .i64 H, .bool true] (fun _ => rfl) (fun g' t ht => by unfold shA; split <;> first | rfl | exact absurd rfl ht) (by simp [go_sem, evalBy, shA]) (HND.out u hS.a.keep)
    · intro done q u hS hu hdep _
      have hsi : done 18 = false := by
        cases hq : done 18 with
        | false => rfl
        | true => rw [hS.os hq] at hu; cases hu
      exact callX hX hS 58 rfl (by decide) (by decide) (by decide) rfl 26 #[nvV ⟨some ⟨b1, o1, none⟩, nl, cl, af, m, cf, aw, nw, cw⟩, .int .i64 L, .int .i64 l.wl, q.2] (by simp [go_sem, evalBy, shA]) (HPY.out u q.2 hS.a.keep (hS.x (hdep ⟨12, .data⟩ (by simp) rfl) hsi))
    · intro done q u hS hu hdep _
      obtain ⟨p0, p1, p2, p3, p4⟩ := HF.out u (HBG5.out.trans (hS.a.keep.mono HBG5.out.size))
      refine quietX hX hS 44 rfl (by decide) (by decide) (by decide) rfl ?_
      simp [go_sem, evalBy, shA]
    · intro done q u hS hu hdep _
      obtain ⟨p0, p1, p2, p3, p4⟩ := HF.out u (HBG5.out.trans (hS.a.keep.mono HBG5.out.size))
      refine quietX hX hS 59 rfl (by decide) (by decide) (by decide) rfl ?_
      simp [go_sem, evalBy, shA]
    · intro done q u hS hu hdep _
      obtain ⟨p0, p1, p2, p3, p4⟩ := HF.out u (HBG5.out.trans (hS.a.keep.mono HBG5.out.size))
      refine quietX hX hS 60 rfl (by decide) (by decide) (by decide) rfl ?_
      simp [go_sem, evalBy, shA]
    · intro done q u hS hu hdep _
      refine allocX hX hS 9 rfl hu (by decide) (by decide) rfl (fun _ => rfl) (fun g' t ht => by unfold shA; split <;> first | rfl | exact absurd rfl ht) (by simp [go_sem, z4])
    · intro done q u hS hu hdep _
      refine storeX hS rfl (hdep ⟨17, .data⟩ (by simp) rfl) (hdep ⟨13, .chain⟩ (by simp) rfl) hu rfl (fun hb => ?_)
      obtain ⟨w2, h1, h2, h3, _, h5⟩ := store4 hb (.int .i64 S1.w) (.int .i64 S1.b) (.int .i64 S1.g) (.int .i64 S1.s)
      exact ⟨w2, by rw [← h1]; exact exec_store_mid 43 _ _ rfl q.1 #[.int .i64 S1.w, .int .i64 S1.b, .int .i64 S1.g, .int .i64 S1.s] rfl (by simp [evalBy, shA]) h2 heat_info (one4 ⟨rfl, rfl, rfl, rfl⟩), h5, h3⟩
    · intro done q u hS hu hdep _
      obtain ⟨p0, p1, p2, p3, p4⟩ := HF.out u (HBG5.out.trans (hS.a.keep.mono HBG5.out.size))
      refine quietX hX hS 10 rfl (by decide) (by decide) (by decide) rfl ?_
      simp [go_sem, evalBy, shA]
  · intro q w6 hS
    have hb := hS.a.keep
    obtain ⟨hq, zq⟩ := hS.a.box (by decide)
    rw [if_pos (by decide)] at zq
    obtain ⟨q, qv⟩ := q
    clear hS hX HPY HND
    have HZ6 := Lib.hid ((hb.block _ (heapsz HZ5.out)).trans HZ5.out)
    have HB6 := Lib.hid (HB5.out.trans (hb.mono HB5.out.size))
    have HN6 := Lib.hid (HN5.out.up hb)
    have HBG6 := Lib.hid (HBG5.out.trans (hb.mono HBG5.out.size))
    have HQS16 := Lib.hid zq
    clear hb zq hq
    simp [putAll, Act.put, shA]
    go_wp2_with fail
    have HPY : Hid (∀ (u : World) (v : Value), Below w6.heap.size w6 u → RowIs thR 54 w6.heap.size ((endT l false N.fr).take H) v u → Calls Try.prog 26 #[nvV ⟨some ⟨b1, o1, none⟩, nl, cl, af, m, cf, aw, nw, cw⟩, .int .i64 L, .int .i64 l.wh, v] u fun e w' => e = .returned (.tuple #[htV S2, .int .i64 0]) ∧ Below u.heap.size u w') := Lib.hid fun u v hu hr => by
      have h := end_call HOK.out HL2.out false HHF.out (x := l.wh) (by have := HKL.out; omega) v u (HNU.out u (HBG6.out.trans (hu.mono HBG6.out.size))) hr
      rw [HS2.out] at h
      exact h
    have HND : Hid (∀ u : World, Below w6.heap.size w6 u → Calls Try.prog 33 #[nvV ⟨some ⟨b1, o1, none⟩, nl, cl, af, m, cf, aw, nw, cw⟩, .int .i64 L, .int .i64 H, .bool false] u fun e w' => ∃ v, e = .returned v ∧ Below u.heap.size u w' ∧ RowIs thR 54 w6.heap.size ((endT l false N.fr).take H) v w') := Lib.hid fun u hu =>
      (rend_any _ N H false u (HNU.out u (HBG6.out.trans (hu.mono HBG6.out.size))) HL2.out HHF.out (by have := HOK.out.h72; omega)).mono fun e w' ⟨v, h1, h2, h3⟩ => ⟨v, h1, h2, h3.low hu.size⟩
    have hX : ∀ (v : Value) (A B : World), RowIs thR 54 w6.heap.size ((endT l false N.fr).take H) v A → Below A.heap.size A B → RowIs thR 54 w6.heap.size ((endT l false N.fr).take H) v B := fun v A B h hb => h.below hb
    refine wp_region_any (by kernel_rfl) (plan_guarded_any (γ := Nat × Value) [1, 2, 3] (shB w.heap.size L H ⟨b1, o1, none⟩ nl cl (nvV ⟨some ⟨b1, o1, none⟩, nl, cl, af, m, cf, aw, nw, cw⟩) l.wh S2) (fun done q w' => NewX w6 17 18 12 13 43 (htC z4) (htC S2) (fun v u => RowIs thR 54 w6.heap.size ((endT l false N.fr).take H) v u) done q w') (0, .int .i64 0) (by kernel_rfl) (by kernel_rfl) (by kernel_rfl) (by kernel_rfl) ?_ ?_ ?_ ?_)
    · intro t ht
      simp only [List.mem_cons, List.not_mem_nil, or_false] at ht
      rcases ht with rfl | rfl | rfl <;> rfl
    · exact ⟨⟨(Below.refl w6.heap.size w6).drew, fun h => by simp at h, fun h => by simp at h⟩, fun h => by simp at h, fun h => by simp at h⟩
    · refine allOps_array ?_
      refine ⟨?_, ?_, ?_, ?_, ?_, ?_, ?_, ?_, ?_, ?_, ?_, ?_, ?_, ?_, ?_, ?_, ?_, ?_, ?_, ?_, trivial⟩
      · intro done q u hS hu hdep _
        obtain ⟨p0, p1, p2, p3, p4⟩ := HF.out u (HBG6.out.trans (hS.a.keep.mono HBG6.out.size))
        refine quietX hX hS 62 rfl (by decide) (by decide) (by decide) rfl ?_
        simp [go_sem, evalBy, shB, p0, p1, p2]
      · intro done q u hS hu hdep _
        obtain ⟨p0, p1, p2, p3, p4⟩ := HF.out u (HBG6.out.trans (hS.a.keep.mono HBG6.out.size))
        refine quietX hX hS 63 rfl (by decide) (by decide) (by decide) rfl ?_
        simp [go_sem, evalBy, shB]
      · intro done q u hS hu hdep _
        obtain ⟨p0, p1, p2, p3, p4⟩ := HF.out u (HBG6.out.trans (hS.a.keep.mono HBG6.out.size))
        refine quietX hX hS 64 rfl (by decide) (by decide) (by decide) rfl ?_
        simp [go_sem, evalBy, shB]
      · intro done q u hS hu hdep _
        obtain ⟨p0, p1, p2, p3, p4⟩ := HF.out u (HBG6.out.trans (hS.a.keep.mono HBG6.out.size))
        refine quietX hX hS 65 rfl (by decide) (by decide) (by decide) rfl ?_
        simp [go_sem, evalBy, shB, p0]
      · intro done q u hS hu hdep _
        obtain ⟨p0, p1, p2, p3, p4⟩ := HF.out u (HBG6.out.trans (hS.a.keep.mono HBG6.out.size))
        refine quietX hX hS 66 rfl (by decide) (by decide) (by decide) rfl ?_
        simp [go_sem, evalBy, shB]
      · intro done q u hS hu hdep _
        obtain ⟨p0, p1, p2, p3, p4⟩ := HF.out u (HBG6.out.trans (hS.a.keep.mono HBG6.out.size))
        refine quietX hX hS 67 rfl (by decide) (by decide) (by decide) rfl ?_
        simp [go_sem, evalBy, shB, L0, L1]
      · intro done q u hS hu hdep _
        obtain ⟨p0, p1, p2, p3, p4⟩ := HF.out u (HBG6.out.trans (hS.a.keep.mono HBG6.out.size))
        refine quietX hX hS 68 rfl (by decide) (by decide) (by decide) rfl ?_
        simp [go_sem, evalBy, shB]
      · intro done q u hS hu hdep _
        obtain ⟨p0, p1, p2, p3, p4⟩ := HF.out u (HBG6.out.trans (hS.a.keep.mono HBG6.out.size))
        refine quietX hX hS 69 rfl (by decide) (by decide) (by decide) rfl ?_
        simp [go_sem, evalBy, shB]
      · intro done q u hS hu hdep _
        obtain ⟨p0, p1, p2, p3, p4⟩ := HF.out u (HBG6.out.trans (hS.a.keep.mono HBG6.out.size))
        refine quietX hX hS 70 rfl (by decide) (by decide) (by decide) rfl ?_
        simp [go_sem, evalBy, shB, p4]
      · intro done q u hS hu hdep _
        obtain ⟨p0, p1, p2, p3, p4⟩ := HF.out u (HBG6.out.trans (hS.a.keep.mono HBG6.out.size))
        refine quietX hX hS 71 rfl (by decide) (by decide) (by decide) rfl ?_
        simp [go_sem, evalBy, shB, p0, p1, p2]
      · intro done q u hS hu hdep _
        obtain ⟨p0, p1, p2, p3, p4⟩ := HF.out u (HBG6.out.trans (hS.a.keep.mono HBG6.out.size))
        refine quietX hX hS 72 rfl (by decide) (by decide) (by decide) rfl ?_
        simp [go_sem, evalBy, shB]
      · intro done q u hS hu hdep _
        obtain ⟨p0, p1, p2, p3, p4⟩ := HF.out u (HBG6.out.trans (hS.a.keep.mono HBG6.out.size))
        refine quietX hX hS 73 rfl (by decide) (by decide) (by decide) rfl ?_
        simp [go_sem, evalBy, shB]
      · intro done q u hS hu hdep _
        exact listX hS 74 rfl (by decide) (by decide) rfl 33 #[nvV ⟨some ⟨b1, o1, none⟩, nl, cl, af, m, cf, aw, nw, cw⟩, .int .i64 L, .int .i64 H, .bool false] (fun _ => rfl) (fun g' t ht => by unfold shB; split <;> first | rfl | exact absurd rfl ht) (by simp [go_sem, evalBy, shB]) (HND.out u hS.a.keep)
      · intro done q u hS hu hdep _
        have hsi : done 18 = false := by
          cases hq : done 18 with
          | false => rfl
          | true => rw [hS.os hq] at hu; cases hu
        exact callX hX hS 75 rfl (by decide) (by decide) (by decide) rfl 26 #[nvV ⟨some ⟨b1, o1, none⟩, nl, cl, af, m, cf, aw, nw, cw⟩, .int .i64 L, .int .i64 l.wh, q.2] (by simp [go_sem, evalBy, shB]) (HPY.out u q.2 hS.a.keep (hS.x (hdep ⟨12, .data⟩ (by simp) rfl) hsi))
      · intro done q u hS hu hdep _
        obtain ⟨p0, p1, p2, p3, p4⟩ := HF.out u (HBG6.out.trans (hS.a.keep.mono HBG6.out.size))
        refine quietX hX hS 61 rfl (by decide) (by decide) (by decide) rfl ?_
        simp [go_sem, evalBy, shB]
      · intro done q u hS hu hdep _
        obtain ⟨p0, p1, p2, p3, p4⟩ := HF.out u (HBG6.out.trans (hS.a.keep.mono HBG6.out.size))
        refine quietX hX hS 76 rfl (by decide) (by decide) (by decide) rfl ?_
        simp [go_sem, evalBy, shB]
      · intro done q u hS hu hdep _
        obtain ⟨p0, p1, p2, p3, p4⟩ := HF.out u (HBG6.out.trans (hS.a.keep.mono HBG6.out.size))
        refine quietX hX hS 77 rfl (by decide) (by decide) (by decide) rfl ?_
        simp [go_sem, evalBy, shB]
      · intro done q u hS hu hdep _
        refine allocX hX hS 11 rfl hu (by decide) (by decide) rfl (fun _ => rfl) (fun g' t ht => by unfold shB; split <;> first | rfl | exact absurd rfl ht) (by simp [go_sem, z4])
      · intro done q u hS hu hdep _
        refine storeX hS rfl (hdep ⟨17, .data⟩ (by simp) rfl) (hdep ⟨13, .chain⟩ (by simp) rfl) hu rfl (fun hb => ?_)
        obtain ⟨w2, h1, h2, h3, _, h5⟩ := store4 hb (.int .i64 S2.w) (.int .i64 S2.b) (.int .i64 S2.g) (.int .i64 S2.s)
        exact ⟨w2, by rw [← h1]; exact exec_store_mid 43 _ _ rfl q.1 #[.int .i64 S2.w, .int .i64 S2.b, .int .i64 S2.g, .int .i64 S2.s] rfl (by simp [evalBy, shB]) h2 heat_info (one4 ⟨rfl, rfl, rfl, rfl⟩), h5, h3⟩
      · intro done q u hS hu hdep _
        obtain ⟨p0, p1, p2, p3, p4⟩ := HF.out u (HBG6.out.trans (hS.a.keep.mono HBG6.out.size))
        refine quietX hX hS 12 rfl (by decide) (by decide) (by decide) rfl ?_
        simp [go_sem, evalBy, shB]
    · intro q w7 hS
      have hb := hS.a.keep
      obtain ⟨hq, zq⟩ := hS.a.box (by decide)
      rw [if_pos (by decide)] at zq
      obtain ⟨q, qv⟩ := q
      clear hS hX HPY HND
      have HZ7 := Lib.hid ((hb.block _ (heapsz HZ6.out)).trans HZ6.out)
      have HB7 := Lib.hid (HB6.out.trans (hb.mono HB6.out.size))
      have HN7 := Lib.hid (HN6.out.up hb)
      have HBG7 := Lib.hid (HBG6.out.trans (hb.mono HBG6.out.size))
      have HQS17 := Lib.hid ((hb.block _ (heapsz HQS16.out)).trans HQS16.out)
      have HQS27 := Lib.hid zq
      clear hb zq hq
      simp [putAll, Act.put, shB]
      go_wp2_with fail
      have hq0 := fun u : KeptW w7 => HF.out u.w (HBG7.out.trans (u.h.mono HBG7.out.size))
      have hq1 := fun u : KeptW w7 => HG.out u.w (HBG7.out.trans (u.h.mono HBG7.out.size))
      have p0 := fun u : KeptW w7 => (hq0 u).1
      have p1 := fun u : KeptW w7 => (hq0 u).2.1
      have r0 := fun u : KeptW w7 => (hq1 u).1
      refine rk_region (by kernel_rfl) (by kernel_rfl) ?_
      repeat (go_big_quiet_step (fail))
      refine wpQuiet_nil ?_
      rintro w8 ⟨⟨_, hbz⟩, rfl⟩
      clear p0 p1 r0 hq0 hq1
      have HZ8 := Lib.hid ((hbz.block _ (heapsz HZ7.out)).trans HZ7.out)
      have HB8 := Lib.hid (HB7.out.trans (hbz.mono HB7.out.size))
      have HN8 := Lib.hid (HN7.out.up hbz)
      have HBG8 := Lib.hid (HBG7.out.trans (hbz.mono HBG7.out.size))
      have HQS18 := Lib.hid ((hbz.block _ (heapsz HQS17.out)).trans HQS17.out)
      have HQS28 := Lib.hid ((hbz.block _ (heapsz HQS27.out)).trans HQS27.out)
      clear hbz
      go_wp2_with fail
      have hq1 := fun u : KeptW w8 => HG.out u.w (HBG8.out.trans (u.h.mono HBG8.out.size))
      have r0 := fun u : KeptW w8 => (hq1 u).1
      have r1 := fun u : KeptW w8 => (hq1 u).2.1
      have r2 := fun u : KeptW w8 => (hq1 u).2.2
      have s1 := fun u : KeptW w8 => (box4 ((u.h.block _ (heapsz HQS18.out)).trans HQS18.out)).1.1
      have s2 := fun u : KeptW w8 => (box4 ((u.h.block _ (heapsz HQS28.out)).trans HQS28.out)).1.1
      have HKN := Lib.hid (fun u : KeptW w8 => Calls.in_kept u (known_any u.w))
      have hq := (eq47s S1.w S2.w).1; have hgg := (eq47s S1.w S2.w).2
      have hw1 : wrap64 ((H : Int) - 1) = ((H - 1 : Nat) : Int) := by rw [w64 (by omega)]; omega
      have hw2 : (0 : Int) ≤ ((H - 1 : Nat) : Int) := by omega
      have hw3 : ((H - 1 : Nat) : Int) < (m : Int) := by omega
      clear hq1
      refine rk_region (by kernel_rfl) (by kernel_rfl) ?_
      repeat (go_big_quiet_step (first | (with_reducible exact HKN.out _) | fail))
      refine wpQuiet_nil ?_
      rintro wz ⟨⟨_, hbz⟩, rfl⟩
      have HBZ := Lib.hid (HB8.out.trans (hbz.mono HB8.out.size))
      go_wp2_with fail
      go_ret
      exact ⟨rfl, HBZ.out⟩
end Go.Proofs.Yticmeeinjkoodaa
