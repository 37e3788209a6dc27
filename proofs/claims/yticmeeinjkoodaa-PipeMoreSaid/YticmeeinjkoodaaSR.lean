/- Pipes: the law PipeMore. -/
import Derived.Test.YticmeeinjkoodaaSQ
namespace Go
open Go.RowKit
section
variable {P : Program}
/-- An append to nothing, in a drawn region. -/
theorem relApp {w : World} {rels : List (Tmp × Nat)} {cv : Tmp → Value} {F : Nat → Value → World → Prop} {i : Nat} {o : Oper} {g : Nat → Value} {u : KeptW w} (s x : Operand) (t : TypeId)
    (ho : o.op = .call { callee := .builtin .append, args := #[s, x], argTypes := #[t, t] }) (hs : evalBy (rhoT rels cv g) s = .slice none 0 0)
    (e : TypeId) (ti : TypeInfo) (z : Value) (size bytes : Nat) (ht : P.underlying t = some (.slice e)) (hi : P.info? e = some ti) (hz : ti.zero = some z)
    (hsize : ti.size = size) (hby : ti.bytes = bytes) (hzs : z.cells.size = size) (hsz : 0 < size)
    (ad : Addr) (m c : Nat) (news : List Value) (hx : evalBy (rhoT rels cv g) x = .slice (some ad) m c) (hl : news.length = m * size) (hnews : ∀ j v, news[j]? = some v → u.w.cell? (ad.add j) = some v) (h1 : ∀ v ∈ news, v.oneCell' = true)
    (h63 : 0 + m ≤ maxLen) (hbytes : (0 + m) * bytes ≤ 140737488355328)
    (hrel : ∀ d, o.dst = some d → relOf rels d ≠ none) (hF : ∀ v' w', w'.ownsRow u.w.heap.size e size v' m news → F i v' w') :
    Yield P (fun v w' => Below u.w.heap.size u.w w' ∧ F i v w' ∧ ∀ d, o.dst = some d → relOf rels d = none → v = cv d) ((execOp (evalBy (rhoT rels cv g)) o).run P u.w) := by
  obtain ⟨v', w', hr, h2, h3, _⟩ := run_append_own (P := P) u.w u.w.heap.size t o.type e ti z size bytes ht hi hz hsize hby hzs hsz (.slice none 0 0) 0 [] (World.ownsRow_nil _ _ _ _) ad m c news hl hnews h1 h63 hbytes (Nat.le_refl _)
  have he : (execOp (evalBy (rhoT rels cv g)) o).run P u.w = .ok (.value v') w' := by
    unfold execOp
    simp only [ho, resolve, invoke, builtin, Sem.run_bind, Sem.run_pure, Result.andThen_ok, List.map_toArray, List.map_cons, List.map_nil, hs, hx, hr]
  rw [he]
  rw [Nat.zero_add, List.nil_append] at h2
  exact ⟨(Below.refl u.w.heap.size u.w).grown h3 (Nat.le_refl _) (fun q e => by cases e), hF v' w' h2, fun d hd hn => absurd hn (hrel d hd)⟩
end
end Go
namespace Go.Proofs.Yticmeeinjkoodaa
open Go.RowKit Go.Shelf

def mvCv (Z X L : Nat) (a2 aw a5 : Addr) (nw k2 cw nr c5 : Nat) : Tmp → Value
  | 3 => .int .i64 L
  | 6 => .pointer (some ⟨Z, 0, none⟩)
  | 13 => .pointer (some ⟨X, 0, none⟩)
  | 102 => .pointer (some ⟨X, 2, none⟩)
  | 103 => .slice (some a2) nw k2
  | 104 => .int .i64 L
  | 105 => .pointer (some ⟨Z, 2, none⟩)
  | 106 => .slice (some aw) nw cw
  | 107 => .int .i64 L
  | 108 => .pointer (some ⟨aw.block, aw.off + L, none⟩)
  | 109 => .slice (some a5) nr c5
  | 111 => .pointer (some ⟨a2.block, a2.off + L, none⟩)
  | _ => default
def mvF (B n : Nat) (L : Nat) (m : Int) (row : List Int) (i : Nat) (v : Value) (w : World) : Prop := i = 8 → ∃ g c cur, v = .slice (some ⟨g, 0, none⟩) n c ∧ B ≤ g ∧ n ≤ c ∧ w.heap[g]? = some (.cells cur 3 (0, 0)) ∧ rowM L m row 0 cur
theorem mvF_keep {B n L : Nat} {m : Int} {row : List Int} (i : Nat) (v : Value) (w1 w2 : World) (h : mvF B n L m row i v w1) (hb : Below w1.heap.size w1 w2) : mvF B n L m row i v w2 := fun hi => by
  obtain ⟨g, c, cur, h1, h2, h3, h4, h5⟩ := h hi
  exact ⟨g, c, cur, h1, h2, h3, (hb.block _ (heapsz h4)).trans h4, h5⟩
theorem FsOk.wrapM {N : Nt} {p : Int} {fs : List Int} (K : FsOk N p fs) (m : Nat) : FsOk (N.wrap m) p fs := by
  have e : (N.wrap m).lo.length = N.lo.length := wrL_len _ _
  exact ⟨K.len, wrap_ok K.ok m, by rw [e]; exact K.pl, by rw [e]; exact K.fs⟩
theorem FsOk.more {N : Nt} {p : Int} {fs : List Int} (K : FsOk N p fs) (L : Nat) {m : Int} (hm : 0 ≤ m) : FsOk (N.more L m) p fs := by
  have e := (more_len N L m).1
  exact ⟨K.len, more_ok K.ok hm, by rw [e]; exact K.pl, by rw [e]; exact K.fs⟩
theorem frz_known {N : Nt} (K : NtOk N) {L : Nat} {l : Lp} (hl : N.lo[L]? = some l) : frzA N L = frzI l false N.fr 0 ∧ frzB N L = frzI l false N.fr 1 ∧ loopI N L = 0 := by
  have hlt := (List.getElem?_eq_some_iff.1 hl).1
  have hb : loopB N L = true := by
    unfold loopB
    rw [ntB_iff.2 K, Bool.true_and, inB_iff]
    omega
  have hat : N.at L = l := by unfold Nt.at; rw [Int.toNat_natCast, List.getD_eq_getElem?_getD, hl]; rfl
  unfold frzA frzB loopI
  rw [if_pos hb, if_pos hb, if_pos hb, hat]
  exact ⟨rfl, rfl, rfl⟩
attribute [local irreducible] QT
set_option maxRecDepth 100000 in
set_option maxHeartbeats 16000000 in
theorem more_law (V : NV) (N : Nt) (p f loop more set : Int) (w : World) (hN : NtAt w w.heap.size V N) :
    Calls Try.prog 15 #[nvV V, .int .i64 p, .int .i64 f, .int .i64 loop, .int .i64 more, .int .i64 set] w fun e w' => e = .returned (.bool true) ∧ Below w.heap.size w w' := by
  have z := heap_alloc_new w (.cells (nvC V) 26)
  have hb := (Below.refl w.heap.size w).alloc (Nat.le_refl _) (.cells (nvC V) 26)
  obtain ⟨w1, hw1⟩ : ∃ z, w.alloc (.cells (nvC V) 26) = z := ⟨_, rfl⟩
  rw [hw1] at z hb
  have HW := Lib.hid hw1
  have HN := Lib.hid (hN.up hb)
  obtain ⟨al, nl, cl, af, nf, cf, aw, nw, cw⟩ := V
  obtain ⟨v0, v1, v2⟩ := box3_cells z
  have hml := hN.ml; have hmf := hN.mf; have hmw := hN.mw
  unfold maxLen at hml hmf hmw
  simp only at hml hmf hmw v0 v1 v2
  have HB := Lib.hid hb; have Z := Lib.hid z
  have HNL := Lib.hid hN.nl; have HNF := Lib.hid hN.nf; have HNW := Lib.hid hN.nw
  clear z hb hw1 hN
  have HZ1 := Z; have HB1 := HB; have HN1 := HN
  clear Z HB HN
  go_enter Try.func15, Try.ntmps15
  go_wp2_with fail
  rw [show w.alloc (.cells #[.slice al nl cl, .slice af nf cf, .slice aw nw cw] 26) = w1 from HW.out]
  refine (short_any _ N _ HN1.out).mono ?_
  rintro e w2 ⟨rfl, hb⟩
  have HZ2 := Lib.hid ((hb.block _ (heapsz HZ1.out)).trans HZ1.out)
  have HB2 := Lib.hid (HB1.out.trans (hb.mono HB1.out.size))
  have HN2 := Lib.hid (HN1.out.up hb)
  clear hb
  clear v0 v1 v2
  obtain ⟨v0, v1, v2⟩ := box3_cells HZ2.out
  cases hsh : shortB N
  · clear v0 v1 v2 hsh
    go_wp2_with fail
    refine (known_any _).mono ?_
    rintro e wk ⟨rfl, hbk⟩
    have HBK := Lib.hid (HB2.out.trans (hbk.mono HB2.out.size))
    clear hbk
    go_wp2_with fail
    go_ret
    exact ⟨rfl, HBK.out⟩
  have h8 : nl ≤ 8 := by
    unfold shortB at hsh
    simp only [Bool.and_eq_true, decide_eq_true_eq] at hsh
    have := hsh.2.1
    have h1 := HNL.out
    first | omega | (simp only at h1; omega)
  clear hsh
  go_wp2_with fail
  refine (rnet_any _ N _ HN2.out (by simp only; omega)).mono ?_
  rintro e w3 ⟨rfl, hb⟩
  have HZ3 := Lib.hid ((hb.block _ (heapsz HZ2.out)).trans HZ2.out)
  have HB3 := Lib.hid (HB2.out.trans (hb.mono HB2.out.size))
  have HN3 := Lib.hid (HN2.out.up hb)
  clear hb
  clear v0 v1 v2
  obtain ⟨v0, v1, v2⟩ := box3_cells HZ3.out
  cases hnt : ntB N
  · clear v0 v1 v2 hnt
    go_wp2_with fail
    refine (known_any _).mono ?_
    rintro e wk ⟨rfl, hbk⟩
    have HBK := Lib.hid (HB3.out.trans (hbk.mono HB3.out.size))
    clear hbk
    go_wp2_with fail
    go_ret
    exact ⟨rfl, HBK.out⟩
  have HOK := Lib.hid (ntB_iff.1 hnt)
  clear hnt
  by_cases h4 : (4 : Int) < (nl : Int)
  · go_wp2_with fail
    refine (known_any _).mono ?_
    rintro e wk ⟨rfl, hbk⟩
    have HBK := Lib.hid (HB3.out.trans (hbk.mono HB3.out.size))
    clear hbk
    go_wp2_with fail
    go_ret
    exact ⟨rfl, HBK.out⟩
  go_wp2_with fail
  refine (rplace_any _ N p _ HN3.out).mono ?_
  rintro e w4 ⟨rfl, hb⟩
  have HZ4 := Lib.hid ((hb.block _ (heapsz HZ3.out)).trans HZ3.out)
  have HB4 := Lib.hid (HB3.out.trans (hb.mono HB3.out.size))
  have HN4 := Lib.hid (HN3.out.up hb)
  clear hb
  clear v0 v1 v2
  obtain ⟨v0, v1, v2⟩ := box3_cells HZ4.out
  cases hpl : inB 0 p N.lo.length
  · clear v0 v1 v2 hpl
    go_wp2_with fail
    refine (known_any _).mono ?_
    rintro e wk ⟨rfl, hbk⟩
    have HBK := Lib.hid (HB4.out.trans (hbk.mono HB4.out.size))
    clear hbk
    go_wp2_with fail
    go_ret
    exact ⟨rfl, HBK.out⟩
  have HPL := Lib.hid (inB_iff.1 hpl)
  clear hpl
  go_wp2_with fail
  refine (rfault_any _ N f _ HN4.out HOK.out.n5.2).mono ?_
  rintro e w5 ⟨rfl, hb⟩
  have HZ5 := Lib.hid ((hb.block _ (heapsz HZ4.out)).trans HZ4.out)
  have HB5 := Lib.hid (HB4.out.trans (hb.mono HB4.out.size))
  have HN5 := Lib.hid (HN4.out.up hb)
  clear hb
  clear v0 v1 v2
  obtain ⟨v0, v1, v2⟩ := box3_cells HZ5.out
  cases hfb : faultB N.lo.length f
  · clear v0 v1 v2 hfb
    go_wp2_with fail
    refine (known_any _).mono ?_
    rintro e wk ⟨rfl, hbk⟩
    have HBK := Lib.hid (HB5.out.trans (hbk.mono HB5.out.size))
    clear hbk
    go_wp2_with fail
    go_ret
    exact ⟨rfl, HBK.out⟩
  have HFB : Hid (0 ≤ f ∧ f < 2 ^ N.lo.length) := Lib.hid (by
    unfold faultB at hfb
    rw [inB_iff] at hfb
    omega)
  have HFS : Hid (FsOk N p [f]) := Lib.hid ⟨by simp, HOK.out, HPL.out, fun g hg => by
    rw [List.mem_singleton] at hg
    rw [hg]
    exact HFB.out⟩
  obtain ⟨s, rfl⟩ : ∃ s : Nat, f = s := ⟨f.toNat, by have := HFB.out; omega⟩
  obtain ⟨a, rfl⟩ : ∃ a : Nat, p = a := ⟨p.toNat, by have := HPL.out; omega⟩
  have HS : Hid (s < 2 ^ N.lo.length) := Lib.hid (by
    have h1 := HFB.out
    have hpow : (2 : Int) ^ N.lo.length = ((2 ^ N.lo.length : Nat) : Int) := by simp
    omega)
  clear hfb
  go_wp2_with fail
  refine (risLoop_any _ N loop _ HN5.out).mono ?_
  rintro e w6 ⟨rfl, hb⟩
  have HZ6 := Lib.hid ((hb.block _ (heapsz HZ5.out)).trans HZ5.out)
  have HB6 := Lib.hid (HB5.out.trans (hb.mono HB5.out.size))
  have HN6 := Lib.hid (HN5.out.up hb)
  clear hb
  clear v0 v1 v2
  obtain ⟨v0, v1, v2⟩ := box3_cells HZ6.out
  cases hil : inB 0 loop (N.lo.length - 1)
  · clear v0 v1 v2 hil
    go_wp2_with fail
    refine (known_any _).mono ?_
    rintro e wk ⟨rfl, hbk⟩
    have HBK := Lib.hid (HB6.out.trans (hbk.mono HB6.out.size))
    clear hbk
    go_wp2_with fail
    go_ret
    exact ⟨rfl, HBK.out⟩
  have hlb : loopB N loop = true := by unfold loopB; rw [ntB_iff.2 HOK.out, hil]; rfl
  obtain ⟨L, rfl, hL1, hL2⟩ := loopB_get hlb
  obtain ⟨l, hll⟩ : ∃ z, N.at (L : Int) = z := ⟨_, rfl⟩
  rw [hll] at hL2
  have HL2 := Lib.hid hL2
  clear hlb hil hL1 hL2 hll
  by_cases hm1 : more < 0
  · go_wp2_with fail
    refine (known_any _).mono ?_
    rintro e wk ⟨rfl, hbk⟩
    have HBK := Lib.hid (HB6.out.trans (hbk.mono HB6.out.size))
    clear hbk
    go_wp2_with fail
    go_ret
    exact ⟨rfl, HBK.out⟩
  by_cases hm2 : (72 : Int) < more
  · go_wp2_with fail
    refine (known_any _).mono ?_
    rintro e wk ⟨rfl, hbk⟩
    have HBK := Lib.hid (HB6.out.trans (hbk.mono HB6.out.size))
    clear hbk
    go_wp2_with fail
    go_ret
    exact ⟨rfl, HBK.out⟩
  have hm3 : 0 ≤ more ∧ more ≤ 72 := by omega
  go_wp2_with fail
  refine (rfault_any _ N set _ HN6.out HOK.out.n5.2).mono ?_
  rintro e w7 ⟨rfl, hb⟩
  have HZ7 := Lib.hid ((hb.block _ (heapsz HZ6.out)).trans HZ6.out)
  have HB7 := Lib.hid (HB6.out.trans (hb.mono HB6.out.size))
  have HN7 := Lib.hid (HN6.out.up hb)
  clear hb
  clear v0 v1 v2
  obtain ⟨v0, v1, v2⟩ := box3_cells HZ7.out
  cases hfb : faultB N.lo.length set
  · clear v0 v1 v2 hfb
    go_wp2_with fail
    refine (known_any _).mono ?_
    rintro e wk ⟨rfl, hbk⟩
    have HBK := Lib.hid (HB7.out.trans (hbk.mono HB7.out.size))
    clear hbk
    go_wp2_with fail
    go_ret
    exact ⟨rfl, HBK.out⟩
  obtain ⟨st, rfl⟩ : ∃ st : Nat, set = st := ⟨set.toNat, by unfold faultB at hfb; rw [inB_iff] at hfb; omega⟩
  have hst32 : st < 32 := by
    unfold faultB at hfb
    rw [inB_iff] at hfb
    have hpow : (2 : Int) ^ N.lo.length = ((2 ^ N.lo.length : Nat) : Int) := by simp
    have := Nat.pow_le_pow_right (show 0 < 2 by decide) HOK.out.n5.2
    omega
  clear hfb
  have hnl5 : 1 ≤ nl ∧ nl ≤ 5 := by have h1 := HNL.out; have h2 := HOK.out.n5; first | omega | (simp only at h1; omega)
  have HNLL : Hid (N.lo.length = nl) := Lib.hid (by have h1 := HNL.out; first | omega | (simp only at h1; omega))
  have hnw : nw = nl + 1 := by have h2 := HNW.out; have h3 := HOK.out.wl; have h1 := HNLL.out; first | omega | (simp only at h2; omega)
  have hLn : L < nl := by have h1 := (List.getElem?_eq_some_iff.1 HL2.out).1; have h2 := HNLL.out; omega
  obtain ⟨row, hrow⟩ := get_of_lt (l := N.wa) (k := L) (by have h3 := HOK.out.wl; have h1 := HNLL.out; omega)
  have HROW := Lib.hid hrow
  have HRWL : Hid (row.length = nl + 1 ∧ ∀ x ∈ row, 0 ≤ x ∧ x ≤ 72) := Lib.hid (by have h := HOK.out.wa L row hrow; have h1 := HNLL.out; exact ⟨by omega, h.2.2⟩)
  obtain ⟨b1, o1, hal1, hb1, _, _, _, _, c10, c11⟩ := lp_el HN7.out.lo HL2.out
  have hal2 : al = some ⟨b1, o1, none⟩ := hal1
  subst hal2
  obtain ⟨bw, ow, ws, haw, hbw, hwsl, hwsc, hws⟩ := grid_vals HN7.out.wa (fun e => by have h3 := HOK.out.wl; rw [e] at h3; simp at h3)
  have haw2 : aw = some ⟨bw, ow, none⟩ := haw
  subst haw2
  have HWSL : Hid (ws.length = nw) := Lib.hid (by rw [hwsl]; have h2 := HNW.out; first | omega | (simp only at h2; omega))
  have HWS := Lib.hid hws
  obtain ⟨A5, c5, hw5, hra, _, hrc⟩ := hws L row hrow
  obtain ⟨b5, o5, rfl, hb5, hrcell⟩ := hra (fun e => by have h := HRWL.out.1; rw [e] at h; simp at h)
  rw [HRWL.out.1] at hw5 hrc
  obtain ⟨nr, hnr⟩ : ∃ z, nl + 1 = z := ⟨_, rfl⟩
  rw [hnr] at hw5 hrc HRWL hnw
  have hnr6 : 2 ≤ nr ∧ nr ≤ 6 := by omega
  have hnw6 : 2 ≤ nw ∧ nw ≤ 6 := by omega
  have HNWN := Lib.hid hnw
  have hLw : L < nw := by omega
  clear hnr hnw
  have HW5 := Lib.hid hw5
  have hwX : Below w7.heap.size w7 (w7.alloc (.cells #[.slice (some ⟨b1, o1, none⟩) nl cl, .slice af nf cf, .slice (some ⟨bw, ow, none⟩) nw cw] 26)) := (Below.refl w7.heap.size w7).alloc (Nat.le_refl _) _
  have hzX := heap_alloc_new w7 (.cells #[.slice (some ⟨b1, o1, none⟩) nl cl, .slice af nf cf, .slice (some ⟨bw, ow, none⟩) nw cw] 26)
  obtain ⟨wA, hwA⟩ : ∃ z, w7.alloc (.cells #[.slice (some ⟨b1, o1, none⟩) nl cl, .slice af nf cf, .slice (some ⟨bw, ow, none⟩) nw cw] 26) = z := ⟨_, rfl⟩
  have HSA : Hid (wA.heap.size = w7.heap.size + 1) := Lib.hid (by rw [← hwA]; simp)
  rw [hwA] at hwX hzX
  have HWA := Lib.hid hwA; have HBA := Lib.hid hwX; have HZA := Lib.hid hzX
  have HZZ : Hid (w.heap.size < w7.heap.size) := Lib.hid (heapsz HZ7.out)
  have HCN : Hid (∀ u : World, Below w7.heap.size w7 u → (u.cell? ⟨w.heap.size, 0, none⟩ = some (.slice (some ⟨b1, o1, none⟩) nl cl) ∧ u.cell? ⟨w.heap.size, 1, none⟩ = some (.slice af nf cf) ∧ u.cell? ⟨w.heap.size, 2, none⟩ = some (.slice (some ⟨bw, ow, none⟩) nw cw)) ∧ u.cell? ⟨bw, ow + L, none⟩ = some (.slice (some ⟨b5, o5, none⟩) nr c5) ∧ (∀ i x, ws[i]? = some x → u.cell? ((⟨bw, ow, none⟩ : Addr).add i) = some x) ∧ (∀ i x, (flatR intR row)[i]? = some x → u.cell? ((⟨b5, o5, none⟩ : Addr).add i) = some x) ∧ ∀ j x, (flatR lpR N.lo)[j]? = some x → u.cell? ((⟨b1, o1, none⟩ : Addr).add j) = some x) := Lib.hid fun u hu =>
    ⟨box3_cells ((hu.block _ (heapsz HZ7.out)).trans HZ7.out), ((bcell hu).1 _ _ hbw).trans (hwsc L _ HW5.out).1, fun i x hx => by rw [addr_add]; exact ((bcell hu).1 _ _ hbw).trans (hwsc i x hx).1, fun i x hx => by
      obtain ⟨k, r, y, rfl, h2, h3⟩ := flat_in (k := 1) (R := intR) (fun _ => rfl) row i x hx
      rw [addr_add, ← Nat.add_assoc]
      exact ((bcell hu).1 _ _ hb5).trans (hrcell k y h2 r x h3), fun j x hx => by
      obtain ⟨k, r, y, rfl, h2, h3⟩ := flat_in (k := 12) (R := lpR) (fun _ => rfl) N.lo j x hx
      obtain ⟨bq, oq, e1, hq, e2⟩ := HN7.out.lo (fun e => by rw [e] at h2; simp at h2)
      injection e1 with e1
      injection e1 with e1 e3
      subst e1 e3
      rw [addr_add, ← Nat.add_assoc]
      exact ((bcell hu).1 _ _ hq).trans (e2 k y h2 r x h3)⟩
  have HONE : Hid (∀ u ∈ flatR lpR N.lo, u.oneCell' = true) := Lib.hid fun u hu => by
    unfold flatR at hu
    obtain ⟨r, hr, hur⟩ := List.mem_flatten.1 hu
    obtain ⟨x, _, rfl⟩ := List.mem_map.1 hr
    simp only [lpR, List.mem_cons, List.not_mem_nil, or_false] at hur
    rcases hur with rfl | rfl | rfl | rfl | rfl | rfl | rfl | rfl | rfl | rfl | rfl | rfl <;> rfl
  have HONR : Hid (∀ u ∈ flatR intR row, u.oneCell' = true) := Lib.hid fun u hu => by
    unfold flatR at hu
    obtain ⟨x, hx, hux⟩ := List.mem_flatten.1 hu
    obtain ⟨y, _, rfl⟩ := List.mem_map.1 hx
    simp only [intR, List.mem_singleton] at hux
    rw [hux]
    rfl
  have HONW : Hid (∀ u ∈ ws, u.oneCell' = true) := Lib.hid fun u hu => by
    obtain ⟨i, hi⟩ := List.getElem?_of_mem hu
    exact (hwsc i u hi).2
  have HLEN : Hid ((flatR lpR N.lo).length = nl * 12) := Lib.hid (by rw [flat_len (k := 12) (fun _ => rfl), HNLL.out])
  have HLER : Hid ((flatR intR row).length = nr * 1) := Lib.hid (by rw [flat_len (k := 1) (fun _ => rfl), HRWL.out.1])
  have HLEW : Hid (ws.length = nw * 1) := Lib.hid (by rw [Nat.mul_one]; exact HWSL.out)
  obtain ⟨i0, hi0, hz0, hz1, hz2⟩ := info_parts lp_info2
  obtain ⟨j0, hj0, jz0, jz1, jz2⟩ := info_parts (show (Try.prog.info? 57).map (fun i => (i.zero, i.size, i.bytes)) = some (some (.slice none 0 0), 1, 24) by kernel_rfl)
  obtain ⟨k0, hk0, kz0, kz1, kz2⟩ := info_parts int_info
  obtain ⟨⟨q0, q1, q2⟩, _⟩ := HCN.out wA hwX
  rw [← HWA.out] at q0 q1 q2
  have L0 : (0 : Int) ≤ (L : Int) := by omega
  have L1 : (L : Int) < (nl : Int) := by omega
  have L2 : (L : Int) < (nw : Int) := by omega
  clear hrow hal1 hb1 c10 c11 haw hbw hwsl hwsc hws hw5 hra hb5 hrcell hwX hzX hwA v0 v1 v2
  obtain ⟨v0, v1, v2⟩ := box3_cells HZ7.out
  simp only at v0 v1 v2
  go_wp2_with (first
    | (at_builtin
       rw [show w7.alloc (.cells #[.slice (some ⟨b1, o1, none⟩) nl cl, .slice af nf cf, .slice (some ⟨bw, ow, none⟩) nw cw] 26) = wA from HWA.out]
       refine wpList_append_own _ rfl _ _ 22 rfl wA.heap.size 49 i0 _ 12 96 Try.underlying22 hi0 hz0 hz1 hz2 rfl (by decide) (.slice none 0 0) 0 [] rfl (World.ownsRow_nil _ _ _ _) ⟨b1, o1, none⟩ nl cl (flatR lpR N.lo) rfl HLEN.out (HCN.out wA HBA.out).2.2.2.2 HONE.out (by unfold maxLen; omega) (by omega) (Nat.le_refl _) ?_
       intro v' wv6 hown6 hgr6 _
       rw [Nat.zero_add, List.nil_append] at hown6
       obtain ⟨_, ⟨_, h0⟩ | ⟨g1, k1, cur1, rfl, hge, hg, _, _, _, htk⟩⟩ := hown6
       · omega
       have HLM := Lib.hid (own_loM htk)
       have hz6 := (hgr6.block w7.heap.size (by rw [HSA.out]; omega) (fun e => by cases e)).trans HZA.out
       obtain ⟨y0, y1, y2⟩ := box3_cells hz6
       have f0 : wv6.frozen? ⟨w7.heap.size, 0, none⟩ = false := by simp [World.frozen?, hz6]
       have HZ6 := Lib.hid hz6; have HG6 := Lib.hid hg
       have HGE : Hid (w7.heap.size < g1) := Lib.hid (by rw [HSA.out] at hge; omega)
       have HB6 : Hid (Below w7.heap.size w7 wv6) := Lib.hid (HBA.out.trans (((Below.refl wA.heap.size wA).grown hgr6 (Nat.le_refl _) (fun q e => by cases e)).mono HBA.out.size))
       clear hgr6 hz6 hg hge htk)
    | fail)
  clear y0 y1 y2 f0 v0 v1 v2 q0 q1 q2
  have hz7 := blk_set HZ6.out 0 (.slice (some ⟨g1, 0, none⟩) nl k1)
  have hg7 := (Below.heap_setCell wv6 ⟨w7.heap.size, 0, none⟩ (.slice (some ⟨g1, 0, none⟩) nl k1) g1 (by have := HGE.out; show g1 ≠ w7.heap.size; omega)).trans HG6.out
  have hb7 := HB6.out.setCell (p := ⟨w7.heap.size, 0, none⟩) (Nat.le_refl _) (.slice (some ⟨g1, 0, none⟩) nl k1)
  generalize wv6.setCell ⟨w7.heap.size, 0, none⟩ (.slice (some ⟨g1, 0, none⟩) nl k1) = wv7 at hz7 hg7 hb7 ⊢
  have HZ7 : Hid (wv7.heap[w7.heap.size]? = some (.cells #[.slice (some ⟨g1, 0, none⟩) nl k1, .slice af nf cf, .slice (some ⟨bw, ow, none⟩) nw cw] 26 (0, 0))) := Lib.hid (by simpa using hz7)
  have HG7 := Lib.hid hg7; have HB7 := Lib.hid hb7
  clear hz7 hg7 hb7 HZ6 HG6 HB6
  obtain ⟨fh, hfh⟩ : ∃ z, l.fh = z := ⟨_, rfl⟩
  have hf3 : 0 ≤ fh ∧ fh ≤ 72 := by have h := (HOK.out.lo l (List.mem_of_getElem? HL2.out)).f; rw [hfh] at h; omega
  obtain ⟨y, hy⟩ : ∃ z, min 72 (fh + more) = z := ⟨_, rfl⟩
  have HLP := Lib.hid (loM_put HLM.out HL2.out (m := more) (y := y) (by rw [hfh]; exact hy))
  have HCF : Hid (cur1[L * 12 + 10 + 1]? = some (.int .i64 fh)) := Lib.hid (by rw [← hfh]; exact HLM.out L l HL2.out 11 _ rfl)
  have HQ7 : Hid (∀ u : World, Below wv7.heap.size wv7 u → u.cell? ⟨w7.heap.size, 0, none⟩ = some (.slice (some ⟨g1, 0, none⟩) nl k1) ∧ u.heap[g1]? = some (.cells cur1 49 (0, 0))) := Lib.hid fun u hu => ⟨(box3_cells ((hu.block _ (heapsz HZ7.out)).trans HZ7.out)).1, (hu.block _ (heapsz HG7.out)).trans HG7.out⟩
  have p0 := fun u : KeptW wv7 => (HQ7.out u.w u.h).1
  have p1 : ∀ u : KeptW wv7, u.w.cell? ⟨g1, L * 12 + 10 + 1, none⟩ = some (.int .i64 fh) := fun u => by rw [cell_of_row u.w g1 _ _ 49 (0, 0) (HQ7.out u.w u.h).2]; exact HCF.out
  have e1 : wrap64 (fh + more) = fh + more := w64 (by omega)
  clear hfh
  apply rk_tailX (C := fun w' => ∃ u : KeptW wv7, w' = u.w)
  case hs => exact (rfl : _ = [_, _, _, _, _, _, _, _, _, _, _, _, _, _, _, _] ++ [_])
  case hm => kernel_rfl
  case hB => kernel_rfl
  case hT => kernel_rfl
  case hC => exact ⟨⟨wv7.drew, (Below.refl wv7.heap.size wv7).drew⟩, rfl⟩
  repeat (go_big_quiet_step (fail))
  refine wpQuiet_nil ?_
  rintro _ ⟨uu, rfl⟩
  have hg8 := (HQ7.out uu.w uu.h).2
  have f0 : uu.w.frozen? ⟨g1, L * 12 + 10 + 1, none⟩ = false := by simp [World.frozen?, hg8]
  have c0 := p1 uu
  have hgn := blk_set hg8 (L * 12 + 10 + 1) (.int .i64 y)
  have hzn := (Below.heap_setCell uu.w ⟨g1, L * 12 + 10 + 1, none⟩ (.int .i64 y) w7.heap.size (by have := HGE.out; show w7.heap.size ≠ g1; omega)).trans ((uu.h.block _ (heapsz HZ7.out)).trans HZ7.out)
  have hbn := (HB7.out.trans (uu.h.mono (Nat.le_of_lt (heapsz HZ7.out)))).setCell (p := ⟨g1, L * 12 + 10 + 1, none⟩) (by have := HGE.out; show w7.heap.size ≤ g1; omega) (.int .i64 y)
  have HG8 := Lib.hid hgn; have HZ8 := Lib.hid hzn; have HB8 := Lib.hid hbn
  clear hgn hzn hbn p0 p1 hg8
  unfold Oper.wp
  simp [go_sem, c0, f0]
  clear c0 f0
  generalize uu.w.setCell ⟨g1, L * 12 + 10 + 1, none⟩ (.int .i64 y) = wv8 at HG8 HZ8 HB8 ⊢
  clear HQ7 HZ7 HG7 HB7
  obtain ⟨⟨v0, v1, v2⟩, _⟩ := HCN.out wv8 HB8.out
  go_wp2_with (first
    | (at_builtin
       refine wpList_append_own _ rfl _ _ 24 rfl wv8.heap.size 57 j0 _ 1 24 Try.underlying24 hj0 jz0 jz1 jz2 rfl (by decide) (.slice none 0 0) 0 [] rfl (World.ownsRow_nil _ _ _ _) ⟨bw, ow, none⟩ nw cw ws rfl HLEW.out (HCN.out wv8 HB8.out).2.2.1 HONW.out (by unfold maxLen; omega) (by omega) (Nat.le_refl _) ?_
       intro v' wv9 hown9 hgr9 _
       rw [Nat.zero_add, List.nil_append] at hown9
       obtain ⟨_, ⟨_, h0⟩ | ⟨g2, k2, cur2, rfl, hge, hg, _, _, _, htk⟩⟩ := hown9
       · omega
       have HC2 : Hid (∀ (i : Nat) (u : Value), ws[i]? = some u → cur2[i]? = some u) := Lib.hid fun i u hu => by
         rw [← htk, List.getElem?_take] at hu
         split at hu
         · simpa using hu
         · simp at hu
       have hz9 := (hgr9.block w7.heap.size (heapsz HZ8.out) (fun e => by cases e)).trans HZ8.out
       obtain ⟨y0, y1, y2⟩ := box3_cells hz9
       have f0 : wv9.frozen? ⟨w7.heap.size, 2, none⟩ = false := by simp [World.frozen?, hz9]
       have HZ9 := Lib.hid hz9; have HG9 := Lib.hid hg
       have HGE2 : Hid (g1 < g2) := Lib.hid (by have := heapsz HG8.out; omega)
       have HG19 := Lib.hid ((hgr9.block g1 (heapsz HG8.out) (fun e => by cases e)).trans HG8.out)
       have HB9 : Hid (Below w7.heap.size w7 wv9) := Lib.hid (HB8.out.trans (((Below.refl wv8.heap.size wv8).grown hgr9 (Nat.le_refl _) (fun q e => by cases e)).mono (Nat.le_of_lt (heapsz HZ8.out))))
       clear hgr9 hz9 hg hge htk)
    | fail)
  clear y0 y1 y2 f0 v0 v1 v2
  have hzn := blk_set HZ9.out 2 (.slice (some ⟨g2, 0, none⟩) nw k2)
  have hgn := (Below.heap_setCell wv9 ⟨w7.heap.size, 2, none⟩ (.slice (some ⟨g2, 0, none⟩) nw k2) g2 (by have := HGE.out; have := HGE2.out; show g2 ≠ w7.heap.size; omega)).trans HG9.out
  have hg1n := (Below.heap_setCell wv9 ⟨w7.heap.size, 2, none⟩ (.slice (some ⟨g2, 0, none⟩) nw k2) g1 (by have := HGE.out; show g1 ≠ w7.heap.size; omega)).trans HG19.out
  have hbn := HB9.out.setCell (p := ⟨w7.heap.size, 2, none⟩) (Nat.le_refl _) (.slice (some ⟨g2, 0, none⟩) nw k2)
  generalize wv9.setCell ⟨w7.heap.size, 2, none⟩ (.slice (some ⟨g2, 0, none⟩) nw k2) = wx at hzn hgn hg1n hbn ⊢
  have HZX : Hid (wx.heap[w7.heap.size]? = some (.cells #[.slice (some ⟨g1, 0, none⟩) nl k1, .slice af nf cf, .slice (some ⟨g2, 0, none⟩) nw k2] 26 (0, 0))) := Lib.hid (by simpa using hzn)
  have HG2X := Lib.hid hgn; have HG1X := Lib.hid hg1n; have HBX := Lib.hid hbn
  clear hzn hgn hg1n hbn HZ9 HG9 HG19 HB9
  have HQX : Hid (∀ u : World, Below wx.heap.size wx u → u.cell? ⟨w7.heap.size, 2, none⟩ = some (.slice (some ⟨g2, 0, none⟩) nw k2) ∧ u.heap[g2]? = some (.cells cur2 57 (0, 0)) ∧ Below w7.heap.size w7 u) := Lib.hid fun u hu => ⟨(box3_cells ((hu.block _ (heapsz HZX.out)).trans HZX.out)).2.2, (hu.block _ (heapsz HG2X.out)).trans HG2X.out, HBX.out.trans (hu.mono (Nat.le_of_lt (heapsz HZX.out)))⟩
  apply tail_regionX
  case hs => exact (rfl : _ = [_, _, _, _, _, _, _, _, _, _] ++ [_])
  case hm => kernel_rfl
  case hT => kernel_rfl
  refine rel_any [3, 6, 13] [(110, 8)] (mvCv w.heap.size w7.heap.size L ⟨g2, 0, none⟩ ⟨bw, ow, none⟩ ⟨b5, o5, none⟩ nw k2 cw nr c5) (mvF wx.heap.size nr L more row) (by kernel_rfl) (by kernel_rfl) (by kernel_rfl) (by kernel_rfl) (by kernel_rfl) ?_ mvF_keep ?_ ?_
  · intro t ht
    simp only [List.mem_cons, List.not_mem_nil, or_false] at ht
    rcases ht with rfl | rfl | rfl <;> rfl
  · refine allOps_array ?_
    have hno : ∀ (i : Nat) (v : Value) (u : World), i ≠ 8 → mvF wx.heap.size nr L more row i v u := fun i v u h e => absurd e h
    refine ⟨?_, ?_, ?_, ?_, ?_, ?_, ?_, ?_, ?_, ?_, trivial⟩
    · intro gg u hd
      exact ⟨rfl, relQ 102 rfl (hno _ _ _ (by decide)) (by simp [go_sem, evalBy, rhoT, relOf, mvCv])⟩
    · intro gg u hd
      have c0 := (HQX.out u.w u.h).1
      exact ⟨rfl, relQ 103 rfl (hno _ _ _ (by decide)) (by simp [go_sem, evalBy, rhoT, relOf, mvCv, c0])⟩
    · intro gg u hd
      exact ⟨rfl, relQ 104 rfl (hno _ _ _ (by decide)) (by simp [go_sem, evalBy, rhoT, relOf, mvCv])⟩
    · intro gg u hd
      exact ⟨rfl, relQ 105 rfl (hno _ _ _ (by decide)) (by simp [go_sem, evalBy, rhoT, relOf, mvCv])⟩
    · intro gg u hd
      have c0 := (HCN.out u.w (HQX.out u.w u.h).2.2).1.2.2
      exact ⟨rfl, relQ 106 rfl (hno _ _ _ (by decide)) (by simp [go_sem, evalBy, rhoT, relOf, mvCv, c0])⟩
    · intro gg u hd
      exact ⟨rfl, relQ 107 rfl (hno _ _ _ (by decide)) (by simp [go_sem, evalBy, rhoT, relOf, mvCv])⟩
    · intro gg u hd
      exact ⟨rfl, relQ 108 rfl (hno _ _ _ (by decide)) (by simp [go_sem, evalBy, rhoT, relOf, mvCv, L0, L2])⟩
    · intro gg u hd
      have c0 := (HCN.out u.w (HQX.out u.w u.h).2.2).2.1
      exact ⟨rfl, relQ 109 rfl (hno _ _ _ (by decide)) (by simp [go_sem, evalBy, rhoT, relOf, mvCv, c0])⟩
    · intro gg u hd
      refine ⟨rfl, relApp _ _ 57 rfl (by simp [evalBy]) 3 k0 _ 1 8 Try.underlying57 hk0 kz0 kz1 kz2 rfl (by decide) ⟨b5, o5, none⟩ nr c5 (flatR intR row) (by simp [evalBy, rhoT, relOf, mvCv]) HLER.out (HCN.out u.w (HQX.out u.w u.h).2.2).2.2.2.1 HONR.out (by unfold maxLen; omega) (by omega) (fun d hd => by injection hd with hd; subst hd; simp [relOf]) ?_⟩
      intro v' w' hown _
      obtain ⟨_, ⟨_, h0⟩ | ⟨g3, k3, cur3, rfl, hge, hg, hnc, _, _, htk⟩⟩ := hown
      · omega
      exact ⟨g3, k3, cur3, rfl, Nat.le_trans u.h.size hge, hnc, hg, own_rowM htk⟩
    · intro gg u hd
      exact ⟨rfl, relQ 111 rfl (hno _ _ _ (by decide)) (by simp [go_sem, evalBy, rhoT, relOf, mvCv, L0, L2])⟩
  · intro gg u hall
    obtain ⟨g3, k3, cur3, hg8, hge, hnc, hz3, hr3⟩ := hall 8 (by decide) rfl
    obtain ⟨wu, hwu⟩ := u
    simp only at hz3
    dsimp only
    have HU := Lib.hid hwu
    obtain ⟨_, hg2u, hbu⟩ := HQX.out wu hwu
    have HLW : Hid (cur2[L]? = some (.slice (some ⟨b5, o5, none⟩) nr c5)) := Lib.hid (HC2.out L _ HW5.out)
    have c0 : wu.cell? ⟨g2, L, none⟩ = some (.slice (some ⟨b5, o5, none⟩) nr c5) := by rw [cell_of_row wu g2 L _ 57 (0, 0) hg2u]; exact HLW.out
    have f0 : wu.frozen? ⟨g2, L, none⟩ = false := by simp [World.frozen?, hg2u]
    have h23 : g2 < g3 := by have := heapsz HG2X.out; omega
    have hX2 : w7.heap.size < g2 := by have := HGE.out; have := HGE2.out; omega
    have hgn := blk_set hg2u L (.slice (some ⟨g3, 0, none⟩) nr k3)
    have hzn := (Below.heap_setCell wu ⟨g2, L, none⟩ (.slice (some ⟨g3, 0, none⟩) nr k3) w7.heap.size (by show w7.heap.size ≠ g2; omega)).trans ((hwu.block _ (heapsz HZX.out)).trans HZX.out)
    have hg1n := (Below.heap_setCell wu ⟨g2, L, none⟩ (.slice (some ⟨g3, 0, none⟩) nr k3) g1 (by have := HGE2.out; show g1 ≠ g2; omega)).trans ((hwu.block _ (heapsz HG1X.out)).trans HG1X.out)
    have hz3n := (Below.heap_setCell wu ⟨g2, L, none⟩ (.slice (some ⟨g3, 0, none⟩) nr k3) g3 (by show g3 ≠ g2; omega)).trans hz3
    have hbn := hbu.setCell (p := ⟨g2, L, none⟩) (Nat.le_of_lt hX2) (.slice (some ⟨g3, 0, none⟩) nr k3)
    have HG2 := Lib.hid hgn; have HZN := Lib.hid hzn; have HG1 := Lib.hid hg1n; have HZ3 := Lib.hid hz3n; have HBN := Lib.hid hbn; have HR3 := Lib.hid hr3; have H23 := Lib.hid h23; have HX2 := Lib.hid hX2; have HNC := Lib.hid hnc
    clear hgn hzn hg1n hz3n hbn hr3 hall hz3 hg2u hbu hwu hge
    simp only [QT]
    unfold Oper.wp
    simp [go_sem, putAll, Act.put, rhoT, relOf, mvCv, hg8, c0, f0]
    clear c0 f0 hg8
    generalize wu.setCell ⟨g2, L, none⟩ (.slice (some ⟨g3, 0, none⟩) nr k3) = wy at HG2 HZN HG1 HZ3 HBN ⊢
    clear HQX HZX HG2X HG1X HBX HU
    go_wp2_with fail
    refine (fun (h : ∀ C : Code, C = bodyMO → Code.wp Try.prog (Code.loop C) _ _ _) => h _ (by kernel_rfl)) ?_
    rintro _ rfl
    have hsz2 : L < cur2.size := (Array.getElem?_eq_some_iff.1 HLW.out).1
    refine loopMO L more row w7.heap.size g2 g3 _ _ nw k2 nr k3 _ wy (by omega) HRWL.out.1 (by omega) HRWL.out.2 hm3 HX2.out H23.out HZN.out HG2.out (by rw [Array.getElem?_setIfInBounds, if_pos rfl, if_pos hsz2]) ⟨_, HZ3.out, HR3.out⟩ ?_
    intro w8
    intros
    rename_i hbl hrw
    obtain ⟨cur4, hz4, hr4⟩ := hrw
    have hb : Below w7.heap.size w7 w8 := HBN.out.trans (hbl.mono (by have := HX2.out; have := H23.out; omega))
    have HM8 : Hid (NtAt w8 w8.heap.size ⟨some ⟨g1, 0, none⟩, nl, k1, af, nf, cf, some ⟨g2, 0, none⟩, nw, k2⟩ (N.more L more)) := Lib.hid (more_nt HN7.out hb HOK.out ((hbl.block g1 (by have := HGE2.out; have := H23.out; omega)).trans HG1.out) HLP.out ((hbl.block g2 H23.out).trans HG2.out) (fun i x hi hx => by
      obtain ⟨A', c', e1, e2, e3, e4⟩ := HWS.out i x hx
      exact ⟨A', c', by rw [Array.getElem?_setIfInBounds, if_neg (fun e => hi e.symm)]; exact HC2.out i _ e1, RowAt.next e2 hb hb.size, e3, e4⟩) HROW.out (by rw [Array.getElem?_setIfInBounds, if_pos rfl, if_pos hsz2, HRWL.out.1]) (by rw [HRWL.out.1]; exact HNC.out) hz4 (by rw [HRWL.out.1]; exact hr4) hb.size)
    have HX8 := Lib.hid ((hbl.block _ (by have := HX2.out; have := H23.out; omega)).trans HZN.out)
    have HZ8 := Lib.hid ((hb.block _ (heapsz HZ7.out)).trans HZ7.out)
    have HB8 := Lib.hid (HB7.out.trans (hb.mono HB7.out.size))
    have HN8 := Lib.hid (HN7.out.up hb)
    clear hbl hz4 hr4 hb HG2 HZN HG1 HZ3 HBN HR3 H23 HX2 HNC HWA HBA HZA HSA HCN HLEN HLER HLEW HONE HONR HONW HLM HLP HCF HC2 HWS HWSL HROW HRWL HW5 HLW HGE HGE2 HZZ hsz2 hy e1 hf3 hrc h23 hX2
    have HFM : Hid (FsOk (N.more L more) a [(s : Int)]) := Lib.hid (HFS.out.more L hm3.1)
    have HFW : Hid (FsOk (N.wrap st) a [(s : Int)]) := Lib.hid (HFS.out.wrapM st)
    have HK0 := Lib.hid (order_known HFS.out (List.mem_singleton.2 rfl))
    have HKM := Lib.hid (order_known HFM.out (List.mem_singleton.2 rfl))
    have HKW := Lib.hid (order_known HFW.out (List.mem_singleton.2 rfl))
    have HSLK := Lib.hid (more_slack HOK.out (L := L) (set := st) (s := s) (a := a) hm3.1 HS.out)
    rw [Int.toNat_natCast, Int.toNat_natCast] at HK0 HKM HKW
    obtain ⟨x0, hx0⟩ : ∃ z, slk N 0 s a 0 = z := ⟨_, rfl⟩
    obtain ⟨xm, hxm⟩ : ∃ z, slk (N.more L more) 0 s a 0 = z := ⟨_, rfl⟩
    obtain ⟨xw, hxw⟩ : ∃ z, slk (N.wrap st) 0 s a 0 = z := ⟨_, rfl⟩
    rw [hx0] at HK0 HSLK
    rw [hxm] at HKM HSLK
    rw [hxw] at HKW HSLK
    obtain ⟨E0, hE0⟩ : ∃ z, orderE N a s = z := ⟨_, rfl⟩
    obtain ⟨EM, hEM⟩ : ∃ z, orderE (N.more L more) a s = z := ⟨_, rfl⟩
    obtain ⟨EW, hEW⟩ : ∃ z, orderE (N.wrap st) a s = z := ⟨_, rfl⟩
    obtain ⟨S0, hS0⟩ : ∃ z, orderS N a s = z := ⟨_, rfl⟩
    obtain ⟨SM, hSM⟩ : ∃ z, orderS (N.more L more) a s = z := ⟨_, rfl⟩
    obtain ⟨SW, hSW⟩ : ∃ z, orderS (N.wrap st) a s = z := ⟨_, rfl⟩
    rw [hE0, hS0] at HK0
    rw [hEM, hSM] at HKM
    rw [hEW, hSW] at HKW
    have HE0 := Lib.hid hE0; have HEM := Lib.hid hEM; have HEW := Lib.hid hEW; have HS0 := Lib.hid hS0; have HSM := Lib.hid hSM; have HSW := Lib.hid hSW
    clear hx0 hxm hxw hE0 hEM hEW hS0 hSM hSW
    obtain ⟨v0, v1, v2⟩ := box3_cells HZ8.out
    simp only at v0 v1 v2
    go_wp2_with fail
    refine (Order_any _ N a s _ HN8.out).mono ?_
    rintro e w9 ⟨v, rfl, hb, hro⟩
    obtain ⟨O8, oc8, rfl, _, _⟩ := hro.at_ (k := 1) (fun _ => rfl)
    clear hro
    rw [HE0.out, HS0.out]
    have HZ9 := Lib.hid ((hb.block _ (heapsz HZ8.out)).trans HZ8.out)
    have HB9 := Lib.hid (HB8.out.trans (hb.mono HB8.out.size))
    have HN9 := Lib.hid (HN8.out.up hb)
    have HM9 := Lib.hid (HM8.out.up hb)
    have HX9 := Lib.hid ((hb.block _ (heapsz HX8.out)).trans HX8.out)
    clear hb
    clear v0 v1 v2
    obtain ⟨v0, v1, v2⟩ := box3_cells HZ9.out
    simp only at v0 v1 v2
    obtain ⟨r0, r1, r2⟩ := box3_cells HX9.out
    go_wp2_with fail
    refine (Order_any _ (N.more L more) a s _ HM9.out).mono ?_
    rintro e w10 ⟨v, rfl, hb, hro⟩
    obtain ⟨O9, oc9, rfl, _, _⟩ := hro.at_ (k := 1) (fun _ => rfl)
    clear hro
    rw [HEM.out, HSM.out]
    have HZ10 := Lib.hid ((hb.block _ (heapsz HZ9.out)).trans HZ9.out)
    have HB10 := Lib.hid (HB9.out.trans (hb.mono HB9.out.size))
    have HN10 := Lib.hid (HN9.out.up hb)
    have HM10 := Lib.hid (HM9.out.up hb)
    have HX10 := Lib.hid ((hb.block _ (heapsz HX9.out)).trans HX9.out)
    clear hb
    clear r0 r1 r2
    clear v0 v1 v2
    obtain ⟨v0, v1, v2⟩ := box3_cells HZ10.out
    simp only at v0 v1 v2
    go_wp2_with fail
    refine (wrapped_any _ N hst32 _ HN10.out HOK.out).mono ?_
    rintro e w11 ⟨VW10, rfl, hb, hw, _⟩
    have HZ11 := Lib.hid ((hb.block _ (heapsz HZ10.out)).trans HZ10.out)
    have HB11 := Lib.hid (HB10.out.trans (hb.mono HB10.out.size))
    have HN11 := Lib.hid (HN10.out.up hb)
    have HM11 := Lib.hid (HM10.out.up hb)
    have HX11 := Lib.hid ((hb.block _ (heapsz HX10.out)).trans HX10.out)
    have HWN11 := Lib.hid hw
    clear hb hw
    go_wp2_with fail
    refine (Order_any _ (N.wrap st) a s _ HWN11.out).mono ?_
    rintro e w12 ⟨v, rfl, hb, hro⟩
    obtain ⟨O11, oc11, rfl, _, _⟩ := hro.at_ (k := 1) (fun _ => rfl)
    clear hro
    rw [HEW.out, HSW.out]
    have HZ12 := Lib.hid ((hb.block _ (heapsz HZ11.out)).trans HZ11.out)
    have HB12 := Lib.hid (HB11.out.trans (hb.mono HB11.out.size))
    have HN12 := Lib.hid (HN11.out.up hb)
    have HM12 := Lib.hid (HM11.out.up hb)
    have HX12 := Lib.hid ((hb.block _ (heapsz HX11.out)).trans HX11.out)
    clear hb
    clear v0 v1 v2
    obtain ⟨v0, v1, v2⟩ := box3_cells HZ12.out
    simp only at v0 v1 v2
    have HFA := Lib.hid (frz_known HOK.out HL2.out)
    have HFW2 := Lib.hid (frz_known (wrap_ok HOK.out st) (wrL_at (s := st) HL2.out))
    have HFC := Lib.hid (frz_wrapped HOK.out (List.mem_of_getElem? HL2.out) 0 (st.testBit L))
    have HFD := Lib.hid (frz_wrapped HOK.out (List.mem_of_getElem? HL2.out) 1 (st.testBit L))
    rw [show (N.wrap st).fr = N.fr from rfl, frz_wrap, frz_wrap] at HFW2
    obtain ⟨fa, hfa⟩ : ∃ z, frzI l false N.fr 0 = z := ⟨_, rfl⟩
    obtain ⟨fb, hfb⟩ : ∃ z, frzI l false N.fr 1 = z := ⟨_, rfl⟩
    obtain ⟨fc, hfc⟩ : ∃ z, frzI l (st.testBit L) N.fr 0 = z := ⟨_, rfl⟩
    obtain ⟨fd, hfd⟩ : ∃ z, frzI l (st.testBit L) N.fr 1 = z := ⟨_, rfl⟩
    rw [hfa, hfb] at HFA
    rw [hfc, hfd] at HFW2
    rw [hfa, hfc] at HFC
    rw [hfb, hfd] at HFD
    clear hfa hfb hfc hfd
    have hslk := HSLK.out
    have hk0 := HK0.out; have hkm := HKM.out; have hkw := HKW.out
    by_cases t0 : x0 = -1
    · have t1 : xm = -1 := by omega
      rw [if_pos t0, if_pos t0] at hk0
      rw [if_pos t1, if_pos t1] at hkm
      obtain ⟨rfl, rfl⟩ := hk0
      obtain ⟨rfl, rfl⟩ := hkm
      by_cases t2 : xw = -1
      · rw [if_pos t2, if_pos t2] at hkw
        obtain ⟨rfl, rfl⟩ := hkw
        clear hslk t0 t1 t2
        go_wp2_with fail
        refine (Freezes_any _ N L _ HN12.out).mono ?_
        rintro e w13 ⟨rfl, hb⟩
        have HZ13 := Lib.hid ((hb.block _ (heapsz HZ12.out)).trans HZ12.out)
        have HB13 := Lib.hid (HB12.out.trans (hb.mono HB12.out.size))
        have HN13 := Lib.hid (HN12.out.up hb)
        have HM13 := Lib.hid (HM12.out.up hb)
        have HX13 := Lib.hid ((hb.block _ (heapsz HX12.out)).trans HX12.out)
        clear hb
        clear v0 v1 v2
        obtain ⟨v0, v1, v2⟩ := box3_cells HZ13.out
        simp only at v0 v1 v2
        rw [HFA.out.1, HFA.out.2.1, HFA.out.2.2]
        go_wp2_with fail
        refine (wrapped_any _ N hst32 _ HN13.out HOK.out).mono ?_
        rintro e w14 ⟨VW13, rfl, hb, hw, _⟩
        have HZ14 := Lib.hid ((hb.block _ (heapsz HZ13.out)).trans HZ13.out)
        have HB14 := Lib.hid (HB13.out.trans (hb.mono HB13.out.size))
        have HN14 := Lib.hid (HN13.out.up hb)
        have HM14 := Lib.hid (HM13.out.up hb)
        have HX14 := Lib.hid ((hb.block _ (heapsz HX13.out)).trans HX13.out)
        have HWN14 := Lib.hid hw
        clear hb hw
        go_wp2_with fail
        refine (Freezes_any _ (N.wrap st) L _ HWN14.out).mono ?_
        rintro e w15 ⟨rfl, hb⟩
        have HZ15 := Lib.hid ((hb.block _ (heapsz HZ14.out)).trans HZ14.out)
        have HB15 := Lib.hid (HB14.out.trans (hb.mono HB14.out.size))
        have HN15 := Lib.hid (HN14.out.up hb)
        have HM15 := Lib.hid (HM14.out.up hb)
        have HX15 := Lib.hid ((hb.block _ (heapsz HX14.out)).trans HX14.out)
        clear hb
        rw [HFW2.out.1, HFW2.out.2.1, HFW2.out.2.2]
        clear v0 v1 v2
        rcases HFC.out with h5 | ⟨h5, h6⟩
        · subst h5
          rcases HFD.out with h7 | ⟨h7, h8⟩
          · subst h7
            go_wp2_with fail
            refine (known_any _).mono ?_
            rintro e wk ⟨rfl, hbk⟩
            have HBK := Lib.hid (HB15.out.trans (hbk.mono HB15.out.size))
            clear hbk
            go_wp2_with fail
            go_ret
            exact ⟨rfl, HBK.out⟩
          by_cases h9 : fd < 0
          · go_wp2_with fail
            refine (known_any _).mono ?_
            rintro e wk ⟨rfl, hbk⟩
            have HBK := Lib.hid (HB15.out.trans (hbk.mono HB15.out.size))
            clear hbk
            go_wp2_with fail
            go_ret
            exact ⟨rfl, HBK.out⟩
          go_wp2_with fail
          refine (known_any _).mono ?_
          rintro e wk ⟨rfl, hbk⟩
          have HBK := Lib.hid (HB15.out.trans (hbk.mono HB15.out.size))
          clear hbk
          go_wp2_with fail
          go_ret
          exact ⟨rfl, HBK.out⟩
        have h55 : ¬ fc < 0 := by omega
        rcases HFD.out with h7 | ⟨h7, h8⟩
        · subst h7
          go_wp2_with fail
          refine (known_any _).mono ?_
          rintro e wk ⟨rfl, hbk⟩
          have HBK := Lib.hid (HB15.out.trans (hbk.mono HB15.out.size))
          clear hbk
          go_wp2_with fail
          go_ret
          exact ⟨rfl, HBK.out⟩
        have h77 : ¬ fd < 0 := by omega
        go_wp2_with fail
        refine (known_any _).mono ?_
        rintro e wk ⟨rfl, hbk⟩
        have HBK := Lib.hid (HB15.out.trans (hbk.mono HB15.out.size))
        clear hbk
        go_wp2_with fail
        go_ret
        exact ⟨rfl, HBK.out⟩
      rw [if_neg t2, if_neg t2] at hkw
      obtain ⟨rfl, rfl⟩ := hkw
      clear hslk t0 t1 t2
      go_wp2_with fail
      refine (Freezes_any _ N L _ HN12.out).mono ?_
      rintro e w13 ⟨rfl, hb⟩
      have HZ13 := Lib.hid ((hb.block _ (heapsz HZ12.out)).trans HZ12.out)
      have HB13 := Lib.hid (HB12.out.trans (hb.mono HB12.out.size))
      have HN13 := Lib.hid (HN12.out.up hb)
      have HM13 := Lib.hid (HM12.out.up hb)
      have HX13 := Lib.hid ((hb.block _ (heapsz HX12.out)).trans HX12.out)
      clear hb
      clear v0 v1 v2
      obtain ⟨v0, v1, v2⟩ := box3_cells HZ13.out
      simp only at v0 v1 v2
      rw [HFA.out.1, HFA.out.2.1, HFA.out.2.2]
      go_wp2_with fail
      refine (wrapped_any _ N hst32 _ HN13.out HOK.out).mono ?_
      rintro e w14 ⟨VW13, rfl, hb, hw, _⟩
      have HZ14 := Lib.hid ((hb.block _ (heapsz HZ13.out)).trans HZ13.out)
      have HB14 := Lib.hid (HB13.out.trans (hb.mono HB13.out.size))
      have HN14 := Lib.hid (HN13.out.up hb)
      have HM14 := Lib.hid (HM13.out.up hb)
      have HX14 := Lib.hid ((hb.block _ (heapsz HX13.out)).trans HX13.out)
      have HWN14 := Lib.hid hw
      clear hb hw
      go_wp2_with fail
      refine (Freezes_any _ (N.wrap st) L _ HWN14.out).mono ?_
      rintro e w15 ⟨rfl, hb⟩
      have HZ15 := Lib.hid ((hb.block _ (heapsz HZ14.out)).trans HZ14.out)
      have HB15 := Lib.hid (HB14.out.trans (hb.mono HB14.out.size))
      have HN15 := Lib.hid (HN14.out.up hb)
      have HM15 := Lib.hid (HM14.out.up hb)
      have HX15 := Lib.hid ((hb.block _ (heapsz HX14.out)).trans HX14.out)
      clear hb
      rw [HFW2.out.1, HFW2.out.2.1, HFW2.out.2.2]
      clear v0 v1 v2
      rcases HFC.out with h5 | ⟨h5, h6⟩
      · subst h5
        rcases HFD.out with h7 | ⟨h7, h8⟩
        · subst h7
          go_wp2_with fail
          refine (known_any _).mono ?_
          rintro e wk ⟨rfl, hbk⟩
          have HBK := Lib.hid (HB15.out.trans (hbk.mono HB15.out.size))
          clear hbk
          go_wp2_with fail
          go_ret
          exact ⟨rfl, HBK.out⟩
        by_cases h9 : fd < 0
        · go_wp2_with fail
          refine (known_any _).mono ?_
          rintro e wk ⟨rfl, hbk⟩
          have HBK := Lib.hid (HB15.out.trans (hbk.mono HB15.out.size))
          clear hbk
          go_wp2_with fail
          go_ret
          exact ⟨rfl, HBK.out⟩
        go_wp2_with fail
        refine (known_any _).mono ?_
        rintro e wk ⟨rfl, hbk⟩
        have HBK := Lib.hid (HB15.out.trans (hbk.mono HB15.out.size))
        clear hbk
        go_wp2_with fail
        go_ret
        exact ⟨rfl, HBK.out⟩
      have h55 : ¬ fc < 0 := by omega
      rcases HFD.out with h7 | ⟨h7, h8⟩
      · subst h7
        go_wp2_with fail
        refine (known_any _).mono ?_
        rintro e wk ⟨rfl, hbk⟩
        have HBK := Lib.hid (HB15.out.trans (hbk.mono HB15.out.size))
        clear hbk
        go_wp2_with fail
        go_ret
        exact ⟨rfl, HBK.out⟩
      have h77 : ¬ fd < 0 := by omega
      go_wp2_with fail
      refine (known_any _).mono ?_
      rintro e wk ⟨rfl, hbk⟩
      have HBK := Lib.hid (HB15.out.trans (hbk.mono HB15.out.size))
      clear hbk
      go_wp2_with fail
      go_ret
      exact ⟨rfl, HBK.out⟩
    have t2 : ¬ xw = -1 := by omega
    rw [if_neg t0, if_neg t0] at hk0
    rw [if_neg t2, if_neg t2] at hkw
    obtain ⟨rfl, rfl⟩ := hk0
    obtain ⟨rfl, rfl⟩ := hkw
    have t3 : ¬ SW < S0 := by omega
    by_cases t1 : xm = -1
    · rw [if_pos t1, if_pos t1] at hkm
      obtain ⟨rfl, rfl⟩ := hkm
      clear hslk t0 t1 t2
      go_wp2_with fail
      refine (Freezes_any _ N L _ HN12.out).mono ?_
      rintro e w13 ⟨rfl, hb⟩
      have HZ13 := Lib.hid ((hb.block _ (heapsz HZ12.out)).trans HZ12.out)
      have HB13 := Lib.hid (HB12.out.trans (hb.mono HB12.out.size))
      have HN13 := Lib.hid (HN12.out.up hb)
      have HM13 := Lib.hid (HM12.out.up hb)
      have HX13 := Lib.hid ((hb.block _ (heapsz HX12.out)).trans HX12.out)
      clear hb
      clear v0 v1 v2
      obtain ⟨v0, v1, v2⟩ := box3_cells HZ13.out
      simp only at v0 v1 v2
      rw [HFA.out.1, HFA.out.2.1, HFA.out.2.2]
      go_wp2_with fail
      refine (wrapped_any _ N hst32 _ HN13.out HOK.out).mono ?_
      rintro e w14 ⟨VW13, rfl, hb, hw, _⟩
      have HZ14 := Lib.hid ((hb.block _ (heapsz HZ13.out)).trans HZ13.out)
      have HB14 := Lib.hid (HB13.out.trans (hb.mono HB13.out.size))
      have HN14 := Lib.hid (HN13.out.up hb)
      have HM14 := Lib.hid (HM13.out.up hb)
      have HX14 := Lib.hid ((hb.block _ (heapsz HX13.out)).trans HX13.out)
      have HWN14 := Lib.hid hw
      clear hb hw
      go_wp2_with fail
      refine (Freezes_any _ (N.wrap st) L _ HWN14.out).mono ?_
      rintro e w15 ⟨rfl, hb⟩
      have HZ15 := Lib.hid ((hb.block _ (heapsz HZ14.out)).trans HZ14.out)
      have HB15 := Lib.hid (HB14.out.trans (hb.mono HB14.out.size))
      have HN15 := Lib.hid (HN14.out.up hb)
      have HM15 := Lib.hid (HM14.out.up hb)
      have HX15 := Lib.hid ((hb.block _ (heapsz HX14.out)).trans HX14.out)
      clear hb
      rw [HFW2.out.1, HFW2.out.2.1, HFW2.out.2.2]
      clear v0 v1 v2
      rcases HFC.out with h5 | ⟨h5, h6⟩
      · subst h5
        rcases HFD.out with h7 | ⟨h7, h8⟩
        · subst h7
          go_wp2_with fail
          refine (known_any _).mono ?_
          rintro e wk ⟨rfl, hbk⟩
          have HBK := Lib.hid (HB15.out.trans (hbk.mono HB15.out.size))
          clear hbk
          go_wp2_with fail
          go_ret
          exact ⟨rfl, HBK.out⟩
        by_cases h9 : fd < 0
        · go_wp2_with fail
          refine (known_any _).mono ?_
          rintro e wk ⟨rfl, hbk⟩
          have HBK := Lib.hid (HB15.out.trans (hbk.mono HB15.out.size))
          clear hbk
          go_wp2_with fail
          go_ret
          exact ⟨rfl, HBK.out⟩
        go_wp2_with fail
        refine (known_any _).mono ?_
        rintro e wk ⟨rfl, hbk⟩
        have HBK := Lib.hid (HB15.out.trans (hbk.mono HB15.out.size))
        clear hbk
        go_wp2_with fail
        go_ret
        exact ⟨rfl, HBK.out⟩
      have h55 : ¬ fc < 0 := by omega
      rcases HFD.out with h7 | ⟨h7, h8⟩
      · subst h7
        go_wp2_with fail
        refine (known_any _).mono ?_
        rintro e wk ⟨rfl, hbk⟩
        have HBK := Lib.hid (HB15.out.trans (hbk.mono HB15.out.size))
        clear hbk
        go_wp2_with fail
        go_ret
        exact ⟨rfl, HBK.out⟩
      have h77 : ¬ fd < 0 := by omega
      go_wp2_with fail
      refine (known_any _).mono ?_
      rintro e wk ⟨rfl, hbk⟩
      have HBK := Lib.hid (HB15.out.trans (hbk.mono HB15.out.size))
      clear hbk
      go_wp2_with fail
      go_ret
      exact ⟨rfl, HBK.out⟩
    rw [if_neg t1, if_neg t1] at hkm
    obtain ⟨rfl, rfl⟩ := hkm
    have t4 : ¬ S0 < SM := by omega
    clear hslk t0 t1 t2
    go_wp2_with fail
    refine (Freezes_any _ N L _ HN12.out).mono ?_
    rintro e w13 ⟨rfl, hb⟩
    have HZ13 := Lib.hid ((hb.block _ (heapsz HZ12.out)).trans HZ12.out)
    have HB13 := Lib.hid (HB12.out.trans (hb.mono HB12.out.size))
    have HN13 := Lib.hid (HN12.out.up hb)
    have HM13 := Lib.hid (HM12.out.up hb)
    have HX13 := Lib.hid ((hb.block _ (heapsz HX12.out)).trans HX12.out)
    clear hb
    clear v0 v1 v2
    obtain ⟨v0, v1, v2⟩ := box3_cells HZ13.out
    simp only at v0 v1 v2
    rw [HFA.out.1, HFA.out.2.1, HFA.out.2.2]
    go_wp2_with fail
    refine (wrapped_any _ N hst32 _ HN13.out HOK.out).mono ?_
    rintro e w14 ⟨VW13, rfl, hb, hw, _⟩
    have HZ14 := Lib.hid ((hb.block _ (heapsz HZ13.out)).trans HZ13.out)
    have HB14 := Lib.hid (HB13.out.trans (hb.mono HB13.out.size))
    have HN14 := Lib.hid (HN13.out.up hb)
    have HM14 := Lib.hid (HM13.out.up hb)
    have HX14 := Lib.hid ((hb.block _ (heapsz HX13.out)).trans HX13.out)
    have HWN14 := Lib.hid hw
    clear hb hw
    go_wp2_with fail
    refine (Freezes_any _ (N.wrap st) L _ HWN14.out).mono ?_
    rintro e w15 ⟨rfl, hb⟩
    have HZ15 := Lib.hid ((hb.block _ (heapsz HZ14.out)).trans HZ14.out)
    have HB15 := Lib.hid (HB14.out.trans (hb.mono HB14.out.size))
    have HN15 := Lib.hid (HN14.out.up hb)
    have HM15 := Lib.hid (HM14.out.up hb)
    have HX15 := Lib.hid ((hb.block _ (heapsz HX14.out)).trans HX14.out)
    clear hb
    rw [HFW2.out.1, HFW2.out.2.1, HFW2.out.2.2]
    clear v0 v1 v2
    rcases HFC.out with h5 | ⟨h5, h6⟩
    · subst h5
      rcases HFD.out with h7 | ⟨h7, h8⟩
      · subst h7
        go_wp2_with fail
        refine (known_any _).mono ?_
        rintro e wk ⟨rfl, hbk⟩
        have HBK := Lib.hid (HB15.out.trans (hbk.mono HB15.out.size))
        clear hbk
        go_wp2_with fail
        go_ret
        exact ⟨rfl, HBK.out⟩
      by_cases h9 : fd < 0
      · go_wp2_with fail
        refine (known_any _).mono ?_
        rintro e wk ⟨rfl, hbk⟩
        have HBK := Lib.hid (HB15.out.trans (hbk.mono HB15.out.size))
        clear hbk
        go_wp2_with fail
        go_ret
        exact ⟨rfl, HBK.out⟩
      go_wp2_with fail
      refine (known_any _).mono ?_
      rintro e wk ⟨rfl, hbk⟩
      have HBK := Lib.hid (HB15.out.trans (hbk.mono HB15.out.size))
      clear hbk
      go_wp2_with fail
      go_ret
      exact ⟨rfl, HBK.out⟩
    have h55 : ¬ fc < 0 := by omega
    rcases HFD.out with h7 | ⟨h7, h8⟩
    · subst h7
      go_wp2_with fail
      refine (known_any _).mono ?_
      rintro e wk ⟨rfl, hbk⟩
      have HBK := Lib.hid (HB15.out.trans (hbk.mono HB15.out.size))
      clear hbk
      go_wp2_with fail
      go_ret
      exact ⟨rfl, HBK.out⟩
    have h77 : ¬ fd < 0 := by omega
    go_wp2_with fail
    refine (known_any _).mono ?_
    rintro e wk ⟨rfl, hbk⟩
    have HBK := Lib.hid (HB15.out.trans (hbk.mono HB15.out.size))
    clear hbk
    go_wp2_with fail
    go_ret
    exact ⟨rfl, HBK.out⟩
end Go.Proofs.Yticmeeinjkoodaa
