/- Pipes: the truth in which a loop cools most, or least, by the specification. -/
import Derived.Test.YticmeeinjkoodaaRB
namespace Go.Proofs.Yticmeeinjkoodaa
open Go.RowKit Go.Shelf

theorem fill3 {w : World} {B : Nat} {a b c : Value} {t : TypeId} (h : w.heap[B]? = some (.cells #[a, b, c] t (0, 0))) (v0 v1 v2 : Value) :
    ∃ w', w.setCells B 0 (#[v0, v1, v2] : Array Value).toList = w' ∧ w.there B 0 (#[v0, v1, v2] : Array Value).size ∧ w'.heap[B]? = some (.cells #[v0, v1, v2] t (0, 0)) ∧ (∀ n, n ≤ B → Below n w w') := by
  have f : (((w.setCell ⟨B, 0, none⟩ v0).setCell ⟨B, 1, none⟩ v1).setCell ⟨B, 2, none⟩ v2).heap[B]? = some (.cells #[v0, v1, v2] t (0, 0)) := by simpa using blk_set (blk_set (blk_set h 0 v0) 1 v1) 2 v2
  refine ⟨_, rfl, there_block h (by simp), f, fun n hn => ?_⟩
  exact (((Below.refl n w).setCell (p := ⟨B, 0, none⟩) hn _).setCell (p := ⟨B, 1, none⟩) hn _).setCell (p := ⟨B, 2, none⟩) hn _
theorem one3 {v0 v1 v2 : Value} (hv : v0.oneCell' = true ∧ v1.oneCell' = true ∧ v2.oneCell' = true) : (#[v0, v1, v2] : Array Value).all (·.oneCell') = true := by
  obtain ⟨h0, h1, h2⟩ := hv
  simp [h0, h1, h2]
theorem th_info : (Try.prog.info? 54).map (·.size) = some 3 := by kernel_rfl
theorem th_info2 : (Try.prog.info? 54).map (fun i => (i.zero, i.size, i.bytes)) = some (some (.agg #[.int .i64 0, .int .i64 0, .bool false]), 3, 24) := by kernel_rfl
/-- A box that is filled in a drawn statement. -/
structure PutB (w0 : World) (si g : Nat) (T : TypeId) (ov nv : Array Value) (n : Nat) (done : Nat → Bool) (w' : World) : Prop where
  keep : Below n w0 w'
  ge : n ≤ g
  box : w'.heap[g]? = some (.cells (if done si then nv else ov) T (0, 0))
section
variable {w0 w : World} {si gb n : Nat} {T : TypeId} {ov nv : Array Value} {done : Nat → Bool} {ops : Array Oper} {cv : Unit → Tmp → Value} {i : Nat} {g : Unit} {o : Oper}
abbrev AskP (w0 : World) (si gb : Nat) (T : TypeId) (ov nv : Array Value) (n : Nat) (ops : Array Oper) (cv : Unit → Tmp → Value) (done : Nat → Bool) (g : Unit) (w : World) (i : Nat) (o : Oper) : Prop :=
  Region.wanted o (yieldedBy ops (cv g)) = true ∧ Yield Try.prog (fun v w' => ∃ g', PutB w0 si gb T ov nv n (updB done i) w' ∧ (∀ d, o.dst = some d → cv g' d = v) ∧ ∀ t, o.dst ≠ some t → cv g' t = cv g t) ((execOp (evalBy (cv g)) o).run Try.prog w)
theorem quietP (h : PutB w0 si gb T ov nv n done w) (d : Tmp) (hd : o.dst = some d) (hi : i ≠ si) (hg : Region.wanted o (yieldedBy ops (cv g)) = true)
    (he : (execOp (evalBy (cv g)) o).run Try.prog w = .ok (.value (cv g d)) w) : AskP w0 si gb T ov nv n ops cv done g w i o := by
  refine ⟨hg, ?_⟩
  rw [he]
  exact ⟨g, ⟨h.keep, h.ge, by rw [upd_ne hi]; exact h.box⟩, fun e hE => by rw [hd] at hE; injection hE with hE; subst hE; rfl, fun _ _ => rfl⟩
theorem storeP (h : PutB w0 si gb T ov nv n done w) (hd : o.dst = none) (hu : done si = false) (hg : Region.wanted o (yieldedBy ops (cv g)) = true)
    (he : w.heap[gb]? = some (.cells ov T (0, 0)) → ∃ w2, (execOp (evalBy (cv g)) o).run Try.prog w = .ok .skip w2 ∧ (∀ n, n ≤ gb → Below n w w2) ∧ w2.heap[gb]? = some (.cells nv T (0, 0))) : AskP w0 si gb T ov nv n ops cv done g w si o := by
  refine ⟨hg, ?_⟩
  have hb := h.box
  rw [hu] at hb
  obtain ⟨w2, hr, hbb, hz⟩ := he hb
  rw [hr]
  have e1 : updB done si si = true := by simp [updB]
  exact ⟨g, ⟨h.keep.trans (hbb _ h.ge), h.ge, by rw [e1]; exact hz⟩, fun e hE => by rw [hd] at hE; exact absurd hE (by simp), fun _ _ => rfl⟩
end
def endT (l : Lp) (most : Bool) (fr : List (Int × Int)) : List Th := fr.map fun x => ⟨if most then l.lh else l.ll, if most then x.2 else x.1, false⟩
theorem endT_at {l : Lp} {most : Bool} {fr : List (Int × Int)} {k : Nat} {x : Int × Int} (h : fr[k]? = some x) : (endT l most fr)[k]? = some ⟨if most then l.lh else l.ll, if most then x.2 else x.1, false⟩ := by
  unfold endT
  rw [List.getElem?_map, h]
  rfl
theorem endT_len (l : Lp) (most : Bool) (fr : List (Int × Int)) : (endT l most fr).length = fr.length := by simp [endT]
def reCv (Z L k : Nat) (al : Addr) (nl cl : Nat) (af : Addr) (nf cf : Nat) (a c : Int) (g : Nat) : Tmp → Value
  | 1 => .int .i64 L
  | 4 => .pointer (some ⟨Z, 0, none⟩)
  | 10 => .int .i64 k
  | 17 => .pointer (some ⟨Z, 0, none⟩)
  | 18 => .slice (some ⟨al.block, al.off, none⟩) nl cl
  | 19 => .int .i64 L
  | 20 => .pointer (some ⟨al.block, al.off + L * 12, none⟩)
  | 21 => .pointer (some ⟨al.block, al.off + L * 12 + 2, none⟩)
  | 22 => .pointer (some ⟨al.block, al.off + L * 12 + 2, none⟩)
  | 23 => .int .i64 a
  | 24 => .pointer (some ⟨Z, 1, none⟩)
  | 25 => .slice (some ⟨af.block, af.off, none⟩) nf cf
  | 26 => .int .i64 k
  | 27 => .pointer (some ⟨af.block, af.off + k * 2, none⟩)
  | 28 => .pointer (some ⟨af.block, af.off + k * 2, none⟩)
  | 29 => .int .i64 c
  | 30 => thV ⟨a, c, false⟩
  | 11 => .pointer (some ⟨g, 0, none⟩)
  | _ => default
def rfCv (Z L k : Nat) (al : Addr) (nl cl : Nat) (af : Addr) (nf cf : Nat) (a c : Int) (B : Nat) (_ : Unit) : Tmp → Value
  | 1 => .int .i64 L
  | 4 => .pointer (some ⟨Z, 0, none⟩)
  | 10 => .int .i64 k
  | 11 => .pointer (some ⟨B, 0, none⟩)
  | 32 => .pointer (some ⟨Z, 0, none⟩)
  | 33 => .slice (some ⟨al.block, al.off, none⟩) nl cl
  | 34 => .int .i64 L
  | 35 => .pointer (some ⟨al.block, al.off + L * 12, none⟩)
  | 36 => .pointer (some ⟨al.block, al.off + L * 12 + 2, none⟩)
  | 37 => .pointer (some ⟨al.block, al.off + L * 12 + 2 + 1, none⟩)
  | 38 => .int .i64 a
  | 39 => .pointer (some ⟨Z, 1, none⟩)
  | 40 => .slice (some ⟨af.block, af.off, none⟩) nf cf
  | 41 => .int .i64 k
  | 42 => .pointer (some ⟨af.block, af.off + k * 2, none⟩)
  | 43 => .pointer (some ⟨af.block, af.off + k * 2 + 1, none⟩)
  | 44 => .int .i64 c
  | 45 => thV ⟨a, c, false⟩
  | _ => default
set_option maxRecDepth 100000 in
set_option maxHeartbeats 8000000 in
theorem rend_any (V : NV) (N : Nt) {L : Nat} {l : Lp} (H : Nat) (most : Bool) (w : World) (hN : NtAt w w.heap.size V N) (hL : N.lo[L]? = some l) (hH : H ≤ N.fr.length) (h72 : N.fr.length ≤ 1000) :
    Calls Try.prog 33 #[nvV V, .int .i64 L, .int .i64 H, .bool most] w fun e w' => ∃ v, e = .returned v ∧ Below w.heap.size w w' ∧ RowIs thR 54 w.heap.size ((endT l most N.fr).take H) v w' := by
  have HL := Lib.hid hL; have HH := Lib.hid hH; have H72 := Lib.hid h72
  have z := heap_alloc_new w (.cells (nvC V) 26)
  have hb := (Below.refl w.heap.size w).alloc (Nat.le_refl _) (.cells (nvC V) 26)
  obtain ⟨w1, hw1⟩ : ∃ z, w.alloc (.cells (nvC V) 26) = z := ⟨_, rfl⟩
  rw [hw1] at z hb
  have HW := Lib.hid hw1
  have HN := Lib.hid (hN.up hb)
  obtain ⟨al, nl, cl, af, nf, cf, aw, nw, cw⟩ := V
  obtain ⟨v0, v1, v2⟩ := box3_cells z
  have hml := hN.ml; have hmf := hN.mf; have hmw := hN.mw
  unfold maxLen at hml hmf hmw
  simp only at hml hmf hmw v0 v1 v2
  have HB := Lib.hid hb; have Z := Lib.hid z
  have HNL := Lib.hid hN.nl; have HNF := Lib.hid hN.nf; have HNW := Lib.hid hN.nw
  clear z hb hw1 hN
  clear hL hH h72
  obtain ⟨b1, o1, hal1, hb1, ⟨_, _⟩, ⟨e2, e3⟩, _⟩ := lp_el HN.out.lo HL.out
  have hLn : L < nl := by have h1 := HNL.out; have h2 := (List.getElem?_eq_some_iff.1 HL.out).1; simp only at h1; omega
  have L0 : (0 : Int) ≤ (L : Int) := by omega
  have L1 : (L : Int) < (nl : Int) := by omega
  have hHf : H ≤ nf := by have h1 := HNF.out; have h2 := HH.out; simp only at h1; omega
  have hH72 : H ≤ 1000 := by have h1 := H72.out; have h2 := HH.out; omega
  have hal2 : al = some ⟨b1, o1, none⟩ := hal1
  subst hal2
  have H1 := Lib.hid hb1
  obtain ⟨i0, hi0, hz0, hz1, hz2⟩ := info_parts th_info2
  clear hal1 hb1 v2
  go_enter Try.func33, Try.ntmps33
  go_wp2_with fail
  rw [show w.alloc (.cells #[.slice (some ⟨b1, o1, none⟩) nl cl, .slice af nf cf, .slice aw nw cw] 26) = w1 from HW.out]
  go_loopw [9, 10, 11] (fun oo ii _ wr => ∃ k : Nat, k ≤ H ∧ ii = .int .i64 k ∧ Below w1.heap.size w1 wr ∧ wr.ownsRow w1.heap.size 54 3 oo k (flatR thR ((endT l most N.fr).take k))) (fun _ ii _ _ => H - (intOf ii).toNat)
  case atStart => exact ⟨0, by omega, rfl, Below.refl _ _, World.ownsRow_nil _ _ _ _⟩
  case round =>
    obtain ⟨k, hk, rfl, hbr, hown⟩ := hrel
    have HBR := Lib.hid hbr; have HOWN := Lib.hid hown
    clear hown
    by_cases hlt : k < H
    · have k3 : (0 : Int) ≤ (k : Int) := by omega
      have k4 : (k : Int) < (H : Int) := by omega
      have k5 : (k : Int) < (nf : Int) := by omega
      obtain ⟨f, hf⟩ := get_of_lt (l := N.fr) (k := k) (by rw [HNF.out]; omega)
      obtain ⟨b3, o3, rfl, hb3, g0, g1⟩ := pr_el (HN.out.fr.up hbr) hf
      have HT := Lib.hid (endT_at (l := l) (most := most) hf)
      have HF : Hid (∀ u : World, Below wr.heap.size wr u → u.cell? ⟨w.heap.size, 0, none⟩ = some (.slice (some ⟨b1, o1, none⟩) nl cl) ∧ u.cell? ⟨w.heap.size, 1, none⟩ = some (.slice (some ⟨b3, o3, none⟩) nf cf) ∧ u.cell? ⟨b1, o1 + L * 12 + 2, none⟩ = some (.int .i64 l.ll) ∧ u.cell? ⟨b1, o1 + L * 12 + 3, none⟩ = some (.int .i64 l.lh) ∧ u.cell? ⟨b3, o3 + k * 2, none⟩ = some (.int .i64 f.1) ∧ u.cell? ⟨b3, o3 + k * 2 + 1, none⟩ = some (.int .i64 f.2)) := Lib.hid fun u hu => by
        have hq := (bcell (hbr.trans (hu.mono hbr.size))).1
        have hr := (bcell hu).1
        exact ⟨(hq _ _ (heapsz Z.out)).trans v0, (hq _ _ (heapsz Z.out)).trans v1, (hq _ _ H1.out).trans e2, (hq _ _ H1.out).trans e3, (hr _ _ hb3).trans g0, (hr _ _ hb3).trans g1⟩
      clear hf g0 g1 hb3 v0 v1 e2 e3
      go_wp2_with fail
      refine wp_region_any (by kernel_rfl) (plan_guarded_any (γ := Nat) [1, 4, 10] (reCv w.heap.size L k ⟨b1, o1, none⟩ nl cl ⟨b3, o3, none⟩ nf cf l.ll f.1) (fun done q w' => NewA wr 14 15 54 (thC ⟨0, 0, false⟩) (thC ⟨l.ll, f.1, false⟩) done q w') 0 (by kernel_rfl) (by kernel_rfl) (by kernel_rfl) (by kernel_rfl) ?_ ?_ ?_ ?_)
      · intro t ht
        simp only [List.mem_cons, List.not_mem_nil, or_false] at ht
        rcases ht with rfl | rfl | rfl <;> rfl
      · exact ⟨(Below.refl wr.heap.size wr).drew, fun h => by simp at h, fun h => by simp at h⟩
      · refine allOps_array ?_
        refine ⟨?_, ?_, ?_, ?_, ?_, ?_, ?_, ?_, ?_, ?_, ?_, ?_, ?_, ?_, ?_, ?_, trivial⟩
        · intro done q u hS hu hdep _
          obtain ⟨p0, p1, p2, p3, p4, p5⟩ := HF.out u hS.keep
          refine quietN hS 17 rfl (by decide) (by decide) rfl ?_
          simp [go_sem, evalBy, reCv]
        · intro done q u hS hu hdep _
          obtain ⟨p0, p1, p2, p3, p4, p5⟩ := HF.out u hS.keep
          refine quietN hS 18 rfl (by decide) (by decide) rfl ?_
          simp [go_sem, evalBy, reCv, p0]
        · intro done q u hS hu hdep _
          obtain ⟨p0, p1, p2, p3, p4, p5⟩ := HF.out u hS.keep
          refine quietN hS 19 rfl (by decide) (by decide) rfl ?_
          simp [go_sem, evalBy, reCv]
        · intro done q u hS hu hdep _
          obtain ⟨p0, p1, p2, p3, p4, p5⟩ := HF.out u hS.keep
          refine quietN hS 20 rfl (by decide) (by decide) rfl ?_
          simp [go_sem, evalBy, reCv, L0, L1]
        · intro done q u hS hu hdep _
          obtain ⟨p0, p1, p2, p3, p4, p5⟩ := HF.out u hS.keep
          refine quietN hS 21 rfl (by decide) (by decide) rfl ?_
          simp [go_sem, evalBy, reCv]
        · intro done q u hS hu hdep _
          obtain ⟨p0, p1, p2, p3, p4, p5⟩ := HF.out u hS.keep
          refine quietN hS 22 rfl (by decide) (by decide) rfl ?_
          simp [go_sem, evalBy, reCv]
        · intro done q u hS hu hdep _
          obtain ⟨p0, p1, p2, p3, p4, p5⟩ := HF.out u hS.keep
          refine quietN hS 23 rfl (by decide) (by decide) rfl ?_
          simp [go_sem, evalBy, reCv, p2]
        · intro done q u hS hu hdep _
          obtain ⟨p0, p1, p2, p3, p4, p5⟩ := HF.out u hS.keep
          refine quietN hS 24 rfl (by decide) (by decide) rfl ?_
          simp [go_sem, evalBy, reCv]
        · intro done q u hS hu hdep _
          obtain ⟨p0, p1, p2, p3, p4, p5⟩ := HF.out u hS.keep
          refine quietN hS 25 rfl (by decide) (by decide) rfl ?_
          simp [go_sem, evalBy, reCv, p1]
        · intro done q u hS hu hdep _
          obtain ⟨p0, p1, p2, p3, p4, p5⟩ := HF.out u hS.keep
          refine quietN hS 26 rfl (by decide) (by decide) rfl ?_
          simp [go_sem, evalBy, reCv]
        · intro done q u hS hu hdep _
          obtain ⟨p0, p1, p2, p3, p4, p5⟩ := HF.out u hS.keep
          refine quietN hS 27 rfl (by decide) (by decide) rfl ?_
          simp [go_sem, evalBy, reCv, k3, k5]
        · intro done q u hS hu hdep _
          obtain ⟨p0, p1, p2, p3, p4, p5⟩ := HF.out u hS.keep
          refine quietN hS 28 rfl (by decide) (by decide) rfl ?_
          simp [go_sem, evalBy, reCv]
        · intro done q u hS hu hdep _
          obtain ⟨p0, p1, p2, p3, p4, p5⟩ := HF.out u hS.keep
          refine quietN hS 29 rfl (by decide) (by decide) rfl ?_
          simp [go_sem, evalBy, reCv, p4]
        · intro done q u hS hu hdep _
          obtain ⟨p0, p1, p2, p3, p4, p5⟩ := HF.out u hS.keep
          refine quietN hS 30 rfl (by decide) (by decide) rfl ?_
          simp [go_sem, evalBy, reCv]
        · intro done q u hS hu hdep _
          refine allocN hS 11 rfl hu (by decide) rfl (fun _ => rfl) (fun g' t ht => by unfold reCv; split <;> first | rfl | exact absurd rfl ht) (by simp [go_sem])
        · intro done q u hS hu hdep _
          refine storeN hS rfl (hdep ⟨14, .data⟩ (by simp) rfl) hu rfl (fun hb => ?_)
          obtain ⟨w2, h1, h2, h3, h5⟩ := fill3 hb (.int .i64 l.ll) (.int .i64 f.1) (.bool false)
          exact ⟨w2, by rw [← h1]; exact exec_store_mid 54 _ _ rfl q #[.int .i64 l.ll, .int .i64 f.1, .bool false] rfl (by simp [evalBy, reCv]) h2 th_info (one3 ⟨rfl, rfl, rfl⟩), h5, h3⟩
      · intro q wa hS
        have hba := hS.keep
        obtain ⟨hq, za⟩ := hS.box (by decide)
        rw [if_pos (by decide)] at za
        have HBA := Lib.hid hba; have HZA := Lib.hid za; have HQ := Lib.hid hq
        clear hS hba za hq hbr
        simp [putAll, Act.put, reCv]
        cases most
        · have hbb := HBA.out; have hzz := HZA.out
          have HBB := Lib.hid hbb; have HZZ := Lib.hid hzz
          obtain ⟨y0, y1, y2⟩ := box3_cells hzz
          have hown9 := own_next HOWN.out hbb
          have HOW := Lib.hid hown9
          clear hbb hzz hown9
          go_wp2_with (first
            | (at_builtin
               refine wpList_append_own _ rfl _ _ 41 rfl w1.heap.size 54 i0 _ 3 24 Try.underlying41 hi0 hz0 hz1 hz2 rfl (by decide) _ _ _ rfl (own_next HOW.out ((Below.refl _ wa).alloc (Nat.le_refl _) _)) ⟨wa.heap.size, 0, none⟩ 1 1 [.int .i64 l.ll, .int .i64 f.1, .bool false] rfl rfl (cells_new wa [.int .i64 l.ll, .int .i64 f.1, .bool false] 54) (by simp [Value.oneCell']) (by unfold maxLen; omega) (by omega) (by have := HBB.out.size; have := HBR.out.size; simp; omega) ?_
               intro v' w6 hown6 hgr6 hnil6)
            | fail)
          refine ⟨⟨k + 1, by omega, rfl, ?_, ?_⟩, by simp [intOf]; omega⟩
          · have hb6 : Below w1.heap.size w1 (wa.alloc (.cells #[.int .i64 l.ll, .int .i64 f.1, .bool false] 54)) := (HBR.out.trans (HBB.out.mono HBR.out.size)).alloc (HBR.out.trans (HBB.out.mono HBR.out.size)).size _
            exact hb6.grown hgr6 hb6.size (fun q e => (own_at HOWN.out e).1)
          · rw [flatR_take HT.out]
            exact hown6
        · go_wp2_with fail
          refine wp_region_any (by kernel_rfl) (plan_guarded_any (γ := Unit) [1, 4, 10, 11] (rfCv w.heap.size L k ⟨b1, o1, none⟩ nl cl ⟨b3, o3, none⟩ nf cf l.lh f.2 q) (fun done _ w' => PutB wa 14 q 54 (thC ⟨l.ll, f.1, false⟩) (thC ⟨l.lh, f.2, false⟩) wr.heap.size done w') () (by kernel_rfl) (by kernel_rfl) (by kernel_rfl) (by kernel_rfl) ?_ ?_ ?_ ?_)
          · intro t ht
            simp only [List.mem_cons, List.not_mem_nil, or_false] at ht
            rcases ht with rfl | rfl | rfl | rfl <;> rfl
          · exact ⟨(Below.refl wr.heap.size wa).drew, HQ.out, HZA.out⟩
          · refine allOps_array ?_
            refine ⟨?_, ?_, ?_, ?_, ?_, ?_, ?_, ?_, ?_, ?_, ?_, ?_, ?_, ?_, ?_, trivial⟩
            · intro done q0 u hS hu hdep _
              obtain ⟨p0, p1, p2, p3, p4, p5⟩ := HF.out u (HBA.out.trans hS.keep)
              refine quietP hS 32 rfl (by decide) rfl ?_
              simp [go_sem, evalBy, rfCv]
            · intro done q0 u hS hu hdep _
              obtain ⟨p0, p1, p2, p3, p4, p5⟩ := HF.out u (HBA.out.trans hS.keep)
              refine quietP hS 33 rfl (by decide) rfl ?_
              simp [go_sem, evalBy, rfCv, p0]
            · intro done q0 u hS hu hdep _
              obtain ⟨p0, p1, p2, p3, p4, p5⟩ := HF.out u (HBA.out.trans hS.keep)
              refine quietP hS 34 rfl (by decide) rfl ?_
              simp [go_sem, evalBy, rfCv]
            · intro done q0 u hS hu hdep _
              obtain ⟨p0, p1, p2, p3, p4, p5⟩ := HF.out u (HBA.out.trans hS.keep)
              refine quietP hS 35 rfl (by decide) rfl ?_
              simp [go_sem, evalBy, rfCv, L0, L1]
            · intro done q0 u hS hu hdep _
              obtain ⟨p0, p1, p2, p3, p4, p5⟩ := HF.out u (HBA.out.trans hS.keep)
              refine quietP hS 36 rfl (by decide) rfl ?_
              simp [go_sem, evalBy, rfCv]
            · intro done q0 u hS hu hdep _
              obtain ⟨p0, p1, p2, p3, p4, p5⟩ := HF.out u (HBA.out.trans hS.keep)
              refine quietP hS 37 rfl (by decide) rfl ?_
              simp [go_sem, evalBy, rfCv]
            · intro done q0 u hS hu hdep _
              obtain ⟨p0, p1, p2, p3, p4, p5⟩ := HF.out u (HBA.out.trans hS.keep)
              refine quietP hS 38 rfl (by decide) rfl ?_
              simp [go_sem, evalBy, rfCv, p3]
            · intro done q0 u hS hu hdep _
              obtain ⟨p0, p1, p2, p3, p4, p5⟩ := HF.out u (HBA.out.trans hS.keep)
              refine quietP hS 39 rfl (by decide) rfl ?_
              simp [go_sem, evalBy, rfCv]
            · intro done q0 u hS hu hdep _
              obtain ⟨p0, p1, p2, p3, p4, p5⟩ := HF.out u (HBA.out.trans hS.keep)
              refine quietP hS 40 rfl (by decide) rfl ?_
              simp [go_sem, evalBy, rfCv, p1]
            · intro done q0 u hS hu hdep _
              obtain ⟨p0, p1, p2, p3, p4, p5⟩ := HF.out u (HBA.out.trans hS.keep)
              refine quietP hS 41 rfl (by decide) rfl ?_
              simp [go_sem, evalBy, rfCv]
            · intro done q0 u hS hu hdep _
              obtain ⟨p0, p1, p2, p3, p4, p5⟩ := HF.out u (HBA.out.trans hS.keep)
              refine quietP hS 42 rfl (by decide) rfl ?_
              simp [go_sem, evalBy, rfCv, k3, k5]
            · intro done q0 u hS hu hdep _
              obtain ⟨p0, p1, p2, p3, p4, p5⟩ := HF.out u (HBA.out.trans hS.keep)
              refine quietP hS 43 rfl (by decide) rfl ?_
              simp [go_sem, evalBy, rfCv]
            · intro done q0 u hS hu hdep _
              obtain ⟨p0, p1, p2, p3, p4, p5⟩ := HF.out u (HBA.out.trans hS.keep)
              refine quietP hS 44 rfl (by decide) rfl ?_
              simp [go_sem, evalBy, rfCv, p5]
            · intro done q0 u hS hu hdep _
              obtain ⟨p0, p1, p2, p3, p4, p5⟩ := HF.out u (HBA.out.trans hS.keep)
              refine quietP hS 45 rfl (by decide) rfl ?_
              simp [go_sem, evalBy, rfCv]
            · intro done q0 u hS hu hdep _
              refine storeP hS rfl hu rfl (fun hb => ?_)
              obtain ⟨w2, h1, h2, h3, h5⟩ := fill3 hb (.int .i64 l.lh) (.int .i64 f.2) (.bool false)
              exact ⟨w2, by rw [← h1]; exact exec_store_mid 54 _ _ rfl q #[.int .i64 l.lh, .int .i64 f.2, .bool false] rfl (by simp [evalBy, rfCv]) h2 th_info (one3 ⟨rfl, rfl, rfl⟩), h5, h3⟩
          · intro q0 wb hS
            have hbb := HBA.out.trans hS.keep
            have hzz := hS.box
            rw [if_pos (by decide)] at hzz
            clear hS
            simp [putAll, Act.put, rfCv]
            have HBB := Lib.hid hbb; have HZZ := Lib.hid hzz
            obtain ⟨y0, y1, y2⟩ := box3_cells hzz
            have hown9 := own_next HOWN.out hbb
            have HOW := Lib.hid hown9
            clear hbb hzz hown9
            go_wp2_with (first
              | (at_builtin
                 refine wpList_append_own _ rfl _ _ 41 rfl w1.heap.size 54 i0 _ 3 24 Try.underlying41 hi0 hz0 hz1 hz2 rfl (by decide) _ _ _ rfl (own_next HOW.out ((Below.refl _ wb).alloc (Nat.le_refl _) _)) ⟨wb.heap.size, 0, none⟩ 1 1 [.int .i64 l.lh, .int .i64 f.2, .bool false] rfl rfl (cells_new wb [.int .i64 l.lh, .int .i64 f.2, .bool false] 54) (by simp [Value.oneCell']) (by unfold maxLen; omega) (by omega) (by have := HBB.out.size; have := HBR.out.size; simp; omega) ?_
                 intro v' w6 hown6 hgr6 hnil6)
              | fail)
            refine ⟨⟨k + 1, by omega, rfl, ?_, ?_⟩, by simp [intOf]; omega⟩
            · have hb6 : Below w1.heap.size w1 (wb.alloc (.cells #[.int .i64 l.lh, .int .i64 f.2, .bool false] 54)) := (HBR.out.trans (HBB.out.mono HBR.out.size)).alloc (HBR.out.trans (HBB.out.mono HBR.out.size)).size _
              exact hb6.grown hgr6 hb6.size (fun q e => (own_at HOWN.out e).1)
            · rw [flatR_take HT.out]
              exact hown6
    · obtain rfl : H = k := by omega
      have k4 : ¬ (H : Int) < (H : Int) := by omega
      have hro : RowIs thR 54 w1.heap.size ((endT l most N.fr).take H) u9 wr := RowIs.of_own (by
        have := HOWN.out
        rwa [show ((endT l most N.fr).take H).length = H by rw [List.length_take, endT_len]; have := HH.out; omega])
      have HRO := Lib.hid (hro.low HB.out.size)
      clear hbr hro
      go_wp2_with fail
      go_ret
      exact ⟨_, rfl, HB.out.trans (HBR.out.mono HB.out.size), HRO.out⟩
end Go.Proofs.Yticmeeinjkoodaa
