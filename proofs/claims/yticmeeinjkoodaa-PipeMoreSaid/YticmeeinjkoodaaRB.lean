/- Pipes: the least slack from a place, by the statements; the law PipePosted. -/
import Derived.Test.YticmeeinjkoodaaRA
namespace Go.Proofs.Yticmeeinjkoodaa
open Go.RowKit Go.Shelf

/-! ### A drawn statement that only calls and reads, whose values hang on what its calls answer -/
section
variable {γ : Type} {w0 w : World} {ops : Array Oper} {cv : γ → Tmp → Value} {done : Nat → Bool} {i : Nat} {g : γ} {o : Oper}
structure OnlyB (w0 : World) (done : Nat → Bool) (w : World) : Prop where
  b : Below w0.heap.size w0 w
abbrev AskS (w0 : World) (ops : Array Oper) (cv : γ → Tmp → Value) (done : Nat → Bool) (g : γ) (w : World) (i : Nat) (o : Oper) : Prop :=
  Region.wanted o (yieldedBy ops (cv g)) = true ∧ Yield Try.prog (fun v w' => ∃ g', OnlyB w0 (updB done i) w' ∧ (∀ d, o.dst = some d → cv g' d = v) ∧ ∀ t, o.dst ≠ some t → cv g' t = cv g t) ((execOp (evalBy (cv g)) o).run Try.prog w)
theorem stepS (h : OnlyB w0 done w) (g' : γ) (d : Tmp) (hd : o.dst = some d) (hg : Region.wanted o (yieldedBy ops (cv g)) = true) (he : (execOp (evalBy (cv g)) o).run Try.prog w = .ok (.value (cv g' d)) w) (hct : ∀ t, t ≠ d → cv g' t = cv g t) : AskS w0 ops cv done g w i o := by
  refine ⟨hg, ?_⟩
  rw [he]
  exact ⟨g', ⟨h.b⟩, fun e hE => by rw [hd] at hE; injection hE with hE; subst hE; rfl, fun t ht => hct t (fun e => ht (by rw [hd, e]))⟩
theorem quietS (h : OnlyB w0 done w) (d : Tmp) (hd : o.dst = some d) (hg : Region.wanted o (yieldedBy ops (cv g)) = true) (he : (execOp (evalBy (cv g)) o).run Try.prog w = .ok (.value (cv g d)) w) : AskS w0 ops cv done g w i o := stepS h g d hd hg he fun _ _ => rfl
theorem callS (h : OnlyB w0 done w) (d : Tmp) (hd : o.dst = some d) (hg : Region.wanted o (yieldedBy ops (cv g)) = true) (f : FuncId) (args : Array Value)
    (he : (execOp (evalBy (cv g)) o).run Try.prog w = .ok (.enter f args) w) (hc : Calls Try.prog f args w fun e w' => ∃ g', e = .returned (cv g' d) ∧ Below w.heap.size w w' ∧ ∀ t, t ≠ d → cv g' t = cv g t) : AskS w0 ops cv done g w i o := by
  refine ⟨hg, ?_⟩
  rw [he]
  show Calls Try.prog f args w _
  refine hc.mono ?_
  rintro e w' ⟨g', rfl, hb, hct⟩
  exact ⟨_, rfl, g', ⟨h.b.trans (hb.mono h.b.size)⟩, fun e hE => by rw [hd] at hE; injection hE with hE; subst hE; rfl, fun t ht => hct t (fun e => ht (by rw [hd, e]))⟩
end
/-! ### The most of some things, and the first that has it -/
theorem grL_range (f : Nat → Int) (hf : ∀ k, -1 ≤ f k) : ∀ n, -1 ≤ (grL f (List.range n)).2 ∧ (((grL f (List.range n)).2 = -1 ∧ (grL f (List.range n)).1 = 0) ∨ ((grL f (List.range n)).1 < n ∧ f (grL f (List.range n)).1 = (grL f (List.range n)).2)) ∧ (∀ k, k < n → f k ≤ (grL f (List.range n)).2) ∧ (∀ k, k < (grL f (List.range n)).1 → k < n → f k < (grL f (List.range n)).2)
  | 0 => ⟨(by show (-1 : Int) ≤ -1; omega), .inl ⟨rfl, rfl⟩, fun _ h => absurd h (Nat.not_lt_zero _), fun _ _ h => absurd h (Nat.not_lt_zero _)⟩
  | n + 1 => by
    obtain ⟨h1, h2, h3, h4⟩ := grL_range f hf n
    have e : grL f (List.range (n + 1)) = grF f (grL f (List.range n)) n := by
      unfold grL
      rw [List.range_succ, List.foldl_append]
      rfl
    rw [e]
    obtain ⟨a, ha⟩ : ∃ a, grL f (List.range n) = a := ⟨_, rfl⟩
    rw [ha] at h1 h2 h3 h4 ⊢
    unfold grF
    split
    · rename_i hlt
      refine ⟨hf n, .inr ⟨Nat.lt_succ_self n, rfl⟩, fun k hk => ?_, fun k hk _ => ?_⟩
      · rcases Nat.lt_succ_iff_lt_or_eq.1 hk with h | rfl
        · have := h3 k h
          simp only
          omega
        · exact Int.le_refl _
      · have := h3 k hk
        simp only
        omega
    · rename_i hlt
      refine ⟨h1, ?_, fun k hk => ?_, fun k hk hk2 => ?_⟩
      · rcases h2 with h | ⟨h, h'⟩
        · exact .inl h
        · exact .inr ⟨by omega, h'⟩
      · rcases Nat.lt_succ_iff_lt_or_eq.1 hk with h | rfl
        · exact h3 k h
        · omega
      · rcases Nat.lt_succ_iff_lt_or_eq.1 hk2 with h | rfl
        · exact h4 k hk h
        · rcases h2 with ⟨h, h'⟩ | ⟨h, h'⟩
          · omega
          · omega
theorem sof_le {N : Nt} {m place : Nat} : ∀ (fs : List Int) (x : Int), fs.foldl (fun a f => min a (slk N m f.toNat place 0)) x ≤ x ∧ ∀ f ∈ fs, fs.foldl (fun a f => min a (slk N m f.toNat place 0)) x ≤ slk N m f.toNat place 0
  | [], x => ⟨Int.le_refl _, fun _ h => absurd h (by simp)⟩
  | f :: fs, x => by
    obtain ⟨h1, h2⟩ := sof_le (N := N) (m := m) (place := place) fs (min x (slk N m f.toNat place 0))
    refine ⟨?_, fun y hy => ?_⟩
    · rw [List.foldl_cons]
      omega
    · rw [List.foldl_cons]
      rcases List.mem_cons.1 hy with rfl | hy
      · omega
      · exact h2 y hy
theorem order_known {N : Nt} {p : Int} {fs : List Int} (K : FsOk N p fs) {f : Int} (hf : f ∈ fs) : orderE N p f = (if slk N 0 f.toNat p.toNat 0 = -1 then 5 else 0) ∧ orderS N p f = (if slk N 0 f.toNat p.toNat 0 = -1 then 0 else slk N 0 f.toNat p.toNat 0) := by
  have h : faultsI N p [f] = 0 := faults_zero.2 ⟨by simp, K.ok, K.pl, fun g hg => by
    rw [List.mem_singleton] at hg
    rw [hg]
    exact K.fs f hf⟩
  unfold orderE orderS
  rw [if_pos h, if_pos h]
  exact ⟨rfl, rfl⟩
def leCv (nv : Value) (Z : Nat) (p : Int) (sv : Value) (k : Nat) (ad : Addr) (f S E : Int) (g : Value × Value × Value × Value) : Tmp → Value
  | 1 => .int .i64 p
  | 2 => sv
  | 3 => .pointer (some ⟨Z, 0, none⟩)
  | 9 => .int .i64 k
  | 23 => nv
  | 24 => .int .i64 p
  | 25 => sv
  | 26 => .int .i64 k
  | 27 => .pointer (some ad)
  | 28 => .int .i64 f
  | 29 => .tuple #[g.1, .int .i64 S, .int .i64 E]
  | 22 => .tuple #[g.2.1, .int .i64 S, .int .i64 E]
  | 30 => g.2.2.1
  | 31 => .int .i64 S
  | 32 => .int .i64 E
  | 10 => g.2.2.2
  | 11 => .int .i64 S
  | 12 => .int .i64 E
  | _ => default
theorem sof_m1 {N : Nt} {p : Int} {fs : List Int} (K : FsOk N p fs) {k : Nat} {t : Int} (ht : fs[k]? = some t) (h : slk N 0 t.toNat p.toNat 0 = -1) : sofI N 0 fs p.toNat = -1 := by
  have h1 := (sof_le (N := N) (m := 0) (place := p.toNat) fs N.fr.length).2 t (List.mem_of_getElem? ht)
  rw [h] at h1
  have h2 : sofI N 0 fs p.toNat ≤ -1 := h1
  have h3 := (sof_in K.ok 0 p.toNat fs).1
  omega
set_option maxRecDepth 100000 in
set_option maxHeartbeats 4000000 in
theorem rleast_any (V : NV) (N : Nt) (p : Int) (A : Option Addr) (n c : Nat) (fs : List Int) (w : World) (hN : NtAt w w.heap.size V N) (hl : fs.length = n) (hn : n ≤ maxLen) (hA : IntsAt w w.heap.size A fs) (hK : FsOk N p fs) :
    Calls Try.prog 48 #[nvV V, .int .i64 p, .slice A n c] w fun e w' => e = .returned (.tuple #[.int .i64 (sofI N 0 fs p.toNat), .bool true]) ∧ Below w.heap.size w w' := by
  have HA := Lib.hid (RowAt.up hA ((Below.refl w.heap.size w).alloc (Nat.le_refl _) (.cells (nvC V) 26))); have HL := Lib.hid hl; have HK := Lib.hid hK
  have z := heap_alloc_new w (.cells (nvC V) 26)
  have hb := (Below.refl w.heap.size w).alloc (Nat.le_refl _) (.cells (nvC V) 26)
  obtain ⟨w1, hw1⟩ : ∃ z, w.alloc (.cells (nvC V) 26) = z := ⟨_, rfl⟩
  rw [hw1] at z hb
  have HW := Lib.hid hw1
  have HN := Lib.hid (hN.up hb)
  obtain ⟨al, nl, cl, af, nf, cf, aw, nw, cw⟩ := V
  obtain ⟨v0, v1, v2⟩ := box3_cells z
  have hml := hN.ml; have hmf := hN.mf; have hmw := hN.mw
  unfold maxLen at hml hmf hmw
  simp only at hml hmf hmw v0 v1 v2
  have HB := Lib.hid hb; have Z := Lib.hid z
  have HNL := Lib.hid hN.nl; have HNF := Lib.hid hN.nf; have HNW := Lib.hid hN.nw
  clear z hb hw1 hN
  have HZ1 := Z; have HB1 := HB; have HN1 := HN
  clear Z HB HN
  have HA1 := HA
  clear HA
  unfold maxLen at hn
  clear hA hl hK
  rw [show w.alloc (.cells (nvC ⟨al, nl, cl, af, nf, cf, aw, nw, cw⟩) 26) = w1 from HW.out] at HA1
  go_enter Try.func48, Try.ntmps48
  go_wp2_with fail
  rw [show w.alloc (.cells #[.slice al nl cl, .slice af nf cf, .slice aw nw cw] 26) = w1 from HW.out]
  go_wp2_with fail
  go_loopw [8, 9, 10, 11, 12] (fun oo ii _ _ _ wr => ∃ k : Nat, k ≤ n ∧ oo = .int .i64 (sofI N 0 (fs.take k) p.toNat) ∧ ii = .int .i64 k ∧ Below w1.heap.size w1 wr) (fun _ ii _ _ _ _ => n - (intOf ii).toNat)
  case atStart => exact ⟨0, by omega, by rw [List.take_zero]; show _ = Value.int .i64 ((N.fr.length : Nat) : Int); rw [HNF.out], rfl, Below.refl _ _⟩
  case round =>
    obtain ⟨k, hk, rfl, rfl, hbr⟩ := hrel
    have HBR := Lib.hid hbr
    by_cases hlt : k < n
    · have k3 : (0 : Int) ≤ (k : Int) := by omega
      have k4 : (k : Int) < (n : Int) := by omega
      obtain ⟨t, ht⟩ := get_of_lt (l := fs) (k := k) (by rw [HL.out]; exact hlt)
      obtain ⟨b2, o2, rfl, hb2, t0⟩ := ints_el (RowAt.up HA1.out hbr) ht
      have HT := Lib.hid ht
      obtain ⟨hE, hS⟩ := order_known HK.out (List.mem_of_getElem? ht)
      have HS0 : Hid (∀ u : World, Below wr.heap.size wr u → u.cell? ⟨b2, o2 + k, none⟩ = some (.int .i64 t)) := Lib.hid fun u hu => ((bcell hu).1 _ _ hb2).trans t0
      have HF : Hid (∀ u : World, Below wr.heap.size wr u → u.cell? ⟨w.heap.size, 0, none⟩ = some (.slice al nl cl) ∧ u.cell? ⟨w.heap.size, 1, none⟩ = some (.slice af nf cf) ∧ u.cell? ⟨w.heap.size, 2, none⟩ = some (.slice aw nw cw)) := Lib.hid fun u hu => box3_cells (((hbr.trans (hu.mono hbr.size)).block _ (heapsz HZ1.out)).trans HZ1.out)
      have HNR := Lib.hid (fun (u : World) (hu : Below wr.heap.size wr u) => Order_any ⟨al, nl, cl, af, nf, cf, aw, nw, cw⟩ N p t u (HN1.out.next (hbr.trans (hu.mono hbr.size)) (by have := hbr.size; have := hu.size; omega)))
      obtain ⟨E, hEE⟩ : ∃ z, orderE N p t = z := ⟨_, rfl⟩
      obtain ⟨S, hSS⟩ : ∃ z, orderS N p t = z := ⟨_, rfl⟩
      rw [hEE, hSS] at HNR
      rw [hEE] at hE
      rw [hSS] at hS
      obtain ⟨s, hs⟩ : ∃ z, slk N 0 t.toNat p.toNat 0 = z := ⟨_, rfl⟩
      have hsg := slk_ge N 0 t.toNat p.toNat 0
      rw [hs] at hE hS hsg
      have HSL := Lib.hid hs; have HE := Lib.hid hE; have HSV := Lib.hid hS
      have HTK := Lib.hid (sof_take (N := N) (m := 0) (place := p.toNat) ht)
      obtain ⟨O, hO⟩ : ∃ z, sofI N 0 (fs.take k) p.toNat = z := ⟨_, rfl⟩
      rw [hO, hs] at HTK
      rw [hO]
      clear ht t0 hb2 hEE hSS hs hE hS hO v0 v1 v2
      go_wp2_with fail
      refine wp_region_any (by kernel_rfl) (plan_guarded_any (γ := Value × Value × Value × Value) [1, 2, 3, 9] (leCv (nvV ⟨al, nl, cl, af, nf, cf, aw, nw, cw⟩) w.heap.size p (.slice (some ⟨b2, o2, none⟩) n c) k ⟨b2, o2 + k, none⟩ t S E) (fun done _ u => OnlyB wr done u) (.int .i64 0, .int .i64 0, .int .i64 0, .int .i64 0) (by kernel_rfl) (by kernel_rfl) (by kernel_rfl) (by kernel_rfl) ?_ ?_ ?_ ?_)
      · intro t ht
        simp only [List.mem_cons, List.not_mem_nil, or_false] at ht
        rcases ht with rfl | rfl | rfl | rfl <;> rfl
      · exact ⟨(Below.refl wr.heap.size wr).drew⟩
      · refine allOps_array ?_
        refine ⟨?_, ?_, ?_, ?_, ?_, ?_, ?_, ?_, ?_, ?_, ?_, ?_, ?_, ?_, trivial⟩
        · intro done q u hS hu hdep _
          obtain ⟨p0, p1, p2⟩ := HF.out u hS.b
          have s0 := HS0.out u hS.b
          refine quietS hS 23 rfl rfl ?_
          simp [go_sem, evalBy, leCv, p0, p1, p2]
        · intro done q u hS hu hdep _
          obtain ⟨p0, p1, p2⟩ := HF.out u hS.b
          have s0 := HS0.out u hS.b
          refine quietS hS 24 rfl rfl ?_
          simp [go_sem, evalBy, leCv]
        · intro done q u hS hu hdep _
          obtain ⟨p0, p1, p2⟩ := HF.out u hS.b
          have s0 := HS0.out u hS.b
          refine quietS hS 25 rfl rfl ?_
          simp [go_sem, evalBy, leCv]
        · intro done q u hS hu hdep _
          obtain ⟨p0, p1, p2⟩ := HF.out u hS.b
          have s0 := HS0.out u hS.b
          refine quietS hS 26 rfl rfl ?_
          simp [go_sem, evalBy, leCv]
        · intro done q u hS hu hdep _
          obtain ⟨p0, p1, p2⟩ := HF.out u hS.b
          have s0 := HS0.out u hS.b
          refine quietS hS 27 rfl rfl ?_
          simp [go_sem, evalBy, leCv, k3, k4]
        · intro done q u hS hu hdep _
          obtain ⟨p0, p1, p2⟩ := HF.out u hS.b
          have s0 := HS0.out u hS.b
          refine quietS hS 28 rfl rfl ?_
          simp [go_sem, evalBy, leCv, s0]
        · intro done q u hS hu hdep _
          refine callS hS 29 rfl rfl 34 #[nvV ⟨al, nl, cl, af, nf, cf, aw, nw, cw⟩, .int .i64 p, .int .i64 t] (by simp [go_sem, evalBy, leCv]) ((HNR.out u hS.b).mono ?_)
          rintro e w' ⟨v, rfl, hb, _⟩
          exact ⟨(v, q.2), rfl, hb, fun t ht => by unfold leCv; split <;> first | rfl | exact absurd rfl ht⟩
        · intro done q u hS hu hdep _
          exact stepS hS (q.1, q.1, q.2.2) 22 rfl rfl (by simp [go_sem, evalBy, leCv]) (fun t ht => by unfold leCv; split <;> first | rfl | exact absurd rfl ht)
        · intro done q u hS hu hdep _
          exact stepS hS (q.1, q.2.1, q.2.1, q.2.2.2) 30 rfl rfl (by simp [go_sem, evalBy, leCv]) (fun t ht => by unfold leCv; split <;> first | rfl | exact absurd rfl ht)
        · intro done q u hS hu hdep _
          obtain ⟨p0, p1, p2⟩ := HF.out u hS.b
          have s0 := HS0.out u hS.b
          refine quietS hS 31 rfl rfl ?_
          simp [go_sem, evalBy, leCv]
        · intro done q u hS hu hdep _
          obtain ⟨p0, p1, p2⟩ := HF.out u hS.b
          have s0 := HS0.out u hS.b
          refine quietS hS 32 rfl rfl ?_
          simp [go_sem, evalBy, leCv]
        · intro done q u hS hu hdep _
          exact stepS hS (q.1, q.2.1, q.2.2.1, q.2.2.1) 10 rfl rfl (by simp [go_sem, evalBy, leCv]) (fun t ht => by unfold leCv; split <;> first | rfl | exact absurd rfl ht)
        · intro done q u hS hu hdep _
          obtain ⟨p0, p1, p2⟩ := HF.out u hS.b
          have s0 := HS0.out u hS.b
          refine quietS hS 11 rfl rfl ?_
          simp [go_sem, evalBy, leCv]
        · intro done q u hS hu hdep _
          obtain ⟨p0, p1, p2⟩ := HF.out u hS.b
          have s0 := HS0.out u hS.b
          refine quietS hS 12 rfl rfl ?_
          simp [go_sem, evalBy, leCv]
      · intro q wz hbz
        have HBZ := Lib.hid (HBR.out.trans (hbz.b.mono HBR.out.size))
        clear hbz hbr
        simp [putAll, Act.put, leCv]
        by_cases h1 : s = -1
        · have h5 : E = 5 := by rw [HE.out, if_pos h1]
          subst h5
          go_wp2_with fail
          exact bodyPost_ret (v := .tuple #[.int .i64 (-1), .bool true]) (by simp [results, Try.results48, go_sem]) rfl ⟨by rw [sof_m1 HK.out HT.out (by rw [HSL.out, h1])], HB1.out.trans (HBZ.out.mono HB1.out.size)⟩
        · have h5 : E = 0 := by rw [HE.out, if_neg h1]
          have h6 : S = s := by rw [HSV.out, if_neg h1]
          subst h5 h6
          have h7 : ¬ S < 0 := by omega
          have HTK2 : Hid (min O S = sofI N 0 (fs.take (k + 1)) p.toNat) := Lib.hid HTK.out.symm
          go_wp2_with fail
          exact ⟨⟨k + 1, by omega, (by rw [← HTK2.out]; simp [Int.min_def]; split <;> split <;> omega), rfl, HBZ.out⟩, by simp [intOf]; omega⟩
    · obtain rfl : n = k := by omega
      have k4 : ¬ (n : Int) < (n : Int) := by omega
      have HTA : Hid (sofI N 0 (fs.take n) p.toNat = sofI N 0 fs p.toNat) := Lib.hid (by rw [← HL.out, List.take_length])
      go_wp2_with fail
      exact bodyPost_ret (v := .tuple #[.int .i64 (sofI N 0 (fs.take n) p.toNat), .bool true]) (by simp [results, Try.results48, go_sem]) rfl ⟨by rw [HTA.out], HB1.out.trans (HBR.out.mono HB1.out.size)⟩
end Go.Proofs.Yticmeeinjkoodaa
