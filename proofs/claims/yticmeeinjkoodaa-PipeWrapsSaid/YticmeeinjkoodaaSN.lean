/- Pipes: the best wrapping, by the specification. -/
import Derived.Test.YticmeeinjkoodaaSK
import Derived.Test.YticmeeinjkoodaaRP
namespace Go.Proofs.Yticmeeinjkoodaa
open Go.RowKit Go.Shelf

/-- A drawn statement that wraps a net (operation 14). -/
structure SW (w0 : World) (N : Nt) (k : Nat) (sk : Bool) (done : Nat → Bool) (g : Value) (w : World) : Prop where
  b : Below w0.heap.size w0 w
  x : sk = false → done 14 = true → ∃ V', g = nvV V' ∧ NtAt w w.heap.size V' (N.wrap k)
section
variable {w0 w : World} {N : Nt} {k : Nat} {sk : Bool} {ops : Array Oper} {cv : Value → Tmp → Value} {done : Nat → Bool} {i : Nat} {g : Value} {o : Oper}
abbrev AskZ (w0 : World) (N : Nt) (k : Nat) (sk : Bool) (ops : Array Oper) (cv : Value → Tmp → Value) (done : Nat → Bool) (g : Value) (w : World) (i : Nat) (o : Oper) : Prop :=
  (Region.wanted o (yieldedBy ops (cv g)) = true ∧ Yield Try.prog (fun v w' => ∃ g', SW w0 N k sk (updB done i) g' w' ∧ (∀ d, o.dst = some d → cv g' d = v) ∧ ∀ t, o.dst ≠ some t → cv g' t = cv g t) ((execOp (evalBy (cv g)) o).run Try.prog w)) ∨
    (Region.wanted o (yieldedBy ops (cv g)) = false ∧ SW w0 N k sk (updB done i) g w ∧ ∀ d, o.dst = some d → cv g d = undef)
theorem SW.step (h : SW w0 N k sk done g w) {w' : World} (hb : Below w.heap.size w w') (hi : i ≠ 14) : SW w0 N k sk (updB done i) g w' :=
  ⟨h.b.trans (hb.mono h.b.size), fun hk hd => by
    rw [upd_ne hi] at hd
    obtain ⟨V', h1, h2⟩ := h.x hk hd
    exact ⟨V', h1, h2.up hb⟩⟩
theorem quietZ (h : SW w0 N k sk done g w) (d : Tmp) (hd : o.dst = some d) (hi : i ≠ 14) (hg : Region.wanted o (yieldedBy ops (cv g)) = true) (he : (execOp (evalBy (cv g)) o).run Try.prog w = .ok (.value (cv g d)) w) : AskZ w0 N k sk ops cv done g w i o := by
  refine .inl ⟨hg, ?_⟩
  rw [he]
  exact ⟨g, h.step (Below.refl _ _) hi, fun e hE => by rw [hd] at hE; injection hE with hE; subst hE; rfl, fun _ _ => rfl⟩
theorem skipZ (h : SW w0 N k sk done g w) (d : Tmp) (hd : o.dst = some d) (hi : i ≠ 14 ∨ sk = true) (hg : Region.wanted o (yieldedBy ops (cv g)) = false) (hu : cv g d = undef) : AskZ w0 N k sk ops cv done g w i o := by
  refine .inr ⟨hg, ?_, fun e hE => by rw [hd] at hE; injection hE with hE; subst hE; exact hu⟩
  rcases hi with hi | hi
  · exact h.step (Below.refl _ _) hi
  · exact ⟨h.b, fun hk => by rw [hi] at hk; cases hk⟩
theorem callZ (h : SW w0 N k sk done g w) (d : Tmp) (hd : o.dst = some d) (hi : i ≠ 14) (hg : Region.wanted o (yieldedBy ops (cv g)) = true) (f : FuncId) (args : Array Value)
    (he : (execOp (evalBy (cv g)) o).run Try.prog w = .ok (.enter f args) w) (hc : Calls Try.prog f args w fun e w' => e = .returned (cv g d) ∧ Below w.heap.size w w') : AskZ w0 N k sk ops cv done g w i o := by
  refine .inl ⟨hg, ?_⟩
  rw [he]
  show Calls Try.prog f args w _
  refine hc.mono ?_
  rintro e w' ⟨rfl, hb⟩
  exact ⟨_, rfl, g, h.step hb hi, fun e hE => by rw [hd] at hE; injection hE with hE; subst hE; rfl, fun _ _ => rfl⟩
theorem wrapZ (h : SW w0 N k sk done g w) (d : Tmp) (hd : o.dst = some d) (hg : Region.wanted o (yieldedBy ops (cv g)) = true) (f : FuncId) (args : Array Value)
    (hcd : ∀ g', cv g' d = g') (hct : ∀ g' t, t ≠ d → cv g' t = cv g t)
    (he : (execOp (evalBy (cv g)) o).run Try.prog w = .ok (.enter f args) w) (hc : Calls Try.prog f args w fun e w' => ∃ V', e = .returned (nvV V') ∧ Below w.heap.size w w' ∧ NtAt w' w'.heap.size V' (N.wrap k) ∧ True) : AskZ w0 N k sk ops cv done g w 14 o := by
  refine .inl ⟨hg, ?_⟩
  rw [he]
  show Calls Try.prog f args w _
  refine hc.mono ?_
  rintro e w' ⟨V', rfl, hb, hn, _⟩
  exact ⟨_, rfl, nvV V', ⟨h.b.trans (hb.mono h.b.size), fun _ _ => ⟨V', rfl, hn⟩⟩, fun e hE => by rw [hd] at hE; injection hE with hE; subst hE; exact hcd _, fun t ht => hct _ t (fun e => ht (by rw [hd, e]))⟩
end
def uV (b : Bool) (v : Value) : Value := if b then v else undef
def wzCv (nv : Value) (Z : Nat) (p : Int) (sl : Value) (B : Int) (k : Nat) (c1 c2 wk : Int) (b0 b1 b2 b3 : Bool) (g : Value) : Tmp → Value
  | 1 => .int .i64 p
  | 2 => sl
  | 3 => .pointer (some ⟨Z, 0, none⟩)
  | 7 => .int .i64 B
  | 8 => .int .i64 k
  | 15 => .int .i64 B
  | 16 => .bool b0
  | 17 => .bool b0
  | 18 => uV (!b0) nv
  | 19 => uV (!b0) (.int .i64 k)
  | 20 => uV (!b0) (.int .i64 c1)
  | 21 => uV (!b0) nv
  | 22 => uV (!b0) (.int .i64 B)
  | 23 => uV (!b0) (.int .i64 c2)
  | 24 => uV (!b0) (.bool b1)
  | 25 => .bool b2
  | 26 => .bool b2
  | 27 => uV b2 nv
  | 28 => uV b2 (.int .i64 k)
  | 29 => uV b2 g
  | 30 => uV b2 (.int .i64 p)
  | 31 => uV b2 sl
  | 32 => uV b2 (.int .i64 wk)
  | 33 => uV b2 (.bool b3)
  | 34 => .bool (b2 && b3)
  | _ => default
theorem wrapI_succ (N : Nt) (p : Nat) (fs : List Int) (k : Nat) : wrapI N p fs (k + 1) = wrapF N p fs (wrapI N p fs k) k := by
  unfold wrapI
  rw [List.range_succ, List.foldl_append]
  rfl
theorem FsOk.wrap {N : Nt} {p : Int} {fs : List Int} (K : FsOk N p fs) (m : Nat) : FsOk (N.wrap m) p fs := by
  have e : (N.wrap m).lo.length = N.lo.length := wrL_len _ _
  exact ⟨K.len, wrap_ok K.ok m, by rw [e]; exact K.pl, by rw [e]; exact K.fs⟩
set_option maxRecDepth 100000 in
set_option maxHeartbeats 16000000 in
theorem rwrap_any (V : NV) (N : Nt) {a : Nat} (A : Option Addr) (n c : Nat) (fs : List Int) (w : World) (hN : NtAt w w.heap.size V N) (hl : fs.length = n) (hn : n ≤ maxLen) (hA : IntsAt w w.heap.size A fs) (hK : FsOk N a fs) :
    Calls Try.prog 50 #[nvV V, .int .i64 a, .slice A n c] w fun e w' => e = .returned (.int .i64 (if (wrapI N a fs (2 ^ N.lo.length)).2.2 then ((wrapI N a fs (2 ^ N.lo.length)).1 : Int) else -1)) ∧ Below w.heap.size w w' := by
  have HA := Lib.hid (RowAt.up hA ((Below.refl w.heap.size w).alloc (Nat.le_refl _) (.cells (nvC V) 26))); have HL := Lib.hid hl; have HK := Lib.hid hK; have HNN := Lib.hid hn
  have z := heap_alloc_new w (.cells (nvC V) 26)
  have hb := (Below.refl w.heap.size w).alloc (Nat.le_refl _) (.cells (nvC V) 26)
  obtain ⟨w1, hw1⟩ : ∃ z, w.alloc (.cells (nvC V) 26) = z := ⟨_, rfl⟩
  rw [hw1] at z hb
  have HW := Lib.hid hw1
  have HN := Lib.hid (hN.up hb)
  obtain ⟨al, nl, cl, af, nf, cf, aw, nw, cw⟩ := V
  obtain ⟨v0, v1, v2⟩ := box3_cells z
  have hml := hN.ml; have hmf := hN.mf; have hmw := hN.mw
  unfold maxLen at hml hmf hmw
  simp only at hml hmf hmw v0 v1 v2
  have HB := Lib.hid hb; have Z := Lib.hid z
  have HNL := Lib.hid hN.nl; have HNF := Lib.hid hN.nf; have HNW := Lib.hid hN.nw
  clear z hb hw1 hN
  have HZ1 := Z; have HB1 := HB; have HN1 := HN
  clear Z HB HN
  have HA1 := HA
  clear HA
  clear hA hl hK hn
  rw [show w.alloc (.cells (nvC ⟨al, nl, cl, af, nf, cf, aw, nw, cw⟩) 26) = w1 from HW.out] at HA1
  have HP2 : Hid (2 ^ N.lo.length ≤ 32) := Lib.hid (Nat.pow_le_pow_right (show 0 < 2 by decide) HK.out.ok.n5.2)
  obtain ⟨M, hM⟩ : ∃ M, 2 ^ N.lo.length = M := ⟨_, rfl⟩
  have HMM := Lib.hid hM
  have hM32 : M ≤ 32 := by rw [← hM]; exact HP2.out
  obtain ⟨X, hX⟩ : ∃ z, wrapI N a fs M = z := ⟨_, rfl⟩
  have HX := Lib.hid hX
  rw [hM, hX]
  clear hM hX
  have HSET : Hid (∀ u : World, Below w1.heap.size w1 u → Calls Try.prog 73 #[nvV ⟨al, nl, cl, af, nf, cf, aw, nw, cw⟩] u fun e w' => e = .returned (.int .i64 M) ∧ Below u.heap.size u w') := Lib.hid fun u hu => by
    have h := rsets_any _ N u (HN1.out.next hu hu.size) HK.out.ok.n5.2
    rwa [show ((2 : Int) ^ N.lo.length) = ((M : Nat) : Int) by rw [← HMM.out]; simp] at h
  go_enter Try.func50, Try.ntmps50
  go_wp2_with fail
  rw [show w.alloc (.cells #[.slice al nl cl, .slice af nf cf, .slice aw nw cw] 26) = w1 from HW.out]
  go_loopw [7, 8] (fun bb kk wr => ∃ (k x : Nat) (y : Int) (f : Bool), k ≤ M ∧ kk = .int .i64 k ∧ wrapI N a fs k = (x, y, f) ∧ ((f = false ∧ bb = .int .i64 (-1)) ∨ (f = true ∧ bb = .int .i64 x)) ∧ Below w1.heap.size w1 wr) (fun _ kk _ => M - (intOf kk).toNat)
  case atStart => exact ⟨0, 0, 0, false, by omega, rfl, rfl, .inl ⟨rfl, rfl⟩, Below.refl _ _⟩
  case round =>
    obtain ⟨k, x, y, f, hk, rfl, hg, hbm, hbr⟩ := hrel
    have HBR := Lib.hid hbr; have HG := Lib.hid hg
    have t0 := ((bcell hbr).1 _ _ (heapsz HZ1.out)).trans v0
    have t1 := ((bcell hbr).1 _ _ (heapsz HZ1.out)).trans v1
    have t2 := ((bcell hbr).1 _ _ (heapsz HZ1.out)).trans v2
    have hwl := (wrap_least N a fs k).1
    rw [hg] at hwl
    have HWL := Lib.hid hwl
    clear hg v0 v1 v2 hbr hwl
    go_wp2_with fail
    refine (HSET.out wr HBR.out).mono ?_
    rintro e w2 ⟨rfl, hb2⟩
    have HB2 := Lib.hid (HBR.out.trans (hb2.mono HBR.out.size))
    clear hb2 t0 t1 t2
    by_cases hlt : k < M
    · have k4 : (k : Int) < (M : Int) := by omega
      have hk32 : k < 32 := by omega
      have HGS := Lib.hid (wrapI_succ N a fs k)
      rw [HG.out] at HGS
      have HCU : Hid (∀ u : World, Below w2.heap.size w2 u → u.cell? ⟨w.heap.size, 0, none⟩ = some (.slice al nl cl) ∧ u.cell? ⟨w.heap.size, 1, none⟩ = some (.slice af nf cf) ∧ u.cell? ⟨w.heap.size, 2, none⟩ = some (.slice aw nw cw)) := Lib.hid fun u hu => box3_cells (((HB2.out.trans (hu.mono HB2.out.size)).block _ (heapsz HZ1.out)).trans HZ1.out)
      have HNU : Hid (∀ u : World, Below w2.heap.size w2 u → NtAt u u.heap.size ⟨al, nl, cl, af, nf, cf, aw, nw, cw⟩ N) := Lib.hid fun u hu => HN1.out.next (HB2.out.trans (hu.mono HB2.out.size)) (HB2.out.trans (hu.mono HB2.out.size)).size
      have HAU : Hid (∀ u : World, Below w2.heap.size w2 u → IntsAt u u.heap.size A fs) := Lib.hid fun u hu => RowAt.next HA1.out (HB2.out.trans (hu.mono HB2.out.size)) (HB2.out.trans (hu.mono HB2.out.size)).size
      obtain ⟨c1, hc1⟩ : ∃ z, costK N k N.lo.length = z := ⟨_, rfl⟩
      have HC1 := Lib.hid hc1
      obtain ⟨wk, hwk⟩ : ∃ z, weakI N k a fs = z := ⟨_, rfl⟩
      have HWK := Lib.hid hwk
      have HCC : Hid (∀ u : World, Below w2.heap.size w2 u → Calls Try.prog 51 #[nvV ⟨al, nl, cl, af, nf, cf, aw, nw, cw⟩, .int .i64 k] u fun e w' => e = .returned (.int .i64 c1) ∧ Below u.heap.size u w') := Lib.hid fun u hu => by
        have h := rcost_any _ N hk32 u (HNU.out u hu) HK.out.ok
        rwa [hc1] at h
      have HWC : Hid (∀ u : World, Below w2.heap.size w2 u → Calls Try.prog 52 #[nvV ⟨al, nl, cl, af, nf, cf, aw, nw, cw⟩, .int .i64 k] u fun e w' => ∃ V', e = .returned (nvV V') ∧ Below u.heap.size u w' ∧ NtAt w' w'.heap.size V' (N.wrap k) ∧ True) := Lib.hid fun u hu =>
        (wrapped_any _ N hk32 u (HNU.out u hu) HK.out.ok).mono fun e w' ⟨V', h1, h2, h3, _⟩ => ⟨V', h1, h2, h3, trivial⟩
      have HEC : Hid (∀ (u : World) (V' : NV), Below w2.heap.size w2 u → NtAt u u.heap.size V' (N.wrap k) → Calls Try.prog 46 #[nvV V', .int .i64 a, .slice A n c] u fun e w' => e = .returned (.int .i64 wk) ∧ Below u.heap.size u w') := Lib.hid fun u V' hu hn' => by
        have h := rweak_any V' (N.wrap k) (a := a) A n c fs u hn' HL.out HNN.out (HAU.out u hu) (HK.out.wrap k)
        rwa [show weakI (N.wrap k) 0 a fs = wk by rw [← hwk]; exact weak_wrap fs 0 HK.out.fs] at h
      clear hc1 hwk
      rcases hbm with ⟨rfl, rfl⟩ | ⟨rfl, rfl⟩
      · have HST : Hid (wrapI N a fs (k + 1) = if wk < 0 then (k, c1, true) else (x, y, false)) := Lib.hid (by rw [HGS.out]; unfold wrapF; rw [HC1.out, HWK.out]; by_cases h : wk < 0 <;> simp [h])
        by_cases hw0 : wk < 0
        · rw [if_pos hw0] at HST
          go_wp2_with fail
          refine wp_region_any (by kernel_rfl) (plan_skip_any (γ := Value) [1, 2, 3, 7, 8] (wzCv (nvV ⟨al, nl, cl, af, nf, cf, aw, nw, cw⟩) w.heap.size a (.slice A n c) (-1) k c1 0 wk true false true true) (SW w2 N k false) (.int .i64 0) (by kernel_rfl) (by kernel_rfl) (by kernel_rfl) (by kernel_rfl) ?_ ?_ ?_ ?_)
          · intro t ht
            simp only [List.mem_cons, List.not_mem_nil, or_false] at ht
            rcases ht with rfl | rfl | rfl | rfl | rfl <;> rfl
          · exact ⟨(Below.refl w2.heap.size w2).drew, fun _ h => by cases h⟩
          · refine allOps_array ?_
            refine ⟨?_, ?_, ?_, ?_, ?_, ?_, ?_, ?_, ?_, ?_, ?_, ?_, ?_, ?_, ?_, ?_, ?_, ?_, ?_, ?_, trivial⟩
            · intro done q u hS hu hdep _
              refine quietZ hS 15 rfl (by decide) rfl ?_
              simp [go_sem, evalBy, wzCv]
            · intro done q u hS hu hdep _
              refine quietZ hS 16 rfl (by decide) rfl ?_
              simp [go_sem, evalBy, wzCv]
            · intro done q u hS hu hdep _
              refine quietZ hS 17 rfl (by decide) rfl ?_
              simp [go_sem, evalBy, wzCv]
            · intro done q u hS hu hdep _
              exact skipZ hS 18 rfl (.inl (by decide)) rfl rfl
            · intro done q u hS hu hdep _
              exact skipZ hS 19 rfl (.inl (by decide)) rfl rfl
            · intro done q u hS hu hdep _
              exact skipZ hS 20 rfl (.inl (by decide)) rfl rfl
            · intro done q u hS hu hdep _
              exact skipZ hS 21 rfl (.inl (by decide)) rfl rfl
            · intro done q u hS hu hdep _
              exact skipZ hS 22 rfl (.inl (by decide)) rfl rfl
            · intro done q u hS hu hdep _
              exact skipZ hS 23 rfl (.inl (by decide)) rfl rfl
            · intro done q u hS hu hdep _
              exact skipZ hS 24 rfl (.inl (by decide)) rfl rfl
            · intro done q u hS hu hdep _
              refine quietZ hS 25 rfl (by decide) rfl ?_
              simp [go_sem, evalBy, wzCv, uV]
            · intro done q u hS hu hdep _
              refine quietZ hS 26 rfl (by decide) rfl ?_
              simp [go_sem, evalBy, wzCv]
            · intro done q u hS hu hdep _
              obtain ⟨p0, p1, p2⟩ := HCU.out u hS.b
              refine quietZ hS 27 rfl (by decide) rfl ?_
              simp [go_sem, evalBy, wzCv, uV, p0, p1, p2]
            · intro done q u hS hu hdep _
              refine quietZ hS 28 rfl (by decide) rfl ?_
              simp [go_sem, evalBy, wzCv, uV]
            · intro done q u hS hu hdep _
              exact wrapZ hS 29 rfl rfl 52 #[nvV ⟨al, nl, cl, af, nf, cf, aw, nw, cw⟩, .int .i64 k] (fun _ => rfl) (fun g' t ht => by unfold wzCv; split <;> first | rfl | exact absurd rfl ht) (by simp [go_sem, evalBy, wzCv, uV]) (HWC.out u hS.b)
            · intro done q u hS hu hdep _
              refine quietZ hS 30 rfl (by decide) rfl ?_
              simp [go_sem, evalBy, wzCv, uV]
            · intro done q u hS hu hdep _
              refine quietZ hS 31 rfl (by decide) rfl ?_
              simp [go_sem, evalBy, wzCv, uV]
            · intro done q u hS hu hdep _
              obtain ⟨V', rfl, hn'⟩ := hS.x rfl (hdep ⟨14, .data⟩ (by simp) rfl)
              exact callZ hS 32 rfl (by decide) rfl 46 #[nvV V', .int .i64 a, .slice A n c] (by simp [go_sem, evalBy, wzCv, uV]) (HEC.out u V' hS.b hn')
            · intro done q u hS hu hdep _
              refine quietZ hS 33 rfl (by decide) rfl ?_
              simp [go_sem, evalBy, wzCv, uV, hw0]
            · intro done q u hS hu hdep _
              refine quietZ hS 34 rfl (by decide) rfl ?_
              simp [go_sem, evalBy, wzCv, uV]
          · intro q wz hS
            have HBZ := Lib.hid (HB2.out.trans (hS.b.mono HB2.out.size))
            clear hS
            simp [putAll, Act.put, wzCv, uV]
            go_wp2_with fail
            exact ⟨⟨k + 1, k, c1, true, by omega, rfl, HST.out, .inr ⟨rfl, rfl⟩, HBZ.out⟩, by simp [intOf]; omega⟩
        · rw [if_neg hw0] at HST
          go_wp2_with fail
          refine wp_region_any (by kernel_rfl) (plan_skip_any (γ := Value) [1, 2, 3, 7, 8] (wzCv (nvV ⟨al, nl, cl, af, nf, cf, aw, nw, cw⟩) w.heap.size a (.slice A n c) (-1) k c1 0 wk true false true false) (SW w2 N k false) (.int .i64 0) (by kernel_rfl) (by kernel_rfl) (by kernel_rfl) (by kernel_rfl) ?_ ?_ ?_ ?_)
          · intro t ht
            simp only [List.mem_cons, List.not_mem_nil, or_false] at ht
            rcases ht with rfl | rfl | rfl | rfl | rfl <;> rfl
          · exact ⟨(Below.refl w2.heap.size w2).drew, fun _ h => by cases h⟩
          · refine allOps_array ?_
            refine ⟨?_, ?_, ?_, ?_, ?_, ?_, ?_, ?_, ?_, ?_, ?_, ?_, ?_, ?_, ?_, ?_, ?_, ?_, ?_, ?_, trivial⟩
            · intro done q u hS hu hdep _
              refine quietZ hS 15 rfl (by decide) rfl ?_
              simp [go_sem, evalBy, wzCv]
            · intro done q u hS hu hdep _
              refine quietZ hS 16 rfl (by decide) rfl ?_
              simp [go_sem, evalBy, wzCv]
            · intro done q u hS hu hdep _
              refine quietZ hS 17 rfl (by decide) rfl ?_
              simp [go_sem, evalBy, wzCv]
            · intro done q u hS hu hdep _
              exact skipZ hS 18 rfl (.inl (by decide)) rfl rfl
            · intro done q u hS hu hdep _
              exact skipZ hS 19 rfl (.inl (by decide)) rfl rfl
            · intro done q u hS hu hdep _
              exact skipZ hS 20 rfl (.inl (by decide)) rfl rfl
            · intro done q u hS hu hdep _
              exact skipZ hS 21 rfl (.inl (by decide)) rfl rfl
            · intro done q u hS hu hdep _
              exact skipZ hS 22 rfl (.inl (by decide)) rfl rfl
            · intro done q u hS hu hdep _
              exact skipZ hS 23 rfl (.inl (by decide)) rfl rfl
            · intro done q u hS hu hdep _
              exact skipZ hS 24 rfl (.inl (by decide)) rfl rfl
            · intro done q u hS hu hdep _
              refine quietZ hS 25 rfl (by decide) rfl ?_
              simp [go_sem, evalBy, wzCv, uV]
            · intro done q u hS hu hdep _
              refine quietZ hS 26 rfl (by decide) rfl ?_
              simp [go_sem, evalBy, wzCv]
            · intro done q u hS hu hdep _
              obtain ⟨p0, p1, p2⟩ := HCU.out u hS.b
              refine quietZ hS 27 rfl (by decide) rfl ?_
              simp [go_sem, evalBy, wzCv, uV, p0, p1, p2]
            · intro done q u hS hu hdep _
              refine quietZ hS 28 rfl (by decide) rfl ?_
              simp [go_sem, evalBy, wzCv, uV]
            · intro done q u hS hu hdep _
              exact wrapZ hS 29 rfl rfl 52 #[nvV ⟨al, nl, cl, af, nf, cf, aw, nw, cw⟩, .int .i64 k] (fun _ => rfl) (fun g' t ht => by unfold wzCv; split <;> first | rfl | exact absurd rfl ht) (by simp [go_sem, evalBy, wzCv, uV]) (HWC.out u hS.b)
            · intro done q u hS hu hdep _
              refine quietZ hS 30 rfl (by decide) rfl ?_
              simp [go_sem, evalBy, wzCv, uV]
            · intro done q u hS hu hdep _
              refine quietZ hS 31 rfl (by decide) rfl ?_
              simp [go_sem, evalBy, wzCv, uV]
            · intro done q u hS hu hdep _
              obtain ⟨V', rfl, hn'⟩ := hS.x rfl (hdep ⟨14, .data⟩ (by simp) rfl)
              exact callZ hS 32 rfl (by decide) rfl 46 #[nvV V', .int .i64 a, .slice A n c] (by simp [go_sem, evalBy, wzCv, uV]) (HEC.out u V' hS.b hn')
            · intro done q u hS hu hdep _
              refine quietZ hS 33 rfl (by decide) rfl ?_
              simp [go_sem, evalBy, wzCv, uV, hw0]
            · intro done q u hS hu hdep _
              refine quietZ hS 34 rfl (by decide) rfl ?_
              simp [go_sem, evalBy, wzCv, uV]
          · intro q wz hS
            have HBZ := Lib.hid (HB2.out.trans (hS.b.mono HB2.out.size))
            clear hS
            simp [putAll, Act.put, wzCv, uV]
            go_wp2_with fail
            exact ⟨⟨k + 1, x, y, false, by omega, rfl, HST.out, .inl ⟨rfl, rfl⟩, HBZ.out⟩, by simp [intOf]; omega⟩
      · have hxk := (HWL.out rfl).1
        have hx32 : x < 32 := by omega
        have hyc : y = costK N x N.lo.length := (HWL.out rfl).2.2.1
        have hxn : ¬ (x : Int) < 0 := by omega
        have HCX : Hid (∀ u : World, Below w2.heap.size w2 u → Calls Try.prog 51 #[nvV ⟨al, nl, cl, af, nf, cf, aw, nw, cw⟩, .int .i64 x] u fun e w' => e = .returned (.int .i64 y) ∧ Below u.heap.size u w') := Lib.hid fun u hu => by
          have h := rcost_any _ N hx32 u (HNU.out u hu) HK.out.ok
          rwa [← hyc] at h
        clear hyc
        have HST : Hid (wrapI N a fs (k + 1) = if c1 < y ∧ wk < 0 then (k, c1, true) else (x, y, true)) := Lib.hid (by rw [HGS.out]; unfold wrapF; rw [HC1.out, HWK.out]; by_cases h : wk < 0 <;> by_cases h2 : c1 < y <;> simp [h, h2])
        by_cases hcy : c1 < y
        · by_cases hw0 : wk < 0
          · rw [if_pos ⟨hcy, hw0⟩] at HST
            go_wp2_with fail
            refine wp_region_any (by kernel_rfl) (plan_skip_any (γ := Value) [1, 2, 3, 7, 8] (wzCv (nvV ⟨al, nl, cl, af, nf, cf, aw, nw, cw⟩) w.heap.size a (.slice A n c) x k c1 y wk false true true true) (SW w2 N k false) (.int .i64 0) (by kernel_rfl) (by kernel_rfl) (by kernel_rfl) (by kernel_rfl) ?_ ?_ ?_ ?_)
            · intro t ht
              simp only [List.mem_cons, List.not_mem_nil, or_false] at ht
              rcases ht with rfl | rfl | rfl | rfl | rfl <;> rfl
            · exact ⟨(Below.refl w2.heap.size w2).drew, fun _ h => by cases h⟩
            · refine allOps_array ?_
              refine ⟨?_, ?_, ?_, ?_, ?_, ?_, ?_, ?_, ?_, ?_, ?_, ?_, ?_, ?_, ?_, ?_, ?_, ?_, ?_, ?_, trivial⟩
              · intro done q u hS hu hdep _
                refine quietZ hS 15 rfl (by decide) rfl ?_
                simp [go_sem, evalBy, wzCv]
              · intro done q u hS hu hdep _
                refine quietZ hS 16 rfl (by decide) rfl ?_
                simp [go_sem, evalBy, wzCv, hxn]
              · intro done q u hS hu hdep _
                refine quietZ hS 17 rfl (by decide) rfl ?_
                simp [go_sem, evalBy, wzCv]
              · intro done q u hS hu hdep _
                obtain ⟨p0, p1, p2⟩ := HCU.out u hS.b
                refine quietZ hS 18 rfl (by decide) rfl ?_
                simp [go_sem, evalBy, wzCv, uV, p0, p1, p2]
              · intro done q u hS hu hdep _
                refine quietZ hS 19 rfl (by decide) rfl ?_
                simp [go_sem, evalBy, wzCv, uV]
              · intro done q u hS hu hdep _
                exact callZ hS 20 rfl (by decide) rfl 51 #[nvV ⟨al, nl, cl, af, nf, cf, aw, nw, cw⟩, .int .i64 k] (by simp [go_sem, evalBy, wzCv, uV]) (HCC.out u hS.b)
              · intro done q u hS hu hdep _
                obtain ⟨p0, p1, p2⟩ := HCU.out u hS.b
                refine quietZ hS 21 rfl (by decide) rfl ?_
                simp [go_sem, evalBy, wzCv, uV, p0, p1, p2]
              · intro done q u hS hu hdep _
                refine quietZ hS 22 rfl (by decide) rfl ?_
                simp [go_sem, evalBy, wzCv, uV]
              · intro done q u hS hu hdep _
                exact callZ hS 23 rfl (by decide) rfl 51 #[nvV ⟨al, nl, cl, af, nf, cf, aw, nw, cw⟩, .int .i64 x] (by simp [go_sem, evalBy, wzCv, uV]) (HCX.out u hS.b)
              · intro done q u hS hu hdep _
                refine quietZ hS 24 rfl (by decide) rfl ?_
                simp [go_sem, evalBy, wzCv, uV, hcy]
              · intro done q u hS hu hdep _
                refine quietZ hS 25 rfl (by decide) rfl ?_
                simp [go_sem, evalBy, wzCv, uV]
              · intro done q u hS hu hdep _
                refine quietZ hS 26 rfl (by decide) rfl ?_
                simp [go_sem, evalBy, wzCv]
              · intro done q u hS hu hdep _
                obtain ⟨p0, p1, p2⟩ := HCU.out u hS.b
                refine quietZ hS 27 rfl (by decide) rfl ?_
                simp [go_sem, evalBy, wzCv, uV, p0, p1, p2]
              · intro done q u hS hu hdep _
                refine quietZ hS 28 rfl (by decide) rfl ?_
                simp [go_sem, evalBy, wzCv, uV]
              · intro done q u hS hu hdep _
                exact wrapZ hS 29 rfl rfl 52 #[nvV ⟨al, nl, cl, af, nf, cf, aw, nw, cw⟩, .int .i64 k] (fun _ => rfl) (fun g' t ht => by unfold wzCv; split <;> first | rfl | exact absurd rfl ht) (by simp [go_sem, evalBy, wzCv, uV]) (HWC.out u hS.b)
              · intro done q u hS hu hdep _
                refine quietZ hS 30 rfl (by decide) rfl ?_
                simp [go_sem, evalBy, wzCv, uV]
              · intro done q u hS hu hdep _
                refine quietZ hS 31 rfl (by decide) rfl ?_
                simp [go_sem, evalBy, wzCv, uV]
              · intro done q u hS hu hdep _
                obtain ⟨V', rfl, hn'⟩ := hS.x rfl (hdep ⟨14, .data⟩ (by simp) rfl)
                exact callZ hS 32 rfl (by decide) rfl 46 #[nvV V', .int .i64 a, .slice A n c] (by simp [go_sem, evalBy, wzCv, uV]) (HEC.out u V' hS.b hn')
              · intro done q u hS hu hdep _
                refine quietZ hS 33 rfl (by decide) rfl ?_
                simp [go_sem, evalBy, wzCv, uV, hw0]
              · intro done q u hS hu hdep _
                refine quietZ hS 34 rfl (by decide) rfl ?_
                simp [go_sem, evalBy, wzCv, uV]
            · intro q wz hS
              have HBZ := Lib.hid (HB2.out.trans (hS.b.mono HB2.out.size))
              clear hS
              simp [putAll, Act.put, wzCv, uV]
              go_wp2_with fail
              exact ⟨⟨k + 1, k, c1, true, by omega, rfl, HST.out, .inr ⟨rfl, rfl⟩, HBZ.out⟩, by simp [intOf]; omega⟩
          · rw [if_neg (fun h => hw0 h.2)] at HST
            go_wp2_with fail
            refine wp_region_any (by kernel_rfl) (plan_skip_any (γ := Value) [1, 2, 3, 7, 8] (wzCv (nvV ⟨al, nl, cl, af, nf, cf, aw, nw, cw⟩) w.heap.size a (.slice A n c) x k c1 y wk false true true false) (SW w2 N k false) (.int .i64 0) (by kernel_rfl) (by kernel_rfl) (by kernel_rfl) (by kernel_rfl) ?_ ?_ ?_ ?_)
            · intro t ht
              simp only [List.mem_cons, List.not_mem_nil, or_false] at ht
              rcases ht with rfl | rfl | rfl | rfl | rfl <;> rfl
            · exact ⟨(Below.refl w2.heap.size w2).drew, fun _ h => by cases h⟩
            · refine allOps_array ?_
              refine ⟨?_, ?_, ?_, ?_, ?_, ?_, ?_, ?_, ?_, ?_, ?_, ?_, ?_, ?_, ?_, ?_, ?_, ?_, ?_, ?_, trivial⟩
              · intro done q u hS hu hdep _
                refine quietZ hS 15 rfl (by decide) rfl ?_
                simp [go_sem, evalBy, wzCv]
              · intro done q u hS hu hdep _
                refine quietZ hS 16 rfl (by decide) rfl ?_
                simp [go_sem, evalBy, wzCv, hxn]
              · intro done q u hS hu hdep _
                refine quietZ hS 17 rfl (by decide) rfl ?_
                simp [go_sem, evalBy, wzCv]
              · intro done q u hS hu hdep _
                obtain ⟨p0, p1, p2⟩ := HCU.out u hS.b
                refine quietZ hS 18 rfl (by decide) rfl ?_
                simp [go_sem, evalBy, wzCv, uV, p0, p1, p2]
              · intro done q u hS hu hdep _
                refine quietZ hS 19 rfl (by decide) rfl ?_
                simp [go_sem, evalBy, wzCv, uV]
              · intro done q u hS hu hdep _
                exact callZ hS 20 rfl (by decide) rfl 51 #[nvV ⟨al, nl, cl, af, nf, cf, aw, nw, cw⟩, .int .i64 k] (by simp [go_sem, evalBy, wzCv, uV]) (HCC.out u hS.b)
              · intro done q u hS hu hdep _
                obtain ⟨p0, p1, p2⟩ := HCU.out u hS.b
                refine quietZ hS 21 rfl (by decide) rfl ?_
                simp [go_sem, evalBy, wzCv, uV, p0, p1, p2]
              · intro done q u hS hu hdep _
                refine quietZ hS 22 rfl (by decide) rfl ?_
                simp [go_sem, evalBy, wzCv, uV]
              · intro done q u hS hu hdep _
                exact callZ hS 23 rfl (by decide) rfl 51 #[nvV ⟨al, nl, cl, af, nf, cf, aw, nw, cw⟩, .int .i64 x] (by simp [go_sem, evalBy, wzCv, uV]) (HCX.out u hS.b)
              · intro done q u hS hu hdep _
                refine quietZ hS 24 rfl (by decide) rfl ?_
                simp [go_sem, evalBy, wzCv, uV, hcy]
              · intro done q u hS hu hdep _
                refine quietZ hS 25 rfl (by decide) rfl ?_
                simp [go_sem, evalBy, wzCv, uV]
              · intro done q u hS hu hdep _
                refine quietZ hS 26 rfl (by decide) rfl ?_
                simp [go_sem, evalBy, wzCv]
              · intro done q u hS hu hdep _
                obtain ⟨p0, p1, p2⟩ := HCU.out u hS.b
                refine quietZ hS 27 rfl (by decide) rfl ?_
                simp [go_sem, evalBy, wzCv, uV, p0, p1, p2]
              · intro done q u hS hu hdep _
                refine quietZ hS 28 rfl (by decide) rfl ?_
                simp [go_sem, evalBy, wzCv, uV]
              · intro done q u hS hu hdep _
                exact wrapZ hS 29 rfl rfl 52 #[nvV ⟨al, nl, cl, af, nf, cf, aw, nw, cw⟩, .int .i64 k] (fun _ => rfl) (fun g' t ht => by unfold wzCv; split <;> first | rfl | exact absurd rfl ht) (by simp [go_sem, evalBy, wzCv, uV]) (HWC.out u hS.b)
              · intro done q u hS hu hdep _
                refine quietZ hS 30 rfl (by decide) rfl ?_
                simp [go_sem, evalBy, wzCv, uV]
              · intro done q u hS hu hdep _
                refine quietZ hS 31 rfl (by decide) rfl ?_
                simp [go_sem, evalBy, wzCv, uV]
              · intro done q u hS hu hdep _
                obtain ⟨V', rfl, hn'⟩ := hS.x rfl (hdep ⟨14, .data⟩ (by simp) rfl)
                exact callZ hS 32 rfl (by decide) rfl 46 #[nvV V', .int .i64 a, .slice A n c] (by simp [go_sem, evalBy, wzCv, uV]) (HEC.out u V' hS.b hn')
              · intro done q u hS hu hdep _
                refine quietZ hS 33 rfl (by decide) rfl ?_
                simp [go_sem, evalBy, wzCv, uV, hw0]
              · intro done q u hS hu hdep _
                refine quietZ hS 34 rfl (by decide) rfl ?_
                simp [go_sem, evalBy, wzCv, uV]
            · intro q wz hS
              have HBZ := Lib.hid (HB2.out.trans (hS.b.mono HB2.out.size))
              clear hS
              simp [putAll, Act.put, wzCv, uV]
              go_wp2_with fail
              exact ⟨⟨k + 1, x, y, true, by omega, rfl, HST.out, .inr ⟨rfl, rfl⟩, HBZ.out⟩, by simp [intOf]; omega⟩
        · rw [if_neg (fun h => hcy h.1)] at HST
          go_wp2_with fail
          refine wp_region_any (by kernel_rfl) (plan_skip_any (γ := Value) [1, 2, 3, 7, 8] (wzCv (nvV ⟨al, nl, cl, af, nf, cf, aw, nw, cw⟩) w.heap.size a (.slice A n c) x k c1 y wk false false false false) (SW w2 N k true) (.int .i64 0) (by kernel_rfl) (by kernel_rfl) (by kernel_rfl) (by kernel_rfl) ?_ ?_ ?_ ?_)
          · intro t ht
            simp only [List.mem_cons, List.not_mem_nil, or_false] at ht
            rcases ht with rfl | rfl | rfl | rfl | rfl <;> rfl
          · exact ⟨(Below.refl w2.heap.size w2).drew, fun _ h => by cases h⟩
          · refine allOps_array ?_
            refine ⟨?_, ?_, ?_, ?_, ?_, ?_, ?_, ?_, ?_, ?_, ?_, ?_, ?_, ?_, ?_, ?_, ?_, ?_, ?_, ?_, trivial⟩
            · intro done q u hS hu hdep _
              refine quietZ hS 15 rfl (by decide) rfl ?_
              simp [go_sem, evalBy, wzCv]
            · intro done q u hS hu hdep _
              refine quietZ hS 16 rfl (by decide) rfl ?_
              simp [go_sem, evalBy, wzCv, hxn]
            · intro done q u hS hu hdep _
              refine quietZ hS 17 rfl (by decide) rfl ?_
              simp [go_sem, evalBy, wzCv]
            · intro done q u hS hu hdep _
              obtain ⟨p0, p1, p2⟩ := HCU.out u hS.b
              refine quietZ hS 18 rfl (by decide) rfl ?_
              simp [go_sem, evalBy, wzCv, uV, p0, p1, p2]
            · intro done q u hS hu hdep _
              refine quietZ hS 19 rfl (by decide) rfl ?_
              simp [go_sem, evalBy, wzCv, uV]
            · intro done q u hS hu hdep _
              exact callZ hS 20 rfl (by decide) rfl 51 #[nvV ⟨al, nl, cl, af, nf, cf, aw, nw, cw⟩, .int .i64 k] (by simp [go_sem, evalBy, wzCv, uV]) (HCC.out u hS.b)
            · intro done q u hS hu hdep _
              obtain ⟨p0, p1, p2⟩ := HCU.out u hS.b
              refine quietZ hS 21 rfl (by decide) rfl ?_
              simp [go_sem, evalBy, wzCv, uV, p0, p1, p2]
            · intro done q u hS hu hdep _
              refine quietZ hS 22 rfl (by decide) rfl ?_
              simp [go_sem, evalBy, wzCv, uV]
            · intro done q u hS hu hdep _
              exact callZ hS 23 rfl (by decide) rfl 51 #[nvV ⟨al, nl, cl, af, nf, cf, aw, nw, cw⟩, .int .i64 x] (by simp [go_sem, evalBy, wzCv, uV]) (HCX.out u hS.b)
            · intro done q u hS hu hdep _
              refine quietZ hS 24 rfl (by decide) rfl ?_
              simp [go_sem, evalBy, wzCv, uV, hcy]
            · intro done q u hS hu hdep _
              refine quietZ hS 25 rfl (by decide) rfl ?_
              simp [go_sem, evalBy, wzCv, uV]
            · intro done q u hS hu hdep _
              refine quietZ hS 26 rfl (by decide) rfl ?_
              simp [go_sem, evalBy, wzCv]
            · intro done q u hS hu hdep _
              exact skipZ hS 27 rfl (.inr rfl) rfl rfl
            · intro done q u hS hu hdep _
              exact skipZ hS 28 rfl (.inr rfl) rfl rfl
            · intro done q u hS hu hdep _
              exact skipZ hS 29 rfl (.inr rfl) rfl rfl
            · intro done q u hS hu hdep _
              exact skipZ hS 30 rfl (.inr rfl) rfl rfl
            · intro done q u hS hu hdep _
              exact skipZ hS 31 rfl (.inr rfl) rfl rfl
            · intro done q u hS hu hdep _
              exact skipZ hS 32 rfl (.inr rfl) rfl rfl
            · intro done q u hS hu hdep _
              exact skipZ hS 33 rfl (.inr rfl) rfl rfl
            · intro done q u hS hu hdep _
              refine quietZ hS 34 rfl (by decide) rfl ?_
              simp [go_sem, evalBy, wzCv, uV]
          · intro q wz hS
            have HBZ := Lib.hid (HB2.out.trans (hS.b.mono HB2.out.size))
            clear hS
            simp [putAll, Act.put, wzCv, uV]
            go_wp2_with fail
            exact ⟨⟨k + 1, x, y, true, by omega, rfl, HST.out, .inr ⟨rfl, rfl⟩, HBZ.out⟩, by simp [intOf]; omega⟩
    · obtain rfl : M = k := by omega
      have k4 : ¬ (M : Int) < (M : Int) := by omega
      obtain rfl : X = (x, y, f) := by rw [← HX.out, HG.out]
      rcases hbm with ⟨rfl, rfl⟩ | ⟨rfl, rfl⟩
      · go_wp2_with fail
        go_ret
        exact ⟨by rfl, HB1.out.trans (HB2.out.mono HB1.out.size)⟩
      · go_wp2_with fail
        go_ret
        exact ⟨by rfl, HB1.out.trans (HB2.out.mono HB1.out.size)⟩
end Go.Proofs.Yticmeeinjkoodaa
