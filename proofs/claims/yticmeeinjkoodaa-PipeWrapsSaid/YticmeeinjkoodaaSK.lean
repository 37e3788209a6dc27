/- Pipes: the first weak fault, and the least slack from a place, by the specification. -/
import Derived.Test.YticmeeinjkoodaaSJ
namespace Go.Proofs.Yticmeeinjkoodaa
open Go.RowKit Go.Shelf

theorem weakF_step {N : Nt} {m p k : Nat} {fs : List Int} {t : Int} (h : fs[k]? = some t) : weakF N m p (fs.drop k) k = if slk N m t.toNat p 0 = -1 then (k : Int) else weakF N m p (fs.drop (k + 1)) (k + 1) := by
  rw [drop_at h]
  rfl
def wkCv (nv : Value) (Z : Nat) (p : Int) (sl : Value) (k : Nat) (ad : Addr) (t S : Int) (b : Bool) (g : Value × Value × Value × Value) : Tmp → Value
  | 1 => .int .i64 p
  | 2 => sl
  | 3 => .pointer (some ⟨Z, 0, none⟩)
  | 7 => .int .i64 k
  | 18 => nv
  | 19 => .int .i64 p
  | 20 => sl
  | 21 => .int .i64 k
  | 22 => .pointer (some ad)
  | 23 => .int .i64 t
  | 24 => .tuple #[g.1, .int .i64 S, .bool b]
  | 17 => .tuple #[g.2.1, .int .i64 S, .bool b]
  | 25 => g.2.2.1
  | 26 => .int .i64 S
  | 27 => .bool b
  | 8 => g.2.2.2
  | 9 => .int .i64 S
  | 10 => .bool b
  | _ => default
def lsCv (nv : Value) (Z : Nat) (p : Int) (sl : Value) (k : Nat) (ad : Addr) (t S : Int) (b : Bool) (g : Value × Value × Value × Value) : Tmp → Value
  | 1 => .int .i64 p
  | 2 => sl
  | 3 => .pointer (some ⟨Z, 0, none⟩)
  | 9 => .int .i64 k
  | 23 => nv
  | 24 => .int .i64 p
  | 25 => sl
  | 26 => .int .i64 k
  | 27 => .pointer (some ad)
  | 28 => .int .i64 t
  | 29 => .tuple #[g.1, .int .i64 S, .bool b]
  | 22 => .tuple #[g.2.1, .int .i64 S, .bool b]
  | 30 => g.2.2.1
  | 31 => .int .i64 S
  | 32 => .bool b
  | 10 => g.2.2.2
  | 11 => .int .i64 S
  | 12 => .bool b
  | _ => default
set_option maxRecDepth 100000 in
set_option maxHeartbeats 16000000 in
theorem rweak_any (V : NV) (N : Nt) {a : Nat} (A : Option Addr) (n c : Nat) (fs : List Int) (w : World) (hN : NtAt w w.heap.size V N) (hl : fs.length = n) (hn : n ≤ maxLen) (hA : IntsAt w w.heap.size A fs) (hK : FsOk N a fs) :
    Calls Try.prog 46 #[nvV V, .int .i64 a, .slice A n c] w fun e w' => e = .returned (.int .i64 (weakI N 0 a fs)) ∧ Below w.heap.size w w' := by
  have HA := Lib.hid (RowAt.up hA ((Below.refl w.heap.size w).alloc (Nat.le_refl _) (.cells (nvC V) 26))); have HL := Lib.hid hl; have HK := Lib.hid hK
  have z := heap_alloc_new w (.cells (nvC V) 26)
  have hb := (Below.refl w.heap.size w).alloc (Nat.le_refl _) (.cells (nvC V) 26)
  obtain ⟨w1, hw1⟩ : ∃ z, w.alloc (.cells (nvC V) 26) = z := ⟨_, rfl⟩
  rw [hw1] at z hb
  have HW := Lib.hid hw1
  have HN := Lib.hid (hN.up hb)
  obtain ⟨al, nl, cl, af, nf, cf, aw, nw, cw⟩ := V
  obtain ⟨v0, v1, v2⟩ := box3_cells z
  have hml := hN.ml; have hmf := hN.mf; have hmw := hN.mw
  unfold maxLen at hml hmf hmw
  simp only at hml hmf hmw v0 v1 v2
  have HB := Lib.hid hb; have Z := Lib.hid z
  have HNL := Lib.hid hN.nl; have HNF := Lib.hid hN.nf; have HNW := Lib.hid hN.nw
  clear z hb hw1 hN
  have HZ1 := Z; have HB1 := HB; have HN1 := HN
  clear Z HB HN
  have HA1 := HA
  clear HA
  unfold maxLen at hn
  clear hA hl hK
  rw [show w.alloc (.cells (nvC ⟨al, nl, cl, af, nf, cf, aw, nw, cw⟩) 26) = w1 from HW.out] at HA1
  have HPL : Hid (a ≤ N.lo.length) := Lib.hid (by have := HK.out.pl; omega)
  have HZF : Hid (N.fr.length = nf) := Lib.hid (by have h1 := HNF.out; first | omega | (simp only at h1; omega))
  have hnf72 : nf ≤ 72 := by have h1 := HZF.out; have h2 := HK.out.ok.h72; omega
  have hn12 : n ≤ 12 := by have h1 := HL.out; have h2 := HK.out.len; omega
  go_enter Try.func46, Try.ntmps46
  go_wp2_with fail
  rw [show w.alloc (.cells #[.slice al nl cl, .slice af nf cf, .slice aw nw cw] 26) = w1 from HW.out]
  go_wp2_with fail
  go_loopw [7, 8, 9, 10] (fun ii _ _ _ wr => ∃ k : Nat, k ≤ n ∧ ii = .int .i64 k ∧ weakI N 0 a fs = weakF N 0 a (fs.drop k) k ∧ Below w1.heap.size w1 wr) (fun ii _ _ _ _ => n - (intOf ii).toNat)
  case atStart => exact ⟨0, by omega, rfl, rfl, Below.refl _ _⟩
  case round =>
    obtain ⟨k, hk, rfl, hinv, hbr⟩ := hrel
    have HBR := Lib.hid hbr; have HINV := Lib.hid hinv
    clear hinv
    by_cases hlt : k < n
    · have k3 : (0 : Int) ≤ (k : Int) := by omega
      have k4 : (k : Int) < (n : Int) := by omega
      obtain ⟨t, ht⟩ := get_of_lt (l := fs) (k := k) (by rw [HL.out]; exact hlt)
      obtain ⟨b2, o2, rfl, hb2, t0⟩ := ints_el (RowAt.up HA1.out hbr) ht
      have HT := Lib.hid ht
      have hft := HK.out.fs t (List.mem_of_getElem? ht)
      obtain ⟨s, rfl⟩ : ∃ s : Nat, t = s := ⟨t.toNat, by omega⟩
      have hs2 : s < 2 ^ N.lo.length := by
        have hpow : (2 : Int) ^ N.lo.length = ((2 ^ N.lo.length : Nat) : Int) := by simp
        omega
      have HS0 : Hid (∀ u : World, Below wr.heap.size wr u → u.cell? ⟨b2, o2 + k, none⟩ = some (.int .i64 s)) := Lib.hid fun u hu => ((bcell hu).1 _ _ hb2).trans t0
      have HF : Hid (∀ u : World, Below wr.heap.size wr u → u.cell? ⟨w.heap.size, 0, none⟩ = some (.slice al nl cl) ∧ u.cell? ⟨w.heap.size, 1, none⟩ = some (.slice af nf cf) ∧ u.cell? ⟨w.heap.size, 2, none⟩ = some (.slice aw nw cw)) := Lib.hid fun u hu => box3_cells (((hbr.trans (hu.mono hbr.size)).block _ (heapsz HZ1.out)).trans HZ1.out)
      obtain ⟨x, hx⟩ : ∃ z, slk N 0 s a 0 = z := ⟨_, rfl⟩
      have HNR := Lib.hid (fun (u : World) (hu : Below wr.heap.size wr u) => rorder_any ⟨al, nl, cl, af, nf, cf, aw, nw, cw⟩ N u (HN1.out.next (hbr.trans (hu.mono hbr.size)) (by have := hbr.size; have := hu.size; omega)) HK.out.ok HPL.out hs2 hx)
      obtain ⟨S, hS⟩ : ∃ z, (if x = -1 then 0 else x) = z := ⟨_, rfl⟩
      obtain ⟨b, hb⟩ : ∃ z, decide (x ≠ -1) = z := ⟨_, rfl⟩
      rw [hS, hb] at HNR
      have HSS := Lib.hid hS; have HBB := Lib.hid hb; have HX := Lib.hid hx
      have hge := slk_ge N 0 s a 0
      have hle := slk_le (wayOk HK.out.ok) 0 s a (t := 0) (Int.le_refl _)
      rw [hx] at hge hle
      rw [HZF.out] at hle
      clear ht t0 hb2 hS hb hx v0 v1 v2 hft hs2
      go_wp2_with fail
      refine wp_region_any (by kernel_rfl) (plan_guarded_any (γ := Value × Value × Value × Value) [1, 2, 3, 7] (wkCv (nvV ⟨al, nl, cl, af, nf, cf, aw, nw, cw⟩) w.heap.size a (.slice (some ⟨b2, o2, none⟩) n c) k ⟨b2, o2 + k, none⟩ s S b) (fun done _ u => OnlyB wr done u) (.int .i64 0, .int .i64 0, .int .i64 0, .int .i64 0) (by kernel_rfl) (by kernel_rfl) (by kernel_rfl) (by kernel_rfl) ?_ ?_ ?_ ?_)
      · intro t ht
        simp only [List.mem_cons, List.not_mem_nil, or_false] at ht
        rcases ht with rfl | rfl | rfl | rfl <;> rfl
      · exact ⟨(Below.refl wr.heap.size wr).drew⟩
      · refine allOps_array ?_
        refine ⟨?_, ?_, ?_, ?_, ?_, ?_, ?_, ?_, ?_, ?_, ?_, ?_, ?_, ?_, trivial⟩
        · intro done q u hS hu hdep _
          obtain ⟨p0, p1, p2⟩ := HF.out u hS.b
          refine quietS hS 18 rfl rfl ?_
          simp [go_sem, evalBy, wkCv, p0, p1, p2]
        · intro done q u hS hu hdep _
          refine quietS hS 19 rfl rfl ?_
          simp [go_sem, evalBy, wkCv]
        · intro done q u hS hu hdep _
          refine quietS hS 20 rfl rfl ?_
          simp [go_sem, evalBy, wkCv]
        · intro done q u hS hu hdep _
          refine quietS hS 21 rfl rfl ?_
          simp [go_sem, evalBy, wkCv]
        · intro done q u hS hu hdep _
          refine quietS hS 22 rfl rfl ?_
          simp [go_sem, evalBy, wkCv, k3, k4]
        · intro done q u hS hu hdep _
          have s0 := HS0.out u hS.b
          refine quietS hS 23 rfl rfl ?_
          simp [go_sem, evalBy, wkCv, s0]
        · intro done q u hS hu hdep _
          refine callS hS 24 rfl rfl 37 #[nvV ⟨al, nl, cl, af, nf, cf, aw, nw, cw⟩, .int .i64 a, .int .i64 s] (by simp [go_sem, evalBy, wkCv]) ((HNR.out u hS.b).mono ?_)
          rintro e w' ⟨v, rfl, hb, _⟩
          exact ⟨(v, q.2), rfl, hb, fun t ht => by unfold wkCv; split <;> first | rfl | exact absurd rfl ht⟩
        · intro done q u hS hu hdep _
          exact stepS hS (q.1, q.1, q.2.2) 17 rfl rfl (by simp [go_sem, evalBy, wkCv]) (fun t ht => by unfold wkCv; split <;> first | rfl | exact absurd rfl ht)
        · intro done q u hS hu hdep _
          exact stepS hS (q.1, q.2.1, q.2.1, q.2.2.2) 25 rfl rfl (by simp [go_sem, evalBy, wkCv]) (fun t ht => by unfold wkCv; split <;> first | rfl | exact absurd rfl ht)
        · intro done q u hS hu hdep _
          refine quietS hS 26 rfl rfl ?_
          simp [go_sem, evalBy, wkCv]
        · intro done q u hS hu hdep _
          refine quietS hS 27 rfl rfl ?_
          simp [go_sem, evalBy, wkCv]
        · intro done q u hS hu hdep _
          exact stepS hS (q.1, q.2.1, q.2.2.1, q.2.2.1) 8 rfl rfl (by simp [go_sem, evalBy, wkCv]) (fun t ht => by unfold wkCv; split <;> first | rfl | exact absurd rfl ht)
        · intro done q u hS hu hdep _
          refine quietS hS 9 rfl rfl ?_
          simp [go_sem, evalBy, wkCv]
        · intro done q u hS hu hdep _
          refine quietS hS 10 rfl rfl ?_
          simp [go_sem, evalBy, wkCv]
      · intro q wz hbz
        have HBZ := Lib.hid (HBR.out.trans (hbz.b.mono HBR.out.size))
        clear hbz hbr
        simp [putAll, Act.put, wkCv]
        by_cases h1 : x = -1
        · have h5 : b = false := by rw [← HBB.out]; exact decide_eq_false (by omega)
          subst h5
          have HV : Hid (weakI N 0 a fs = k) := Lib.hid (by rw [HINV.out, weakF_step HT.out, Int.toNat_natCast, HX.out, if_pos h1])
          go_wp2_with fail
          go_ret
          exact ⟨by rw [HV.out]; rfl, HB1.out.trans (HBZ.out.mono HB1.out.size)⟩
        · have h5 : b = true := by rw [← HBB.out]; exact decide_eq_true h1
          have h6 : S = x := by rw [← HSS.out, if_neg h1]
          subst h5 h6
          have HV : Hid (weakI N 0 a fs = weakF N 0 a (fs.drop (k + 1)) (k + 1)) := Lib.hid (by rw [HINV.out, weakF_step HT.out, Int.toNat_natCast, HX.out, if_neg h1])
          go_wp2_with fail
          exact ⟨⟨k + 1, by omega, rfl, HV.out, HBZ.out⟩, by simp [intOf]; omega⟩
    · obtain rfl : n = k := by omega
      have k4 : ¬ (n : Int) < (n : Int) := by omega
      have HV : Hid (weakI N 0 a fs = -1) := Lib.hid (by rw [HINV.out, List.drop_of_length_le (by rw [HL.out]; exact Nat.le_refl _)]; rfl)
      go_wp2_with fail
      go_ret
      exact ⟨by rw [HV.out]; rfl, HB1.out.trans (HBR.out.mono HB1.out.size)⟩
def lstI (N : Nt) (a : Nat) (fs : List Int) : Int × Bool := if sofI N 0 fs a = -1 then (0, false) else (sofI N 0 fs a, true)
set_option maxRecDepth 100000 in
set_option maxHeartbeats 16000000 in
theorem rleasts_any (V : NV) (N : Nt) {a : Nat} (A : Option Addr) (n c : Nat) (fs : List Int) (w : World) (hN : NtAt w w.heap.size V N) (hl : fs.length = n) (hn : n ≤ maxLen) (hA : IntsAt w w.heap.size A fs) (hK : FsOk N a fs) :
    Calls Try.prog 83 #[nvV V, .int .i64 a, .slice A n c] w fun e w' => e = .returned (.tuple #[.int .i64 (lstI N a fs).1, .bool (lstI N a fs).2]) ∧ Below w.heap.size w w' := by
  have HA := Lib.hid (RowAt.up hA ((Below.refl w.heap.size w).alloc (Nat.le_refl _) (.cells (nvC V) 26))); have HL := Lib.hid hl; have HK := Lib.hid hK
  have z := heap_alloc_new w (.cells (nvC V) 26)
  have hb := (Below.refl w.heap.size w).alloc (Nat.le_refl _) (.cells (nvC V) 26)
  obtain ⟨w1, hw1⟩ : ∃ z, w.alloc (.cells (nvC V) 26) = z := ⟨_, rfl⟩
  rw [hw1] at z hb
  have HW := Lib.hid hw1
  have HN := Lib.hid (hN.up hb)
  obtain ⟨al, nl, cl, af, nf, cf, aw, nw, cw⟩ := V
  obtain ⟨v0, v1, v2⟩ := box3_cells z
  have hml := hN.ml; have hmf := hN.mf; have hmw := hN.mw
  unfold maxLen at hml hmf hmw
  simp only at hml hmf hmw v0 v1 v2
  have HB := Lib.hid hb; have Z := Lib.hid z
  have HNL := Lib.hid hN.nl; have HNF := Lib.hid hN.nf; have HNW := Lib.hid hN.nw
  clear z hb hw1 hN
  have HZ1 := Z; have HB1 := HB; have HN1 := HN
  clear Z HB HN
  have HA1 := HA
  clear HA
  unfold maxLen at hn
  clear hA hl hK
  rw [show w.alloc (.cells (nvC ⟨al, nl, cl, af, nf, cf, aw, nw, cw⟩) 26) = w1 from HW.out] at HA1
  have HPL : Hid (a ≤ N.lo.length) := Lib.hid (by have := HK.out.pl; omega)
  have HZF : Hid (N.fr.length = nf) := Lib.hid (by have h1 := HNF.out; first | omega | (simp only at h1; omega))
  have hnf72 : nf ≤ 72 := by have h1 := HZF.out; have h2 := HK.out.ok.h72; omega
  have hn12 : n ≤ 12 := by have h1 := HL.out; have h2 := HK.out.len; omega
  go_enter Try.func83, Try.ntmps83
  go_wp2_with fail
  rw [show w.alloc (.cells #[.slice al nl cl, .slice af nf cf, .slice aw nw cw] 26) = w1 from HW.out]
  go_wp2_with fail
  go_loopw [8, 9, 10, 11, 12] (fun oo ii _ _ _ wr => ∃ k : Nat, k ≤ n ∧ ii = .int .i64 k ∧ (∃ O : Int, oo = .int .i64 O ∧ sofI N 0 (fs.take k) a = O ∧ 0 ≤ O ∧ O ≤ nf ∧ (k = 0 → O = nf)) ∧ Below w1.heap.size w1 wr) (fun _ ii _ _ _ _ => n - (intOf ii).toNat)
  case atStart => exact ⟨0, by omega, rfl, ⟨nf, rfl, by rw [List.take_zero]; show ((N.fr.length : Nat) : Int) = _; rw [HZF.out], by omega, by omega, fun _ => rfl⟩, Below.refl _ _⟩
  case round =>
    obtain ⟨k, hk, rfl, ⟨O, rfl, hO⟩, hbr⟩ := hrel
    have HBR := Lib.hid hbr; have HOO := Lib.hid hO
    clear hO
    by_cases hlt : k < n
    · have k3 : (0 : Int) ≤ (k : Int) := by omega
      have k4 : (k : Int) < (n : Int) := by omega
      obtain ⟨t, ht⟩ := get_of_lt (l := fs) (k := k) (by rw [HL.out]; exact hlt)
      obtain ⟨b2, o2, rfl, hb2, t0⟩ := ints_el (RowAt.up HA1.out hbr) ht
      have HT := Lib.hid ht
      have hft := HK.out.fs t (List.mem_of_getElem? ht)
      obtain ⟨s, rfl⟩ : ∃ s : Nat, t = s := ⟨t.toNat, by omega⟩
      have hs2 : s < 2 ^ N.lo.length := by
        have hpow : (2 : Int) ^ N.lo.length = ((2 ^ N.lo.length : Nat) : Int) := by simp
        omega
      have HS0 : Hid (∀ u : World, Below wr.heap.size wr u → u.cell? ⟨b2, o2 + k, none⟩ = some (.int .i64 s)) := Lib.hid fun u hu => ((bcell hu).1 _ _ hb2).trans t0
      have HF : Hid (∀ u : World, Below wr.heap.size wr u → u.cell? ⟨w.heap.size, 0, none⟩ = some (.slice al nl cl) ∧ u.cell? ⟨w.heap.size, 1, none⟩ = some (.slice af nf cf) ∧ u.cell? ⟨w.heap.size, 2, none⟩ = some (.slice aw nw cw)) := Lib.hid fun u hu => box3_cells (((hbr.trans (hu.mono hbr.size)).block _ (heapsz HZ1.out)).trans HZ1.out)
      obtain ⟨x, hx⟩ : ∃ z, slk N 0 s a 0 = z := ⟨_, rfl⟩
      have HNR := Lib.hid (fun (u : World) (hu : Below wr.heap.size wr u) => rorder_any ⟨al, nl, cl, af, nf, cf, aw, nw, cw⟩ N u (HN1.out.next (hbr.trans (hu.mono hbr.size)) (by have := hbr.size; have := hu.size; omega)) HK.out.ok HPL.out hs2 hx)
      obtain ⟨S, hS⟩ : ∃ z, (if x = -1 then 0 else x) = z := ⟨_, rfl⟩
      obtain ⟨b, hb⟩ : ∃ z, decide (x ≠ -1) = z := ⟨_, rfl⟩
      rw [hS, hb] at HNR
      have HSS := Lib.hid hS; have HBB := Lib.hid hb; have HX := Lib.hid hx
      have hge := slk_ge N 0 s a 0
      have hle := slk_le (wayOk HK.out.ok) 0 s a (t := 0) (Int.le_refl _)
      rw [hx] at hge hle
      rw [HZF.out] at hle
      clear ht t0 hb2 hS hb hx v0 v1 v2 hft hs2
      go_wp2_with fail
      refine wp_region_any (by kernel_rfl) (plan_guarded_any (γ := Value × Value × Value × Value) [1, 2, 3, 9] (lsCv (nvV ⟨al, nl, cl, af, nf, cf, aw, nw, cw⟩) w.heap.size a (.slice (some ⟨b2, o2, none⟩) n c) k ⟨b2, o2 + k, none⟩ s S b) (fun done _ u => OnlyB wr done u) (.int .i64 0, .int .i64 0, .int .i64 0, .int .i64 0) (by kernel_rfl) (by kernel_rfl) (by kernel_rfl) (by kernel_rfl) ?_ ?_ ?_ ?_)
      · intro t ht
        simp only [List.mem_cons, List.not_mem_nil, or_false] at ht
        rcases ht with rfl | rfl | rfl | rfl <;> rfl
      · exact ⟨(Below.refl wr.heap.size wr).drew⟩
      · refine allOps_array ?_
        refine ⟨?_, ?_, ?_, ?_, ?_, ?_, ?_, ?_, ?_, ?_, ?_, ?_, ?_, ?_, trivial⟩
        · intro done q u hS hu hdep _
          obtain ⟨p0, p1, p2⟩ := HF.out u hS.b
          refine quietS hS 23 rfl rfl ?_
          simp [go_sem, evalBy, lsCv, p0, p1, p2]
        · intro done q u hS hu hdep _
          refine quietS hS 24 rfl rfl ?_
          simp [go_sem, evalBy, lsCv]
        · intro done q u hS hu hdep _
          refine quietS hS 25 rfl rfl ?_
          simp [go_sem, evalBy, lsCv]
        · intro done q u hS hu hdep _
          refine quietS hS 26 rfl rfl ?_
          simp [go_sem, evalBy, lsCv]
        · intro done q u hS hu hdep _
          refine quietS hS 27 rfl rfl ?_
          simp [go_sem, evalBy, lsCv, k3, k4]
        · intro done q u hS hu hdep _
          have s0 := HS0.out u hS.b
          refine quietS hS 28 rfl rfl ?_
          simp [go_sem, evalBy, lsCv, s0]
        · intro done q u hS hu hdep _
          refine callS hS 29 rfl rfl 37 #[nvV ⟨al, nl, cl, af, nf, cf, aw, nw, cw⟩, .int .i64 a, .int .i64 s] (by simp [go_sem, evalBy, lsCv]) ((HNR.out u hS.b).mono ?_)
          rintro e w' ⟨v, rfl, hb, _⟩
          exact ⟨(v, q.2), rfl, hb, fun t ht => by unfold lsCv; split <;> first | rfl | exact absurd rfl ht⟩
        · intro done q u hS hu hdep _
          exact stepS hS (q.1, q.1, q.2.2) 22 rfl rfl (by simp [go_sem, evalBy, lsCv]) (fun t ht => by unfold lsCv; split <;> first | rfl | exact absurd rfl ht)
        · intro done q u hS hu hdep _
          exact stepS hS (q.1, q.2.1, q.2.1, q.2.2.2) 30 rfl rfl (by simp [go_sem, evalBy, lsCv]) (fun t ht => by unfold lsCv; split <;> first | rfl | exact absurd rfl ht)
        · intro done q u hS hu hdep _
          refine quietS hS 31 rfl rfl ?_
          simp [go_sem, evalBy, lsCv]
        · intro done q u hS hu hdep _
          refine quietS hS 32 rfl rfl ?_
          simp [go_sem, evalBy, lsCv]
        · intro done q u hS hu hdep _
          exact stepS hS (q.1, q.2.1, q.2.2.1, q.2.2.1) 10 rfl rfl (by simp [go_sem, evalBy, lsCv]) (fun t ht => by unfold lsCv; split <;> first | rfl | exact absurd rfl ht)
        · intro done q u hS hu hdep _
          refine quietS hS 11 rfl rfl ?_
          simp [go_sem, evalBy, lsCv]
        · intro done q u hS hu hdep _
          refine quietS hS 12 rfl rfl ?_
          simp [go_sem, evalBy, lsCv]
      · intro q wz hbz
        have HBZ := Lib.hid (HBR.out.trans (hbz.b.mono HBR.out.size))
        clear hbz hbr
        simp [putAll, Act.put, lsCv]
        by_cases h1 : x = -1
        · have h5 : b = false := by rw [← HBB.out]; exact decide_eq_false (by omega)
          subst h5
          have HV : Hid (lstI N a fs = (0, false)) := Lib.hid (by unfold lstI; rw [if_pos (by have h := sof_m1 HK.out HT.out (by rw [Int.toNat_natCast, Int.toNat_natCast, HX.out, h1]); rwa [Int.toNat_natCast] at h)])
          go_wp2_with fail
          exact bodyPost_ret (v := .tuple #[.int .i64 0, .bool false]) (by simp [results, Try.results83, go_sem]) rfl ⟨by rw [HV.out], HB1.out.trans (HBZ.out.mono HB1.out.size)⟩
        · have h5 : b = true := by rw [← HBB.out]; exact decide_eq_true h1
          have h6 : S = x := by rw [← HSS.out, if_neg h1]
          subst h5 h6
          have HTK := Lib.hid (sof_take (N := N) (m := 0) (place := a) HT.out)
          rw [HOO.out.1, Int.toNat_natCast, HX.out] at HTK
          by_cases hk0 : k = 0
          · subst hk0
            have h8 : O = nf := HOO.out.2.2.2 rfl
            go_wp2_with fail
            exact ⟨⟨0 + 1, by omega, rfl, ⟨S, rfl, by rw [HTK.out]; omega, by omega, by omega, fun h => absurd h (by omega)⟩, HBZ.out⟩, by simp [intOf]; omega⟩
          · have hk1 : ¬ (k : Int) = 0 := by omega
            by_cases hso : S < O
            · go_wp2_with fail
              exact ⟨⟨k + 1, by omega, rfl, ⟨S, rfl, by rw [HTK.out]; omega, by omega, by omega, fun h => absurd h (by omega)⟩, HBZ.out⟩, by simp [intOf]; omega⟩
            · have h9 := HOO.out
              go_wp2_with fail
              exact ⟨⟨k + 1, by omega, rfl, ⟨O, rfl, by rw [HTK.out]; omega, by omega, by omega, fun h => absurd h (by omega)⟩, HBZ.out⟩, by simp [intOf]; omega⟩
    · obtain rfl : n = k := by omega
      have k4 : ¬ (n : Int) < (n : Int) := by omega
      have HV : Hid (lstI N a fs = (O, true)) := Lib.hid (by
        have h := HOO.out
        rw [← HL.out, List.take_length] at h
        unfold lstI
        rw [h.1, if_neg (by omega)])
      go_wp2_with fail
      exact bodyPost_ret (v := .tuple #[.int .i64 O, .bool true]) (by simp [results, Try.results83, go_sem]) rfl ⟨by rw [HV.out], HB1.out.trans (HBR.out.mono HB1.out.size)⟩
end Go.Proofs.Yticmeeinjkoodaa
