/- Pipes: what a loop is in; how it cools. Pipes: a net that is looked at; how a loop cools in an hour. Pipes: two lists that grow beside each other. Pipes: the warmth of a loop after each hour. Pipes: when a loop is frozen, and when it is due. Pipes: when a loop is due; the spans of its warmth. Pipes: the loops of a set, one after the other. -/
import Derived.Test.YticmeeinjkoodaaBI
import Derived.Laws.EntriesVeiled
import Derived.RangeFuncKeeps
namespace Go.Proofs.Yticmeeinjkoodaa
open Go.RowKit

@[go_sem] theorem mth_bl (v : Value) (w : World) : (method 265 128 v "talik/pipe.leak").run Try.prog w = .ok (117, v) w := by kernel_rfl
@[go_sem] theorem mth_wl (v : Value) (w : World) : (method 265 130 v "talik/pipe.leak").run Try.prog w = .ok (119, v) w := by kernel_rfl
@[go_sem] theorem mth_bc (v : Value) (w : World) : (method 265 128 v "talik/pipe.cost").run Try.prog w = .ok (116, v) w := by kernel_rfl
@[go_sem] theorem mth_wc (v : Value) (w : World) : (method 265 130 v "talik/pipe.cost").run Try.prog w = .ok (118, v) w := by kernel_rfl
set_option maxHeartbeats 1000000 in
theorem bleak_any (l : Lp) (w : World) : Calls Try.prog 117 #[lpV l] w fun e w' => e = .returned (.agg #[.int .i64 l.ll, .int .i64 l.lh]) ∧ Below w.heap.size w w' := by
  have z := heap_alloc_new w (.cells (lpC l) 128)
  obtain ⟨⟨v0, v1⟩, ⟨v2, v3⟩, ⟨v4, v5⟩, ⟨v6, v7, v8, v9⟩, v10, v11⟩ := lp_cells z
  clear z
  go_enter Try.func117, Try.ntmps117
  go_wp2_with fail
  obtain ⟨z, zt, hb⟩ := two_new w (.cells (lpC l) 128) (.cells #[.int .i64 l.ll, .int .i64 l.lh] 47)
  have p := fun k => cell_of_row _ (w.heap.size + 1) k _ 47 (0, 0) zt
  have p0 := p 0; have p1 := p 1
  simp at p0 p1
  exact bodyPost_ret (v := .agg #[.int .i64 l.ll, .int .i64 l.lh]) (by simp [results, Try.results117, go_sem]) rfl ⟨rfl, hb⟩
set_option maxHeartbeats 1000000 in
theorem wleak_any (l : Lp) (w : World) : Calls Try.prog 119 #[lpV l] w fun e w' => e = .returned (.agg #[.int .i64 l.rl, .int .i64 l.rh]) ∧ Below w.heap.size w w' := by
  have z := heap_alloc_new w (.cells (lpC l) 130)
  obtain ⟨⟨v0, v1⟩, ⟨v2, v3⟩, ⟨v4, v5⟩, ⟨v6, v7, v8, v9⟩, v10, v11⟩ := lp_cells z
  clear z
  go_enter Try.func119, Try.ntmps119
  go_wp2_with fail
  obtain ⟨z, zt, hb⟩ := two_new w (.cells (lpC l) 130) (.cells #[.int .i64 l.rl, .int .i64 l.rh] 47)
  have p := fun k => cell_of_row _ (w.heap.size + 1) k _ 47 (0, 0) zt
  have p0 := p 0; have p1 := p 1
  simp at p0 p1
  exact bodyPost_ret (v := .agg #[.int .i64 l.rl, .int .i64 l.rh]) (by simp [results, Try.results119, go_sem]) rfl ⟨rfl, hb⟩
set_option maxHeartbeats 1000000 in
theorem bcost_any (l : Lp) (w : World) : Calls Try.prog 116 #[lpV l] w fun e w' => e = .returned (.int .i64 0) ∧ Below w.heap.size w w' := by
  have HB := Lib.hid ((Below.refl w.heap.size w).alloc (Nat.le_refl _) (.cells (lpC l) 128))
  go_enter Try.func116, Try.ntmps116
  go_wp2
  go_ret
  exact ⟨rfl, HB.out⟩
set_option maxHeartbeats 1000000 in
theorem wcost_any (l : Lp) (w : World) : Calls Try.prog 118 #[lpV l] w fun e w' => e = .returned (.int .i64 l.co) ∧ Below w.heap.size w w' := by
  have HB := Lib.hid ((Below.refl w.heap.size w).alloc (Nat.le_refl _) (.cells (lpC l) 130))
  have z := heap_alloc_new w (.cells (lpC l) 130)
  obtain ⟨⟨v0, v1⟩, ⟨v2, v3⟩, ⟨v4, v5⟩, ⟨v6, v7, v8, v9⟩, v10, v11⟩ := lp_cells z
  clear z
  go_enter Try.func118, Try.ntmps118
  go_wp2
  go_ret
  exact ⟨rfl, HB.out⟩
end Go.Proofs.Yticmeeinjkoodaa

namespace Go.Proofs.Yticmeeinjkoodaa
open Go.RowKit

def boxV (b : Bool) (l : Lp) : Value := .iface (if b then 130 else 128) (lpV l)
def boxR (x : Bool × Lp) : List Value := [boxV x.1 x.2]
def leakI (b : Bool) (l : Lp) : Int × Int := if b then (l.rl, l.rh) else (l.ll, l.lh)
/-- The boxes of the loops of a net, of which some are wrapped. -/
def bxI (N : Nt) (m : Nat) : List (Bool × Lp) := (List.range N.lo.length).map fun i => (m.testBit i, N.lo.getD i lp0)
theorem bxI_at {N : Nt} {m L : Nat} {l : Lp} (h : N.lo[L]? = some l) : (bxI N m)[L]? = some (m.testBit L, l) := by
  have hl : L < N.lo.length := (List.getElem?_eq_some_iff.1 h).1
  unfold bxI
  rw [List.getElem?_map, List.getElem?_range hl, Option.map_some, List.getD_eq_getElem?_getD, h]
  rfl
theorem bx_el {w : World} {B : Nat} {A : Option Addr} {l : List (Bool × Lp)} {i : Nat} {x : Bool × Lp} (h : RowAt 1 boxR w B A l) (hx : l[i]? = some x) : ∃ b o, A = some ⟨b, o, none⟩ ∧ b < B ∧ w.cell? ⟨b, o + i, none⟩ = some (boxV x.1 x.2) := by
  obtain ⟨b, o, rfl, h1, h2⟩ := h (by intro e; rw [e] at hx; simp at hx)
  exact ⟨b, o, rfl, h1, by simpa using h2 i x hx 0 _ rfl⟩
/-- What of a looked net is asked how its loops cool. -/
structure LH (w : World) (B P : Nat) (V : NV) (N : Nt) (m : Nat) (AB : Option Addr) (cb : Nat) : Prop where
  lt : P < B
  c0 : w.cell? ⟨P, 0, none⟩ = some (.slice V.al V.nl V.cl)
  c1 : w.cell? ⟨P, 1, none⟩ = some (.slice V.af V.nf V.cf)
  c2 : w.cell? ⟨P, 2, none⟩ = some (.slice V.aw V.nw V.cw)
  c3 : w.cell? ⟨P, 3, none⟩ = some (.slice AB V.nl cb)
  net : NtAt w B V N
  bx : RowAt 1 boxR w B AB (bxI N m)
  ok : NtOk N
theorem LH.next {w w' : World} {B B' P m cb : Nat} {V : NV} {N : Nt} {AB : Option Addr} (h : LH w B P V N m AB cb) (hb : Below B w w') (hB : B ≤ B') : LH w' B' P V N m AB cb :=
  ⟨Nat.lt_of_lt_of_le h.lt hB, ((bcell hb).1 _ _ h.lt).trans h.c0, ((bcell hb).1 _ _ h.lt).trans h.c1, ((bcell hb).1 _ _ h.lt).trans h.c2, ((bcell hb).1 _ _ h.lt).trans h.c3, h.net.next hb hB, h.bx.next hb hB, h.ok⟩
theorem LH.up {w w' : World} {P m cb : Nat} {V : NV} {N : Nt} {AB : Option Addr} (h : LH w w.heap.size P V N m AB cb) (hb : Below w.heap.size w w') : LH w' w'.heap.size P V N m AB cb := h.next hb hb.size
@[go_sem] theorem fld43 (x y z u : Value) (w : World) : (Instr.field 43 (.agg #[x, y, z, u]) 0).run Try.prog w = .ok x w := by kernel_rfl
@[go_sem] theorem fld47a (x y : Value) (w : World) : (Instr.field 47 (.agg #[x, y]) 0).run Try.prog w = .ok x w := by kernel_rfl
@[go_sem] theorem fld47b (x y : Value) (w : World) : (Instr.field 47 (.agg #[x, y]) 1).run Try.prog w = .ok y w := by kernel_rfl
def coolI (l : Lp) (x lk fr : Int) : Int := x + (hourI l x ⟨lk, fr, false⟩).w
theorem cool_in {l : Lp} (K : LpOk l) {x lk fr : Int} (hx : 0 ≤ x ∧ x ≤ 100000) (Kt : ThOk ⟨lk, fr, false⟩) : 0 ≤ coolI l x lk fr ∧ coolI l x lk fr ≤ x := by
  have h := loss_in K Kt hx
  have e : gainI l ⟨lk, fr, false⟩ = 0 := rfl
  unfold coolI hourI
  simp only
  omega
set_option maxRecDepth 100000 in
set_option maxHeartbeats 4000000 in
theorem cooled_any {w : World} {P m cb : Nat} {V : NV} {N : Nt} {AB : Option Addr} (h : LH w w.heap.size P V N m AB cb) {L : Nat} {l : Lp} (hL : N.lo[L]? = some l) (x lk fr : Int) (hx : 0 ≤ x ∧ x ≤ 100000) (Kt : ThOk ⟨lk, fr, false⟩) :
    Calls Try.prog 100 #[.pointer (some ⟨P, 0, none⟩), .int .i64 L, .int .i64 x, .int .i64 lk, .int .i64 fr] w fun e w' => e = .returned (.int .i64 (coolI l x lk fr)) ∧ Below w.heap.size w w' := by
  obtain ⟨hP, c0, _, _, _, hnet, _, hok⟩ := h
  have hlt : L < N.lo.length := (List.getElem?_eq_some_iff.1 hL).1
  obtain ⟨b, o, hA, hbb, ⟨d0, d1⟩, ⟨d2, d3⟩, ⟨d4, d5⟩, ⟨d6, d7, d8, d9⟩, d10, d11⟩ := lp_el hnet.lo hL
  have KL := hok.lo l (List.mem_of_getElem? hL)
  have hci := cool_in KL hx Kt
  have hml := hnet.ml; have hnl := hnet.nl
  unfold maxLen at hml
  rw [hA] at c0
  have k0 : (0 : Int) ≤ (L : Int) := by omega
  have k1 : (L : Int) < (V.nl : Int) := by omega
  have HK := Lib.hid KL; have HCI := Lib.hid hci
  clear hbb hnet hok KL hci hlt hL
  go_enter Try.func100, Try.ntmps100
  go_wp2_with fail
  refine (hour_any HK.out Kt hx _).mono ?_
  rintro e w' ⟨rfl, hb⟩
  have HB := Lib.hid hb
  have hw9 : wrap64 (x + (hourI l x ⟨lk, fr, false⟩).w) = coolI l x lk fr := w64 (by have := HCI.out; unfold coolI at this; omega)
  clear hb
  go_wp2_with fail
  go_ret
  exact ⟨by simp [hw9], HB.out⟩
set_option maxRecDepth 100000 in
set_option maxHeartbeats 4000000 in
theorem least_any {w : World} {P m cb : Nat} {V : NV} {N : Nt} {AB : Option Addr} (h : LH w w.heap.size P V N m AB cb) {L H : Nat} {l : Lp} {f : Int × Int} (hL : N.lo[L]? = some l) (hH : N.fr[H]? = some f) (x : Int) (hx : 0 ≤ x ∧ x ≤ 100000) :
    Calls Try.prog 97 #[.pointer (some ⟨P, 0, none⟩), .int .i64 L, .int .i64 H, .int .i64 x] w fun e w' => e = .returned (.int .i64 (coolI l x (leakI (m.testBit L) l).2 f.2)) ∧ Below w.heap.size w w' := by
  obtain ⟨hP, c0, c1, _, c3, hnet, hbx, hok⟩ := h
  have hlt : L < N.lo.length := (List.getElem?_eq_some_iff.1 hL).1
  have hlt2 : H < N.fr.length := (List.getElem?_eq_some_iff.1 hH).1
  obtain ⟨b1, o1, rfl, hb1, d0⟩ := bx_el hbx (bxI_at hL)
  obtain ⟨b2, o2, hA2, hb2, e0, e1⟩ := pr_el hnet.fr hH
  have KL := hok.lo l (List.mem_of_getElem? hL)
  have KF := hok.fr f (List.mem_of_getElem? hH)
  have hml := hnet.ml; have hnl := hnet.nl; have hmf := hnet.mf; have hnf := hnet.nf
  unfold maxLen at hml hmf
  rw [hA2] at c1
  obtain ⟨al, nl, cl, af, nf, cf, aw, nw, cw⟩ := V
  simp only at c0 c1 hml hnl hmf hnf c3
  have k0 : (0 : Int) ≤ (L : Int) := by omega
  have k1 : (L : Int) < (nl : Int) := by omega
  have k2 : (0 : Int) ≤ (H : Int) := by omega
  have k3 : (H : Int) < (nf : Int) := by omega
  have LHh : ∀ u : KeptW w, LH u.w u.w.heap.size P ⟨al, nl, cl, af, nf, cf, aw, nw, cw⟩ N m (some ⟨b1, o1, none⟩) cb := fun u => LH.up ⟨hP, c0, by rw [hA2]; exact c1, by assumption, c3, hnet, hbx, hok⟩ u.h
  have a1 : ∀ u : KeptW w, u.w.cell? ⟨P, 1, none⟩ = some (.slice (some ⟨b2, o2, none⟩) nf cf) := fun u => ((bcell u.h).1 _ _ hP).trans c1
  have a3 : ∀ u : KeptW w, u.w.cell? ⟨P, 3, none⟩ = some (.slice (some ⟨b1, o1, none⟩) nl cb) := fun u => ((bcell u.h).1 _ _ hP).trans c3
  have a4 : ∀ u : KeptW w, u.w.cell? ⟨b2, o2 + H * 2 + 1, none⟩ = some (.int .i64 f.2) := fun u => ((bcell u.h).1 _ _ hb2).trans e1
  have KT : ThOk ⟨(leakI (m.testBit L) l).2, f.2, false⟩ := ⟨by unfold leakI; have := KL.l; have := KL.r; split <;> simp only <;> omega, by simp only; omega⟩
  have HC := Lib.hid (fun u : KeptW w => Calls.in_kept u (cooled_any (LHh u) hL x (leakI (m.testBit L) l).2 f.2 hx KT))
  have HBL := Lib.hid (fun u : KeptW w => Calls.in_kept u (bleak_any l u.w))
  have HWL := Lib.hid (fun u : KeptW w => Calls.in_kept u (wleak_any l u.w))
  have d1 : ∀ u : KeptW w, u.w.cell? ⟨b1, o1 + L, none⟩ = some (boxV (m.testBit L) l) := fun u => ((bcell u.h).1 _ _ hb1).trans d0
  clear d0 e0 e1 c0 c1 c3 LHh KT KL KF hnet hbx hok
  obtain ⟨bt, hbt⟩ : ∃ z, m.testBit L = z := ⟨_, rfl⟩
  rw [hbt] at HC d1 ⊢
  cases bt
  all_goals
    simp only [leakI, boxV, Bool.false_eq_true, if_false, if_true] at HC d1 ⊢
    go_enter Try.func97, Try.ntmps97
    go_wp2_with fail
    refine rk_region (by kernel_rfl) (by kernel_rfl) ?_
    repeat (go_big_quiet_step (first | (with_reducible exact HC.out _) | (with_reducible exact HBL.out _) | (with_reducible exact HWL.out _) | fail))
    refine wpQuiet_nil ?_
    rintro _ ⟨⟨wz, hbz⟩, rfl⟩
    have HBZ := Lib.hid hbz
    clear hbz
    go_wp2_with fail
    go_ret
    exact ⟨rfl, HBZ.out⟩
set_option maxRecDepth 100000 in
set_option maxHeartbeats 4000000 in
theorem most_any {w : World} {P m cb : Nat} {V : NV} {N : Nt} {AB : Option Addr} (h : LH w w.heap.size P V N m AB cb) {L H : Nat} {l : Lp} {f : Int × Int} (hL : N.lo[L]? = some l) (hH : N.fr[H]? = some f) (x : Int) (hx : 0 ≤ x ∧ x ≤ 100000) :
    Calls Try.prog 98 #[.pointer (some ⟨P, 0, none⟩), .int .i64 L, .int .i64 H, .int .i64 x] w fun e w' => e = .returned (.int .i64 (coolI l x (leakI (m.testBit L) l).1 f.1)) ∧ Below w.heap.size w w' := by
  obtain ⟨hP, c0, c1, _, c3, hnet, hbx, hok⟩ := h
  have hlt : L < N.lo.length := (List.getElem?_eq_some_iff.1 hL).1
  have hlt2 : H < N.fr.length := (List.getElem?_eq_some_iff.1 hH).1
  obtain ⟨b1, o1, rfl, hb1, d0⟩ := bx_el hbx (bxI_at hL)
  obtain ⟨b2, o2, hA2, hb2, e0, e1⟩ := pr_el hnet.fr hH
  have KL := hok.lo l (List.mem_of_getElem? hL)
  have KF := hok.fr f (List.mem_of_getElem? hH)
  have hml := hnet.ml; have hnl := hnet.nl; have hmf := hnet.mf; have hnf := hnet.nf
  unfold maxLen at hml hmf
  rw [hA2] at c1
  obtain ⟨al, nl, cl, af, nf, cf, aw, nw, cw⟩ := V
  simp only at c0 c1 hml hnl hmf hnf c3
  have k0 : (0 : Int) ≤ (L : Int) := by omega
  have k1 : (L : Int) < (nl : Int) := by omega
  have k2 : (0 : Int) ≤ (H : Int) := by omega
  have k3 : (H : Int) < (nf : Int) := by omega
  have LHh : ∀ u : KeptW w, LH u.w u.w.heap.size P ⟨al, nl, cl, af, nf, cf, aw, nw, cw⟩ N m (some ⟨b1, o1, none⟩) cb := fun u => LH.up ⟨hP, c0, by rw [hA2]; exact c1, by assumption, c3, hnet, hbx, hok⟩ u.h
  have a1 : ∀ u : KeptW w, u.w.cell? ⟨P, 1, none⟩ = some (.slice (some ⟨b2, o2, none⟩) nf cf) := fun u => ((bcell u.h).1 _ _ hP).trans c1
  have a3 : ∀ u : KeptW w, u.w.cell? ⟨P, 3, none⟩ = some (.slice (some ⟨b1, o1, none⟩) nl cb) := fun u => ((bcell u.h).1 _ _ hP).trans c3
  have a4 : ∀ u : KeptW w, u.w.cell? ⟨b2, o2 + H * 2, none⟩ = some (.int .i64 f.1) := fun u => ((bcell u.h).1 _ _ hb2).trans e0
  have KT : ThOk ⟨(leakI (m.testBit L) l).1, f.1, false⟩ := ⟨by unfold leakI; have := KL.l; have := KL.r; split <;> simp only <;> omega, by simp only; omega⟩
  have HC := Lib.hid (fun u : KeptW w => Calls.in_kept u (cooled_any (LHh u) hL x (leakI (m.testBit L) l).1 f.1 hx KT))
  have HBL := Lib.hid (fun u : KeptW w => Calls.in_kept u (bleak_any l u.w))
  have HWL := Lib.hid (fun u : KeptW w => Calls.in_kept u (wleak_any l u.w))
  have d1 : ∀ u : KeptW w, u.w.cell? ⟨b1, o1 + L, none⟩ = some (boxV (m.testBit L) l) := fun u => ((bcell u.h).1 _ _ hb1).trans d0
  clear d0 e0 e1 c0 c1 c3 LHh KT KL KF hnet hbx hok
  obtain ⟨bt, hbt⟩ : ∃ z, m.testBit L = z := ⟨_, rfl⟩
  rw [hbt] at HC d1 ⊢
  cases bt
  all_goals
    simp only [leakI, boxV, Bool.false_eq_true, if_false, if_true] at HC d1 ⊢
    go_enter Try.func98, Try.ntmps98
    go_wp2_with fail
    refine rk_region (by kernel_rfl) (by kernel_rfl) ?_
    repeat (go_big_quiet_step (first | (with_reducible exact HC.out _) | (with_reducible exact HBL.out _) | (with_reducible exact HWL.out _) | fail))
    refine wpQuiet_nil ?_
    rintro _ ⟨⟨wz, hbz⟩, rfl⟩
    have HBZ := Lib.hid hbz
    clear hbz
    go_wp2_with fail
    go_ret
    exact ⟨rfl, HBZ.out⟩
end Go.Proofs.Yticmeeinjkoodaa

namespace Go.Proofs.Yticmeeinjkoodaa
open Go.RowKit

@[go_sem] theorem idx143_0 (x y : Value) (w : World) : (Instr.index 143 (.agg #[x, y]) (.int .i64 0)).run Try.prog w = .ok x w := by kernel_rfl
@[go_sem] theorem idx143_1 (x y : Value) (w : World) : (Instr.index 143 (.agg #[x, y]) (.int .i64 1)).run Try.prog w = .ok y w := by kernel_rfl
@[go_sem] theorem idx133_0 (x y : Value) (w : World) : (Instr.index 133 (.agg #[x, y]) (.int .i64 0)).run Try.prog w = .ok x w := by kernel_rfl
@[go_sem] theorem idx133_1 (x y : Value) (w : World) : (Instr.index 133 (.agg #[x, y]) (.int .i64 1)).run Try.prog w = .ok y w := by kernel_rfl
@[go_sem] theorem idx98_0 (x y : Value) (w : World) : (Instr.index 98 (.agg #[x, y]) (.int .i64 0)).run Try.prog w = .ok x w := by kernel_rfl
@[go_sem] theorem idx98_1 (x y : Value) (w : World) : (Instr.index 98 (.agg #[x, y]) (.int .i64 1)).run Try.prog w = .ok y w := by kernel_rfl
theorem own_ne_type {w : World} {base : Nat} {e T : TypeId} {sz n b : Nat} {v : Value} {xs : List Value} {cs : Array Value} (h : w.ownsRow base e sz v n xs) (k : w.heap[b]? = some (.cells cs T (0, 0))) (hne : e ≠ T) : v.ownBlock ≠ some b := fun hb => by
  obtain ⟨_, cur, hc⟩ := own_at h hb
  rw [k] at hc
  injection hc with hc
  injection hc with _ hc
  exact hne hc.symm
theorem info_parts {e : TypeId} {z : Value} {s b : Nat} (h : (Try.prog.info? e).map (fun i => (i.zero, i.size, i.bytes)) = some (some z, s, b)) : ∃ i, Try.prog.info? e = some i ∧ i.zero = some z ∧ i.size = s ∧ i.bytes = b := by
  obtain ⟨i, hi, hz⟩ := Option.map_eq_some_iff.1 h
  exact ⟨i, hi, congrArg (·.1) hz, congrArg (·.2.1) hz, congrArg (·.2.2) hz⟩
theorem int_info : (Try.prog.info? 3).map (fun i => (i.zero, i.size, i.bytes)) = some (some (.int .i64 0), 1, 8) := by kernel_rfl
theorem two_cells {w : World} {b : Nat} {x y : Value} {T : TypeId} (h : w.heap[b]? = some (.cells #[x, y] T (0, 0))) : w.cell? ⟨b, 0, none⟩ = some x ∧ w.cell? ⟨b, 1, none⟩ = some y := by
  have p0 := cell_of_row w b 0 _ T (0, 0) h
  have p1 := cell_of_row w b 1 _ T (0, 0) h
  simp at p0 p1
  exact ⟨p0, p1⟩
theorem cs_frz {w : World} {b k : Nat} {cs : Array Value} {T : TypeId} (z : w.heap[b]? = some (.cells cs T (0, 0))) : w.frozen? ⟨b, k, none⟩ = false := by simp [World.frozen?, z]
def updF {α : Type} (f : Nat → α) (i : Nat) (y : α) : Nat → α := fun j => if j = i then y else f j
theorem updF_at {α : Type} (f : Nat → α) (i : Nat) (y : α) : updF f i y i = y := if_pos rfl
theorem updF_ne {α : Type} {f : Nat → α} {i j : Nat} {y : α} (h : j ≠ i) : updF f i y j = f j := if_neg h
theorem set2 {w : World} {b i : Nat} {f : Nat → Value} {T : TypeId} (u : Value) (hi : i < 2) (z : w.heap[b]? = some (.cells #[f 0, f 1] T (0, 0))) : (w.setCell ⟨b, i, none⟩ u).heap[b]? = some (.cells #[updF f i u 0, updF f i u 1] T (0, 0)) := by
  rw [blk_set z i u]
  rcases i with _ | _ | i
  · rfl
  · rfl
  · omega
structure ES (w0 wb : World) (base G T : Nat) (LL : Nat → List Int) (v : Nat → Value) (x : Nat → Value) (wr : World) : Prop where
  bel : Below w0.heap.size w0 wr
  sz : base ≤ wr.heap.size
  gw : wr.heap[G]? = some (.cells #[x 0, x 1] 98 (0, 0))
  tw : wr.heap[T]? = some (.cells #[v 0, v 1] 133 (0, 0))
  own : ∀ j, j < 2 → wr.ownsRow base 3 1 (v j) (LL j).length (flatR intR (LL j))
  sep : ∀ j k, j < 2 → k < 2 → j ≠ k → ∀ B, (v j).ownBlock = some B → (v k).ownBlock ≠ some B
  keep : ∀ b, b < base → b ≠ G → b ≠ T → wr.heap[b]? = wb.heap[b]?
  lt : w0.heap.size ≤ G ∧ w0.heap.size ≤ T ∧ G < base ∧ T < base ∧ G ≠ T
theorem ES.below {w0 wb : World} {base G T : Nat} {LL : Nat → List Int} {v x : Nat → Value} {wr wq : World} (h : ES w0 wb base G T LL v x wr) (hb : Below wr.heap.size wr wq) : ES w0 wb base G T LL v x wq :=
  ⟨h.bel.trans (hb.mono h.bel.size), Nat.le_trans h.sz hb.size, (hb.block _ (heapsz h.gw)).trans h.gw, (hb.block _ (heapsz h.tw)).trans h.tw, fun j hj => own_next (h.own j hj) hb, h.sep, fun b hb1 h1 h2 => (hb.block b (Nat.lt_of_lt_of_le hb1 h.sz)).trans (h.keep b hb1 h1 h2), h.lt⟩
theorem ES.warm {w0 wb : World} {base G T i : Nat} {LL : Nat → List Int} {v x : Nat → Value} {wr : World} (h : ES w0 wb base G T LL v x wr) (hi : i < 2) (y : Value) : ES w0 wb base G T LL v (updF x i y) (wr.setCell ⟨G, i, none⟩ y) :=
  ⟨h.bel.setCell (p := ⟨G, i, none⟩) h.lt.1 y, by simpa using h.sz, set2 y hi h.gw, (Below.heap_setCell _ _ _ _ (Ne.symm h.lt.2.2.2.2)).trans h.tw,
   fun j hj => own_of_blocks (h.own j hj) fun B hB => Below.heap_setCell _ _ _ _ (fun e => own_ne_type (h.own j hj) h.gw (by decide) (by rw [hB, e])), h.sep, fun b hb1 h1 h2 => (Below.heap_setCell _ _ _ _ h1).trans (h.keep b hb1 h1 h2), h.lt⟩
theorem ES.push {w0 wb : World} {base G T i : Nat} {LL : Nat → List Int} {v x : Nat → Value} {wr wC : World} {v' : Value} {y : Int} (h : ES w0 wb base G T LL v x wr) (hi : i < 2) (hg : wr.grownBy wC (v i).ownBlock) (ho : wC.ownsRow base 3 1 v' ((LL i).length + 1) (flatR intR (LL i) ++ intR y)) (hf : v'.ownBlock = (v i).ownBlock ∨ ∃ B, v'.ownBlock = some B ∧ wr.heap.size ≤ B) :
    ES w0 wb base G T (updF LL i (LL i ++ [y])) (updF v i v') x (wC.setCell ⟨T, i, none⟩ v') := by
  have hG : wC.heap[G]? = wr.heap[G]? := hg.block _ (heapsz h.gw) (fun e => own_ne_type (h.own i hi) h.gw (by decide) e.symm)
  have hT : wC.heap[T]? = wr.heap[T]? := hg.block _ (heapsz h.tw) (fun e => own_ne_type (h.own i hi) h.tw (by decide) e.symm)
  have hTT := hT.trans h.tw
  have hbw : Below w0.heap.size w0 wC := by
    refine ⟨hg.os.trans h.bel.os, hg.tape.trans h.bel.tape, hg.output.trans h.bel.output, Nat.le_trans h.bel.size hg.size, fun b hb => ?_⟩
    refine (hg.block _ (Nat.lt_of_lt_of_le hb h.bel.size) (fun e => ?_)).trans (h.bel.block b hb)
    have := (own_at (h.own i hi) e.symm).1
    have := h.lt
    omega
  refine ⟨hbw.setCell (p := ⟨T, i, none⟩) h.lt.2.1 v', by simpa using Nat.le_trans h.sz hg.size, (Below.heap_setCell _ _ _ _ h.lt.2.2.2.2).trans (hG.trans h.gw), set2 v' hi hTT, fun j hj => ?_, fun j k hj hk hjk B hB => ?_, fun b hb1 h1 h2 => (Below.heap_setCell _ _ _ _ h2).trans ((hg.block b (Nat.lt_of_lt_of_le hb1 h.sz) (fun e => by have := (own_at (h.own i hi) e.symm).1; omega)).trans (h.keep b hb1 h1 h2)), h.lt⟩
  · by_cases e : j = i
    · subst e
      rw [updF_at, updF_at]
      have e2 : flatR intR (LL j ++ [y]) = flatR intR (LL j) ++ intR y := flatR_snoc _ _ _
      rw [e2, List.length_append]
      exact own_of_blocks ho fun B hB => Below.heap_setCell _ _ _ _ (fun e => own_ne_type ho hTT (by decide) (by rw [hB, e]))
    · rw [updF_ne e, updF_ne e]
      refine own_of_blocks (h.own j hj) fun B hB => (Below.heap_setCell _ _ _ _ (fun e => own_ne_type (h.own j hj) h.tw (by decide) (by rw [hB, e]))).trans ?_
      obtain ⟨_, cur, hc⟩ := own_at (h.own j hj) hB
      exact hg.block _ (heapsz hc) (fun e' => h.sep j i hj hi e B hB e'.symm)
  · have hfr : ∀ k', k' < 2 → k' ≠ i → ∀ B, (v k').ownBlock = some B → v'.ownBlock ≠ some B := fun k' hk' hne B hB hv => by
      rcases hf with hf | ⟨B', hf, hlt⟩
      · rw [hf] at hv
        exact h.sep k' i hk' hi hne B hB hv
      · rw [hf] at hv
        injection hv with hv
        obtain ⟨_, cur, hc⟩ := own_at (h.own k' hk') hB
        have := heapsz hc
        omega
    by_cases e : j = i
    · subst e
      rw [updF_at] at hB
      rw [updF_ne (Ne.symm hjk)]
      exact fun hk2 => hfr k hk (Ne.symm hjk) B hk2 hB
    · rw [updF_ne e] at hB
      by_cases e2 : k = i
      · subst e2
        rw [updF_at]
        exact hfr j hj e B hB
      · rw [updF_ne e2]
        exact h.sep j k hj hk hjk B hB
end Go.Proofs.Yticmeeinjkoodaa

namespace Go.Proofs.Yticmeeinjkoodaa
open Go.RowKit

def sel (i : Nat) (x : Int × Int) : Int := if i = 0 then x.2 else x.1
def startI (i : Nat) (l : Lp) : Int := if i = 0 then l.wl else l.wh
/-- The least (0) or the greatest (1) warmth after some hours. -/
def wK (l : Lp) (b : Bool) (fr : List (Int × Int)) (i : Nat) : Nat → Int
  | 0 => startI i l
  | k + 1 => coolI l (wK l b fr i k) (sel i (leakI b l)) (sel i (fr.getD k (0, 0)))
def endL (l : Lp) (b : Bool) (fr : List (Int × Int)) (i : Nat) : List Int := (List.range fr.length).map fun k => wK l b fr i (k + 1)
theorem th_any {N : Nt} (K : NtOk N) {l : Lp} (hl : l ∈ N.lo) (b : Bool) (i : Nat) {f : Int × Int} (hf : f ∈ N.fr) : ThOk ⟨sel i (leakI b l), sel i f, false⟩ := by
  have KL := K.lo l hl
  have KF := K.fr f hf
  have h1 := KL.l; have h2 := KL.r
  refine ⟨?_, ?_⟩
  · unfold sel leakI
    split <;> split <;> simp only <;> omega
  · unfold sel
    simp only
    split <;> omega
theorem wK_in {N : Nt} (K : NtOk N) {l : Lp} (hl : l ∈ N.lo) (b : Bool) (i : Nat) : ∀ k, k ≤ N.fr.length → 0 ≤ wK l b N.fr i k ∧ wK l b N.fr i k ≤ 1000
  | 0, _ => by
    have h1 := (K.lo l hl).w
    unfold wK startI
    split <;> omega
  | k + 1, hk => by
    have h := wK_in K hl b i k (by omega)
    obtain ⟨f, hf⟩ := get_of_lt (l := N.fr) (k := k) (by omega)
    have hc := cool_in (K.lo l hl) (x := wK l b N.fr i k) (by omega) (th_any K hl b i (List.mem_of_getElem? hf))
    have e : N.fr.getD k (0, 0) = f := by rw [List.getD_eq_getElem?_getD, hf]; rfl
    unfold wK
    rw [e]
    omega
theorem step_any {w : World} {P m cb : Nat} {V : NV} {N : Nt} {AB : Option Addr} (h : LH w w.heap.size P V N m AB cb) {L H : Nat} {l : Lp} {f : Int × Int} (hL : N.lo[L]? = some l) (hH : N.fr[H]? = some f) (x : Int) (hx : 0 ≤ x ∧ x ≤ 100000) {i : Nat} (hi : i < 2) :
    Calls Try.prog (97 + i) #[.pointer (some ⟨P, 0, none⟩), .int .i64 L, .int .i64 H, .int .i64 x] w fun e w' => e = .returned (.int .i64 (coolI l x (sel i (leakI (m.testBit L) l)) (sel i f))) ∧ Below w.heap.size w w' := by
  rcases i with _ | _ | i
  · exact least_any h hL hH x hx
  · exact most_any h hL hH x hx
  · omega
def enCv (P : Nat) (al : Value) (L : Nat) (b o : Nat) (wl wh : Int) : Tmp → Value
  | 0 => .pointer (some ⟨P, 0, none⟩)
  | 1 => .int .i64 L
  | 16 => .pointer (some ⟨P, 0, none⟩)
  | 17 => .pointer (some ⟨P, 0, none⟩)
  | 18 => .pointer (some ⟨P, 0, none⟩)
  | 19 => .pointer (some ⟨P, 0, none⟩)
  | 20 => al
  | 21 => .int .i64 L
  | 22 => .pointer (some ⟨b, o + L * 12, none⟩)
  | 23 => .pointer (some ⟨b, o + L * 12, none⟩)
  | 24 => .pointer (some ⟨b, o + L * 12, none⟩)
  | 25 => .int .i64 wl
  | 26 => .pointer (some ⟨P, 0, none⟩)
  | 27 => .pointer (some ⟨P, 0, none⟩)
  | 28 => .pointer (some ⟨P, 0, none⟩)
  | 29 => .pointer (some ⟨P, 0, none⟩)
  | 30 => al
  | 31 => .int .i64 L
  | 32 => .pointer (some ⟨b, o + L * 12, none⟩)
  | 33 => .pointer (some ⟨b, o + L * 12, none⟩)
  | 34 => .pointer (some ⟨b, o + L * 12 + 1, none⟩)
  | 35 => .int .i64 wh
  | 36 => .agg #[.int .i64 wl, .int .i64 wh]
  | _ => undef
def fv (P i : Nat) : Value := .func (.func (97 + i)) #[.pointer (some ⟨P, 0, none⟩)] #[]
theorem fill2 {w : World} {b : Nat} {x y : Value} {T : TypeId} (u v : Value) (z : w.heap[b]? = some (.cells #[x, y] T (0, 0))) : ((w.setCell ⟨b, 0, none⟩ u).setCell ⟨b, 1, none⟩ v).heap[b]? = some (.cells #[u, v] T (0, 0)) := by
  rw [blk_set (blk_set z 0 _) 1 _]
  rfl
theorem bel_fill2 {w w' : World} {n b : Nat} {x y : Value} (h : Below n w w') (hb : n ≤ b) : Below n w ((w'.setCell ⟨b, 0, none⟩ x).setCell ⟨b, 1, none⟩ y) := (h.setCell (p := ⟨b, 0, none⟩) hb x).setCell (p := ⟨b, 1, none⟩) hb y
theorem oth_fill2 {w : World} {b c : Nat} {x y : Value} (hne : c ≠ b) : ((w.setCell ⟨b, 0, none⟩ x).setCell ⟨b, 1, none⟩ y).heap[c]? = w.heap[c]? := (Below.heap_setCell _ _ _ _ hne).trans (Below.heap_setCell _ _ _ _ hne)
def LLk (l : Lp) (b : Bool) (fr : List (Int × Int)) (i k : Nat) : Nat → List Int := fun j => if j < i then endL l b fr j else if j = i then (endL l b fr i).take k else []
def xk (l : Lp) (b : Bool) (fr : List (Int × Int)) (i k : Nat) : Nat → Value := fun j => .int .i64 (wK l b fr j (if j < i then fr.length else if j = i then k else 0))
theorem endL_at {l : Lp} {b : Bool} {fr : List (Int × Int)} {i k : Nat} (h : k < fr.length) : (endL l b fr i)[k]? = some (wK l b fr i (k + 1)) := by
  unfold endL
  rw [List.getElem?_map, List.getElem?_range h]
  rfl
theorem endL_len {l : Lp} {b : Bool} {fr : List (Int × Int)} {i : Nat} : (endL l b fr i).length = fr.length := by simp [endL]
theorem LLk_zero (l : Lp) (b : Bool) (fr : List (Int × Int)) : LLk l b fr 0 0 = fun _ => [] := by
  funext j
  simp [LLk]
theorem xk_zero (l : Lp) (b : Bool) (fr : List (Int × Int)) : xk l b fr 0 0 = fun j => .int .i64 (startI j l) := by
  funext j
  simp [xk, wK]
theorem LLk_at (l : Lp) (b : Bool) (fr : List (Int × Int)) (i k : Nat) : LLk l b fr i k i = (endL l b fr i).take k := by simp [LLk]
theorem xk_at (l : Lp) (b : Bool) (fr : List (Int × Int)) (i k : Nat) : xk l b fr i k i = .int .i64 (wK l b fr i k) := by simp [xk]
theorem LLk_succ {l : Lp} {b : Bool} {fr : List (Int × Int)} {i k : Nat} (h : k < fr.length) : LLk l b fr i (k + 1) = updF (LLk l b fr i k) i (LLk l b fr i k i ++ [wK l b fr i (k + 1)]) := by
  funext j
  by_cases e : j = i
  · subst e
    rw [updF_at, LLk_at, LLk_at, List.take_add_one, endL_at h]
    rfl
  · rw [updF_ne e]
    simp [LLk, e]
theorem xk_succ {l : Lp} {b : Bool} {fr : List (Int × Int)} {i k : Nat} : xk l b fr i (k + 1) = updF (xk l b fr i k) i (.int .i64 (wK l b fr i (k + 1))) := by
  funext j
  by_cases e : j = i
  · subst e
    rw [updF_at, xk_at]
  · rw [updF_ne e]
    simp [xk, e]
theorem LLk_next (l : Lp) (b : Bool) (fr : List (Int × Int)) (i : Nat) : LLk l b fr i fr.length = LLk l b fr (i + 1) 0 := by
  funext j
  unfold LLk
  by_cases h1 : j < i
  · rw [if_pos h1, if_pos (by omega)]
  · by_cases h2 : j = i
    · subst h2
      rw [if_neg h1, if_pos rfl, if_pos (by omega), ← endL_len (l := l) (b := b) (fr := fr) (i := j), List.take_length]
    · rw [if_neg h1, if_neg h2, if_neg (by omega)]
      simp
theorem xk_next (l : Lp) (b : Bool) (fr : List (Int × Int)) (i : Nat) : xk l b fr i fr.length = xk l b fr (i + 1) 0 := by
  funext j
  unfold xk
  by_cases h1 : j < i
  · rw [if_pos h1, if_pos (by omega)]
  · by_cases h2 : j = i
    · subst h2
      rw [if_neg h1, if_pos rfl, if_pos (by omega)]
    · rw [if_neg h1, if_neg h2, if_neg (by omega)]
      split <;> rfl
theorem ES.gcell {w0 wb : World} {base G T i : Nat} {LL : Nat → List Int} {v x : Nat → Value} {wr : World} (h : ES w0 wb base G T LL v x wr) (hi : i < 2) : wr.cell? ⟨G, i, none⟩ = some (x i) := by
  rcases i with _ | _ | i
  · exact (two_cells h.gw).1
  · exact (two_cells h.gw).2
  · omega
theorem ES.tcell {w0 wb : World} {base G T i : Nat} {LL : Nat → List Int} {v x : Nat → Value} {wr : World} (h : ES w0 wb base G T LL v x wr) (hi : i < 2) : wr.cell? ⟨T, i, none⟩ = some (v i) := by
  rcases i with _ | _ | i
  · exact (two_cells h.tw).1
  · exact (two_cells h.tw).2
  · omega
theorem RowIs.low {α : Type} {R : α → List Value} {eT : TypeId} {B B' : Nat} {row : List α} {v : Value} {w : World} (h : RowIs R eT B row v w) (hB : B' ≤ B) : RowIs R eT B' row v w := by
  rcases h with h | ⟨b, c, h1, h2, h3⟩
  · exact .inl h
  · exact .inr ⟨b, c, h1, Nat.le_trans hB h2, h3⟩
theorem RowIs.below {α : Type} {R : α → List Value} {eT : TypeId} {B : Nat} {row : List α} {v : Value} {w w' : World} (h : RowIs R eT B row v w) (hb : Below w.heap.size w w') : RowIs R eT B row v w' := h.keep fun b _ _ hx => (hb.block b (heapsz hx)).trans hx
def apCv (G T i : Nat) (ii : Int) (vi : Value) (y : Int) : Tmp → Value
  | 6 => .pointer (some ⟨G, 0, none⟩)
  | 7 => .pointer (some ⟨T, 0, none⟩)
  | 8 => .int .i64 ii
  | 60 => .int .i64 ii
  | 61 => .int .i64 ii
  | 62 => .pointer (some ⟨T, i, none⟩)
  | 63 => vi
  | 64 => .int .i64 ii
  | 65 => .pointer (some ⟨G, i, none⟩)
  | 66 => .int .i64 y
  | 69 => .pointer (some ⟨T, i, none⟩)
  | _ => undef
attribute [local irreducible] QT
set_option maxRecDepth 100000 in
set_option maxHeartbeats 4000000 in
theorem ends_any {w : World} {P m cb : Nat} {V : NV} {N : Nt} {AB : Option Addr} (h : LH w w.heap.size P V N m AB cb) {L : Nat} {l : Lp} (hL : N.lo[L]? = some l) :
    Calls Try.prog 87 #[.pointer (some ⟨P, 0, none⟩), .int .i64 L] w fun e w' => ∃ v0 v1, e = .returned (.agg #[v0, v1]) ∧ Below w.heap.size w w' ∧ RowIs intR 3 w.heap.size (endL l (m.testBit L) N.fr 0) v0 w' ∧ RowIs intR 3 w.heap.size (endL l (m.testBit L) N.fr 1) v1 w' := by
  have HH := Lib.hid h; have HL := Lib.hid hL
  obtain ⟨hP, c0, c1, _, c3, hnet, hbx, hok⟩ := h
  have hlt : L < N.lo.length := (List.getElem?_eq_some_iff.1 hL).1
  obtain ⟨b, o, hA, hbb, ⟨d0, d1⟩, _⟩ := lp_el hnet.lo hL
  have hml := hnet.ml; have hnl := hnet.nl; have hmf := hnet.mf; have hnf := hnet.nf
  unfold maxLen at hml hmf
  rw [hA] at c0
  have k0 : (0 : Int) ≤ (L : Int) := by omega
  have k1 : (L : Int) < (V.nl : Int) := by omega
  have hok72 := hok.h72
  clear hnet hok hbx c3
  obtain ⟨hR2, h52, hb2⟩ := two_new w (.cells #[.slice none 0 0, .slice none 0 0] 133) (.cells #[.func (.func 97) #[.pointer (some ⟨P, 0, none⟩)] #[], .func (.func 98) #[.pointer (some ⟨P, 0, none⟩)] #[]] 143)
  obtain ⟨w2, hw2⟩ : ∃ z, (w.alloc (.cells #[.slice none 0 0, .slice none 0 0] 133)).alloc (.cells #[.func (.func 97) #[.pointer (some ⟨P, 0, none⟩)] #[], .func (.func 98) #[.pointer (some ⟨P, 0, none⟩)] #[]] 143) = z := ⟨_, rfl⟩
  rw [hw2] at hR2 h52 hb2
  have HR2 := Lib.hid hR2; have H52 := Lib.hid h52; have HB2 := Lib.hid hb2; have HW := Lib.hid hw2
  have HLH2 := Lib.hid (HH.out.up hb2)
  have q0 := ((bcell hb2).1 _ _ hP).trans c0
  have q1 := ((bcell hb2).1 _ _ hbb).trans d0
  have q2 := ((bcell hb2).1 _ _ hbb).trans d1
  have LP : P < w2.heap.size := Nat.lt_of_lt_of_le hP hb2.size
  have Lb : b < w2.heap.size := Nat.lt_of_lt_of_le hbb hb2.size
  clear c0 c1 d0 d1 hR2 h52 hb2 hw2 hL
  go_enter Try.func87, Try.ntmps87
  go_wp2_with fail
  rw [HW.out]
  apply tail_regionX
  case hs => exact (rfl : _ = [_, _, _, _, _, _, _, _, _, _, _, _, _, _, _, _, _, _, _, _, _, _] ++ [_])
  case hm => kernel_rfl
  case hT => kernel_rfl
  refine rel_any [0, 1] [(6, 21)] (enCv P (.slice (some ⟨b, o, none⟩) V.nl V.cl) L b o l.wl l.wh) (mkF 21 w2.heap.size (fun g => .pointer (some ⟨g, 0, none⟩)) 98 #[.int .i64 0, .int .i64 0]) (by kernel_rfl) (by kernel_rfl) (by kernel_rfl) (by kernel_rfl) (by kernel_rfl) ?_ (fun i v w1 w2 h hb => mkF_keep _ _ _ _ _ i v w1 w2 h hb) ?_ ?_
  · intro t ht
    simp only [List.mem_cons, List.not_mem_nil, or_false] at ht
    rcases ht with rfl | rfl <;> rfl
  · refine allOps_array ?_
    refine ⟨?_, ?_, ?_, ?_, ?_, ?_, ?_, ?_, ?_, ?_, ?_, ?_, ?_, ?_, ?_, ?_, ?_, ?_, ?_, ?_, ?_, ?_, trivial⟩ <;> intro g u hd_ <;> have q := (bcell u.h).1
    · refine ⟨rfl, relQ 16 rfl (mkF_other (by decide)) ?_⟩
      simp [go_sem, evalBy, rhoT, relOf, enCv]
    · refine ⟨rfl, relQ 17 rfl (mkF_other (by decide)) ?_⟩
      simp [go_sem, evalBy, rhoT, relOf, enCv]
    · refine ⟨rfl, relQ 18 rfl (mkF_other (by decide)) ?_⟩
      simp [go_sem, evalBy, rhoT, relOf, enCv]
    · refine ⟨rfl, relQ 19 rfl (mkF_other (by decide)) ?_⟩
      simp [go_sem, evalBy, rhoT, relOf, enCv]
    · refine ⟨rfl, relQ 20 rfl (mkF_other (by decide)) ?_⟩
      simp [go_sem, evalBy, rhoT, relOf, enCv, (q _ _ LP).trans q0]
    · refine ⟨rfl, relQ 21 rfl (mkF_other (by decide)) ?_⟩
      simp [go_sem, evalBy, rhoT, relOf, enCv]
    · refine ⟨rfl, relQ 22 rfl (mkF_other (by decide)) ?_⟩
      simp [go_sem, evalBy, rhoT, relOf, enCv, k0, k1]
    · refine ⟨rfl, relQ 23 rfl (mkF_other (by decide)) ?_⟩
      simp [go_sem, evalBy, rhoT, relOf, enCv]
    · refine ⟨rfl, relQ 24 rfl (mkF_other (by decide)) ?_⟩
      simp [go_sem, evalBy, rhoT, relOf, enCv]
    · refine ⟨rfl, relQ 25 rfl (mkF_other (by decide)) ?_⟩
      simp [go_sem, evalBy, rhoT, relOf, enCv, (q _ _ Lb).trans q1]
    · refine ⟨rfl, relQ 26 rfl (mkF_other (by decide)) ?_⟩
      simp [go_sem, evalBy, rhoT, relOf, enCv]
    · refine ⟨rfl, relQ 27 rfl (mkF_other (by decide)) ?_⟩
      simp [go_sem, evalBy, rhoT, relOf, enCv]
    · refine ⟨rfl, relQ 28 rfl (mkF_other (by decide)) ?_⟩
      simp [go_sem, evalBy, rhoT, relOf, enCv]
    · refine ⟨rfl, relQ 29 rfl (mkF_other (by decide)) ?_⟩
      simp [go_sem, evalBy, rhoT, relOf, enCv]
    · refine ⟨rfl, relQ 30 rfl (mkF_other (by decide)) ?_⟩
      simp [go_sem, evalBy, rhoT, relOf, enCv, (q _ _ LP).trans q0]
    · refine ⟨rfl, relQ 31 rfl (mkF_other (by decide)) ?_⟩
      simp [go_sem, evalBy, rhoT, relOf, enCv]
    · refine ⟨rfl, relQ 32 rfl (mkF_other (by decide)) ?_⟩
      simp [go_sem, evalBy, rhoT, relOf, enCv, k0, k1]
    · refine ⟨rfl, relQ 33 rfl (mkF_other (by decide)) ?_⟩
      simp [go_sem, evalBy, rhoT, relOf, enCv]
    · refine ⟨rfl, relQ 34 rfl (mkF_other (by decide)) ?_⟩
      simp [go_sem, evalBy, rhoT, relOf, enCv]
    · refine ⟨rfl, relQ 35 rfl (mkF_other (by decide)) ?_⟩
      simp [go_sem, evalBy, rhoT, relOf, enCv, (q _ _ Lb).trans q2]
    · refine ⟨rfl, relQ 36 rfl (mkF_other (by decide)) ?_⟩
      simp [go_sem, evalBy, rhoT, relOf, enCv]
    · refine ⟨rfl, relA (.pointer (some ⟨u.w.heap.size, 0, none⟩)) (.cells #[.int .i64 0, .int .i64 0] 98) (fun d hd => by injection hd with hd; subst hd; decide) ?_ (mkF_new (f := fun g => .pointer (some ⟨g, 0, none⟩)) u.h.size)⟩
      simp [go_sem]
  · intro g u hu
    obtain ⟨G, e2, hG, hz⟩ := hu 21 (by decide) rfl
    have HZG := Lib.hid hz
    have HBU := Lib.hid (HB2.out.trans (u.h.mono HB2.out.size))
    have HZR := Lib.hid ((u.h.block _ (heapsz HR2.out)).trans HR2.out)
    have HZ5 := Lib.hid ((u.h.block _ (heapsz H52.out)).trans H52.out)
    have HLU := Lib.hid (HLH2.out.up u.h)
    have HG := Lib.hid hG
    have f0 := cs_frz (k := 0) hz; have f1 := cs_frz (k := 1) hz
    obtain ⟨p0, p1⟩ := two_cells hz
    clear hu hz q0 q1 q2 LP Lb HW hG
    simp only [QT]
    unfold Oper.wp
    simp [go_sem, putAll, Act.put, rhoT, relOf, enCv, f0, f1, p0, p1, e2]
    have hz3 := fill2 (.int .i64 l.wl) (.int .i64 l.wh) HZG.out
    have hb3 := bel_fill2 (x := .int .i64 l.wl) (y := .int .i64 l.wh) (b := G) HBU.out (by have := HG.out; have := HB2.out.size; omega)
    have hR3 := (oth_fill2 (x := .int .i64 l.wl) (y := .int .i64 l.wh) (b := G) (c := w.heap.size) (by have := HG.out; have := heapsz HR2.out; omega)).trans HZR.out
    have h53 := (oth_fill2 (x := .int .i64 l.wl) (y := .int .i64 l.wh) (b := G) (c := w.heap.size + 1) (by have := HG.out; have := heapsz H52.out; omega)).trans HZ5.out
    generalize ((u.w.setCell ⟨G, 0, none⟩ (.int .i64 l.wl)).setCell ⟨G, 1, none⟩ (.int .i64 l.wh)) = w3 at hz3 hb3 hR3 h53 ⊢
    have hRG : w.heap.size ≠ G := by have := HG.out; have := heapsz HR2.out; omega
    have hGw : w.heap.size ≤ G := by have := HG.out; have := HB2.out.size; omega
    clear f0 f1 p0 p1 HZG HBU HZR HZ5 HLU HG HR2 H52 HB2 HLH2 u e2
    have zT := heap_alloc_new w3 (.cells #[.slice none 0 0, .slice none 0 0] 133)
    have hbT := (Below.refl w3.heap.size w3).alloc (Nat.le_refl _) (.cells #[.slice none 0 0, .slice none 0 0] 133)
    obtain ⟨w4, hw4⟩ : ∃ z, w3.alloc (.cells #[.slice none 0 0, .slice none 0 0] 133) = z := ⟨_, rfl⟩
    rw [hw4] at zT hbT
    have hG3 := heapsz hz3
    have hE : ES w w4 w4.heap.size G w3.heap.size (fun _ => []) (fun _ => .slice none 0 0) (fun j => .int .i64 (startI j l)) w4 :=
      ⟨hb3.trans (hbT.mono hb3.size), Nat.le_refl _, (hbT.block _ hG3).trans hz3, zT, fun j _ => World.ownsRow_nil _ _ _ _, fun j k _ _ _ B hB => by simp [Value.ownBlock] at hB, fun _ _ _ _ => rfl, hGw, hb3.size, Nat.lt_of_lt_of_le hG3 hbT.size, heapsz zT, by omega⟩
    have HE := Lib.hid hE
    have HLH4 := Lib.hid (HH.out.up (hb3.trans (hbT.mono hb3.size)))
    have HR4 := Lib.hid ((hbT.block _ (heapsz hR3)).trans hR3)
    have H54 := Lib.hid ((hbT.block _ (heapsz h53)).trans h53)
    obtain ⟨g0, g1⟩ := two_cells h53
    have hlz := heapsz h53
    have HW4 := Lib.hid hw4
    have hGT : w3.heap.size ≠ G := by omega
    have hRT : w.heap.size ≠ w3.heap.size := by have := heapsz hR3; omega
    clear hz3 hb3 hR3 zT hbT hw4 hE h53 hG3
    go_wp2_with fail
    rw [HW4.out]
    obtain ⟨bt, hbt⟩ : ∃ z, m.testBit L = z := ⟨_, rfl⟩
    have HBT := Lib.hid hbt
    have HNF := Lib.hid hnf
    have HK72 := Lib.hid hok72
    clear hbt hlz g0 g1 HW4 hnf hok72
    go_loopw [38] (fun ii wr => ∃ i : Nat, i ≤ 2 ∧ ii = .int .i64 i ∧ ∃ v, ES w w4 w4.heap.size G w3.heap.size (LLk l bt N.fr i 0) v (xk l bt N.fr i 0) wr) (fun ii _ => 2 - (intOf ii).toNat)
    case atStart => exact ⟨0, by omega, rfl, _, by rw [LLk_zero, xk_zero]; exact HE.out⟩
    case round =>
      obtain ⟨i, hi, rfl, v, hES⟩ := hrel
      have HES := Lib.hid hES
      clear hES
      by_cases hi2 : i < 2
      · have hi3 : i = 0 ∨ i = 1 := by omega
        rcases hi3 with rfl | rfl
        · have c1 := (HH.out.up HES.out.bel).c1
          rw [show ((0 : Nat) : Int) = 0 from rfl]
          go_wp2_with fail
          go_loopw [48] (fun hh wq => ∃ k : Nat, k ≤ V.nf ∧ hh = .int .i64 k ∧ ∃ v, ES w w4 w4.heap.size G w3.heap.size (LLk l bt N.fr 0 k) v (xk l bt N.fr 0 k) wq) (fun hh _ => V.nf - (intOf hh).toNat)
          case atStart => exact ⟨0, by omega, rfl, v, HES.out⟩
          case round =>
            obtain ⟨k, hk, rfl, v', hES'⟩ := hrel
            have HEI := Lib.hid hES'
            clear hES' c1
            by_cases hlt2 : k < V.nf
            · have k4 : (k : Int) < (V.nf : Int) := by omega
              obtain ⟨f, hf⟩ := get_of_lt (l := N.fr) (k := k) (by rw [HNF.out]; exact hlt2)
              have p := (HEI.out.gcell (i := 0) (by omega)).trans (congrArg some (xk_at l bt N.fr 0 k))
              have hst := step_any (i := 0) (HH.out.up HEI.out.bel) HL.out hf (wK l bt N.fr 0 k) (by have := wK_in HH.out.ok (List.mem_of_getElem? HL.out) bt 0 k (by rw [HNF.out]; omega); omega) (by omega)
              have hwk : coolI l (wK l bt N.fr 0 k) (sel 0 (leakI bt l)) (sel 0 f) = wK l bt N.fr 0 (k + 1) := by
                show _ = coolI l (wK l bt N.fr 0 k) (sel 0 (leakI bt l)) (sel 0 (N.fr.getD k (0, 0)))
                rw [List.getD_eq_getElem?_getD, hf]
                rfl
              rw [HBT.out, hwk] at hst
              have HST := Lib.hid hst
              obtain ⟨y, hy⟩ : ∃ z, wK l bt N.fr 0 (k + 1) = z := ⟨_, rfl⟩
              have HY := Lib.hid hy
              rw [hy] at HST
              obtain ⟨xo, hxo⟩ : ∃ z, wK l bt N.fr 0 k = z := ⟨_, rfl⟩
              rw [hxo] at HST p
              clear hst hf hwk hy hxo
              go_wp2_with fail
              refine HST.out.mono ?_
              rintro e w5 ⟨rfl, hb5⟩
              have HE5 := Lib.hid (HEI.out.below hb5)
              have f0 := cs_frz (k := 0) HE5.out.gw
              have p5 := HE5.out.gcell (i := 0) (by omega)
              clear hb5 p HST
              go_wp2_with fail
              have hE6 := HE5.out.warm (i := 0) (by omega) (.int .i64 y)
              generalize w5.setCell ⟨G, 0, none⟩ (.int .i64 y) = w6 at hE6 ⊢
              have HE6 := Lib.hid hE6
              have p6 : w6.cell? ⟨G, 0, none⟩ = some (.int .i64 y) := (hE6.gcell (i := 0) (by omega)).trans (congrArg some (updF_at _ _ _))
              have t6 := hE6.tcell (i := 0) (by omega)
              have LG := heapsz hE6.gw; have LT := heapsz hE6.tw
              have hoi := hE6.own 0 (by omega)
              have nG : some G ≠ (v' 0).ownBlock := fun e => own_ne_type hoi hE6.gw (by decide) e.symm
              have nT : some w3.heap.size ≠ (v' 0).ownBlock := fun e => own_ne_type hoi hE6.tw (by decide) e.symm
              have hlen : (LLk l bt N.fr 0 k 0).length ≤ 72 := by rw [LLk_at, List.length_take]; have := HK72.out; have := HNF.out; omega
              have HLEN := Lib.hid hlen
              obtain ⟨i0, hi0, hz0, hz1, hz2⟩ := info_parts int_info
              have hlow := hE6.sz
              clear f0 p5 HEI HE5 hE6 hlen
              apply tail_regionX
              case hs => exact (rfl : _ = [_, _, _, _, _, _, _, _, _, _] ++ [_])
              case hm => kernel_rfl
              case hT => kernel_rfl
              refine plan_guarded_any (γ := GhE) [6, 7, 8] (rhoO 67 68 (apCv G w3.heap.size 0 0 (v' 0) y)) (SL ⟨w6, w4.heap.size, 3, 1, (LLk l bt N.fr 0 k 0).length, v' 0, flatR intR (LLk l bt N.fr 0 k 0), intR y, 7, 8⟩) ⟨fun _ => undef, fun _ => undef⟩ (by kernel_rfl) (by kernel_rfl) (by kernel_rfl) (by kernel_rfl) ?_ (SL.start hoi hlow (by decide)) ?_ ?_
              · intro t ht
                simp only [List.mem_cons, List.not_mem_nil, or_false] at ht
                rcases ht with rfl | rfl | rfl <;> rfl
              · refine allOps_array ?_
                refine ⟨?_, ?_, ?_, ?_, ?_, ?_, ?_, ?_, ?_, ?_, trivial⟩ <;> intro done g wS hS hu hdep _ <;> have s6 := (hS.cell LG nG (o := 0)).trans p6 <;> have s7 := (hS.cell LT nT (o := 0)).trans t6
                · refine quietL hS 60 rfl (by simp) (by simp) rfl ?_
                  simp [go_sem, evalBy, rhoO, apCv]
                · refine quietL hS 61 rfl (by simp) (by simp) rfl ?_
                  simp [go_sem, evalBy, rhoO, apCv]
                · refine quietL hS 62 rfl (by simp) (by simp) rfl ?_
                  simp [go_sem, evalBy, rhoO, apCv]
                · refine quietL hS 63 rfl (by simp) (by simp) rfl ?_
                  simp [go_sem, evalBy, rhoO, apCv, s7]
                · refine quietL hS 64 rfl (by simp) (by simp) rfl ?_
                  simp [go_sem, evalBy, rhoO, apCv]
                · refine quietL hS 65 rfl (by simp) (by simp) rfl ?_
                  simp [go_sem, evalBy, rhoO, apCv]
                · refine quietL hS 66 rfl (by simp) (by simp) rfl ?_
                  simp [go_sem, evalBy, rhoO, apCv, s6]
                · refine buildL hS 67 rfl rfl rfl ?_ (fun _ => rfl) (fun t b' ht => rhoO_b t b' ht)
                  simp [go_sem, evalBy, rhoO, apCv, intR]
                · exact appendL hS 68 rfl rfl hu (hdep ⟨7, .data⟩ (by simp) rfl) rfl 63 67 57 rfl rfl rfl i0 _ 8 Try.underlying57 hi0 hz0 hz1 hz2 rfl (by show 0 < 1; decide) rfl (by simp [Value.oneCell', intR]) (by unfold maxLen; show (LLk l bt N.fr 0 k 0).length + 1 ≤ _; have := HLEN.out; omega) (by show ((LLk l bt N.fr 0 k 0).length + 1) * 8 ≤ _; have := HLEN.out; omega) (fun _ => rfl) (fun t c' ht => rhoO_c t c' ht)
                · refine quietL hS 69 rfl (by simp) (by simp) rfl ?_
                  simp [go_sem, evalBy, rhoO, apCv]
              · intro g wC hS
                have hA := SL.after hS (show 8 < _ by decide)
                obtain ⟨gb, cg, ev, _⟩ := hA.2.1.form (by omega)
                have hp := HE6.out.push (i := 0) (by omega) hA.1 hA.2.1 hA.2.2
                have zT := (hA.1.block _ LT nT).trans HE6.out.tw
                have fT := cs_frz (k := 0) zT
                obtain ⟨t0, t1⟩ := two_cells zT
                rw [ev] at hp
                have HP := Lib.hid hp
                clear hA hS hp zT p6 t6
                simp only [QT]
                unfold Oper.wp
                simp [go_sem, putAll, Act.put, rhoO, apCv, fT, t0, ev]
                generalize wC.setCell ⟨w3.heap.size, 0, none⟩ (.slice (some ⟨gb, 0, none⟩) ((LLk l bt N.fr 0 k 0).length + 1) cg) = w7 at HP ⊢
                clear fT t0 t1 ev
                go_wp2_with fail
                exact ⟨⟨k + 1, by omega, rfl, _, by rw [LLk_succ (by rw [HNF.out]; exact hlt2), xk_succ, HY.out]; exact HP.out⟩, by simp [intOf]; omega⟩
            · obtain rfl : k = V.nf := by omega
              have k4 : ¬ (V.nf : Int) < (V.nf : Int) := by omega
              go_wp2_with fail
              exact ⟨⟨0 + 1, by omega, rfl, v', by rw [← LLk_next, ← xk_next, HNF.out]; exact HEI.out⟩, by simp [intOf]⟩
        · have c1 := (HH.out.up HES.out.bel).c1
          rw [show ((1 : Nat) : Int) = 1 from rfl]
          go_wp2_with fail
          go_loopw [48] (fun hh wq => ∃ k : Nat, k ≤ V.nf ∧ hh = .int .i64 k ∧ ∃ v, ES w w4 w4.heap.size G w3.heap.size (LLk l bt N.fr 1 k) v (xk l bt N.fr 1 k) wq) (fun hh _ => V.nf - (intOf hh).toNat)
          case atStart => exact ⟨0, by omega, rfl, v, HES.out⟩
          case round =>
            obtain ⟨k, hk, rfl, v', hES'⟩ := hrel
            have HEI := Lib.hid hES'
            clear hES' c1
            by_cases hlt2 : k < V.nf
            · have k4 : (k : Int) < (V.nf : Int) := by omega
              obtain ⟨f, hf⟩ := get_of_lt (l := N.fr) (k := k) (by rw [HNF.out]; exact hlt2)
              have p := (HEI.out.gcell (i := 1) (by omega)).trans (congrArg some (xk_at l bt N.fr 1 k))
              have hst := step_any (i := 1) (HH.out.up HEI.out.bel) HL.out hf (wK l bt N.fr 1 k) (by have := wK_in HH.out.ok (List.mem_of_getElem? HL.out) bt 1 k (by rw [HNF.out]; omega); omega) (by omega)
              have hwk : coolI l (wK l bt N.fr 1 k) (sel 1 (leakI bt l)) (sel 1 f) = wK l bt N.fr 1 (k + 1) := by
                show _ = coolI l (wK l bt N.fr 1 k) (sel 1 (leakI bt l)) (sel 1 (N.fr.getD k (0, 0)))
                rw [List.getD_eq_getElem?_getD, hf]
                rfl
              rw [HBT.out, hwk] at hst
              have HST := Lib.hid hst
              obtain ⟨y, hy⟩ : ∃ z, wK l bt N.fr 1 (k + 1) = z := ⟨_, rfl⟩
              have HY := Lib.hid hy
              rw [hy] at HST
              obtain ⟨xo, hxo⟩ : ∃ z, wK l bt N.fr 1 k = z := ⟨_, rfl⟩
              rw [hxo] at HST p
              clear hst hf hwk hy hxo
              go_wp2_with fail
              refine HST.out.mono ?_
              rintro e w5 ⟨rfl, hb5⟩
              have HE5 := Lib.hid (HEI.out.below hb5)
              have f0 := cs_frz (k := 1) HE5.out.gw
              have p5 := HE5.out.gcell (i := 1) (by omega)
              clear hb5 p HST
              go_wp2_with fail
              have hE6 := HE5.out.warm (i := 1) (by omega) (.int .i64 y)
              generalize w5.setCell ⟨G, 1, none⟩ (.int .i64 y) = w6 at hE6 ⊢
              have HE6 := Lib.hid hE6
              have p6 : w6.cell? ⟨G, 1, none⟩ = some (.int .i64 y) := (hE6.gcell (i := 1) (by omega)).trans (congrArg some (updF_at _ _ _))
              have t6 := hE6.tcell (i := 1) (by omega)
              have LG := heapsz hE6.gw; have LT := heapsz hE6.tw
              have hoi := hE6.own 1 (by omega)
              have nG : some G ≠ (v' 1).ownBlock := fun e => own_ne_type hoi hE6.gw (by decide) e.symm
              have nT : some w3.heap.size ≠ (v' 1).ownBlock := fun e => own_ne_type hoi hE6.tw (by decide) e.symm
              have hlen : (LLk l bt N.fr 1 k 1).length ≤ 72 := by rw [LLk_at, List.length_take]; have := HK72.out; have := HNF.out; omega
              have HLEN := Lib.hid hlen
              obtain ⟨i0, hi0, hz0, hz1, hz2⟩ := info_parts int_info
              have hlow := hE6.sz
              clear f0 p5 HEI HE5 hE6 hlen
              apply tail_regionX
              case hs => exact (rfl : _ = [_, _, _, _, _, _, _, _, _, _] ++ [_])
              case hm => kernel_rfl
              case hT => kernel_rfl
              refine plan_guarded_any (γ := GhE) [6, 7, 8] (rhoO 67 68 (apCv G w3.heap.size 1 1 (v' 1) y)) (SL ⟨w6, w4.heap.size, 3, 1, (LLk l bt N.fr 1 k 1).length, v' 1, flatR intR (LLk l bt N.fr 1 k 1), intR y, 7, 8⟩) ⟨fun _ => undef, fun _ => undef⟩ (by kernel_rfl) (by kernel_rfl) (by kernel_rfl) (by kernel_rfl) ?_ (SL.start hoi hlow (by decide)) ?_ ?_
              · intro t ht
                simp only [List.mem_cons, List.not_mem_nil, or_false] at ht
                rcases ht with rfl | rfl | rfl <;> rfl
              · refine allOps_array ?_
                refine ⟨?_, ?_, ?_, ?_, ?_, ?_, ?_, ?_, ?_, ?_, trivial⟩ <;> intro done g wS hS hu hdep _ <;> have s6 := (hS.cell LG nG (o := 1)).trans p6 <;> have s7 := (hS.cell LT nT (o := 1)).trans t6
                · refine quietL hS 60 rfl (by simp) (by simp) rfl ?_
                  simp [go_sem, evalBy, rhoO, apCv]
                · refine quietL hS 61 rfl (by simp) (by simp) rfl ?_
                  simp [go_sem, evalBy, rhoO, apCv]
                · refine quietL hS 62 rfl (by simp) (by simp) rfl ?_
                  simp [go_sem, evalBy, rhoO, apCv]
                · refine quietL hS 63 rfl (by simp) (by simp) rfl ?_
                  simp [go_sem, evalBy, rhoO, apCv, s7]
                · refine quietL hS 64 rfl (by simp) (by simp) rfl ?_
                  simp [go_sem, evalBy, rhoO, apCv]
                · refine quietL hS 65 rfl (by simp) (by simp) rfl ?_
                  simp [go_sem, evalBy, rhoO, apCv]
                · refine quietL hS 66 rfl (by simp) (by simp) rfl ?_
                  simp [go_sem, evalBy, rhoO, apCv, s6]
                · refine buildL hS 67 rfl rfl rfl ?_ (fun _ => rfl) (fun t b' ht => rhoO_b t b' ht)
                  simp [go_sem, evalBy, rhoO, apCv, intR]
                · exact appendL hS 68 rfl rfl hu (hdep ⟨7, .data⟩ (by simp) rfl) rfl 63 67 57 rfl rfl rfl i0 _ 8 Try.underlying57 hi0 hz0 hz1 hz2 rfl (by show 0 < 1; decide) rfl (by simp [Value.oneCell', intR]) (by unfold maxLen; show (LLk l bt N.fr 1 k 1).length + 1 ≤ _; have := HLEN.out; omega) (by show ((LLk l bt N.fr 1 k 1).length + 1) * 8 ≤ _; have := HLEN.out; omega) (fun _ => rfl) (fun t c' ht => rhoO_c t c' ht)
                · refine quietL hS 69 rfl (by simp) (by simp) rfl ?_
                  simp [go_sem, evalBy, rhoO, apCv]
              · intro g wC hS
                have hA := SL.after hS (show 8 < _ by decide)
                obtain ⟨gb, cg, ev, _⟩ := hA.2.1.form (by omega)
                have hp := HE6.out.push (i := 1) (by omega) hA.1 hA.2.1 hA.2.2
                have zT := (hA.1.block _ LT nT).trans HE6.out.tw
                have fT := cs_frz (k := 1) zT
                obtain ⟨t0, t1⟩ := two_cells zT
                rw [ev] at hp
                have HP := Lib.hid hp
                clear hA hS hp zT p6 t6
                simp only [QT]
                unfold Oper.wp
                simp [go_sem, putAll, Act.put, rhoO, apCv, fT, t1, ev]
                generalize wC.setCell ⟨w3.heap.size, 1, none⟩ (.slice (some ⟨gb, 0, none⟩) ((LLk l bt N.fr 1 k 1).length + 1) cg) = w7 at HP ⊢
                clear fT t0 t1 ev
                go_wp2_with fail
                exact ⟨⟨k + 1, by omega, rfl, _, by rw [LLk_succ (by rw [HNF.out]; exact hlt2), xk_succ, HY.out]; exact HP.out⟩, by simp [intOf]; omega⟩
            · obtain rfl : k = V.nf := by omega
              have k4 : ¬ (V.nf : Int) < (V.nf : Int) := by omega
              go_wp2_with fail
              exact ⟨⟨1 + 1, by omega, rfl, v', by rw [← LLk_next, ← xk_next, HNF.out]; exact HEI.out⟩, by simp [intOf]⟩
      · obtain rfl : i = 2 := by omega
        have hl0 : LLk l bt N.fr 2 0 0 = endL l bt N.fr 0 := rfl
        have hl1 : LLk l bt N.fr 2 0 1 = endL l bt N.fr 1 := rfl
        have ho0 := HES.out.own 0 (by omega); have ho1 := HES.out.own 1 (by omega)
        rw [hl0, endL_len] at ho0
        rw [hl1, endL_len] at ho1
        obtain ⟨g0, e0, q0, _⟩ := ho0.form (by have := HK72.out; omega)
        obtain ⟨g1, e1, q1, _⟩ := ho1.form (by have := HK72.out; omega)
        obtain ⟨t0, t1⟩ := two_cells HES.out.tw
        have hzR := (HES.out.keep w.heap.size (heapsz HR4.out) hRG hRT).trans HR4.out
        obtain ⟨r0, r1⟩ := two_cells hzR
        have f0 := cs_frz (k := 0) hzR; have f1 := cs_frz (k := 1) hzR
        have HZR := Lib.hid hzR
        have HO0 := Lib.hid ho0; have HO1 := Lib.hid ho1
        clear ho0 ho1 hzR hl0 hl1
        rw [q0] at t0 HO0
        rw [q1] at t1 HO1
        go_wp2_with fail
        have zf := fill2 (.slice (some ⟨g0, 0, none⟩) N.fr.length e0) (.slice (some ⟨g1, 0, none⟩) N.fr.length e1) HZR.out
        have hbf := bel_fill2 (x := .slice (some ⟨g0, 0, none⟩) N.fr.length e0) (y := .slice (some ⟨g1, 0, none⟩) N.fr.length e1) HES.out.bel (Nat.le_refl _)
        have hRb := heapsz HR4.out
        have ho0 := own_of_blocks HO0.out fun B hB => oth_fill2 (x := .slice (some ⟨g0, 0, none⟩) N.fr.length e0) (y := .slice (some ⟨g1, 0, none⟩) N.fr.length e1) (b := w.heap.size) (by have := (own_at HO0.out hB).1; omega)
        have ho1 := own_of_blocks HO1.out fun B hB => oth_fill2 (x := .slice (some ⟨g0, 0, none⟩) N.fr.length e0) (y := .slice (some ⟨g1, 0, none⟩) N.fr.length e1) (b := w.heap.size) (by have := (own_at HO1.out hB).1; omega)
        generalize ((wr.setCell ⟨w.heap.size, 0, none⟩ (.slice (some ⟨g0, 0, none⟩) N.fr.length e0)).setCell ⟨w.heap.size, 1, none⟩ (.slice (some ⟨g1, 0, none⟩) N.fr.length e1)) = wf at zf hbf ho0 ho1 ⊢
        obtain ⟨p0, p1⟩ := two_cells zf
        have ra := RowIs.low (B' := w.heap.size) (RowIs.of_own (row := endL l bt N.fr 0) (by rw [endL_len]; exact ho0)) (by omega)
        have rb := RowIs.low (B' := w.heap.size) (RowIs.of_own (row := endL l bt N.fr 1) (by rw [endL_len]; exact ho1)) (by omega)
        exact bodyPost_ret (v := .agg #[.slice (some ⟨g0, 0, none⟩) N.fr.length e0, .slice (some ⟨g1, 0, none⟩) N.fr.length e1]) (by simp [results, Try.results87, go_sem, p0, p1]) rfl ⟨_, _, rfl, hbf, by rw [HBT.out]; exact ra, by rw [HBT.out]; exact rb⟩
end Go.Proofs.Yticmeeinjkoodaa

namespace Go.Proofs.Yticmeeinjkoodaa
open Go.RowKit

def firstZ (xs : List Int) : Int := match xs.findIdx? (fun x => decide (x = 0)) with
  | some i => (i : Int) + 1
  | none => -1
def frzI (l : Lp) (b : Bool) (fr : List (Int × Int)) (i : Nat) : Int := firstZ (endL l b fr i)
theorem firstZ_at {xs : List Int} {k : Nat} {x : Int} (hx : xs[k]? = some x) (h0 : x = 0) (hall : ∀ j y, j < k → xs[j]? = some y → ¬ y = 0) : firstZ xs = (k : Int) + 1 := by
  have : xs.findIdx? (fun x => decide (x = 0)) = some k := by
    rw [List.findIdx?_eq_some_iff_getElem]
    obtain ⟨hk, hxk⟩ := List.getElem?_eq_some_iff.1 hx
    refine ⟨hk, by rw [hxk]; simpa using h0, fun j hj => ?_⟩
    simpa using hall j _ hj (List.getElem?_eq_getElem (by omega))
  unfold firstZ
  rw [this]
theorem firstZ_none {xs : List Int} (hall : ∀ (j : Nat) (y : Int), xs[j]? = some y → ¬ y = 0) : firstZ xs = -1 := by
  have : xs.findIdx? (fun x => decide (x = 0)) = none := by
    rw [List.findIdx?_eq_none_iff]
    intro x hx
    obtain ⟨j, hj⟩ := List.getElem?_of_mem hx
    simpa using hall j x hj
  unfold firstZ
  rw [this]
def ak (l : Lp) (b : Bool) (fr : List (Int × Int)) (i : Nat) : Nat → Int := fun j => if j < i then frzI l b fr j else -1
theorem ak_next {l : Lp} {bb : Bool} {fr : List (Int × Int)} {i b : Nat} {y : Int} {w : World} (hf : frzI l bb fr i = y) (hi : i < 2) (z : w.heap[b]? = some (.cells #[.int .i64 (ak l bb fr i 0), .int .i64 (ak l bb fr i 1)] 98 (0, 0))) :
    (w.setCell ⟨b, i, none⟩ (.int .i64 y)).heap[b]? = some (.cells #[.int .i64 (ak l bb fr (i + 1) 0), .int .i64 (ak l bb fr (i + 1) 1)] 98 (0, 0)) := by
  subst hf
  rw [blk_set z i _]
  rcases i with _ | _ | i
  · rfl
  · rfl
  · omega
theorem ak_same {l : Lp} {b : Bool} {fr : List (Int × Int)} {i : Nat} (hf : frzI l b fr i = -1) : ak l b fr (i + 1) = ak l b fr i := by
  funext j
  unfold ak
  by_cases h1 : j < i
  · rw [if_pos h1, if_pos (by omega)]
  · by_cases h2 : j = i
    · subst h2
      rw [if_neg h1, if_pos (by omega), hf]
    · rw [if_neg h1, if_neg (by omega)]
set_option maxRecDepth 100000 in
set_option maxHeartbeats 4000000 in
theorem frozen_any {w : World} {P m cb : Nat} {V : NV} {N : Nt} {AB : Option Addr} (h : LH w w.heap.size P V N m AB cb) {L : Nat} {l : Lp} (hL : N.lo[L]? = some l) :
    Calls Try.prog 61 #[.pointer (some ⟨P, 0, none⟩), .int .i64 L] w fun e w' => e = .returned (.agg #[.int .i64 (frzI l (m.testBit L) N.fr 0), .int .i64 (frzI l (m.testBit L) N.fr 1)]) ∧ Below w.heap.size w w' := by
  have HH := Lib.hid h; have HL := Lib.hid hL; have HK72 := Lib.hid h.ok.h72
  obtain ⟨zR, z5, hb⟩ := two_new w (.cells #[.int .i64 0, .int .i64 0] 98) (.cells #[.int .i64 (-1), .int .i64 (-1)] 98)
  obtain ⟨w1, hw1⟩ : ∃ z, (w.alloc (.cells #[.int .i64 0, .int .i64 0] 98)).alloc (.cells #[.int .i64 (-1), .int .i64 (-1)] 98) = z := ⟨_, rfl⟩
  rw [hw1] at zR z5 hb
  have HW := Lib.hid hw1; have HB := Lib.hid hb; have ZR := Lib.hid zR; have Z5 := Lib.hid z5
  obtain ⟨bt, hbt⟩ : ∃ z, m.testBit L = z := ⟨_, rfl⟩
  have HBT := Lib.hid hbt
  clear hw1 hb zR z5 h hL
  go_enter Try.func61, Try.ntmps61
  go_wp2_with fail
  go_step3
  go_wp2_with fail
  go_step3
  go_wp2_with fail
  rw [HW.out]
  refine (ends_any (HH.out.up HB.out) HL.out).mono ?_
  rintro e w2 ⟨v0, v1, rfl, hb2, r0, r1⟩
  have HZ2 := Lib.hid ((hb2.block _ (heapsz Z5.out)).trans Z5.out)
  have HR2 := Lib.hid ((hb2.block _ (heapsz ZR.out)).trans ZR.out)
  have HB2 := Lib.hid (HB.out.trans (hb2.mono HB.out.size))
  rw [hbt] at r0 r1
  have HR0 := Lib.hid r0; have HR1 := Lib.hid r1
  obtain ⟨A0, c0, rfl, _, _⟩ := r0.at_ (k := 1) (fun _ => rfl)
  obtain ⟨A1, c1, rfl, _, _⟩ := r1.at_ (k := 1) (fun _ => rfl)
  rw [endL_len] at HR0 HR1
  rw [endL_len, endL_len]
  have hbl := HK72.out
  clear hb2 r0 r1 hbt
  go_wp2_with fail
  go_loopw [13] (fun ii wr => ∃ i : Nat, i ≤ 2 ∧ ii = .int .i64 i ∧ Below w.heap.size w wr ∧ wr.heap[w.heap.size + 1]? = some (.cells #[.int .i64 (ak l bt N.fr i 0), .int .i64 (ak l bt N.fr i 1)] 98 (0, 0)) ∧ wr.heap[w.heap.size]? = some (.cells #[.int .i64 0, .int .i64 0] 98 (0, 0)) ∧ RowIs intR 3 w1.heap.size (endL l bt N.fr 0) (.slice A0 N.fr.length c0) wr ∧ RowIs intR 3 w1.heap.size (endL l bt N.fr 1) (.slice A1 N.fr.length c1) wr) (fun ii _ => 2 - (intOf ii).toNat)
  case atStart => exact ⟨0, by omega, rfl, HB2.out, HZ2.out, HR2.out, HR0.out, HR1.out⟩
  case round =>
    obtain ⟨i, hi, rfl, hbr, hz, hzr, hr0, hr1⟩ := hrel
    have HBE := Lib.hid hbr; have HZ := Lib.hid hz; have HZR := Lib.hid hzr
    replace HR0 := Lib.hid hr0; replace HR1 := Lib.hid hr1
    clear hbr hz hzr hr0 hr1
    by_cases hi2 : i < 2
    · have hi3 : i = 0 ∨ i = 1 := by omega
      rcases hi3 with rfl | rfl
      · rw [show ((0 : Nat) : Int) = 0 from rfl]
        go_wp2_with fail
        go_loopw [19] (fun hh wq => ∃ k : Nat, k ≤ N.fr.length ∧ hh = .int .i64 k ∧ wq = wr ∧ ∀ j x, j < k → (endL l bt N.fr 0)[j]? = some x → ¬ x = 0) (fun hh _ => N.fr.length - (intOf hh).toNat)
        case atStart => exact ⟨0, by omega, rfl, rfl, fun j _ hj => absurd hj (Nat.not_lt_zero _)⟩
        case round =>
          obtain ⟨k, hk, rfl, rfl, hall⟩ := hrel
          have HAL := Lib.hid hall
          clear hall
          by_cases hlt : k < N.fr.length
          · have k4 : (k : Int) < (N.fr.length : Int) := by omega
            obtain ⟨x, hx⟩ := get_of_lt (l := endL l bt N.fr 0) (k := k) (by rw [endL_len]; exact hlt)
            obtain ⟨A', c', hv', hrow, _⟩ := HR0.out.at_ (k := 1) (fun _ => rfl)
            injection hv' with hv1 hv2 hv3
            rw [← hv1] at hrow
            obtain ⟨b, o, hA, hbb, c0⟩ := ints_el hrow hx
            have HX := Lib.hid hx
            clear hx hbb hv1 hv2 hv3 hrow
            subst hA
            by_cases hx0 : x = 0
            · have hw9 : wrap64 ((k : Int) + 1) = (k : Int) + 1 := w64 (by have := HK72.out; omega)
              obtain ⟨p0, p1⟩ := two_cells HZ.out
              have f0 := cs_frz (k := 0) HZ.out
              subst hx0
              go_wp2_with fail
              have hfz : frzI l bt N.fr 0 = (k : Int) + 1 := firstZ_at HX.out rfl HAL.out
              have hk1 : ∀ b cs, w1.heap.size ≤ b → wr.heap[b]? = some (.cells cs 3 (0, 0)) → (wr.setCell ⟨w.heap.size + 1, 0, none⟩ (.int .i64 ((k : Int) + 1))).heap[b]? = some (.cells cs 3 (0, 0)) := fun b cs hb hx => by
                have hne : b ≠ w.heap.size + 1 := by have := heapsz Z5.out; omega
                exact (Below.heap_setCell _ _ _ _ hne).trans hx
              exact ⟨⟨0 + 1, by omega, rfl, HBE.out.setCell (p := ⟨w.heap.size + 1, 0, none⟩) (Nat.le_succ _) _, ak_next hfz (by omega) HZ.out, (Below.heap_setCell _ _ _ _ (show w.heap.size ≠ w.heap.size + 1 by omega)).trans HZR.out, HR0.out.keep hk1, HR1.out.keep hk1⟩, by simp [intOf]⟩
            · go_wp2_with fail
              refine ⟨⟨k + 1, by omega, rfl, by first | rfl | trivial, fun j z hj hz => ?_⟩, by simp [intOf]; omega⟩
              by_cases hjq : j < k
              · exact HAL.out j z hjq hz
              · obtain rfl : j = k := by omega
                have hyz := HX.out
                rw [hz] at hyz
                injection hyz with hyz
                rw [hyz]
                exact hx0
          · obtain rfl : k = N.fr.length := by omega
            have k4 : ¬ (N.fr.length : Int) < (N.fr.length : Int) := by omega
            go_wp2_with fail
            have hfz : frzI l bt N.fr 0 = -1 := firstZ_none fun j x hx => HAL.out j x (by have := (List.getElem?_eq_some_iff.1 hx).1; rw [endL_len] at this; exact this) hx
            exact ⟨⟨0 + 1, by omega, rfl, HBE.out, by rw [ak_same hfz]; exact HZ.out, HZR.out, HR0.out, HR1.out⟩, by simp [intOf]⟩
      · rw [show ((1 : Nat) : Int) = 1 from rfl]
        go_wp2_with fail
        go_loopw [19] (fun hh wq => ∃ k : Nat, k ≤ N.fr.length ∧ hh = .int .i64 k ∧ wq = wr ∧ ∀ j x, j < k → (endL l bt N.fr 1)[j]? = some x → ¬ x = 0) (fun hh _ => N.fr.length - (intOf hh).toNat)
        case atStart => exact ⟨0, by omega, rfl, rfl, fun j _ hj => absurd hj (Nat.not_lt_zero _)⟩
        case round =>
          obtain ⟨k, hk, rfl, rfl, hall⟩ := hrel
          have HAL := Lib.hid hall
          clear hall
          by_cases hlt : k < N.fr.length
          · have k4 : (k : Int) < (N.fr.length : Int) := by omega
            obtain ⟨x, hx⟩ := get_of_lt (l := endL l bt N.fr 1) (k := k) (by rw [endL_len]; exact hlt)
            obtain ⟨A', c', hv', hrow, _⟩ := HR1.out.at_ (k := 1) (fun _ => rfl)
            injection hv' with hv1 hv2 hv3
            rw [← hv1] at hrow
            obtain ⟨b, o, hA, hbb, c0⟩ := ints_el hrow hx
            have HX := Lib.hid hx
            clear hx hbb hv1 hv2 hv3 hrow
            subst hA
            by_cases hx0 : x = 0
            · have hw9 : wrap64 ((k : Int) + 1) = (k : Int) + 1 := w64 (by have := HK72.out; omega)
              obtain ⟨p0, p1⟩ := two_cells HZ.out
              have f0 := cs_frz (k := 1) HZ.out
              subst hx0
              go_wp2_with fail
              have hfz : frzI l bt N.fr 1 = (k : Int) + 1 := firstZ_at HX.out rfl HAL.out
              have hk1 : ∀ b cs, w1.heap.size ≤ b → wr.heap[b]? = some (.cells cs 3 (0, 0)) → (wr.setCell ⟨w.heap.size + 1, 1, none⟩ (.int .i64 ((k : Int) + 1))).heap[b]? = some (.cells cs 3 (0, 0)) := fun b cs hb hx => by
                have hne : b ≠ w.heap.size + 1 := by have := heapsz Z5.out; omega
                exact (Below.heap_setCell _ _ _ _ hne).trans hx
              exact ⟨⟨1 + 1, by omega, rfl, HBE.out.setCell (p := ⟨w.heap.size + 1, 1, none⟩) (Nat.le_succ _) _, ak_next hfz (by omega) HZ.out, (Below.heap_setCell _ _ _ _ (show w.heap.size ≠ w.heap.size + 1 by omega)).trans HZR.out, HR0.out.keep hk1, HR1.out.keep hk1⟩, by simp [intOf]⟩
            · go_wp2_with fail
              refine ⟨⟨k + 1, by omega, rfl, by first | rfl | trivial, fun j z hj hz => ?_⟩, by simp [intOf]; omega⟩
              by_cases hjq : j < k
              · exact HAL.out j z hjq hz
              · obtain rfl : j = k := by omega
                have hyz := HX.out
                rw [hz] at hyz
                injection hyz with hyz
                rw [hyz]
                exact hx0
          · obtain rfl : k = N.fr.length := by omega
            have k4 : ¬ (N.fr.length : Int) < (N.fr.length : Int) := by omega
            go_wp2_with fail
            have hfz : frzI l bt N.fr 1 = -1 := firstZ_none fun j x hx => HAL.out j x (by have := (List.getElem?_eq_some_iff.1 hx).1; rw [endL_len] at this; exact this) hx
            exact ⟨⟨1 + 1, by omega, rfl, HBE.out, by rw [ak_same hfz]; exact HZ.out, HZR.out, HR0.out, HR1.out⟩, by simp [intOf]⟩
    · obtain rfl : i = 2 := by omega
      have z5 := HZ.out; have zR := HZR.out
      obtain ⟨s0, s1⟩ := two_cells z5
      obtain ⟨p0, p1⟩ := two_cells zR
      have f0 := cs_frz (k := 0) zR; have f1 := cs_frz (k := 1) zR
      have hne : ¬ w.heap.size + 1 = w.heap.size := by omega
      have a0 : ak l bt N.fr 2 0 = frzI l bt N.fr 0 := rfl
      have a1 : ak l bt N.fr 2 1 = frzI l bt N.fr 1 := rfl
      rw [a0] at s0
      rw [a1] at s1
      clear z5 zR
      go_wp2_with fail
      rw [Exit.noGoto_ret]
      have zf := fill2 (.int .i64 (frzI l bt N.fr 0)) (.int .i64 (frzI l bt N.fr 1)) HZR.out
      have hbf := bel_fill2 (x := .int .i64 (frzI l bt N.fr 0)) (y := .int .i64 (frzI l bt N.fr 1)) HBE.out (Nat.le_refl _)
      generalize ((wr.setCell ⟨w.heap.size, 0, none⟩ (.int .i64 (frzI l bt N.fr 0))).setCell ⟨w.heap.size, 1, none⟩ (.int .i64 (frzI l bt N.fr 1))) = wf at zf hbf ⊢
      obtain ⟨u0, u1⟩ := two_cells zf
      exact bodyPost_ret (v := .agg #[.int .i64 (frzI l bt N.fr 0), .int .i64 (frzI l bt N.fr 1)]) (by simp [results, Try.results61, go_sem, u0, u1]) rfl ⟨by rw [HBT.out], hbf⟩
end Go.Proofs.Yticmeeinjkoodaa

namespace Go.Proofs.Yticmeeinjkoodaa
open Go.RowKit

def dueI (l : Lp) (b : Bool) (fr : List (Int × Int)) : Int := if 0 ≤ frzI l b fr 0 then frzI l b fr 0 - 1 else fr.length
theorem firstZ_in (xs : List Int) : firstZ xs = -1 ∨ (1 ≤ firstZ xs ∧ firstZ xs ≤ xs.length) := by
  unfold firstZ
  split
  · rename_i i hi
    right
    have := (List.findIdx?_eq_some_iff_getElem.1 hi).1
    omega
  · exact .inl rfl
theorem frz_in (l : Lp) (b : Bool) (fr : List (Int × Int)) (i : Nat) : frzI l b fr i = -1 ∨ (1 ≤ frzI l b fr i ∧ frzI l b fr i ≤ fr.length) := by
  have := firstZ_in (endL l b fr i)
  rwa [endL_len] at this
theorem due_in (l : Lp) (b : Bool) (fr : List (Int × Int)) : 0 ≤ dueI l b fr ∧ dueI l b fr ≤ fr.length := by
  have := frz_in l b fr 0
  unfold dueI
  split <;> omega
set_option maxRecDepth 100000 in
set_option maxHeartbeats 4000000 in
theorem dueAfter_any {w : World} {P m cb : Nat} {V : NV} {N : Nt} {AB : Option Addr} (h : LH w w.heap.size P V N m AB cb) {L : Nat} {l : Lp} (hL : N.lo[L]? = some l) :
    Calls Try.prog 86 #[.pointer (some ⟨P, 0, none⟩), .int .i64 L] w fun e w' => e = .returned (.int .i64 (dueI l (m.testBit L) N.fr)) ∧ Below w.heap.size w w' := by
  have HH := Lib.hid h; have HL := Lib.hid hL; have HK72 := Lib.hid h.ok.h72
  obtain ⟨bt, hbt⟩ : ∃ z, m.testBit L = z := ⟨_, rfl⟩
  have HBT := Lib.hid hbt
  have hnf := h.net.nf
  have hmf := h.net.mf
  unfold maxLen at hmf
  have HNF := Lib.hid hnf
  clear h hL hbt hnf
  go_enter Try.func86, Try.ntmps86
  go_wp2_with fail
  refine (frozen_any HH.out HL.out).mono ?_
  rintro e w2 ⟨rfl, hb2⟩
  have c1 := (HH.out.up hb2).c1
  have HB := Lib.hid hb2
  rw [HBT.out]
  have hi := frz_in l bt N.fr 0
  have HD : Hid (dueI l bt N.fr = if 0 ≤ frzI l bt N.fr 0 then frzI l bt N.fr 0 - 1 else N.fr.length) := Lib.hid rfl
  obtain ⟨z, hz⟩ : ∃ z, frzI l bt N.fr 0 = z := ⟨_, rfl⟩
  rw [hz] at hi HD ⊢
  clear hb2 hz
  by_cases hz0 : 0 ≤ z
  · have hw : wrap64 (z - 1) = z - 1 := w64 (by have := HK72.out; omega)
    have hz1 : z ≥ 0 := hz0
    go_wp2_with fail
    go_ret
    exact ⟨by rw [HBT.out, HD.out, if_pos hz0]; show Ending.returned (.int .i64 (wrap64 (z - 1))) = _; rw [hw], HB.out⟩
  · have hz1 : ¬ z ≥ 0 := hz0
    go_wp2_with fail
    go_ret
    exact ⟨by rw [HBT.out, HD.out, if_neg (by omega), HNF.out]; rfl, HB.out⟩
def spansL (l : Lp) (b : Bool) (fr : List (Int × Int)) : List (Int × Int) := (List.range fr.length).map fun k => (wK l b fr 0 (k + 1), wK l b fr 1 (k + 1))
theorem spansL_len {l : Lp} {b : Bool} {fr : List (Int × Int)} : (spansL l b fr).length = fr.length := by simp [spansL]
theorem spansL_at {l : Lp} {b : Bool} {fr : List (Int × Int)} {k : Nat} (h : k < fr.length) : (spansL l b fr)[k]? = some (wK l b fr 0 (k + 1), wK l b fr 1 (k + 1)) := by
  unfold spansL
  rw [List.getElem?_map, List.getElem?_range h]
  rfl
theorem addr_add (b o j : Nat) : (⟨b, o, none⟩ : Addr).add j = ⟨b, o + j, none⟩ := by unfold Addr.add; split <;> simp_all
theorem cells_new (w : World) (vs : List Value) (T : TypeId) (j : Nat) (v : Value) (hv : vs[j]? = some v) : (w.alloc (.cells vs.toArray T)).cell? ((⟨w.heap.size, 0, none⟩ : Addr).add j) = some v := by
  rw [addr_add, Nat.zero_add, cell_of_row _ _ _ _ T (0, 0) (heap_alloc_new w _)]
  simpa using hv
theorem span_info : (Try.prog.info? 47).map (fun i => (i.zero, i.size, i.bytes)) = some (some (.agg #[.int .i64 0, .int .i64 0]), 2, 16) := by kernel_rfl
set_option maxRecDepth 100000 in
set_option maxHeartbeats 4000000 in
theorem warmth_any {w : World} {P m cb : Nat} {V : NV} {N : Nt} {AB : Option Addr} (h : LH w w.heap.size P V N m AB cb) {L : Nat} {l : Lp} (hL : N.lo[L]? = some l) :
    Calls Try.prog 59 #[.pointer (some ⟨P, 0, none⟩), .int .i64 L] w fun e w' => ∃ v, e = .returned v ∧ Below w.heap.size w w' ∧ RowIs prR 47 w.heap.size (spansL l (m.testBit L) N.fr) v w' := by
  have HH := Lib.hid h; have HL := Lib.hid hL; have HK72 := Lib.hid h.ok.h72
  obtain ⟨bt, hbt⟩ : ∃ z, m.testBit L = z := ⟨_, rfl⟩
  have HBT := Lib.hid hbt
  obtain ⟨i0, hi0, hz0, hz1, hz2⟩ := info_parts span_info
  clear h hL
  go_enter Try.func59, Try.ntmps59
  go_wp2_with fail
  refine (ends_any HH.out HL.out).mono ?_
  rintro e w2 ⟨v0, v1, rfl, hb2, r0, r1⟩
  rw [hbt] at r0 r1
  have HR0 := Lib.hid r0; have HR1 := Lib.hid r1
  obtain ⟨A0, c0, rfl, _, _⟩ := r0.at_ (k := 1) (fun _ => rfl)
  obtain ⟨A1, c1, rfl, _, _⟩ := r1.at_ (k := 1) (fun _ => rfl)
  rw [endL_len] at HR0 HR1
  rw [endL_len, endL_len]
  have zE := heap_alloc_new w2 (.cells #[.slice A0 N.fr.length c0, .slice A1 N.fr.length c1] 133)
  have hbE := (Below.refl w2.heap.size w2).alloc (Nat.le_refl _) (.cells #[.slice A0 N.fr.length c0, .slice A1 N.fr.length c1] 133)
  obtain ⟨w3, hw3⟩ : ∃ z, w2.alloc (.cells #[.slice A0 N.fr.length c0, .slice A1 N.fr.length c1] 133) = z := ⟨_, rfl⟩
  rw [hw3] at zE hbE
  have HW := Lib.hid hw3; have HB3 := Lib.hid (hb2.trans (hbE.mono hb2.size)); have HZE := Lib.hid zE
  replace HR0 := Lib.hid (HR0.out.below hbE); replace HR1 := Lib.hid (HR1.out.below hbE)
  have hbl := HK72.out
  clear hb2 r0 r1 hbt zE hbE hw3
  go_wp2_with fail
  rw [HW.out]
  go_loopw [6, 15] (fun vv ii wr => ∃ k : Nat, k ≤ N.fr.length ∧ ii = .int .i64 k ∧ Below w3.heap.size w3 wr ∧ wr.ownsRow w3.heap.size 47 2 vv k (flatR prR ((spansL l bt N.fr).take k))) (fun _ ii _ => N.fr.length - (intOf ii).toNat)
  case atStart => exact ⟨0, by omega, rfl, Below.refl _ _, World.ownsRow_nil _ _ _ _⟩
  case round =>
    obtain ⟨k, hk, rfl, hbr, hown⟩ := hrel
    have HBR := Lib.hid hbr; have HOWN := Lib.hid hown
    clear hbr hown
    by_cases hlt : k < N.fr.length
    · have k3 : (0 : Int) ≤ (k : Int) := by omega
      have k4 : (k : Int) < (N.fr.length : Int) := by omega
      obtain ⟨x, hx⟩ := get_of_lt (l := endL l bt N.fr 0) (k := k) (by rw [endL_len]; exact hlt)
      obtain ⟨y, hy⟩ := get_of_lt (l := endL l bt N.fr 1) (k := k) (by rw [endL_len]; exact hlt)
      obtain ⟨A', c', hv', hrow, _⟩ := (HR0.out.below HBR.out).at_ (k := 1) (fun _ => rfl)
      injection hv' with hv1 hv2 hv3
      rw [← hv1] at hrow
      obtain ⟨b, o, hA, hbb, d0⟩ := ints_el hrow hx
      obtain ⟨A'', c'', hv'', hrow', _⟩ := (HR1.out.below HBR.out).at_ (k := 1) (fun _ => rfl)
      injection hv'' with hv4 hv5 hv6
      rw [← hv4] at hrow'
      obtain ⟨b', o', hA', hbb', d1⟩ := ints_el hrow' hy
      obtain ⟨e0, e1⟩ := two_cells ((HBR.out.block _ (heapsz HZE.out)).trans HZE.out)
      have HSP : Hid (spansL l bt N.fr = spansL l bt N.fr ∧ (spansL l bt N.fr)[k]? = some (x, y)) := Lib.hid ⟨rfl, by rw [spansL_at hlt]; rw [endL_at hlt] at hx hy; injection hx with hx; injection hy with hy; rw [hx, hy]⟩
      clear hx hy hv1 hv2 hv3 hv4 hv5 hv6 hrow hrow' hbb hbb'
      subst hA hA'
      go_wp2_with (first
        | (at_builtin
           refine wpList_append_own_at _ rfl _ _ 23 rfl w3.heap.size 47 i0 _ 2 16 Try.underlying23 hi0 hz0 hz1 hz2 rfl (by decide) _ _ _ rfl (HOWN.out.alloc _) ⟨wr.heap.size, 0, none⟩ 1 1 [.int .i64 x, .int .i64 y] rfl rfl (cells_new wr [.int .i64 x, .int .i64 y] 47) (by simp [Value.oneCell']) (by unfold maxLen; omega) (by omega) (by have := HBR.out.size; simp; omega) ?_
           intro v' w6 hown6 hgr6 hnil6 hat6)
        | fail)
      refine ⟨⟨k + 1, by omega, rfl, ?_, ?_⟩, by simp [intOf]; omega⟩
      · have hb6 : Below w3.heap.size w3 (wr.alloc (.cells #[.int .i64 x, .int .i64 y] 47)) := HBR.out.alloc HBR.out.size _
        exact hb6.grown hgr6 hb6.size (fun q e => (HOWN.out.lt q e).1)
      · rw [flatR_take HSP.out.2]
        exact hown6
    · obtain rfl : k = N.fr.length := by omega
      have k4 : ¬ (N.fr.length : Int) < (N.fr.length : Int) := by omega
      have HO : Hid (wr.ownsRow w3.heap.size 47 2 u6 (spansL l bt N.fr).length (flatR prR (spansL l bt N.fr))) := Lib.hid (by
        have := HOWN.out
        rw [← spansL_len (l := l) (b := bt), List.take_length] at this
        exact this)
      go_wp2_with fail
      go_ret
      exact ⟨_, rfl, HB3.out.trans (HBR.out.mono HB3.out.size), by rw [HBT.out]; exact RowIs.low (RowIs.of_own HO.out) HB3.out.size⟩
end Go.Proofs.Yticmeeinjkoodaa

namespace Go.Proofs.Yticmeeinjkoodaa
open Go.RowKit

def halfI : Int → Nat → Int
  | s, 0 => s
  | s, k + 1 => halfI s k / 2
def jackB (s : Int) (k : Nat) : Bool := decide (halfI s k % 2 = 1)
theorem halfI_nat (p : Nat) : ∀ k, halfI (p : Int) k = ((p / 2 ^ k : Nat) : Int)
  | 0 => by simp [halfI]
  | k + 1 => by
    have ih := halfI_nat p k
    unfold halfI
    rw [ih, Nat.pow_succ, ← Nat.div_div_eq_div_mul]
    rfl
theorem jack_bit (p j : Nat) : jackB (p : Int) j = p.testBit j := by
  unfold jackB
  rw [halfI_nat, Nat.testBit_eq_decide_div_mod_eq]
  congr 1
  apply propext
  omega
theorem half_pow (s : Int) : ∀ k : Nat, halfI s k = s / 2 ^ k
  | 0 => by simp [halfI]
  | k + 1 => by
    unfold halfI
    rw [half_pow s k, Int.ediv_ediv_of_nonneg (Int.pow_nonneg (by decide)), Int.pow_succ]
theorem and_one (n : Int) : bits .and .i64 n 1 = n % 2 := by
  have h1 : (BitVec.ofInt 64 1).toNat = 2 ^ 1 - 1 := by decide
  have key : (BitVec.ofInt 64 n &&& BitVec.ofInt 64 1).toNat = (n % ((2 ^ 64 : Nat) : Int)).toNat % 2 ^ 1 := by
    rw [BitVec.toNat_and, BitVec.toNat_ofInt, h1, Nat.and_two_pow_sub_one_eq_mod]
  show IntKind.i64.wrap ((BitVec.ofInt 64 n &&& BitVec.ofInt 64 1).toNat : Nat) = n % 2
  rw [key, IntKind.wrap_i64]
  omega
/-! ### The ships of a plan -/
def pilL (s : Int) : List Nat := (List.range 5).filter fun k => jackB s k
abbrev PX (s : Int) := { x : Nat // x < 5 ∧ jackB s x = true }
def KpB (n₀ Bn : Nat) (W W' : World) : Prop := Below n₀ W W' ∧ W'.cell? ⟨Bn, 0, none⟩ = W.cell? ⟨Bn, 0, none⟩
theorem kpB_t {n₀ Bn : Nat} {A B C : World} (h : KpB n₀ Bn A B) (k : KpB n₀ Bn B C) : KpB n₀ Bn A C := ⟨h.1.trans k.1, k.2.trans h.2⟩
theorem kpB_b {n₀ Bn : Nat} {w : World} (hn : n₀ ≤ w.heap.size) (hB : Bn < w.heap.size) (W : World) (l : Nat) (o o' : Obj) (hl : w.heap.size ≤ l) (h : W.heap[l]? = some o) (h1 : o.isCells = false) (h2 : o.isWalk = false) : KpB n₀ Bn W (W.putObj l o') :=
  ⟨belowK_b hn W l o o' hl h h1 h2, World.cell?_of_block ((grownBy_putObj' W l o').block Bn (by have := (Array.getElem?_eq_some_iff.1 h).1; omega) (by intro e; injection e; omega))⟩
theorem two {e : Ending} {A B : Prop} (h : (e = .returned (.bool true) ∧ A) ∨ (e = .returned (.bool false) ∧ B)) : ∃ b, e = .returned (.bool b) ∧ ((b = true ∧ A) ∨ (b = false ∧ B)) := by
  rcases h with ⟨rfl, h⟩ | ⟨rfl, h⟩
  · exact ⟨true, rfl, .inl ⟨rfl, h⟩⟩
  · exact ⟨false, rfl, .inr ⟨rfl, h⟩⟩
theorem pil_take {s : Int} {k : Nat} : (List.range (k + 1)).filter (fun k => jackB s k) = (List.range k).filter (fun k => jackB s k) ++ (if jackB s k then [k] else []) := by
  rw [List.range_succ, List.filter_append]
  simp [List.filter_cons]
theorem pil_len {s : Int} {k : Nat} : ((List.range k).filter (fun k => jackB s k)).length ≤ k := by
  have := List.length_filter_le (fun k => jackB s k) (List.range k)
  simpa using this
open Go.Shelf
attribute [local go_sem] Oper.semAt_some
set_option maxRecDepth 100000 in
set_option maxHeartbeats 2000000 in
theorem plan1_in (n : Nat) (hn : 1 ≤ n) (l Bn n₀ : Nat) (s : Int) (J Jx : List (PX s) → World → Prop)
    (hY : ∀ pre x W, J pre W → pre.length < 5 → YieldAt Fence.wide (n - 1) Try.prog l #[.int .i64 (x.1 : Int)] W fun e W' =>
      (e = .returned (.bool true) ∧ J (pre ++ [x]) W' ∧ KpB n₀ Bn W W') ∨ (e = .returned (.bool false) ∧ Jx (pre ++ [x]) W'))
    (W : World) (c0 : W.cell? ⟨Bn, 0, none⟩ = some (.int .i64 s)) (h0 : J [] W) :
    CallsIn Fence.wide n Try.prog 96 #[.func (.yield l) #[] #[], .pointer (some ⟨Bn, 0, none⟩)] W fun e W' => (∃ v, e = .returned v) ∧
      ((∃ ys, ys.map Subtype.val = pilL s ∧ J ys W') ∨ (∃ pre, True ∧ Jx pre W')) := by
  have C0 := Lib.hid c0
  refine callsIn_of_wp Try.func96 rfl trivial ?_ rfl
  simp only [Try.ntmps96, List.size_toArray, List.length_cons, List.length_nil, Nat.reduceAdd, Nat.reduceSub, Array.replicate_succ, Array.replicate_zero, List.push_toArray, List.append_toArray, List.nil_append, List.cons_append]
  gi_wp2
  gi_loopw [4] (fun i wr => ∃ (k : Nat) (pre : List (PX s)), k ≤ 5 ∧ i = .int .i64 k ∧ pre.map Subtype.val = (List.range k).filter (fun k => jackB s k) ∧ J pre wr ∧ wr.cell? ⟨Bn, 0, none⟩ = some (.int .i64 s)) (fun i _ => 5 - (intOf i).toNat)
  case atStart => exact ⟨0, [], by omega, rfl, by simp, h0, C0.out⟩
  case round =>
    clear c0
    obtain ⟨k, pre, hk, rfl, hpre, hJs, c0⟩ := hrel
    have HP := Lib.hid hpre; clear hpre
    by_cases hlt : k < 5
    · have hk1 : (k : Int) < 5 := by omega
      have hlen : pre.length < 5 := by
        have := congrArg List.length HP.out
        rw [List.length_map] at this
        have h2 := pil_len (s := s) (k := k)
        omega
      have hb := and_one (s / 2 ^ k)
      have hkk0 : (0 : Int) ≤ (k : Int) := by omega
      have hkk1 : (k : Int) ≤ 64 := by omega
      have hjb : jackB s k = decide (s / 2 ^ k % 2 = 1) := by unfold jackB; rw [half_pow]
      cases hj : jackB s k with
      | false =>
        have HJ := Lib.hid hj
        rw [hjb] at hj
        have hz : s / 2 ^ k % 2 = 0 := by have := of_decide_eq_false hj; omega
        rw [hz] at hb
        clear hj hjb hz
        gi_wp2
        refine ⟨fun _ _ => trivial, ?_⟩
        gi_wp2
        go_roundw
        case rel => exact ⟨k + 1, pre, by omega, by go_num, by rw [pil_take, HJ.out, HP.out]; simp, hJs, c0⟩
        case measure => simp [intOf]; omega
      | true =>
        have HJ := Lib.hid hj
        rw [hjb] at hj
        rw [of_decide_eq_true hj] at hb
        clear hj hjb
        have hj := HJ.out
        obtain ⟨fn, tmps, assign, body, hy, hR⟩ := hY pre ⟨k, hlt, hj⟩ _ hJs hlen
        dsimp only at hy
        gi_wp2
        refine hR.mono ?_
        rintro e W3 h4
        obtain ⟨bv, rfl, h3⟩ := two h4
        clear h4 hy
        have hmap : (pre ++ [(⟨k, hlt, hj⟩ : PX s)]).map Subtype.val = (List.range (k + 1)).filter (fun k => jackB s k) := by
          rw [List.map_append, HP.out, pil_take, if_pos HJ.out]
          rfl
        have HB := Lib.hid hmap
        clear hmap
        rcases h3 with ⟨rfl, hJ3, hk3⟩ | ⟨rfl, hJx3⟩
        · have hcB : W3.cell? ⟨Bn, 0, none⟩ = some (.int .i64 s) := hk3.2.trans c0
          have HcB := Lib.hid hcB
          clear hcB hk3
          gi_wp2
          go_roundw
          case rel => exact ⟨k + 1, _, by omega, by go_num, HB.out, hJ3, HcB.out⟩
          case measure => simp [intOf]; omega
        · gi_wp2
          refine bodyPost_ret (results_none rfl _ _ _) rfl ?_
          exact ⟨⟨_, rfl⟩, .inr ⟨_, trivial, hJx3⟩⟩
    · have hk1 : ¬ (k : Int) < 5 := by omega
      have hk6 : k = 5 := by omega
      subst hk6
      gi_wp2
      go_end0
      exact ⟨⟨_, rfl⟩, .inl ⟨_, HP.out, hJs⟩⟩
theorem plan_stops (n : Nat) (hn : 1 ≤ n) (Bn n₀ : Nat) (s : Int) (w : World) (hBn : Bn < w.heap.size) (c0 : w.cell? ⟨Bn, 0, none⟩ = some (.int .i64 s)) :
    SeqStopsK Fence.wide n Try.prog 96 #[.pointer (some ⟨Bn, 0, none⟩)] (fun x : PX s => #[.int .i64 (x.1 : Int)]) (KpB n₀ Bn) (fun ys => ys.map Subtype.val = pilL s) (fun _ => True) 5 w := fun l J Jx W hW _ _ hY h0 => by
  obtain ⟨r1, _⟩ := bcell hW
  exact plan1_in n hn l Bn n₀ s J Jx hY W ((r1 _ _ hBn).trans c0) h0
set_option maxHeartbeats 400000 in
theorem loopsOf_any (s : Int) (w : World) :
    Calls Try.prog 85 #[.int .i64 s] w fun e w' => e = .returned (.func (.func 96) #[] #[.pointer (some ⟨w.heap.size, 0, none⟩)]) ∧ w.alloc (.cells #[.int .i64 s] 3) = w' := by
  go_enter Try.func85, Try.ntmps85
  go_wp2
  go_ret
  exact ⟨rfl, rfl⟩
end Go.Proofs.Yticmeeinjkoodaa
