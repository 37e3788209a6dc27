/- Stores: ships are unloaded in a week, by the code. Stores: the ships of a plan, one after the other. Stores: the line of ships that wait: pushed, with all else as it was. Stores: statements inside a range over a function; marks that it leaves; the ships that come in a week. -/
import Derived.Test.YtijjkiogmlannaaDoorVC
import Derived.Test.YtijjkiogmlannaaDoorVE
import Derived.ChangeKeysEq
import Derived.RangeFuncNested
import Derived.RangeFuncBound
import Derived.RangeFuncCalls
import Derived.RangeFuncLeaves
import Derived.RangeFuncBox
import Derived.RangeFuncFrom
import Derived.Shelf.Abstract
import Derived.Shelf.RegionOpen
import Derived.OwnWalkIn
import Derived.TacticsInMore
import Derived.LoopNIn
import Derived.LoopIn
import Derived.RegionIn
import Derived.Laws.BitsLemmas
namespace Go.Proofs.YtijjkiogmlannaaDoor
open Go.RowKit

variable {C : RC} {st : Gd} {ld : List Gd} {W : List Nat} {ss ls : List Gd} {qv sv lv : Value} {w : World}
theorem ldS_lf_le {yd : Gd} {cg : Nat → Gd} {n : Nat} {q : Ld} (h : LdOk yd cg n q) {j : Nat} (hj : j < n) : (ldS yd cg q j).lf ≤ q.lf := by
  obtain ⟨h1, h2, h3, h4, h5⟩ := h
  have hx := h5 j hj
  have hu := ulG_in (x := subG (cg j) (lnd q j)) (y := subG yd q.st) (L := q.lf) (by unfold subG; simp only; omega) (by unfold subG; simp only; omega) h4
  unfold ldS
  simp only
  omega
theorem ldS_lf_is (yd : Gd) (cg : Nat → Gd) (q : Ld) (j : Nat) : (ldS yd cg q j).lf = q.lf - unI (ulG (subG (cg j) (q.ld.getD j z3)) (subG yd q.st) q.lf) := rfl
theorem ldS_unit {yd : Gd} {cg : Nat → Gd} {n : Nat} {q : Ld} (h : LdOk yd cg n q) {j : Nat} (hj : j < n) : 0 ≤ unI (ulG (subG (cg j) (q.ld.getD j z3)) (subG yd q.st) q.lf) ∧ unI (ulG (subG (cg j) (q.ld.getD j z3)) (subG yd q.st) q.lf) ≤ q.lf := by
  obtain ⟨h1, h2, h3, h4, h5⟩ := h
  have hx := h5 j hj
  unfold lnd at hx
  exact (ulG_in (x := subG (cg j) (q.ld.getD j z3)) (y := subG yd q.st) (L := q.lf) (by unfold subG; simp only; omega) (by unfold subG; simp only; omega) h4).2.2.2
/-- What is there behind a week's landing. -/
def RC.opn (C : RC) (k : Nat) : Bool := decide ((k : Int) < C.X.S.land) && C.ice.getD k false
theorem eq23 (g h : Gd) (w : World) : (Op.equalIn 10000 23 (gV g) (gV h)).run Tryd.prog w = .ok (g.a == h.a && (g.b == h.b && g.c == h.c)) w := by
  obtain ⟨i0, hi0, hz0, hz1, hz2⟩ := info_parts int_info
  have u3 := Tryd.underlying3
  have a3 := Tryd.isAgg3
  have z3 := Tryd.sizeOf3
  have hc : Tryd.prog.cellsOf 3 = 1 := by kernel_rfl
  rw [show (10000 : Nat) = 9999 + 1 from rfl, run_equalIn_array w 9999 _ _ Tryd.underlying23 hi0, show List.range 3 = [0, 1, 2] from rfl, hc]
  simp only [Op.eqItems]
  go_simp
  by_cases h1 : g.a = h.a <;> by_cases h2 : g.b = h.b <;> by_cases h3 : g.c = h.c <;> simp [h1, h2, h3]
theorem eq_yes {g : Gd} (h : g = z3) (w : World) : (Op.equalIn 10000 23 (.agg #[.int .i64 g.a, .int .i64 g.b, .int .i64 g.c]) (.agg #[.int .i64 0, .int .i64 0, .int .i64 0])).run Tryd.prog w = .ok true w := by
  subst h
  exact eq23 z3 z3 w
theorem eq_not {g : Gd} (h : g ≠ z3) (w : World) : (Op.equalIn 10000 23 (.agg #[.int .i64 g.a, .int .i64 g.b, .int .i64 g.c]) (.agg #[.int .i64 0, .int .i64 0, .int .i64 0])).run Tryd.prog w = .ok false w := by
  refine (eq23 g z3 w).trans ?_
  have e : (g.a == z3.a && (g.b == z3.b && g.c == z3.c)) = false := by
    cases hb : (g.a == z3.a && (g.b == z3.b && g.c == z3.c)) with
    | false => rfl
    | true =>
      simp only [Bool.and_eq_true, beq_iff_eq] at hb
      exact absurd (Gd.eq hb.1 hb.2.1 hb.2.2) h
  rw [e]
theorem ldF_lf_le {yd : Gd} {cg : Nat → Gd} {n : Nat} : ∀ {js : List Nat} {q : Ld}, LdOk yd cg n q → (∀ j ∈ js, j < n) → (ldF yd cg q js).lf ≤ q.lf
  | [], _, _, _ => Int.le_refl _
  | j :: js, _, h, hj => Int.le_trans (ldF_lf_le (js := js) (ldS_ok h (hj j (List.mem_cons_self ..))) fun i hi => hj i (List.mem_cons_of_mem _ hi)) (ldS_lf_le h (hj j (List.mem_cons_self ..)))
set_option maxRecDepth 100000 in
set_option maxHeartbeats 8000000 in
theorem land_any (K : C.Ok) (h : RunAt C st ld W ss ls qv sv lv w) (hL : LdOk C.X.S.yd C.X.S.cg C.X.ns ⟨st, ld, C.X.S.rate⟩) (hWn : W.Nodup) (hWj : ∀ j ∈ W, j < C.X.ns) (hWl : W.length ≤ 900) {k : Nat} (_hk : k < C.mw) :
    Calls Tryd.prog 68 #[.pointer (some ⟨C.R, 0, none⟩), .int .i64 (k : Int)] w fun e w' => e = .returned (.tuple #[]) ∧ ∃ qv', if C.opn k = true then
        RunAt C (ldF C.X.S.yd C.X.S.cg ⟨st, ld, C.X.S.rate⟩ W).st (ldF C.X.S.yd C.X.S.cg ⟨st, ld, C.X.S.rate⟩ W).ld (wfil C.X.S.cg (ldF C.X.S.yd C.X.S.cg ⟨st, ld, C.X.S.rate⟩ W) W) ss ls qv' sv lv w'
      else RunAt C st ld W ss ls qv' sv lv w' := by
  have HK := Lib.hid K; have H0 := Lib.hid h; have HL := Lib.hid hL; have HWN := Lib.hid hWn; have HWJ := Lib.hid hWj
  obtain ⟨_, _, ⟨r6, _, r8⟩, _, _, r13, _⟩ := run_cells h
  have hrt := K.K.rate; have hln := K.K.land; have hicn := K.icen; have hicl := K.icel
  have hopn : C.opn k = (decide ((k : Int) < C.X.S.land) && C.ice.getD k false) := rfl
  have hk0 : (0 : Int) ≤ (k : Int) := by omega
  by_cases h1 : (k : Int) < C.X.S.land
  · obtain ⟨x, hx⟩ := get_of_lt (l := C.ice) (k := k) (by rw [hicl]; omega)
    obtain ⟨b, o, hA, hb, c0⟩ := bls_el (RowAt.next (k := 1) (R := boolR) K.ice h.bel h.bel.size) hx
    rw [hA] at r13
    have hk1 : (k : Int) < (C.mi : Int) := by omega
    have hgx : C.ice.getD k false = x := by rw [List.getD_eq_getElem?_getD, hx]; rfl
    rw [hgx, decide_eq_true h1, Bool.true_and] at hopn
    have h2 : ¬ C.X.S.land ≤ (k : Int) := by omega
    rw [hopn]
    clear hopn hgx hx hb hA h K hL hWn hWj hicn hicl hln h1
    cases x with
    | false =>
      clear r6
      go_enter Tryd.func68, Tryd.ntmps68
      go_wp2_with fail
      exact bodyPost_ret (v := .tuple #[]) (by simp [results, Tryd.results68, go_sem]) rfl ⟨rfl, _, by simpa using H0.out⟩
    | true =>
      go_enter Tryd.func68, Tryd.ntmps68
      go_wp2_with fail
      refine (size_any H0.out).mono ?_
      rintro e w' ⟨rfl, rfl⟩
      clear r6 r8 r13 c0
      go_wp2_with fail
      go_loopw [4, 32] (fun v i wr => ∃ (i' : Nat) (q : Ld) (qv' : Value), i' ≤ W.length ∧ i = .int .i64 i' ∧ v = .int .i64 q.lf ∧ q = ldF C.X.S.yd C.X.S.cg ⟨st, ld, C.X.S.rate⟩ (W.take i') ∧ RunAt C q.st q.ld (W.drop i' ++ wfil C.X.S.cg q (W.take i')) ss ls qv' sv lv wr) (fun _ i _ => W.length - (intOf i).toNat)
      case atStart => exact ⟨0, ⟨st, ld, C.X.S.rate⟩, qv, Nat.zero_le _, rfl, rfl, rfl, by simpa [wfil] using H0.out⟩
      case round =>
        obtain ⟨i, q, qv1, hi, rfl, rfl, hq, hr1⟩ := hrel
        have HR1 := Lib.hid hr1; have HQ := Lib.hid hq
        by_cases hlt : i < W.length
        · obtain ⟨x, hx⟩ := get_of_lt hlt
          have hxn := HWJ.out x (List.mem_of_getElem? hx)
          have hok : LdOk C.X.S.yd C.X.S.cg C.X.ns q := by rw [hq]; exact ldF_ok HL.out fun j hj => HWJ.out j (List.mem_of_mem_take hj)
          have hlf : q.lf ≤ 3000 := by
            rw [hq]
            exact Int.le_trans (ldF_lf_le HL.out fun j hj => HWJ.out j (List.mem_of_mem_take hj)) hrt.2
          have hdr : W.drop i = x :: W.drop (i + 1) := by
            rw [List.drop_eq_getElem_cons hlt]
            congr 1
            exact (List.getElem?_eq_some_iff.1 hx).2
          have htk : W.take (i + 1) = W.take i ++ [x] := by rw [List.take_add_one, hx]; rfl
          have hnx : ldS C.X.S.yd C.X.S.cg q x = ldF C.X.S.yd C.X.S.cg ⟨st, ld, C.X.S.rate⟩ (W.take (i + 1)) := by rw [htk, ldF_snoc, ← hq]
          have hwf := wfil_step (yd := C.X.S.yd) (cg := C.X.S.cg) (q := ⟨st, ld, C.X.S.rate⟩) HWN.out (fun j hj => by rw [HL.out.len]; exact HWJ.out j hj) hx
          rw [← hnx, ← hq] at hwf
          have hcn : (W.drop (i + 1) ++ wfil C.X.S.cg q (W.take i)).length ≤ 900 := by
            have h6 : (wfil C.X.S.cg q (W.take i)).length ≤ (W.take i).length := List.length_filter_le _ _
            rw [List.length_take] at h6
            rw [List.length_append, List.length_drop]
            omega
          have hok2 := ldS_ok hok hxn
          have hun := ldS_unit hok hxn
          have hab : abo C.X.S.cg (ldS C.X.S.yd C.X.S.cg q x) x = !decide (subG (C.X.S.cg x) ((ldS C.X.S.yd C.X.S.cg q x).ld.getD x z3) = z3) := rfl
          have HLF := Lib.hid (ldS_lf_is C.X.S.yd C.X.S.cg q x)
          rw [hdr] at hr1
          have HR2 := Lib.hid hr1; have HNX := Lib.hid hnx; have HWF := Lib.hid hwf; have HCN := Lib.hid hcn; have HOK := Lib.hid hok; have HOK2 := Lib.hid hok2; have HXN := Lib.hid hxn; have HLE := Lib.hid hlf
          have HAB0 := Lib.hid hab
          have HWR : Hid (wrap64 (q.lf - unI (ulG (subG (C.X.S.cg x) (q.ld.getD x z3)) (subG C.X.S.yd q.st) q.lf)) = q.lf - unI (ulG (subG (C.X.S.cg x) (q.ld.getD x z3)) (subG C.X.S.yd q.st) q.lf)) := Lib.hid (w64 (by omega))
          have i1 : (i : Int) < (W.length : Int) := by omega
          clear hr1 hq hx hxn hok hlf hdr htk hnx hwf hcn hok2 hun hab HR1
          go_wp2_with fail
          refine (pop_any HK.out HR2.out).mono ?_
          rintro e w2 ⟨rfl, qv2, hr2⟩
          have HR3 := Lib.hid hr2
          clear hr2 HR2
          go_wp2_with fail
          refine (unload_any HK.out HR3.out HOK.out HLE.out HXN.out).mono ?_
          rintro e w3 ⟨rfl, hr3⟩
          have HR4 := Lib.hid hr3
          clear hr3 HR3
          obtain ⟨N, hN⟩ : ∃ z, ldS C.X.S.yd C.X.S.cg q x = z := ⟨_, rfl⟩
          obtain ⟨Y, hY⟩ : ∃ z, unI (ulG (subG (C.X.S.cg x) (q.ld.getD x z3)) (subG C.X.S.yd q.st) q.lf) = z := ⟨_, rfl⟩
          have hN2 : ldS C.X.S.yd C.X.S.cg ⟨q.st, q.ld, q.lf⟩ x = N := hN
          rw [hN2] at HR4
          rw [hN] at HNX HWF HAB0 HLF HOK2
          rw [hY] at HWR HLF
          try rw [hY]
          clear hN hN2 hY
          go_wp2_with fail
          have hab := aboard_any HK.out HR4.out HOK2.out HXN.out
          obtain ⟨G, hG⟩ : ∃ z, subG (C.X.S.cg x) (N.ld.getD x z3) = z := ⟨_, rfl⟩
          rw [hG] at hab HAB0
          refine hab.mono ?_
          rintro e w4 ⟨rfl, hb⟩
          have HR3 := Lib.hid (HR4.out.below hb)
          clear hb hab HR4 hG
          by_cases hz : G = z3
          · have HAB : Hid (abo C.X.S.cg N x = false) := Lib.hid (by rw [HAB0.out, decide_eq_true hz]; rfl)
            have Q23 := eq_yes hz
            clear hz
            go_wp2_with fail
            exact ⟨⟨i + 1, N, qv2, by omega, by go_num, by rw [HLF.out]; exact congrArg _ HWR.out, HNX.out, by rw [HWF.out, if_neg (by rw [HAB.out]; decide), List.append_nil]; exact HR3.out⟩, by simp [intOf]; omega⟩
          · have HAB : Hid (abo C.X.S.cg N x = true) := Lib.hid (by rw [HAB0.out, decide_eq_false hz]; rfl)
            have Q23 := eq_not hz
            clear hz
            go_wp2_with fail
            refine (push_any HK.out HR3.out x (Nat.lt_of_le_of_lt HCN.out (by decide))).mono ?_
            rintro e w5 ⟨rfl, qv5, hr5⟩
            have HR5 := Lib.hid hr5
            clear hr5
            go_wp2_with fail
            exact ⟨⟨i + 1, N, qv5, by omega, by go_num, by rw [HLF.out]; exact congrArg _ HWR.out, HNX.out, by rw [HWF.out, if_pos HAB.out, ← List.append_assoc]; exact HR5.out⟩, by simp [intOf]; omega⟩
        · have hie : i = W.length := by omega
          have i1 : ¬ (i : Int) < (W.length : Int) := by omega
          subst hie
          have htk : W.take W.length = W := List.take_length
          rw [htk] at hq hr1
          rw [List.drop_length, List.nil_append, hq] at hr1
          have HR2 := Lib.hid hr1
          clear hr1 hq htk HQ HR1
          go_wp2_with fail
          exact bodyPost_end (v := .tuple #[]) (by simp [results, Tryd.results68, go_sem]) rfl ⟨rfl, _, by simpa using HR2.out⟩
  · have h2 : C.X.S.land ≤ (k : Int) := by omega
    rw [decide_eq_false h1, Bool.false_and] at hopn
    rw [hopn]
    clear hopn h K hL hWn hWj hicn hicl hln h1 r6 r13
    go_enter Tryd.func68, Tryd.ntmps68
    go_wp2_with fail
    exact bodyPost_ret (v := .tuple #[]) (by simp [results, Tryd.results68, go_sem]) rfl ⟨rfl, _, by simpa using H0.out⟩
end Go.Proofs.YtijjkiogmlannaaDoor

namespace Go.Proofs.YtijjkiogmlannaaDoor
open Go.RowKit

theorem half_pow (s : Int) : ∀ k : Nat, halfI s k = s / 2 ^ k
  | 0 => by simp [halfI]
  | k + 1 => by
    unfold halfI
    rw [half_pow s k, Int.ediv_ediv_of_nonneg (Int.pow_nonneg (by decide)), Int.pow_succ]
theorem and_one (n : Int) : bits .and .i64 n 1 = n % 2 := by
  have h1 : (BitVec.ofInt 64 1).toNat = 2 ^ 1 - 1 := by decide
  have key : (BitVec.ofInt 64 n &&& BitVec.ofInt 64 1).toNat = (n % ((2 ^ 64 : Nat) : Int)).toNat % 2 ^ 1 := by
    rw [BitVec.toNat_and, BitVec.toNat_ofInt, h1, Nat.and_two_pow_sub_one_eq_mod]
  show IntKind.i64.wrap ((BitVec.ofInt 64 n &&& BitVec.ofInt 64 1).toNat : Nat) = n % 2
  rw [key, IntKind.wrap_i64]
  omega
/-! ### The ships of a plan -/
def pilL (s : Int) : List Nat := (List.range 6).filter fun k => jackB s k
abbrev PX (s : Int) := { x : Nat // x < 6 ∧ jackB s x = true }
def KpB (n₀ Bn : Nat) (W W' : World) : Prop := Below n₀ W W' ∧ W'.cell? ⟨Bn, 0, none⟩ = W.cell? ⟨Bn, 0, none⟩
theorem kpB_t {n₀ Bn : Nat} {A B C : World} (h : KpB n₀ Bn A B) (k : KpB n₀ Bn B C) : KpB n₀ Bn A C := ⟨h.1.trans k.1, k.2.trans h.2⟩
theorem kpB_b {n₀ Bn : Nat} {w : World} (hn : n₀ ≤ w.heap.size) (hB : Bn < w.heap.size) (W : World) (l : Nat) (o o' : Obj) (hl : w.heap.size ≤ l) (h : W.heap[l]? = some o) (h1 : o.isCells = false) (h2 : o.isWalk = false) : KpB n₀ Bn W (W.putObj l o') :=
  ⟨belowK_b hn W l o o' hl h h1 h2, World.cell?_of_block ((grownBy_putObj' W l o').block Bn (by have := (Array.getElem?_eq_some_iff.1 h).1; omega) (by intro e; injection e; omega))⟩
theorem two {e : Ending} {A B : Prop} (h : (e = .returned (.bool true) ∧ A) ∨ (e = .returned (.bool false) ∧ B)) : ∃ b, e = .returned (.bool b) ∧ ((b = true ∧ A) ∨ (b = false ∧ B)) := by
  rcases h with ⟨rfl, h⟩ | ⟨rfl, h⟩
  · exact ⟨true, rfl, .inl ⟨rfl, h⟩⟩
  · exact ⟨false, rfl, .inr ⟨rfl, h⟩⟩
theorem pil_take {s : Int} {k : Nat} : (List.range (k + 1)).filter (fun k => jackB s k) = (List.range k).filter (fun k => jackB s k) ++ (if jackB s k then [k] else []) := by
  rw [List.range_succ, List.filter_append]
  simp [List.filter_cons]
theorem pil_len {s : Int} {k : Nat} : ((List.range k).filter (fun k => jackB s k)).length ≤ k := by
  have := List.length_filter_le (fun k => jackB s k) (List.range k)
  simpa using this
open Go.Shelf
attribute [local go_sem] Oper.semAt_some
set_option maxRecDepth 100000 in
set_option maxHeartbeats 2000000 in
theorem plan1_in (n : Nat) (hn : 1 ≤ n) (l Bn n₀ : Nat) (s : Int) (J Jx : List (PX s) → World → Prop)
    (hY : ∀ pre x W, J pre W → pre.length < 6 → YieldAt Fence.wide (n - 1) Tryd.prog l #[.int .i64 (x.1 : Int)] W fun e W' =>
      (e = .returned (.bool true) ∧ J (pre ++ [x]) W' ∧ KpB n₀ Bn W W') ∨ (e = .returned (.bool false) ∧ Jx (pre ++ [x]) W'))
    (W : World) (c0 : W.cell? ⟨Bn, 0, none⟩ = some (.int .i64 s)) (h0 : J [] W) :
    CallsIn Fence.wide n Tryd.prog 90 #[.func (.yield l) #[] #[], .pointer (some ⟨Bn, 0, none⟩)] W fun e W' => (∃ v, e = .returned v) ∧
      ((∃ ys, ys.map Subtype.val = pilL s ∧ J ys W') ∨ (∃ pre, True ∧ Jx pre W')) := by
  have C0 := Lib.hid c0
  refine callsIn_of_wp Tryd.func90 rfl trivial ?_ rfl
  simp only [Tryd.ntmps90, List.size_toArray, List.length_cons, List.length_nil, Nat.reduceAdd, Nat.reduceSub, Array.replicate_succ, Array.replicate_zero, List.push_toArray, List.append_toArray, List.nil_append, List.cons_append]
  gi_wp2
  gi_loopw [4] (fun i wr => ∃ (k : Nat) (pre : List (PX s)), k ≤ 6 ∧ i = .int .i64 k ∧ pre.map Subtype.val = (List.range k).filter (fun k => jackB s k) ∧ J pre wr ∧ wr.cell? ⟨Bn, 0, none⟩ = some (.int .i64 s)) (fun i _ => 6 - (intOf i).toNat)
  case atStart => exact ⟨0, [], by omega, rfl, by simp, h0, C0.out⟩
  case round =>
    clear c0
    obtain ⟨k, pre, hk, rfl, hpre, hJs, c0⟩ := hrel
    have HP := Lib.hid hpre; clear hpre
    by_cases hlt : k < 6
    · have hk1 : (k : Int) < 6 := by omega
      have hlen : pre.length < 6 := by
        have := congrArg List.length HP.out
        rw [List.length_map] at this
        have h2 := pil_len (s := s) (k := k)
        omega
      have hb := and_one (s / 2 ^ k)
      have hkk0 : (0 : Int) ≤ (k : Int) := by omega
      have hkk1 : (k : Int) ≤ 64 := by omega
      have hjb : jackB s k = decide (s / 2 ^ k % 2 = 1) := by unfold jackB; rw [half_pow]
      cases hj : jackB s k with
      | false =>
        have HJ := Lib.hid hj
        rw [hjb] at hj
        have hz : s / 2 ^ k % 2 = 0 := by have := of_decide_eq_false hj; omega
        rw [hz] at hb
        clear hj hjb hz
        gi_wp2
        refine ⟨fun _ _ => trivial, ?_⟩
        gi_wp2
        go_roundw
        case rel => exact ⟨k + 1, pre, by omega, by go_num, by rw [pil_take, HJ.out, HP.out]; simp, hJs, c0⟩
        case measure => simp [intOf]; omega
      | true =>
        have HJ := Lib.hid hj
        rw [hjb] at hj
        rw [of_decide_eq_true hj] at hb
        clear hj hjb
        have hj := HJ.out
        obtain ⟨fn, tmps, assign, body, hy, hR⟩ := hY pre ⟨k, hlt, hj⟩ _ hJs hlen
        dsimp only at hy
        gi_wp2
        refine hR.mono ?_
        rintro e W3 h4
        obtain ⟨bv, rfl, h3⟩ := two h4
        clear h4 hy
        have hmap : (pre ++ [(⟨k, hlt, hj⟩ : PX s)]).map Subtype.val = (List.range (k + 1)).filter (fun k => jackB s k) := by
          rw [List.map_append, HP.out, pil_take, if_pos HJ.out]
          rfl
        have HB := Lib.hid hmap
        clear hmap
        rcases h3 with ⟨rfl, hJ3, hk3⟩ | ⟨rfl, hJx3⟩
        · have hcB : W3.cell? ⟨Bn, 0, none⟩ = some (.int .i64 s) := hk3.2.trans c0
          have HcB := Lib.hid hcB
          clear hcB hk3
          gi_wp2
          go_roundw
          case rel => exact ⟨k + 1, _, by omega, by go_num, HB.out, hJ3, HcB.out⟩
          case measure => simp [intOf]; omega
        · gi_wp2
          refine bodyPost_ret (results_none rfl _ _ _) rfl ?_
          exact ⟨⟨_, rfl⟩, .inr ⟨_, trivial, hJx3⟩⟩
    · have hk1 : ¬ (k : Int) < 6 := by omega
      have hk6 : k = 6 := by omega
      subst hk6
      gi_wp2
      go_end0
      exact ⟨⟨_, rfl⟩, .inl ⟨_, HP.out, hJs⟩⟩
theorem plan_stops (n : Nat) (hn : 1 ≤ n) (Bn n₀ : Nat) (s : Int) (w : World) (hBn : Bn < w.heap.size) (c0 : w.cell? ⟨Bn, 0, none⟩ = some (.int .i64 s)) :
    SeqStopsK Fence.wide n Tryd.prog 90 #[.pointer (some ⟨Bn, 0, none⟩)] (fun x : PX s => #[.int .i64 (x.1 : Int)]) (KpB n₀ Bn) (fun ys => ys.map Subtype.val = pilL s) (fun _ => True) 6 w := fun l J Jx W hW _ _ hY h0 => by
  obtain ⟨r1, _⟩ := bcell hW
  exact plan1_in n hn l Bn n₀ s J Jx hY W ((r1 _ _ hBn).trans c0) h0
set_option maxHeartbeats 400000 in
theorem shipsOf_any (s : Int) (w : World) :
    Calls Tryd.prog 76 #[.int .i64 s] w fun e w' => e = .returned (.func (.func 90) #[] #[.pointer (some ⟨w.heap.size, 0, none⟩)]) ∧ w.alloc (.cells #[.int .i64 s] 3) = w' := by
  go_enter Tryd.func76, Tryd.ntmps76
  go_wp2
  go_ret
  exact ⟨rfl, rfl⟩
end Go.Proofs.YtijjkiogmlannaaDoor

namespace Go.Proofs.YtijjkiogmlannaaDoor
open Go.RowKit

theorem run_push2 (w : World) {base : Nat} {v : Value} {W : List Nat} {ty : TypeId} (hq : QAt w base v W) {B y : Nat} (hc : w.cell? ⟨B, 0, none⟩ = some (.int .i64 (y : Int))) (hl : W.length < 1000) (hbase : base ≤ w.heap.size) :
    ∃ v' w', (Builtin.append_ #[77, 77] ty #[v, .slice (some ⟨B, 0, none⟩) 1 1]).run Tryd.prog w = .ok v' w' ∧ QAt w' base v' (W ++ [y]) ∧ w.grownBy w' v.ownBlock ∧ (v'.ownBlock = v.ownBlock ∨ ∃ B, v'.ownBlock = some B ∧ w.heap.size ≤ B) := by
  obtain ⟨i0, hi0, hz⟩ := Option.map_eq_some_iff.1 int_info
  have hz0 : i0.zero = some (.int .i64 0) := congrArg (·.1) hz
  have hz1 : i0.size = 1 := congrArg (·.2.1) hz
  have hz2 : i0.bytes = 8 := congrArg (·.2.2) hz
  have hn : ∀ j u, [Value.int .i64 (y : Int)][j]? = some u → w.cell? ((⟨B, 0, none⟩ : Addr).add j) = some u := fun j u hj => by
    match j, hj with
    | 0, hj => simp at hj; subst hj; simpa [Addr.add] using hc
  have ho : ∀ u ∈ [Value.int .i64 (y : Int)], u.oneCell' = true := by simp [Value.oneCell']
  have happ : natsV W ++ [Value.int .i64 (y : Int)] = natsV (W ++ [y]) := by simp [natsV]
  rcases hq with ⟨rfl, rfl⟩ | ⟨g, off, cap, cs, rfl, h1, h2, h3, h4, h5, h6⟩
  · obtain ⟨v', w', hr, r1, r2, _, r4⟩ := run_append_own_at (P := Tryd.prog) w base 77 ty 3 i0 (.int .i64 0) 1 8 Tryd.underlying77 hi0 hz0 hz1 hz2 rfl (by decide) (.slice none 0 0) 0 [] (World.ownsRow_nil w _ 3 1) ⟨B, 0, none⟩ 1 1 [.int .i64 (y : Int)] rfl hn ho (by unfold maxLen; omega) (by omega) hbase
    refine ⟨v', w', hr, QAt.of_own (n := 0 + 1) ?_, r2, r4.imp id fun e => ⟨_, e, Nat.le_refl _⟩⟩
    exact r1
  · by_cases hr : W.length + 1 ≤ cap
    · have hcell : w.cell? ⟨g, off + W.length, none⟩ = cs[off + W.length]? := by rw [cell_of_row w g _ _ 3 (0, 0) h2]
      have hlt : off + W.length < cs.size := by omega
      have hrun := run_append_room_cells (P := Tryd.prog) w 77 ty 3 i0 Tryd.underlying77 hi0 g off W.length cap ⟨B, 0, none⟩ 1 1 [.int .i64 (y : Int)] (by rw [hz1]; rfl) hn ho hr
        (fun j hj => by
          have : j = 0 := by simpa using hj
          subst this
          rw [hz1, Nat.mul_one, Nat.add_zero, hcell, Array.getElem?_eq_getElem hlt]
          rfl)
        (fun j hj => by simp [World.frozen?, h2])
      refine ⟨_, _, hrun, .inr ⟨g, off, cap, cs.setIfInBounds (off + W.length) (.int .i64 (y : Int)), by simp, h1, ?_, by simpa using hr, h4, by simpa using h5, ?_⟩, ?_, .inl rfl⟩
      · show (w.setCell ⟨g, off + W.length * i0.size, none⟩ _).heap[g]? = _
        rw [hz1, Nat.mul_one]
        exact blk_set h2 _ _
      · intro i x hx
        by_cases hi : i = W.length
        · subst hi
          simp at hx
          subst hx
          simp [hlt]
        · have hlt2 := (List.getElem?_eq_some_iff.1 hx).1
          simp at hlt2
          rw [Array.getElem?_setIfInBounds_ne (by omega)]
          exact h6 i x (by rw [List.getElem?_append_left (by omega)] at hx; exact hx)
      · show w.grownBy (w.setCell ⟨g, off + W.length * i0.size, none⟩ _) _
        exact ⟨rfl, rfl, rfl, by simp [World.setCell], fun k hk hne => Below.heap_setCell _ _ _ _ (fun e => hne (by subst e; rfl))⟩
    · obtain ⟨v', w', hrun, r1, r2⟩ := run_append_arg_grows (P := Tryd.prog) w 77 ty 3 i0 (.int .i64 0) 1 8 Tryd.underlying77 hi0 hz0 hz1 hz2 rfl (by decide) ⟨g, off, none⟩ W.length cap (natsV W) (by rw [natsV_len, Nat.mul_one])
        (fun j u hj => by
          obtain ⟨x, hx, rfl⟩ := natsV_get hj
          have e1 : (⟨g, off, none⟩ : Addr).add j = ⟨g, off + j, none⟩ := by unfold Addr.add; split <;> simp_all
          rw [e1, cell_of_row w g _ _ 3 (0, 0) h2]
          exact h6 j x hx) ⟨B, 0, none⟩ 1 1 [.int .i64 (y : Int)] rfl hn (by omega) (by unfold maxLen; omega) (by omega)
      rw [happ] at r1
      refine ⟨v', w', hrun, ?_, ⟨r2.os, r2.tape, r2.output, r2.size, fun k hk _ => r2.block k hk (by simp)⟩, ?_⟩
      · have := QAt.of_own r1
        rcases this with h | ⟨g', off', cap', cs', e1, e2, e3⟩
        · exact .inl h
        · exact .inr ⟨g', off', cap', cs', e1, by omega, e3⟩
      · rcases hv : v'.ownBlock with _ | B
        · exfalso
          rcases r1.2 with ⟨_, h0⟩ | ⟨g', cap', cur', rfl, _⟩
          · omega
          · cases hv
        · exact .inr ⟨B, rfl, (own_at r1 hv).1⟩
theorem wpList_push2 {w : World} {ops : Array Oper} {rest : List Oper} {o : Oper} {a : Act} {Q : Exit → Act → World → Prop} (hgd : o.guard = none) (s x : Operand)
    (ho : o.op = .call { callee := .builtin .append, args := #[s, x], argTypes := #[77, 77] }) {base : Nat} {v : Value} {W : List Nat} {B y : Nat} (hs : a.eval s = v) (hx : a.eval x = .slice (some ⟨B, 0, none⟩) 1 1)
    (hq : QAt w base v W) (hc : w.cell? ⟨B, 0, none⟩ = some (.int .i64 (y : Int))) (hl : W.length < 1000) (hbase : base ≤ w.heap.size)
    (h : ∀ v' w', QAt w' base v' (W ++ [y]) → w.grownBy w' v.ownBlock → (v'.ownBlock = v.ownBlock ∨ ∃ B, v'.ownBlock = some B ∧ w.heap.size ≤ B) → wpList Tryd.prog ops Q rest (a.put o.dst v') w') :
    wpList Tryd.prog ops Q (o :: rest) a w := by
  refine wpList_plain hgd fun K hK => ?_
  obtain ⟨v', w', hr, h2, h3, h4⟩ := run_push2 w (ty := o.type) hq hc hl hbase
  unfold Oper.wp execOp
  simp only [ho, resolve, invoke, builtin, Sem.run_bind, Sem.run_pure, Result.andThen_ok, List.map_toArray, List.map_cons, List.map_nil, hs, hx, hr]
  exact hK _ _ (h v' w' h2 h3 h4)

/-- What a push leaves as it was. -/
structure Psh (C : RC) (qv qv' : Value) (w w' : World) : Prop where
  os : w'.os = w.os
  tape : w'.tape = w.tape
  output : w'.output = w.output
  size : w.heap.size ≤ w'.heap.size
  blk : ∀ b, b < w.heap.size → b ≠ C.R → some b ≠ qv.ownBlock → w'.heap[b]? = w.heap[b]?
  fresh : qv'.ownBlock = qv.ownBlock ∨ ∃ B, qv'.ownBlock = some B ∧ w.heap.size ≤ B
variable {C : RC} {st : Gd} {ld : List Gd} {W : List Nat} {ss ls : List Gd} {qv sv lv : Value} {w : World}
set_option maxRecDepth 100000 in
set_option maxHeartbeats 4000000 in
theorem push_any2 (K : C.Ok) (h : RunAt C st ld W ss ls qv sv lv w) (y : Nat) (hl : W.length < 1000) : Calls Tryd.prog 82 #[.pointer (some ⟨C.R, 15, none⟩), .int .i64 (y : Int)] w fun e w' => e = .returned (.tuple #[]) ∧ ∃ qv', RunAt C st ld (W ++ [y]) ss ls qv' sv lv w' ∧ Psh C qv qv' w w' := by
  obtain ⟨_, _, _, _, _, _, _, r15, _⟩ := run_cells h
  have hb1 := (Below.refl w.heap.size w).alloc (Nat.le_refl _) (.cells #[.int .i64 (y : Int)] 3)
  have z1 := heap_alloc_new w (.cells #[.int .i64 (y : Int)] 3)
  have hc1 := cell_of_row _ w.heap.size 0 _ 3 (0, 0) z1
  have H := Lib.hid (h.below hb1)
  have HK := Lib.hid K
  have HN : Hid (∀ v' w', QAt w' C.w0.heap.size v' (W ++ [y]) → (w.alloc (.cells #[.int .i64 (y : Int)] 3)).grownBy w' qv.ownBlock → (v'.ownBlock = qv.ownBlock ∨ ∃ B, v'.ownBlock = some B ∧ (w.alloc (.cells #[.int .i64 (y : Int)] 3)).heap.size ≤ B) → (RunAt C st ld (W ++ [y]) ss ls v' sv lv (w'.setCell ⟨C.R, 15, none⟩ v') ∧ Psh C qv v' w (w'.setCell ⟨C.R, 15, none⟩ v')) ∧ w'.frozen? ⟨C.R, 15, none⟩ = false ∧ w'.cell? ⟨C.R, 15, none⟩ = some qv) := Lib.hid fun v' w' h1 h2 h4 => by
    have h3 := H.out.line HK.out h2 h1
    have hb := H.out.box
    have hb2 := (h2.block C.R (heapsz hb) (fun e => by
      rcases H.out.q with ⟨rfl, _⟩ | ⟨g, off, cap, cs, rfl, _, hh, _⟩
      · cases e
      · cases e
        rw [hb] at hh
        injection hh with hh
        injection hh with _ hh _
        exact absurd hh (by decide))).trans hb
    have hps : Psh C qv v' w (w'.setCell ⟨C.R, 15, none⟩ v') := by
      refine ⟨h2.os.trans hb1.os, h2.tape.trans hb1.tape, h2.output.trans hb1.output, by have := h2.size; have := hb1.size; simp [World.setCell]; omega, fun b hb3 hne hq => ?_, h4.imp id fun ⟨B, e1, e2⟩ => ⟨B, e1, by have := hb1.size; omega⟩⟩
      exact (Below.heap_setCell _ _ _ _ hne).trans ((h2.block b (by have := hb1.size; omega) hq).trans (hb1.block b hb3))
    exact ⟨⟨h3, hps⟩, by simp [World.frozen?, hb2], cell_of_row w' C.R 15 _ 99 (0, 0) hb2⟩
  have HB1Z := Lib.hid hb1
  clear K h z1 hb1 HB1Z
  go_enter Tryd.func82, Tryd.ntmps82
  go_wp2_with (first
    | (at_builtin
       refine wpList_push2 (base := C.w0.heap.size) (v := qv) (W := W) (B := w.heap.size) (y := y) rfl _ _ rfl rfl rfl H.out.q hc1 hl (by have := H.out.bel.size; omega) ?_
       intro v' w' h1 h2 h4
       obtain ⟨A', c', rfl⟩ := h1.form
       obtain ⟨⟨h3, h5⟩, f0, x0⟩ := HN.out _ w' h1 h2 h4
       have H3 := Lib.hid h3; have H5 := Lib.hid h5
       clear h1 h2 h3 h4 h5)
    | fail)
  exact bodyPost_end (v := .tuple #[]) (by simp [results, Tryd.results82, go_sem]) rfl ⟨rfl, _, by simpa using H3.out, by simpa using H5.out⟩
end Go.Proofs.YtijjkiogmlannaaDoor

namespace Go
section
variable {P : Program} {ops : Array Oper} {Q : Exit → Act → World → Prop}

def Oper.noDefer (o : Oper) : Bool := match o.op with
  | .defer _ => false
  | _ => true
theorem Oper.noDefer_spec {o : Oper} (h : o.noDefer = true) : ∀ c, o.op ≠ .defer c := fun c e => by simp [Oper.noDefer, e] at h

theorem Oper.wpIn_round_of_wp {n l : Nat} {o : Oper} {a : Act} {w : World} {K K' : Act → World → Prop} (hd : o.noDefer = true) (hK : ∀ a w, K a w → K' a w) (h : o.wp P a w K Q) :
    o.wpIn (Fence.wide.inRound l) n P a w K' Q := by
  refine ⟨fun _ _ => trivial, ?_⟩
  unfold Oper.wp at h
  rw [Oper.semAt_eq _ _ _ (Oper.noDefer_spec hd)]
  generalize (execOp a.eval o).run P w = r at *
  cases r with
  | ok x w' =>
    cases x with
    | enter f args =>
      simp only [Oper.upon, Oper.uponIn] at h ⊢
      refine ⟨(fun hh => by simp [Fence.wide] at hh), CallsIn.inRound l (callsIn_wide.2 (h.mono ?_))⟩
      intro e w'' he
      cases e
      · exact hK _ _ he
      · exact he
      · exact he
    | row r args =>
      simp only [Oper.upon, Oper.uponIn] at h ⊢
      exact ⟨(fun hh => by simp [Fence.wide] at hh), fun c cs _ => let ⟨v, w2, r, s⟩ := h c cs; ⟨v, w2, hK _ _ r, stepsIn_wide.2 s⟩⟩
    | _ => simp only [Oper.upon, Oper.uponIn] at h ⊢ <;> first | exact hK _ _ h | exact h
  | halt x w' => cases x <;> simp only [Oper.upon, Oper.uponIn] at h ⊢ <;> exact h

theorem wpAnyIn_round_of_wpAny {n l : Nat} {md : Region.Mode} (hd : ops.all Oper.noDefer = true) (hQ : ¬ LetsOut Q) : ∀ (fuel : Nat) (listed : Array Bool) (a : Act) (w : World), wpAny P md ops Q fuel listed a w →
    wpAnyIn (Fence.wide.inRound l) n P md ops Q fuel listed a w := by
  intro fuel
  induction fuel with
  | zero => intro listed a w h; exact h
  | succ fuel ih =>
    intro listed a w h
    refine ⟨h.1, fun i hi => ?_⟩
    have h2 := h.2 i hi
    unfold wpOp at h2
    unfold wpOpIn
    cases ho : ops[i]? with
    | none => rw [ho] at h2; exact ih _ _ _ h2
    | some o =>
      rw [ho] at h2
      dsimp only at h2 ⊢
      split at h2
      · rename_i hw
        rw [if_pos hw]
        rcases h2 with h2 | ⟨_, h2⟩
        · have hod : o.noDefer = true := by
            obtain ⟨hi', he⟩ := Array.getElem?_eq_some_iff.1 ho
            rw [Array.all_eq_true] at hd
            rw [← he]
            exact hd i hi'
          exact Oper.wpIn_round_of_wp hod (fun a w => ih _ a w) h2
        · exact absurd h2 hQ
      · rename_i hw
        rw [if_neg hw]
        exact ⟨fun _ _ => trivial, ih _ _ _ h2⟩

end
end Go

namespace Go.Proofs.YtijjkiogmlannaaDoor
open Go.RowKit

/-! ### Marks of ranges over functions -/
def markD (D : Nat) : Deferred := { target := .collected D, args := #[] }
def Marks (w : World) (B : Nat) (Ds : List Nat) : Prop := Ds.Nodup ∧ ∀ D ∈ Ds, B ≤ D ∧ w.heap[D]? = some (.deferred (some []))
/-- Cells are kept, and all below. -/
def CellsK (B : Nat) (w w' : World) : Prop := Below B w w' ∧ ∀ (b : Nat) (cs : Array Value) (t : TypeId) (z : Nat × Nat), w.heap[b]? = some (.cells cs t z) → w'.heap[b]? = some (.cells cs t z)
theorem CellsK.refl (B : Nat) (w : World) : CellsK B w w := ⟨Below.refl _ _, fun _ _ _ _ h => h⟩
theorem CellsK.trans {B : Nat} {a b c : World} (h : CellsK B a b) (k : CellsK B b c) : CellsK B a c := ⟨h.1.trans k.1, fun b cs t z hb => k.2 b cs t z (h.2 b cs t z hb)⟩
theorem cellsK_put {B : Nat} {w : World} {D : Nat} {o : Obj} (o' : Obj) (h : w.heap[D]? = some o) (ho : o.isCells = false) (hB : B ≤ D) : CellsK B w (w.putObj D o') := by
  refine ⟨(Below.refl B w).grown (grownBy_putObj' w D o') (by have := (Array.getElem?_eq_some_iff.1 h).1; omega) (fun k e => by cases e; omega), fun b cs t z hb => ?_⟩
  have hne : b ≠ D := fun e => by
    subst e
    rw [h] at hb
    cases hb
    simp [Obj.isCells] at ho
  exact (World.putObj_heap_other hne).trans hb
theorem leaves_marks {F : Fence} {n : Nat} {fn : Func} {tmps : Array Value} {R : Ending → World → Prop} {B : Nat} : ∀ (Ds : List Nat) (w : World), Marks w B Ds →
    (∀ w', CellsK B w w' → LeavesIn F n Tryd.prog fn tmps R [] .returning w') → LeavesInM F n Tryd.prog fn tmps R (Ds.map markD) .returning w
  | [], w, _, h => h w (CellsK.refl _ _)
  | D :: Ds, w, hm, h => by
    obtain ⟨hnd, hall⟩ := hm
    obtain ⟨hB, hD⟩ := hall D List.mem_cons_self
    have hk := cellsK_put (B := B) (.deferred none) hD rfl hB
    refine ⟨by simp, .inl ⟨D, _, rfl, run_takeDeferred hD, ?_⟩⟩
    refine leaves_marks Ds _ ⟨(List.nodup_cons.1 hnd).2, fun E hE => ⟨(hall E (List.mem_cons_of_mem _ hE)).1, ?_⟩⟩ (fun w' hw => h w' (hk.trans hw))
    have hne : E ≠ D := fun e => (List.nodup_cons.1 hnd).1 (e ▸ hE)
    exact (World.putObj_heap_other hne).trans (hall E (List.mem_cons_of_mem _ hE)).2
theorem jack_lt {s : Int} {k np : Nat} (h0 : 0 ≤ s) (h1 : s ≤ (2 ^ np : Int) - 1) (h : jackB s k = true) : k < np := by
  unfold jackB at h
  rw [half_pow] at h
  have h2 : s / 2 ^ k % 2 = 1 := by simpa using h
  rcases Nat.lt_or_ge k np with h3 | h3
  · exact h3
  · exfalso
    have h4 : (2 ^ np : Int) ≤ 2 ^ k := by
      have := Nat.pow_le_pow_right (show 0 < 2 by decide) h3
      exact_mod_cast this
    have h5 : s / 2 ^ k = 0 := Int.ediv_eq_zero_of_lt h0 (by omega)
    rw [h5] at h2
    omega
theorem ko_below {W W' : World} (h : Below W.heap.size W W') : KeepsOthers W W' := ⟨h.size, fun k _ hk _ => (h.block k (Array.getElem?_eq_some_iff.1 hk).1).trans hk⟩
theorem RunAt.cellsK {C : RC} {st : Gd} {ld : List Gd} {W : List Nat} {ss ls : List Gd} {qv sv lv : Value} {w w' : World} {B : Nat} (h : RunAt C st ld W ss ls qv sv lv w) (hB : C.w0.heap.size ≤ B) (hk : CellsK B w w') : RunAt C st ld W ss ls qv sv lv w' := by
  refine ⟨h.bel.trans (hk.1.mono hB), hk.2 _ _ _ _ h.box, hk.2 _ _ _ _ h.lnd, h.ldl, h.q.keep fun b cs _ hc _ => (hk.2 _ _ _ _ hc).trans hc.symm, own_of_blocks h.so fun b hb => ?_, own_of_blocks h.lo fun b hb => ?_, h.sd, h.lD, h.sl, fun x hx => hk.2 _ _ _ _ (h.fix x hx)⟩
  · obtain ⟨_, cur, hc⟩ := own_at h.so hb
    exact (hk.2 _ _ _ _ hc).trans hc.symm
  · obtain ⟨_, cur, hc⟩ := own_at h.lo hb
    exact (hk.2 _ _ _ _ hc).trans hc.symm
/-- Blocks that hold no cells are told anew. -/
theorem RunAt.own {C : RC} {st : Gd} {ld : List Gd} {W : List Nat} {ss ls : List Gd} {qv sv lv : Value} {A B : World} {row : Option Nat} {N : Nat} (h : RunAt C st ld W ss ls qv sv lv A) (hN : C.w0.heap.size ≤ N) (hg : A.grownBy B row) (hr : ∀ r, row = some r → N ≤ r ∧ ∃ o : Obj, A.heap[r]? = some o ∧ o.isCells = false) : RunAt C st ld W ss ls qv sv lv B := by
  have hc : ∀ (b : Nat) (cs : Array Value) (t : TypeId) (z : Nat × Nat), A.heap[b]? = some (.cells cs t z) → B.heap[b]? = some (.cells cs t z) := fun b cs t z hb => (hg.block b (Array.getElem?_eq_some_iff.1 hb).1 (fun e => by
    obtain ⟨_, o, h2, h3⟩ := hr b e.symm
    rw [hb] at h2
    injection h2 with h2
    rw [← h2] at h3
    cases h3)).trans hb
  exact h.cellsK (B := C.w0.heap.size) (Nat.le_refl _) ⟨(Below.refl _ A).grown hg h.bel.size (fun k e => by have := (hr k e).1; omega), hc⟩
theorem comes_is {S : Sto} {plan : Nat} {ice : List Bool} {w : Nat} (hp : plan < 2 ^ S.ships.length) (hn : S.ships.length ≤ 6) : (pilL (plan : Int)).filter (fun j => decide (arrI ice (S.ship j).w.toNat = (w : Int))) = S.comes plan ice w := by
  unfold pilL Sto.comes
  rw [List.filter_filter]
  obtain ⟨d, hd⟩ : ∃ d, 6 = S.ships.length + d := ⟨6 - S.ships.length, by omega⟩
  rw [hd, List.range_add, List.filter_append]
  have h2 : ((List.range d).map (S.ships.length + ·)).filter (fun a => decide (arrI ice (S.ship a).w.toNat = (w : Int)) && jackB (plan : Int) a) = [] := by
    rw [List.filter_eq_nil_iff]
    intro x hx
    obtain ⟨y, _, rfl⟩ := List.mem_map.1 hx
    intro hh
    rw [Bool.and_eq_true] at hh
    have h5 : ((plan : Nat) : Int) ≤ (2 ^ S.ships.length : Int) - 1 := by
      have : ((plan : Nat) : Int) < ((2 ^ S.ships.length : Nat) : Int) := Int.ofNat_lt.2 hp
      have e : ((2 ^ S.ships.length : Nat) : Int) = (2 : Int) ^ S.ships.length := by simp
      omega
    have := jack_lt (np := S.ships.length) (Int.natCast_nonneg plan) h5 hh.2
    omega
  rw [h2, List.append_nil]
  refine List.filter_congr fun j _ => ?_
  rw [jack_has, Bool.and_comm]
end Go.Proofs.YtijjkiogmlannaaDoor
