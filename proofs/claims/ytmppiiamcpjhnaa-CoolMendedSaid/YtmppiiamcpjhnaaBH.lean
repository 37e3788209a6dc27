/- Coolers: the sites of a set. Coolers: sums and sets. Coolers: a town that is looked at. Coolers: other coolers of a town that is looked at; what a site costs, how long its repair takes. Coolers: to look at a town. -/
import Derived.Test.YtmppiiamcpjhnaaBC
import Derived.Laws.Rows
import Derived.Carry
namespace Go.Proofs.Ytmppiiamcpjhnaa
open Go.RowKit

def halfI : Int → Nat → Int
  | s, 0 => s
  | s, k + 1 => halfI s k / 2
def jackB (s : Int) (k : Nat) : Bool := decide (halfI s k % 2 = 1)
theorem halfI_nat (p : Nat) : ∀ k, halfI (p : Int) k = ((p / 2 ^ k : Nat) : Int)
  | 0 => by simp [halfI]
  | k + 1 => by
    have ih := halfI_nat p k
    unfold halfI
    rw [ih, Nat.pow_succ, ← Nat.div_div_eq_div_mul]
    rfl
theorem jack_bit (p j : Nat) : jackB (p : Int) j = p.testBit j := by
  unfold jackB
  rw [halfI_nat, Nat.testBit_eq_decide_div_mod_eq]
  congr 1
  apply propext
  omega
theorem half_pow (s : Int) : ∀ k : Nat, halfI s k = s / 2 ^ k
  | 0 => by simp [halfI]
  | k + 1 => by
    unfold halfI
    rw [half_pow s k, Int.ediv_ediv_of_nonneg (Int.pow_nonneg (by decide)), Int.pow_succ]
theorem and_one (n : Int) : bits .and .i64 n 1 = n % 2 := by
  have h1 : (BitVec.ofInt 64 1).toNat = 2 ^ 1 - 1 := by decide
  have key : (BitVec.ofInt 64 n &&& BitVec.ofInt 64 1).toNat = (n % ((2 ^ 64 : Nat) : Int)).toNat % 2 ^ 1 := by
    rw [BitVec.toNat_and, BitVec.toNat_ofInt, h1, Nat.and_two_pow_sub_one_eq_mod]
  show IntKind.i64.wrap ((BitVec.ofInt 64 n &&& BitVec.ofInt 64 1).toNat : Nat) = n % 2
  rw [key, IntKind.wrap_i64]
  omega
/-! ### The ships of a plan -/
def sitL (s : Int) : List Nat := (List.range 10).filter fun k => jackB s k
abbrev PX (s : Int) := { x : Nat // x < 10 ∧ jackB s x = true }
def KpB (n₀ Bn : Nat) (W W' : World) : Prop := Below n₀ W W' ∧ W'.cell? ⟨Bn, 0, none⟩ = W.cell? ⟨Bn, 0, none⟩
theorem kpB_t {n₀ Bn : Nat} {A B C : World} (h : KpB n₀ Bn A B) (k : KpB n₀ Bn B C) : KpB n₀ Bn A C := ⟨h.1.trans k.1, k.2.trans h.2⟩
theorem kpB_b {n₀ Bn : Nat} {w : World} (hn : n₀ ≤ w.heap.size) (hB : Bn < w.heap.size) (W : World) (l : Nat) (o o' : Obj) (hl : w.heap.size ≤ l) (h : W.heap[l]? = some o) (h1 : o.isCells = false) (h2 : o.isWalk = false) : KpB n₀ Bn W (W.putObj l o') :=
  ⟨belowK_b hn W l o o' hl h h1 h2, World.cell?_of_block ((grownBy_putObj' W l o').block Bn (by have := (Array.getElem?_eq_some_iff.1 h).1; omega) (by intro e; injection e; omega))⟩
theorem two {e : Ending} {A B : Prop} (h : (e = .returned (.bool true) ∧ A) ∨ (e = .returned (.bool false) ∧ B)) : ∃ b, e = .returned (.bool b) ∧ ((b = true ∧ A) ∨ (b = false ∧ B)) := by
  rcases h with ⟨rfl, h⟩ | ⟨rfl, h⟩
  · exact ⟨true, rfl, .inl ⟨rfl, h⟩⟩
  · exact ⟨false, rfl, .inr ⟨rfl, h⟩⟩
theorem sit_take {s : Int} {k : Nat} : (List.range (k + 1)).filter (fun k => jackB s k) = (List.range k).filter (fun k => jackB s k) ++ (if jackB s k then [k] else []) := by
  rw [List.range_succ, List.filter_append]
  simp [List.filter_cons]
theorem sit_len {s : Int} {k : Nat} : ((List.range k).filter (fun k => jackB s k)).length ≤ k := by
  have := List.length_filter_le (fun k => jackB s k) (List.range k)
  simpa using this
open Go.Shelf
attribute [local go_sem] Oper.semAt_some
set_option maxRecDepth 100000 in
set_option maxHeartbeats 2000000 in
theorem sit1_in (n : Nat) (hn : 1 ≤ n) (l Bn n₀ : Nat) (s : Int) (J Jx : List (PX s) → World → Prop)
    (hY : ∀ pre x W, J pre W → pre.length < 10 → YieldAt Fence.wide (n - 1) Try.prog l #[.int .i64 (x.1 : Int)] W fun e W' =>
      (e = .returned (.bool true) ∧ J (pre ++ [x]) W' ∧ KpB n₀ Bn W W') ∨ (e = .returned (.bool false) ∧ Jx (pre ++ [x]) W'))
    (W : World) (c0 : W.cell? ⟨Bn, 0, none⟩ = some (.int .i64 s)) (h0 : J [] W) :
    CallsIn Fence.wide n Try.prog 101 #[.func (.yield l) #[] #[], .pointer (some ⟨Bn, 0, none⟩)] W fun e W' => (∃ v, e = .returned v) ∧
      ((∃ ys, ys.map Subtype.val = sitL s ∧ J ys W') ∨ (∃ pre, True ∧ Jx pre W')) := by
  have C0 := Lib.hid c0
  refine callsIn_of_wp Try.func101 rfl trivial ?_ rfl
  simp only [Try.ntmps101, List.size_toArray, List.length_cons, List.length_nil, Nat.reduceAdd, Nat.reduceSub, Array.replicate_succ, Array.replicate_zero, List.push_toArray, List.append_toArray, List.nil_append, List.cons_append]
  gi_wp2
  gi_loopw [4] (fun i wr => ∃ (k : Nat) (pre : List (PX s)), k ≤ 10 ∧ i = .int .i64 k ∧ pre.map Subtype.val = (List.range k).filter (fun k => jackB s k) ∧ J pre wr ∧ wr.cell? ⟨Bn, 0, none⟩ = some (.int .i64 s)) (fun i _ => 10 - (intOf i).toNat)
  case atStart => exact ⟨0, [], by omega, rfl, by simp, h0, C0.out⟩
  case round =>
    clear c0
    obtain ⟨k, pre, hk, rfl, hpre, hJs, c0⟩ := hrel
    have HP := Lib.hid hpre; clear hpre
    by_cases hlt : k < 10
    · have hk1 : (k : Int) < 10 := by omega
      have hlen : pre.length < 10 := by
        have := congrArg List.length HP.out
        rw [List.length_map] at this
        have h2 := sit_len (s := s) (k := k)
        omega
      have hb := and_one (s / 2 ^ k)
      have hkk0 : (0 : Int) ≤ (k : Int) := by omega
      have hkk1 : (k : Int) ≤ 64 := by omega
      have hjb : jackB s k = decide (s / 2 ^ k % 2 = 1) := by unfold jackB; rw [half_pow]
      cases hj : jackB s k with
      | false =>
        have HJ := Lib.hid hj
        rw [hjb] at hj
        have hz : s / 2 ^ k % 2 = 0 := by have := of_decide_eq_false hj; omega
        rw [hz] at hb
        clear hj hjb hz
        gi_wp2
        refine ⟨fun _ _ => trivial, ?_⟩
        gi_wp2
        go_roundw
        case rel => exact ⟨k + 1, pre, by omega, by go_num, by rw [sit_take, HJ.out, HP.out]; simp, hJs, c0⟩
        case measure => simp [intOf]; omega
      | true =>
        have HJ := Lib.hid hj
        rw [hjb] at hj
        rw [of_decide_eq_true hj] at hb
        clear hj hjb
        have hj := HJ.out
        obtain ⟨fn, tmps, assign, body, hy, hR⟩ := hY pre ⟨k, hlt, hj⟩ _ hJs hlen
        dsimp only at hy
        gi_wp2
        refine hR.mono ?_
        rintro e W3 h4
        obtain ⟨bv, rfl, h3⟩ := two h4
        clear h4 hy
        have hmap : (pre ++ [(⟨k, hlt, hj⟩ : PX s)]).map Subtype.val = (List.range (k + 1)).filter (fun k => jackB s k) := by
          rw [List.map_append, HP.out, sit_take, if_pos HJ.out]
          rfl
        have HB := Lib.hid hmap
        clear hmap
        rcases h3 with ⟨rfl, hJ3, hk3⟩ | ⟨rfl, hJx3⟩
        · have hcB : W3.cell? ⟨Bn, 0, none⟩ = some (.int .i64 s) := hk3.2.trans c0
          have HcB := Lib.hid hcB
          clear hcB hk3
          gi_wp2
          go_roundw
          case rel => exact ⟨k + 1, _, by omega, by go_num, HB.out, hJ3, HcB.out⟩
          case measure => simp [intOf]; omega
        · gi_wp2
          refine bodyPost_ret (results_none rfl _ _ _) rfl ?_
          exact ⟨⟨_, rfl⟩, .inr ⟨_, trivial, hJx3⟩⟩
    · have hk1 : ¬ (k : Int) < 10 := by omega
      have hk6 : k = 10 := by omega
      subst hk6
      gi_wp2
      go_end0
      exact ⟨⟨_, rfl⟩, .inl ⟨_, HP.out, hJs⟩⟩
theorem sit_stops (n : Nat) (hn : 1 ≤ n) (Bn n₀ : Nat) (s : Int) (w : World) (hBn : Bn < w.heap.size) (c0 : w.cell? ⟨Bn, 0, none⟩ = some (.int .i64 s)) :
    SeqStopsK Fence.wide n Try.prog 101 #[.pointer (some ⟨Bn, 0, none⟩)] (fun x : PX s => #[.int .i64 (x.1 : Int)]) (KpB n₀ Bn) (fun ys => ys.map Subtype.val = sitL s) (fun _ => True) 10 w := fun l J Jx W hW _ _ hY h0 => by
  obtain ⟨r1, _⟩ := bcell hW
  exact sit1_in n hn l Bn n₀ s J Jx hY W ((r1 _ _ hBn).trans c0) h0
set_option maxHeartbeats 400000 in
theorem sitesOf_any (s : Int) (w : World) :
    Calls Try.prog 87 #[.int .i64 s] w fun e w' => e = .returned (.func (.func 101) #[] #[.pointer (some ⟨w.heap.size, 0, none⟩)]) ∧ w.alloc (.cells #[.int .i64 s] 3) = w' := by
  go_enter Try.func87, Try.ntmps87
  go_wp2
  go_ret
  exact ⟨rfl, rfl⟩
end Go.Proofs.Ytmppiiamcpjhnaa

namespace Go.Proofs.Ytmppiiamcpjhnaa
open Go.RowKit Go.Shelf

theorem of_nat64 {a : Nat} (h : a < 2 ^ 63) : (BitVec.ofInt 64 (a : Int)).toNat = a := by
  rw [BitVec.toNat_ofInt]
  omega
theorem or_nat {a b : Nat} (ha : a < 2 ^ 63) (hb : b < 2 ^ 63) : bits .or .i64 (a : Int) (b : Int) = ((a ||| b : Nat) : Int) := by
  have key : (BitVec.ofInt 64 (a : Int) ||| BitVec.ofInt 64 (b : Int)).toNat = a ||| b := by
    rw [BitVec.toNat_or, of_nat64 ha, of_nat64 hb]
  show IntKind.i64.wrap ((BitVec.ofInt 64 (a : Int) ||| BitVec.ofInt 64 (b : Int)).toNat : Nat) = _
  rw [key, IntKind.wrap_i64]
  have := Nat.or_lt_two_pow ha hb
  omega
/-- What is left of a set without another. -/
def dropS (a b : Nat) : Nat := a &&& (2 ^ 64 - (b + 1))
theorem dropS_bit {a b i : Nat} (hb : b < 2 ^ 64) (ha : a < 2 ^ 63) : (dropS a b).testBit i = (a.testBit i && !b.testBit i) := by
  unfold dropS
  rw [Nat.testBit_and, Nat.testBit_two_pow_sub_succ hb]
  by_cases hi : i < 64
  · simp [hi]
  · have : a.testBit i = false := Nat.testBit_lt_two_pow (Nat.lt_of_lt_of_le ha (Nat.pow_le_pow_right (by decide) (by omega)))
    simp [this]
theorem dropS_le {a b : Nat} : dropS a b ≤ a := Nat.and_le_left
theorem dropS_and {a b : Nat} (ha : a < 2 ^ 63) (hb : b < 2 ^ 63) : bits .andNot .i64 (a : Int) (b : Int) = ((dropS a b : Nat) : Int) := by
  have key : (BitVec.ofInt 64 (a : Int) &&& ~~~ BitVec.ofInt 64 (b : Int)).toNat = dropS a b := by
    rw [BitVec.toNat_and, BitVec.toNat_not, of_nat64 ha, of_nat64 hb]
    unfold dropS
    congr 1
    omega
  show IntKind.i64.wrap ((BitVec.ofInt 64 (a : Int) &&& ~~~ BitVec.ofInt 64 (b : Int)).toNat : Nat) = _
  rw [key, IntKind.wrap_i64]
  have := @dropS_le a b
  omega
theorem shl10 {j : Nat} (h : j < 10) : wrap64 ((2 : Int) ^ j) = ((2 ^ j : Nat) : Int) := by
  have : j = 0 ∨ j = 1 ∨ j = 2 ∨ j = 3 ∨ j = 4 ∨ j = 5 ∨ j = 6 ∨ j = 7 ∨ j = 8 ∨ j = 9 := by omega
  rcases this with rfl | rfl | rfl | rfl | rfl | rfl | rfl | rfl | rfl | rfl <;> (unfold wrap64; decide +kernel)
/-- The set of some sites. -/
def setL (cs : List Nat) : Nat := cs.foldl (fun s x => s ||| 2 ^ x) 0
theorem setL_snoc (cs : List Nat) (x : Nat) : setL (cs ++ [x]) = setL cs ||| 2 ^ x := by
  unfold setL
  rw [List.foldl_append]
  rfl
theorem setL_lt : ∀ (cs : List Nat), (∀ x ∈ cs, x < 10) → setL cs < 2 ^ 10 := by
  intro cs
  unfold setL
  suffices ∀ (cs : List Nat) (s : Nat), s < 2 ^ 10 → (∀ x ∈ cs, x < 10) → cs.foldl (fun s x => s ||| 2 ^ x) s < 2 ^ 10 from fun h => this cs 0 (by decide) h
  intro cs
  induction cs with
  | nil => intro s hs _; exact hs
  | cons x cs ih => intro s hs h; exact ih _ (Nat.or_lt_two_pow hs (Nat.pow_lt_pow_right (by decide) (h x (by simp)))) fun y hy => h y (List.mem_cons_of_mem _ hy)
theorem setL_bit {cs : List Nat} {i : Nat} : (setL cs).testBit i = decide (i ∈ cs) := by
  unfold setL
  suffices ∀ (cs : List Nat) (s : Nat), (cs.foldl (fun s x => s ||| 2 ^ x) s).testBit i = (s.testBit i || decide (i ∈ cs)) by
    rw [this]
    simp
  intro cs
  induction cs with
  | nil => intro s; simp
  | cons x cs ih =>
    intro s
    rw [List.foldl_cons, ih, Nat.testBit_or, Nat.testBit_two_pow, Bool.or_assoc]
    congr 1
    by_cases h : i = x
    · subst h; simp
    · simp [h, Ne.symm h]
set_option maxRecDepth 100000 in
set_option maxHeartbeats 4000000 in
theorem setOf_any (A : Option Addr) (n c : Nat) (cs : List Nat) (w : World) (hl : cs.length = n) (hn : n ≤ maxLen) (hA : IntsAt w w.heap.size A (cs.map Int.ofNat)) (h10 : ∀ x ∈ cs, x < 10) :
    Calls Try.prog 77 #[.slice A n c] w fun e w' => e = .returned (.int .i64 ((setL cs : Nat) : Int)) ∧ w = w' := by
  have HA := Lib.hid hA; have HL := Lib.hid hl
  unfold maxLen at hn
  clear hA hl
  go_enter Try.func77, Try.ntmps77
  go_wp2_with fail
  go_loopw [3, 8] (fun s i wr => ∃ k : Nat, k ≤ n ∧ s = .int .i64 ((setL (cs.take k) : Nat) : Int) ∧ i = .int .i64 k ∧ wr = w) (fun _ i _ => n - (intOf i).toNat)
  case atStart => exact ⟨0, Nat.zero_le _, by rfl, rfl, rfl⟩
  case round =>
    obtain ⟨k, hk, rfl, rfl, rfl⟩ := hrel
    by_cases hlt : k < n
    · have k0 : (0 : Int) ≤ (k : Int) := by omega
      have k1 : (k : Int) < (n : Int) := by omega
      obtain ⟨j, hj⟩ := get_of_lt (l := cs) (k := k) (by rw [HL.out]; exact hlt)
      have hj10 := h10 j (List.mem_of_getElem? hj)
      obtain ⟨b, o, rfl, hbb, c0⟩ := ints_el (x := ((j : Nat) : Int)) HA.out (by rw [List.getElem?_map, hj]; rfl)
      have HT : Hid (cs.take (k + 1) = cs.take k ++ [j]) := Lib.hid (by rw [List.take_add_one, hj]; rfl)
      have hs := setL_lt (cs.take k) fun x hx => h10 x (List.mem_of_mem_take hx)
      have j0 : (0 : Int) ≤ (j : Int) := by omega
      have j1 : (j : Int) ≤ 64 := by omega
      have e1 := shl10 hj10
      have e2 : bits .or .i64 ((setL (cs.take k) : Nat) : Int) ((2 ^ j : Nat) : Int) = ((setL (cs.take k) ||| 2 ^ j : Nat) : Int) := or_nat (by omega) (Nat.pow_lt_pow_right (by decide) (by omega))
      have HS : Hid (setL (cs.take (k + 1)) = setL (cs.take k) ||| 2 ^ j) := Lib.hid (by rw [HT.out, setL_snoc])
      clear hj hbb h10 hj10
      obtain ⟨S, hS⟩ : ∃ S, setL (cs.take k) = S := ⟨_, rfl⟩
      rw [hS] at e2 hs HS ⊢
      obtain ⟨P, hP⟩ : ∃ P : Nat, 2 ^ j = P := ⟨_, rfl⟩
      rw [hP] at e1 e2 HS
      have HSS := Lib.hid hS; have HPP := Lib.hid hP
      clear hS hP
      go_wp2_with fail
      exact ⟨⟨k + 1, by omega, by rw [HS.out], rfl, by first | rfl | trivial⟩, by simp [intOf]; omega⟩
    · obtain rfl : n = k := by omega
      have k1 : ¬ (n : Int) < (n : Int) := by omega
      have HT : Hid (cs.take n = cs) := Lib.hid (List.take_of_length_le (by rw [HL.out]; omega))
      rw [HT.out]
      go_wp2_with fail
      go_ret
      exact ⟨rfl, rfl⟩
/-- A sum of at most 72 numbers, each at most a million. -/
theorem sum_in {l : List Int} (h : ∀ x ∈ l, 0 ≤ x ∧ x ≤ 1000000) : 0 ≤ l.sum ∧ l.sum ≤ 1000000 * l.length := by
  induction l with
  | nil => simp
  | cons x l ih =>
    have h1 := h x (by simp)
    have h2 := ih fun y hy => h y (List.mem_cons_of_mem _ hy)
    rw [List.sum_cons, List.length_cons]
    omega
set_option maxRecDepth 100000 in
set_option maxHeartbeats 4000000 in
theorem sum_any (A : Option Addr) (n c : Nat) (cs : List Int) (w : World) (hl : cs.length = n) (hn : n ≤ 100) (hA : IntsAt w w.heap.size A cs) (h6 : ∀ x ∈ cs, 0 ≤ x ∧ x ≤ 1000000) :
    Calls Try.prog 63 #[.slice A n c] w fun e w' => e = .returned (.int .i64 cs.sum) ∧ w = w' := by
  have HA := Lib.hid hA; have HL := Lib.hid hl
  clear hA hl
  go_enter Try.func63, Try.ntmps63
  go_wp2_with fail
  go_loopw [3, 8] (fun s i wr => ∃ k : Nat, k ≤ n ∧ s = .int .i64 (cs.take k).sum ∧ i = .int .i64 k ∧ wr = w) (fun _ i _ => n - (intOf i).toNat)
  case atStart => exact ⟨0, Nat.zero_le _, by rfl, rfl, rfl⟩
  case round =>
    obtain ⟨k, hk, rfl, rfl, rfl⟩ := hrel
    by_cases hlt : k < n
    · have k0 : (0 : Int) ≤ (k : Int) := by omega
      have k1 : (k : Int) < (n : Int) := by omega
      obtain ⟨x, hx⟩ := get_of_lt (l := cs) (k := k) (by rw [HL.out]; exact hlt)
      have hx6 := h6 x (List.mem_of_getElem? hx)
      obtain ⟨b, o, rfl, hbb, c0⟩ := ints_el HA.out hx
      have HT : Hid ((cs.take (k + 1)).sum = (cs.take k).sum + x) := Lib.hid (by rw [List.take_add_one, hx, List.sum_append]; simp)
      have hs := sum_in (l := cs.take k) fun x hx => h6 x (List.mem_of_mem_take hx)
      have hlen : (cs.take k).length ≤ 100 := by rw [List.length_take]; omega
      have e1 : wrap64 ((cs.take k).sum + x) = (cs.take k).sum + x := w64 (by omega)
      clear hx hbb h6 hx6 hs hlen
      go_wp2_with fail
      exact ⟨⟨k + 1, by omega, by rw [HT.out]; first | rfl | rw [e1], rfl, by first | rfl | trivial⟩, by simp [intOf]; omega⟩
    · obtain rfl : n = k := by omega
      have k1 : ¬ (n : Int) < (n : Int) := by omega
      have HT : Hid (cs.take n = cs) := Lib.hid (List.take_of_length_le (by rw [HL.out]; omega))
      rw [HT.out]
      go_wp2_with fail
      go_ret
      exact ⟨rfl, rfl⟩
end Go.Proofs.Ytmppiiamcpjhnaa

namespace Go.Proofs.Ytmppiiamcpjhnaa
open Go.RowKit Go.Shelf

abbrev coC (V : TV) (s M : Nat) : Array Value := #[.slice V.ah V.nh V.ch, .slice V.az V.ns V.cs, .int .i64 (s : Int), .map (some M)]
abbrev coV (V : TV) (s M : Nat) : Value := .agg #[.slice V.ah V.nh V.ch, .slice V.az V.ns V.cs, .int .i64 (s : Int), .map (some M)]
/-- What a site surely gives to a house. -/
def lowI (T : Tn) (h x : Nat) : Int := (((T.ss.getD x ⟨0, 0, []⟩).gv).getD h (0, 0)).1
def costI (T : Tn) (x : Nat) : Int := (T.ss.getD x ⟨0, 0, []⟩).co
def weekI (T : Tn) (x : Nat) : Int := (T.ss.getD x ⟨0, 0, []⟩).we
theorem isNaN_any (x : Int) (w : World) :
    Calls Try.prog 116 #[.int .i64 x] w fun e w' => e = .returned (.bool false) ∧ w = w' := by
  go_enter Try.func116, Try.ntmps116
  go_wp2_with fail
  go_ret
  exact ⟨rfl, rfl⟩
def cmpI (a b : Int) : Int := if a < b then -1 else if b < a then 1 else 0
set_option maxHeartbeats 1000000 in
theorem compare_any (a b : Int) (w : World) :
    Calls Try.prog 113 #[.int .i64 a, .int .i64 b] w fun e w' => e = .returned (.int .i64 (cmpI a b)) ∧ w = w' := by
  go_enter Try.func113, Try.ntmps113
  go_wp2_with fail
  refine (isNaN_any _ _).mono ?_
  rintro e w' ⟨rfl, rfl⟩
  go_wp2_with fail
  refine (isNaN_any _ _).mono ?_
  rintro e w' ⟨rfl, rfl⟩
  by_cases h1 : a < b
  · go_wp2_with fail
    go_ret
    exact ⟨by unfold cmpI; rw [if_pos h1]; rfl, rfl⟩
  by_cases h2 : b < a
  · go_wp2_with fail
    go_ret
    exact ⟨by unfold cmpI; rw [if_neg (by omega), if_pos h2]; rfl, rfl⟩
  · go_wp2_with fail
    go_ret
    exact ⟨by unfold cmpI; rw [if_neg (by omega), if_neg (by omega)]; rfl, rfl⟩
set_option maxRecDepth 100000 in
set_option maxHeartbeats 4000000 in
theorem least_any (V : TV) (T : Tn) (s M h x : Nat) (w : World) (hN : TnAt w w.heap.size V T) (hx : x < V.ns) (hK : TnOk T) (hh : h < V.nh) :
    Calls Try.prog 85 #[coV V s M, .int .i64 (x : Int), .int .i64 (h : Int)] w fun e w' => e = .returned (.int .i64 (lowI T h x)) ∧ Below w.heap.size w w' := by
  have z := heap_alloc_new w (.cells (coC V s M) 89)
  have hb := (Below.refl w.heap.size w).alloc (Nat.le_refl _) (.cells (coC V s M) 89)
  have HN := Lib.hid (hN.up hb)
  obtain ⟨ah, nh, ch, az, ns, cz⟩ := V
  obtain ⟨⟨v0, v1, v2, v3⟩, _⟩ := box4 z
  have HB := Lib.hid hb; have Z := Lib.hid z
  have hnh := HN.out.nh; have hns := HN.out.ns
  simp only at hnh hns hx hh v0 v1
  clear z hb hN
  obtain ⟨S, hS⟩ := get_of_lt (l := T.ss) (k := x) (by omega)
  obtain ⟨b, o, A', m, c', rfl, hbb, hm, ⟨c0, c1, c2⟩, hpr, hmx⟩ := si_el HN.out.ss hS
  have hgl := (hK.ss S (List.mem_of_getElem? hS)).len
  obtain ⟨P, hP⟩ := get_of_lt (l := S.gv) (k := h) (by omega)
  obtain ⟨b2, o2, rfl, hbb2, d0, d1⟩ := pr_el hpr hP
  have HL : Hid (lowI T h x = P.1) := Lib.hid (by
    have e1 : T.ss.getD x ⟨0, 0, []⟩ = S := by rw [List.getD_eq_getElem?_getD, hS]; rfl
    unfold lowI; rw [e1, List.getD_eq_getElem?_getD, hP]; rfl)
  have x0 : (0 : Int) ≤ (x : Int) := by omega
  have x1 : (x : Int) < (ns : Int) := by omega
  have h0 : (0 : Int) ≤ (h : Int) := by omega
  have h1 : (h : Int) < (m : Int) := by omega
  clear hS hP hpr hbb hbb2 hgl hm hmx hnh hns hK
  go_enter Try.func85, Try.ntmps85
  go_wp2_with fail
  go_ret
  exact ⟨by rw [HL.out]; rfl, HB.out⟩
end Go.Proofs.Ytmppiiamcpjhnaa

namespace Go.Proofs.Ytmppiiamcpjhnaa
open Go.RowKit Go.Shelf

theorem fill4 {w : World} {B : Nat} {a b c d : Value} {t : TypeId} (h : w.heap[B]? = some (.cells #[a, b, c, d] t (0, 0))) (v0 v1 v2 v3 : Value) :
    ((((w.setCell ⟨B, 0, none⟩ v0).setCell ⟨B, 1, none⟩ v1).setCell ⟨B, 2, none⟩ v2).setCell ⟨B, 3, none⟩ v3).heap[B]? = some (.cells #[v0, v1, v2, v3] t (0, 0)) ∧
    (∀ j, j ≠ B → ((((w.setCell ⟨B, 0, none⟩ v0).setCell ⟨B, 1, none⟩ v1).setCell ⟨B, 2, none⟩ v2).setCell ⟨B, 3, none⟩ v3).heap[j]? = w.heap[j]?) ∧
    ∀ n, n ≤ B → Below n w ((((w.setCell ⟨B, 0, none⟩ v0).setCell ⟨B, 1, none⟩ v1).setCell ⟨B, 2, none⟩ v2).setCell ⟨B, 3, none⟩ v3) := by
  refine ⟨by simpa using blk_set (blk_set (blk_set (blk_set h 0 v0) 1 v1) 2 v2) 3 v3, fun j hj => ?_, fun n hn => ?_⟩
  · exact (Below.heap_setCell _ _ _ _ hj).trans ((Below.heap_setCell _ _ _ _ hj).trans ((Below.heap_setCell _ _ _ _ hj).trans (Below.heap_setCell _ _ _ _ hj)))
  · exact ((((Below.refl n w).setCell (p := ⟨B, 0, none⟩) hn _).setCell (p := ⟨B, 1, none⟩) hn _).setCell (p := ⟨B, 2, none⟩) hn _).setCell (p := ⟨B, 3, none⟩) hn _
theorem info89 : (Try.prog.info? 89).map (·.size) = some 4 := by kernel_rfl
set_option maxRecDepth 100000 in
set_option maxHeartbeats 4000000 in
theorem with_any (V : TV) (s M x : Nat) (w : World) :
    Calls Try.prog 83 #[coV V s M, .int .i64 (x : Int)] w fun e w' => e = .returned (coV V x M) ∧ Below w.heap.size w w' := by
  have hb := Lib.hid ((Below.refl w.heap.size w).alloc (Nat.le_refl _) (.cells (coC V x M) 89))
  obtain ⟨ah, nh, ch, az, ns, cz⟩ := V
  go_enter Try.func83, Try.ntmps83
  go_wp2_with fail
  refine bodyPost_ret (results_cell_row rfl _ _ (w.heap.size + 1) 89 _ (0, 0) _ rfl (heap_alloc2_new w _ _) Try.underlying89 rfl info89) rfl ?_
  exact ⟨rfl, hb.out.alloc hb.out.size _⟩
set_option maxRecDepth 100000 in
set_option maxHeartbeats 4000000 in
theorem without_any (V : TV) (s M x : Nat) (w : World) (hs : s < 2 ^ 10) (hx : x < 2 ^ 10) :
    Calls Try.prog 81 #[coV V s M, .int .i64 (x : Int)] w fun e w' => e = .returned (coV V (dropS s x) M) ∧ Below w.heap.size w w' := by
  have e1 : bits .andNot .i64 (s : Int) (x : Int) = ((dropS s x : Nat) : Int) := dropS_and (by omega) (by omega)
  have hb := Lib.hid ((Below.refl w.heap.size w).alloc (Nat.le_refl _) (.cells (coC V s M) 89))
  obtain ⟨ah, nh, ch, az, ns, cz⟩ := V
  go_enter Try.func81, Try.ntmps81
  go_wp2_with fail
  refine (with_any ⟨ah, nh, ch, az, ns, cz⟩ s M _ _).mono ?_
  rintro e w2 ⟨rfl, hb2⟩
  have hz := (hb2.block _ (heapsz (heap_alloc2_new w _ _))).trans (heap_alloc2_new w _ _)
  have hB : Below w.heap.size w w2 := ((((Below.refl w.heap.size w).alloc (Nat.le_refl _) _).alloc (by simp) _)).trans (hb2.mono (by simp; omega))
  have HB := Lib.hid hB; have HZ := Lib.hid hz
  obtain ⟨⟨u0, u1, u2, u3⟩, f0, f1, f2, f3⟩ := box4 hz
  clear hb2 hz hB hb
  go_wp2_with fail
  obtain ⟨g1, _, g3⟩ := fill4 HZ.out (.slice ah nh ch) (.slice az ns cz) (.int .i64 ((dropS s x : Nat) : Int)) (.map (some M))
  refine bodyPost_ret (results_cell_row rfl _ _ (w.heap.size + 1) 89 _ (0, 0) _ rfl g1 Try.underlying89 rfl info89) rfl ?_
  exact ⟨rfl, HB.out.trans ((g3 _ (by omega)))⟩
set_option maxRecDepth 100000 in
set_option maxHeartbeats 4000000 in
theorem costs_any (V : TV) (T : Tn) (s M x P : Nat) (w : World) (hP : w.heap[P]? = some (.cells (coC V s M) 89 (0, 0))) (hN : TnAt w w.heap.size V T) (hx : x < V.ns) :
    Calls Try.prog 90 #[.int .i64 (x : Int), .pointer (some ⟨P, 0, none⟩)] w fun e w' => e = .returned (.int .i64 (costI T x)) ∧ w = w' := by
  obtain ⟨ah, nh, ch, az, ns, cz⟩ := V
  obtain ⟨⟨v0, v1, v2, v3⟩, _⟩ := box4 hP
  have HN := Lib.hid hN
  have hns := HN.out.ns
  simp only at hns hx v0 v1
  obtain ⟨S, hS⟩ := get_of_lt (l := T.ss) (k := x) (by omega)
  obtain ⟨b, o, A', m, c', rfl, hbb, hm, ⟨c0, c1, c2⟩, hpr, hmx⟩ := si_el HN.out.ss hS
  have HL : Hid (costI T x = S.co) := Lib.hid (by
    have e1 : T.ss.getD x ⟨0, 0, []⟩ = S := by rw [List.getD_eq_getElem?_getD, hS]; rfl
    unfold costI; rw [e1])
  have x0 : (0 : Int) ≤ (x : Int) := by omega
  have x1 : (x : Int) < (ns : Int) := by omega
  clear hS hpr hbb hm hmx hns hN hP
  go_enter Try.func90, Try.ntmps90
  go_wp2_with fail
  go_ret
  exact ⟨by rw [HL.out]; rfl, rfl⟩
set_option maxRecDepth 100000 in
set_option maxHeartbeats 4000000 in
theorem weekss_any (V : TV) (T : Tn) (s M x P : Nat) (w : World) (hP : w.heap[P]? = some (.cells (coC V s M) 89 (0, 0))) (hN : TnAt w w.heap.size V T) (hx : x < V.ns) :
    Calls Try.prog 107 #[.int .i64 (x : Int), .pointer (some ⟨P, 0, none⟩)] w fun e w' => e = .returned (.int .i64 (weekI T x)) ∧ w = w' := by
  obtain ⟨ah, nh, ch, az, ns, cz⟩ := V
  obtain ⟨⟨v0, v1, v2, v3⟩, _⟩ := box4 hP
  have HN := Lib.hid hN
  have hns := HN.out.ns
  simp only at hns hx v0 v1
  obtain ⟨S, hS⟩ := get_of_lt (l := T.ss) (k := x) (by omega)
  obtain ⟨b, o, A', m, c', rfl, hbb, hm, ⟨c0, c1, c2⟩, hpr, hmx⟩ := si_el HN.out.ss hS
  have HL : Hid (weekI T x = S.we) := Lib.hid (by
    have e1 : T.ss.getD x ⟨0, 0, []⟩ = S := by rw [List.getD_eq_getElem?_getD, hS]; rfl
    unfold weekI; rw [e1])
  have x0 : (0 : Int) ≤ (x : Int) := by omega
  have x1 : (x : Int) < (ns : Int) := by omega
  clear hS hpr hbb hm hmx hns hN hP
  go_enter Try.func107, Try.ntmps107
  go_wp2_with fail
  go_ret
  exact ⟨by rw [HL.out]; rfl, rfl⟩
set_option maxRecDepth 100000 in
set_option maxHeartbeats 4000000 in
theorem stronger_any (V : TV) (T : Tn) (s M x h P H : Nat) (w : World) (hP : w.heap[P]? = some (.cells (coC V s M) 89 (0, 0))) (hH : w.heap[H]? = some (.cells #[.int .i64 (h : Int)] 3 (0, 0))) (hN : TnAt w w.heap.size V T) (hK : TnOk T) (hx : x < V.ns) (hh : h < V.nh) :
    Calls Try.prog 100 #[.int .i64 (x : Int), .pointer (some ⟨P, 0, none⟩), .pointer (some ⟨H, 0, none⟩)] w fun e w' => e = .returned (.int .i64 (lowI T h x)) ∧ Below w.heap.size w w' := by
  obtain ⟨⟨v0, v1, v2, v3⟩, _⟩ := box4 hP
  have u0 := cell_of_row w H 0 _ 3 (0, 0) hH
  simp only [List.getElem?_toArray, List.getElem?_cons_zero] at u0
  have HN := Lib.hid hN; have HP := Lib.hid hP
  clear hP hH hN
  have HX := Lib.hid hx; have HH := Lib.hid hh
  obtain ⟨ah, nh, ch, az, ns, cz⟩ := V
  simp only at v0 v1
  go_enter Try.func100, Try.ntmps100
  go_wp2_with fail
  refine (least_any _ T s M h x _ HN.out HX.out hK HH.out).mono ?_
  rintro e w' ⟨rfl, hb2⟩
  go_wp2_with fail
  go_ret
  exact ⟨rfl, hb2⟩
end Go.Proofs.Ytmppiiamcpjhnaa

namespace Go.Proofs.Ytmppiiamcpjhnaa
open Go.RowKit Go.Shelf

theorem one4 {v0 v1 v2 v3 : Value} (hv : v0.oneCell' = true ∧ v1.oneCell' = true ∧ v2.oneCell' = true ∧ v3.oneCell' = true) : (#[v0, v1, v2, v3] : Array Value).all (·.oneCell') = true :=
  all_oneCell_toArray (cs := [v0, v1, v2, v3]) (fun v hm => by
    obtain ⟨h0, h1, h2, h3⟩ := hv
    simp only [List.mem_cons, List.not_mem_nil, or_false] at hm
    rcases hm with rfl | rfl | rfl | rfl <;> assumption)
theorem store4 {w : World} {B : Nat} {a b c d : Value} {t : TypeId} (h : w.heap[B]? = some (.cells #[a, b, c, d] t (0, 0))) (v0 v1 v2 v3 : Value) :
    ∃ w', w.setCells B 0 (#[v0, v1, v2, v3] : Array Value).toList = w' ∧ w.there B 0 (#[v0, v1, v2, v3] : Array Value).size ∧ w'.heap[B]? = some (.cells #[v0, v1, v2, v3] t (0, 0)) ∧ (∀ j, j ≠ B → w'.heap[j]? = w.heap[j]?) ∧ (∀ n, n ≤ B → Below n w w') := by
  obtain ⟨f1, f2, f3⟩ := fill4 h v0 v1 v2 v3
  exact ⟨_, rfl, there_block h (by simp), f1, f2, f3⟩
theorem two_new (w : World) (o0 o1 : Obj) : ((w.alloc o0).alloc o1).heap[w.heap.size]? = some o0 ∧ ((w.alloc o0).alloc o1).heap[w.heap.size + 1]? = some o1 ∧ Below w.heap.size w ((w.alloc o0).alloc o1) := by
  have z1 := heap_alloc_new w o0
  have z2 := heap_alloc_new (w.alloc o0) o1
  simp only [World.size_alloc] at z2
  have h1 := (Below.refl w.heap.size w).alloc (Nat.le_refl _) o0
  have h2 := (Below.refl (w.alloc o0).heap.size (w.alloc o0)).alloc (Nat.le_refl _) o1
  exact ⟨(h2.block _ (Array.getElem?_eq_some_iff.1 z1).1).trans z1, z2, h1.trans (h2.mono h1.size)⟩
/-- The memory of the look: the box (G) that is filled, the map (q.1) that is made, the value (q.2) that is built. -/
structure LkM (w0 : World) (G : Nat) (ov : Array Value) (nv : Nat → Array Value) (done : Nat → Bool) (q : Nat × Value) (w' : World) : Prop where
  keep : Below G w0 w'
  lt : G < w0.heap.size
  box : w'.heap[G]? = some (.cells (if done 5 then nv q.1 else ov) 89 (0, 0))
  map : done 3 = true → w0.heap.size ≤ q.1 ∧ w'.heap[q.1]? = some (.map #[] 0)
  val : done 4 = true → q.2 = .agg (nv q.1)
  o4 : done 4 = true → done 3 = true
  o5 : done 5 = true → done 3 = true
  o54 : done 5 = true → done 4 = true
section
variable {w0 w : World} {G : Nat} {ov : Array Value} {nv : Nat → Array Value} {done : Nat → Bool} {ops : Array Oper} {cv : Nat × Value → Tmp → Value} {i : Nat} {q : Nat × Value} {o : Oper}
abbrev AskM (w0 : World) (G : Nat) (ov : Array Value) (nv : Nat → Array Value) (ops : Array Oper) (cv : Nat × Value → Tmp → Value) (done : Nat → Bool) (q : Nat × Value) (w : World) (i : Nat) (o : Oper) : Prop :=
  Region.wanted o (yieldedBy ops (cv q)) = true ∧ Yield Try.prog (fun v w' => ∃ q', LkM w0 G ov nv (updB done i) q' w' ∧ (∀ d, o.dst = some d → cv q' d = v) ∧ ∀ t, o.dst ≠ some t → cv q' t = cv q t) ((execOp (evalBy (cv q)) o).run Try.prog w)
theorem updM_ne {d : Nat → Bool} {i j : Nat} (h : i ≠ j) : updB d i j = d j := by simp [updB, Ne.symm h]
theorem updM_eq {d : Nat → Bool} {i : Nat} : updB d i i = true := by simp [updB]
theorem updM_le {d : Nat → Bool} {i j : Nat} (h : d j = true) : updB d i j = true := by
  by_cases e : i = j
  · subst e; exact updM_eq
  · rw [updM_ne e]; exact h
theorem LkM.same (h : LkM w0 G ov nv done q w) (h5 : i ≠ 5) (h4 : i ≠ 4) (h3 : i ≠ 3) : LkM w0 G ov nv (updB done i) q w :=
  ⟨h.keep, h.lt, by rw [updM_ne h5]; exact h.box, by rw [updM_ne h3]; exact h.map, by rw [updM_ne h4]; exact h.val, by rw [updM_ne h4, updM_ne h3]; exact h.o4, by rw [updM_ne h5, updM_ne h3]; exact h.o5, by rw [updM_ne h5, updM_ne h4]; exact h.o54⟩
theorem quietM (h : LkM w0 G ov nv done q w) (d : Tmp) (hd : o.dst = some d) (h5 : i ≠ 5) (h4 : i ≠ 4) (h3 : i ≠ 3) (hg : Region.wanted o (yieldedBy ops (cv q)) = true)
    (he : (execOp (evalBy (cv q)) o).run Try.prog w = .ok (.value (cv q d)) w) : AskM w0 G ov nv ops cv done q w i o := by
  refine ⟨hg, ?_⟩
  rw [he]
  exact ⟨q, h.same h5 h4 h3, fun e hE => by rw [hd] at hE; injection hE with hE; subst hE; rfl, fun _ _ => rfl⟩
theorem callM (h : LkM w0 G ov nv done q w) (d : Tmp) (hd : o.dst = some d) (h5 : i ≠ 5) (h4 : i ≠ 4) (h3 : i ≠ 3) (hg : Region.wanted o (yieldedBy ops (cv q)) = true) (f : FuncId) (args : Array Value)
    (he : (execOp (evalBy (cv q)) o).run Try.prog w = .ok (.enter f args) w) (hc : Calls Try.prog f args w fun e w' => e = .returned (cv q d) ∧ w = w') : AskM w0 G ov nv ops cv done q w i o := by
  refine ⟨hg, ?_⟩
  rw [he]
  show Calls Try.prog f args w _
  refine hc.mono ?_
  rintro e w' ⟨rfl, rfl⟩
  exact ⟨_, rfl, q, h.same h5 h4 h3, fun e hE => by rw [hd] at hE; injection hE with hE; subst hE; rfl, fun _ _ => rfl⟩
theorem buildM (h : LkM w0 G ov nv done q w) (d : Tmp) (hd : o.dst = some d) (h3 : done 3 = true) (h5 : done 5 = false) (hg : Region.wanted o (yieldedBy ops (cv q)) = true)
    (hcd : ∀ v, cv (q.1, v) d = v) (hct : ∀ v t, t ≠ d → cv (q.1, v) t = cv q t)
    (he : (execOp (evalBy (cv q)) o).run Try.prog w = .ok (.value (.agg (nv q.1))) w) : AskM w0 G ov nv ops cv done q w 4 o := by
  refine ⟨hg, ?_⟩
  rw [he]
  refine ⟨(q.1, .agg (nv q.1)), ⟨h.keep, h.lt, by rw [updM_ne (by decide)]; exact h.box, by rw [updM_ne (by decide)]; exact h.map, fun _ => rfl, fun _ => by rw [updM_ne (by decide)]; exact h3, fun e => absurd ((updM_ne (by decide)).symm.trans e) (by rw [h5]; decide), fun _ => updM_eq⟩, fun e hE => by rw [hd] at hE; injection hE with hE; subst hE; exact hcd _, fun t ht => hct _ t (fun e => ht (by rw [hd, e]))⟩
theorem mapM (h : LkM w0 G ov nv done q w) (d : Tmp) (hd : o.dst = some d) (hu : done 3 = false) (hg : Region.wanted o (yieldedBy ops (cv q)) = true)
    (hcd : ∀ g', cv (g', q.2) d = .map (some g')) (hct : ∀ g' t, t ≠ d → cv (g', q.2) t = cv q t)
    (he : (execOp (evalBy (cv q)) o).run Try.prog w = .ok (.value (.map (some w.heap.size))) (w.alloc (.map #[] 0))) : AskM w0 G ov nv ops cv done q w 3 o := by
  refine ⟨hg, ?_⟩
  rw [he]
  have n4 : done 4 = false := by
    cases hq : done 4 with
    | false => rfl
    | true => rw [h.o4 hq] at hu; cases hu
  have n5 : done 5 = false := by
    cases hq : done 5 with
    | false => rfl
    | true => rw [h.o5 hq] at hu; cases hu
  have hb := h.box
  rw [n5] at hb
  have hG : G < w.heap.size := heapsz hb
  refine ⟨(w.heap.size, q.2), ⟨h.keep.alloc (Nat.le_of_lt hG) _, h.lt, ?_, fun _ => ⟨h.keep.size, heap_alloc_new w _⟩, fun e => absurd ((updM_ne (by decide)).symm.trans e) (by rw [n4]; decide), fun _ => updM_eq, fun _ => updM_eq, fun e => absurd ((updM_ne (by decide)).symm.trans e) (by rw [n5]; decide)⟩, fun e hE => by rw [hd] at hE; injection hE with hE; subst hE; exact hcd _, fun t ht => hct _ t (fun e => ht (by rw [hd, e]))⟩
  rw [updM_ne (by decide), n5]
  exact (((Below.refl w.heap.size w).alloc (Nat.le_refl _) _).block _ hG).trans hb
theorem storeM (h : LkM w0 G ov nv done q w) (hd : o.dst = none) (hm : done 4 = true) (hu : done 5 = false) (hg : Region.wanted o (yieldedBy ops (cv q)) = true)
    (he : w.heap[G]? = some (.cells ov 89 (0, 0)) → q.2 = .agg (nv q.1) → ∃ w2, (execOp (evalBy (cv q)) o).run Try.prog w = .ok .skip w2 ∧ (∀ n, n ≤ G → Below n w w2) ∧ (∀ j, j ≠ G → w2.heap[j]? = w.heap[j]?) ∧ w2.heap[G]? = some (.cells (nv q.1) 89 (0, 0))) : AskM w0 G ov nv ops cv done q w 5 o := by
  refine ⟨hg, ?_⟩
  have hb := h.box
  rw [hu] at hb
  obtain ⟨w2, hr, hbb, hj, hz⟩ := he hb (h.val hm)
  rw [hr]
  have h3 := h.o4 hm
  obtain ⟨m1, m2⟩ := h.map h3
  refine ⟨q, ⟨h.keep.trans (hbb _ (Nat.le_refl _)), h.lt, (by rw [updM_eq]; exact hz), fun _ => ⟨m1, (hj _ (by have := h.lt; omega)).trans m2⟩, fun _ => h.val hm, fun _ => updM_le h3, fun _ => updM_le h3, fun _ => updM_le hm⟩, fun e hE => by rw [hd] at hE; exact absurd hE (by simp), fun _ _ => rfl⟩
end
def lookCv (B G s : Nat) (V : TV) (A : Option Addr) (n c : Nat) (q : Nat × Value) : Tmp → Value
  | 1 => .slice A n c
  | 2 => .pointer (some ⟨B, 0, none⟩)
  | 4 => .pointer (some ⟨G, 0, none⟩)
  | 5 => tvV V
  | 6 => .slice A n c
  | 7 => .int .i64 (s : Int)
  | 8 => .map (some q.1)
  | 9 => q.2
  | _ => undef
set_option maxRecDepth 100000 in
set_option maxHeartbeats 4000000 in
theorem look_any (V : TV) (A : Option Addr) (n c : Nat) (cs : List Nat) (w : World) (hl : cs.length = n) (hn : n ≤ maxLen) (hA : IntsAt w w.heap.size A (cs.map Int.ofNat)) (h10 : ∀ x ∈ cs, x < 10) :
    Calls Try.prog 51 #[tvV V, .slice A n c] w fun e w' => ∃ M, e = .returned (coV V (setL cs) M) ∧ Below w.heap.size w w' ∧ w.heap.size ≤ M ∧ w'.heap[M]? = some (.map #[] 0) := by
  obtain ⟨s, hs⟩ : ∃ s, setL cs = s := ⟨_, rfl⟩
  have HS := Lib.hid hs
  clear hs
  obtain ⟨ah, nh, ch, az, ns, cz⟩ := V
  obtain ⟨z0, z1, hb⟩ := two_new w (.cells #[.slice ah nh ch, .slice az ns cz] 25) (.cells #[.slice none 0 0, .slice none 0 0, .int .i64 0, .map none] 89)
  obtain ⟨w2, hw2⟩ : ∃ z, (w.alloc (.cells #[.slice ah nh ch, .slice az ns cz] 25)).alloc (.cells #[.slice none 0 0, .slice none 0 0, .int .i64 0, .map none] 89) = z := ⟨_, rfl⟩
  rw [hw2] at z0 z1 hb
  have HW := Lib.hid hw2; have HB := Lib.hid hb; have HZ0 := Lib.hid z0; have HZ1 := Lib.hid z1
  have HA := Lib.hid hA
  clear z0 z1 hb hw2 hA
  go_enter Try.func51, Try.ntmps51
  go_wp2_with fail
  rw [show (w.alloc (.cells #[.slice ah nh ch, .slice az ns cz] 25)).alloc (.cells #[.slice none 0 0, .slice none 0 0, .int .i64 0, .map none] 89) = w2 from HW.out]
  refine wp_region_any (by kernel_rfl) (plan_guarded_any (γ := Nat × Value) [1, 2, 4] (lookCv w.heap.size (w.heap.size + 1) s ⟨ah, nh, ch, az, ns, cz⟩ A n c) (fun done q w' => LkM w2 (w.heap.size + 1) #[.slice none 0 0, .slice none 0 0, .int .i64 0, .map none] (fun g => coC ⟨ah, nh, ch, az, ns, cz⟩ s g) done q w') (0, undef) (by kernel_rfl) (by kernel_rfl) (by kernel_rfl) (by kernel_rfl) ?_ ?_ ?_ ?_)
  · intro t ht
    simp only [List.mem_cons, List.not_mem_nil, or_false] at ht
    rcases ht with rfl | rfl | rfl <;> rfl
  · exact ⟨(Below.refl _ w2).drew, heapsz HZ1.out, by simpa using HZ1.out, fun h => by simp at h, fun h => by simp at h, fun h => by simp at h, fun h => by simp at h, fun h => by simp at h⟩
  · refine allOps_array ?_
    refine ⟨?_, ?_, ?_, ?_, ?_, ?_, trivial⟩
    · intro done q u hS hu hdep _
      obtain ⟨p0, p1⟩ := box2 ((hS.keep.block _ (Nat.lt_succ_self _)).trans HZ0.out)
      refine quietM hS 5 rfl (by decide) (by decide) (by decide) rfl ?_
      simp [go_sem, evalBy, lookCv, p0, p1]
    · intro done q u hS hu hdep _
      refine quietM hS 6 rfl (by decide) (by decide) (by decide) rfl ?_
      simp [go_sem, evalBy, lookCv]
    · intro done q u hS hu hdep _
      refine callM hS 7 rfl (by decide) (by decide) (by decide) rfl 77 #[.slice A n c] (by simp [go_sem, evalBy, lookCv]) ?_
      have hk : Below w.heap.size w u := HB.out.trans (hS.keep.mono (Nat.le_succ _))
      have h := setOf_any A n c cs u hl hn (RowAt.next HA.out hk hk.size) h10
      rw [HS.out] at h
      exact h
    · intro done q u hS hu hdep _
      exact mapM hS 8 rfl hu rfl (fun _ => rfl) (fun g' t ht => by unfold lookCv; split <;> first | rfl | exact absurd rfl ht) (by simp [go_sem, run_makeMap])
    · intro done q u hS hu hdep _
      have h5 : done 5 = false := by
        cases hq : done 5 with
        | false => rfl
        | true => exact absurd hu (by rw [hS.o54 hq]; decide)
      refine buildM hS 9 rfl (hdep ⟨3, .data⟩ (by simp) rfl) h5 rfl (fun _ => rfl) (fun v t ht => by unfold lookCv; split <;> first | rfl | exact absurd rfl ht) ?_
      simp [go_sem, evalBy, lookCv]
    · intro done q u hS hu hdep _
      refine storeM hS rfl (hdep ⟨4, .data⟩ (by simp) rfl) hu rfl (fun hb hv => ?_)
      obtain ⟨w2, h1, h2, h3, h4, h5⟩ := store4 hb (.slice ah nh ch) (.slice az ns cz) (.int .i64 (s : Int)) (.map (some q.1))
      exact ⟨w2, by rw [← h1]; exact exec_store_mid 89 _ _ rfl (w.heap.size + 1) #[.slice ah nh ch, .slice az ns cz, .int .i64 (s : Int), .map (some q.1)] rfl (by simp [evalBy, lookCv, hv]) h2 info89 (one4 ⟨rfl, rfl, rfl, rfl⟩), h5, h4, h3⟩
  · intro q w9 hS
    have hz := hS.box
    rw [if_pos (by decide)] at hz
    obtain ⟨m1, m2⟩ := hS.map (by decide)
    have hk : Below w.heap.size w w9 := HB.out.trans (hS.keep.mono (Nat.le_succ _))
    have HK := Lib.hid hk; have HZ := Lib.hid hz; have HM := Lib.hid m2; have HM1 := Lib.hid m1
    clear hS hz m1 m2 hk
    simp [putAll, Act.put, lookCv]
    go_wp2_with fail
    refine bodyPost_ret (results_cell_row rfl _ _ (w.heap.size + 1) 89 _ (0, 0) _ rfl HZ.out Try.underlying89 rfl info89) rfl ?_
    exact ⟨q.1, by rw [HS.out], HK.out, Nat.le_trans HB.out.size HM1.out, HM.out⟩
end Go.Proofs.Ytmppiiamcpjhnaa
