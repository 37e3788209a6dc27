/- Coolers: the least number of sites that suffices. Coolers: the least number of sites that suffices: the walk. Coolers: the floor. Coolers: in which week a house is level again. Coolers: in which week each house is level again. -/
import Derived.Test.YtmppiiamcpjhnaaCE
import Derived.Laws.MakeOwn
namespace Go.Proofs.Ytmppiiamcpjhnaa
open Go.RowKit Go.Shelf

theorem dsc_of_perm {l vs : List Int} (h : l.Perm vs) : dsc l = dsc vs := dsc_unique ((dsc_perm l).trans h) (dsc_sorted l)
theorem bears_perm {need : Int} {l vs : List Int} (h : l.Perm vs) : bearsV need l = bearsV need vs := by unfold bearsV; rw [dsc_of_perm h]
theorem sit_nodup (s : Int) : (sitL s).Nodup := List.Pairwise.filter _ List.nodup_range
theorem mem_sit {s x : Nat} : x ∈ sitL (s : Int) ↔ x < 10 ∧ s.testBit x = true := by
  unfold sitL
  rw [List.mem_filter, List.mem_range, jack_bit]
theorem sit_set {cs : List Nat} (hn : cs.Nodup) (h10 : ∀ x ∈ cs, x < 10) : (sitL ((setL cs : Nat) : Int)).Perm cs := by
  refine (List.perm_ext_iff_of_nodup (sit_nodup _) hn).2 fun x => ?_
  rw [mem_sit, setL_bit]
  simp only [decide_eq_true_eq]
  exact ⟨fun h => h.2, fun h => ⟨h10 x h, h⟩⟩
/-- What all sites surely give to a house, the greatest first. -/
def allD (T : Tn) (h : Nat) : List Int := dsc (givL T h (2 ^ T.ss.length - 1))
/-- The least number of sites that suffices for a house. -/
def fewO (T : Tn) (h : Nat) (f : Int) : Option Nat := (List.range (T.ss.length + 1)).find? fun m => decide (f ≤ bearsV (needI T h) ((allD T h).take m))
def fewI (T : Tn) (h : Nat) (f : Int) : Int := match fewO T h f with | some m => (m : Int) | none => -1
theorem full_len {n : Nat} (h : n ≤ 10) : (sitL ((2 ^ n - 1 : Nat) : Int)).length = n := by
  have : n = 0 ∨ n = 1 ∨ n = 2 ∨ n = 3 ∨ n = 4 ∨ n = 5 ∨ n = 6 ∨ n = 7 ∨ n = 8 ∨ n = 9 ∨ n = 10 := by omega
  rcases this with rfl | rfl | rfl | rfl | rfl | rfl | rfl | rfl | rfl | rfl | rfl <;> decide +kernel
theorem few_found {T : Tn} {h m : Nat} {f : Int} (hm : m ≤ T.ss.length) (h0 : ∀ j, j < m → bearsV (needI T h) ((allD T h).take j) < f) (hx : f ≤ bearsV (needI T h) ((allD T h).take m)) : fewO T h f = some m := by
  unfold fewO
  obtain ⟨d, hd⟩ : ∃ d, T.ss.length + 1 = m + (d + 1) := ⟨T.ss.length - m, by omega⟩
  rw [hd, List.range_add, List.range_succ_eq_map, List.map_cons]
  refine find_first _ _ _ (fun y hy => ?_) (by simpa using hx)
  have := h0 y (List.mem_range.1 hy)
  simp only [decide_eq_false_iff_not]
  omega
theorem few_none {T : Tn} {h : Nat} {f : Int} (h0 : ∀ j, j < T.ss.length + 1 → bearsV (needI T h) ((allD T h).take j) < f) : fewO T h f = none := by
  unfold fewO
  rw [List.find?_eq_none]
  intro k hk
  have := h0 k (List.mem_range.1 hk)
  simp only [decide_eq_true_eq]
  omega
/-- What the first of the strongest sites bear. -/
theorem few_bears {T : Tn} {h m : Nat} {ys : List Int} (hp : ys.Perm (sitZ ((2 ^ T.ss.length - 1 : Nat) : Int))) (hd : Dsc (lowZ T h) ys) : bearsI T h (setL ((ys.take m).map Int.toNat)) = bearsV (needI T h) ((allD T h).take m) := by
  have hg := giv_dsc hp hd
  unfold bearsI allD
  rw [← hg, ← List.map_take]
  refine bears_perm ?_
  have h1 : ∀ y ∈ ys, ∃ k : Nat, y = Int.ofNat k ∧ k < 10 := fun y hy => by
    obtain ⟨k, hk, rfl⟩ := List.mem_map.1 (hp.mem_iff.1 hy)
    exact ⟨k, rfl, (sit_10 hk).1⟩
  have hnd : ys.Nodup := by
    refine hp.nodup_iff.2 ?_
    unfold sitZ
    exact List.pairwise_map.2 (List.Pairwise.imp (fun {a b} hab e => hab (Int.ofNat.inj e)) (sit_nodup _))
  have hnt : ((ys.take m).map Int.toNat).Nodup := by
    refine List.pairwise_map.2 ?_
    have h2 : (ys.take m).Nodup := hnd.sublist (List.take_sublist _ _)
    refine List.Pairwise.imp_of_mem (fun {a b} ha hb hab e => hab ?_) h2
    obtain ⟨k, rfl, _⟩ := h1 a (List.mem_of_mem_take ha)
    obtain ⟨j, rfl, _⟩ := h1 b (List.mem_of_mem_take hb)
    have e2 : k = j := by simpa using e
    rw [e2]
  have hs := sit_set hnt fun x hx => by
    obtain ⟨y, hy, rfl⟩ := List.mem_map.1 hx
    obtain ⟨k, rfl, hk⟩ := h1 y (List.mem_of_mem_take hy)
    exact hk
  have hm := hs.map (lowI T h)
  rw [List.map_map] at hm
  exact hm
theorem take_any {w : World} {B : Nat} {A : Option Addr} {cs : List Int} {n c k : Nat} (hA : IntsAt w B A cs) (hk : k ≤ n) (hc : n ≤ c) :
    ∃ A', (∀ W : World, (Instr.slice 26 (.slice A n c) none (some (.int .i64 (k : Int))) none).run Try.prog W = .ok (.slice A' k c) W) ∧ IntsAt w B A' (cs.take k) := by
  refine ⟨if c = 0 then A else A.map (·.add 0), fun W => ?_, fun hne => ?_⟩
  · have h0 : (0 : Int) ≤ (k : Int) := by omega
    have h1 : (k : Int) ≤ (c : Int) := by omega
    have h2 := run_slice_h (P := Try.prog) (w := W) (t := 26) (a := A) (len := n) (cap := c) elem26 .i64 (k : Int) h0 h1
    rw [h2, size26]
    simp [Result.andThen, sliced]
  · obtain ⟨b, o, rfl, h1, h2⟩ := hA (fun e => by rw [e] at hne; simp at hne)
    refine ⟨b, o, ?_, h1, fun i x hx j v hv => ?_⟩
    · split
      · rfl
      · simp [addr_add]
    rw [List.getElem?_take] at hx
    split at hx
    · exact h2 i x hx j v hv
    · cases hx
/-- Operations that read, and stores that leave what they find, and calls: the worlds of one kind T. -/
theorem sameQ {T : World → Prop} {ops : Array Oper} {cv : Tmp → Value} {o : Oper} {u : World} (hT : T u) (d : Tmp) (hd : o.dst = some d) (hg : Region.wanted o (yieldedBy ops cv) = true) (he : (execOp (evalBy cv) o).run Try.prog u = .ok (.value (cv d)) u) :
    Region.wanted o (yieldedBy ops cv) = true ∧ Yield Try.prog (fun v w' => ∃ _ : Unit, T w' ∧ (∀ d, o.dst = some d → cv d = v) ∧ ∀ t, o.dst ≠ some t → cv t = cv t) ((execOp (evalBy cv) o).run Try.prog u) := by
  refine ⟨hg, ?_⟩
  rw [he]
  exact ⟨(), hT, fun e hE => by rw [hd] at hE; injection hE with hE; subst hE; rfl, fun _ _ => rfl⟩
theorem sameS {T : World → Prop} {ops : Array Oper} {cv : Tmp → Value} {o : Oper} {u u' : World} (hT : T u') (hd : o.dst = none) (hg : Region.wanted o (yieldedBy ops cv) = true) (he : (execOp (evalBy cv) o).run Try.prog u = .ok .skip u') :
    Region.wanted o (yieldedBy ops cv) = true ∧ Yield Try.prog (fun v w' => ∃ _ : Unit, T w' ∧ (∀ d, o.dst = some d → cv d = v) ∧ ∀ t, o.dst ≠ some t → cv t = cv t) ((execOp (evalBy cv) o).run Try.prog u) := by
  refine ⟨hg, ?_⟩
  rw [he]
  exact ⟨(), hT, fun e hE => by rw [hd] at hE; exact absurd hE (by simp), fun _ _ => rfl⟩
theorem sameC {T : World → Prop} {ops : Array Oper} {cv : Tmp → Value} {o : Oper} {u : World} (d : Tmp) (hd : o.dst = some d) (hg : Region.wanted o (yieldedBy ops cv) = true) (f : FuncId) (args : Array Value) (he : (execOp (evalBy cv) o).run Try.prog u = .ok (.enter f args) u)
    (hc : Calls Try.prog f args u fun e w' => e = .returned (cv d) ∧ T w') :
    Region.wanted o (yieldedBy ops cv) = true ∧ Yield Try.prog (fun v w' => ∃ _ : Unit, T w' ∧ (∀ d, o.dst = some d → cv d = v) ∧ ∀ t, o.dst ≠ some t → cv t = cv t) ((execOp (evalBy cv) o).run Try.prog u) := by
  refine ⟨hg, ?_⟩
  rw [he]
  show Calls Try.prog f args u _
  refine hc.mono ?_
  rintro e w' ⟨rfl, hT⟩
  exact ⟨_, rfl, (), hT, fun e hE => by rw [hd] at hE; injection hE with hE; subst hE; rfl, fun _ _ => rfl⟩
/-- A value that is known by what it is. -/
structure OneV (w0 : World) (P : Value → World → Prop) (i1 i2 : Nat) (done : Nat → Bool) (g : Value × Value) (u : World) : Prop where
  bel : Below w0.heap.size w0 u
  l1 : done i1 = true → P g.1 u
  l2 : done i2 = true → P g.2 u
section
variable {w0 u : World} {P : Value → World → Prop} {i i1 i2 : Nat} {done : Nat → Bool} {g : Value × Value} {ops : Array Oper} {cv : Value × Value → Tmp → Value} {o : Oper}
abbrev AskV (w0 : World) (P : Value → World → Prop) (i1 i2 : Nat) (ops : Array Oper) (cv : Value × Value → Tmp → Value) (done : Nat → Bool) (g : Value × Value) (u : World) (i : Nat) (o : Oper) : Prop :=
  Region.wanted o (yieldedBy ops (cv g)) = true ∧ Yield Try.prog (fun v w' => ∃ g', OneV w0 P i1 i2 (updB done i) g' w' ∧ (∀ d, o.dst = some d → cv g' d = v) ∧ ∀ t, o.dst ≠ some t → cv g' t = cv g t) ((execOp (evalBy (cv g)) o).run Try.prog u)
theorem quietV (h : OneV w0 P i1 i2 done g u) (d : Tmp) (hd : o.dst = some d) (h1 : i ≠ i1) (h2 : i ≠ i2) (hg : Region.wanted o (yieldedBy ops (cv g)) = true) (he : (execOp (evalBy (cv g)) o).run Try.prog u = .ok (.value (cv g d)) u) : AskV w0 P i1 i2 ops cv done g u i o := by
  refine ⟨hg, ?_⟩
  rw [he]
  exact ⟨g, ⟨h.bel, fun e => h.l1 (by rwa [updM_ne h1] at e), fun e => h.l2 (by rwa [updM_ne h2] at e)⟩, fun e hE => by rw [hd] at hE; injection hE with hE; subst hE; rfl, fun _ _ => rfl⟩
theorem callV (hP : ∀ v A B, P v A → Below A.heap.size A B → P v B) (h : OneV w0 P i1 i2 done g u) (d : Tmp) (hd : o.dst = some d) (h1 : i ≠ i1) (h2 : i ≠ i2) (hg : Region.wanted o (yieldedBy ops (cv g)) = true) (f : FuncId) (args : Array Value) (he : (execOp (evalBy (cv g)) o).run Try.prog u = .ok (.enter f args) u)
    (hc : Calls Try.prog f args u fun e w' => e = .returned (cv g d) ∧ Below u.heap.size u w') : AskV w0 P i1 i2 ops cv done g u i o := by
  refine ⟨hg, ?_⟩
  rw [he]
  show Calls Try.prog f args u _
  refine hc.mono ?_
  rintro e w' ⟨rfl, hb⟩
  exact ⟨_, rfl, g, ⟨h.bel.trans (hb.mono h.bel.size), fun e => hP _ _ _ (h.l1 (by rwa [updM_ne h1] at e)) hb, fun e => hP _ _ _ (h.l2 (by rwa [updM_ne h2] at e)) hb⟩, fun e hE => by rw [hd] at hE; injection hE with hE; subst hE; rfl, fun _ _ => rfl⟩
theorem knowV (hP : ∀ v A B, P v A → Below A.heap.size A B → P v B) (h : OneV w0 P i i2 done g u) (hne : i ≠ i2) (d : Tmp) (hd : o.dst = some d) (hg : Region.wanted o (yieldedBy ops (cv g)) = true) (f : FuncId) (args : Array Value) (he : (execOp (evalBy (cv g)) o).run Try.prog u = .ok (.enter f args) u)
    (hcd : ∀ v, cv (v, g.2) d = v) (hct : ∀ v t, t ≠ d → cv (v, g.2) t = cv g t) (hc : Calls Try.prog f args u fun e w' => ∃ v, e = .returned v ∧ Below u.heap.size u w' ∧ P v w') : AskV w0 P i i2 ops cv done g u i o := by
  refine ⟨hg, ?_⟩
  rw [he]
  show Calls Try.prog f args u _
  refine hc.mono ?_
  rintro e w' ⟨v, rfl, hb, hv⟩
  exact ⟨_, rfl, (v, g.2), ⟨h.bel.trans (hb.mono h.bel.size), fun _ => hv, fun e => hP _ _ _ (h.l2 (by rwa [updM_ne hne] at e)) hb⟩, fun e hE => by rw [hd] at hE; injection hE with hE; subst hE; exact hcd v, fun t ht => hct v t (fun e => ht (by rw [hd, e]))⟩
theorem copyV (h : OneV w0 P i1 i done g u) (hne : i ≠ i1) (h1 : done i1 = true) (d : Tmp) (hd : o.dst = some d) (hg : Region.wanted o (yieldedBy ops (cv g)) = true)
    (he : (execOp (evalBy (cv g)) o).run Try.prog u = .ok (.value g.1) u) (hcd : cv (g.1, g.1) d = g.1) (hct : ∀ t, t ≠ d → cv (g.1, g.1) t = cv g t) : AskV w0 P i1 i ops cv done g u i o := by
  refine ⟨hg, ?_⟩
  rw [he]
  exact ⟨(g.1, g.1), ⟨h.bel, fun e => h.l1 (by rwa [updM_ne hne] at e), fun _ => h.l1 h1⟩, fun e hE => by rw [hd] at hE; injection hE with hE; subst hE; exact hcd, fun t ht => hct t (fun e => ht (by rw [hd, e]))⟩
end
def feCv (P : Nat) (V : TV) (s M h k N : Nat) (g : Value × Value) : Tmp → Value
  | 1 => .int .i64 (h : Int)
  | 3 => .pointer (some ⟨P, 0, none⟩)
  | 9 => coV V s M
  | 10 => .pointer (some ⟨P, 0, none⟩)
  | 11 => .pointer (some ⟨P, 1, none⟩)
  | 12 => .slice V.az V.ns V.cs
  | 13 => .int .i64 (V.ns : Int)
  | 14 => .int .i64 (N : Int)
  | 15 => .int .i64 (k : Int)
  | 16 => coV V k M
  | 17 => .int .i64 (h : Int)
  | 18 => g.1
  | 7 => g.2
  | _ => undef
def ffCv (P : Nat) (V : TV) (s M h k S : Nat) (A A2 : Option Addr) (n c : Nat) (f b : Int) (q : Bool) : Tmp → Value
  | 1 => .int .i64 (h : Int)
  | 2 => .int .i64 f
  | 3 => .pointer (some ⟨P, 0, none⟩)
  | 7 => .slice A n c
  | 8 => .int .i64 (k : Int)
  | 25 => coV V s M
  | 26 => .slice A n c
  | 27 => .int .i64 (k : Int)
  | 28 => .slice A2 k c
  | 29 => .int .i64 (S : Int)
  | 30 => coV V S M
  | 31 => .int .i64 (h : Int)
  | 32 => .int .i64 b
  | 33 => .int .i64 f
  | 34 => .bool q
  | _ => undef
end Go.Proofs.Ytmppiiamcpjhnaa

namespace Go.Proofs.Ytmppiiamcpjhnaa
open Go.RowKit Go.Shelf

theorem wrap_eq (n : Int) : IntKind.i64.wrap n = wrap64 n := by rw [IntKind.wrap_i64]; unfold wrap64; omega
set_option maxRecDepth 100000 in
set_option maxHeartbeats 8000000 in
theorem fewest_any {w0 w : World} {M : Nat} {V : TV} {T : Tn} (hL : Lw w0 V T M w) {s h : Nat} (f : Int) (hs : s < 2 ^ V.ns) (hh : h < V.nh) :
    Calls Try.prog 91 #[coV V s M, .int .i64 (h : Int), .int .i64 f] w fun e w' => e = .returned (.int .i64 (fewI T h f)) ∧ Cw T M w w' := by
  have z := heap_alloc_new w (.cells (coC V s M) 89)
  have hb := (Below.refl w.heap.size w).alloc (Nat.le_refl _) (.cells (coC V s M) 89)
  obtain ⟨w1, hw1⟩ : ∃ z, w.alloc (.cells (coC V s M) 89) = z := ⟨_, rfl⟩
  rw [hw1] at z hb
  have hn := hL.ns
  have hn10 := hn.2.1
  have e1 := shl11 hn10
  have e1w : IntKind.i64.wrap ((2 : Int) ^ V.ns) = ((2 ^ V.ns : Nat) : Int) := (wrap_eq _).trans e1
  have hp2 := pow10 hn10
  have hpos := Nat.two_pow_pos V.ns
  obtain ⟨N, hN⟩ : ∃ N : Nat, 2 ^ V.ns = N := ⟨_, rfl⟩
  have HNN := Lib.hid hN
  have hk1 : N - 1 < 2 ^ V.ns := by omega
  have hmx := hL.net.ms
  have HST := Lib.hid (fun u (hu : Below w1.heap.size w1 u) => strongest_any V T (N - 1) M h u ((hL.up (hb.trans (hu.mono hb.size))).tn) hL.ok hk1 hh)
  have HLN := Lib.hid (full_len hn10)
  rw [hN] at e1w hp2 hpos HLN
  have hw2' : IntKind.i64.wrap ((N : Int) - 1) = ((N - 1 : Nat) : Int) := by rw [IntKind.wrap_i64]; omega
  obtain ⟨K, hK⟩ : ∃ K : Nat, N - 1 = K := ⟨_, rfl⟩
  rw [hK] at HST hw2' HLN
  have HKK := Lib.hid hK
  have HL1 := Lib.hid (hL.up hb); have HZ := Lib.hid z; have HW := Lib.hid hw1; have HCW := Lib.hid (hL.cw0.up hb); have HHS := Lib.hid (And.intro hs (And.intro hh hn))
  obtain ⟨ah, nh, ch, az, ns, cz⟩ := V
  simp only at hn10 e1w hmx
  clear z hb hw1 hn hN hk1 hK hL hs hh
  have hP : ∀ (v : Value) (A B : World), (∃ ys, ys.Perm (sitZ (K : Int)) ∧ Dsc (lowZ T h) ys ∧ RowIs intR 3 w1.heap.size ys v A) → Below A.heap.size A B → ∃ ys, ys.Perm (sitZ (K : Int)) ∧ Dsc (lowZ T h) ys ∧ RowIs intR 3 w1.heap.size ys v B := fun v A B ⟨ys, h1, h2, h3⟩ hb => ⟨ys, h1, h2, h3.below hb⟩
  go_enter Try.func91, Try.ntmps91
  go_wp2_with fail
  rw [show w.alloc (.cells #[.slice ah nh ch, .slice az ns cz, .int .i64 (s : Int), .map (some M)] 89) = w1 from HW.out]
  refine wp_region_any (by kernel_rfl) (plan_guarded_any (γ := Value × Value) [1, 3] (feCv w.heap.size ⟨ah, nh, ch, az, ns, cz⟩ s M h K N) (OneV w1 (fun v u => ∃ ys, ys.Perm (sitZ (K : Int)) ∧ Dsc (lowZ T h) ys ∧ RowIs intR 3 w1.heap.size ys v u) 9 10) (undef, undef) (by kernel_rfl) (by kernel_rfl) (by kernel_rfl) (by kernel_rfl) ?_ ?_ ?_ ?_)
  · intro t ht
    simp only [List.mem_cons, List.not_mem_nil, or_false] at ht
    rcases ht with rfl | rfl <;> rfl
  · exact ⟨(Below.refl _ w1).drew, fun h => by simp at h, fun h => by simp at h⟩
  · refine allOps_array ?_
    refine ⟨?_, ?_, ?_, ?_, ?_, ?_, ?_, ?_, ?_, ?_, ?_, trivial⟩ <;> intro done g u hS hu hdep _ <;> obtain ⟨⟨p0, p1, p2, p3⟩, _⟩ := box4 ((hS.bel.block _ (heapsz HZ.out)).trans HZ.out) <;> simp only at p0 p1 p2 p3
    · exact quietV hS 9 rfl (by decide) (by decide) rfl (by simp [go_sem, evalBy, feCv, p0, p1, p2, p3])
    · exact quietV hS 10 rfl (by decide) (by decide) rfl (by simp [go_sem, evalBy, feCv])
    · exact quietV hS 11 rfl (by decide) (by decide) rfl (by simp [go_sem, evalBy, feCv])
    · exact quietV hS 12 rfl (by decide) (by decide) rfl (by simp [go_sem, evalBy, feCv, p1])
    · exact quietV hS 13 rfl (by decide) (by decide) rfl (by simp [go_sem, evalBy, feCv])
    · exact quietV hS 14 rfl (by decide) (by decide) rfl (by simp [go_sem, evalBy, feCv, e1w])
    · exact quietV hS 15 rfl (by decide) (by decide) rfl (by simp [go_sem, evalBy, feCv, hw2'])
    · exact callV hP hS 16 rfl (by decide) (by decide) rfl 83 #[coV ⟨ah, nh, ch, az, ns, cz⟩ s M, .int .i64 (K : Int)] (by simp [go_sem, evalBy, feCv]) (with_any _ s M K u)
    · exact quietV hS 17 rfl (by decide) (by decide) rfl (by simp [go_sem, evalBy, feCv])
    · refine knowV hP hS (by decide) 18 rfl rfl 84 #[coV ⟨ah, nh, ch, az, ns, cz⟩ K M, .int .i64 (h : Int)] (by simp [go_sem, evalBy, feCv]) (fun _ => rfl) (fun v t ht => by unfold feCv; split <;> first | rfl | exact absurd rfl ht) ?_
      refine (HST.out u hS.bel).mono ?_
      rintro e w' ⟨v, ys, rfl, h1, h2, h3, h4⟩
      exact ⟨v, rfl, h1, ys, h2, h3, h4.low hS.bel.size⟩
    · exact copyV hS (by decide) (hdep ⟨9, .data⟩ (by simp) rfl) 7 rfl rfl (by simp [go_sem, evalBy, feCv]) rfl (fun t ht => by unfold feCv; split <;> first | rfl | exact absurd rfl ht)
  · intro g w2 hS
    obtain ⟨ys, hp, hd, hr⟩ := hS.l2 (by decide)
    obtain ⟨A, c, eg, hA, hc⟩ := hr.at_ (k := 1) (fun _ => rfl)
    have hlen : ys.length = ns := by
      rw [hp.length_eq]
      unfold sitZ
      rw [List.length_map, HLN.out]
    have HBV := Lib.hid (fun m => few_bears (T := T) (h := h) (m := m) (by rw [show T.ss.length = ns from HHS.out.2.2.1, show 2 ^ ns = N from HNN.out, HKK.out]; exact hp) hd)
    have h10 : ∀ y ∈ ys, ∃ k : Nat, y = Int.ofNat k ∧ k < ns := fun y hy => by
      obtain ⟨k, hk, rfl⟩ := List.mem_map.1 (hp.mem_iff.1 hy)
      exact ⟨k, rfl, sit_ns (show K < 2 ^ ns by rw [show 2 ^ ns = N from HNN.out, ← HKK.out]; omega) (sit_10 hk).2⟩
    have H10 := Lib.hid h10; have HC := Lib.hid hc; have HLE := Lib.hid hlen
    have HL2 := Lib.hid (HL1.out.up hS.bel); have HZ2 := Lib.hid ((hS.bel.block _ (heapsz HZ.out)).trans HZ.out); have HCW2 := Lib.hid (HCW.out.up hS.bel)
    have HSL : Hid (T.ss.length = ns) := Lib.hid HHS.out.2.2.1
    rw [hlen] at eg
    rw [eg] at hr
    have HR := Lib.hid hr
    clear hS hp hd hr hA h10 hc hlen hw2' hpos e1w hP
    simp [putAll, Act.put, feCv, eg]
    clear eg
    go_wp2_with fail
    go_loopw [22] (fun ii wr => ∃ k : Nat, k ≤ ns + 1 ∧ ii = .int .i64 k ∧ (∀ j, j < k → bearsV (needI T h) ((allD T h).take j) < f) ∧ Cw T M w2 wr) (fun ii _ => ns + 1 - (intOf ii).toNat)
    case atStart => exact ⟨0, by omega, rfl, fun j hj => by omega, HL2.out.cw0⟩
    case round =>
      obtain ⟨k, hk, rfl, hall, hcw⟩ := hrel
      have HALL := Lib.hid hall; have HCR := Lib.hid hcw
      by_cases hlt : k < ns + 1
      · have k3 : (0 : Int) ≤ (k : Int) := by omega
        have k4 : (k : Int) < (ns : Int) + 1 := by omega
        have hkn : k ≤ ns := by omega
        have HLR := Lib.hid (HL2.out.go hcw)
        -- what is asked at each world of the statement
        have HU : Hid (∀ u, Cw T M wr u → (u.cell? ⟨w.heap.size, 0, none⟩ = some (.slice ah nh ch) ∧ u.cell? ⟨w.heap.size, 1, none⟩ = some (.slice az ns cz) ∧ u.cell? ⟨w.heap.size, 2, none⟩ = some (.int .i64 (s : Int)) ∧ u.cell? ⟨w.heap.size, 3, none⟩ = some (.map (some M))) ∧ IntsAt u u.heap.size A ys) := Lib.hid fun u hu => by
          have hu2 := HCR.out.trans hu
          refine ⟨(box4 (hu2.cell HZ2.out (HL2.out.ne HZ2.out))).1, ?_⟩
          obtain ⟨A', c', e, hA', _⟩ := (HR.out.keep fun b cs _ hx => hu2.cell hx (HL2.out.ne hx)).at_ (k := 1) (fun _ => rfl)
          injection e with e
          rw [e]
          exact hA'
        obtain ⟨A2, hsl, _⟩ := take_any (c := c) (HU.out wr HLR.out.cw0).2 hkn (by have := HC.out; have := HLE.out; omega)
        have HA2 : Hid (∀ u, Cw T M wr u → IntsAt u u.heap.size A2 (ys.take k)) := Lib.hid fun u hu => by
          obtain ⟨A3, hsl3, hA3⟩ := take_any (c := c) (HU.out u hu).2 hkn (by have := HC.out; have := HLE.out; omega)
          have := (hsl u).symm.trans (hsl3 u)
          injection this with this
          injection this with this
          rw [this]
          exact hA3
        obtain ⟨S, hS⟩ : ∃ S, setL ((ys.take k).map Int.toNat) = S := ⟨_, rfl⟩
        have hkc : k ≤ maxLen := by unfold maxLen; omega
        have hlk : (ys.take k).length = k := by rw [List.length_take, HLE.out]; omega
        have hof : ((ys.take k).map Int.toNat).map Int.ofNat = ys.take k := by
          rw [List.map_map]
          conv => rhs; rw [← List.map_id (ys.take k)]
          refine List.map_congr_left fun x hx => ?_
          obtain ⟨j, rfl, _⟩ := H10.out x (List.mem_of_mem_take hx)
          rfl
        have hlt10 : ∀ x ∈ (ys.take k).map Int.toNat, x < ns := fun x hx => by
          obtain ⟨y, hy, rfl⟩ := List.mem_map.1 hx
          obtain ⟨j, rfl, hj⟩ := H10.out y (List.mem_of_mem_take hy)
          exact hj
        have HSET : Hid (∀ u, Cw T M wr u → Calls Try.prog 77 #[.slice A2 k c] u fun e u' => e = .returned (.int .i64 (S : Int)) ∧ Cw T M wr u') := Lib.hid fun u hu => by
          refine (setOf_any A2 k c ((ys.take k).map Int.toNat) u (by rw [List.length_map]; exact hlk) hkc (by rw [hof]; exact HA2.out u hu) (fun x hx => by have := hlt10 x hx; omega)).mono ?_
          rintro e w' ⟨rfl, rfl⟩
          exact ⟨by rw [hS], hu⟩
        have HST2 : Hid (S < 2 ^ ns) := Lib.hid (by rw [← hS]; exact setL_lt2 hlt10)
        have HBE : Hid (∀ u, Cw T M wr u → Calls Try.prog 55 #[coV ⟨ah, nh, ch, az, ns, cz⟩ S M, .int .i64 (h : Int)] u fun e u' => e = .returned (.int .i64 (bearsV (needI T h) ((allD T h).take k))) ∧ Cw T M wr u') := Lib.hid fun u hu => by
          refine (bears_any (HLR.out.go hu) HST2.out HHS.out.2.1).mono ?_
          rintro e w' ⟨rfl, hg⟩
          exact ⟨by rw [← hS, HBV.out k], hu.trans hg⟩
        have HWI : Hid (∀ u, Cw T M wr u → Calls Try.prog 83 #[coV ⟨ah, nh, ch, az, ns, cz⟩ s M, .int .i64 (S : Int)] u fun e u' => e = .returned (coV ⟨ah, nh, ch, az, ns, cz⟩ S M) ∧ Cw T M wr u') := Lib.hid fun u hu => by
          refine (with_any ⟨ah, nh, ch, az, ns, cz⟩ s M S u).mono ?_
          rintro e w' ⟨rfl, hb⟩
          exact ⟨rfl, hu.up hb⟩
        obtain ⟨b, hb⟩ : ∃ b, bearsV (needI T h) ((allD T h).take k) = b := ⟨_, rfl⟩
        rw [hb] at HBE
        have HB := Lib.hid hb
        have hkc2 : (k : Int) ≤ (c : Int) := by have := HC.out; have := HLE.out; omega
        clear hall hcw hS hlk hof hlt10 hb
        go_wp2_with fail
        refine wp_region_any (by kernel_rfl) (plan_guarded_any (γ := Unit) [1, 2, 3, 7, 8] (fun _ => ffCv w.heap.size ⟨ah, nh, ch, az, ns, cz⟩ s M h k S A A2 ns c f b (decide (f ≤ b))) (fun _ _ u => Cw T M wr u) () (by kernel_rfl) (by kernel_rfl) (by kernel_rfl) (by kernel_rfl) ?_ ?_ ?_ ?_)
        · intro t ht
          simp only [List.mem_cons, List.not_mem_nil, or_false] at ht
          rcases ht with rfl | rfl | rfl | rfl | rfl <;> rfl
        · exact HLR.out.cw0.up ((Below.refl wr.heap.size wr).drew)
        · refine allOps_array ?_
          refine ⟨?_, ?_, ?_, ?_, ?_, ?_, ?_, ?_, ?_, ?_, trivial⟩ <;> intro done g u hS hu hdep _ <;> obtain ⟨⟨p0, p1, p2, p3⟩, _⟩ := HU.out u hS
          · exact sameQ (T := fun u => Cw T M wr u) hS 25 rfl rfl (by simp [go_sem, evalBy, ffCv, p0, p1, p2, p3])
          · exact sameQ (T := fun u => Cw T M wr u) hS 26 rfl rfl (by simp [go_sem, evalBy, ffCv])
          · exact sameQ (T := fun u => Cw T M wr u) hS 27 rfl rfl (by simp [go_sem, evalBy, ffCv])
          · exact sameQ (T := fun u => Cw T M wr u) hS 28 rfl rfl (by simp [go_sem, evalBy, ffCv, hsl])
          · exact sameC (T := fun u => Cw T M wr u) 29 rfl rfl 77 #[.slice A2 k c] (by simp [go_sem, evalBy, ffCv]) (HSET.out u hS)
          · exact sameC (T := fun u => Cw T M wr u) 30 rfl rfl 83 #[coV ⟨ah, nh, ch, az, ns, cz⟩ s M, .int .i64 (S : Int)] (by simp [go_sem, evalBy, ffCv]) (HWI.out u hS)
          · exact sameQ (T := fun u => Cw T M wr u) hS 31 rfl rfl (by simp [go_sem, evalBy, ffCv])
          · exact sameC (T := fun u => Cw T M wr u) 32 rfl rfl 55 #[coV ⟨ah, nh, ch, az, ns, cz⟩ S M, .int .i64 (h : Int)] (by simp [go_sem, evalBy, ffCv]) (HBE.out u hS)
          · exact sameQ (T := fun u => Cw T M wr u) hS 33 rfl rfl (by simp [go_sem, evalBy, ffCv])
          · exact sameQ (T := fun u => Cw T M wr u) hS 34 rfl rfl (by simp [go_sem, evalBy, ffCv])
        · intro g u hS
          have HG := Lib.hid (HCR.out.trans hS)
          clear hS
          simp [putAll, Act.put, ffCv]
          by_cases hfb : f ≤ b
          · have HV : Hid (fewI T h f = (k : Int)) := Lib.hid (by
              unfold fewI
              rw [few_found (by rw [HSL.out]; exact hkn) HALL.out (by rw [HB.out]; exact hfb)])
            go_wp2_with fail
            go_ret
            exact ⟨by rw [HV.out]; rfl, HCW2.out.trans HG.out⟩
          · have HX : Hid (∀ j, j < k + 1 → bearsV (needI T h) ((allD T h).take j) < f) := Lib.hid fun j hj => by
              rcases Nat.lt_succ_iff_lt_or_eq.1 hj with hj | rfl
              · exact HALL.out j hj
              · rw [HB.out]; omega
            have hfb' : b < f := by omega
            go_wp2_with fail
            exact ⟨⟨k + 1, by omega, rfl, HX.out, HG.out⟩, by simp [intOf]; omega⟩
      · obtain rfl : k = ns + 1 := by omega
        have k4 : ¬ ((ns + 1 : Nat) : Int) < (ns : Int) + 1 := by omega
        have HV : Hid (fewI T h f = -1) := Lib.hid (by
          unfold fewI
          rw [few_none (by rw [HSL.out]; exact hall)])
        clear hall hcw
        go_wp2_with fail
        go_ret
        exact ⟨by rw [HV.out]; rfl, HCW2.out.trans HCR.out⟩
end Go.Proofs.Ytmppiiamcpjhnaa

namespace Go.Proofs.Ytmppiiamcpjhnaa
open Go.RowKit Go.Shelf

def floorK (T : Tn) (f : Int) : Nat → Int
  | 0 => 0
  | k + 1 => max (floorK T f k) (fewI T k f)
def floO (T : Tn) (f : Int) : Option Int := if (List.range T.hs.length).all (fun h => decide (0 ≤ fewI T h f)) then some (floorK T f T.hs.length) else none
theorem floO_no {T : Tn} {f : Int} {k : Nat} (hk : k < T.hs.length) (h : fewI T k f < 0) : floO T f = none := by
  unfold floO
  rw [if_neg]
  intro ha
  have := List.all_eq_true.1 ha k (List.mem_range.2 hk)
  simp only [decide_eq_true_eq] at this
  omega
theorem floO_yes {T : Tn} {f : Int} (h : ∀ k, k < T.hs.length → 0 ≤ fewI T k f) : floO T f = some (floorK T f T.hs.length) := by
  unfold floO
  rw [if_pos]
  rw [List.all_eq_true]
  intro k hk
  simp [h k (List.mem_range.1 hk)]
set_option maxRecDepth 100000 in
set_option maxHeartbeats 8000000 in
theorem floor_any {w0 w : World} {M : Nat} {V : TV} {T : Tn} (hL : Lw w0 V T M w) {s : Nat} (f : Int) (hs : s < 2 ^ V.ns) :
    Calls Try.prog 67 #[coV V s M, .int .i64 f] w fun e w' => e = .returned (.tuple #[.int .i64 ((floO T f).getD 0), .bool (floO T f).isSome]) ∧ Cw T M w w' := by
  have z := heap_alloc_new w (.cells (coC V s M) 89)
  have hb := (Below.refl w.heap.size w).alloc (Nat.le_refl _) (.cells (coC V s M) 89)
  obtain ⟨w1, hw1⟩ : ∃ z, w.alloc (.cells (coC V s M) 89) = z := ⟨_, rfl⟩
  rw [hw1] at z hb
  have HW := Lib.hid hw1; have HCW := Lib.hid (hL.cw0.up hb); have HL1 := Lib.hid (hL.up hb); have HS := Lib.hid hs; have HZ := Lib.hid z
  have hn := hL.ns
  have HNH := Lib.hid hn.2.2.1
  obtain ⟨ah, nh, ch, az, ns, cz⟩ := V
  obtain ⟨⟨v0, v1, v2, v3⟩, _⟩ := box4 z
  simp only at v0 v1 v2 v3 hn
  have hnh := hn.2.2.2
  clear z hb hw1 hL hs hn
  go_enter Try.func67, Try.ntmps67
  go_wp2_with fail
  rw [HW.out]
  go_wp2_with fail
  clear v0 v1 v2 v3
  go_loopw [6, 13] (fun bb ii wr => ∃ k : Nat, k ≤ nh ∧ ii = .int .i64 k ∧ bb = .int .i64 (floorK T f k) ∧ (∀ j, j < k → 0 ≤ fewI T j f) ∧ Cw T M w1 wr) (fun _ ii _ => nh - (intOf ii).toNat)
  case atStart => exact ⟨0, by omega, rfl, rfl, fun j hj => by omega, HL1.out.cw0⟩
  case round =>
    obtain ⟨k, hk, rfl, rfl, hall, hcw⟩ := hrel
    have HA := Lib.hid hall; have HCR := Lib.hid hcw
    by_cases hlt : k < nh
    · have k3 : (0 : Int) ≤ (k : Int) := by omega
      have k4 : (k : Int) < (nh : Int) := by omega
      have HB := Lib.hid (fewest_any (HL1.out.go hcw) (s := s) (h := k) f HS.out hlt)
      obtain ⟨⟨v0, v1, v2, v3⟩, _⟩ := box4 (hcw.cell HZ.out (HL1.out.ne HZ.out))
      simp only at v0 v1 v2 v3
      clear hall hcw
      go_wp2_with fail
      refine HB.out.mono ?_
      rintro e w3 ⟨rfl, hg⟩
      have HG := Lib.hid (HCR.out.trans hg)
      obtain ⟨b, hbi⟩ : ∃ b, fewI T k f = b := ⟨_, rfl⟩
      rw [hbi]
      have HBI := Lib.hid hbi
      clear hg v0 v1 v2 v3 hbi
      by_cases h0 : b < 0
      · have HV : Hid (floO T f = none) := Lib.hid (floO_no (by rw [HNH.out]; exact hlt) (by rw [HBI.out]; exact h0))
        go_wp2_with fail
        go_ret2
        exact ⟨by rw [HV.out]; rfl, HCW.out.trans HG.out⟩
      · have HX : Hid (∀ j, j < k + 1 → 0 ≤ fewI T j f) := Lib.hid fun j hj => by
          rcases Nat.lt_succ_iff_lt_or_eq.1 hj with hj | rfl
          · exact HA.out j hj
          · rw [HBI.out]; omega
        have HM : Hid (max (floorK T f k) b = floorK T f (k + 1)) := Lib.hid (by rw [← HBI.out]; rfl)
        have hmax := HM.out
        go_wp2_with fail
        exact ⟨⟨k + 1, by omega, rfl, rfl, HX.out, HG.out⟩, by simp [intOf]; omega⟩
    · obtain rfl : nh = k := by omega
      have k4 : ¬ (nh : Int) < (nh : Int) := by omega
      have HN : Hid (floO T f = some (floorK T f nh)) := Lib.hid (by
        have h1 : T.hs.length = nh := HNH.out
        rw [← h1]
        exact floO_yes (by rw [h1]; exact hall))
      clear hall hcw
      go_wp2_with fail
      go_ret2
      exact ⟨by rw [HN.out]; rfl, HCW.out.trans HCR.out⟩
def floV (T : Tn) (f : Int) : Value :=
  if failI T [] f = 0 then (match floO T f with | some m => .tuple #[.int .i64 m, .int .i64 0] | none => .tuple #[.int .i64 0, .int .i64 5]) else .tuple #[.int .i64 0, .int .i64 2]
set_option maxRecDepth 100000 in
set_option maxHeartbeats 8000000 in
theorem Floor_any (V : TV) (T : Tn) (f : Int) (w : World) (hN : TnAt w w.heap.size V T) :
    Calls Try.prog 34 #[tvV V, .int .i64 f] w fun e w' => e = .returned (floV T f) ∧ Below w.heap.size w w' := by
  have z := heap_alloc_new w (.cells (tvC V) 25)
  have hb := (Below.refl w.heap.size w).alloc (Nat.le_refl _) (.cells (tvC V) 25)
  obtain ⟨w1, hw1⟩ : ∃ z, w.alloc (.cells (tvC V) 25) = z := ⟨_, rfl⟩
  rw [hw1] at z hb
  have HF := Lib.hid (checkFails_any V T none 0 0 [] f w1 (hN.up hb) rfl (Nat.zero_le _) (fun h => absurd rfl h))
  have HLK := Lib.hid (fun (u : World) (hu : Below w1.heap.size w1 u) (hK : TnOk T) => lookL_any V T none 0 0 [] u ((hN.up hb).next hu hu.size) hK (coolB_nil T) rfl (Nat.zero_le _) (fun h => absurd rfl h))
  have HW := Lib.hid hw1; have HB := Lib.hid hb; have HZ := Lib.hid z
  have HNS := Lib.hid hN.ns
  obtain ⟨ah, nh, ch, az, ns, cz⟩ := V
  obtain ⟨v0, v1⟩ := box2 z
  clear z hb hw1 hN
  go_enter Try.func34, Try.ntmps34
  go_wp2_with fail
  rw [show w.alloc (.cells #[.slice ah nh ch, .slice az ns cz] 25) = w1 from HW.out]
  go_wp2_with fail
  refine HF.out.mono ?_
  rintro e w2 ⟨rfl, hb2⟩
  have HB2 := Lib.hid (HB.out.trans (hb2.mono HB.out.size))
  rcases fail_cases T [] f with h2 | ⟨h0, hc0, hf⟩
  · have H2 := Lib.hid h2
    rw [h2]
    clear hb2 v0 v1 h2
    go_wp2_with fail
    go_ret2
    exact ⟨by unfold floV; rw [H2.out]; rfl, HB2.out⟩
  · have H0 := Lib.hid h0
    obtain ⟨hK, hC⟩ := town_ok hc0
    have HL := Lib.hid (HLK.out w2 hb2 hK)
    have HS : Hid (setI [] < 2 ^ ns) := Lib.hid (by have h1 : T.ss.length = ns := HNS.out; rw [← h1]; exact setI_lt hC)
    obtain ⟨y0, y1⟩ := box2 ((hb2.block _ (heapsz HZ.out)).trans HZ.out)
    rw [h0]
    clear hb2 v0 v1 h0 hc0 hf hK hC
    go_wp2_with fail
    refine HL.out.mono ?_
    rintro e w3 ⟨M, rfl, hlw⟩
    have HBE := Lib.hid (floor_any hlw (s := setI []) f HS.out)
    have HBL := Lib.hid hlw
    clear hlw y0 y1
    go_wp2_with fail
    refine HBE.out.mono ?_
    rintro e w4 ⟨rfl, hg⟩
    have HE : Hid (Below w.heap.size w w4) := Lib.hid ((HB2.out.trans (HBL.out.bel.mono HB2.out.size)).trans ((hg.bel HBL.out.lt).mono HB2.out.size))
    cases hbk : floO T f with
    | none =>
      have HBK := Lib.hid hbk
      clear hg hbk
      simp only [Option.isSome_none, Option.getD_none]
      go_wp2_with fail
      go_ret2
      exact ⟨by unfold floV; rw [H0.out, HBK.out]; rfl, HE.out⟩
    | some m =>
      have HBK := Lib.hid hbk
      clear hg hbk
      simp only [Option.isSome_some, Option.getD_some]
      go_wp2_with fail
      go_ret2
      exact ⟨by unfold floV; rw [H0.out, HBK.out]; rfl, HE.out⟩
end Go.Proofs.Ytmppiiamcpjhnaa

namespace Go.Proofs.Ytmppiiamcpjhnaa
open Go.RowKit Go.Shelf

theorem ints_cw {w0 w A : World} {M : Nat} {V : TV} {T : Tn} (hL : Lw w0 V T M w) (hg : Cw T M w A) {a : Option Addr} {cs : List Int} (h : IntsAt w w.heap.size a cs) : IntsAt A A.heap.size a cs := fun hne => by
  obtain ⟨b, o, rfl, h1, h2⟩ := h hne
  exact ⟨b, o, rfl, Nat.lt_of_lt_of_le h1 hg.gr.size, fun i x hx j v hv => hL.rc hg (h2 i x hx j v hv)⟩
/-- In which week a house is level again: after how many repairs, then how long they take. -/
def agO (T : Tn) (s h : Nat) (or : List Nat) : Option Nat := (List.range (or.length + 1)).find? fun k => decide (0 ≤ bearsI T h (dropS s (setL (or.drop k))))
def agI (T : Tn) (s h : Nat) (or : List Nat) : Int := match agO T s h or with | some k => weekS T (setL (or.take k)) | none => -1
theorem ag_found {T : Tn} {s h m : Nat} {or : List Nat} (hm : m ≤ or.length) (h0 : ∀ j, j < m → bearsI T h (dropS s (setL (or.drop j))) < 0) (hx : 0 ≤ bearsI T h (dropS s (setL (or.drop m)))) : agO T s h or = some m := by
  unfold agO
  obtain ⟨d, hd⟩ : ∃ d, or.length + 1 = m + (d + 1) := ⟨or.length - m, by omega⟩
  rw [hd, List.range_add, List.range_succ_eq_map, List.map_cons]
  refine find_first _ _ _ (fun y hy => ?_) (by simpa using hx)
  have := h0 y (List.mem_range.1 hy)
  simp only [decide_eq_false_iff_not]
  omega
theorem ag_none {T : Tn} {s h : Nat} {or : List Nat} (h0 : ∀ j, j < or.length + 1 → bearsI T h (dropS s (setL (or.drop j))) < 0) : agO T s h or = none := by
  unfold agO
  rw [List.find?_eq_none]
  intro k hk
  have := h0 k (List.mem_range.1 hk)
  simp only [decide_eq_true_eq]
  omega
theorem dropS_lt {s x n : Nat} (h : s < 2 ^ n) : dropS s x < 2 ^ n := Nat.lt_of_le_of_lt dropS_le h
def agCv (P : Nat) (V : TV) (s M h k D : Nat) (A A2 : Option Addr) (n c : Nat) (q : Bool) : Tmp → Value
  | 1 => .int .i64 (h : Int)
  | 2 => .slice A n c
  | 3 => .pointer (some ⟨P, 0, none⟩)
  | 7 => .int .i64 (k : Int)
  | 14 => coV V s M
  | 15 => .slice A n c
  | 16 => .int .i64 (k : Int)
  | 17 => .slice A2 (n - k) (c - k)
  | 18 => .int .i64 (D : Int)
  | 19 => coV V (dropS s D) M
  | 20 => .int .i64 (h : Int)
  | 21 => .bool q
  | _ => undef
def ahCv (P : Nat) (V : TV) (s M k D : Nat) (A A2 : Option Addr) (n c : Nat) (y : Int) : Tmp → Value
  | 2 => .slice A n c
  | 3 => .pointer (some ⟨P, 0, none⟩)
  | 7 => .int .i64 (k : Int)
  | 22 => coV V s M
  | 23 => .slice A n c
  | 24 => .int .i64 (k : Int)
  | 25 => .slice A2 k c
  | 26 => .int .i64 (D : Int)
  | 27 => coV V D M
  | 28 => .int .i64 y
  | 6 => .int .i64 y
  | _ => undef
set_option maxRecDepth 100000 in
set_option maxHeartbeats 8000000 in
theorem again_any {w0 w : World} {M : Nat} {V : TV} {T : Tn} (hL : Lw w0 V T M w) {s h : Nat} (A : Option Addr) (n c : Nat) (or : List Nat) (hs : s < 2 ^ V.ns) (hh : h < V.nh) (hl : or.length = n) (hn : n ≤ 100) (hnc : n ≤ c) (hA : IntsAt w w.heap.size A (or.map Int.ofNat)) (hor : ∀ x ∈ or, x < V.ns) :
    Calls Try.prog 71 #[coV V s M, .int .i64 (h : Int), .slice A n c] w fun e w' => e = .returned (.int .i64 (agI T s h or)) ∧ Cw T M w w' := by
  have z := heap_alloc_new w (.cells (coC V s M) 89)
  have hb := (Below.refl w.heap.size w).alloc (Nat.le_refl _) (.cells (coC V s M) 89)
  obtain ⟨w1, hw1⟩ : ∃ z, w.alloc (.cells (coC V s M) 89) = z := ⟨_, rfl⟩
  rw [hw1] at z hb
  have hV := hL.ns
  have HL1 := Lib.hid (hL.up hb); have HZ := Lib.hid z; have HW := Lib.hid hw1; have HCW := Lib.hid (hL.cw0.up hb); have HHS := Lib.hid (And.intro hs (And.intro hh hV))
  have HA := Lib.hid (RowAt.up hA hb); have HOR := Lib.hid hor; have HLN := Lib.hid hl
  have p10 := pow10 hV.2.1
  obtain ⟨ah, nh, ch, az, ns, cz⟩ := V
  have HN10 : Hid (ns ≤ 10 ∧ s < 2 ^ 10) := Lib.hid ⟨hV.2.1, Nat.lt_of_lt_of_le hs p10⟩
  clear z hb hw1 hL hs hh hA hor hl hV
  go_enter Try.func71, Try.ntmps71
  go_wp2_with fail
  rw [show w.alloc (.cells #[.slice ah nh ch, .slice az ns cz, .int .i64 (s : Int), .map (some M)] 89) = w1 from HW.out]
  go_loopw [11] (fun ii wr => ∃ k : Nat, k ≤ n + 1 ∧ ii = .int .i64 k ∧ (∀ j, j < k → bearsI T h (dropS s (setL (or.drop j))) < 0) ∧ Cw T M w1 wr) (fun ii _ => n + 1 - (intOf ii).toNat)
  case atStart => exact ⟨0, by omega, rfl, fun j hj => by omega, HL1.out.cw0⟩
  case round =>
    obtain ⟨k, hk, rfl, hall, hcw⟩ := hrel
    have HALL := Lib.hid hall; have HCR := Lib.hid hcw
    by_cases hlt : k < n + 1
    · have k3 : (0 : Int) ≤ (k : Int) := by omega
      have k4 : (k : Int) < (n : Int) + 1 := by omega
      have k5 : (k : Int) ≤ (n : Int) := by omega
      have hkn : k ≤ n := by omega
      have HLR := Lib.hid (HL1.out.go hcw)
      have HU : Hid (∀ u, Cw T M wr u → (u.cell? ⟨w.heap.size, 0, none⟩ = some (.slice ah nh ch) ∧ u.cell? ⟨w.heap.size, 1, none⟩ = some (.slice az ns cz) ∧ u.cell? ⟨w.heap.size, 2, none⟩ = some (.int .i64 (s : Int)) ∧ u.cell? ⟨w.heap.size, 3, none⟩ = some (.map (some M))) ∧ IntsAt u u.heap.size A (or.map Int.ofNat)) := Lib.hid fun u hu => by
        have hu2 := HCR.out.trans hu
        exact ⟨(box4 (hu2.cell HZ.out (HL1.out.ne HZ.out))).1, ints_cw HL1.out hu2 HA.out⟩
      obtain ⟨A2, hsl, _⟩ := cut_any (k := k) (HU.out wr HLR.out.cw0).2 (by rw [List.length_map]; exact HLN.out) hkn hnc
      have HA2 : Hid (∀ u, Cw T M wr u → IntsAt u u.heap.size A2 ((or.drop k).map Int.ofNat)) := Lib.hid fun u hu => by
        obtain ⟨A3, hsl3, hA3⟩ := cut_any (k := k) (HU.out u hu).2 (by rw [List.length_map]; exact HLN.out) hkn hnc
        have := (hsl u).symm.trans (hsl3 u)
        injection this with this
        injection this with this
        rw [this, List.map_drop]
        exact hA3
      obtain ⟨D, hD⟩ : ∃ D, setL (or.drop k) = D := ⟨_, rfl⟩
      have HDD := Lib.hid hD
      have HD10 : Hid (D < 2 ^ 10) := Lib.hid (by rw [← hD]; exact setL_lt _ (fun x hx => by have := HOR.out x (List.mem_of_mem_drop hx); have h9 := HN10.out.1; have h8 : x < ns := this; omega))
      have HSET : Hid (∀ u, Cw T M wr u → Calls Try.prog 77 #[.slice A2 (n - k) (c - k)] u fun e u' => e = .returned (.int .i64 (D : Int)) ∧ Cw T M wr u') := Lib.hid fun u hu => by
        refine (setOf_any A2 _ _ (or.drop k) u (by rw [List.length_drop, HLN.out]) (by unfold maxLen; omega) (HA2.out u hu) (fun x hx => by have := HOR.out x (List.mem_of_mem_drop hx); have h9 := HN10.out.1; have h8 : x < ns := this; omega)).mono ?_
        rintro e w' ⟨rfl, rfl⟩
        exact ⟨by rw [hD], hu⟩
      have HWO : Hid (∀ u, Cw T M wr u → Calls Try.prog 81 #[coV ⟨ah, nh, ch, az, ns, cz⟩ s M, .int .i64 (D : Int)] u fun e u' => e = .returned (coV ⟨ah, nh, ch, az, ns, cz⟩ (dropS s D) M) ∧ Cw T M wr u') := Lib.hid fun u hu => by
        refine (without_any ⟨ah, nh, ch, az, ns, cz⟩ s M D u HN10.out.2 HD10.out).mono ?_
        rintro e w' ⟨rfl, hb⟩
        exact ⟨rfl, hu.up hb⟩
      have HSU : Hid (∀ u, Cw T M wr u → Calls Try.prog 82 #[coV ⟨ah, nh, ch, az, ns, cz⟩ (dropS s D) M, .int .i64 (h : Int)] u fun e u' => e = .returned (.bool (decide (0 ≤ bearsI T h (dropS s D)))) ∧ Cw T M wr u') := Lib.hid fun u hu => by
        refine (surely_any (HLR.out.go hu) (dropS_lt HHS.out.1) HHS.out.2.1).mono ?_
        rintro e w' ⟨rfl, hg⟩
        exact ⟨rfl, hu.trans hg⟩
      obtain ⟨b, hb⟩ : ∃ b, bearsI T h (dropS s D) = b := ⟨_, rfl⟩
      rw [hb] at HSU
      have HB := Lib.hid hb
      clear hall hcw hD hb
      go_wp2_with fail
      refine wp_region_any (by kernel_rfl) (plan_guarded_any (γ := Unit) [1, 2, 3, 7] (fun _ => agCv w.heap.size ⟨ah, nh, ch, az, ns, cz⟩ s M h k D A A2 n c (decide (0 ≤ b))) (fun _ _ u => Cw T M wr u) () (by kernel_rfl) (by kernel_rfl) (by kernel_rfl) (by kernel_rfl) ?_ ?_ ?_ ?_)
      · intro t ht
        simp only [List.mem_cons, List.not_mem_nil, or_false] at ht
        rcases ht with rfl | rfl | rfl | rfl <;> rfl
      · exact HLR.out.cw0.up ((Below.refl wr.heap.size wr).drew)
      · refine allOps_array ?_
        refine ⟨?_, ?_, ?_, ?_, ?_, ?_, ?_, ?_, trivial⟩ <;> intro done g u hS hu hdep _ <;> obtain ⟨⟨p0, p1, p2, p3⟩, _⟩ := HU.out u hS
        · exact sameQ (T := fun u => Cw T M wr u) hS 14 rfl rfl (by simp [go_sem, evalBy, agCv, p0, p1, p2, p3])
        · exact sameQ (T := fun u => Cw T M wr u) hS 15 rfl rfl (by simp [go_sem, evalBy, agCv])
        · exact sameQ (T := fun u => Cw T M wr u) hS 16 rfl rfl (by simp [go_sem, evalBy, agCv])
        · exact sameQ (T := fun u => Cw T M wr u) hS 17 rfl rfl (by simp [go_sem, evalBy, agCv, hsl])
        · exact sameC (T := fun u => Cw T M wr u) 18 rfl rfl 77 #[.slice A2 (n - k) (c - k)] (by simp [go_sem, evalBy, agCv]) (HSET.out u hS)
        · exact sameC (T := fun u => Cw T M wr u) 19 rfl rfl 81 #[coV ⟨ah, nh, ch, az, ns, cz⟩ s M, .int .i64 (D : Int)] (by simp [go_sem, evalBy, agCv]) (HWO.out u hS)
        · exact sameQ (T := fun u => Cw T M wr u) hS 20 rfl rfl (by simp [go_sem, evalBy, agCv])
        · exact sameC (T := fun u => Cw T M wr u) 21 rfl rfl 82 #[coV ⟨ah, nh, ch, az, ns, cz⟩ (dropS s D) M, .int .i64 (h : Int)] (by simp [go_sem, evalBy, agCv]) (HSU.out u hS)
      · intro g u hS
        have HG := Lib.hid hS
        clear hS
        simp [putAll, Act.put, agCv]
        by_cases h0 : 0 ≤ b
        · -- level again
          have HAG : Hid (agI T s h or = weekS T (setL (or.take k))) := Lib.hid (by
            unfold agI
            rw [ag_found (by rw [HLN.out]; exact hkn) HALL.out (by rw [HDD.out, HB.out]; exact h0)])
          obtain ⟨A4, hsl4, _⟩ := take_any (c := c) (HU.out u HG.out).2 hkn hnc
          have HLU := Lib.hid (HLR.out.go HG.out)
          have HA4 : Hid (∀ q, Cw T M u q → IntsAt q q.heap.size A4 ((or.take k).map Int.ofNat)) := Lib.hid fun q hq => by
            obtain ⟨A3, hsl3, hA3⟩ := take_any (c := c) (HU.out q (HG.out.trans hq)).2 hkn hnc
            have := (hsl4 q).symm.trans (hsl3 q)
            injection this with this
            injection this with this
            rw [this, List.map_take]
            exact hA3
          obtain ⟨E, hE⟩ : ∃ E, setL (or.take k) = E := ⟨_, rfl⟩
          have HEN : Hid (E < 2 ^ ns) := Lib.hid (by rw [← hE]; exact setL_lt2 (fun x hx => HOR.out x (List.mem_of_mem_take hx)))
          have HSE : Hid (∀ q, Cw T M u q → Calls Try.prog 77 #[.slice A4 k c] q fun e u' => e = .returned (.int .i64 (E : Int)) ∧ Cw T M u u') := Lib.hid fun q hq => by
            refine (setOf_any A4 _ _ (or.take k) q (by rw [List.length_take, HLN.out]; omega) (by unfold maxLen; omega) (HA4.out q hq) (fun x hx => by have := HOR.out x (List.mem_of_mem_take hx); have h9 := HN10.out.1; have h8 : x < ns := this; omega)).mono ?_
            rintro e w' ⟨rfl, rfl⟩
            exact ⟨by rw [hE], hq⟩
          have HWI : Hid (∀ q, Cw T M u q → Calls Try.prog 83 #[coV ⟨ah, nh, ch, az, ns, cz⟩ s M, .int .i64 (E : Int)] q fun e u' => e = .returned (coV ⟨ah, nh, ch, az, ns, cz⟩ E M) ∧ Cw T M u u') := Lib.hid fun q hq => by
            refine (with_any ⟨ah, nh, ch, az, ns, cz⟩ s M E q).mono ?_
            rintro e w' ⟨rfl, hb⟩
            exact ⟨rfl, hq.up hb⟩
          obtain ⟨y, hy⟩ : ∃ y, weekS T E = y := ⟨_, rfl⟩
          have HWE : Hid (∀ q, Cw T M u q → Calls Try.prog 93 #[coV ⟨ah, nh, ch, az, ns, cz⟩ E M] q fun e u' => e = .returned (.int .i64 y) ∧ Cw T M u u') := Lib.hid fun q hq => by
            refine (weeks_any ⟨ah, nh, ch, az, ns, cz⟩ T E M q (HLU.out.go hq).tn HL1.out.ok HEN.out).mono ?_
            rintro e w' ⟨rfl, hb⟩
            exact ⟨by rw [hy], hq.up hb⟩
          rw [hE, hy] at HAG
          have HU4 : Hid (∀ q, Cw T M u q → (q.cell? ⟨w.heap.size, 0, none⟩ = some (.slice ah nh ch) ∧ q.cell? ⟨w.heap.size, 1, none⟩ = some (.slice az ns cz) ∧ q.cell? ⟨w.heap.size, 2, none⟩ = some (.int .i64 (s : Int)) ∧ q.cell? ⟨w.heap.size, 3, none⟩ = some (.map (some M)))) := Lib.hid fun q hq => (HU.out q (HG.out.trans hq)).1
          have kc : (k : Int) ≤ (c : Int) := by omega
          clear hE hy
          go_wp2_with fail
          refine wp_region_any (by kernel_rfl) (plan_guarded_any (γ := Unit) [2, 3, 7] (fun _ => ahCv w.heap.size ⟨ah, nh, ch, az, ns, cz⟩ s M k E A A4 n c y) (fun _ _ q => Cw T M u q) () (by kernel_rfl) (by kernel_rfl) (by kernel_rfl) (by kernel_rfl) ?_ ?_ ?_ ?_)
          · intro t ht
            simp only [List.mem_cons, List.not_mem_nil, or_false] at ht
            rcases ht with rfl | rfl | rfl <;> rfl
          · exact HLU.out.cw0.up ((Below.refl u.heap.size u).drew)
          · refine allOps_array ?_
            refine ⟨?_, ?_, ?_, ?_, ?_, ?_, ?_, ?_, trivial⟩ <;> intro done g q hS hu hdep _ <;> obtain ⟨p0, p1, p2, p3⟩ := HU4.out q hS
            · exact sameQ (T := fun q => Cw T M u q) hS 22 rfl rfl (by simp [go_sem, evalBy, ahCv, p0, p1, p2, p3])
            · exact sameQ (T := fun q => Cw T M u q) hS 23 rfl rfl (by simp [go_sem, evalBy, ahCv])
            · exact sameQ (T := fun q => Cw T M u q) hS 24 rfl rfl (by simp [go_sem, evalBy, ahCv])
            · exact sameQ (T := fun q => Cw T M u q) hS 25 rfl rfl (by simp [go_sem, evalBy, ahCv, hsl4])
            · exact sameC (T := fun q => Cw T M u q) 26 rfl rfl 77 #[.slice A4 k c] (by simp [go_sem, evalBy, ahCv]) (HSE.out q hS)
            · exact sameC (T := fun q => Cw T M u q) 27 rfl rfl 83 #[coV ⟨ah, nh, ch, az, ns, cz⟩ s M, .int .i64 (E : Int)] (by simp [go_sem, evalBy, ahCv]) (HWI.out q hS)
            · exact sameC (T := fun q => Cw T M u q) 28 rfl rfl 93 #[coV ⟨ah, nh, ch, az, ns, cz⟩ E M] (by simp [go_sem, evalBy, ahCv]) (HWE.out q hS)
            · exact sameQ (T := fun q => Cw T M u q) hS 6 rfl rfl (by simp [go_sem, evalBy, ahCv])
          · intro g q hS
            have HE := Lib.hid (HCW.out.trans (HCR.out.trans (HG.out.trans hS)))
            clear hS
            simp [putAll, Act.put, ahCv]
            go_wp2_with fail
            go_ret
            exact ⟨by rw [HAG.out]; rfl, HE.out⟩
        · have HX : Hid (∀ j, j < k + 1 → bearsI T h (dropS s (setL (or.drop j))) < 0) := Lib.hid fun j hj => by
            rcases Nat.lt_succ_iff_lt_or_eq.1 hj with hj | rfl
            · exact HALL.out j hj
            · rw [HDD.out, HB.out]; omega
          have h0' : b < 0 := by omega
          have HCG := Lib.hid (HCR.out.trans HG.out)
          go_wp2_with fail
          exact ⟨⟨k + 1, by omega, rfl, HX.out, HCG.out⟩, by simp [intOf]; omega⟩
    · obtain rfl : k = n + 1 := by omega
      have k4 : ¬ ((n + 1 : Nat) : Int) < (n : Int) + 1 := by omega
      have HV : Hid (agI T s h or = -1) := Lib.hid (by
        unfold agI
        rw [ag_none (by rw [HLN.out]; exact hall)])
      clear hall hcw
      go_wp2_with fail
      go_ret
      exact ⟨by rw [HV.out]; rfl, HCW.out.trans HCR.out⟩
end Go.Proofs.Ytmppiiamcpjhnaa

namespace Go.Proofs.Ytmppiiamcpjhnaa
open Go.RowKit Go.Shelf

theorem cells_ne {w : World} {b c : Nat} {cs ds : Array Value} {T U : TypeId} (h1 : w.heap[b]? = some (.cells cs T (0, 0))) (h2 : w.heap[c]? = some (.cells ds U (0, 0))) (hne : T ≠ U) : b ≠ c := fun e => by
  subst e
  rw [h1] at h2
  injection h2 with h2
  injection h2 with _ h2
  exact hne h2
theorem ord_ok {T : Tn} {bo or : List Int} (h : ordI T bo or = 0) : TnOk T ∧ coolB T bo = true ∧ ordB bo or = true ∧ or.length ≤ 6 := by
  unfold ordI at h
  split at h
  · cases h
  · split at h
    · rename_i h1 h2
      simp only [Bool.and_eq_true] at h2
      exact ⟨tnB_iff.1 h2.1, h2.2.1, h2.2.2, by omega⟩
    · cases h
theorem ord_cases (T : Tn) (bo or : List Int) : ordI T bo or = 3 ∨ ordI T bo or = 2 ∨ ordI T bo or = 0 := by
  unfold ordI
  split
  · exact .inl rfl
  · split
    · exact .inr (.inr rfl)
    · exact .inr (.inl rfl)
theorem ord_nat {T : Tn} {bo or : List Int} (hC : coolB T bo = true) (ho : ordB bo or = true) : (or.map Int.toNat).map Int.ofNat = or ∧ ∀ x ∈ or.map Int.toNat, x < T.ss.length := by
  have h1 : ∀ x ∈ or, x ∈ bo := fun x hx => by
    obtain ⟨i, hi⟩ := List.getElem?_of_mem hx
    exact (ordB_iff.1 ho i x hi).1
  have hm := clB_mem hC
  constructor
  · rw [List.map_map]
    conv => rhs; rw [← List.map_id or]
    refine List.map_congr_left fun x hx => ?_
    have := hm x (h1 x hx)
    show Int.ofNat x.toNat = x
    rw [Int.ofNat_eq_natCast]
    omega
  · intro x hx
    obtain ⟨y, hy, rfl⟩ := List.mem_map.1 hx
    have := hm y (h1 y hy)
    omega
theorem Lw.put {w0 w : World} {V : TV} {T : Tn} {M b k : Nat} {v : Value} (h : Lw w0 V T M w) (hb : w0.heap.size ≤ b) (hne : M ≠ b) : Lw w0 V T M (w.setCell ⟨b, k, none⟩ v) := by
  obtain ⟨es, c, h1, h2⟩ := h.map
  exact ⟨h.bel.setCell (p := ⟨b, k, none⟩) hb v, ⟨es, c, (Below.heap_setCell _ _ _ _ hne).trans h1, h2⟩, h.lt, h.net, h.ok⟩
theorem ints_cwB {w0 w A : World} {M B : Nat} {V : TV} {T : Tn} (hL : Lw w0 V T M w) (hg : Cw T M w A) {a : Option Addr} {cs : List Int} (h : IntsAt w B a cs) : IntsAt A B a cs := fun hne => by
  obtain ⟨b, o, rfl, h1, h2⟩ := h hne
  exact ⟨b, o, rfl, h1, fun i x hx j v hv => hL.rc hg (h2 i x hx j v hv)⟩
def agZ (T : Tn) (bo or : List Int) (h : Nat) : Int := agI T (setI bo) h (or.map Int.toNat)
def agaL (T : Tn) (bo or : List Int) : List Int := if ordI T bo or = 0 then (List.range T.hs.length).map (agZ T bo or) else []
/-- The weeks that were found so far. -/
def wkA (g : Nat → Int) (k n : Nat) : Array Value := ((List.range n).map fun j => Value.int .i64 (if j < k then g j else 0)).toArray
theorem wkA_zero (g : Nat → Int) (n : Nat) : wkA g 0 n = madeCells #[Value.int .i64 0] n := by
  apply Array.ext_getElem?
  intro i
  unfold wkA madeCells
  by_cases h : i < n
  · simp [h, Nat.mod_one]
  · simp [h]
theorem wkA_get (g : Nat → Int) {k n j : Nat} (h : j < n) : (wkA g k n)[j]? = some (.int .i64 (if j < k then g j else 0)) := by
  unfold wkA
  simp [h]
theorem wkA_set (g : Nat → Int) {k n : Nat} (h : k < n) : (wkA g k n).setIfInBounds k (.int .i64 (g k)) = wkA g (k + 1) n := by
  apply Array.ext_getElem?
  intro i
  by_cases hi : i < n
  · by_cases e : i = k
    · subst e
      rw [Array.getElem?_setIfInBounds_self_of_lt (by unfold wkA; simpa using h), wkA_get g h, if_pos (by omega)]
    · rw [Array.getElem?_setIfInBounds_ne (Ne.symm e), wkA_get g hi, wkA_get g hi]
      by_cases h2 : i < k
      · rw [if_pos h2, if_pos (by omega)]
      · rw [if_neg h2, if_neg (by omega)]
  · have h1 : n ≤ i := by omega
    rw [Array.getElem?_eq_none (by unfold wkA; simpa using h1), Array.getElem?_eq_none (by unfold wkA; simpa using h1)]
set_option maxRecDepth 100000 in
set_option maxHeartbeats 8000000 in
theorem Again_any (V : TV) (T : Tn) (A : Option Addr) (n c : Nat) (bo : List Int) (A2 : Option Addr) (p q : Nat) (or : List Int) (w : World) (hN : TnAt w w.heap.size V T) (hl : bo.length = n) (hn : n ≤ maxLen) (hA : IntsAt w w.heap.size A bo) (hl2 : or.length = p) (hp : p ≤ maxLen) (hpq : p ≤ q) (hA2 : IntsAt w w.heap.size A2 or) :
    Calls Try.prog 38 #[tvV V, .slice A n c, .slice A2 p q] w fun e w' => ∃ v, e = .returned (.tuple #[v, .int .i64 (ordI T bo or)]) ∧ Below w.heap.size w w' ∧ RowIs intR 3 w.heap.size (agaL T bo or) v w' := by
  have z := heap_alloc_new w (.cells (tvC V) 25)
  have hb := (Below.refl w.heap.size w).alloc (Nat.le_refl _) (.cells (tvC V) 25)
  obtain ⟨w1, hw1⟩ : ∃ z, w.alloc (.cells (tvC V) 25) = z := ⟨_, rfl⟩
  rw [hw1] at z hb
  have HF := Lib.hid (checkOrder_any V T A n c bo A2 p q or w1 (hN.up hb) hl hn (RowAt.up hA hb) hl2 hp hpq (RowAt.up hA2 hb))
  have HLK := Lib.hid (fun (u : World) (hu : Below w1.heap.size w1 u) (hK : TnOk T) (hC : coolB T bo = true) => lookL_any V T A n c bo u ((hN.up hb).next hu hu.size) hK hC hl hn ((RowAt.up hA hb).next hu hu.size))
  have HA2 := Lib.hid (RowAt.up hA2 hb)
  have HNS := Lib.hid hN.ns; have HNH := Lib.hid hN.nh
  have HW := Lib.hid hw1; have HB := Lib.hid hb; have HZ := Lib.hid z; have HL2 := Lib.hid hl2
  obtain ⟨ah, nh, ch, az, ns, cz⟩ := V
  obtain ⟨v0, v1⟩ := box2 z
  clear z hb hw1 hN hl hn hA hA2 hl2 hp
  go_enter Try.func38, Try.ntmps38
  go_wp2_with fail
  rw [show w.alloc (.cells #[.slice ah nh ch, .slice az ns cz] 25) = w1 from HW.out]
  go_wp2_with fail
  refine HF.out.mono ?_
  rintro e w2 ⟨rfl, hb2⟩
  have HB2 := Lib.hid (HB.out.trans (hb2.mono HB.out.size))
  by_cases h0 : ordI T bo or = 0
  · have H0 := Lib.hid h0
    obtain ⟨hK, hC, hO, h6⟩ := ord_ok h0
    have HL := Lib.hid (HLK.out w2 hb2 hK hC)
    have HZ2 := Lib.hid ((hb2.block _ (heapsz HZ.out)).trans HZ.out)
    have HAO := Lib.hid (HA2.out.next hb2 hb2.size)
    obtain ⟨y0, y1⟩ := box2 HZ2.out
    have HS : Hid (setI bo < 2 ^ ns) := Lib.hid (by have h1 : T.ss.length = ns := HNS.out; rw [← h1]; exact setI_lt hC)
    have hnh6 : nh ≤ 6 := by have h1 : T.hs.length = nh := HNH.out; have := hK.h6; omega
    have HOR := Lib.hid (ord_nat hC hO)
    have hp6 : p ≤ 6 := by rw [← HL2.out]; exact h6
    rw [h0]
    obtain ⟨i0, hi0, hz0, hz1, hz2⟩ := info_parts int_info
    have hmk := fun W : World => run_make (P := Try.prog) 26 3 i0 _ Try.underlying26 hi0 hz0 .i64 .i64 (nh : Int) (nh : Int) (by omega) (by omega) (by rw [hz2]; omega) (by omega) (w := W)
    simp only [Int.toNat_natCast, hz1, Nat.mul_one] at hmk
    clear hb2 v0 v1 h0 hK hC hO h6
    go_wp2_with fail
    refine HL.out.mono ?_
    rintro e w3 ⟨M, rfl, hlw⟩
    obtain ⟨S, hS⟩ : ∃ z, setI bo = z := ⟨_, rfl⟩
    have HSS := Lib.hid hS
    rw [hS] at HS ⊢
    have z4 := heap_alloc_new w3 (.cells (coC ⟨ah, nh, ch, az, ns, cz⟩ S M) 89)
    have hb4 := (Below.refl w3.heap.size w3).alloc (Nat.le_refl _) (.cells (coC ⟨ah, nh, ch, az, ns, cz⟩ S M) 89)
    have hz4 := (hb4.block _ (by have := heapsz HZ2.out; have := hlw.bel.size; omega)).trans ((hlw.bel.block _ (heapsz HZ2.out)).trans HZ2.out)
    obtain ⟨w4, hw4⟩ : ∃ z, w3.alloc (.cells (coC ⟨ah, nh, ch, az, ns, cz⟩ S M) 89) = z := ⟨_, rfl⟩
    rw [hw4] at z4 hb4 hz4
    obtain ⟨x0, x1⟩ := box2 hz4
    have z5 := heap_alloc_new w4 (.cells (madeCells #[Value.int .i64 0] nh) 3)
    have hb5 := (Below.refl w4.heap.size w4).alloc (Nat.le_refl _) (.cells (madeCells #[Value.int .i64 0] nh) 3)
    obtain ⟨w5, hw5⟩ : ∃ z, w4.alloc (.cells (madeCells #[Value.int .i64 0] nh) 3) = z := ⟨_, rfl⟩
    rw [hw5] at z5 hb5
    have hb45 := hb4.trans (hb5.mono hb4.size)
    have HL5 := Lib.hid (hlw.up hb45); have HZ4 := Lib.hid ((hb5.block _ (heapsz z4)).trans z4); have HZ5 := Lib.hid z5
    have HBL : Hid (Below w.heap.size w w5 ∧ w.heap.size ≤ M ∧ w.heap.size ≤ w4.heap.size) := Lib.hid ⟨(HB2.out.trans (hlw.bel.mono HB2.out.size)).trans (hb45.mono (Nat.le_trans HB2.out.size hlw.bel.size)), Nat.le_trans HB2.out.size hlw.lt, by have := HB2.out.size; have := hlw.bel.size; have := hb4.size; omega⟩
    have HA5 : Hid (IntsAt w5 w4.heap.size A2 or) := Lib.hid (HAO.out.next (hlw.bel.trans (hb45.mono hlw.bel.size)) (Nat.le_trans hlw.bel.size hb4.size))
    have HW24 := Lib.hid (Nat.le_trans hlw.bel.size hb4.size)
    have HNE : Hid (M < w4.heap.size) := Lib.hid (by have := hlw.mlt; have := hb4.size; omega)
    clear hlw y0 y1 z4 hb4 hz4 hS z5 hb5 hb45
    go_wp2_with fail
    clear hw4 hw5 x0 x1 hmk
    go_loopw [28] (fun ii wr => ∃ k : Nat, k ≤ nh ∧ ii = .int .i64 k ∧ Below w.heap.size w wr ∧ Lw w2 ⟨ah, nh, ch, az, ns, cz⟩ T M wr ∧ wr.heap[w3.heap.size]? = some (.cells (coC ⟨ah, nh, ch, az, ns, cz⟩ S M) 89 (0, 0)) ∧ wr.heap[w4.heap.size]? = some (.cells (wkA (agZ T bo or) k nh) 3 (0, 0)) ∧ IntsAt wr w4.heap.size A2 or) (fun ii _ => nh - (intOf ii).toNat)
    case atStart => exact ⟨0, by omega, rfl, HBL.out.1, HL5.out, HZ4.out, by rw [wkA_zero]; exact HZ5.out, HA5.out⟩
    case round =>
      obtain ⟨k, hk, rfl, hbel, hlr, hzc, hzw, hao⟩ := hrel
      have HBE := Lib.hid hbel; have HLR := Lib.hid hlr; have HZC := Lib.hid hzc; have HZW := Lib.hid hzw; have HAR := Lib.hid hao
      by_cases hlt : k < nh
      · have k3 : (0 : Int) ≤ (k : Int) := by omega
        have k4 : (k : Int) < (nh : Int) := by omega
        have HAG := Lib.hid (again_any hlr (s := S) (h := k) A2 p q (or.map Int.toNat) HS.out hlt (by rw [List.length_map]; exact HL2.out) (by omega) hpq (by rw [HOR.out.1]; exact hao.next (Below.refl _ _) (by have := heapsz hzw; omega)) (fun x hx => by have h1 : T.ss.length = ns := HNS.out; have h2 := HOR.out.2 x hx; show x < ns; omega))
        obtain ⟨⟨v0, v1, v2, v3⟩, _⟩ := box4 hzc
        simp only at v0 v1 v2 v3
        clear hbel hlr hzc hzw hao
        go_wp2_with fail
        refine HAG.out.mono ?_
        rintro e w7 ⟨rfl, hg⟩
        have hl7 := HLR.out.go hg
        have hz7 := hg.cell HZW.out (HLR.out.ne HZW.out)
        have hc7 := hg.cell HZC.out (HLR.out.ne HZC.out)
        have ha7 := ints_cwB HLR.out hg HAR.out
        have HB7 := Lib.hid (HBE.out.trans (hg.bel HBL.out.2.1))
        obtain ⟨y, hy⟩ : ∃ y, agI T S k (or.map Int.toNat) = y := ⟨_, rfl⟩
        have hyz : agZ T bo or k = y := by unfold agZ; rw [HSS.out]; exact hy
        have c0 := cell_blk hz7 (wkA_get (agZ T bo or) (k := k) hlt)
        have f0 : w7.frozen? ⟨w4.heap.size, k, none⟩ = false := by simp [World.frozen?, hz7]
        have hset := blk_set hz7 k (.int .i64 y)
        rw [← hyz, wkA_set _ hlt] at hset
        have HE9 : Hid (Below w.heap.size w (w7.setCell ⟨w4.heap.size, k, none⟩ (.int .i64 y)) ∧ Lw w2 ⟨ah, nh, ch, az, ns, cz⟩ T M (w7.setCell ⟨w4.heap.size, k, none⟩ (.int .i64 y)) ∧ (w7.setCell ⟨w4.heap.size, k, none⟩ (.int .i64 y)).heap[w3.heap.size]? = some (.cells (coC ⟨ah, nh, ch, az, ns, cz⟩ S M) 89 (0, 0)) ∧ (w7.setCell ⟨w4.heap.size, k, none⟩ (.int .i64 y)).heap[w4.heap.size]? = some (.cells (wkA (agZ T bo or) (k + 1) nh) 3 (0, 0)) ∧ IntsAt (w7.setCell ⟨w4.heap.size, k, none⟩ (.int .i64 y)) w4.heap.size A2 or) := Lib.hid ⟨HB7.out.setCell (p := ⟨w4.heap.size, k, none⟩) HBL.out.2.2 _, hl7.put HW24.out (Ne.symm (hl7.ne hz7)), (Below.heap_setCell _ _ _ _ (cells_ne hc7 hz7 (by decide))).trans hc7, by rw [hyz] at hset; exact hset, ha7.next ((Below.refl w4.heap.size w7).setCell (p := ⟨w4.heap.size, k, none⟩) (Nat.le_refl _) _) (Nat.le_refl _)⟩
        rw [hyz, if_neg (by omega)] at c0
        have HY := Lib.hid hy
        rw [hy]
        clear hg hl7 hz7 hc7 ha7 hset hy hyz v0 v1 v2 v3
        go_wp2_with fail
        exact ⟨⟨k + 1, by omega, rfl, HE9.out⟩, by simp [intOf]; omega⟩
      · obtain rfl : nh = k := by omega
        have k4 : ¬ (nh : Int) < (nh : Int) := by omega
        have HE : Hid (Below w.heap.size w wr ∧ RowIs intR 3 w.heap.size (agaL T bo or) (.slice (some ⟨w4.heap.size, 0, none⟩) nh nh) wr) := Lib.hid ⟨hbel, by
          have h1 : T.hs.length = nh := HNH.out
          unfold agaL
          rw [H0.out, if_pos rfl, h1]
          refine .inr ⟨w4.heap.size, nh, by simp, HBL.out.2.2, by simp, _, hzw, fun i x hx => ?_⟩
          obtain ⟨i', r, y, e, hy, hr⟩ := flat_in (k := 1) (R := intR) (fun _ => rfl) _ i x hx
          have hr0 : r = 0 := by
            rcases r with _ | r
            · rfl
            · simp [intR] at hr
          subst hr0
          obtain rfl : i = i' := by omega
          simp [intR] at hr
          subst hr
          have hin : i < nh := by have := (List.getElem?_eq_some_iff.1 hy).1; simpa using this
          rw [wkA_get _ hin, if_pos hin]
          rw [List.getElem?_map, List.getElem?_range hin] at hy
          simp at hy
          rw [hy]⟩
        clear hbel hlr hzc hzw hao
        go_wp2_with fail
        go_ret2
        exact ⟨_, by rw [H0.out]; rfl, HE.out⟩
  · have HO := Lib.hid h0
    have HZ0 : Hid (agaL T bo or = []) := Lib.hid (by unfold agaL; rw [if_neg h0])
    obtain ⟨r, hr⟩ : ∃ r, ordI T bo or = r := ⟨_, rfl⟩
    have HR := Lib.hid hr
    rw [hr] at h0 ⊢
    clear hb2 v0 v1 hr
    go_wp2_with fail
    go_ret2
    exact ⟨_, by rw [HR.out]; rfl, HB2.out, .inl ⟨HZ0.out, rfl⟩⟩
end Go.Proofs.Ytmppiiamcpjhnaa
