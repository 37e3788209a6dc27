/- Coolers: the fewest coolers that break a house. Coolers: the break of coolers. Coolers: a list is copied. Coolers: all orders of a set: none is left to be put into order. Coolers: all orders of a set: a site is put at the end, taken away again. -/
import Derived.Test.YtmppiiamcpjhnaaCO
namespace Go.Proofs.Ytmppiiamcpjhnaa
open Go.RowKit Go.Shelf
attribute [local go_sem] Oper.semAt_some

/-- The first set after whose failure a house isn't level. -/
def brkO (T : Tn) (s h : Nat) : Option Nat := (setsI (bearsI T h s + 1).toNat 0 s).find? fun x => decide (bearsI T h (dropS s x) < 0)
def brkL (T : Tn) (s h : Nat) : List Int := match brkO T s h with | some x => sitZ (x : Int) | none => []
theorem brk_some {T : Tn} {s h x : Nat} {p rest : List Nat} (he : setsI (bearsI T h s + 1).toNat 0 s = (p ++ [x]) ++ rest) (h0 : ∀ y ∈ p, 0 ≤ bearsI T h (dropS s y)) (hx : bearsI T h (dropS s x) < 0) : brkO T s h = some x := by
  unfold brkO
  rw [he, List.append_assoc]
  exact find_first _ _ _ (fun y hy => by have := h0 y hy; simp only [decide_eq_false_iff_not]; omega) (by simpa using hx)
theorem brk_none {T : Tn} {s h : Nat} (h0 : ∀ y ∈ setsI (bearsI T h s + 1).toNat 0 s, 0 ≤ bearsI T h (dropS s y)) : brkO T s h = none := by
  unfold brkO
  rw [List.find?_eq_none]
  intro y hy
  have := h0 y hy
  simp only [decide_eq_true_eq]
  omega
theorem sets_lt {n : Nat} : ∀ (m ch r : Nat), ch < 2 ^ n → r < 2 ^ n → ∀ x ∈ setsI m ch r, x < 2 ^ n
  | 0, ch, r, hc, _, x, hx => by
    unfold setsI at hx
    rw [List.mem_singleton.1 hx]
    exact hc
  | m + 1, ch, r, hc, hr, x, hx => by
    unfold setsI at hx
    obtain ⟨y, hy, hxy⟩ := List.mem_flatMap.1 hx
    have hyn := testBit_lt hr (mem_sit.1 hy).2
    exact sets_lt m _ _ (Nat.or_lt_two_pow hc (Nat.pow_lt_pow_right (by decide) hyn)) (lt_of_bits fun i hi => by
      rw [above_bit] at hi
      exact testBit_lt hr ((Bool.and_eq_true _ _ ▸ hi : _ ∧ _).1)) x hxy
/-- What holds while sets are gone through. -/
structure BrI (T : Tn) (M s h : Nat) (V : TV) (w : World) (p : List Nat) (W : World) : Prop where
  cw : Cw T M w W
  c : W.heap[w.heap.size]? = some (.cells (coC V s M) 89 (0, 0))
  hb : W.heap[w.heap.size + 1]? = some (.cells #[.int .i64 (h : Int)] 3 (0, 0))
  r : W.heap[w.heap.size + 1 + 1]? = some (.cells #[.slice none 0 0] 26 (0, 0))
  all : ∀ y ∈ p, 0 ≤ bearsI T h (dropS s y)
structure BrX (T : Tn) (M s h : Nat) (w : World) (N : Nat) (c : Code) (p : List Nat) (W : World) : Prop where
  cw : Cw T M w W
  ret : c = .ret
  ex : ∃ x p', p = p' ++ [x] ∧ (∀ y ∈ p', 0 ≤ bearsI T h (dropS s y)) ∧ bearsI T h (dropS s x) < 0 ∧ ∃ v, W.heap[w.heap.size + 1 + 1]? = some (.cells #[v] 26 (0, 0)) ∧ RowIs intR 3 (max N w.heap.size) (sitZ (x : Int)) v W
def b1Cv (B : Nat) (V : TV) (s M h : Nat) (b : Int) (m : Nat) : Tmp → Value
  | 2 => .pointer (some ⟨B, 0, none⟩)
  | 3 => .pointer (some ⟨B + 1, 0, none⟩)
  | 6 => .pointer (some ⟨B, 2, none⟩)
  | 7 => .int .i64 (s : Int)
  | 8 => coV V s M
  | 9 => .int .i64 (h : Int)
  | 10 => .int .i64 b
  | 11 => .int .i64 (m : Int)
  | _ => undef
def b3Cv (B : Nat) (V : TV) (s M h x : Nat) (q : Bool) : Tmp → Value
  | 2 => .pointer (some ⟨B, 0, none⟩)
  | 3 => .pointer (some ⟨B + 1, 0, none⟩)
  | 5 => .int .i64 (x : Int)
  | 14 => coV V s M
  | 15 => .int .i64 (x : Int)
  | 16 => coV V (dropS s x) M
  | 17 => .int .i64 (h : Int)
  | 18 => .bool q
  | 19 => .bool (!q)
  | _ => undef
section
attribute [local irreducible] QT
set_option maxRecDepth 100000 in
set_option maxHeartbeats 8000000 in
theorem breaking_any {w0 w : World} {M : Nat} {V : TV} {T : Tn} (hL : Lw w0 V T M w) {s h : Nat} (hs : s < 2 ^ V.ns) (hh : h < V.nh) :
    Calls Try.prog 53 #[coV V s M, .int .i64 (h : Int)] w fun e w' => ∃ v, e = .returned v ∧ Cw T M w w' ∧ RowIs intR 3 w.heap.size (brkL T s h) v w' := by
  obtain ⟨z0, z1, z2, hb⟩ := three_new w (.cells (coC V s M) 89) (.cells #[.int .i64 (h : Int)] 3) (.cells #[.slice none 0 0] 26)
  obtain ⟨w1, hw1⟩ : ∃ z, ((w.alloc (.cells (coC V s M) 89)).alloc (.cells #[.int .i64 (h : Int)] 3)).alloc (.cells #[.slice none 0 0] 26) = z := ⟨_, rfl⟩
  rw [hw1] at z0 z1 z2 hb
  have hn := hL.ns
  have p10 := pow10 hn.2.1
  have HL1 := Lib.hid (hL.up hb); have HI1 : Hid (BrI T M s h V w [] w1) := Lib.hid ⟨hL.cw0.up hb, z0, z1, z2, fun y hy => by simp at hy⟩
  have HHS := Lib.hid (And.intro hs (And.intro hh hn)); have HW1 := Lib.hid hw1
  have HL := Lib.hid hL
  have hbi := bearsV_in (needI T h) (givL T h s)
  change -1 ≤ bearsI T h s ∧ bearsI T h s ≤ 3 at hbi
  obtain ⟨b, hbe⟩ : ∃ b, bearsI T h s = b := ⟨_, rfl⟩
  obtain ⟨m, hme⟩ : ∃ m, (b + 1).toNat = m := ⟨_, rfl⟩
  have HMB : Hid ((bearsI T h s + 1).toNat = m) := Lib.hid (by rw [hbe]; exact hme)
  rw [hbe] at hbi
  have hbm : b + 1 = (m : Int) := by omega
  have hm4 : m ≤ 4 := by omega
  have hwm : IntKind.i64.wrap (b + 1) = (m : Int) := by rw [IntKind.wrap_i64]; omega
  have HS10 : Hid (s < 2 ^ 10) := Lib.hid (Nat.lt_of_lt_of_le hs p10)
  have HBB := Lib.hid hbe
  obtain ⟨ah, nh, ch, az, ns, cz⟩ := V
  have HBE : Hid (∀ u, Cw T M w1 u → Calls Try.prog 55 #[coV ⟨ah, nh, ch, az, ns, cz⟩ s M, .int .i64 (h : Int)] u fun e u' => e = .returned (.int .i64 b) ∧ Cw T M w1 u') := Lib.hid fun u hu => by
    refine (bears_any (HL1.out.go hu) HHS.out.1 HHS.out.2.1).mono ?_
    rintro e w' ⟨rfl, hg⟩
    exact ⟨by rw [HBB.out], hu.trans hg⟩
  have HC1 : Hid (∀ u, Cw T M w1 u → (u.cell? ⟨w.heap.size, 0, none⟩ = some (.slice ah nh ch) ∧ u.cell? ⟨w.heap.size, 1, none⟩ = some (.slice az ns cz) ∧ u.cell? ⟨w.heap.size, 2, none⟩ = some (.int .i64 (s : Int)) ∧ u.cell? ⟨w.heap.size, 3, none⟩ = some (.map (some M))) ∧ u.cell? ⟨w.heap.size + 1, 0, none⟩ = some (.int .i64 (h : Int))) := Lib.hid fun u hu =>
    ⟨(box4 (hu.cell HI1.out.c (HL1.out.ne HI1.out.c))).1, cell_blk (k := 0) (hu.cell HI1.out.hb (HL1.out.ne HI1.out.hb)) rfl⟩
  have hE97 : ∀ (args : Array Value) (w : World), (callFunc 97 args).run Try.prog w = .ok (.enter 97 args) w := enters_of Try.func97 (by kernel_rfl) rfl
  clear z0 z1 z2 hb hw1 hL hs hh hn hbe hme p10 hbm
  refine callsIn_wide.1 (callsIn_of_wp_marks (n := 5) Try.func53 rfl trivial (wpIn_wide.2 ?_) rfl)
  simp only [Try.ntmps53, List.size_toArray, List.length_cons, List.length_nil, Nat.reduceAdd, Nat.reduceSub, Array.replicate_succ, Array.replicate_zero, List.push_toArray, List.append_toArray, List.nil_append, List.cons_append]
  go_wp2_with fail
  rw [show ((w.alloc (.cells #[.slice ah nh ch, .slice az ns cz, .int .i64 (s : Int), .map (some M)] 89)).alloc (.cells #[.int .i64 (h : Int)] 3)).alloc (.cells #[.slice none 0 0] 26) = w1 from HW1.out]
  apply tail_regionX
  case hs => exact (rfl : _ = [_, _, _, _, _, _] ++ [_])
  case hm => kernel_rfl
  case hT => kernel_rfl
  refine plan_guarded_any (γ := Unit) [2, 3] (fun _ => b1Cv w.heap.size ⟨ah, nh, ch, az, ns, cz⟩ s M h b m) (fun _ _ u => Cw T M w1 u) () (by kernel_rfl) (by kernel_rfl) (by kernel_rfl) (by kernel_rfl) ?_ (HL1.out.cw0.up ((Below.refl w1.heap.size w1).drew)) ?_ ?_
  · intro t ht
    simp only [List.mem_cons, List.not_mem_nil, or_false] at ht
    rcases ht with rfl | rfl <;> rfl
  · refine allOps_array ?_
    refine ⟨?_, ?_, ?_, ?_, ?_, ?_, trivial⟩ <;> intro done g u hS hu hdep _ <;> obtain ⟨⟨p0, p1, p2, p3⟩, p4⟩ := HC1.out u hS
    · exact sameQ (T := fun u => Cw T M w1 u) hS 6 rfl rfl (by simp [go_sem, evalBy, b1Cv])
    · exact sameQ (T := fun u => Cw T M w1 u) hS 7 rfl rfl (by simp [go_sem, evalBy, b1Cv, p2])
    · exact sameQ (T := fun u => Cw T M w1 u) hS 8 rfl rfl (by simp [go_sem, evalBy, b1Cv, p0, p1, p2, p3])
    · exact sameQ (T := fun u => Cw T M w1 u) hS 9 rfl rfl (by simp [go_sem, evalBy, b1Cv, p4])
    · exact sameC (T := fun u => Cw T M w1 u) 10 rfl rfl 55 #[coV ⟨ah, nh, ch, az, ns, cz⟩ s M, .int .i64 (h : Int)] (by simp [go_sem, evalBy, b1Cv]) (HBE.out u hS)
    · exact sameQ (T := fun u => Cw T M w1 u) hS 11 rfl rfl (by simp [go_sem, evalBy, b1Cv, hwm])
  · intro g w2 hS
    have HI2 : Hid (BrI T M s h ⟨ah, nh, ch, az, ns, cz⟩ w [] w2) := Lib.hid ⟨HI1.out.cw.trans hS, hS.cell HI1.out.c (HL1.out.ne HI1.out.c), hS.cell HI1.out.hb (HL1.out.ne HI1.out.hb), hS.cell HI1.out.r (HL1.out.ne HI1.out.r), fun y hy => by simp at hy⟩
    clear hS
    simp only [QT]
    unfold Oper.wp
    simp [go_sem, putAll, Act.put, b1Cv]
    refine (setsOf_any s m w2).mono ?_
    rintro e w3 ⟨rfl, hw3⟩
    obtain ⟨y0, y1, hb3⟩ := two_new w2 (.cells #[.int .i64 (s : Int)] 3) (.cells #[.int .i64 (m : Int)] 3)
    rw [hw3] at y0 y1 hb3
    have HSQ := Lib.hid (sets_seq (5 - 1) y0 y1 HS10.out (by omega))
    have HI3 : Hid (BrI T M s h ⟨ah, nh, ch, az, ns, cz⟩ w [] w3) := Lib.hid ⟨HI2.out.cw.up hb3, (hb3.block _ (heapsz HI2.out.c)).trans HI2.out.c, (hb3.block _ (heapsz HI2.out.hb)).trans HI2.out.hb, (hb3.block _ (heapsz HI2.out.r)).trans HI2.out.r, fun y hy => by simp at hy⟩
    have HZ3 : Hid (w.heap.size + 3 ≤ w3.heap.size ∧ M < w.heap.size) := Lib.hid ⟨by have := heapsz HI3.out.r; omega, HI3.out.cw.lt⟩
    clear y0 y1 hb3 hw3
    go_wp2_with fail
    refine (wpIn_wide (n := 5)).1 ?_
    refine wpIn_range_freeS (n := 5) (by decide) (gf := 97) (lb := #[.pointer (some ⟨w2.heap.size, 0, none⟩), .pointer (some ⟨w2.heap.size + 1, 0, none⟩)]) rfl hE97 HSQ.out (fun _ _ _ _ _ _ _ _ _ => trivial) (fun _ => rfl)
      (fun p W => BrI T M s h ⟨ah, nh, ch, az, ns, cz⟩ w (p.map Subtype.val) W) (fun N c p W => BrX T M s h w N c (p.map Subtype.val) W)
      (fun p A B hI hA hb => by
        have hz := HZ3.out
        exact ⟨hI.cw.low (n := w3.heap.size) (by omega) hb, (hb.block _ (by omega)).trans hI.c, (hb.block _ (by omega)).trans hI.hb, (hb.block _ (by omega)).trans hI.r, hI.all⟩)
      (fun N c p A B hI hA hb => by
        have hz := HZ3.out
        obtain ⟨x, p', h1, h2, h3, v, h4, h5⟩ := hI.ex
        exact ⟨hI.cw.low (n := w3.heap.size) (by omega) hb.bel, hI.ret, x, p', h1, h2, h3, v, (hb.bel.block _ (by omega)).trans h4, h5.keep fun b cs hN hc => hb.cel b cs _ _ (by omega) hc⟩)
      HI3.out
      (fun x => { tmps := List.toArray ((coV ⟨ah, nh, ch, az, ns, cz⟩ s M) :: (Value.int .i64 (h : Int)) :: (Value.pointer (some ⟨w.heap.size, 0, none⟩)) :: (Value.pointer (some ⟨w.heap.size + 1, 0, none⟩)) :: (Value.pointer (some ⟨w.heap.size + 1 + 1, 0, none⟩)) :: (Value.int .i64 (x.1 : Int)) :: (Value.pointer (some ⟨w.heap.size, 2, none⟩)) :: (Value.int .i64 (s : Int)) :: (coV ⟨ah, nh, ch, az, ns, cz⟩ s M) :: (Value.int .i64 (h : Int)) :: (Value.int .i64 b) :: (Value.int .i64 (m : Int)) :: (Value.func (.func 97) #[] #[.pointer (some ⟨w2.heap.size, 0, none⟩), .pointer (some ⟨w2.heap.size + 1, 0, none⟩)]) :: (Value.int .i64 (x.1 : Int)) :: undef :: undef :: undef :: undef :: undef :: undef :: undef :: undef :: undef :: undef :: []), defers := [] }) ?assign ?body ?done ?stop
    case assign =>
      intro l x Wt Kk hK
      gi_wp2
      exact hK
    case body =>
      rintro l N p ⟨x, hx10⟩ Wt hsz hNW _ hI
      have fol : Try.prog.follows .mixedOrders = true := by kernel_rfl
      have hz := HZ3.out
      have HI := Lib.hid hI; have HWS := Lib.hid hsz
      have HLW := Lib.hid (HL.out.go hI.cw)
      have HC3 : Hid (∀ u, Cw T M Wt u → (u.cell? ⟨w.heap.size, 0, none⟩ = some (.slice ah nh ch) ∧ u.cell? ⟨w.heap.size, 1, none⟩ = some (.slice az ns cz) ∧ u.cell? ⟨w.heap.size, 2, none⟩ = some (.int .i64 (s : Int)) ∧ u.cell? ⟨w.heap.size, 3, none⟩ = some (.map (some M))) ∧ u.cell? ⟨w.heap.size + 1, 0, none⟩ = some (.int .i64 (h : Int))) := Lib.hid fun u hu =>
        ⟨(box4 (hu.cell HI.out.c (HLW.out.ne HI.out.c))).1, cell_blk (k := 0) (hu.cell HI.out.hb (HLW.out.ne HI.out.hb)) rfl⟩
      have HWO : Hid (∀ u, Cw T M Wt u → Calls Try.prog 81 #[coV ⟨ah, nh, ch, az, ns, cz⟩ s M, .int .i64 (x : Int)] u fun e u' => e = .returned (coV ⟨ah, nh, ch, az, ns, cz⟩ (dropS s x) M) ∧ Cw T M Wt u') := Lib.hid fun u hu => by
        refine (without_any ⟨ah, nh, ch, az, ns, cz⟩ s M x u HS10.out hx10).mono ?_
        rintro e w' ⟨rfl, hb⟩
        exact ⟨rfl, hu.up hb⟩
      obtain ⟨d, hd⟩ : ∃ d, bearsI T h (dropS s x) = d := ⟨_, rfl⟩
      have HSU : Hid (∀ u, Cw T M Wt u → Calls Try.prog 82 #[coV ⟨ah, nh, ch, az, ns, cz⟩ (dropS s x) M, .int .i64 (h : Int)] u fun e u' => e = .returned (.bool (decide (0 ≤ d))) ∧ Cw T M Wt u') := Lib.hid fun u hu => by
        refine (surely_any (HLW.out.go hu) (dropS_lt HHS.out.1) HHS.out.2.1).mono ?_
        rintro e w' ⟨rfl, hg⟩
        exact ⟨by rw [hd], hu.trans hg⟩
      have HDD := Lib.hid hd
      obtain ⟨q, hq⟩ : ∃ q, decide (0 ≤ d) = q := ⟨_, rfl⟩
      rw [hq] at HSU
      have HQ := Lib.hid hq
      clear hI hsz hz hd hq
      dsimp only
      gi_wp2
      refine wpIn_region_any fol (wpAnyIn_round_of_wpAny (by kernel_rfl) (by rintro ⟨_, _, hq⟩; exact hq) _ _ _ _ ?_)
      refine plan_guarded_any (γ := Unit) [2, 3, 5] (fun _ => b3Cv w.heap.size ⟨ah, nh, ch, az, ns, cz⟩ s M h x q) (fun _ _ u => Cw T M Wt u) () (by kernel_rfl) (by kernel_rfl) (by kernel_rfl) (by kernel_rfl) ?_ (HLW.out.cw0.up ((Below.refl Wt.heap.size Wt).drew)) ?_ ?_
      · intro t ht
        simp only [List.mem_cons, List.not_mem_nil, or_false] at ht
        rcases ht with rfl | rfl | rfl <;> rfl
      · refine allOps_array ?_
        refine ⟨?_, ?_, ?_, ?_, ?_, ?_, trivial⟩ <;> intro done g u hS hu hdep _ <;> obtain ⟨⟨p0, p1, p2, p3⟩, p4⟩ := HC3.out u hS
        · exact sameQ (T := fun u => Cw T M Wt u) hS 14 rfl rfl (by simp [go_sem, evalBy, b3Cv, p0, p1, p2, p3])
        · exact sameQ (T := fun u => Cw T M Wt u) hS 15 rfl rfl (by simp [go_sem, evalBy, b3Cv])
        · exact sameC (T := fun u => Cw T M Wt u) 16 rfl rfl 81 #[coV ⟨ah, nh, ch, az, ns, cz⟩ s M, .int .i64 (x : Int)] (by simp [go_sem, evalBy, b3Cv]) (HWO.out u hS)
        · exact sameQ (T := fun u => Cw T M Wt u) hS 17 rfl rfl (by simp [go_sem, evalBy, b3Cv, p4])
        · exact sameC (T := fun u => Cw T M Wt u) 18 rfl rfl 82 #[coV ⟨ah, nh, ch, az, ns, cz⟩ (dropS s x) M, .int .i64 (h : Int)] (by simp [go_sem, evalBy, b3Cv]) (HSU.out u hS)
        · exact sameQ (T := fun u => Cw T M Wt u) hS 19 rfl rfl (by simp [go_sem, evalBy, b3Cv])
      · intro g u hS
        have HG := Lib.hid hS
        clear hS
        simp [putAll, Act.put, b3Cv]
        have HKF : Hid (KeepsFrom w3.heap.size Wt u ∧ KpN (w3.heap.size + 1 + 1) Wt u ∧ BrI T M s h ⟨ah, nh, ch, az, ns, cz⟩ w (p.map Subtype.val) u) := Lib.hid (by
          have hz := HZ3.out
          have hws := HWS.out
          refine ⟨⟨HG.out.gr.size, fun k o hk ho _ => (HG.out.gr.block k (heapszO ho) (fun e => by injection e with e; omega)).trans ho⟩, ⟨HG.out.bel (Nat.zero_le _), fun k hk hlt => HG.out.gr.block k hlt (fun e => by injection e with e; omega)⟩, HI.out.cw.trans HG.out, HG.out.cell HI.out.c (HLW.out.ne HI.out.c), HG.out.cell HI.out.hb (HLW.out.ne HI.out.hb), HG.out.cell HI.out.r (HLW.out.ne HI.out.r), HI.out.all⟩)
        cases q with
        | true =>
          have h0 : 0 ≤ d := of_decide_eq_true HQ.out
          gi_wp2
          obtain ⟨k1, k2, k3⟩ := HKF.out
          refine ⟨k1, k2, k3.cw, k3.c, k3.hb, k3.r, fun y hy => ?_⟩
          rw [List.map_append] at hy
          rcases List.mem_append.1 hy with hy | hy
          · exact k3.all y hy
          · rw [List.mem_singleton.1 hy, HDD.out]
            exact h0
        | false =>
          have h0' : d < 0 := by have := of_decide_eq_false HQ.out; omega
          obtain ⟨⟨p0, p1, p2, p3⟩, p4⟩ := HC3.out u HG.out
          have hzr := HKF.out.2.2.r
          have hwi : Calls Try.prog 83 #[coV ⟨ah, nh, ch, az, ns, cz⟩ s M, .int .i64 (x : Int)] u fun e u3 => e = .returned (coV ⟨ah, nh, ch, az, ns, cz⟩ x M) ∧ Below u.heap.size u u3 := with_any ⟨ah, nh, ch, az, ns, cz⟩ s M x u
          have HWI := Lib.hid hwi; have HZR := Lib.hid hzr
          clear hwi hzr
          gi_wp2_with fail
          refine ⟨trivial, CallsIn.inRound l (callsIn_wide.2 (HWI.out.mono ?_))⟩
          rintro e u3 ⟨rfl, hb3⟩
          have HB3 := Lib.hid hb3
          clear p0 p1 p2 p3 p4 hb3
          gi_wp2_with fail
          refine ⟨trivial, CallsIn.inRound l (callsIn_wide.2 ((list_any ⟨ah, nh, ch, az, ns, cz⟩ x M u3).mono ?_))⟩
          rintro e u4 ⟨v, rfl, hb4, hv⟩
          have hrow := (RowIs.of_own (R := intR) hv)
          obtain ⟨A, c, rfl, _⟩ := ints_of_own hv rfl
          have hb34 := HB3.out.trans (hb4.mono HB3.out.size)
          have hz4 := (hb34.block _ (heapsz HZR.out)).trans HZR.out
          have c4 := cell_blk (k := 0) hz4 rfl
          have f4 : u4.frozen? ⟨w.heap.size + 1 + 1, 0, none⟩ = false := by simp [World.frozen?, hz4]
          have HR4 := Lib.hid hrow; have HB34 := Lib.hid hb34; have HZ4 := Lib.hid hz4
          clear hv hb4 hrow hb34 hz4
          gi_wp2
          have hz := HZ3.out
          have hws := HWS.out
          obtain ⟨k1, k2, k3⟩ := HKF.out
          have hsb := HB3.out.size
          have hguz := HG.out.gr.size
          have hsx : ∀ b, b ≠ w.heap.size + 1 + 1 → (u4.setCell ⟨w.heap.size + 1 + 1, 0, none⟩ (.slice A (sitZ (x : Int)).length c)).heap[b]? = u4.heap[b]? := fun b hb => Below.heap_setCell _ _ _ _ hb
          have hkn : KpN (w3.heap.size + 1 + 1) Wt (u4.setCell ⟨w.heap.size + 1 + 1, 0, none⟩ (.slice A (sitZ (x : Int)).length c)) := by
            refine (k2.trans (KpN.of_below HB34.out)).trans ⟨(Below.refl 0 u4).setCell (p := ⟨w.heap.size + 1 + 1, 0, none⟩) (Nat.zero_le _) _, fun k h1 h2 => hsx k (by omega)⟩
          refine ⟨(k1.trans ((ko_below HB34.out).from _)).trans ((KeepsOthers.setCell _ _ _).from _), hkn, (k3.cw.up HB34.out).put _ (by omega), rfl, x, p.map Subtype.val, by rw [List.map_append]; rfl, k3.all, by rw [HDD.out]; exact h0', _, blk_set HZ4.out 0 _, ?_⟩
          exact (HR4.out.keep fun b cs hN hc => (hsx b (by omega)).trans hc).low (by omega)
    case done =>
      rintro D ys Wt hD hys hI hK
      have HM : Hid (Marks Wt w3.heap.size [D]) := Lib.hid ⟨by simp, fun E hE => by rw [List.mem_singleton.1 hE]; exact ⟨hD, hK⟩⟩
      rw [hys] at hI
      have hbr : brkL T s h = [] := by
        unfold brkL
        rw [brk_none (by rw [HMB.out]; exact hI.all)]
      have c4 := cell_blk (k := 0) hI.r rfl
      have f4 : Wt.frozen? ⟨w.heap.size + 1 + 1, 0, none⟩ = false := by simp [World.frozen?, hI.r]
      have HI := Lib.hid hI; have HBR := Lib.hid hbr; have HDK := Lib.hid hK
      clear hI hK hys hbr
      simp only [Exit.inBlock, Exit.then]
      go_wp2_with fail
      have hz := HZ3.out
      have hDne : D ≠ w.heap.size + 1 + 1 := by omega
      refine leaves_marks [D] _ (B := w3.heap.size) ⟨by simp, fun E hE => by rw [List.mem_singleton.1 hE]; exact ⟨hD, (Below.heap_setCell _ _ _ _ hDne).trans HDK.out⟩⟩ (fun w' hk => ?_)
      have h9 := cell_blk (k := 0) (hk.2 _ _ _ _ (blk_set HI.out.r 0 (.slice none 0 0))) rfl
      exact ⟨.slice none 0 0, by simp [results, Try.results53, go_sem, h9], .slice none 0 0, rfl, (HI.out.cw.put _ (by omega)).low (n := w3.heap.size) (by omega) hk.1, .inl ⟨HBR.out, rfl⟩⟩
    case stop =>
      rintro D N c p Wt hD ⟨rest, hsp, _⟩ hX hK
      have HM : Hid (Marks Wt w3.heap.size [D]) := Lib.hid ⟨by simp, fun E hE => by rw [List.mem_singleton.1 hE]; exact ⟨hD, hK⟩⟩
      obtain ⟨hcw, rfl, x, p', h1, h2, h3, v, h4, h5⟩ := hX
      have hbr : brkL T s h = sitZ (x : Int) := by
        unfold brkL
        rw [brk_some (p := p') (x := x) (rest := rest) (by rw [HMB.out, hsp, h1]) h2 h3]
      have HE := Lib.hid (And.intro hcw (And.intro h4 (And.intro (h5.low (Nat.le_max_right _ _)) hbr)))
      clear hcw h1 h2 h3 h4 h5 hK hsp hbr
      simp only []
      refine (wpIn_wide (n := 5)).2 ?_
      go_wp2_with fail
      refine leaves_marks [D] Wt HM.out (fun w' hk => ?_)
      have hz := HZ3.out
      have h9 := cell_blk (k := 0) (hk.2 _ _ _ _ HE.out.2.1) rfl
      exact ⟨v, by simp [results, Try.results53, go_sem, h9], v, rfl, HE.out.1.low (n := w3.heap.size) (by omega) hk.1, by rw [HE.out.2.2.2]; exact HE.out.2.2.1.keep fun b cs _ hc => hk.2 b cs _ _ hc⟩
end
end Go.Proofs.Ytmppiiamcpjhnaa

namespace Go.Proofs.Ytmppiiamcpjhnaa
open Go.RowKit Go.Shelf

def brU (T : Tn) (cs : List Int) (f : Int) : Option Nat := unevenI T T.hs.length (setI cs) f
def brH (T : Tn) (cs : List Int) (f : Int) : Int := if failI T cs f = 0 then (match brU T cs f with | some h => (h : Int) | none => 0) else 0
def brL (T : Tn) (cs : List Int) (f : Int) : List Int := if failI T cs f = 0 then (match brU T cs f with | some h => brkL T (setI cs) h | none => []) else []
def brE (T : Tn) (cs : List Int) (f : Int) : Int := if failI T cs f = 0 then (match brU T cs f with | some _ => 0 | none => 6) else 2
set_option maxRecDepth 100000 in
set_option maxHeartbeats 4000000 in
theorem Break_any (V : TV) (T : Tn) (A : Option Addr) (n c : Nat) (cs : List Int) (f : Int) (w : World) (hN : TnAt w w.heap.size V T) (hl : cs.length = n) (hn : n ≤ maxLen) (hA : IntsAt w w.heap.size A cs) :
    Calls Try.prog 17 #[tvV V, .slice A n c, .int .i64 f] w fun e w' => ∃ v, e = .returned (.tuple #[.int .i64 (brH T cs f), v, .int .i64 (brE T cs f)]) ∧ Below w.heap.size w w' ∧ RowIs intR 3 w.heap.size (brL T cs f) v w' := by
  have z := heap_alloc_new w (.cells (tvC V) 25)
  have hb := (Below.refl w.heap.size w).alloc (Nat.le_refl _) (.cells (tvC V) 25)
  obtain ⟨w1, hw1⟩ : ∃ z, w.alloc (.cells (tvC V) 25) = z := ⟨_, rfl⟩
  rw [hw1] at z hb
  have HF := Lib.hid (checkFails_any V T A n c cs f w1 (hN.up hb) hl hn (RowAt.up hA hb))
  have HLK := Lib.hid (fun (u : World) (hu : Below w1.heap.size w1 u) (hK : TnOk T) (hC : coolB T cs = true) => lookL_any V T A n c cs u ((hN.up hb).next hu hu.size) hK hC hl hn ((RowAt.up hA hb).next hu hu.size))
  have HNS := Lib.hid hN.ns; have HNH := Lib.hid hN.nh
  have HW := Lib.hid hw1; have HB := Lib.hid hb; have HZ := Lib.hid z
  obtain ⟨ah, nh, ch, az, ns, cz⟩ := V
  obtain ⟨v0, v1⟩ := box2 z
  clear z hb hw1 hN hl hn hA
  go_enter Try.func17, Try.ntmps17
  go_wp2_with fail
  rw [show w.alloc (.cells #[.slice ah nh ch, .slice az ns cz] 25) = w1 from HW.out]
  go_wp2_with fail
  refine HF.out.mono ?_
  rintro e w2 ⟨rfl, hb2⟩
  have HB2 := Lib.hid (HB.out.trans (hb2.mono HB.out.size))
  rcases fail_cases T cs f with h2 | ⟨h0, hc0, hf⟩
  · have H2 := Lib.hid h2
    rw [h2]
    clear hb2 v0 v1 h2
    go_wp2_with fail
    refine bodyPost_ret (v := .tuple #[.int .i64 0, .slice none 0 0, .int .i64 2]) (by simp [results, Try.results17, go_sem]) rfl ?_
    exact ⟨.slice none 0 0, by unfold brH brE; rw [H2.out]; rfl, HB2.out, .inl ⟨by unfold brL; rw [H2.out]; rfl, rfl⟩⟩
  · have H0 := Lib.hid h0
    obtain ⟨hK, hC⟩ := town_ok hc0
    have HL := Lib.hid (HLK.out w2 hb2 hK hC)
    obtain ⟨y0, y1⟩ := box2 ((hb2.block _ (heapsz HZ.out)).trans HZ.out)
    have HS : Hid (setI cs < 2 ^ ns) := Lib.hid (by have h1 : T.ss.length = ns := HNS.out; rw [← h1]; exact setI_lt hC)
    have HNH' : Hid (T.hs.length = nh) := Lib.hid HNH.out
    rw [h0]
    clear hb2 v0 v1 h0 hc0 hf hK hC
    go_wp2_with fail
    refine HL.out.mono ?_
    rintro e w3 ⟨M, rfl, hlw⟩
    have z4 := heap_alloc_new w3 (.cells (coC ⟨ah, nh, ch, az, ns, cz⟩ (setI cs) M) 89)
    have hb4 := (Below.refl w3.heap.size w3).alloc (Nat.le_refl _) (.cells (coC ⟨ah, nh, ch, az, ns, cz⟩ (setI cs) M) 89)
    obtain ⟨w4, hw4⟩ : ∃ z, w3.alloc (.cells (coC ⟨ah, nh, ch, az, ns, cz⟩ (setI cs) M) 89) = z := ⟨_, rfl⟩
    rw [hw4] at z4 hb4
    have HFU := Lib.hid (first_any (hlw.up hb4) (s := setI cs) f HS.out)
    have HBL := Lib.hid (And.intro (hlw.bel.trans (hb4.mono hlw.bel.size)) hlw.lt)
    have HL4 := Lib.hid (hlw.up hb4); have HZ4 := Lib.hid z4
    obtain ⟨⟨p0, p1, p2, p3⟩, _⟩ := box4 z4
    simp only at p0 p1 p2 p3
    clear hlw y0 y1 z4 hb4
    go_wp2_with fail
    clear hw4 p0 p1 p2 p3
    refine HFU.out.mono ?_
    rintro e w5 ⟨rfl, hg⟩
    have HE : Hid (Below w.heap.size w w5) := Lib.hid ((HB2.out.trans (HBL.out.1.mono HB2.out.size)).trans ((hg.bel HBL.out.2).mono HB2.out.size))
    have HG := Lib.hid hg
    unfold unevenV
    cases hu : unevenI T nh (setI cs) f with
    | none =>
      have HU : Hid (brU T cs f = none) := Lib.hid (by unfold brU; rw [HNH'.out]; exact hu)
      clear hg hu
      simp only [Option.getD_none, Option.isSome_none]
      go_wp2_with fail
      refine bodyPost_ret (v := .tuple #[.int .i64 0, .slice none 0 0, .int .i64 6]) (by simp [results, Try.results17, go_sem]) rfl ?_
      exact ⟨.slice none 0 0, by unfold brH brE; rw [H0.out, HU.out]; rfl, HE.out, .inl ⟨by unfold brL; rw [H0.out, HU.out]; rfl, rfl⟩⟩
    | some k =>
      have HU : Hid (brU T cs f = some k) := Lib.hid (by unfold brU; rw [HNH'.out]; exact hu)
      have HBK := Lib.hid (breaking_any (HL4.out.go hg) (s := setI cs) (h := k) HS.out (uneven_iff hu).1)
      obtain ⟨⟨p0, p1, p2, p3⟩, _⟩ := box4 (hg.cell HZ4.out (HL4.out.ne HZ4.out))
      simp only at p0 p1 p2 p3
      clear hg hu
      simp only [Option.getD_some, Option.isSome_some]
      go_wp2_with fail
      refine HBK.out.mono ?_
      rintro e w6 ⟨v, rfl, hg6, hr⟩
      have HE6 : Hid (Below w.heap.size w w6 ∧ RowIs intR 3 w.heap.size (brkL T (setI cs) k) v w6) := Lib.hid ⟨HE.out.trans ((hg6.bel (Nat.le_trans HB2.out.size HBL.out.2))), hr.low HE.out.size⟩
      clear hg6 hr p0 p1 p2 p3
      go_wp2_with fail
      refine bodyPost_ret (v := .tuple #[.int .i64 (k : Int), v, .int .i64 0]) (by simp [results, Try.results17, go_sem]) rfl ?_
      exact ⟨v, by unfold brH brE; rw [H0.out, HU.out]; rfl, HE6.out.1, by unfold brL; rw [H0.out, HU.out]; exact HE6.out.2⟩
end Go.Proofs.Ytmppiiamcpjhnaa

namespace Go.Proofs.Ytmppiiamcpjhnaa
open Go.RowKit Go.Shelf

theorem eql_nilS (a : Option Addr) (n c : Nat) (w : World) : Sem.run Try.prog (binOp .eql 26 (.slice a n c) (.slice none 0 0)) w = .ok (.bool (a == none)) w := by
  cases a <;> simp [binOp, run_equal_slice_nil w 26 3 _ n c Try.underlying26]
set_option maxRecDepth 100000 in
set_option maxHeartbeats 4000000 in
theorem clone_nil (w : World) : Calls Try.prog 110 #[.slice none 0 0] w fun e w' => e = .returned (.slice none 0 0) ∧ w = w' := by
  have hq := eql_nilS none 0 0 w
  go_enter Try.func110, Try.ntmps110
  go_wp2_with fail
  go_ret
  exact ⟨rfl, rfl⟩
set_option maxRecDepth 100000 in
set_option maxHeartbeats 4000000 in
theorem clone_some {g n c : Nat} {xs : List Int} {cur : Array Value} {w : World} (hg : w.heap[g]? = some (.cells cur 3 (0, 0))) (hl : xs.length = n) (hn : n ≤ 100) (hx : ∀ (i : Nat) (v : Value), (flatR intR xs)[i]? = some v → cur[i]? = some v) :
    Calls Try.prog 110 #[.slice (some ⟨g, 0, none⟩) n c] w fun e w' => ∃ v, e = .returned v ∧ Below w.heap.size w w' ∧ RowIs intR 3 w.heap.size xs v w' := by
  have HG := Lib.hid hg; have HX := Lib.hid hx; have HL := Lib.hid hl
  obtain ⟨i0, hi0, hz0, hz1, hz2⟩ := info_parts int_info
  have HSRC : Hid (∀ (W : World), Below w.heap.size w W → ∀ (j : Nat) (v : Value), (flatR intR xs)[j]? = some v → W.cell? ((⟨g, 0, none⟩ : Addr).add j) = some v) := Lib.hid fun W hW j v hv => by
    rw [addr_add, Nat.zero_add]
    exact cell_blk ((hW.block _ (heapsz HG.out)).trans HG.out) (HX.out j v hv)
  have hone : ∀ v ∈ flatR intR xs, v.oneCell' = true := fun v hv => by
    obtain ⟨i, hi⟩ := List.getElem?_of_mem hv
    obtain ⟨i', r, y, e, hy, hr⟩ := flat_in (k := 1) (R := intR) (fun _ => rfl) xs i v hi
    rcases r with _ | r
    · simp [intR] at hr
      subst hr
      rfl
    · simp [intR] at hr
  have HONE := Lib.hid hone
  have hlf : (flatR intR xs).length = n := by rw [flat1_len]; exact hl
  have HLF := Lib.hid hlf
  have own0 : (w.alloc (.cells #[] 3)).ownsRow w.heap.size 3 1 (.slice (some ⟨w.heap.size, 0, none⟩) 0 0) 0 [] := ⟨rfl, .inr ⟨w.heap.size, 0, #[], rfl, Nat.le_refl _, heap_alloc_new w _, Nat.le_refl _, Nat.zero_le _, rfl, rfl⟩⟩
  have HB := Lib.hid ((Below.refl w.heap.size w).alloc (Nat.le_refl _) (.cells #[] 3))
  have hq := eql_nilS (some ⟨g, 0, none⟩) n c w
  clear hg hl hx hone hlf
  go_enter Try.func110, Try.ntmps110
  go_wp2_with (first
    | (at_builtin
       refine wpList_append_own _ rfl _ _ 26 rfl w.heap.size 3 i0 _ 1 8 Try.underlying26 hi0 hz0 hz1 hz2 rfl (by decide) _ _ _ rfl own0 ⟨g, 0, none⟩ n c (flatR intR xs) rfl (by rw [HLF.out, Nat.mul_one]) (fun j u hu => HSRC.out _ HB.out j u hu) HONE.out (by unfold maxLen; omega) (by omega) (by simp) ?_
       intro v' w4 hown4 hgrow4 hnil4)
    | fail)
  go_ret
  refine ⟨_, rfl, ?_, ?_⟩
  · exact HB.out.grown hgrow4 HB.out.size (fun k e => by cases e; exact Nat.le_refl _)
  · have e : 0 + n = xs.length := by rw [Nat.zero_add, HL.out]
    rw [e] at hown4
    exact RowIs.of_own (by simpa using hown4)
theorem clone_any {n0 : Nat} {v : Value} {xs : List Int} {w : World} (h : w.ownsRow n0 3 1 v xs.length (flatR intR xs)) (hl : xs.length ≤ 100) :
    Calls Try.prog 110 #[v] w fun e w' => ∃ v', e = .returned v' ∧ Below w.heap.size w w' ∧ RowIs intR 3 w.heap.size xs v' w' := by
  rcases h.2 with ⟨h1, h2⟩ | ⟨g, cap, cur, h1, h2, h3, h4, _, _, h6⟩
  · subst h1
    refine (clone_nil w).mono ?_
    rintro e w' ⟨rfl, rfl⟩
    exact ⟨_, rfl, Below.refl _ _, .inl ⟨List.eq_nil_of_length_eq_zero h2, rfl⟩⟩
  · subst h1
    exact clone_some h3 rfl hl fun i x hx => by
      rw [← h6, List.getElem?_take] at hx
      split at hx
      · simpa using hx
      · simp at hx
end Go.Proofs.Ytmppiiamcpjhnaa

namespace Go.Proofs.Ytmppiiamcpjhnaa
open Go.RowKit Go.Shelf
attribute [local go_sem] Oper.semAt_some

/-- All orders of a set of at most so many sites. -/
def ordsF : Nat → Nat → List (List Int)
  | 0, _ => [[]]
  | m + 1, r => if r = 0 then [[]] else (sitL (r : Int)).flatMap fun x => (ordsF m (dropS r (2 ^ x))).map fun o => Int.ofNat x :: o
/-- All from n0 on stays, but for the order's box and the order's cells. -/
structure KpO (n0 ob : Nat) (rb : Option Nat) (A B : World) : Prop where
  b0 : Below 0 A B
  same : ∀ k, n0 ≤ k → k < A.heap.size → k ≠ ob → rb ≠ some k → B.heap[k]? = A.heap[k]?
theorem KpO.of_kp {n0 ob : Nat} {rb : Option Nat} {A B : World} (h : KpN n0 A B) : KpO n0 ob rb A B := ⟨h.b0, fun k h1 h2 _ _ => h.same k h1 h2⟩
theorem KpO.trans {n0 ob : Nat} {rb rb' : Option Nat} {A B C : World} (h : KpO n0 ob rb A B) (k : KpO n0 ob rb' B C) (hr : rb' = rb ∨ ∃ g, rb' = some g ∧ A.heap.size ≤ g) : KpO n0 ob rb A C :=
  ⟨h.b0.trans k.b0, fun i h1 h2 h3 h4 => (k.same i h1 (Nat.lt_of_lt_of_le h2 h.b0.size) h3 (by
    rcases hr with rfl | ⟨g, rfl, hg⟩
    · exact h4
    · intro e
      injection e with e
      omega)).trans (h.same i h1 h2 h3 h4)⟩
structure AddW (l n0 yb ob ab : Nat) (v : Value) (W : World) : Prop where
  y : W.heap[yb]? = some (.cells #[.func (.yield l) #[] #[]] 132 (0, 0))
  o : W.heap[ob]? = some (.cells #[v] 26 (0, 0))
  a : W.heap[ab]? = some (.cells #[.func (.func 109) #[] #[.pointer (some ⟨yb, 0, none⟩), .pointer (some ⟨ob, 0, none⟩), .pointer (some ⟨ab, 0, none⟩)]] 39 (0, 0))
  ly : n0 ≤ yb
  lo : n0 ≤ ob
  la : n0 ≤ ab
theorem AddW.kp {l n0 yb ob ab : Nat} {v : Value} {W W' : World} (h : AddW l n0 yb ob ab v W) (k : KpN n0 W W') : AddW l n0 yb ob ab v W' :=
  ⟨(k.same _ h.ly (heapsz h.y)).trans h.y, (k.same _ h.lo (heapsz h.o)).trans h.o, (k.same _ h.la (heapsz h.a)).trans h.a, h.ly, h.lo, h.la⟩
/-- The order's cells. -/
def OwnO (n0 : Nat) (v : Value) (xs : List Int) (W : World) : Prop := W.ownsRow n0 3 1 v xs.length (flatR intR xs)
theorem OwnO.kp {n0 : Nat} {v : Value} {xs : List Int} {W W' : World} (h : OwnO n0 v xs W) (k : KpN n0 W W') : OwnO n0 v xs W' :=
  own_of_blocks h fun B hB => by
    obtain ⟨h1, cur, h2⟩ := own_at h hB
    exact k.same _ h1 (heapsz h2)
/-- What add hands over. -/
def AddC (G : List Int → Prop) (l n0 yb ob ab : Nat) (J : List (List Int) → World → Prop) (Jx : Nat → List (List Int) → World → Prop) (m : Nat) : Prop :=
  ∀ (W : World) (pre : List (List Int)) (ord : List Int) (v : Value) (r : Nat), r < 2 ^ 10 → (sitL (r : Int)).length ≤ m → ord.length + m ≤ 100 → (∀ o ∈ ordsF m r, G (ord ++ o)) → J pre W → AddW l n0 yb ob ab v W → OwnO n0 v ord W →
    Calls Try.prog 109 #[.int .i64 (r : Int), .pointer (some ⟨yb, 0, none⟩), .pointer (some ⟨ob, 0, none⟩), .pointer (some ⟨ab, 0, none⟩)] W fun e W' => KpO n0 ob v.ownBlock W W' ∧
      ((e = .returned (.bool true) ∧ J (pre ++ (ordsF m r).map fun o => ord ++ o) W' ∧ ∃ v', AddW l n0 yb ob ab v' W' ∧ OwnO n0 v' ord W' ∧ (v'.ownBlock = v.ownBlock ∨ ∃ g, v'.ownBlock = some g ∧ W.heap.size ≤ g)) ∨
       (e = .returned (.bool false) ∧ ∃ N q rest, W.heap.size ≤ N ∧ ((ordsF m r).map fun o => ord ++ o) = q ++ rest ∧ q ≠ [] ∧ Jx N (pre ++ q) W'))
theorem ords_zero (m : Nat) : ordsF m 0 = [[]] := by cases m <;> simp [ordsF]
set_option maxRecDepth 100000 in
set_option maxHeartbeats 4000000 in
theorem add_zero {G : List Int → Prop} {l n0 yb ob ab n : Nat} {J : List (List Int) → World → Prop} {Jx : Nat → List (List Int) → World → Prop} (hJ : ∀ s A B, J s A → Below n0 A B → J s B) (hJx : ∀ N s A B, Jx N s A → StabX n0 N A B → Jx N s B)
    (hY : ∀ (N : Nat) (pre : List (List Int)) (x : Value × List Int) W1, N ≤ W1.heap.size → n0 ≤ N → RowIs intR 3 N x.2 x.1 W1 → G x.2 → J pre W1 → YieldAt Fence.wide (n - 1) Try.prog l #[x.1] W1 fun e W' => KpN n0 W1 W' ∧ ((e = .returned (.bool true) ∧ J (pre ++ [x.2]) W') ∨ (e = .returned (.bool false) ∧ Jx N (pre ++ [x.2]) W')))
    (w : World) (pre : List (List Int)) (ord : List Int) (v : Value) (hl : ord.length ≤ 100) (hG : G ord) (hj : J pre w) (hC : AddW l n0 yb ob ab v w) (hO : OwnO n0 v ord w) :
    Calls Try.prog 109 #[.int .i64 0, .pointer (some ⟨yb, 0, none⟩), .pointer (some ⟨ob, 0, none⟩), .pointer (some ⟨ab, 0, none⟩)] w fun e W' => KpN n0 w W' ∧
      ((e = .returned (.bool true) ∧ J (pre ++ [ord]) W') ∨ (e = .returned (.bool false) ∧ ∃ N, w.heap.size ≤ N ∧ Jx N (pre ++ [ord]) W')) := by
  obtain ⟨z0, z1, hb⟩ := two_new w (.cells #[.int .i64 0] 3) (.cells #[.bool false] 4)
  obtain ⟨w2, hw2⟩ : ∃ z, (w.alloc (.cells #[.int .i64 0] 3)).alloc (.cells #[.bool false] 4) = z := ⟨_, rfl⟩
  rw [hw2] at z0 z1 hb
  have hn0 : n0 ≤ w.heap.size := by have := hC.ly; have := heapsz hC.y; omega
  have hC2 := hC.kp (KpN.of_below hb)
  have hO2 := hO.kp (KpN.of_below hb)
  have HC2 := Lib.hid hC2; have HB := Lib.hid hb; have HZ1 := Lib.hid z1; have HN := Lib.hid hn0; have HL := Lib.hid hl; have HJ := Lib.hid hj; have HY := Lib.hid hY; have HG := Lib.hid hG
  have HO2 := Lib.hid hO2
  have c0 := cell_blk (k := 0) z0 rfl
  have cy := cell_blk (k := 0) hC2.y rfl
  have co := cell_blk (k := 0) hC2.o rfl
  have hdr : Below w2.heap.size w2 w2.drew := (Below.refl _ _).drew
  have fol : Try.prog.follows .mixedOrders = true := by kernel_rfl
  have HCL := Lib.hid (clone_any (OwnO.kp hO2 (KpN.of_below hdr)) hl)
  clear z0 z1 hb hC hC2 hj hY hn0 hl hO hO2 hG
  refine callsIn_wide.1 (callsIn_of_wp (n := n) Try.func109 rfl trivial ?_ rfl)
  simp only [Try.ntmps109, List.size_toArray, List.length_cons, List.length_nil, Nat.reduceAdd, Nat.reduceSub, Array.replicate_succ, Array.replicate_zero, List.push_toArray, List.append_toArray, List.nil_append, List.cons_append]
  gi_wp2
  clear c0
  gi_region_with_o (first
    | (refine ⟨trivial, fun h => by simp [Fence.wide] at h, callsIn_wide.2 (HCL.out.mono ?_)⟩
       rintro e W4 ⟨v4, rfl, hb4, hr4⟩
       have hbb : Below w2.heap.size w2 W4 := hdr.trans hb4
       have cy4 := cell_blk (k := 0) ((hbb.block _ (heapsz HC2.out.y)).trans HC2.out.y) rfl
       obtain ⟨fn, tmps, assign, body, hy, hR⟩ := HY.out _ pre (v4, ord) W4 hb4.size (Nat.le_trans HN.out HB.out.size) hr4 HG.out (hJ _ _ _ HJ.out ((HB.out.mono HN.out).trans (hbb.mono (Nat.le_trans HN.out HB.out.size))))
       dsimp only at hy
       have HB4 := Lib.hid hbb
       clear hb4 hr4 hbb)
    | (refine ⟨fun h => by simp [Fence.wide] at h, hR.mono ?_⟩
       rintro e W5 ⟨hk, hh⟩
       obtain ⟨b, rfl, hh2⟩ : ∃ b : Bool, e = .returned (.bool b) ∧ ((b = true ∧ J (pre ++ [ord]) W5) ∨ (b = false ∧ Jx w2.drew.heap.size (pre ++ [ord]) W5)) := hh.elim (fun h => ⟨true, h.1, .inl ⟨rfl, h.2⟩⟩) (fun h => ⟨false, h.1, .inr ⟨rfl, h.2⟩⟩)
       have hz5 : W5.heap[w.heap.size + 1]? = some (.cells #[.bool false] 4 (0, 0)) := (hk.same _ (by have := HN.out; omega) (Nat.lt_of_lt_of_le (heapsz HZ1.out) HB4.out.size)).trans ((HB4.out.block _ (heapsz HZ1.out)).trans HZ1.out)
       have c5 := cell_blk (k := 0) hz5 rfl
       have f5 : W5.frozen? ⟨w.heap.size + 1, 0, none⟩ = false := by simp [World.frozen?, hz5]
       have HZ5 := Lib.hid hz5
       have HK := Lib.hid hk
       have HH := Lib.hid hh2
       clear hk hh hh2 hz5)
    | fail)
  all_goals
    have hkw : KpN n0 w (W5.setCell ⟨w.heap.size + 1, 0, none⟩ (.bool b)) := ⟨((((HB.out.mono (Nat.zero_le _)).trans (HB4.out.mono (Nat.zero_le _))).trans HK.out.b0).setCell (p := ⟨w.heap.size + 1, 0, none⟩) (Nat.zero_le _) _), fun k h1 h2 => by
      have hlt : k < w2.heap.size := Nat.lt_of_lt_of_le h2 HB.out.size
      have hne : k ≠ w.heap.size + 1 := by omega
      exact (Below.heap_setCell _ _ _ _ hne).trans ((HK.out.same k h1 (Nat.lt_of_lt_of_le hlt HB4.out.size)).trans ((HB4.out.block k hlt).trans (HB.out.block k h2)))⟩
    have hbs : Below n0 W5 (W5.setCell ⟨w.heap.size + 1, 0, none⟩ (.bool b)) := (Below.refl _ W5).setCell (p := ⟨w.heap.size + 1, 0, none⟩) (by have := HN.out; show n0 ≤ w.heap.size + 1; omega) _
    have h3 : (W5.setCell ⟨w.heap.size + 1, 0, none⟩ (.bool b)).cell? ⟨w.heap.size + 1, 0, none⟩ = some (.bool b) := cell_blk (k := 0) (blk_set HZ5.out 0 (.bool b)) rfl
    have HE := Lib.hid (And.intro hkw (And.intro hbs h3))
    clear hkw hbs h3 hy hw2
    gi_wp2
    obtain ⟨h1, h2, h3⟩ := HE.out
    refine bodyPost_ret (v := .bool b) (by simp [results, Try.results109, go_sem, h3]) rfl ⟨h1, ?_⟩
    rcases HH.out with ⟨rfl, h⟩ | ⟨rfl, h⟩
    · exact .inl ⟨rfl, hJ _ _ _ h h2⟩
    · exact .inr ⟨rfl, w2.drew.heap.size, HB.out.size, hJx _ _ _ _ h (StabX.set _ (by have := HN.out; omega) (heapsz HZ1.out))⟩
end Go.Proofs.Ytmppiiamcpjhnaa

namespace Go.Proofs.Ytmppiiamcpjhnaa
open Go.RowKit Go.Shelf
attribute [local go_sem] Oper.semAt_some

theorem AddW.keep {l n0 yb ob ab : Nat} {v : Value} {W W' : World} (h : AddW l n0 yb ob ab v W) (hk : ∀ (b : Nat) (cs : Array Value) (t : TypeId), W.heap[b]? = some (.cells cs t (0, 0)) → W'.heap[b]? = some (.cells cs t (0, 0))) : AddW l n0 yb ob ab v W' :=
  ⟨hk _ _ _ h.y, hk _ _ _ h.o, hk _ _ _ h.a, h.ly, h.lo, h.la⟩
theorem OwnO.keep {n0 : Nat} {v : Value} {xs : List Int} {W W' : World} (h : OwnO n0 v xs W) (hk : ∀ (b : Nat) (cs : Array Value) (t : TypeId), W.heap[b]? = some (.cells cs t (0, 0)) → W'.heap[b]? = some (.cells cs t (0, 0))) : OwnO n0 v xs W' :=
  own_of_blocks h fun B hB => by
    obtain ⟨h1, cur, h2⟩ := own_at h hB
    rw [h2]
    exact hk _ _ _ h2
/-- The last is taken away. -/
theorem OwnO.trunc {n0 : Nat} {v : Value} {xs : List Int} {x : Int} {W : World} (h : OwnO n0 v (xs ++ [x]) W) :
    ∃ g c, v = .slice (some ⟨g, 0, none⟩) (xs.length + 1) c ∧ xs.length + 1 ≤ c ∧ OwnO n0 (.slice (some ⟨g, 0, none⟩) xs.length c) xs W := by
  unfold OwnO at h
  rw [List.length_append, List.length_singleton, flatR_snoc] at h
  rcases h.2 with ⟨_, h2⟩ | ⟨g, c, cur, h1, h2, h3, h4, h5, h6, h7⟩
  · omega
  · have hle : (flatR intR xs).length = xs.length := flat1_len _
    refine ⟨g, c, h1, h4, by rw [hle, Nat.mul_one], .inr ⟨g, c, cur, rfl, h2, h3, by omega, h5, h6, ?_⟩⟩
    have h8 : (flatR intR xs ++ intR x).take xs.length = flatR intR xs := List.take_left' hle
    rw [Nat.mul_one]
    refine Eq.trans ?_ h8
    rw [← h7, List.take_take, Nat.min_eq_left (by omega)]
theorem AddW.ne {l n0 yb ob ab n1 : Nat} {v v' : Value} {xs : List Int} {W : World} (h : AddW l n0 yb ob ab v W) (ho : OwnO n1 v' xs W) : v'.ownBlock ≠ some yb ∧ v'.ownBlock ≠ some ob ∧ v'.ownBlock ≠ some ab := by
  refine ⟨fun e => ?_, fun e => ?_, fun e => ?_⟩ <;> obtain ⟨_, cur, h2⟩ := own_at ho e
  · rw [h.y] at h2
    injection h2 with h2
    injection h2 with _ h2
    cases h2
  · rw [h.o] at h2
    injection h2 with h2
    injection h2 with _ h2
    cases h2
  · rw [h.a] at h2
    injection h2 with h2
    injection h2 with _ h2
    cases h2
theorem AddW.ne2 {l n0 yb ob ab : Nat} {v : Value} {W : World} (h : AddW l n0 yb ob ab v W) : yb ≠ ob ∧ ab ≠ ob := by
  refine ⟨fun e => ?_, fun e => ?_⟩
  · have h1 := h.y
    rw [e, h.o] at h1
    injection h1 with h1
    injection h1 with _ h1
    cases h1
  · have h1 := h.a
    rw [e, h.o] at h1
    injection h1 with h1
    injection h1 with _ h1
    cases h1
/-- The order's box is filled anew. -/
theorem AddW.set {l n0 yb ob ab : Nat} {v : Value} {W : World} (h : AddW l n0 yb ob ab v W) (v' : Value) : AddW l n0 yb ob ab v' (W.setCell ⟨ob, 0, none⟩ v') := by
  have kb (b : Nat) (hb : b ≠ ob) : (W.setCell ⟨ob, 0, none⟩ v').heap[b]? = W.heap[b]? := Below.heap_setCell _ _ _ _ hb
  obtain ⟨h1, h2⟩ := h.ne2
  exact ⟨(kb _ h1).trans h.y, blk_set h.o 0 _, (kb _ h2).trans h.a, h.ly, h.lo, h.la⟩
theorem OwnO.set {n0 ob : Nat} {v v' : Value} {xs : List Int} {W : World} (h : OwnO n0 v xs W) (hne : v.ownBlock ≠ some ob) : OwnO n0 v xs (W.setCell ⟨ob, 0, none⟩ v') :=
  own_of_blocks h fun B hB => Below.heap_setCell _ _ _ _ (fun e => hne (by rw [hB, e]))
theorem KpO.set {n0 ob : Nat} {rb : Option Nat} {W : World} (v : Value) : KpO n0 ob rb W (W.setCell ⟨ob, 0, none⟩ v) :=
  ⟨(Below.refl 0 W).setCell (p := ⟨ob, 0, none⟩) (Nat.zero_le _) v, fun _ _ _ h _ => Below.heap_setCell _ _ _ _ h⟩
/-- One is put at the end. -/
theorem KpO.app {n0 ob : Nat} {W W' : World} {o : Obj} {rb : Option Nat} (hg : (W.alloc o).grownBy W' rb) : KpO n0 ob rb W W' :=
  ⟨(((Below.refl W.heap.size W).alloc (Nat.le_refl _) o).mono (Nat.zero_le _)).trans ((Below.refl 0 (W.alloc o)).grown hg (Nat.zero_le _) (fun _ _ => Nat.zero_le _)), fun k _ h2 _ h4 => (hg.block k (by simp; omega) (fun e => h4 e.symm)).trans (((Below.refl W.heap.size W).alloc (Nat.le_refl _) o).block k h2)⟩
theorem AddW.kpo {l n0 yb ob ab n1 : Nat} {v v' : Value} {xs : List Int} {W W' : World} (h : AddW l n0 yb ob ab v W) (ho : OwnO n1 v' xs W) (k1 : W'.heap[ob]? = W.heap[ob]?) (k2 : ∀ b, n0 ≤ b → b < W.heap.size → b ≠ ob → v'.ownBlock ≠ some b → W'.heap[b]? = W.heap[b]?) : AddW l n0 yb ob ab v W' := by
  obtain ⟨n1, n2, n3⟩ := h.ne ho
  obtain ⟨m1, m2⟩ := h.ne2
  exact ⟨(k2 _ h.ly (heapsz h.y) m1 n1).trans h.y, k1.trans h.o, (k2 _ h.la (heapsz h.a) m2 n3).trans h.a, h.ly, h.lo, h.la⟩

/-- The frame's boxes. -/
structure FrB (b0 Bn r : Nat) (W : World) : Prop where
  fr : W.heap[b0]? = some (.cells #[.int .i64 (r : Int)] 3 (0, 0))
  fe : W.heap[b0 + 1]? = some (.cells #[.bool false] 4 (0, 0))
  fb : W.heap[Bn]? = some (.cells #[.int .i64 (r : Int)] 3 (0, 0))
theorem FrB.kpo {n0 b0 Bn r ob : Nat} {rb : Option Nat} {W W' : World} (h : FrB b0 Bn r W) (k : KpO n0 ob rb W W') (hn : n0 ≤ b0) (ho : ob < b0) (hr : ∀ g, rb = some g → g < b0 ∨ Bn < g) (h1 : b0 + 1 < Bn) : FrB b0 Bn r W' := by
  have kk (j : Nat) (hj : b0 ≤ j) (hj2 : j ≤ Bn) : W'.heap[j]? = W.heap[j]? := k.same j (by omega) (by have := heapsz h.fb; omega) (by omega) (fun e => by have := hr j e; omega)
  exact ⟨(kk _ (Nat.le_refl _) (by omega)).trans h.fr, (kk _ (by omega) (by omega)).trans h.fe, (kk _ (by omega) (Nat.le_refl _)).trans h.fb⟩
theorem FrB.keep {b0 Bn r : Nat} {W W' : World} (h : FrB b0 Bn r W) (hk : ∀ (b : Nat) (cs : Array Value) (t : TypeId), W.heap[b]? = some (.cells cs t (0, 0)) → W'.heap[b]? = some (.cells cs t (0, 0))) : FrB b0 Bn r W' :=
  ⟨hk _ _ _ h.fr, hk _ _ _ h.fe, hk _ _ _ h.fb⟩
/-- What holds while sites are gone through. -/
structure AddI (l n0 yb ob ab b0 Bn r : Nat) (v0 : Value) (ord : List Int) (w : World) (Js : List Nat → World → Prop) (p : List Nat) (W : World) : Prop where
  j : Js p W
  o : ∃ v, AddW l n0 yb ob ab v W ∧ OwnO n0 v ord W ∧ (v.ownBlock = v0.ownBlock ∨ ∃ g, v.ownBlock = some g ∧ Bn < g)
  k : KpO n0 ob v0.ownBlock w W
  f : FrB b0 Bn r W
def c6Ov (b0 yb ob ab x r D : Nat) (g : Value × Value) : Tmp → Value
  | 3 => .pointer (some ⟨ab, 0, none⟩)
  | 4 => .pointer (some ⟨b0, 0, none⟩)
  | 6 => .int .i64 (x : Int)
  | 20 => .func (.func 109) #[] #[.pointer (some ⟨yb, 0, none⟩), .pointer (some ⟨ob, 0, none⟩), .pointer (some ⟨ab, 0, none⟩)]
  | 21 => .int .i64 (r : Int)
  | 22 => .int .i64 (x : Int)
  | 23 => g.1
  | 24 => .int .i64 ((2 ^ x : Nat) : Int)
  | 25 => .int .i64 (D : Int)
  | 26 => g.2
  | _ => undef
theorem sit_drop {r x : Nat} (hr : r < 2 ^ 10) (hx : x ∈ sitL (r : Int)) : (sitL ((dropS r (2 ^ x) : Nat) : Int)).length < (sitL (r : Int)).length := by
  have hx1 := mem_sit.1 hx
  have hp : 2 ^ x < 2 ^ 64 := Nat.pow_lt_pow_right (by decide) (by omega)
  have e : sitL ((dropS r (2 ^ x) : Nat) : Int) = (sitL (r : Int)).filter fun k => !decide (x = k) := by
    unfold sitL
    rw [List.filter_filter]
    refine List.filter_congr fun k hk => ?_
    rw [jack_bit, jack_bit, dropS_bit hp (by omega), Nat.testBit_two_pow, Bool.and_comm]
  rw [e]
  refine Nat.lt_of_le_of_ne (List.length_filter_le _ _) fun h => ?_
  have := List.length_filter_eq_length_iff.1 h x hx
  simp at this
end Go.Proofs.Ytmppiiamcpjhnaa
