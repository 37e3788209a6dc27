/- Coolers: all orders of a set: a site is put at the end, then others. Coolers: all orders of a set, one after the other. Coolers: what the orders of a set are; whether a house bears to wait. Coolers: the first good order. -/
import Derived.Test.YtmppiiamcpjhnaaCT
import Derived.Maps.OwnIn
namespace Go.Proofs.Ytmppiiamcpjhnaa
open Go.RowKit Go.Shelf
attribute [local go_sem] Oper.semAt_some
theorem ords_succ {m r : Nat} (hr : r ≠ 0) (ord : List Int) : ((ordsF (m + 1) r).map fun o => ord ++ o) = (sitL (r : Int)).flatMap fun x => (ordsF m (dropS r (2 ^ x))).map fun o => (ord ++ [Int.ofNat x]) ++ o := by
  simp only [ordsF, if_neg hr, List.map_flatMap, List.map_map]
  simp [Function.comp_def]
/-- One is put at the end, and the box holds it. -/
theorem add_app {l n0 yb ob ab : Nat} {v v1 : Value} {ord : List Int} {x : Int} {W w6 : World} {o : Obj} (hA : AddW l n0 yb ob ab v W) (hO : OwnO n0 v ord W) (hg : (W.alloc o).grownBy w6 v.ownBlock) (h6 : w6.ownsRow n0 3 1 v1 (ord.length + 1) (flatR intR ord ++ [.int .i64 x])) :
    w6.cell? ⟨ob, 0, none⟩ = some v ∧ w6.frozen? ⟨ob, 0, none⟩ = false ∧ AddW l n0 yb ob ab v1 (w6.setCell ⟨ob, 0, none⟩ v1) ∧ OwnO n0 v1 (ord ++ [x]) (w6.setCell ⟨ob, 0, none⟩ v1) ∧ KpO n0 ob v.ownBlock W (w6.setCell ⟨ob, 0, none⟩ v1) ∧ Below n0 W (w6.setCell ⟨ob, 0, none⟩ v1) := by
  have hk : KpO n0 ob v.ownBlock W w6 := KpO.app hg
  have hn0 : n0 ≤ W.heap.size := by have := hA.lo; have := heapsz hA.o; omega
  have ho6 : w6.heap[ob]? = W.heap[ob]? := (hg.block ob (by have := heapsz hA.o; simp; omega) (fun e => (hA.ne hO).2.1 e.symm)).trans (((Below.refl W.heap.size W).alloc (Nat.le_refl _) o).block _ (heapsz hA.o))
  have hA6 : AddW l n0 yb ob ab v w6 := hA.kpo hO ho6 hk.same
  have hO6 : OwnO n0 v1 (ord ++ [x]) w6 := by
    unfold OwnO
    rw [List.length_append, List.length_singleton, flatR_snoc]
    exact h6
  have hbl : Below n0 W w6 := (((Below.refl W.heap.size W).alloc (Nat.le_refl _) o).mono hn0).grown hg (by simp; omega) (fun k e => (own_at hO e).1)
  refine ⟨cell_blk (k := 0) hA6.o rfl, by simp [World.frozen?, hA6.o], hA6.set _, hO6.set (hA6.ne hO6).2.1, hk.trans (KpO.set _) (.inl rfl), hbl.setCell (p := ⟨ob, 0, none⟩) hA.lo _⟩
theorem KpO.from {n0 ob B : Nat} {v : Value} {ord : List Int} {W U : World} (h : KpO n0 ob v.ownBlock W U) (hO : OwnO n0 v ord W) (hob : ob < B) (hn : n0 ≤ B) : KeepsFrom B W U :=
  ⟨h.b0.size, fun k o hk ho hc => (h.same k (by omega) (heapszO ho) (by omega) (fun e => by
    obtain ⟨_, cur, h2⟩ := own_at hO e
    rw [ho] at h2
    injection h2 with h2
    rw [h2] at hc
    cases hc)).trans ho⟩
section
attribute [local irreducible] QT
set_option maxRecDepth 100000 in
set_option maxHeartbeats 8000000 in
theorem add_succ {G : List Int → Prop} {l n0 yb ob ab m : Nat} {J : List (List Int) → World → Prop} {Jx : Nat → List (List Int) → World → Prop} (hJ : ∀ s A B, J s A → Below n0 A B → J s B) (hJx : ∀ N s A B, Jx N s A → StabX n0 N A B → Jx N s B) (ih : AddC G l n0 yb ob ab J Jx m)
    (w : World) (pre : List (List Int)) (ord : List Int) (v0 : Value) (r : Nat) (hr0 : r ≠ 0) (hr : r < 2 ^ 10) (hsl : (sitL (r : Int)).length ≤ m + 1) (hl : ord.length + (m + 1) ≤ 100) (hG : ∀ o ∈ ordsF (m + 1) r, G (ord ++ o)) (hj : J pre w) (hC : AddW l n0 yb ob ab v0 w) (hO : OwnO n0 v0 ord w) :
    Calls Try.prog 109 #[.int .i64 (r : Int), .pointer (some ⟨yb, 0, none⟩), .pointer (some ⟨ob, 0, none⟩), .pointer (some ⟨ab, 0, none⟩)] w fun e W' => KpO n0 ob v0.ownBlock w W' ∧
      ((e = .returned (.bool true) ∧ J (pre ++ (ordsF (m + 1) r).map fun o => ord ++ o) W' ∧ ∃ v', AddW l n0 yb ob ab v' W' ∧ OwnO n0 v' ord W' ∧ (v'.ownBlock = v0.ownBlock ∨ ∃ g, v'.ownBlock = some g ∧ w.heap.size ≤ g)) ∨
       (e = .returned (.bool false) ∧ ∃ N q rest, w.heap.size ≤ N ∧ ((ordsF (m + 1) r).map fun o => ord ++ o) = q ++ rest ∧ q ≠ [] ∧ Jx N (pre ++ q) W')) := by
  obtain ⟨z0, z1, hb⟩ := two_new w (.cells #[.int .i64 (r : Int)] 3) (.cells #[.bool false] 4)
  obtain ⟨w4, hw4⟩ : ∃ z, (w.alloc (.cells #[.int .i64 (r : Int)] 3)).alloc (.cells #[.bool false] 4) = z := ⟨_, rfl⟩
  have hs4 : w4.heap.size = w.heap.size + 2 := by rw [← hw4]; simp
  rw [hw4] at z0 z1 hb
  have z5 := heap_alloc_new w4 (.cells #[.int .i64 (r : Int)] 3)
  have hb5 := (Below.refl w4.heap.size w4).alloc (Nat.le_refl _) (.cells #[.int .i64 (r : Int)] 3)
  obtain ⟨w5, hw5⟩ : ∃ z, w4.alloc (.cells #[.int .i64 (r : Int)] 3) = z := ⟨_, rfl⟩
  have hs5 : w5.heap.size = w.heap.size + 3 := by rw [← hw5]; simp; omega
  rw [hw5] at z5 hb5
  have hn0 : n0 ≤ w.heap.size := by have := hC.ly; have := heapsz hC.y; omega
  have hbw5 := hb.trans (hb5.mono hb.size)
  have hk5 : KpN n0 w w5 := KpN.of_below hbw5
  obtain ⟨Js, hJs⟩ : ∃ Js : List Nat → World → Prop, Js = fun p W => J (pre ++ p.flatMap fun x => (ordsF m (dropS r (2 ^ x))).map fun o => (ord ++ [Int.ofNat x]) ++ o) W := ⟨_, rfl⟩
  have hI0 : AddI l n0 yb ob ab w.heap.size w4.heap.size r v0 ord w Js [] w5 :=
    ⟨by rw [hJs]; simpa using hJ _ _ _ hj (hbw5.mono hn0), ⟨v0, hC.kp hk5, hO.kp hk5, .inl rfl⟩, KpO.of_kp hk5, ⟨(hb5.block _ (heapsz z0)).trans z0, (hb5.block _ (heapsz z1)).trans z1, z5⟩⟩
  have hob : ob < w.heap.size := heapsz hC.o
  have hv0 : ∀ g, v0.ownBlock = some g → g < w.heap.size := fun g hg => by
    obtain ⟨_, cur, h2⟩ := own_at hO hg
    exact heapsz h2
  have HI0 := Lib.hid hI0; have HW5 := Lib.hid hw5; have HSZ := Lib.hid (And.intro hs4 (And.intro hs5 hn0)); have HOB := Lib.hid (And.intro hob hv0); have HJS := Lib.hid hJs; have HGG := Lib.hid hG
  have HSQ := Lib.hid (sit_seqP (3 - 1) (by decide) w4.heap.size 0 (r : Int) w5 (heapsz z5) (cell_blk (k := 0) z5 rfl))
  have fol : Try.prog.follows .mixedOrders = true := by kernel_rfl
  have hE109 : ∀ (args : Array Value) (w : World), (callFunc 109 args).run Try.prog w = .ok (.enter 109 args) w := enters_of Try.func109 (by kernel_rfl) rfl
  have hr0i : ¬ (r : Int) = 0 := by omega
  have c0 := cell_blk (k := 0) z0 rfl
  have HR := Lib.hid (And.intro hr (And.intro hsl (And.intro hl hr0)))
  obtain ⟨i0, hi0, hzz0, hz1, hz2⟩ := info_parts int_info
  clear z0 z1 hb z5 hb5 hw5 hC hO hj hbw5 hk5 hI0 hs4 hs5 hn0 hr hsl hl hr0 hob hv0 hJs hG
  refine callsIn_wide.1 (callsIn_of_wp_marks (n := 5) Try.func109 rfl trivial (wpIn_wide.2 ?_) rfl)
  simp only [Try.ntmps109, List.size_toArray, List.length_cons, List.length_nil, Nat.reduceAdd, Nat.reduceSub, Array.replicate_succ, Array.replicate_zero, List.push_toArray, List.append_toArray, List.nil_append, List.cons_append]
  go_wp2_with fail
  clear hw4
  refine (sitesOf_any _ _).mono ?_
  rintro e w' ⟨rfl, rfl⟩
  rw [HW5.out]
  clear c0
  go_wp2_with fail
  refine (wpIn_wide (n := 3)).1 ?_
  refine wpIn_rangeFunc_writesG rfl (by decide) (gf := 101) (lb := #[.pointer (some ⟨w4.heap.size, 0, none⟩)]) rfl trivial (enters_of Try.func101 (by kernel_rfl) rfl)
    HSQ.out (fun A A' hs k o hk ho hc => by rw [← hs]; exact ho)
    kpB_t (kpB_b (Nat.zero_le _) (by have := HSZ.out; omega)) (Below.refl _ _) (fun _ => rfl)
    (fun p Wt => AddI l n0 yb ob ab w.heap.size w4.heap.size r v0 ord w Js (p.map Subtype.val) Wt ∧ w5.heap.size ≤ Wt.heap.size)
    (fun c p Wt => c = .ret ∧ (∃ N q rest, w5.heap.size ≤ N ∧ ((ordsF (m + 1) r).map fun o => ord ++ o) = q ++ rest ∧ q ≠ [] ∧ Jx N (pre ++ q) Wt) ∧ KpO n0 ob v0.ownBlock w Wt ∧ Wt.heap[w.heap.size + 1]? = some (.cells #[.bool false] 4 (0, 0)))
    (fun p A B row hs hg hr => by
      have hz := HSZ.out
      have hbl : Below n0 A B := (Below.refl n0 A).grown hg (by have := hs.2; omega) (fun k e => by have := (hr k e).1; omega)
      refine ⟨⟨by have := hs.1.j; rw [HJS.out] at this ⊢; exact hJ _ _ _ this hbl, ?_, ⟨(hs.1.k.b0).trans (hbl.mono (Nat.zero_le _)), fun k h1 h2 h3 h4 => (hg.block k (by have := hs.2; omega) (fun e => by have := (hr k e.symm).1; omega)).trans (hs.1.k.same k h1 h2 h3 h4)⟩, hs.1.f.keep (fun b cs t hb => cells_keep hb hg hr)⟩, Nat.le_trans hs.2 hg.size⟩
      obtain ⟨v, h1, h2, h3⟩ := hs.1.o
      exact ⟨v, h1.keep (fun b cs t hb => cells_keep hb hg hr), h2.keep (fun b cs t hb => cells_keep hb hg hr), h3⟩)
    (fun c p A B row hs hg hr => by
      have hz := HSZ.out
      obtain ⟨h1, ⟨N, q, rest, hN, h2, h3, h4⟩, h5, h6⟩ := hs
      have hbl : Below n0 A B := (Below.refl n0 A).grown hg (by have := h5.b0.size; omega) (fun k e => by have := (hr k e).1; omega)
      exact ⟨h1, ⟨N, q, rest, hN, h2, h3, hJx _ _ _ _ h4 ⟨hbl, fun b cs t z _ hb => by
        refine (hg.block b (Array.getElem?_eq_some_iff.1 hb).1 (fun e => ?_)).trans hb
        obtain ⟨_, o, h7, h8⟩ := hr b e.symm
        rw [hb] at h7
        injection h7 with h7
        rw [← h7] at h8
        cases h8⟩⟩, ⟨h5.b0.trans (hbl.mono (Nat.zero_le _)), fun k h7 h8 h9 h10 => (hg.block k (by have := h5.b0.size; omega) (fun e => by have := (hr k e.symm).1; omega)).trans (h5.same k h7 h8 h9 h10)⟩, cells_keep h6 hg hr⟩)
    (fun p A A' hs hst => by rw [← hst]; exact hs)
    ⟨HI0.out, Nat.le_refl _⟩
    (fun x a' _ => a' = { tmps := List.toArray ((Value.int .i64 (r : Int)) :: (Value.pointer (some ⟨yb, 0, none⟩)) :: (Value.pointer (some ⟨ob, 0, none⟩)) :: (Value.pointer (some ⟨ab, 0, none⟩)) :: (Value.pointer (some ⟨w.heap.size, 0, none⟩)) :: (Value.pointer (some ⟨w.heap.size + 1, 0, none⟩)) :: (Value.int .i64 (x.1 : Int)) :: (Value.int .i64 (r : Int)) :: (Value.bool false) :: undef :: undef :: undef :: undef :: (Value.int .i64 (r : Int)) :: (Value.func (.func 101) #[] #[.pointer (some ⟨w4.heap.size, 0, none⟩)]) :: (Value.int .i64 (x.1 : Int)) :: undef :: undef :: undef :: undef :: undef :: undef :: undef :: undef :: undef :: undef :: undef :: undef :: undef :: undef :: undef :: undef :: undef :: []), defers := [] })
    (fun x a' _ A A' row hs hg hr => hs)
    ?assign ?body ?done ?stop
  case assign =>
    intro l p x Wt Kk hI hK
    have HH := Lib.hid (hK _ Wt ⟨Nat.le_refl _, fun _ _ _ h _ => h⟩ ⟨Below.refl _ _, rfl⟩ hI rfl)
    clear hK hI
    gi_wp2
    exact HH.out
  case body =>
    rintro l2 p x a' Wt ⟨hI, hsz⟩ rfl ⟨p', x', rest, hpx, hpil⟩
    obtain ⟨rfl, hxx⟩ := List.append_inj' hpx rfl
    obtain rfl : x = x' := by simpa using hxx
    obtain ⟨v, hAW, hOW, hvb⟩ := hI.o
    have hx10 : x.1 < 10 := x.2.1
    have hxm : x.1 ∈ sitL (r : Int) := by rw [hpil]; simp
    obtain ⟨D, hD⟩ : ∃ D, dropS r (2 ^ x.1) = D := ⟨_, rfl⟩
    have hD10 : D < 2 ^ 10 := by rw [← hD]; exact dropS_lt HR.out.1
    have hDl : (sitL (D : Int)).length ≤ m := by have := sit_drop HR.out.1 hxm; rw [hD] at this; have := HR.out.2.1; omega
    have hand : bits .andNot .i64 (r : Int) ((2 ^ x.1 : Nat) : Int) = (D : Int) := by
      rw [dropS_and (by have := HR.out.1; omega) (Nat.pow_lt_pow_right (by decide) (by omega)), hD]
    rw [Int.natCast_pow, show ((2 : Nat) : Int) = 2 from rfl] at hand
    have HI := Lib.hid hI; have HAW := Lib.hid hAW; have HOW := Lib.hid hOW; have HVB := Lib.hid hvb; have HWS := Lib.hid hsz; have HPIL := Lib.hid hpil
    have HDD := Lib.hid (And.intro hD (And.intro hD10 hDl))
    have HX10 := Lib.hid hx10
    have HGD : Hid (∀ o ∈ ordsF m D, G ((ord ++ [(x.1 : Int)]) ++ o)) := Lib.hid fun o ho => by
      rw [List.append_assoc]
      refine HGG.out _ ?_
      simp only [ordsF, if_neg HR.out.2.2.2]
      exact List.mem_flatMap.2 ⟨x.1, hxm, List.mem_map.2 ⟨o, by rw [hD]; exact ho, rfl⟩⟩
    have co := cell_blk (k := 0) hAW.o rfl
    clear hI hAW hOW hvb hsz hpil hD hpx hxx hD10 hDl hx10 hxm
    gi_wp2_with (first
      | (gi_at_builtin
         refine wpListIn_append_own_at _ rfl _ _ 26 rfl n0 3 i0 _ 1 8 Try.underlying26 hi0 hzz0 hz1 hz2 rfl (by decide) v ord.length (flatR intR ord) rfl (own_next HOW.out ((Below.refl _ Wt).alloc (Nat.le_refl _) _)) ⟨Wt.heap.size, 0, none⟩ 1 1 [.int .i64 (x.1 : Int)] rfl rfl (cells_new Wt [.int .i64 (x.1 : Int)] 3) (by simp [Value.oneCell']) (by have := HR.out; unfold maxLen; omega) (by have := HR.out; omega) (by have := HSZ.out; have := HWS.out; simp; omega) ?_
         intro v1 w6 hown6 hgrow6 hnil6 hat6
         have hall := add_app HAW.out HOW.out hgrow6 hown6
         have hat : v1.ownBlock = v.ownBlock ∨ ∃ g, v1.ownBlock = some g ∧ Wt.heap.size ≤ g := hat6.imp id (fun h => ⟨_, h, by simp⟩)
         obtain ⟨g6, cp6, hv1⟩ := ownsRow_succ hown6
         subst hv1
         have HALL := Lib.hid (And.intro hall.2.2 hat)
         have c6 := hall.1
         have f6 := hall.2.1
         clear hown6 hgrow6 hnil6 hat6 hall hat)
      | fail)
    clear co c6 f6
    obtain ⟨v1, hv1⟩ : ∃ z, Value.slice (some ⟨g6, 0, none⟩) (ord.length + 1) cp6 = z := ⟨_, rfl⟩
    rw [hv1] at HALL ⊢
    obtain ⟨w7, hw7⟩ : ∃ z, w6.setCell ⟨ob, 0, none⟩ v1 = z := ⟨_, rfl⟩
    rw [hw7] at HALL ⊢
    clear hw7 hv1
    obtain ⟨X, hX⟩ : ∃ X, pre ++ (p.map Subtype.val).flatMap (fun x => (ordsF m (dropS r (2 ^ x))).map fun o => (ord ++ [Int.ofNat x]) ++ o) = X := ⟨_, rfl⟩
    have HXX := Lib.hid hX
    have HJ7 : Hid (J X w7) := Lib.hid (by
      have := HI.out.j
      rw [HJS.out] at this
      rw [← hX]
      exact hJ _ _ _ this HALL.out.1.2.2.2)
    have HS7 : Hid (Wt.heap.size ≤ w7.heap.size) := Lib.hid HALL.out.1.2.2.2.size
    clear hX
    have HCF : Hid (∀ q, Below w7.heap.size w7 q → q.cell? ⟨ab, 0, none⟩ = some (.func (.func 109) #[] #[.pointer (some ⟨yb, 0, none⟩), .pointer (some ⟨ob, 0, none⟩), .pointer (some ⟨ab, 0, none⟩)]) ∧ q.cell? ⟨w.heap.size, 0, none⟩ = some (.int .i64 (r : Int))) := Lib.hid fun q hq => by
      have hf := HI.out.f.kpo HALL.out.1.2.2.1 HSZ.out.2.2 HOB.out.1 (fun g hg => by
        rcases HVB.out with h | ⟨g', h, h2⟩
        · exact .inl (HOB.out.2 g (by rw [← h]; exact hg))
        · rw [hg] at h; injection h with h; exact .inr (by omega)) (by have := HSZ.out; omega)
      exact ⟨cell_blk (k := 0) ((hq.block _ (heapsz HALL.out.1.1.a)).trans HALL.out.1.1.a) rfl, cell_blk (k := 0) ((hq.block _ (heapsz hf.fr)).trans hf.fr) rfl⟩
    have HREC : Hid (∀ q, Below w7.heap.size w7 q → Calls Try.prog 109 #[.int .i64 (D : Int), .pointer (some ⟨yb, 0, none⟩), .pointer (some ⟨ob, 0, none⟩), .pointer (some ⟨ab, 0, none⟩)] q fun e W' => ∃ b, e = .returned (.bool b) ∧ KpO n0 ob v1.ownBlock w7 W' ∧ ((b = true ∧ J (X ++ (ordsF m D).map fun o => (ord ++ [(x.1 : Int)]) ++ o) W' ∧ ∃ v', AddW l n0 yb ob ab v' W' ∧ OwnO n0 v' (ord ++ [(x.1 : Int)]) W' ∧ (v'.ownBlock = v1.ownBlock ∨ ∃ g, v'.ownBlock = some g ∧ w7.heap.size ≤ g)) ∨ (b = false ∧ ∃ N q' rest, w7.heap.size ≤ N ∧ ((ordsF m D).map fun o => (ord ++ [(x.1 : Int)]) ++ o) = q' ++ rest ∧ q' ≠ [] ∧ Jx N (X ++ q') W'))) := Lib.hid fun q hq => by
      refine (ih q X (ord ++ [(x.1 : Int)]) v1 D HDD.out.2.1 HDD.out.2.2 (by have := HR.out; simp; omega) HGD.out (hJ _ _ _ HJ7.out (hq.mono (by have := HSZ.out; have := HWS.out; have := HS7.out; omega))) (HALL.out.1.1.kp (KpN.of_below hq)) (HALL.out.1.2.1.kp (KpN.of_below hq))).mono ?_
      rintro e W' ⟨hk, ⟨rfl, h1, v', h2, h3, h4⟩ | ⟨rfl, N, q', rest', hN, h⟩⟩
      · exact ⟨true, rfl, (KpO.of_kp (KpN.of_below hq)).trans hk (.inl rfl), .inl ⟨rfl, h1, v', h2, h3, h4.imp id (fun ⟨g, a, b⟩ => ⟨g, a, Nat.le_trans hq.size b⟩)⟩⟩
      · exact ⟨false, rfl, (KpO.of_kp (KpN.of_below hq)).trans hk (.inl rfl), .inr ⟨rfl, N, q', rest', Nat.le_trans hq.size hN, h⟩⟩
    gi_wp2
    refine wpIn_region_any fol (wpAnyIn_round_of_wpAny (by kernel_rfl) (by rintro ⟨_, _, hq⟩; exact hq) _ _ _ _ ?_)
    refine tail_startX [_, _, _, _, _, _, _] _ rfl (by kernel_rfl) ?_
    refine plan_once_any (γ := Value × Value) 6 [3, 4, 6] (c6Ov w.heap.size yb ob ab x.1 r D) (fun done g u => OneV w7 (One1 x.1) 3 77 done g u) (fun g u => ∃ b, g.2 = .bool b ∧ KpO n0 ob v1.ownBlock w7 u ∧ ((b = true ∧ J (X ++ (ordsF m D).map fun o => (ord ++ [(x.1 : Int)]) ++ o) u ∧ ∃ v', AddW l n0 yb ob ab v' u ∧ OwnO n0 v' (ord ++ [(x.1 : Int)]) u ∧ (v'.ownBlock = v1.ownBlock ∨ ∃ g, v'.ownBlock = some g ∧ w7.heap.size ≤ g)) ∨ (b = false ∧ ∃ N q' rest, w7.heap.size ≤ N ∧ ((ordsF m D).map fun o => (ord ++ [(x.1 : Int)]) ++ o) = q' ++ rest ∧ q' ≠ [] ∧ Jx N (X ++ q') u))) (undef, undef) (by kernel_rfl) (by kernel_rfl) (by kernel_rfl) (by kernel_rfl) (by kernel_rfl) (by kernel_rfl) (by decide) ?_ ⟨(Below.refl _ w7).drew, fun h => by simp at h, fun h => by simp at h⟩ ?_ ?_
    · intro t ht
      simp only [List.mem_cons, List.not_mem_nil, or_false] at ht
      rcases ht with rfl | rfl | rfl <;> rfl
    · refine allOps_array ?_
      refine ⟨⟨fun _ => ?_, fun e => absurd e (by decide), fun e => absurd e (by decide)⟩, ⟨fun _ => ?_, fun e => absurd e (by decide), fun e => absurd e (by decide)⟩, ⟨fun _ => ?_, fun e => absurd e (by decide), fun e => absurd e (by decide)⟩, ⟨fun _ => ?_, fun e => absurd e (by decide), fun e => absurd e (by decide)⟩, ⟨fun _ => ?_, fun e => absurd e (by decide), fun e => absurd e (by decide)⟩, ⟨fun _ => ?_, fun e => absurd e (by decide), fun e => absurd e (by decide)⟩, ⟨fun e => absurd e (by decide), fun _ => ?_, fun e => absurd e (by decide)⟩, trivial⟩
      · intro done g q hS hu hdep
        obtain ⟨y0, y1⟩ := HCF.out q hS.bel
        exact quietV hS 20 rfl (by decide) (by decide) rfl (by simp [go_sem, evalBy, c6Ov, y0])
      · intro done g q hS hu hdep
        obtain ⟨y0, y1⟩ := HCF.out q hS.bel
        exact quietV hS 21 rfl (by decide) (by decide) rfl (by simp [go_sem, evalBy, c6Ov, y1])
      · intro done g q hS hu hdep
        exact quietV hS 22 rfl (by decide) (by decide) rfl (by simp [go_sem, evalBy, c6Ov])
      · intro done g q hS hu hdep
        exact buildV one1_up hS (by decide) 23 rfl rfl (.slice (some ⟨q.heap.size, 0, none⟩) 1 1) (.cells #[.int .i64 (x.1 : Int)] 3) (by simp [go_sem, evalBy, c6Ov]) ⟨_, rfl, heap_alloc_new q _⟩ (fun _ => rfl) (fun v t ht => by unfold c6Ov; split <;> first | rfl | exact absurd rfl ht)
      · intro done g q hS hu hdep
        exact callV one1_up hS 24 rfl (by decide) (by decide) rfl 77 #[g.1] (by simp [go_sem, evalBy, c6Ov]) (setOne_any HX10.out (hS.l1 (hdep ⟨3, .data⟩ (by simp) rfl)))
      · intro done g q hS hu hdep
        exact quietV hS 25 rfl (by decide) (by decide) rfl (by simp [go_sem, evalBy, c6Ov, hand])
      · intro done g q hS _
        refine ⟨rfl, ?_⟩
        rw [show (execOp (evalBy (c6Ov w.heap.size yb ob ab x.1 r D g)) _).run Try.prog q = .ok (.enter 109 #[.int .i64 (D : Int), .pointer (some ⟨yb, 0, none⟩), .pointer (some ⟨ob, 0, none⟩), .pointer (some ⟨ab, 0, none⟩)]) q from by simp [go_sem, evalBy, c6Ov, hE109]]
        show Calls Try.prog 109 _ q _
        refine (HREC.out q hS.bel).mono ?_
        rintro e W' ⟨b, rfl, h1, h2⟩
        exact ⟨_, rfl, (g.1, .bool b), ⟨b, rfl, h1, h2⟩, fun d hd => by injection hd with hd; subst hd; rfl, fun t ht => by
          have h32 : t ≠ 26 := fun e => ht (by rw [e])
          unfold c6Ov
          split <;> first | rfl | exact absurd rfl h32⟩
    · rintro g q ⟨b, hb, h1, h2⟩
      have hz := HSZ.out
      have hws := HWS.out
      have hkq : KpO n0 ob v.ownBlock Wt q := HALL.out.1.2.2.1.trans h1 HALL.out.2
      have HKQ := Lib.hid hkq
      have HSP : Hid (((ordsF (m + 1) r).map fun o => ord ++ o) = ((p.map Subtype.val).flatMap fun x => (ordsF m (dropS r (2 ^ x))).map fun o => (ord ++ [Int.ofNat x]) ++ o) ++ (((ordsF m D).map fun o => (ord ++ [(x.1 : Int)]) ++ o) ++ rest.flatMap fun x => (ordsF m (dropS r (2 ^ x))).map fun o => (ord ++ [Int.ofNat x]) ++ o)) := Lib.hid (by
        rw [ords_succ HR.out.2.2.2, HPIL.out, List.flatMap_append, List.flatMap_cons, HDD.out.1]
        rfl)
      clear hz hws hkq h1
      simp only [QT]
      unfold Oper.wp
      simp [go_sem, putAll, Act.put, c6Ov, hb]
      rcases h2 with ⟨rfl, h, v', h3, h4, h5⟩ | ⟨rfl, N, q', rest', hN, h3, h4, h5⟩
      · obtain ⟨g8, c8, rfl, hc8, hO8⟩ := h4.trunc
        have hsl : ∀ W : World, (Instr.slice 26 (.slice (some ⟨g8, 0, none⟩) (ord.length + 1) c8) none (some (.int .i64 (ord.length : Int))) none).run Try.prog W = .ok (.slice (some ⟨g8, 0, none⟩) ord.length c8) W := fun W => by
          have h0 : (0 : Int) ≤ (ord.length : Int) := by omega
          have h1 : (ord.length : Int) ≤ (c8 : Int) := by omega
          have h2 := run_slice_h (P := Try.prog) (w := W) (t := 26) (a := some ⟨g8, 0, none⟩) (len := ord.length + 1) (cap := c8) elem26 .i64 (ord.length : Int) h0 h1
          rw [h2, size26]
          have hc0 : ¬ c8 = 0 := by omega
          simp [Result.andThen, sliced, hc0, addr_add]
        have hwm : wrap64 (ord.length : Int) = (ord.length : Int) := by
          have := HR.out
          unfold wrap64
          omega
        have co := cell_blk (k := 0) h3.o rfl
        have fo : q.frozen? ⟨ob, 0, none⟩ = false := by simp [World.frozen?, h3.o]
        have HH := Lib.hid (And.intro h (And.intro h3 (And.intro hO8 (And.intro (h3.ne h4).2.1 h5))))
        clear h h3 h4 h5 hO8 hc8 hb
        gi_wp2
        obtain ⟨k1, k2, k3, k4, k5⟩ := HH.out
        have hz := HSZ.out
        have hws := HWS.out
        have hkU : KpO n0 ob v.ownBlock Wt (q.setCell ⟨ob, 0, none⟩ (.slice (some ⟨g8, 0, none⟩) ord.length c8)) := HKQ.out.trans (KpO.set _) (.inl rfl)
        have hfU := HI.out.f.kpo hkU hz.2.2 HOB.out.1 (fun g hg => by
          rcases HVB.out with h | ⟨g', h, h2⟩
          · exact .inl (HOB.out.2 g (by rw [← h]; exact hg))
          · rw [hg] at h; injection h with h; exact .inr (by omega)) (by omega)
        have hbq : Below n0 q (q.setCell ⟨ob, 0, none⟩ (.slice (some ⟨g8, 0, none⟩) ord.length c8)) := (Below.refl _ q).setCell (p := ⟨ob, 0, none⟩) k2.lo _
        refine ⟨hkU.from HOW.out (by have := HOB.out.1; omega) (by omega), ⟨hkU.b0, (cell_blk (k := 0) hfU.fb rfl).trans (cell_blk (k := 0) HI.out.f.fb rfl).symm⟩, ⟨?_, ⟨_, k2.set _, k3.set k4, ?_⟩, HI.out.k.trans hkU (HVB.out.imp id (fun ⟨g, a, b⟩ => ⟨g, a, by omega⟩)), hfU⟩, Nat.le_trans hws hkU.b0.size⟩
        · rw [HJS.out]
          simp only [List.map_append, List.flatMap_append, List.map_cons, List.map_nil, List.flatMap_cons, List.flatMap_nil, List.append_nil]
          rw [HDD.out.1, ← List.append_assoc, HXX.out]
          exact hJ _ _ _ k1 hbq
        · rcases k5 with h | ⟨g, h, h2⟩
          · rcases HALL.out.2 with h3 | ⟨g, h3, h4⟩
            · rcases HVB.out with h5 | ⟨g', h5, h6⟩
              · exact .inl (h.trans (h3.trans h5))
              · exact .inr ⟨g', h.trans (h3.trans h5), h6⟩
            · exact .inr ⟨g, h.trans h3, by omega⟩
          · exact .inr ⟨g, h, by have := HS7.out; omega⟩
      · have HH := Lib.hid (And.intro h3 (And.intro h4 h5))
        have hz := HSZ.out
        have hfq := HI.out.f.kpo HKQ.out hz.2.2 HOB.out.1 (fun g hg => by
          rcases HVB.out with h | ⟨g', h, h2⟩
          · exact .inl (HOB.out.2 g (by rw [← h]; exact hg))
          · rw [hg] at h; injection h with h; exact .inr (by omega)) (by omega)
        have HFQ := Lib.hid hfq
        have HNN : Hid (w5.heap.size ≤ N) := Lib.hid (by have := HS7.out; have := HWS.out; omega)
        have pe := cell_blk (k := 0) hfq.fe rfl
        have fe : q.frozen? ⟨w.heap.size + 1, 0, none⟩ = false := by simp [World.frozen?, hfq.fe]
        clear h3 h4 h5 hb hfq hN hz
        gi_wp2
        have hz := HSZ.out
        have hkf : KeepsFrom w5.heap.size Wt q := HKQ.out.from HOW.out (by have := HOB.out.1; omega) (by omega)
        have hkw : KpO n0 ob v0.ownBlock w q := HI.out.k.trans HKQ.out (HVB.out.imp id (fun ⟨g, a, b⟩ => ⟨g, a, by omega⟩))
        refine ⟨hkf.trans ((KeepsOthers.setCell _ _ _).from _), rfl, ⟨N, ((p.map Subtype.val).flatMap fun x => (ordsF m (dropS r (2 ^ x))).map fun o => (ord ++ [Int.ofNat x]) ++ o) ++ q', rest' ++ rest.flatMap fun x => (ordsF m (dropS r (2 ^ x))).map fun o => (ord ++ [Int.ofNat x]) ++ o, HNN.out, HSP.out.trans ?_, ?_, ?_⟩, ⟨hkw.b0.setCell (p := ⟨w.heap.size + 1, 0, none⟩) (Nat.zero_le _) _, fun k h1 h2 h3 h4 => ?_⟩, blk_set HFQ.out.fe 0 _⟩
        · rw [HH.out.1]
          simp only [List.append_assoc]
        · intro e
          exact HH.out.2.1 (List.append_eq_nil_iff.1 e).2
        · rw [← List.append_assoc, HXX.out]
          exact hJx _ _ _ _ HH.out.2.2 (StabX.set _ (by omega) (by have := HNN.out; omega))
        · have hne : k ≠ w.heap.size + 1 := by omega
          exact (Below.heap_setCell _ _ _ _ hne).trans (hkw.same k h1 h2 h3 h4)
  case done =>
    rintro D ys Wt hD hys ⟨hI, hsz⟩ hK
    have HM : Hid (Marks Wt w5.heap.size [D]) := Lib.hid ⟨by simp, fun E hE => by rw [List.mem_singleton.1 hE]; exact ⟨hD, hK⟩⟩
    have ze := hI.f.fe
    have pe := cell_blk (k := 0) ze rfl
    have fe : Wt.frozen? ⟨w.heap.size + 1, 0, none⟩ = false := by simp [World.frozen?, ze]
    have hj := hI.j
    rw [hys, HJS.out] at hj
    have HJE := Lib.hid hj; have HIE := Lib.hid hI; have HZE := Lib.hid ze; have HWS := Lib.hid hsz; have HDK := Lib.hid hK
    clear hI hK hys hj ze hsz
    simp only [Exit.inBlock, Exit.then]
    go_wp2_with fail
    have hz := HSZ.out
    have hbs : Below n0 Wt (Wt.setCell ⟨w.heap.size + 1, 0, none⟩ (.bool true)) := (Below.refl _ Wt).setCell (p := ⟨w.heap.size + 1, 0, none⟩) (by show n0 ≤ w.heap.size + 1; omega) _
    have hze : (Wt.setCell ⟨w.heap.size + 1, 0, none⟩ (.bool true)).heap[w.heap.size + 1]? = some (.cells #[.bool true] 4 (0, 0)) := blk_set HZE.out 0 _
    have hDne : D ≠ w.heap.size + 1 := by omega
    refine leaves_marks [D] _ (B := w5.heap.size) ⟨by simp, fun E hE => by rw [List.mem_singleton.1 hE]; exact ⟨hD, (Below.heap_setCell _ _ _ _ hDne).trans HDK.out⟩⟩ (fun w' hk => ?_)
    have h9 := cell_blk (k := 0) (hk.2 _ _ _ _ hze) rfl
    have hkk : KpO n0 ob v0.ownBlock w w' := ⟨((HIE.out.k.b0.trans (hbs.mono (Nat.zero_le _))).trans (hk.1.mono (Nat.zero_le _))), fun k h1 h2 h3 h4 => by
      have hne : k ≠ w.heap.size + 1 := by omega
      exact (hk.1.block k (by omega)).trans ((Below.heap_setCell _ _ _ _ hne).trans (HIE.out.k.same k h1 h2 h3 h4))⟩
    obtain ⟨v, hA, hO, hv⟩ := HIE.out.o
    have hAne : yb ≠ w.heap.size + 1 ∧ ob ≠ w.heap.size + 1 ∧ ab ≠ w.heap.size + 1 := by
      refine ⟨fun e => ?_, fun e => ?_, fun e => ?_⟩
      · have h1 := hA.y
        rw [e, HZE.out] at h1
        injection h1 with h1
        injection h1 with _ h1
        cases h1
      · have h1 := hA.o
        rw [e, HZE.out] at h1
        injection h1 with h1
        injection h1 with _ h1
        cases h1
      · have h1 := hA.a
        rw [e, HZE.out] at h1
        injection h1 with h1
        injection h1 with _ h1
        cases h1
    have hA' : AddW l n0 yb ob ab v (Wt.setCell ⟨w.heap.size + 1, 0, none⟩ (.bool true)) := ⟨(Below.heap_setCell _ _ _ _ hAne.1).trans hA.y, (Below.heap_setCell _ _ _ _ hAne.2.1).trans hA.o, (Below.heap_setCell _ _ _ _ hAne.2.2).trans hA.a, hA.ly, hA.lo, hA.la⟩
    have hO' : OwnO n0 v ord (Wt.setCell ⟨w.heap.size + 1, 0, none⟩ (.bool true)) := own_of_blocks hO fun B hB => Below.heap_setCell _ _ _ _ (fun e => by
      obtain ⟨_, cur, h2⟩ := own_at hO hB
      rw [e, HZE.out] at h2
      injection h2 with h2
      injection h2 with _ h2
      cases h2)
    exact ⟨.bool true, by simp [results, Try.results109, go_sem, h9], hkk, .inl ⟨rfl, by rw [ords_succ HR.out.2.2.2]; exact hJ _ _ _ (hJ _ _ _ HJE.out hbs) (hk.1.mono (by omega)), v, hA'.keep (fun b cs t hb => hk.2 b cs t _ hb), hO'.keep (fun b cs t hb => hk.2 b cs t _ hb), hv.imp id (fun ⟨g, a, b⟩ => ⟨g, a, by omega⟩)⟩⟩
  case stop =>
    rintro D c p Wt hD _ ⟨rfl, hI, hkm, hze⟩ hK
    have HM : Hid (Marks Wt w5.heap.size [D]) := Lib.hid ⟨by simp, fun E hE => by rw [List.mem_singleton.1 hE]; exact ⟨hD, hK⟩⟩
    have HII := Lib.hid hI; have HKW := Lib.hid hkm; have HZE := Lib.hid hze
    clear hI hK hkm hze
    simp only []
    refine (wpIn_wide (n := 3)).2 ?_
    go_wp2_with fail
    refine leaves_marks [D] Wt HM.out (fun w' hk => ?_)
    have hz := HSZ.out
    have h9 := cell_blk (k := 0) (hk.2 _ _ _ _ HZE.out) rfl
    obtain ⟨N, q, rest, hN, h2, h3, h4⟩ := HII.out
    exact ⟨.bool false, by simp [results, Try.results109, go_sem, h9], ⟨HKW.out.b0.trans (hk.1.mono (Nat.zero_le _)), fun k h1 h2 h3 h4 => (hk.1.block k (by omega)).trans (HKW.out.same k h1 h2 h3 h4)⟩, .inr ⟨rfl, N, q, rest, by omega, h2, h3, hJx _ _ _ _ h4 ⟨hk.1.mono (by omega), fun b cs t z _ hb => hk.2 b cs t z hb⟩⟩⟩
end
end Go.Proofs.Ytmppiiamcpjhnaa

namespace Go.Proofs.Ytmppiiamcpjhnaa
open Go.RowKit Go.Shelf
attribute [local go_sem] Oper.semAt_some

theorem sit_zero : sitL (((0 : Nat) : Int)) = [] := by
  refine List.eq_nil_iff_forall_not_mem.2 fun x hx => ?_
  have := (mem_sit.1 hx).2
  simp at this
theorem nil_sit {r : Nat} (hr : r < 2 ^ 10) (h : (sitL (r : Int)).length ≤ 0) : r = 0 := by
  have h1 : sitL (r : Int) = [] := List.eq_nil_of_length_eq_zero (by omega)
  refine Nat.eq_of_testBit_eq fun j => ?_
  cases hj : r.testBit j with
  | false => simp
  | true =>
    have : j ∈ sitL (r : Int) := mem_sit.2 ⟨testBit_lt hr hj, hj⟩
    rw [h1] at this
    cases this
theorem add_base {G : List Int → Prop} {l n0 yb ob ab n m : Nat} {J : List (List Int) → World → Prop} {Jx : Nat → List (List Int) → World → Prop} (hJ : ∀ s A B, J s A → Below n0 A B → J s B) (hJx : ∀ N s A B, Jx N s A → StabX n0 N A B → Jx N s B)
    (hY : ∀ (N : Nat) (pre : List (List Int)) (x : Value × List Int) W1, N ≤ W1.heap.size → n0 ≤ N → RowIs intR 3 N x.2 x.1 W1 → G x.2 → J pre W1 → YieldAt Fence.wide (n - 1) Try.prog l #[x.1] W1 fun e W' => KpN n0 W1 W' ∧ ((e = .returned (.bool true) ∧ J (pre ++ [x.2]) W') ∨ (e = .returned (.bool false) ∧ Jx N (pre ++ [x.2]) W')))
    (w : World) (pre : List (List Int)) (ord : List Int) (v : Value) (hl : ord.length ≤ 100) (hG : G ord) (hj : J pre w) (hC : AddW l n0 yb ob ab v w) (hO : OwnO n0 v ord w) :
    Calls Try.prog 109 #[.int .i64 ((0 : Nat) : Int), .pointer (some ⟨yb, 0, none⟩), .pointer (some ⟨ob, 0, none⟩), .pointer (some ⟨ab, 0, none⟩)] w fun e W' => KpO n0 ob v.ownBlock w W' ∧
      ((e = .returned (.bool true) ∧ J (pre ++ (ordsF m 0).map fun o => ord ++ o) W' ∧ ∃ v', AddW l n0 yb ob ab v' W' ∧ OwnO n0 v' ord W' ∧ (v'.ownBlock = v.ownBlock ∨ ∃ g, v'.ownBlock = some g ∧ w.heap.size ≤ g)) ∨
       (e = .returned (.bool false) ∧ ∃ N q rest, w.heap.size ≤ N ∧ ((ordsF m 0).map fun o => ord ++ o) = q ++ rest ∧ q ≠ [] ∧ Jx N (pre ++ q) W')) := by
  refine (add_zero hJ hJx hY w pre ord v hl hG hj hC hO).mono ?_
  rw [ords_zero]
  simp only [List.map_cons, List.map_nil, List.append_nil]
  rintro e W' ⟨hk, ⟨rfl, h⟩ | ⟨rfl, N, hN, h⟩⟩
  · exact ⟨KpO.of_kp hk, .inl ⟨rfl, h, v, hC.kp hk, hO.kp hk, .inl rfl⟩⟩
  · exact ⟨KpO.of_kp hk, .inr ⟨rfl, N, [ord], [], hN, rfl, by simp, h⟩⟩
theorem add_any {G : List Int → Prop} {l n0 yb ob ab n : Nat} {J : List (List Int) → World → Prop} {Jx : Nat → List (List Int) → World → Prop} (hJ : ∀ s A B, J s A → Below n0 A B → J s B) (hJx : ∀ N s A B, Jx N s A → StabX n0 N A B → Jx N s B)
    (hY : ∀ (N : Nat) (pre : List (List Int)) (x : Value × List Int) W1, N ≤ W1.heap.size → n0 ≤ N → RowIs intR 3 N x.2 x.1 W1 → G x.2 → J pre W1 → YieldAt Fence.wide (n - 1) Try.prog l #[x.1] W1 fun e W' => KpN n0 W1 W' ∧ ((e = .returned (.bool true) ∧ J (pre ++ [x.2]) W') ∨ (e = .returned (.bool false) ∧ Jx N (pre ++ [x.2]) W'))) : ∀ m, AddC G l n0 yb ob ab J Jx m
  | 0 => fun w pre ord v r hr hs hl hG hj hC hO => by
    obtain rfl := nil_sit hr hs
    exact add_base hJ hJx hY w pre ord v (by omega) (by have := hG [] (by rw [ords_zero]; simp); simpa using this) hj hC hO
  | m + 1 => fun w pre ord v r hr hs hl hG hj hC hO => by
    by_cases h0 : r = 0
    · subst h0
      exact add_base hJ hJx hY w pre ord v (by omega) (by have := hG [] (by rw [ords_zero]; simp); simpa using this) hj hC hO
    · exact add_succ hJ hJx (add_any hJ hJx hY m) w pre ord v r h0 hr hs hl hG hj hC hO
set_option maxRecDepth 100000 in
set_option maxHeartbeats 4000000 in
theorem orders_seq (n : Nat) {b1 s : Nat} {w : World} (h1 : w.heap[b1]? = some (.cells #[.int .i64 (s : Int)] 3 (0, 0))) (hs : s < 2 ^ 10) :
    SeqFS n Try.prog 108 #[.pointer (some ⟨b1, 0, none⟩)] (fun x : Value × List Int => #[x.1]) (fun N x W => (RowIs intR 3 N x.2 x.1 W ∧ x.2 ∈ ordsF 10 s) ∧ w.heap.size ≤ N) (fun xs => xs.map Prod.snd = ordsF 10 s) (fun pre => ∃ rest, ordsF 10 s = pre.map Prod.snd ++ rest ∧ pre ≠ []) w := by
  intro l J Jx W hW hJ hJx hY h0
  have hmf : ∀ (fn : Fn) (first cap : Array Value) (w : World), (Instr.makeFunc fn first cap).run Try.prog w = .ok (.func fn first cap) w := fun _ _ _ _ => rfl
  refine callsIn_wide.2 ?_
  obtain ⟨z0, z1, z2, hb⟩ := three_new W (.cells #[.func (.yield l) #[] #[]] 132) (.cells #[.slice none 0 0] 26) (.cells #[.func (.func 109) #[] #[.pointer (some ⟨W.heap.size, 0, none⟩), .pointer (some ⟨W.heap.size + 1, 0, none⟩), .pointer (some ⟨W.heap.size + 1 + 1, 0, none⟩)]] 39)
  obtain ⟨w3, hw3⟩ : ∃ z, ((W.alloc (.cells #[.func (.yield l) #[] #[]] 132)).alloc (.cells #[.slice none 0 0] 26)).alloc (.cells #[.func (.func 109) #[] #[.pointer (some ⟨W.heap.size, 0, none⟩), .pointer (some ⟨W.heap.size + 1, 0, none⟩), .pointer (some ⟨W.heap.size + 1 + 1, 0, none⟩)]] 39) = z := ⟨_, rfl⟩
  rw [hw3] at z0 z1 z2 hb
  have hJ' : ∀ s A B, (∃ q : List (Value × List Int), q.map Prod.snd = s ∧ J q A) → Below W.heap.size A B → ∃ q : List (Value × List Int), q.map Prod.snd = s ∧ J q B := fun s A B ⟨q, h1, h2⟩ hb => ⟨q, h1, hJ _ _ _ h2 hb⟩
  have hJx' : ∀ N s A B, (∃ q : List (Value × List Int), q.map Prod.snd = s ∧ Jx N q A) → StabX W.heap.size N A B → ∃ q : List (Value × List Int), q.map Prod.snd = s ∧ Jx N q B := fun N s A B ⟨q, h1, h2⟩ hb => ⟨q, h1, hJx _ _ _ _ h2 hb⟩
  have HC := Lib.hid (add_any (G := fun o => o ∈ ordsF 10 s) (l := l) (n0 := W.heap.size) (yb := W.heap.size) (ob := W.heap.size + 1) (ab := W.heap.size + 1 + 1) (n := n) (J := fun p W => ∃ q : List (Value × List Int), q.map Prod.snd = p ∧ J q W) (Jx := fun N p W => ∃ q : List (Value × List Int), q.map Prod.snd = p ∧ Jx N q W) hJ' hJx' (fun N pre x W1 hN hn hx hm ⟨q, h1, h2⟩ => (hY N q x W1 hN ⟨⟨hx, hm⟩, Nat.le_trans hW.size hn⟩ h2).mono (by
    rintro e W' ⟨hk, ⟨rfl, h⟩ | ⟨rfl, h⟩⟩
    · exact ⟨hk, .inl ⟨rfl, q ++ [x], by rw [List.map_append, h1]; rfl, h⟩⟩
    · exact ⟨hk, .inr ⟨rfl, q ++ [x], by rw [List.map_append, h1]; rfl, h⟩⟩)) 10 w3 [] [] (.slice none 0 0) s hs (sit_len10 _) (by decide) (fun o ho => ho) ⟨[], rfl, hJ _ _ _ h0 hb⟩ ⟨z0, z1, z2, Nat.le_refl _, Nat.le_succ _, by omega⟩ (World.ownsRow_nil _ _ _ _))
  have hbb := hW.trans (hb.mono hW.size)
  have d1 := cell_blk (k := 0) ((hbb.block _ (heapsz h1)).trans h1) rfl
  have k1 := cell_blk (k := 0) z2 rfl
  clear z0 z1 z2 hb hbb h1 hW hJ hJx hY h0 hJ' hJx'
  show Calls Try.prog 108 #[.func (.yield l) #[] #[], .pointer (some ⟨b1, 0, none⟩)] W _
  go_enter Try.func108, Try.ntmps108
  go_wp2_with fail
  clear hw3
  refine HC.out.mono ?_
  rintro e w4 ⟨_, ⟨rfl, h, _⟩ | ⟨rfl, N, q, rest, _, h3, h4, h5⟩⟩
  · have HH := Lib.hid h
    clear h d1 k1
    go_wp2_with fail
    go_end0
    obtain ⟨q, h1, h2⟩ := HH.out
    exact ⟨⟨_, rfl⟩, .inl ⟨q, by simpa using h1, h2⟩⟩
  · have HH := Lib.hid (And.intro h3 (And.intro h4 h5))
    clear h3 h4 h5 d1 k1
    go_wp2_with fail
    go_end0
    obtain ⟨q', h1, h2⟩ := HH.out.2.2
    rw [List.nil_append] at h1
    exact ⟨⟨_, rfl⟩, .inr ⟨N, q', ⟨rest, by rw [h1]; simpa using HH.out.1, fun e => HH.out.2.1 (by rw [← h1, e]; rfl)⟩, h2⟩⟩
theorem ordersOf_any (s : Nat) (w : World) :
    Calls Try.prog 94 #[.int .i64 (s : Int)] w fun e w' => e = .returned (.func (.func 108) #[] #[.pointer (some ⟨w.heap.size, 0, none⟩)]) ∧ w.alloc (.cells #[.int .i64 (s : Int)] 3) = w' := by
  have hmf : ∀ (fn : Fn) (first cap : Array Value) (w : World), (Instr.makeFunc fn first cap).run Try.prog w = .ok (.func fn first cap) w := fun _ _ _ _ => rfl
  go_enter Try.func94, Try.ntmps94
  go_wp2_with fail
  go_ret
  exact ⟨rfl, rfl⟩
end Go.Proofs.Ytmppiiamcpjhnaa

namespace Go.Proofs.Ytmppiiamcpjhnaa
open Go.RowKit Go.Shelf
attribute [local go_sem] Oper.semAt_some

theorem ords_mem : ∀ {m r : Nat} {o : List Int}, r < 2 ^ 10 → o ∈ ordsF m r → (o.map Int.toNat).map Int.ofNat = o ∧ o.length ≤ m ∧ ∀ x ∈ o.map Int.toNat, x ∈ sitL (r : Int)
  | 0, r, o, _, h => by
    simp only [ordsF, List.mem_singleton] at h
    subst h
    simp
  | m + 1, r, o, hr, h => by
    unfold ordsF at h
    split at h
    · simp only [List.mem_singleton] at h
      subst h
      simp
    · obtain ⟨x, hx, h1⟩ := List.mem_flatMap.1 h
      obtain ⟨o', h2, rfl⟩ := List.mem_map.1 h1
      obtain ⟨h3, h4, h5⟩ := ords_mem (dropS_lt hr) h2
      have hx1 := mem_sit.1 hx
      have hp : 2 ^ x < 2 ^ 64 := Nat.pow_lt_pow_right (by decide) (by omega)
      refine ⟨by rw [List.map_cons, List.map_cons, h3]; rfl, by rw [List.length_cons]; omega, fun y hy => ?_⟩
      rw [List.map_cons] at hy
      rcases List.mem_cons.1 hy with rfl | hy
      · exact hx
      · have h6 := mem_sit.1 (h5 y hy)
        rw [dropS_bit hp (by omega), Bool.and_eq_true] at h6
        exact mem_sit.2 ⟨h6.1, h6.2.1⟩
/-- Whether a house bears to wait so long. -/
def waitB (T : Tn) (h : Nat) (k : Int) : Bool := match T.hs[h]? with | some x => inB 0 k x.g | none => false
set_option maxRecDepth 100000 in
set_option maxHeartbeats 4000000 in
theorem until_any {w0 w : World} {M : Nat} {V : TV} {T : Tn} (hL : Lw w0 V T M w) {s h : Nat} (k : Int) (hh : h < V.nh) :
    Calls Try.prog 95 #[coV V s M, .int .i64 (h : Int), .int .i64 k] w fun e w' => e = .returned (.bool (waitB T h k)) ∧ Cw T M w w' := by
  have z := heap_alloc_new w (.cells (coC V s M) 89)
  have hb := (Below.refl w.heap.size w).alloc (Nat.le_refl _) (.cells (coC V s M) 89)
  obtain ⟨w1, hw1⟩ : ∃ z, w.alloc (.cells (coC V s M) 89) = z := ⟨_, rfl⟩
  rw [hw1] at z hb
  have HW := Lib.hid hw1; have HCW := Lib.hid (hL.cw0.up hb)
  have hT := (hL.up hb).tn
  have hn := hL.ns
  obtain ⟨ah, nh, ch, az, ns, cz⟩ := V
  obtain ⟨⟨v0, v1, v2, v3⟩, _⟩ := box4 z
  simp only at v0 v1 v2 v3 hn hh
  obtain ⟨x, hx⟩ := get_of_lt (l := T.hs) (k := h) (by omega)
  obtain ⟨b, o, hA, h1, d0, d1, d2⟩ := hs_el hT.hs hx
  simp only at hA
  subst hA
  have HX : Hid (waitB T h k = inB 0 k x.g) := Lib.hid (by unfold waitB; rw [hx])
  have k1 : (0 : Int) ≤ (h : Int) := by omega
  have k2 : (h : Int) < (nh : Int) := by omega
  clear z hb hw1 hL hT hn hx d0 d1
  have hw1 : w.alloc (.cells #[.slice (some ⟨b, o, none⟩) nh ch, .slice az ns cz, .int .i64 (s : Int), .map (some M)] 89) = w1 := HW.out
  go_enter Try.func95, Try.ntmps95
  go_wp2_with fail
  clear hw1
  refine (from_any _ _ _ _).mono ?_
  rintro e w2 ⟨rfl, rfl⟩
  clear v0 v1 v2 v3 d2
  go_wp2_with fail
  go_ret
  exact ⟨by rw [HX.out]; rfl, HCW.out⟩
end Go.Proofs.Ytmppiiamcpjhnaa

namespace Go.Proofs.Ytmppiiamcpjhnaa
open Go.RowKit Go.Shelf
attribute [local go_sem] Oper.semAt_some

/-- Whether all houses bear an order of repairs. -/
def goodB (T : Tn) (s : Nat) (o : List Int) : Bool := (List.range T.hs.length).all fun h => waitB T h (agI T s h (o.map Int.toNat))
def fgO (T : Tn) (s : Nat) (cs : List Nat) : Option (List Int) := (ordsF 10 (setL cs)).find? (goodB T s)
theorem good_no {T : Tn} {s k : Nat} {o : List Int} (hk : k < T.hs.length) (h : waitB T k (agI T s k (o.map Int.toNat)) = false) : goodB T s o = false := by
  unfold goodB
  refine List.all_eq_false.2 ⟨k, List.mem_range.2 hk, by simp [h]⟩
theorem good_yes {T : Tn} {s : Nat} {o : List Int} (h : ∀ k, k < T.hs.length → waitB T k (agI T s k (o.map Int.toNat)) = true) : goodB T s o = true := by
  unfold goodB
  exact List.all_eq_true.2 fun k hk => h k (List.mem_range.1 hk)
/-- What holds while orders are gone through. -/
structure FgI (T : Tn) (M s : Nat) (V : TV) (w : World) (p : List (List Int)) (W : World) : Prop where
  cw : Cw T M w W
  c : W.heap[w.heap.size]? = some (.cells (coC V s M) 89 (0, 0))
  r : W.heap[w.heap.size + 1]? = some (.cells #[.slice none 0 0] 26 (0, 0))
  b : W.heap[w.heap.size + 1 + 1]? = some (.cells #[.bool false] 4 (0, 0))
  all : ∀ y ∈ p, goodB T s y = false
structure FgX (T : Tn) (M s : Nat) (w : World) (N : Nat) (c : Code) (p : List (List Int)) (W : World) : Prop where
  cw : Cw T M w W
  ret : c = .exit 0
  b : W.heap[w.heap.size + 1 + 1]? = some (.cells #[.bool true] 4 (0, 0))
  ex : ∃ x p', p = p' ++ [x] ∧ (∀ y ∈ p', goodB T s y = false) ∧ goodB T s x = true ∧ ∃ v, W.heap[w.heap.size + 1]? = some (.cells #[v] 26 (0, 0)) ∧ RowIs intR 3 (max N w.heap.size) x v W
def f6Cv (B : Nat) (V : TV) (s M k : Nat) (v : Value) (g : Int) (q : Bool) : Tmp → Value
  | 2 => .pointer (some ⟨B, 0, none⟩)
  | 6 => v
  | 7 => .int .i64 (k : Int)
  | 19 => coV V s M
  | 20 => .int .i64 (k : Int)
  | 21 => coV V s M
  | 22 => .int .i64 (k : Int)
  | 23 => v
  | 24 => .int .i64 g
  | 25 => .bool q
  | 26 => .bool (!q)
  | _ => undef
def f9Cv (B : Nat) (v : Value) (b : Bool) : Tmp → Value
  | 4 => .pointer (some ⟨B + 1, 0, none⟩)
  | 5 => .pointer (some ⟨B + 1 + 1, 0, none⟩)
  | 29 => v
  | 30 => .bool b
  | _ => undef
theorem cellsK_same {n b : Nat} {u : World} {v : Value} {t : TypeId} (h : u.heap[b]? = some (.cells #[v] t (0, 0))) (hn : n ≤ b) : CellsK n u (u.setCell ⟨b, 0, none⟩ v) := by
  refine ⟨(Below.refl n u).setCell (p := ⟨b, 0, none⟩) hn v, fun k cs t' z hk => ?_⟩
  by_cases e : k = b
  · subst e
    rw [h] at hk
    injection hk with hk
    injection hk with h1 h2 h3
    subst h1 h2 h3
    have := blk_set h 0 v
    simpa using this
  · exact (Below.heap_setCell _ _ _ _ e).trans hk
section
attribute [local irreducible] QT
set_option maxRecDepth 100000 in
set_option maxHeartbeats 8000000 in
theorem firstGood_any {w0 w : World} {M : Nat} {V : TV} {T : Tn} (hL : Lw w0 V T M w) {s : Nat} (A : Option Addr) (n c : Nat) (cs : List Nat) (hs : s < 2 ^ V.ns) (hl : cs.length = n) (hn : n ≤ maxLen) (hA : IntsAt w w.heap.size A (cs.map Int.ofNat)) (hcs : ∀ x ∈ cs, x < V.ns) :
    Calls Try.prog 74 #[coV V s M, .slice A n c] w fun e w' => ∃ v, e = .returned (.tuple #[v, .bool (fgO T s cs).isSome]) ∧ Cw T M w w' ∧ RowIs intR 3 w.heap.size ((fgO T s cs).getD []) v w' := by
  obtain ⟨z0, z1, z2, hb⟩ := three_new w (.cells (coC V s M) 89) (.cells #[.slice none 0 0] 26) (.cells #[.bool false] 4)
  obtain ⟨w1, hw1⟩ : ∃ z, ((w.alloc (.cells (coC V s M) 89)).alloc (.cells #[.slice none 0 0] 26)).alloc (.cells #[.bool false] 4) = z := ⟨_, rfl⟩
  rw [hw1] at z0 z1 z2 hb
  have hN := hL.ns
  have p10 := pow10 hN.2.1
  have HL1 := Lib.hid (hL.up hb); have HI1 : Hid (FgI T M s V w [] w1) := Lib.hid ⟨hL.cw0.up hb, z0, z1, z2, fun y hy => by simp at hy⟩
  have HHS := Lib.hid (And.intro hs (And.intro hN hcs)); have HW1 := Lib.hid hw1
  have HL := Lib.hid hL
  obtain ⟨S, hS⟩ : ∃ S, setL cs = S := ⟨_, rfl⟩
  have HSS := Lib.hid hS
  have HS2 : Hid (S < 2 ^ V.ns) := Lib.hid (by rw [← hS]; exact setL_lt2 hcs)
  have HS10 : Hid (S < 2 ^ 10) := Lib.hid (Nat.lt_of_lt_of_le HS2.out p10)
  have HSO := Lib.hid (setOf_any A n c cs w1 hl hn (RowAt.up hA hb) (fun x hx => by have := hcs x hx; omega))
  rw [hS] at HSO
  obtain ⟨ah, nh, ch, az, ns, cz⟩ := V
  have hE108 : ∀ (args : Array Value) (w : World), (callFunc 108 args).run Try.prog w = .ok (.enter 108 args) w := enters_of Try.func108 (by kernel_rfl) rfl
  have hw1' : ((w.alloc (.cells #[.slice ah nh ch, .slice az ns cz, .int .i64 (s : Int), .map (some M)] 89)).alloc (.cells #[.slice none 0 0] 26)).alloc (.cells #[.bool false] 4) = w1 := hw1
  clear z0 z1 z2 hb hw1 hL hs hN hcs hA hl hn hS p10
  refine callsIn_wide.1 (callsIn_of_wp_marks (n := 5) Try.func74 rfl trivial (wpIn_wide.2 ?_) rfl)
  simp only [Try.ntmps74, List.size_toArray, List.length_cons, List.length_nil, Nat.reduceAdd, Nat.reduceSub, Array.replicate_succ, Array.replicate_zero, List.push_toArray, List.append_toArray, List.nil_append, List.cons_append]
  go_wp2_with fail
  refine wp_scope_straight (wp_seq (wp_label ?_))
  go_wp2_with fail
  clear hw1'
  refine HSO.out.mono ?_
  rintro e w2 ⟨rfl, rfl⟩
  go_wp2_with fail
  refine (ordersOf_any S w1).mono ?_
  rintro e w3 ⟨rfl, hw3⟩
  have y0 := heap_alloc_new w1 (.cells #[.int .i64 (S : Int)] 3)
  have hb3 := (Below.refl w1.heap.size w1).alloc (Nat.le_refl _) (.cells #[.int .i64 (S : Int)] 3)
  rw [hw3] at y0 hb3
  have HSQ := Lib.hid (orders_seq (5 - 1) y0 HS10.out)
  have HI3 : Hid (FgI T M s ⟨ah, nh, ch, az, ns, cz⟩ w [] w3) := Lib.hid ⟨HI1.out.cw.up hb3, (hb3.block _ (heapsz HI1.out.c)).trans HI1.out.c, (hb3.block _ (heapsz HI1.out.r)).trans HI1.out.r, (hb3.block _ (heapsz HI1.out.b)).trans HI1.out.b, fun y hy => by simp at hy⟩
  have HZ3 : Hid (w.heap.size + 3 ≤ w3.heap.size ∧ M < w.heap.size) := Lib.hid ⟨by have := heapsz HI3.out.b; omega, HI3.out.cw.lt⟩
  clear y0 hb3 hw3
  go_wp2_with fail
  refine (wpIn_wide (n := 5)).1 ?_
  refine wpIn_range_freeS (n := 5) (by decide) (gf := 108) (lb := #[.pointer (some ⟨w1.heap.size, 0, none⟩)]) rfl hE108 HSQ.out (fun N x A l o o' hx hl hoc => ⟨⟨hx.1.1.keep fun b cs _ hc => (World.putObj_heap_other (fun e => by
      subst e
      rw [hl] at hc
      injection hc with hc
      rw [hc] at hoc
      cases hoc)).trans hc, hx.1.2⟩, hx.2⟩) (fun _ => rfl)
    (fun p W => FgI T M s ⟨ah, nh, ch, az, ns, cz⟩ w (p.map Prod.snd) W) (fun N c p W => FgX T M s w N c (p.map Prod.snd) W)
    (fun p A B hI hA hb => by
      have hz := HZ3.out
      exact ⟨hI.cw.low (n := w3.heap.size) (by omega) hb, (hb.block _ (by omega)).trans hI.c, (hb.block _ (by omega)).trans hI.r, (hb.block _ (by omega)).trans hI.b, hI.all⟩)
    (fun N c p A B hI hA hb => by
      have hz := HZ3.out
      obtain ⟨x, p', h1, h2, h3, v, h4, h5⟩ := hI.ex
      exact ⟨hI.cw.low (n := w3.heap.size) (by omega) hb.bel, hI.ret, (hb.bel.block _ (by omega)).trans hI.b, x, p', h1, h2, h3, v, (hb.bel.block _ (by omega)).trans h4, h5.keep fun b cs hN hc => hb.cel b cs _ _ (by omega) hc⟩)
    HI3.out
    (fun x => { tmps := List.toArray ((coV ⟨ah, nh, ch, az, ns, cz⟩ s M) :: (Value.slice A n c) :: (Value.pointer (some ⟨w.heap.size, 0, none⟩)) :: undef :: (Value.pointer (some ⟨w.heap.size + 1, 0, none⟩)) :: (Value.pointer (some ⟨w.heap.size + 1 + 1, 0, none⟩)) :: x.1 :: undef :: (Value.slice A n c) :: (Value.int .i64 (S : Int)) :: (Value.func (.func 108) #[] #[.pointer (some ⟨w1.heap.size, 0, none⟩)]) :: x.1 :: undef :: undef :: undef :: undef :: undef :: undef :: undef :: undef :: undef :: undef :: undef :: undef :: undef :: undef :: undef :: undef :: undef :: undef :: undef :: []), defers := [] }) ?assign ?body ?done ?stop
  case assign =>
    intro l x Wt Kk hK
    gi_wp2
    exact hK
  case body =>
    rintro l N p ⟨v, o⟩ Wt hsz hNW ⟨⟨hrow, hmem⟩, hwN⟩ hI
    obtain ⟨A', c', hv, hRA, hlc⟩ := hrow.at_ (k := 1) (fun _ => rfl)
    simp only at hv hrow hmem hRA hlc
    subst hv
    have fol : Try.prog.follows .mixedOrders = true := by kernel_rfl
    obtain ⟨ho1, ho2, ho3⟩ := ords_mem HS10.out hmem
    have HI := Lib.hid hI; have HWS := Lib.hid hsz; have HROW := Lib.hid hrow
    have HLW := Lib.hid (HL.out.go hI.cw)
    have HC3 : Hid (∀ u, Cw T M Wt u → (u.cell? ⟨w.heap.size, 0, none⟩ = some (.slice ah nh ch) ∧ u.cell? ⟨w.heap.size, 1, none⟩ = some (.slice az ns cz) ∧ u.cell? ⟨w.heap.size, 2, none⟩ = some (.int .i64 (s : Int)) ∧ u.cell? ⟨w.heap.size, 3, none⟩ = some (.map (some M)))) := Lib.hid fun u hu =>
      (box4 (hu.cell HI.out.c (HLW.out.ne HI.out.c))).1
    have HAG : Hid (∀ u (k : Nat), k < nh → Cw T M Wt u → Calls Try.prog 71 #[coV ⟨ah, nh, ch, az, ns, cz⟩ s M, .int .i64 (k : Int), .slice A' o.length c'] u fun e u' => e = .returned (.int .i64 (agI T s k (o.map Int.toNat))) ∧ Cw T M Wt u') := Lib.hid fun u k hk hu => by
      refine (again_any (HLW.out.go hu) A' o.length c' (o.map Int.toNat) HHS.out.1 hk (by rw [List.length_map]) (by omega) hlc (by rw [ho1]; exact ints_cw HLW.out hu hRA) (fun x hx => testBit_lt HS2.out (mem_sit.1 (ho3 x hx)).2)).mono ?_
      rintro e w' ⟨rfl, hg⟩
      exact ⟨rfl, hu.trans hg⟩
    have HUN : Hid (∀ u (k : Nat) (g : Int), k < nh → Cw T M Wt u → Calls Try.prog 95 #[coV ⟨ah, nh, ch, az, ns, cz⟩ s M, .int .i64 (k : Int), .int .i64 g] u fun e u' => e = .returned (.bool (waitB T k g)) ∧ Cw T M Wt u') := Lib.hid fun u k g hk hu => by
      refine (until_any (HLW.out.go hu) g hk).mono ?_
      rintro e w' ⟨rfl, hg⟩
      exact ⟨rfl, hu.trans hg⟩
    have hnh : nh ≤ 6 := HHS.out.2.1.2.2.2
    have HNH : Hid (T.hs.length = nh) := Lib.hid HHS.out.2.1.2.2.1
    obtain ⟨p0, p1, p2, p3⟩ := HC3.out Wt HLW.out.cw0
    clear hI hsz hrow hmem hRA ho1 ho3
    dsimp only
    gi_wp2
    clear p0 p1 p2 p3
    gi_loopw [16] (fun ii wr => ∃ k : Nat, k ≤ nh ∧ ii = .int .i64 k ∧ (∀ j, j < k → waitB T j (agI T s j (o.map Int.toNat)) = true) ∧ Cw T M Wt wr) (fun ii _ => nh - (intOf ii).toNat)
    case atStart => exact ⟨0, by omega, rfl, fun j hj => by omega, HLW.out.cw0⟩
    case round =>
      obtain ⟨k, hk, rfl, hall, hcw⟩ := hrel
      have HALL := Lib.hid hall; have HCR := Lib.hid hcw
      by_cases hlt : k < nh
      · have k3 : (0 : Int) ≤ (k : Int) := by omega
        have k4 : (k : Int) < (nh : Int) := by omega
        obtain ⟨g, hg⟩ : ∃ g, agI T s k (o.map Int.toNat) = g := ⟨_, rfl⟩
        obtain ⟨q, hq⟩ : ∃ q, waitB T k g = q := ⟨_, rfl⟩
        have HQ : Hid (waitB T k (agI T s k (o.map Int.toNat)) = q) := Lib.hid (by rw [hg]; exact hq)
        have HG1 := Lib.hid hg; have HQ1 := Lib.hid hq
        clear hall hcw hg hq
        gi_wp2
        refine wpIn_region_any fol (wpAnyIn_round_of_wpAny (by kernel_rfl) (by rintro ⟨_, _, hq⟩; exact hq) _ _ _ _ ?_)
        refine plan_guarded_any (γ := Unit) [2, 6, 7] (fun _ => f6Cv w.heap.size ⟨ah, nh, ch, az, ns, cz⟩ s M k (.slice A' o.length c') g q) (fun _ _ u => Cw T M Wt u) () (by kernel_rfl) (by kernel_rfl) (by kernel_rfl) (by kernel_rfl) ?_ (HCR.out.up ((Below.refl wr.heap.size wr).drew)) ?_ ?_
        · intro t ht
          simp only [List.mem_cons, List.not_mem_nil, or_false] at ht
          rcases ht with rfl | rfl | rfl <;> rfl
        · refine allOps_array ?_
          refine ⟨?_, ?_, ?_, ?_, ?_, ?_, ?_, ?_, trivial⟩ <;> intro done _ u hS hu hdep _ <;> obtain ⟨p0, p1, p2, p3⟩ := HC3.out u hS
          · exact sameQ (T := fun u => Cw T M Wt u) hS 19 rfl rfl (by simp [go_sem, evalBy, f6Cv, p0, p1, p2, p3])
          · exact sameQ (T := fun u => Cw T M Wt u) hS 20 rfl rfl (by simp [go_sem, evalBy, f6Cv])
          · exact sameQ (T := fun u => Cw T M Wt u) hS 21 rfl rfl (by simp [go_sem, evalBy, f6Cv, p0, p1, p2, p3])
          · exact sameQ (T := fun u => Cw T M Wt u) hS 22 rfl rfl (by simp [go_sem, evalBy, f6Cv])
          · exact sameQ (T := fun u => Cw T M Wt u) hS 23 rfl rfl (by simp [go_sem, evalBy, f6Cv])
          · exact sameC (T := fun u => Cw T M Wt u) 24 rfl rfl 71 #[coV ⟨ah, nh, ch, az, ns, cz⟩ s M, .int .i64 (k : Int), .slice A' o.length c'] (by simp [go_sem, evalBy, f6Cv]) (by
              refine (HAG.out u k hlt hS).mono ?_
              rintro e w' ⟨rfl, h⟩
              exact ⟨by rw [HG1.out]; rfl, h⟩)
          · exact sameC (T := fun u => Cw T M Wt u) 25 rfl rfl 95 #[coV ⟨ah, nh, ch, az, ns, cz⟩ s M, .int .i64 (k : Int), .int .i64 g] (by simp [go_sem, evalBy, f6Cv]) (by
              refine (HUN.out u k g hlt hS).mono ?_
              rintro e w' ⟨rfl, h⟩
              exact ⟨by rw [HQ1.out]; rfl, h⟩)
          · exact sameQ (T := fun u => Cw T M Wt u) hS 26 rfl rfl (by simp [go_sem, evalBy, f6Cv])
        · intro _ u hS
          have HG := Lib.hid hS
          clear hS
          simp [putAll, Act.put, f6Cv]
          cases q with
          | true =>
            gi_wp2
            go_roundw
            case rel => exact ⟨k + 1, by omega, rfl, fun j hj => by
              rcases Nat.lt_succ_iff_lt_or_eq.1 hj with hj | rfl
              · exact HALL.out j hj
              · exact HQ.out, HG.out⟩
            case measure => simp [intOf]; omega
          | false =>
            gi_wp2
            have hz := HZ3.out
            have hws := HWS.out
            refine ⟨⟨HG.out.gr.size, fun k o hk ho _ => (HG.out.gr.block k (heapszO ho) (fun e => by injection e with e; omega)).trans ho⟩, ⟨HG.out.bel (Nat.zero_le _), fun k hk hlt => HG.out.gr.block k hlt (fun e => by injection e with e; omega)⟩, HI.out.cw.trans HG.out, HG.out.cell HI.out.c (HLW.out.ne HI.out.c), HG.out.cell HI.out.r (HLW.out.ne HI.out.r), HG.out.cell HI.out.b (HLW.out.ne HI.out.b), fun y hy => ?_⟩
            rw [List.map_append] at hy
            rcases List.mem_append.1 hy with hy | hy
            · exact HI.out.all y hy
            · rw [List.mem_singleton.1 hy]
              exact good_no (by rw [HNH.out]; exact hlt) HQ.out
      · obtain rfl : nh = k := by omega
        have k4 : ¬ (nh : Int) < (nh : Int) := by omega
        have HGD : Hid (goodB T s o = true) := Lib.hid (good_yes fun j hj => hall j (by rw [HNH.out] at hj; exact hj))
        have HG := Lib.hid hcw
        have zr := hcw.cell HI.out.r (HLW.out.ne HI.out.r)
        have zb := hcw.cell HI.out.b (HLW.out.ne HI.out.b)
        have cr := cell_blk (k := 0) zr rfl
        have cb := cell_blk (k := 0) zb rfl
        have fr : wr.frozen? ⟨w.heap.size + 1, 0, none⟩ = false := by simp [World.frozen?, zr]
        have fb : wr.frozen? ⟨w.heap.size + 1 + 1, 0, none⟩ = false := by simp [World.frozen?, zb]
        have HZR := Lib.hid zr; have HZB := Lib.hid zb
        clear hall hcw zr zb
        gi_wp2
        have hz := HZ3.out
        have hws := HWS.out
        have h12 : w.heap.size + 1 ≠ w.heap.size + 1 + 1 := by omega
        have h21 : w.heap.size + 1 + 1 ≠ w.heap.size + 1 := by omega
        have hsx : ∀ b, b ≠ w.heap.size + 1 → b ≠ w.heap.size + 1 + 1 → ((wr.setCell ⟨w.heap.size + 1, 0, none⟩ (.slice A' o.length c')).setCell ⟨w.heap.size + 1 + 1, 0, none⟩ (.bool true)).heap[b]? = wr.heap[b]? := fun b h1 h2 => (Below.heap_setCell _ _ _ _ h2).trans (Below.heap_setCell _ _ _ _ h1)
        have hkf : KeepsFrom w3.heap.size Wt wr := ⟨HG.out.gr.size, fun k o hk ho _ => (HG.out.gr.block k (heapszO ho) (fun e => by injection e with e; omega)).trans ho⟩
        refine ⟨(hkf.trans ((KeepsOthers.setCell _ _ _).from _)).trans ((KeepsOthers.setCell _ _ _).from _), ⟨(((HG.out.bel (Nat.zero_le _)).setCell (p := ⟨w.heap.size + 1, 0, none⟩) (Nat.zero_le _) _).setCell (p := ⟨w.heap.size + 1 + 1, 0, none⟩) (Nat.zero_le _) _), fun k hk hlt => (hsx k (by omega) (by omega)).trans (HG.out.gr.block k hlt (fun e => by injection e with e; omega))⟩, ((HI.out.cw.trans HG.out).put _ (by omega)).put _ (by omega), rfl, blk_set ((Below.heap_setCell _ _ _ _ h21).trans HZB.out) 0 _, o, p.map Prod.snd, by rw [List.map_append]; rfl, HI.out.all, HGD.out, _, (Below.heap_setCell _ _ _ _ h12).trans (blk_set HZR.out 0 _), ?_⟩
        refine (HROW.out.keep fun b cs hN hc => ?_).low (by omega)
        exact (hsx b (cells_ne hc HI.out.r (by decide)) (cells_ne hc HI.out.b (by decide))).trans (HG.out.cell hc (HLW.out.ne hc))
  case done =>
    rintro D ys Wt hD hys hI hK
    rw [hys] at hI
    have hfg : fgO T s cs = none := by
      unfold fgO
      rw [HSS.out, List.find?_eq_none]
      intro y hy
      rw [hI.all y hy]
      simp
    have HEE : Hid (fgO T s cs = none ∧ Cw T M w Wt ∧ RowIs intR 3 w.heap.size [] (.slice none 0 0) Wt) := Lib.hid ⟨hfg, hI.cw, .inl ⟨rfl, rfl⟩⟩
    have hzr := hI.r
    have hzb := hI.b
    clear hI hys hfg
    have h9 := cell_blk (k := 0) hzr rfl
    have hF : ∀ u, CellsK w.heap.size Wt u → u.heap[w.heap.size + 1]? = some (.cells #[(.slice none 0 0)] 26 (0, 0)) ∧ u.heap[w.heap.size + 1 + 1]? = some (.cells #[.bool false] 4 (0, 0)) := fun u hu => ⟨hu.2 _ _ _ _ hzr, hu.2 _ _ _ _ hzb⟩
    have HF := Lib.hid hF
    have HDK := Lib.hid hK
    clear h9 hzr hzb hF hK
    simp only [Exit.inBlock, Exit.then]
    go_wp2_with fail
    refine wp_region_any (by kernel_rfl) (plan_guarded_any (γ := Unit) [4, 5] (fun _ => f9Cv w.heap.size (.slice none 0 0) false) (fun _ _ u => CellsK w.heap.size Wt u ∧ u.heap[D]? = some (.deferred (some []))) () (by kernel_rfl) (by kernel_rfl) (by kernel_rfl) (by kernel_rfl) ?_ ?_ ?_ ?_)
    · intro t ht
      simp only [List.mem_cons, List.not_mem_nil, or_false] at ht
      rcases ht with rfl | rfl <;> rfl
    · exact ⟨⟨(Below.refl _ _).drew, fun b cs t z hb => hb⟩, HDK.out⟩
    · refine allOps_array ?_
      refine ⟨?_, ?_, ?_, ?_, trivial⟩ <;> intro done _ u hS hu hdep _ <;> obtain ⟨zr, zb⟩ := HF.out u hS.1 <;> have pr := cell_blk (k := 0) zr rfl <;> have pb := cell_blk (k := 0) zb rfl
      · exact sameQ (T := fun u => CellsK w.heap.size Wt u ∧ u.heap[D]? = some (.deferred (some []))) hS 29 rfl rfl (by simp [go_sem, evalBy, f9Cv, pr])
      · exact sameQ (T := fun u => CellsK w.heap.size Wt u ∧ u.heap[D]? = some (.deferred (some []))) hS 30 rfl rfl (by simp [go_sem, evalBy, f9Cv, pb])
      · have fr : u.frozen? ⟨w.heap.size + 1, 0, none⟩ = false := by simp [World.frozen?, zr]
        have hne : D ≠ w.heap.size + 1 := fun e => by rw [← e, hS.2] at zr; cases zr
        exact sameS (T := fun u => CellsK w.heap.size Wt u ∧ u.heap[D]? = some (.deferred (some []))) (u' := u.setCell ⟨w.heap.size + 1, 0, none⟩ (.slice none 0 0)) ⟨hS.1.trans (cellsK_same zr (by omega)), (Below.heap_setCell _ _ _ _ hne).trans hS.2⟩ rfl rfl (by simp [go_sem, evalBy, f9Cv, pr, fr])
      · have fb : u.frozen? ⟨w.heap.size + 1 + 1, 0, none⟩ = false := by simp [World.frozen?, zb]
        have hne : D ≠ w.heap.size + 1 + 1 := fun e => by rw [← e, hS.2] at zb; cases zb
        exact sameS (T := fun u => CellsK w.heap.size Wt u ∧ u.heap[D]? = some (.deferred (some []))) (u' := u.setCell ⟨w.heap.size + 1 + 1, 0, none⟩ (.bool false)) ⟨hS.1.trans (cellsK_same zb (by omega)), (Below.heap_setCell _ _ _ _ hne).trans hS.2⟩ rfl rfl (by simp [go_sem, evalBy, f9Cv, pb, fb])
    · intro _ u hS
      have HG := Lib.hid hS
      clear hS
      simp [putAll, Act.put, f9Cv]
      go_wp2_with fail
      refine leaves_marks [D] u (B := w3.heap.size) ⟨by simp, fun E hE => by rw [List.mem_singleton.1 hE]; exact ⟨hD, HG.out.2⟩⟩ (fun w' hk => ?_)
      have hz := HZ3.out
      have hkk : CellsK w.heap.size Wt w' := HG.out.1.trans ⟨hk.1.mono (by omega), hk.2⟩
      obtain ⟨zr, zb⟩ := HF.out w' hkk
      have pr := cell_blk (k := 0) zr rfl
      have pb := cell_blk (k := 0) zb rfl
      refine ⟨.tuple #[(.slice none 0 0), .bool false], by simp [results, Try.results74, go_sem, pr, pb], (.slice none 0 0), by rw [HEE.out.1]; rfl, HEE.out.2.1.low (n := w.heap.size) (Nat.le_refl _) hkk.1, ?_⟩
      rw [HEE.out.1]
      exact HEE.out.2.2.keep fun b cs _ hc => hkk.2 b cs _ _ hc
  case stop =>
    rintro D N c2 p Wt hD ⟨rest, hsp, _⟩ hX hK
    obtain ⟨hcw, rfl, hzb, x, p', h1, h2, h3, v, hzr, h5⟩ := hX
    have hfg : fgO T s cs = some x := by
      unfold fgO
      rw [HSS.out, hsp, h1, List.append_assoc]
      exact find_first _ _ _ h2 h3
    obtain ⟨A3, c3, rfl⟩ := h5.len
    have HEE := Lib.hid (And.intro hfg (And.intro hcw (h5.low (Nat.le_max_right _ _))))
    clear hcw h1 h2 h3 h5 hsp hfg
    have h9 := cell_blk (k := 0) hzr rfl
    have hF : ∀ u, CellsK w.heap.size Wt u → u.heap[w.heap.size + 1]? = some (.cells #[(.slice A3 x.length c3)] 26 (0, 0)) ∧ u.heap[w.heap.size + 1 + 1]? = some (.cells #[.bool true] 4 (0, 0)) := fun u hu => ⟨hu.2 _ _ _ _ hzr, hu.2 _ _ _ _ hzb⟩
    have HF := Lib.hid hF
    have HDK := Lib.hid hK
    clear h9 hzr hzb hF hK
    simp only []
    refine (wpIn_wide (n := 5)).2 ?_
    go_wp2_with fail
    refine wp_region_any (by kernel_rfl) (plan_guarded_any (γ := Unit) [4, 5] (fun _ => f9Cv w.heap.size (.slice A3 x.length c3) true) (fun _ _ u => CellsK w.heap.size Wt u ∧ u.heap[D]? = some (.deferred (some []))) () (by kernel_rfl) (by kernel_rfl) (by kernel_rfl) (by kernel_rfl) ?_ ?_ ?_ ?_)
    · intro t ht
      simp only [List.mem_cons, List.not_mem_nil, or_false] at ht
      rcases ht with rfl | rfl <;> rfl
    · exact ⟨⟨(Below.refl _ _).drew, fun b cs t z hb => hb⟩, HDK.out⟩
    · refine allOps_array ?_
      refine ⟨?_, ?_, ?_, ?_, trivial⟩ <;> intro done _ u hS hu hdep _ <;> obtain ⟨zr, zb⟩ := HF.out u hS.1 <;> have pr := cell_blk (k := 0) zr rfl <;> have pb := cell_blk (k := 0) zb rfl
      · exact sameQ (T := fun u => CellsK w.heap.size Wt u ∧ u.heap[D]? = some (.deferred (some []))) hS 29 rfl rfl (by simp [go_sem, evalBy, f9Cv, pr])
      · exact sameQ (T := fun u => CellsK w.heap.size Wt u ∧ u.heap[D]? = some (.deferred (some []))) hS 30 rfl rfl (by simp [go_sem, evalBy, f9Cv, pb])
      · have fr : u.frozen? ⟨w.heap.size + 1, 0, none⟩ = false := by simp [World.frozen?, zr]
        have hne : D ≠ w.heap.size + 1 := fun e => by rw [← e, hS.2] at zr; cases zr
        exact sameS (T := fun u => CellsK w.heap.size Wt u ∧ u.heap[D]? = some (.deferred (some []))) (u' := u.setCell ⟨w.heap.size + 1, 0, none⟩ (.slice A3 x.length c3)) ⟨hS.1.trans (cellsK_same zr (by omega)), (Below.heap_setCell _ _ _ _ hne).trans hS.2⟩ rfl rfl (by simp [go_sem, evalBy, f9Cv, pr, fr])
      · have fb : u.frozen? ⟨w.heap.size + 1 + 1, 0, none⟩ = false := by simp [World.frozen?, zb]
        have hne : D ≠ w.heap.size + 1 + 1 := fun e => by rw [← e, hS.2] at zb; cases zb
        exact sameS (T := fun u => CellsK w.heap.size Wt u ∧ u.heap[D]? = some (.deferred (some []))) (u' := u.setCell ⟨w.heap.size + 1 + 1, 0, none⟩ (.bool true)) ⟨hS.1.trans (cellsK_same zb (by omega)), (Below.heap_setCell _ _ _ _ hne).trans hS.2⟩ rfl rfl (by simp [go_sem, evalBy, f9Cv, pb, fb])
    · intro _ u hS
      have HG := Lib.hid hS
      clear hS
      simp [putAll, Act.put, f9Cv]
      go_wp2_with fail
      refine leaves_marks [D] u (B := w3.heap.size) ⟨by simp, fun E hE => by rw [List.mem_singleton.1 hE]; exact ⟨hD, HG.out.2⟩⟩ (fun w' hk => ?_)
      have hz := HZ3.out
      have hkk : CellsK w.heap.size Wt w' := HG.out.1.trans ⟨hk.1.mono (by omega), hk.2⟩
      obtain ⟨zr, zb⟩ := HF.out w' hkk
      have pr := cell_blk (k := 0) zr rfl
      have pb := cell_blk (k := 0) zb rfl
      refine ⟨.tuple #[(.slice A3 x.length c3), .bool true], by simp [results, Try.results74, go_sem, pr, pb], (.slice A3 x.length c3), by rw [HEE.out.1]; rfl, HEE.out.2.1.low (n := w.heap.size) (Nat.le_refl _) hkk.1, ?_⟩
      rw [HEE.out.1]
      exact HEE.out.2.2.keep fun b cs _ hc => hkk.2 b cs _ _ hc
end
end Go.Proofs.Ytmppiiamcpjhnaa
