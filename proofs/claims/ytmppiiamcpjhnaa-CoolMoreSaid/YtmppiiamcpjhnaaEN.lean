/- Coolers: the law CoolMore. -/
import Derived.Test.YtmppiiamcpjhnaaEM
namespace Go.Proofs.Ytmppiiamcpjhnaa
open Go.RowKit Go.Shelf

theorem info74 : ∃ i z, Try.prog.info? 74 = some i ∧ i.zero = some z ∧ i.size = 3 ∧ i.bytes = 24 ∧ z.cells.size = 3 := by
  have a1 : (Try.prog.info? 74).map (fun i => (i.size, i.bytes)) = some (3, 24) := by decide +kernel
  have a2 : (Try.prog.info? 74).map (fun i => i.zero.map fun z => z.cells.size) = some (some 3) := by decide +kernel
  cases h : Try.prog.info? 74 with
  | none => rw [h] at a1; cases a1
  | some i =>
    rw [h] at a1 a2
    simp only [Option.map_some, Option.some.injEq, Prod.mk.injEq] at a1
    cases hz : i.zero with
    | none => rw [Option.map_some, hz] at a2; cases a2
    | some z =>
      rw [Option.map_some, hz] at a2
      exact ⟨i, z, rfl, hz, a1.1, a1.2, by simpa using a2⟩
theorem cell_below {B : Nat} {w w' : World} {a : Addr} {v : Value} (hb : Below w.heap.size w w') (h : w.cell? a = some v) (hB : B < w.heap.size) : w'.cell? a = some v := by
  have _ := hB
  obtain ⟨b, o, p⟩ := a
  by_cases hlt : b < w.heap.size
  · have e := hb.block b hlt
    simp only [World.cell?, e] at h ⊢
    exact h
  · simp [World.cell?, Array.getElem?_eq_none (Nat.le_of_not_lt hlt)] at h
theorem row_some {l : List Hs} {B : Nat} {v : Value} {w : World} (h : RowIs hsR 74 B l v w) (hn : 0 < l.length) : ∃ g cp cur, v = .slice (some ⟨g, 0, none⟩) l.length cp ∧ B ≤ g ∧ w.heap[g]? = some (.cells cur 74 (0, 0)) ∧ ∀ (i : Nat) (x : Value), (flatR hsR l)[i]? = some x → cur[i]? = some x := by
  rcases h with ⟨rfl, _⟩ | ⟨b, c, h1, h2, _, cs, h4, h5⟩
  · simp at hn
  · exact ⟨b, c, cs, h1, h2, h4, h5⟩
def anyF (_ : Nat) (_ : Value) (_ : World) : Prop := True
def mo12 (N M g h nh cp : Nat) (a b d m : Int) : Tmp → Value
  | 15 => .pointer (some ⟨N, 0, none⟩)
  | 4 => .int .i64 (h : Int)
  | 16 => .pointer (some ⟨M, 0, none⟩)
  | 5 => .int .i64 d
  | 109 => .pointer (some ⟨N, 0, none⟩)
  | 110 => .slice (some ⟨g, 0, none⟩) nh cp
  | 111 => .int .i64 (h : Int)
  | 112 => .pointer (some ⟨M, 0, none⟩)
  | 113 => .int .i64 a
  | 114 => .pointer (some ⟨M, 0, none⟩)
  | 115 => .int .i64 a
  | 116 => .pointer (some ⟨M, 1, none⟩)
  | 117 => .int .i64 b
  | 118 => .int .i64 d
  | 119 => .int .i64 (b - d)
  | 120 => .int .i64 m
  | 121 => .agg #[.int .i64 a, .int .i64 m]
  | 122 => .pointer (some ⟨g, h * 3, none⟩)
  | 123 => .pointer (some ⟨g, h * 3, none⟩)
  | _ => undef
theorem frz2 {w : World} {b : Nat} {x y : Value} {T : TypeId} (z : w.heap[b]? = some (.cells #[x, y] T (0, 0))) : w.frozen? ⟨b, 0, none⟩ = false ∧ w.frozen? ⟨b, 1, none⟩ = false := ⟨by simp [World.frozen?, z], by simp [World.frozen?, z]⟩
set_option maxRecDepth 100000 in
set_option maxHeartbeats 16000000 in
theorem more_law (V : TV) (T : Tn) (A : Option Addr) (n c : Nat) (bo : List Int) (f site house less : Int) (w : World) (hN : TnAt w w.heap.size V T) (hl : bo.length = n) (hn : n ≤ maxLen) (hA : IntsAt w w.heap.size A bo) :
    Calls Try.prog 12 #[tvV V, .slice A n c, .int .i64 f, .int .i64 site, .int .i64 house, .int .i64 less] w fun e w' => e = .returned (.bool true) ∧ Below w.heap.size w w' := by
  have z := heap_alloc_new w (.cells (tvC V) 25)
  have hb := (Below.refl w.heap.size w).alloc (Nat.le_refl _) (.cells (tvC V) 25)
  obtain ⟨w1, hw1⟩ : ∃ z, w.alloc (.cells (tvC V) 25) = z := ⟨_, rfl⟩
  rw [hw1] at z hb
  have HL := Lib.hid hl; have HNN := Lib.hid hn
  have HA1 := Lib.hid (RowAt.up hA hb); have HN1 := Lib.hid (hN.up hb); have HB1 := Lib.hid hb; have HZ1 := Lib.hid z
  have HNS := Lib.hid hN.ns; have HNH := Lib.hid hN.nh
  obtain ⟨i0, hi0, hz0, hz1, hz2⟩ := info_parts int_info
  obtain ⟨ah, nh, ch, az, ns, cz⟩ := V
  obtain ⟨v0, v1⟩ := box2 z
  simp only at v0 v1
  unfold maxLen at hn
  have hw1' : w.alloc (.cells #[.slice ah nh ch, .slice az ns cz] 25) = w1 := hw1
  clear z hb hw1 hN hl hA
  go_enter Try.func12, Try.ntmps12
  go_wp2_with fail
  clear hw1'
  refine (short_any _ T _ HN1.out).mono ?_
  rintro e w2 ⟨rfl, hb⟩
  have HZ2 := Lib.hid ((hb.block _ (heapsz HZ1.out)).trans HZ1.out)
  have HB2 := Lib.hid (HB1.out.trans (hb.mono HB1.out.size))
  have HN2 := Lib.hid (HN1.out.up hb)
  have HA2 := Lib.hid (RowAt.up HA1.out hb)
  clear hb
  clear v0 v1
  obtain ⟨v0, v1⟩ := box2 HZ2.out
  cases shortB T
  · clear v0 v1
    go_wp2_with fail
    refine (known_any _).mono ?_
    rintro e wk ⟨rfl, hbk⟩
    have HBK := Lib.hid (HB2.out.trans (hbk.mono HB2.out.size))
    clear hbk
    go_wp2_with fail
    go_ret
    exact ⟨rfl, HBK.out⟩
  by_cases h15 : (15 : Int) < (n : Int)
  · go_wp2_with fail
    clear v0 v1
    refine (known_any _).mono ?_
    rintro e wk ⟨rfl, hbk⟩
    have HBK := Lib.hid (HB2.out.trans (hbk.mono HB2.out.size))
    clear hbk
    go_wp2_with fail
    go_ret
    exact ⟨rfl, HBK.out⟩
  go_wp2_with fail
  refine (asked_any _ T A n c bo _ HN2.out HL.out HNN.out HA2.out).mono ?_
  rintro e w3 ⟨rfl, hb⟩
  have HZ3 := Lib.hid ((hb.block _ (heapsz HZ2.out)).trans HZ2.out)
  have HB3 := Lib.hid (HB2.out.trans (hb.mono HB2.out.size))
  have HN3 := Lib.hid (HN2.out.up hb)
  have HA3 := Lib.hid (RowAt.up HA2.out hb)
  clear hb
  clear v0 v1
  obtain ⟨v0, v1⟩ := box2 HZ3.out
  cases hask : (tnB T && coolB T bo)
  · clear v0 v1 hask
    go_wp2_with fail
    refine (known_any _).mono ?_
    rintro e wk ⟨rfl, hbk⟩
    have HBK := Lib.hid (HB3.out.trans (hbk.mono HB3.out.size))
    clear hbk
    go_wp2_with fail
    go_ret
    exact ⟨rfl, HBK.out⟩
  have h0 : coolI T bo = 0 := by unfold coolI; rw [hask]; rfl
  obtain ⟨hK, hC⟩ := town_ok h0
  have HKC := Lib.hid (And.intro hK hC)
  have h10 := hK.s10
  have h6 := hK.h6
  have hns10 : ns ≤ 10 := by have h1 : T.ss.length = ns := HNS.out; omega
  have hnh6 : nh ≤ 6 := by have h1 : T.hs.length = nh := HNH.out; omega
  clear hask hK hC h0 h10 h6
  go_wp2_with fail
  refine (rfails_any _ _).mono ?_
  rintro e w' ⟨rfl, rfl⟩
  cases hf : inB 0 f 3
  · clear v0 v1 hf
    go_wp2_with fail
    refine (known_any _).mono ?_
    rintro e wk ⟨rfl, hbk⟩
    have HBK := Lib.hid (HB3.out.trans (hbk.mono HB3.out.size))
    clear hbk
    go_wp2_with fail
    go_ret
    exact ⟨rfl, HBK.out⟩
  have HF := Lib.hid hf
  clear hf
  by_cases hs1 : site < 0
  · go_wp2_with fail
    clear v0 v1
    refine (known_any _).mono ?_
    rintro e wk ⟨rfl, hbk⟩
    have HBK := Lib.hid (HB3.out.trans (hbk.mono HB3.out.size))
    clear hbk
    go_wp2_with fail
    go_ret
    exact ⟨rfl, HBK.out⟩
  by_cases hs2 : (ns : Int) ≤ site
  · go_wp2_with fail
    clear v0 v1
    refine (known_any _).mono ?_
    rintro e wk ⟨rfl, hbk⟩
    have HBK := Lib.hid (HB3.out.trans (hbk.mono HB3.out.size))
    clear hbk
    go_wp2_with fail
    go_ret
    exact ⟨rfl, HBK.out⟩
  by_cases hh1 : house < 0
  · go_wp2_with fail
    clear v0 v1
    refine (known_any _).mono ?_
    rintro e wk ⟨rfl, hbk⟩
    have HBK := Lib.hid (HB3.out.trans (hbk.mono HB3.out.size))
    clear hbk
    go_wp2_with fail
    go_ret
    exact ⟨rfl, HBK.out⟩
  by_cases hh2 : (nh : Int) ≤ house
  · go_wp2_with fail
    clear v0 v1
    refine (known_any _).mono ?_
    rintro e wk ⟨rfl, hbk⟩
    have HBK := Lib.hid (HB3.out.trans (hbk.mono HB3.out.size))
    clear hbk
    go_wp2_with fail
    go_ret
    exact ⟨rfl, HBK.out⟩
  by_cases hl1 : less < 0
  · go_wp2_with fail
    clear v0 v1
    refine (known_any _).mono ?_
    rintro e wk ⟨rfl, hbk⟩
    have HBK := Lib.hid (HB3.out.trans (hbk.mono HB3.out.size))
    clear hbk
    go_wp2_with fail
    go_ret
    exact ⟨rfl, HBK.out⟩
  by_cases hl2 : (1000000 : Int) < less
  · go_wp2_with fail
    clear v0 v1
    refine (known_any _).mono ?_
    rintro e wk ⟨rfl, hbk⟩
    have HBK := Lib.hid (HB3.out.trans (hbk.mono HB3.out.size))
    clear hbk
    go_wp2_with fail
    go_ret
    exact ⟨rfl, HBK.out⟩
  have HM := Lib.hid (more_all (s := site.toNat) (h := house.toNat) HKC.out.1 HKC.out.2 HF.out (show 0 ≤ less by omega))
  obtain ⟨s, hs⟩ : ∃ j : Nat, site.toNat = j := ⟨_, rfl⟩
  obtain ⟨h, hh⟩ : ∃ j : Nat, house.toNat = j := ⟨_, rfl⟩
  rw [hs, hh] at HM
  obtain rfl : site = (s : Int) := by omega
  obtain rfl : house = (h : Int) := by omega
  have s0 : (0 : Int) ≤ (s : Int) := by omega
  have s1 : ¬ (s : Int) < 0 := by omega
  have s2 : ¬ (ns : Int) ≤ (s : Int) := by omega
  have t1 : ¬ (h : Int) < 0 := by omega
  have t2 : ¬ (nh : Int) ≤ (h : Int) := by omega
  have u1 : ¬ less < 0 := by omega
  have u2 : ¬ (1000000 : Int) < less := by omega
  have HRG := Lib.hid (show (s : Int) < (ns : Int) ∧ (h : Int) < (nh : Int) ∧ 0 ≤ less ∧ less ≤ 1000000 by omega)
  clear hs1 hs2 hh1 hh2 hl1 hl2 hs hh
  go_wp2_with fail
  simp only [decide_eq_false (show ¬ (15 : Int) < (n : Int) by omega), decide_eq_false (show ¬ (s : Int) < 0 by omega), decide_eq_false (show ¬ ns ≤ s by omega), decide_eq_false (show ¬ (h : Int) < 0 by omega), decide_eq_false (show ¬ nh ≤ h by omega), decide_eq_false (show ¬ less < 0 by omega), decide_eq_false (show ¬ (1000000 : Int) < less by omega), Bool.or_false]
  clear s0 s1 s2 t1 t2 u1 u2
  clear v0 v1
  go_loopw [13, 14] (fun vv ii wr => ∃ k : Nat, k ≤ ns ∧ ii = .int .i64 k ∧ Below w3.heap.size w3 wr ∧ wr.ownsRow w3.heap.size 3 1 vv (moreN bo s k).length (flatR intR (moreN bo s k))) (fun _ ii _ => ns - (intOf ii).toNat)
  case atStart => exact ⟨0, by omega, rfl, Below.refl _ _, World.ownsRow_nil _ _ _ _⟩
  case round =>
    obtain ⟨k, hk, rfl, hbr, hown⟩ := hrel
    have HBR := Lib.hid hbr; have HOWN := Lib.hid hown
    obtain ⟨v0, v1⟩ := box2 ((hbr.block _ (heapsz HZ3.out)).trans HZ3.out)
    have hsz : w3.heap.size ≤ wr.heap.size := hbr.size
    clear hown
    by_cases hlt : k < ns
    · have k3 : (0 : Int) ≤ (k : Int) := by omega
      have k4 : (k : Int) < (ns : Int) := by omega
      have hlen := moreN_len bo s k
      obtain ⟨L, hL⟩ : ∃ z, moreN bo s k = z := ⟨_, rfl⟩
      by_cases hks : (k : Int) = (s : Int)
      · obtain rfl : k = s := by omega
        have HR := Lib.hid (moreN_yes (bo := bo) (s := k) (k := k) (.inl rfl))
        rw [hL] at HR HOWN hlen
        clear hL hbr hks
        go_wp2_with (first
          | (at_builtin
             refine wpList_append_own _ rfl _ _ 26 rfl w3.heap.size 3 i0 _ 1 8 Try.underlying26 hi0 hz0 hz1 hz2 rfl (by decide) _ _ _ rfl (own_next HOWN.out ((Below.refl _ wr).alloc (Nat.le_refl _) _)) ⟨wr.heap.size, 0, none⟩ 1 1 [.int .i64 (k : Int)] rfl rfl (cells_new wr [.int .i64 (k : Int)] 3) (by simp [Value.oneCell']) (by unfold maxLen; omega) (by omega) (by simp; omega) ?_
             intro v' w6 hown6 hgr6 hnil6)
          | fail)
        refine ⟨⟨k + 1, by omega, rfl, ?_, ?_⟩, by simp [intOf]; omega⟩
        · have hb6 : Below w3.heap.size w3 (wr.alloc (.cells #[.int .i64 (k : Int)] 3)) := HBR.out.alloc hsz _
          exact hb6.grown hgr6 hb6.size (fun q e => (own_at HOWN.out e).1)
        · rw [HR.out, flatR_snoc, List.length_append]
          exact hown6
      · have hkb : ((k : Int) == (s : Int)) = false := beq_eq_false_iff_ne.2 hks
        have HHS := Lib.hid (has_any A n c bo (k : Int) wr HL.out HNN.out (RowAt.next HA3.out hbr hbr.size))
        by_cases hin : (k : Int) ∈ bo
        · have HR := Lib.hid (moreN_yes (s := s) (.inr hin))
          rw [decide_eq_true hin] at HHS
          rw [hL] at HR HOWN hlen
          clear hL hbr hin
          go_wp2_with fail
          refine HHS.out.mono ?_
          rintro e w2 ⟨rfl, rfl⟩
          clear HHS
          go_wp2_with (first
            | (at_builtin
               refine wpList_append_own _ rfl _ _ 26 rfl w3.heap.size 3 i0 _ 1 8 Try.underlying26 hi0 hz0 hz1 hz2 rfl (by decide) _ _ _ rfl (own_next HOWN.out ((Below.refl _ wr).alloc (Nat.le_refl _) _)) ⟨wr.heap.size, 0, none⟩ 1 1 [.int .i64 (k : Int)] rfl rfl (cells_new wr [.int .i64 (k : Int)] 3) (by simp [Value.oneCell']) (by unfold maxLen; omega) (by omega) (by simp; omega) ?_
               intro v' w6 hown6 hgr6 hnil6)
            | fail)
          refine ⟨⟨k + 1, by omega, rfl, ?_, ?_⟩, by simp [intOf]; omega⟩
          · have hb6 : Below w3.heap.size w3 (wr.alloc (.cells #[.int .i64 (k : Int)] 3)) := HBR.out.alloc hsz _
            exact hb6.grown hgr6 hb6.size (fun q e => (own_at HOWN.out e).1)
          · rw [HR.out, flatR_snoc, List.length_append]
            exact hown6
        · have HR := Lib.hid (moreN_no (bo := bo) (s := s) (k := k) (by omega) hin)
          rw [decide_eq_false hin] at HHS
          rw [hL] at HR HOWN hlen
          clear hL hbr hin
          go_wp2_with fail
          refine HHS.out.mono ?_
          rintro e w2 ⟨rfl, rfl⟩
          clear HHS
          go_wp2_with fail
          exact ⟨⟨k + 1, by omega, rfl, HBR.out, by rw [HR.out]; exact HOWN.out⟩, by simp [intOf]; omega⟩
    · obtain rfl : ns = k := by omega
      have k4 : ¬ (ns : Int) < (ns : Int) := by omega
      clear v0 v1
      obtain ⟨w4, rfl⟩ : ∃ z : World, z = wr := ⟨_, rfl⟩
      have hb := hbr
      have hro := RowIs.of_own HOWN.out
      have HG4 := Lib.hid hro
      obtain ⟨A13, c13, rfl⟩ := hro.len
      clear hro hbr hsz
      have HZ4 := Lib.hid ((hb.block _ (heapsz HZ3.out)).trans HZ3.out)
      have HB4 := Lib.hid (HB3.out.trans (hb.mono HB3.out.size))
      have HN4 := Lib.hid (HN3.out.up hb)
      have HA4 := Lib.hid (RowAt.up HA3.out hb)
      clear hb
      obtain ⟨v0, v1⟩ := box2 HZ4.out
      have HXL : Hid (∃ x, T.hs[h]? = some x) := Lib.hid (get_of_lt (by rw [HNH.out]; have := HRG.out; omega))
      obtain ⟨x, hx⟩ := HXL.out
      have HX := Lib.hid hx
      obtain ⟨bh, oh, hah, hbh, hcl⟩ := HN4.out.hs (by intro e; rw [e] at hx; cases hx)
      have hah2 : ah = some ⟨bh, oh, none⟩ := hah
      subst hah2
      have HCL := Lib.hid (hs_cells hcl)
      have HBH := Lib.hid hbh
      have hLW : w.heap.size < w4.heap.size := heapsz HZ4.out
      have hlh : (flatR hsR T.hs).length = nh * 3 := by rw [flat_hs, show T.hs.length = nh from HNH.out]
      obtain ⟨wx, hwx⟩ : ∃ z, w4.alloc (.cells #[.slice (some ⟨bh, oh, none⟩) nh ch, .slice az ns cz] 25) = z := ⟨_, rfl⟩
      have hbx : Below w4.heap.size w4 wx := by rw [← hwx]; exact (Below.refl _ _).alloc (Nat.le_refl _) _
      have hzx : wx.heap[w4.heap.size]? = some (.cells #[.slice (some ⟨bh, oh, none⟩) nh ch, .slice az ns cz] 25 (0, 0)) := by rw [← hwx]; exact heap_alloc_new _ _
      have HZX := Lib.hid hzx; have HBX := Lib.hid hbx; have HWX := Lib.hid hwx
      have hsx : wx.heap.size = w4.heap.size + 1 := by rw [← hwx]; simp
      have HSX := Lib.hid hsx
      obtain ⟨j0, jz, hj0, jz0, jz1, jz2, jz3⟩ := info74
      obtain ⟨xv0, xv1⟩ := box2 ((hbx.block _ (heapsz HZ4.out)).trans HZ4.out)
      clear hx hah hbh hcl hbx hzx hsx
      go_wp2_with (first | (at_builtin; refine Hid.out ?_) | fail)
      refine Lib.hid ?_
      refine wpList_append_own _ rfl _ _ 22 rfl wx.heap.size 74 j0 jz 3 24 Try.underlying22 hj0 jz0 jz1 jz2 jz3 (by decide) (.slice none 0 0) 0 [] rfl (World.ownsRow_nil _ _ _ _) ⟨bh, oh, none⟩ nh ch (flatR hsR T.hs) rfl hlh (fun q v hq => by
        (try rw [hwx])
        exact (cell_below HBX.out (HCL.out q v hq) HBH.out)) (hs_one _) (by unfold maxLen; omega) (by omega) (by first | exact Nat.le_refl _ | (rw [hwx]; exact Nat.le_refl _)) ?_
      intro v' w6 hown6 hgr6 hnil6
      (try rw [hwx] at hgr6)
      have hb6 : Below wx.heap.size wx w6 := (Below.refl wx.heap.size wx).grown hgr6 (Nat.le_refl _) (fun q e => by cases e)
      have hro6 : RowIs hsR 74 wx.heap.size T.hs v' w6 := RowIs.of_own (k := 3) (by rw [show T.hs.length = nh from HNH.out]; simpa using hown6)
      obtain ⟨g, cp, cur, rfl, hgB, hg6, hgc⟩ := row_some hro6 (show 0 < T.hs.length by rw [show T.hs.length = nh from HNH.out]; have := HRG.out; omega)
      rw [show T.hs.length = nh from HNH.out]
      have hz6 := (hb6.block _ (heapsz HZX.out)).trans HZX.out
      obtain ⟨y0, y1⟩ := box2 hz6
      obtain ⟨y2, y3⟩ := frz2 hz6
      obtain ⟨w7, hw7⟩ : ∃ z, w6.setCell ⟨w4.heap.size, 0, none⟩ (.slice (some ⟨g, 0, none⟩) nh cp) = z := ⟨_, rfl⟩
      have hz7 : w7.heap[w4.heap.size]? = some (.cells #[.slice (some ⟨g, 0, none⟩) nh cp, .slice az ns cz] 25 (0, 0)) := by rw [← hw7]; exact blk_set hz6 0 _
      have hne7 : g ≠ w4.heap.size := by have := HSX.out; omega
      have hg7 : w7.heap[g]? = some (.cells cur 74 (0, 0)) := by rw [← hw7]; exact (Below.heap_setCell _ _ _ _ (fun e => hne7 e)).trans hg6
      have hb7 : Below w4.heap.size w4 w7 := by rw [← hw7]; exact (HBX.out.trans (hb6.mono HBX.out.size)).setCell (p := ⟨w4.heap.size, 0, none⟩) (Nat.le_refl _) _
      have HZ7 := Lib.hid hz7; have HG7 := Lib.hid hg7; have HB7 := Lib.hid hb7; have HGC := Lib.hid hgc; have HNE := Lib.hid hne7
      have HGB := Lib.hid hgB
      obtain ⟨x0, x1⟩ := box2 hz7
      have k0 : w7.cell? ⟨g, h * 3, none⟩ = some (.int .i64 x.nl) := by
        rw [cell_of_row _ g _ _ 74 (0, 0) hg7]
        exact hgc _ _ ((flat_get hsR_len T.hs h x 0 HX.out (by decide)).trans rfl)
      have k1 : w7.cell? ⟨g, h * 3 + 1, none⟩ = some (.int .i64 x.nh) := by
        rw [cell_of_row _ g _ _ 74 (0, 0) hg7]
        exact hgc _ _ ((flat_get hsR_len T.hs h x 1 HX.out (by decide)).trans rfl)
      have k3 : (0 : Int) ≤ (h : Int) := by omega
      have k4 : (h : Int) < (nh : Int) := HRG.out.2.1
      clear v0 v1 xv0 xv1 hown6 hgr6 hnil6 hb6 hro6 hgB hg6 hgc hz6 hz7 hne7 hg7 hb7
      have HMX := HKC.out.1.hs x (List.mem_of_getElem? HX.out)
      have hx1 := HMX.n
      obtain ⟨m, hm⟩ : ∃ z, max x.nl (x.nh - less) = z := ⟨_, rfl⟩
      have HMM := Lib.hid hm
      have hsw : IntKind.i64.wrap (x.nh - less) = x.nh - less := IntWalk.i64_in _ (by have := HRG.out; omega)
      obtain ⟨w8, hw8⟩ : ∃ z, w7.alloc (.cells #[.int .i64 x.nl, .int .i64 x.nh] 72) = z := ⟨_, rfl⟩
      have hb8 : Below w7.heap.size w7 w8 := by rw [← hw8]; exact (Below.refl _ _).alloc (Nat.le_refl _) _
      have hz8 : w8.heap[w7.heap.size]? = some (.cells #[.int .i64 x.nl, .int .i64 x.nh] 72 (0, 0)) := by rw [← hw8]; exact heap_alloc_new _ _
      have HB8 := Lib.hid hb8; have HZ8 := Lib.hid hz8
      have HSW7 := Lib.hid hsw
      clear HMX hx1 hb8 hz8 hsw hm
      go_wp2_with fail
      clear hw7 hw8 y0 y1 y2 y3 x0 x1 k0 k1
      apply tail_regionY (why := [1, 13, 13, 4, 12, 6, 11, 8, 10, 10, 11, 12, 15, 14, 15])
      case hs => exact (rfl : _ = [_, _, _, _, _, _, _, _, _, _, _, _, _, _, _] ++ [_])
      case hm => kernel_rfl
      case hT => kernel_rfl
      refine rel_any [15, 4, 16, 5] [] (mo12 w4.heap.size w7.heap.size g h nh cp x.nl x.nh less m) anyF (by kernel_rfl) (by kernel_rfl) (by kernel_rfl) (by kernel_rfl) (by kernel_rfl) ?_ (fun _ _ _ _ _ _ => trivial) ?_ ?_
      · intro t ht
        simp only [List.mem_cons, List.not_mem_nil, or_false] at ht
        rcases ht with rfl | rfl | rfl | rfl <;> rfl
      · refine allOps_array ?_
        refine ⟨?_, ?_, ?_, ?_, ?_, ?_, ?_, ?_, ?_, ?_, ?_, ?_, ?_, ?_, ?_, trivial⟩ <;> intro gg u hd_ <;> obtain ⟨q0, q1⟩ := box2 ((u.h.block _ (heapsz HZ8.out)).trans HZ8.out) <;> obtain ⟨r0, r1⟩ := box2 (((HB8.out.trans (u.h.mono HB8.out.size)).block _ (heapsz HZ7.out)).trans HZ7.out)
        · refine ⟨rfl, relQ 109 rfl trivial ?_⟩
          simp [go_sem, evalBy, rhoT, relOf, mo12]
        · refine ⟨rfl, relQ 110 rfl trivial ?_⟩
          simp [go_sem, evalBy, rhoT, relOf, mo12, r0]
        · refine ⟨rfl, relQ 111 rfl trivial ?_⟩
          simp [go_sem, evalBy, rhoT, relOf, mo12]
        · refine ⟨rfl, relQ 112 rfl trivial ?_⟩
          simp [go_sem, evalBy, rhoT, relOf, mo12]
        · refine ⟨rfl, relQ 113 rfl trivial ?_⟩
          simp [go_sem, evalBy, rhoT, relOf, mo12, q0]
        · refine ⟨rfl, relQ 114 rfl trivial ?_⟩
          simp [go_sem, evalBy, rhoT, relOf, mo12]
        · refine ⟨rfl, relQ 115 rfl trivial ?_⟩
          simp [go_sem, evalBy, rhoT, relOf, mo12, q0]
        · refine ⟨rfl, relQ 116 rfl trivial ?_⟩
          simp [go_sem, evalBy, rhoT, relOf, mo12]
        · refine ⟨rfl, relQ 117 rfl trivial ?_⟩
          simp [go_sem, evalBy, rhoT, relOf, mo12, q1]
        · refine ⟨rfl, relQ 118 rfl trivial ?_⟩
          simp [go_sem, evalBy, rhoT, relOf, mo12]
        · refine ⟨rfl, relQ 119 rfl trivial ?_⟩
          simp [go_sem, evalBy, rhoT, relOf, mo12, HSW7.out]
        · refine ⟨rfl, relQ 120 rfl trivial ?_⟩
          simp [go_sem, evalBy, rhoT, relOf, mo12, HMM.out]
        · refine ⟨rfl, relK 121 rfl (fun _ => trivial) 45 #[.int .i64 x.nl, .int .i64 m] (by simp [go_sem, evalBy, rhoT, relOf, mo12]) ?_⟩
          exact span_any _ _ _
        · refine ⟨rfl, relQ 122 rfl trivial ?_⟩
          simp [go_sem, evalBy, rhoT, relOf, mo12, k3, k4]
        · refine ⟨rfl, relQ 123 rfl trivial ?_⟩
          simp [go_sem, evalBy, rhoT, relOf, mo12]
      · intro gg u hf_
        have hB9 := HB8.out.trans (u.h.mono HB8.out.size)
        have hgu := (hB9.block _ (heapsz HG7.out)).trans HG7.out
        have c0 : u.w.cell? ⟨g, h * 3, none⟩ = some (.int .i64 x.nl) := by
          rw [cell_of_row _ g _ _ 74 (0, 0) hgu]
          exact HGC.out _ _ ((flat_get hsR_len T.hs h x 0 HX.out (by decide)).trans rfl)
        have c1 : u.w.cell? ⟨g, h * 3 + 1, none⟩ = some (.int .i64 x.nh) := by
          rw [cell_of_row _ g _ _ 74 (0, 0) hgu]
          exact HGC.out _ _ ((flat_get hsR_len T.hs h x 1 HX.out (by decide)).trans rfl)
        have f0 : ∀ q, u.w.frozen? ⟨g, q, none⟩ = false := fun q => by simp [World.frozen?, hgu]
        have f1 := f0 (h * 3)
        have f2 := f0 (h * 3 + 1)
        have hrow := less_row (d := less) HMM.out hgu HGC.out HX.out
        have hxb : ((u.w.setCell ⟨g, h * 3, none⟩ (.int .i64 x.nl)).setCell ⟨g, h * 3 + 1, none⟩ (.int .i64 m)).heap[w4.heap.size]? = some (.cells #[.slice (some ⟨g, 0, none⟩) nh cp, .slice az ns cz] 25 (0, 0)) := (Below.heap_setCell _ _ _ _ (Ne.symm HNE.out)).trans ((Below.heap_setCell _ _ _ _ (Ne.symm HNE.out)).trans ((hB9.block _ (heapsz HZ7.out)).trans HZ7.out))
        have hgW : w4.heap.size ≤ g := by have := HGB.out; have := HSX.out; omega
        have hbW : Below w4.heap.size w4 ((u.w.setCell ⟨g, h * 3, none⟩ (.int .i64 x.nl)).setCell ⟨g, h * 3 + 1, none⟩ (.int .i64 m)) := ((HB7.out.trans (hB9.mono HB7.out.size)).setCell (p := ⟨g, h * 3, none⟩) hgW _).setCell (p := ⟨g, h * 3 + 1, none⟩) hgW _
        simp only [QT]
        unfold Oper.wp
        simp [go_sem, putAll, Act.put, rhoT, relOf, mo12, c0, c1, f1, f2]
        obtain ⟨w5, hw9⟩ : ∃ z, (u.w.setCell ⟨g, h * 3, none⟩ (.int .i64 x.nl)).setCell ⟨g, h * 3 + 1, none⟩ (.int .i64 m) = z := ⟨_, rfl⟩
        rw [hw9] at hrow hxb hbW ⊢
        have hb := hbW
        have HY5 := Lib.hid hxb
        have HT5 : Hid (TnAt w5 w5.heap.size ⟨some ⟨g, 0, none⟩, nh, cp, az, ns, cz⟩ (lessT T h less)) := Lib.hid ⟨hrow, HN4.out.ss.next hb hb.size, by rw [less_len]; exact HNH.out, HNS.out, by show nh ≤ maxLen; unfold maxLen; omega, by show ns ≤ maxLen; unfold maxLen; omega⟩
        clear hw9 hrow hxb hbW hgW c0 c1 f0 f1 f2 hgu hB9 hf_
        have HZ5 := Lib.hid ((hb.block _ (heapsz HZ4.out)).trans HZ4.out)
        have HB5 := Lib.hid (HB4.out.trans (hb.mono HB4.out.size))
        have HN5 := Lib.hid (HN4.out.up hb)
        have HA5 := Lib.hid (RowAt.up HA4.out hb)
        have HG5 := Lib.hid (HG4.out.below hb)
        clear hb
        obtain ⟨v0, v1⟩ := box2 HZ5.out
        obtain ⟨x0, x1⟩ := box2 HY5.out
        obtain ⟨ba, bb, bc, e1, e2, e3, him, hbest⟩ := HM.out
        rw [show T.ss.length = ns from HNS.out] at e2
        have HKA := Lib.hid e1; have HKB := Lib.hid e2; have HKD := Lib.hid e3; have HIM := Lib.hid him; have HBE := Lib.hid hbest
        have hml : Hid ((moreN bo s ns).length ≤ maxLen) := Lib.hid (by have := moreN_len bo s ns; unfold maxLen; omega)
        clear e1 e2 e3 him hbest
        go_wp2_with fail
        refine (Keeps_any _ T A n c bo f _ HN5.out HL.out HNN.out HA5.out).mono ?_
        rintro e w6 ⟨rfl, hb⟩
        have HZ6 := Lib.hid ((hb.block _ (heapsz HZ5.out)).trans HZ5.out)
        have HB6 := Lib.hid (HB5.out.trans (hb.mono HB5.out.size))
        have HN6 := Lib.hid (HN5.out.up hb)
        have HA6 := Lib.hid (RowAt.up HA5.out hb)
        have HG6 := Lib.hid (HG5.out.below hb)
        have HY6 := Lib.hid ((hb.block _ (heapsz HY5.out)).trans HY5.out)
        have HT6 := Lib.hid (HT5.out.up hb)
        clear hb
        clear v0 v1 x0 x1
        obtain ⟨v0, v1⟩ := box2 HZ6.out
        obtain ⟨x0, x1⟩ := box2 HY6.out
        rw [HKA.out]
        go_wp2_with fail
        refine (Keeps_any _ T A13 _ c13 (moreN bo s ns) f _ HN6.out rfl hml.out (row_ints HG6.out)).mono ?_
        rintro e w7 ⟨rfl, hb⟩
        have HZ7 := Lib.hid ((hb.block _ (heapsz HZ6.out)).trans HZ6.out)
        have HB7 := Lib.hid (HB6.out.trans (hb.mono HB6.out.size))
        have HN7 := Lib.hid (HN6.out.up hb)
        have HA7 := Lib.hid (RowAt.up HA6.out hb)
        have HG7 := Lib.hid (HG6.out.below hb)
        have HY7 := Lib.hid ((hb.block _ (heapsz HY6.out)).trans HY6.out)
        have HT7 := Lib.hid (HT6.out.up hb)
        clear hb
        clear v0 v1 x0 x1
        obtain ⟨v0, v1⟩ := box2 HZ7.out
        obtain ⟨x0, x1⟩ := box2 HY7.out
        rw [HKB.out]
        go_wp2_with fail
        refine (Keeps_any _ (lessT T h less) A n c bo f _ HT7.out HL.out HNN.out HA7.out).mono ?_
        rintro e w8 ⟨rfl, hb⟩
        have HZ8 := Lib.hid ((hb.block _ (heapsz HZ7.out)).trans HZ7.out)
        have HB8 := Lib.hid (HB7.out.trans (hb.mono HB7.out.size))
        have HN8 := Lib.hid (HN7.out.up hb)
        have HA8 := Lib.hid (RowAt.up HA7.out hb)
        have HG8 := Lib.hid (HG7.out.below hb)
        have HY8 := Lib.hid ((hb.block _ (heapsz HY7.out)).trans HY7.out)
        have HT8 := Lib.hid (HT7.out.up hb)
        clear hb
        clear v0 v1 x0 x1
        obtain ⟨v0, v1⟩ := box2 HZ8.out
        obtain ⟨x0, x1⟩ := box2 HY8.out
        rw [HKD.out]
        cases ba
        · go_wp2_with fail
          refine (Best_any _ T f _ HN8.out).mono ?_
          rintro e w9 ⟨vl, rfl, hb, hr⟩
          obtain ⟨A7, cA7, rfl⟩ := hr.len
          have HZ9 := Lib.hid ((hb.block _ (heapsz HZ8.out)).trans HZ8.out)
          have HB9 := Lib.hid (HB8.out.trans (hb.mono HB8.out.size))
          have HN9 := Lib.hid (HN8.out.up hb)
          have HA9 := Lib.hid (RowAt.up HA8.out hb)
          have HG9 := Lib.hid (HG8.out.below hb)
          have HY9 := Lib.hid ((hb.block _ (heapsz HY8.out)).trans HY8.out)
          have HT9 := Lib.hid (HT8.out.up hb)
          clear hb hr
          clear v0 v1 x0 x1
          obtain ⟨v0, v1⟩ := box2 HZ9.out
          obtain ⟨x0, x1⟩ := box2 HY9.out
          go_wp2_with fail
          refine (Best_any _ (lessT T h less) f _ HT9.out).mono ?_
          rintro e w10 ⟨vl, rfl, hb, hr⟩
          obtain ⟨A8, cA8, rfl⟩ := hr.len
          have HZ10 := Lib.hid ((hb.block _ (heapsz HZ9.out)).trans HZ9.out)
          have HB10 := Lib.hid (HB9.out.trans (hb.mono HB9.out.size))
          have HN10 := Lib.hid (HN9.out.up hb)
          have HA10 := Lib.hid (RowAt.up HA9.out hb)
          have HG10 := Lib.hid (HG9.out.below hb)
          have HY10 := Lib.hid ((hb.block _ (heapsz HY9.out)).trans HY9.out)
          have HT10 := Lib.hid (HT9.out.up hb)
          clear hb hr
          clear v0 v1 x0 x1
          obtain ⟨v0, v1⟩ := box2 HZ10.out
          obtain ⟨x0, x1⟩ := box2 HY10.out
          obtain ⟨b1, hb1⟩ : ∃ z, besE T f = z := ⟨_, rfl⟩
          obtain ⟨b2, hb2⟩ : ∃ z, besE (lessT T h less) f = z := ⟨_, rfl⟩
          obtain ⟨b3, hb3⟩ : ∃ z, besC T f = z := ⟨_, rfl⟩
          obtain ⟨b4, hb4⟩ : ∃ z, besC (lessT T h less) f = z := ⟨_, rfl⟩
          have HBE2 := HBE.out
          rw [hb1, hb2, hb3, hb4] at HBE2
          try rw [hb1]
          try rw [hb2]
          try rw [hb3]
          try rw [hb4]
          clear hb1 hb2 hb3 hb4
          clear v0 v1 x0 x1
          rcases HBE2 with ⟨rfl, rfl | rfl⟩ | ⟨rfl, rfl, hle⟩
          · go_wp2_with fail
            refine (known_any _).mono ?_
            rintro e wk ⟨rfl, hbk⟩
            have HBK := Lib.hid (HB10.out.trans (hbk.mono HB10.out.size))
            clear hbk
            go_wp2_with fail
            go_ret
            exact ⟨rfl, HBK.out⟩
          · go_wp2_with fail
            refine (known_any _).mono ?_
            rintro e wk ⟨rfl, hbk⟩
            have HBK := Lib.hid (HB10.out.trans (hbk.mono HB10.out.size))
            clear hbk
            go_wp2_with fail
            go_ret
            exact ⟨rfl, HBK.out⟩
          · go_wp2_with fail
            refine (known_any _).mono ?_
            rintro e wk ⟨rfl, hbk⟩
            have HBK := Lib.hid (HB10.out.trans (hbk.mono HB10.out.size))
            clear hbk
            go_wp2_with fail
            go_ret
            exact ⟨rfl, HBK.out⟩
        · obtain ⟨rfl, rfl⟩ := HIM.out rfl
          go_wp2_with fail
          refine (Best_any _ T f _ HN8.out).mono ?_
          rintro e w9 ⟨vl, rfl, hb, hr⟩
          obtain ⟨A7, cA7, rfl⟩ := hr.len
          have HZ9 := Lib.hid ((hb.block _ (heapsz HZ8.out)).trans HZ8.out)
          have HB9 := Lib.hid (HB8.out.trans (hb.mono HB8.out.size))
          have HN9 := Lib.hid (HN8.out.up hb)
          have HA9 := Lib.hid (RowAt.up HA8.out hb)
          have HG9 := Lib.hid (HG8.out.below hb)
          have HY9 := Lib.hid ((hb.block _ (heapsz HY8.out)).trans HY8.out)
          have HT9 := Lib.hid (HT8.out.up hb)
          clear hb hr
          clear v0 v1 x0 x1
          obtain ⟨v0, v1⟩ := box2 HZ9.out
          obtain ⟨x0, x1⟩ := box2 HY9.out
          go_wp2_with fail
          refine (Best_any _ (lessT T h less) f _ HT9.out).mono ?_
          rintro e w10 ⟨vl, rfl, hb, hr⟩
          obtain ⟨A8, cA8, rfl⟩ := hr.len
          have HZ10 := Lib.hid ((hb.block _ (heapsz HZ9.out)).trans HZ9.out)
          have HB10 := Lib.hid (HB9.out.trans (hb.mono HB9.out.size))
          have HN10 := Lib.hid (HN9.out.up hb)
          have HA10 := Lib.hid (RowAt.up HA9.out hb)
          have HG10 := Lib.hid (HG9.out.below hb)
          have HY10 := Lib.hid ((hb.block _ (heapsz HY9.out)).trans HY9.out)
          have HT10 := Lib.hid (HT9.out.up hb)
          clear hb hr
          clear v0 v1 x0 x1
          obtain ⟨v0, v1⟩ := box2 HZ10.out
          obtain ⟨x0, x1⟩ := box2 HY10.out
          obtain ⟨b1, hb1⟩ : ∃ z, besE T f = z := ⟨_, rfl⟩
          obtain ⟨b2, hb2⟩ : ∃ z, besE (lessT T h less) f = z := ⟨_, rfl⟩
          obtain ⟨b3, hb3⟩ : ∃ z, besC T f = z := ⟨_, rfl⟩
          obtain ⟨b4, hb4⟩ : ∃ z, besC (lessT T h less) f = z := ⟨_, rfl⟩
          have HBE2 := HBE.out
          rw [hb1, hb2, hb3, hb4] at HBE2
          try rw [hb1]
          try rw [hb2]
          try rw [hb3]
          try rw [hb4]
          clear hb1 hb2 hb3 hb4
          clear v0 v1 x0 x1
          rcases HBE2 with ⟨rfl, rfl | rfl⟩ | ⟨rfl, rfl, hle⟩
          · go_wp2_with fail
            refine (known_any _).mono ?_
            rintro e wk ⟨rfl, hbk⟩
            have HBK := Lib.hid (HB10.out.trans (hbk.mono HB10.out.size))
            clear hbk
            go_wp2_with fail
            go_ret
            exact ⟨rfl, HBK.out⟩
          · go_wp2_with fail
            refine (known_any _).mono ?_
            rintro e wk ⟨rfl, hbk⟩
            have HBK := Lib.hid (HB10.out.trans (hbk.mono HB10.out.size))
            clear hbk
            go_wp2_with fail
            go_ret
            exact ⟨rfl, HBK.out⟩
          · go_wp2_with fail
            refine (known_any _).mono ?_
            rintro e wk ⟨rfl, hbk⟩
            have HBK := Lib.hid (HB10.out.trans (hbk.mono HB10.out.size))
            clear hbk
            go_wp2_with fail
            go_ret
            exact ⟨rfl, HBK.out⟩
end Go.Proofs.Ytmppiiamcpjhnaa
