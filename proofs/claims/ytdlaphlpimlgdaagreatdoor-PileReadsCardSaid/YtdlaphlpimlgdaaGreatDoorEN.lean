/- A year's line, and the last line of a book, as the program reads them. -/
import Derived.Test.YtdlaphlpimlgdaaGreatDoorEL
import Derived.Test.YtdlaphlpimlgdaaGreatDoorCF
namespace Go.Proofs.YtdlaphlpimlgdaaGreatDoor
open Go.RowKit Go.Shelf

theorem bytes_beq (a b : List UInt8) : ((ByteArray.mk a.toArray).toList == (ByteArray.mk b.toArray).toList) = decide (a = b) := by
  rw [ByteArray.toList_eq, ByteArray.toList_eq]
  show (a == b) = _
  by_cases h : a = b
  · rw [decide_eq_true h, h]; simp
  · rw [decide_eq_false h]; simpa using h
/-- What a year's line says. -/
def YearP (Y P : Int) (k : Nat) (ws : List (List UInt8)) (row : List Int) : Prop := (k : Int) < Y ∧ (row.length : Int) = P ∧ (∀ x ∈ row, OkL x) ∧ ws = Lib.itoa (k : Int) :: row.map Lib.itoa
theorem year_words {Y P : Int} {k : Nat} {ws : List (List UInt8)} (h : (k : Int) < Y ∧ (ws.length : Int) = 1 + P ∧ ws[0]? = some (Lib.itoa (k : Int)) ∧ ∀ w ∈ ws.drop 1, LevW w) : ∃ row, YearP Y P k ws row := by
  obtain ⟨h1, h2, h3, h4⟩ := h
  match ws, h2, h3, h4 with
  | [], _, h3, _ => simp at h3
  | w :: ws, h2, h3, h4 =>
    have hw : w = Lib.itoa (k : Int) := by simpa using h3
    subst hw
    simp only [List.drop_succ_cons, List.drop_zero] at h4
    have key : ∀ l : List (List UInt8), (∀ w ∈ l, LevW w) → ∃ row : List Int, (∀ x ∈ row, OkL x) ∧ l = row.map Lib.itoa := by
      intro l
      induction l with
      | nil => exact fun _ => ⟨[], by simp, rfl⟩
      | cons v l ih =>
        intro hl
        obtain ⟨row, g1, g2⟩ := ih fun w hw => hl w (by simp [hw])
        obtain ⟨x, g3, g4⟩ := hl v (by simp)
        exact ⟨x :: row, fun y hy => (List.mem_cons.1 hy).elim (fun e => e ▸ g3) (fun h => g1 y h), by rw [List.map_cons, ← g2, ← g4]⟩
    obtain ⟨row, g1, g2⟩ := key ws h4
    refine ⟨row, h1, ?_, g1, by rw [g2]⟩
    rw [g2] at h2
    simp only [List.length_cons, List.length_map] at h2
    omega
theorem RowIs.lower {α : Type} {R : α → List Value} {eT : TypeId} {B B' : Nat} {row : List α} {v : Value} {w : World} (h : RowIs R eT B row v w) (hB : B' ≤ B) : RowIs R eT B' row v w := by
  rcases h with h | ⟨b, c, h1, h2, h3⟩
  · exact .inl h
  · exact .inr ⟨b, c, h1, Nat.le_trans hB h2, h3⟩
/-- Memory while a book is read: base world w0; the rows that were read. -/
structure RdI (w0 : World) (R : Nat) (Y P : Int) (LL : List (List Int)) (b : Bool) (w : World) : Prop where
  grd : ∃ V rows, RdB w R Y P V b ∧ GrdI intR 3 34 w0 (R + 1) LL V rows w
  low : w0.heap.size ≤ R
  rl : ∀ row ∈ LL, row.length ≤ 10000 ∧ ∀ x ∈ row, OkL x
theorem RdI.form {w0 : World} {R : Nat} {Y P : Int} {LL : List (List Int)} {b : Bool} {w : World} (h : RdI w0 R Y P LL b w) :
    ∃ AV cV rows, RdB w R Y P (.slice AV LL.length cV) b ∧ GrdI intR 3 34 w0 (R + 1) LL (.slice AV LL.length cV) rows w ∧ LvsAt w w.heap.size AV LL ∧ LL.length ≤ cV := by
  obtain ⟨V, rows, hR, hG⟩ := h.grd
  obtain ⟨AV, cV, e, h1, h2, _⟩ := hG.grid (k := 1) intR_len fun row hr => by have := (h.rl row hr).1; unfold maxLen; omega
  subst e
  exact ⟨AV, cV, rows, hR, hG, h1, h2⟩
theorem itoa_is (n : Nat) (hn : n ≤ 100000) (w : World) (ht : Tab w) : Calls Tryz.prog 121 #[.int .i64 (n : Int)] w fun e w' => e = .returned (.string ⟨(Lib.itoa (n : Int)).toArray⟩) ∧ Below w.heap.size w w' := by
  refine (itoa_any (n : Int) (by omega) (by omega) w ht).mono ?_
  rintro e w' ⟨T, rfl, rfl, _, hb⟩
  exact ⟨rfl, hb⟩
set_option maxRecDepth 100000 in
set_option maxHeartbeats 8000000 in
theorem year_any {w0 : World} {R : Nat} (Y P : Int) (LL : List (List Int)) (A : Option Addr) (n c : Nat) (ws : List (List UInt8)) (w : World) (hI : RdI w0 R Y P LL false w) (hw : StrsAt w w.heap.size A ws) (hn : ws.length = n) (hc : n = c) (hc2 : c ≤ 10000) (hL2 : LL.length ≤ 10000) (hP : 0 ≤ P ∧ P ≤ 1000000000)
    (ht : Tab w) :
    Calls Tryz.prog 124 #[.pointer (some ⟨R, 0, none⟩), .slice A n c] w fun e w' =>
      ((∃ row, YearP Y P LL.length ws row ∧ e = .returned (.tuple #[]) ∧ RdI w0 R Y P (LL ++ [row]) false w') ∨ ((¬ ∃ row, YearP Y P LL.length ws row) ∧ e = .panicked [noBook])) ∧ Below w0.heap.size w0 w' := by
  subst hc
  obtain ⟨AV, cV, rows, hR, hG, hLv, hcV⟩ := hI.form
  have HBW := Lib.hid hG.bel; have HLW := Lib.hid hI.low; have HRL := Lib.hid hI.rl
  have HW := Lib.hid hw; have HN := Lib.hid hn; have HR := Lib.hid hR; have HG := Lib.hid hG; have HT := Lib.hid ht
  obtain ⟨k, hk⟩ : ∃ z, LL.length = z := ⟨_, rfl⟩
  have HK := Lib.hid hk
  rw [hk] at hL2 hR HG HR ⊢
  obtain ⟨c0, c1, c2, c3⟩ := hR.cells
  have HC0 := Lib.hid fun u : KeptW w => (HR.out.up u.h).cells
  have HCI := Lib.hid fun u : KeptW w => Calls.in_kept u (itoa_is k (by omega) u.w (HT.out.next u.h))
  clear hI hw hn ht hR hG hLv hcV hk
  go_enter Tryz.func124, Tryz.ntmps124
  go_wp2_with fail
  clear c0 c1 c2 c3
  have g0 := fun u => (HC0.out u).1; have g1 := fun u => (HC0.out u).2.1
  by_cases hY : Y ≤ (k : Int)
  · refine rk_region (by kernel_rfl) (by kernel_rfl) ?_
    repeat (go_big_quiet_step (fail))
    refine wpQuiet_nil ?_
    rintro _ ⟨u, rfl⟩
    have HBU := Lib.hid (HBW.out.trans (u.h.mono HBW.out.size))
    clear g0 g1
    go_wp2_with fail
    refine (giveUp_any _).mono ?_
    rintro e w5 ⟨rfl, rfl⟩
    exact ⟨rfl, .inr ⟨fun ⟨row, h⟩ => by have := h.1; omega, rfl⟩, HBU.out⟩
  · by_cases hnP : (n : Int) = 1 + P
    · have v1 : Value.int .i64 (wrap64 (1 + P)) = Value.int .i64 (1 + P) := by congr 1; exact w64 (by omega)
      obtain ⟨m, rfl⟩ : ∃ m, n = m + 1 := ⟨n - 1, by omega⟩
      obtain ⟨p0, ps, rfl⟩ : ∃ p0 ps, ws = p0 :: ps := by
        have := HN.out
        match ws, this with
        | p :: l, _ => exact ⟨p, l, rfl⟩
      have HM : Hid (ps.length = m) := Lib.hid (by have := HN.out; simpa using this)
      have HMP : Hid ((m : Int) = P) := Lib.hid (by omega)
      obtain ⟨bw, ow, rfl, hbw, _⟩ := HW.out (by simp)
      have d0 := (str_at HW.out (i := 0) rfl).2
      rw [Nat.add_zero] at d0
      have D0 : ∀ u : KeptW w, u.w.cell? ⟨bw, ow, none⟩ = some (.string ⟨p0.toArray⟩) := fun u => ((bcell u.h).1 _ _ hbw).trans d0
      have hbq := bytes_beq p0 (Lib.itoa (k : Int))
      obtain ⟨E, hE⟩ : ∃ z, ByteArray.mk (Lib.itoa (k : Int)).toArray = z := ⟨_, rfl⟩
      obtain ⟨Q, hQ⟩ : ∃ z, ByteArray.mk p0.toArray = z := ⟨_, rfl⟩
      rw [hE] at HCI hbq
      rw [hQ] at hbq
      simp only [hQ] at D0
      have hmi : (0 : Int) ≤ (m : Int) := by omega
      have hb1 : ((m : Int) + 1 != 1 + P) = false := by rw [show (m : Int) + 1 = 1 + P by omega]; simp
      have hb2 : (((m + 1 : Nat) : Int) != 1 + P) = false := by rw [show ((m + 1 : Nat) : Int) = 1 + P by omega]; simp
      clear d0 hE hQ hnP
      by_cases hp : p0 = Lib.itoa (k : Int)
      · rw [decide_eq_true hp] at hbq
        have HP0 := Lib.hid hp
        clear hp
        refine rk_region (by kernel_rfl) (by kernel_rfl) ?_
        repeat (go_big_quiet_step (first | (with_reducible exact HCI.out _) | fail))
        refine wpQuiet_nil ?_
        rintro _ ⟨u, rfl⟩
        have hub := u.h
        obtain ⟨wx, hwx⟩ : ∃ x, u.w = x := ⟨_, rfl⟩
        rw [hwx] at hub ⊢
        have HBX := Lib.hid hub
        clear g0 g1 D0 hbq hub hwx u HCI HC0
        have HCM : Hid (m + 1 ≤ 10000) := Lib.hid (by omega)
        obtain ⟨i0, hi0, hz0, hz1, hz2⟩ := info_parts int_info
        obtain ⟨j0, hj0, jz0, jz1, jz2⟩ := info_parts ints_info
        clear hb1 hb2 v1
        by_cases hm0 : m = 0
        · subst hm0
          go_wp2_with fail
          go_loopw [5, 41] (fun v i wr => ∃ (j : Nat) (row : List Int), j ≤ 0 ∧ i = .int .i64 j ∧ row.length = j ∧ (∀ x ∈ row, OkL x) ∧ ps.take j = row.map Lib.itoa ∧ Below wx.heap.size wx wr ∧ wr.ownsRow wx.heap.size 3 1 v j (flatR intR row)) (fun _ i _ => 0 - (intOf i).toNat)
          case atStart => exact ⟨0, [], Nat.zero_le _, rfl, rfl, by simp, rfl, Below.refl _ _, World.ownsRow_nil _ _ _ _⟩
          case round =>
            obtain ⟨j, row, hj, rfl, hrl, hok, htk, hbr, hown⟩ := hrel
            have HBR := Lib.hid hbr; have HOWN := Lib.hid hown; have HRW := Lib.hid hrl; have HOK := Lib.hid hok; have HTK := Lib.hid htk
            clear hbr hown hrl hok htk
            by_cases hlt : j < 0
            · exfalso; omega
            · have hje : j = 0 := by omega
              subst hje
              have j2 : ¬ (0 : Int) < 0 := by omega
              have hfull : ps.take 0 = ps := List.take_of_length_le (by rw [HM.out]; omega)
              rw [hfull] at HTK
              have hbwr := HBX.out.trans (HBR.out.mono HBX.out.size)
              have hrj := HRW.out
              rw [← hrj] at HOWN
              have HRI := Lib.hid ((RowIs.of_own (k := 1) HOWN.out).lower (B' := R + 1) (by have := heapsz HR.out; have := HBX.out.size; omega))
              obtain ⟨Ar, cr, hv_, _⟩ := HRI.out.at_ intR_len
              rw [hrj] at hv_
              subst hv_
              have HRJ := Lib.hid hrj
              clear hrj
              have HGR := Lib.hid (HG.out.below hbwr)
              have HRR := Lib.hid (HR.out.up hbwr)
              obtain ⟨c0, c1, c2, c3⟩ := HRR.out.cells
              have HBWR := Lib.hid hbwr
              have hlR : R < wr.heap.size := heapsz HRR.out
              clear hfull hbwr HBR HOWN
              go_wp2_with (first | (at_builtin; refine Hid.out ?_) | fail)
              refine Lib.hid ?_
              refine wpList_append_own _ rfl _ _ 53 rfl (R + 1) 34 j0 _ 1 24 Tryz.underlying53 hj0 jz0 jz1 jz2 rfl (by decide) _ _ _ rfl (Go.Proofs.YtdlaphlpimlgdaaGreatDoor.own_next HGR.out.own ((Below.refl _ wr).alloc (Nat.le_refl _) _)) ⟨wr.heap.size, 0, none⟩ 1 1 [.slice Ar 0 cr] rfl rfl (cell_one_new _ _ _) (by simp [Value.oneCell']) (by rw [HK.out]; unfold maxLen; omega) (by rw [HK.out]; omega) (by simp; omega) ?_
              intro v6 w6 hown6 hgrow6 _
              have hA := HGR.out.append (by decide) HRI.out hown6 hgrow6
              obtain ⟨g6, c6, rfl, _⟩ := hown6.form (by omega)
              have hnR : some R ≠ (Value.slice AV k cV).ownBlock := own_ne HGR.out.own HRR.out (.inl (Nat.lt_succ_self R))
              have hb1 := (Below.refl wr.heap.size wr).alloc (Nat.le_refl _) (.cells #[.slice Ar 0 cr] 34)
              have hR6 : RdB w6 R Y P (.slice AV k cV) false := (hgrow6.block R (by simp; omega) hnR).trans ((hb1.block _ hlR).trans HRR.out)
              obtain ⟨e0, e1, e2, e3⟩ := hR6.cells
              have f2 := hR6.frozen 2
              have HA := Lib.hid hA; have HR6 := Lib.hid hR6
              clear hA hown6 hgrow6 hb1 hnR c0 c1 c2 c3 hR6
              go_wp2_with fail
              refine ⟨rfl, .tuple #[], by simp [results, Tryz.results124, go_sem], .inl ⟨row, ⟨by omega, by rw [HRJ.out]; exact HMP.out, HOK.out, by rw [HP0.out, HTK.out]⟩, rfl, ?_⟩, ?_⟩
              · refine ⟨⟨_, _, blk_set HR6.out 2 (.slice (some ⟨g6, 0, none⟩) (LL.length + 1) c6), HA.out.keep ?_ ?_⟩, HLW.out, ?_⟩
                · exact HA.out.bel.setCell (p := ⟨R, 2, none⟩) HLW.out _
                · intro b hb1 hb2
                  exact Below.heap_setCell _ _ _ _ (by show b ≠ R; omega)
                · intro r hr
                  rcases List.mem_append.1 hr with hr | hr
                  · exact HRL.out r hr
                  · rw [List.mem_singleton.1 hr]
                    exact ⟨by have := HCM.out; have := HRJ.out; omega, HOK.out⟩
              · exact HA.out.bel.setCell (p := ⟨R, 2, none⟩) HLW.out _
        · have hm1 : ¬ (m : Int) = 0 := by omega
          go_wp2_with fail
          go_loopw [5, 41] (fun v i wr => ∃ (j : Nat) (row : List Int), j ≤ m ∧ i = .int .i64 j ∧ row.length = j ∧ (∀ x ∈ row, OkL x) ∧ ps.take j = row.map Lib.itoa ∧ Below wx.heap.size wx wr ∧ wr.ownsRow wx.heap.size 3 1 v j (flatR intR row)) (fun _ i _ => m - (intOf i).toNat)
          case atStart => exact ⟨0, [], Nat.zero_le _, rfl, rfl, by simp, rfl, Below.refl _ _, World.ownsRow_nil _ _ _ _⟩
          case round =>
            obtain ⟨j, row, hj, rfl, hrl, hok, htk, hbr, hown⟩ := hrel
            have HBR := Lib.hid hbr; have HOWN := Lib.hid hown; have HRW := Lib.hid hrl; have HOK := Lib.hid hok; have HTK := Lib.hid htk
            clear hbr hown hrl hok htk
            by_cases hlt : j < m
            · have j1 : (0 : Int) ≤ (j : Int) := by omega
              have j2 : (j : Int) < (m : Int) := by omega
              obtain ⟨p, hp⟩ := get_of_lt (l := ps) (k := j) (by rw [HM.out]; exact hlt)
              have hbwr := HBX.out.trans (HBR.out.mono HBX.out.size)
              have d1 := ((bcell hbwr).1 _ _ hbw).trans (str_at HW.out (i := j + 1) (by simpa using hp)).2
              have d2 : wr.cell? ⟨bw, ow + 1 + j, none⟩ = some (.string ⟨p.toArray⟩) := by rw [← d1]; congr 2; omega
              have HPP := Lib.hid hp
              clear hp hbwr
              go_wp2_with fail
              refine (level_any ⟨p.toArray⟩ wr).mono ?_
              rintro e w5 ⟨hl, hb5⟩
              have e0 : (ByteArray.mk p.toArray).data.toList = p := rfl
              rw [e0] at hl
              have HB5 := Lib.hid hb5
              clear hb5 d1 d2 e0
              rcases hl with ⟨x, hx1, hx2, rfl⟩ | ⟨hx, rfl⟩
              · have HX1 := Lib.hid hx1; have HX2 := Lib.hid hx2
                clear hx1 hx2
                go_wp2_with (first | (at_builtin; refine Hid.out ?_) | fail)
                refine Lib.hid ?_
                refine wpList_append_own _ rfl _ _ 34 rfl wx.heap.size 3 i0 _ 1 8 Tryz.underlying34 hi0 hz0 hz1 hz2 rfl (by decide) _ _ _ rfl (Go.Proofs.YtdlaphlpimlgdaaGreatDoor.own_next (Go.Proofs.YtdlaphlpimlgdaaGreatDoor.own_next HOWN.out HB5.out) ((Below.refl _ w5).alloc (Nat.le_refl _) _)) ⟨w5.heap.size, 0, none⟩ 1 1 [.int .i64 x] rfl rfl (cell_one_new _ _ _) (by simp [Value.oneCell']) (by unfold maxLen; have := HCM.out; omega) (by have := HCM.out; omega) (by have := HBR.out.size; have := HB5.out.size; simp; omega) ?_
                intro v6 w6 hown6 hgrow6 _
                go_wp2_with fail
                refine ⟨⟨j + 1, row ++ [x], by omega, by go_num, by rw [List.length_append, HRW.out]; rfl, fun y hy => ?_, ?_, ?_, ?_⟩, by simp [intOf]; omega⟩
                · rcases List.mem_append.1 hy with hy | hy
                  · exact HOK.out y hy
                  · rw [List.mem_singleton.1 hy]
                    exact HX1.out
                · rw [List.take_add_one, HPP.out, HTK.out, HX2.out, List.map_append]
                  rfl
                · have h1 := HBR.out.trans (HB5.out.mono HBR.out.size)
                  have h2 := (Below.refl w5.heap.size w5).alloc (Nat.le_refl _) (.cells #[.int .i64 x] 3)
                  exact (h1.trans (h2.mono h1.size)).grown hgrow6 (Nat.le_trans h1.size h2.size) (fun B hB => (own_at HOWN.out hB).1)
                · rw [flatR_snoc]
                  exact hown6
              · have HX := Lib.hid hx
                have HBZ := Lib.hid (HBW.out.trans ((HBX.out.trans ((HBR.out.trans (HB5.out.mono HBR.out.size)).mono HBX.out.size)).mono HBW.out.size))
                refine ⟨rfl, .inr ⟨fun ⟨row', h⟩ => HX.out ?_, rfl⟩, HBZ.out⟩
                have h4 := h.2.2.2
                simp only [List.cons.injEq] at h4
                have h5 : (row'.map Lib.itoa)[j]? = some p := by rw [← h4.2]; exact HPP.out
                rw [List.getElem?_map] at h5
                obtain ⟨x, hx1, hx2⟩ := Option.map_eq_some_iff.1 h5
                exact ⟨x, h.2.2.1 x (List.mem_of_getElem? hx1), hx2.symm⟩
            · have hje : m = j := by omega
              subst hje
              have j2 : ¬ (m : Int) < (m : Int) := by omega
              have hfull : ps.take m = ps := List.take_of_length_le (by rw [HM.out]; omega)
              rw [hfull] at HTK
              have hbwr := HBX.out.trans (HBR.out.mono HBX.out.size)
              have hrj := HRW.out
              rw [← hrj] at HOWN
              have HRI := Lib.hid ((RowIs.of_own (k := 1) HOWN.out).lower (B' := R + 1) (by have := heapsz HR.out; have := HBX.out.size; omega))
              obtain ⟨Ar, cr, hv_, _⟩ := HRI.out.at_ intR_len
              rw [hrj] at hv_
              subst hv_
              have HRJ := Lib.hid hrj
              clear hrj
              have HGR := Lib.hid (HG.out.below hbwr)
              have HRR := Lib.hid (HR.out.up hbwr)
              obtain ⟨c0, c1, c2, c3⟩ := HRR.out.cells
              have HBWR := Lib.hid hbwr
              have hlR : R < wr.heap.size := heapsz HRR.out
              clear hfull hbwr HBR HOWN
              go_wp2_with (first | (at_builtin; refine Hid.out ?_) | fail)
              refine Lib.hid ?_
              refine wpList_append_own _ rfl _ _ 53 rfl (R + 1) 34 j0 _ 1 24 Tryz.underlying53 hj0 jz0 jz1 jz2 rfl (by decide) _ _ _ rfl (Go.Proofs.YtdlaphlpimlgdaaGreatDoor.own_next HGR.out.own ((Below.refl _ wr).alloc (Nat.le_refl _) _)) ⟨wr.heap.size, 0, none⟩ 1 1 [.slice Ar m cr] rfl rfl (cell_one_new _ _ _) (by simp [Value.oneCell']) (by rw [HK.out]; unfold maxLen; omega) (by rw [HK.out]; omega) (by simp; omega) ?_
              intro v6 w6 hown6 hgrow6 _
              have hA := HGR.out.append (by decide) HRI.out hown6 hgrow6
              obtain ⟨g6, c6, rfl, _⟩ := hown6.form (by omega)
              have hnR : some R ≠ (Value.slice AV k cV).ownBlock := own_ne HGR.out.own HRR.out (.inl (Nat.lt_succ_self R))
              have hb1 := (Below.refl wr.heap.size wr).alloc (Nat.le_refl _) (.cells #[.slice Ar m cr] 34)
              have hR6 : RdB w6 R Y P (.slice AV k cV) false := (hgrow6.block R (by simp; omega) hnR).trans ((hb1.block _ hlR).trans HRR.out)
              obtain ⟨e0, e1, e2, e3⟩ := hR6.cells
              have f2 := hR6.frozen 2
              have HA := Lib.hid hA; have HR6 := Lib.hid hR6
              clear hA hown6 hgrow6 hb1 hnR c0 c1 c2 c3 hR6
              go_wp2_with fail
              refine ⟨rfl, .tuple #[], by simp [results, Tryz.results124, go_sem], .inl ⟨row, ⟨by omega, by rw [HRJ.out]; exact HMP.out, HOK.out, by rw [HP0.out, HTK.out]⟩, rfl, ?_⟩, ?_⟩
              · refine ⟨⟨_, _, blk_set HR6.out 2 (.slice (some ⟨g6, 0, none⟩) (LL.length + 1) c6), HA.out.keep ?_ ?_⟩, HLW.out, ?_⟩
                · exact HA.out.bel.setCell (p := ⟨R, 2, none⟩) HLW.out _
                · intro b hb1 hb2
                  exact Below.heap_setCell _ _ _ _ (by show b ≠ R; omega)
                · intro r hr
                  rcases List.mem_append.1 hr with hr | hr
                  · exact HRL.out r hr
                  · rw [List.mem_singleton.1 hr]
                    exact ⟨by have := HCM.out; have := HRJ.out; omega, HOK.out⟩
              · exact HA.out.bel.setCell (p := ⟨R, 2, none⟩) HLW.out _
      · rw [decide_eq_false hp] at hbq
        refine rk_region (by kernel_rfl) (by kernel_rfl) ?_
        repeat (go_big_quiet_step (first | (with_reducible exact HCI.out _) | fail))
        refine wpQuiet_nil ?_
        rintro _ ⟨u, rfl⟩
        have HBU := Lib.hid (HBW.out.trans (u.h.mono HBW.out.size))
        clear g0 g1 D0 hbq
        go_wp2_with fail
        refine (giveUp_any _).mono ?_
        rintro e w5 ⟨rfl, rfl⟩
        refine ⟨rfl, .inr ⟨fun ⟨row, h⟩ => hp ?_, rfl⟩, HBU.out⟩
        have h4 := h.2.2.2
        simp only [List.cons.injEq] at h4
        exact h4.1
    · have hnP2 : ((n : Int) != 1 + P) = true := by simpa using hnP
      have v1 : Value.int .i64 (wrap64 (1 + P)) = Value.int .i64 (1 + P) := by congr 1; exact w64 (by omega)
      refine rk_region (by kernel_rfl) (by kernel_rfl) ?_
      repeat (go_big_quiet_step (fail))
      refine wpQuiet_nil ?_
      rintro _ ⟨u, rfl⟩
      have HBU := Lib.hid (HBW.out.trans (u.h.mono HBW.out.size))
      clear g0 g1
      go_wp2_with fail
      refine (giveUp_any _).mono ?_
      rintro e w5 ⟨rfl, rfl⟩
      refine ⟨rfl, .inr ⟨fun ⟨row, h⟩ => hnP ?_, rfl⟩, HBU.out⟩
      have h2 := h.2.1
      rw [← HN.out, h.2.2.2]
      simp only [List.length_cons, List.length_map]
      omega
end Go.Proofs.YtdlaphlpimlgdaaGreatDoor
