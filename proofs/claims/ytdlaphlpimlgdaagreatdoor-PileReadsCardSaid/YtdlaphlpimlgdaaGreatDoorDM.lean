/- A text is read as the specification reads it: for any text. No condition. -/
import Derived.Test.YtdlaphlpimlgdaaGreatDoorFC
import Derived.Test.YtdlaphlpimlgdaaGreatDoorEY
import Derived.Test.YtdlaphlpimlgdaaGreatDoorDA
import Derived.Test.YtdlaphlpimlgdaaGreatDoorTie
import Derived.Test.YtdlaphlpimlgdaaGreatDoorCards
import Derived.SevenTiedAt
import Derived.HandedShaped
import Derived.Lay
namespace Go.Proofs.YtdlaphlpimlgdaaGreatDoor
open Go.RowKit Go.Shelf

set_option maxRecDepth 100000 in
set_option maxHeartbeats 4000000 in
theorem reads_law (s : ByteArray) (w : World) (ht : Tab w) (hx : MaxW w) :
    Calls Tryz.prog 15 #[.string s] w fun e w' => e = .returned (.bool true) ∧ Below w.heap.size w w' := by
  have HT := Lib.hid ht; have HX := Lib.hid hx
  have HKN : Hid (∀ u, Below w.heap.size w u → Calls Tryz.prog 19 #[] u fun e w' => e = .returned (.bool true) ∧ Below w.heap.size w w') := Lib.hid fun u hu => (known_any u (HT.out.next hu)).mono fun e w' h => ⟨h.1, hu.trans (h.2.mono hu.size)⟩
  have HB0 := Lib.hid (Below.refl w.heap.size w)
  clear ht hx
  by_cases hbig : 20100 < s.size
  · have q1 : (800 : Int) < (s.size : Int) := by omega
    have q2 : ¬ (s.size : Int) ≤ 20000 := by omega
    have q3 : (20100 : Int) < (s.size : Int) := by omega
    go_enter Tryz.func15, Tryz.ntmps15
    go_wp2_with fail
    refine (HKN.out _ HB0.out).mono ?_
    rintro e w9 ⟨rfl, hb9⟩
    have HB9 := Lib.hid hb9
    clear hb9
    go_wp2_with fail
    go_ret
    exact ⟨rfl, HB9.out⟩
  by_cases hmid : 800 < s.size ∧ s.size ≤ 20000
  · have q1 : (800 : Int) < (s.size : Int) := by omega
    have q2 : (s.size : Int) ≤ 20000 := by omega
    go_enter Tryz.func15, Tryz.ntmps15
    go_wp2_with fail
    refine (HKN.out _ HB0.out).mono ?_
    rintro e w9 ⟨rfl, hb9⟩
    have HB9 := Lib.hid hb9
    clear hb9
    go_wp2_with fail
    go_ret
    exact ⟨rfl, HB9.out⟩
  have q3 : ¬ (20100 : Int) < (s.size : Int) := by omega
  have HRR : Hid (∀ u, Below w.heap.size w u → Calls Tryz.prog 58 #[.string s] u (RefP s.data.toList u)) := Lib.hid fun u _ => refRead_any s (by omega) u
  by_cases hlong : 20000 < s.size
  · have q1 : (800 : Int) < (s.size : Int) := by omega
    have q2 : (20000 : Int) < (s.size : Int) := by omega
    have HRL := Lib.hid (read_long s w hlong)
    clear hbig hmid
    go_enter Tryz.func15, Tryz.ntmps15
    go_wp2_with fail
    refine HRL.out.mono ?_
    rintro e w2 ⟨rfl, hb2⟩
    have HB2 := Lib.hid hb2
    clear hb2
    go_wp2_with fail
    refine (HRR.out _ HB2.out).mono ?_
    rintro e w3 ⟨hb3, A, n, c, z, rfl, _⟩
    have HB3 := Lib.hid (HB2.out.trans (hb3.mono HB2.out.size))
    clear hb3
    go_wp2_with fail
    refine (HKN.out _ HB3.out).mono ?_
    rintro e w9 ⟨rfl, hb9⟩
    have HB9 := Lib.hid hb9
    clear hb9
    go_wp2_with fail
    go_ret
    exact ⟨rfl, HB9.out⟩
  have hs8 : s.size ≤ 800 := by omega
  have q1 : ¬ (800 : Int) < (s.size : Int) := by omega
  have q2 : ¬ (20000 : Int) < (s.size : Int) := by omega
  have HRA := Lib.hid (Read_any s w HT.out HX.out (by omega))
  obtain ⟨T, hT⟩ : ∃ z, s.data.toList = z := ⟨_, rfl⟩
  have HSS : Hid (s = ⟨T.toArray⟩) := Lib.hid (by rw [← hT])
  rw [hT] at HRR HRA
  clear hbig hmid hlong hT hs8
  go_enter Tryz.func15, Tryz.ntmps15
  go_wp2_with fail
  refine HRA.out.mono ?_
  rintro e w2 ⟨hpost, hb2⟩
  have HB2 := Lib.hid hb2
  clear hb2 HRA
  rcases hpost with ⟨ts, ps, AV, cV, hd, he, hbk, rfl, hcV, hLV⟩ | ⟨ts, ps, hd, he, hbk, rfl⟩ | ⟨hno, rfl⟩
  · have HD := Lib.hid hd; have HE := Lib.hid he; have HBK := Lib.hid hbk; have HLV := Lib.hid hLV
    clear hd he hbk hLV hcV
    obtain ⟨N, hN⟩ : ∃ z, ts.length = z := ⟨_, rfl⟩
    have HN := Lib.hid hN
    rw [hN]
    clear hN
    go_wp2_with fail
    refine (HRR.out _ HB2.out).mono ?_
    rintro e w3 ⟨hb3, A, n, c, z, rfl, hz⟩
    have HB3 := Lib.hid (HB2.out.trans (hb3.mono HB2.out.size))
    have HLV3 := Lib.hid (LvsAt.up HLV.out hb3)
    clear hb3
    rcases hz with ⟨rfl, us, qs, hd2, he2, hn, hn3, hU⟩ | ⟨rfl, hno⟩
    case inr => exact absurd HE.out (hno _ _ HD.out)
    have e1 := docT_inj HD.out (HE.out.symm.trans he2)
    obtain rfl : ts = us := e1.1
    have HU := Lib.hid hU
    rw [HN.out] at hn
    subst hn
    have HRB : Hid (Calls Tryz.prog 55 #[.slice A N c] w3 fun e w' => e = .returned (.bool true) ∧ Below w3.heap.size w3 w') := Lib.hid (by
      have := refBook_any A N c ts w3 HN.out (by unfold maxLen; omega) HU.out
      rwa [HBK.out] at this)
    have hNm : N ≤ maxLen := by unfold maxLen; omega
    have HNM := Lib.hid hNm
    have HDB : Hid (⟨(bookT ts).toArray⟩ = s) := Lib.hid (by
      have e3 := HD.out.rows
      have hps : ps = ((ts.headD []).length : Int) := by
        obtain ⟨⟨b1, b2⟩, np, ⟨b3, b4⟩, b5, b6⟩ := book_spec HBK.out
        cases ts with
        | nil => simp at b1
        | cons r l => exact (e3 r (by simp)).1.symm
      rw [docT_book, ← hps, ← HE.out, ← HSS.out])
    clear hd2 he2 hU e1 hNm hn3
    go_wp2_with fail
    refine HRB.out.mono ?_
    rintro e w4 ⟨rfl, hb4⟩
    have HB4 := Lib.hid (HB3.out.trans (hb4.mono HB3.out.size))
    have HLV4 := Lib.hid (LvsAt.up HLV3.out hb4); have HU4 := Lib.hid (LvsAt.up HU.out hb4)
    clear hb4
    go_wp2_with fail
    refine (Print_any AV N cV ts w4 HN.out HNM.out HLV4.out (HT.out.next HB4.out)).mono ?_
    rintro e w5 ⟨rfl, hb5⟩
    have hr : printR ts = (bookT ts, 0) := by simp [printR, HBK.out]
    rw [hr]
    have HB5 := Lib.hid (HB4.out.trans (hb5.mono HB4.out.size))
    have HLV5 := Lib.hid (LvsAt.up HLV4.out hb5); have HU5 := Lib.hid (LvsAt.up HU4.out hb5)
    simp only [HDB.out]
    clear hb5 hr
    go_wp2_with fail
    refine (sameRows_is AV A N cV c ts w5 HN.out HNM.out HLV5.out HU5.out).mono ?_
    rintro e w6 ⟨rfl, hb6⟩
    have HB6 := Lib.hid (HB5.out.trans (hb6.mono HB5.out.size))
    clear hb6
    go_wp2_with fail
    refine (HKN.out _ HB6.out).mono ?_
    rintro e w9 ⟨rfl, hb9⟩
    have HB9 := Lib.hid hb9
    clear hb9
    go_wp2_with fail
    go_ret
    exact ⟨rfl, HB9.out⟩
  · have HD := Lib.hid hd; have HE := Lib.hid he; have HBK := Lib.hid hbk
    clear hd he hbk
    go_wp2_with fail
    refine (HRR.out _ HB2.out).mono ?_
    rintro e w3 ⟨hb3, A, n, c, z, rfl, hz⟩
    have HB3 := Lib.hid (HB2.out.trans (hb3.mono HB2.out.size))
    clear hb3
    rcases hz with ⟨rfl, us, qs, hd2, he2, hn, hn3, hU⟩ | ⟨rfl, hno⟩
    case inr => exact absurd HE.out (hno _ _ HD.out)
    have e1 := docT_inj HD.out (HE.out.symm.trans he2)
    obtain rfl : ts = us := e1.1
    have HU := Lib.hid hU
    have HRB : Hid (Calls Tryz.prog 55 #[.slice A n c] w3 fun e w' => e = .returned (.bool false) ∧ Below w3.heap.size w3 w') := Lib.hid (by
      have := refBook_any A n c ts w3 hn (by unfold maxLen; omega) HU.out
      rwa [HBK.out] at this)
    clear hd2 he2 hU e1 hn3 hn
    go_wp2_with fail
    refine HRB.out.mono ?_
    rintro e w4 ⟨rfl, hb4⟩
    have HB4 := Lib.hid (HB3.out.trans (hb4.mono HB3.out.size))
    clear hb4
    go_wp2_with fail
    refine (HKN.out _ HB4.out).mono ?_
    rintro e w9 ⟨rfl, hb9⟩
    have HB9 := Lib.hid hb9
    clear hb9
    go_wp2_with fail
    go_ret
    exact ⟨rfl, HB9.out⟩
  · have HNO := Lib.hid hno
    clear hno
    go_wp2_with fail
    refine (HRR.out _ HB2.out).mono ?_
    rintro e w3 ⟨hb3, A, n, c, z, rfl, hz⟩
    have HB3 := Lib.hid (HB2.out.trans (hb3.mono HB2.out.size))
    clear hb3
    rcases hz with ⟨rfl, us, qs, hd2, he2, hn, hn3, hU⟩ | ⟨rfl, hno⟩
    · exact absurd he2 (HNO.out _ _ hd2)
    clear hno
    go_wp2_with fail
    refine (HKN.out _ HB3.out).mono ?_
    rintro e w9 ⟨rfl, hb9⟩
    have HB9 := Lib.hid hb9
    clear hb9
    go_wp2_with fail
    go_ret
    exact ⟨rfl, HB9.out⟩
end Go.Proofs.YtdlaphlpimlgdaaGreatDoor
namespace Go
/-- A row whose contract may ask for the world's shape and for what is laid. -/
theorem handed_and_shaped2 {H : Type} {enc : TypeId × Value → H} {a : Assume} {C : Checked} {os : Os} {f : FuncId} {fn : Func} {s : ChangeSpec} {conds : List PathCond} {apart fresh handsOn again : Bool} {X : World → Array Value → Prop}
    (hX : ∀ (w w' : World) (args : Array Value), w.heap = w'.heap → X w args → X w' args)
    (own : ownKnob C.prog.godebug = none) (started : os.Started) (noInit : C.prog.inits.idxOf? f = none) (hfn : C.prog.funcs[f]? = some fn)
    (witness : ∃ (w : World) (tape : Tape) (i : Input), w.os = os ∧ (w.forCall tape i).Shaped C.prog ∧ i.vars = [] ∧ Input.okWide C.prog (w.forCall tape i) .any w.heap.size f i ∧
      ((s.pre enc C.prog fn conds apart (w.forCall tape i).memory i.args ∧ X (w.forCall tape i).memory i.args) ∧ sizedMet enc C.prog fn (OpenSpec.ofChange s) apart (w.forCall tape i).memory i.args) ∧ a.holds C.prog (lone (Frame.enter C.prog f i.args .normal) [] (w.forCall tape i)))
    (contract : ∀ (W : World) (base : Nat) (args : Array Value) (ds gs : List (DataW H)) (before : List MemPlace),
      (∀ (j : Nat) t v, fn.params[j]? = some t → args[j]? = some v → Value.okWide C.prog W .any base t v) →
      DataW.Whole enc C.prog fn.params.toList s.vars apart W args.toList ds gs before →
      X W args → W.ShapedOpen C.prog →
      Calls C.prog f args W fun e W' => ∃ v, e = .returned v ∧ s.post enc C.prog fn apart fresh handsOn again W args v W') :
    ReturnsInHanded a C os f .any (fun w args => (s.pre enc C.prog fn conds apart w args ∧ X w args) ∧ sizedMet enc C.prog fn (OpenSpec.ofChange s) apart w args) (s.post enc C.prog fn apart fresh handsOn again) := by
  refine returnsInHanded_of_calls own started noInit witness ?_
  intro w tape i _ hsh _ hok hpre _
  obtain ⟨_, _, _, fn', hfn', _, _, _, _, hval⟩ := hok
  have e : fn' = fn := Option.some.inj (hfn'.symm.trans hfn)
  subst e
  obtain ⟨⟨⟨ds, gs, before, hw, _⟩, hx⟩, _⟩ := hpre
  have hw' := DataW.Whole.of_heap (w' := w.forCall tape i) (by rfl) hw
  refine (contract (w.forCall tape i) w.heap.size i.args ds gs before hval hw' (hX _ _ _ (by rfl) hx) hsh).mono fun e W' ⟨v, he, hp⟩ => ?_
  subst he
  exact ChangeSpec.post_blind hp
end Go
namespace Go.Proofs.YtdlaphlpimlgdaaGreatDoor
open Go.ChangeShapes Go.WideShapes Go.ChangeAt Go.RowKit

abbrev LaidB : List (String × DataW Unit) := [("math/bits.deBruijn32tab", Rows.laid_math_bits_deBruijn32tab), ("math/bits.deBruijn64tab", Rows.laid_math_bits_deBruijn64tab), ("internal/strconv.uint64pow10", Rows.laid_internal_strconv_uint64pow10), ("unicode/utf8.acceptRanges", Rows.laid_unicode_utf8_acceptRanges), ("unicode/utf8.first", Rows.laid_unicode_utf8_first)]
theorem door_metB (os : Os) (args : Array Value) : laidMetH Tryz.prog LaidB ((World.laidAll Tryz.prog os LaidB).forCall (fun _ _ => 0) ⟨#[], args, []⟩).memory := by
  rw [MakeChecks.laidMetH_plain _ _ _ (by kernel_rfl)]
  exact laidMet_laidAll _ (by kernel_rfl) (by kernel_rfl)
theorem tab_of_laidB {W : World} (h : laidMetH Tryz.prog LaidB W) : Tab W := by
  rw [MakeChecks.laidMetH_plain _ _ _ (by kernel_rfl)] at h
  obtain ⟨ps, ⟨g0, t0, cs0, f0, p0, q0, hg0, ht0, hv0, hd0, ⟨g1, t1, cs1, f1, p1, q1, hg1, ht1, hv1, hd1, ⟨g2, t2, cs2, f2, p2, q2, hg2, ht2, hv2, hd2, _, _⟩, _⟩, _⟩, _⟩ := h
  obtain rfl := Option.some.inj (g_pow.symm.trans hg2)
  obtain rfl := Option.some.inj (t_pow.symm.trans ht2)
  refine Lib.tabBelow_of_tabIs ?_
  unfold Lib.TabIs
  rw [hv2, ← Lib.cells_of_tab Tryz.underlying243 Tryz.underlying222 c222 c243 (show DataW.trod _ Tryz.prog W 0 _ false f2 243 _ = some (Lib.tabData .u64 Lib.pow10Tab, p2) from hd2)]
theorem max_of_shape {W : World} (h : W.ShapedOpen Tryz.prog) : MaxW W := by
  obtain ⟨m, hm⟩ := Tryz.laysM143.s1_3 W h
  exact ⟨m, hm, World.block_lt_of_cell? _ _ hm⟩

set_option maxRecDepth 100000 in
theorem reads_lifted (os : Os) (started : os.Started) (H : Type) (enc : TypeId × Value → H) :
    ReturnsInHanded {} Tryz.checked os 15 .any (fun w args => (Rows.pileReadsSpec.pre enc Tryz.prog Tryz.f15 [] false w args ∧ laidMetH Tryz.prog LaidB w) ∧ sizedMet enc Tryz.prog Tryz.f15 (OpenSpec.ofChange Rows.pileReadsSpec) false w args)
      (Rows.pileReadsSpec.post enc Tryz.prog Tryz.f15 false true false false) := by
  refine handed_and_shaped2 (C := Tryz.checked) (X := fun w _ => laidMetH Tryz.prog LaidB w) (fun _ _ _ hh h => h.of_heap hh) own_knob started (by kernel_rfl) Tryz.func15
    (ChangeSpec.witness_shaped (enc := enc) (C := Tryz.checked) (os := os) (X := fun w _ => laidMetH Tryz.prog LaidB w) false (World.laidAll Tryz.prog os LaidB)
      #[.string ⟨#[]⟩] 8 (World.laidAll_os _ _ _) (World.shaped_of_ZipB (by kernel_rfl) (by kernel_rfl)) (by kernel_rfl) (by kernel_rfl) (by kernel_rfl) (door_metB os _)) ?_
  intro W base args ds gs before hval0 hW hL0 hsh
  have hval : ∀ (j : Nat) t v, Tryz.f15.params[j]? = some t → args[j]? = some v → Value.okWide Tryz.prog W .any base t v := hval0
  have hW' := hW
  obtain ⟨p, q, hA0, hV, rfl, hfz, hnd⟩ := hW
  have hA : DataW.TrodAll enc Tryz.prog W 0 (fun _ => true) true Tryz.f15.params.toList args.toList ds p := hA0
  rw [Tryz.params15] at hA hval
  obtain ⟨v0, d0, rfl, rfl, h0⟩ := trodAll_one hA
  obtain ⟨rfl, rfl⟩ := trodVars_none hV
  obtain ⟨s, e0, _, _, _⟩ := Go.ChangeMaps.open_string Tryz.underlying9 (hval 0 9 v0 rfl rfl) h0
  have ht := tab_of_laidB hL0
  have hx := max_of_shape hsh
  clear hA0 hval0 hA
  subst e0
  refine (reads_law s W ht hx).mono fun e W' hh => ?_
  obtain ⟨rfl, hb⟩ := hh
  exact ⟨_, rfl, _, _, _, [], _, [], hW', trodAll_mk1 (shut_bool Tryz.underlying4 _), trodAll_cons_mk (stays r9 (tsz 9 (by decide)) h0 hb) trodAll_mk0, rfl, hb.frame _, fun h => by cases h⟩

theorem reads_row : Rows.PileReadsSaid :=
  OpenClaim.holds_of_wide 15 Tryz.f15 rfl rfl rfl rfl rfl rfl rfl ⟨rfl, rfl, rfl, rfl, rfl⟩ rfl rfl rfl rfl rfl (by kernel_rfl) Tryz.func15 (by kernel_rfl)
    (of_decide_eq_true (by kernel_rfl)) (by unfold Func.isWrapper; first | (rw [if_pos (by decide +kernel)]; kernel_rfl) | (rw [if_neg (by decide +kernel)]; exact ⟨rfl, rfl⟩))
    (fun os started H enc _ => reads_lifted os started H enc)

/-- The statement. -/
theorem reads_card : Rows.PileReadsCardSaid :=
  Claim7.holds_tied_plain_at .later [] [.data, .data, .data, .data, .pinned] true (true, "a256a8149ddfe718b4c1d3902c99956daa1d9ab4ac3e97d0372f5e99a088ab2d") true
    reads_row (fun _ h => by cases h) (by kernel_rfl) (fun _ h => by cases h) pileReads_row_tie rfl ⟨rfl, rfl⟩ (by kernel_rfl) rfl
    (fun f fn hf hfn => by
      obtain rfl : f = 15 := Option.some.inj ((show Tryz.prog.funcNamed "talik/taliklaw02.PileReads" = some 15 by kernel_rfl).symm.trans hf) |>.symm
      obtain rfl : fn = Tryz.f15 := (Option.some.inj (Tryz.func15.symm.trans hfn)).symm
      exact ⟨by kernel_rfl, fun j t ht => by
        rw [Tryz.params15] at ht
        have hm : t ∈ [9] := by simpa using Array.mem_of_getElem? ht
        have hall : ([9].all fun u => !Tryz.prog.wantsStandIn u) = true := by kernel_rfl
        exact (show Tryz.prog.wantsStandIn t = false by simpa using List.all_eq_true.1 hall t hm)⟩)
    (by kernel_rfl)
#print axioms reads_card
end Go.Proofs.YtdlaphlpimlgdaaGreatDoor
