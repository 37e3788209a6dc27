/- The specification's reader: a number, a line of a word and three numbers. -/
import Derived.Test.YtccekbdhffccdaaDoorIC
namespace Go.Proofs.YtccekbdhffccdaaDoor
open Go.RowKit Go.Shelf
set_option maxRecDepth 100000 in
set_option maxHeartbeats 4000000 in
theorem number2_loop (s : ByteArray) (h8 : s.size ≤ 8) (h0 : 0 < s.size) (w : World) :
    Calls Tryd.prog 100 #[.string s] w fun e w' => Below w.heap.size w w' ∧ ((DigL s.data.toList ∧ e = .returned (.tuple #[.int .i64 (valL s.data.toList : Nat), .bool ((ByteArray.mk (Lib.decDigits (valL s.data.toList)).toArray).toList == s.toList)])) ∨ (¬ DigL s.data.toList ∧ e = .returned (.tuple #[.int .i64 0, .bool false]))) := by
  have HSZ := Lib.hid (show s.size = s.data.toList.length from Array.length_toList.symm)
  have h2 : ¬ s = ByteArray.empty := fun e => by rw [e] at h0; exact absurd h0 (by decide)
  have h3 : ¬ (8 : Int) < (s.size : Int) := by omega
  have H8 := Lib.hid h8
  go_enter Tryd.func100, Tryd.ntmps100
  go_wp2_with fail
  go_loopw [4, 5] (fun n i wr => wr = w ∧ ∃ k : Nat, k ≤ s.size ∧ i = .int .i64 k ∧ n = .int .i64 (valL (s.data.toList.take k) : Nat) ∧ DigL (s.data.toList.take k)) (fun _ i _ => s.size - (intOf i).toNat)
  case atStart => exact ⟨rfl, 0, Nat.zero_le _, rfl, rfl, fun c hc => by simp at hc⟩
  case round =>
    obtain ⟨rfl, k, hk, rfl, rfl, hd⟩ := hrel
    have HD := Lib.hid hd; clear hd
    by_cases hlt : k < s.size
    · have hl : k < s.data.toList.length := by have := HSZ.out; omega
      have hget : s[k]'hlt = s.data.toList[k] := by rfl
      have hv := valL_lt (l := s.data.toList) (k := k) (by omega) (by have := HSZ.out; have := H8.out; omega) HD.out
      have ht := valL_take hl
      rw [← hget] at ht
      have hds := fun hc => digL_snoc hl HD.out hc
      rw [← hget] at hds
      have hno := fun (hc : ¬ (48 ≤ (s[k]'hlt).toNat ∧ (s[k]'hlt).toNat ≤ 57)) => (fun hD : DigL s.data.toList => hc (by rw [hget]; exact hD _ (List.getElem_mem hl)))
      have HT := Lib.hid ht; have HDS := Lib.hid hds; have HNO := Lib.hid hno
      clear ht hds hno hget
      obtain ⟨V, hV⟩ : ∃ V, valL (s.data.toList.take k) = V := ⟨_, rfl⟩
      rw [hV] at HT hv ⊢
      clear hV
      obtain ⟨c, hc⟩ : ∃ c : UInt8, (s[k]'hlt) = c := ⟨_, rfl⟩
      rw [hc] at HT HDS HNO
      have hcl := c.toNat_lt
      by_cases c1 : c.toNat < 48
      · have c1' : ((s[k]'hlt).toNat : Int) < 48 := by rw [hc]; omega
        go_wp2_with fail
        go_ret2
        exact ⟨Below.refl _ _, .inr ⟨HNO.out (by omega), rfl⟩⟩
      · have c1' : ¬ ((s[k]'hlt).toNat : Int) < 48 := by rw [hc]; omega
        by_cases c2 : 57 < c.toNat
        · have c2' : (57 : Int) < ((s[k]'hlt).toNat : Int) := by rw [hc]; omega
          go_wp2_with fail
          go_ret2
          exact ⟨Below.refl _ _, .inr ⟨HNO.out (by omega), rfl⟩⟩
        · have c2' : ¬ (57 : Int) < ((s[k]'hlt).toNat : Int) := by rw [hc]; omega
          go_wp2_with fail
          refine ⟨⟨trivial, k + 1, by omega, by go_num, ?_, HDS.out (by omega)⟩, by simp [intOf]; omega⟩
          rw [HT.out]
          congr 1
          omega
    · have hke : k = s.size := by omega
      have hd := HD.out
      rw [List.take_of_length_le (by have := HSZ.out; omega)] at hd ⊢
      have HD2 := Lib.hid hd
      have hv := val_lt hd
      have hv8 : valL s.data.toList < 100000000 := Nat.lt_of_lt_of_le hv (Nat.pow_le_pow_right (n := 10) (by decide) (by have := HSZ.out; have := H8.out; omega) : 10 ^ _ ≤ 10 ^ 8)
      have hdec := decimal_nat (valL s.data.toList) hv8
      obtain ⟨V, hV⟩ : ∃ V, valL s.data.toList = V := ⟨_, rfl⟩
      rw [hV] at hv8 hdec ⊢
      have HV := Lib.hid hV
      clear hd hv hV
      go_wp2_with fail
      refine (hdec wr).mono ?_
      rintro e w1 ⟨rfl, hb1⟩
      have HB1 := Lib.hid hb1
      obtain ⟨D, hD⟩ : ∃ D : ByteArray, ByteArray.mk (Lib.decDigits V).toArray = D := ⟨_, rfl⟩
      rw [hD]
      have HDD := Lib.hid hD
      clear hD hb1 hdec
      go_wp2_with fail
      go_ret2
      exact ⟨HB1.out, .inl ⟨HD2.out, by rw [HV.out, HDD.out]; rfl⟩⟩
theorem byte_list_eq (a : List UInt8) (s : ByteArray) : ((ByteArray.mk a.toArray).toList == s.toList) = decide (a = s.data.toList) := by
  rw [ByteArray.toList_eq, ByteArray.toList_eq]
  show (a == s.data.toList) = _
  by_cases h : a = s.data.toList
  · rw [decide_eq_true h, h]; simp
  · rw [decide_eq_false h]; simpa using h
set_option maxRecDepth 100000 in
set_option maxHeartbeats 4000000 in
theorem number2_long (s : ByteArray) (h : 8 < s.size) (w : World) :
    Calls Tryd.prog 100 #[.string s] w fun e w' => e = .returned (.tuple #[.int .i64 0, .bool false]) ∧ w' = w := by
  have h1 : ¬ s = ByteArray.empty := fun e => by rw [e] at h; exact absurd h (by decide)
  go_enter Tryd.func100, Tryd.ntmps100
  go_wp2_with fail
  go_ret2
  exact ⟨rfl, rfl⟩
set_option maxRecDepth 100000 in
set_option maxHeartbeats 4000000 in
theorem number2_any (s : ByteArray) (hs : s.size ≤ 6000) (w : World) :
    Calls Tryd.prog 100 #[.string s] w fun e w' => Below w.heap.size w w' ∧ ∃ n z, e = .returned (.tuple #[.int .i64 n, .bool z]) ∧ ((z = true ∧ NumL s.data.toList ∧ n = (valL s.data.toList : Nat)) ∨ (z = false ∧ ¬ NumL s.data.toList)) := by
  have hsz : s.size = s.data.toList.length := Array.length_toList.symm
  by_cases h0 : 0 < s.size
  · by_cases h8 : s.size ≤ 8
    · refine (number2_loop s h8 h0 w).mono ?_
      rintro e w' ⟨hb, ⟨hd, rfl⟩ | ⟨hd, rfl⟩⟩
      · refine ⟨hb, _, _, rfl, ?_⟩
        rw [byte_list_eq]
        by_cases he : Lib.decDigits (valL s.data.toList) = s.data.toList
        · have hv := val_lt hd
          have hv8 : valL s.data.toList < 100000000 := Nat.lt_of_lt_of_le hv (Nat.pow_le_pow_right (n := 10) (by decide) (by omega) : 10 ^ _ ≤ 10 ^ 8)
          have := numL_dd hv8
          rw [he] at this
          exact .inl ⟨decide_eq_true he, this, rfl⟩
        · exact .inr ⟨decide_eq_false he, fun h => he (numL_val h).2⟩
      · exact ⟨hb, _, _, rfl, .inr ⟨rfl, fun h => hd h.2.2.2⟩⟩
    · refine (number2_long s (by omega) w).mono ?_
      rintro e w' ⟨rfl, rfl⟩
      exact ⟨Below.refl _ _, 0, false, rfl, .inr ⟨rfl, fun h => by have := h.2.1; omega⟩⟩
  · have hs : s = ⟨#[]⟩ := by
      have : s.data = #[] := Array.eq_empty_of_size_eq_zero (by show s.size = 0; omega)
      cases s; simp_all
    subst hs
    go_enter Tryd.func100, Tryd.ntmps100
    go_wp2_with fail
    go_ret2
    exact ⟨Below.refl _ _, 0, .inl ⟨rfl, fun h => h.1 rfl⟩⟩
theorem ownStr_cells {w : World} {base g n cap : Nat} {xs : List Value} (h : w.ownsRow base 9 1 (.slice (some ⟨g, 0, none⟩) n cap) n xs) : ∀ j u, xs[j]? = some u → w.cell? ⟨g, j, none⟩ = some u := by
  intro j u hj
  obtain ⟨hl, hh⟩ := h
  rcases hh with ⟨hv, _⟩ | ⟨g', cap', cur, hv, hb, hg, hn, hc, hs, ht⟩
  · exact absurd hv (by simp)
  · simp only [Value.slice.injEq, Option.some.injEq, Addr.mk.injEq, and_true, true_and] at hv
    obtain ⟨rfl, rfl⟩ := hv
    have hlt := (List.getElem?_eq_some_iff.1 hj).1
    rw [← ht, List.getElem?_take_of_lt (by omega)] at hj
    rw [cell_of_row w g j cur 9 (0, 0) hg]
    simpa using hj
theorem three_fin {S w0 w1 w2 w3 : List UInt8} {a b c : Int} {x y z : Bool} (hp : pieces 32 S = [w0, w1, w2, w3]) (h1 : x = true ∧ NumL w1 ∧ a = (valL w1 : Nat) ∨ x = false ∧ ¬ NumL w1) (h2 : y = true ∧ NumL w2 ∧ b = (valL w2 : Nat) ∨ y = false ∧ ¬ NumL w2) (h3 : z = true ∧ NumL w3 ∧ c = (valL w3 : Nat) ∨ z = false ∧ ¬ NumL w3) :
    (x && y && z) = true ∧ Three w0 S a b c ∨ (x && y && z) = false ∧ ∀ a b c, ¬ Three w0 S a b c := by
  have hno : ¬ (NumL w1 ∧ NumL w2 ∧ NumL w3) → ∀ a b c, ¬ Three w0 S a b c := fun hn a b c h => by
    have h4 := h.2.2.2
    rw [hp] at h4
    simp only [List.cons.injEq, and_true, true_and] at h4
    exact hn ⟨(numL_iff _).2 ⟨a, h.1, h4.1⟩, (numL_iff _).2 ⟨b, h.2.1, h4.2.1⟩, (numL_iff _).2 ⟨c, h.2.2.1, h4.2.2⟩⟩
  rcases h1 with ⟨rfl, n1, rfl⟩ | ⟨rfl, n1⟩
  · rcases h2 with ⟨rfl, n2, rfl⟩ | ⟨rfl, n2⟩
    · rcases h3 with ⟨rfl, n3, rfl⟩ | ⟨rfl, n3⟩
      · refine .inl ⟨rfl, ?_⟩
        have v1 := numL_val n1; have v2 := numL_val n2; have v3 := numL_val n3
        refine ⟨⟨by omega, by omega⟩, ⟨by omega, by omega⟩, ⟨by omega, by omega⟩, ?_⟩
        rw [hp, itoa_nat (by omega), itoa_nat (by omega), itoa_nat (by omega)]
        simp only [Int.toNat_natCast, v1.2, v2.2, v3.2]
      · exact .inr ⟨by simp, hno fun h => n3 h.2.2⟩
    · exact .inr ⟨by simp, hno fun h => n2 h.2.1⟩
  · exact .inr ⟨by simp, hno fun h => n1 h.1⟩
theorem three_ret {w w' : World} {word S : List UInt8} {a b c : Int} {z : Bool} {A : Act} (hr : (results Tryd.f83 A.tmps).run Tryd.prog w' = .ok (.tuple #[.int .i64 a, .int .i64 b, .int .i64 c, .bool z]) w') (hb : Below w.heap.size w w') (h : (z = true ∧ Three word S a b c) ∨ (z = false ∧ ∀ a b c, ¬ Three word S a b c)) (hd : A.defers = [] := by rfl) :
    bodyPost Tryd.prog Tryd.f83 (fun e w' => Below w.heap.size w w' ∧ ∃ a b c z, e = .returned (.tuple #[.int .i64 a, .int .i64 b, .int .i64 c, .bool z]) ∧ ((z = true ∧ Three word S a b c) ∨ (z = false ∧ ∀ a b c, ¬ Three word S a b c))) Exit.ret A w' :=
  bodyPost_ret hr hd ⟨hb, a, b, c, z, rfl, h⟩
set_option maxRecDepth 100000 in
set_option maxHeartbeats 4000000 in
theorem three_any (s : ByteArray) (word : List UInt8) (hs : s.size ≤ 6000) (w : World) :
    Calls Tryd.prog 83 #[.string s, .string ⟨word.toArray⟩] w fun e w' => Below w.heap.size w w' ∧ ∃ a b c z, e = .returned (.tuple #[.int .i64 a, .int .i64 b, .int .i64 c, .bool z]) ∧
      ((z = true ∧ Three word s.data.toList a b c) ∨ (z = false ∧ ∀ a b c, ¬ Three word s.data.toList a b c)) := by
  have HS := Lib.hid hs
  have hsp := split2_any s 32 hs w
  have e32 : ((32 : UInt8).toNat : Int) = 32 := rfl
  rw [show ((32 : UInt8).toNat : Nat) = 32 from rfl] at hsp
  have hps := pieces_len (c := 32) s.data.toList
  obtain ⟨ps, hp⟩ : ∃ z, pieces 32 s.data.toList = z := ⟨_, rfl⟩
  rw [hp] at hsp hps
  have HP := Lib.hid hp; have HPS := Lib.hid hps
  clear hp hps e32
  go_enter Tryd.func83, Tryd.ntmps83
  go_wp2_with fail
  refine hsp.mono ?_
  rintro e u1 ⟨hb1, v, rfl, ho⟩
  obtain ⟨g, cap, rfl, hg1, hg2⟩ := ho.form (by have := pieces_ne 32 s.data.toList; rw [HP.out] at this; exact List.length_pos_iff.2 this)
  have hcells := ownStr_cells ho
  have HB1 := Lib.hid hb1
  have hl46 : (ps.length : Int) ≤ 6001 := by have := HPS.out.1; have : s.data.toList.length = s.size := Array.length_toList; omega
  have hpl : ∀ p ∈ ps, (ByteArray.mk p.toArray).size ≤ 6000 := fun p hp => by
    have h1 := HPS.out.2 p hp
    have h2 : s.data.toList.length = s.size := Array.length_toList
    show p.toArray.size ≤ _
    rw [List.size_toArray]
    have := HS.out
    omega
  clear hb1 ho hsp
  by_cases hl : ps.length = 4
  · match ps, hl with
    | [w0, w1, w2, w3], _ =>
      have c0 := hcells 0 _ rfl
      have c1 := hcells 1 _ rfl
      have c2 := hcells 2 _ rfl
      have c3 := hcells 3 _ rfl
      have l1 := hpl w1 (by simp)
      have l2 := hpl w2 (by simp)
      have l3 := hpl w3 (by simp)
      clear hcells hpl
      by_cases hw : w0 = word
      · subst hw
        have n1 := fun u => number2_any ⟨w1.toArray⟩ l1 u
        have n2 := fun u => number2_any ⟨w2.toArray⟩ l2 u
        have n3 := fun u => number2_any ⟨w3.toArray⟩ l3 u
        have N1 := Lib.hid n1; have N2 := Lib.hid n2; have N3 := Lib.hid n3
        have C := Lib.hid (And.intro c1 (And.intro c2 c3))
        clear n1 n2 n3 l1 l2 l3
        go_wp2_with fail
        refine (N1.out _).mono ?_
        rintro e u2 ⟨hb2, a, x, rfl, h1⟩
        have HB2 := Lib.hid (HB1.out.trans (hb2.mono HB1.out.size))
        have lt2 := Nat.lt_of_lt_of_le hg2 hb2.size
        replace c2 := ((bcell hb2).1 _ _ hg2).trans C.out.2.1
        replace c3 := ((bcell hb2).1 _ _ hg2).trans C.out.2.2
        have H1 := Lib.hid h1
        clear hb2 h1 c0 c1
        have C := Lib.hid c3
        go_wp2_with fail
        refine (N2.out _).mono ?_
        rintro e u3 ⟨hb3, b, y, rfl, h2⟩
        have HB3 := Lib.hid (HB2.out.trans (hb3.mono HB2.out.size))
        have lt3 := Nat.lt_of_lt_of_le lt2 hb3.size
        replace c3 := ((bcell hb3).1 _ _ lt2).trans C.out
        have H2 := Lib.hid h2
        clear hb3 h2 c2
        go_wp2_with fail
        refine (N3.out _).mono ?_
        rintro e u4 ⟨hb4, c, z, rfl, h3⟩
        have HB4 := Lib.hid (HB3.out.trans (hb4.mono HB3.out.size))
        have H3 := Lib.hid h3
        have FIN := Lib.hid (three_fin HP.out H1.out H2.out H3.out)
        clear hb4 h3 c3 H1 H2 H3 N1 N2 N3 HPS hl46
        obtain ⟨q, hq⟩ : ∃ q, (x && y && z) = q := ⟨_, rfl⟩
        rw [hq] at FIN
        have HQ := Lib.hid hq
        clear hq
        cases x <;> cases y <;> cases z
        all_goals
          have hq := HQ.out
          simp only [Bool.and_true, Bool.and_false] at hq
          subst hq
          go_wp2_with fail
        · exact three_ret (a := a) (b := b) (c := c) (z := false) (by simp [results, Tryd.results83, go_sem]) HB4.out (by simpa using FIN.out)
        · exact three_ret (a := a) (b := b) (c := c) (z := false) (by simp [results, Tryd.results83, go_sem]) HB4.out (by simpa using FIN.out)
        · exact three_ret (a := a) (b := b) (c := c) (z := false) (by simp [results, Tryd.results83, go_sem]) HB4.out (by simpa using FIN.out)
        · exact three_ret (a := a) (b := b) (c := c) (z := false) (by simp [results, Tryd.results83, go_sem]) HB4.out (by simpa using FIN.out)
        · exact three_ret (a := a) (b := b) (c := c) (z := false) (by simp [results, Tryd.results83, go_sem]) HB4.out (by simpa using FIN.out)
        · exact three_ret (a := a) (b := b) (c := c) (z := false) (by simp [results, Tryd.results83, go_sem]) HB4.out (by simpa using FIN.out)
        · exact three_ret (a := a) (b := b) (c := c) (z := false) (by simp [results, Tryd.results83, go_sem]) HB4.out (by simpa using FIN.out)
        · exact three_ret (a := a) (b := b) (c := c) (z := true) (by simp [results, Tryd.results83, go_sem]) HB4.out (by simpa using FIN.out)
      · have hbeq : (w0 == word) = false := by simpa using hw
        have hno := Lib.hid (show ∀ a b c, ¬ Three word s.data.toList a b c from fun a b c h => by
          have := h.2.2.2
          rw [HP.out] at this
          simp only [List.cons.injEq] at this
          exact hw this.1)
        go_wp2_with fail
        refine bodyPost_ret (v := .tuple #[.int .i64 0, .int .i64 0, .int .i64 0, .bool false]) (by simp [results, Tryd.results83, go_sem]) rfl ?_
        exact ⟨HB1.out, 0, 0, 0, false, rfl, .inr ⟨rfl, hno.out⟩⟩
  · have hl' : ¬ (ps.length : Int) = 4 := by omega
    have hno := Lib.hid (show ∀ a b c, ¬ Three word s.data.toList a b c from fun a b c h => by
      have := h.2.2.2
      rw [HP.out] at this
      rw [this] at hl
      exact hl rfl)
    clear hcells hpl hl
    go_wp2_with fail
    refine bodyPost_ret (v := .tuple #[.int .i64 0, .int .i64 0, .int .i64 0, .bool false]) (by simp [results, Tryd.results83, go_sem]) rfl ?_
    exact ⟨HB1.out, 0, 0, 0, false, rfl, .inr ⟨rfl, hno.out⟩⟩
end Go.Proofs.YtccekbdhffccdaaDoor
