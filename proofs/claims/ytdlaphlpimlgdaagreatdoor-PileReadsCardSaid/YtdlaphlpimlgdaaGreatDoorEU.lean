/- The statement on books that were spoilt: the statement's function. -/
import Derived.Test.YtdlaphlpimlgdaaGreatDoorED
import Derived.Test.YtdlaphlpimlgdaaGreatDoorES
import Derived.Test.YtdlaphlpimlgdaaGreatDoorET
import Derived.Laws.IdiomStrings
namespace Go.Proofs.YtdlaphlpimlgdaaGreatDoor
open Go.RowKit Go.Shelf

theorem itoa_le7 {x : Int} (h : -100000 ≤ x ∧ x ≤ 100000) : (Lib.itoa x).length ≤ 7 := by
  unfold Lib.itoa
  split
  · have := dd_len 5 x.natAbs (by omega)
    simp only [List.length_cons]
    omega
  · have := dd_len 5 x.toNat (by omega)
    omega
theorem numT_le8 {xs : List Int} (h : ∀ x ∈ xs, -100000 ≤ x ∧ x ≤ 100000) : (numT xs).length ≤ 8 * xs.length := by
  induction xs with
  | nil => simp [numT]
  | cons x xs ih =>
    have h2 := ih fun y hy => h y (by simp [hy])
    have h3 := itoa_le7 (h x (by simp))
    simp only [numT, List.map_cons, List.flatten_cons, List.length_append, List.length_cons] at h2 ⊢
    omega
theorem ckT_le (ts : List (List Int)) : (ckT ts).length ≤ 7 := by
  unfold ckT
  have h1 := ckAll_b ts ts.length
  have := itoa_le7 (x := 1000 + ckAll ts ts.length) (by omega)
  rw [List.length_drop]
  omega
theorem yearsT_le {ts : List (List Int)} {np : Nat} (hn : np ≤ 6) (hr : ∀ row ∈ ts, row.length = np ∧ ∀ x ∈ row, -100000 ≤ x ∧ x ≤ 100000) (hl : ts.length ≤ 10) : ∀ k, k ≤ ts.length → (yearsT ts k).length ≤ 61 * k
  | 0, _ => by simp [yearsT]
  | k + 1, hk => by
    obtain ⟨row, hrow⟩ := get_of_lt (l := ts) (k := k) (by omega)
    have ih := yearsT_le hn hr hl k (by omega)
    rw [yearsT_succ hrow, List.length_append]
    obtain ⟨h1, h2⟩ := hr row (List.mem_of_getElem? hrow)
    have h3 := numT_le8 (xs := (k : Int) :: row) (by
      intro x hx
      rcases List.mem_cons.1 hx with rfl | hx
      · omega
      · exact h2 x hx)
    simp only [yearT, lineT, List.length_append, List.length_cons, List.length_nil] at h3 ⊢
    omega
theorem bookT_len {ts : List (List Int)} (h : bookB ts = true) : (bookT ts).length ≤ 1000 := by
  obtain ⟨⟨b1, b2⟩, np, ⟨b3, b4⟩, b5, b6⟩ := book_spec h
  have h1 := yearsT_le b4 b6 b2 ts.length (Nat.le_refl _)
  have h2 := ckT_le ts
  have h3 := numT_le8 (xs := [(ts.length : Int), ((ts.headD []).length : Int)]) (by
    intro x hx
    simp only [List.mem_cons, List.not_mem_nil, or_false] at hx
    rcases hx with rfl | rfl <;> omega)
  simp only [bookT, headT, lineT, List.length_append, List.length_cons, List.length_nil] at h3 ⊢
  omega
theorem u8_fact (r : Nat) (hr : r < 10) : Value.int .u8 (wrap64 (48 + (r : Int)) % 256) = Value.int .u8 (48 + (r : Int)) := by
  have : wrap64 (48 + (r : Int)) = 48 + (r : Int) := by unfold wrap64; omega
  rw [this, Int.emod_eq_of_lt (by omega) (by omega)]
theorem byte_set (T : List UInt8) (k : Nat) (y : UInt8) : (ByteArray.mk (T.set k y).toArray).data.toList = T.set k y := by simp
set_option maxRecDepth 100000 in
set_option maxHeartbeats 4000000 in
theorem spoilt_law (A : Option Addr) (n c : Nat) (ts : List (List Int)) (i d : Int) (w : World) (ht : Tab w) (hx : MaxW w) (hl : ts.length = n) (hn : n ≤ maxLen) (hT : LvsAt w w.heap.size A ts) :
    Calls Tryz.prog 16 #[.slice A n c, .int .i64 i, .int .i64 d] w fun e w' => e = .returned (.bool true) ∧ Below w.heap.size w w' := by
  have HT := Lib.hid ht; have HX := Lib.hid hx; have HL := Lib.hid hT; have HN := Lib.hid hn; have HLN := Lib.hid hl
  have HKN : Hid (∀ u, Below w.heap.size w u → Calls Tryz.prog 19 #[] u fun e w' => e = .returned (.bool true) ∧ Below w.heap.size w w') := Lib.hid fun u hu => (known_any u (HT.out.next hu)).mono fun e w' h => ⟨h.1, hu.trans (h.2.mono hu.size)⟩
  have HB0 := Lib.hid (Below.refl w.heap.size w)
  clear ht hx hl hn hT
  by_cases h10 : 10 < n
  · have h10' : (10 : Int) < (n : Int) := by omega
    go_enter Tryz.func16, Tryz.ntmps16
    go_wp2_with fail
    refine (HKN.out _ HB0.out).mono ?_
    rintro e w5 ⟨rfl, hb5⟩
    have HB5 := Lib.hid hb5
    clear hb5
    go_wp2_with fail
    go_ret
    exact ⟨rfl, HB5.out⟩
  · have h10' : ¬ (10 : Int) < (n : Int) := by omega
    go_enter Tryz.func16, Tryz.ntmps16
    go_wp2_with fail
    refine (refBook_any A n c ts _ HLN.out HN.out HL.out).mono ?_
    rintro e w2 ⟨rfl, hb2⟩
    have HB2 := Lib.hid hb2
    clear hb2
    cases hp : bookB ts with
    | false =>
      clear hp
      go_wp2_with fail
      refine (HKN.out _ HB2.out).mono ?_
      rintro e w5 ⟨rfl, hb5⟩
      have HB5 := Lib.hid hb5
      clear hb5
      go_wp2_with fail
      go_ret
      exact ⟨rfl, HB5.out⟩
    | true =>
      have HP := Lib.hid hp
      clear hp
      by_cases h0 : d < 0
      · go_wp2_with fail
        refine (HKN.out _ HB2.out).mono ?_
        rintro e w5 ⟨rfl, hb5⟩
        have HB5 := Lib.hid hb5
        clear hb5
        go_wp2_with fail
        go_ret
        exact ⟨rfl, HB5.out⟩
      by_cases h9 : 9 < d
      · go_wp2_with fail
        refine (HKN.out _ HB2.out).mono ?_
        rintro e w5 ⟨rfl, hb5⟩
        have HB5 := Lib.hid hb5
        clear hb5
        go_wp2_with fail
        go_ret
        exact ⟨rfl, HB5.out⟩
      go_wp2_with fail
      refine (Print_any A n c ts _ HLN.out HN.out (HL.out.up HB2.out) (HT.out.next HB2.out)).mono ?_
      rintro e w3 ⟨rfl, hb3⟩
      have HB3 := Lib.hid (HB2.out.trans (hb3.mono HB2.out.size))
      have hr : printR ts = (bookT ts, 0) := by simp [printR, HP.out]
      rw [hr]
      have hlen := bookT_len HP.out
      obtain ⟨T, hTT⟩ : ∃ T, bookT ts = T := ⟨_, rfl⟩
      rw [hTT] at hlen
      have HTT := Lib.hid hTT
      simp only [hTT]
      have hts : (ByteArray.mk T.toArray).size = T.length := by show T.toArray.size = _; exact List.size_toArray
      obtain ⟨S, hS⟩ : ∃ S : ByteArray, ByteArray.mk T.toArray = S := ⟨_, rfl⟩
      rw [hS] at hts ⊢
      have HS := Lib.hid hS
      have HLEN := Lib.hid hlen
      clear hr hTT hb3 hS hlen
      by_cases hneg : i < 0
      · go_wp2_with fail
        refine (HKN.out _ HB3.out).mono ?_
        rintro e w5 ⟨rfl, hb5⟩
        have HB5 := Lib.hid hb5
        clear hb5
        go_wp2_with fail
        go_ret
        exact ⟨rfl, HB5.out⟩
      by_cases hbig : (S.size : Int) ≤ i
      · go_wp2_with fail
        refine (HKN.out _ HB3.out).mono ?_
        rintro e w5 ⟨rfl, hb5⟩
        have HB5 := Lib.hid hb5
        clear hb5
        go_wp2_with fail
        go_ret
        exact ⟨rfl, HB5.out⟩
      obtain ⟨k, rfl⟩ : ∃ k : Nat, i = (k : Int) := ⟨i.toNat, by omega⟩
      obtain ⟨q, rfl⟩ : ∃ q : Nat, d = (q : Int) := ⟨d.toNat, by omega⟩
      have hk : k < T.length := by omega
      have hks : k < S.size := by omega
      have hki : (k : Int) < (S.size : Int) := by omega
      have hq0 : (0 : Int) ≤ (k : Int) := by omega
      have hget : S[k]'hks = T[k] := by have := HS.out; subst this; rfl
      have HTS := Lib.hid hts; have HGT := Lib.hid hget
      have hx8 := (S[k]'hks).toNat_lt
      clear hts hget
      by_cases hlo : ((S[k]'hks).toNat : Int) < 48
      · go_wp2_with fail
        refine (HKN.out _ HB3.out).mono ?_
        rintro e w5 ⟨rfl, hb5⟩
        have HB5 := Lib.hid hb5
        clear hb5
        go_wp2_with fail
        go_ret
        exact ⟨rfl, HB5.out⟩
      by_cases hhi : (57 : Int) < ((S[k]'hks).toNat : Int)
      · go_wp2_with fail
        refine (HKN.out _ HB3.out).mono ?_
        rintro e w5 ⟨rfl, hb5⟩
        have HB5 := Lib.hid hb5
        clear hb5
        go_wp2_with fail
        go_ret
        exact ⟨rfl, HB5.out⟩
      by_cases hsame : ((S[k]'hks).toNat : Int) - 48 = (q : Int)
      · have e1 : ((((S[k]'hks).toNat : Int) - 48) % 256) = (q : Int) := by omega
        have e2 : wrap64 (q : Int) = (q : Int) := by unfold wrap64; omega
        go_wp2_with fail
        refine (HKN.out _ HB3.out).mono ?_
        rintro e w5 ⟨rfl, hb5⟩
        have HB5 := Lib.hid hb5
        clear hb5
        go_wp2_with fail
        go_ret
        exact ⟨rfl, HB5.out⟩
      · obtain ⟨m, hm⟩ : ∃ m : Nat, ((S[k]'hks).toNat : Int) - 48 = (m : Int) := ⟨(S[k]'hks).toNat - 48, by omega⟩
        have e1 : ((((S[k]'hks).toNat : Int) - 48) % 256) = (m : Int) := by omega
        have e2 : wrap64 (m : Int) = (m : Int) := by unfold wrap64; omega
        have e3 : ¬ (m : Int) = (q : Int) := by omega
        obtain ⟨y, hy⟩ : ∃ y : UInt8, y.toNat = 48 + q := ⟨UInt8.ofNat (48 + q), by simp [UInt8.toNat_ofNat']; omega⟩
        have hne : T[k] ≠ y := fun e => by
          have h1 : (S[k]'hks).toNat = 48 + q := by rw [HGT.out, e, hy]
          omega
        have hv := u8_fact q (by omega)
        have hconv := run_bytes_of_string (P := Tryz.prog) w3 9 100 5 S Tryz.underlying9 Tryz.underlying100 Tryz.underlying5
        obtain ⟨cap, hcap⟩ : ∃ c, grownCap w3 S.size 0 5 = c := ⟨_, rfl⟩
        rw [hcap] at hconv
        obtain ⟨R, hR⟩ : ∃ R, bytesRow S cap = R := ⟨_, rfl⟩
        have hRk : ∀ j (hj : j < T.length), R[j]? = some (.int .u8 (T[j].toNat : Int)) := fun j hj => by
          have h1 := bytesRow_at S cap j (by show j < S.size; rw [HTS.out]; exact hj)
          rw [hR] at h1
          rw [h1]
          have := HS.out
          subst this
          rfl
        have hRs : T.length ≤ R.size := by
          rw [← hR, ← HTS.out]
          unfold bytesRow
          rw [Array.size_append, Array.size_map]
          exact Nat.le_add_right _ _
        rw [hR] at hconv
        obtain ⟨w4, hw4⟩ : ∃ z, w3.drew.alloc (.cells R 5 (R.size, R.size + 1)) = z := ⟨_, rfl⟩
        rw [hw4] at hconv
        have hn4 : w4.heap[w3.heap.size]? = some (.cells R 5 (R.size, R.size + 1)) := by rw [← hw4]; exact heap_alloc_new w3.drew _
        have HB4 := Lib.hid (show Below w.heap.size w w4 by rw [← hw4]; exact HB3.out.drew.alloc HB3.out.size _)
        have c4 : w4.cell? ⟨w3.heap.size, k, none⟩ = some (.int .u8 (T[k].toNat : Int)) := by
          unfold World.cell?
          rw [hn4]
          exact hRk k hk
        have f4 : w4.frozen? ⟨w3.heap.size, k, none⟩ = false := by
          have : ¬ R.size ≤ k := by omega
          unfold World.frozen?
          rw [hn4]
          show (decide (R.size ≤ k) && decide (k < R.size + 1)) = false
          rw [decide_eq_false this]
          rfl
        obtain ⟨w5, hw5⟩ : ∃ z, w4.setCell ⟨w3.heap.size, k, none⟩ (.int .u8 (48 + (q : Int))) = z := ⟨_, rfl⟩
        have hn5 : w5.heap[w3.heap.size]? = some (.cells (R.setIfInBounds k (.int .u8 (48 + (q : Int)))) 5 (R.size, R.size + 1)) := by
          rw [← hw5]
          simp [World.setCell, Array.getElem?_modify, hn4]
        have HB5 := Lib.hid (show Below w.heap.size w w5 by rw [← hw5]; exact HB4.out.setCell (p := ⟨w3.heap.size, k, none⟩) HB3.out.size _)
        have hback := run_convert_bytes_back (P := Tryz.prog) w5 100 9 5 ⟨w3.heap.size, 0, none⟩ cap (T.set k y) Tryz.underlying100 Tryz.underlying5 Tryz.underlying9 (fun j hj => by
          rw [List.length_set] at hj
          show w5.cell? ((⟨w3.heap.size, 0, none⟩ : Addr).add j) = _
          rw [Go.WideShapes.add_plain, Nat.zero_add]
          unfold World.cell?
          rw [hn5]
          show (R.setIfInBounds k (Value.int .u8 (48 + (q : Int))))[j]? = _
          rw [Array.getElem?_setIfInBounds, List.getElem_set]
          by_cases e : k = j
          · subst e
            rw [if_pos rfl, if_pos (by omega), if_pos rfl, hy]
            rfl
          · rw [if_neg e, hRk j hj, if_neg e])
        rw [List.length_set, ← HTS.out] at hback
        have hsz2 : (ByteArray.mk (T.set k y).toArray).size ≤ 1000 := by show (T.set k y).toArray.size ≤ _; rw [List.size_toArray, List.length_set]; exact HLEN.out
        have hno := spoilt_no (ts := ts) HP.out (i := k) (x := T[k]) (y := y) (by rw [HTT.out]; exact List.getElem?_eq_getElem hk) hne (by rw [← HGT.out]; omega) (by omega)
        rw [HTT.out] at hno
        have HNO := Lib.hid hno
        have HXM := Lib.hid (HX.out.next HB5.out); have HTM := Lib.hid (HT.out.next HB5.out)
        clear hm hcap hR hRk hRs hw4 hn4 hn5 hy hne hno hsame hx8
        go_wp2_with fail
        refine (Read_any ⟨(T.set k y).toArray⟩ w5 HTM.out HXM.out hsz2).mono ?_
        rintro e w6 ⟨hpost, hb6⟩
        rw [byte_set] at hpost
        have he : e = .returned (.tuple #[.slice none 0 0, .int .i64 4]) := by
          rcases hpost with ⟨ts', ps', _, _, hd', ht', _⟩ | ⟨ts', ps', hd', ht', _⟩ | ⟨_, he⟩
          · exact absurd ht' (HNO.out _ _ hd')
          · exact absurd ht' (HNO.out _ _ hd')
          · exact he
        subst he
        have HB6 := Lib.hid (HB5.out.trans (hb6.mono HB5.out.size))
        clear hpost hb6
        go_wp2_with fail
        refine (HKN.out _ HB6.out).mono ?_
        rintro e w8 ⟨rfl, hb8⟩
        have HB8 := Lib.hid hb8
        clear hb8
        go_wp2_with fail
        go_ret
        exact ⟨rfl, HB8.out⟩
end Go.Proofs.YtdlaphlpimlgdaaGreatDoor
