/- The statement on logs that were spoilt: the statement's function. -/
import Derived.Test.YtccekbdhffccdaaDoorHD
import Derived.Laws.IdiomStrings
namespace Go.Proofs.YtccekbdhffccdaaDoor
open Go.RowKit

theorem at_eq_of {T : List UInt8} {k : Nat} (h : k < T.length) : T[k]? = some T[k] := List.getElem?_eq_getElem h
theorem byte_set (T : List UInt8) (k : Nat) (y : UInt8) : (ByteArray.mk (T.set k y).toArray).data.toList = T.set k y := by simp
set_option maxRecDepth 100000 in
set_option maxHeartbeats 4000000 in
theorem spoilt_any (A : Option Addr) (n c : Nat) (ls : List Lay) (lo hi i ch : Int) (w : World) (ht : Tab w) (hx : MaxW w) (hl : ls.length = n) (hcap : n ≤ c) (hn : n ≤ maxLen) (hL : LaysAt w w.heap.size A ls) :
    Calls Tryd.prog 14 #[.agg #[.slice A n c, .int .i64 lo, .int .i64 hi], .int .i64 i, .int .i64 ch] w fun e w' => e = .returned (.bool true) ∧ Below w.heap.size w w' := by
  have HT := Lib.hid ht; have HX := Lib.hid hx; have HL := Lib.hid hl; have HN := Lib.hid hn; have HCAP := Lib.hid hcap
  have z1 := heap_alloc_new w (.cells #[.slice A n c, .int .i64 lo, .int .i64 hi] 26)
  have p0 := cell_of_row _ w.heap.size 0 _ 26 (0, 0) z1
  have p1 := cell_of_row _ w.heap.size 1 _ 26 (0, 0) z1
  have p2 := cell_of_row _ w.heap.size 2 _ 26 (0, 0) z1
  simp at p0 p1 p2
  have HB1 := Lib.hid ((Below.refl w.heap.size w).alloc (Nat.le_refl _) (.cells #[.slice A n c, .int .i64 lo, .int .i64 hi] 26))
  have Z1 := Lib.hid z1
  clear ht hx hl hn hcap z1
  by_cases h12 : 12 < n
  · have h12' : (12 : Int) < (n : Int) := by omega
    go_enter Tryd.func14, Tryd.ntmps14
    go_wp2_with fail
    refine (known_any _ (HT.out.next HB1.out)).mono ?_
    rintro e w5 ⟨rfl, hb5⟩
    have HB5 := Lib.hid (HB1.out.trans (hb5.mono HB1.out.size))
    clear hb5
    go_wp2_with fail
    go_ret
    exact ⟨rfl, HB5.out⟩
  · have h12' : ¬ (12 : Int) < (n : Int) := by omega
    go_enter Tryd.func14, Tryd.ntmps14
    go_wp2_with fail
    refine (refPlace_any A n c ls lo hi _ HL.out HN.out (hL.next HB1.out)).mono ?_
    rintro e w2 ⟨rfl, hb2⟩
    have HB2 := Lib.hid (HB1.out.trans (hb2.mono HB1.out.size))
    have Z2 := Lib.hid ((hb2.block _ (Array.getElem?_eq_some_iff.1 Z1.out).1).trans Z1.out)
    clear hb2 p0 p1 p2
    have p0 := cell_of_row w2 w.heap.size 0 _ 26 (0, 0) Z2.out
    have p1 := cell_of_row w2 w.heap.size 1 _ 26 (0, 0) Z2.out
    have p2 := cell_of_row w2 w.heap.size 2 _ 26 (0, 0) Z2.out
    simp at p0 p1 p2
    by_cases hbad : placeB ls lo hi = false ∨ ch < 32 ∨ 126 < ch
    · have hend : ∀ {w5 : World}, Below w2.heap.size w2 w5 → Below w.heap.size w w5 := fun h => HB2.out.trans (h.mono HB2.out.size)
      have hkn := known_any w2 (HT.out.next HB2.out)
      cases hp : placeB ls lo hi with
      | false =>
        go_wp2_with fail
        refine hkn.mono ?_
        rintro e w5 ⟨rfl, hb5⟩
        have HB5 := Lib.hid (hend hb5)
        clear hb5 hend hkn hbad
        go_wp2_with fail
        go_ret
        exact ⟨rfl, HB5.out⟩
      | true =>
        by_cases h32 : ch < 32
        · clear hbad
          go_wp2_with fail
          refine hkn.mono ?_
          rintro e w5 ⟨rfl, hb5⟩
          have HB5 := Lib.hid (hend hb5)
          clear hb5 hend hkn
          go_wp2_with fail
          go_ret
          exact ⟨rfl, HB5.out⟩
        · have h126 : 126 < ch := by
            rcases hbad with h | h | h
            · rw [hp] at h; exact absurd h (by decide)
            · exact absurd h h32
            · exact h
          clear hbad
          go_wp2_with fail
          refine hkn.mono ?_
          rintro e w5 ⟨rfl, hb5⟩
          have HB5 := Lib.hid (hend hb5)
          clear hb5 hend hkn
          go_wp2_with fail
          go_ret
          exact ⟨rfl, HB5.out⟩
    · have hp : placeB ls lo hi = true := by
        cases h : placeB ls lo hi with
        | false => exact absurd (.inl h) hbad
        | true => rfl
      have h32 : ¬ ch < 32 := fun h => hbad (.inr (.inl h))
      have h126 : ¬ 126 < ch := fun h => hbad (.inr (.inr h))
      clear hbad
      rw [hp]
      go_wp2_with fail
      refine (print_any A n c ls lo hi _ HL.out HN.out HCAP.out (hL.next HB2.out) (HT.out.next HB2.out)).mono ?_
      rintro e w3 ⟨rfl, hb3⟩
      have HB3 := Lib.hid (HB2.out.trans (hb3.mono HB2.out.size))
      have hr : printR ls lo hi = (printT ls lo hi, 0) := by simp [printR, hp]
      rw [hr]
      obtain ⟨hd, h6⟩ := doc_of_place hp
      have hlen := printT_len hd
      have HD := Lib.hid hd
      obtain ⟨T, hT⟩ : ∃ T, printT ls lo hi = T := ⟨_, rfl⟩
      rw [hT] at hlen
      have HTT := Lib.hid hT
      simp only [hT]
      have hts : (ByteArray.mk T.toArray).size = T.length := by show T.toArray.size = _; exact List.size_toArray
      have hts5 : T.length ≤ 5000 := by omega
      obtain ⟨S, hS⟩ : ∃ S : ByteArray, ByteArray.mk T.toArray = S := ⟨_, rfl⟩
      rw [hS] at hts ⊢
      have HS := Lib.hid hS
      clear hr hp hd hT hb3 p0 p1 p2 hS
      by_cases hneg : i < 0
      · go_wp2_with fail
        refine (known_any _ (HT.out.next HB3.out)).mono ?_
        rintro e w5 ⟨rfl, hb5⟩
        have HB5 := Lib.hid (HB3.out.trans (hb5.mono HB3.out.size))
        clear hb5
        go_wp2_with fail
        go_ret
        exact ⟨rfl, HB5.out⟩
      · by_cases hbig : (S.size : Int) ≤ i
        · go_wp2_with fail
          refine (known_any _ (HT.out.next HB3.out)).mono ?_
          rintro e w5 ⟨rfl, hb5⟩
          have HB5 := Lib.hid (HB3.out.trans (hb5.mono HB3.out.size))
          clear hb5
          go_wp2_with fail
          go_ret
          exact ⟨rfl, HB5.out⟩
        · obtain ⟨k, rfl⟩ : ∃ k : Nat, i = (k : Int) := ⟨i.toNat, by omega⟩
          obtain ⟨q, rfl⟩ : ∃ q : Nat, ch = (q : Int) := ⟨ch.toNat, by omega⟩
          have hk : k < T.length := by omega
          have hks : k < S.size := by omega
          have hki : (k : Int) < (S.size : Int) := by omega
          have hq0 : (0 : Int) ≤ (k : Int) := by omega
          have hget : S[k]'hks = T[k] := by have := HS.out; subst this; rfl
          have HTS := Lib.hid hts; have HGT := Lib.hid hget
          clear hts hget
          by_cases hsame : ((S[k]'hks).toNat : Int) = (q : Int)
          · go_wp2_with fail
            refine (known_any _ (HT.out.next HB3.out)).mono ?_
            rintro e w5 ⟨rfl, hb5⟩
            have HB5 := Lib.hid (HB3.out.trans (hb5.mono HB3.out.size))
            clear hb5
            go_wp2_with fail
            go_ret
            exact ⟨rfl, HB5.out⟩
          · obtain ⟨y, hy⟩ : ∃ y : UInt8, y.toNat = q := ⟨UInt8.ofNat q, by simp [UInt8.toNat_ofNat']; omega⟩
            have hne : T[k] ≠ y := fun e => hsame (by rw [HGT.out, e, hy])
            have hconv := run_bytes_of_string (P := Tryd.prog) w3 9 82 5 S Tryd.underlying9 Tryd.underlying82 Tryd.underlying5
            obtain ⟨cap, hcap⟩ : ∃ c, grownCap w3 S.size 0 5 = c := ⟨_, rfl⟩
            rw [hcap] at hconv
            obtain ⟨R, hR⟩ : ∃ R, bytesRow S cap = R := ⟨_, rfl⟩
            have hRk : ∀ j (hj : j < T.length), R[j]? = some (.int .u8 (T[j].toNat : Int)) := fun j hj => by
              have h1 := bytesRow_at S cap j (by show j < S.size; rw [HTS.out]; exact hj)
              rw [hR] at h1
              rw [h1]
              have := HS.out
              subst this
              rfl
            have hRs : T.length ≤ R.size := by
              rw [← hR, ← HTS.out]
              unfold bytesRow
              rw [Array.size_append, Array.size_map]
              exact Nat.le_add_right _ _
            rw [hR] at hconv
            obtain ⟨w4, hw4⟩ : ∃ z, w3.drew.alloc (.cells R 5 (R.size, R.size + 1)) = z := ⟨_, rfl⟩
            rw [hw4] at hconv
            have hn4 : w4.heap[w3.heap.size]? = some (.cells R 5 (R.size, R.size + 1)) := by rw [← hw4]; exact heap_alloc_new w3.drew _
            have HB4 := Lib.hid (show Below w.heap.size w w4 by rw [← hw4]; exact HB3.out.drew.alloc HB3.out.size _)
            have c4 : w4.cell? ⟨w3.heap.size, k, none⟩ = some (.int .u8 (T[k].toNat : Int)) := by
              unfold World.cell?
              rw [hn4]
              exact hRk k hk
            have f4 : w4.frozen? ⟨w3.heap.size, k, none⟩ = false := by
              have : ¬ R.size ≤ k := by omega
              unfold World.frozen?
              rw [hn4]
              show (decide (R.size ≤ k) && decide (k < R.size + 1)) = false
              rw [decide_eq_false this]
              rfl
            obtain ⟨w5, hw5⟩ : ∃ z, w4.setCell ⟨w3.heap.size, k, none⟩ (.int .u8 (q : Int)) = z := ⟨_, rfl⟩
            have hn5 : w5.heap[w3.heap.size]? = some (.cells (R.setIfInBounds k (.int .u8 (q : Int))) 5 (R.size, R.size + 1)) := by
              rw [← hw5]
              simp [World.setCell, Array.getElem?_modify, hn4]
            have HB5 := Lib.hid (show Below w.heap.size w w5 by rw [← hw5]; exact HB4.out.setCell (p := ⟨w3.heap.size, k, none⟩) HB3.out.size _)
            have hback := run_convert_bytes_back (P := Tryd.prog) w5 82 9 5 ⟨w3.heap.size, 0, none⟩ cap (T.set k y) Tryd.underlying82 Tryd.underlying5 Tryd.underlying9 (fun j hj => by
              rw [List.length_set] at hj
              show w5.cell? ((⟨w3.heap.size, 0, none⟩ : Addr).add j) = _
              rw [Go.WideShapes.add_plain, Nat.zero_add]
              unfold World.cell?
              rw [hn5]
              show (R.setIfInBounds k (Value.int .u8 (q : Int)))[j]? = _
              rw [Array.getElem?_setIfInBounds, List.getElem_set]
              by_cases e : k = j
              · subst e
                rw [if_pos rfl, if_pos (by omega), if_pos rfl, hy]
              · rw [if_neg e, hRk j hj, if_neg e])
            rw [List.length_set, ← HTS.out] at hback
            have HY := Lib.hid hy; have HNE := Lib.hid hne
            have hsz2 : (ByteArray.mk (T.set k y).toArray).size ≤ 5000 := by show (T.set k y).toArray.size ≤ _; rw [List.size_toArray, List.length_set]; omega
            have hno := spoilt_no (ls := ls) (lo := lo) (hi := hi) (i := k) (x := T[k]) (y := y) HD.out (by rw [HTT.out]; exact List.getElem?_eq_getElem hk) hne (by omega)
            rw [HTT.out] at hno
            have HNO := Lib.hid hno
            obtain ⟨m, hm, h1⟩ := HX.out.next HB5.out
            have HM := Lib.hid hm; have H1 := Lib.hid h1
            have hs2 : (wrap64 ((S[k]'hks).toNat : Int) == (q : Int)) = false := by
              have hx8 := (S[k]'hks).toNat_lt
              rw [show wrap64 ((S[k]'hks).toNat : Int) = ((S[k]'hks).toNat : Int) by unfold wrap64; omega]
              simpa using hsame
            clear hsame hcap hR hRk hRs hw4 hn4 hn5 hy hne hno hm h1
            go_wp2_with fail
            refine (read_any ⟨(T.set k y).toArray⟩ m w5 hsz2 HM.out H1.out).mono ?_
            rintro e w6 ⟨hpost, hb6⟩
            rw [byte_set] at hpost
            have he : e = .returned (.tuple #[.agg #[.slice none 0 0, .int .i64 0, .int .i64 0], .int .i64 4]) := by
              rcases hpost with ⟨ls', lo', hi', hd', ht', _⟩ | ⟨ls', lo', hi', hd', ht', _⟩ | ⟨_, he⟩
              · exact absurd ht' (HNO.out _ _ _ hd')
              · exact absurd ht' (HNO.out _ _ _ hd')
              · exact he
            subst he
            have HB6 := Lib.hid (HB5.out.trans (hb6.mono HB5.out.size))
            clear hpost hb6
            go_wp2_with fail
            refine (samePlace_ok none none 0 0 0 [] 0 0 _ rfl (Nat.zero_le _) (fun h => absurd rfl h) (fun h => absurd rfl h)).mono ?_
            rintro e w7 ⟨rfl, hb7⟩
            have HA := HB6.out.alloc HB6.out.size (.cells #[.slice none 0 0, .int .i64 0, .int .i64 0] 26)
            have HB7 := Lib.hid (HA.trans (hb7.mono HA.size))
            clear hb7 HA
            go_wp2_with fail
            refine (known_any _ (HT.out.next HB7.out)).mono ?_
            rintro e w8 ⟨rfl, hb8⟩
            have HB8 := Lib.hid (HB7.out.trans (hb8.mono HB7.out.size))
            clear hb8
            go_wp2_with fail
            go_ret
            exact ⟨rfl, HB8.out⟩
end Go.Proofs.YtccekbdhffccdaaDoor
