/- A book, as the program reads it: all its lines. -/
import Derived.Test.YtdlaphlpimlgdaaGreatDoorEP
import Derived.Laws.Pointers
namespace Go.Proofs.YtdlaphlpimlgdaaGreatDoor
open Go.RowKit Go.Shelf

def MaxW (w : World) : Prop := ∃ m, w.cell? ⟨0, 0, none⟩ = some (.int .i64 m) ∧ 0 < w.heap.size
theorem MaxW.next {w w' : World} (h : MaxW w) (hb : Below w.heap.size w w') : MaxW w' := by
  obtain ⟨m, h1, h2⟩ := h
  exact ⟨m, ((bcell hb).1 _ _ h2).trans h1, by have := hb.size; omega⟩
theorem years_len (ts : List (List Int)) : ∀ k, k ≤ (yearsT ts k).length
  | 0 => Nat.zero_le _
  | k + 1 => by
    have h := years_len ts k
    have e : yearsT ts (k + 1) = yearsT ts k ++ yearT k (ts.getD k []) := by
      unfold yearsT
      rw [List.range_succ, List.map_append, List.flatten_append]
      simp
    have h2 : 1 ≤ (yearT k (ts.getD k [])).length := by
      unfold yearT lineT
      simp
    rw [e, List.length_append]
    omega
theorem ReadAt.len {T : List UInt8} {Y P : Int} {rows : List (List Int)} {rest : List UInt8} (h : ReadAt T Y P rows rest) : rows.length ≤ T.length ∧ rest.length ≤ T.length := by
  have h1 := years_len rows rows.length
  rw [h.t]
  simp only [List.length_append, List.length_cons]
  omega
/-- How far a text was read: nothing yet, some lines, or all. -/
def RdSt (w : World) (R : Nat) (T rest : List UInt8) (wr : World) : Prop :=
  (rest = T ∧ RdI w R (-1) 0 [] false wr) ∨ (∃ Y P rows, ReadAt T Y P rows rest ∧ RdI w R Y P rows false wr) ∨
  (∃ Y P rows rest0 f, ReadAt T Y P rows rest0 ∧ rest0 = f ++ 10 :: rest ∧ (10 : UInt8) ∉ f ∧ pieces 32 f = [wEnd, ckT rows] ∧ (rows.length : Int) = Y ∧ RdI w R Y P rows true wr)
def AllP (B : Nat) (T : List UInt8) (e : Ending) (w' : World) : Prop :=
  (∃ ts ps AV cV, Doc ts ps ∧ T = docT ts ps ∧ e = .returned (.slice AV ts.length cV) ∧ ts.length ≤ cV ∧ ts.length ≤ maxLen ∧ ∀ wq : World, (∀ b, B ≤ b → wq.heap[b]? = w'.heap[b]?) → LvsAt wq wq.heap.size AV ts) ∨ (NoDoc T ∧ e = .panicked [noBook])
theorem GrdI.lvs_keep {w0 wr wq : World} {base cV n : Nat} {AV : Option Addr} {LL : List (List Int)} {rows : List Value} (h : GrdI intR 3 34 w0 base LL (.slice AV n cV) rows wr) (h10 : ∀ row ∈ LL, row.length ≤ 10000)
    (hk : ∀ b, base ≤ b → wq.heap[b]? = wr.heap[b]?) : LvsAt wq wq.heap.size AV LL := by
  have hg : GrdI intR 3 34 { wq with heap := #[] } base LL (.slice AV n cV) rows wq :=
    ⟨⟨rfl, rfl, rfl, Nat.zero_le _, fun k hk => by simp at hk⟩, own_of_blocks h.own fun B hB => hk B (own_at h.own hB).1, ⟨h.rws.1, fun j row hj => by
      obtain ⟨v, h1, h2⟩ := h.rws.2 j row hj
      exact ⟨v, h1, h2.keep fun b cs hB hc => (hk b hB).trans hc⟩⟩, Nat.zero_le _⟩
  obtain ⟨A', c', e, h1, _⟩ := hg.grid (k := 1) intR_len fun row hr => by have := h10 row hr; unfold maxLen; omega
  cases e
  exact h1
/-- What a line does: the method under its first word, called with the other words. -/
theorem lineRd_any {w wr : World} {R : Nat} {T rest f r : List UInt8} {p : List UInt8} {qs : List (List UInt8)} (hT : T.length ≤ 1000) (hst : (rest = T ∧ RdI w R (-1) 0 [] false wr) ∨ (∃ Y P rows, ReadAt T Y P rows rest ∧ RdI w R Y P rows false wr)) (hr : rest = f ++ 10 :: r) (hf : (10 : UInt8) ∉ f) (hp : pieces 32 f = p :: qs)
    (A : Option Addr) (n : Nat) (hn : qs.length = n) (hn2 : n ≤ 10000) (u : World) (hb : Below wr.heap.size wr u) (hw : StrsAt u u.heap.size A qs) (hA : ∀ bo o, A = some ⟨bo, o, none⟩ → bo ≠ R) (ht : Tab u) (k : Nat) (hk : k = 123 ∧ p = wLev ∨ k = 124 ∧ p = wYear ∨ k = 125 ∧ p = wEnd) :
    Calls Tryz.prog k #[.pointer (some ⟨R, 0, none⟩), .slice A n n] u fun e w' => ((e = .returned (.tuple #[]) ∧ RdSt w R T r w') ∨ (NoDoc T ∧ e = .panicked [noBook])) ∧ Below w.heap.size w w' := by
  have up : ∀ {Y P : Int} {rows : List (List Int)} {b : Bool}, RdI w R Y P rows b wr → RdI w R Y P rows b u := fun h => by
    obtain ⟨V, rows, h1, h2⟩ := h.grd
    exact ⟨⟨V, rows, h1.up hb, h2.below hb⟩, h.low, h.rl⟩
  rcases hk with ⟨rfl, rfl⟩ | ⟨rfl, rfl⟩ | ⟨rfl, rfl⟩
  · have key : ∀ (Y0 P0 : Int) (rows : List (List Int)), RdI w R Y0 P0 rows false u → Calls Tryz.prog 123 #[.pointer (some ⟨R, 0, none⟩), .slice A n n] u fun e w' => ((∃ Y P, FirstP Y0 qs Y P ∧ e = .returned (.tuple #[]) ∧ RdI w R Y P rows false w') ∨ ((∀ Y P, ¬ FirstP Y0 qs Y P) ∧ e = .panicked [noBook])) ∧ Below w.heap.size w w' := fun Y0 P0 rows hI => by
      obtain ⟨V, rws, h1, h2⟩ := hI.grd
      refine (first_any Y0 P0 V false A n n qs u h1 hw hn hA).mono ?_
      rintro e w' ⟨hg, hh⟩
      have hbw : Below w.heap.size w w' := h2.bel.grown hg h2.bel.size (fun B hB => by cases hB; exact hI.low)
      refine ⟨?_, hbw⟩
      rcases hh with ⟨Y, P, hF, rfl, hR⟩ | ⟨hno, rfl⟩
      · exact .inl ⟨Y, P, hF, rfl, ⟨⟨V, rws, hR, h2.keep hbw fun b h3 h4 => hg.block b h4 (fun e => by injection e with e; omega)⟩, hI.low, hI.rl⟩⟩
      · exact .inr ⟨hno, rfl⟩
    rcases hst with ⟨rfl, hI⟩ | ⟨Y0, P0, rows, hA', hI⟩
    · refine (key (-1) 0 [] (up hI)).mono ?_
      rintro e w' ⟨hh, hb2⟩
      refine ⟨?_, hb2⟩
      rcases hh with ⟨Y, P, ⟨_, hY, hP, hq⟩, rfl, hI2⟩ | ⟨hno, rfl⟩
      · exact .inl ⟨rfl, .inr (.inl ⟨Y, P, [], ReadAt.first hr (by rw [hp, hq]) hY hP, hI2⟩)⟩
      · exact .inr ⟨noDoc_first hr hf fun ⟨Y, P, hY, hP, hq⟩ => hno Y P ⟨rfl, hY, hP, by rw [hp] at hq; simpa using hq⟩, rfl⟩
    · refine (key Y0 P0 rows (up hI)).mono ?_
      rintro e w' ⟨hh, hb2⟩
      refine ⟨?_, hb2⟩
      rcases hh with ⟨Y, P, ⟨h1, _⟩, _⟩ | ⟨hno, rfl⟩
      · have := hA'.y.1
        omega
      · exact .inr ⟨hA'.noWord hr hf hp (by unfold wLev wYear; decide) (by unfold wLev wEnd; decide), rfl⟩
  · rcases hst with ⟨rfl, hI⟩ | ⟨Y0, P0, rows, hA', hI⟩
    · refine (year_any (-1) 0 [] A n n qs u (up hI) hw hn rfl hn2 (by simp) (by omega) ht).mono ?_
      rintro e w' ⟨hh, hb2⟩
      refine ⟨?_, hb2⟩
      rcases hh with ⟨row, ⟨h1, _⟩, _⟩ | ⟨hno, rfl⟩
      · simp at h1
      · refine .inr ⟨noDoc_first hr hf fun ⟨Y, P, _, _, hq⟩ => ?_, rfl⟩
        rw [hp] at hq
        simp only [List.cons.injEq] at hq
        exact absurd hq.1 (by unfold wLev wYear; decide)
    · have hl := hA'.len
      have hP := hA'.p
      refine (year_any Y0 P0 rows A n n qs u (up hI) hw hn rfl hn2 (by omega) ⟨hP.1, by have := hP.2; omega⟩ ht).mono ?_
      rintro e w' ⟨hh, hb2⟩
      refine ⟨?_, hb2⟩
      rcases hh with ⟨row, ⟨h1, h2, h3, h4⟩, rfl, hI2⟩ | ⟨hno, rfl⟩
      · exact .inl ⟨rfl, .inr (.inl ⟨Y0, P0, rows ++ [row], hA'.year hr (by rw [hp, h4]) h1 h2 h3, hI2⟩)⟩
      · exact .inr ⟨hA'.noYear hr hf hp fun h => hno (year_words h), rfl⟩
  · rcases hst with ⟨rfl, hI⟩ | ⟨Y0, P0, rows, hA', hI⟩
    · refine (end_any (-1) 0 [] A n n qs u (up hI) hw hn (by simp) ht).mono ?_
      rintro e w' ⟨hh, hb2⟩
      refine ⟨?_, hb2⟩
      rcases hh with ⟨⟨h1, _⟩, _⟩ | ⟨hno, rfl⟩
      · simp at h1
      · refine .inr ⟨noDoc_first hr hf fun ⟨Y, P, _, _, hq⟩ => ?_, rfl⟩
        rw [hp] at hq
        simp only [List.cons.injEq] at hq
        exact absurd hq.1 (by unfold wLev wEnd; decide)
    · have hl := hA'.len
      refine (end_any Y0 P0 rows A n n qs u (up hI) hw hn (by omega) ht).mono ?_
      rintro e w' ⟨hh, hb2⟩
      refine ⟨?_, hb2⟩
      rcases hh with ⟨⟨h1, h2⟩, rfl, hI2⟩ | ⟨hno, rfl⟩
      · exact .inl ⟨rfl, .inr (.inr ⟨Y0, P0, rows, rest, f, hA', hr, hf, by rw [hp, h2], h1, hI2⟩)⟩
      · exact .inr ⟨hA'.noEnd hr hf hp fun h => hno ⟨h.1, h.2.1⟩, rfl⟩
def strN : Value → Nat
  | .string s => s.size
  | _ => 0
theorem strs_tail {w : World} {B : Nat} {b o : Nat} {p : List UInt8} {qs : List (List UInt8)} (h : StrsAt w B (some ⟨b, o, none⟩) (p :: qs)) : StrsAt w B (some ⟨b, o + 1, none⟩) qs := fun hne => by
  obtain ⟨b', o', e, h1, h2⟩ := h (by simp)
  injection e with e
  injection e with e1 e2
  subst e1 e2
  refine ⟨b, o + 1, rfl, h1, fun i x hx j v hv => ?_⟩
  have := h2 (i + 1) x (by simpa using hx) j v hv
  rw [← this]
  congr 2
  omega
set_option maxRecDepth 100000 in
set_option maxHeartbeats 16000000 in
theorem readAll_any (t : ByteArray) (w : World) (ht : Tab w) (hx : MaxW w) (hs : t.size ≤ 1000) :
    Calls Tryz.prog 101 #[.string t] w fun e w' => AllP w.heap.size t.data.toList e w' ∧ Below w.heap.size w w' := by
  obtain ⟨W1, W2, W3, e1, e2, e3, hm3, hb3, s3⟩ := rd_map w
  have e1' : (Instr.mapUpdate 175 (.map (some w.heap.size)) (.string ⟨#[108, 101, 118, 101, 108, 115]⟩) (.func (.func 123) #[] #[])).run Tryz.prog (w.alloc (.map #[] 0)) = .ok () W1 := e1
  have e2' : (Instr.mapUpdate 175 (.map (some w.heap.size)) (.string ⟨#[121, 101, 97, 114]⟩) (.func (.func 124) #[] #[])).run Tryz.prog W1 = .ok () W2 := e2
  have e3' : (Instr.mapUpdate 175 (.map (some w.heap.size)) (.string ⟨#[101, 110, 100]⟩) (.func (.func 125) #[] #[])).run Tryz.prog W2 = .ok () W3 := e3
  have hmk := fun W : World => run_makeMap (P := Tryz.prog) 175 W
  have HT := Lib.hid ht; have HX := Lib.hid hx
  have hTL : t.data.toList.length ≤ 1000 := by rw [Array.length_toList]; exact hs
  have HTL := Lib.hid hTL
  have HBA := Lib.hid hb3; have HM3 := Lib.hid hm3
  have hMlt : w.heap.size < W3.heap.size := by omega
  have zr := heap_alloc_new W3 (.cells #[.int .i64 (-1), .int .i64 0, .slice none 0 0, .bool false] 177)
  have hbr := (Below.refl W3.heap.size W3).alloc (Nat.le_refl _) (.cells #[.int .i64 (-1), .int .i64 0, .slice none 0 0, .bool false] 177)
  obtain ⟨Tx, hTx⟩ : ∃ z, t.data.toList = z := ⟨_, rfl⟩
  have ett : t = ⟨Tx.toArray⟩ := by rw [← hTx]
  rw [hTx] at HTL ⊢
  have HZR := Lib.hid zr; have HBZ := Lib.hid hbr
  clear e1 e2 e3 ht hx hTL hb3 hm3 zr hbr hs hTx s3
  subst ett
  go_enter Tryz.func101, Tryz.ntmps101
  go_wp2_with fail
  clear e1' e2' e3' hmk
  obtain ⟨M, hM⟩ : ∃ z, w.heap.size = z := ⟨_, rfl⟩
  have HMM := Lib.hid hM
  obtain ⟨R, hR⟩ : ∃ z, W3.heap.size = z := ⟨_, rfl⟩
  have HRR := Lib.hid hR
  rw [hR] at HZR hMlt ⊢
  rw [hM] at hMlt HM3 ⊢
  try rw [hM]
  clear hM hR
  go_loopw [0] (fun tx wr => ∃ rest : List UInt8, tx = .string ⟨rest.toArray⟩ ∧ Below W3.heap.size W3 wr ∧ RdSt W3 R Tx rest wr) (fun tx _ => strN tx)
  case atStart =>
    refine ⟨Tx, rfl, HBZ.out, .inl ⟨rfl, ⟨_, _, HZR.out, GrdI.nil HBZ.out (by rw [HRR.out]; exact Nat.le_succ _)⟩, by rw [HRR.out]; exact Nat.le_refl _, fun row hr => by simp at hr⟩⟩
  case round =>
    obtain ⟨rest, rfl, hbr, hst⟩ := hrel
    have HBR := Lib.hid hbr
    have hmr : wr.heap[M]? = some (.map #[rdE 0, rdE 1, rdE 2] 3) := (hbr.block _ (by rw [HRR.out]; exact hMlt)).trans HM3.out
    have HMR := Lib.hid hmr
    have hbw := HBA.out.trans (hbr.mono HBA.out.size)
    have HBW := Lib.hid hbw
    obtain ⟨mx, hmx, _⟩ := HX.out.next hbw
    have HMX := Lib.hid hmx
    clear hmr hmx hbw hbr
    by_cases hen : ∃ Y P rows rest0 f, ReadAt Tx Y P rows rest0 ∧ rest0 = f ++ 10 :: rest ∧ (10 : UInt8) ∉ f ∧ pieces 32 f = [wEnd, ckT rows] ∧ (rows.length : Int) = Y ∧ RdI W3 R Y P rows true wr
    · clear hst
      obtain ⟨Y, P, rows, rest0, f, hA, hr0, hf, hp, hk, hI⟩ := hen
      obtain ⟨AV, cV, rws, hRB, hG, hLv, hcV⟩ := hI.form
      obtain ⟨c0, c1, c2, c3⟩ := hRB.cells
      have HA := Lib.hid hA; have HR0 := Lib.hid hr0; have HF := Lib.hid hf; have HP := Lib.hid hp; have HK := Lib.hid hk; have HLV : Hid (rows.length ≤ maxLen ∧ ∀ wq : World, (∀ b, W3.heap.size ≤ b → wq.heap[b]? = wr.heap[b]?) → LvsAt wq wq.heap.size AV rows) := Lib.hid ⟨by have h1 := hA.len.1; have h2 := HTL.out; unfold maxLen; omega, fun wq hk => hG.lvs_keep (fun row hr => (hI.rl row hr).1) fun b hb => hk b (by rw [HRR.out]; omega)⟩; have HCV := Lib.hid hcV
      clear hA hr0 hf hp hk hI hRB hG hLv hcV
      cases rest with
      | nil =>
        obtain ⟨d1, d2⟩ := HA.out.fin HR0.out HP.out HK.out
        have HD1 := Lib.hid d1; have HD2 := Lib.hid d2
        clear d1 d2
        go_wp2_with fail
        go_ret
        exact ⟨.inl ⟨rows, P, AV, cV, HD1.out, HD2.out, rfl, HCV.out, HLV.out.1, fun wq hk => HLV.out.2 wq fun b hb => hk b (by have := HBA.out.size; have := HMM.out; omega)⟩, HBW.out⟩
      | cons x l =>
        have hno : NoDoc Tx := HA.out.noEnd HR0.out HF.out HP.out (fun h => by have := h.2.2; simp at this)
        have HNO := Lib.hid hno
        obtain ⟨S, hS⟩ : ∃ z, ByteArray.mk (x :: l).toArray = z := ⟨_, rfl⟩
        have hS0 : 0 < S.size := by rw [← hS]; show 0 < (x :: l).toArray.size; simp
        have h1 := bytes_some hS0
        have h2 := str_some hS0
        rw [hS]
        clear hno hS hS0
        go_wp2_with fail
        refine (giveUp_any _).mono ?_
        rintro e w5 ⟨rfl, rfl⟩
        exact ⟨rfl, .inr ⟨HNO.out, rfl⟩, HBW.out⟩
    · have hst2 : (rest = Tx ∧ RdI W3 R (-1) 0 [] false wr) ∨ (∃ Y P rows, ReadAt Tx Y P rows rest ∧ RdI W3 R Y P rows false wr) := by
        rcases hst with h | h | h
        · exact .inl h
        · exact .inr h
        · exact absurd h hen
      have hc3 : wr.cell? ⟨R, 3, none⟩ = some (.bool false) ∧ rest.length ≤ Tx.length ∧ R < wr.heap.size := by
        rcases hst2 with ⟨h1, h2⟩ | ⟨Y, P, rows, h1, h2⟩
        · obtain ⟨V, rws, h3, _⟩ := h2.grd
          exact ⟨h3.cells.2.2.2, by rw [h1]; exact Nat.le_refl _, heapsz h3⟩
        · obtain ⟨V, rws, h3, _⟩ := h2.grd
          exact ⟨h3.cells.2.2.2, h1.len.2, heapsz h3⟩
      obtain ⟨c3, hrl, hRlt⟩ := hc3
      have HST := Lib.hid hst2
      have hrs : (ByteArray.mk rest.toArray).size ≤ 100000 := by show rest.toArray.size ≤ _; rw [List.size_toArray]; have := HTL.out; omega
      have hnoc : (10 : UInt8) ∉ rest → NoDoc Tx := fun hc => by
        rcases HST.out with ⟨h1, _⟩ | ⟨Y, P, rows, h1, _⟩
        · exact noDoc_cut (h1 ▸ hc)
        · exact h1.noCut hc
      have HNOC := Lib.hid hnoc
      clear hst hst2 hen hnoc
      go_wp2_with fail
      refine (cut_any ⟨rest.toArray⟩ mx wr hrs HMX.out).mono ?_
      rintro e wB ⟨f, r, b, rfl, hcut, hbB⟩
      rw [show (ByteArray.mk rest.toArray).data.toList = rest from rfl] at hcut
      have hfl : f.length ≤ rest.length := by
        rcases hcut with ⟨_, h, _⟩ | ⟨_, h, _⟩
        · rw [h]; simp
        · rw [h]; exact Nat.le_refl _
      have hmB : wB.cell? ⟨0, 0, none⟩ = some (.int .i64 mx) := by
        obtain ⟨_, _, h0⟩ := HX.out
        have := HBW.out.size
        exact ((bcell hbB).1 _ _ (by omega)).trans HMX.out
      have HCUT := Lib.hid hcut; have HBB := Lib.hid hbB; have HMB := Lib.hid hmB
      clear hcut hbB hmB c3 hrs
      go_wp2_with fail
      refine (split_any ⟨f.toArray⟩ 32 mx wB (by show f.toArray.size ≤ _; rw [List.size_toArray]; have := HTL.out; omega) HMB.out).mono ?_
      rintro e wC ⟨rfl, hbC, hsC, hws⟩
      rw [show (ByteArray.mk f.toArray).data.toList = f from rfl] at hws ⊢
      obtain ⟨ps, hps⟩ : ∃ z, pieces 32 f = z := ⟨_, rfl⟩
      have hpl := pieces_len (c := 32) f
      rw [hps] at hws hpl ⊢
      obtain ⟨p, qs, rfl⟩ : ∃ p qs, ps = p :: qs := by
        cases ps with
        | nil => exact absurd hps (pieces_ne 32 f)
        | cons p qs => exact ⟨p, qs, rfl⟩
      have hb2 := HBB.out.trans (hbC.mono HBB.out.size)
      have HBC := Lib.hid hb2
      have hpl2 : p.length ≤ 100000 := by have := hpl.2 p (by simp); have := HTL.out; omega
      have hlk := rd_look ((hb2.block _ (by omega)).trans HMR.out) p hpl2
      have b0 := (str_at hws (i := 0) rfl).2
      rw [Nat.add_zero] at b0
      have hqn : qs.length ≤ 1000 := by have := hpl.1; simp only [List.length_cons] at this; have := HTL.out; omega
      have HWS := Lib.hid (strs_tail hws); have HPS := Lib.hid hps
      have HTC : Hid (Tab wC) := Lib.hid (HT.out.next (HBW.out.trans (hb2.mono HBW.out.size)))
      obtain ⟨B, hB⟩ : ∃ z, wB.heap.size = z := ⟨_, rfl⟩
      have hRB : R < B := by have := HBB.out.size; omega
      rw [hB] at b0 HWS ⊢
      have HBWC := Lib.hid (HBW.out.trans (hb2.mono HBW.out.size))
      clear hws hpl hbC hb2 hpl2 hps hB HBB HMB hsC
      cases b with
      | false =>
        have hno : NoDoc Tx := by
          rcases HCUT.out with ⟨h, _⟩ | ⟨_, _, _, h⟩
          · exact absurd h (by decide)
          · exact HNOC.out h
        have HNO := Lib.hid hno
        clear hno
        rw [List.length_cons]
        obtain ⟨V1, V2⟩ := rdV p
        go_wp2_with fail
        refine (giveUp_any _).mono ?_
        rintro e w5 ⟨rfl, rfl⟩
        exact ⟨rfl, .inr ⟨HNO.out, rfl⟩, HBWC.out⟩
      | true =>
        have hfr : rest = f ++ 10 :: r ∧ (10 : UInt8) ∉ f := by
          rcases HCUT.out with ⟨_, h1, h2⟩ | ⟨h, _⟩
          · exact ⟨h1, h2⟩
          · exact absurd h (by decide)
        have HFR := Lib.hid hfr.1; have HF10 := Lib.hid hfr.2
        have HLEN : Hid (r.length < rest.length) := Lib.hid (by rw [hfr.1]; simp; omega)
        clear hfr HCUT HNOC
        rw [List.length_cons]
        by_cases hp1 : p = wLev
        · subst hp1
          have hv : rdV wLev = (.func (.func 123) #[] #[], true) := by unfold rdV wLev wYear wEnd; rfl
          rw [hv] at hlk
          cases qs with
          | nil =>
            rw [show ([] : List (List UInt8)).length + 1 = 1 from rfl]
            go_wp2_with fail
            clear b0 hlk
            refine (lineRd_any HTL.out HST.out HFR.out HF10.out HPS.out (some ⟨B, 0, none⟩) 0 rfl (by omega) wC HBC.out (fun h => absurd rfl h) (by rintro bo o e; injection e with e; injection e with e1; omega) HTC.out 123 (.inl ⟨rfl, rfl⟩)).mono ?_
            rintro e w5 ⟨hh, hb5⟩
            have HB5 := Lib.hid hb5
            clear hb5
            rcases hh with ⟨rfl, hst⟩ | ⟨hno, rfl⟩
            · have HS5 := Lib.hid hst
              clear hst
              go_wp2_with fail
              refine ⟨⟨r, rfl, HB5.out, HS5.out⟩, ?_⟩
              have h7 := HLEN.out
              show r.toArray.size < rest.toArray.size
              rw [List.size_toArray, List.size_toArray]
              exact h7
            · exact ⟨rfl, .inr ⟨hno, rfl⟩, HBA.out.trans (HB5.out.mono HBA.out.size)⟩
          | cons q qs' =>
            obtain ⟨m, hm⟩ : ∃ z, (q :: qs').length = z := ⟨_, rfl⟩
            have hm0 : ¬ m = 0 := by rw [← hm]; simp
            have hmi : ¬ (m : Int) = 0 := by omega
            have HLQ := Lib.hid hm
            rw [hm] at hqn ⊢
            clear hm
            go_wp2_with fail
            clear b0 hlk
            refine (lineRd_any HTL.out HST.out HFR.out HF10.out HPS.out (some ⟨B, 0 + 1, none⟩) m HLQ.out (by omega) wC HBC.out HWS.out (by rintro bo o e; injection e with e; injection e with e1; omega) HTC.out 123 (.inl ⟨rfl, rfl⟩)).mono ?_
            rintro e w5 ⟨hh, hb5⟩
            have HB5 := Lib.hid hb5
            clear hb5
            rcases hh with ⟨rfl, hst⟩ | ⟨hno, rfl⟩
            · have HS5 := Lib.hid hst
              clear hst
              go_wp2_with fail
              refine ⟨⟨r, rfl, HB5.out, HS5.out⟩, ?_⟩
              have h7 := HLEN.out
              show r.toArray.size < rest.toArray.size
              rw [List.size_toArray, List.size_toArray]
              exact h7
            · exact ⟨rfl, .inr ⟨hno, rfl⟩, HBA.out.trans (HB5.out.mono HBA.out.size)⟩
        · by_cases hp2 : p = wYear
          · subst hp2
            have hv : rdV wYear = (.func (.func 124) #[] #[], true) := by unfold rdV wLev wYear wEnd; rfl
            rw [hv] at hlk
            cases qs with
            | nil =>
              rw [show ([] : List (List UInt8)).length + 1 = 1 from rfl]
              go_wp2_with fail
              clear b0 hlk
              refine (lineRd_any HTL.out HST.out HFR.out HF10.out HPS.out (some ⟨B, 0, none⟩) 0 rfl (by omega) wC HBC.out (fun h => absurd rfl h) (by rintro bo o e; injection e with e; injection e with e1; omega) HTC.out 124 (.inr (.inl ⟨rfl, rfl⟩))).mono ?_
              rintro e w5 ⟨hh, hb5⟩
              have HB5 := Lib.hid hb5
              clear hb5
              rcases hh with ⟨rfl, hst⟩ | ⟨hno, rfl⟩
              · have HS5 := Lib.hid hst
                clear hst
                go_wp2_with fail
                refine ⟨⟨r, rfl, HB5.out, HS5.out⟩, ?_⟩
                have h7 := HLEN.out
                show r.toArray.size < rest.toArray.size
                rw [List.size_toArray, List.size_toArray]
                exact h7
              · exact ⟨rfl, .inr ⟨hno, rfl⟩, HBA.out.trans (HB5.out.mono HBA.out.size)⟩
            | cons q qs' =>
              obtain ⟨m, hm⟩ : ∃ z, (q :: qs').length = z := ⟨_, rfl⟩
              have hm0 : ¬ m = 0 := by rw [← hm]; simp
              have hmi : ¬ (m : Int) = 0 := by omega
              have HLQ := Lib.hid hm
              rw [hm] at hqn ⊢
              clear hm
              go_wp2_with fail
              clear b0 hlk
              refine (lineRd_any HTL.out HST.out HFR.out HF10.out HPS.out (some ⟨B, 0 + 1, none⟩) m HLQ.out (by omega) wC HBC.out HWS.out (by rintro bo o e; injection e with e; injection e with e1; omega) HTC.out 124 (.inr (.inl ⟨rfl, rfl⟩))).mono ?_
              rintro e w5 ⟨hh, hb5⟩
              have HB5 := Lib.hid hb5
              clear hb5
              rcases hh with ⟨rfl, hst⟩ | ⟨hno, rfl⟩
              · have HS5 := Lib.hid hst
                clear hst
                go_wp2_with fail
                refine ⟨⟨r, rfl, HB5.out, HS5.out⟩, ?_⟩
                have h7 := HLEN.out
                show r.toArray.size < rest.toArray.size
                rw [List.size_toArray, List.size_toArray]
                exact h7
              · exact ⟨rfl, .inr ⟨hno, rfl⟩, HBA.out.trans (HB5.out.mono HBA.out.size)⟩
          · by_cases hp3 : p = wEnd
            · subst hp3
              have hv : rdV wEnd = (.func (.func 125) #[] #[], true) := by unfold rdV wLev wYear wEnd; rfl
              rw [hv] at hlk
              cases qs with
              | nil =>
                rw [show ([] : List (List UInt8)).length + 1 = 1 from rfl]
                go_wp2_with fail
                clear b0 hlk
                refine (lineRd_any HTL.out HST.out HFR.out HF10.out HPS.out (some ⟨B, 0, none⟩) 0 rfl (by omega) wC HBC.out (fun h => absurd rfl h) (by rintro bo o e; injection e with e; injection e with e1; omega) HTC.out 125 (.inr (.inr ⟨rfl, rfl⟩))).mono ?_
                rintro e w5 ⟨hh, hb5⟩
                have HB5 := Lib.hid hb5
                clear hb5
                rcases hh with ⟨rfl, hst⟩ | ⟨hno, rfl⟩
                · have HS5 := Lib.hid hst
                  clear hst
                  go_wp2_with fail
                  refine ⟨⟨r, rfl, HB5.out, HS5.out⟩, ?_⟩
                  have h7 := HLEN.out
                  show r.toArray.size < rest.toArray.size
                  rw [List.size_toArray, List.size_toArray]
                  exact h7
                · exact ⟨rfl, .inr ⟨hno, rfl⟩, HBA.out.trans (HB5.out.mono HBA.out.size)⟩
              | cons q qs' =>
                obtain ⟨m, hm⟩ : ∃ z, (q :: qs').length = z := ⟨_, rfl⟩
                have hm0 : ¬ m = 0 := by rw [← hm]; simp
                have hmi : ¬ (m : Int) = 0 := by omega
                have HLQ := Lib.hid hm
                rw [hm] at hqn ⊢
                clear hm
                go_wp2_with fail
                clear b0 hlk
                refine (lineRd_any HTL.out HST.out HFR.out HF10.out HPS.out (some ⟨B, 0 + 1, none⟩) m HLQ.out (by omega) wC HBC.out HWS.out (by rintro bo o e; injection e with e; injection e with e1; omega) HTC.out 125 (.inr (.inr ⟨rfl, rfl⟩))).mono ?_
                rintro e w5 ⟨hh, hb5⟩
                have HB5 := Lib.hid hb5
                clear hb5
                rcases hh with ⟨rfl, hst⟩ | ⟨hno, rfl⟩
                · have HS5 := Lib.hid hst
                  clear hst
                  go_wp2_with fail
                  refine ⟨⟨r, rfl, HB5.out, HS5.out⟩, ?_⟩
                  have h7 := HLEN.out
                  show r.toArray.size < rest.toArray.size
                  rw [List.size_toArray, List.size_toArray]
                  exact h7
                · exact ⟨rfl, .inr ⟨hno, rfl⟩, HBA.out.trans (HB5.out.mono HBA.out.size)⟩
            · have hno : NoDoc Tx := by
                rcases HST.out with ⟨h1, _⟩ | ⟨Y, P, rows, h1, _⟩
                · refine noDoc_first (h1 ▸ HFR.out) HF10.out fun ⟨Y, P, _, _, hq⟩ => hp1 ?_
                  rw [HPS.out] at hq
                  simp only [List.cons.injEq] at hq
                  exact hq.1
                · exact h1.noWord HFR.out HF10.out HPS.out hp2 hp3
              have HNO := Lib.hid hno
              have hv : rdV p = (.nilFunc, false) := by unfold rdV; rw [if_neg hp1, if_neg hp2, if_neg hp3]
              rw [hv] at hlk
              clear hno hp1 hp2 hp3 hv
              go_wp2_with fail
              refine (giveUp_any _).mono ?_
              rintro e w5 ⟨rfl, rfl⟩
              exact ⟨rfl, .inr ⟨HNO.out, rfl⟩, HBWC.out⟩
end Go.Proofs.YtdlaphlpimlgdaaGreatDoor
