/- The specification's reader: a text. -/
import Derived.Test.YtccekbdhffccdaaDoorID
import Derived.Test.YtccekbdhffccdaaDoorHB
import Derived.Test.YtccekbdhffccdaaDoorGD
namespace Go.Proofs.YtccekbdhffccdaaDoor
open Go.RowKit Go.Shelf

def Read2Post (T : List UInt8) (e : Ending) (w' : World) : Prop :=
  (∃ ls lo hi A n c, OkDoc ls lo hi ∧ T = printT ls lo hi ∧ e = .returned (.tuple #[.agg #[.slice A n c, .int .i64 lo, .int .i64 hi], .bool true]) ∧ ls.length = n ∧ n ≤ c ∧ LaysAt w' w'.heap.size A ls) ∨
  (NoLog T ∧ ∃ A n c lo hi, e = .returned (.tuple #[.agg #[.slice A n c, .int .i64 lo, .int .i64 hi], .bool false]))
theorem str_ne (p : List UInt8) : (ByteArray.mk p.toArray = ByteArray.empty) ↔ p = [] := by
  constructor
  · intro h
    have := congrArg (fun b : ByteArray => b.data.toList) h
    simpa using this
  · rintro rfl; rfl
/-! ### A region in which a box of three cells is filled beside calls -/

/-- Memory while a box of three cells is filled: 'si' is the number of the store. -/
structure BoxS (wD : World) (N si : Nat) (T : TypeId) (o n : Value × Value × Value) (done : Nat → Bool) (w' : World) : Prop where
  grown : wD.grownBy w' (some N)
  box : w'.heap[N]? = some (.cells (if done si then #[n.1, n.2.1, n.2.2] else #[o.1, o.2.1, o.2.2]) T (0, 0))
section
variable {wD w : World} {N si : Nat} {T : TypeId} {ov nv : Value × Value × Value} {done : Nat → Bool} {ops : Array Oper} {cv : Tmp → Value} {i : Nat} {o : Oper}
abbrev AskB (wD : World) (N si : Nat) (T : TypeId) (ov nv : Value × Value × Value) (ops : Array Oper) (cv : Tmp → Value) (done : Nat → Bool) (w : World) (i : Nat) (o : Oper) : Prop :=
  Region.wanted o (yieldedBy ops cv) = true ∧ Yield Tryd.prog (fun v w' => ∃ _g : Unit, BoxS wD N si T ov nv (updB done i) w' ∧ (∀ d, o.dst = some d → cv d = v) ∧ ∀ t, o.dst ≠ some t → cv t = cv t) ((execOp (evalBy cv) o).run Tryd.prog w)
theorem BoxS.step (h : BoxS wD N si T ov nv done w) {w' : World} (hb : Below w.heap.size w w') (hi : i ≠ si) : BoxS wD N si T ov nv (updB done i) w' :=
  ⟨Lib.grownBy_below h.grown hb, by
    have : updB done i si = done si := by simp [updB, Ne.symm hi]
    rw [this]
    exact (hb.block _ (Array.getElem?_eq_some_iff.1 h.box).1).trans h.box⟩
theorem quietB (h : BoxS wD N si T ov nv done w) (d : Tmp) (hd : o.dst = some d) (hi : i ≠ si) (hg : Region.wanted o (yieldedBy ops cv) = true)
    (he : (execOp (evalBy cv) o).run Tryd.prog w = .ok (.value (cv d)) w) : AskB wD N si T ov nv ops cv done w i o := by
  refine ⟨hg, ?_⟩
  rw [he]
  exact ⟨(), h.step (Below.refl _ _) hi, fun e hE => by rw [hd] at hE; injection hE with hE; subst hE; rfl, fun _ _ => rfl⟩
theorem callB (h : BoxS wD N si T ov nv done w) (d : Tmp) (hd : o.dst = some d) (hi : i ≠ si) (hg : Region.wanted o (yieldedBy ops cv) = true) (f : FuncId) (args : Array Value)
    (he : (execOp (evalBy cv) o).run Tryd.prog w = .ok (.enter f args) w) (hc : Calls Tryd.prog f args w fun e w' => e = .returned (cv d) ∧ Below w.heap.size w w') : AskB wD N si T ov nv ops cv done w i o := by
  refine ⟨hg, ?_⟩
  rw [he]
  show Calls Tryd.prog f args w _
  refine hc.mono ?_
  rintro e w' ⟨rfl, hb⟩
  exact ⟨_, rfl, (), h.step hb hi, fun e hE => by rw [hd] at hE; injection hE with hE; subst hE; rfl, fun _ _ => rfl⟩
theorem storeB (h : BoxS wD N si T ov nv done w) (hd : o.dst = none) (hu : done si = false) (hg : Region.wanted o (yieldedBy ops cv) = true)
    (he : (∀ a, w.frozen? ⟨N, a, none⟩ = false) → w.cell? ⟨N, 0, none⟩ = some ov.1 → w.cell? ⟨N, 1, none⟩ = some ov.2.1 → w.cell? ⟨N, 2, none⟩ = some ov.2.2 →
      (execOp (evalBy cv) o).run Tryd.prog w = .ok .skip (((w.setCell ⟨N, 0, none⟩ nv.1).setCell ⟨N, 1, none⟩ nv.2.1).setCell ⟨N, 2, none⟩ nv.2.2)) : AskB wD N si T ov nv ops cv done w si o := by
  refine ⟨hg, ?_⟩
  have hb := h.box
  rw [hu] at hb
  have c0 := cell_of_row w N 0 _ T (0, 0) hb
  have c1 := cell_of_row w N 1 _ T (0, 0) hb
  have c2 := cell_of_row w N 2 _ T (0, 0) hb
  have hf : ∀ a, w.frozen? ⟨N, a, none⟩ = false := fun a => by simp [World.frozen?, hb]
  rw [he hf c0 c1 c2]
  refine ⟨(), ⟨Lib.grownBy_setB (Lib.grownBy_setB (Lib.grownBy_setB h.grown 0 _) 1 _) 2 _, ?_⟩, fun e hE => by rw [hd] at hE; exact absurd hE (by simp), fun _ _ => rfl⟩
  simp [World.setCell, Array.getElem?_modify, hb, updB]
end
def rtCv (B Q : Nat) (p : Value) (X t : ByteArray) : Tmp → Value
  | 0 => .string t
  | 9 => .pointer (some ⟨Q, 0, none⟩)
  | 2 => .pointer (some ⟨B, 0, none⟩)
  | 82 => p
  | 83 => p
  | 84 => .string X
  | 85 => .string t
  | 86 => .bool (X.toList == t.toList)
  | 3 => .bool (X.toList == t.toList)
  | _ => undef
theorem lays_in {w u : World} {B n c : Nat} {A : Option Addr} {l : List Lay} (h : w.ownsRow B 86 3 (.slice A n c) n (l.flatMap layRowG)) (hl : l.length = n) (hk : ∀ b, B ≤ b → b < w.heap.size → u.heap[b]? = w.heap[b]?) : LaysAt u u.heap.size A l := by
  have h2 := own_of_blocks (w' := u) h fun b hb => hk b (h.lt _ hb).1 (h.lt _ hb).2
  obtain ⟨A', c', e, _, hL⟩ := lays_of_ownG h2 hl
  cases e
  exact hL
theorem lay_new (w : World) (x y z : Int) : ∀ j u, [Value.int .i64 x, .int .i64 y, .int .i64 z][j]? = some u → (w.alloc (.cells #[.int .i64 x, .int .i64 y, .int .i64 z] 86)).cell? ((⟨w.heap.size, 0, none⟩ : Addr).add j) = some u := by
  intro j u hj
  have h := heap_alloc_new w (.cells #[.int .i64 x, .int .i64 y, .int .i64 z] 86)
  have hl : j < 3 := (List.getElem?_eq_some_iff.1 hj).1
  rw [show (⟨w.heap.size, 0, none⟩ : Addr).add j = ⟨w.heap.size, j, none⟩ by simp [Addr.add]; omega, cell_of_row _ w.heap.size _ _ 86 (0, 0) h]
  match j, hl with
  | 0, _ => exact hj
  | 1, _ => exact hj
  | 2, _ => exact hj
theorem box_kept26 {w w4 : World} {tb n m : Nat} {base : Nat} {o : Obj} {h0 a b v' : Value} {xs ys : List Value} (hb : w.heap[tb]? = some (.cells #[h0, a, b] 26 (0, 0))) (ho : w.ownsRow base 86 3 h0 n xs) (hg : (w.alloc o).grownBy w4 h0.ownBlock) (hv : w4.ownsRow base 86 3 v' m ys) :
    (∃ ad cap, v' = .slice ad m cap) ∧ w4.frozen? ⟨tb, 0, none⟩ = false ∧ w4.cell? ⟨tb, 0, none⟩ = some h0 ∧ w4.heap[tb]? = some (.cells #[h0, a, b] 26 (0, 0)) := by
  have hb' := ((Below.refl w.heap.size w).alloc (Nat.le_refl _) o)
  have h1 := (hb'.block _ (Array.getElem?_eq_some_iff.1 hb).1).trans hb
  have h2 := (hg.block _ (Array.getElem?_eq_some_iff.1 h1).1 (fun e => own_not (own_next ho hb') h1 (by decide) e.symm)).trans h1
  refine ⟨?_, by simp [World.frozen?, h2], ?_, h2⟩
  · rcases hv.2 with ⟨rfl, rfl⟩ | ⟨g, cap, cur, rfl, _⟩
    · exact ⟨_, _, rfl⟩
    · exact ⟨_, _, rfl⟩
  · rw [cell_of_row _ _ 0 _ 26 (0, 0) h2]
    rfl
set_option maxRecDepth 100000 in
set_option maxHeartbeats 4000000 in
theorem read2_any (t : ByteArray) (ht : t.size ≤ 5100) (w : World) :
    Calls Tryd.prog 46 #[.string t] w fun e w' => Below w.heap.size w w' ∧ Read2Post t.data.toList e w' := by
  have hsz : t.data.toList.length = t.size := Array.length_toList
  obtain ⟨wA, hwA⟩ : ∃ z, w.alloc (.cells #[.slice none 0 0, .int .i64 0, .int .i64 0] 26) = z := ⟨_, rfl⟩
  have za := heap_alloc_new w (.cells #[.slice none 0 0, .int .i64 0, .int .i64 0] 26)
  rw [hwA] at za
  have HBA := Lib.hid (show Below w.heap.size w wA by rw [← hwA]; exact (Below.refl _ _).alloc (Nat.le_refl _) _)
  have ZA := Lib.hid za
  clear za
  have hsp := split2_any t 10 (by omega) wA
  rw [show ((10 : UInt8).toNat : Nat) = 10 from rfl] at hsp
  have hps := pieces_len (c := 10) t.data.toList
  have hd := fun (ls : List Lay) (lo hi : Int) (h : OkDoc ls lo hi) (e : t.data.toList = printT ls lo hi) => doc_first h e
  have hsame := fun (ls ls' : List Lay) (n lo hi lo' hi' : Int) (hs : SeenL (pieces 10 t.data.toList) n lo hi ls) (hn : (ls.length : Int) = n) (h : OkDoc ls' lo' hi') (e : t.data.toList = printT ls' lo' hi') => doc_same hs hn h e
  have hne := pieces_ne 10 t.data.toList
  obtain ⟨L, hL⟩ : ∃ z, pieces 10 t.data.toList = z := ⟨_, rfl⟩
  rw [hL] at hsp hps hd hsame hne
  have HD := Lib.hid hd; have HSAME := Lib.hid hsame
  have hpl : ∀ p ∈ L, (ByteArray.mk p.toArray).size ≤ 6000 := fun p hp => by
    have h1 := hps.2 p hp
    show p.toArray.size ≤ _
    rw [List.size_toArray]
    omega
  have HPL := Lib.hid hpl
  have hLpos : 0 < L.length := List.length_pos_iff.2 hne
  have hLlen : L.length ≤ 5101 := by omega
  clear hL hps hd hsame hne hpl
  go_enter Tryd.func46, Tryd.ntmps46
  go_wp2_with fail
  refine hsp.mono ?_
  rintro e u1 ⟨hb1, v, rfl, ho⟩
  obtain ⟨g, cap, rfl, hg1, hg2⟩ := ho.form hLpos
  have hcells := ownStr_cells ho
  have hcellL : ∀ j p, L[j]? = some p → u1.cell? ⟨g, j, none⟩ = some (.string ⟨p.toArray⟩) := fun j p hj => hcells j _ (by unfold strs; rw [List.getElem?_map, hj]; rfl)
  have HCL := Lib.hid hcellL
  have HB1 := Lib.hid (HBA.out.trans (hb1.mono HBA.out.size))
  have Z1 := Lib.hid ((hb1.block _ (Array.getElem?_eq_some_iff.1 ZA.out).1).trans ZA.out)
  clear hb1 ho hsp hcells hcellL hwA
  obtain ⟨p0, hp0⟩ : ∃ p, L[0]? = some p := ⟨_, List.getElem?_eq_getElem hLpos⟩
  have c0 := HCL.out 0 p0 hp0
  have hl0 := HPL.out p0 (List.mem_of_getElem? hp0)
  have HP0 := Lib.hid hp0
  clear hp0
  have hLi : (0 : Int) < (L.length : Int) := by omega
  go_wp2_with fail
  refine (three_any ⟨p0.toArray⟩ wHole hl0 u1).mono ?_
  rintro e u2 ⟨hb2, many, lo, hi, z, rfl, h0⟩
  have HB2 := Lib.hid (HB1.out.trans (hb2.mono HB1.out.size))
  have lt2 := Nat.lt_of_lt_of_le hg2 hb2.size
  have Z2 := Lib.hid ((hb2.block _ (Array.getElem?_eq_some_iff.1 Z1.out).1).trans Z1.out)
  have HCL2 : Hid (∀ j p, L[j]? = some p → u2.cell? ⟨g, j, none⟩ = some (.string ⟨p.toArray⟩)) := Lib.hid fun j p hj => ((bcell hb2).1 _ _ hg2).trans (HCL.out j p hj)
  have H0 := Lib.hid h0
  clear hb2 h0 c0 hl0 HCL
  obtain ⟨pe, hpe⟩ : ∃ p, L[L.length - 1]? = some p := ⟨_, List.getElem?_eq_getElem (by omega)⟩
  have ce := HCL2.out _ pe hpe
  have HPE := Lib.hid hpe
  clear hpe
  obtain ⟨N, hN⟩ : ∃ N, L.length = N := ⟨_, rfl⟩
  obtain ⟨M, hM⟩ : ∃ M, L.length - 1 = M := ⟨_, rfl⟩
  rw [hN] at hLpos hLlen hLi ⊢
  rw [hM] at ce HPE
  have hNM : N = M + 1 := by omega
  have HN := Lib.hid hN; have HM := Lib.hid hM
  clear hN hM
  subst hNM
  have q1 : (0 : Int) ≤ (M : Int) := by omega
  have q2 : (M : Int) < ((M + 1 : Nat) : Int) := by omega
  have v1 : Value.int .i64 (wrap64 (M : Int)) = Value.int .i64 (M : Int) := by congr 1; unfold wrap64; omega
  have r0 := cell_of_row u2 w.heap.size 0 _ 26 (0, 0) Z2.out
  have r1 := cell_of_row u2 w.heap.size 1 _ 26 (0, 0) Z2.out
  have r2 := cell_of_row u2 w.heap.size 2 _ 26 (0, 0) Z2.out
  simp at r0 r1 r2
  have f0 : u2.frozen? ⟨w.heap.size, 0, none⟩ = false := by simp [World.frozen?, Z2.out]
  have f1 : u2.frozen? ⟨w.heap.size, 1, none⟩ = false := by simp [World.frozen?, Z2.out]
  have f2 : u2.frozen? ⟨w.heap.size, 2, none⟩ = false := by simp [World.frozen?, Z2.out]
  have bad : Hid (NoLog t.data.toList → Below w.heap.size w (((u2.setCell ⟨w.heap.size, 0, none⟩ (.slice none 0 0)).setCell ⟨w.heap.size, 1, none⟩ (.int .i64 0)).setCell ⟨w.heap.size, 2, none⟩ (.int .i64 0)) ∧ Read2Post t.data.toList (.returned (.tuple #[.agg #[.slice none 0 0, .int .i64 0, .int .i64 0], .bool false])) (((u2.setCell ⟨w.heap.size, 0, none⟩ (.slice none 0 0)).setCell ⟨w.heap.size, 1, none⟩ (.int .i64 0)).setCell ⟨w.heap.size, 2, none⟩ (.int .i64 0))) := Lib.hid fun hno =>
    ⟨((HB2.out.setCell (p := ⟨w.heap.size, 0, none⟩) (Nat.le_refl _) _).setCell (p := ⟨w.heap.size, 1, none⟩) (Nat.le_refl _) _).setCell (p := ⟨w.heap.size, 2, none⟩) (Nat.le_refl _) _, .inr ⟨hno, none, 0, 0, 0, 0, rfl⟩⟩
  cases z with
  | false =>
    have hno := Lib.hid (show NoLog t.data.toList from fun ls' lo' hi' hd' e => by
      have h1 := (HD.out ls' lo' hi' hd' e).1
      rw [HP0.out] at h1
      rcases H0.out with ⟨hz, _⟩ | ⟨_, hno⟩
      · exact absurd hz (by decide)
      · exact hno _ _ _ h1)
    clear ce v1 q1 q2
    go_wp2_with fail
    refine bodyPost_ret (v := .tuple #[.agg #[.slice none 0 0, .int .i64 0, .int .i64 0], .bool false]) (by simp [results, Tryd.results46, go_sem, r0, r1, r2]) rfl ?_
    exact bad.out hno.out
  | true =>
    have LB := Lib.hid (show M + 1 ≤ 5101 from hLlen)
    by_cases hpe : pe = []
    · by_cases h3 : M < 2
      · have h3' : (M : Int) + 1 < 3 := by omega
        have hno := Lib.hid (show NoLog t.data.toList from fun ls' lo' hi' hd' e => by
          have h1 := (HD.out ls' lo' hi' hd' e).2.1
          rw [HN.out] at h1
          omega)
        clear v1 q1 q2 LB
        go_wp2_with fail
        refine bodyPost_ret (v := .tuple #[.agg #[.slice none 0 0, .int .i64 0, .int .i64 0], .bool false]) (by simp [results, Tryd.results46, go_sem, r0, r1, r2]) rfl ?_
        exact bad.out hno.out
      · have h3' : ¬ (M : Int) + 1 < 3 := by omega
        by_cases hm : many = (M : Int) - 2
        · have hmb : (many != (M : Int) + 1 - 3) = false := by simp; omega
          have HM2 := Lib.hid hm
          have HPE2 := Lib.hid hpe
          clear hm
          go_wp2_with fail
          clear ce r0 r1 r2 f0 f1 f2 hmb v1
          obtain ⟨u3, hu3⟩ : ∃ z, u2.alloc (.cells #[.slice none 0 0, .int .i64 lo, .int .i64 hi] 26) = z := ⟨_, rfl⟩
          have zp := heap_alloc_new u2 (.cells #[.slice none 0 0, .int .i64 lo, .int .i64 hi] 26)
          rw [hu3] at zp ⊢
          have B3 := Lib.hid (show Below u2.heap.size u2 u3 by rw [← hu3]; exact (Below.refl _ _).alloc (Nat.le_refl _) _)
          have ZP := Lib.hid zp
          clear hu3 zp
          obtain ⟨j0, hj0, jz0, jz1, jz2⟩ := info_parts lay_infoG
          have J0 := Lib.hid hj0; have JZ0 := Lib.hid jz0; have JZ1 := Lib.hid jz1; have JZ2 := Lib.hid jz2
          clear hj0 jz0 jz1 jz2 q1 q2
          go_loopw [10] (fun i wr => ∃ (k : Nat) (V : Value) (ls : List Lay), i = .int .i64 ((k : Int) + 1) ∧ (k : Int) ≤ many ∧ ls.length = k ∧ (∀ j l, ls[j]? = some l → Three wLayer (L[j + 1]?.getD []) l.t l.lo l.hi) ∧
            Below u2.heap.size u2 wr ∧ wr.heap[u2.heap.size]? = some (.cells #[V, .int .i64 lo, .int .i64 hi] 26 (0, 0)) ∧ wr.ownsRow u2.heap.size 86 3 V k (ls.flatMap layRowG)) (fun i _ => (many + 1 - intOf i).toNat)
          case atStart => exact ⟨0, _, [], rfl, by rw [HM2.out]; omega, rfl, fun j l h => by simp at h, B3.out, ZP.out, World.ownsRow_nil _ _ _ _⟩
          case round =>
            obtain ⟨k, V, ls, rfl, hk, hll, hT, hb, hz, ho⟩ := hrel
            have HLL := Lib.hid hll; have HT := Lib.hid hT; have HB := Lib.hid hb; have HZ := Lib.hid hz; have HO := Lib.hid ho
            clear hll hT hb hz ho
            have hmM := HM2.out
            by_cases hlt : (k : Int) + 1 ≤ many
            · obtain ⟨p, hp⟩ : ∃ p, L[k + 1]? = some p := ⟨_, List.getElem?_eq_getElem (by rw [HN.out]; omega)⟩
              have cp := ((bcell HB.out).1 _ _ lt2).trans (HCL2.out (k + 1) p hp)
              have hlp := HPL.out p (List.mem_of_getElem? hp)
              have HPP := Lib.hid hp
              clear hp
              have q1 : (0 : Int) ≤ ((k + 1 : Nat) : Int) := by omega
              have q2 : ((k + 1 : Nat) : Int) < ((M + 1 : Nat) : Int) := by omega
              obtain ⟨K, hK⟩ : ∃ K, k + 1 = K := ⟨_, rfl⟩
              have hKi : (k : Int) + 1 = (K : Int) := by omega
              rw [hKi] at hlt ⊢
              rw [hK] at q1 q2 cp HPP
              have HK := Lib.hid hK
              clear hK hKi
              go_wp2_with fail
              refine (three_any ⟨p.toArray⟩ wLayer hlp wr).mono ?_
              rintro e w5 ⟨hb5, a, b, c, z, rfl, h5⟩
              have lt5 := (Array.getElem?_eq_some_iff.1 HZ.out).1
              have ltw := Nat.lt_of_lt_of_le (Array.getElem?_eq_some_iff.1 Z2.out).1 HB.out.size
              have Z5 := Lib.hid ((hb5.block _ ltw).trans ((HB.out.block _ (Array.getElem?_eq_some_iff.1 Z2.out).1).trans Z2.out))
              have P5 := Lib.hid ((hb5.block _ lt5).trans HZ.out)
              have HB5 := Lib.hid (HB.out.trans (hb5.mono HB.out.size))
              have HO5 := Lib.hid (own_next HO.out hb5)
              have H5 := Lib.hid h5
              clear hb5 h5 cp hlp lt5 ltw HO HB
              cases z with
              | false =>
                have hno := Lib.hid (show NoLog t.data.toList from fun ls' lo' hi' hd' e => by
                  have h1 := HD.out ls' lo' hi' hd' e
                  rcases H0.out with ⟨_, h0⟩ | ⟨hz, _⟩
                  · rw [HP0.out] at h1
                    have hl := (h1.1.uniq h0).1
                    have hk2 : k < ls'.length := by have := HK.out; omega
                    have h2 := h1.2.2.2 k _ (List.getElem?_eq_getElem hk2)
                    rw [HK.out, HPP.out] at h2
                    rcases H5.out with ⟨hz, _⟩ | ⟨_, hno⟩
                    · exact absurd hz (by decide)
                    · exact hno _ _ _ h2
                  · exact absurd hz (by decide))
                have r0 := cell_of_row w5 w.heap.size 0 _ 26 (0, 0) Z5.out
                have r1 := cell_of_row w5 w.heap.size 1 _ 26 (0, 0) Z5.out
                have r2 := cell_of_row w5 w.heap.size 2 _ 26 (0, 0) Z5.out
                simp at r0 r1 r2
                have f0 : w5.frozen? ⟨w.heap.size, 0, none⟩ = false := by simp [World.frozen?, Z5.out]
                have f1 : w5.frozen? ⟨w.heap.size, 1, none⟩ = false := by simp [World.frozen?, Z5.out]
                have f2 : w5.frozen? ⟨w.heap.size, 2, none⟩ = false := by simp [World.frozen?, Z5.out]
                have HBW := Lib.hid (((((HB2.out.trans (HB5.out.mono HB2.out.size)).setCell (p := ⟨w.heap.size, 0, none⟩) (Nat.le_refl _) (.slice none 0 0)).setCell (p := ⟨w.heap.size, 1, none⟩) (Nat.le_refl _) (.int .i64 0))).setCell (p := ⟨w.heap.size, 2, none⟩) (Nat.le_refl _) (.int .i64 0))
                clear q1 q2 LB hLpos hLlen hLi hmM
                go_wp2_with fail
                refine bodyPost_ret (v := .tuple #[.agg #[.slice none 0 0, .int .i64 0, .int .i64 0], .bool false]) (by simp [results, Tryd.results46, go_sem, r0, r1, r2]) rfl ?_
                exact ⟨HBW.out, .inr ⟨hno.out, none, 0, 0, 0, 0, rfl⟩⟩
              | true =>
                have hth : Three wLayer p a b c := by
                  rcases H5.out with ⟨_, h⟩ | ⟨hz, _⟩
                  · exact h
                  · exact absurd hz (by decide)
                have HTH := Lib.hid hth
                have b0 := cell_of_row w5 u2.heap.size 0 _ 26 (0, 0) P5.out
                simp at b0
                have h7 : k < 6000 := by omega
                clear hth H5 hmM
                go_wp2_with (first
                  | (at_builtin
                     refine wpList_append_own _ rfl _ _ 22 rfl u2.heap.size 86 j0 _ 3 24 Tryd.underlying22 J0.out JZ0.out JZ1.out JZ2.out rfl (by decide) _ _ _ rfl (HO5.out.alloc _) ⟨w5.heap.size, 0, none⟩ 1 1 [.int .i64 a, .int .i64 b, .int .i64 c] rfl rfl (lay_new _ _ _ _) (by simp [Value.oneCell']) (by unfold maxLen; omega) (by omega) (by have := HB5.out.size; simp; omega) ?_
                     intro v' w6 hown6 hgrow6 hnil6
                     obtain ⟨⟨ad, cap2, rfl⟩, hfz, hcc, hz6⟩ := box_kept26 P5.out HO5.out hgrow6 hown6
                     have Z6 := Lib.hid hz6; have O6 := Lib.hid hown6; have G6 := Lib.hid hgrow6
                     clear hz6 hown6 hgrow6 hnil6)
                  | fail)
                clear hfz hcc b0
                have nb : ∀ B, (Value.slice ad (k + 1) cap2).ownBlock = some B → B ≠ u2.heap.size := fun B hB e => own_not O6.out Z6.out (by decide) (e ▸ hB)
                have hb6 : Below u2.heap.size u2 w6 := Below.grown (HB5.out.alloc HB5.out.size _) G6.out (by have := HB5.out.size; simp; omega) (fun j hj => (HO5.out.lt _ hj).1)
                refine ⟨⟨k + 1, .slice ad (k + 1) cap2, ls ++ [⟨a, b, c⟩], ?_, by have := HK.out; omega, by rw [List.length_append, HLL.out]; rfl, ?_, hb6.setCell (p := ⟨u2.heap.size, 0, none⟩) (Nat.le_refl _) _, ?_, ?_⟩, ?_⟩
                · have := HK.out
                  congr 1
                  omega
                · intro j l hj
                  by_cases hjk : j < k
                  · rw [List.getElem?_append_left (by rw [HLL.out]; exact hjk)] at hj
                    exact HT.out j l hj
                  · rw [List.getElem?_append_right (by rw [HLL.out]; omega), HLL.out] at hj
                    have hj0 : j = k := by
                      have := (List.getElem?_eq_some_iff.1 hj).1
                      simp at this
                      omega
                    subst hj0
                    simp at hj
                    subst hj
                    rw [HK.out, HPP.out]
                    exact HTH.out
                · have := rd_set Z6.out 0 (.slice ad (k + 1) cap2)
                  exact this
                · rw [List.flatMap_append]
                  refine own_of_blocks O6.out fun B hB => Below.heap_setCell _ _ _ _ (nb B hB)
                · simp [intOf]
                  omega
            · have hke : (k : Int) = many := by omega
              obtain ⟨A, c, rfl, hkc, hA⟩ := lays_of_ownG HO.out HLL.out
              have h0 : Three wHole p0 many lo hi := by
                rcases H0.out with ⟨_, h⟩ | ⟨hz, _⟩
                · exact h
                · exact absurd hz (by decide)
              have hd : OkDoc ls lo hi := ⟨by rw [HLL.out, hke]; exact h0.1, h0.2.1, h0.2.2.1, fun l hl => by
                obtain ⟨j, hj, rfl⟩ := List.getElem_of_mem hl
                have := HT.out j _ (List.getElem?_eq_getElem hj)
                exact ⟨this.1, this.2.1, this.2.2.1⟩⟩
              have hsee : SeenL L many lo hi ls := ⟨by rw [HP0.out]; exact h0, fun j l hj => HT.out j l hj⟩
              have hno : t.data.toList ≠ printT ls lo hi → NoLog t.data.toList := fun hn ls' lo' hi' hd' e => by
                obtain ⟨rfl, rfl, rfl⟩ := HSAME.out ls ls' many lo hi lo' hi' hsee (by rw [HLL.out]; exact hke) hd' e
                exact hn e
              have HNO := Lib.hid hno; have HDD := Lib.hid hd; have HA := Lib.hid hA; have HKC := Lib.hid hkc
              have c0 := cell_of_row wr u2.heap.size 0 _ 26 (0, 0) HZ.out
              have c1 := cell_of_row wr u2.heap.size 1 _ 26 (0, 0) HZ.out
              have c2 := cell_of_row wr u2.heap.size 2 _ 26 (0, 0) HZ.out
              simp at c0 c1 c2
              have hlt' : ¬ (k : Int) + 1 ≤ many := hlt
              have hk6 : k ≤ 20000 := by omega
              have ltw := Nat.lt_of_lt_of_le (Array.getElem?_eq_some_iff.1 Z2.out).1 HB.out.size
              have ltp := (Array.getElem?_eq_some_iff.1 HZ.out).1
              have ltz := (Array.getElem?_eq_some_iff.1 Z2.out).1
              have ZR := (HB.out.block _ ltz).trans Z2.out
              have hLy : ∀ u : World, wr.grownBy u (some w.heap.size) → LaysAt u u.heap.size A ls := fun u hg => lays_in HO.out HLL.out fun b h1 h2 => hg.block b h2 (fun e => by injection e with e; omega)
              have hpr := fun u (hg : wr.grownBy u (some w.heap.size)) => printR_any A k c ls lo hi u HLL.out (hLy u hg) HDD.out hk6
              obtain ⟨X, hX⟩ : ∃ X : ByteArray, ByteArray.mk (printT ls lo hi).toArray = X := ⟨_, rfl⟩
              rw [hX] at hpr
              have HX := Lib.hid hX
              have hpb : ∀ u : World, wr.grownBy u (some w.heap.size) → u.heap[u2.heap.size]? = some (.cells #[.slice A k c, .int .i64 lo, .int .i64 hi] 26 (0, 0)) := fun u hg => (hg.block _ ltp (fun e => by injection e; omega)).trans HZ.out
              have HPR := Lib.hid hpr; have HPB := Lib.hid hpb; have HLY := Lib.hid hLy; have ZRR := Lib.hid ZR
              clear h0 hd hsee hno hA hkc hke hmM hlt hX hLy hpr hpb ZR
              go_wp2_with fail
              refine wp_region_any (by kernel_rfl) (plan_guarded_any (γ := Unit) [0, 2, 9] (fun _ => rtCv w.heap.size u2.heap.size (.agg #[.slice A k c, .int .i64 lo, .int .i64 hi]) X t) (fun done _ w' => BoxS wr w.heap.size 5 26 (.slice none 0 0, .int .i64 0, .int .i64 0) (.slice A k c, .int .i64 lo, .int .i64 hi) done w') () (by kernel_rfl) (by kernel_rfl) (by kernel_rfl) (by kernel_rfl) ?_ ?_ ?_ ?_)
              · intro t ht
                simp only [List.mem_cons, List.not_mem_nil, or_false] at ht
                rcases ht with rfl | rfl | rfl <;> rfl
              · exact ⟨⟨rfl, rfl, rfl, Nat.le_refl _, fun _ _ _ => rfl⟩, ZRR.out⟩
              · refine allOps_array ?_
                refine ⟨?_, ?_, ?_, ?_, ?_, ?_, ?_, trivial⟩
                · intro done g w' hS hu hdep _
                  have hz := HPB.out w' hS.grown
                  have b0 := cell_of_row w' u2.heap.size 0 _ 26 (0, 0) hz
                  have b1 := cell_of_row w' u2.heap.size 1 _ 26 (0, 0) hz
                  have b2 := cell_of_row w' u2.heap.size 2 _ 26 (0, 0) hz
                  simp at b0 b1 b2
                  refine quietB hS 82 rfl (by decide) rfl ?_
                  simp [go_sem, evalBy, rtCv, b0, b1, b2]
                · intro done g w' hS hu hdep _
                  have hz := HPB.out w' hS.grown
                  have b0 := cell_of_row w' u2.heap.size 0 _ 26 (0, 0) hz
                  have b1 := cell_of_row w' u2.heap.size 1 _ 26 (0, 0) hz
                  have b2 := cell_of_row w' u2.heap.size 2 _ 26 (0, 0) hz
                  simp at b0 b1 b2
                  refine quietB hS 83 rfl (by decide) rfl ?_
                  simp [go_sem, evalBy, rtCv, b0, b1, b2]
                · intro done g w' hS hu hdep _
                  refine callB hS 84 rfl (by decide) rfl 44 #[.agg #[.slice A k c, .int .i64 lo, .int .i64 hi]] (by simp [go_sem, evalBy, rtCv]) ?_
                  exact HPR.out w' hS.grown
                · intro done g w' hS hu hdep _
                  refine quietB hS 85 rfl (by decide) rfl ?_
                  simp [go_sem, evalBy, rtCv]
                · intro done g w' hS hu hdep _
                  refine quietB hS 86 rfl (by decide) rfl ?_
                  simp [go_sem, evalBy, rtCv]
                · intro done g w' hS hu hdep _
                  refine storeB hS rfl hu rfl ?_
                  intro hf d0 d1 d2
                  have f0 := hf 0; have f1 := hf 1; have f2 := hf 2
                  clear hf
                  simp at d0 d1 d2
                  simp [go_sem, evalBy, rtCv, f0, f1, f2, d0, d1, d2]
                · intro done g w' hS hu hdep _
                  refine quietB hS 3 rfl (by decide) rfl ?_
                  simp [go_sem, evalBy, rtCv]
              · intro g wE hS
                have hbx := hS.box
                rw [if_pos (by decide)] at hbx
                have e0 := cell_of_row wE w.heap.size 0 _ 26 (0, 0) hbx
                have e1 := cell_of_row wE w.heap.size 1 _ 26 (0, 0) hbx
                have e2 := cell_of_row wE w.heap.size 2 _ 26 (0, 0) hbx
                simp at e0 e1 e2
                have HG := Lib.hid hS.grown
                clear hS hbx
                simp [putAll, Act.put, rtCv]
                go_wp2_with fail
                refine bodyPost_ret (v := .tuple #[.agg #[.slice A k c, .int .i64 lo, .int .i64 hi], .bool (X.toList == t.toList)]) (by simp [results, Tryd.results46, go_sem, e0, e1, e2]) rfl ?_
                have hbe := HB2.out.trans (HB.out.mono HB2.out.size)
                refine ⟨Below.grown hbe HG.out hbe.size (fun j hj => by injection hj with hj; omega), ?_⟩
                by_cases he : printT ls lo hi = t.data.toList
                · refine .inl ⟨ls, lo, hi, A, k, c, HDD.out, he.symm, ?_, HLL.out, HKC.out, HLY.out wE HG.out⟩
                  rw [← HX.out, byte_list_eq, decide_eq_true he]
                · refine .inr ⟨HNO.out fun e => he e.symm, A, k, c, lo, hi, ?_⟩
                  rw [← HX.out, byte_list_eq, decide_eq_false he]
        · have hmb : (many != (M : Int) + 1 - 3) = true := by simp; omega
          have hno := Lib.hid (show NoLog t.data.toList from fun ls' lo' hi' hd' e => by
            have h1 := HD.out ls' lo' hi' hd' e
            rw [HN.out, HP0.out] at h1
            rcases H0.out with ⟨_, h0⟩ | ⟨hz, _⟩
            · have := (h1.1.uniq h0).1
              omega
            · exact absurd hz (by decide))
          clear v1 q1 q2 hm LB
          go_wp2_with fail
          refine bodyPost_ret (v := .tuple #[.agg #[.slice none 0 0, .int .i64 0, .int .i64 0], .bool false]) (by simp [results, Tryd.results46, go_sem, r0, r1, r2]) rfl ?_
          exact bad.out hno.out
    · have hno := Lib.hid (show NoLog t.data.toList from fun ls' lo' hi' hd' e => by
        have h1 := (HD.out ls' lo' hi' hd' e).2.2.1
        rw [HN.out, show M + 1 - 1 = M by omega, HPE.out] at h1
        exact hpe h1)
      clear v1 q1 q2 LB
      go_wp2_with fail
      refine bodyPost_ret (v := .tuple #[.agg #[.slice none 0 0, .int .i64 0, .int .i64 0], .bool false]) (by simp [results, Tryd.results46, go_sem, r0, r1, r2]) rfl ?_
      exact bad.out hno.out
end Go.Proofs.YtccekbdhffccdaaDoor
