/- Coolers: all orders, as the specification goes through them: the mathematics. -/
import Derived.Test.YtmppiiamcpjhnaaEO
import Derived.Test.YtmppiiamcpjhnaaDV
namespace Go
open Go.RowKit Go.Shelf Go.Proofs.Ytmppiiamcpjhnaa
section
variable {P : Program}
/-- A row is copied to nothing, in a drawn statement. -/
theorem relCopy {w : World} {rels : List (Tmp × Nat)} {cv : Tmp → Value} {F : Nat → Value → World → Prop} {i : Nat} {o : Oper} {g : Nat → Value} {u : KeptW w} (s x : Operand) (t : TypeId)
    (ho : o.op = .call { callee := .builtin .append, args := #[s, x], argTypes := #[t, t] }) (hs : evalBy (rhoT rels cv g) s = .slice none 0 0)
    (e : TypeId) (ti : TypeInfo) (z : Value) (ht : P.underlying t = some (.slice e)) (hi : P.info? e = some ti) (hz : ti.zero = some z) (h1s : ti.size = 1) (h8 : ti.bytes = 8) (hzs : z.cells.size = 1)
    (row : List Int) (v : Value) (hx : evalBy (rhoT rels cv g) x = v) (Br : Nat) (hrow : RowIs intR e Br row v u.w) (hlen : row.length ≤ 1000)
    (hrel : ∀ d, o.dst = some d → relOf rels d ≠ none) (hF : ∀ v' w', w'.ownsRow u.w.heap.size e 1 v' row.length (flatR intR row) → F i v' w') :
    Yield P (fun v w' => Below u.w.heap.size u.w w' ∧ F i v w' ∧ ∀ d, o.dst = some d → relOf rels d = none → v = cv d) ((execOp (evalBy (rhoT rels cv g)) o).run P u.w) := by
  have hfl : ∀ l : List Int, (flatR intR l).length = l.length := fun l => by
    induction l with
    | nil => rfl
    | cons x l ih =>
      show ([Value.int .i64 x] ++ flatR intR l).length = _
      rw [List.length_append, ih, List.length_cons]
      show 1 + l.length = l.length + 1
      omega
  rcases hrow with ⟨rfl, rfl⟩ | ⟨b, c, rfl, hb1, hb2, cs, hb3, hb4⟩
  · have hr2 := run_append_nothing (P := P) u.w t t o.type e ti ht hi none 0 0 (Nat.le_refl _) (.slice none 0 0) (Src.ofNil _ ht 0)
    have he : (execOp (evalBy (rhoT rels cv g)) o).run P u.w = .ok (.value (.slice none 0 0)) u.w := by
      unfold execOp
      simp only [ho, resolve, invoke, builtin, Sem.run_bind, Sem.run_pure, Result.andThen_ok, List.map_toArray, List.map_cons, List.map_nil, hs, hx, hr2]
    rw [he]
    exact ⟨Below.refl _ _, hF _ _ (World.ownsRow_nil _ _ _ _), fun d hd hn => absurd hn (hrel d hd)⟩
  · have hone : ∀ u' ∈ flatR intR row, u'.oneCell' = true := fun u' hu => by
      obtain ⟨r, hr, hu⟩ := List.mem_flatten.1 hu
      obtain ⟨x, _, rfl⟩ := List.mem_map.1 hr
      simp only [intR, List.mem_cons, List.not_mem_nil, or_false] at hu
      rw [hu]
      rfl
    exact relApp s x t ho hs e ti z 1 8 ht hi hz h1s h8 hzs (by decide) ⟨b, 0, none⟩ row.length c (flatR intR row) hx (by rw [hfl]; omega) (fun j u' hj => by
      rw [addr_add, Nat.zero_add, cell_of_row u.w b j _ e (0, 0) hb3]
      exact hb4 j u' hj) hone (by unfold maxLen; omega) (by omega) hrel hF
end
end Go
namespace Go.Proofs.Ytmppiiamcpjhnaa
open Go.RowKit Go.Shelf

theorem flat_find {α β : Type} {p : β → Bool} {g : α → List β} : ∀ {l : List α} {i : Nat} {x : α} {o : β}, l[i]? = some x → (∀ j y, j < i → l[j]? = some y → (g y).find? p = none) → (g x).find? p = some o → (l.flatMap g).find? p = some o
  | [], i, x, o, h, _, _ => by simp at h
  | a :: l, 0, x, o, h, _, h1 => by
    simp only [List.getElem?_cons_zero, Option.some.injEq] at h
    subst h
    rw [List.flatMap_cons, List.find?_append, h1]
    rfl
  | a :: l, i + 1, x, o, h, h0, h1 => by
    rw [List.flatMap_cons, List.find?_append, h0 0 a (Nat.zero_lt_succ _) rfl, Option.none_or]
    exact flat_find (by simpa using h) (fun j y hj hy => h0 (j + 1) y (by omega) (by simpa using hy)) h1
theorem flat_none {α β : Type} {p : β → Bool} {g : α → List β} {l : List α} (h : ∀ (j : Nat) y, l[j]? = some y → (g y).find? p = none) : (l.flatMap g).find? p = none := by
  rw [List.find?_eq_none]
  intro b hb
  obtain ⟨y, hy, hb⟩ := List.mem_flatMap.1 hb
  obtain ⟨j, hj⟩ := List.getElem?_of_mem hy
  exact List.find?_eq_none.1 (h j y hj) b hb
/-- What is asked of an order and the others: bought, and each once. -/
structure OrdX (bo L : List Int) : Prop where
  mem : ∀ x ∈ L, x ∈ bo
  nd : L.Nodup
  l6 : L.length ≤ 6
theorem OrdX.perm {bo L L' : List Int} (h : OrdX bo L) (hp : L'.Perm L) : OrdX bo L' := ⟨fun x hx => h.mem x (hp.mem_iff.1 hx), hp.nodup_iff.2 h.nd, by rw [hp.length_eq]; exact h.l6⟩
theorem ord_of {bo L : List Int} (h : OrdX bo L) : ordB bo L = true := ordB_iff.2 fun i x hx => ⟨h.mem x (List.mem_of_getElem? hx), fun hm => by
  obtain ⟨j, hj, he⟩ := List.mem_take_iff_getElem.1 hm
  obtain ⟨hi, hxe⟩ := List.getElem?_eq_some_iff.1 hx
  have hji : j < i := by omega
  have hnd := List.pairwise_iff_getElem.1 h.nd j i (by omega) hi hji
  exact hnd (he.trans hxe.symm)⟩
theorem sit_without {r x : Nat} (hr : r < 2 ^ 10) (hx : x < 10) : remL (sitZ (r : Int)) [(x : Int)] = sitZ ((dropS r (2 ^ x) : Nat) : Int) := by
  have hp : 2 ^ x < 2 ^ 10 := Nat.pow_lt_pow_right (by decide) hx
  unfold remL sitZ
  rw [sit_rem hr hp, List.filter_map]
  congr 1
  refine List.filter_congr fun k _ => ?_
  rw [Nat.testBit_two_pow]
  have e : (Int.ofNat k = (x : Int)) ↔ x = k := by rw [Int.ofNat_eq_natCast]; omega
  show (!decide (Int.ofNat k ∈ [(x : Int)])) = !decide (x = k)
  congr 1
  rw [decide_eq_decide, List.mem_singleton]
  exact e
theorem sit_split {r x i : Nat} (hr : r < 2 ^ 10) (hx : (sitZ (r : Int))[i]? = some (x : Int)) (beg : List Int) : x ∈ sitL (r : Int) ∧ x < 10 ∧ ((beg ++ [(x : Int)]) ++ sitZ ((dropS r (2 ^ x) : Nat) : Int)).Perm (beg ++ sitZ (r : Int)) := by
  have hm := List.mem_of_getElem? hx
  have hxl : x ∈ sitL (r : Int) := by
    obtain ⟨k, hk, e⟩ := List.mem_map.1 hm
    have : k = x := by rw [Int.ofNat_eq_natCast] at e; omega
    rw [← this]; exact hk
  have hx10 := (mem_sit.1 hxl).1
  refine ⟨hxl, hx10, ?_⟩
  rw [List.append_assoc]
  refine List.Perm.append_left beg ?_
  rw [← sit_without hr hx10]
  have hnd : (sitZ (r : Int)).Nodup := by
    unfold sitZ
    rw [List.nodup_iff_pairwise_ne, List.pairwise_map]
    exact (sit_nodup _).imp fun h e => h (Int.ofNat.inj e)
  refine (List.perm_ext_iff_of_nodup ?_ hnd).2 fun y => ?_
  · refine List.nodup_cons.2 ⟨fun h => ?_, hnd.sublist List.filter_sublist⟩
    have := (List.mem_filter.1 h).2
    simp at this
  · unfold remL
    rw [List.mem_append, List.mem_singleton, List.mem_filter]
    constructor
    · rintro (rfl | ⟨h, _⟩)
      · exact hm
      · exact h
    · intro h
      by_cases e : y = (x : Int)
      · exact .inl e
      · exact .inr ⟨h, by simp [e]⟩
/-- The first good order that begins so. -/
def fndO (T : Tn) (bo : List Int) (m r : Nat) (beg : List Int) : Option (List Int) := ((ordsF m r).map fun o => beg ++ o).find? (goodB T (setI bo))
theorem fnd_leaf {T : Tn} {bo beg : List Int} {m r : Nat} (h : r = 0) : fndO T bo m r beg = if goodB T (setI bo) beg then some beg else none := by
  unfold fndO
  rw [h, ords_zero]
  simp only [List.map_cons, List.map_nil, List.append_nil, List.find?_cons, List.find?_nil]
  cases goodB T (setI bo) beg <;> rfl
theorem fnd_found {T : Tn} {bo beg o : List Int} {m r i x : Nat} (hr0 : r ≠ 0) (hx : (sitL (r : Int))[i]? = some x) (h0 : ∀ j y, j < i → (sitL (r : Int))[j]? = some y → fndO T bo m (dropS r (2 ^ y)) (beg ++ [(y : Int)]) = none) (h1 : fndO T bo m (dropS r (2 ^ x)) (beg ++ [(x : Int)]) = some o) : fndO T bo (m + 1) r beg = some o := by
  unfold fndO at *
  rw [ords_succ hr0]
  exact flat_find hx h0 h1
theorem fnd_none {T : Tn} {bo beg : List Int} {m r : Nat} (hr0 : r ≠ 0) (h0 : ∀ (j y : Nat), (sitL (r : Int))[j]? = some y → fndO T bo m (dropS r (2 ^ y)) (beg ++ [(y : Int)]) = none) : fndO T bo (m + 1) r beg = none := by
  unfold fndO at *
  rw [ords_succ hr0]
  exact flat_none h0
theorem part_any {w : World} {B : Nat} {A : Option Addr} {cs : List Int} {n c i : Nat} {x : Int} (hA : IntsAt w B A cs) (hl : cs.length = n) (hx : cs[i]? = some x) (hc : n ≤ c) :
    ∃ A', (∀ W : World, (Instr.slice 26 (.slice A n c) (some (.int .i64 (i : Int))) (some (.int .i64 ((i : Int) + 1))) none).run Try.prog W = .ok (.slice A' 1 (c - i)) W) ∧ IntsAt w B A' [x] := by
  have hin := (List.getElem?_eq_some_iff.1 hx).1
  obtain ⟨b, o, rfl, h1, h2⟩ := hA (fun e => by rw [e] at hx; simp at hx)
  refine ⟨some ⟨b, o + i, none⟩, fun W => ?_, fun _ => ⟨b, o + i, rfl, h1, fun j y hy k v hv => ?_⟩⟩
  · have h0 : (0 : Int) ≤ (i : Int) := by omega
    have h3 : (i : Int) ≤ (i : Int) + 1 := by omega
    have h4 : (i : Int) + 1 ≤ (c : Int) := by omega
    have h5 := run_slice_lh (P := Try.prog) (w := W) (t := 26) (a := some ⟨b, o, none⟩) (len := n) (cap := c) elem26 .i64 .i64 (i : Int) ((i : Int) + 1) h0 h3 h4
    have e1 : ((i : Int) + 1 - (i : Int)).toNat = 1 := by omega
    have e2 : ((i : Int) + 1).toNat - (i : Int).toNat = 1 := by omega
    have e3 : ((i : Int)).toNat = i := by omega
    have e4 : ¬ c = i := by omega
    have e5 : ((i : Int) + 1).toNat = i + 1 := by omega
    rw [h5, size26]
    simp [Result.andThen, sliced, addr_add, e3, e4, e5]
  · match j, hy with
    | 0, hy =>
      simp only [List.getElem?_cons_zero, Option.some.injEq] at hy
      subst hy
      have := h2 i x hx k v hv
      rw [show o + i + 0 * 1 + k = o + i * 1 + k by omega]
      exact this
    | j + 1, hy => simp at hy
end Go.Proofs.Ytmppiiamcpjhnaa
