/- Pipes: ways that take longer: the loop of the statement, cut out. -/
import Derived.Test.YticmeeinjkoodaaSB
import Derived.Test.YticmeeinjkoodaaRP
import Derived.Lib.MinMax
namespace Go.Proofs.Yticmeeinjkoodaa
open Go.RowKit Go.Shelf
def loopsOfM : Code → List Code
  | .loop c => c :: loopsOfM c
  | .seq a b => loopsOfM a ++ loopsOfM b
  | .block _ c => loopsOfM c
  | .scope c => loopsOfM c
  | .cond _ a b => loopsOfM a ++ loopsOfM b
  | _ => []
/-- The first ways of a row take longer. -/
def rowM (L : Nat) (m : Int) (row : List Int) (k : Nat) (cur : Array Value) : Prop := ∀ (i : Nat) (x : Int), row[i]? = some x → cur[i]? = some (.int .i64 (if i < k ∧ i ≠ L then min 72 (x + m) else x))
theorem rowM_skip {L : Nat} {m : Int} {row : List Int} {cur : Array Value} (h : rowM L m row L cur) : rowM L m row (L + 1) cur := fun i x hx => by
  rw [h i x hx]
  by_cases hi : i < L
  · rw [if_pos ⟨hi, by omega⟩, if_pos ⟨by omega, by omega⟩]
  · rw [if_neg (fun q => hi q.1)]
    by_cases hi2 : i < L + 1
    · rw [if_neg (fun q => q.2 (by omega))]
    · rw [if_neg (fun q => hi2 q.1)]
theorem rowM_put {L : Nat} {m : Int} {row : List Int} {k : Nat} {cur : Array Value} {x : Int} (h : rowM L m row k cur) (hkL : k ≠ L) (hx : row[k]? = some x) {y : Int} (hy : min 72 (x + m) = y) : rowM L m row (k + 1) (cur.setIfInBounds k (.int .i64 y)) := fun i z hz => by
  have hk := (Array.getElem?_eq_some_iff.1 (h k x hx)).1
  rw [Array.getElem?_setIfInBounds]
  by_cases hik : k = i
  · subst hik
    rw [hx] at hz
    injection hz with hz
    subst hz
    rw [if_pos rfl, if_pos hk, if_pos ⟨by omega, hkL⟩, hy]
  · rw [if_neg hik, h i z hz]
    by_cases h1 : i < k
    · by_cases h2 : i ≠ L
      · rw [if_pos ⟨h1, h2⟩, if_pos ⟨by omega, h2⟩]
      · rw [if_neg (fun q => h2 q.2), if_neg (fun q => h2 q.2)]
    · rw [if_neg (fun q => h1 q.1), if_neg (fun q => h1 (by omega))]
set_option maxRecDepth 1000000 in
noncomputable def bodyMO : Code := ((Try.f15.body.map loopsOfM).getD []).getD 0 .skip
set_option maxRecDepth 1000000 in
set_option maxHeartbeats 40000000 in
theorem loopMO (L : Nat) (m : Int) (row : List Int) (X g2 g3 : Nat) (xs xf : Value) (nw cc2 nr cc3 : Nat) (cur2 : Array Value) (v : World) (hL : L < nw) (hr : row.length = nr) (hnr : nr ≤ 6) (hrow : ∀ x ∈ row, 0 ≤ x ∧ x ≤ 72) (hm : 0 ≤ m ∧ m ≤ 72) (h2X : X < g2) (h23 : g2 < g3) (zX : v.heap[X]? = some (.cells #[xs, xf, .slice (some ⟨g2, 0, none⟩) nw cc2] 26 (0, 0))) (z2 : v.heap[g2]? = some (.cells cur2 57 (0, 0))) (hc : cur2[L]? = some (.slice (some ⟨g3, 0, none⟩) nr cc3)) (z3 : ∃ cur, v.heap[g3]? = some (.cells cur 3 (0, 0)) ∧ rowM L m row 0 cur)
    {Q : Exit → Act → World → Prop} {c0 c1 c2 c5 c6 c7 c8 c9 c10 c11 c12 c15 c16 c17 c18 c19 c20 c21 c22 c23 c24 c25 c26 c27 c28 c29 c30 c31 c32 c33 c34 c35 c36 c37 c38 c39 c40 c41 c42 c43 c44 c45 c46 c47 c48 c49 c50 c51 c52 c53 c54 c55 c56 c57 c58 c59 c60 c61 c62 c63 c64 c65 c66 c67 c68 c69 c70 c71 c72 c73 c74 c75 c76 c77 c78 c79 c80 c81 c82 c83 c84 c85 c86 c87 c88 c89 c90 c91 c92 c93 c94 c95 c96 c97 c98 c99 c100 c101 c102 c103 c104 c105 c106 c107 c108 c109 c110 c111 c143 c144 c145 c146 c147 c148 c149 c150 c151 c152 c153 c154 c155 c156 c157 c158 c159 c160 c161 c162 c163 c164 c165 c166 c167 c168 c169 c170 c171 c172 c173 c174 c175 c176 c177 c178 c179 c180 c181 c182 c183 c184 c185 c186 c187 c188 c189 c190 c191 c192 c193 c194 c195 c196 c197 c198 c199 c200 c201 c202 c203 c204 c205 c206 c207 c208 c209 c210 c211 c212 c213 c214 c215 c216 c217 c218 c219 c220 c221 c222 c223 c224 c225 c226 c227 c228 c229 c230 c231 c232 c233 c234 c235 c236 c237 c238 c239 c240 c241 c242 c243 c244 c245 c246 c247 c248 c249 c250 c251 c252 c253 c254 c255 c256 c257 c258 c259 c260 c261 c262 c263 c264 c265 c266 c267 u112 u113 u114 u115 u116 u117 u118 u119 u120 u121 u122 u123 u124 u125 u126 u127 u128 u129 u130 u131 u132 u133 u134 u135 u136 u137 u138 u139 u140 u141 u142 : Value}
    (hexit : ∀ (w' : World) (e14 e112 e113 e114 e115 e116 e117 e118 e119 e120 e121 e122 e123 e124 e125 e126 e127 e128 e129 e130 e131 e132 e133 e134 e135 e136 e137 e138 e139 e140 e141 e142 : Value), Below g3 v w' → (∃ cur, w'.heap[g3]? = some (.cells cur 3 (0, 0)) ∧ rowM L m row nr cur) → Q (.exit 0) ⟨List.toArray (c0 :: c1 :: c2 :: .int .i64 (L : Int) :: .int .i64 m :: c5 :: c6 :: c7 :: c8 :: c9 :: c10 :: c11 :: c12 :: .pointer (some ⟨X, 0, none⟩) :: e14 :: c15 :: c16 :: c17 :: c18 :: c19 :: c20 :: c21 :: c22 :: c23 :: c24 :: c25 :: c26 :: c27 :: c28 :: c29 :: c30 :: c31 :: c32 :: c33 :: c34 :: c35 :: c36 :: c37 :: c38 :: c39 :: c40 :: c41 :: c42 :: c43 :: c44 :: c45 :: c46 :: c47 :: c48 :: c49 :: c50 :: c51 :: c52 :: c53 :: c54 :: c55 :: c56 :: c57 :: c58 :: c59 :: c60 :: c61 :: c62 :: c63 :: c64 :: c65 :: c66 :: c67 :: c68 :: c69 :: c70 :: c71 :: c72 :: c73 :: c74 :: c75 :: c76 :: c77 :: c78 :: c79 :: c80 :: c81 :: c82 :: c83 :: c84 :: c85 :: c86 :: c87 :: c88 :: c89 :: c90 :: c91 :: c92 :: c93 :: c94 :: c95 :: c96 :: c97 :: c98 :: c99 :: c100 :: c101 :: c102 :: c103 :: c104 :: c105 :: c106 :: c107 :: c108 :: c109 :: c110 :: c111 :: e112 :: e113 :: e114 :: e115 :: e116 :: e117 :: e118 :: e119 :: e120 :: e121 :: e122 :: e123 :: e124 :: e125 :: e126 :: e127 :: e128 :: e129 :: e130 :: e131 :: e132 :: e133 :: e134 :: e135 :: e136 :: e137 :: e138 :: e139 :: e140 :: e141 :: e142 :: c143 :: c144 :: c145 :: c146 :: c147 :: c148 :: c149 :: c150 :: c151 :: c152 :: c153 :: c154 :: c155 :: c156 :: c157 :: c158 :: c159 :: c160 :: c161 :: c162 :: c163 :: c164 :: c165 :: c166 :: c167 :: c168 :: c169 :: c170 :: c171 :: c172 :: c173 :: c174 :: c175 :: c176 :: c177 :: c178 :: c179 :: c180 :: c181 :: c182 :: c183 :: c184 :: c185 :: c186 :: c187 :: c188 :: c189 :: c190 :: c191 :: c192 :: c193 :: c194 :: c195 :: c196 :: c197 :: c198 :: c199 :: c200 :: c201 :: c202 :: c203 :: c204 :: c205 :: c206 :: c207 :: c208 :: c209 :: c210 :: c211 :: c212 :: c213 :: c214 :: c215 :: c216 :: c217 :: c218 :: c219 :: c220 :: c221 :: c222 :: c223 :: c224 :: c225 :: c226 :: c227 :: c228 :: c229 :: c230 :: c231 :: c232 :: c233 :: c234 :: c235 :: c236 :: c237 :: c238 :: c239 :: c240 :: c241 :: c242 :: c243 :: c244 :: c245 :: c246 :: c247 :: c248 :: c249 :: c250 :: c251 :: c252 :: c253 :: c254 :: c255 :: c256 :: c257 :: c258 :: c259 :: c260 :: c261 :: c262 :: c263 :: c264 :: c265 :: c266 :: c267 :: []), []⟩ w') :
    Code.wp Try.prog (Code.loop bodyMO) Q ⟨List.toArray (c0 :: c1 :: c2 :: .int .i64 (L : Int) :: .int .i64 m :: c5 :: c6 :: c7 :: c8 :: c9 :: c10 :: c11 :: c12 :: .pointer (some ⟨X, 0, none⟩) :: .int .i64 0 :: c15 :: c16 :: c17 :: c18 :: c19 :: c20 :: c21 :: c22 :: c23 :: c24 :: c25 :: c26 :: c27 :: c28 :: c29 :: c30 :: c31 :: c32 :: c33 :: c34 :: c35 :: c36 :: c37 :: c38 :: c39 :: c40 :: c41 :: c42 :: c43 :: c44 :: c45 :: c46 :: c47 :: c48 :: c49 :: c50 :: c51 :: c52 :: c53 :: c54 :: c55 :: c56 :: c57 :: c58 :: c59 :: c60 :: c61 :: c62 :: c63 :: c64 :: c65 :: c66 :: c67 :: c68 :: c69 :: c70 :: c71 :: c72 :: c73 :: c74 :: c75 :: c76 :: c77 :: c78 :: c79 :: c80 :: c81 :: c82 :: c83 :: c84 :: c85 :: c86 :: c87 :: c88 :: c89 :: c90 :: c91 :: c92 :: c93 :: c94 :: c95 :: c96 :: c97 :: c98 :: c99 :: c100 :: c101 :: c102 :: c103 :: c104 :: c105 :: c106 :: c107 :: c108 :: c109 :: c110 :: c111 :: u112 :: u113 :: u114 :: u115 :: u116 :: u117 :: u118 :: u119 :: u120 :: u121 :: u122 :: u123 :: u124 :: u125 :: u126 :: u127 :: u128 :: u129 :: u130 :: u131 :: u132 :: u133 :: u134 :: u135 :: u136 :: u137 :: u138 :: u139 :: u140 :: u141 :: u142 :: c143 :: c144 :: c145 :: c146 :: c147 :: c148 :: c149 :: c150 :: c151 :: c152 :: c153 :: c154 :: c155 :: c156 :: c157 :: c158 :: c159 :: c160 :: c161 :: c162 :: c163 :: c164 :: c165 :: c166 :: c167 :: c168 :: c169 :: c170 :: c171 :: c172 :: c173 :: c174 :: c175 :: c176 :: c177 :: c178 :: c179 :: c180 :: c181 :: c182 :: c183 :: c184 :: c185 :: c186 :: c187 :: c188 :: c189 :: c190 :: c191 :: c192 :: c193 :: c194 :: c195 :: c196 :: c197 :: c198 :: c199 :: c200 :: c201 :: c202 :: c203 :: c204 :: c205 :: c206 :: c207 :: c208 :: c209 :: c210 :: c211 :: c212 :: c213 :: c214 :: c215 :: c216 :: c217 :: c218 :: c219 :: c220 :: c221 :: c222 :: c223 :: c224 :: c225 :: c226 :: c227 :: c228 :: c229 :: c230 :: c231 :: c232 :: c233 :: c234 :: c235 :: c236 :: c237 :: c238 :: c239 :: c240 :: c241 :: c242 :: c243 :: c244 :: c245 :: c246 :: c247 :: c248 :: c249 :: c250 :: c251 :: c252 :: c253 :: c254 :: c255 :: c256 :: c257 :: c258 :: c259 :: c260 :: c261 :: c262 :: c263 :: c264 :: c265 :: c266 :: c267 :: []), []⟩ v := by
  have HL := Lib.hid hL; have HR := Lib.hid hr; have HROW := Lib.hid hrow; have HX := Lib.hid zX; have HZ2 := Lib.hid z2; have HC2 := Lib.hid hc; have HEX := Lib.hid hexit; have H2X := Lib.hid h2X; have H23 := Lib.hid h23; have HZ3 := Lib.hid z3
  have l0 : (0 : Int) ≤ (L : Int) := by omega
  have l1 : (L : Int) < (nw : Int) := by omega
  clear hL hr hrow zX z2 hc hexit z3
  conv => arg 2; arg 1; whnf
  go_loopw [14] (fun kk wr => ∃ k : Nat, k ≤ nr ∧ kk = .int .i64 k ∧ (∃ cur, wr.heap[g3]? = some (.cells cur 3 (0, 0)) ∧ rowM L m row k cur) ∧ Below g3 v wr) (fun kk _ => nr - (intOf kk).toNat)
  case atStart => exact ⟨0, by omega, rfl, HZ3.out, Below.refl _ _⟩
  case round =>
    obtain ⟨k, hk, rfl, ⟨cur, hcur, hrm⟩, hbr⟩ := hrel
    have HBR := Lib.hid hbr; have HCUR := Lib.hid hcur; have HRM := Lib.hid hrm
    have HXr := Lib.hid ((hbr.block X (by omega)).trans HX.out)
    have HZ2r := Lib.hid ((hbr.block g2 (by omega)).trans HZ2.out)
    have HQ : Hid (∀ u : World, Below wr.heap.size wr u → u.cell? ⟨X, 2, none⟩ = some (.slice (some ⟨g2, 0, none⟩) nw cc2) ∧ u.cell? ⟨g2, L, none⟩ = some (.slice (some ⟨g3, 0, none⟩) nr cc3)) := Lib.hid fun u hu => by
      have h1 := (box3_cells ((hu.block _ (heapsz HXr.out)).trans HXr.out)).2.2
      have h2 := (hu.block _ (heapsz HZ2r.out)).trans HZ2r.out
      exact ⟨h1, by rw [cell_of_row u g2 L _ 57 (0, 0) h2]; exact HC2.out⟩
    obtain ⟨s0, s1⟩ := HQ.out wr (Below.refl _ _)
    clear hbr hcur hrm
    by_cases hlt : k < nr
    · have k3 : (0 : Int) ≤ (k : Int) := by omega
      have k4 : (k : Int) < (nr : Int) := by omega
      by_cases hkL : k = L
      · subst hkL
        have HR2 : Hid (rowM k m row (k + 1) cur) := Lib.hid (rowM_skip HRM.out)
        go_wp2_with fail
        exact ⟨⟨k + 1, by omega, rfl, ⟨cur, HCUR.out, HR2.out⟩, HBR.out⟩, by simp [intOf]; omega⟩
      · have hkL2 : ¬ (k : Int) = (L : Int) := by omega
        obtain ⟨x, hx⟩ := get_of_lt (l := row) (k := k) (by rw [HR.out]; exact hlt)
        have hx3 := HROW.out x (List.mem_of_getElem? hx)
        have hcx : cur[k]? = some (.int .i64 x) := by rw [HRM.out k x hx, if_neg (fun q => by omega)]
        obtain ⟨y, hy⟩ : ∃ z, min 72 (x + m) = z := ⟨_, rfl⟩
        have HR2 := Lib.hid (rowM_put HRM.out hkL hx hy)
        have e1 : wrap64 (x + m) = x + m := w64 (by omega)
        have HG3 : Hid (∀ u : World, Below wr.heap.size wr u → u.heap[g3]? = some (.cells cur 3 (0, 0))) := Lib.hid fun u hu => (hu.block _ (heapsz HCUR.out)).trans HCUR.out
        have HCX := Lib.hid hcx
        have p2 := fun u : KeptW wr => (HQ.out u.w u.h).1
        have p3 := fun u : KeptW wr => (HQ.out u.w u.h).2
        have p4 : ∀ u : KeptW wr, u.w.cell? ⟨g3, k, none⟩ = some (.int .i64 x) := fun u => by rw [cell_of_row u.w g3 k _ 3 (0, 0) (HG3.out u.w u.h)]; exact HCX.out
        clear hx hcx hkL
        go_wp2_with fail
        apply rk_tailX (C := fun w' => ∃ u : KeptW wr, w' = u.w)
        case hs => exact (rfl : _ = [_, _, _, _, _, _, _, _, _, _, _, _, _, _, _, _, _, _] ++ [_])
        case hm => kernel_rfl
        case hB => kernel_rfl
        case hT => kernel_rfl
        case hC => exact ⟨⟨wr.drew, (Below.refl wr.heap.size wr).drew⟩, rfl⟩
        repeat (go_big_quiet_step (fail))
        refine wpQuiet_nil ?_
        rintro _ ⟨uu, rfl⟩
        have hg3 := HG3.out uu.w uu.h
        have f0 : uu.w.frozen? ⟨g3, k, none⟩ = false := by simp [World.frozen?, hg3]
        have c0 := p4 uu
        have HN : Hid ((uu.w.setCell ⟨g3, k, none⟩ (.int .i64 y)).heap[g3]? = some (.cells (cur.setIfInBounds k (.int .i64 y)) 3 (0, 0))) := Lib.hid (blk_set hg3 k _)
        have HBN : Hid (Below g3 v (uu.w.setCell ⟨g3, k, none⟩ (.int .i64 y))) := Lib.hid ((HBR.out.trans (uu.h.mono (Nat.le_of_lt (heapsz HCUR.out)))).setCell (p := ⟨g3, k, none⟩) (Nat.le_refl _) _)
        clear p2 p3 p4 s0 s1
        unfold Oper.wp
        simp [go_sem, c0, f0]
        clear c0 f0 hg3
        generalize uu.w.setCell ⟨g3, k, none⟩ (.int .i64 y) = w3 at HN HBN ⊢
        go_wp2_with fail
        exact ⟨⟨k + 1, by omega, rfl, ⟨_, HN.out, HR2.out⟩, HBN.out⟩, by simp [intOf]; omega⟩
    · obtain rfl : nr = k := by omega
      have k4 : ¬ (nr : Int) < (nr : Int) := by omega
      go_wp2_with fail
      exact HEX.out wr _ _ _ _ _ _ _ _ _ _ _ _ _ _ _ _ _ _ _ _ _ _ _ _ _ _ _ _ _ _ _ _ HBR.out ⟨cur, HCUR.out, HRM.out⟩
end Go.Proofs.Yticmeeinjkoodaa
