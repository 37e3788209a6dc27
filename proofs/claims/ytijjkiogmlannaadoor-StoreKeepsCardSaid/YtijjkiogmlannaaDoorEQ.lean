/- Stores: the law of goods: the loops of the statement, cut out. -/
import Derived.Test.YtijjkiogmlannaaDoorEK
namespace Go.Proofs.YtijjkiogmlannaaDoor
open Go.RowKit

structure KC where
  X : SX
  zb : Nat
  xb : Nat
  D : Nat
  A2 : Option Addr
  c2 : Nat
  A3 : Option Addr
  c3 : Nat
  m : Nat
  ii : Nat
  nn : Nat
  ice : List Bool
  win : List Gd
  mw : Nat
  mi : Nat
/-- What stays true while the statement looks at a run. -/
structure KIn (C : KC) (w : World) : Prop where
  X : C.X.In w
  K : C.X.S.Ok
  z : w.heap[C.zb]? = some (.cells C.X.cells 28 (0, 0))
  x : w.heap[C.xb]? = some (.cells #[.slice (some ⟨C.D, 0, none⟩) C.X.ns C.X.ns, .slice C.A2 C.mw C.c2, .slice C.A3 C.mw C.c3] 35 (0, 0))
  ld : GdsAt w w.heap.size (some ⟨C.D, 0, none⟩) (C.X.S.run C.m C.ice C.win).ld
  st : GdsAt w w.heap.size C.A2 (C.X.S.run C.m C.ice C.win).stocks
  la : GdsAt w w.heap.size C.A3 (C.X.S.run C.m C.ice C.win).lacks
  hi : C.ii < C.X.ni
  hn : C.nn < C.X.nw
  hm : C.m ≤ 1000000
  hmw : C.X.S.weeks = (C.mw : Int)
  hmi : C.X.S.land = (C.mi : Int)
  hice : C.X.S.ices.getD C.ii [] = C.ice
  hwin : C.X.S.wins.getD C.nn [] = C.win
theorem KIn.up {C : KC} {w w' : World} (h : KIn C w) (hb : Below w.heap.size w w') : KIn C w' :=
  ⟨h.X.up hb, h.K, (hb.block _ (heapsz h.z)).trans h.z, (hb.block _ (heapsz h.x)).trans h.x, RowAt.up (k := 3) (R := gR) h.ld hb, RowAt.up (k := 3) (R := gR) h.st hb, RowAt.up (k := 3) (R := gR) h.la hb, h.hi, h.hn, h.hm, h.hmw, h.hmi, h.hice, h.hwin⟩
theorem KIn.icel {C : KC} {w : World} (h : KIn C w) : C.ice.length = C.mi := by
  obtain ⟨x, hx⟩ := get_of_lt (l := C.X.S.ices) (k := C.ii) (by rw [h.X.hi]; exact h.hi)
  have e : x = C.ice := by rw [← h.hice, List.getD_eq_getElem?_getD, hx]; rfl
  have := h.K.ices x (List.mem_of_getElem? hx)
  have h2 := h.hmi
  rw [e] at this
  omega
theorem KIn.winl {C : KC} {w : World} (h : KIn C w) : C.win.length = C.mw ∧ ∀ g ∈ C.win, amtB 1000 g = true := by
  obtain ⟨x, hx⟩ := get_of_lt (l := C.X.S.wins) (k := C.nn) (by rw [h.X.hw]; exact h.hn)
  have e : x = C.win := by rw [← h.hwin, List.getD_eq_getElem?_getD, hx]; rfl
  obtain ⟨h1, h3⟩ := h.K.wins x (List.mem_of_getElem? hx)
  have h2 := h.hmw
  rw [e] at h1 h3
  exact ⟨by omega, h3⟩
/-- The ice's list, and one week of it. -/
theorem KIn.ice {C : KC} {w : World} (h : KIn C w) : ∃ bi oi A4 c4, C.X.AI = some ⟨bi, oi, none⟩ ∧ w.cell? ⟨bi, oi + C.ii, none⟩ = some (.slice A4 C.mi c4) ∧ ∀ t x, C.ice[t]? = some x → ∃ b o, A4 = some ⟨b, o, none⟩ ∧ w.cell? ⟨b, o + t, none⟩ = some (.bool x) := by
  obtain ⟨x, hx⟩ := get_of_lt (l := C.X.S.ices) (k := C.ii) (by rw [h.X.hi]; exact h.hi)
  have e : x = C.ice := by rw [← h.hice, List.getD_eq_getElem?_getD, hx]; rfl
  obtain ⟨bi, oi, A4, mi, c4, hA, hbi, hmi, d1, pI, _⟩ := grid_row h.X.I hx
  rw [e, h.icel] at hmi
  subst hmi
  refine ⟨bi, oi, A4, c4, hA, d1, fun t y hy => ?_⟩
  obtain ⟨b, o, rfl, hb, c0⟩ := bls_el pI (by rw [e]; exact hy)
  exact ⟨b, o, rfl, c0⟩
theorem KIn.win {C : KC} {w : World} (h : KIn C w) : ∃ bw ow A5 c5, C.X.AW = some ⟨bw, ow, none⟩ ∧ w.cell? ⟨bw, ow + C.nn, none⟩ = some (.slice A5 C.mw c5) ∧ ∀ t g, C.win[t]? = some g → ∃ b o, A5 = some ⟨b, o, none⟩ ∧ ∀ k, k < 3 → w.cell? ⟨b, o + t * 3 + k, none⟩ = some (.int .i64 (g.at k)) := by
  obtain ⟨x, hx⟩ := get_of_lt (l := C.X.S.wins) (k := C.nn) (by rw [h.X.hw]; exact h.hn)
  have e : x = C.win := by rw [← h.hwin, List.getD_eq_getElem?_getD, hx]; rfl
  obtain ⟨bi, oi, A4, mi, c4, hA, hbi, hmi, d1, pI, _⟩ := grid_row h.X.W hx
  rw [e, h.winl.1] at hmi
  subst hmi
  refine ⟨bi, oi, A4, c4, hA, d1, fun t y hy => ?_⟩
  obtain ⟨b, o, rfl, hb, c0⟩ := gds_at pI (by rw [e]; exact hy)
  exact ⟨b, o, rfl, c0⟩
theorem KIn.cells {C : KC} {w : World} (h : KIn C w) : w.cell? ⟨C.xb, 0, none⟩ = some (.slice (some ⟨C.D, 0, none⟩) C.X.ns C.X.ns) ∧ w.cell? ⟨C.xb, 1, none⟩ = some (.slice C.A2 C.mw C.c2) ∧ w.cell? ⟨C.xb, 2, none⟩ = some (.slice C.A3 C.mw C.c3) := by
  have p := fun k => cell_of_row w C.xb k _ 35 (0, 0) h.x
  exact ⟨p 0, p 1, p 2⟩
theorem KIn.ldl {C : KC} {w : World} (h : KIn C w) : (C.X.S.run C.m C.ice C.win).ld.length = C.X.ns := by
  rw [← h.X.hs]; exact (keeps_ld h.K (p := C.m) (ice := C.ice) h.winl.2).1
theorem KIn.ship {C : KC} {w : World} (h : KIn C w) {j : Nat} (hj : j < C.X.ns) : ∃ bs os, C.X.AS = some ⟨bs, os, none⟩ ∧ ∀ k, k < 3 → w.cell? ⟨bs, os + j * 5 + 1 + k, none⟩ = some (.int .i64 ((C.X.S.cg j).at k)) := by
  obtain ⟨sh, hsh⟩ := get_of_lt (l := C.X.S.ships) (k := j) (by rw [h.X.hs]; exact hj)
  have hcs : C.X.S.cg j = sh.g := by unfold Sto.cg Sto.ship; rw [List.getD_eq_getElem?_getD, hsh]; rfl
  obtain ⟨bs, os, hAS, hbs, hsat⟩ := h.X.P (by intro e; rw [e] at hsh; simp at hsh)
  refine ⟨bs, os, hAS, fun k hk => ?_⟩
  rw [hcs, Nat.add_assoc (os + j * 5)]
  exact hsat j sh hsh (1 + k) _ (by rcases (show k = 0 ∨ k = 1 ∨ k = 2 by omega) with rfl | rfl | rfl <;> rfl)
set_option maxRecDepth 1000000 in
noncomputable def bodyKS : Code := ((Tryd.f4.body.map loopsIn).getD []).getD 2 .skip
set_option maxRecDepth 1000000 in
set_option maxHeartbeats 40000000 in
theorem loopKS (C : KC) (k : Nat) (hk : k < 3) (Lk Sk : Int) (hL : 0 ≤ Lk ∧ Lk ≤ 100000) (hS : 0 ≤ Sk ∧ Sk ≤ 1000) (v : World) (h : KIn C v)
    {Q : Exit → Act → World → Prop} {c0 c3 c5 c6 c7 c10 c12 c13 c18 c19 c20 c21 c22 c23 c24 c25 c26 c27 c28 c29 c30 c31 c32 c33 c34 c35 c36 c37 c38 c39 c40 c41 c42 c43 c44 c45 c46 c47 c48 c49 c50 c51 c52 c53 c54 c55 c56 c57 c58 c59 c60 c61 c62 c63 c64 c65 c66 c67 c68 c69 c70 c71 c72 c73 c74 c75 c76 c77 c78 c79 c80 c81 c82 c83 c84 c85 c86 c87 c88 c89 c90 c91 c92 c93 c94 c95 c96 c97 c98 c99 c100 c101 c102 c103 c104 c105 c106 c107 c108 c109 c161 c162 c163 c164 c165 c166 c167 c168 c169 c170 c171 c172 c173 c174 c175 c176 c177 c178 c179 c180 c181 c182 c183 c184 c185 c186 c187 c188 c189 c190 c191 c192 c193 c194 c195 c196 c197 c198 c199 c200 c201 c202 c203 c204 c205 c206 c207 c208 c209 c210 c211 c212 c213 c214 c215 c216 c217 c218 c219 c220 c221 c222 c223 c224 c225 c226 c227 c228 c229 c230 c231 c232 c233 c234 c235 c236 c237 c238 c239 c240 c241 c242 c243 c244 c245 c246 c247 c248 c249 c250 c251 c252 c253 c254 c255 c256 c257 c258 c259 c260 c261 c262 c263 c264 c265 c266 c267 c268 c269 c270 c271 c272 c273 c274 c275 c276 c277 u8 u17 u110 u111 u112 u113 u114 u115 u116 u117 u118 u119 u120 u121 u122 u123 u124 u125 u126 u127 u128 u129 u130 u131 u132 u133 u134 u135 u136 u137 u138 u139 u140 u141 u142 u143 u144 u145 u146 u147 u148 u149 u150 u151 u152 u153 u154 u155 u156 u157 u158 u159 u160 : Value}
    (hexit : ∀ (w' : World) (e8 e16 e17 e110 e111 e112 e113 e114 e115 e116 e117 e118 e119 e120 e121 e122 e123 e124 e125 e126 e127 e128 e129 e130 e131 e132 e133 e134 e135 e136 e137 e138 e139 e140 e141 e142 e143 e144 e145 e146 e147 e148 e149 e150 e151 e152 e153 e154 e155 e156 e157 e158 e159 e160 : Value), Below v.heap.size v w' → Q (.exit 4) ⟨List.toArray (c0 :: .int .i64 (C.m : Int) :: .int .i64 (C.ii : Int) :: c3 :: .pointer (some ⟨C.zb, 0, none⟩) :: c5 :: c6 :: c7 :: e8 :: .pointer (some ⟨C.xb, 0, none⟩) :: c10 :: .int .i64 (Lk + ldS2 (C.X.S.run C.m C.ice C.win).ld k C.X.ns) :: c12 :: c13 :: .int .i64 (k : Int) :: .int .i64 (Sk + ldS2 (C.X.S.run C.m C.ice C.win).ld k C.X.ns) :: e16 :: e17 :: c18 :: c19 :: c20 :: c21 :: c22 :: c23 :: c24 :: c25 :: c26 :: c27 :: c28 :: c29 :: c30 :: c31 :: c32 :: c33 :: c34 :: c35 :: c36 :: c37 :: c38 :: c39 :: c40 :: c41 :: c42 :: c43 :: c44 :: c45 :: c46 :: c47 :: c48 :: c49 :: c50 :: c51 :: c52 :: c53 :: c54 :: c55 :: c56 :: c57 :: c58 :: c59 :: c60 :: c61 :: c62 :: c63 :: c64 :: c65 :: c66 :: c67 :: c68 :: c69 :: c70 :: c71 :: c72 :: c73 :: c74 :: c75 :: c76 :: c77 :: c78 :: c79 :: c80 :: c81 :: c82 :: c83 :: c84 :: c85 :: c86 :: c87 :: c88 :: c89 :: c90 :: c91 :: c92 :: c93 :: c94 :: c95 :: c96 :: c97 :: c98 :: c99 :: c100 :: c101 :: c102 :: c103 :: c104 :: c105 :: c106 :: c107 :: c108 :: c109 :: e110 :: e111 :: e112 :: e113 :: e114 :: e115 :: e116 :: e117 :: e118 :: e119 :: e120 :: e121 :: e122 :: e123 :: e124 :: e125 :: e126 :: e127 :: e128 :: e129 :: e130 :: e131 :: e132 :: e133 :: e134 :: e135 :: e136 :: e137 :: e138 :: e139 :: e140 :: e141 :: e142 :: e143 :: e144 :: e145 :: e146 :: e147 :: e148 :: e149 :: e150 :: e151 :: e152 :: e153 :: e154 :: e155 :: e156 :: e157 :: e158 :: e159 :: e160 :: c161 :: c162 :: c163 :: c164 :: c165 :: c166 :: c167 :: c168 :: c169 :: c170 :: c171 :: c172 :: c173 :: c174 :: c175 :: c176 :: c177 :: c178 :: c179 :: c180 :: c181 :: c182 :: c183 :: c184 :: c185 :: c186 :: c187 :: c188 :: c189 :: c190 :: c191 :: c192 :: c193 :: c194 :: c195 :: c196 :: c197 :: c198 :: c199 :: c200 :: c201 :: c202 :: c203 :: c204 :: c205 :: c206 :: c207 :: c208 :: c209 :: c210 :: c211 :: c212 :: c213 :: c214 :: c215 :: c216 :: c217 :: c218 :: c219 :: c220 :: c221 :: c222 :: c223 :: c224 :: c225 :: c226 :: c227 :: c228 :: c229 :: c230 :: c231 :: c232 :: c233 :: c234 :: c235 :: c236 :: c237 :: c238 :: c239 :: c240 :: c241 :: c242 :: c243 :: c244 :: c245 :: c246 :: c247 :: c248 :: c249 :: c250 :: c251 :: c252 :: c253 :: c254 :: c255 :: c256 :: c257 :: c258 :: c259 :: c260 :: c261 :: c262 :: c263 :: c264 :: c265 :: c266 :: c267 :: c268 :: c269 :: c270 :: c271 :: c272 :: c273 :: c274 :: c275 :: c276 :: c277 :: []), []⟩ w') :
    Code.wp Tryd.prog (Code.loop bodyKS) Q ⟨List.toArray (c0 :: .int .i64 (C.m : Int) :: .int .i64 (C.ii : Int) :: c3 :: .pointer (some ⟨C.zb, 0, none⟩) :: c5 :: c6 :: c7 :: u8 :: .pointer (some ⟨C.xb, 0, none⟩) :: c10 :: .int .i64 Lk :: c12 :: c13 :: .int .i64 (k : Int) :: .int .i64 Sk :: .int .i64 0 :: u17 :: c18 :: c19 :: c20 :: c21 :: c22 :: c23 :: c24 :: c25 :: c26 :: c27 :: c28 :: c29 :: c30 :: c31 :: c32 :: c33 :: c34 :: c35 :: c36 :: c37 :: c38 :: c39 :: c40 :: c41 :: c42 :: c43 :: c44 :: c45 :: c46 :: c47 :: c48 :: c49 :: c50 :: c51 :: c52 :: c53 :: c54 :: c55 :: c56 :: c57 :: c58 :: c59 :: c60 :: c61 :: c62 :: c63 :: c64 :: c65 :: c66 :: c67 :: c68 :: c69 :: c70 :: c71 :: c72 :: c73 :: c74 :: c75 :: c76 :: c77 :: c78 :: c79 :: c80 :: c81 :: c82 :: c83 :: c84 :: c85 :: c86 :: c87 :: c88 :: c89 :: c90 :: c91 :: c92 :: c93 :: c94 :: c95 :: c96 :: c97 :: c98 :: c99 :: c100 :: c101 :: c102 :: c103 :: c104 :: c105 :: c106 :: c107 :: c108 :: c109 :: u110 :: u111 :: u112 :: u113 :: u114 :: u115 :: u116 :: u117 :: u118 :: u119 :: u120 :: u121 :: u122 :: u123 :: u124 :: u125 :: u126 :: u127 :: u128 :: u129 :: u130 :: u131 :: u132 :: u133 :: u134 :: u135 :: u136 :: u137 :: u138 :: u139 :: u140 :: u141 :: u142 :: u143 :: u144 :: u145 :: u146 :: u147 :: u148 :: u149 :: u150 :: u151 :: u152 :: u153 :: u154 :: u155 :: u156 :: u157 :: u158 :: u159 :: u160 :: c161 :: c162 :: c163 :: c164 :: c165 :: c166 :: c167 :: c168 :: c169 :: c170 :: c171 :: c172 :: c173 :: c174 :: c175 :: c176 :: c177 :: c178 :: c179 :: c180 :: c181 :: c182 :: c183 :: c184 :: c185 :: c186 :: c187 :: c188 :: c189 :: c190 :: c191 :: c192 :: c193 :: c194 :: c195 :: c196 :: c197 :: c198 :: c199 :: c200 :: c201 :: c202 :: c203 :: c204 :: c205 :: c206 :: c207 :: c208 :: c209 :: c210 :: c211 :: c212 :: c213 :: c214 :: c215 :: c216 :: c217 :: c218 :: c219 :: c220 :: c221 :: c222 :: c223 :: c224 :: c225 :: c226 :: c227 :: c228 :: c229 :: c230 :: c231 :: c232 :: c233 :: c234 :: c235 :: c236 :: c237 :: c238 :: c239 :: c240 :: c241 :: c242 :: c243 :: c244 :: c245 :: c246 :: c247 :: c248 :: c249 :: c250 :: c251 :: c252 :: c253 :: c254 :: c255 :: c256 :: c257 :: c258 :: c259 :: c260 :: c261 :: c262 :: c263 :: c264 :: c265 :: c266 :: c267 :: c268 :: c269 :: c270 :: c271 :: c272 :: c273 :: c274 :: c275 :: c276 :: c277 :: []), []⟩ v := by
  obtain ⟨LD, hLD⟩ : ∃ z, (C.X.S.run C.m C.ice C.win).ld = z := ⟨_, rfl⟩
  rw [hLD] at hexit
  have hwa := h.winl.2
  obtain ⟨hl1, hl2, hl3⟩ := keeps_ld h.K (p := C.m) (ice := C.ice) hwa
  rw [hLD] at hl1 hl2 hl3
  have n6 := h.K.n6
  rw [h.X.hs] at hl1 n6
  have HIL : Hid (LD.length = C.X.ns) := Lib.hid hl1
  have HLB : Hid (∀ j g, LD[j]? = some g → (0 ≤ g.at k ∧ g.at k ≤ (C.X.S.cg j).at k) ∧ g.at k ≤ 1000) := Lib.hid fun j g hg => by
    have hj : j < C.X.S.ships.length := by rw [h.X.hs, ← hl1]; exact (List.getElem?_eq_some_iff.1 hg).1
    have h1 := hl2 j g k hg hk
    have h2 := inB_iff.1 (amtB_at.1 (h.K.cgB hj) k hk)
    exact ⟨h1, by omega⟩
  have hsum := fun j hj => ldS2_in (l := LD) (k := k) (fun g hg => by
    obtain ⟨j, hj⟩ := List.mem_iff_getElem?.1 hg
    have := HLB.out j g hj
    exact ⟨this.1.1, this.2⟩) j hj
  have HSUM := Lib.hid hsum; have HLO := Lib.hid hl3; have HLD := Lib.hid hLD; have HEX := Lib.hid hexit; have H0 := Lib.hid h; have HK3 := Lib.hid hk
  have HLS := Lib.hid (And.intro hL hS)
  have ns6 : C.X.ns ≤ 6 := n6
  have k0 : (0 : Int) ≤ (k : Int) := by omega
  have k1 : (k : Int) < 3 := by omega
  clear hexit h hwa hl1 hl2 hl3 n6 hLD hsum hL hS
  conv => arg 2; arg 1; whnf
  go_loopw [11, 15, 16] (fun la su jj wr => ∃ j : Nat, j ≤ C.X.ns ∧ jj = .int .i64 j ∧ la = .int .i64 (Lk + ldS2 LD k j) ∧ su = .int .i64 (Sk + ldS2 LD k j) ∧ Below v.heap.size v wr) (fun _ _ jj _ => C.X.ns - (intOf jj).toNat)
  case atStart => exact ⟨0, Nat.zero_le _, rfl, by simp [ldS2, sumK], by simp [ldS2, sumK], Below.refl _ _⟩
  case round =>
    obtain ⟨j, hj, rfl, rfl, rfl, hb⟩ := hrel
    have HB := Lib.hid hb
    have hkin := H0.out.up hb
    obtain ⟨_, _, _, s9, _, _⟩ := sto_box hkin.z
    by_cases hjn : j < C.X.ns
    · have j0 : (0 : Int) ≤ (j : Int) := by omega
      have j1 : (j : Int) < (C.X.ns : Int) := by omega
      obtain ⟨bs, os, hAS, hsh⟩ := hkin.ship hjn
      have hcg := hsh k HK3.out
      rw [hAS] at s9
      obtain ⟨x0, _, _⟩ := hkin.cells
      obtain ⟨g, hg⟩ := get_of_lt (l := LD) (k := j) (by rw [HIL.out]; exact hjn)
      have hgd := hkin.ld
      rw [HLD.out] at hgd
      obtain ⟨bd, od, hA, hbd, hat⟩ := gds_at hgd hg
      injection hA with hA
      injection hA with hA1 hA2
      have c1 := hat k HK3.out
      rw [← hA1, ← hA2, Nat.zero_add] at c1
      have hgb := HLB.out j g hg
      have hsu := HSUM.out j (by rw [HIL.out]; omega)
      have HLN := Lib.hid (ldS2_succ (k := k) hg)
      have HLOj := Lib.hid (HLO.out j g hg)
      obtain ⟨G, hG⟩ : ∃ z, g.at k = z := ⟨_, rfl⟩
      obtain ⟨Cg, hCg⟩ : ∃ z, (C.X.S.cg j).at k = z := ⟨_, rfl⟩
      obtain ⟨Q, hQ⟩ : ∃ z, ldS2 LD k j = z := ⟨_, rfl⟩
      have HG_ := Lib.hid hG
      rw [hG] at c1 hgb HLN; rw [hCg] at hcg hgb; rw [hQ] at HLN hsu
      rw [hQ]
      obtain ⟨hL, hS⟩ := HLS.out
      have HQB : Hid (0 ≤ Q ∧ Q ≤ 6000) := Lib.hid (by omega)
      have q1 : ¬ G < 0 := by omega
      have q3 : ¬ Cg < G := by omega
      have hqb := HQB.out
      have HE1 : Hid (wrap64 (Sk + Q + G) = Sk + (Q + G)) := Lib.hid (by rw [w64 (by omega)]; omega)
      have HE2 : Hid (wrap64 (Lk + Q + G) = Lk + (Q + G)) := Lib.hid (by rw [w64 (by omega)]; omega)
      by_cases hp : 0 < G
      · have hnz : ¬ (hasB C.m j = false ∨ arrI C.ice (C.X.S.ship j).w.toNat < 0) := fun ho => by
          have h1 := HLOj.out ho
          have h2 := HG_.out
          rw [h1] at h2
          have h3 := HK3.out
          rcases (show k = 0 ∨ k = 1 ∨ k = 2 by omega) with rfl | rfl | rfl <;> simp [z3, Gd.at] at h2 <;> omega
        have hhb : hasB C.m j = true := by
          cases hq : hasB C.m j with
          | true => rfl
          | false => exact absurd (.inl hq) hnz
        have hav : ¬ arrI C.ice (C.X.S.ship j).w.toNat < 0 := fun h => hnz (.inr h)
        have KHA := Lib.hid (rhas_any C.m j wr hkin.hm (by unfold maxLen; omega))
        rw [hhb] at KHA
        have hAR := rarr_any hkin.X hkin.K j C.ii hjn hkin.hi
        rw [hkin.hice] at hAR
        obtain ⟨Av, hAv⟩ : ∃ z, arrI C.ice (C.X.S.ship j).w.toNat = z := ⟨_, rfl⟩
        rw [hAv] at hAR hav
        unfold SX.v at hAR
        rw [hAS] at hAR
        have KAR := Lib.hid hAR
        obtain ⟨⟨s0, s1, s2⟩, ⟨s3, s4, s5⟩, ⟨s6, s7, s8⟩, _, s10, s11⟩ := sto_box hkin.z
        clear hAR hAv hhb hnz hgd hat hbd hg hG hCg hQ hsh hkin hA1 hA2 hAS hb hgb hsu hqb hL hS
        go_wp2_with fail
        refine KHA.out.mono ?_
        rintro e w' ⟨rfl, rfl⟩
        go_wp2_with fail
        refine KAR.out.mono ?_
        rintro e w9 ⟨rfl, hb9⟩
        have HB9 := Lib.hid (HB.out.trans (hb9.mono HB.out.size))
        clear hb9
        go_wp2_with fail
        exact ⟨⟨j + 1, by omega, by go_num, by rw [HLN.out, HE2.out], by rw [HLN.out, HE1.out], HB9.out⟩, by simp [intOf]; omega⟩
      · clear hgd hat hbd hg hG hCg hQ hsh hkin hA1 hA2 hAS hb hgb hsu hqb hL hS
        go_wp2_with fail
        exact ⟨⟨j + 1, by omega, by go_num, by rw [HLN.out, HE2.out], by rw [HLN.out, HE1.out], HB.out⟩, by simp [intOf]; omega⟩
    · have hje : j = C.X.ns := by omega
      have j1 : ¬ (j : Int) < (C.X.ns : Int) := by omega
      clear hkin hb
      subst hje
      go_wp2_with fail
      exact HEX.out _ _ _ _ _ _ _ _ _ _ _ _ _ _ _ _ _ _ _ _ _ _ _ _ _ _ _ _ _ _ _ _ _ _ _ _ _ _ _ _ _ _ _ _ _ _ _ _ _ _ _ _ _ _ _ HB.out
theorem open_le (ice : List Bool) (t : Nat) : openN ice t ≤ t := Nat.le_trans (List.length_filter_le _ _) (by simp)
set_option maxRecDepth 1000000 in
noncomputable def bodyKO : Code := ((Tryd.f4.body.map loopsIn).getD []).getD 0 .skip
set_option maxRecDepth 1000000 in
set_option maxHeartbeats 40000000 in
theorem loopKO (C : KC) (v : World) (h : KIn C v)
    {Q : Exit → Act → World → Prop} {c0 c1 c3 c5 c6 c7 c8 c9 c10 c11 c14 c15 c16 c17 c18 c19 c20 c21 c22 c23 c24 c25 c26 c27 c28 c29 c30 c31 c32 c33 c34 c35 c36 c37 c38 c39 c40 c41 c42 c43 c44 c45 c46 c47 c48 c49 c50 c51 c52 c53 c54 c55 c56 c57 c58 c59 c60 c61 c62 c63 c64 c65 c66 c67 c68 c69 c70 c71 c72 c73 c74 c75 c76 c77 c78 c79 c80 c81 c82 c83 c84 c85 c102 c103 c104 c105 c106 c107 c108 c109 c110 c111 c112 c113 c114 c115 c116 c117 c118 c119 c120 c121 c122 c123 c124 c125 c126 c127 c128 c129 c130 c131 c132 c133 c134 c135 c136 c137 c138 c139 c140 c141 c142 c143 c144 c145 c146 c147 c148 c149 c150 c151 c152 c153 c154 c155 c156 c157 c158 c159 c160 c161 c162 c163 c164 c165 c166 c167 c168 c169 c170 c171 c172 c173 c174 c175 c176 c177 c178 c179 c180 c181 c182 c183 c184 c185 c186 c187 c188 c189 c190 c191 c192 c193 c194 c195 c196 c197 c198 c199 c200 c201 c202 c203 c204 c205 c206 c207 c208 c209 c210 c211 c212 c213 c214 c215 c216 c217 c218 c219 c220 c221 c222 c223 c224 c225 c226 c227 c228 c229 c230 c231 c232 c233 c234 c235 c236 c237 c238 c239 c240 c241 c242 c243 c244 c245 c246 c247 c248 c249 c250 c251 c252 c253 c254 c255 c256 c257 c258 c259 c260 c261 c262 c263 c264 c265 c266 c267 c268 c269 c270 c271 c272 c273 c274 c275 c276 c277 u86 u87 u88 u89 u90 u91 u92 u93 u94 u95 u96 u97 u98 u99 u100 u101 : Value}
    (hexit : ∀ (w' : World) (e13 e86 e87 e88 e89 e90 e91 e92 e93 e94 e95 e96 e97 e98 e99 e100 e101 : Value), Below v.heap.size v w' → Q (.exit 0) ⟨List.toArray (c0 :: c1 :: .int .i64 (C.ii : Int) :: c3 :: .pointer (some ⟨C.zb, 0, none⟩) :: c5 :: c6 :: c7 :: c8 :: c9 :: c10 :: c11 :: .int .i64 ((openN C.ice C.mi : Nat) : Int) :: e13 :: c14 :: c15 :: c16 :: c17 :: c18 :: c19 :: c20 :: c21 :: c22 :: c23 :: c24 :: c25 :: c26 :: c27 :: c28 :: c29 :: c30 :: c31 :: c32 :: c33 :: c34 :: c35 :: c36 :: c37 :: c38 :: c39 :: c40 :: c41 :: c42 :: c43 :: c44 :: c45 :: c46 :: c47 :: c48 :: c49 :: c50 :: c51 :: c52 :: c53 :: c54 :: c55 :: c56 :: c57 :: c58 :: c59 :: c60 :: c61 :: c62 :: c63 :: c64 :: c65 :: c66 :: c67 :: c68 :: c69 :: c70 :: c71 :: c72 :: c73 :: c74 :: c75 :: c76 :: c77 :: c78 :: c79 :: c80 :: c81 :: c82 :: c83 :: c84 :: c85 :: e86 :: e87 :: e88 :: e89 :: e90 :: e91 :: e92 :: e93 :: e94 :: e95 :: e96 :: e97 :: e98 :: e99 :: e100 :: e101 :: c102 :: c103 :: c104 :: c105 :: c106 :: c107 :: c108 :: c109 :: c110 :: c111 :: c112 :: c113 :: c114 :: c115 :: c116 :: c117 :: c118 :: c119 :: c120 :: c121 :: c122 :: c123 :: c124 :: c125 :: c126 :: c127 :: c128 :: c129 :: c130 :: c131 :: c132 :: c133 :: c134 :: c135 :: c136 :: c137 :: c138 :: c139 :: c140 :: c141 :: c142 :: c143 :: c144 :: c145 :: c146 :: c147 :: c148 :: c149 :: c150 :: c151 :: c152 :: c153 :: c154 :: c155 :: c156 :: c157 :: c158 :: c159 :: c160 :: c161 :: c162 :: c163 :: c164 :: c165 :: c166 :: c167 :: c168 :: c169 :: c170 :: c171 :: c172 :: c173 :: c174 :: c175 :: c176 :: c177 :: c178 :: c179 :: c180 :: c181 :: c182 :: c183 :: c184 :: c185 :: c186 :: c187 :: c188 :: c189 :: c190 :: c191 :: c192 :: c193 :: c194 :: c195 :: c196 :: c197 :: c198 :: c199 :: c200 :: c201 :: c202 :: c203 :: c204 :: c205 :: c206 :: c207 :: c208 :: c209 :: c210 :: c211 :: c212 :: c213 :: c214 :: c215 :: c216 :: c217 :: c218 :: c219 :: c220 :: c221 :: c222 :: c223 :: c224 :: c225 :: c226 :: c227 :: c228 :: c229 :: c230 :: c231 :: c232 :: c233 :: c234 :: c235 :: c236 :: c237 :: c238 :: c239 :: c240 :: c241 :: c242 :: c243 :: c244 :: c245 :: c246 :: c247 :: c248 :: c249 :: c250 :: c251 :: c252 :: c253 :: c254 :: c255 :: c256 :: c257 :: c258 :: c259 :: c260 :: c261 :: c262 :: c263 :: c264 :: c265 :: c266 :: c267 :: c268 :: c269 :: c270 :: c271 :: c272 :: c273 :: c274 :: c275 :: c276 :: c277 :: []), []⟩ w') :
    Code.wp Tryd.prog (Code.loop bodyKO) Q ⟨List.toArray (c0 :: c1 :: .int .i64 (C.ii : Int) :: c3 :: .pointer (some ⟨C.zb, 0, none⟩) :: c5 :: c6 :: c7 :: c8 :: c9 :: c10 :: c11 :: .int .i64 0 :: .int .i64 0 :: c14 :: c15 :: c16 :: c17 :: c18 :: c19 :: c20 :: c21 :: c22 :: c23 :: c24 :: c25 :: c26 :: c27 :: c28 :: c29 :: c30 :: c31 :: c32 :: c33 :: c34 :: c35 :: c36 :: c37 :: c38 :: c39 :: c40 :: c41 :: c42 :: c43 :: c44 :: c45 :: c46 :: c47 :: c48 :: c49 :: c50 :: c51 :: c52 :: c53 :: c54 :: c55 :: c56 :: c57 :: c58 :: c59 :: c60 :: c61 :: c62 :: c63 :: c64 :: c65 :: c66 :: c67 :: c68 :: c69 :: c70 :: c71 :: c72 :: c73 :: c74 :: c75 :: c76 :: c77 :: c78 :: c79 :: c80 :: c81 :: c82 :: c83 :: c84 :: c85 :: u86 :: u87 :: u88 :: u89 :: u90 :: u91 :: u92 :: u93 :: u94 :: u95 :: u96 :: u97 :: u98 :: u99 :: u100 :: u101 :: c102 :: c103 :: c104 :: c105 :: c106 :: c107 :: c108 :: c109 :: c110 :: c111 :: c112 :: c113 :: c114 :: c115 :: c116 :: c117 :: c118 :: c119 :: c120 :: c121 :: c122 :: c123 :: c124 :: c125 :: c126 :: c127 :: c128 :: c129 :: c130 :: c131 :: c132 :: c133 :: c134 :: c135 :: c136 :: c137 :: c138 :: c139 :: c140 :: c141 :: c142 :: c143 :: c144 :: c145 :: c146 :: c147 :: c148 :: c149 :: c150 :: c151 :: c152 :: c153 :: c154 :: c155 :: c156 :: c157 :: c158 :: c159 :: c160 :: c161 :: c162 :: c163 :: c164 :: c165 :: c166 :: c167 :: c168 :: c169 :: c170 :: c171 :: c172 :: c173 :: c174 :: c175 :: c176 :: c177 :: c178 :: c179 :: c180 :: c181 :: c182 :: c183 :: c184 :: c185 :: c186 :: c187 :: c188 :: c189 :: c190 :: c191 :: c192 :: c193 :: c194 :: c195 :: c196 :: c197 :: c198 :: c199 :: c200 :: c201 :: c202 :: c203 :: c204 :: c205 :: c206 :: c207 :: c208 :: c209 :: c210 :: c211 :: c212 :: c213 :: c214 :: c215 :: c216 :: c217 :: c218 :: c219 :: c220 :: c221 :: c222 :: c223 :: c224 :: c225 :: c226 :: c227 :: c228 :: c229 :: c230 :: c231 :: c232 :: c233 :: c234 :: c235 :: c236 :: c237 :: c238 :: c239 :: c240 :: c241 :: c242 :: c243 :: c244 :: c245 :: c246 :: c247 :: c248 :: c249 :: c250 :: c251 :: c252 :: c253 :: c254 :: c255 :: c256 :: c257 :: c258 :: c259 :: c260 :: c261 :: c262 :: c263 :: c264 :: c265 :: c266 :: c267 :: c268 :: c269 :: c270 :: c271 :: c272 :: c273 :: c274 :: c275 :: c276 :: c277 :: []), []⟩ v := by
  have HIL := Lib.hid h.icel; have HEX := Lib.hid hexit; have H0 := Lib.hid h
  have hmi8 : C.mi ≤ 8 := by have h1 := h.hmi; have h2 := h.K.land; omega
  have hii : C.ii < C.X.ni := h.hi
  have i0 : (0 : Int) ≤ (C.ii : Int) := by omega
  have i1 : (C.ii : Int) < (C.X.ni : Int) := by omega
  clear hexit h hii
  conv => arg 2; arg 1; whnf
  go_loopw [12, 13] (fun v' i wr => ∃ t : Nat, t ≤ C.mi ∧ i = .int .i64 t ∧ v' = .int .i64 ((openN C.ice t : Nat) : Int) ∧ v = wr) (fun _ i _ => C.mi - (intOf i).toNat)
  case atStart => exact ⟨0, Nat.zero_le _, rfl, rfl, rfl⟩
  case round =>
    obtain ⟨t, ht, rfl, rfl, rfl⟩ := hrel
    obtain ⟨_, _, ⟨_, _, s8⟩, _, s10, _⟩ := sto_box H0.out.z
    rw [H0.out.hmi] at s8
    obtain ⟨bi, oi, A4, c4, hAI, d1, hel⟩ := H0.out.ice
    rw [hAI] at s10
    by_cases hlt : t < C.mi
    · obtain ⟨x, hx⟩ := get_of_lt (l := C.ice) (k := t) (by rw [HIL.out]; exact hlt)
      obtain ⟨b, o, rfl, c0⟩ := hel t x hx
      have t0 : (0 : Int) ≤ (t : Int) := by omega
      have t1 : (t : Int) < (C.mi : Int) := by omega
      have HO := Lib.hid (openN_succ C.ice t)
      have ho := open_le C.ice t
      have HG : Hid (C.ice.getD t false = x) := Lib.hid (by rw [List.getD_eq_getElem?_getD, hx]; rfl)
      obtain ⟨NO, hN⟩ : ∃ z, openN C.ice t = z := ⟨_, rfl⟩
      rw [hN] at HO ho
      rw [hN]
      clear hN hx hel hAI
      cases x with
      | true =>
        go_wp2_with fail
        exact ⟨⟨t + 1, by omega, by go_num, by rw [HO.out, HG.out, if_pos rfl]; go_num, trivial⟩, by simp [intOf]; omega⟩
      | false =>
        go_wp2_with fail
        exact ⟨⟨t + 1, by omega, by go_num, by rw [HO.out, HG.out, if_neg Bool.false_ne_true]; rfl, trivial⟩, by simp [intOf]; omega⟩
    · have hte : t = C.mi := by omega
      have t1 : ¬ (t : Int) < (C.mi : Int) := by omega
      clear hel hAI
      subst hte
      go_wp2_with fail
      exact HEX.out _ _ _ _ _ _ _ _ _ _ _ _ _ _ _ _ _ _ (Below.refl _ _)
set_option maxRecDepth 1000000 in
noncomputable def bodyKW : Code := ((Tryd.f4.body.map loopsIn).getD []).getD 3 .skip
set_option maxRecDepth 1000000 in
set_option maxHeartbeats 40000000 in
theorem loopKW (C : KC) (k : Nat) (hk : k < 3) (Q0 : Int) (hQ : 0 ≤ Q0 ∧ Q0 ≤ 10000) (v : World) (h : KIn C v)
    {Q : Exit → Act → World → Prop} {c0 c1 c5 c6 c7 c10 c11 c12 c13 c16 c17 c24 c25 c26 c27 c28 c29 c30 c31 c32 c33 c34 c35 c36 c37 c38 c39 c40 c41 c42 c43 c44 c45 c46 c47 c48 c49 c50 c51 c52 c53 c54 c55 c56 c57 c58 c59 c60 c61 c62 c63 c64 c65 c66 c67 c68 c69 c70 c71 c72 c73 c74 c75 c76 c77 c78 c79 c80 c81 c82 c83 c84 c85 c86 c87 c88 c89 c90 c91 c92 c93 c94 c95 c96 c97 c98 c99 c100 c101 c102 c103 c104 c105 c106 c107 c108 c109 c110 c111 c112 c113 c114 c115 c116 c117 c118 c119 c120 c121 c122 c123 c124 c125 c126 c127 c128 c129 c130 c131 c132 c133 c134 c135 c136 c137 c138 c139 c140 c141 c142 c143 c144 c145 c146 c147 c148 c149 c150 c151 c152 c153 c154 c155 c156 c157 c158 c159 c160 c161 c162 c163 c164 c258 c259 c260 c261 c262 c263 c264 c265 c266 c267 c268 c269 c270 c271 c272 c273 c274 c275 c276 c277 u8 u20 u21 u22 u23 u165 u166 u167 u168 u169 u170 u171 u172 u173 u174 u175 u176 u177 u178 u179 u180 u181 u182 u183 u184 u185 u186 u187 u188 u189 u190 u191 u192 u193 u194 u195 u196 u197 u198 u199 u200 u201 u202 u203 u204 u205 u206 u207 u208 u209 u210 u211 u212 u213 u214 u215 u216 u217 u218 u219 u220 u221 u222 u223 u224 u225 u226 u227 u228 u229 u230 u231 u232 u233 u234 u235 u236 u237 u238 u239 u240 u241 u242 u243 u244 u245 u246 u247 u248 u249 u250 u251 u252 u253 u254 u255 u256 u257 : Value}
    (hexit : ∀ (w' : World) (e8 e18 e19 e20 e21 e22 e23 e165 e166 e167 e168 e169 e170 e171 e172 e173 e174 e175 e176 e177 e178 e179 e180 e181 e182 e183 e184 e185 e186 e187 e188 e189 e190 e191 e192 e193 e194 e195 e196 e197 e198 e199 e200 e201 e202 e203 e204 e205 e206 e207 e208 e209 e210 e211 e212 e213 e214 e215 e216 e217 e218 e219 e220 e221 e222 e223 e224 e225 e226 e227 e228 e229 e230 e231 e232 e233 e234 e235 e236 e237 e238 e239 e240 e241 e242 e243 e244 e245 e246 e247 e248 e249 e250 e251 e252 e253 e254 e255 e256 e257 : Value), Below v.heap.size v w' → Q (.exit 6) ⟨List.toArray (c0 :: c1 :: .int .i64 (C.ii : Int) :: .int .i64 (C.nn : Int) :: .pointer (some ⟨C.zb, 0, none⟩) :: c5 :: c6 :: c7 :: e8 :: .pointer (some ⟨C.xb, 0, none⟩) :: c10 :: c11 :: c12 :: c13 :: .int .i64 (k : Int) :: .int .i64 (Q0 - needS C.win k C.mw + lackS C.X.S C.m C.ice C.win k C.mw) :: c16 :: c17 :: e18 :: e19 :: e20 :: e21 :: e22 :: e23 :: c24 :: c25 :: c26 :: c27 :: c28 :: c29 :: c30 :: c31 :: c32 :: c33 :: c34 :: c35 :: c36 :: c37 :: c38 :: c39 :: c40 :: c41 :: c42 :: c43 :: c44 :: c45 :: c46 :: c47 :: c48 :: c49 :: c50 :: c51 :: c52 :: c53 :: c54 :: c55 :: c56 :: c57 :: c58 :: c59 :: c60 :: c61 :: c62 :: c63 :: c64 :: c65 :: c66 :: c67 :: c68 :: c69 :: c70 :: c71 :: c72 :: c73 :: c74 :: c75 :: c76 :: c77 :: c78 :: c79 :: c80 :: c81 :: c82 :: c83 :: c84 :: c85 :: c86 :: c87 :: c88 :: c89 :: c90 :: c91 :: c92 :: c93 :: c94 :: c95 :: c96 :: c97 :: c98 :: c99 :: c100 :: c101 :: c102 :: c103 :: c104 :: c105 :: c106 :: c107 :: c108 :: c109 :: c110 :: c111 :: c112 :: c113 :: c114 :: c115 :: c116 :: c117 :: c118 :: c119 :: c120 :: c121 :: c122 :: c123 :: c124 :: c125 :: c126 :: c127 :: c128 :: c129 :: c130 :: c131 :: c132 :: c133 :: c134 :: c135 :: c136 :: c137 :: c138 :: c139 :: c140 :: c141 :: c142 :: c143 :: c144 :: c145 :: c146 :: c147 :: c148 :: c149 :: c150 :: c151 :: c152 :: c153 :: c154 :: c155 :: c156 :: c157 :: c158 :: c159 :: c160 :: c161 :: c162 :: c163 :: c164 :: e165 :: e166 :: e167 :: e168 :: e169 :: e170 :: e171 :: e172 :: e173 :: e174 :: e175 :: e176 :: e177 :: e178 :: e179 :: e180 :: e181 :: e182 :: e183 :: e184 :: e185 :: e186 :: e187 :: e188 :: e189 :: e190 :: e191 :: e192 :: e193 :: e194 :: e195 :: e196 :: e197 :: e198 :: e199 :: e200 :: e201 :: e202 :: e203 :: e204 :: e205 :: e206 :: e207 :: e208 :: e209 :: e210 :: e211 :: e212 :: e213 :: e214 :: e215 :: e216 :: e217 :: e218 :: e219 :: e220 :: e221 :: e222 :: e223 :: e224 :: e225 :: e226 :: e227 :: e228 :: e229 :: e230 :: e231 :: e232 :: e233 :: e234 :: e235 :: e236 :: e237 :: e238 :: e239 :: e240 :: e241 :: e242 :: e243 :: e244 :: e245 :: e246 :: e247 :: e248 :: e249 :: e250 :: e251 :: e252 :: e253 :: e254 :: e255 :: e256 :: e257 :: c258 :: c259 :: c260 :: c261 :: c262 :: c263 :: c264 :: c265 :: c266 :: c267 :: c268 :: c269 :: c270 :: c271 :: c272 :: c273 :: c274 :: c275 :: c276 :: c277 :: []), []⟩ w') :
    Code.wp Tryd.prog (Code.loop bodyKW) Q ⟨List.toArray (c0 :: c1 :: .int .i64 (C.ii : Int) :: .int .i64 (C.nn : Int) :: .pointer (some ⟨C.zb, 0, none⟩) :: c5 :: c6 :: c7 :: u8 :: .pointer (some ⟨C.xb, 0, none⟩) :: c10 :: c11 :: c12 :: c13 :: .int .i64 (k : Int) :: .int .i64 Q0 :: c16 :: c17 :: .int .i64 (C.X.S.st.at k) :: .int .i64 0 :: u20 :: u21 :: u22 :: u23 :: c24 :: c25 :: c26 :: c27 :: c28 :: c29 :: c30 :: c31 :: c32 :: c33 :: c34 :: c35 :: c36 :: c37 :: c38 :: c39 :: c40 :: c41 :: c42 :: c43 :: c44 :: c45 :: c46 :: c47 :: c48 :: c49 :: c50 :: c51 :: c52 :: c53 :: c54 :: c55 :: c56 :: c57 :: c58 :: c59 :: c60 :: c61 :: c62 :: c63 :: c64 :: c65 :: c66 :: c67 :: c68 :: c69 :: c70 :: c71 :: c72 :: c73 :: c74 :: c75 :: c76 :: c77 :: c78 :: c79 :: c80 :: c81 :: c82 :: c83 :: c84 :: c85 :: c86 :: c87 :: c88 :: c89 :: c90 :: c91 :: c92 :: c93 :: c94 :: c95 :: c96 :: c97 :: c98 :: c99 :: c100 :: c101 :: c102 :: c103 :: c104 :: c105 :: c106 :: c107 :: c108 :: c109 :: c110 :: c111 :: c112 :: c113 :: c114 :: c115 :: c116 :: c117 :: c118 :: c119 :: c120 :: c121 :: c122 :: c123 :: c124 :: c125 :: c126 :: c127 :: c128 :: c129 :: c130 :: c131 :: c132 :: c133 :: c134 :: c135 :: c136 :: c137 :: c138 :: c139 :: c140 :: c141 :: c142 :: c143 :: c144 :: c145 :: c146 :: c147 :: c148 :: c149 :: c150 :: c151 :: c152 :: c153 :: c154 :: c155 :: c156 :: c157 :: c158 :: c159 :: c160 :: c161 :: c162 :: c163 :: c164 :: u165 :: u166 :: u167 :: u168 :: u169 :: u170 :: u171 :: u172 :: u173 :: u174 :: u175 :: u176 :: u177 :: u178 :: u179 :: u180 :: u181 :: u182 :: u183 :: u184 :: u185 :: u186 :: u187 :: u188 :: u189 :: u190 :: u191 :: u192 :: u193 :: u194 :: u195 :: u196 :: u197 :: u198 :: u199 :: u200 :: u201 :: u202 :: u203 :: u204 :: u205 :: u206 :: u207 :: u208 :: u209 :: u210 :: u211 :: u212 :: u213 :: u214 :: u215 :: u216 :: u217 :: u218 :: u219 :: u220 :: u221 :: u222 :: u223 :: u224 :: u225 :: u226 :: u227 :: u228 :: u229 :: u230 :: u231 :: u232 :: u233 :: u234 :: u235 :: u236 :: u237 :: u238 :: u239 :: u240 :: u241 :: u242 :: u243 :: u244 :: u245 :: u246 :: u247 :: u248 :: u249 :: u250 :: u251 :: u252 :: u253 :: u254 :: u255 :: u256 :: u257 :: c258 :: c259 :: c260 :: c261 :: c262 :: c263 :: c264 :: c265 :: c266 :: c267 :: c268 :: c269 :: c270 :: c271 :: c272 :: c273 :: c274 :: c275 :: c276 :: c277 :: []), []⟩ v := by
  have hwl := h.winl.1; have hwa := h.winl.2
  have hmw : C.X.S.weeks.toNat = C.mw := by rw [h.hmw]; rfl
  have KWEEK := Lib.hid fun (t : Nat) (ht : t < C.mw) => keeps_week h.K (p := C.m) (ice := C.ice) (win := C.win) (t := t) hwa (by rw [hwl]; exact ht) hk
  have KSUM := Lib.hid fun (t : Nat) (ht : t ≤ C.mw) => sums_in h.K (p := C.m) (ice := C.ice) (win := C.win) hwa hk t (by rw [hwl]; exact ht)
  have HST := Lib.hid fun (t : Nat) (ht : t < C.mw) => stocks_get (S := C.X.S) (p := C.m) (ice := C.ice) (win := C.win) (t := t) (by rw [hmw]; exact ht)
  have HLA := Lib.hid fun (t : Nat) (ht : t < C.mw) => lacks_get (S := C.X.S) (p := C.m) (ice := C.ice) (win := C.win) (t := t) (by rw [hmw]; exact ht)
  have HWD : Hid (∀ t, t < C.mw → C.win[t]? = some (C.win.getD t z3)) := Lib.hid fun t ht => getD_get (by rw [hwl]; exact ht)
  have HBF : Hid (∀ t, t < C.mw → 0 ≤ (C.X.S.bef C.m C.ice C.win t).at k ∧ (C.X.S.bef C.m C.ice C.win t).at k ≤ 1000) := Lib.hid fun t ht => by
    have h0 := (runN_ok h.K (plan := C.m) (ice := C.ice) hwa t).ld
    have h1 := h0.st0; have h2 := h0.sty; have h3 := amtB_iff.1 h.K.yd
    simp only at h1 h2
    unfold Sto.bef
    match k, hk with
    | 0, _ => show 0 ≤ (C.X.S.runN C.m C.ice C.win t).st.a ∧ (C.X.S.runN C.m C.ice C.win t).st.a ≤ 1000; omega
    | 1, _ => show 0 ≤ (C.X.S.runN C.m C.ice C.win t).st.b ∧ (C.X.S.runN C.m C.ice C.win t).st.b ≤ 1000; omega
    | 2, _ => show 0 ≤ (C.X.S.runN C.m C.ice C.win t).st.c ∧ (C.X.S.runN C.m C.ice C.win t).st.c ≤ 1000; omega
  have HYD := Lib.hid (inB_iff.1 (amtB_at.1 h.K.yd k hk))
  have HNS := Lib.hid fun t => needS_succ C.win k t
  have HLSS := Lib.hid fun t => lackS_succ C.X.S C.m C.ice C.win k t
  have HIL := Lib.hid h.icel; have HEX := Lib.hid hexit; have H0 := Lib.hid h; have HK3 := Lib.hid hk; have HQ0 := Lib.hid hQ
  have hmw30 : C.mw ≤ 30 := by have h1 := h.hmw; have h2 := h.K.weeks; omega
  have hmi8 : C.mi ≤ C.mw := by have h1 := h.hmi; have h2 := h.K.land; have h3 := h.hmw; omega
  have hii := h.hi; have hnn := h.hn
  have i0 : (0 : Int) ≤ (C.ii : Int) := by omega
  have i1 : (C.ii : Int) < (C.X.ni : Int) := by omega
  have n0 : (0 : Int) ≤ (C.nn : Int) := by omega
  have n1 : (C.nn : Int) < (C.X.nw : Int) := by omega
  have k0 : (0 : Int) ≤ (k : Int) := by omega
  have k1 : (k : Int) < 3 := by omega
  have HST0 : Hid ((C.X.S.bef C.m C.ice C.win 0).at k = C.X.S.st.at k) := Lib.hid rfl
  clear hexit h hwl hwa hmw hii hnn hQ
  conv => arg 2; arg 1; whnf
  go_loopw [15, 18, 19] (fun su bf a wr => ∃ t : Nat, t ≤ C.mw ∧ a = .int .i64 t ∧ su = .int .i64 (Q0 - needS C.win k t + lackS C.X.S C.m C.ice C.win k t) ∧ bf = .int .i64 ((C.X.S.bef C.m C.ice C.win t).at k) ∧ Below v.heap.size v wr) (fun _ _ a _ => C.mw - (intOf a).toNat)
  case atStart => exact ⟨0, Nat.zero_le _, rfl, by simp [needS, lackS, sumK], by rw [HST0.out], Below.refl _ _⟩
  case round =>
    obtain ⟨t, ht, rfl, rfl, rfl, hb⟩ := hrel
    have HB := Lib.hid hb
    have hkin := H0.out.up hb
    obtain ⟨_, ⟨s3, s4, s5⟩, ⟨_, s7, s8⟩, _, s10, s11⟩ := sto_box hkin.z
    rw [hkin.hmi] at s8
    rw [hkin.hmw] at s7
    by_cases htw : t < C.mw
    · have t0 : (0 : Int) ≤ (t : Int) := by omega
      have t1 : (t : Int) < (C.mw : Int) := by omega
      obtain ⟨x0, x1, x2⟩ := hkin.cells
      have hyk : wr.cell? ⟨C.zb, 3 + k, none⟩ = some (.int .i64 (C.X.S.yd.at k)) := by
        have h3 := HK3.out
        rcases (show k = 0 ∨ k = 1 ∨ k = 2 by omega) with rfl | rfl | rfl
        · exact s3
        · exact s4
        · exact s5
      obtain ⟨bw, ow, A5, c5, hAW, d2, hwel⟩ := hkin.win
      rw [hAW] at s11
      obtain ⟨b6, o6, rfl, hnd⟩ := hwel t _ (HWD.out t htw)
      have cN := hnd k HK3.out
      obtain ⟨b2, o2, hA2, hb2, h2at⟩ := gds_at hkin.st (HST.out t htw)
      obtain ⟨b3, o3, hA3, hb3, h3at⟩ := gds_at hkin.la (HLA.out t htw)
      have c2 := h2at k HK3.out
      have c3 := h3at k HK3.out
      rw [hA2] at x1
      rw [hA3] at x2
      obtain ⟨bi, oi, A4, c4, hAI, d1, hel⟩ := hkin.ice
      rw [hAI] at s10
      have hwk := KWEEK.out t htw
      have hns := HNS.out t
      have hls := HLSS.out t
      have hbf := HBF.out t htw
      have hsm := KSUM.out t ht
      have HEL : Hid (∀ x, C.ice[t]? = some x → ∃ b o, A4 = some ⟨b, o, none⟩ ∧ wr.cell? ⟨b, o + t, none⟩ = some (.bool x)) := Lib.hid fun x hx => hel t x hx
      have hyb := HYD.out
      obtain ⟨Tk, hTk⟩ : ∃ z, (takG (C.win.getD t z3) (C.X.S.aft C.m C.ice C.win t)).at k = z := ⟨_, rfl⟩
      obtain ⟨Lk, hLk⟩ : ∃ z, (lacG (C.win.getD t z3) (C.X.S.aft C.m C.ice C.win t)).at k = z := ⟨_, rfl⟩
      obtain ⟨Nk, hNk⟩ : ∃ z, (C.win.getD t z3).at k = z := ⟨_, rfl⟩
      obtain ⟨Bk, hBk⟩ : ∃ z, (C.X.S.bef C.m C.ice C.win t).at k = z := ⟨_, rfl⟩
      obtain ⟨Yk, hYk⟩ : ∃ z, C.X.S.yd.at k = z := ⟨_, rfl⟩
      obtain ⟨NS, hNS⟩ : ∃ z, needS C.win k t = z := ⟨_, rfl⟩
      obtain ⟨LS, hLS⟩ : ∃ z, lackS C.X.S C.m C.ice C.win k t = z := ⟨_, rfl⟩
      rw [hTk, hLk, hNk, hBk, hYk, H0.out.hmi] at hwk
      rw [hNk, hNS] at hns
      rw [hLk, hLS] at hls
      rw [hNS, hLS] at hsm
      rw [hBk] at hbf
      rw [hYk] at hyb hyk
      rw [hTk] at c2; rw [hLk] at c3; rw [hNk] at cN
      rw [hBk, hNS, hLS]
      obtain ⟨⟨w1, w2⟩, ⟨w3, w4⟩, w5, ⟨w6, w7⟩, w8, w9, w10⟩ := hwk
      have HNN := Lib.hid hns; have HLN := Lib.hid hls; have HBN := Lib.hid w10
      have HW9 := Lib.hid w9; have HW5 := Lib.hid w5
      have hq0 := HQ0.out
      have HSF : Hid ((Q0 - NS + LS ≤ 50000 ∧ -50000 ≤ Q0 - NS + LS) ∧ (0 ≤ Nk ∧ Nk ≤ 1000) ∧ 0 ≤ Lk ∧ Lk ≤ 1000) := Lib.hid (by omega)
      obtain ⟨QS, hQS⟩ : ∃ z, Q0 - NS + LS = z := ⟨_, rfl⟩
      rw [hQS] at HSF
      rw [hQS]
      have HQS := Lib.hid hQS
      obtain ⟨⟨f1, f2⟩, _, f5, f6⟩ := HSF.out
      have a1 : ¬ Tk < 0 := by omega
      have a2 : ¬ Yk < Tk := by omega
      have a3 : ¬ Lk < 0 := by omega
      have a4 : ¬ Nk < Lk := by omega
      have a5 : ¬ Tk + Nk - Lk - Bk < 0 := by omega
      have HEN : Hid (QS - Nk + Lk = Q0 - (NS + Nk) + (LS + Lk)) := Lib.hid (by omega)
      have HC3 : Hid (-10000 ≤ Tk + Nk - Lk - Bk ∧ Tk + Nk - Lk - Bk ≤ 10000) := Lib.hid (by omega)
      clear hTk hLk hNk hBk hYk hNS hLS hns hls w9 w5 w10 hel hnd hwel h2at h3at hb2 hb3 hAW hAI hA2 hA3 hkin hb s3 s4 s5 hQS hsm hq0
      by_cases hL : 0 < Lk
      · have hT0 : ¬ 0 < Tk := by have := HW5.out hL; omega
        by_cases hc : 0 < Tk + Nk - Lk - Bk
        · obtain ⟨hl1, hl2⟩ := HW9.out hc
          have hl1' : ¬ (t : Int) ≥ (C.mi : Int) := by omega
          obtain ⟨b, o, rfl, c0⟩ := HEL.out true (by
            obtain ⟨x, hx⟩ := get_of_lt (l := C.ice) (k := t) (by rw [HIL.out]; omega)
            rw [List.getD_eq_getElem?_getD, hx] at hl2
            rw [hx]; exact congrArg some hl2)
          clear hl2
          go_wp2_with fail
          go_quiet (fail)
          go_wp2_with fail
          exact ⟨⟨t + 1, by omega, by go_num, by rw [HNN.out, HLN.out, HEN.out], by rw [HBN.out], belN HB.out _⟩, by simp [intOf]; omega⟩
        · go_wp2_with fail
          go_quiet (fail)
          go_wp2_with fail
          exact ⟨⟨t + 1, by omega, by go_num, by rw [HNN.out, HLN.out, HEN.out], by rw [HBN.out], belN HB.out _⟩, by simp [intOf]; omega⟩
      · by_cases hc : 0 < Tk + Nk - Lk - Bk
        · obtain ⟨hl1, hl2⟩ := HW9.out hc
          have hl1' : ¬ (t : Int) ≥ (C.mi : Int) := by omega
          obtain ⟨b, o, rfl, c0⟩ := HEL.out true (by
            obtain ⟨x, hx⟩ := get_of_lt (l := C.ice) (k := t) (by rw [HIL.out]; omega)
            rw [List.getD_eq_getElem?_getD, hx] at hl2
            rw [hx]; exact congrArg some hl2)
          clear hl2
          go_wp2_with fail
          go_quiet (fail)
          go_wp2_with fail
          exact ⟨⟨t + 1, by omega, by go_num, by rw [HNN.out, HLN.out, HEN.out], by rw [HBN.out], belN HB.out _⟩, by simp [intOf]; omega⟩
        · go_wp2_with fail
          go_quiet (fail)
          go_wp2_with fail
          exact ⟨⟨t + 1, by omega, by go_num, by rw [HNN.out, HLN.out, HEN.out], by rw [HBN.out], belN HB.out _⟩, by simp [intOf]; omega⟩
    · have hte : t = C.mw := by omega
      have t1 : ¬ (t : Int) < (C.mw : Int) := by omega
      clear hkin hb
      subst hte
      go_wp2_with fail
      exact HEX.out _ _ _ _ _ _ _ _ _ _ _ _ _ _ _ _ _ _ _ _ _ _ _ _ _ _ _ _ _ _ _ _ _ _ _ _ _ _ _ _ _ _ _ _ _ _ _ _ _ _ _ _ _ _ _ _ _ _ _ _ _ _ _ _ _ _ _ _ _ _ _ _ _ _ _ _ _ _ _ _ _ _ _ _ _ _ _ _ _ _ _ _ _ _ _ _ _ _ _ _ _ HB.out
end Go.Proofs.YtijjkiogmlannaaDoor
