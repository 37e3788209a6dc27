/- PileMore: lists that grow side by side, and the loops of the function, cut out of it. -/
import Derived.Test.YtdlaphlpimlgdaaGreatDoorFG
namespace Go.Proofs.YtdlaphlpimlgdaaGreatDoor
open Go.RowKit

/-- Two rows of spans that grow side by side. -/
structure Two (w : World) (va vb : Value) (ka kb : Nat) (xa xb : List Value) (wr : World) : Prop where
  bel : Below w.heap.size w wr
  oa : wr.ownsRow w.heap.size 42 2 va ka xa
  ob : wr.ownsRow w.heap.size 42 2 vb kb xb
  sep : ∀ B, va.ownBlock = some B → vb.ownBlock ≠ some B
section
variable {w wr wq : World} {va vb v' : Value} {ka kb : Nat} {xa xb ns : List Value}
theorem Two.next (h : Two w va vb ka kb xa xb wr) (hb : Below wr.heap.size wr wq) : Two w va vb ka kb xa xb wq :=
  ⟨h.bel.trans (hb.mono h.bel.size), own_next h.oa hb, own_next h.ob hb, h.sep⟩
theorem Two.swap (h : Two w va vb ka kb xa xb wr) : Two w vb va kb ka xb xa wr := ⟨h.bel, h.ob, h.oa, fun B h1 h2 => h.sep B h2 h1⟩
theorem Two.app (h : Two w va vb ka kb xa xb wr) (ho : wq.ownsRow w.heap.size 42 2 v' (ka + 1) (xa ++ ns)) (hg : wr.grownBy wq va.ownBlock) (hat : v'.ownBlock = va.ownBlock ∨ v'.ownBlock = some wr.heap.size) :
    Two w v' vb (ka + 1) kb (xa ++ ns) xb wq := by
  refine ⟨h.bel.grown hg h.bel.size (fun B hB => (own_at h.oa hB).1), ho, own_of_blocks h.ob fun B hB => hg.block B (h.ob.lt _ hB).2 (fun e => h.sep B e.symm hB), fun B hB hz => ?_⟩
  rcases hat with hf | hf
  · rw [hf] at hB
    exact h.sep B hB hz
  · rw [hf] at hB
    injection hB with hB
    have := (h.ob.lt _ hz).2
    omega
end
section
variable {α : Type} {R : α → List Value} {eT sT : TypeId} {w wr wq : World} {base : Nat} {LL : List (List α)} {lv : Value} {rows : List Value}
/-- Another list grows, of the same kind. -/
theorem GrdI.aside (h : GrdI R eT sT w base LL lv rows wr) (hne : eT ≠ sT) {row : Option Nat} (hg : wr.grownBy wq row) (hr : ∀ B, row = some B → w.heap.size ≤ B ∧ lv.ownBlock ≠ some B ∧ ∃ cs, wr.heap[B]? = some (.cells cs sT (0, 0))) : GrdI R eT sT w base LL lv rows wq :=
  ⟨h.bel.grown hg h.bel.size (fun B hB => (hr B hB).1), Go.Proofs.YtdlaphlpimlgdaaGreatDoor.own_of_blocks h.own fun B hB => hg.block B (h.own.lt _ hB).2 (fun e => (hr B e.symm).2.1 hB), ⟨h.rws.1, fun j row hj => by
    obtain ⟨v, h1, h2⟩ := h.rws.2 j row hj
    refine ⟨v, h1, h2.keep fun b cs _ hc => (hg.block b (Array.getElem?_eq_some_iff.1 hc).1 (fun e => ?_)).trans hc⟩
    obtain ⟨_, _, cs', hc'⟩ := hr b e.symm
    rw [hc] at hc'
    injection hc' with hc'
    injection hc' with _ ht
    exact hne ht⟩, h.low⟩
theorem RowIs.aside {row : List α} {v : Value} (h : RowIs R eT base row v wr) (hne : eT ≠ sT) {rw' : Option Nat} (hg : wr.grownBy wq rw') (hr : ∀ B, rw' = some B → ∃ cs, wr.heap[B]? = some (.cells cs sT (0, 0))) : RowIs R eT base row v wq :=
  h.keep fun b cs _ hc => (hg.block b (Array.getElem?_eq_some_iff.1 hc).1 (fun e => by
    obtain ⟨cs', hc'⟩ := hr b e.symm
    rw [hc] at hc'
    injection hc' with hc'
    injection hc' with _ ht
    exact hne ht)).trans hc
theorem RowIs.below {row : List α} {v : Value} (h : RowIs R eT base row v wr) (hb : Below wr.heap.size wr wq) : RowIs R eT base row v wq :=
  h.keep fun _ _ _ hc => (hb.block _ (Array.getElem?_eq_some_iff.1 hc).1).trans hc
end
/-- Two lists of rows of spans. -/
structure Twin (w : World) (base : Nat) (LA LB : List (List Sp)) (va vb : Value) (ra rb : List Value) (wr : World) : Prop where
  a : GrdI prR 42 40 w base LA va ra wr
  b : GrdI prR 42 40 w base LB vb rb wr
  sep : ∀ B, va.ownBlock = some B → vb.ownBlock ≠ some B
section
variable {w wr wq : World} {base : Nat} {LA LB : List (List Sp)} {va vb v v' : Value} {ra rb : List Value} {row : List Sp}
theorem Twin.nil (hb : Below w.heap.size w wr) (hl : w.heap.size ≤ base) : Twin w base [] [] (.slice none 0 0) (.slice none 0 0) [] [] wr :=
  ⟨GrdI.nil hb hl, GrdI.nil hb hl, fun _ h => by simp [Value.ownBlock] at h⟩
theorem Twin.below (h : Twin w base LA LB va vb ra rb wr) (hb : Below wr.heap.size wr wq) : Twin w base LA LB va vb ra rb wq := ⟨h.a.below hb, h.b.below hb, h.sep⟩
theorem Twin.swap (h : Twin w base LA LB va vb ra rb wr) : Twin w base LB LA vb va rb ra wr := ⟨h.b, h.a, fun B h1 h2 => h.sep B h2 h1⟩
theorem Twin.app {o : Obj} (h : Twin w base LA LB va vb ra rb wr) (hr : RowIs prR 42 base row v wr) (ho : wq.ownsRow base 40 1 v' (LA.length + 1) (ra ++ [v])) (hg : (wr.alloc o).grownBy wq va.ownBlock) (hat : v'.ownBlock = va.ownBlock ∨ v'.ownBlock = some (wr.alloc o).heap.size) :
    Twin w base (LA ++ [row]) LB v' vb (ra ++ [v]) rb wq := by
  have hb0 := (Below.refl wr.heap.size wr).alloc (Nat.le_refl _) o
  have hb := h.b.below hb0
  have hat' : ∀ B, va.ownBlock = some B → ∃ cs, (wr.alloc o).heap[B]? = some (.cells cs 40 (0, 0)) := fun B hB => by
    obtain ⟨_, cur, hc⟩ := own_at h.a.own hB
    exact ⟨cur, (hb0.block _ (Array.getElem?_eq_some_iff.1 hc).1).trans hc⟩
  refine ⟨h.a.append (by decide) hr ho hg, hb.aside (by decide) hg fun B hB => ⟨Nat.le_trans h.a.low (own_at h.a.own hB).1, h.sep B hB, hat' B hB⟩, fun B hB hz => ?_⟩
  rcases hat with hf | hf
  · rw [hf] at hB
    exact h.sep B hB hz
  · rw [hf] at hB
    injection hB with hB
    have := (hb.own.lt _ hz).2
    omega
theorem Twin.other {o : Obj} {LC : List (List Sp)} {rowc : List Sp} {vc : Value} (h : Twin w base LA LC va vb ra rb wr) (hr : RowIs prR 42 base rowc vc wr) (hg : (wr.alloc o).grownBy wq va.ownBlock) : RowIs prR 42 base rowc vc wq := by
  have hb0 := (Below.refl wr.heap.size wr).alloc (Nat.le_refl _) o
  exact (hr.below hb0).aside (sT := 40) (by decide) hg fun B hB => by
    obtain ⟨_, cur, hc⟩ := own_at h.a.own hB
    exact ⟨cur, (hb0.block _ (Array.getElem?_eq_some_iff.1 hc).1).trans hc⟩
end
end Go.Proofs.YtdlaphlpimlgdaaGreatDoor

namespace Go.Proofs.YtdlaphlpimlgdaaGreatDoor
open Go.RowKit Go.Shelf

/-- All loops of a body, the outer ones first. -/
def loopsIn : Code → List Code
  | .loop c => c :: loopsIn c
  | .seq a b => loopsIn a ++ loopsIn b
  | .block _ c => loopsIn c
  | .scope c => loopsIn c
  | .cond _ a b => loopsIn a ++ loopsIn b
  | _ => []
set_option maxRecDepth 1000000 in
noncomputable def bodyL3 : Code := ((Tryz.f17.body.map loopsIn).getD []).getD 2 .skip
set_option maxRecDepth 1000000 in
set_option maxHeartbeats 40000000 in
theorem loopL3 (AP A B : Option Addr) (np cp bs n ca cb : Nat) (xs ys : List (List Sp)) (v : World) (_hn : n ≤ 10) (_hnp : np ≤ 6)
    (hr : ∀ t, t < n → ∃ rx ry, xs[t]? = some rx ∧ ys[t]? = some ry ∧ rx.length = np ∧ ry.length = np ∧ ∀ (j : Nat) (x y : Sp), rx[j]? = some x → ry[j]? = some y → x.1 ≤ y.1 ∧ x.2 ≤ y.2)
    (hA : SpsAt v v.heap.size A xs) (hB : SpsAt v v.heap.size B ys) (hbs : bs < v.heap.size) (hP : v.cell? ⟨bs, 0, none⟩ = some (.slice AP np cp))
    {Q : Exit → Act → World → Prop} {c0 c1 c2 c3 c4 c5 c6 c7 c9 c10 c11 c12 c13 c14 c15 c17 c18 c19 c20 c21 c22 c23 c25 c26 c27 c28 c29 c30 c31 c33 c36 c37 c38 c39 c40 c41 c42 c43 c44 c45 c46 c47 c48 c49 c50 c51 c52 c53 c54 c55 c56 c57 c58 c59 c60 c61 c62 c63 c64 c65 c66 c67 c68 c69 c70 c71 c72 c73 c74 c75 c76 c77 c78 c79 c80 c81 c82 c83 c84 c85 c86 c87 c88 c89 c90 c91 c92 c93 c94 c95 c96 c97 c98 c99 c100 c101 c102 c103 c104 c105 c106 c107 c108 c109 c110 c111 c112 c113 c114 c115 c116 c117 c118 c119 c120 c121 c122 c123 c124 c125 c126 c127 c128 c129 c130 c131 c132 c133 c134 c135 c136 c137 c138 c139 c140 c141 c142 c143 c144 c145 c146 c147 c148 c149 c150 c151 c152 c153 c154 c155 c156 c157 c158 c159 c160 c161 c162 c163 c164 c165 c166 c167 c168 c169 c170 c171 c172 c173 c174 c175 c176 c177 c178 c179 c180 c181 c182 c183 c184 c185 c186 c187 c188 c189 c190 c191 c192 c193 c194 c195 c265 c266 c267 c268 c269 c270 c271 c272 c273 c274 c275 c276 c277 c278 c279 c280 c281 c282 c283 c284 c285 c286 c287 c288 c289 c290 c291 c292 c293 c294 c295 c296 c297 c298 c299 c300 c301 c302 c303 c304 c305 c306 c307 c308 c309 c310 c311 c312 c313 c314 c315 c316 c317 c318 c319 c320 c321 c322 c323 c324 c325 c326 c327 c328 c329 c330 c331 c332 c333 c334 c335 c336 c337 c338 c339 c340 c341 c342 c343 c344 c345 c346 c347 c348 c349 c350 c351 c352 c353 c354 c355 c356 c357 c358 c359 c360 c361 c362 c363 c364 c365 c366 c367 c368 c369 c370 c371 c372 c373 c374 c375 c376 c377 c378 c379 c380 c381 c382 c383 c384 c385 c386 c387 c388 c389 c390 c391 c392 c393 c394 c395 c396 u16 u35 u196 u197 u198 u199 u200 u201 u202 u203 u204 u205 u206 u207 u208 u209 u210 u211 u212 u213 u214 u215 u216 u217 u218 u219 u220 u221 u222 u223 u224 u225 u226 u227 u228 u229 u230 u231 u232 u233 u234 u235 u236 u237 u238 u239 u240 u241 u242 u243 u244 u245 u246 u247 u248 u249 u250 u251 u252 u253 u254 u255 u256 u257 u258 u259 u260 u261 u262 u263 u264 : Value}
    (hexit : ∀ (w' : World) (e16 e34 e35 e196 e197 e198 e199 e200 e201 e202 e203 e204 e205 e206 e207 e208 e209 e210 e211 e212 e213 e214 e215 e216 e217 e218 e219 e220 e221 e222 e223 e224 e225 e226 e227 e228 e229 e230 e231 e232 e233 e234 e235 e236 e237 e238 e239 e240 e241 e242 e243 e244 e245 e246 e247 e248 e249 e250 e251 e252 e253 e254 e255 e256 e257 e258 e259 e260 e261 e262 e263 e264 : Value), Below v.heap.size v w' → Q (.exit 4) ⟨List.toArray (c0 :: c1 :: c2 :: c3 :: c4 :: c5 :: c6 :: c7 :: .pointer (some ⟨bs, 0, none⟩) :: c9 :: c10 :: c11 :: c12 :: c13 :: c14 :: c15 :: e16 :: c17 :: c18 :: c19 :: c20 :: c21 :: c22 :: c23 :: .slice B n cb :: c25 :: c26 :: c27 :: c28 :: c29 :: c30 :: c31 :: .slice A n ca :: c33 :: e34 :: e35 :: c36 :: c37 :: c38 :: c39 :: c40 :: c41 :: c42 :: c43 :: c44 :: c45 :: c46 :: c47 :: c48 :: c49 :: c50 :: c51 :: c52 :: c53 :: c54 :: c55 :: c56 :: c57 :: c58 :: c59 :: c60 :: c61 :: c62 :: c63 :: c64 :: c65 :: c66 :: c67 :: c68 :: c69 :: c70 :: c71 :: c72 :: c73 :: c74 :: c75 :: c76 :: c77 :: c78 :: c79 :: c80 :: c81 :: c82 :: c83 :: c84 :: c85 :: c86 :: c87 :: c88 :: c89 :: c90 :: c91 :: c92 :: c93 :: c94 :: c95 :: c96 :: c97 :: c98 :: c99 :: c100 :: c101 :: c102 :: c103 :: c104 :: c105 :: c106 :: c107 :: c108 :: c109 :: c110 :: c111 :: c112 :: c113 :: c114 :: c115 :: c116 :: c117 :: c118 :: c119 :: c120 :: c121 :: c122 :: c123 :: c124 :: c125 :: c126 :: c127 :: c128 :: c129 :: c130 :: c131 :: c132 :: c133 :: c134 :: c135 :: c136 :: c137 :: c138 :: c139 :: c140 :: c141 :: c142 :: c143 :: c144 :: c145 :: c146 :: c147 :: c148 :: c149 :: c150 :: c151 :: c152 :: c153 :: c154 :: c155 :: c156 :: c157 :: c158 :: c159 :: c160 :: c161 :: c162 :: c163 :: c164 :: c165 :: c166 :: c167 :: c168 :: c169 :: c170 :: c171 :: c172 :: c173 :: c174 :: c175 :: c176 :: c177 :: c178 :: c179 :: c180 :: c181 :: c182 :: c183 :: c184 :: c185 :: c186 :: c187 :: c188 :: c189 :: c190 :: c191 :: c192 :: c193 :: c194 :: c195 :: e196 :: e197 :: e198 :: e199 :: e200 :: e201 :: e202 :: e203 :: e204 :: e205 :: e206 :: e207 :: e208 :: e209 :: e210 :: e211 :: e212 :: e213 :: e214 :: e215 :: e216 :: e217 :: e218 :: e219 :: e220 :: e221 :: e222 :: e223 :: e224 :: e225 :: e226 :: e227 :: e228 :: e229 :: e230 :: e231 :: e232 :: e233 :: e234 :: e235 :: e236 :: e237 :: e238 :: e239 :: e240 :: e241 :: e242 :: e243 :: e244 :: e245 :: e246 :: e247 :: e248 :: e249 :: e250 :: e251 :: e252 :: e253 :: e254 :: e255 :: e256 :: e257 :: e258 :: e259 :: e260 :: e261 :: e262 :: e263 :: e264 :: c265 :: c266 :: c267 :: c268 :: c269 :: c270 :: c271 :: c272 :: c273 :: c274 :: c275 :: c276 :: c277 :: c278 :: c279 :: c280 :: c281 :: c282 :: c283 :: c284 :: c285 :: c286 :: c287 :: c288 :: c289 :: c290 :: c291 :: c292 :: c293 :: c294 :: c295 :: c296 :: c297 :: c298 :: c299 :: c300 :: c301 :: c302 :: c303 :: c304 :: c305 :: c306 :: c307 :: c308 :: c309 :: c310 :: c311 :: c312 :: c313 :: c314 :: c315 :: c316 :: c317 :: c318 :: c319 :: c320 :: c321 :: c322 :: c323 :: c324 :: c325 :: c326 :: c327 :: c328 :: c329 :: c330 :: c331 :: c332 :: c333 :: c334 :: c335 :: c336 :: c337 :: c338 :: c339 :: c340 :: c341 :: c342 :: c343 :: c344 :: c345 :: c346 :: c347 :: c348 :: c349 :: c350 :: c351 :: c352 :: c353 :: c354 :: c355 :: c356 :: c357 :: c358 :: c359 :: c360 :: c361 :: c362 :: c363 :: c364 :: c365 :: c366 :: c367 :: c368 :: c369 :: c370 :: c371 :: c372 :: c373 :: c374 :: c375 :: c376 :: c377 :: c378 :: c379 :: c380 :: c381 :: c382 :: c383 :: c384 :: c385 :: c386 :: c387 :: c388 :: c389 :: c390 :: c391 :: c392 :: c393 :: c394 :: c395 :: c396 :: []), []⟩ w') :
    Code.wp Tryz.prog (Code.loop bodyL3) Q ⟨List.toArray (c0 :: c1 :: c2 :: c3 :: c4 :: c5 :: c6 :: c7 :: .pointer (some ⟨bs, 0, none⟩) :: c9 :: c10 :: c11 :: c12 :: c13 :: c14 :: c15 :: u16 :: c17 :: c18 :: c19 :: c20 :: c21 :: c22 :: c23 :: .slice B n cb :: c25 :: c26 :: c27 :: c28 :: c29 :: c30 :: c31 :: .slice A n ca :: c33 :: .int .i64 0 :: u35 :: c36 :: c37 :: c38 :: c39 :: c40 :: c41 :: c42 :: c43 :: c44 :: c45 :: c46 :: c47 :: c48 :: c49 :: c50 :: c51 :: c52 :: c53 :: c54 :: c55 :: c56 :: c57 :: c58 :: c59 :: c60 :: c61 :: c62 :: c63 :: c64 :: c65 :: c66 :: c67 :: c68 :: c69 :: c70 :: c71 :: c72 :: c73 :: c74 :: c75 :: c76 :: c77 :: c78 :: c79 :: c80 :: c81 :: c82 :: c83 :: c84 :: c85 :: c86 :: c87 :: c88 :: c89 :: c90 :: c91 :: c92 :: c93 :: c94 :: c95 :: c96 :: c97 :: c98 :: c99 :: c100 :: c101 :: c102 :: c103 :: c104 :: c105 :: c106 :: c107 :: c108 :: c109 :: c110 :: c111 :: c112 :: c113 :: c114 :: c115 :: c116 :: c117 :: c118 :: c119 :: c120 :: c121 :: c122 :: c123 :: c124 :: c125 :: c126 :: c127 :: c128 :: c129 :: c130 :: c131 :: c132 :: c133 :: c134 :: c135 :: c136 :: c137 :: c138 :: c139 :: c140 :: c141 :: c142 :: c143 :: c144 :: c145 :: c146 :: c147 :: c148 :: c149 :: c150 :: c151 :: c152 :: c153 :: c154 :: c155 :: c156 :: c157 :: c158 :: c159 :: c160 :: c161 :: c162 :: c163 :: c164 :: c165 :: c166 :: c167 :: c168 :: c169 :: c170 :: c171 :: c172 :: c173 :: c174 :: c175 :: c176 :: c177 :: c178 :: c179 :: c180 :: c181 :: c182 :: c183 :: c184 :: c185 :: c186 :: c187 :: c188 :: c189 :: c190 :: c191 :: c192 :: c193 :: c194 :: c195 :: u196 :: u197 :: u198 :: u199 :: u200 :: u201 :: u202 :: u203 :: u204 :: u205 :: u206 :: u207 :: u208 :: u209 :: u210 :: u211 :: u212 :: u213 :: u214 :: u215 :: u216 :: u217 :: u218 :: u219 :: u220 :: u221 :: u222 :: u223 :: u224 :: u225 :: u226 :: u227 :: u228 :: u229 :: u230 :: u231 :: u232 :: u233 :: u234 :: u235 :: u236 :: u237 :: u238 :: u239 :: u240 :: u241 :: u242 :: u243 :: u244 :: u245 :: u246 :: u247 :: u248 :: u249 :: u250 :: u251 :: u252 :: u253 :: u254 :: u255 :: u256 :: u257 :: u258 :: u259 :: u260 :: u261 :: u262 :: u263 :: u264 :: c265 :: c266 :: c267 :: c268 :: c269 :: c270 :: c271 :: c272 :: c273 :: c274 :: c275 :: c276 :: c277 :: c278 :: c279 :: c280 :: c281 :: c282 :: c283 :: c284 :: c285 :: c286 :: c287 :: c288 :: c289 :: c290 :: c291 :: c292 :: c293 :: c294 :: c295 :: c296 :: c297 :: c298 :: c299 :: c300 :: c301 :: c302 :: c303 :: c304 :: c305 :: c306 :: c307 :: c308 :: c309 :: c310 :: c311 :: c312 :: c313 :: c314 :: c315 :: c316 :: c317 :: c318 :: c319 :: c320 :: c321 :: c322 :: c323 :: c324 :: c325 :: c326 :: c327 :: c328 :: c329 :: c330 :: c331 :: c332 :: c333 :: c334 :: c335 :: c336 :: c337 :: c338 :: c339 :: c340 :: c341 :: c342 :: c343 :: c344 :: c345 :: c346 :: c347 :: c348 :: c349 :: c350 :: c351 :: c352 :: c353 :: c354 :: c355 :: c356 :: c357 :: c358 :: c359 :: c360 :: c361 :: c362 :: c363 :: c364 :: c365 :: c366 :: c367 :: c368 :: c369 :: c370 :: c371 :: c372 :: c373 :: c374 :: c375 :: c376 :: c377 :: c378 :: c379 :: c380 :: c381 :: c382 :: c383 :: c384 :: c385 :: c386 :: c387 :: c388 :: c389 :: c390 :: c391 :: c392 :: c393 :: c394 :: c395 :: c396 :: []), []⟩ v := by
  have HR := Lib.hid hr; have HA := Lib.hid hA; have HB := Lib.hid hB; have HBS := Lib.hid hbs; have HP := Lib.hid hP; have HEX := Lib.hid hexit
  clear hr hA hB hbs hP hexit
  conv => arg 2; arg 1; whnf
  go_loopw [34] (fun i wr => ∃ t : Nat, t ≤ n ∧ i = .int .i64 t ∧ Below v.heap.size v wr) (fun i _ => n - (intOf i).toNat)
  case atStart => exact ⟨0, Nat.zero_le _, rfl, Below.refl _ _⟩
  case round =>
    obtain ⟨t, ht, rfl, hbr⟩ := hrel
    have HBR := Lib.hid hbr
    by_cases hlt : t < n
    · obtain ⟨rx, ry, e1, e2, l1, l2, hle⟩ := HR.out t hlt
      obtain ⟨b1, o1, A1, m1, k1, rfl, hb1, hm1, x1, p1, _⟩ := sps_row (HA.out.up hbr) e1
      obtain ⟨b2, o2, A2, m2, k2, rfl, hb2, hm2, x2, p2, _⟩ := sps_row (HB.out.up hbr) e2
      rw [l1] at hm1
      rw [l2] at hm2
      subst hm1 hm2
      have HL1 := Lib.hid l1; have HL2 := Lib.hid l2
      have HP1 := Lib.hid p1; have HP2 := Lib.hid p2; have HLE := Lib.hid hle
      have t0 : (0 : Int) ≤ (t : Int) := by omega
      have t1 : (t : Int) < (n : Int) := by omega
      have cP := ((bcell hbr).1 _ _ HBS.out).trans HP.out
      have hmm : ((m2 : Int) != (m2 : Int)) = false := by simp
      have hbs' : bs < wr.heap.size := Nat.lt_of_lt_of_le HBS.out hbr.size
      clear e1 e2 l1 l2 p1 p2 hle hbr
      go_wp2_with fail
      go_quiet (fail)
      go_wp2_with fail
      have HBQ := Lib.hid (belN HBR.out nq)
      have x1' : (wr.drewN nq).cell? ⟨b1, o1 + t, none⟩ = some (.slice A1 m2 k1) := x1
      have x2' : (wr.drewN nq).cell? ⟨b2, o2 + t, none⟩ = some (.slice A2 m2 k2) := x2
      have cP' : (wr.drewN nq).cell? ⟨bs, 0, none⟩ = some (.slice AP m2 cp) := cP
      have HQ1 : Hid (PrsAt (wr.drewN nq) (wr.drewN nq).heap.size A1 rx) := Lib.hid HP1.out
      have HQ2 : Hid (PrsAt (wr.drewN nq) (wr.drewN nq).heap.size A2 ry) := Lib.hid HP2.out
      have hb1' : b1 < (wr.drewN nq).heap.size := hb1
      have hb2' : b2 < (wr.drewN nq).heap.size := hb2
      have hb3' : bs < (wr.drewN nq).heap.size := hbs'
      clear x1 x2 cP HP1 HP2 hb1 hb2 hbs' HBR hmm
      generalize wr.drewN nq = wq at *
      have HD1 := Lib.hid x1'; have HD2 := Lib.hid x2'; have HD3 := Lib.hid cP'; have HBB := Lib.hid (And.intro hb1' (And.intro hb2' hb3'))
      clear x1' x2' cP' hb1' hb2' hb3'
      go_loopw [35] (fun i wz => ∃ j : Nat, j ≤ m2 ∧ i = .int .i64 j ∧ Below wq.heap.size wq wz) (fun i _ => m2 - (intOf i).toNat)
      case atStart => exact ⟨0, Nat.zero_le _, rfl, Below.refl _ _⟩
      case round =>
        obtain ⟨j, hj, rfl, hbz⟩ := hrel
        have HBZ := Lib.hid hbz
        have d1 := ((bcell hbz).1 _ _ HBB.out.1).trans HD1.out
        have d2 := ((bcell hbz).1 _ _ HBB.out.2.1).trans HD2.out
        have d3 := ((bcell hbz).1 _ _ HBB.out.2.2).trans HD3.out
        by_cases hlj : j < m2
        · obtain ⟨x, hx⟩ := get_of_lt (l := rx) (k := j) (by rw [HL1.out]; exact hlj)
          obtain ⟨y, hy⟩ := get_of_lt (l := ry) (k := j) (by rw [HL2.out]; exact hlj)
          obtain ⟨e1, f1, rfl, he1, x1, x2⟩ := prs_el HQ1.out hx
          obtain ⟨e2, f2, rfl, he2, x3, x4⟩ := prs_el HQ2.out hy
          replace x1 := ((bcell hbz).1 _ _ he1).trans x1
          replace x2 := ((bcell hbz).1 _ _ he1).trans x2
          replace x3 := ((bcell hbz).1 _ _ he2).trans x3
          replace x4 := ((bcell hbz).1 _ _ he2).trans x4
          have hin := HLE.out j x y hx hy
          obtain ⟨z1, z2⟩ := x
          obtain ⟨y1, y2⟩ := y
          simp only at x1 x2 x3 x4 hin
          have j0 : (0 : Int) ≤ (j : Int) := by omega
          have j1 : (j : Int) < (m2 : Int) := by omega
          have n0 : ¬ y1 < z1 := by omega
          have n1 : decide (y1 < z1) = false := decide_eq_false n0
          have n2 : ¬ y2 < z2 := by omega
          have n3 : decide (y2 < z2) = false := decide_eq_false n2
          clear hx hy hin he1 he2 hbz
          go_wp2_with fail
          go_quiet (fail)
          go_wp2_with fail
          exact ⟨⟨j + 1, by omega, by go_num, belN HBZ.out _⟩, by simp [intOf]; omega⟩
        · have hje : j = m2 := by omega
          have j1 : ¬ (j : Int) < (m2 : Int) := by omega
          clear hbz
          go_wp2_with fail
          exact ⟨⟨t + 1, by omega, by go_num, HBQ.out.trans (HBZ.out.mono HBQ.out.size)⟩, by simp [intOf]; omega⟩
    · have hte : t = n := by omega
      have t1 : ¬ (t : Int) < (n : Int) := by omega
      clear hbr
      go_wp2_with fail
      exact HEX.out _ _ _ _ _ _ _ _ _ _ _ _ _ _ _ _ _ _ _ _ _ _ _ _ _ _ _ _ _ _ _ _ _ _ _ _ _ _ _ _ _ _ _ _ _ _ _ _ _ _ _ _ _ _ _ _ _ _ _ _ _ _ _ _ _ _ _ _ _ _ _ _ _ HBR.out
set_option maxRecDepth 1000000 in
noncomputable def bodyL6 : Code := ((Tryz.f17.body.map loopsIn).getD []).getD 5 .skip
set_option maxRecDepth 1000000 in
set_option maxHeartbeats 40000000 in
theorem loopL6 (AP A B : Option Addr) (np cp bs n ca cb : Nat) (xs ys : List (List Sp)) (v : World) (_hn : n ≤ 10) (_hnp : np ≤ 6)
    (hr : ∀ t, t < n → ∃ rx ry, xs[t]? = some rx ∧ ys[t]? = some ry ∧ rx.length = np ∧ ry.length = np ∧ ∀ (j : Nat) (x y : Sp), rx[j]? = some x → ry[j]? = some y → y.1 ≤ x.1 ∧ y.2 ≤ x.2)
    (hA : SpsAt v v.heap.size A xs) (hB : SpsAt v v.heap.size B ys) (hbs : bs < v.heap.size) (hP : v.cell? ⟨bs, 0, none⟩ = some (.slice AP np cp))
    {Q : Exit → Act → World → Prop} {c0 c1 c2 c3 c4 c5 c6 c7 c9 c10 c11 c12 c13 c14 c15 c17 c18 c19 c20 c21 c22 c23 c24 c25 c26 c27 c29 c30 c31 c32 c33 c34 c35 c36 c37 c38 c40 c43 c44 c45 c46 c47 c48 c49 c50 c51 c52 c53 c54 c55 c56 c57 c58 c59 c60 c61 c62 c63 c64 c65 c66 c67 c68 c69 c70 c71 c72 c73 c74 c75 c76 c77 c78 c79 c80 c81 c82 c83 c84 c85 c86 c87 c88 c89 c90 c91 c92 c93 c94 c95 c96 c97 c98 c99 c100 c101 c102 c103 c104 c105 c106 c107 c108 c109 c110 c111 c112 c113 c114 c115 c116 c117 c118 c119 c120 c121 c122 c123 c124 c125 c126 c127 c128 c129 c130 c131 c132 c133 c134 c135 c136 c137 c138 c139 c140 c141 c142 c143 c144 c145 c146 c147 c148 c149 c150 c151 c152 c153 c154 c155 c156 c157 c158 c159 c160 c161 c162 c163 c164 c165 c166 c167 c168 c169 c170 c171 c172 c173 c174 c175 c176 c177 c178 c179 c180 c181 c182 c183 c184 c185 c186 c187 c188 c189 c190 c191 c192 c193 c194 c195 c196 c197 c198 c199 c200 c201 c202 c203 c204 c205 c206 c207 c208 c209 c210 c211 c212 c213 c214 c215 c216 c217 c218 c219 c220 c221 c222 c223 c224 c225 c226 c227 c228 c229 c230 c231 c232 c233 c234 c235 c236 c237 c238 c239 c240 c241 c242 c243 c244 c245 c246 c247 c248 c249 c250 c251 c252 c253 c254 c255 c256 c257 c258 c259 c260 c261 c262 c263 c264 c265 c266 c267 c268 c269 c270 c271 c272 c273 c274 c275 c276 c277 c278 c279 c280 c281 c282 c283 c284 c285 c286 c287 c288 c289 c290 c291 c292 c293 c294 c295 c296 c297 c298 c299 c300 c301 c302 c303 c304 c305 c306 c307 c308 c309 c310 c311 c312 c313 c314 c315 c316 c317 c318 c319 c320 c321 c322 c323 c324 c325 c326 c396 u16 u42 u327 u328 u329 u330 u331 u332 u333 u334 u335 u336 u337 u338 u339 u340 u341 u342 u343 u344 u345 u346 u347 u348 u349 u350 u351 u352 u353 u354 u355 u356 u357 u358 u359 u360 u361 u362 u363 u364 u365 u366 u367 u368 u369 u370 u371 u372 u373 u374 u375 u376 u377 u378 u379 u380 u381 u382 u383 u384 u385 u386 u387 u388 u389 u390 u391 u392 u393 u394 u395 : Value}
    (hexit : ∀ (w' : World) (e16 e41 e42 e327 e328 e329 e330 e331 e332 e333 e334 e335 e336 e337 e338 e339 e340 e341 e342 e343 e344 e345 e346 e347 e348 e349 e350 e351 e352 e353 e354 e355 e356 e357 e358 e359 e360 e361 e362 e363 e364 e365 e366 e367 e368 e369 e370 e371 e372 e373 e374 e375 e376 e377 e378 e379 e380 e381 e382 e383 e384 e385 e386 e387 e388 e389 e390 e391 e392 e393 e394 e395 : Value), Below v.heap.size v w' → Q (.exit 10) ⟨List.toArray (c0 :: c1 :: c2 :: c3 :: c4 :: c5 :: c6 :: c7 :: .pointer (some ⟨bs, 0, none⟩) :: c9 :: c10 :: c11 :: c12 :: c13 :: c14 :: c15 :: e16 :: c17 :: c18 :: c19 :: c20 :: c21 :: c22 :: c23 :: c24 :: c25 :: c26 :: c27 :: .slice B n cb :: c29 :: c30 :: c31 :: c32 :: c33 :: c34 :: c35 :: c36 :: c37 :: c38 :: .slice A n ca :: c40 :: e41 :: e42 :: c43 :: c44 :: c45 :: c46 :: c47 :: c48 :: c49 :: c50 :: c51 :: c52 :: c53 :: c54 :: c55 :: c56 :: c57 :: c58 :: c59 :: c60 :: c61 :: c62 :: c63 :: c64 :: c65 :: c66 :: c67 :: c68 :: c69 :: c70 :: c71 :: c72 :: c73 :: c74 :: c75 :: c76 :: c77 :: c78 :: c79 :: c80 :: c81 :: c82 :: c83 :: c84 :: c85 :: c86 :: c87 :: c88 :: c89 :: c90 :: c91 :: c92 :: c93 :: c94 :: c95 :: c96 :: c97 :: c98 :: c99 :: c100 :: c101 :: c102 :: c103 :: c104 :: c105 :: c106 :: c107 :: c108 :: c109 :: c110 :: c111 :: c112 :: c113 :: c114 :: c115 :: c116 :: c117 :: c118 :: c119 :: c120 :: c121 :: c122 :: c123 :: c124 :: c125 :: c126 :: c127 :: c128 :: c129 :: c130 :: c131 :: c132 :: c133 :: c134 :: c135 :: c136 :: c137 :: c138 :: c139 :: c140 :: c141 :: c142 :: c143 :: c144 :: c145 :: c146 :: c147 :: c148 :: c149 :: c150 :: c151 :: c152 :: c153 :: c154 :: c155 :: c156 :: c157 :: c158 :: c159 :: c160 :: c161 :: c162 :: c163 :: c164 :: c165 :: c166 :: c167 :: c168 :: c169 :: c170 :: c171 :: c172 :: c173 :: c174 :: c175 :: c176 :: c177 :: c178 :: c179 :: c180 :: c181 :: c182 :: c183 :: c184 :: c185 :: c186 :: c187 :: c188 :: c189 :: c190 :: c191 :: c192 :: c193 :: c194 :: c195 :: c196 :: c197 :: c198 :: c199 :: c200 :: c201 :: c202 :: c203 :: c204 :: c205 :: c206 :: c207 :: c208 :: c209 :: c210 :: c211 :: c212 :: c213 :: c214 :: c215 :: c216 :: c217 :: c218 :: c219 :: c220 :: c221 :: c222 :: c223 :: c224 :: c225 :: c226 :: c227 :: c228 :: c229 :: c230 :: c231 :: c232 :: c233 :: c234 :: c235 :: c236 :: c237 :: c238 :: c239 :: c240 :: c241 :: c242 :: c243 :: c244 :: c245 :: c246 :: c247 :: c248 :: c249 :: c250 :: c251 :: c252 :: c253 :: c254 :: c255 :: c256 :: c257 :: c258 :: c259 :: c260 :: c261 :: c262 :: c263 :: c264 :: c265 :: c266 :: c267 :: c268 :: c269 :: c270 :: c271 :: c272 :: c273 :: c274 :: c275 :: c276 :: c277 :: c278 :: c279 :: c280 :: c281 :: c282 :: c283 :: c284 :: c285 :: c286 :: c287 :: c288 :: c289 :: c290 :: c291 :: c292 :: c293 :: c294 :: c295 :: c296 :: c297 :: c298 :: c299 :: c300 :: c301 :: c302 :: c303 :: c304 :: c305 :: c306 :: c307 :: c308 :: c309 :: c310 :: c311 :: c312 :: c313 :: c314 :: c315 :: c316 :: c317 :: c318 :: c319 :: c320 :: c321 :: c322 :: c323 :: c324 :: c325 :: c326 :: e327 :: e328 :: e329 :: e330 :: e331 :: e332 :: e333 :: e334 :: e335 :: e336 :: e337 :: e338 :: e339 :: e340 :: e341 :: e342 :: e343 :: e344 :: e345 :: e346 :: e347 :: e348 :: e349 :: e350 :: e351 :: e352 :: e353 :: e354 :: e355 :: e356 :: e357 :: e358 :: e359 :: e360 :: e361 :: e362 :: e363 :: e364 :: e365 :: e366 :: e367 :: e368 :: e369 :: e370 :: e371 :: e372 :: e373 :: e374 :: e375 :: e376 :: e377 :: e378 :: e379 :: e380 :: e381 :: e382 :: e383 :: e384 :: e385 :: e386 :: e387 :: e388 :: e389 :: e390 :: e391 :: e392 :: e393 :: e394 :: e395 :: c396 :: []), []⟩ w') :
    Code.wp Tryz.prog (Code.loop bodyL6) Q ⟨List.toArray (c0 :: c1 :: c2 :: c3 :: c4 :: c5 :: c6 :: c7 :: .pointer (some ⟨bs, 0, none⟩) :: c9 :: c10 :: c11 :: c12 :: c13 :: c14 :: c15 :: u16 :: c17 :: c18 :: c19 :: c20 :: c21 :: c22 :: c23 :: c24 :: c25 :: c26 :: c27 :: .slice B n cb :: c29 :: c30 :: c31 :: c32 :: c33 :: c34 :: c35 :: c36 :: c37 :: c38 :: .slice A n ca :: c40 :: .int .i64 0 :: u42 :: c43 :: c44 :: c45 :: c46 :: c47 :: c48 :: c49 :: c50 :: c51 :: c52 :: c53 :: c54 :: c55 :: c56 :: c57 :: c58 :: c59 :: c60 :: c61 :: c62 :: c63 :: c64 :: c65 :: c66 :: c67 :: c68 :: c69 :: c70 :: c71 :: c72 :: c73 :: c74 :: c75 :: c76 :: c77 :: c78 :: c79 :: c80 :: c81 :: c82 :: c83 :: c84 :: c85 :: c86 :: c87 :: c88 :: c89 :: c90 :: c91 :: c92 :: c93 :: c94 :: c95 :: c96 :: c97 :: c98 :: c99 :: c100 :: c101 :: c102 :: c103 :: c104 :: c105 :: c106 :: c107 :: c108 :: c109 :: c110 :: c111 :: c112 :: c113 :: c114 :: c115 :: c116 :: c117 :: c118 :: c119 :: c120 :: c121 :: c122 :: c123 :: c124 :: c125 :: c126 :: c127 :: c128 :: c129 :: c130 :: c131 :: c132 :: c133 :: c134 :: c135 :: c136 :: c137 :: c138 :: c139 :: c140 :: c141 :: c142 :: c143 :: c144 :: c145 :: c146 :: c147 :: c148 :: c149 :: c150 :: c151 :: c152 :: c153 :: c154 :: c155 :: c156 :: c157 :: c158 :: c159 :: c160 :: c161 :: c162 :: c163 :: c164 :: c165 :: c166 :: c167 :: c168 :: c169 :: c170 :: c171 :: c172 :: c173 :: c174 :: c175 :: c176 :: c177 :: c178 :: c179 :: c180 :: c181 :: c182 :: c183 :: c184 :: c185 :: c186 :: c187 :: c188 :: c189 :: c190 :: c191 :: c192 :: c193 :: c194 :: c195 :: c196 :: c197 :: c198 :: c199 :: c200 :: c201 :: c202 :: c203 :: c204 :: c205 :: c206 :: c207 :: c208 :: c209 :: c210 :: c211 :: c212 :: c213 :: c214 :: c215 :: c216 :: c217 :: c218 :: c219 :: c220 :: c221 :: c222 :: c223 :: c224 :: c225 :: c226 :: c227 :: c228 :: c229 :: c230 :: c231 :: c232 :: c233 :: c234 :: c235 :: c236 :: c237 :: c238 :: c239 :: c240 :: c241 :: c242 :: c243 :: c244 :: c245 :: c246 :: c247 :: c248 :: c249 :: c250 :: c251 :: c252 :: c253 :: c254 :: c255 :: c256 :: c257 :: c258 :: c259 :: c260 :: c261 :: c262 :: c263 :: c264 :: c265 :: c266 :: c267 :: c268 :: c269 :: c270 :: c271 :: c272 :: c273 :: c274 :: c275 :: c276 :: c277 :: c278 :: c279 :: c280 :: c281 :: c282 :: c283 :: c284 :: c285 :: c286 :: c287 :: c288 :: c289 :: c290 :: c291 :: c292 :: c293 :: c294 :: c295 :: c296 :: c297 :: c298 :: c299 :: c300 :: c301 :: c302 :: c303 :: c304 :: c305 :: c306 :: c307 :: c308 :: c309 :: c310 :: c311 :: c312 :: c313 :: c314 :: c315 :: c316 :: c317 :: c318 :: c319 :: c320 :: c321 :: c322 :: c323 :: c324 :: c325 :: c326 :: u327 :: u328 :: u329 :: u330 :: u331 :: u332 :: u333 :: u334 :: u335 :: u336 :: u337 :: u338 :: u339 :: u340 :: u341 :: u342 :: u343 :: u344 :: u345 :: u346 :: u347 :: u348 :: u349 :: u350 :: u351 :: u352 :: u353 :: u354 :: u355 :: u356 :: u357 :: u358 :: u359 :: u360 :: u361 :: u362 :: u363 :: u364 :: u365 :: u366 :: u367 :: u368 :: u369 :: u370 :: u371 :: u372 :: u373 :: u374 :: u375 :: u376 :: u377 :: u378 :: u379 :: u380 :: u381 :: u382 :: u383 :: u384 :: u385 :: u386 :: u387 :: u388 :: u389 :: u390 :: u391 :: u392 :: u393 :: u394 :: u395 :: c396 :: []), []⟩ v := by
  have HR := Lib.hid hr; have HA := Lib.hid hA; have HB := Lib.hid hB; have HBS := Lib.hid hbs; have HP := Lib.hid hP; have HEX := Lib.hid hexit
  clear hr hA hB hbs hP hexit
  conv => arg 2; arg 1; whnf
  go_loopw [41] (fun i wr => ∃ t : Nat, t ≤ n ∧ i = .int .i64 t ∧ Below v.heap.size v wr) (fun i _ => n - (intOf i).toNat)
  case atStart => exact ⟨0, Nat.zero_le _, rfl, Below.refl _ _⟩
  case round =>
    obtain ⟨t, ht, rfl, hbr⟩ := hrel
    have HBR := Lib.hid hbr
    by_cases hlt : t < n
    · obtain ⟨rx, ry, e1, e2, l1, l2, hle⟩ := HR.out t hlt
      obtain ⟨b1, o1, A1, m1, k1, rfl, hb1, hm1, x1, p1, _⟩ := sps_row (HA.out.up hbr) e1
      obtain ⟨b2, o2, A2, m2, k2, rfl, hb2, hm2, x2, p2, _⟩ := sps_row (HB.out.up hbr) e2
      rw [l1] at hm1
      rw [l2] at hm2
      subst hm1 hm2
      have HL1 := Lib.hid l1; have HL2 := Lib.hid l2
      have HP1 := Lib.hid p1; have HP2 := Lib.hid p2; have HLE := Lib.hid hle
      have t0 : (0 : Int) ≤ (t : Int) := by omega
      have t1 : (t : Int) < (n : Int) := by omega
      have cP := ((bcell hbr).1 _ _ HBS.out).trans HP.out
      have hmm : ((m2 : Int) != (m2 : Int)) = false := by simp
      have hbs' : bs < wr.heap.size := Nat.lt_of_lt_of_le HBS.out hbr.size
      clear e1 e2 l1 l2 p1 p2 hle hbr
      go_wp2_with fail
      go_quiet (fail)
      go_wp2_with fail
      have HBQ := Lib.hid (belN HBR.out nq)
      have x1' : (wr.drewN nq).cell? ⟨b1, o1 + t, none⟩ = some (.slice A1 m2 k1) := x1
      have x2' : (wr.drewN nq).cell? ⟨b2, o2 + t, none⟩ = some (.slice A2 m2 k2) := x2
      have cP' : (wr.drewN nq).cell? ⟨bs, 0, none⟩ = some (.slice AP m2 cp) := cP
      have HQ1 : Hid (PrsAt (wr.drewN nq) (wr.drewN nq).heap.size A1 rx) := Lib.hid HP1.out
      have HQ2 : Hid (PrsAt (wr.drewN nq) (wr.drewN nq).heap.size A2 ry) := Lib.hid HP2.out
      have hb1' : b1 < (wr.drewN nq).heap.size := hb1
      have hb2' : b2 < (wr.drewN nq).heap.size := hb2
      have hb3' : bs < (wr.drewN nq).heap.size := hbs'
      clear x1 x2 cP HP1 HP2 hb1 hb2 hbs' HBR hmm
      generalize wr.drewN nq = wq at *
      have HD1 := Lib.hid x1'; have HD2 := Lib.hid x2'; have HD3 := Lib.hid cP'; have HBB := Lib.hid (And.intro hb1' (And.intro hb2' hb3'))
      clear x1' x2' cP' hb1' hb2' hb3'
      go_loopw [42] (fun i wz => ∃ j : Nat, j ≤ m2 ∧ i = .int .i64 j ∧ Below wq.heap.size wq wz) (fun i _ => m2 - (intOf i).toNat)
      case atStart => exact ⟨0, Nat.zero_le _, rfl, Below.refl _ _⟩
      case round =>
        obtain ⟨j, hj, rfl, hbz⟩ := hrel
        have HBZ := Lib.hid hbz
        have d1 := ((bcell hbz).1 _ _ HBB.out.1).trans HD1.out
        have d2 := ((bcell hbz).1 _ _ HBB.out.2.1).trans HD2.out
        have d3 := ((bcell hbz).1 _ _ HBB.out.2.2).trans HD3.out
        by_cases hlj : j < m2
        · obtain ⟨x, hx⟩ := get_of_lt (l := rx) (k := j) (by rw [HL1.out]; exact hlj)
          obtain ⟨y, hy⟩ := get_of_lt (l := ry) (k := j) (by rw [HL2.out]; exact hlj)
          obtain ⟨e1, f1, rfl, he1, x1, x2⟩ := prs_el HQ1.out hx
          obtain ⟨e2, f2, rfl, he2, x3, x4⟩ := prs_el HQ2.out hy
          replace x1 := ((bcell hbz).1 _ _ he1).trans x1
          replace x2 := ((bcell hbz).1 _ _ he1).trans x2
          replace x3 := ((bcell hbz).1 _ _ he2).trans x3
          replace x4 := ((bcell hbz).1 _ _ he2).trans x4
          have hin := HLE.out j x y hx hy
          obtain ⟨z1, z2⟩ := x
          obtain ⟨y1, y2⟩ := y
          simp only at x1 x2 x3 x4 hin
          have j0 : (0 : Int) ≤ (j : Int) := by omega
          have j1 : (j : Int) < (m2 : Int) := by omega
          have n0 : ¬ z1 < y1 := by omega
          have n1 : decide (z1 < y1) = false := decide_eq_false n0
          have n2 : ¬ z2 < y2 := by omega
          have n3 : decide (z2 < y2) = false := decide_eq_false n2
          clear hx hy hin he1 he2 hbz
          go_wp2_with fail
          go_quiet (fail)
          go_wp2_with fail
          exact ⟨⟨j + 1, by omega, by go_num, belN HBZ.out _⟩, by simp [intOf]; omega⟩
        · have hje : j = m2 := by omega
          have j1 : ¬ (j : Int) < (m2 : Int) := by omega
          clear hbz
          go_wp2_with fail
          exact ⟨⟨t + 1, by omega, by go_num, HBQ.out.trans (HBZ.out.mono HBQ.out.size)⟩, by simp [intOf]; omega⟩
    · have hte : t = n := by omega
      have t1 : ¬ (t : Int) < (n : Int) := by omega
      clear hbr
      go_wp2_with fail
      exact HEX.out _ _ _ _ _ _ _ _ _ _ _ _ _ _ _ _ _ _ _ _ _ _ _ _ _ _ _ _ _ _ _ _ _ _ _ _ _ _ _ _ _ _ _ _ _ _ _ _ _ _ _ _ _ _ _ _ _ _ _ _ _ _ _ _ _ _ _ _ _ _ _ _ _ HBR.out
set_option maxRecDepth 1000000 in
noncomputable def bodyL5 : Code := ((Tryz.f17.body.map loopsIn).getD []).getD 4 .skip
set_option maxRecDepth 1000000 in
set_option maxHeartbeats 40000000 in
theorem loopL5 (a : Nat) (ha : a < 6) (v : World) {Q : Exit → Act → World → Prop} {c0 c1 c2 c3 c4 c5 c6 c8 c9 c10 c11 c12 c13 c14 c15 c16 c17 c18 c19 c20 c21 c22 c23 c24 c25 c26 c27 c28 c29 c30 c31 c32 c33 c34 c35 c38 c39 c40 c41 c42 c43 c44 c45 c46 c47 c48 c49 c50 c51 c52 c53 c54 c55 c56 c57 c58 c59 c60 c61 c62 c63 c64 c65 c66 c67 c68 c69 c70 c71 c72 c73 c74 c75 c76 c77 c78 c79 c80 c81 c82 c83 c84 c85 c86 c87 c88 c89 c90 c91 c92 c93 c94 c95 c96 c97 c98 c99 c100 c101 c102 c103 c104 c105 c106 c107 c108 c109 c110 c111 c112 c113 c114 c115 c116 c117 c118 c119 c120 c121 c122 c123 c124 c125 c126 c127 c128 c129 c130 c131 c132 c133 c134 c135 c136 c137 c138 c139 c140 c141 c142 c143 c144 c145 c146 c147 c148 c149 c150 c151 c152 c153 c154 c155 c156 c157 c158 c159 c160 c161 c162 c163 c164 c165 c166 c167 c168 c169 c170 c171 c172 c173 c174 c175 c176 c177 c178 c179 c180 c181 c182 c183 c184 c185 c186 c187 c188 c189 c190 c191 c192 c193 c194 c195 c196 c197 c198 c199 c200 c201 c202 c203 c204 c205 c206 c207 c208 c209 c210 c211 c212 c213 c214 c215 c216 c217 c218 c219 c220 c221 c222 c223 c224 c225 c226 c227 c228 c229 c230 c231 c232 c233 c234 c235 c236 c237 c238 c239 c240 c241 c242 c243 c244 c245 c246 c247 c248 c249 c250 c251 c252 c253 c254 c255 c256 c257 c258 c259 c260 c261 c262 c263 c264 c265 c266 c267 c268 c269 c270 c271 c272 c273 c274 c275 c276 c277 c278 c279 c280 c281 c282 c283 c284 c285 c286 c287 c288 c289 c290 c291 c292 c300 c301 c302 c303 c304 c305 c306 c307 c308 c309 c310 c311 c312 c313 c314 c315 c316 c317 c318 c319 c320 c321 c322 c323 c324 c325 c326 c327 c328 c329 c330 c331 c332 c333 c334 c335 c336 c337 c338 c339 c340 c341 c342 c343 c344 c345 c346 c347 c348 c349 c350 c351 c352 c353 c354 c355 c356 c357 c358 c359 c360 c361 c362 c363 c364 c365 c366 c367 c368 c369 c370 c371 c372 c373 c374 c375 c376 c377 c378 c379 c380 c381 c382 c383 c384 c385 c386 c387 c388 c389 c390 c391 c392 c393 c394 c395 c396 u293 u294 u295 u296 u297 u298 u299 : Value}
    (hexit : ∀ (w' : World) (e37 e293 e294 e295 e296 e297 e298 e299 : Value), Below v.heap.size v w' → Q (.exit 8) ⟨List.toArray (c0 :: c1 :: c2 :: c3 :: c4 :: c5 :: c6 :: .int .i64 (a : Int) :: c8 :: c9 :: c10 :: c11 :: c12 :: c13 :: c14 :: c15 :: c16 :: c17 :: c18 :: c19 :: c20 :: c21 :: c22 :: c23 :: c24 :: c25 :: c26 :: c27 :: c28 :: c29 :: c30 :: c31 :: c32 :: c33 :: c34 :: c35 :: .int .i64 (2 ^ a : Int) :: e37 :: c38 :: c39 :: c40 :: c41 :: c42 :: c43 :: c44 :: c45 :: c46 :: c47 :: c48 :: c49 :: c50 :: c51 :: c52 :: c53 :: c54 :: c55 :: c56 :: c57 :: c58 :: c59 :: c60 :: c61 :: c62 :: c63 :: c64 :: c65 :: c66 :: c67 :: c68 :: c69 :: c70 :: c71 :: c72 :: c73 :: c74 :: c75 :: c76 :: c77 :: c78 :: c79 :: c80 :: c81 :: c82 :: c83 :: c84 :: c85 :: c86 :: c87 :: c88 :: c89 :: c90 :: c91 :: c92 :: c93 :: c94 :: c95 :: c96 :: c97 :: c98 :: c99 :: c100 :: c101 :: c102 :: c103 :: c104 :: c105 :: c106 :: c107 :: c108 :: c109 :: c110 :: c111 :: c112 :: c113 :: c114 :: c115 :: c116 :: c117 :: c118 :: c119 :: c120 :: c121 :: c122 :: c123 :: c124 :: c125 :: c126 :: c127 :: c128 :: c129 :: c130 :: c131 :: c132 :: c133 :: c134 :: c135 :: c136 :: c137 :: c138 :: c139 :: c140 :: c141 :: c142 :: c143 :: c144 :: c145 :: c146 :: c147 :: c148 :: c149 :: c150 :: c151 :: c152 :: c153 :: c154 :: c155 :: c156 :: c157 :: c158 :: c159 :: c160 :: c161 :: c162 :: c163 :: c164 :: c165 :: c166 :: c167 :: c168 :: c169 :: c170 :: c171 :: c172 :: c173 :: c174 :: c175 :: c176 :: c177 :: c178 :: c179 :: c180 :: c181 :: c182 :: c183 :: c184 :: c185 :: c186 :: c187 :: c188 :: c189 :: c190 :: c191 :: c192 :: c193 :: c194 :: c195 :: c196 :: c197 :: c198 :: c199 :: c200 :: c201 :: c202 :: c203 :: c204 :: c205 :: c206 :: c207 :: c208 :: c209 :: c210 :: c211 :: c212 :: c213 :: c214 :: c215 :: c216 :: c217 :: c218 :: c219 :: c220 :: c221 :: c222 :: c223 :: c224 :: c225 :: c226 :: c227 :: c228 :: c229 :: c230 :: c231 :: c232 :: c233 :: c234 :: c235 :: c236 :: c237 :: c238 :: c239 :: c240 :: c241 :: c242 :: c243 :: c244 :: c245 :: c246 :: c247 :: c248 :: c249 :: c250 :: c251 :: c252 :: c253 :: c254 :: c255 :: c256 :: c257 :: c258 :: c259 :: c260 :: c261 :: c262 :: c263 :: c264 :: c265 :: c266 :: c267 :: c268 :: c269 :: c270 :: c271 :: c272 :: c273 :: c274 :: c275 :: c276 :: c277 :: c278 :: c279 :: c280 :: c281 :: c282 :: c283 :: c284 :: c285 :: c286 :: c287 :: c288 :: c289 :: c290 :: c291 :: c292 :: e293 :: e294 :: e295 :: e296 :: e297 :: e298 :: e299 :: c300 :: c301 :: c302 :: c303 :: c304 :: c305 :: c306 :: c307 :: c308 :: c309 :: c310 :: c311 :: c312 :: c313 :: c314 :: c315 :: c316 :: c317 :: c318 :: c319 :: c320 :: c321 :: c322 :: c323 :: c324 :: c325 :: c326 :: c327 :: c328 :: c329 :: c330 :: c331 :: c332 :: c333 :: c334 :: c335 :: c336 :: c337 :: c338 :: c339 :: c340 :: c341 :: c342 :: c343 :: c344 :: c345 :: c346 :: c347 :: c348 :: c349 :: c350 :: c351 :: c352 :: c353 :: c354 :: c355 :: c356 :: c357 :: c358 :: c359 :: c360 :: c361 :: c362 :: c363 :: c364 :: c365 :: c366 :: c367 :: c368 :: c369 :: c370 :: c371 :: c372 :: c373 :: c374 :: c375 :: c376 :: c377 :: c378 :: c379 :: c380 :: c381 :: c382 :: c383 :: c384 :: c385 :: c386 :: c387 :: c388 :: c389 :: c390 :: c391 :: c392 :: c393 :: c394 :: c395 :: c396 :: []), []⟩ w') :
    Code.wp Tryz.prog (Code.loop bodyL5) Q ⟨List.toArray (c0 :: c1 :: c2 :: c3 :: c4 :: c5 :: c6 :: .int .i64 (a : Int) :: c8 :: c9 :: c10 :: c11 :: c12 :: c13 :: c14 :: c15 :: c16 :: c17 :: c18 :: c19 :: c20 :: c21 :: c22 :: c23 :: c24 :: c25 :: c26 :: c27 :: c28 :: c29 :: c30 :: c31 :: c32 :: c33 :: c34 :: c35 :: .int .i64 1 :: .int .i64 0 :: c38 :: c39 :: c40 :: c41 :: c42 :: c43 :: c44 :: c45 :: c46 :: c47 :: c48 :: c49 :: c50 :: c51 :: c52 :: c53 :: c54 :: c55 :: c56 :: c57 :: c58 :: c59 :: c60 :: c61 :: c62 :: c63 :: c64 :: c65 :: c66 :: c67 :: c68 :: c69 :: c70 :: c71 :: c72 :: c73 :: c74 :: c75 :: c76 :: c77 :: c78 :: c79 :: c80 :: c81 :: c82 :: c83 :: c84 :: c85 :: c86 :: c87 :: c88 :: c89 :: c90 :: c91 :: c92 :: c93 :: c94 :: c95 :: c96 :: c97 :: c98 :: c99 :: c100 :: c101 :: c102 :: c103 :: c104 :: c105 :: c106 :: c107 :: c108 :: c109 :: c110 :: c111 :: c112 :: c113 :: c114 :: c115 :: c116 :: c117 :: c118 :: c119 :: c120 :: c121 :: c122 :: c123 :: c124 :: c125 :: c126 :: c127 :: c128 :: c129 :: c130 :: c131 :: c132 :: c133 :: c134 :: c135 :: c136 :: c137 :: c138 :: c139 :: c140 :: c141 :: c142 :: c143 :: c144 :: c145 :: c146 :: c147 :: c148 :: c149 :: c150 :: c151 :: c152 :: c153 :: c154 :: c155 :: c156 :: c157 :: c158 :: c159 :: c160 :: c161 :: c162 :: c163 :: c164 :: c165 :: c166 :: c167 :: c168 :: c169 :: c170 :: c171 :: c172 :: c173 :: c174 :: c175 :: c176 :: c177 :: c178 :: c179 :: c180 :: c181 :: c182 :: c183 :: c184 :: c185 :: c186 :: c187 :: c188 :: c189 :: c190 :: c191 :: c192 :: c193 :: c194 :: c195 :: c196 :: c197 :: c198 :: c199 :: c200 :: c201 :: c202 :: c203 :: c204 :: c205 :: c206 :: c207 :: c208 :: c209 :: c210 :: c211 :: c212 :: c213 :: c214 :: c215 :: c216 :: c217 :: c218 :: c219 :: c220 :: c221 :: c222 :: c223 :: c224 :: c225 :: c226 :: c227 :: c228 :: c229 :: c230 :: c231 :: c232 :: c233 :: c234 :: c235 :: c236 :: c237 :: c238 :: c239 :: c240 :: c241 :: c242 :: c243 :: c244 :: c245 :: c246 :: c247 :: c248 :: c249 :: c250 :: c251 :: c252 :: c253 :: c254 :: c255 :: c256 :: c257 :: c258 :: c259 :: c260 :: c261 :: c262 :: c263 :: c264 :: c265 :: c266 :: c267 :: c268 :: c269 :: c270 :: c271 :: c272 :: c273 :: c274 :: c275 :: c276 :: c277 :: c278 :: c279 :: c280 :: c281 :: c282 :: c283 :: c284 :: c285 :: c286 :: c287 :: c288 :: c289 :: c290 :: c291 :: c292 :: u293 :: u294 :: u295 :: u296 :: u297 :: u298 :: u299 :: c300 :: c301 :: c302 :: c303 :: c304 :: c305 :: c306 :: c307 :: c308 :: c309 :: c310 :: c311 :: c312 :: c313 :: c314 :: c315 :: c316 :: c317 :: c318 :: c319 :: c320 :: c321 :: c322 :: c323 :: c324 :: c325 :: c326 :: c327 :: c328 :: c329 :: c330 :: c331 :: c332 :: c333 :: c334 :: c335 :: c336 :: c337 :: c338 :: c339 :: c340 :: c341 :: c342 :: c343 :: c344 :: c345 :: c346 :: c347 :: c348 :: c349 :: c350 :: c351 :: c352 :: c353 :: c354 :: c355 :: c356 :: c357 :: c358 :: c359 :: c360 :: c361 :: c362 :: c363 :: c364 :: c365 :: c366 :: c367 :: c368 :: c369 :: c370 :: c371 :: c372 :: c373 :: c374 :: c375 :: c376 :: c377 :: c378 :: c379 :: c380 :: c381 :: c382 :: c383 :: c384 :: c385 :: c386 :: c387 :: c388 :: c389 :: c390 :: c391 :: c392 :: c393 :: c394 :: c395 :: c396 :: []), []⟩ v := by
  have HEX := Lib.hid hexit
  clear hexit
  conv => arg 2; arg 1; whnf
  go_loopw [36, 37] (fun b i wr => ∃ (k : Nat) (B : Int), k ≤ a ∧ B = 2 ^ k ∧ b = .int .i64 B ∧ i = .int .i64 k ∧ Below v.heap.size v wr) (fun _ i _ => a - (intOf i).toNat)
  case atStart => exact ⟨0, 1, Nat.zero_le _, rfl, rfl, rfl, Below.refl _ _⟩
  case round =>
    obtain ⟨k, B, hk, hB, rfl, rfl, hbr⟩ := hrel
    have HBR := Lib.hid hbr
    by_cases hlt : k < a
    · have t1 : (k : Int) < (a : Int) := by omega
      have hb : 0 ≤ B ∧ B ≤ 32 := by
        rw [hB]
        rcases (show k = 0 ∨ k = 1 ∨ k = 2 ∨ k = 3 ∨ k = 4 by omega) with rfl | rfl | rfl | rfl | rfl <;> decide
      have hw : Value.int .i64 (wrap64 (2 * B)) = Value.int .i64 (2 * B) := by congr 1; exact w64 (by omega)
      have HBB := Lib.hid hB
      clear hbr hB
      go_wp2_with fail
      exact ⟨⟨k + 1, 2 * B, by omega, by rw [HBB.out, Int.pow_succ]; omega, rfl, by go_num, HBR.out⟩, by simp [intOf]; omega⟩
    · have hte : k = a := by omega
      have t1 : ¬ (k : Int) < (a : Int) := by omega
      subst hte
      have HBB := Lib.hid hB
      clear hbr hB
      go_wp2_with fail
      rw [HBB.out]
      exact HEX.out _ _ _ _ _ _ _ _ _ HBR.out
end Go.Proofs.YtdlaphlpimlgdaaGreatDoor

namespace Go.Proofs.YtdlaphlpimlgdaaGreatDoor
open Go.RowKit Go.Shelf

theorem pair_new (w : World) (a b : Value) (t : TypeId) : ∀ j u, [a, b][j]? = some u → (w.alloc (.cells #[a, b] t)).cell? ((⟨w.heap.size, 0, none⟩ : Addr).add j) = some u := by
  intro j u hj
  match j, hj with
  | 0, hj => simp at hj; subst hj; simp [Addr.add]
  | 1, hj => simp at hj; subst hj; simp [Addr.add]
  | j + 2, hj => simp at hj
theorem map_take_get {g : Sp → Sp} {row : List Sp} {k : Nat} {y : Sp} (h : row[k]? = some y) : flatR prR ((row.take (k + 1)).map g) = flatR prR ((row.take k).map g) ++ prR (g y) := by
  rw [List.take_add_one, h, List.map_append]
  exact flatR_snoc _ _ _
set_option maxRecDepth 1000000 in
noncomputable def bodyL1 : Code := ((Tryz.f17.body.map loopsIn).getD []).getD 0 .skip
set_option maxRecDepth 1000000 in
set_option maxHeartbeats 40000000 in
theorem loopL1 (A : Option Addr) (n c np : Nat) (ts : List (List Sp)) (lo hi d : Int) (w0 : World) (hn : n ≤ 10) (hl : ts.length = n) (hnp : 1 ≤ np ∧ np ≤ 6)
    (hrow : ∀ (t : Nat) (row : List Sp), ts[t]? = some row → row.length = np ∧ ∀ (i : Nat) (y : Sp), row[i]? = some y → 0 ≤ y.1 ∧ y.1 ≤ y.2 ∧ y.2 ≤ 50000) (hlo : 0 ≤ lo ∧ lo ≤ 100) (hhi : 0 ≤ hi ∧ hi ≤ 100) (hd : 0 ≤ d ∧ d ≤ 50000) (hT : SpsAt w0 w0.heap.size A ts)
    {Q : Exit → Act → World → Prop} {c0 c2 c6 c7 c8 c9 c10 c11 c12 c13 c14 c15 c16 c24 c25 c26 c27 c28 c29 c30 c31 c32 c33 c34 c35 c36 c37 c38 c39 c40 c41 c42 c43 c44 c45 c46 c47 c48 c49 c50 c51 c52 c53 c54 c55 c56 c57 c58 c59 c60 c61 c62 c63 c64 c65 c66 c67 c68 c69 c70 c71 c72 c73 c74 c75 c127 c128 c129 c130 c131 c132 c133 c134 c135 c136 c137 c138 c139 c140 c141 c142 c143 c144 c145 c146 c147 c148 c149 c150 c151 c152 c153 c154 c155 c156 c157 c158 c159 c160 c161 c162 c163 c164 c165 c166 c167 c168 c169 c170 c171 c172 c173 c174 c175 c176 c177 c178 c179 c180 c181 c182 c183 c184 c185 c186 c187 c188 c189 c190 c191 c192 c193 c194 c195 c196 c197 c198 c199 c200 c201 c202 c203 c204 c205 c206 c207 c208 c209 c210 c211 c212 c213 c214 c215 c216 c217 c218 c219 c220 c221 c222 c223 c224 c225 c226 c227 c228 c229 c230 c231 c232 c233 c234 c235 c236 c237 c238 c239 c240 c241 c242 c243 c244 c245 c246 c247 c248 c249 c250 c251 c252 c253 c254 c255 c256 c257 c258 c259 c260 c261 c262 c263 c264 c265 c266 c267 c268 c269 c270 c271 c272 c273 c274 c275 c276 c277 c278 c279 c280 c281 c282 c283 c284 c285 c286 c287 c288 c289 c290 c291 c292 c293 c294 c295 c296 c297 c298 c299 c300 c301 c302 c303 c304 c305 c306 c307 c308 c309 c310 c311 c312 c313 c314 c315 c316 c317 c318 c319 c320 c321 c322 c323 c324 c325 c326 c327 c328 c329 c330 c331 c332 c333 c334 c335 c336 c337 c338 c339 c340 c341 c342 c343 c344 c345 c346 c347 c348 c349 c350 c351 c352 c353 c354 c355 c356 c357 c358 c359 c360 c361 c362 c363 c364 c365 c366 c367 c368 c369 c370 c371 c372 c373 c374 c375 c376 c377 c378 c379 c380 c381 c382 c383 c384 c385 c386 c387 c388 c389 c390 c391 c392 c393 c394 c395 c396 u20 u21 u22 u23 u76 u77 u78 u79 u80 u81 u82 u83 u84 u85 u86 u87 u88 u89 u90 u91 u92 u93 u94 u95 u96 u97 u98 u99 u100 u101 u102 u103 u104 u105 u106 u107 u108 u109 u110 u111 u112 u113 u114 u115 u116 u117 u118 u119 u120 u121 u122 u123 u124 u125 u126 : Value}
    (hexit : ∀ (w' : World) (va vb e19 e20 e21 e22 e23 e76 e77 e78 e79 e80 e81 e82 e83 e84 e85 e86 e87 e88 e89 e90 e91 e92 e93 e94 e95 e96 e97 e98 e99 e100 e101 e102 e103 e104 e105 e106 e107 e108 e109 e110 e111 e112 e113 e114 e115 e116 e117 e118 e119 e120 e121 e122 e123 e124 e125 e126 : Value) (ra rb : List Value), Twin w0 w0.heap.size (mapT (narT lo hi) ts) (mapT (dpT d) ts) va vb ra rb w' → Q (.exit 0) ⟨List.toArray (c0 :: .slice A n c :: c2 :: .int .i64 lo :: .int .i64 hi :: .int .i64 d :: c6 :: c7 :: c8 :: c9 :: c10 :: c11 :: c12 :: c13 :: c14 :: c15 :: c16 :: va :: vb :: e19 :: e20 :: e21 :: e22 :: e23 :: c24 :: c25 :: c26 :: c27 :: c28 :: c29 :: c30 :: c31 :: c32 :: c33 :: c34 :: c35 :: c36 :: c37 :: c38 :: c39 :: c40 :: c41 :: c42 :: c43 :: c44 :: c45 :: c46 :: c47 :: c48 :: c49 :: c50 :: c51 :: c52 :: c53 :: c54 :: c55 :: c56 :: c57 :: c58 :: c59 :: c60 :: c61 :: c62 :: c63 :: c64 :: c65 :: c66 :: c67 :: c68 :: c69 :: c70 :: c71 :: c72 :: c73 :: c74 :: c75 :: e76 :: e77 :: e78 :: e79 :: e80 :: e81 :: e82 :: e83 :: e84 :: e85 :: e86 :: e87 :: e88 :: e89 :: e90 :: e91 :: e92 :: e93 :: e94 :: e95 :: e96 :: e97 :: e98 :: e99 :: e100 :: e101 :: e102 :: e103 :: e104 :: e105 :: e106 :: e107 :: e108 :: e109 :: e110 :: e111 :: e112 :: e113 :: e114 :: e115 :: e116 :: e117 :: e118 :: e119 :: e120 :: e121 :: e122 :: e123 :: e124 :: e125 :: e126 :: c127 :: c128 :: c129 :: c130 :: c131 :: c132 :: c133 :: c134 :: c135 :: c136 :: c137 :: c138 :: c139 :: c140 :: c141 :: c142 :: c143 :: c144 :: c145 :: c146 :: c147 :: c148 :: c149 :: c150 :: c151 :: c152 :: c153 :: c154 :: c155 :: c156 :: c157 :: c158 :: c159 :: c160 :: c161 :: c162 :: c163 :: c164 :: c165 :: c166 :: c167 :: c168 :: c169 :: c170 :: c171 :: c172 :: c173 :: c174 :: c175 :: c176 :: c177 :: c178 :: c179 :: c180 :: c181 :: c182 :: c183 :: c184 :: c185 :: c186 :: c187 :: c188 :: c189 :: c190 :: c191 :: c192 :: c193 :: c194 :: c195 :: c196 :: c197 :: c198 :: c199 :: c200 :: c201 :: c202 :: c203 :: c204 :: c205 :: c206 :: c207 :: c208 :: c209 :: c210 :: c211 :: c212 :: c213 :: c214 :: c215 :: c216 :: c217 :: c218 :: c219 :: c220 :: c221 :: c222 :: c223 :: c224 :: c225 :: c226 :: c227 :: c228 :: c229 :: c230 :: c231 :: c232 :: c233 :: c234 :: c235 :: c236 :: c237 :: c238 :: c239 :: c240 :: c241 :: c242 :: c243 :: c244 :: c245 :: c246 :: c247 :: c248 :: c249 :: c250 :: c251 :: c252 :: c253 :: c254 :: c255 :: c256 :: c257 :: c258 :: c259 :: c260 :: c261 :: c262 :: c263 :: c264 :: c265 :: c266 :: c267 :: c268 :: c269 :: c270 :: c271 :: c272 :: c273 :: c274 :: c275 :: c276 :: c277 :: c278 :: c279 :: c280 :: c281 :: c282 :: c283 :: c284 :: c285 :: c286 :: c287 :: c288 :: c289 :: c290 :: c291 :: c292 :: c293 :: c294 :: c295 :: c296 :: c297 :: c298 :: c299 :: c300 :: c301 :: c302 :: c303 :: c304 :: c305 :: c306 :: c307 :: c308 :: c309 :: c310 :: c311 :: c312 :: c313 :: c314 :: c315 :: c316 :: c317 :: c318 :: c319 :: c320 :: c321 :: c322 :: c323 :: c324 :: c325 :: c326 :: c327 :: c328 :: c329 :: c330 :: c331 :: c332 :: c333 :: c334 :: c335 :: c336 :: c337 :: c338 :: c339 :: c340 :: c341 :: c342 :: c343 :: c344 :: c345 :: c346 :: c347 :: c348 :: c349 :: c350 :: c351 :: c352 :: c353 :: c354 :: c355 :: c356 :: c357 :: c358 :: c359 :: c360 :: c361 :: c362 :: c363 :: c364 :: c365 :: c366 :: c367 :: c368 :: c369 :: c370 :: c371 :: c372 :: c373 :: c374 :: c375 :: c376 :: c377 :: c378 :: c379 :: c380 :: c381 :: c382 :: c383 :: c384 :: c385 :: c386 :: c387 :: c388 :: c389 :: c390 :: c391 :: c392 :: c393 :: c394 :: c395 :: c396 :: []), []⟩ w') :
    Code.wp Tryz.prog (Code.loop bodyL1) Q ⟨List.toArray (c0 :: .slice A n c :: c2 :: .int .i64 lo :: .int .i64 hi :: .int .i64 d :: c6 :: c7 :: c8 :: c9 :: c10 :: c11 :: c12 :: c13 :: c14 :: c15 :: c16 :: .slice none 0 0 :: .slice none 0 0 :: .int .i64 0 :: u20 :: u21 :: u22 :: u23 :: c24 :: c25 :: c26 :: c27 :: c28 :: c29 :: c30 :: c31 :: c32 :: c33 :: c34 :: c35 :: c36 :: c37 :: c38 :: c39 :: c40 :: c41 :: c42 :: c43 :: c44 :: c45 :: c46 :: c47 :: c48 :: c49 :: c50 :: c51 :: c52 :: c53 :: c54 :: c55 :: c56 :: c57 :: c58 :: c59 :: c60 :: c61 :: c62 :: c63 :: c64 :: c65 :: c66 :: c67 :: c68 :: c69 :: c70 :: c71 :: c72 :: c73 :: c74 :: c75 :: u76 :: u77 :: u78 :: u79 :: u80 :: u81 :: u82 :: u83 :: u84 :: u85 :: u86 :: u87 :: u88 :: u89 :: u90 :: u91 :: u92 :: u93 :: u94 :: u95 :: u96 :: u97 :: u98 :: u99 :: u100 :: u101 :: u102 :: u103 :: u104 :: u105 :: u106 :: u107 :: u108 :: u109 :: u110 :: u111 :: u112 :: u113 :: u114 :: u115 :: u116 :: u117 :: u118 :: u119 :: u120 :: u121 :: u122 :: u123 :: u124 :: u125 :: u126 :: c127 :: c128 :: c129 :: c130 :: c131 :: c132 :: c133 :: c134 :: c135 :: c136 :: c137 :: c138 :: c139 :: c140 :: c141 :: c142 :: c143 :: c144 :: c145 :: c146 :: c147 :: c148 :: c149 :: c150 :: c151 :: c152 :: c153 :: c154 :: c155 :: c156 :: c157 :: c158 :: c159 :: c160 :: c161 :: c162 :: c163 :: c164 :: c165 :: c166 :: c167 :: c168 :: c169 :: c170 :: c171 :: c172 :: c173 :: c174 :: c175 :: c176 :: c177 :: c178 :: c179 :: c180 :: c181 :: c182 :: c183 :: c184 :: c185 :: c186 :: c187 :: c188 :: c189 :: c190 :: c191 :: c192 :: c193 :: c194 :: c195 :: c196 :: c197 :: c198 :: c199 :: c200 :: c201 :: c202 :: c203 :: c204 :: c205 :: c206 :: c207 :: c208 :: c209 :: c210 :: c211 :: c212 :: c213 :: c214 :: c215 :: c216 :: c217 :: c218 :: c219 :: c220 :: c221 :: c222 :: c223 :: c224 :: c225 :: c226 :: c227 :: c228 :: c229 :: c230 :: c231 :: c232 :: c233 :: c234 :: c235 :: c236 :: c237 :: c238 :: c239 :: c240 :: c241 :: c242 :: c243 :: c244 :: c245 :: c246 :: c247 :: c248 :: c249 :: c250 :: c251 :: c252 :: c253 :: c254 :: c255 :: c256 :: c257 :: c258 :: c259 :: c260 :: c261 :: c262 :: c263 :: c264 :: c265 :: c266 :: c267 :: c268 :: c269 :: c270 :: c271 :: c272 :: c273 :: c274 :: c275 :: c276 :: c277 :: c278 :: c279 :: c280 :: c281 :: c282 :: c283 :: c284 :: c285 :: c286 :: c287 :: c288 :: c289 :: c290 :: c291 :: c292 :: c293 :: c294 :: c295 :: c296 :: c297 :: c298 :: c299 :: c300 :: c301 :: c302 :: c303 :: c304 :: c305 :: c306 :: c307 :: c308 :: c309 :: c310 :: c311 :: c312 :: c313 :: c314 :: c315 :: c316 :: c317 :: c318 :: c319 :: c320 :: c321 :: c322 :: c323 :: c324 :: c325 :: c326 :: c327 :: c328 :: c329 :: c330 :: c331 :: c332 :: c333 :: c334 :: c335 :: c336 :: c337 :: c338 :: c339 :: c340 :: c341 :: c342 :: c343 :: c344 :: c345 :: c346 :: c347 :: c348 :: c349 :: c350 :: c351 :: c352 :: c353 :: c354 :: c355 :: c356 :: c357 :: c358 :: c359 :: c360 :: c361 :: c362 :: c363 :: c364 :: c365 :: c366 :: c367 :: c368 :: c369 :: c370 :: c371 :: c372 :: c373 :: c374 :: c375 :: c376 :: c377 :: c378 :: c379 :: c380 :: c381 :: c382 :: c383 :: c384 :: c385 :: c386 :: c387 :: c388 :: c389 :: c390 :: c391 :: c392 :: c393 :: c394 :: c395 :: c396 :: []), []⟩ w0 := by
  have HR := Lib.hid hrow; have HT := Lib.hid hT; have HL := Lib.hid hl; have HEX := Lib.hid hexit; have HLO := Lib.hid hlo; have HHI := Lib.hid hhi
  clear hrow hT hl hexit hlo hhi
  conv => arg 2; arg 1; whnf
  go_loopw [17, 18, 19] (fun va vb i wr => ∃ (t : Nat) (ra rb : List Value), t ≤ n ∧ i = .int .i64 t ∧ Twin w0 w0.heap.size ((mapT (narT lo hi) ts).take t) ((mapT (dpT d) ts).take t) va vb ra rb wr) (fun _ _ i _ => n - (intOf i).toNat)
  case atStart => exact ⟨0, [], [], Nat.zero_le _, rfl, Twin.nil (Below.refl _ _) (Nat.le_refl _)⟩
  case round =>
    obtain ⟨t, ra, rb, ht, rfl, hT⟩ := hrel
    have HTW := Lib.hid hT
    clear hT
    by_cases hlt : t < n
    · obtain ⟨row, hrow⟩ := get_of_lt (l := ts) (k := t) (by rw [HL.out]; exact hlt)
      obtain ⟨hrl, hry⟩ := HR.out t row hrow
      obtain ⟨b, o, A', m, c', rfl, hb, hm, d1, p1, _⟩ := sps_row (HT.out.up HTW.out.a.bel) hrow
      rw [hrl] at hm
      subst hm
      have HROW := Lib.hid hrow; have HRL := Lib.hid hrl; have HRY := Lib.hid hry; have HP := Lib.hid p1
      have t0 : (0 : Int) ≤ (t : Int) := by omega
      have t1 : (t : Int) < (n : Int) := by omega
      have HD := Lib.hid d1; have HBB := Lib.hid hb
      clear hrow hrl hry p1 d1 hb
      go_wp2_with fail
      rename World => wo
      go_loopw [20, 21, 22] (fun xa xb i wq => ∃ k : Nat, k ≤ m ∧ i = .int .i64 k ∧ Two wo xa xb k k (flatR prR ((row.take k).map (narT lo hi))) (flatR prR ((row.take k).map (dpT d))) wq) (fun _ _ i _ => m - (intOf i).toNat)
      case atStart => exact ⟨0, Nat.zero_le _, rfl, ⟨Below.refl _ _, World.ownsRow_nil _ _ _ _, World.ownsRow_nil _ _ _ _, fun _ h => by simp [Value.ownBlock] at h⟩⟩
      case round =>
        obtain ⟨k, hk, rfl, hT2⟩ := hrel
        have H2 := Lib.hid hT2
        have d1 := ((bcell hT2.bel).1 _ _ HBB.out).trans HD.out
        clear hT2
        by_cases hkt : k < m
        · obtain ⟨y, hy⟩ := get_of_lt (l := row) (k := k) (by rw [HRL.out]; exact hkt)
          have hyb := HRY.out k y hy
          obtain ⟨e1, f1, rfl, he1, x1, x2⟩ := prs_el HP.out hy
          replace x1 := ((bcell H2.out.bel).1 _ _ he1).trans x1
          replace x2 := ((bcell H2.out.bel).1 _ _ he1).trans x2
          have HYA : Hid (flatR prR ((row.take (k + 1)).map (narT lo hi)) = flatR prR ((row.take k).map (narT lo hi)) ++ prR (narT lo hi y)) := Lib.hid (map_take_get hy)
          have HYB : Hid (flatR prR ((row.take (k + 1)).map (dpT d)) = flatR prR ((row.take k).map (dpT d)) ++ prR (dpT d y)) := Lib.hid (map_take_get hy)
          obtain ⟨y1, y2⟩ := y
          simp only at x1 x2 hyb
          have k0 : (0 : Int) ≤ (k : Int) := by omega
          have k1 : (k : Int) < (m : Int) := by omega
          obtain ⟨i0, hi0, hz0, hz1, hz2⟩ := info_parts span_info
          have HC : Hid (∀ u, Calls Tryz.prog 59 #[.agg #[.int .i64 y1, .int .i64 y2], .int .i64 lo, .int .i64 hi] u fun e w' => e = .returned (.agg #[.int .i64 (prtI (y1, y2) lo), .int .i64 (prtI (y1, y2) hi)]) ∧ Below u.heap.size u w') := Lib.hid fun u => narrow_any (y1, y2) lo hi u (by show 0 ≤ y1 ∧ y1 ≤ y2 ∧ y2 ≤ 100000; omega) HLO.out HHI.out
          have HYY := Lib.hid hyb
          obtain ⟨N1, hN1⟩ : ∃ z, prtI (y1, y2) lo = z := ⟨_, rfl⟩
          obtain ⟨N2, hN2⟩ : ∃ z, prtI (y1, y2) hi = z := ⟨_, rfl⟩
          have hYA := HYA.out
          have hYB := HYB.out
          have hnn : narT lo hi (y1, y2) = (N1, N2) := by unfold narT; rw [hN1, hN2]
          rw [hnn] at hYA
          have hCC := HC.out
          rw [hN1, hN2] at hCC
          have hdd : dpT d (y1, y2) = (min 50000 (y1 + d), min 50000 (y2 + d)) := rfl
          rw [hdd] at hYB
          have HC2 := Lib.hid hCC; have HYA2 := Lib.hid hYA; have HYB2 := Lib.hid hYB
          have v1 : Value.int .i64 (wrap64 (y1 + d)) = Value.int .i64 (y1 + d) := by congr 1; exact w64 (by omega)
          have v2 : Value.int .i64 (wrap64 (y2 + d)) = Value.int .i64 (y2 + d) := by congr 1; exact w64 (by omega)
          have HV := Lib.hid (And.intro v1 v2)
          clear hCC hYA hYB hdd hnn HYA HYB HC hyb hN1 hN2 hy v1 v2
          go_wp2_with fail
          have zb := heap_alloc_new wr (.cells #[.int .i64 y1, .int .i64 y2] 42)
          have hbz := (Below.refl wr.heap.size wr).alloc (Nat.le_refl _) (.cells #[.int .i64 y1, .int .i64 y2] 42)
          refine (HC2.out _).mono ?_
          rintro e w2 ⟨rfl, hb⟩
          have ZB := Lib.hid ((hb.block _ (heapsz zb)).trans zb)
          have H22 := Lib.hid (H2.out.next (hbz.trans (hb.mono hbz.size)))
          have HNE : Hid (some wr.heap.size ≠ u20.ownBlock) := Lib.hid fun e => by have := (H2.out.oa.lt _ e.symm).2; omega
          have hw2 : wo.heap.size ≤ w2.heap.size := H22.out.bel.size
          clear hb zb hbz x1 x2 d1
          go_wp2_with (first | (at_builtin; refine Hid.out ?_) | fail)
          refine Lib.hid ?_
          refine wpList_append_own_at _ rfl _ _ 40 rfl wo.heap.size 42 i0 _ 2 16 Tryz.underlying40 hi0 hz0 hz1 hz2 rfl (by decide) _ _ _ rfl (own_next H22.out.oa ((Below.refl _ w2).alloc (Nat.le_refl _) _)) ⟨w2.heap.size, 0, none⟩ 1 1 (prR (N1, N2)) rfl rfl (pair_new _ _ _ _) (by simp [prR, Value.oneCell']) (by unfold maxLen; omega) (by omega) (by simp; omega) ?_
          intro v4 w4 hown4 hgrow4 _ hat4
          have H23 := Lib.hid ((H22.out.next ((Below.refl _ w2).alloc (Nat.le_refl _) _)).app hown4 hgrow4 hat4)
          have ZB4 := Lib.hid ((hgrow4.block _ (by have := heapsz ZB.out; simp; omega) HNE.out).trans ((((Below.refl w2.heap.size w2).alloc (Nat.le_refl _) _).block _ (heapsz ZB.out)).trans ZB.out))
          have cb0 := cell_of_row w4 wr.heap.size 0 _ 42 (0, 0) ZB4.out
          have cb1 := cell_of_row w4 wr.heap.size 1 _ 42 (0, 0) ZB4.out
          simp at cb0 cb1
          obtain ⟨v1, v2⟩ := HV.out
          have hw4 : wo.heap.size ≤ w4.heap.size := H23.out.bel.size
          clear hown4 hgrow4 hat4 hw2
          go_wp2_with (first | (at_builtin; refine Hid.out ?_) | fail)
          refine Lib.hid ?_
          refine wpList_append_own_at _ rfl _ _ 40 rfl wo.heap.size 42 i0 _ 2 16 Tryz.underlying40 hi0 hz0 hz1 hz2 rfl (by decide) _ _ _ rfl (own_next H23.out.ob ((Below.refl _ w4).alloc (Nat.le_refl _) _)) ⟨w4.heap.size, 0, none⟩ 1 1 (prR (min 50000 (y1 + d), min 50000 (y2 + d))) rfl rfl (pair_new _ _ _ _) (by simp [prR, Value.oneCell']) (by unfold maxLen; omega) (by omega) (by simp; omega) ?_
          intro v6 w6 hown6 hgrow6 _ hat6
          have H24 := Lib.hid ((H23.out.next ((Below.refl _ w4).alloc (Nat.le_refl _) _)).swap.app hown6 hgrow6 hat6).swap
          clear hown6 hgrow6 hat6 hw4 cb0 cb1 v1 v2
          go_wp2_with fail
          refine ⟨⟨k + 1, by omega, by go_num, ?_⟩, by simp [intOf]; omega⟩
          rw [HYA2.out, HYB2.out]
          exact H24.out
        · have hke : k = m := by omega
          have k1 : ¬ (k : Int) < (m : Int) := by omega
          subst hke
          have et : row.take k = row := List.take_of_length_le (by rw [HRL.out]; exact Nat.le_refl _)
          rw [et] at H2
          obtain ⟨ga, ca, rfl, _⟩ := H2.out.oa.form (by omega)
          obtain ⟨gb, cb, rfl, _⟩ := H2.out.ob.form (by omega)
          have HTW2 := Lib.hid (HTW.out.below H2.out.bel)
          have hs0 : w0.heap.size ≤ wo.heap.size := HTW.out.a.bel.size
          have hs1 : wo.heap.size ≤ wr.heap.size := H2.out.bel.size
          have HRA : Hid (RowIs prR 42 w0.heap.size (row.map (narT lo hi)) (.slice (some ⟨ga, 0, none⟩) k ca) wr) := Lib.hid (RowIs.of_own (k := 2) (by rw [List.length_map, HRL.out]; exact own_mono H2.out.oa hs0))
          have HRB : Hid (RowIs prR 42 w0.heap.size (row.map (dpT d)) (.slice (some ⟨gb, 0, none⟩) k cb) wr) := Lib.hid (RowIs.of_own (k := 2) (by rw [List.length_map, HRL.out]; exact own_mono H2.out.ob hs0))
          have HLA : Hid (((mapT (narT lo hi) ts).take t).length = t) := Lib.hid (by rw [List.length_take]; unfold mapT; rw [List.length_map, HL.out]; omega)
          have HLB : Hid (((mapT (dpT d) ts).take t).length = t) := Lib.hid (by rw [List.length_take]; unfold mapT; rw [List.length_map, HL.out]; omega)
          have HTA : Hid ((mapT (narT lo hi) ts).take (t + 1) = (mapT (narT lo hi) ts).take t ++ [row.map (narT lo hi)]) := Lib.hid (by unfold mapT; rw [List.take_add_one, List.getElem?_map, HROW.out]; rfl)
          have HTB : Hid ((mapT (dpT d) ts).take (t + 1) = (mapT (dpT d) ts).take t ++ [row.map (dpT d)]) := Lib.hid (by unfold mapT; rw [List.take_add_one, List.getElem?_map, HROW.out]; rfl)
          obtain ⟨j0, hj0, jz0, jz1, jz2⟩ := info_parts spans_info
          clear et
          go_wp2_with (first | (at_builtin; refine Hid.out ?_) | fail)
          refine Lib.hid ?_
          refine wpList_append_own_at _ rfl _ _ 27 rfl w0.heap.size 40 j0 _ 1 24 Tryz.underlying27 hj0 jz0 jz1 jz2 rfl (by decide) _ _ _ rfl (Go.Proofs.YtdlaphlpimlgdaaGreatDoor.own_next HTW2.out.a.own ((Below.refl _ wr).alloc (Nat.le_refl _) _)) ⟨wr.heap.size, 0, none⟩ 1 1 [.slice (some ⟨ga, 0, none⟩) k ca] rfl rfl (cell_one_new _ _ _) (by simp [Value.oneCell']) (by rw [HLA.out]; unfold maxLen; omega) (by rw [HLA.out]; omega) (by simp; omega) ?_
          intro v4 w4 hown4 hgrow4 _ hat4
          have HTW3 := Lib.hid (HTW2.out.app HRA.out hown4 hgrow4 hat4)
          have HRB4 := Lib.hid (HTW2.out.other HRB.out hgrow4)
          have hs4 : w0.heap.size ≤ w4.heap.size := HTW3.out.a.bel.size
          clear hown4 hgrow4 hat4
          go_wp2_with (first | (at_builtin; refine Hid.out ?_) | fail)
          refine Lib.hid ?_
          refine wpList_append_own_at _ rfl _ _ 27 rfl w0.heap.size 40 j0 _ 1 24 Tryz.underlying27 hj0 jz0 jz1 jz2 rfl (by decide) _ _ _ rfl (Go.Proofs.YtdlaphlpimlgdaaGreatDoor.own_next HTW3.out.b.own ((Below.refl _ w4).alloc (Nat.le_refl _) _)) ⟨w4.heap.size, 0, none⟩ 1 1 [.slice (some ⟨gb, 0, none⟩) k cb] rfl rfl (cell_one_new _ _ _) (by simp [Value.oneCell']) (by rw [HLB.out]; unfold maxLen; omega) (by rw [HLB.out]; omega) (by simp; omega) ?_
          intro v6 w6 hown6 hgrow6 _ hat6
          have HTW4 := Lib.hid (HTW3.out.swap.app HRB4.out hown6 hgrow6 hat6).swap
          rw [← HTA.out, ← HTB.out] at HTW4
          clear hown6 hgrow6 hat6
          go_wp2_with fail
          exact ⟨⟨t + 1, _, _, by omega, by go_num, HTW4.out⟩, by simp [intOf]; omega⟩
    · have hte : t = n := by omega
      have t1 : ¬ (t : Int) < (n : Int) := by omega
      have ea : (mapT (narT lo hi) ts).take t = mapT (narT lo hi) ts := List.take_of_length_le (by unfold mapT; rw [List.length_map, HL.out]; omega)
      have eb : (mapT (dpT d) ts).take t = mapT (dpT d) ts := List.take_of_length_le (by unfold mapT; rw [List.length_map, HL.out]; omega)
      rw [ea, eb] at HTW
      clear ea eb
      go_wp2_with fail
      exact HEX.out _ _ _ _ _ _ _ _ _ _ _ _ _ _ _ _ _ _ _ _ _ _ _ _ _ _ _ _ _ _ _ _ _ _ _ _ _ _ _ _ _ _ _ _ _ _ _ _ _ _ _ _ _ _ _ _ _ _ _ _ _ HTW.out
end Go.Proofs.YtdlaphlpimlgdaaGreatDoor
