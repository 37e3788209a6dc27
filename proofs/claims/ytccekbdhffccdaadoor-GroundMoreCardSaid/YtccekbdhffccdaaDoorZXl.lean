/- The statement on what is known better: its last loop, cut out of the function. -/
import Derived.Test.YtccekbdhffccdaaDoorZW
namespace Go.Proofs.YtccekbdhffccdaaDoor
open Go.RowKit Go.Shelf

/-- All loops of a body, the outer ones first. -/
def loopsIn : Code → List Code
  | .loop c => c :: loopsIn c
  | .seq a b => loopsIn a ++ loopsIn b
  | .block _ c => loopsIn c
  | .scope c => loopsIn c
  | .cond _ a b => loopsIn a ++ loopsIn b
  | _ => []
set_option maxRecDepth 1000000 in
noncomputable def bodyM3 : Code := ((Tryd.f15.body.map loopsIn).getD []).getD 2 .skip
/-- What must hold of a year. -/
def OrdS (x1 x2 x3 x4 : Sn) : Prop := (x1.tl ≤ x2.tl ∧ x2.th ≤ x1.th ∧ x1.ll ≤ x2.ll ∧ x2.lh ≤ x1.lh) ∧ (x1.tl ≤ x3.tl ∧ x1.th ≤ x3.th ∧ x1.ll ≤ x3.ll ∧ x1.lh ≤ x3.lh) ∧ x4.tl ≤ x1.tl ∧ x4.th ≤ x1.th
set_option maxRecDepth 1000000 in
set_option maxHeartbeats 40000000 in
theorem loopM3_any (A2 B1 B2 B3 B4 : Option Addr) (m q1 q2 q3 q4 c' : Nat) (l1 l2 l3 l4 : List Sn) (v4 : World) (hm : m ≤ 12) (hS1 : SnsAt v4 v4.heap.size B1 l1) (hS2 : SnsAt v4 v4.heap.size B2 l2) (hS3 : SnsAt v4 v4.heap.size B3 l3) (hS4 : SnsAt v4 v4.heap.size B4 l4)
    (hrel : ∀ k, k < m → ∃ x1 x2 x3 x4, l1[k]? = some x1 ∧ l2[k]? = some x2 ∧ l3[k]? = some x3 ∧ l4[k]? = some x4 ∧ OrdS x1 x2 x3 x4)
    {Q : Exit → Act → World → Prop} {c0 c2 c3 c4 c5 c6 c7 c8 c9 c10 c11 c12 c13 c15 c16 c17 c18 c19 c20 c21 c22 c24 c26 c28 c30 c32 c33 c34 c35 c36 c37 c38 c39 c40 c41 c42 c43 c44 c45 c46 c47 c48 c49 c50 c51 c52 c53 c54 c55 c56 c57 c58 c59 c60 c61 c62 c63 c64 c65 c66 c67 c68 c69 c70 c71 c72 c73 c74 c75 c76 c77 c78 c79 c80 c81 c82 c83 c84 c85 c86 c87 c88 c89 c90 c91 c92 c93 c94 c95 c96 c97 c98 c99 c100 c101 c102 c103 c104 c105 c106 c107 c108 c109 c110 c111 c112 c113 c114 c115 c116 c117 c118 c119 c120 c121 c122 c123 c124 c125 c126 c127 c128 c129 c130 c131 c132 c133 c134 c135 c136 c137 c138 c139 c140 c141 c142 c143 c144 c145 c146 c147 c148 c149 c150 c151 c152 c153 c154 c155 c156 c157 c158 c159 c160 c161 c162 c163 c164 c165 c166 c167 c168 c169 c170 c171 c172 c173 c174 c175 c176 c177 c178 c179 c180 c181 c182 c183 c184 c185 c186 c187 c188 c189 c190 c191 c192 c193 c194 c195 c196 c197 c198 c199 c200 c201 c202 c203 c204 c205 c206 c207 c208 c209 c210 c211 c212 c213 c214 c215 c216 c217 c218 c219 c220 c221 c222 c223 c224 c225 c226 c227 c228 c229 c230 c231 c232 c233 c234 c235 c236 c237 c238 c239 c240 c241 c242 c243 c244 c245 c246 c247 c248 c249 c250 c251 c252 c253 c254 c255 c256 c257 c258 c259 c260 c261 c262 c263 c264 c265 c266 c267 c268 c269 c270 c271 c272 c273 c274 c275 c276 c277 c278 c279 c280 c281 c282 c283 c402 : Value} {u14 u284 u285 u286 u287 u288 u289 u290 u291 u292 u293 u294 u295 u296 u297 u298 u299 u300 u301 u302 u303 u304 u305 u306 u307 u308 u309 u310 u311 u312 u313 u314 u315 u316 u317 u318 u319 u320 u321 u322 u323 u324 u325 u326 u327 u328 u329 u330 u331 u332 u333 u334 u335 u336 u337 u338 u339 u340 u341 u342 u343 u344 u345 u346 u347 u348 u349 u350 u351 u352 u353 u354 u355 u356 u357 u358 u359 u360 u361 u362 u363 u364 u365 u366 u367 u368 u369 u370 u371 u372 u373 u374 u375 u376 u377 u378 u379 u380 u381 u382 u383 u384 u385 u386 u387 u388 u389 u390 u391 u392 u393 u394 u395 u396 u397 u398 u399 u400 u401 : Value}
    (hexit : ∀ (w' : World) (e14 e31 e284 e285 e286 e287 e288 e289 e290 e291 e292 e293 e294 e295 e296 e297 e298 e299 e300 e301 e302 e303 e304 e305 e306 e307 e308 e309 e310 e311 e312 e313 e314 e315 e316 e317 e318 e319 e320 e321 e322 e323 e324 e325 e326 e327 e328 e329 e330 e331 e332 e333 e334 e335 e336 e337 e338 e339 e340 e341 e342 e343 e344 e345 e346 e347 e348 e349 e350 e351 e352 e353 e354 e355 e356 e357 e358 e359 e360 e361 e362 e363 e364 e365 e366 e367 e368 e369 e370 e371 e372 e373 e374 e375 e376 e377 e378 e379 e380 e381 e382 e383 e384 e385 e386 e387 e388 e389 e390 e391 e392 e393 e394 e395 e396 e397 e398 e399 e400 e401 : Value), Below v4.heap.size v4 w' → Q (.exit 4) ⟨List.toArray (c0 :: .slice A2 m c' :: c2 :: c3 :: c4 :: c5 :: c6 :: c7 :: c8 :: c9 :: c10 :: c11 :: c12 :: c13 :: e14 :: c15 :: c16 :: c17 :: c18 :: c19 :: c20 :: c21 :: c22 :: .slice B1 m q1 :: c24 :: .slice B2 m q2 :: c26 :: .slice B3 m q3 :: c28 :: .slice B4 m q4 :: c30 :: e31 :: c32 :: c33 :: c34 :: c35 :: c36 :: c37 :: c38 :: c39 :: c40 :: c41 :: c42 :: c43 :: c44 :: c45 :: c46 :: c47 :: c48 :: c49 :: c50 :: c51 :: c52 :: c53 :: c54 :: c55 :: c56 :: c57 :: c58 :: c59 :: c60 :: c61 :: c62 :: c63 :: c64 :: c65 :: c66 :: c67 :: c68 :: c69 :: c70 :: c71 :: c72 :: c73 :: c74 :: c75 :: c76 :: c77 :: c78 :: c79 :: c80 :: c81 :: c82 :: c83 :: c84 :: c85 :: c86 :: c87 :: c88 :: c89 :: c90 :: c91 :: c92 :: c93 :: c94 :: c95 :: c96 :: c97 :: c98 :: c99 :: c100 :: c101 :: c102 :: c103 :: c104 :: c105 :: c106 :: c107 :: c108 :: c109 :: c110 :: c111 :: c112 :: c113 :: c114 :: c115 :: c116 :: c117 :: c118 :: c119 :: c120 :: c121 :: c122 :: c123 :: c124 :: c125 :: c126 :: c127 :: c128 :: c129 :: c130 :: c131 :: c132 :: c133 :: c134 :: c135 :: c136 :: c137 :: c138 :: c139 :: c140 :: c141 :: c142 :: c143 :: c144 :: c145 :: c146 :: c147 :: c148 :: c149 :: c150 :: c151 :: c152 :: c153 :: c154 :: c155 :: c156 :: c157 :: c158 :: c159 :: c160 :: c161 :: c162 :: c163 :: c164 :: c165 :: c166 :: c167 :: c168 :: c169 :: c170 :: c171 :: c172 :: c173 :: c174 :: c175 :: c176 :: c177 :: c178 :: c179 :: c180 :: c181 :: c182 :: c183 :: c184 :: c185 :: c186 :: c187 :: c188 :: c189 :: c190 :: c191 :: c192 :: c193 :: c194 :: c195 :: c196 :: c197 :: c198 :: c199 :: c200 :: c201 :: c202 :: c203 :: c204 :: c205 :: c206 :: c207 :: c208 :: c209 :: c210 :: c211 :: c212 :: c213 :: c214 :: c215 :: c216 :: c217 :: c218 :: c219 :: c220 :: c221 :: c222 :: c223 :: c224 :: c225 :: c226 :: c227 :: c228 :: c229 :: c230 :: c231 :: c232 :: c233 :: c234 :: c235 :: c236 :: c237 :: c238 :: c239 :: c240 :: c241 :: c242 :: c243 :: c244 :: c245 :: c246 :: c247 :: c248 :: c249 :: c250 :: c251 :: c252 :: c253 :: c254 :: c255 :: c256 :: c257 :: c258 :: c259 :: c260 :: c261 :: c262 :: c263 :: c264 :: c265 :: c266 :: c267 :: c268 :: c269 :: c270 :: c271 :: c272 :: c273 :: c274 :: c275 :: c276 :: c277 :: c278 :: c279 :: c280 :: c281 :: c282 :: c283 :: e284 :: e285 :: e286 :: e287 :: e288 :: e289 :: e290 :: e291 :: e292 :: e293 :: e294 :: e295 :: e296 :: e297 :: e298 :: e299 :: e300 :: e301 :: e302 :: e303 :: e304 :: e305 :: e306 :: e307 :: e308 :: e309 :: e310 :: e311 :: e312 :: e313 :: e314 :: e315 :: e316 :: e317 :: e318 :: e319 :: e320 :: e321 :: e322 :: e323 :: e324 :: e325 :: e326 :: e327 :: e328 :: e329 :: e330 :: e331 :: e332 :: e333 :: e334 :: e335 :: e336 :: e337 :: e338 :: e339 :: e340 :: e341 :: e342 :: e343 :: e344 :: e345 :: e346 :: e347 :: e348 :: e349 :: e350 :: e351 :: e352 :: e353 :: e354 :: e355 :: e356 :: e357 :: e358 :: e359 :: e360 :: e361 :: e362 :: e363 :: e364 :: e365 :: e366 :: e367 :: e368 :: e369 :: e370 :: e371 :: e372 :: e373 :: e374 :: e375 :: e376 :: e377 :: e378 :: e379 :: e380 :: e381 :: e382 :: e383 :: e384 :: e385 :: e386 :: e387 :: e388 :: e389 :: e390 :: e391 :: e392 :: e393 :: e394 :: e395 :: e396 :: e397 :: e398 :: e399 :: e400 :: e401 :: c402 :: []), []⟩ w') :
    Code.wp Tryd.prog (Code.loop bodyM3) Q ⟨List.toArray (c0 :: .slice A2 m c' :: c2 :: c3 :: c4 :: c5 :: c6 :: c7 :: c8 :: c9 :: c10 :: c11 :: c12 :: c13 :: u14 :: c15 :: c16 :: c17 :: c18 :: c19 :: c20 :: c21 :: c22 :: .slice B1 m q1 :: c24 :: .slice B2 m q2 :: c26 :: .slice B3 m q3 :: c28 :: .slice B4 m q4 :: c30 :: .int .i64 0 :: c32 :: c33 :: c34 :: c35 :: c36 :: c37 :: c38 :: c39 :: c40 :: c41 :: c42 :: c43 :: c44 :: c45 :: c46 :: c47 :: c48 :: c49 :: c50 :: c51 :: c52 :: c53 :: c54 :: c55 :: c56 :: c57 :: c58 :: c59 :: c60 :: c61 :: c62 :: c63 :: c64 :: c65 :: c66 :: c67 :: c68 :: c69 :: c70 :: c71 :: c72 :: c73 :: c74 :: c75 :: c76 :: c77 :: c78 :: c79 :: c80 :: c81 :: c82 :: c83 :: c84 :: c85 :: c86 :: c87 :: c88 :: c89 :: c90 :: c91 :: c92 :: c93 :: c94 :: c95 :: c96 :: c97 :: c98 :: c99 :: c100 :: c101 :: c102 :: c103 :: c104 :: c105 :: c106 :: c107 :: c108 :: c109 :: c110 :: c111 :: c112 :: c113 :: c114 :: c115 :: c116 :: c117 :: c118 :: c119 :: c120 :: c121 :: c122 :: c123 :: c124 :: c125 :: c126 :: c127 :: c128 :: c129 :: c130 :: c131 :: c132 :: c133 :: c134 :: c135 :: c136 :: c137 :: c138 :: c139 :: c140 :: c141 :: c142 :: c143 :: c144 :: c145 :: c146 :: c147 :: c148 :: c149 :: c150 :: c151 :: c152 :: c153 :: c154 :: c155 :: c156 :: c157 :: c158 :: c159 :: c160 :: c161 :: c162 :: c163 :: c164 :: c165 :: c166 :: c167 :: c168 :: c169 :: c170 :: c171 :: c172 :: c173 :: c174 :: c175 :: c176 :: c177 :: c178 :: c179 :: c180 :: c181 :: c182 :: c183 :: c184 :: c185 :: c186 :: c187 :: c188 :: c189 :: c190 :: c191 :: c192 :: c193 :: c194 :: c195 :: c196 :: c197 :: c198 :: c199 :: c200 :: c201 :: c202 :: c203 :: c204 :: c205 :: c206 :: c207 :: c208 :: c209 :: c210 :: c211 :: c212 :: c213 :: c214 :: c215 :: c216 :: c217 :: c218 :: c219 :: c220 :: c221 :: c222 :: c223 :: c224 :: c225 :: c226 :: c227 :: c228 :: c229 :: c230 :: c231 :: c232 :: c233 :: c234 :: c235 :: c236 :: c237 :: c238 :: c239 :: c240 :: c241 :: c242 :: c243 :: c244 :: c245 :: c246 :: c247 :: c248 :: c249 :: c250 :: c251 :: c252 :: c253 :: c254 :: c255 :: c256 :: c257 :: c258 :: c259 :: c260 :: c261 :: c262 :: c263 :: c264 :: c265 :: c266 :: c267 :: c268 :: c269 :: c270 :: c271 :: c272 :: c273 :: c274 :: c275 :: c276 :: c277 :: c278 :: c279 :: c280 :: c281 :: c282 :: c283 :: u284 :: u285 :: u286 :: u287 :: u288 :: u289 :: u290 :: u291 :: u292 :: u293 :: u294 :: u295 :: u296 :: u297 :: u298 :: u299 :: u300 :: u301 :: u302 :: u303 :: u304 :: u305 :: u306 :: u307 :: u308 :: u309 :: u310 :: u311 :: u312 :: u313 :: u314 :: u315 :: u316 :: u317 :: u318 :: u319 :: u320 :: u321 :: u322 :: u323 :: u324 :: u325 :: u326 :: u327 :: u328 :: u329 :: u330 :: u331 :: u332 :: u333 :: u334 :: u335 :: u336 :: u337 :: u338 :: u339 :: u340 :: u341 :: u342 :: u343 :: u344 :: u345 :: u346 :: u347 :: u348 :: u349 :: u350 :: u351 :: u352 :: u353 :: u354 :: u355 :: u356 :: u357 :: u358 :: u359 :: u360 :: u361 :: u362 :: u363 :: u364 :: u365 :: u366 :: u367 :: u368 :: u369 :: u370 :: u371 :: u372 :: u373 :: u374 :: u375 :: u376 :: u377 :: u378 :: u379 :: u380 :: u381 :: u382 :: u383 :: u384 :: u385 :: u386 :: u387 :: u388 :: u389 :: u390 :: u391 :: u392 :: u393 :: u394 :: u395 :: u396 :: u397 :: u398 :: u399 :: u400 :: u401 :: c402 :: []), []⟩ v4 := by
  have S1 := Lib.hid hS1; have S2 := Lib.hid hS2; have S3 := Lib.hid hS3; have S4 := Lib.hid hS4; have HR := Lib.hid hrel
  have hm6 : (m : Int) ≤ 12 := by omega
  clear hS1 hS2 hS3 hS4 hrel
  conv => arg 2; arg 1; whnf
  go_loopw [31] (fun i wt => ∃ k : Nat, k ≤ m ∧ i = .int .i64 k ∧ Below v4.heap.size v4 wt) (fun i _ => m - (intOf i).toNat)
  case atStart => exact ⟨0, Nat.zero_le _, rfl, Below.refl _ _⟩
  case round =>
    obtain ⟨k, hk, rfl, hM⟩ := hrel
    have BW := Lib.hid hM
    clear hM
    by_cases hlt3 : k < m
    · obtain ⟨⟨v10, v11, v12, v13, v14⟩, ⟨v20, v21, v22, v23, v24⟩, ⟨v30, v31, v32, v33, v34⟩, ⟨v40, v41, v42, v43, v44⟩, g1, g2, g3, g4, ho⟩ := HR.out k hlt3
      obtain ⟨d1, z1, rfl, l1_, hc1⟩ := (S1.out.next_ BW.out) (by intro h; rw [h] at g1; simp at g1)
      obtain ⟨d2, z2, rfl, l2_, hc2⟩ := (S2.out.next_ BW.out) (by intro h; rw [h] at g2; simp at g2)
      obtain ⟨d3, z3, rfl, l3_, hc3⟩ := (S3.out.next_ BW.out) (by intro h; rw [h] at g3; simp at g3)
      obtain ⟨d4, z4, rfl, l4_, hc4⟩ := (S4.out.next_ BW.out) (by intro h; rw [h] at g4; simp at g4)
      obtain ⟨e10, e11, e12, e13, _⟩ := hc1 k _ g1
      obtain ⟨e20, e21, e22, e23, _⟩ := hc2 k _ g2
      obtain ⟨e30, e31, e32, e33, _⟩ := hc3 k _ g3
      obtain ⟨e40, e41, _, _, _⟩ := hc4 k _ g4
      simp only at e10 e11 e12 e13 e20 e21 e22 e23 e30 e31 e32 e33 e40 e41
      unfold OrdS at ho
      simp only at ho
      obtain ⟨⟨b1, b2, b3, b4⟩, ⟨t1, t2, t3, t4⟩, s1, s2⟩ := ho
      have HBD := Lib.hid (And.intro b1 (And.intro b2 (And.intro b3 b4)))
      have HTD := Lib.hid (And.intro t1 (And.intro t2 (And.intro t3 t4)))
      have HSD := Lib.hid (And.intro s1 s2)
      have LT := Lib.hid (And.intro l1_ (And.intro l2_ (And.intro l3_ l4_)))
      have E1 := Lib.hid (And.intro e10 (And.intro e11 (And.intro e12 e13)))
      have E3 := Lib.hid (And.intro e30 (And.intro e31 (And.intro e32 e33)))
      have E4 := Lib.hid (And.intro e40 e41)
      have c10 : ∀ u : KeptW wr, u.w.cell? ⟨d1, z1 + k * 5, none⟩ = some (.int .i64 v10) := fun u => ((bcell u.h).1 _ _ l1_).trans e10
      have c11 : ∀ u : KeptW wr, u.w.cell? ⟨d1, z1 + k * 5 + 1, none⟩ = some (.int .i64 v11) := fun u => ((bcell u.h).1 _ _ l1_).trans e11
      have c12 : ∀ u : KeptW wr, u.w.cell? ⟨d1, z1 + k * 5 + 2, none⟩ = some (.int .i64 v12) := fun u => ((bcell u.h).1 _ _ l1_).trans e12
      have c13 : ∀ u : KeptW wr, u.w.cell? ⟨d1, z1 + k * 5 + 3, none⟩ = some (.int .i64 v13) := fun u => ((bcell u.h).1 _ _ l1_).trans e13
      have c20 : ∀ u : KeptW wr, u.w.cell? ⟨d2, z2 + k * 5, none⟩ = some (.int .i64 v20) := fun u => ((bcell u.h).1 _ _ l2_).trans e20
      have c21 : ∀ u : KeptW wr, u.w.cell? ⟨d2, z2 + k * 5 + 1, none⟩ = some (.int .i64 v21) := fun u => ((bcell u.h).1 _ _ l2_).trans e21
      have c22 : ∀ u : KeptW wr, u.w.cell? ⟨d2, z2 + k * 5 + 2, none⟩ = some (.int .i64 v22) := fun u => ((bcell u.h).1 _ _ l2_).trans e22
      have c23 : ∀ u : KeptW wr, u.w.cell? ⟨d2, z2 + k * 5 + 3, none⟩ = some (.int .i64 v23) := fun u => ((bcell u.h).1 _ _ l2_).trans e23
      have wi1 : ∀ u : KeptW wr, Calls Tryd.prog 48 #[.agg #[.int .i64 v20, .int .i64 v21], .agg #[.int .i64 v10, .int .i64 v11]] u.w fun e w' => e = .returned (.bool true) ∧ ∃ u' : KeptW wr, w' = u'.w := fun u => Calls.in_kept u (within_ok _ _ _ _ _ b1 b2)
      have wi2 : ∀ u : KeptW wr, Calls Tryd.prog 48 #[.agg #[.int .i64 v22, .int .i64 v23], .agg #[.int .i64 v12, .int .i64 v13]] u.w fun e w' => e = .returned (.bool true) ∧ ∃ u' : KeptW wr, w' = u'.w := fun u => Calls.in_kept u (within_ok _ _ _ _ _ b3 b4)
      have hk0 : (0 : Int) ≤ (k : Int) := by omega
      have hk1 : (k : Int) < (m : Int) := by omega
      have HEX := Lib.hid hexit
      clear g1 g2 g3 g4 hc1 hc2 hc3 hc4 e10 e11 e12 e13 e20 e21 e22 e23 e30 e31 e32 e33 e40 e41 b1 b2 b3 b4 t1 t2 t3 t4 s1 s2 l1_ l2_ l3_ l4_ hexit HR S1 S2 S3 S4
      go_wp2_with fail
      refine rk_region (by kernel_rfl) (by kernel_rfl) ?_
      repeat (go_big_quiet_step (first | (with_reducible exact wi1 _) | (with_reducible exact wi2 _) | fail))
      refine wpQuiet_nil ?_
      rintro wz ⟨⟨_, hbz⟩, rfl⟩
      clear c10 c11 c12 c13 c20 c21 c22 c23 wi1 wi2
      have c10 : ∀ u : KeptW wz, u.w.cell? ⟨d1, z1 + k * 5, none⟩ = some (.int .i64 v10) := fun u => ((bcell (hbz.trans (u.h.mono hbz.size))).1 _ _ LT.out.1).trans E1.out.1
      have c11 : ∀ u : KeptW wz, u.w.cell? ⟨d1, z1 + k * 5 + 1, none⟩ = some (.int .i64 v11) := fun u => ((bcell (hbz.trans (u.h.mono hbz.size))).1 _ _ LT.out.1).trans E1.out.2.1
      have c12 : ∀ u : KeptW wz, u.w.cell? ⟨d1, z1 + k * 5 + 2, none⟩ = some (.int .i64 v12) := fun u => ((bcell (hbz.trans (u.h.mono hbz.size))).1 _ _ LT.out.1).trans E1.out.2.2.1
      have c13 : ∀ u : KeptW wz, u.w.cell? ⟨d1, z1 + k * 5 + 3, none⟩ = some (.int .i64 v13) := fun u => ((bcell (hbz.trans (u.h.mono hbz.size))).1 _ _ LT.out.1).trans E1.out.2.2.2
      have c30 : ∀ u : KeptW wz, u.w.cell? ⟨d3, z3 + k * 5, none⟩ = some (.int .i64 v30) := fun u => ((bcell (hbz.trans (u.h.mono hbz.size))).1 _ _ LT.out.2.2.1).trans E3.out.1
      have c31 : ∀ u : KeptW wz, u.w.cell? ⟨d3, z3 + k * 5 + 1, none⟩ = some (.int .i64 v31) := fun u => ((bcell (hbz.trans (u.h.mono hbz.size))).1 _ _ LT.out.2.2.1).trans E3.out.2.1
      have c32 : ∀ u : KeptW wz, u.w.cell? ⟨d3, z3 + k * 5 + 2, none⟩ = some (.int .i64 v32) := fun u => ((bcell (hbz.trans (u.h.mono hbz.size))).1 _ _ LT.out.2.2.1).trans E3.out.2.2.1
      have c33 : ∀ u : KeptW wz, u.w.cell? ⟨d3, z3 + k * 5 + 3, none⟩ = some (.int .i64 v33) := fun u => ((bcell (hbz.trans (u.h.mono hbz.size))).1 _ _ LT.out.2.2.1).trans E3.out.2.2.2
      have BZ := Lib.hid (BW.out.trans (hbz.mono BW.out.size))
      have BZ0 := Lib.hid hbz
      clear hbz
      go_wp2_with fail
      have f1 : ¬ v30 < v10 := Int.not_lt.2 HTD.out.1
      have f2 : ¬ v31 < v11 := Int.not_lt.2 HTD.out.2.1
      have f3 : ¬ v32 < v12 := Int.not_lt.2 HTD.out.2.2.1
      have f4 : ¬ v33 < v13 := Int.not_lt.2 HTD.out.2.2.2
      refine rk_region (by kernel_rfl) (by kernel_rfl) ?_
      repeat (go_big_quiet_step (fail))
      refine wpQuiet_nil ?_
      rintro wy ⟨⟨_, hby⟩, rfl⟩
      clear c10 c11 c12 c13 c30 c31 c32 c33 f1 f2 f3 f4
      have hzy := BZ0.out.trans (hby.mono BZ0.out.size)
      have c10 : ∀ u : KeptW wy, u.w.cell? ⟨d1, z1 + k * 5, none⟩ = some (.int .i64 v10) := fun u => ((bcell (hzy.trans (u.h.mono hzy.size))).1 _ _ LT.out.1).trans E1.out.1
      have c11 : ∀ u : KeptW wy, u.w.cell? ⟨d1, z1 + k * 5 + 1, none⟩ = some (.int .i64 v11) := fun u => ((bcell (hzy.trans (u.h.mono hzy.size))).1 _ _ LT.out.1).trans E1.out.2.1
      have c40 : ∀ u : KeptW wy, u.w.cell? ⟨d4, z4 + k * 5, none⟩ = some (.int .i64 v40) := fun u => ((bcell (hzy.trans (u.h.mono hzy.size))).1 _ _ LT.out.2.2.2).trans E4.out.1
      have c41 : ∀ u : KeptW wy, u.w.cell? ⟨d4, z4 + k * 5 + 1, none⟩ = some (.int .i64 v41) := fun u => ((bcell (hzy.trans (u.h.mono hzy.size))).1 _ _ LT.out.2.2.2).trans E4.out.2
      have BY := Lib.hid (BZ.out.trans (hby.mono BZ.out.size))
      clear hby hzy
      go_wp2_with fail
      have f5 : ¬ v10 < v40 := Int.not_lt.2 HSD.out.1
      have f6 : ¬ v11 < v41 := Int.not_lt.2 HSD.out.2
      refine rk_region (by kernel_rfl) (by kernel_rfl) ?_
      repeat (go_big_quiet_step (fail))
      refine wpQuiet_nil ?_
      rintro wx ⟨⟨_, hbx⟩, rfl⟩
      have BX := Lib.hid (BY.out.trans (hbx.mono BY.out.size))
      clear hbx c10 c11 c40 c41 f5 f6
      go_wp2_with fail
      exact ⟨⟨k + 1, by omega, by go_num, BX.out⟩, by simp [intOf]; omega⟩
    · have he : m = k := by omega
      subst he
      have hk1 : ¬ ((m : Int) < (m : Int)) := by omega
      clear HR S1 S2 S3 S4
      go_wp2_with fail
      exact BW.out
end Go.Proofs.YtccekbdhffccdaaDoor
