/- Stores: the statements' own run: one ship is unloaded, kind by kind. -/
import Derived.Test.YtijjkiogmlannaaDoorEG
namespace Go.Proofs.YtijjkiogmlannaaDoor
open Go.RowKit

/-- All loops of a body, the outer ones first. -/
def loopsIn : Code → List Code
  | .loop c => c :: loopsIn c
  | .seq a b => loopsIn a ++ loopsIn b
  | .block _ c => loopsIn c
  | .scope c => loopsIn c
  | .cond _ a b => loopsIn a ++ loopsIn b
  | _ => []
def unK (g : Gd) : Nat → Int
  | 0 => 0
  | 1 => g.a
  | 2 => g.a + g.b
  | _ => g.a + g.b + g.c
theorem ulG_k {x y : Gd} {L : Int} {k : Nat} (hk : k < 3) : (ulG x y L).at k = min (min (x.at k) (y.at k)) (L - unK (ulG x y L) k) := by
  match k, hk with
  | 0, _ => show min (min x.a y.a) L = min (min x.a y.a) (L - 0); rw [Int.sub_zero]
  | 1, _ => rfl
  | 2, _ => show _ = min (min x.c y.c) (L - ((ulG x y L).a + (ulG x y L).b)); rw [← Int.sub_sub]; rfl
theorem unK_succ (g : Gd) {k : Nat} (hk : k < 3) : unK g (k + 1) = unK g k + g.at k := by
  match k, hk with
  | 0, _ => show g.a = 0 + g.a; omega
  | 1, _ => rfl
  | 2, _ => rfl
theorem mixG_put' {n o : Gd} {k : Nat} (hk : k < 3) {x : Int} (hx : x = n.at k) : (mixG k n o).put k x = mixG (k + 1) n o := by rw [hx]; exact mixG_put hk
def ldU (yd : Gd) (cg : Nat → Gd) (q : Ld) (j : Nat) : Gd := ulG (subG (cg j) (lnd q j)) (subG yd q.st) q.lf
theorem ldS_eq (yd : Gd) (cg : Nat → Gd) (q : Ld) (j : Nat) : ldS yd cg q j = ⟨addG q.st (ldU yd cg q j), q.ld.set j (addG (lnd q j) (ldU yd cg q j)), q.lf - unI (ldU yd cg q j)⟩ := rfl
theorem subG_at (g h : Gd) {k : Nat} (hk : k < 3) : (subG g h).at k = g.at k - h.at k := by
  match k, hk with
  | 0, _ => rfl
  | 1, _ => rfl
  | 2, _ => rfl
set_option maxRecDepth 1000000 in
noncomputable def bodyRK : Code := ((Tryd.f21.body.map loopsIn).getD []).getD 2 .skip
set_option maxRecDepth 1000000 in
set_option maxHeartbeats 40000000 in
theorem loopRK (C : RQ) (K : C.Ok) (hI : C.X.In C.w0) (hK : C.X.S.Ok) (q : Ld) (j : Nat) (hj : j < C.X.ns) (hq : LdOk C.X.S.yd C.X.S.cg C.X.ns q) (hr : q.lf ≤ 3000) (ss ls : List Gd) (qv sv lv : Value) (v : World) (h : RR C q.st q.ld ss ls qv sv lv v)
    {Q : Exit → Act → World → Prop} {c0 c1 c2 c3 c5 c6 c7 c8 c9 c12 c14 c18 c19 c20 c21 c22 c23 c24 c25 c26 c27 c28 c29 c30 c31 c32 c33 c34 c35 c36 c37 c38 c39 c40 c41 c42 c43 c44 c45 c46 c47 c48 c49 c50 c51 c52 c53 c54 c55 c56 c57 c58 c59 c60 c61 c62 c63 c64 c65 c66 c67 c68 c69 c70 c71 c127 c128 c129 c130 c131 c132 c133 c134 c135 c136 c137 c138 c139 c140 c141 c142 c143 c144 c145 c146 c147 c148 c149 c150 c151 c152 c153 c154 c155 c156 c157 c158 c159 c160 c161 c162 c163 c164 c165 c166 c167 c168 c169 u17 u72 u73 u74 u75 u76 u77 u78 u79 u80 u81 u82 u83 u84 u85 u86 u87 u88 u89 u90 u91 u92 u93 u94 u95 u96 u97 u98 u99 u100 u101 u102 u103 u104 u105 u106 u107 u108 u109 u110 u111 u112 u113 u114 u115 u116 u117 u118 u119 u120 u121 u122 u123 u124 u125 u126 : Value}
    (hexit : ∀ (w' : World) (e16 e17 e72 e73 e74 e75 e76 e77 e78 e79 e80 e81 e82 e83 e84 e85 e86 e87 e88 e89 e90 e91 e92 e93 e94 e95 e96 e97 e98 e99 e100 e101 e102 e103 e104 e105 e106 e107 e108 e109 e110 e111 e112 e113 e114 e115 e116 e117 e118 e119 e120 e121 e122 e123 e124 e125 e126 : Value), RR C (ldS C.X.S.yd C.X.S.cg q j).st (ldS C.X.S.yd C.X.S.cg q j).ld ss ls qv sv lv w' → Q (.exit 4) ⟨List.toArray (c0 :: c1 :: c2 :: c3 :: .pointer (some ⟨C.zb, 0, none⟩) :: c5 :: c6 :: c7 :: c8 :: c9 :: .pointer (some ⟨C.ob, 0, none⟩) :: .pointer (some ⟨C.kb, 0, none⟩) :: c12 :: .int .i64 (ldS C.X.S.yd C.X.S.cg q j).lf :: c14 :: .int .i64 (j : Int) :: e16 :: e17 :: c18 :: c19 :: c20 :: c21 :: c22 :: c23 :: c24 :: c25 :: c26 :: c27 :: c28 :: c29 :: c30 :: c31 :: c32 :: c33 :: c34 :: c35 :: c36 :: c37 :: c38 :: c39 :: c40 :: c41 :: c42 :: c43 :: c44 :: c45 :: c46 :: c47 :: c48 :: c49 :: c50 :: c51 :: c52 :: c53 :: c54 :: c55 :: c56 :: c57 :: c58 :: c59 :: c60 :: c61 :: c62 :: c63 :: c64 :: c65 :: c66 :: c67 :: c68 :: c69 :: c70 :: c71 :: e72 :: e73 :: e74 :: e75 :: e76 :: e77 :: e78 :: e79 :: e80 :: e81 :: e82 :: e83 :: e84 :: e85 :: e86 :: e87 :: e88 :: e89 :: e90 :: e91 :: e92 :: e93 :: e94 :: e95 :: e96 :: e97 :: e98 :: e99 :: e100 :: e101 :: e102 :: e103 :: e104 :: e105 :: e106 :: e107 :: e108 :: e109 :: e110 :: e111 :: e112 :: e113 :: e114 :: e115 :: e116 :: e117 :: e118 :: e119 :: e120 :: e121 :: e122 :: e123 :: e124 :: e125 :: e126 :: c127 :: c128 :: c129 :: c130 :: c131 :: c132 :: c133 :: c134 :: c135 :: c136 :: c137 :: c138 :: c139 :: c140 :: c141 :: c142 :: c143 :: c144 :: c145 :: c146 :: c147 :: c148 :: c149 :: c150 :: c151 :: c152 :: c153 :: c154 :: c155 :: c156 :: c157 :: c158 :: c159 :: c160 :: c161 :: c162 :: c163 :: c164 :: c165 :: c166 :: c167 :: c168 :: c169 :: []), []⟩ w') :
    Code.wp Tryd.prog (Code.loop bodyRK) Q ⟨List.toArray (c0 :: c1 :: c2 :: c3 :: .pointer (some ⟨C.zb, 0, none⟩) :: c5 :: c6 :: c7 :: c8 :: c9 :: .pointer (some ⟨C.ob, 0, none⟩) :: .pointer (some ⟨C.kb, 0, none⟩) :: c12 :: .int .i64 q.lf :: c14 :: .int .i64 (j : Int) :: .int .i64 0 :: u17 :: c18 :: c19 :: c20 :: c21 :: c22 :: c23 :: c24 :: c25 :: c26 :: c27 :: c28 :: c29 :: c30 :: c31 :: c32 :: c33 :: c34 :: c35 :: c36 :: c37 :: c38 :: c39 :: c40 :: c41 :: c42 :: c43 :: c44 :: c45 :: c46 :: c47 :: c48 :: c49 :: c50 :: c51 :: c52 :: c53 :: c54 :: c55 :: c56 :: c57 :: c58 :: c59 :: c60 :: c61 :: c62 :: c63 :: c64 :: c65 :: c66 :: c67 :: c68 :: c69 :: c70 :: c71 :: u72 :: u73 :: u74 :: u75 :: u76 :: u77 :: u78 :: u79 :: u80 :: u81 :: u82 :: u83 :: u84 :: u85 :: u86 :: u87 :: u88 :: u89 :: u90 :: u91 :: u92 :: u93 :: u94 :: u95 :: u96 :: u97 :: u98 :: u99 :: u100 :: u101 :: u102 :: u103 :: u104 :: u105 :: u106 :: u107 :: u108 :: u109 :: u110 :: u111 :: u112 :: u113 :: u114 :: u115 :: u116 :: u117 :: u118 :: u119 :: u120 :: u121 :: u122 :: u123 :: u124 :: u125 :: u126 :: c127 :: c128 :: c129 :: c130 :: c131 :: c132 :: c133 :: c134 :: c135 :: c136 :: c137 :: c138 :: c139 :: c140 :: c141 :: c142 :: c143 :: c144 :: c145 :: c146 :: c147 :: c148 :: c149 :: c150 :: c151 :: c152 :: c153 :: c154 :: c155 :: c156 :: c157 :: c158 :: c159 :: c160 :: c161 :: c162 :: c163 :: c164 :: c165 :: c166 :: c167 :: c168 :: c169 :: []), []⟩ v := by
  rw [ldS_eq] at hexit
  obtain ⟨g, hg⟩ := get_of_lt (l := q.ld) (k := j) (by rw [hq.len]; exact hj)
  have hgl : lnd q j = g := by unfold lnd; rw [List.getD_eq_getElem?_getD, hg]; rfl
  have hg5 := hq.ld0 j hj
  have hul := ulG_in (x := subG (C.X.S.cg j) (lnd q j)) (y := subG C.X.S.yd q.st) (L := q.lf) (by unfold subG; simp only; omega) (by have := hq.st0; have := hq.sty; unfold subG; simp only; omega) hq.lf0
  have hyd := amtB_iff.1 hK.yd
  have hcg := amtB_iff.1 (hK.cgB (j := j) (by rw [hI.hs]; exact hj))
  rw [hgl] at hg5
  have hst0 := hq.st0; have hsty := hq.sty; have hlf0 := hq.lf0
  have huk := fun (k : Nat) (hk : k < 3) => ulG_k (x := subG (C.X.S.cg j) (lnd q j)) (y := subG C.X.S.yd q.st) (L := q.lf) hk
  unfold ldU at hexit
  obtain ⟨U, hU⟩ : ∃ z, ulG (subG (C.X.S.cg j) (lnd q j)) (subG C.X.S.yd q.st) q.lf = z := ⟨_, rfl⟩
  rw [hU] at hul hexit
  rw [hU] at huk
  unfold subG at hul
  rw [hgl] at hul hexit huk
  have HUK := Lib.hid huk
  clear huk
  obtain ⟨sh, hsh⟩ := get_of_lt (l := C.X.S.ships) (k := j) (by rw [hI.hs]; exact hj)
  have hcs : C.X.S.cg j = sh.g := by unfold Sto.cg Sto.ship; rw [List.getD_eq_getElem?_getD, hsh]; rfl
  obtain ⟨bs, os, hAS, hbs, hsat⟩ := hI.P (by intro e; rw [e] at hsh; simp at hsh)
  have HSH : Hid (∀ u, Below C.w0.heap.size C.w0 u → ∀ k, k < 3 → u.cell? ⟨bs, os + j * 5 + 1 + k, none⟩ = some (.int .i64 ((C.X.S.cg j).at k))) := Lib.hid fun u hu k hk => by
    rw [hcs, Nat.add_assoc (os + j * 5)]
    exact ((bcell hu).1 _ _ hbs).trans (hsat j sh hsh (1 + k) _ (by rcases (show k = 0 ∨ k = 1 ∨ k = 2 by omega) with rfl | rfl | rfl <;> rfl))
  have HEX := Lib.hid hexit; have H0 := Lib.hid h; have HK := Lib.hid K
  have HGL := Lib.hid hg
  have hb3 : ∀ k, k < 3 → (0 ≤ g.at k ∧ g.at k ≤ (C.X.S.cg j).at k) ∧ (0 ≤ q.st.at k ∧ q.st.at k ≤ C.X.S.yd.at k) ∧ (C.X.S.cg j).at k ≤ 1000 ∧ C.X.S.yd.at k ≤ 1000 ∧ 0 ≤ U.at k ∧ 0 ≤ unK U k ∧ unK U k ≤ q.lf ∧ unK U (k + 1) ≤ q.lf := fun k hk => by
    unfold unI at hul
    simp only at hul
    match k, hk with
    | 0, _ => show (0 ≤ g.a ∧ g.a ≤ (C.X.S.cg j).a) ∧ (0 ≤ q.st.a ∧ q.st.a ≤ C.X.S.yd.a) ∧ (C.X.S.cg j).a ≤ 1000 ∧ C.X.S.yd.a ≤ 1000 ∧ 0 ≤ U.a ∧ (0 : Int) ≤ 0 ∧ 0 ≤ q.lf ∧ U.a ≤ q.lf; omega
    | 1, _ => show (0 ≤ g.b ∧ g.b ≤ (C.X.S.cg j).b) ∧ (0 ≤ q.st.b ∧ q.st.b ≤ C.X.S.yd.b) ∧ (C.X.S.cg j).b ≤ 1000 ∧ C.X.S.yd.b ≤ 1000 ∧ 0 ≤ U.b ∧ 0 ≤ U.a ∧ U.a ≤ q.lf ∧ U.a + U.b ≤ q.lf; omega
    | 2, _ => show (0 ≤ g.c ∧ g.c ≤ (C.X.S.cg j).c) ∧ (0 ≤ q.st.c ∧ q.st.c ≤ C.X.S.yd.c) ∧ (C.X.S.cg j).c ≤ 1000 ∧ C.X.S.yd.c ≤ 1000 ∧ 0 ≤ U.c ∧ 0 ≤ U.a + U.b ∧ U.a + U.b ≤ q.lf ∧ U.a + U.b + U.c ≤ q.lf; omega
  have HB3 := Lib.hid hb3
  have HUK2 : Hid (∀ k, k < 3 → U.at k = min (min ((C.X.S.cg j).at k - g.at k) (C.X.S.yd.at k - q.st.at k)) (q.lf - unK U k)) := Lib.hid fun k hk => by
    rw [← subG_at _ _ hk, ← subG_at _ _ hk]; exact HUK.out k hk
  obtain ⟨Lf, hLf⟩ : ∃ z, q.lf = z := ⟨_, rfl⟩
  have HLF := Lib.hid hLf
  have HCC := Lib.hid (And.intro hAS hbs)
  rw [hLf] at hr HEX HB3 HUK2 hlf0
  rw [hLf]
  have j0 : (0 : Int) ≤ (j : Int) := by omega
  have j1 : (j : Int) < (C.X.ns : Int) := by omega
  have jl : j < q.ld.length := by rw [hq.len]; exact hj
  have HR0 := Lib.hid (show Lf ≤ 3000 ∧ j < q.ld.length from ⟨hr, jl⟩)
  clear hexit h K hI hK hq hg hgl hg5 hul hyd hcg hst0 hsty hlf0 HUK hsh hcs hsat hU hb3 hLf hAS hbs hr jl
  conv => arg 2; arg 1; whnf
  go_loopw [13, 16] (fun lf kk wr => ∃ k : Nat, k ≤ 3 ∧ kk = .int .i64 k ∧ lf = .int .i64 (Lf - unK U k) ∧ RR C (mixG k (addG q.st U) q.st) (q.ld.set j (mixG k (addG g U) g)) ss ls qv sv lv wr) (fun _ kk _ => 3 - (intOf kk).toNat)
  case atStart => exact ⟨0, by omega, rfl, by simp [unK], by
    have e : q.ld.set j g = q.ld := by
      obtain ⟨h1, h2⟩ := List.getElem?_eq_some_iff.1 HGL.out
      rw [← h2]; exact List.set_getElem_self _
    rw [mixG_0, mixG_0, e]; exact H0.out⟩
  case round =>
    obtain ⟨k, hk, rfl, rfl, hrr⟩ := hrel
    have HRR := Lib.hid hrr
    clear hrr
    by_cases hk3 : k < 3
    · have hbel := HRR.out.bel
      obtain ⟨_, ⟨s3, s4, s5⟩, _, s9, _, _⟩ := sto_box HRR.out.box
      have hyk : wr.cell? ⟨C.zb, 3 + k, none⟩ = some (.int .i64 (C.X.S.yd.at k)) := by
        rcases (show k = 0 ∨ k = 1 ∨ k = 2 by omega) with rfl | rfl | rfl
        · exact s3
        · exact s4
        · exact s5
      rw [HCC.out.1] at s9
      have hsk := g_at HRR.out.stk hk3
      rw [mixG_at hk3] at hsk
      have hgj : (q.ld.set j (mixG k (addG g U) g))[j]? = some (mixG k (addG g U) g) := by rw [List.getElem?_set_self HR0.out.2]
      have hdk := HRR.out.ld_cell hk3 hgj
      rw [mixG_at hk3] at hdk
      have ho0 := cell_of_row wr C.ob 0 _ 35 (0, 0) HRR.out.out
      simp only [List.getElem?_toArray, List.getElem?_cons_zero] at ho0
      have hcg := HSH.out wr hbel k hk3
      obtain ⟨⟨b1, b2⟩, ⟨b3, b4⟩, b5, b6, b7, b8, b9, b10⟩ := HB3.out k hk3
      have HUk := Lib.hid (HUK2.out k hk3)
      have HUS := Lib.hid (unK_succ U hk3)
      obtain ⟨Gk, hGk⟩ : ∃ z, g.at k = z := ⟨_, rfl⟩
      obtain ⟨Sk, hSk⟩ : ∃ z, q.st.at k = z := ⟨_, rfl⟩
      obtain ⟨Yk, hYk⟩ : ∃ z, C.X.S.yd.at k = z := ⟨_, rfl⟩
      obtain ⟨Ck, hCk⟩ : ∃ z, (C.X.S.cg j).at k = z := ⟨_, rfl⟩
      obtain ⟨Nk, hNk⟩ : ∃ z, unK U k = z := ⟨_, rfl⟩
      obtain ⟨Uk, hUk⟩ : ∃ z, U.at k = z := ⟨_, rfl⟩
      rw [hGk] at hdk b1 b2 HUk; rw [hSk] at hsk b3 b4 HUk; rw [hYk] at hyk b4 b6 HUk; rw [hCk] at hcg b2 b5 HUk; rw [hNk] at b8 b9 HUk HUS; rw [hUk] at b7 HUk HUS
      rw [HUS.out] at b10
      rw [hNk]
      have HNM := Lib.hid (And.intro hGk (And.intro hSk (And.intro hNk hUk)))
      clear hGk hSk hYk hCk hNk hUk hbel s3 s4 s5 hgj
      have k0 : (0 : Int) ≤ (k : Int) := by omega
      have k1 : (k : Int) < 3 := by omega
      go_wp2_with fail
      go_quiet (fail)
      have HIF : (if Lf - Nk < if Yk - Sk < Ck - Gk then Yk - Sk else Ck - Gk then Lf - Nk else if Yk - Sk < Ck - Gk then Yk - Sk else Ck - Gk) = Uk := by
        rw [HUk.out]
        split <;> split at * <;> omega
      rw [HIF]
      have HRQ := HRR.out.below (belN (Below.refl wr.heap.size wr) nq)
      clear HIF hsk hyk hdk ho0 hcg HRR s9
      obtain ⟨wq, hwq⟩ : ∃ z, wr.drewN nq = z := ⟨_, rfl⟩
      rw [hwq] at HRQ
      rw [hwq]
      have HRR := Lib.hid HRQ
      clear hwq HRQ
      have hgj : (q.ld.set j (mixG k (addG g U) g))[j]? = some (mixG k (addG g U) g) := by rw [List.getElem?_set_self HR0.out.2]
      have hd0 := HRR.out.ld_cell hk3 hgj
      rw [mixG_at hk3, HNM.out.1] at hd0
      have hq0 := cell_of_row wq C.ob 0 _ 35 (0, 0) HRR.out.out
      simp only [List.getElem?_toArray, List.getElem?_cons_zero] at hq0
      have lD := heapsz HRR.out.lnd; have lO := heapsz HRR.out.out
      have v0 : ∀ u : KeptW wq, u.w.cell? ⟨C.D, j * 3 + k, none⟩ = some (.int .i64 Gk) := fun u => ((bcell u.h).1 _ _ lD).trans hd0
      have v1 : ∀ u : KeptW wq, u.w.cell? ⟨C.ob, 0, none⟩ = some (.slice (some ⟨C.D, 0, none⟩) C.X.ns C.X.ns) := fun u => ((bcell u.h).1 _ _ lO).trans hq0
      clear hd0 hq0 lD lO hgj
      go_wp2_with fail
      apply rk_tailX (C := fun w' => ∃ u : KeptW wq, w' = u.w)
      case hs => exact (rfl : _ = [_, _, _, _, _, _, _, _, _, _, _, _, _, _, _] ++ [_])
      case hm => kernel_rfl
      case hB => kernel_rfl
      case hT => kernel_rfl
      case hC => exact ⟨⟨wq.drew, (Below.refl wq.heap.size wq).drew⟩, rfl⟩
      repeat (go_big_quiet_step (fail))
      refine wpQuiet_nil ?_
      rintro _ ⟨uu, rfl⟩
      have hR1 := HRR.out.below uu.h
      have e0 := v0 uu
      have f0 : uu.w.frozen? ⟨C.D, j * 3 + k, none⟩ = false := by simp [World.frozen?, hR1.lnd]
      have hgj : (q.ld.set j (mixG k (addG g U) g))[j]? = some (mixG k (addG g U) g) := by rw [List.getElem?_set_self HR0.out.2]
      have hR2 := hR1.ld_put HK.out hk3 hgj (Gk + Uk)
      rw [List.set_set, mixG_put' (n := addG g U) hk3 (by rw [add_at _ _ hk3, HNM.out.1, HNM.out.2.2.2])] at hR2
      have HR2 := Lib.hid hR2
      have ew : Value.int .i64 (wrap64 (Gk + Uk)) = Value.int .i64 (Gk + Uk) := by congr 1; exact w64 (by have := HR0.out.1; omega)
      clear hR1 hR2 v0 v1 hgj HRR
      unfold Oper.wp
      simp [go_sem, e0, f0]
      rw [ew]
      clear ew e0 f0
      obtain ⟨w4, hw4⟩ : ∃ z, uu.w.setCell ⟨C.D, j * 3 + k, none⟩ (.int .i64 (Gk + Uk)) = z := ⟨_, rfl⟩
      rw [hw4] at HR2
      rw [hw4]
      clear hw4
      have hsk := g_at HR2.out.stk hk3
      rw [mixG_at hk3, HNM.out.2.1] at hsk
      have f1 := g_frz (k := k) HR2.out.stk
      have hR3 := HR2.out.stk_put HK.out hk3 (Sk + Uk)
      rw [mixG_put' (n := addG q.st U) hk3 (by rw [add_at _ _ hk3, HNM.out.2.1, HNM.out.2.2.2])] at hR3
      have HR3 := Lib.hid hR3
      clear hR3 HR2
      go_wp2_with fail
      have hr0 := HR0.out.1
      exact ⟨⟨k + 1, by omega, by go_num, by rw [HUS.out]; congr 1; rw [w64 (by omega)]; omega, by rw [show wrap64 (Sk + Uk) = Sk + Uk from w64 (by omega)]; exact HR3.out⟩, by simp [intOf]; omega⟩
    · have hke : k = 3 := by omega
      subst hke
      go_wp2_with fail
      exact HEX.out _ _ _ _ _ _ _ _ _ _ _ _ _ _ _ _ _ _ _ _ _ _ _ _ _ _ _ _ _ _ _ _ _ _ _ _ _ _ _ _ _ _ _ _ _ _ _ _ _ _ _ _ _ _ _ _ _ _ (by have := HRR.out; rw [mixG_3, mixG_3] at this; exact this)
set_option maxRecDepth 1000000 in
noncomputable def bodyRN : Code := ((Tryd.f21.body.map loopsIn).getD []).getD 3 .skip
set_option maxRecDepth 1000000 in
set_option maxHeartbeats 40000000 in
theorem loopRN (C : RQ) (K : C.Ok) (hI : C.X.In C.w0) (hK : C.X.S.Ok) (st : Gd) (hst : amtB 1000 st = true) (lb n t : Nat) (win : List Gd) (hn : n < C.X.nw) (hwin : C.X.S.wins.getD n [] = win) (ht : t < win.length) (ld ss ls : List Gd) (qv sv lv : Value) (v : World) (h : RR C st ld ss ls qv sv lv v) (hlb : v.heap[lb]? = some (.cells (gC z3) 23 (0, 0))) (hl1 : C.w0.heap.size ≤ lb) (hl2 : lb ≠ C.kb) (hl3 : lb ≠ C.D) (hl4 : sv.ownBlock ≠ some lb) (hl5 : lv.ownBlock ≠ some lb)
    {Q : Exit → Act → World → Prop} {c0 c1 c2 c5 c6 c7 c8 c9 c10 c13 c14 c15 c16 c17 c21 c22 c23 c24 c25 c26 c27 c28 c29 c30 c31 c32 c33 c34 c35 c36 c37 c38 c39 c40 c41 c42 c43 c44 c45 c46 c47 c48 c49 c50 c51 c52 c53 c54 c55 c56 c57 c58 c59 c60 c61 c62 c63 c64 c65 c66 c67 c68 c69 c70 c71 c72 c73 c74 c75 c76 c77 c78 c79 c80 c81 c82 c83 c84 c85 c86 c87 c88 c89 c90 c91 c92 c93 c94 c95 c96 c97 c98 c99 c100 c101 c102 c103 c104 c105 c106 c107 c108 c109 c110 c111 c112 c113 c114 c115 c116 c117 c118 c119 c120 c121 c122 c123 c124 c125 c126 c157 c158 c159 c160 c161 c162 c163 c164 c165 c166 c167 c168 c169 u20 u127 u128 u129 u130 u131 u132 u133 u134 u135 u136 u137 u138 u139 u140 u141 u142 u143 u144 u145 u146 u147 u148 u149 u150 u151 u152 u153 u154 u155 u156 : Value}
    (hexit : ∀ (w' : World) (e19 e20 e127 e128 e129 e130 e131 e132 e133 e134 e135 e136 e137 e138 e139 e140 e141 e142 e143 e144 e145 e146 e147 e148 e149 e150 e151 e152 e153 e154 e155 e156 : Value), RR C (takG (win.getD t z3) st) ld ss ls qv sv lv w' ∧ w'.heap[lb]? = some (.cells (gC (lacG (win.getD t z3) st)) 23 (0, 0)) → Q (.exit 6) ⟨List.toArray (c0 :: c1 :: c2 :: .int .i64 (n : Int) :: .pointer (some ⟨C.zb, 0, none⟩) :: c5 :: c6 :: c7 :: c8 :: c9 :: c10 :: .pointer (some ⟨C.kb, 0, none⟩) :: .int .i64 (t : Int) :: c13 :: c14 :: c15 :: c16 :: c17 :: .pointer (some ⟨lb, 0, none⟩) :: e19 :: e20 :: c21 :: c22 :: c23 :: c24 :: c25 :: c26 :: c27 :: c28 :: c29 :: c30 :: c31 :: c32 :: c33 :: c34 :: c35 :: c36 :: c37 :: c38 :: c39 :: c40 :: c41 :: c42 :: c43 :: c44 :: c45 :: c46 :: c47 :: c48 :: c49 :: c50 :: c51 :: c52 :: c53 :: c54 :: c55 :: c56 :: c57 :: c58 :: c59 :: c60 :: c61 :: c62 :: c63 :: c64 :: c65 :: c66 :: c67 :: c68 :: c69 :: c70 :: c71 :: c72 :: c73 :: c74 :: c75 :: c76 :: c77 :: c78 :: c79 :: c80 :: c81 :: c82 :: c83 :: c84 :: c85 :: c86 :: c87 :: c88 :: c89 :: c90 :: c91 :: c92 :: c93 :: c94 :: c95 :: c96 :: c97 :: c98 :: c99 :: c100 :: c101 :: c102 :: c103 :: c104 :: c105 :: c106 :: c107 :: c108 :: c109 :: c110 :: c111 :: c112 :: c113 :: c114 :: c115 :: c116 :: c117 :: c118 :: c119 :: c120 :: c121 :: c122 :: c123 :: c124 :: c125 :: c126 :: e127 :: e128 :: e129 :: e130 :: e131 :: e132 :: e133 :: e134 :: e135 :: e136 :: e137 :: e138 :: e139 :: e140 :: e141 :: e142 :: e143 :: e144 :: e145 :: e146 :: e147 :: e148 :: e149 :: e150 :: e151 :: e152 :: e153 :: e154 :: e155 :: e156 :: c157 :: c158 :: c159 :: c160 :: c161 :: c162 :: c163 :: c164 :: c165 :: c166 :: c167 :: c168 :: c169 :: []), []⟩ w') :
    Code.wp Tryd.prog (Code.loop bodyRN) Q ⟨List.toArray (c0 :: c1 :: c2 :: .int .i64 (n : Int) :: .pointer (some ⟨C.zb, 0, none⟩) :: c5 :: c6 :: c7 :: c8 :: c9 :: c10 :: .pointer (some ⟨C.kb, 0, none⟩) :: .int .i64 (t : Int) :: c13 :: c14 :: c15 :: c16 :: c17 :: .pointer (some ⟨lb, 0, none⟩) :: .int .i64 0 :: u20 :: c21 :: c22 :: c23 :: c24 :: c25 :: c26 :: c27 :: c28 :: c29 :: c30 :: c31 :: c32 :: c33 :: c34 :: c35 :: c36 :: c37 :: c38 :: c39 :: c40 :: c41 :: c42 :: c43 :: c44 :: c45 :: c46 :: c47 :: c48 :: c49 :: c50 :: c51 :: c52 :: c53 :: c54 :: c55 :: c56 :: c57 :: c58 :: c59 :: c60 :: c61 :: c62 :: c63 :: c64 :: c65 :: c66 :: c67 :: c68 :: c69 :: c70 :: c71 :: c72 :: c73 :: c74 :: c75 :: c76 :: c77 :: c78 :: c79 :: c80 :: c81 :: c82 :: c83 :: c84 :: c85 :: c86 :: c87 :: c88 :: c89 :: c90 :: c91 :: c92 :: c93 :: c94 :: c95 :: c96 :: c97 :: c98 :: c99 :: c100 :: c101 :: c102 :: c103 :: c104 :: c105 :: c106 :: c107 :: c108 :: c109 :: c110 :: c111 :: c112 :: c113 :: c114 :: c115 :: c116 :: c117 :: c118 :: c119 :: c120 :: c121 :: c122 :: c123 :: c124 :: c125 :: c126 :: u127 :: u128 :: u129 :: u130 :: u131 :: u132 :: u133 :: u134 :: u135 :: u136 :: u137 :: u138 :: u139 :: u140 :: u141 :: u142 :: u143 :: u144 :: u145 :: u146 :: u147 :: u148 :: u149 :: u150 :: u151 :: u152 :: u153 :: u154 :: u155 :: u156 :: c157 :: c158 :: c159 :: c160 :: c161 :: c162 :: c163 :: c164 :: c165 :: c166 :: c167 :: c168 :: c169 :: []), []⟩ v := by
  obtain ⟨need, hnd⟩ := get_of_lt (l := win) (k := t) ht
  have hne : win.getD t z3 = need := by rw [List.getD_eq_getElem?_getD, hnd]; rfl
  rw [hne] at hexit
  obtain ⟨win2, hwg⟩ := get_of_lt (l := C.X.S.wins) (k := n) (by rw [hI.hw]; exact hn)
  have hw2 : win2 = win := by rw [← hwin, List.getD_eq_getElem?_getD, hwg]; rfl
  subst hw2
  obtain ⟨hwi, hwa⟩ := hK.wins win2 (List.mem_of_getElem? hwg)
  have hN := amtB_at.1 (hwa need (List.mem_of_getElem? hnd))
  have hS := amtB_at.1 hst
  obtain ⟨bw, ow, A5, mw, c5', hAW, hbw, hmw, d2, pW, _⟩ := grid_row hI.W hwg
  have HW5 : Hid (∀ u, Below C.w0.heap.size C.w0 u → u.cell? ⟨bw, ow + n, none⟩ = some (.slice A5 mw c5')) := Lib.hid fun u hu => ((bcell hu).1 _ _ hbw).trans d2
  obtain ⟨b6, o6, hA5, hb6, hat⟩ := gds_at pW hnd
  have HW6 : Hid (∀ u, Below C.w0.heap.size C.w0 u → ∀ k, k < 3 → u.cell? ⟨b6, o6 + t * 3 + k, none⟩ = some (.int .i64 (need.at k))) := Lib.hid fun u hu k hk => ((bcell hu).1 _ _ hb6).trans (hat k hk)
  have HTK : Hid (∀ k, k < 3 → (takG need st).at k = max 0 (st.at k - need.at k) ∧ (lacG need st).at k = max 0 (need.at k - st.at k)) := Lib.hid fun k hk => by
    rw [takG_max, lacG_max]
    match k, hk with
    | 0, _ => exact ⟨rfl, rfl⟩
    | 1, _ => exact ⟨rfl, rfl⟩
    | 2, _ => exact ⟨rfl, rfl⟩
  have HNS : Hid (∀ k, k < 3 → (0 ≤ need.at k ∧ need.at k ≤ 1000) ∧ 0 ≤ st.at k ∧ st.at k ≤ 1000) := Lib.hid fun k hk => ⟨inB_iff.1 (hN k hk), inB_iff.1 (hS k hk)⟩
  have HEX := Lib.hid hexit; have H0 := Lib.hid h; have HK := Lib.hid K
  have HLB := Lib.hid (And.intro hl1 (And.intro hl2 (And.intro hl3 (And.intro hl4 hl5)))); have HL0 := Lib.hid hlb
  have HCC := Lib.hid (And.intro hAW (And.intro hA5 hmw))
  have n0 : (0 : Int) ≤ (n : Int) := by omega
  have n1 : (n : Int) < (C.X.nw : Int) := by omega
  have t0 : (0 : Int) ≤ (t : Int) := by omega
  have t1 : (t : Int) < (mw : Int) := by omega
  obtain ⟨T, hT⟩ : ∃ z, takG need st = z := ⟨_, rfl⟩
  obtain ⟨L, hL⟩ : ∃ z, lacG need st = z := ⟨_, rfl⟩
  rw [hT, hL] at HEX; rw [hT, hL] at HTK
  clear hexit h K hI hK hlb hl1 hl2 hl3 hl4 hl5 hAW hbw hmw d2 pW hA5 hb6 hat hN hS hwi hwa hwg hwin hne hnd hst ht hn hT hL
  conv => arg 2; arg 1; whnf
  go_loopw [19] (fun kk wr => ∃ k : Nat, k ≤ 3 ∧ kk = .int .i64 k ∧ RR C (mixG k T st) ld ss ls qv sv lv wr ∧ wr.heap[lb]? = some (.cells (gC (mixG k L z3)) 23 (0, 0))) (fun kk _ => 3 - (intOf kk).toNat)
  case atStart => exact ⟨0, by omega, rfl, H0.out, HL0.out⟩
  case round =>
    obtain ⟨k, hk, rfl, hrr, hlb⟩ := hrel
    have HRR := Lib.hid hrr; have HLL := Lib.hid hlb
    clear hrr hlb
    by_cases hk3 : k < 3
    · have hbel := HRR.out.bel
      obtain ⟨_, _, _, _, _, s11⟩ := sto_box HRR.out.box
      rw [HCC.out.1] at s11
      have hw5 := HW5.out wr hbel
      rw [HCC.out.2.1] at hw5
      have hw6 := HW6.out wr hbel k hk3
      have hsk := g_at HRR.out.stk hk3
      rw [mixG_at hk3] at hsk
      obtain ⟨⟨b1, b2⟩, b3, b4⟩ := HNS.out k hk3
      obtain ⟨ht1, ht2⟩ := HTK.out k hk3
      have HT1 := Lib.hid ht1; have HT2 := Lib.hid ht2
      have f0 := g_frz (k := k) HLL.out
      have hlk := g_at HLL.out hk3
      rw [mixG_at hk3] at hlk
      have hn1 : ¬ C.kb = lb := Ne.symm HLB.out.2.1
      have hn2 : ¬ lb = C.kb := HLB.out.2.1
      have hl0 := g_put HLL.out hk3 (L.at k)
      rw [mixG_put hk3] at hl0
      have HLN := Lib.hid hl0
      have f1 := g_frz (k := k) HRR.out.stk
      have f2 : (wr.setCell ⟨lb, k, none⟩ (.int .i64 (L.at k))).frozen? ⟨C.kb, k, none⟩ = false := by
        have := (Below.heap_setCell wr ⟨lb, k, none⟩ (.int .i64 (L.at k)) C.kb (Ne.symm HLB.out.2.1)).trans HRR.out.stk
        simp [World.frozen?, this]
      obtain ⟨Nk, hNk⟩ : ∃ z, need.at k = z := ⟨_, rfl⟩
      obtain ⟨Sk, hSk⟩ : ∃ z, st.at k = z := ⟨_, rfl⟩
      obtain ⟨Lk, hLk⟩ : ∃ z, L.at k = z := ⟨_, rfl⟩
      obtain ⟨Tk, hTk⟩ : ∃ z, T.at k = z := ⟨_, rfl⟩
      rw [hNk] at hw6 b1 b2 HT1 HT2; rw [hSk] at hsk b3 b4 HT1 HT2; rw [hLk] at HT2 HLN f2; rw [hTk] at HT1
      have HNM := Lib.hid (And.intro hTk hLk)
      clear hNk hSk hLk hTk hbel ht1 ht2 hl0
      have k0 : (0 : Int) ≤ (k : Int) := by omega
      have k1 : (k : Int) < 3 := by omega
      go_wp2_with fail
      obtain ⟨l1, l2, l3, l4, l5⟩ := HLB.out
      have hRl := HRR.out.only (w' := wr.setCell ⟨lb, k, none⟩ (.int .i64 (max 0 (Nk - Sk)))) (B := lb) l1 ⟨rfl, rfl, rfl, by simp [World.setCell]⟩ (fun _ hb => Below.heap_setCell _ _ _ _ hb) HLL.out l4 l5 ((Below.heap_setCell _ _ _ _ hn1).trans HRR.out.stk) ((Below.heap_setCell _ _ _ _ (Ne.symm l3)).trans HRR.out.lnd) HRR.out.ldl
      have hRk := hRl.stk_put HK.out hk3 (max 0 (Sk - Nk))
      rw [mixG_put' (n := T) hk3 (by rw [HNM.out.1, HT1.out])] at hRk
      have hll := HLN.out
      rw [HT2.out] at hll
      exact ⟨⟨k + 1, by omega, by go_num, hRk, (Below.heap_setCell _ _ _ _ hn2).trans hll⟩, by simp [intOf]; omega⟩
    · have hke : k = 3 := by omega
      subst hke
      go_wp2_with fail
      exact HEX.out _ _ _ _ _ _ _ _ _ _ _ _ _ _ _ _ _ _ _ _ _ _ _ _ _ _ _ _ _ _ _ _ _ (by have := HRR.out; have h2 := HLL.out; rw [mixG_3] at this h2; exact ⟨this, h2⟩)
end Go.Proofs.YtijjkiogmlannaaDoor
