/- Stores: the statements' own run: the ships of a week. -/
import Derived.Test.YtijjkiogmlannaaDoorEH
namespace Go.Proofs.YtijjkiogmlannaaDoor
open Go.RowKit

theorem q_ints (l : List Nat) : flatR intR (l.map fun (j : Nat) => (j : Int)) = qsL l := by
  unfold flatR intR qsL
  induction l with
  | nil => rfl
  | cons x l ih => simp only [List.map_cons, List.flatten_cons, ih]; rfl
theorem RR.q_at {C : RQ} {st : Gd} {ld ss ls : List Gd} {qv sv lv : Value} {w : World} (h : RR C st ld ss ls qv sv lv w) : ∃ A c, qv = .slice A C.q.length c ∧ IntsAt w w.heap.size A (C.q.map fun (j : Nat) => (j : Int)) := by
  have ho := h.qo
  rw [← q_ints] at ho
  obtain ⟨A, c, e, g, _⟩ := (RowIs.of_own (R := intR) (row := C.q.map fun (j : Nat) => (j : Int)) (by rw [List.length_map]; exact ho)).at_ (k := 1) (fun _ => rfl)
  rw [List.length_map] at e
  exact ⟨A, c, e, g⟩
/-- The ships of the queue, those that have not come left out. -/
def stpQ (S : Sto) (ice : List Bool) (t : Nat) (q : Ld) (j : Nat) : Ld := if arrI ice (S.ship j).w.toNat ≤ (t : Int) then ldS S.yd S.cg q j else q
def runQ (S : Sto) (ice : List Bool) (t : Nat) (q : Ld) (js : List Nat) : Ld := js.foldl (stpQ S ice t) q
theorem runQ_succ {S : Sto} {ice : List Bool} {t : Nat} {q : Ld} {js : List Nat} {i j : Nat} (h : js[i]? = some j) : runQ S ice t q (js.take (i + 1)) = stpQ S ice t (runQ S ice t q (js.take i)) j := by
  unfold runQ
  rw [List.take_add_one, h, List.foldl_append]
  rfl
theorem stpQ_ok {S : Sto} {ice : List Bool} {t n : Nat} {q : Ld} {j : Nat} (h : LdOk S.yd S.cg n q ∧ q.lf ≤ 3000) (hj : j < n) : LdOk S.yd S.cg n (stpQ S ice t q j) ∧ (stpQ S ice t q j).lf ≤ 3000 := by
  unfold stpQ
  split
  · exact ⟨ldS_ok h.1 hj, Int.le_trans (ldS_lf_le h.1 hj) h.2⟩
  · exact h
theorem runQ_ok {S : Sto} {ice : List Bool} {t n : Nat} : ∀ {js : List Nat} {q : Ld}, LdOk S.yd S.cg n q ∧ q.lf ≤ 3000 → (∀ j ∈ js, j < n) → LdOk S.yd S.cg n (runQ S ice t q js) ∧ (runQ S ice t q js).lf ≤ 3000
  | [], _, h, _ => h
  | j :: js, _, h, hj => runQ_ok (js := js) (stpQ_ok h (hj j (List.mem_cons_self ..))) fun i hi => hj i (List.mem_cons_of_mem _ hi)
set_option maxRecDepth 1000000 in
noncomputable def bodyRQ : Code := ((Tryd.f21.body.map loopsIn).getD []).getD 1 .skip
set_option maxRecDepth 1000000 in
set_option maxHeartbeats 40000000 in
theorem loopRQ (C : RQ) (K : C.Ok) (hI : C.X.In C.w0) (hK : C.X.S.Ok) (p i t : Nat) (ice : List Bool) (r : Rn) (hi : i < C.X.ni) (hice : C.X.S.ices.getD i [] = ice) (hq : C.q = C.X.S.queue p ice C.X.S.land.toNat) (hr : LdOk C.X.S.yd C.X.S.cg C.X.ns ⟨r.st, r.ld, C.X.S.rate⟩) (ht : t ≤ 30) (ss ls : List Gd) (qv sv lv : Value) (v : World) (h : RR C r.st r.ld ss ls qv sv lv v)
    {Q : Exit → Act → World → Prop} {c0 c1 c3 c5 c6 c7 c8 c18 c19 c20 c21 c22 c23 c24 c25 c26 c27 c28 c29 c30 c31 c32 c33 c34 c35 c36 c37 c38 c39 c127 c128 c129 c130 c131 c132 c133 c134 c135 c136 c137 c138 c139 c140 c141 c142 c143 c144 c145 c146 c147 c148 c149 c150 c151 c152 c153 c154 c155 c156 c157 c158 c159 c160 c161 c162 c163 c164 c165 c166 c167 c168 c169 u15 u16 u17 u40 u41 u42 u43 u44 u45 u46 u47 u48 u49 u50 u51 u52 u53 u54 u55 u56 u57 u58 u59 u60 u61 u62 u63 u64 u65 u66 u67 u68 u69 u70 u71 u72 u73 u74 u75 u76 u77 u78 u79 u80 u81 u82 u83 u84 u85 u86 u87 u88 u89 u90 u91 u92 u93 u94 u95 u96 u97 u98 u99 u100 u101 u102 u103 u104 u105 u106 u107 u108 u109 u110 u111 u112 u113 u114 u115 u116 u117 u118 u119 u120 u121 u122 u123 u124 u125 u126 : Value}
    (hexit : ∀ (w' : World) (e13 e14 e15 e16 e17 e40 e41 e42 e43 e44 e45 e46 e47 e48 e49 e50 e51 e52 e53 e54 e55 e56 e57 e58 e59 e60 e61 e62 e63 e64 e65 e66 e67 e68 e69 e70 e71 e72 e73 e74 e75 e76 e77 e78 e79 e80 e81 e82 e83 e84 e85 e86 e87 e88 e89 e90 e91 e92 e93 e94 e95 e96 e97 e98 e99 e100 e101 e102 e103 e104 e105 e106 e107 e108 e109 e110 e111 e112 e113 e114 e115 e116 e117 e118 e119 e120 e121 e122 e123 e124 e125 e126 : Value), RR C (C.X.S.landed p ice r t).st (C.X.S.landed p ice r t).ld ss ls qv sv lv w' → Q (.exit 2) ⟨List.toArray (c0 :: c1 :: .int .i64 (i : Int) :: c3 :: .pointer (some ⟨C.zb, 0, none⟩) :: c5 :: c6 :: c7 :: c8 :: qv :: .pointer (some ⟨C.ob, 0, none⟩) :: .pointer (some ⟨C.kb, 0, none⟩) :: .int .i64 (t : Int) :: e13 :: e14 :: e15 :: e16 :: e17 :: c18 :: c19 :: c20 :: c21 :: c22 :: c23 :: c24 :: c25 :: c26 :: c27 :: c28 :: c29 :: c30 :: c31 :: c32 :: c33 :: c34 :: c35 :: c36 :: c37 :: c38 :: c39 :: e40 :: e41 :: e42 :: e43 :: e44 :: e45 :: e46 :: e47 :: e48 :: e49 :: e50 :: e51 :: e52 :: e53 :: e54 :: e55 :: e56 :: e57 :: e58 :: e59 :: e60 :: e61 :: e62 :: e63 :: e64 :: e65 :: e66 :: e67 :: e68 :: e69 :: e70 :: e71 :: e72 :: e73 :: e74 :: e75 :: e76 :: e77 :: e78 :: e79 :: e80 :: e81 :: e82 :: e83 :: e84 :: e85 :: e86 :: e87 :: e88 :: e89 :: e90 :: e91 :: e92 :: e93 :: e94 :: e95 :: e96 :: e97 :: e98 :: e99 :: e100 :: e101 :: e102 :: e103 :: e104 :: e105 :: e106 :: e107 :: e108 :: e109 :: e110 :: e111 :: e112 :: e113 :: e114 :: e115 :: e116 :: e117 :: e118 :: e119 :: e120 :: e121 :: e122 :: e123 :: e124 :: e125 :: e126 :: c127 :: c128 :: c129 :: c130 :: c131 :: c132 :: c133 :: c134 :: c135 :: c136 :: c137 :: c138 :: c139 :: c140 :: c141 :: c142 :: c143 :: c144 :: c145 :: c146 :: c147 :: c148 :: c149 :: c150 :: c151 :: c152 :: c153 :: c154 :: c155 :: c156 :: c157 :: c158 :: c159 :: c160 :: c161 :: c162 :: c163 :: c164 :: c165 :: c166 :: c167 :: c168 :: c169 :: []), []⟩ w') :
    Code.wp Tryd.prog (Code.loop bodyRQ) Q ⟨List.toArray (c0 :: c1 :: .int .i64 (i : Int) :: c3 :: .pointer (some ⟨C.zb, 0, none⟩) :: c5 :: c6 :: c7 :: c8 :: qv :: .pointer (some ⟨C.ob, 0, none⟩) :: .pointer (some ⟨C.kb, 0, none⟩) :: .int .i64 (t : Int) :: .int .i64 C.X.S.rate :: .int .i64 0 :: u15 :: u16 :: u17 :: c18 :: c19 :: c20 :: c21 :: c22 :: c23 :: c24 :: c25 :: c26 :: c27 :: c28 :: c29 :: c30 :: c31 :: c32 :: c33 :: c34 :: c35 :: c36 :: c37 :: c38 :: c39 :: u40 :: u41 :: u42 :: u43 :: u44 :: u45 :: u46 :: u47 :: u48 :: u49 :: u50 :: u51 :: u52 :: u53 :: u54 :: u55 :: u56 :: u57 :: u58 :: u59 :: u60 :: u61 :: u62 :: u63 :: u64 :: u65 :: u66 :: u67 :: u68 :: u69 :: u70 :: u71 :: u72 :: u73 :: u74 :: u75 :: u76 :: u77 :: u78 :: u79 :: u80 :: u81 :: u82 :: u83 :: u84 :: u85 :: u86 :: u87 :: u88 :: u89 :: u90 :: u91 :: u92 :: u93 :: u94 :: u95 :: u96 :: u97 :: u98 :: u99 :: u100 :: u101 :: u102 :: u103 :: u104 :: u105 :: u106 :: u107 :: u108 :: u109 :: u110 :: u111 :: u112 :: u113 :: u114 :: u115 :: u116 :: u117 :: u118 :: u119 :: u120 :: u121 :: u122 :: u123 :: u124 :: u125 :: u126 :: c127 :: c128 :: c129 :: c130 :: c131 :: c132 :: c133 :: c134 :: c135 :: c136 :: c137 :: c138 :: c139 :: c140 :: c141 :: c142 :: c143 :: c144 :: c145 :: c146 :: c147 :: c148 :: c149 :: c150 :: c151 :: c152 :: c153 :: c154 :: c155 :: c156 :: c157 :: c158 :: c159 :: c160 :: c161 :: c162 :: c163 :: c164 :: c165 :: c166 :: c167 :: c168 :: c169 :: []), []⟩ v := by
  obtain ⟨A, cq, hqv, _⟩ := h.q_at
  have n6 := hK.n6
  have hns := hI.hs
  have hland := hK.land
  obtain ⟨lk, hlk⟩ : ∃ lk : Nat, C.X.S.land = (lk : Int) := ⟨C.X.S.land.toNat, by omega⟩
  have hlt' : C.X.S.land.toNat = lk := by omega
  rw [hlt'] at hq
  have hql := queue_bound C.X.S p ice lk
  rw [← hq] at hql
  have hq48 : C.q.length ≤ 48 := Nat.le_trans hql (Nat.mul_le_mul (show lk ≤ 8 by omega) n6)
  have HQJ : Hid (∀ a j, C.q[a]? = some j → j < C.X.ns) := Lib.hid fun a j hj => by
    rw [hq] at hj
    have := (queue_mem.1 (List.mem_of_getElem? hj)).1
    rw [hns] at this; exact this
  have hmem : ∀ j ∈ C.q, j < C.X.ns := fun j hj => by
    rw [hq] at hj
    have := (queue_mem.1 hj).1
    rw [hns] at this; exact this
  have HOK : Hid (∀ a, LdOk C.X.S.yd C.X.S.cg C.X.ns (runQ C.X.S ice t ⟨r.st, r.ld, C.X.S.rate⟩ (C.q.take a)) ∧ (runQ C.X.S ice t ⟨r.st, r.ld, C.X.S.rate⟩ (C.q.take a)).lf ≤ 3000) := Lib.hid fun a =>
    runQ_ok ⟨hr, hK.rate.2⟩ fun j hj => hmem j (List.mem_of_mem_take hj)
  obtain ⟨ice2, hig⟩ := get_of_lt (l := C.X.S.ices) (k := i) (by rw [hI.hi]; exact hi)
  have hi2 : ice2 = ice := by rw [← hice, List.getD_eq_getElem?_getD, hig]; rfl
  subst hi2
  have hic := hK.ices ice2 (List.mem_of_getElem? hig)
  have hil : ice2.length = lk := by omega
  obtain ⟨bi, oi, A4, mi, c4', hAI, hbi, hmi, d1, pI, _⟩ := grid_row hI.I hig
  rw [hil] at hmi
  have HI5 : Hid (∀ u, Below C.w0.heap.size C.w0 u → u.cell? ⟨bi, oi + i, none⟩ = some (.slice A4 lk c4')) := Lib.hid fun u hu => by rw [← hmi]; exact ((bcell hu).1 _ _ hbi).trans d1
  have HIC : Hid (∀ u, Below C.w0.heap.size C.w0 u → ∀ x, ice2[t]? = some x → ∃ b o, A4 = some ⟨b, o, none⟩ ∧ u.cell? ⟨b, o + t, none⟩ = some (.bool x)) := Lib.hid fun u hu x hx => by
    obtain ⟨b, o, e, hb, c0⟩ := bls_el pI hx
    exact ⟨b, o, e, ((bcell hu).1 _ _ hb).trans c0⟩
  have HAR : Hid (∀ u, Below C.w0.heap.size C.w0 u → ∀ j, j < C.X.ns → Calls Tryd.prog 23 #[C.X.v, .int .i64 (j : Int), .int .i64 (i : Int)] u fun e w' => e = .returned (.int .i64 (arrI ice2 (C.X.S.ship j).w.toNat)) ∧ Below u.heap.size u w') := Lib.hid fun u hu j hj => by
    have := rarr_any (hI.up hu) hK j i hj hi
    rw [hice] at this
    exact this
  have HEX := Lib.hid hexit; have H0 := Lib.hid h; have HK := Lib.hid K; have HI := Lib.hid hI; have HKK := Lib.hid hK; have HQ := Lib.hid hq; have HLK := Lib.hid hlk; have HIL := Lib.hid hil; have HAI := Lib.hid hAI; have HQV := Lib.hid hqv
  have i0 : (0 : Int) ≤ (i : Int) := by omega
  have i1 : (i : Int) < (C.X.ni : Int) := by omega
  have t0 : (0 : Int) ≤ (t : Int) := by omega
  have lk8 : lk ≤ 8 := by omega
  clear hexit h K hI hK hq hr hqv hlk hlt' hql hmem hig hice hic hil hbi hmi d1 pI hAI hland n6 hns hi
  conv => arg 2; arg 1; whnf
  by_cases hop : t < lk ∧ ice2.getD t false = true
  · have hland : C.X.S.landed p ice2 r t = runQ C.X.S ice2 t ⟨r.st, r.ld, C.X.S.rate⟩ C.q := by
      unfold Sto.landed runQ
      rw [if_pos ⟨by rw [HLK.out]; omega, hop.2⟩, HQ.out]
      exact (ldF_queue hop.1 _).symm
    rw [hland] at HEX
    obtain ⟨x, hx⟩ := get_of_lt (l := ice2) (k := t) (by rw [HIL.out]; exact hop.1)
    have hxt : x = true := by have := hop.2; rw [List.getD_eq_getElem?_getD, hx] at this; exact this
    subst hxt
    have HX := Lib.hid hx
    have t1 : (t : Int) < (lk : Int) := by omega
    clear hop hx hland
    go_loopw [13, 14] (fun lf a wr => ∃ k : Nat, k ≤ C.q.length ∧ a = .int .i64 k ∧ lf = .int .i64 (runQ C.X.S ice2 t ⟨r.st, r.ld, C.X.S.rate⟩ (C.q.take k)).lf ∧ RR C (runQ C.X.S ice2 t ⟨r.st, r.ld, C.X.S.rate⟩ (C.q.take k)).st (runQ C.X.S ice2 t ⟨r.st, r.ld, C.X.S.rate⟩ (C.q.take k)).ld ss ls qv sv lv wr) (fun _ a _ => C.q.length - (intOf a).toNat)
    case atStart => exact ⟨0, Nat.zero_le _, rfl, rfl, H0.out⟩
    case round =>
      obtain ⟨k, hk, rfl, rfl, hrr⟩ := hrel
      have hbel := hrr.bel
      obtain ⟨A', cq', hqv', hints⟩ := hrr.q_at
      rw [HQV.out] at hqv'
      injection hqv' with h1 _ h3
      subst h1 h3
      have HRR := Lib.hid hrr
      obtain ⟨⟨s0, s1, s2⟩, ⟨s3, s4, s5⟩, ⟨s6, s7, s8⟩, s9, s10, s11⟩ := sto_box hrr.box
      rw [HLK.out] at s8
      clear hrr
      have hqo := HQV.out
      by_cases hlt : k < C.q.length
      · obtain ⟨j, hj⟩ := get_of_lt (l := C.q) (k := k) hlt
        have hjn := HQJ.out k j hj
        obtain ⟨bq, oq, rfl, hbq, cq0⟩ := ints_el hints (i := k) (x := (j : Int)) (by rw [List.getElem?_map, hj]; rfl)
        have hii := HI5.out wr hbel
        obtain ⟨bx, ox, rfl, hxx⟩ := HIC.out wr hbel true HX.out
        rw [HAI.out] at s10
        have hsu := runQ_succ (S := C.X.S) (ice := ice2) (t := t) (q := ⟨r.st, r.ld, C.X.S.rate⟩) hj
        have HSU := Lib.hid hsu
        have k0 : (0 : Int) ≤ (k : Int) := by omega
        have k1 : (k : Int) < (C.q.length : Int) := by omega
        have har := HAR.out wr hbel j hjn
        unfold SX.v at har
        rw [HLK.out, HAI.out] at har
        have HA := Lib.hid har
        obtain ⟨Ar, hAr⟩ : ∃ z, arrI ice2 (C.X.S.ship j).w.toNat = z := ⟨_, rfl⟩
        have HAr := Lib.hid hAr
        rw [hAr] at HA
        obtain ⟨q, hqq⟩ : ∃ z, runQ C.X.S ice2 t ⟨r.st, r.ld, C.X.S.rate⟩ (C.q.take k) = z := ⟨_, rfl⟩
        have hqk := HOK.out k
        rw [hqq] at HSU HRR hqk
        rw [hqq]
        have HQK := Lib.hid hqk
        have HJN := Lib.hid hjn
        clear hj hjn hints hbel hsu har hAr hqq hqk hbq
        subst hqo
        go_wp2_with fail
        refine HA.out.mono ?_
        rintro e w8 ⟨rfl, hb⟩
        have HR2 := Lib.hid (HRR.out.below hb)
        clear hb s0 s1 s2 s3 s4 s5 s6 s7 s8 s9 s10 s11 hii hxx cq0 HRR
        by_cases hle : Ar ≤ (t : Int)
        · have hng : ¬ (t : Int) < Ar := by omega
          have hst : stpQ C.X.S ice2 t q j = ldS C.X.S.yd C.X.S.cg q j := by unfold stpQ; rw [HAr.out, if_pos hle]
          rw [hst] at HSU
          clear hst
          go_wp2_with fail
          refine (fun (h : ∀ C : Code, C = bodyRK → Code.wp Tryd.prog (Code.loop C) _ _ _) => h _ (by kernel_rfl)) ?_
          rintro _ rfl
          refine loopRK C HK.out HI.out HKK.out q j HJN.out HQK.out.1 HQK.out.2 ss ls _ sv lv _ HR2.out ?_
          intro w9
          intros
          rename_i h9
          have H9 := Lib.hid h9
          clear h9
          go_wp2_with fail
          exact ⟨⟨k + 1, by omega, by go_num, by rw [HSU.out], by rw [HSU.out]; exact H9.out⟩, by simp [intOf]; omega⟩
        · have hng : (t : Int) < Ar := by omega
          have hst : stpQ C.X.S ice2 t q j = q := by unfold stpQ; rw [HAr.out, if_neg hle]
          rw [hst] at HSU
          clear hst
          go_wp2_with fail
          exact ⟨⟨k + 1, by omega, by go_num, by rw [HSU.out], by rw [HSU.out]; exact HR2.out⟩, by simp [intOf]; omega⟩
      · have hke : k = C.q.length := by omega
        have k1 : ¬ (k : Int) < (C.q.length : Int) := by omega
        have hall : C.q.take k = C.q := by rw [hke, List.take_length]
        rw [hall] at HRR
        rw [hall]
        clear hbel hints hall
        subst hqo
        subst hke
        go_wp2_with fail
        exact HEX.out _ _ _ _ _ _ _ _ _ _ _ _ _ _ _ _ _ _ _ _ _ _ _ _ _ _ _ _ _ _ _ _ _ _ _ _ _ _ _ _ _ _ _ _ _ _ _ _ _ _ _ _ _ _ _ _ _ _ _ _ _ _ _ _ _ _ _ _ _ _ _ _ _ _ _ _ _ _ _ _ _ _ _ _ _ _ _ _ _ _ _ _ _ HRR.out
  · have hland : C.X.S.landed p ice2 r t = ⟨r.st, r.ld, C.X.S.rate⟩ := by
      unfold Sto.landed
      rw [if_neg (fun h => hop ⟨by have := HLK.out; omega, h.2⟩)]
    rw [hland] at HEX
    simp only at HEX
    clear hland
    go_loopw [13, 14] (fun lf a wr => lf = .int .i64 C.X.S.rate ∧ a = .int .i64 0 ∧ v = wr) (fun _ _ _ => 0)
    case atStart => exact ⟨rfl, rfl, rfl⟩
    case round =>
      obtain ⟨rfl, rfl, rfl⟩ := hrel
      have hbel := H0.out.bel
      obtain ⟨⟨s0, s1, s2⟩, ⟨s3, s4, s5⟩, ⟨s6, s7, s8⟩, s9, s10, s11⟩ := sto_box H0.out.box
      rw [HLK.out] at s8
      rw [HAI.out] at s10
      have hqo := HQV.out
      have hii := HI5.out v hbel
      have hzz : (0 : Int) < (C.q.length : Int) ∨ ¬ (0 : Int) < (C.q.length : Int) := Decidable.em _
      by_cases htl : t < lk
      · obtain ⟨x, hx⟩ := get_of_lt (l := ice2) (k := t) (by rw [HIL.out]; exact htl)
        have hxt : x = false := by
          cases x with
          | false => rfl
          | true => exact absurd ⟨htl, by rw [List.getD_eq_getElem?_getD, hx]; rfl⟩ hop
        subst hxt
        obtain ⟨bx, ox, rfl, hxx⟩ := HIC.out v hbel false hx
        have t1 : (t : Int) < (lk : Int) := by omega
        clear hx hop hbel
        subst hqo
        by_cases hz : 0 < C.q.length
        · have hz1 : (0 : Int) < (C.q.length : Int) := by omega
          clear hzz
          go_wp2_with fail
          exact HEX.out _ _ _ _ _ _ _ _ _ _ _ _ _ _ _ _ _ _ _ _ _ _ _ _ _ _ _ _ _ _ _ _ _ _ _ _ _ _ _ _ _ _ _ _ _ _ _ _ _ _ _ _ _ _ _ _ _ _ _ _ _ _ _ _ _ _ _ _ _ _ _ _ _ _ _ _ _ _ _ _ _ _ _ _ _ _ _ _ _ _ _ _ _ H0.out
        · have hz1 : ¬ (0 : Int) < (C.q.length : Int) := by omega
          clear hzz
          go_wp2_with fail
          exact HEX.out _ _ _ _ _ _ _ _ _ _ _ _ _ _ _ _ _ _ _ _ _ _ _ _ _ _ _ _ _ _ _ _ _ _ _ _ _ _ _ _ _ _ _ _ _ _ _ _ _ _ _ _ _ _ _ _ _ _ _ _ _ _ _ _ _ _ _ _ _ _ _ _ _ _ _ _ _ _ _ _ _ _ _ _ _ _ _ _ _ _ _ _ _ H0.out
      · have t1 : ¬ (t : Int) < (lk : Int) := by omega
        clear hop hbel
        subst hqo
        by_cases hz : 0 < C.q.length
        · have hz1 : (0 : Int) < (C.q.length : Int) := by omega
          clear hzz
          go_wp2_with fail
          exact HEX.out _ _ _ _ _ _ _ _ _ _ _ _ _ _ _ _ _ _ _ _ _ _ _ _ _ _ _ _ _ _ _ _ _ _ _ _ _ _ _ _ _ _ _ _ _ _ _ _ _ _ _ _ _ _ _ _ _ _ _ _ _ _ _ _ _ _ _ _ _ _ _ _ _ _ _ _ _ _ _ _ _ _ _ _ _ _ _ _ _ _ _ _ _ H0.out
        · have hz1 : ¬ (0 : Int) < (C.q.length : Int) := by omega
          clear hzz
          go_wp2_with fail
          exact HEX.out _ _ _ _ _ _ _ _ _ _ _ _ _ _ _ _ _ _ _ _ _ _ _ _ _ _ _ _ _ _ _ _ _ _ _ _ _ _ _ _ _ _ _ _ _ _ _ _ _ _ _ _ _ _ _ _ _ _ _ _ _ _ _ _ _ _ _ _ _ _ _ _ _ _ _ _ _ _ _ _ _ _ _ _ _ _ _ _ _ _ _ _ _ H0.out
end Go.Proofs.YtijjkiogmlannaaDoor
