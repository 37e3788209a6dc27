/- Pipes: repairs in time: the loop of the statement, cut out. -/
import Derived.Test.YticmeeinjkoodaaSA
import Derived.Lib.MinMax
namespace Go.Proofs.Yticmeeinjkoodaa
open Go.RowKit Go.Shelf

/-- The order that is told. -/
theorem told_order {N : Nt} {p f : Int} (K : FsOk N p [f]) {sl : Int} (hsl : slk N 0 f.toNat p.toNat 0 = sl) :
    (sl = -1 → orderE N p f = 5) ∧ (sl ≠ -1 → orderE N p f = 0 ∧ ∃ js : List Nat, orderL N p f = js.map (fun k : Nat => (k : Int)) ∧ IsOrd N.lo.length f.toNat (orderL N p f) ∧ 0 ≤ ordS N p.toNat 0 js ∧ (∀ j ∈ js, j < N.lo.length) ∧ js.length ≤ 5) := by
  have hff := K.fs f (by simp)
  have h5 := K.ok.n5
  have hpow : (2 : Int) ^ N.lo.length = ((2 ^ N.lo.length : Nat) : Int) := by simp
  have hs : f.toNat < 2 ^ N.lo.length := by omega
  have hs32 : f.toNat < 32 := Nat.lt_of_lt_of_le hs (Nat.pow_le_pow_right (show 0 < 2 by decide) h5.2)
  have h0 : faultsI N p [f] = 0 := faults_zero.2 K
  have hge := slk_ge N 0 f.toNat p.toNat 0
  have hle := slk_le (wayOk K.ok) 0 f.toNat p.toNat (t := 0) (Int.le_refl _)
  rw [hsl] at hge hle
  refine ⟨fun h1 => ?_, fun h1 => ?_⟩
  · unfold orderE
    rw [if_pos h0, hsl, if_pos h1]
  · have hsl0 : 0 ≤ sl := by omega
    unfold orderE orderL
    rw [if_pos h0, if_pos h0, hsl, if_neg h1, if_neg h1]
    obtain ⟨t1, t2⟩ := ord_told (N := N) hsl0 hle f.toNat f.toNat p.toNat 0 (Nat.le_refl _) (by rw [hsl]; exact Int.le_refl _)
    have t4 := isOrd_of hs32 hs t1
    have t5 := ordV_bits _ _ hs32 t1
    refine ⟨rfl, ordI N 0 sl f.toNat p.toNat 0, rfl, t4, by omega, fun j hj => ?_, ?_⟩
    · have := (t4.inn (j : Int) (List.mem_map.2 ⟨j, hj, rfl⟩)).2.1
      omega
    · rw [t5.2.2]
      exact Nat.le_trans (pil_len (s := (f.toNat : Int)) (k := 5)) (by decide)
def pctOk (n : Nat) (l : List Int) : Prop := (1 ≤ n ∧ n ≤ 200) ∧ ∀ p ∈ l, 0 ≤ p ∧ p ≤ 100
theorem pct_ok {n : Nat} {l : List Int} (hl : l.length = n) (h : pctB l = true) : pctOk n l := by
  unfold pctB at h
  rw [Bool.and_eq_true, List.all_eq_true, decide_eq_true_eq, hl] at h
  refine ⟨h.2, fun p hp => ?_⟩
  have := h.1 p hp
  unfold pct1 at this
  exact of_decide_eq_true this
theorem store2 {w : World} {B : Nat} {a b : Value} {t : TypeId} (h : w.heap[B]? = some (.cells #[a, b] t (0, 0))) (v0 v1 : Value) :
    ∃ w', w.setCells B 0 (#[v0, v1] : Array Value).toList = w' ∧ w.there B 0 (#[v0, v1] : Array Value).size ∧ w'.heap[B]? = some (.cells #[v0, v1] t (0, 0)) ∧ (∀ n, n ≤ B → Below n w w') := by
  refine ⟨_, rfl, ?_, fill2 v0 v1 h, fun n hn => ((Below.refl n w).setCell (p := ⟨B, 0, none⟩) hn _).setCell (p := ⟨B, 1, none⟩) hn _⟩
  intro j hj
  have hj2 : j < 2 := hj
  have hc := cell_of_row w B (0 + j) _ t (0, 0) h
  have hf : w.frozen? ⟨B, 0 + j, none⟩ = false := by simp [World.frozen?, h]
  rw [hc, hf]
  refine ⟨?_, rfl⟩
  match j, hj2 with
  | 0, _ => rfl
  | 1, _ => rfl
theorem box2 {w : World} {B : Nat} {a b : Value} {t : TypeId} (h : w.heap[B]? = some (.cells #[a, b] t (0, 0))) : w.cell? ⟨B, 0, none⟩ = some a ∧ w.cell? ⟨B, 1, none⟩ = some b := by
  rw [cell_of_row w B 0 _ t (0, 0) h, cell_of_row w B 1 _ t (0, 0) h]
  exact ⟨rfl, rfl⟩
def wyCv (Z k ak j : Nat) (a1 a2 a5 aw : Addr) (nl cl nw cw on oc m c : Nat) (y fl fh : Int) (g : Nat) : Tmp → Value
  | 5 => .pointer (some ⟨Z, 0, none⟩)
  | 11 => .slice (some a2) on oc
  | 14 => .int .i64 ak
  | 16 => .int .i64 k
  | 84 => .pointer (some ⟨Z, 2, none⟩)
  | 85 => .slice (some aw) nw cw
  | 86 => .int .i64 ak
  | 87 => .pointer (some ⟨aw.block, aw.off + ak, none⟩)
  | 88 => .slice (some a5) m c
  | 89 => .slice (some a2) on oc
  | 90 => .int .i64 k
  | 91 => .pointer (some ⟨a2.block, a2.off + k, none⟩)
  | 92 => .int .i64 j
  | 93 => .int .i64 (j + 1)
  | 94 => .pointer (some ⟨a5.block, a5.off + (j + 1), none⟩)
  | 95 => .int .i64 y
  | 96 => .pointer (some ⟨Z, 0, none⟩)
  | 97 => .slice (some a1) nl cl
  | 98 => .slice (some a2) on oc
  | 99 => .int .i64 k
  | 100 => .pointer (some ⟨a2.block, a2.off + k, none⟩)
  | 101 => .int .i64 j
  | 102 => .pointer (some ⟨a1.block, a1.off + j * 12, none⟩)
  | 103 => .pointer (some ⟨a1.block, a1.off + j * 12 + 10, none⟩)
  | 104 => .agg #[.int .i64 fl, .int .i64 fh]
  | 18 => .pointer (some ⟨g, 0, none⟩)
  | 17 => .int .i64 y
  | _ => default
def ipCv (Z k j H : Nat) (a1 a2 ad : Addr) (nl cl on oc n c : Nat) (nv : Value) (wl wh p x : Int) (S : Ht) (g : Nat × Value) : Tmp → Value
  | 5 => .pointer (some ⟨Z, 0, none⟩)
  | 11 => .slice (some a2) on oc
  | 16 => .int .i64 k
  | 15 => .int .i64 H
  | 4 => .slice (some ad) n c
  | 146 => nv
  | 147 => .slice (some a2) on oc
  | 148 => .int .i64 k
  | 149 => .pointer (some ⟨a2.block, a2.off + k, none⟩)
  | 150 => .int .i64 j
  | 151 => .pointer (some ⟨Z, 0, none⟩)
  | 152 => .slice (some a1) nl cl
  | 153 => .slice (some a2) on oc
  | 154 => .int .i64 k
  | 155 => .pointer (some ⟨a2.block, a2.off + k, none⟩)
  | 156 => .int .i64 j
  | 157 => .pointer (some ⟨a1.block, a1.off + j * 12, none⟩)
  | 158 => .pointer (some ⟨a1.block, a1.off + j * 12, none⟩)
  | 159 => .agg #[.int .i64 wl, .int .i64 wh]
  | 160 => .slice (some ad) n c
  | 161 => .pointer (some ⟨ad.block, ad.off, none⟩)
  | 162 => .int .i64 p
  | 163 => .int .i64 x
  | 164 => nv
  | 165 => .slice (some a2) on oc
  | 166 => .int .i64 k
  | 167 => .pointer (some ⟨a2.block, a2.off + k, none⟩)
  | 168 => .int .i64 j
  | 169 => .int .i64 H
  | 170 => .slice (some ad) n c
  | 171 => g.2
  | 172 => .tuple #[htV S, .int .i64 0]
  | 145 => .tuple #[htV S, .int .i64 0]
  | 173 => htV S
  | 174 => .int .i64 0
  | 19 => .pointer (some ⟨g.1, 0, none⟩)
  | 20 => .int .i64 0
  | _ => default
def loopsIn : Code → List Code
  | .loop c => c :: loopsIn c
  | .seq a b => loopsIn a ++ loopsIn b
  | .block _ c => loopsIn c
  | .scope c => loopsIn c
  | .cond _ a b => loopsIn a ++ loopsIn b
  | _ => []
set_option maxRecDepth 1000000 in
noncomputable def bodyIT : Code := ((Try.f10.body.map loopsIn).getD []).getD 0 .skip
set_option maxRecDepth 1000000 in
set_option maxHeartbeats 40000000 in
theorem loopIT (V : NV) (N : Nt) (Z a : Nat) (js : List Nat) (fs wh : List Int) (A : Option Addr) (n c : Nat) (B : Option Addr) (nb cb : Nat) (O : Option Addr) (on oc : Nat) (v : World) (hN : NtAt v v.heap.size V N) (hZ : v.heap[Z]? = some (.cells (nvC V) 26 (0, 0))) (hK : NtOk N) (hal : a ≤ N.lo.length) (hl : fs.length = n) (hA : IntsAt v v.heap.size A fs) (hpf : pctOk n fs) (hlb : wh.length = nb) (hB : IntsAt v v.heap.size B wh) (hpc : pctOk nb wh) (hjl : ∀ j ∈ js, j < N.lo.length) (hjn : js.length = on) (hon : on ≤ 5) (hO : IntsAt v v.heap.size O (js.map fun k : Nat => (k : Int))) (hos : 0 ≤ ordS N a 0 js)
    {Q : Exit → Act → World → Prop} {c0 c1 c2 c6 c7 c8 c9 c12 c13 c21 c22 c23 c24 c25 c26 c27 c28 c29 c30 c31 c32 c33 c34 c35 c36 c37 c38 c39 c40 c41 c42 c43 c44 c45 c46 c47 c48 c49 c50 c51 c52 c53 c54 c55 c56 c57 c58 c59 c60 c61 c62 c63 c64 c65 c66 c67 c68 c69 c70 c71 c72 c73 c74 c75 c76 c77 c182 u10 u17 u18 u19 u20 u78 u79 u80 u81 u82 u83 u84 u85 u86 u87 u88 u89 u90 u91 u92 u93 u94 u95 u96 u97 u98 u99 u100 u101 u102 u103 u104 u105 u106 u107 u108 u109 u110 u111 u112 u113 u114 u115 u116 u117 u118 u119 u120 u121 u122 u123 u124 u125 u126 u127 u128 u129 u130 u131 u132 u133 u134 u135 u136 u137 u138 u139 u140 u141 u142 u143 u144 u145 u146 u147 u148 u149 u150 u151 u152 u153 u154 u155 u156 u157 u158 u159 u160 u161 u162 u163 u164 u165 u166 u167 u168 u169 u170 u171 u172 u173 u174 u175 u176 u177 u178 u179 u180 u181 : Value}
    (hexit : ∀ (w' : World) (e10 e14 e15 e16 e17 e18 e19 e20 e78 e79 e80 e81 e82 e83 e84 e85 e86 e87 e88 e89 e90 e91 e92 e93 e94 e95 e96 e97 e98 e99 e100 e101 e102 e103 e104 e105 e106 e107 e108 e109 e110 e111 e112 e113 e114 e115 e116 e117 e118 e119 e120 e121 e122 e123 e124 e125 e126 e127 e128 e129 e130 e131 e132 e133 e134 e135 e136 e137 e138 e139 e140 e141 e142 e143 e144 e145 e146 e147 e148 e149 e150 e151 e152 e153 e154 e155 e156 e157 e158 e159 e160 e161 e162 e163 e164 e165 e166 e167 e168 e169 e170 e171 e172 e173 e174 e175 e176 e177 e178 e179 e180 e181 : Value), Below v.heap.size v w' → Q (.exit 0) ⟨List.toArray (c0 :: c1 :: c2 :: .slice A n c :: .slice B nb cb :: .pointer (some ⟨Z, 0, none⟩) :: c6 :: c7 :: c8 :: c9 :: e10 :: .slice O on oc :: c12 :: c13 :: e14 :: e15 :: e16 :: e17 :: e18 :: e19 :: e20 :: c21 :: c22 :: c23 :: c24 :: c25 :: c26 :: c27 :: c28 :: c29 :: c30 :: c31 :: c32 :: c33 :: c34 :: c35 :: c36 :: c37 :: c38 :: c39 :: c40 :: c41 :: c42 :: c43 :: c44 :: c45 :: c46 :: c47 :: c48 :: c49 :: c50 :: c51 :: c52 :: c53 :: c54 :: c55 :: c56 :: c57 :: c58 :: c59 :: c60 :: c61 :: c62 :: c63 :: c64 :: c65 :: c66 :: c67 :: c68 :: c69 :: c70 :: c71 :: c72 :: c73 :: c74 :: c75 :: c76 :: c77 :: e78 :: e79 :: e80 :: e81 :: e82 :: e83 :: e84 :: e85 :: e86 :: e87 :: e88 :: e89 :: e90 :: e91 :: e92 :: e93 :: e94 :: e95 :: e96 :: e97 :: e98 :: e99 :: e100 :: e101 :: e102 :: e103 :: e104 :: e105 :: e106 :: e107 :: e108 :: e109 :: e110 :: e111 :: e112 :: e113 :: e114 :: e115 :: e116 :: e117 :: e118 :: e119 :: e120 :: e121 :: e122 :: e123 :: e124 :: e125 :: e126 :: e127 :: e128 :: e129 :: e130 :: e131 :: e132 :: e133 :: e134 :: e135 :: e136 :: e137 :: e138 :: e139 :: e140 :: e141 :: e142 :: e143 :: e144 :: e145 :: e146 :: e147 :: e148 :: e149 :: e150 :: e151 :: e152 :: e153 :: e154 :: e155 :: e156 :: e157 :: e158 :: e159 :: e160 :: e161 :: e162 :: e163 :: e164 :: e165 :: e166 :: e167 :: e168 :: e169 :: e170 :: e171 :: e172 :: e173 :: e174 :: e175 :: e176 :: e177 :: e178 :: e179 :: e180 :: e181 :: c182 :: []), []⟩ w') :
    Code.wp Try.prog (Code.loop bodyIT) Q ⟨List.toArray (c0 :: c1 :: c2 :: .slice A n c :: .slice B nb cb :: .pointer (some ⟨Z, 0, none⟩) :: c6 :: c7 :: c8 :: c9 :: u10 :: .slice O on oc :: c12 :: c13 :: .int .i64 (a : Int) :: .int .i64 0 :: .int .i64 0 :: u17 :: u18 :: u19 :: u20 :: c21 :: c22 :: c23 :: c24 :: c25 :: c26 :: c27 :: c28 :: c29 :: c30 :: c31 :: c32 :: c33 :: c34 :: c35 :: c36 :: c37 :: c38 :: c39 :: c40 :: c41 :: c42 :: c43 :: c44 :: c45 :: c46 :: c47 :: c48 :: c49 :: c50 :: c51 :: c52 :: c53 :: c54 :: c55 :: c56 :: c57 :: c58 :: c59 :: c60 :: c61 :: c62 :: c63 :: c64 :: c65 :: c66 :: c67 :: c68 :: c69 :: c70 :: c71 :: c72 :: c73 :: c74 :: c75 :: c76 :: c77 :: u78 :: u79 :: u80 :: u81 :: u82 :: u83 :: u84 :: u85 :: u86 :: u87 :: u88 :: u89 :: u90 :: u91 :: u92 :: u93 :: u94 :: u95 :: u96 :: u97 :: u98 :: u99 :: u100 :: u101 :: u102 :: u103 :: u104 :: u105 :: u106 :: u107 :: u108 :: u109 :: u110 :: u111 :: u112 :: u113 :: u114 :: u115 :: u116 :: u117 :: u118 :: u119 :: u120 :: u121 :: u122 :: u123 :: u124 :: u125 :: u126 :: u127 :: u128 :: u129 :: u130 :: u131 :: u132 :: u133 :: u134 :: u135 :: u136 :: u137 :: u138 :: u139 :: u140 :: u141 :: u142 :: u143 :: u144 :: u145 :: u146 :: u147 :: u148 :: u149 :: u150 :: u151 :: u152 :: u153 :: u154 :: u155 :: u156 :: u157 :: u158 :: u159 :: u160 :: u161 :: u162 :: u163 :: u164 :: u165 :: u166 :: u167 :: u168 :: u169 :: u170 :: u171 :: u172 :: u173 :: u174 :: u175 :: u176 :: u177 :: u178 :: u179 :: u180 :: u181 :: c182 :: []), []⟩ v := by
  have HNv := Lib.hid hN; have HZv := Lib.hid hZ; have HOK := Lib.hid hK; have HL := Lib.hid hl; have HAv := Lib.hid hA; have HPF := Lib.hid hpf; have HLB := Lib.hid hlb; have HCv := Lib.hid hB; have HPC := Lib.hid hpc; have HJL := Lib.hid hjl; have HJN := Lib.hid hjn; have HOv := Lib.hid hO; have HOS := Lib.hid hos; have HEX := Lib.hid hexit
  obtain ⟨al, nl, cl, af, nf, cf, aw, nw, cw⟩ := V
  have HNL := Lib.hid hN.nl; have HNF := Lib.hid hN.nf; have HNW := Lib.hid hN.nw
  have HPL : Hid (a ≤ N.lo.length) := Lib.hid hal
  clear hN hZ hK hl hA hpf hlb hB hpc hjl hjn hO hos hexit hal
  have HWY := Lib.hid (wayOk HOK.out)
  have hnl5 : nl ≤ 5 := by have h1 := HNL.out; have h2 := HOK.out.n5; first | omega | (simp only at h1; omega)
  have hnf72 : nf ≤ 72 := by have h1 := HNF.out; have h2 := HOK.out.h72; first | omega | (simp only at h1; omega)
  have hnw : nw = nl + 1 := by have h1 := HNL.out; have h2 := HNW.out; have h3 := HOK.out.wl; first | omega | (simp only at h1 h2; omega)
  have hal0 : a ≤ nl := by have h1 := HNL.out; have h2 := HPL.out; first | omega | (simp only at h1; omega)
  obtain ⟨p0, hp0⟩ := get_of_lt (l := wh) (k := 0) (by rw [HLB.out]; exact HPC.out.1.1)
  obtain ⟨bA, oA, rfl, hbA, hA0⟩ := ints_el HCv.out hp0
  have HPP := Lib.hid (HPC.out.2 p0 (List.mem_of_getElem? hp0))
  have HAZ : Hid (∀ u : World, Below v.heap.size v u → u.cell? ⟨bA, oA, none⟩ = some (.int .i64 p0)) := Lib.hid fun u hu => ((bcell hu).1 _ _ hbA).trans hA0
  have HAU : Hid (∀ u : World, Below v.heap.size v u → IntsAt u u.heap.size (some ⟨bA, oA, none⟩) wh) := Lib.hid fun u hu => RowAt.next HCv.out hu hu.size
  have HNU : Hid (∀ u : World, Below v.heap.size v u → NtAt u u.heap.size ⟨al, nl, cl, af, nf, cf, aw, nw, cw⟩ N) := Lib.hid fun u hu => HNv.out.next hu hu.size
  have hnb1 : 1 ≤ nb ∧ nb ≤ 200 := HPC.out.1
  have hn1 : 1 ≤ n ∧ n ≤ 200 := HPF.out.1
  clear hp0 hbA hA0
  conv => arg 2; arg 1; whnf
  go_loopw [10, 14, 15, 16, 17, 18, 19, 20] (fun _ aa tt ii _ _ _ _ wr => ∃ (k ak hr : Nat) (tk : Int), k ≤ on ∧ ak ≤ nl ∧ ((hr : Int) ≤ tk ∧ tk ≤ 144 * k) ∧ aa = .int .i64 ak ∧ tt = .int .i64 hr ∧ ii = .int .i64 k ∧ 0 ≤ ordS N ak tk (js.drop k) ∧ Below v.heap.size v wr) (fun _ _ _ ii _ _ _ _ _ => on - (intOf ii).toNat)
  case atStart => exact ⟨0, a, 0, 0, by omega, hal0, ⟨by omega, by omega⟩, rfl, rfl, rfl, by rw [List.drop_zero]; exact HOS.out, Below.refl _ _⟩
  case round =>
    obtain ⟨k, ak, hr, tk, hk, hak, htk, rfl, rfl, rfl, hos, hbr⟩ := hrel
    have HBR := Lib.hid hbr; have HOR := Lib.hid hos
    clear hos
    by_cases hlt : k < on
    · have k3 : (0 : Int) ≤ (k : Int) := by omega
      have k4 : (k : Int) < (on : Int) := by omega
      obtain ⟨j, hj⟩ := get_of_lt (l := js) (k := k) (by rw [HJN.out]; exact hlt)
      have hjx : (js.map fun k : Nat => (k : Int))[k]? = some (j : Int) := by rw [List.getElem?_map, hj]; rfl
      have hjn : j < N.lo.length := HJL.out j (List.mem_of_getElem? hj)
      have hjn2 : j < nl := by have h1 := HNL.out; first | omega | (simp only at h1; omega)
      obtain ⟨b2, o2, rfl, hb2, x0⟩ := ints_el HOv.out hjx
      obtain ⟨l, hl⟩ := get_of_lt hjn
      obtain ⟨b1, o1, hal1, hb1, ⟨c0, c1⟩, _, _, _, c10, c11⟩ := lp_el HNv.out.lo hl
      have hal2 : al = some ⟨b1, o1, none⟩ := hal1
      subst hal2
      have hfx : N.fix j = l.fh := by unfold Nt.fix; rw [List.getD_eq_getElem?_getD, hl]; rfl
      have hwl := HOK.out.wl
      obtain ⟨row, hrow⟩ := get_of_lt (l := N.wa) (k := ak) (by have h1 := HNL.out; first | omega | (simp only at h1; omega))
      have hrl := (HOK.out.wa ak row hrow).1
      obtain ⟨bw, ow, A', m, c', haw, hbw, hm, hcw, hra, _⟩ := grid_row HNv.out.wa hrow
      have haw2 : aw = some ⟨bw, ow, none⟩ := haw
      subst haw2
      obtain ⟨y, hy⟩ := get_of_lt (l := row) (k := j + 1) (by omega)
      obtain ⟨b5, o5, rfl, hb5, z0⟩ := ints_el hra hy
      have hmm : m = nl + 1 := by have h1 := HNL.out; first | omega | (simp only at h1; omega)
      subst hmm
      have hway : N.way ak (j + 1) = y := by unfold Nt.way; rw [List.getD_eq_getElem?_getD, List.getD_eq_getElem?_getD, hrow]; simp only [Option.getD_some]; rw [hy]; rfl
      have hw0 := HWY.out.w ak (j + 1)
      rw [hway] at hw0
      have hlf := (HOK.out.lo l (List.mem_of_getElem? hl)).f
      have HLW := Lib.hid (HOK.out.lo l (List.mem_of_getElem? hl)).w
      have HST : Hid (tk + (y + l.fh) ≤ N.due 0 j ∧ 0 ≤ ordS N (j + 1) (tk + (y + l.fh)) (js.drop (k + 1))) := Lib.hid (by
        have h1 := HOR.out
        rw [dropN_at hj] at h1
        have h2 := ordS_step h1
        unfold Nt.arr at h2
        rw [hway, hfx] at h2
        exact h2)
      have hdu := due_N N 0 j
      rw [HNF.out] at hdu
      first | simp only at hdu | skip
      have HLL := Lib.hid hl
      have HPA : Hid (N.at (j : Int) = l ∧ loopB N (j : Int) = true) := Lib.hid (by
        refine ⟨by unfold Nt.at; rw [Int.toNat_natCast, List.getD_eq_getElem?_getD, hl]; rfl, ?_⟩
        unfold loopB
        rw [ntB_iff.2 HOK.out, Bool.true_and, inB_iff]
        omega)
      obtain ⟨i1, hi1⟩ : ∃ i, (2 * k) % n = i := ⟨_, rfl⟩
      obtain ⟨i2, hi2⟩ : ∃ i, (2 * k + 1) % n = i := ⟨_, rfl⟩
      have hi1n : i1 < n := by rw [← hi1]; exact Nat.mod_lt _ (by omega)
      have hi2n : i2 < n := by rw [← hi2]; exact Nat.mod_lt _ (by omega)
      obtain ⟨p1, hp1⟩ := get_of_lt (l := fs) (k := i1) (by rw [HL.out]; exact hi1n)
      obtain ⟨p2, hp2⟩ := get_of_lt (l := fs) (k := i2) (by rw [HL.out]; exact hi2n)
      obtain ⟨b4, o4, rfl, hb4, x1⟩ := ints_el HAv.out hp1
      obtain ⟨b6, o6, ho6, _, x2⟩ := ints_el HAv.out hp2
      injection ho6 with ho6
      injection ho6 with ho6 ho7
      subst ho6 ho7
      have hq1 := HPF.out.2 p1 (List.mem_of_getElem? hp1)
      have hq2 := HPF.out.2 p2 (List.mem_of_getElem? hp2)
      have HM1 : Hid ((2 * (k : Int)).tmod (n : Int) = (i1 : Int)) := Lib.hid (by rw [Int.tmod_eq_emod_of_nonneg (by omega), ← hi1]; rfl)
      have HM2 : Hid ((2 * (k : Int) + 1).tmod (n : Int) = (i2 : Int)) := Lib.hid (by rw [Int.tmod_eq_emod_of_nonneg (by omega), ← hi2]; rfl)
      clear hi1 hi2
      have n0 : ¬ n = 0 := by omega
      have HF : Hid (∀ u : World, Below v.heap.size v u → (u.cell? ⟨Z, 0, none⟩ = some (.slice (some ⟨b1, o1, none⟩) nl cl) ∧ u.cell? ⟨Z, 1, none⟩ = some (.slice af nf cf) ∧ u.cell? ⟨Z, 2, none⟩ = some (.slice (some ⟨bw, ow, none⟩) nw cw)) ∧ u.cell? ⟨b2, o2 + k, none⟩ = some (.int .i64 j) ∧ (u.cell? ⟨b1, o1 + j * 12, none⟩ = some (.int .i64 l.wl) ∧ u.cell? ⟨b1, o1 + j * 12 + 1, none⟩ = some (.int .i64 l.wh)) ∧ (u.cell? ⟨b1, o1 + j * 12 + 10, none⟩ = some (.int .i64 l.fl) ∧ u.cell? ⟨b1, o1 + j * 12 + 11, none⟩ = some (.int .i64 l.fh)) ∧ u.cell? ⟨bw, ow + ak, none⟩ = some (.slice (some ⟨b5, o5, none⟩) (nl + 1) c') ∧ u.cell? ⟨b5, o5 + (j + 1), none⟩ = some (.int .i64 y) ∧ u.cell? ⟨b4, o4 + i1, none⟩ = some (.int .i64 p1) ∧ u.cell? ⟨b4, o4 + i2, none⟩ = some (.int .i64 p2)) := Lib.hid fun u hu =>
        ⟨box3_cells ((hu.block _ (heapsz HZv.out)).trans HZv.out), ((bcell hu).1 _ _ hb2).trans x0, ⟨((bcell hu).1 _ _ hb1).trans c0, ((bcell hu).1 _ _ hb1).trans c1⟩, ⟨((bcell hu).1 _ _ hb1).trans c10, ((bcell hu).1 _ _ hb1).trans c11⟩, ((bcell hu).1 _ _ hbw).trans hcw, ((bcell hu).1 _ _ hb5).trans z0, ((bcell hu).1 _ _ hb4).trans x1, ((bcell hu).1 _ _ hb4).trans x2⟩
      have a1 : (0 : Int) ≤ (ak : Int) := by omega
      have a2 : (ak : Int) < (nw : Int) := by omega
      have j1 : (0 : Int) ≤ (j : Int) := by omega
      have j2 : (j : Int) < (nl : Int) := by omega
      have q1 : (0 : Int) ≤ (j : Int) + 1 := by omega
      have q2 : (j : Int) + 1 < ((nl + 1 : Nat) : Int) := by omega
      have i1a : (0 : Int) ≤ (i1 : Int) := by omega
      have i1b : (i1 : Int) < (n : Int) := by omega
      have i2a : (0 : Int) ≤ (i2 : Int) := by omega
      have i2b : (i2 : Int) < (n : Int) := by omega
      have HE1I : Hid (IntKind.i64.wrap ((j : Int) + 1) = (j : Int) + 1) := Lib.hid ((fun (J : Int) (hJ : 0 ≤ J ∧ J ≤ 5) => (IntWalk.i64_in (J + 1) (by omega) : IntKind.i64.wrap (J + 1) = J + 1)) (j : Int) (by omega))
      have HE2 : Hid (wrap64 (2 * (k : Int)) = 2 * (k : Int)) := Lib.hid (w64 (by omega))
      have HE3 : Hid (wrap64 (2 * (k : Int) + 1) = 2 * (k : Int) + 1) := Lib.hid (w64 (by omega))
      have HE4 : Hid (wrap64 (i1 : Int) = (i1 : Int)) := Lib.hid (w64 (by omega))
      have HE5 : Hid (wrap64 (i2 : Int) = (i2 : Int)) := Lib.hid (w64 (by omega))
      obtain ⟨fl, hfl⟩ : ∃ z, l.fl = z := ⟨_, rfl⟩
      obtain ⟨fh, hfh⟩ : ∃ z, l.fh = z := ⟨_, rfl⟩
      rw [hfl, hfh] at hlf
      rw [hfh] at HST
      rw [hfl, hfh] at HF
      have hr1 := pct_in hw0.1 hq1
      have hr2 := pct_in (x := fh) (by omega) hq2
      have HTD1 := Lib.hid (pct_tdiv hw0.1 hq1.1)
      have HTD2 := Lib.hid (pct_tdiv (x := fh) (by omega) hq2.1)
      have r1 : 0 ≤ y * p1 ∧ y * p1 ≤ 72 * 100 := ⟨Int.mul_nonneg hw0.1 hq1.1, Int.mul_le_mul hw0.2 hq1.2 hq1.1 (by omega)⟩
      have r2 : 0 ≤ fh * p2 ∧ fh * p2 ≤ 72 * 100 := ⟨Int.mul_nonneg (by omega) hq2.1, Int.mul_le_mul (by omega) hq2.2 hq2.1 (by omega)⟩
      obtain ⟨y1, hy1⟩ : ∃ z, y * p1 = z := ⟨_, rfl⟩
      obtain ⟨y2, hy2⟩ : ∃ z, fh * p2 = z := ⟨_, rfl⟩
      rw [hy1] at hr1 HTD1 r1
      rw [hy2] at hr2 HTD2 r2
      obtain ⟨d1, hd1⟩ : ∃ z, y1 / 100 = z := ⟨_, rfl⟩
      obtain ⟨d2, hd2⟩ : ∃ z, y2 / 100 = z := ⟨_, rfl⟩
      rw [hd1] at hr1 HTD1
      rw [hd2] at hr2 HTD2
      have HE6 : Hid (wrap64 (y * p1) = y1) := Lib.hid (by rw [hy1]; exact w64 (by omega))
      have HE7 : Hid (wrap64 (fh * p2) = y2) := Lib.hid (by rw [hy2]; exact w64 (by omega))
      have HE8 : Hid (wrap64 d1 = d1) := Lib.hid (w64 (by omega))
      have HE9 : Hid (wrap64 d2 = d2) := Lib.hid (w64 (by omega))
      have HE10 : Hid (wrap64 ((hr : Int) + d1) = (hr : Int) + d1) := Lib.hid (w64 (by omega))
      obtain ⟨mx, hmx⟩ : ∃ z, max fl d2 = z := ⟨_, rfl⟩
      have hmx2 : 0 ≤ mx ∧ mx ≤ fh := by omega
      obtain ⟨H, hH⟩ : ∃ z : Nat, (hr : Int) + d1 + mx = z := ⟨((hr : Int) + d1 + mx).toNat, by omega⟩
      have HE11 : Hid (wrap64 ((hr : Int) + d1 + mx) = (H : Int)) := Lib.hid (by rw [hH]; exact w64 (by omega))
      have HHD : Hid ((H : Int) ≤ tk + (y + fh)) := Lib.hid (by omega)
      have HDU : Hid ((H : Int) ≤ N.due 0 j) := Lib.hid (by have h1 := HHD.out; have h2 := HST.out.1; omega)
      have hHf : (H : Int) ≤ (nf : Int) := by have h1 := HDU.out; omega
      have HHF : Hid (H ≤ N.fr.length) := Lib.hid (by have h1 := HNF.out; first | omega | (simp only at h1; omega))
      have HTK : Hid (tk + (y + fh) ≤ 144 * ((k + 1 : Nat) : Int)) := Lib.hid (by omega)
      have hH72 : H ≤ 72 := by omega
      clear hj hjx hjn hb2 x0 hl hal1 hb1 c0 c1 c10 c11 hfx hwl hrow hrl haw hbw hm hcw hra hy hb5 z0 hway hp1 hp2 hb4 x1 x2 hfl hfh hdu r1 r2 hr1 hr2 hd1 hd2 hq1 hq2 htk hy1 hy2 hbr
      go_wp2_with fail
      refine wp_region_any (by kernel_rfl) (plan_guarded_any (γ := Nat) [5, 11, 14, 16] (wyCv Z k ak j ⟨b1, o1, none⟩ ⟨b2, o2, none⟩ ⟨b5, o5, none⟩ ⟨bw, ow, none⟩ nl cl nw cw on oc (nl + 1) c' y fl fh) (fun done q w' => NewA wr 21 23 47 #[.int .i64 0, .int .i64 0] #[.int .i64 fl, .int .i64 fh] done q w') 0 (by kernel_rfl) (by kernel_rfl) (by kernel_rfl) (by kernel_rfl) ?_ ?_ ?_ ?_)
      · intro t ht
        simp only [List.mem_cons, List.not_mem_nil, or_false] at ht
        rcases ht with rfl | rfl | rfl | rfl <;> rfl
      · exact ⟨(Below.refl wr.heap.size wr).drew, fun h => by simp at h, fun h => by simp at h⟩
      · refine allOps_array ?_
        refine ⟨?_, ?_, ?_, ?_, ?_, ?_, ?_, ?_, ?_, ?_, ?_, ?_, ?_, ?_, ?_, ?_, ?_, ?_, ?_, ?_, ?_, ?_, ?_, ?_, trivial⟩
        · intro done q u hS hu hdep _
          obtain ⟨⟨p0, p1, p2⟩, s1, s2, ⟨s3, s4⟩, s5, s6, _⟩ := HF.out u (HBR.out.trans (hS.keep.mono HBR.out.size))
          refine quietN hS 84 rfl (by decide) (by decide) rfl ?_
          have e1i := HE1I.out
          simp [go_sem, evalBy, wyCv]
        · intro done q u hS hu hdep _
          obtain ⟨⟨p0, p1, p2⟩, s1, s2, ⟨s3, s4⟩, s5, s6, _⟩ := HF.out u (HBR.out.trans (hS.keep.mono HBR.out.size))
          refine quietN hS 85 rfl (by decide) (by decide) rfl ?_
          have e1i := HE1I.out
          simp [go_sem, evalBy, wyCv, p2]
        · intro done q u hS hu hdep _
          obtain ⟨⟨p0, p1, p2⟩, s1, s2, ⟨s3, s4⟩, s5, s6, _⟩ := HF.out u (HBR.out.trans (hS.keep.mono HBR.out.size))
          refine quietN hS 86 rfl (by decide) (by decide) rfl ?_
          have e1i := HE1I.out
          simp [go_sem, evalBy, wyCv]
        · intro done q u hS hu hdep _
          obtain ⟨⟨p0, p1, p2⟩, s1, s2, ⟨s3, s4⟩, s5, s6, _⟩ := HF.out u (HBR.out.trans (hS.keep.mono HBR.out.size))
          refine quietN hS 87 rfl (by decide) (by decide) rfl ?_
          have e1i := HE1I.out
          simp [go_sem, evalBy, wyCv, a1, a2]
        · intro done q u hS hu hdep _
          obtain ⟨⟨p0, p1, p2⟩, s1, s2, ⟨s3, s4⟩, s5, s6, _⟩ := HF.out u (HBR.out.trans (hS.keep.mono HBR.out.size))
          refine quietN hS 88 rfl (by decide) (by decide) rfl ?_
          have e1i := HE1I.out
          simp [go_sem, evalBy, wyCv, s5]
        · intro done q u hS hu hdep _
          obtain ⟨⟨p0, p1, p2⟩, s1, s2, ⟨s3, s4⟩, s5, s6, _⟩ := HF.out u (HBR.out.trans (hS.keep.mono HBR.out.size))
          refine quietN hS 89 rfl (by decide) (by decide) rfl ?_
          have e1i := HE1I.out
          simp [go_sem, evalBy, wyCv]
        · intro done q u hS hu hdep _
          obtain ⟨⟨p0, p1, p2⟩, s1, s2, ⟨s3, s4⟩, s5, s6, _⟩ := HF.out u (HBR.out.trans (hS.keep.mono HBR.out.size))
          refine quietN hS 90 rfl (by decide) (by decide) rfl ?_
          have e1i := HE1I.out
          simp [go_sem, evalBy, wyCv]
        · intro done q u hS hu hdep _
          obtain ⟨⟨p0, p1, p2⟩, s1, s2, ⟨s3, s4⟩, s5, s6, _⟩ := HF.out u (HBR.out.trans (hS.keep.mono HBR.out.size))
          refine quietN hS 91 rfl (by decide) (by decide) rfl ?_
          have e1i := HE1I.out
          simp [go_sem, evalBy, wyCv, k3, k4]
        · intro done q u hS hu hdep _
          obtain ⟨⟨p0, p1, p2⟩, s1, s2, ⟨s3, s4⟩, s5, s6, _⟩ := HF.out u (HBR.out.trans (hS.keep.mono HBR.out.size))
          refine quietN hS 92 rfl (by decide) (by decide) rfl ?_
          have e1i := HE1I.out
          simp [go_sem, evalBy, wyCv, s1]
        · intro done q u hS hu hdep _
          obtain ⟨⟨p0, p1, p2⟩, s1, s2, ⟨s3, s4⟩, s5, s6, _⟩ := HF.out u (HBR.out.trans (hS.keep.mono HBR.out.size))
          refine quietN hS 93 rfl (by decide) (by decide) rfl ?_
          have e1i := HE1I.out
          simp [go_sem, evalBy, wyCv, e1i]
        · intro done q u hS hu hdep _
          obtain ⟨⟨p0, p1, p2⟩, s1, s2, ⟨s3, s4⟩, s5, s6, _⟩ := HF.out u (HBR.out.trans (hS.keep.mono HBR.out.size))
          refine quietN hS 94 rfl (by decide) (by decide) rfl ?_
          have e1i := HE1I.out
          simp [go_sem, evalBy, wyCv, j2, q1]
        · intro done q u hS hu hdep _
          obtain ⟨⟨p0, p1, p2⟩, s1, s2, ⟨s3, s4⟩, s5, s6, _⟩ := HF.out u (HBR.out.trans (hS.keep.mono HBR.out.size))
          refine quietN hS 95 rfl (by decide) (by decide) rfl ?_
          have e1i := HE1I.out
          simp [go_sem, evalBy, wyCv, s6]
        · intro done q u hS hu hdep _
          obtain ⟨⟨p0, p1, p2⟩, s1, s2, ⟨s3, s4⟩, s5, s6, _⟩ := HF.out u (HBR.out.trans (hS.keep.mono HBR.out.size))
          refine quietN hS 96 rfl (by decide) (by decide) rfl ?_
          have e1i := HE1I.out
          simp [go_sem, evalBy, wyCv]
        · intro done q u hS hu hdep _
          obtain ⟨⟨p0, p1, p2⟩, s1, s2, ⟨s3, s4⟩, s5, s6, _⟩ := HF.out u (HBR.out.trans (hS.keep.mono HBR.out.size))
          refine quietN hS 97 rfl (by decide) (by decide) rfl ?_
          have e1i := HE1I.out
          simp [go_sem, evalBy, wyCv, p0]
        · intro done q u hS hu hdep _
          obtain ⟨⟨p0, p1, p2⟩, s1, s2, ⟨s3, s4⟩, s5, s6, _⟩ := HF.out u (HBR.out.trans (hS.keep.mono HBR.out.size))
          refine quietN hS 98 rfl (by decide) (by decide) rfl ?_
          have e1i := HE1I.out
          simp [go_sem, evalBy, wyCv]
        · intro done q u hS hu hdep _
          obtain ⟨⟨p0, p1, p2⟩, s1, s2, ⟨s3, s4⟩, s5, s6, _⟩ := HF.out u (HBR.out.trans (hS.keep.mono HBR.out.size))
          refine quietN hS 99 rfl (by decide) (by decide) rfl ?_
          have e1i := HE1I.out
          simp [go_sem, evalBy, wyCv]
        · intro done q u hS hu hdep _
          obtain ⟨⟨p0, p1, p2⟩, s1, s2, ⟨s3, s4⟩, s5, s6, _⟩ := HF.out u (HBR.out.trans (hS.keep.mono HBR.out.size))
          refine quietN hS 100 rfl (by decide) (by decide) rfl ?_
          have e1i := HE1I.out
          simp [go_sem, evalBy, wyCv, k3, k4]
        · intro done q u hS hu hdep _
          obtain ⟨⟨p0, p1, p2⟩, s1, s2, ⟨s3, s4⟩, s5, s6, _⟩ := HF.out u (HBR.out.trans (hS.keep.mono HBR.out.size))
          refine quietN hS 101 rfl (by decide) (by decide) rfl ?_
          have e1i := HE1I.out
          simp [go_sem, evalBy, wyCv, s1]
        · intro done q u hS hu hdep _
          obtain ⟨⟨p0, p1, p2⟩, s1, s2, ⟨s3, s4⟩, s5, s6, _⟩ := HF.out u (HBR.out.trans (hS.keep.mono HBR.out.size))
          refine quietN hS 102 rfl (by decide) (by decide) rfl ?_
          have e1i := HE1I.out
          simp [go_sem, evalBy, wyCv, j1, j2]
        · intro done q u hS hu hdep _
          obtain ⟨⟨p0, p1, p2⟩, s1, s2, ⟨s3, s4⟩, s5, s6, _⟩ := HF.out u (HBR.out.trans (hS.keep.mono HBR.out.size))
          refine quietN hS 103 rfl (by decide) (by decide) rfl ?_
          have e1i := HE1I.out
          simp [go_sem, evalBy, wyCv]
        · intro done q u hS hu hdep _
          obtain ⟨⟨p0, p1, p2⟩, s1, s2, ⟨s3, s4⟩, s5, s6, _⟩ := HF.out u (HBR.out.trans (hS.keep.mono HBR.out.size))
          refine quietN hS 104 rfl (by decide) (by decide) rfl ?_
          have e1i := HE1I.out
          simp [go_sem, evalBy, wyCv, s3, s4]
        · intro done q u hS hu hdep _
          refine allocN hS 18 rfl hu (by decide) rfl (fun _ => rfl) (fun g' t ht => by unfold wyCv; split <;> first | rfl | exact absurd rfl ht) (by simp [go_sem])
        · intro done q u hS hu hdep _
          obtain ⟨⟨p0, p1, p2⟩, s1, s2, ⟨s3, s4⟩, s5, s6, _⟩ := HF.out u (HBR.out.trans (hS.keep.mono HBR.out.size))
          refine quietN hS 17 rfl (by decide) (by decide) rfl ?_
          have e1i := HE1I.out
          simp [go_sem, evalBy, wyCv]
        · intro done q u hS hu hdep _
          refine storeN hS rfl (hdep ⟨21, .data⟩ (by simp) rfl) hu rfl (fun hb => ?_)
          obtain ⟨w2, h1, h2, h3, h5⟩ := store2 hb (.int .i64 fl) (.int .i64 fh)
          exact ⟨w2, by rw [← h1]; exact exec_store_mid 47 _ _ rfl q #[.int .i64 fl, .int .i64 fh] rfl (by simp [evalBy, wyCv]) h2 sp_info (one2 ⟨rfl, rfl⟩), h5, h3⟩
      · intro q wa hS
        have hb := hS.keep
        obtain ⟨hq, zq⟩ := hS.box (by decide)
        rw [if_pos (by decide)] at zq
        clear hS
        have HBA := Lib.hid (HBR.out.trans (hb.mono HBR.out.size))
        have HZQ := Lib.hid zq
        have HQ := Lib.hid hq
        clear hb zq hq
        simp [putAll, Act.put, wyCv]
        go_wp2_with fail
        have hcc := fun u : KeptW wa => HF.out u.w (HBA.out.trans (u.h.mono HBA.out.size))
        have e2 := HE2.out; have e3 := HE3.out; have e4 := HE4.out; have e5 := HE5.out; have e6 := HE6.out; have e7 := HE7.out; have e8 := HE8.out; have e9 := HE9.out; have e10 := HE10.out; have e11 := HE11.out
        have m1 := HM1.out; have m2 := HM2.out; have t1 := HTD1.out; have t2 := HTD2.out
        have s7 := fun u : KeptW wa => (hcc u).2.2.2.2.2.2.1
        have s8 := fun u : KeptW wa => (hcc u).2.2.2.2.2.2.2
        have y0 := fun u : KeptW wa => (box2 ((u.h.block _ (heapsz HZQ.out)).trans HZQ.out)).1
        have y9 := fun u : KeptW wa => (box2 ((u.h.block _ (heapsz HZQ.out)).trans HZQ.out)).2
        refine rk_region (by kernel_rfl) (by kernel_rfl) ?_
        repeat (go_big_quiet_step (fail))
        refine wpQuiet_nil ?_
        rintro wb ⟨⟨_, hbz⟩, rfl⟩
        have HBB := Lib.hid (HBA.out.trans (hbz.mono HBA.out.size))
        clear hbz s7 s8 y0 y9 hcc m1 m2 t1 t2
        clear e2 e3 e4 e5 e6 e7 e8 e9 e10 e11
        obtain ⟨⟨v0, v1, v2⟩, s1, _⟩ := HF.out wb HBB.out
        have hHf3 : ¬ (nf : Int) < (H : Int) := by omega
        have HKL := HLW
        have HXR := Lib.hid (part_in (s := (l.wl, l.wh)) (p := p0) (by have := HKL.out; omega) HPP.out)
        have HXC := Lib.hid (fun u : World => part_any (s := (l.wl, l.wh)) (p := p0) (by have := HKL.out; exact ⟨by omega, this.2.1, this.2.2⟩) HPP.out u)
        obtain ⟨x0, hx0⟩ : ∃ z, partI (l.wl, l.wh) p0 = z := ⟨_, rfl⟩
        rw [hx0] at HXR HXC
        have HWA := Lib.hid (due_warm HOK.out HLL.out HDU.out HXR.out HPC.out.1 HLB.out HPC.out.2)
        obtain ⟨S1, hS1⟩ : ∃ z, playI l x0 (truL l N.fr wh H) = z := ⟨_, rfl⟩
        rw [hS1] at HWA
        have HS1 := Lib.hid hS1
        clear hx0 hS1
        obtain ⟨J, hJ⟩ : ∃ J : Int, (j : Int) = J := ⟨_, rfl⟩
        have HJ := Lib.hid hJ
        rw [hJ] at s1
        have e1 : wrap64 (J + 1) = J + 1 := w64 (by omega)
        clear hJ
        go_wp2_with fail
        clear e1
        have HPY : Hid (∀ (u : World) (v9 : Value), Below wb.heap.size wb u → RowIs thR 54 wb.heap.size (truL l N.fr wh H) v9 u → Calls Try.prog 26 #[nvV ⟨some ⟨b1, o1, none⟩, nl, cl, af, nf, cf, some ⟨bw, ow, none⟩, nw, cw⟩, .int .i64 j, .int .i64 x0, v9] u fun e w' => e = .returned (.tuple #[htV S1, .int .i64 0]) ∧ Below u.heap.size u w') := Lib.hid fun u v9 hu hr => by
          obtain ⟨A9, cx, rfl, hA9, _⟩ := hr.at_ (k := 3) (fun _ => rfl)
          have h := Play_any _ N j x0 A9 _ cx (truL l N.fr wh H) u (HNU.out u (HBB.out.trans (hu.mono HBB.out.size))) rfl (by rw [truL_len]; unfold maxLen; omega) hA9
          have hE0 : truthI N j x0 (truL l N.fr wh H) = 0 := by
            unfold truthI
            rw [if_neg (by rw [truL_len]; have := HHF.out; omega), HPA.out.2, HPA.out.1, inB_iff.2 HXR.out, truL_ok HOK.out (List.mem_of_getElem? HLL.out) HPC.out.1 HLB.out HPC.out.2 HHF.out]
            rfl
          have hX0 : plaI N j x0 (truL l N.fr wh H) = S1 := by unfold plaI; rw [if_pos hE0, HPA.out.1, HS1.out]
          rw [hX0, hE0] at h
          exact h
        have HND : Hid (∀ u : World, Below wb.heap.size wb u → Calls Try.prog 32 #[nvV ⟨some ⟨b1, o1, none⟩, nl, cl, af, nf, cf, some ⟨bw, ow, none⟩, nw, cw⟩, .int .i64 j, .int .i64 H, .slice (some ⟨bA, oA, none⟩) nb cb] u fun e w' => ∃ v9, e = .returned v9 ∧ Below u.heap.size u w' ∧ RowIs thR 54 wb.heap.size (truL l N.fr wh H) v9 w') := Lib.hid fun u hu =>
          (ltruth_any _ N H _ nb cb wh u (HNU.out u (HBB.out.trans (hu.mono HBB.out.size))) HOK.out HLL.out HHF.out HLB.out HPC.out.1 HPC.out.2 (HAU.out u (HBB.out.trans (hu.mono HBB.out.size)))).mono fun e w' ⟨v9, h1, h2, h3⟩ => ⟨v9, h1, h2, h3.low hu.size⟩
        have hX : ∀ (v9 : Value) (A9 B9 : World), RowIs thR 54 wb.heap.size (truL l N.fr wh H) v9 A9 → Below A9.heap.size A9 B9 → RowIs thR 54 wb.heap.size (truL l N.fr wh H) v9 B9 := fun v9 A9 B9 h hb => h.below hb
        have hnb2 : (0 : Int) < (nb : Int) := by omega
        have hnbz : ¬ nb = 0 := by omega
        refine wp_region_any (by kernel_rfl) (plan_guarded_any (γ := Nat × Value) [4, 5, 11, 15, 16] (ipCv Z k j H ⟨b1, o1, none⟩ ⟨b2, o2, none⟩ ⟨bA, oA, none⟩ nl cl on oc nb cb (nvV ⟨some ⟨b1, o1, none⟩, nl, cl, af, nf, cf, some ⟨bw, ow, none⟩, nw, cw⟩) l.wl l.wh p0 x0 S1) (fun done q w' => NewX wb 30 31 25 26 43 (htC z4) (htC S1) (fun v9 u => RowIs thR 54 wb.heap.size (truL l N.fr wh H) v9 u) done q w') (0, .int .i64 0) (by kernel_rfl) (by kernel_rfl) (by kernel_rfl) (by kernel_rfl) ?_ ?_ ?_ ?_)
        · intro t ht
          simp only [List.mem_cons, List.not_mem_nil, or_false] at ht
          rcases ht with rfl | rfl | rfl | rfl | rfl <;> rfl
        · exact ⟨⟨(Below.refl wb.heap.size wb).drew, fun h => by simp at h, fun h => by simp at h⟩, fun h => by simp at h, fun h => by simp at h⟩
        · refine allOps_array ?_
          refine ⟨?_, ?_, ?_, ?_, ?_, ?_, ?_, ?_, ?_, ?_, ?_, ?_, ?_, ?_, ?_, ?_, ?_, ?_, ?_, ?_, ?_, ?_, ?_, ?_, ?_, ?_, ?_, ?_, ?_, ?_, ?_, ?_, ?_, trivial⟩
          · intro done q u hS hu hdep _
            obtain ⟨⟨p0', p1', p2'⟩, s1', ⟨s2', s3'⟩, _⟩ := HF.out u (HBB.out.trans (hS.a.keep.mono HBB.out.size))
            refine quietX hX hS 146 rfl (by decide) (by decide) (by decide) rfl ?_
            simp [go_sem, evalBy, ipCv, p0', p1', p2']
          · intro done q u hS hu hdep _
            refine quietX hX hS 147 rfl (by decide) (by decide) (by decide) rfl ?_
            simp [go_sem, evalBy, ipCv]
          · intro done q u hS hu hdep _
            refine quietX hX hS 148 rfl (by decide) (by decide) (by decide) rfl ?_
            simp [go_sem, evalBy, ipCv]
          · intro done q u hS hu hdep _
            refine quietX hX hS 149 rfl (by decide) (by decide) (by decide) rfl ?_
            simp [go_sem, evalBy, ipCv, k3, k4]
          · intro done q u hS hu hdep _
            obtain ⟨⟨p0', p1', p2'⟩, s1', ⟨s2', s3'⟩, _⟩ := HF.out u (HBB.out.trans (hS.a.keep.mono HBB.out.size))
            refine quietX hX hS 150 rfl (by decide) (by decide) (by decide) rfl ?_
            simp [go_sem, evalBy, ipCv, s1']
          · intro done q u hS hu hdep _
            refine quietX hX hS 151 rfl (by decide) (by decide) (by decide) rfl ?_
            simp [go_sem, evalBy, ipCv]
          · intro done q u hS hu hdep _
            obtain ⟨⟨p0', p1', p2'⟩, s1', ⟨s2', s3'⟩, _⟩ := HF.out u (HBB.out.trans (hS.a.keep.mono HBB.out.size))
            refine quietX hX hS 152 rfl (by decide) (by decide) (by decide) rfl ?_
            simp [go_sem, evalBy, ipCv, p0']
          · intro done q u hS hu hdep _
            refine quietX hX hS 153 rfl (by decide) (by decide) (by decide) rfl ?_
            simp [go_sem, evalBy, ipCv]
          · intro done q u hS hu hdep _
            refine quietX hX hS 154 rfl (by decide) (by decide) (by decide) rfl ?_
            simp [go_sem, evalBy, ipCv]
          · intro done q u hS hu hdep _
            refine quietX hX hS 155 rfl (by decide) (by decide) (by decide) rfl ?_
            simp [go_sem, evalBy, ipCv, k3, k4]
          · intro done q u hS hu hdep _
            obtain ⟨⟨p0', p1', p2'⟩, s1', ⟨s2', s3'⟩, _⟩ := HF.out u (HBB.out.trans (hS.a.keep.mono HBB.out.size))
            refine quietX hX hS 156 rfl (by decide) (by decide) (by decide) rfl ?_
            simp [go_sem, evalBy, ipCv, s1']
          · intro done q u hS hu hdep _
            refine quietX hX hS 157 rfl (by decide) (by decide) (by decide) rfl ?_
            simp [go_sem, evalBy, ipCv, j1, j2]
          · intro done q u hS hu hdep _
            refine quietX hX hS 158 rfl (by decide) (by decide) (by decide) rfl ?_
            simp [go_sem, evalBy, ipCv]
          · intro done q u hS hu hdep _
            obtain ⟨⟨p0', p1', p2'⟩, s1', ⟨s2', s3'⟩, _⟩ := HF.out u (HBB.out.trans (hS.a.keep.mono HBB.out.size))
            refine quietX hX hS 159 rfl (by decide) (by decide) (by decide) rfl ?_
            simp [go_sem, evalBy, ipCv, s2', s3']
          · intro done q u hS hu hdep _
            refine quietX hX hS 160 rfl (by decide) (by decide) (by decide) rfl ?_
            simp [go_sem, evalBy, ipCv]
          · intro done q u hS hu hdep _
            refine quietX hX hS 161 rfl (by decide) (by decide) (by decide) rfl ?_
            simp [go_sem, evalBy, ipCv, hnbz]
          · intro done q u hS hu hdep _
            have z0' := HAZ.out u (HBB.out.trans (hS.a.keep.mono HBB.out.size))
            refine quietX hX hS 162 rfl (by decide) (by decide) (by decide) rfl ?_
            simp [go_sem, evalBy, ipCv, z0']
          · intro done q u hS hu hdep _
            exact callX hX hS 163 rfl (by decide) (by decide) (by decide) rfl 31 #[.agg #[.int .i64 l.wl, .int .i64 l.wh], .int .i64 p0] (by simp [go_sem, evalBy, ipCv]) (HXC.out u)
          · intro done q u hS hu hdep _
            obtain ⟨⟨p0', p1', p2'⟩, s1', ⟨s2', s3'⟩, _⟩ := HF.out u (HBB.out.trans (hS.a.keep.mono HBB.out.size))
            refine quietX hX hS 164 rfl (by decide) (by decide) (by decide) rfl ?_
            simp [go_sem, evalBy, ipCv, p0', p1', p2']
          · intro done q u hS hu hdep _
            refine quietX hX hS 165 rfl (by decide) (by decide) (by decide) rfl ?_
            simp [go_sem, evalBy, ipCv]
          · intro done q u hS hu hdep _
            refine quietX hX hS 166 rfl (by decide) (by decide) (by decide) rfl ?_
            simp [go_sem, evalBy, ipCv]
          · intro done q u hS hu hdep _
            refine quietX hX hS 167 rfl (by decide) (by decide) (by decide) rfl ?_
            simp [go_sem, evalBy, ipCv, k3, k4]
          · intro done q u hS hu hdep _
            obtain ⟨⟨p0', p1', p2'⟩, s1', ⟨s2', s3'⟩, _⟩ := HF.out u (HBB.out.trans (hS.a.keep.mono HBB.out.size))
            refine quietX hX hS 168 rfl (by decide) (by decide) (by decide) rfl ?_
            simp [go_sem, evalBy, ipCv, s1']
          · intro done q u hS hu hdep _
            refine quietX hX hS 169 rfl (by decide) (by decide) (by decide) rfl ?_
            simp [go_sem, evalBy, ipCv]
          · intro done q u hS hu hdep _
            refine quietX hX hS 170 rfl (by decide) (by decide) (by decide) rfl ?_
            simp [go_sem, evalBy, ipCv]
          · intro done q u hS hu hdep _
            exact listX hS 171 rfl (by decide) (by decide) rfl 32 #[nvV ⟨some ⟨b1, o1, none⟩, nl, cl, af, nf, cf, some ⟨bw, ow, none⟩, nw, cw⟩, .int .i64 j, .int .i64 H, .slice (some ⟨bA, oA, none⟩) nb cb] (fun _ => rfl) (fun g' t ht => by unfold ipCv; split <;> first | rfl | exact absurd rfl ht) (by simp [go_sem, evalBy, ipCv]) (HND.out u hS.a.keep)
          · intro done q u hS hu hdep _
            have hsi : done 31 = false := by
              cases hq : done 31 with
              | false => rfl
              | true => rw [hS.os hq] at hu; cases hu
            exact callX hX hS 172 rfl (by decide) (by decide) (by decide) rfl 26 #[nvV ⟨some ⟨b1, o1, none⟩, nl, cl, af, nf, cf, some ⟨bw, ow, none⟩, nw, cw⟩, .int .i64 j, .int .i64 x0, q.2] (by simp [go_sem, evalBy, ipCv]) (HPY.out u q.2 hS.a.keep (hS.x (hdep ⟨25, .data⟩ (by simp) rfl) hsi))
          · intro done q u hS hu hdep _
            refine quietX hX hS 145 rfl (by decide) (by decide) (by decide) rfl ?_
            simp [go_sem, evalBy, ipCv]
          · intro done q u hS hu hdep _
            refine quietX hX hS 173 rfl (by decide) (by decide) (by decide) rfl ?_
            simp [go_sem, evalBy, ipCv]
          · intro done q u hS hu hdep _
            refine quietX hX hS 174 rfl (by decide) (by decide) (by decide) rfl ?_
            simp [go_sem, evalBy, ipCv]
          · intro done q u hS hu hdep _
            refine allocX hX hS 19 rfl hu (by decide) (by decide) rfl (fun _ => rfl) (fun g' t ht => by unfold ipCv; split <;> first | rfl | exact absurd rfl ht) (by simp [go_sem, z4])
          · intro done q u hS hu hdep _
            refine storeX hS rfl (hdep ⟨30, .data⟩ (by simp) rfl) (hdep ⟨26, .chain⟩ (by simp) rfl) hu rfl (fun hb => ?_)
            obtain ⟨w2, h1, h2, h3, _, h5⟩ := store4 hb (.int .i64 S1.w) (.int .i64 S1.b) (.int .i64 S1.g) (.int .i64 S1.s)
            exact ⟨w2, by rw [← h1]; exact exec_store_mid 43 _ _ rfl q.1 #[.int .i64 S1.w, .int .i64 S1.b, .int .i64 S1.g, .int .i64 S1.s] rfl (by simp [evalBy, ipCv]) h2 heat_info (one4 ⟨rfl, rfl, rfl, rfl⟩), h5, h3⟩
          · intro done q u hS hu hdep _
            refine quietX hX hS 20 rfl (by decide) (by decide) (by decide) rfl ?_
            simp [go_sem, evalBy, ipCv]
        · intro q wc hS
          have hb := hS.a.keep
          obtain ⟨hq, zq⟩ := hS.a.box (by decide)
          rw [if_pos (by decide)] at zq
          obtain ⟨q, qv⟩ := q
          obtain ⟨⟨s0, _⟩, _⟩ := box4 zq
          have HBC := Lib.hid (HBB.out.trans (hb.mono HBB.out.size))
          clear hS hX HPY HND hb zq hq
          obtain ⟨W, hW⟩ : ∃ z, S1.w = z := ⟨_, rfl⟩
          have hwp := HWA.out
          rw [hW] at hwp s0
          have hwn : ¬ W ≤ 0 := by omega
          clear hW v0 v1 v2 s1 hwp hmx
          simp [putAll, Act.put, ipCv]
          go_wp2_with fail
          exact ⟨⟨k + 1, j + 1, H, tk + (y + fh), by omega, by omega, ⟨HHD.out, HTK.out⟩, (by rw [← HJ.out]; simp), rfl, rfl, HST.out.2, HBC.out⟩, by simp [intOf]; omega⟩
    · obtain rfl : on = k := by omega
      have k4 : ¬ (on : Int) < (on : Int) := by omega
      have HEB := Lib.hid HBR.out
      clear hbr
      go_wp2_with fail
      exact HEX.out wr _ _ _ _ _ _ _ _ _ _ _ _ _ _ _ _ _ _ _ _ _ _ _ _ _ _ _ _ _ _ _ _ _ _ _ _ _ _ _ _ _ _ _ _ _ _ _ _ _ _ _ _ _ _ _ _ _ _ _ _ _ _ _ _ _ _ _ _ _ _ _ _ _ _ _ _ _ _ _ _ _ _ _ _ _ _ _ _ _ _ _ _ _ _ _ _ _ _ _ _ _ _ _ _ _ _ _ _ _ _ _ _ HEB.out
end Go.Proofs.Yticmeeinjkoodaa
