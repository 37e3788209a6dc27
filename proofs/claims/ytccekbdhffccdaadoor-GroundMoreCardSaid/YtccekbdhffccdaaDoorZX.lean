/- The statement on what is known better: the statement's function. -/
import Derived.Test.YtccekbdhffccdaaDoorZXl
namespace Go.Proofs.YtccekbdhffccdaaDoor
open Go.RowKit Go.Shelf

theorem blkm_set {w : World} {g : Nat} {cs : Array Value} {t : TypeId} (h : w.heap[g]? = some (.cells cs t (0, 0))) (j : Nat) (u : Value) : (w.setCell ⟨g, j, none⟩ u).heap[g]? = some (.cells (cs.setIfInBounds j u) t (0, 0)) := by
  simp [World.setCell, Array.getElem?_modify, h]
def rgn3 (pb : Nat) (PV : Value) (g : Nat → Nat) : Tmp → Value
  | 7 => .pointer (some ⟨pb, 0, none⟩)
  | 80 => PV
  | 81 => PV
  | 82 => PV
  | 15 => .pointer (some ⟨g 0, 0, none⟩)
  | 16 => .pointer (some ⟨g 1, 0, none⟩)
  | 17 => .pointer (some ⟨g 2, 0, none⟩)
  | _ => undef
theorem rgn3_upd (pb : Nat) (PV : Value) (g : Nat → Nat) (j : Nat) (d : Tmp) (hd : (j = 0 ∧ d = 15) ∨ (j = 1 ∧ d = 16) ∨ (j = 2 ∧ d = 17)) (t : Tmp) (v : Nat) (ht : t ≠ d) : rgn3 pb PV (updN g j v) t = rgn3 pb PV g t := by
  rcases hd with ⟨rfl, rfl⟩ | ⟨rfl, rfl⟩ | ⟨rfl, rfl⟩
  all_goals
    unfold rgn3
    split
    all_goals first | rfl | exact absurd rfl ht
def lxCv (bx tb : Nat) (vx : Value) (a b t l h nl nh : Int) : Tmp → Value
  | 2 => .int .i64 a
  | 3 => .int .i64 b
  | 15 => .pointer (some ⟨bx, 0, none⟩)
  | 19 => .pointer (some ⟨tb, 0, none⟩)
  | 117 => .pointer (some ⟨bx, 0, none⟩)
  | 118 => vx
  | 119 => .pointer (some ⟨tb, 0, none⟩)
  | 120 => .int .i64 t
  | 121 => .pointer (some ⟨tb, 1, none⟩)
  | 122 => .agg #[.int .i64 l, .int .i64 h]
  | 123 => .int .i64 a
  | 124 => .int .i64 b
  | 125 => .agg #[.int .i64 nl, .int .i64 nh]
  | 126 => .agg #[.int .i64 t, .int .i64 nl, .int .i64 nh]
  | 129 => .pointer (some ⟨bx, 0, none⟩)
  | _ => undef
def lzCv (bz tb : Nat) (vz : Value) (k t l h zl zh : Int) : Tmp → Value
  | 6 => .int .i64 k
  | 17 => .pointer (some ⟨bz, 0, none⟩)
  | 19 => .pointer (some ⟨tb, 0, none⟩)
  | 130 => .pointer (some ⟨bz, 0, none⟩)
  | 131 => vz
  | 132 => .pointer (some ⟨tb, 0, none⟩)
  | 133 => .int .i64 t
  | 134 => .pointer (some ⟨tb, 1, none⟩)
  | 135 => .pointer (some ⟨tb, 1, none⟩)
  | 136 => .int .i64 l
  | 137 => .int .i64 k
  | 138 => .int .i64 (l + k)
  | 139 => .int .i64 zl
  | 140 => .pointer (some ⟨tb, 1, none⟩)
  | 141 => .pointer (some ⟨tb, 2, none⟩)
  | 142 => .int .i64 h
  | 143 => .int .i64 k
  | 144 => .int .i64 (h + k)
  | 145 => .int .i64 zh
  | 146 => .agg #[.int .i64 zl, .int .i64 zh]
  | 147 => .agg #[.int .i64 t, .int .i64 zl, .int .i64 zh]
  | 150 => .pointer (some ⟨bz, 0, none⟩)
  | _ => undef
def yxCv (b2 u2 k m c' : Nat) (vx : Value) (a b sl sh wl wh nl nh x0 x1 x2 x3 x4 x5 : Int) : Tmp → Value
  | 1 => .slice (some ⟨b2, u2, none⟩) m c'
  | 2 => .int .i64 a
  | 3 => .int .i64 b
  | 20 => vx
  | 22 => .int .i64 k
  | 157 => vx
  | 158 => .slice (some ⟨b2, u2, none⟩) m c'
  | 159 => .int .i64 k
  | 160 => .pointer (some ⟨b2, u2 + k * 6, none⟩)
  | 161 => .pointer (some ⟨b2, u2 + k * 6, none⟩)
  | 162 => .agg #[.int .i64 sl, .int .i64 sh]
  | 163 => .int .i64 a
  | 164 => .int .i64 b
  | 165 => .agg #[.int .i64 x0, .int .i64 x1]
  | 166 => .slice (some ⟨b2, u2, none⟩) m c'
  | 167 => .int .i64 k
  | 168 => .pointer (some ⟨b2, u2 + k * 6, none⟩)
  | 169 => .pointer (some ⟨b2, u2 + k * 6 + 2, none⟩)
  | 170 => .agg #[.int .i64 wl, .int .i64 wh]
  | 171 => .int .i64 a
  | 172 => .int .i64 b
  | 173 => .agg #[.int .i64 x2, .int .i64 x3]
  | 174 => .slice (some ⟨b2, u2, none⟩) m c'
  | 175 => .int .i64 k
  | 176 => .pointer (some ⟨b2, u2 + k * 6, none⟩)
  | 177 => .pointer (some ⟨b2, u2 + k * 6 + 4, none⟩)
  | 178 => .agg #[.int .i64 nl, .int .i64 nh]
  | 179 => .int .i64 a
  | 180 => .int .i64 b
  | 181 => .agg #[.int .i64 x4, .int .i64 x5]
  | 182 => .agg #[.int .i64 x0, .int .i64 x1, .int .i64 x2, .int .i64 x3, .int .i64 x4, .int .i64 x5]
  | _ => undef
def ytCv (b2 u2 k m c' : Nat) (vy : Value) (k2 sl sh wl wh nl nh zl zh : Int) : Tmp → Value
  | 1 => .slice (some ⟨b2, u2, none⟩) m c'
  | 5 => .int .i64 k2
  | 21 => vy
  | 22 => .int .i64 k
  | 185 => vy
  | 186 => .slice (some ⟨b2, u2, none⟩) m c'
  | 187 => .int .i64 k
  | 188 => .pointer (some ⟨b2, u2 + k * 6, none⟩)
  | 189 => .pointer (some ⟨b2, u2 + k * 6, none⟩)
  | 190 => .agg #[.int .i64 sl, .int .i64 sh]
  | 191 => .slice (some ⟨b2, u2, none⟩) m c'
  | 192 => .int .i64 k
  | 193 => .pointer (some ⟨b2, u2 + k * 6, none⟩)
  | 194 => .pointer (some ⟨b2, u2 + k * 6 + 2, none⟩)
  | 195 => .agg #[.int .i64 wl, .int .i64 wh]
  | 196 => .slice (some ⟨b2, u2, none⟩) m c'
  | 197 => .int .i64 k
  | 198 => .pointer (some ⟨b2, u2 + k * 6, none⟩)
  | 199 => .pointer (some ⟨b2, u2 + k * 6 + 4, none⟩)
  | 200 => .pointer (some ⟨b2, u2 + k * 6 + 4, none⟩)
  | 201 => .int .i64 nl
  | 202 => .int .i64 k2
  | 203 => .int .i64 (nl + k2)
  | 204 => .int .i64 zl
  | 205 => .slice (some ⟨b2, u2, none⟩) m c'
  | 206 => .int .i64 k
  | 207 => .pointer (some ⟨b2, u2 + k * 6, none⟩)
  | 208 => .pointer (some ⟨b2, u2 + k * 6 + 4, none⟩)
  | 209 => .pointer (some ⟨b2, u2 + k * 6 + 5, none⟩)
  | 210 => .int .i64 nh
  | 211 => .int .i64 k2
  | 212 => .int .i64 (nh + k2)
  | 213 => .int .i64 zh
  | 214 => .agg #[.int .i64 zl, .int .i64 zh]
  | 215 => .agg #[.int .i64 sl, .int .i64 sh, .int .i64 wl, .int .i64 wh, .int .i64 zl, .int .i64 zh]
  | _ => undef
theorem lay_info : (Tryd.prog.info? 86).map (fun i => (i.zero, i.size, i.bytes)) = some (some (.agg #[.int .i64 0, .int .i64 0, .int .i64 0]), 3, 24) := by kernel_rfl
attribute [local irreducible] QT
set_option maxRecDepth 100000 in
set_option maxHeartbeats 40000000 in
theorem mor_good (A A2 : Option Addr) (n c m c' : Nat) (ls : List Lay) (ys : List Yr) (lo hi a b k1 k2 k3 : Int) (w : World) (ht : Tab w) (hl : ls.length = n) (hcap : n ≤ c) (hn : n ≤ maxLen) (hL : LaysAt w w.heap.size A ls) (hy : ys.length = m) (hm : m ≤ maxLen) (hY : YrsAt w w.heap.size A2 ys)
    (hs : decide (n ≤ 12 ∧ m ≤ 17) = true) (hr : yearsI ls lo hi ys = 0) (o1 : ¬ a < 0) (o2 : ¬ b < a) (o3 : ¬ 100 < b) (o4 : ¬ k1 < 0) (o5 : ¬ 1000000 < k1) (o6 : ¬ k2 < 0) (o7 : ¬ 1000 < k2) (o8 : ¬ k3 < 0) (o9 : ¬ 1000 < k3) :
    Calls Tryd.prog 15 #[.agg #[.slice A n c, .int .i64 lo, .int .i64 hi], .slice A2 m c', .int .i64 a, .int .i64 b, .int .i64 k1, .int .i64 k2, .int .i64 k3] w fun e w' => e = .returned (.bool true) ∧ Below w.heap.size w w' := by
  obtain ⟨v1, v2, v3⟩ := yearsI_zero hr
  obtain ⟨⟨v4, v5⟩, ⟨w0_, w1_, w2_⟩, v6⟩ := placeB_spec v2
  have N6 : n ≤ 6 := by omega
  have M12 : m ≤ 12 := by omega
  have V2 := Lib.hid v2; have V3 := Lib.hid v3
  have HT := Lib.hid ht; have HS := Lib.hid hs; have HR := Lib.hid hr
  have HL := Lib.hid hl; have HY := Lib.hid hy
  have HN := Lib.hid hn; have HM := Lib.hid hm; have HCAP := Lib.hid hcap
  clear hl hy hn hm ht hcap hs hr v1 v2 v3 v4 v5 v6
  have HB1 := Lib.hid ((Below.refl w.heap.size w).alloc (Nat.le_refl _) (.cells #[.slice A n c, .int .i64 lo, .int .i64 hi] 26))
  have Z1 := Lib.hid (heap_alloc_new w (.cells #[.slice A n c, .int .i64 lo, .int .i64 hi] 26))
  go_enter Tryd.func15, Tryd.ntmps15
  go_wp2_with fail
  refine (short_any A A2 n m c c' lo hi _ HN.out HM.out).mono ?_
  rintro e w2 ⟨rfl, hb2⟩
  rw [HS.out]
  have HB2 := Lib.hid (HB1.out.trans (hb2.mono HB1.out.size))
  have Z2 := Lib.hid ((hb2.block _ (Array.getElem?_eq_some_iff.1 Z1.out).1).trans Z1.out)
  clear hb2
  have p0 := cell_of_row w2 w.heap.size 0 _ 26 (0, 0) Z2.out
  have p1 := cell_of_row w2 w.heap.size 1 _ 26 (0, 0) Z2.out
  have p2 := cell_of_row w2 w.heap.size 2 _ 26 (0, 0) Z2.out
  simp at p0 p1 p2
  go_wp2_with fail
  refine (wanted_is 0 A A2 n c m c' ls ys lo hi _ HL.out HN.out (hL.next HB2.out) HY.out HM.out (hY.next HB2.out) HR.out).mono ?_
  rintro e w3 ⟨rfl, hb3⟩
  have HB3 := Lib.hid (HB2.out.trans (hb3.mono HB2.out.size))
  have Z3 := Lib.hid ((hb3.block _ (Array.getElem?_eq_some_iff.1 Z2.out).1).trans Z2.out)
  have ltp := (Array.getElem?_eq_some_iff.1 Z3.out).1
  clear hb3 p0 p1 p2
  go_wp2_with fail
  refine wp_region_any (by kernel_rfl) (plan_guarded_any (γ := Nat → Nat) [7] (rgn3 w.heap.size (.agg #[.slice A n c, .int .i64 lo, .int .i64 hi])) (S3 w3 (.slice A n c, .int .i64 lo, .int .i64 hi)) (fun _ => 0) (by kernel_rfl) (by kernel_rfl) (by kernel_rfl) (by kernel_rfl) ?_ ⟨(Below.refl _ _).drew, fun _ _ hd => by simp at hd, fun _ _ _ _ _ hd => by simp at hd, fun _ _ hd => by simp at hd⟩ ?_ ?_)
  · intro t ht
    simp only [List.mem_cons, List.not_mem_nil, or_false] at ht
    subst ht
    rfl
  · refine allOps_array ?_
    have hp : ∀ {done : Nat → Bool} {g : Nat → Nat} {w' : World}, S3 w3 (.slice A n c, .int .i64 lo, .int .i64 hi) done g w' → w'.cell? ⟨w.heap.size, 0, none⟩ = some (.slice A n c) ∧ w'.cell? ⟨w.heap.size, 1, none⟩ = some (.int .i64 lo) ∧ w'.cell? ⟨w.heap.size, 2, none⟩ = some (.int .i64 hi) := fun {done g w'} hS => by
      have hz := (hS.bel.block _ ltp).trans Z3.out
      have q0 := cell_of_row w' w.heap.size 0 _ 26 (0, 0) hz
      have q1 := cell_of_row w' w.heap.size 1 _ 26 (0, 0) hz
      have q2 := cell_of_row w' w.heap.size 2 _ 26 (0, 0) hz
      simp at q0 q1 q2
      exact ⟨q0, q1, q2⟩
    refine ⟨?_, ?_, ?_, ?_, ?_, ?_, ?_, ?_, ?_, trivial⟩
    · intro done g w' hS hu hdep _
      obtain ⟨q0, q1, q2⟩ := hp hS
      refine quiet3 hS 80 rfl (by decide) rfl ?_
      simp [go_sem, evalBy, rgn3, q0, q1, q2]
    · intro done g w' hS hu hdep _
      obtain ⟨q0, q1, q2⟩ := hp hS
      refine quiet3 hS 81 rfl (by decide) rfl ?_
      simp [go_sem, evalBy, rgn3, q0, q1, q2]
    · intro done g w' hS hu hdep _
      obtain ⟨q0, q1, q2⟩ := hp hS
      refine quiet3 hS 82 rfl (by decide) rfl ?_
      simp [go_sem, evalBy, rgn3, q0, q1, q2]
    · intro done g w' hS hu hdep _
      refine make3 hS 0 (by decide) 15 rfl rfl hu rfl ?_ (fun _ => rfl) (fun t v ht => rgn3_upd _ _ _ _ _ (by simp) t v ht)
      simp [go_sem]
    · intro done g w' hS hu hdep _
      refine make3 hS 1 (by decide) 16 rfl rfl hu rfl ?_ (fun _ => rfl) (fun t v ht => rgn3_upd _ _ _ _ _ (by simp) t v ht)
      simp [go_sem]
    · intro done g w' hS hu hdep _
      refine make3 hS 2 (by decide) 17 rfl rfl hu rfl ?_ (fun _ => rfl) (fun t v ht => rgn3_upd _ _ _ _ _ (by simp) t v ht)
      simp [go_sem]
    · intro done g w' hS hu hdep _
      refine fill3 hS 0 (by decide) rfl rfl hu (hdep ⟨3, .data⟩ (by simp) rfl) rfl ?_
      intro hf c0 c1 c2
      have f0 := hf 0; have f1 := hf 1; have f2 := hf 2
      clear hf
      simp [go_sem, evalBy, rgn3, f0, f1, f2, c0, c1, c2]
    · intro done g w' hS hu hdep _
      refine fill3 hS 1 (by decide) rfl rfl hu (hdep ⟨4, .data⟩ (by simp) rfl) rfl ?_
      intro hf c0 c1 c2
      have f0 := hf 0; have f1 := hf 1; have f2 := hf 2
      clear hf
      simp [go_sem, evalBy, rgn3, f0, f1, f2, c0, c1, c2]
    · intro done g w' hS hu hdep _
      refine fill3 hS 2 (by decide) rfl rfl hu (hdep ⟨5, .data⟩ (by simp) rfl) rfl ?_
      intro hf c0 c1 c2
      have f0 := hf 0; have f1 := hf 1; have f2 := hf 2
      clear hf
      simp [go_sem, evalBy, rgn3, f0, f1, f2, c0, c1, c2]
  · intro g w4 hS
    obtain ⟨bx, hbx⟩ : ∃ z, g 0 = z := ⟨_, rfl⟩
    obtain ⟨by_, hby⟩ : ∃ z, g 1 = z := ⟨_, rfl⟩
    obtain ⟨bz, hbz⟩ : ∃ z, g 2 = z := ⟨_, rfl⟩
    obtain ⟨x0, xb⟩ := hS.box 0 (by decide) (by decide)
    obtain ⟨y0, yb⟩ := hS.box 1 (by decide) (by decide)
    obtain ⟨z0, zb⟩ := hS.box 2 (by decide) (by decide)
    have s1 := hS.sep 0 1 (by decide) (by decide) (by decide) (by decide) (by decide)
    have s2 := hS.sep 0 2 (by decide) (by decide) (by decide) (by decide) (by decide)
    have s3 := hS.sep 1 2 (by decide) (by decide) (by decide) (by decide) (by decide)
    rw [if_pos (by decide)] at xb yb zb
    simp only at xb yb zb
    rw [hbx] at x0 xb s1 s2
    rw [hby] at y0 yb s1 s3
    rw [hbz] at z0 zb s2 s3
    have HB4 := Lib.hid (HB3.out.trans (hS.bel.mono HB3.out.size))
    have pb := (hS.bel.block _ ltp).trans Z3.out
    have PB := Lib.hid pb; have XB := Lib.hid xb; have YB := Lib.hid yb; have ZB := Lib.hid zb
    have NB : Hid (w.heap.size < bx ∧ w.heap.size < by_ ∧ w.heap.size < bz ∧ bx ≠ by_ ∧ bx ≠ bz ∧ by_ ≠ bz) := Lib.hid ⟨by omega, by omega, by omega, s1, s2, s3⟩
    simp [putAll, Act.put, rgn3, hbx, hby, hbz]
    clear hS hbx hby hbz x0 y0 z0 xb yb zb pb s1 s2 s3 Z1 Z2 Z3 HB1 HB2 HB3 ltp
    have p1 := cell_of_row w4 w.heap.size 1 _ 26 (0, 0) PB.out
    have p2 := cell_of_row w4 w.heap.size 2 _ 26 (0, 0) PB.out
    simp at p1 p2
    go_wp2_with fail
    refine (narrow_any lo hi a b _ w0_ w1_ w2_ (by omega) (by omega) (by omega) (by omega)).mono ?_
    rintro e w5 ⟨rfl, hb5⟩
    have wa := nar_b (lo := lo) (hi := hi) w1_ (by omega : 0 ≤ a) (by omega : a ≤ b) (by omega : b ≤ 100)
    obtain ⟨nl, hnl⟩ : ∃ z, nar lo hi a = z := ⟨_, rfl⟩
    obtain ⟨nh, hnh⟩ : ∃ z, nar lo hi b = z := ⟨_, rfl⟩
    rw [hnl, hnh]
    have HNL := Lib.hid hnl; have HNH := Lib.hid hnh
    have hk5 : ∀ {B : Nat} {o : Obj}, w4.heap[B]? = some o → w5.heap[B]? = some o := fun hB => (hb5.block _ (Array.getElem?_eq_some_iff.1 hB).1).trans hB
    have HB5 := Lib.hid (HB4.out.trans (hb5.mono HB4.out.size))
    have PB5 := Lib.hid (hk5 PB.out); have XB5 := Lib.hid (hk5 XB.out); have YB5 := Lib.hid (hk5 YB.out); have ZB5 := Lib.hid (hk5 ZB.out)
    clear hnl hnh hb5 hk5 p1 p2 wa
    obtain ⟨n1, n2, n3, n4, n5, n6⟩ := NB.out
    have p1 := cell_of_row w5 w.heap.size 1 _ 26 (0, 0) PB5.out
    have p2 := cell_of_row w5 w.heap.size 2 _ 26 (0, 0) PB5.out
    have c0 := cell_of_row w5 bx 0 _ 26 (0, 0) XB5.out
    have c1 := cell_of_row w5 bx 1 _ 26 (0, 0) XB5.out
    have c2 := cell_of_row w5 bx 2 _ 26 (0, 0) XB5.out
    simp at p1 p2 c0 c1 c2
    have f0 : w5.frozen? ⟨bx, 0, none⟩ = false := by simp [World.frozen?, XB5.out]
    have f1 : w5.frozen? ⟨bx, 1, none⟩ = false := by simp [World.frozen?, XB5.out]
    have f2 : w5.frozen? ⟨bx, 2, none⟩ = false := by simp [World.frozen?, XB5.out]
    have e1 : ¬ w.heap.size = bx := by omega
    have e2 : ¬ bx = w.heap.size := by omega
    have s0 : 0 ≤ lo + k1 := by omega
    have s1 : lo + k1 ≤ 2000000 := by omega
    have s2 : 0 ≤ hi + k1 := by omega
    have s3 : hi + k1 ≤ 2000000 := by omega
    go_wp2_with fail
    clear p1 p2 c0 c1 c2 f0 f1 f2 e1 e2
    have xb6 : ((((w5.setCell ⟨bx, 0, none⟩ (.slice none 0 0)).setCell ⟨bx, 1, none⟩ (.int .i64 nl)).setCell ⟨bx, 2, none⟩ (.int .i64 nh))).heap[bx]? = some (.cells #[.slice none 0 0, .int .i64 nl, .int .i64 nh] 26 (0, 0)) := blkm_set (blkm_set (blkm_set XB5.out 0 _) 1 _) 2 _
    have hk6 : ∀ {B : Nat} {o : Option Obj}, w5.heap[B]? = o → B ≠ bx → ((((w5.setCell ⟨bx, 0, none⟩ (.slice none 0 0)).setCell ⟨bx, 1, none⟩ (.int .i64 nl)).setCell ⟨bx, 2, none⟩ (.int .i64 nh))).heap[B]? = o := fun hB hne => (Below.heap_setCell _ _ _ _ hne).trans ((Below.heap_setCell _ _ _ _ hne).trans ((Below.heap_setCell _ _ _ _ hne).trans hB))
    have PB6 := Lib.hid (hk6 PB5.out (by omega)); have XB6 := Lib.hid xb6; have YB6 := Lib.hid (hk6 YB5.out (Ne.symm n4)); have ZB6 := Lib.hid (hk6 ZB5.out (Ne.symm n5))
    have HB6 := Lib.hid (((HB5.out.setCell (p := ⟨bx, 0, none⟩) (by show _ ≤ bx; omega) (.slice none 0 0)).setCell (p := ⟨bx, 1, none⟩) (by show _ ≤ bx; omega) (.int .i64 nl)).setCell (p := ⟨bx, 2, none⟩) (by show _ ≤ bx; omega) (.int .i64 nh))
    clear xb6 hk6 PB5 XB5 YB5 ZB5 HB5 PB XB YB ZB HB4
    generalize (((w5.setCell ⟨bx, 0, none⟩ (Value.slice none 0 0)).setCell ⟨bx, 1, none⟩ (Value.int .i64 nl)).setCell ⟨bx, 2, none⟩ (Value.int .i64 nh)) = w6 at PB6 XB6 YB6 ZB6 HB6 ⊢
    refine (span_any _ _ _).mono ?_
    rintro e w7 ⟨rfl, hb7⟩
    obtain ⟨yl, hyl⟩ : ∃ z, min 1000000 (lo + k1) = z := ⟨_, rfl⟩
    obtain ⟨yh, hyh⟩ : ∃ z, min 1000000 (hi + k1) = z := ⟨_, rfl⟩
    rw [hyl, hyh]
    have HYL := Lib.hid hyl; have HYH := Lib.hid hyh
    have hk7 : ∀ {B : Nat} {o : Obj}, w6.heap[B]? = some o → w7.heap[B]? = some o := fun hB => (hb7.block _ (Array.getElem?_eq_some_iff.1 hB).1).trans hB
    have HB7 := Lib.hid (HB6.out.trans (hb7.mono HB6.out.size))
    have PB7 := Lib.hid (hk7 PB6.out); have XB7 := Lib.hid (hk7 XB6.out); have YB7 := Lib.hid (hk7 YB6.out); have ZB7 := Lib.hid (hk7 ZB6.out)
    clear hyl hyh hb7 hk7 s0 s1 s2 s3 PB6 XB6 YB6 ZB6 HB6
    have c1 := cell_of_row w7 by_ 1 _ 26 (0, 0) YB7.out
    have c2 := cell_of_row w7 by_ 2 _ 26 (0, 0) YB7.out
    have c0 := cell_of_row w7 bz 0 _ 26 (0, 0) ZB7.out
    simp at c0 c1 c2
    have f0 : w7.frozen? ⟨bz, 0, none⟩ = false := by simp [World.frozen?, ZB7.out]
    have f1 : w7.frozen? ⟨by_, 1, none⟩ = false := by simp [World.frozen?, YB7.out]
    have f2 : w7.frozen? ⟨by_, 2, none⟩ = false := by simp [World.frozen?, YB7.out]
    have e1 : ¬ bz = by_ := fun e => n6 e.symm
    have e2 : ¬ by_ = bz := n6
    go_wp2_with fail
    clear c0 c1 c2 f0 f1 f2 e1 e2
    have yb8 : (((w7.setCell ⟨by_, 1, none⟩ (.int .i64 yl)).setCell ⟨by_, 2, none⟩ (.int .i64 yh)).setCell ⟨bz, 0, none⟩ (.slice none 0 0)).heap[by_]? = some (.cells #[.slice A n c, .int .i64 yl, .int .i64 yh] 26 (0, 0)) := (Below.heap_setCell _ _ _ _ n6).trans (blkm_set (blkm_set YB7.out 1 _) 2 _)
    have zb8 : (((w7.setCell ⟨by_, 1, none⟩ (.int .i64 yl)).setCell ⟨by_, 2, none⟩ (.int .i64 yh)).setCell ⟨bz, 0, none⟩ (.slice none 0 0)).heap[bz]? = some (.cells #[.slice none 0 0, .int .i64 lo, .int .i64 hi] 26 (0, 0)) := blkm_set ((Below.heap_setCell _ _ _ _ (Ne.symm n6)).trans ((Below.heap_setCell _ _ _ _ (Ne.symm n6)).trans ZB7.out)) 0 _
    have hk8 : ∀ {B : Nat} {o : Option Obj}, w7.heap[B]? = o → B ≠ by_ → B ≠ bz → (((w7.setCell ⟨by_, 1, none⟩ (.int .i64 yl)).setCell ⟨by_, 2, none⟩ (.int .i64 yh)).setCell ⟨bz, 0, none⟩ (.slice none 0 0)).heap[B]? = o := fun hB h1 h2 => (Below.heap_setCell _ _ _ _ h2).trans ((Below.heap_setCell _ _ _ _ h1).trans ((Below.heap_setCell _ _ _ _ h1).trans hB))
    have MM : Hid (M1 w (((w7.setCell ⟨by_, 1, none⟩ (.int .i64 yl)).setCell ⟨by_, 2, none⟩ (.int .i64 yh)).setCell ⟨bz, 0, none⟩ (.slice none 0 0)) bx by_ bz #[.slice A n c, .int .i64 lo, .int .i64 hi] #[.slice A n c, .int .i64 yl, .int .i64 yh] (.int .i64 nl) (.int .i64 nh) (.int .i64 lo) (.int .i64 hi) (.slice none 0 0) (.slice none 0 0) 0 0 [] []) := Lib.hid
      ⟨((HB7.out.setCell (p := ⟨by_, 1, none⟩) (by show _ ≤ by_; omega) (.int .i64 yl)).setCell (p := ⟨by_, 2, none⟩) (by show _ ≤ by_; omega) (.int .i64 yh)).setCell (p := ⟨bz, 0, none⟩) (by show _ ≤ bz; omega) (.slice none 0 0), hk8 PB7.out (by omega) (by omega), hk8 XB7.out n4 n5, yb8, zb8, World.ownsRow_nil _ _ _ _, World.ownsRow_nil _ _ _ _, fun B hB => by simp [Value.ownBlock] at hB, NB.out⟩
    clear yb8 zb8 hk8 PB7 XB7 YB7 ZB7 HB7
    generalize (((w7.setCell ⟨by_, 1, none⟩ (Value.int .i64 yl)).setCell ⟨by_, 2, none⟩ (Value.int .i64 yh)).setCell ⟨bz, 0, none⟩ (Value.slice none 0 0)) = w8 at MM ⊢
    obtain ⟨j0, hj0, jz0, jz1, jz2⟩ := info_parts lay_info
    have J0 := Lib.hid hj0; have JZ0 := Lib.hid jz0; have JZ1 := Lib.hid jz1; have JZ2 := Lib.hid jz2
    clear hj0 jz0 jz1 jz2
    have hn6 : (n : Int) ≤ 6 := by omega
    go_loopw [18] (fun i wr => ∃ k : Nat, k ≤ n ∧ i = .int .i64 k ∧ ∃ vx vz, M1 w wr bx by_ bz #[.slice A n c, .int .i64 lo, .int .i64 hi] #[.slice A n c, .int .i64 yl, .int .i64 yh] (.int .i64 nl) (.int .i64 nh) (.int .i64 lo) (.int .i64 hi) vx vz k k (((ls.map (layX a b)).take k).flatMap layRow) (((ls.map (layZ k3)).take k).flatMap layRow)) (fun i _ => n - (intOf i).toNat)
    case atStart => exact ⟨0, Nat.zero_le _, rfl, _, _, MM.out⟩
    case round =>
      obtain ⟨k, hk, rfl, vx, vz, hM⟩ := hrel
      have MR := Lib.hid hM
      have p0 := cell_of_row wr w.heap.size 0 _ 26 (0, 0) MR.out.pb
      simp at p0
      clear hM MM
      by_cases hlt : k < n
      · obtain ⟨x, hx⟩ := get_of_lt (l := ls) (k := k) (by rw [HL.out]; exact hlt)
        obtain ⟨b1, u1, rfl, hb1, hc1⟩ := hL (by intro h; rw [h] at hx; simp at hx)
        obtain ⟨x0, x1, x2⟩ := hc1 k x hx
        replace x0 := ((bcell MR.out.bel).1 _ _ hb1).trans x0
        replace x1 := ((bcell MR.out.bel).1 _ _ hb1).trans x1
        replace x2 := ((bcell MR.out.bel).1 _ _ hb1).trans x2
        have HX := Lib.hid hx
        have lb := layB_iff.1 ((placeB_iff.1 V2.out).2.2 x (List.mem_of_getElem? hx))
        obtain ⟨t, het⟩ : ∃ z, x.t = z := ⟨_, rfl⟩
        obtain ⟨l, hel⟩ : ∃ z, x.lo = z := ⟨_, rfl⟩
        obtain ⟨h, heh⟩ : ∃ z, x.hi = z := ⟨_, rfl⟩
        rw [het] at x0 lb
        rw [hel] at x1 lb
        rw [heh] at x2 lb
        have ET := Lib.hid het; have EL := Lib.hid hel; have EH := Lib.hid heh
        clear hx hc1 het hel heh
        have hk0 : (0 : Int) ≤ (k : Int) := by omega
        have hk1 : (k : Int) < (n : Int) := by omega
        go_wp2_with fail
        obtain ⟨wB, hwB⟩ : ∃ z, wr.alloc (.cells #[.int .i64 t, .int .i64 l, .int .i64 h] 86) = z := ⟨_, rfl⟩
        rw [hwB]
        have tb := heap_alloc_new wr (.cells #[.int .i64 t, .int .i64 l, .int .i64 h] 86)
        rw [hwB] at tb
        have hbB : Below wr.heap.size wr wB := by rw [← hwB]; exact (Below.refl _ _).alloc (Nat.le_refl _) _
        have TB := Lib.hid tb
        have MB := Lib.hid (MR.out.next hbB)
        have ntx : some wr.heap.size ≠ vx.ownBlock := fun e => by have := (MR.out.ox.lt _ e.symm).2; omega
        have ntz : some wr.heap.size ≠ vz.ownBlock := fun e => by have := (MR.out.oz.lt _ e.symm).2; omega
        have ltb := (Array.getElem?_eq_some_iff.1 tb).1
        have lbx := (Array.getElem?_eq_some_iff.1 MB.out.xb).1
        have nbx := box_row MB.out.xb MB.out.ox
        have ct0 := cell_of_row wB wr.heap.size 0 _ 86 (0, 0) tb
        have ct1 := cell_of_row wB wr.heap.size 1 _ 86 (0, 0) tb
        have ct2 := cell_of_row wB wr.heap.size 2 _ 86 (0, 0) tb
        have cx0 := cell_of_row wB bx 0 _ 26 (0, 0) MB.out.xb
        simp at ct0 ct1 ct2 cx0
        obtain ⟨ax, nx, cx, evx⟩ := own_slice MB.out.ox
        have lolow : w.heap.size ≤ wB.heap.size := MB.out.bel.size
        clear hwB tb hbB p0 x0 x1 x2 evx
        have RXk : Hid (((ls.map (layX a b)).take (k + 1)).flatMap layRow = ((ls.map (layX a b)).take k).flatMap layRow ++ [.int .i64 t, .int .i64 (nar l h a), .int .i64 (nar l h b)]) := Lib.hid (by
          rw [flat_take (f := layRow) (x := layX a b x) (by rw [List.getElem?_map, HX.out]; rfl), ← ET.out, ← EL.out, ← EH.out]; rfl)
        have RZk : Hid (((ls.map (layZ k3)).take (k + 1)).flatMap layRow = ((ls.map (layZ k3)).take k).flatMap layRow ++ [.int .i64 t, .int .i64 (min 1000 (l + k3)), .int .i64 (min 1000 (h + k3))]) := Lib.hid (by
          rw [flat_take (f := layRow) (x := layZ k3 x) (by rw [List.getElem?_map, HX.out]; rfl), ← ET.out, ← EL.out, ← EH.out]; rfl)
        obtain ⟨RX, hRX⟩ : ∃ z, ((ls.map (layX a b)).take k).flatMap layRow = z := ⟨_, rfl⟩
        obtain ⟨RZ, hRZ⟩ : ∃ z, ((ls.map (layZ k3)).take k).flatMap layRow = z := ⟨_, rfl⟩
        rw [hRX] at MR MB RXk
        rw [hRZ] at MR MB RZk
        clear hRX hRZ
        apply tail_region
        case hs => exact (rfl : _ = [_, _, _, _, _, _, _, _, _, _, _, _, _] ++ [_])
        case hm => kernel_rfl
        case hT => kernel_rfl
        refine plan_guarded_any (γ := GhE) [2, 3, 15, 19] (rhoO 127 128 (lxCv bx wr.heap.size vx a b t l h (nar l h a) (nar l h b))) (SL ⟨wB, w.heap.size, 86, 3, k, vx, RX, [.int .i64 t, .int .i64 (nar l h a), .int .i64 (nar l h b)], 10, 11⟩) ⟨fun _ => undef, fun _ => undef⟩ (by kernel_rfl) (by kernel_rfl) (by kernel_rfl) (by kernel_rfl) ?_ (SL.start MB.out.ox lolow (by decide)) ?_ ?_
        · intro t ht
          simp only [List.mem_cons, List.not_mem_nil, or_false] at ht
          rcases ht with rfl | rfl | rfl | rfl <;> rfl
        · refine allOps_array ?_
          refine ⟨?_, ?_, ?_, ?_, ?_, ?_, ?_, ?_, ?_, ?_, ?_, ?_, ?_, trivial⟩
          · intro done g w' hS hu hdep _
            refine quietL hS 117 rfl (by show (0 : Nat) ≠ 10; decide) (by show (0 : Nat) ≠ 11; decide) rfl ?_
            simp [go_sem, evalBy, rhoO, lxCv]
          · intro done g w' hS hu hdep _
            have h1 := (hS.cell (o := 0) lbx nbx).trans cx0
            refine quietL hS 118 rfl (by show (1 : Nat) ≠ 10; decide) (by show (1 : Nat) ≠ 11; decide) rfl ?_
            simp [go_sem, evalBy, rhoO, lxCv, h1]
          · intro done g w' hS hu hdep _
            refine quietL hS 119 rfl (by show (2 : Nat) ≠ 10; decide) (by show (2 : Nat) ≠ 11; decide) rfl ?_
            simp [go_sem, evalBy, rhoO, lxCv]
          · intro done g w' hS hu hdep _
            have h1 := (hS.cell (o := 0) ltb ntx).trans ct0
            refine quietL hS 120 rfl (by show (3 : Nat) ≠ 10; decide) (by show (3 : Nat) ≠ 11; decide) rfl ?_
            simp [go_sem, evalBy, rhoO, lxCv, h1]
          · intro done g w' hS hu hdep _
            refine quietL hS 121 rfl (by show (4 : Nat) ≠ 10; decide) (by show (4 : Nat) ≠ 11; decide) rfl ?_
            simp [go_sem, evalBy, rhoO, lxCv]
          · intro done g w' hS hu hdep _
            have h1 := (hS.cell (o := 1) ltb ntx).trans ct1
            have h2 := (hS.cell (o := 2) ltb ntx).trans ct2
            refine quietL hS 122 rfl (by show (5 : Nat) ≠ 10; decide) (by show (5 : Nat) ≠ 11; decide) rfl ?_
            simp [go_sem, evalBy, rhoO, lxCv, h1, h2]
          · intro done g w' hS hu hdep _
            refine quietL hS 123 rfl (by show (6 : Nat) ≠ 10; decide) (by show (6 : Nat) ≠ 11; decide) rfl ?_
            simp [go_sem, evalBy, rhoO, lxCv]
          · intro done g w' hS hu hdep _
            refine quietL hS 124 rfl (by show (7 : Nat) ≠ 10; decide) (by show (7 : Nat) ≠ 11; decide) rfl ?_
            simp [go_sem, evalBy, rhoO, lxCv]
          · intro done g w' hS hu hdep _
            refine callL hS 125 rfl (by show (8 : Nat) ≠ 10; decide) (by show (8 : Nat) ≠ 11; decide) rfl 47 #[.agg #[.int .i64 l, .int .i64 h], .int .i64 a, .int .i64 b] (by simp [go_sem, evalBy, rhoO, lxCv]) ?_
            exact narrow_any l h a b _ (by omega) (by omega) (by omega) (by omega) (by omega) (by omega) (by omega)
          · intro done g w' hS hu hdep _
            refine quietL hS 126 rfl (by show (9 : Nat) ≠ 10; decide) (by show (9 : Nat) ≠ 11; decide) rfl ?_
            simp [go_sem, evalBy, rhoO, lxCv]
          · intro done g w' hS hu hdep _
            refine buildL hS 127 rfl rfl rfl ?_ (fun _ => rfl) (fun t b' ht => rhoO_b t b' ht)
            simp [go_sem, evalBy, rhoO, lxCv]
          · intro done g w' hS hu hdep _
            exact appendL hS 128 rfl rfl hu (hdep ⟨10, .data⟩ (by simp) rfl) rfl 118 127 22 rfl rfl rfl j0 _ 24 Tryd.underlying22 J0.out JZ0.out JZ1.out JZ2.out rfl (by show 0 < 3; decide) rfl (by simp [Value.oneCell']) (by unfold maxLen; show k + 1 ≤ _; omega) (by show (k + 1) * 24 ≤ _; omega) (fun _ => rfl) (fun t c' ht => rhoO_c t c' ht)
          · intro done g w' hS hu hdep _
            refine quietL hS 129 rfl (by show (12 : Nat) ≠ 10; decide) (by show (12 : Nat) ≠ 11; decide) rfl ?_
            simp [go_sem, evalBy, rhoO, lxCv]
        · intro g wC hS
          have hA := SL.after hS (show 11 < _ by decide)
          have hg := hA.1
          have ho := hA.2.1
          have hf := hA.2.2
          clear hA
          have MC := Lib.hid (MB.out.stepX hg ho hf)
          refine Exists.elim (own_slice ho) fun ac hA1 => Exists.elim hA1 fun nc hA2 => Exists.elim hA2 fun cc ec => ?_
          clear hA1 hA2
          have xbC := (hg.block _ lbx nbx).trans MB.out.xb
          have tbC := (hg.block _ ltb ntx).trans TB.out
          have z0 : wC.frozen? ⟨bx, 0, none⟩ = false := by simp [World.frozen?, xbC]
          have q0 := cell_of_row wC bx 0 _ 26 (0, 0) xbC
          simp at q0
          have nbt : wr.heap.size ≠ bx := fun e => by have := (Array.getElem?_eq_some_iff.1 MR.out.xb).1; omega
          have TC := Lib.hid ((Below.heap_setCell wC ⟨bx, 0, none⟩ (g.c 0) wr.heap.size nbt).trans tbC)
          rw [ec] at MC TC
          clear hS hg ho hf xbC tbC ct0 ct1 ct2 cx0 lbx nbx ltb ntx
          simp only [QT]
          unfold Oper.wp
          simp [go_sem, putAll, Act.put, rhoO, lxCv, ec, z0, q0]
          clear z0 q0 ec
          generalize wC.setCell ⟨bx, 0, none⟩ (Value.slice ac nc cc) = wD at MC TC ⊢
          go_wp2_with fail
          have WL : Value.int .i64 (IntKind.i64.wrap (l + k3)) = Value.int .i64 (l + k3) := congrArg _ (IntWalk.i64_in _ (by omega))
          have WH : Value.int .i64 (IntKind.i64.wrap (h + k3)) = Value.int .i64 (h + k3) := congrArg _ (IntWalk.i64_in _ (by omega))
          have lbz := (Array.getElem?_eq_some_iff.1 MC.out.zb).1
          have ltb := (Array.getElem?_eq_some_iff.1 TC.out).1
          have nbz := box_row MC.out.zb MC.out.oz
          have ct0 := cell_of_row wD wr.heap.size 0 _ 86 (0, 0) TC.out
          have ct1 := cell_of_row wD wr.heap.size 1 _ 86 (0, 0) TC.out
          have ct2 := cell_of_row wD wr.heap.size 2 _ 86 (0, 0) TC.out
          have cz0 := cell_of_row wD bz 0 _ 26 (0, 0) MC.out.zb
          simp at ct0 ct1 ct2 cz0
          have lolowD : w.heap.size ≤ wD.heap.size := MC.out.bel.size
          apply tail_region
          case hs => exact (rfl : _ = [_, _, _, _, _, _, _, _, _, _, _, _, _, _, _, _, _, _, _, _, _] ++ [_])
          case hm => kernel_rfl
          case hT => kernel_rfl
          refine plan_guarded_any (γ := GhE) [6, 17, 19] (rhoO 148 149 (lzCv bz wr.heap.size vz k3 t l h (min 1000 (l + k3)) (min 1000 (h + k3)))) (SL ⟨wD, w.heap.size, 86, 3, k, vz, RZ, [.int .i64 t, .int .i64 (min 1000 (l + k3)), .int .i64 (min 1000 (h + k3))], 18, 19⟩) ⟨fun _ => undef, fun _ => undef⟩ (by kernel_rfl) (by kernel_rfl) (by kernel_rfl) (by kernel_rfl) ?_ (SL.start MC.out.oz lolowD (by decide)) ?_ ?_
          · intro t ht
            simp only [List.mem_cons, List.not_mem_nil, or_false] at ht
            rcases ht with rfl | rfl | rfl <;> rfl
          · refine allOps_array ?_
            refine ⟨?_, ?_, ?_, ?_, ?_, ?_, ?_, ?_, ?_, ?_, ?_, ?_, ?_, ?_, ?_, ?_, ?_, ?_, ?_, ?_, ?_, trivial⟩
            · intro done g w' hS hu hdep _
              refine quietL hS 130 rfl (by show (0 : Nat) ≠ 18; decide) (by show (0 : Nat) ≠ 19; decide) rfl ?_
              simp [go_sem, evalBy, rhoO, lzCv]
            · intro done g w' hS hu hdep _
              have h1 := (hS.cell (o := 0) lbz nbz).trans cz0
              refine quietL hS 131 rfl (by show (1 : Nat) ≠ 18; decide) (by show (1 : Nat) ≠ 19; decide) rfl ?_
              simp [go_sem, evalBy, rhoO, lzCv, h1]
            · intro done g w' hS hu hdep _
              refine quietL hS 132 rfl (by show (2 : Nat) ≠ 18; decide) (by show (2 : Nat) ≠ 19; decide) rfl ?_
              simp [go_sem, evalBy, rhoO, lzCv]
            · intro done g w' hS hu hdep _
              have h1 := (hS.cell (o := 0) ltb ntz).trans ct0
              refine quietL hS 133 rfl (by show (3 : Nat) ≠ 18; decide) (by show (3 : Nat) ≠ 19; decide) rfl ?_
              simp [go_sem, evalBy, rhoO, lzCv, h1]
            · intro done g w' hS hu hdep _
              refine quietL hS 134 rfl (by show (4 : Nat) ≠ 18; decide) (by show (4 : Nat) ≠ 19; decide) rfl ?_
              simp [go_sem, evalBy, rhoO, lzCv]
            · intro done g w' hS hu hdep _
              refine quietL hS 135 rfl (by show (5 : Nat) ≠ 18; decide) (by show (5 : Nat) ≠ 19; decide) rfl ?_
              simp [go_sem, evalBy, rhoO, lzCv]
            · intro done g w' hS hu hdep _
              have h1 := (hS.cell (o := 1) ltb ntz).trans ct1
              refine quietL hS 136 rfl (by show (6 : Nat) ≠ 18; decide) (by show (6 : Nat) ≠ 19; decide) rfl ?_
              simp [go_sem, evalBy, rhoO, lzCv, h1]
            · intro done g w' hS hu hdep _
              refine quietL hS 137 rfl (by show (7 : Nat) ≠ 18; decide) (by show (7 : Nat) ≠ 19; decide) rfl ?_
              simp [go_sem, evalBy, rhoO, lzCv]
            · intro done g w' hS hu hdep _
              refine quietL hS 138 rfl (by show (8 : Nat) ≠ 18; decide) (by show (8 : Nat) ≠ 19; decide) rfl ?_
              simp [go_sem, evalBy, rhoO, lzCv, WL]
            · intro done g w' hS hu hdep _
              refine quietL hS 139 rfl (by show (9 : Nat) ≠ 18; decide) (by show (9 : Nat) ≠ 19; decide) rfl ?_
              simp [go_sem, evalBy, rhoO, lzCv]
            · intro done g w' hS hu hdep _
              refine quietL hS 140 rfl (by show (10 : Nat) ≠ 18; decide) (by show (10 : Nat) ≠ 19; decide) rfl ?_
              simp [go_sem, evalBy, rhoO, lzCv]
            · intro done g w' hS hu hdep _
              refine quietL hS 141 rfl (by show (11 : Nat) ≠ 18; decide) (by show (11 : Nat) ≠ 19; decide) rfl ?_
              simp [go_sem, evalBy, rhoO, lzCv]
            · intro done g w' hS hu hdep _
              have h1 := (hS.cell (o := 2) ltb ntz).trans ct2
              refine quietL hS 142 rfl (by show (12 : Nat) ≠ 18; decide) (by show (12 : Nat) ≠ 19; decide) rfl ?_
              simp [go_sem, evalBy, rhoO, lzCv, h1]
            · intro done g w' hS hu hdep _
              refine quietL hS 143 rfl (by show (13 : Nat) ≠ 18; decide) (by show (13 : Nat) ≠ 19; decide) rfl ?_
              simp [go_sem, evalBy, rhoO, lzCv]
            · intro done g w' hS hu hdep _
              refine quietL hS 144 rfl (by show (14 : Nat) ≠ 18; decide) (by show (14 : Nat) ≠ 19; decide) rfl ?_
              simp [go_sem, evalBy, rhoO, lzCv, WH]
            · intro done g w' hS hu hdep _
              refine quietL hS 145 rfl (by show (15 : Nat) ≠ 18; decide) (by show (15 : Nat) ≠ 19; decide) rfl ?_
              simp [go_sem, evalBy, rhoO, lzCv]
            · intro done g w' hS hu hdep _
              refine callL hS 146 rfl (by show (16 : Nat) ≠ 18; decide) (by show (16 : Nat) ≠ 19; decide) rfl 40 #[.int .i64 (min 1000 (l + k3)), .int .i64 (min 1000 (h + k3))] (by simp [go_sem, evalBy, rhoO, lzCv]) ?_
              exact span_any _ _ _
            · intro done g w' hS hu hdep _
              refine quietL hS 147 rfl (by show (17 : Nat) ≠ 18; decide) (by show (17 : Nat) ≠ 19; decide) rfl ?_
              simp [go_sem, evalBy, rhoO, lzCv]
            · intro done g w' hS hu hdep _
              refine buildL hS 148 rfl rfl rfl ?_ (fun _ => rfl) (fun t b' ht => rhoO_b t b' ht)
              simp [go_sem, evalBy, rhoO, lzCv]
            · intro done g w' hS hu hdep _
              exact appendL hS 149 rfl rfl hu (hdep ⟨18, .data⟩ (by simp) rfl) rfl 131 148 22 rfl rfl rfl j0 _ 24 Tryd.underlying22 J0.out JZ0.out JZ1.out JZ2.out rfl (by show 0 < 3; decide) rfl (by simp [Value.oneCell']) (by unfold maxLen; show k + 1 ≤ _; omega) (by show (k + 1) * 24 ≤ _; omega) (fun _ => rfl) (fun t c' ht => rhoO_c t c' ht)
            · intro done g w' hS hu hdep _
              refine quietL hS 150 rfl (by show (20 : Nat) ≠ 18; decide) (by show (20 : Nat) ≠ 19; decide) rfl ?_
              simp [go_sem, evalBy, rhoO, lzCv]
          · intro g2 wE hS
            have hA := SL.after hS (show 19 < _ by decide)
            have hg := hA.1
            have ho := hA.2.1
            have hf := hA.2.2
            clear hA
            have ME := Lib.hid (MC.out.stepZ hg ho hf)
            obtain ⟨az, nz, cz, ez⟩ := own_slice ho
            have zbE := (hg.block _ lbz nbz).trans MC.out.zb
            have z0 : wE.frozen? ⟨bz, 0, none⟩ = false := by simp [World.frozen?, zbE]
            have q0 := cell_of_row wE bz 0 _ 26 (0, 0) zbE
            simp at q0
            rw [ez] at ME
            clear hS hg ho hf zbE ct0 ct1 ct2 cz0 lbz nbz ltb ntz
            simp only [QT]
            unfold Oper.wp
            simp [go_sem, putAll, Act.put, rhoO, lzCv, ez, z0, q0]
            clear z0 q0 ez WL WH MC TC
            generalize wE.setCell ⟨bz, 0, none⟩ (Value.slice az nz cz) = wF at ME ⊢
            go_wp2_with fail
            refine ⟨⟨k + 1, by omega, by go_num, .slice ac nc cc, .slice az nz cz, ?_⟩, by simp [intOf]; omega⟩
            rw [RXk.out, RZk.out]
            exact ME.out
      · have he : n = k := by omega
        subst he
        have RXn : (ls.map (layX a b)).take n = ls.map (layX a b) := List.take_of_length_le (by rw [List.length_map, HL.out]; exact Nat.le_refl _)
        have RZn : (ls.map (layZ k3)).take n = ls.map (layZ k3) := List.take_of_length_le (by rw [List.length_map, HL.out]; exact Nat.le_refl _)
        rw [RXn, RZn] at MR
        clear RXn RZn
        have hk1 : ¬ ((n : Int) < (n : Int)) := by omega
        go_wp2_with fail
        clear p0 hk1 J0 JZ0 JZ1 JZ2
        obtain ⟨j1, hj1, jy0, jy1, jy2⟩ := info_parts yr_info
        have J1 := Lib.hid hj1; have JY0 := Lib.hid jy0; have JY1 := Lib.hid jy1; have JY2 := Lib.hid jy2
        clear hj1 jy0 jy1 jy2
        go_loopw [20, 21, 22] (fun ux uy i wt => ∃ k : Nat, k ≤ m ∧ i = .int .i64 k ∧ M1 w wt bx by_ bz #[.slice A n c, .int .i64 lo, .int .i64 hi] #[.slice A n c, .int .i64 yl, .int .i64 yh] (.int .i64 nl) (.int .i64 nh) (.int .i64 lo) (.int .i64 hi) vx vz n n ((ls.map (layX a b)).flatMap layRow) ((ls.map (layZ k3)).flatMap layRow) ∧
          wt.ownsRow w.heap.size 88 6 ux k (((ys.map (yrX a b)).take k).flatMap yrRow) ∧ wt.ownsRow w.heap.size 88 6 uy k (((ys.map (yrW k2)).take k).flatMap yrRow) ∧ ∀ B, ux.ownBlock = some B → uy.ownBlock ≠ some B) (fun _ _ i _ => m - (intOf i).toNat)
        case atStart => exact ⟨0, Nat.zero_le _, rfl, MR.out, World.ownsRow_nil _ _ _ _, World.ownsRow_nil _ _ _ _, fun B hB => by simp [Value.ownBlock] at hB⟩
        case round =>
          obtain ⟨k, hk, rfl, hM, hux, huy, hsp⟩ := hrel
          have MT := Lib.hid hM; have OX := Lib.hid hux; have OY := Lib.hid huy; have SP := Lib.hid hsp
          clear hM hux huy hsp MR
          have hm6 : (m : Int) ≤ 12 := by omega
          by_cases hlt2 : k < m
          · obtain ⟨y, hy⟩ := get_of_lt (l := ys) (k := k) (by rw [HY.out]; exact hlt2)
            obtain ⟨b2, u2, rfl, hb2, hc2⟩ := hY (by intro h; rw [h] at hy; simp at hy)
            obtain ⟨y0, y1, y2, y3, y4, y5⟩ := hc2 k y hy
            replace y0 := ((bcell MT.out.bel).1 _ _ hb2).trans y0
            replace y1 := ((bcell MT.out.bel).1 _ _ hb2).trans y1
            replace y2 := ((bcell MT.out.bel).1 _ _ hb2).trans y2
            replace y3 := ((bcell MT.out.bel).1 _ _ hb2).trans y3
            replace y4 := ((bcell MT.out.bel).1 _ _ hb2).trans y4
            replace y5 := ((bcell MT.out.bel).1 _ _ hb2).trans y5
            have EY := Lib.hid hy
            have yb := yrB_iff.1 (List.all_eq_true.1 V3.out y (List.mem_of_getElem? hy))
            clear hy hc2
            have hk0 : (0 : Int) ≤ (k : Int) := by omega
            have hk1 : (k : Int) < (m : Int) := by omega
            go_wp2_with fail
            have KX : Hid (((ys.map (yrX a b)).take (k + 1)).flatMap yrRow = ((ys.map (yrX a b)).take k).flatMap yrRow ++ [.int .i64 (nar y.sl y.sh a), .int .i64 (nar y.sl y.sh b), .int .i64 (nar y.wl y.wh a), .int .i64 (nar y.wl y.wh b), .int .i64 (nar y.nl y.nh a), .int .i64 (nar y.nl y.nh b)]) := Lib.hid (by
              rw [flat_take (f := yrRow) (x := yrX a b y) (by rw [List.getElem?_map, EY.out]; rfl)]; rfl)
            have KY : Hid (((ys.map (yrW k2)).take (k + 1)).flatMap yrRow = ((ys.map (yrW k2)).take k).flatMap yrRow ++ [.int .i64 y.sl, .int .i64 y.sh, .int .i64 y.wl, .int .i64 y.wh, .int .i64 (min 1000 (y.nl + k2)), .int .i64 (min 1000 (y.nh + k2))]) := Lib.hid (by
              rw [flat_take (f := yrRow) (x := yrW k2 y) (by rw [List.getElem?_map, EY.out]; rfl)]; rfl)
            obtain ⟨SX, hSX⟩ : ∃ z, ((ys.map (yrX a b)).take k).flatMap yrRow = z := ⟨_, rfl⟩
            obtain ⟨SY, hSY⟩ : ∃ z, ((ys.map (yrW k2)).take k).flatMap yrRow = z := ⟨_, rfl⟩
            rw [hSX] at OX KX
            rw [hSY] at OY KY
            clear hSX hSY
            have lbY := Nat.lt_of_lt_of_le hb2 MT.out.bel.size
            have nbY : some b2 ≠ u20.ownBlock := fun e => by have := (OX.out.lt _ e.symm).1; omega
            have lolow : w.heap.size ≤ wr.heap.size := MT.out.bel.size
            apply tail_region
            case hs => exact (rfl : _ = [_, _, _, _, _, _, _, _, _, _, _, _, _, _, _, _, _, _, _, _, _, _, _, _, _, _, _, _] ++ [_])
            case hm => kernel_rfl
            case hT => kernel_rfl
            refine plan_guarded_any (γ := GhE) [1, 2, 3, 20, 22] (rhoO 183 184 (yxCv b2 u2 k m c' u20 a b y.sl y.sh y.wl y.wh y.nl y.nh (nar y.sl y.sh a) (nar y.sl y.sh b) (nar y.wl y.wh a) (nar y.wl y.wh b) (nar y.nl y.nh a) (nar y.nl y.nh b))) (SL ⟨wr, w.heap.size, 88, 6, k, u20, SX, [.int .i64 (nar y.sl y.sh a), .int .i64 (nar y.sl y.sh b), .int .i64 (nar y.wl y.wh a), .int .i64 (nar y.wl y.wh b), .int .i64 (nar y.nl y.nh a), .int .i64 (nar y.nl y.nh b)], 26, 27⟩) ⟨fun _ => undef, fun _ => undef⟩ (by kernel_rfl) (by kernel_rfl) (by kernel_rfl) (by kernel_rfl) ?_ (SL.start OX.out lolow (by decide)) ?_ ?_
            · intro t ht
              simp only [List.mem_cons, List.not_mem_nil, or_false] at ht
              rcases ht with rfl | rfl | rfl | rfl | rfl <;> rfl
            · refine allOps_array ?_
              refine ⟨?_, ?_, ?_, ?_, ?_, ?_, ?_, ?_, ?_, ?_, ?_, ?_, ?_, ?_, ?_, ?_, ?_, ?_, ?_, ?_, ?_, ?_, ?_, ?_, ?_, ?_, ?_, ?_, trivial⟩
              · intro done g w'  hS hu hdep _
                refine quietL hS 157 rfl (by show (0 : Nat) ≠ 26; decide) (by show (0 : Nat) ≠ 27; decide) rfl ?_
                simp [go_sem, evalBy, rhoO, yxCv]
              · intro done g w'  hS hu hdep _
                refine quietL hS 158 rfl (by show (1 : Nat) ≠ 26; decide) (by show (1 : Nat) ≠ 27; decide) rfl ?_
                simp [go_sem, evalBy, rhoO, yxCv]
              · intro done g w'  hS hu hdep _
                refine quietL hS 159 rfl (by show (2 : Nat) ≠ 26; decide) (by show (2 : Nat) ≠ 27; decide) rfl ?_
                simp [go_sem, evalBy, rhoO, yxCv]
              · intro done g w'  hS hu hdep _
                refine quietL hS 160 rfl (by show (3 : Nat) ≠ 26; decide) (by show (3 : Nat) ≠ 27; decide) rfl ?_
                simp [go_sem, evalBy, rhoO, yxCv, hk0, hk1]
              · intro done g w'  hS hu hdep _
                refine quietL hS 161 rfl (by show (4 : Nat) ≠ 26; decide) (by show (4 : Nat) ≠ 27; decide) rfl ?_
                simp [go_sem, evalBy, rhoO, yxCv]
              · intro done g w'  hS hu hdep _
                have h0 := (hS.cell (o := u2 + k * 6) lbY nbY).trans y0
                have h1 := (hS.cell (o := u2 + k * 6 + 1) lbY nbY).trans y1
                refine quietL hS 162 rfl (by show (5 : Nat) ≠ 26; decide) (by show (5 : Nat) ≠ 27; decide) rfl ?_
                simp [go_sem, evalBy, rhoO, yxCv, h0, h1]
              · intro done g w'  hS hu hdep _
                refine quietL hS 163 rfl (by show (6 : Nat) ≠ 26; decide) (by show (6 : Nat) ≠ 27; decide) rfl ?_
                simp [go_sem, evalBy, rhoO, yxCv]
              · intro done g w'  hS hu hdep _
                refine quietL hS 164 rfl (by show (7 : Nat) ≠ 26; decide) (by show (7 : Nat) ≠ 27; decide) rfl ?_
                simp [go_sem, evalBy, rhoO, yxCv]
              · intro done g w'  hS hu hdep _
                refine callL hS 165 rfl (by show (8 : Nat) ≠ 26; decide) (by show (8 : Nat) ≠ 27; decide) rfl 47 #[.agg #[.int .i64 y.sl, .int .i64 y.sh], .int .i64 a, .int .i64 b] (by simp [go_sem, evalBy, rhoO, yxCv]) ?_
                exact narrow_any y.sl y.sh a b _ (by omega) (by omega) (by omega) (by omega) (by omega) (by omega) (by omega)
              · intro done g w'  hS hu hdep _
                refine quietL hS 166 rfl (by show (9 : Nat) ≠ 26; decide) (by show (9 : Nat) ≠ 27; decide) rfl ?_
                simp [go_sem, evalBy, rhoO, yxCv]
              · intro done g w'  hS hu hdep _
                refine quietL hS 167 rfl (by show (10 : Nat) ≠ 26; decide) (by show (10 : Nat) ≠ 27; decide) rfl ?_
                simp [go_sem, evalBy, rhoO, yxCv]
              · intro done g w'  hS hu hdep _
                refine quietL hS 168 rfl (by show (11 : Nat) ≠ 26; decide) (by show (11 : Nat) ≠ 27; decide) rfl ?_
                simp [go_sem, evalBy, rhoO, yxCv, hk0, hk1]
              · intro done g w'  hS hu hdep _
                refine quietL hS 169 rfl (by show (12 : Nat) ≠ 26; decide) (by show (12 : Nat) ≠ 27; decide) rfl ?_
                simp [go_sem, evalBy, rhoO, yxCv]
              · intro done g w'  hS hu hdep _
                have h2 := (hS.cell (o := u2 + k * 6 + 2) lbY nbY).trans y2
                have h3 := (hS.cell (o := u2 + k * 6 + 3) lbY nbY).trans y3
                refine quietL hS 170 rfl (by show (13 : Nat) ≠ 26; decide) (by show (13 : Nat) ≠ 27; decide) rfl ?_
                simp [go_sem, evalBy, rhoO, yxCv, h2, h3]
              · intro done g w'  hS hu hdep _
                refine quietL hS 171 rfl (by show (14 : Nat) ≠ 26; decide) (by show (14 : Nat) ≠ 27; decide) rfl ?_
                simp [go_sem, evalBy, rhoO, yxCv]
              · intro done g w'  hS hu hdep _
                refine quietL hS 172 rfl (by show (15 : Nat) ≠ 26; decide) (by show (15 : Nat) ≠ 27; decide) rfl ?_
                simp [go_sem, evalBy, rhoO, yxCv]
              · intro done g w'  hS hu hdep _
                refine callL hS 173 rfl (by show (16 : Nat) ≠ 26; decide) (by show (16 : Nat) ≠ 27; decide) rfl 47 #[.agg #[.int .i64 y.wl, .int .i64 y.wh], .int .i64 a, .int .i64 b] (by simp [go_sem, evalBy, rhoO, yxCv]) ?_
                exact narrow_any y.wl y.wh a b _ (by omega) (by omega) (by omega) (by omega) (by omega) (by omega) (by omega)
              · intro done g w'  hS hu hdep _
                refine quietL hS 174 rfl (by show (17 : Nat) ≠ 26; decide) (by show (17 : Nat) ≠ 27; decide) rfl ?_
                simp [go_sem, evalBy, rhoO, yxCv]
              · intro done g w'  hS hu hdep _
                refine quietL hS 175 rfl (by show (18 : Nat) ≠ 26; decide) (by show (18 : Nat) ≠ 27; decide) rfl ?_
                simp [go_sem, evalBy, rhoO, yxCv]
              · intro done g w'  hS hu hdep _
                refine quietL hS 176 rfl (by show (19 : Nat) ≠ 26; decide) (by show (19 : Nat) ≠ 27; decide) rfl ?_
                simp [go_sem, evalBy, rhoO, yxCv, hk0, hk1]
              · intro done g w'  hS hu hdep _
                refine quietL hS 177 rfl (by show (20 : Nat) ≠ 26; decide) (by show (20 : Nat) ≠ 27; decide) rfl ?_
                simp [go_sem, evalBy, rhoO, yxCv]
              · intro done g w'  hS hu hdep _
                have h4 := (hS.cell (o := u2 + k * 6 + 4) lbY nbY).trans y4
                have h5 := (hS.cell (o := u2 + k * 6 + 5) lbY nbY).trans y5
                refine quietL hS 178 rfl (by show (21 : Nat) ≠ 26; decide) (by show (21 : Nat) ≠ 27; decide) rfl ?_
                simp [go_sem, evalBy, rhoO, yxCv, h4, h5]
              · intro done g w'  hS hu hdep _
                refine quietL hS 179 rfl (by show (22 : Nat) ≠ 26; decide) (by show (22 : Nat) ≠ 27; decide) rfl ?_
                simp [go_sem, evalBy, rhoO, yxCv]
              · intro done g w'  hS hu hdep _
                refine quietL hS 180 rfl (by show (23 : Nat) ≠ 26; decide) (by show (23 : Nat) ≠ 27; decide) rfl ?_
                simp [go_sem, evalBy, rhoO, yxCv]
              · intro done g w'  hS hu hdep _
                refine callL hS 181 rfl (by show (24 : Nat) ≠ 26; decide) (by show (24 : Nat) ≠ 27; decide) rfl 47 #[.agg #[.int .i64 y.nl, .int .i64 y.nh], .int .i64 a, .int .i64 b] (by simp [go_sem, evalBy, rhoO, yxCv]) ?_
                exact narrow_any y.nl y.nh a b _ (by omega) (by omega) (by omega) (by omega) (by omega) (by omega) (by omega)
              · intro done g w'  hS hu hdep _
                refine quietL hS 182 rfl (by show (25 : Nat) ≠ 26; decide) (by show (25 : Nat) ≠ 27; decide) rfl ?_
                simp [go_sem, evalBy, rhoO, yxCv]
              · intro done g w'  hS hu hdep _
                refine buildL hS 183 rfl rfl rfl ?_ (fun _ => rfl) (fun t b' ht => rhoO_b t b' ht)
                simp [go_sem, evalBy, rhoO, yxCv]
              · intro done g w'  hS hu hdep _
                exact appendL hS 184 rfl rfl hu (hdep ⟨26, .data⟩ (by simp) rfl) rfl 157 183 27 rfl rfl rfl j1 _ 48 Tryd.underlying27 J1.out JY0.out JY1.out JY2.out rfl (by show 0 < 6; decide) rfl (by simp [Value.oneCell']) (by unfold maxLen; show k + 1 ≤ _; omega) (by show (k + 1) * 48 ≤ _; omega) (fun _ => rfl) (fun t c' ht => rhoO_c t c' ht)
            · intro g wC hS
              have hA := SL.after hS (show 27 < _ by decide)
              have hg := hA.1
              have ho := hA.2.1
              have hf := hA.2.2
              clear hA
              have MX := Lib.hid (MT.out.grow hg (fun B hB => ⟨(OX.out.lt _ hB).1, own_cells OX.out hB⟩))
              have OX2 := Lib.hid ho
              have OY2 := Lib.hid (own_of_blocks OY.out fun B hB => hg.block B (OY.out.lt _ hB).2 (fun e => SP.out B e.symm hB))
              have SP2 : Hid (∀ B, (g.c 0).ownBlock = some B → u21.ownBlock ≠ some B) := Lib.hid (fun B hB hy => by
                rcases hf with hf | ⟨B', hf, hle⟩
                · rw [hf] at hB
                  exact SP.out B hB hy
                · rw [hf] at hB
                  cases hB
                  have := (OY.out.lt _ hy).2
                  omega)
              replace y0 := (hS.cell (o := u2 + k * 6) lbY nbY).trans y0
              replace y1 := (hS.cell (o := u2 + k * 6 + 1) lbY nbY).trans y1
              replace y2 := (hS.cell (o := u2 + k * 6 + 2) lbY nbY).trans y2
              replace y3 := (hS.cell (o := u2 + k * 6 + 3) lbY nbY).trans y3
              replace y4 := (hS.cell (o := u2 + k * 6 + 4) lbY nbY).trans y4
              replace y5 := (hS.cell (o := u2 + k * 6 + 5) lbY nbY).trans y5
              simp only [QT]
              unfold Oper.wp
              simp [go_sem, putAll, Act.put, rhoO, yxCv]
              clear hS hg ho hf lbY nbY lolow OX OY SP
              obtain ⟨gx, hgx⟩ : ∃ z, g.c 0 = z := ⟨_, rfl⟩
              rw [hgx] at OX2 SP2 ⊢
              clear hgx
              go_wp2_with fail
              have WL : Value.int .i64 (IntKind.i64.wrap (y.nl + k2)) = Value.int .i64 (y.nl + k2) := congrArg _ (IntWalk.i64_in _ (by omega))
              have WH : Value.int .i64 (IntKind.i64.wrap (y.nh + k2)) = Value.int .i64 (y.nh + k2) := congrArg _ (IntWalk.i64_in _ (by omega))
              have lbY := Nat.lt_of_lt_of_le hb2 MX.out.bel.size
              have nbY : some b2 ≠ u21.ownBlock := fun e => by have := (OY2.out.lt _ e.symm).1; omega
              have lolow : w.heap.size ≤ wC.heap.size := MX.out.bel.size
              apply tail_region
              case hs => exact (rfl : _ = [_, _, _, _, _, _, _, _, _, _, _, _, _, _, _, _, _, _, _, _, _, _, _, _, _, _, _, _, _, _, _, _, _] ++ [_])
              case hm => kernel_rfl
              case hT => kernel_rfl
              refine plan_guarded_any (γ := GhE) [1, 5, 21, 22] (rhoO 216 217 (ytCv b2 u2 k m c' u21 k2 y.sl y.sh y.wl y.wh y.nl y.nh (min 1000 (y.nl + k2)) (min 1000 (y.nh + k2)))) (SL ⟨wC, w.heap.size, 88, 6, k, u21, SY, [.int .i64 y.sl, .int .i64 y.sh, .int .i64 y.wl, .int .i64 y.wh, .int .i64 (min 1000 (y.nl + k2)), .int .i64 (min 1000 (y.nh + k2))], 31, 32⟩) ⟨fun _ => undef, fun _ => undef⟩ (by kernel_rfl) (by kernel_rfl) (by kernel_rfl) (by kernel_rfl) ?_ (SL.start OY2.out lolow (by decide)) ?_ ?_
              · intro t ht
                simp only [List.mem_cons, List.not_mem_nil, or_false] at ht
                rcases ht with rfl | rfl | rfl | rfl <;> rfl
              · refine allOps_array ?_
                refine ⟨?_, ?_, ?_, ?_, ?_, ?_, ?_, ?_, ?_, ?_, ?_, ?_, ?_, ?_, ?_, ?_, ?_, ?_, ?_, ?_, ?_, ?_, ?_, ?_, ?_, ?_, ?_, ?_, ?_, ?_, ?_, ?_, ?_, trivial⟩
                · intro done g w'  hS hu hdep _
                  refine quietL hS 185 rfl (by show (0 : Nat) ≠ 31; decide) (by show (0 : Nat) ≠ 32; decide) rfl ?_
                  simp [go_sem, evalBy, rhoO, ytCv]
                · intro done g w'  hS hu hdep _
                  refine quietL hS 186 rfl (by show (1 : Nat) ≠ 31; decide) (by show (1 : Nat) ≠ 32; decide) rfl ?_
                  simp [go_sem, evalBy, rhoO, ytCv]
                · intro done g w'  hS hu hdep _
                  refine quietL hS 187 rfl (by show (2 : Nat) ≠ 31; decide) (by show (2 : Nat) ≠ 32; decide) rfl ?_
                  simp [go_sem, evalBy, rhoO, ytCv]
                · intro done g w'  hS hu hdep _
                  refine quietL hS 188 rfl (by show (3 : Nat) ≠ 31; decide) (by show (3 : Nat) ≠ 32; decide) rfl ?_
                  simp [go_sem, evalBy, rhoO, ytCv, hk0, hk1]
                · intro done g w'  hS hu hdep _
                  refine quietL hS 189 rfl (by show (4 : Nat) ≠ 31; decide) (by show (4 : Nat) ≠ 32; decide) rfl ?_
                  simp [go_sem, evalBy, rhoO, ytCv]
                · intro done g w'  hS hu hdep _
                  have h0 := (hS.cell (o := u2 + k * 6) lbY nbY).trans y0
                  have h1 := (hS.cell (o := u2 + k * 6 + 1) lbY nbY).trans y1
                  refine quietL hS 190 rfl (by show (5 : Nat) ≠ 31; decide) (by show (5 : Nat) ≠ 32; decide) rfl ?_
                  simp [go_sem, evalBy, rhoO, ytCv, h0, h1]
                · intro done g w'  hS hu hdep _
                  refine quietL hS 191 rfl (by show (6 : Nat) ≠ 31; decide) (by show (6 : Nat) ≠ 32; decide) rfl ?_
                  simp [go_sem, evalBy, rhoO, ytCv]
                · intro done g w'  hS hu hdep _
                  refine quietL hS 192 rfl (by show (7 : Nat) ≠ 31; decide) (by show (7 : Nat) ≠ 32; decide) rfl ?_
                  simp [go_sem, evalBy, rhoO, ytCv]
                · intro done g w'  hS hu hdep _
                  refine quietL hS 193 rfl (by show (8 : Nat) ≠ 31; decide) (by show (8 : Nat) ≠ 32; decide) rfl ?_
                  simp [go_sem, evalBy, rhoO, ytCv, hk0, hk1]
                · intro done g w'  hS hu hdep _
                  refine quietL hS 194 rfl (by show (9 : Nat) ≠ 31; decide) (by show (9 : Nat) ≠ 32; decide) rfl ?_
                  simp [go_sem, evalBy, rhoO, ytCv]
                · intro done g w'  hS hu hdep _
                  have h2 := (hS.cell (o := u2 + k * 6 + 2) lbY nbY).trans y2
                  have h3 := (hS.cell (o := u2 + k * 6 + 3) lbY nbY).trans y3
                  refine quietL hS 195 rfl (by show (10 : Nat) ≠ 31; decide) (by show (10 : Nat) ≠ 32; decide) rfl ?_
                  simp [go_sem, evalBy, rhoO, ytCv, h2, h3]
                · intro done g w'  hS hu hdep _
                  refine quietL hS 196 rfl (by show (11 : Nat) ≠ 31; decide) (by show (11 : Nat) ≠ 32; decide) rfl ?_
                  simp [go_sem, evalBy, rhoO, ytCv]
                · intro done g w'  hS hu hdep _
                  refine quietL hS 197 rfl (by show (12 : Nat) ≠ 31; decide) (by show (12 : Nat) ≠ 32; decide) rfl ?_
                  simp [go_sem, evalBy, rhoO, ytCv]
                · intro done g w'  hS hu hdep _
                  refine quietL hS 198 rfl (by show (13 : Nat) ≠ 31; decide) (by show (13 : Nat) ≠ 32; decide) rfl ?_
                  simp [go_sem, evalBy, rhoO, ytCv, hk0, hk1]
                · intro done g w'  hS hu hdep _
                  refine quietL hS 199 rfl (by show (14 : Nat) ≠ 31; decide) (by show (14 : Nat) ≠ 32; decide) rfl ?_
                  simp [go_sem, evalBy, rhoO, ytCv]
                · intro done g w'  hS hu hdep _
                  refine quietL hS 200 rfl (by show (15 : Nat) ≠ 31; decide) (by show (15 : Nat) ≠ 32; decide) rfl ?_
                  simp [go_sem, evalBy, rhoO, ytCv]
                · intro done g w'  hS hu hdep _
                  have h4 := (hS.cell (o := u2 + k * 6 + 4) lbY nbY).trans y4
                  refine quietL hS 201 rfl (by show (16 : Nat) ≠ 31; decide) (by show (16 : Nat) ≠ 32; decide) rfl ?_
                  simp [go_sem, evalBy, rhoO, ytCv, h4]
                · intro done g w'  hS hu hdep _
                  refine quietL hS 202 rfl (by show (17 : Nat) ≠ 31; decide) (by show (17 : Nat) ≠ 32; decide) rfl ?_
                  simp [go_sem, evalBy, rhoO, ytCv]
                · intro done g w'  hS hu hdep _
                  refine quietL hS 203 rfl (by show (18 : Nat) ≠ 31; decide) (by show (18 : Nat) ≠ 32; decide) rfl ?_
                  simp [go_sem, evalBy, rhoO, ytCv, WL]
                · intro done g w'  hS hu hdep _
                  refine quietL hS 204 rfl (by show (19 : Nat) ≠ 31; decide) (by show (19 : Nat) ≠ 32; decide) rfl ?_
                  simp [go_sem, evalBy, rhoO, ytCv]
                · intro done g w'  hS hu hdep _
                  refine quietL hS 205 rfl (by show (20 : Nat) ≠ 31; decide) (by show (20 : Nat) ≠ 32; decide) rfl ?_
                  simp [go_sem, evalBy, rhoO, ytCv]
                · intro done g w'  hS hu hdep _
                  refine quietL hS 206 rfl (by show (21 : Nat) ≠ 31; decide) (by show (21 : Nat) ≠ 32; decide) rfl ?_
                  simp [go_sem, evalBy, rhoO, ytCv]
                · intro done g w'  hS hu hdep _
                  refine quietL hS 207 rfl (by show (22 : Nat) ≠ 31; decide) (by show (22 : Nat) ≠ 32; decide) rfl ?_
                  simp [go_sem, evalBy, rhoO, ytCv, hk0, hk1]
                · intro done g w'  hS hu hdep _
                  refine quietL hS 208 rfl (by show (23 : Nat) ≠ 31; decide) (by show (23 : Nat) ≠ 32; decide) rfl ?_
                  simp [go_sem, evalBy, rhoO, ytCv]
                · intro done g w'  hS hu hdep _
                  refine quietL hS 209 rfl (by show (24 : Nat) ≠ 31; decide) (by show (24 : Nat) ≠ 32; decide) rfl ?_
                  simp [go_sem, evalBy, rhoO, ytCv]
                · intro done g w'  hS hu hdep _
                  have h5 := (hS.cell (o := u2 + k * 6 + 5) lbY nbY).trans y5
                  refine quietL hS 210 rfl (by show (25 : Nat) ≠ 31; decide) (by show (25 : Nat) ≠ 32; decide) rfl ?_
                  simp [go_sem, evalBy, rhoO, ytCv, h5]
                · intro done g w'  hS hu hdep _
                  refine quietL hS 211 rfl (by show (26 : Nat) ≠ 31; decide) (by show (26 : Nat) ≠ 32; decide) rfl ?_
                  simp [go_sem, evalBy, rhoO, ytCv]
                · intro done g w'  hS hu hdep _
                  refine quietL hS 212 rfl (by show (27 : Nat) ≠ 31; decide) (by show (27 : Nat) ≠ 32; decide) rfl ?_
                  simp [go_sem, evalBy, rhoO, ytCv, WH]
                · intro done g w'  hS hu hdep _
                  refine quietL hS 213 rfl (by show (28 : Nat) ≠ 31; decide) (by show (28 : Nat) ≠ 32; decide) rfl ?_
                  simp [go_sem, evalBy, rhoO, ytCv]
                · intro done g w'  hS hu hdep _
                  refine callL hS 214 rfl (by show (29 : Nat) ≠ 31; decide) (by show (29 : Nat) ≠ 32; decide) rfl 40 #[.int .i64 (min 1000 (y.nl + k2)), .int .i64 (min 1000 (y.nh + k2))] (by simp [go_sem, evalBy, rhoO, ytCv]) ?_
                  exact span_any _ _ _
                · intro done g w'  hS hu hdep _
                  refine quietL hS 215 rfl (by show (30 : Nat) ≠ 31; decide) (by show (30 : Nat) ≠ 32; decide) rfl ?_
                  simp [go_sem, evalBy, rhoO, ytCv]
                · intro done g w'  hS hu hdep _
                  refine buildL hS 216 rfl rfl rfl ?_ (fun _ => rfl) (fun t b' ht => rhoO_b t b' ht)
                  simp [go_sem, evalBy, rhoO, ytCv]
                · intro done g w'  hS hu hdep _
                  exact appendL hS 217 rfl rfl hu (hdep ⟨31, .data⟩ (by simp) rfl) rfl 185 216 27 rfl rfl rfl j1 _ 48 Tryd.underlying27 J1.out JY0.out JY1.out JY2.out rfl (by show 0 < 6; decide) rfl (by simp [Value.oneCell']) (by unfold maxLen; show k + 1 ≤ _; omega) (by show (k + 1) * 48 ≤ _; omega) (fun _ => rfl) (fun t c' ht => rhoO_c t c' ht)
              · intro g2 wE hS
                have hA := SL.after hS (show 32 < _ by decide)
                have hg := hA.1
                have ho := hA.2.1
                have hf := hA.2.2
                clear hA
                have ME := Lib.hid (MX.out.grow hg (fun B hB => ⟨(OY2.out.lt _ hB).1, own_cells OY2.out hB⟩))
                have OY3 := Lib.hid ho
                have OX3 := Lib.hid (own_of_blocks OX2.out fun B hB => hg.block B (OX2.out.lt _ hB).2 (fun e => SP2.out B hB e.symm))
                have SP3 : Hid (∀ B, gx.ownBlock = some B → (g2.c 0).ownBlock ≠ some B) := Lib.hid (fun B hB hy => by
                  rcases hf with hf | ⟨B', hf, hle⟩
                  · rw [hf] at hy
                    exact SP2.out B hB hy
                  · rw [hf] at hy
                    cases hy
                    have := (OX2.out.lt _ hB).2
                    omega)
                simp only [QT]
                unfold Oper.wp
                simp [go_sem, putAll, Act.put, rhoO, ytCv]
                clear hS hg ho hf lbY nbY lolow OX2 OY2 SP2 y0 y1 y2 y3 y4 y5
                go_wp2_with fail
                refine ⟨⟨k + 1, by omega, by go_num, ME.out, ?_, ?_, SP3.out⟩, by simp [intOf]; omega⟩
                · rw [KX.out]
                  exact OX3.out
                · rw [KY.out]
                  exact OY3.out
          · have he : m = k := by omega
            subst he
            have hk1 : ¬ ((m : Int) < (m : Int)) := by omega
            have e1 : (ys.map (yrX a b)).take m = ys.map (yrX a b) := List.take_of_length_le (by rw [List.length_map, HY.out]; exact Nat.le_refl _)
            have e2 : (ys.map (yrW k2)).take m = ys.map (yrW k2) := List.take_of_length_le (by rw [List.length_map, HY.out]; exact Nat.le_refl _)
            rw [e1] at OX
            rw [e2] at OY
            clear e1 e2
            obtain ⟨AX, cX, rfl, hcX, hlX⟩ := lays_of_own MT.out.ox (by rw [List.length_map]; exact HL.out)
            obtain ⟨AZ, cZ, rfl, hcZ, hlZ⟩ := lays_of_own MT.out.oz (by rw [List.length_map]; exact HL.out)
            obtain ⟨UX, uX, rfl, huX, hyX⟩ := yrs_of_own OX.out (by rw [List.length_map]; exact HY.out)
            obtain ⟨UY, uY, rfl, huY, hyY⟩ := yrs_of_own OY.out (by rw [List.length_map]; exact HY.out)
            have L0 := Lib.hid (hL.next MT.out.bel); have Y0 := Lib.hid (hY.next MT.out.bel)
            have LX := Lib.hid hlX; have LZ := Lib.hid hlZ; have YX := Lib.hid hyX; have YW := Lib.hid hyY
            have CX := Lib.hid hcX; have CZ := Lib.hid hcZ
            have EX : Hid (yearsI (ls.map (layX a b)) nl nh (ys.map (yrX a b)) = 0) := Lib.hid (years0 (by rw [List.length_map, HY.out]; exact M12) (by rw [← HNL.out, ← HNH.out]; exact placeX V2.out o1 o2 o3) (yearsX V3.out o1 o2 o3))
            have EY : Hid (yearsI ls yl yh (ys.map (yrW k2)) = 0) := Lib.hid (years0 (by rw [List.length_map, HY.out]; exact M12) (by rw [← HYL.out, ← HYH.out]; exact placeY V2.out o4) (yearsW V3.out o6))
            have EZ : Hid (yearsI (ls.map (layZ k3)) lo hi ys = 0) := Lib.hid (years0 (by rw [HY.out]; exact M12) (placeZ V2.out o8) V3.out)
            clear hlX hlZ hyX hyY hcX hcZ OX OY SP huX huY
            have M0 := MT
            clear MT
            have q0 := cell_of_row wr w.heap.size 0 _ 26 (0, 0) M0.out.pb
            have q1 := cell_of_row wr w.heap.size 1 _ 26 (0, 0) M0.out.pb
            have q2 := cell_of_row wr w.heap.size 2 _ 26 (0, 0) M0.out.pb
            simp at q0 q1 q2
            go_wp2_with fail
            clear q0 q1 q2
            refine (years_ok A A2 n c m c' ls ys lo hi wr HL.out HN.out HCAP.out L0.out HY.out HM.out Y0.out HR.out).mono ?_
            rintro e v1 ⟨B1, q1_, rfl, hs, hb⟩
            have S1 := Lib.hid hs
            have M1 := Lib.hid (M0.out.next hb)
            have L0 := Lib.hid (L0.out.next hb)
            have LX := Lib.hid (LX.out.next hb)
            have LZ := Lib.hid (LZ.out.next hb)
            have Y0 := Lib.hid (Y0.out.next hb)
            have YX := Lib.hid (YX.out.next hb)
            have YW := Lib.hid (YW.out.next hb)
            clear hs hb
            have q0 := cell_of_row v1 bx 0 _ 26 (0, 0) M1.out.xb
            have q1 := cell_of_row v1 bx 1 _ 26 (0, 0) M1.out.xb
            have q2 := cell_of_row v1 bx 2 _ 26 (0, 0) M1.out.xb
            simp at q0 q1 q2
            go_wp2_with fail
            clear q0 q1 q2
            refine (years_ok AX UX n cX m uX (ls.map (layX a b)) (ys.map (yrX a b)) nl nh v1 (by rw [List.length_map]; exact HL.out) HN.out CX.out LX.out (by rw [List.length_map]; exact HY.out) HM.out YX.out EX.out).mono ?_
            rintro e v2 ⟨B2, q2_, rfl, hs, hb⟩
            have S2 := Lib.hid hs
            have M2 := Lib.hid (M1.out.next hb)
            have S1 := Lib.hid ((S1.out.next_ hb))
            have L0 := Lib.hid (L0.out.next hb)
            have LX := Lib.hid (LX.out.next hb)
            have LZ := Lib.hid (LZ.out.next hb)
            have Y0 := Lib.hid (Y0.out.next hb)
            have YX := Lib.hid (YX.out.next hb)
            have YW := Lib.hid (YW.out.next hb)
            clear hs hb
            have q0 := cell_of_row v2 by_ 0 _ 26 (0, 0) M2.out.yb
            have q1 := cell_of_row v2 by_ 1 _ 26 (0, 0) M2.out.yb
            have q2 := cell_of_row v2 by_ 2 _ 26 (0, 0) M2.out.yb
            simp at q0 q1 q2
            go_wp2_with fail
            clear q0 q1 q2
            refine (years_ok A UY n c m uY ls (ys.map (yrW k2)) yl yh v2 HL.out HN.out HCAP.out L0.out (by rw [List.length_map]; exact HY.out) HM.out YW.out EY.out).mono ?_
            rintro e v3 ⟨B3, q3_, rfl, hs, hb⟩
            have S3 := Lib.hid hs
            have M3 := Lib.hid (M2.out.next hb)
            have S1 := Lib.hid ((S1.out.next_ hb))
            have S2 := Lib.hid ((S2.out.next_ hb))
            have L0 := Lib.hid (L0.out.next hb)
            have LX := Lib.hid (LX.out.next hb)
            have LZ := Lib.hid (LZ.out.next hb)
            have Y0 := Lib.hid (Y0.out.next hb)
            have YX := Lib.hid (YX.out.next hb)
            have YW := Lib.hid (YW.out.next hb)
            clear hs hb
            have q0 := cell_of_row v3 bz 0 _ 26 (0, 0) M3.out.zb
            have q1 := cell_of_row v3 bz 1 _ 26 (0, 0) M3.out.zb
            have q2 := cell_of_row v3 bz 2 _ 26 (0, 0) M3.out.zb
            simp at q0 q1 q2
            go_wp2_with fail
            clear q0 q1 q2
            refine (years_ok AZ A2 n cZ m c' (ls.map (layZ k3)) ys lo hi v3 (by rw [List.length_map]; exact HL.out) HN.out CZ.out LZ.out HY.out HM.out Y0.out EZ.out).mono ?_
            rintro e v4 ⟨B4, q4_, rfl, hs, hb⟩
            have S4 := Lib.hid hs
            have M4 := Lib.hid (M3.out.next hb)
            have S1 := Lib.hid ((S1.out.next_ hb))
            have S2 := Lib.hid ((S2.out.next_ hb))
            have S3 := Lib.hid ((S3.out.next_ hb))
            have L0 := Lib.hid (L0.out.next hb)
            have LX := Lib.hid (LX.out.next hb)
            have LZ := Lib.hid (LZ.out.next hb)
            have Y0 := Lib.hid (Y0.out.next hb)
            have YX := Lib.hid (YX.out.next hb)
            have YW := Lib.hid (YW.out.next hb)
            clear hs hb
            clear L0 LX LZ Y0 YX YW CX CZ M0 M1 M2 M3
            have HB := Lib.hid M4.out.bel
            clear M4
            go_wp2_with fail
            refine (fun (h : ∀ C : Code, C = bodyM3 → Code.wp Tryd.prog (Code.loop C) _ _ _) => h _ (by kernel_rfl)) ?_
            intro C hC
            subst hC
            refine loopM3_any A2 B1 B2 B3 B4 m q1_ q2_ q3_ q4_ c' _ _ _ _ v4 M12 S1.out S2.out S3.out S4.out ?_ ?_
            · intro k hk3
              have fb := more_b V2.out V3.out HY.out M12 o1 o2 o3 hk3
              rw [HNL.out, HNH.out] at fb
              have fc := more_c V2.out V3.out HY.out M12 o4 o6 false hk3
              have fe := more_c V2.out V3.out HY.out M12 o4 o6 true hk3
              rw [HYL.out, HYH.out] at fc fe
              have fd := more_d V2.out V3.out HY.out M12 o8 false hk3
              have ff := more_d V2.out V3.out HY.out M12 o8 true hk3
              simp only [sCold, sWarm] at fb
              refine ⟨_, _, _, _, seenI_get hk3, seenI_get hk3, seenI_get hk3, seenI_get hk3, ?_⟩
              unfold OrdS
              simp only [snI]
              omega
            · intro w9
              intros
              rename_i hb9
              have HE := Lib.hid (HB.out.trans (hb9.mono HB.out.size))
              clear hb9
              go_wp2_with fail
              refine (known_any _ (HT.out.next HE.out)).mono ?_
              rintro e w8 ⟨rfl, hb8⟩
              have HF := Lib.hid (HE.out.trans (hb8.mono HE.out.size))
              clear hb8
              go_wp2_with fail
              go_ret
              exact ⟨rfl, HF.out⟩
end Go.Proofs.YtccekbdhffccdaaDoor
