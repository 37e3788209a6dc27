/- What is known better, more heat, more snow, more ice: integers alone; and the small functions that make narrower spans. -/
import Derived.Test.YtccekbdhffccdaaDoorZJ
namespace Go.Proofs.YtccekbdhffccdaaDoor
open Go.RowKit Go.Shelf

def nar (lo hi a : Int) : Int := lo + (hi - lo) * a / 100
theorem nar_b {lo hi a b : Int} (h : lo ≤ hi) (h0 : 0 ≤ a) (hab : a ≤ b) (h1 : b ≤ 100) : lo ≤ nar lo hi a ∧ nar lo hi a ≤ nar lo hi b ∧ nar lo hi b ≤ hi := by
  have p0 : 0 ≤ (hi - lo) * a := Int.mul_nonneg (by omega) h0
  have p1 : (hi - lo) * a ≤ (hi - lo) * b := Int.mul_le_mul_of_nonneg_left hab (by omega)
  have p2 : (hi - lo) * b ≤ (hi - lo) * 100 := Int.mul_le_mul_of_nonneg_left h1 (by omega)
  unfold nar
  generalize (hi - lo) * a = x at *
  generalize (hi - lo) * b = y at *
  omega
def layX (a b : Int) (l : Lay) : Lay := ⟨l.t, nar l.lo l.hi a, nar l.lo l.hi b⟩
def layZ (k : Int) (l : Lay) : Lay := ⟨l.t, min 1000 (l.lo + k), min 1000 (l.hi + k)⟩
def yrX (a b : Int) (y : Yr) : Yr := ⟨nar y.sl y.sh a, nar y.sl y.sh b, nar y.wl y.wh a, nar y.wl y.wh b, nar y.nl y.nh a, nar y.nl y.nh b⟩
def yrW (k : Int) (y : Yr) : Yr := ⟨y.sl, y.sh, y.wl, y.wh, min 1000 (y.nl + k), min 1000 (y.nh + k)⟩

theorem layB_iff {l : Lay} : layB l = true ↔ (1 ≤ l.t ∧ l.t ≤ 20000) ∧ 1 ≤ l.lo ∧ l.lo ≤ l.hi ∧ l.hi ≤ 1000 := by
  simp [layB, inB, withinB_iff]
theorem yrB_iff {y : Yr} : yrB y = true ↔ (0 ≤ y.sl ∧ y.sl ≤ y.sh ∧ y.sh ≤ 1000000) ∧ (0 ≤ y.wl ∧ y.wl ≤ y.wh ∧ y.wh ≤ 1000000) ∧ 0 ≤ y.nl ∧ y.nl ≤ y.nh ∧ y.nh ≤ 1000 := by
  simp [yrB, withinB_iff]
theorem placeB_iff {ls : List Lay} {lo hi : Int} : placeB ls lo hi = true ↔ (1 ≤ ls.length ∧ ls.length ≤ 6) ∧ (0 ≤ lo ∧ lo ≤ hi ∧ hi ≤ 1000000) ∧ ∀ l ∈ ls, layB l = true := by
  simp [placeB, inB, withinB_iff]
  omega
section
variable {ls : List Lay} {lo hi : Int} {ys : List Yr} {a b k : Int}
theorem placeX (hp : placeB ls lo hi = true) (h0 : 0 ≤ a) (hab : a ≤ b) (h1 : b ≤ 100) : placeB (ls.map (layX a b)) (nar lo hi a) (nar lo hi b) = true := by
  rw [placeB_iff] at hp ⊢
  obtain ⟨hn, ⟨w0, w1, w2⟩, hl⟩ := hp
  have hw := nar_b w1 h0 hab h1
  refine ⟨by simpa using hn, by omega, fun l hm => ?_⟩
  obtain ⟨x, hx, rfl⟩ := List.mem_map.1 hm
  have := hl x hx
  rw [layB_iff] at this ⊢
  have hb := nar_b this.2.2.1 h0 hab h1
  simp only [layX]
  omega
theorem placeY (hp : placeB ls lo hi = true) (h0 : 0 ≤ k) : placeB ls (min 1000000 (lo + k)) (min 1000000 (hi + k)) = true := by
  rw [placeB_iff] at hp ⊢
  exact ⟨hp.1, by omega, hp.2.2⟩
theorem placeZ (hp : placeB ls lo hi = true) (h0 : 0 ≤ k) : placeB (ls.map (layZ k)) lo hi = true := by
  rw [placeB_iff] at hp ⊢
  refine ⟨by simpa using hp.1, hp.2.1, fun l hm => ?_⟩
  obtain ⟨x, hx, rfl⟩ := List.mem_map.1 hm
  have := hp.2.2 x hx
  rw [layB_iff] at this ⊢
  simp only [layZ]
  omega
theorem yearsX (hy : ys.all yrB = true) (h0 : 0 ≤ a) (hab : a ≤ b) (h1 : b ≤ 100) : (ys.map (yrX a b)).all yrB = true := by
  rw [List.all_eq_true] at hy ⊢
  intro y hm
  obtain ⟨x, hx, rfl⟩ := List.mem_map.1 hm
  have := hy x hx
  rw [yrB_iff] at this ⊢
  have b1 := nar_b this.1.2.1 h0 hab h1
  have b2 := nar_b this.2.1.2.1 h0 hab h1
  have b3 := nar_b this.2.2.2.1 h0 hab h1
  simp only [yrX]
  omega
theorem yearsW (hy : ys.all yrB = true) (h0 : 0 ≤ k) : (ys.map (yrW k)).all yrB = true := by
  rw [List.all_eq_true] at hy ⊢
  intro y hm
  obtain ⟨x, hx, rfl⟩ := List.mem_map.1 hm
  have := hy x hx
  rw [yrB_iff] at this ⊢
  simp only [yrW]
  omega
theorem years0 {ls : List Lay} {lo hi : Int} {ys : List Yr} (h12 : ys.length ≤ 12) (hp : placeB ls lo hi = true) (hy : ys.all yrB = true) : yearsI ls lo hi ys = 0 := yearsI_fine h12 hp hy
/-- What is warmer thaws deeper, and keeps more. -/
theorem runs_le {ls ls' : List Lay} {t t' : Tru} {N : Nat} (hl : ls.map (·.t) = ls'.map (·.t)) (h1 : 1 ≤ ls.length) (ht : ∀ x ∈ ls, 1 ≤ x.t) (hT : TruOk t ls.length N) (hT' : TruOk t' ls.length N) (hN : N ≤ 12) (hW : Warmer t t' N) {i : Nat} (hi : i < N) :
    at0 (runS ls t 0 N).th i ≤ at0 (runS ls' t' 0 N).th i ∧ at0 (runS ls t 0 N).lf i ≤ at0 (runS ls' t' 0 N).lf i :=
  (runS_mono (mo := 0) (mo' := 0) rfl hl h1 ht hT hT' hN ⟨by omega, by omega⟩ ⟨by omega, by omega⟩ (Int.le_refl _) hW N (Nat.le_refl _)).2.2 i hi
theorem at0_maps {α β : Type} {f : β → Int} {l : List α} {h : α → β} {i : Nat} {x : α} (hx : l[i]? = some x) : at0 ((l.map h).map f) i = f (h x) := at0_map (by simp [hx])
theorem warmer_of {L : List Lay} {Y : List Yr} {lo hi lo' hi' : Int} {e e' : Bool} {N : Nat} (f f' : Lay → Lay) (g g' : Yr → Yr) (hN : Y.length = N)
    (c1 : ∀ l ∈ L, (if e' then (f' l).lo else (f' l).hi) ≤ (if e then (f l).lo else (f l).hi)) (c2 : (if e then hi else lo) ≤ (if e' then hi' else lo'))
    (c3 : ∀ y ∈ Y, (if e then (g y).sh else (g y).sl) ≤ (if e' then (g' y).sh else (g' y).sl) ∧ (if e' then (g' y).wl else (g' y).wh) ≤ (if e then (g y).wl else (g y).wh) ∧ (if e then (g y).nh else (g y).nl) ≤ (if e' then (g' y).nh else (g' y).nl)) :
    Warmer (extT e (L.map f) lo hi (Y.map g)) (extT e' (L.map f') lo' hi' (Y.map g')) N := by
  subst hN
  refine ⟨?_, fun i hi_ => ?_, fun i hi_ => ?_, fun i hi_ => ?_, fun i hi_ => ?_⟩
  · show allLe ((L.map f').map fun l => if e' then l.lo else l.hi) ((L.map f).map fun l => if e then l.lo else l.hi)
    rw [List.map_map, List.map_map]
    exact allLe_map fun l hl => c1 l hl
  all_goals
    obtain ⟨y, hy⟩ := get_of_lt hi_
    have hm := c3 y (List.mem_of_getElem? hy)
  · show at0 ((Y.map g).map fun _ => if e then hi else lo) i ≤ at0 ((Y.map g').map fun _ => if e' then hi' else lo') i
    rw [at0_maps hy, at0_maps hy]
    exact c2
  · show at0 ((Y.map g).map fun y => if e then y.sh else y.sl) i ≤ at0 ((Y.map g').map fun y => if e' then y.sh else y.sl) i
    rw [at0_maps hy, at0_maps hy]
    exact hm.1
  · show at0 ((Y.map g').map fun y => if e' then y.wl else y.wh) i ≤ at0 ((Y.map g).map fun y => if e then y.wl else y.wh) i
    rw [at0_maps hy, at0_maps hy]
    exact hm.2.1
  · show at0 ((Y.map g).map fun y => if e then y.nh else y.nl) i ≤ at0 ((Y.map g').map fun y => if e' then y.nh else y.nl) i
    rw [at0_maps hy, at0_maps hy]
    exact hm.2.2
theorem map_id_lay (L : List Lay) : L.map (fun l => l) = L := by simp
theorem map_id_yr (L : List Yr) : L.map (fun l => l) = L := by simp
theorem lays_iff (hp : placeB ls lo hi = true) : (1 ≤ ls.length ∧ ∀ x ∈ ls, 1 ≤ x.t) ∧ (lo ≤ hi) ∧ ∀ x ∈ ls, x.lo ≤ x.hi := by
  rw [placeB_iff] at hp
  exact ⟨⟨hp.1.1, fun x hx => (layB_iff.1 (hp.2.2 x hx)).1.1⟩, hp.2.1.2.1, fun x hx => (layB_iff.1 (hp.2.2 x hx)).2.2.1⟩
theorem yrs_iff (hy : ys.all yrB = true) : ∀ y ∈ ys, y.sl ≤ y.sh ∧ y.wl ≤ y.wh ∧ y.nl ≤ y.nh := fun y hm => by
  have := yrB_iff.1 (List.all_eq_true.1 hy y hm)
  omega
/-- The seen years of a place. -/
abbrev sCold (ls : List Lay) (lo hi : Int) (ys : List Yr) (m : Nat) : St := runS ls (extT false ls lo hi ys) 0 m
abbrev sWarm (ls : List Lay) (lo hi : Int) (ys : List Yr) (m : Nat) : St := runS ls (extT true ls lo hi ys) 0 m
theorem more_b {m : Nat} (hp : placeB ls lo hi = true) (hy : ys.all yrB = true) (hm : ys.length = m) (h12 : m ≤ 12) (h0 : 0 ≤ a) (hab : a ≤ b) (h1 : b ≤ 100) {i : Nat} (hi_ : i < m) :
    (at0 (sCold ls lo hi ys m).th i ≤ at0 (sCold (ls.map (layX a b)) (nar lo hi a) (nar lo hi b) (ys.map (yrX a b)) m).th i ∧ at0 (sCold ls lo hi ys m).lf i ≤ at0 (sCold (ls.map (layX a b)) (nar lo hi a) (nar lo hi b) (ys.map (yrX a b)) m).lf i) ∧
    (at0 (sWarm (ls.map (layX a b)) (nar lo hi a) (nar lo hi b) (ys.map (yrX a b)) m).th i ≤ at0 (sWarm ls lo hi ys m).th i ∧ at0 (sWarm (ls.map (layX a b)) (nar lo hi a) (nar lo hi b) (ys.map (yrX a b)) m).lf i ≤ at0 (sWarm ls lo hi ys m).lf i) := by
  obtain ⟨⟨n1, nt⟩, hlo, hll⟩ := lays_iff hp
  have hyy := yrs_iff hy
  have hpX := placeX hp h0 hab h1
  have hyX := yearsX hy h0 hab h1
  obtain ⟨⟨_, ntX⟩, _, _⟩ := lays_iff hpX
  have hw := nar_b hlo h0 hab h1
  have ht : ls.map (·.t) = (ls.map (layX a b)).map (·.t) := by rw [List.map_map]; rfl
  have tk : ∀ e, TruOk (extT e ls lo hi ys) ls.length m := fun e => by have := extT_ok (lo := lo) (hi := hi) e hp hy; rw [hm] at this; exact this
  have tkX : ∀ e, TruOk (extT e (ls.map (layX a b)) (nar lo hi a) (nar lo hi b) (ys.map (yrX a b))) ls.length m := fun e => by
    have := extT_ok e hpX hyX
    rw [List.length_map, List.length_map, hm] at this
    exact this
  refine ⟨runs_le ht n1 nt (tk false) (tkX false) h12 ?_ hi_, runs_le (ls := ls.map (layX a b)) (ls' := ls) ht.symm (by simpa using n1) ntX (by simpa using tkX true) (by simpa using tk true) h12 ?_ hi_⟩
  · have := warmer_of (L := ls) (Y := ys) (lo := lo) (hi := hi) (lo' := nar lo hi a) (hi' := nar lo hi b) (e := false) (e' := false) (fun l => l) (layX a b) (fun y => y) (yrX a b) hm
      (fun l hl => by have := nar_b (hll l hl) h0 hab h1; simp [layX]; omega) (by simp; omega)
      (fun y hy' => by
        obtain ⟨q1, q2, q3⟩ := hyy y hy'
        have r1 := nar_b q1 h0 hab h1; have r2 := nar_b q2 h0 hab h1; have r3 := nar_b q3 h0 hab h1
        simp [yrX]; omega)
    rwa [map_id_lay, map_id_yr] at this
  · have := warmer_of (L := ls) (Y := ys) (lo := nar lo hi a) (hi := nar lo hi b) (lo' := lo) (hi' := hi) (e := true) (e' := true) (layX a b) (fun l => l) (yrX a b) (fun y => y) hm
      (fun l hl => by have := nar_b (hll l hl) h0 hab h1; simp [layX]; omega) (by simp; omega)
      (fun y hy' => by
        obtain ⟨q1, q2, q3⟩ := hyy y hy'
        have r1 := nar_b q1 h0 hab h1; have r2 := nar_b q2 h0 hab h1; have r3 := nar_b q3 h0 hab h1
        simp [yrX]; omega)
    rwa [map_id_lay, map_id_yr] at this
theorem more_c {m : Nat} {k2 : Int} (hp : placeB ls lo hi = true) (hy : ys.all yrB = true) (hm : ys.length = m) (h12 : m ≤ 12) (h0 : 0 ≤ k) (h2 : 0 ≤ k2) (e : Bool) {i : Nat} (hi_ : i < m) :
    at0 (runS ls (extT e ls lo hi ys) 0 m).th i ≤ at0 (runS ls (extT e ls (min 1000000 (lo + k)) (min 1000000 (hi + k)) (ys.map (yrW k2))) 0 m).th i ∧ at0 (runS ls (extT e ls lo hi ys) 0 m).lf i ≤ at0 (runS ls (extT e ls (min 1000000 (lo + k)) (min 1000000 (hi + k)) (ys.map (yrW k2))) 0 m).lf i := by
  obtain ⟨⟨n1, nt⟩, hlo, hll⟩ := lays_iff hp
  have hyy := fun y hy' => yrB_iff.1 (List.all_eq_true.1 hy y hy')
  have hpb := (placeB_iff.1 hp).2.1
  have tk : TruOk (extT e ls lo hi ys) ls.length m := by have := extT_ok (lo := lo) (hi := hi) e hp hy; rw [hm] at this; exact this
  have tkW : TruOk (extT e ls (min 1000000 (lo + k)) (min 1000000 (hi + k)) (ys.map (yrW k2))) ls.length m := by
    have := extT_ok e (placeY hp h0) (yearsW hy h2)
    rw [List.length_map, hm] at this
    exact this
  refine runs_le rfl n1 nt tk tkW h12 ?_ hi_
  have := warmer_of (L := ls) (Y := ys) (lo := lo) (hi := hi) (lo' := min 1000000 (lo + k)) (hi' := min 1000000 (hi + k)) (e := e) (e' := e) (fun l => l) (fun l => l) (fun y => y) (yrW k2) hm
    (fun l _ => Int.le_refl _) (by cases e <;> simp <;> omega)
    (fun y hy' => by have := hyy y hy'; cases e <;> simp [yrW] <;> omega)
  rwa [map_id_lay, map_id_yr] at this
theorem more_d {m : Nat} (hp : placeB ls lo hi = true) (hy : ys.all yrB = true) (hm : ys.length = m) (h12 : m ≤ 12) (h0 : 0 ≤ k) (e : Bool) {i : Nat} (hi_ : i < m) :
    at0 (runS (ls.map (layZ k)) (extT e (ls.map (layZ k)) lo hi ys) 0 m).th i ≤ at0 (runS ls (extT e ls lo hi ys) 0 m).th i := by
  obtain ⟨⟨n1, _⟩, hlo, hll⟩ := lays_iff hp
  have hpZ := placeZ hp h0
  obtain ⟨⟨_, ntZ⟩, _, _⟩ := lays_iff hpZ
  have hlb := fun l hl => layB_iff.1 ((placeB_iff.1 hp).2.2 l hl)
  have ht : (ls.map (layZ k)).map (·.t) = ls.map (·.t) := by rw [List.map_map]; rfl
  have tk : TruOk (extT e ls lo hi ys) ls.length m := by have := extT_ok (lo := lo) (hi := hi) e hp hy; rw [hm] at this; exact this
  have tkZ : TruOk (extT e (ls.map (layZ k)) lo hi ys) ls.length m := by
    have := extT_ok (lo := lo) (hi := hi) e hpZ hy
    rw [List.length_map, hm] at this
    exact this
  refine (runs_le (ls := ls.map (layZ k)) (ls' := ls) ht (by simpa using n1) ntZ (by simpa using tkZ) (by simpa using tk) h12 ?_ hi_).1
  have := warmer_of (L := ls) (Y := ys) (lo := lo) (hi := hi) (lo' := lo) (hi' := hi) (e := e) (e' := e) (layZ k) (fun l => l) (fun y => y) (fun y => y) hm
    (fun l hl => by have := hlb l hl; cases e <;> simp [layZ] <;> omega) (Int.le_refl _) (fun y _ => ⟨Int.le_refl _, Int.le_refl _, Int.le_refl _⟩)
  rwa [map_id_lay, map_id_yr] at this
end
end Go.Proofs.YtccekbdhffccdaaDoor
