/- A place that is followed through all years of a truth, as the program goes through them. What holds of memory while the program puts a truth together. -/
import Derived.Test.YtccekbdhffccdaaDoorL
import Derived.LoopN
import Derived.Laws.EntriesVeiled
namespace Go.Proofs.YtccekbdhffccdaaDoor
open Go.RowKit Go.Shelf

structure St where
  R : Int
  Lf : Int
  In : Int
  Out : Int
  th : List Int
  lf : List Int
def st0 : St := ⟨0, 0, 0, 0, [], []⟩
def reachI (R X : Int) : Int := if R < X then X else R
def letsI (wi sn mo : Int) : Int := wi * (1000 - sn) / 1000 + mo
/-- What the heat of a summer, and the heat that a winter lets go out, make of the ground. -/
def stepS (ls : List Lay) (ms : List Int) (s : St) (heat lets : Int) : St :=
  if s.Lf + heat ≤ lets then ⟨0, 0, s.In + heat, s.Out + (s.Lf + heat), s.th ++ [depthF ls ms (reachI s.R (s.Lf + heat))], s.lf ++ [0]⟩
  else ⟨reachI s.R (s.Lf + heat), s.Lf + heat - lets, s.In + heat, s.Out + lets, s.th ++ [depthF ls ms (reachI s.R (s.Lf + heat))], s.lf ++ [s.Lf + heat - lets]⟩
theorem step_eq (ls : List Lay) (ms : List Int) (s : St) (heat lets : Int) : stepS ls ms s heat lets =
    ⟨if s.Lf + heat ≤ lets then 0 else reachI s.R (s.Lf + heat), if s.Lf + heat ≤ lets then 0 else s.Lf + heat - lets, s.In + heat, if s.Lf + heat ≤ lets then s.Out + (s.Lf + heat) else s.Out + lets,
      s.th ++ [depthF ls ms (reachI s.R (s.Lf + heat))], s.lf ++ [if s.Lf + heat ≤ lets then 0 else s.Lf + heat - lets]⟩ := by
  unfold stepS
  split <;> simp [*]
structure Tru where
  ms : List Int
  ws : List Int
  ss : List Int
  vs : List Int
  ns : List Int
def at0 (l : List Int) (k : Nat) : Int := l[k]?.getD 0
def runS (ls : List Lay) (t : Tru) (mo : Int) : Nat → St
  | 0 => st0
  | k + 1 => stepS ls t.ms (runS ls t mo k) (at0 t.ws k + at0 t.ss k) (letsI (at0 t.vs k) (at0 t.ns k) mo)
structure TruOk (t : Tru) (L N : Nat) : Prop where
  lm : t.ms.length = L
  lw : t.ws.length = N
  lS : t.ss.length = N
  lv : t.vs.length = N
  ln : t.ns.length = N
  bm : ∀ x ∈ t.ms, 1 ≤ x ∧ x ≤ 1000
  bw : ∀ x ∈ t.ws, 0 ≤ x ∧ x ≤ 1000000
  bS : ∀ x ∈ t.ss, 0 ≤ x ∧ x ≤ 1000000
  bv : ∀ x ∈ t.vs, 0 ≤ x ∧ x ≤ 1000000
  bn : ∀ x ∈ t.ns, 0 ≤ x ∧ x ≤ 1000
theorem at0_mem {l : List Int} {k : Nat} (h : k < l.length) : l[k]? = some (at0 l k) ∧ at0 l k ∈ l := by
  obtain ⟨x, hx⟩ := get_of_lt h
  have : at0 l k = x := by simp [at0, hx]
  exact ⟨by rw [this]; exact hx, by rw [this]; exact List.mem_of_getElem? hx⟩
theorem letsI_b {wi sn mo : Int} (h1 : 0 ≤ wi ∧ wi ≤ 1000000) (h2 : 0 ≤ sn ∧ sn ≤ 1000) (h3 : 0 ≤ mo ∧ mo ≤ 1000000) : 0 ≤ letsI wi sn mo ∧ letsI wi sn mo ≤ 2000000 := by
  have hp0 : 0 ≤ wi * (1000 - sn) := Int.mul_nonneg h1.1 (by omega)
  have hp1 : wi * (1000 - sn) ≤ 1000000000 := Int.le_trans (Int.mul_le_mul h1.2 (show 1000 - sn ≤ 1000 by omega) (by omega) (by omega)) (by decide)
  unfold letsI
  omega
theorem runS_b {ls : List Lay} {t : Tru} {mo : Int} {L N : Nat} (h : TruOk t L N) (hm : 0 ≤ mo ∧ mo ≤ 1000000) : ∀ k, k ≤ N → 
    (0 ≤ (runS ls t mo k).R ∧ (runS ls t mo k).R ≤ 2000000 * k) ∧ (0 ≤ (runS ls t mo k).Lf ∧ (runS ls t mo k).Lf ≤ 2000000 * k) ∧ (0 ≤ (runS ls t mo k).In ∧ (runS ls t mo k).In ≤ 2000000 * k) ∧
    (0 ≤ (runS ls t mo k).Out ∧ (runS ls t mo k).Out ≤ 2000000 * k) ∧ (runS ls t mo k).th.length = k ∧ (runS ls t mo k).lf.length = k ∧ (runS ls t mo k).Out + (runS ls t mo k).Lf = (runS ls t mo k).In := by
  intro k
  induction k with
  | zero => intro _; simp [runS, st0]
  | succ k ih =>
    intro hk
    obtain ⟨⟨a1, a2⟩, ⟨b1, b2⟩, ⟨c1, c2⟩, ⟨d1, d2⟩, e1, e2, e3⟩ := ih (by omega)
    have w1 := h.bw _ (at0_mem (l := t.ws) (k := k) (by rw [h.lw]; omega)).2
    have s1 := h.bS _ (at0_mem (l := t.ss) (k := k) (by rw [h.lS]; omega)).2
    have v1 := h.bv _ (at0_mem (l := t.vs) (k := k) (by rw [h.lv]; omega)).2
    have n1 := h.bn _ (at0_mem (l := t.ns) (k := k) (by rw [h.ln]; omega)).2
    have hl := letsI_b v1 n1 hm
    generalize hh : letsI (at0 t.vs k) (at0 t.ns k) mo = lets at hl
    generalize hq : at0 t.ws k + at0 t.ss k = heat
    have hb : 0 ≤ heat ∧ heat ≤ 2000000 := by omega
    generalize hr : runS ls t mo k = s at *
    have hX : 0 ≤ reachI s.R (s.Lf + heat) ∧ reachI s.R (s.Lf + heat) ≤ 2000000 * (k + 1) := by unfold reachI; split <;> omega
    simp only [runS, hr, hh, hq, stepS]
    split <;> simp [e1, e2] <;> omega
theorem winter_any (g bw ow cw bs os cs N y n base : Nat) (W S R Lf Out mo : Int) (lv v0 v1 v2 v3 v4 v5 v11 v13 : Value) (xs : List Value) (w : World)
    (hF : FB w g #[v0, v1, v2, v3, v4, v5, .slice (some ⟨bw, ow, none⟩) N cw, .slice (some ⟨bs, os, none⟩) N cs, .int .i64 mo, .int .i64 R, .int .i64 Lf, v11, .int .i64 Out, v13, lv])
    (hy : y < N) (hbw : bw < w.heap.size) (hbs : bs < w.heap.size) (gbw : bw ≠ g) (gbs : bs ≠ g)
    (cW : w.cell? ⟨bw, ow + y, none⟩ = some (.int .i64 W)) (cS : w.cell? ⟨bs, os + y, none⟩ = some (.int .i64 S)) (hW : 0 ≤ W ∧ W ≤ 1000000) (hS : 0 ≤ S ∧ S ≤ 1000) (hmo : 0 ≤ mo ∧ mo ≤ 1000000) (hLf : 0 ≤ Lf ∧ Lf ≤ 100000000) (hOut : 0 ≤ Out ∧ Out ≤ 100000000)
    (hown : w.ownsRow base 3 1 lv n xs) (hn : n ≤ 20) (hbase : base ≤ w.heap.size) :
    Calls Tryd.prog 87 #[.pointer (some ⟨g, 0, none⟩), .int .i64 (y : Int)] w
      (WinterPost w base g n lv v0 v1 v2 v3 v4 v5 (.slice (some ⟨bw, ow, none⟩) N cw) (.slice (some ⟨bs, os, none⟩) N cs) (.int .i64 mo) v11 v13 xs
        (if Lf ≤ letsI W S mo then 0 else R) (if Lf ≤ letsI W S mo then 0 else Lf - letsI W S mo) (if Lf ≤ letsI W S mo then Out + Lf else Out + letsI W S mo)) := by
  have hl : letsI W S mo = W * (1000 - S) / 1000 + mo := rfl
  rcases Int.lt_trichotomy Lf (W * (1000 - S) / 1000 + mo) with h | h | h
  · rw [hl, if_pos (by omega), if_pos (by omega), if_pos (by omega)]
    exact winter_cold g bw ow cw bs os cs N y n base W S R Lf Out mo lv v0 v1 v2 v3 v4 v5 v11 v13 xs w hF hy hbw hbs gbw gbs cW cS hW hS hmo hLf hOut hown hn hbase h
  · subst h
    rw [hl, if_pos (by omega), if_pos (by omega), if_pos (by omega)]
    exact winter_even g bw ow cw bs os cs N y n base W S R Out mo lv v0 v1 v2 v3 v4 v5 v11 v13 xs w hF hy hbw hbs gbw gbs cW cS hW hS hmo hLf hOut hown hn hbase
  · rw [hl, if_neg (by omega), if_neg (by omega), if_neg (by omega)]
    exact winter_warm g bw ow cw bs os cs N y n base W S R Lf Out mo lv v0 v1 v2 v3 v4 v5 v11 v13 xs w hF hy hbw hbs gbw gbs cW cS hW hS hmo hLf hOut hown hn hbase h

def ints (l : List Int) : List Value := l.map (Value.int .i64)
/-- What a call of follow leaves. -/
def FolPost (w : World) (N : Nat) (v0 v1 v2 v3 v4 v5 v6 v7 v8 : Value) (s : St) (e : Ending) (w' : World) : Prop :=
  ∃ (g : Nat) (tv lv : Value), e = .returned (.pointer (some ⟨g, 0, none⟩)) ∧ FB w' g #[v0, v1, v2, v3, v4, v5, v6, v7, v8, .int .i64 s.R, .int .i64 s.Lf, .int .i64 s.In, .int .i64 s.Out, tv, lv] ∧
    w'.ownsRow w.heap.size 3 1 tv N (ints s.th) ∧ w'.ownsRow w.heap.size 3 1 lv N (ints s.lf) ∧ Below w.heap.size w w' ∧ w.heap.size ≤ g


abbrev seasV (g : Nat) : Array Value := #[.func (.func 86) #[.pointer (some ⟨g, 0, none⟩)] #[], .func (.func 87) #[.pointer (some ⟨g, 0, none⟩)] #[]]
/-- What holds of memory while a place is followed. -/
structure FI (w wr : World) (v0 v1 v2 v3 v4 v5 v6 v7 v8 : Value) (s : St) (k1 k2 : Nat) (tv lv : Value) : Prop where
  fb : FB wr (w.heap.size + 1 + 1) #[v0, v1, v2, v3, v4, v5, v6, v7, v8, .int .i64 s.R, .int .i64 s.Lf, .int .i64 s.In, .int .i64 s.Out, tv, lv]
  own1 : wr.ownsRow w.heap.size 3 1 tv k1 (ints s.th)
  own2 : wr.ownsRow w.heap.size 3 1 lv k2 (ints s.lf)
  ne : ∀ b, tv.ownBlock = some b → lv.ownBlock ≠ some b
  bel : Below w.heap.size w wr
  arr : wr.heap[w.heap.size + 1 + 1 + 1]? = some (.cells (seasV (w.heap.size + 1 + 1)) 134 (0, 0))
theorem arr_ne {w : World} {g8 : Nat} {cs : Array Value} (h : w.heap[g8]? = some (.cells cs 134 (0, 0))) {base size n : Nat} {v : Value} {xs : List Value} (ho : w.ownsRow base 3 size v n xs) : v.ownBlock ≠ some g8 := by
  rcases ho.2 with ⟨rfl, _⟩ | ⟨g', cap, cur, rfl, _, hh, _⟩
  · simp [Value.ownBlock]
  · intro he
    have : g' = g8 := by simpa [Value.ownBlock] using he
    subst this
    rw [hh] at h
    injection h with h
    injection h with _ ht
    exact absurd ht (by decide)
theorem ints_snoc (l : List Int) (x : Int) : ints (l ++ [x]) = ints l ++ [.int .i64 x] := by simp [ints]
theorem frm_below {w wr w2 : World} {g : Nat} {row : Option Nat} (h : Below w.heap.size w wr) (hf : Frm wr.heap.size g row wr w2) (hg : w.heap.size ≤ g) (hr : ∀ k, row = some k → w.heap.size ≤ k) : Below w.heap.size w w2 :=
  h.trans (hf.below h.size hg hr)

theorem FI.summer {w wr w2 : World} {v0 v1 v2 v3 v4 v5 v6 v7 v8 : Value} {s : St} {k1 k2 : Nat} {tv lv : Value} {R Lf In d : Int} {e : Ending} (h : FI w wr v0 v1 v2 v3 v4 v5 v6 v7 v8 s k1 k2 tv lv)
    (hp : SummerPost wr w.heap.size (w.heap.size + 1 + 1) k1 tv v0 v1 v2 v3 v4 v5 v6 v7 v8 (.int .i64 s.Out) lv (ints s.th) R Lf In d e w2) : e = .returned (.tuple #[]) ∧ ∃ tv', FI w w2 v0 v1 v2 v3 v4 v5 v6 v7 v8 ⟨R, Lf, In, s.Out, s.th ++ [d], s.lf⟩ (k1 + 1) k2 tv' lv := by
  obtain ⟨rfl, gt, cap, hfb, ho, hf, hat⟩ := hp
  refine ⟨rfl, _, hfb, by rw [ints_snoc]; exact ho, own_frm h.own2 hf (h.fb.ne_row h.own2) ?_, ?_, frm_below h.bel hf (by omega) (fun k hk => (h.own1.lt k hk).1), ?_⟩
  · cases hl : lv.ownBlock with
    | none => exact .inl rfl
    | some b => exact .inr (fun e => h.ne b e.symm hl)
  · intro b hb he
    have hb' : gt = b := by simpa [Value.ownBlock] using hb
    subst hb'
    rcases hat with hat | hat
    · exact h.ne _ hat he
    · have := (h.own2.lt _ he).2
      omega
  · have hlt := (Array.getElem?_eq_some_iff.1 h.arr).1
    exact (hf.block _ hlt (by omega) (fun e => arr_ne h.arr h.own1 e.symm)).trans h.arr
theorem FI.winter {w wr w2 : World} {v0 v1 v2 v3 v4 v5 v6 v7 v8 : Value} {s : St} {k1 k2 : Nat} {tv lv : Value} {R Lf Out : Int} {e : Ending} (h : FI w wr v0 v1 v2 v3 v4 v5 v6 v7 v8 s k1 k2 tv lv)
    (hp : WinterPost wr w.heap.size (w.heap.size + 1 + 1) k2 lv v0 v1 v2 v3 v4 v5 v6 v7 v8 (.int .i64 s.In) tv (ints s.lf) R Lf Out e w2) : e = .returned (.tuple #[]) ∧ ∃ lv', FI w w2 v0 v1 v2 v3 v4 v5 v6 v7 v8 ⟨R, Lf, s.In, Out, s.th, s.lf ++ [Lf]⟩ k1 (k2 + 1) tv lv' := by
  obtain ⟨rfl, gt, cap, hfb, ho, hf, hat⟩ := hp
  refine ⟨rfl, _, hfb, own_frm h.own1 hf (h.fb.ne_row h.own1) ?_, by rw [ints_snoc]; exact ho, ?_, frm_below h.bel hf (by omega) (fun k hk => (h.own2.lt k hk).1), ?_⟩
  · cases hl : tv.ownBlock with
    | none => exact .inl rfl
    | some b => exact .inr (fun e => h.ne b hl e.symm)
  · intro b hb he
    have hb' : gt = b := by simpa [Value.ownBlock] using he
    subst hb'
    rcases hat with hat | hat
    · exact h.ne _ hb hat
    · have := (h.own1.lt _ hb).2
      omega
  · have hlt := (Array.getElem?_eq_some_iff.1 h.arr).1
    exact (hf.block _ hlt (by omega) (fun e => arr_ne h.arr h.own2 e.symm)).trans h.arr

set_option maxRecDepth 100000 in
set_option maxHeartbeats 4000000 in
theorem follow_any (bl ol c bm om L cm N cw cs cv cn : Nat) (AW AS AV AN : Option Addr) (ls : List Lay) (t : Tru) (lo hi mo : Int) (w : World)
    (hbl : bl < w.heap.size) (hbm : bm < w.heap.size) (hL : ls.length = L) (h1 : 1 ≤ L) (h6 : L ≤ 6) (hcap : L ≤ c) (ht : ∀ x ∈ ls, 1 ≤ x.t ∧ x.t ≤ 20000) (hT : TruOk t L N) (hN : N ≤ 12) (hmo : 0 ≤ mo ∧ mo ≤ 1000000)
    (c3 : ∀ i x, ls[i]? = some x → w.cell? ⟨bl, ol + i * 3, none⟩ = some (.int .i64 x.t) ∧ w.cell? ⟨bl, ol + i * 3 + 1, none⟩ = some (.int .i64 x.lo) ∧ w.cell? ⟨bl, ol + i * 3 + 2, none⟩ = some (.int .i64 x.hi))
    (c4 : ∀ i x, t.ms[i]? = some x → w.cell? ⟨bm, om + i, none⟩ = some (.int .i64 x))
    (iW : IntsAt w w.heap.size AW t.ws) (iS : IntsAt w w.heap.size AS t.ss) (iV : IntsAt w w.heap.size AV t.vs) (iN : IntsAt w w.heap.size AN t.ns) :
    Calls Tryd.prog 55 #[.agg #[.slice (some ⟨bl, ol, none⟩) L c, .int .i64 lo, .int .i64 hi], .agg #[.slice (some ⟨bm, om, none⟩) L cm, .slice AW N cw, .slice AS N cs, .slice AV N cv, .slice AN N cn], .int .i64 mo] w
      (FolPost w N (.slice (some ⟨bl, ol, none⟩) L c) (.int .i64 lo) (.int .i64 hi) (.slice (some ⟨bm, om, none⟩) L cm) (.slice AW N cw) (.slice AS N cs) (.slice AV N cv) (.slice AN N cn) (.int .i64 mo) (runS ls t mo N)) := by
  have HL := Lib.hid hL; clear hL
  have HT := Lib.hid ht; clear ht
  have HK := Lib.hid hT; clear hT
  have C3 := Lib.hid c3; clear c3
  have C4 := Lib.hid c4; clear c4
  have HMO := Lib.hid hmo; clear hmo
  have hFI : FI w ((((w.alloc (.cells #[.slice (some ⟨bl, ol, none⟩) L c, .int .i64 lo, .int .i64 hi] 26)).alloc (.cells #[.slice (some ⟨bm, om, none⟩) L cm, .slice AW N cw, .slice AS N cs, .slice AV N cv, .slice AN N cn] 41)).alloc (.cells #[.slice (some ⟨bl, ol, none⟩) L c, .int .i64 lo, .int .i64 hi, .slice (some ⟨bm, om, none⟩) L cm, .slice AW N cw, .slice AS N cs, .slice AV N cv, .slice AN N cn, .int .i64 mo, .int .i64 0, .int .i64 0, .int .i64 0, .int .i64 0, .slice none 0 0, .slice none 0 0] 103)).alloc (.cells (seasV (w.heap.size + 1 + 1)) 134)) (.slice (some ⟨bl, ol, none⟩) L c) (.int .i64 lo) (.int .i64 hi) (.slice (some ⟨bm, om, none⟩) L cm) (.slice AW N cw) (.slice AS N cs) (.slice AV N cv) (.slice AN N cn) (.int .i64 mo) st0 0 0 (.slice none 0 0) (.slice none 0 0) := by
    refine ⟨?_, World.ownsRow_nil _ _ _ _, World.ownsRow_nil _ _ _ _, fun b hb => by simp [Value.ownBlock] at hb, ?_, ?_⟩
    · have h0 := heap_alloc_new ((w.alloc (.cells #[.slice (some ⟨bl, ol, none⟩) L c, .int .i64 lo, .int .i64 hi] 26)).alloc (.cells #[.slice (some ⟨bm, om, none⟩) L cm, .slice AW N cw, .slice AS N cs, .slice AV N cv, .slice AN N cn] 41)) (.cells #[.slice (some ⟨bl, ol, none⟩) L c, .int .i64 lo, .int .i64 hi, .slice (some ⟨bm, om, none⟩) L cm, .slice AW N cw, .slice AS N cs, .slice AV N cv, .slice AN N cn, .int .i64 mo, .int .i64 0, .int .i64 0, .int .i64 0, .int .i64 0, .slice none 0 0, .slice none 0 0] 103)
      simp only [World.size_alloc] at h0
      exact (Below.heap_alloc _ _ _ (by simp)).trans h0
    · exact ((((Below.refl _ w).alloc (Nat.le_refl _) _).alloc (by simp) _).alloc (by simp; omega) _).alloc (by simp; omega) _
    · have h0 := heap_alloc_new (((w.alloc (.cells #[.slice (some ⟨bl, ol, none⟩) L c, .int .i64 lo, .int .i64 hi] 26)).alloc (.cells #[.slice (some ⟨bm, om, none⟩) L cm, .slice AW N cw, .slice AS N cs, .slice AV N cv, .slice AN N cn] 41)).alloc (.cells #[.slice (some ⟨bl, ol, none⟩) L c, .int .i64 lo, .int .i64 hi, .slice (some ⟨bm, om, none⟩) L cm, .slice AW N cw, .slice AS N cs, .slice AV N cv, .slice AN N cn, .int .i64 mo, .int .i64 0, .int .i64 0, .int .i64 0, .int .i64 0, .slice none 0 0, .slice none 0 0] 103)) (.cells (seasV (w.heap.size + 1 + 1)) 134)
      simp only [World.size_alloc] at h0
      exact h0
  have HFI := Lib.hid hFI; clear hFI
  have x0 : ∀ (p : Value) (W : World), (Instr.index 134 (.agg #[.func (.func 86) #[p] #[], .func (.func 87) #[p] #[]]) (.int .i64 0)).run Tryd.prog W = .ok (.func (.func 86) #[p] #[]) W := fun _ _ => by kernel_rfl
  have x1 : ∀ (p : Value) (W : World), (Instr.index 134 (.agg #[.func (.func 86) #[p] #[], .func (.func 87) #[p] #[]]) (.int .i64 1)).run Tryd.prog W = .ok (.func (.func 87) #[p] #[]) W := fun _ _ => by kernel_rfl
  go_enter Tryd.func55, Tryd.ntmps55
  go_wp2
  go_loopw [25] (fun i wr => ∃ (k : Nat) (tv lv : Value), k ≤ N ∧ i = .int .i64 k ∧ FI w wr (.slice (some ⟨bl, ol, none⟩) L c) (.int .i64 lo) (.int .i64 hi) (.slice (some ⟨bm, om, none⟩) L cm) (.slice AW N cw) (.slice AS N cs) (.slice AV N cv) (.slice AN N cn) (.int .i64 mo) (runS ls t mo k) k k tv lv) (fun i _ => N - (intOf i).toNat)
  case atStart => exact ⟨0, _, _, Nat.zero_le _, rfl, HFI.out⟩
  case round =>
    obtain ⟨k, tv, lv, hk, rfl, hI⟩ := hrel
    have HI := Lib.hid hI
    by_cases hlt : k < N
    · have harr := fun i => cell_of_row wr (w.heap.size + 1 + 1 + 1) i (seasV (w.heap.size + 1 + 1)) 134 (0, 0) hI.arr
      have a0 := harr 0
      have a1 := harr 1
      simp at a0 a1
      clear harr hI
      obtain ⟨gw, gw'⟩ := at0_mem (l := t.ws) (k := k) (by rw [HK.out.lw]; exact hlt)
      obtain ⟨gs, gs'⟩ := at0_mem (l := t.ss) (k := k) (by rw [HK.out.lS]; exact hlt)
      obtain ⟨gv, gv'⟩ := at0_mem (l := t.vs) (k := k) (by rw [HK.out.lv]; exact hlt)
      obtain ⟨gn, gn'⟩ := at0_mem (l := t.ns) (k := k) (by rw [HK.out.ln]; exact hlt)
      obtain ⟨bw, ow, rfl, hbw, cW⟩ := iW (by intro h; rw [h] at gw; simp at gw)
      obtain ⟨bs, os, rfl, hbs, cS⟩ := iS (by intro h; rw [h] at gs; simp at gs)
      obtain ⟨bv, ov, rfl, hbv, cV⟩ := iV (by intro h; rw [h] at gv; simp at gv)
      obtain ⟨bn, on, rfl, hbn, cN⟩ := iN (by intro h; rw [h] at gn; simp at gn)
      obtain ⟨⟨r1, r2⟩, ⟨l1, l2⟩, ⟨n1, n2⟩, ⟨o1, o2⟩, _, _, _⟩ := runS_b (ls := ls) HK.out HMO.out k hk
      have hz := HI.out.bel.size
      obtain ⟨q, q'⟩ := bcell HI.out.bel
      have hkN : (k : Int) ≤ 12 := by omega
      have hsum := summer_any (w.heap.size + 1 + 1) bl ol c bm om L cm bw ow cw bs os cs N k k w.heap.size ls t.ms (at0 t.ws k) (at0 t.ss k) (runS ls t mo k).R (runS ls t mo k).Lf (runS ls t mo k).In tv (.int .i64 lo) (.int .i64 hi)
        (.slice (some ⟨bv, ov, none⟩) N cv) (.slice (some ⟨bn, on, none⟩) N cn) (.int .i64 mo) (.int .i64 (runS ls t mo k).Out) lv (ints (runS ls t mo k).th) wr HI.out.fb hlt (by omega) (by omega) (by omega) (by omega) (by omega) (by omega) (by omega) (by omega)
        HL.out h1 h6 HK.out.lm hcap HT.out HK.out.bm (fun i x hi => ⟨(q _ _ hbl).trans (C3.out i x hi).1, (q _ _ hbl).trans (C3.out i x hi).2.1, (q _ _ hbl).trans (C3.out i x hi).2.2⟩) (fun i x hi => (q _ _ hbm).trans (C4.out i x hi))
        ((q _ _ hbw).trans (cW _ _ gw)) ((q _ _ hbs).trans (cS _ _ gs)) (HK.out.bw _ gw') (HK.out.bS _ gs') ⟨r1, by omega⟩ ⟨l1, by omega⟩ ⟨n1, by omega⟩ HI.out.own1 (by omega) (by omega)
      have HS := Lib.hid hsum
      have GV := Lib.hid gv; have GN := Lib.hid gn; have CV := Lib.hid cV; have CN := Lib.hid cN
      have GV' := Lib.hid gv'; have GN' := Lib.hid gn'; have GW' := Lib.hid gw'; have GS' := Lib.hid gs'
      clear hsum q q' gv gn cV cN gw gs cW cS gv' gn' gw' gs'
      go_wp2_with fail
      refine wp_loop_rounds 3 ?_
      rw [rounds_succ]
      go_wp2_with fail
      refine HS.out.mono ?_
      intro e w2 hp
      obtain ⟨rfl, tv2, hI2⟩ := HI.out.summer hp
      clear hp
      have HI2 := Lib.hid hI2; clear hI2
      go_wp2_with fail
      rw [rounds_succ]
      go_wp2_with fail
      obtain ⟨q, q'⟩ := bcell HI2.out.bel
      have hz2 := HI2.out.bel.size
      have b1 := HK.out.bw _ GW'.out
      have b2 := HK.out.bS _ GS'.out
      have hwin := winter_any (w.heap.size + 1 + 1) bv ov cv bn on cn N k k w.heap.size (at0 t.vs k) (at0 t.ns k) _ _ _ mo lv _ _ _ _ _ _ _ tv2 (ints (runS ls t mo k).lf) w2 HI2.out.fb hlt (by omega) (by omega) (by omega) (by omega)
        ((q _ _ hbv).trans (CV.out _ _ GV.out)) ((q _ _ hbn).trans (CN.out _ _ GN.out)) (HK.out.bv _ GV'.out) (HK.out.bn _ GN'.out) HMO.out ⟨by show 0 ≤ (runS ls t mo k).Lf + (at0 t.ws k + at0 t.ss k); omega, by show (runS ls t mo k).Lf + (at0 t.ws k + at0 t.ss k) ≤ _; omega⟩ ⟨o1, by show (runS ls t mo k).Out ≤ _; omega⟩ HI2.out.own2 (by omega) (by omega)
      clear q q' b1 b2
      refine hwin.mono ?_
      clear hwin
      intro e w3 hp
      obtain ⟨rfl, lv2, hI3⟩ := HI2.out.winter hp
      clear hp
      have HI3 := Lib.hid hI3; clear hI3
      go_wp2_with fail
      rw [rounds_succ]
      go_wp2_with fail
      go_roundw
      case rel => exact ⟨k + 1, tv2, lv2, by omega, by go_num, by rw [runS, step_eq]; exact HI3.out⟩
      case measure => simp [intOf]; omega
    · clear hI
      obtain rfl : k = N := by omega
      go_wp2
      go_ret
      exact ⟨_, tv, lv, rfl, HI.out.fb, HI.out.own1, HI.out.own2, HI.out.bel, by omega⟩
end Go.Proofs.YtccekbdhffccdaaDoor

namespace Go.Proofs.YtccekbdhffccdaaDoor
open Go.RowKit Go.Shelf

def nilV : Value := .slice none 0 0
/-- Block T is the five lists of a truth, each of which is the call's own. -/
structure EI (w wr : World) (pc : Array Value) (T : Nat) (vs : List Value) (xs : List (List Int)) : Prop where
  blk : wr.heap[T]? = some (.cells vs.toArray 41 (0, 0))
  own : ∀ (j : Nat) (v : Value) (l : List Int), vs[j]? = some v → xs[j]? = some l → wr.ownsRow w.heap.size 3 1 v l.length (ints l)
  ne : ∀ (i j : Nat) (v u : Value) (b : Nat), i ≠ j → vs[i]? = some v → vs[j]? = some u → v.ownBlock = some b → u.ownBlock ≠ some b
  bel : Below w.heap.size w wr
  hT : w.heap.size ≤ T
  len : vs.length = xs.length
  pb : wr.heap[w.heap.size]? = some (.cells pc 26 (0, 0))
  hTp : T ≠ w.heap.size
  rb : wr.heap[w.heap.size + 1]? = some (.cells #[nilV, nilV, nilV, nilV, nilV] 41 (0, 0))
  hTr : T ≠ w.heap.size + 1
theorem own41_ne {w : World} {T : Nat} {cs : Array Value} (h : w.heap[T]? = some (.cells cs 41 (0, 0))) {base size n : Nat} {v : Value} {xs : List Value} (ho : w.ownsRow base 3 size v n xs) : v.ownBlock ≠ some T := by
  rcases ho.2 with ⟨rfl, _⟩ | ⟨g', cap, cur, rfl, _, hh, _⟩
  · simp [Value.ownBlock]
  · intro he
    have : g' = T := by simpa [Value.ownBlock] using he
    subst this
    rw [hh] at h
    injection h with h
    injection h with _ ht
    exact absurd ht (by decide)
theorem own26_ne {w : World} {T : Nat} {cs : Array Value} (h : w.heap[T]? = some (.cells cs 26 (0, 0))) {base size n : Nat} {v : Value} {xs : List Value} (ho : w.ownsRow base 3 size v n xs) : v.ownBlock ≠ some T := by
  rcases ho.2 with ⟨rfl, _⟩ | ⟨g', cap, cur, rfl, _, hh, _⟩
  · simp [Value.ownBlock]
  · intro he
    have : g' = T := by simpa [Value.ownBlock] using he
    subst this
    rw [hh] at h
    injection h with h
    injection h with _ ht
    exact absurd ht (by decide)
theorem blk_set {w : World} {T : Nat} {vs : List Value} (h : w.heap[T]? = some (.cells vs.toArray 41 (0, 0))) (j : Nat) (u : Value) : (w.setCell ⟨T, j, none⟩ u).heap[T]? = some (.cells (vs.set j u).toArray 41 (0, 0)) := by
  simp [World.setCell, Array.getElem?_modify, h]
theorem EI.next {w wr w2 : World} {pc : Array Value} {T : Nat} {vs : List Value} {xs : List (List Int)} (h : EI w wr pc T vs xs) (hb : Below wr.heap.size wr w2) : EI w w2 pc T vs xs :=
  ⟨(hb.block T (Array.getElem?_eq_some_iff.1 h.blk).1).trans h.blk, fun j v l hv hl => own_next (h.own j v l hv hl) hb, h.ne, h.bel.trans (hb.mono h.bel.size), h.hT, h.len, (hb.block _ (Array.getElem?_eq_some_iff.1 h.pb).1).trans h.pb, h.hTp, (hb.block _ (Array.getElem?_eq_some_iff.1 h.rb).1).trans h.rb, h.hTr⟩
theorem EI.app {w wr w2 w3 : World} {pc : Array Value} {T : Nat} {vs : List Value} {xs : List (List Int)} (h : EI w wr pc T vs xs) {j gt cap : Nat} {v : Value} {l : List Int} {x : Int} {O : Obj} (hj : vs[j]? = some v) (hx : xs[j]? = some l)
    (hb : Below wr.heap.size wr w2) (hg : (w2.alloc O).grownBy w3 v.ownBlock) (ho : w3.ownsRow w.heap.size 3 1 (.slice (some ⟨gt, 0, none⟩) (l.length + 1) cap) (l.length + 1) (ints l ++ [.int .i64 x]))
    (hat : v.ownBlock = some gt ∨ gt = w2.heap.size + 1) :
    EI w (w3.setCell ⟨T, j, none⟩ (.slice (some ⟨gt, 0, none⟩) (l.length + 1) cap)) pc T (vs.set j (.slice (some ⟨gt, 0, none⟩) (l.length + 1) cap)) (xs.set j (l ++ [x])) := by
  have h2 := h.next hb
  have hT2 := (Array.getElem?_eq_some_iff.1 h2.blk).1
  have hb3 : w3.heap[T]? = some (.cells vs.toArray 41 (0, 0)) := (hg.block T (by simp; omega) (fun e => own41_ne h.blk (h.own j v l hj hx) e.symm)).trans ((Below.heap_alloc _ _ T hT2).trans h2.blk)
  have hjl : j < vs.length := (List.getElem?_eq_some_iff.1 hj).1
  have hjx : j < xs.length := (List.getElem?_eq_some_iff.1 hx).1
  have keep : ∀ {base n : Nat} {u : Value} {ys : List Value}, w3.ownsRow base 3 1 u n ys → (w3.setCell ⟨T, j, none⟩ (.slice (some ⟨gt, 0, none⟩) (l.length + 1) cap)).ownsRow base 3 1 u n ys := fun hu =>
    own_frm (row := some T) (g := T) hu (Frm.set_ _ j _) (own41_ne hb3 hu) (.inr (own41_ne hb3 hu))
  refine ⟨blk_set hb3 j _, ?_, ?_, ?_, h.hT, by simp [h.len], ?_, h.hTp, ?_, h.hTr⟩
  · intro i u m hu hm
    by_cases hij : i = j
    · subst hij
      rw [List.getElem?_set_self hjl] at hu
      rw [List.getElem?_set_self hjx] at hm
      injection hu with hu
      injection hm with hm
      subst hu hm
      rw [ints_snoc]
      simpa using keep ho
    · rw [List.getElem?_set_ne (by omega)] at hu hm
      refine keep (World.ownsRow.kept ((h2.own i u m hu hm).alloc O) hg ?_)
      cases hub : u.ownBlock with
      | none => exact .inl rfl
      | some b => exact .inr (fun e => h.ne i j u v b hij hu hj hub e.symm)
  · intro a b u u' c hab hu hu' hc
    by_cases ha : a = j
    · subst ha
      rw [List.getElem?_set_self hjl] at hu
      rw [List.getElem?_set_ne (by omega)] at hu'
      injection hu with hu
      subst hu
      have hc' : gt = c := by simpa [Value.ownBlock] using hc
      subst hc'
      intro e
      rcases hat with hat | hat
      · exact h.ne a b v u' _ hab hj hu' hat e
      · obtain ⟨lb, hlb⟩ := get_of_lt (l := xs) (k := b) (by rw [← h.len]; exact (List.getElem?_eq_some_iff.1 hu').1)
        have := ((h2.own b u' lb hu' hlb).lt _ e).2
        omega
    · rw [List.getElem?_set_ne (by omega)] at hu
      by_cases hb' : b = j
      · subst hb'
        rw [List.getElem?_set_self hjl] at hu'
        injection hu' with hu'
        subst hu'
        intro e
        have e' : gt = c := by simpa [Value.ownBlock] using e
        subst e'
        rcases hat with hat | hat
        · exact h.ne a b u v _ hab hu hj hc hat
        · obtain ⟨la, hla⟩ := get_of_lt (l := xs) (k := a) (by rw [← h.len]; exact (List.getElem?_eq_some_iff.1 hu).1)
          have := ((h2.own a u la hu hla).lt _ hc).2
          omega
      · rw [List.getElem?_set_ne (by omega)] at hu'
        exact h.ne a b u u' c hab hu hu' hc
  · have h5 : Below w.heap.size w (w2.alloc O) := h2.bel.alloc h2.bel.size O
    exact (h5.grown hg h5.size (fun k hk => ((h.own j v l hj hx).lt k hk).1)).setCell (p := ⟨T, j, none⟩) h.hT _
  · have hp2 := (Array.getElem?_eq_some_iff.1 h2.pb).1
    exact (Below.heap_setCell _ _ _ _ (by show w.heap.size ≠ T; exact fun e => h.hTp e.symm)).trans ((hg.block _ (by simp; omega) (fun e => own26_ne h.pb (h.own j v l hj hx) e.symm)).trans ((Below.heap_alloc _ _ _ hp2).trans h2.pb))
  · have hp2 := (Array.getElem?_eq_some_iff.1 h2.rb).1
    exact (Below.heap_setCell _ _ _ _ (by show w.heap.size + 1 ≠ T; exact fun e => h.hTr e.symm)).trans ((hg.block _ (by simp; omega) (fun e => own41_ne h.rb (h.own j v l hj hx) e.symm)).trans ((Below.heap_alloc _ _ _ hp2).trans h2.rb))
theorem own_slice {w : World} {base : Nat} {e : TypeId} {size n : Nat} {v : Value} {xs : List Value} (h : w.ownsRow base e size v n xs) : ∃ (a : Option Addr) (n c : Nat), v = .slice a n c := by
  rcases h.2 with ⟨rfl, _⟩ | ⟨g, cap, cur, rfl, _⟩
  · exact ⟨_, _, _, rfl⟩
  · exact ⟨_, _, _, rfl⟩
end Go.Proofs.YtccekbdhffccdaaDoor
