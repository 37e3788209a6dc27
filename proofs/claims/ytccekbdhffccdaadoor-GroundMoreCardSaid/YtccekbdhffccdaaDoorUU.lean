/- The statement on warnings: whatever is true, the first year in which a depth is exceeded lies between the two that are told. The walk. -/
import Derived.Test.YtccekbdhffccdaaDoorSS
import Derived.Test.YtccekbdhffccdaaDoorMM
import Derived.Test.YtccekbdhffccdaaDoorTT
namespace Go.Proofs.YtccekbdhffccdaaDoor
open Go.RowKit

theorem firstI_le (d : Int) : ∀ l : List Int, firstI d l ≤ l.length
  | [] => Nat.le_refl _
  | x :: r => by
    have := firstI_le d r
    simp only [firstI, List.length_cons]
    split <;> omega
theorem firstI_mono (d : Int) : ∀ (l l' : List Int), l.length = l'.length → (∀ i, i < l.length → at0 l i ≤ at0 l' i) → firstI d l' ≤ firstI d l
  | [], [], _, _ => Nat.le_refl _
  | x :: r, y :: s, hl, h => by
    have h0 : x ≤ y := by simpa [at0] using h 0 (by simp)
    have := firstI_mono d r s (by simpa using hl) (fun i hi => by simpa [at0] using h (i + 1) (by simpa using hi))
    simp only [firstI]
    split <;> split <;> omega
theorem first_drop (d : Int) {l : List Int} {k : Nat} {x : Int} (h : l[k]? = some x) : firstI d (l.drop k) = if d < x then 0 else firstI d (l.drop (k + 1)) + 1 := by
  obtain ⟨hk, rfl⟩ := List.getElem?_eq_some_iff.1 h
  rw [List.drop_eq_getElem_cons hk]
  rfl
/-- While the years are gone through from the last one down. -/
def DownI (m : Nat) (d : Int) (th : List Int) (first i : Value) : Prop :=
  (∃ k : Nat, k < m ∧ i = .int .i64 (k : Int) ∧ first = .int .i64 ((k + 1 + firstI d (th.drop (k + 1)) : Nat) : Int)) ∨ (i = .int .i64 (-1) ∧ first = .int .i64 ((firstI d th : Nat) : Int))
theorem down_start {m : Nat} {d : Int} {th : List Int} (h : th.length = m) : DownI m d th (.int .i64 (m : Int)) (.int .i64 ((m : Int) - 1)) := by
  cases m with
  | zero =>
    have : th = [] := List.eq_nil_of_length_eq_zero h
    subst this
    exact .inr ⟨rfl, rfl⟩
  | succ m =>
    refine .inl ⟨m, by omega, by congr 1; omega, ?_⟩
    rw [List.drop_of_length_le (by omega)]
    rfl
theorem down_next {m k : Nat} {d x : Int} {th : List Int} (hk : k < m) (hx : th[k]? = some x) (f : Int) (hf : f = if d < x then (k : Int) else ((k + 1 + firstI d (th.drop (k + 1)) : Nat) : Int)) : DownI m d th (.int .i64 f) (.int .i64 ((k : Int) - 1)) := by
  have hd := first_drop d hx
  have e : f = ((k + firstI d (th.drop k) : Nat) : Int) := by
    rw [hf, hd]
    split <;> omega
  rw [e]
  cases k with
  | zero => exact .inr ⟨rfl, by simp⟩
  | succ k => exact .inl ⟨k, by omega, by congr 1; omega, rfl⟩

theorem fair_spec {ls : List Lay} {lo hi : Int} {ys : List Yr} {ms ws ss vs ns : List Int} (h : fairB ls lo hi ys ms ws ss vs ns = true) : yearsI ls lo hi ys = 0 ∧ possT ls lo hi ys ⟨ms, ws, ss, vs, ns⟩ = true := by
  simp only [fairB, Bool.and_eq_true, decide_eq_true_eq] at h
  exact ⟨h.2.2.1, h.2.2.2⟩
theorem sl_of {w : World} {A : Option Addr} {n c : Nat} {xs : List Int} (h : xs.length = n) (hc : n ≤ c) (hi : IntsAt w w.heap.size A xs) : SlInts w (.slice A n c) xs := ⟨A, c, by rw [h], by omega, hi⟩

theorem exceeds_ok (A A2 : Option Addr) (n c m c' : Nat) (ls : List Lay) (ys : List Yr) (lo hi d : Int) (w : World) (hl : ls.length = n) (hn : n ≤ maxLen) (hcap : n ≤ c) (hL : LaysAt w w.heap.size A ls)
    (hm : ys.length = m) (hm2 : m ≤ maxLen) (hY : YrsAt w w.heap.size A2 ys) (hd : depthI ls lo hi ys d = 0) (a b : Nat) (ha : firstI d (runS ls (extT true ls lo hi ys) 0 m).th = a) (hb : firstI d (runS ls (extT false ls lo hi ys) 0 m).th = b) :
    Calls Tryd.prog 34 #[.agg #[.slice A n c, .int .i64 lo, .int .i64 hi], .slice A2 m c', .int .i64 d] w fun e w' => e = .returned (.tuple #[.int .i64 (a : Int), .int .i64 (b : Int), .int .i64 0]) ∧ Below w.heap.size w w' := by
  refine (exceeds_any A A2 n c m c' ls ys lo hi d w hl hn hcap hL hm hm2 hY).mono ?_
  rintro e w' ⟨rfl, h⟩
  refine ⟨?_, h⟩
  rw [hd, if_pos rfl, if_pos rfl]
  unfold excI
  rw [hm, ha, hb]
theorem play_ok (A A2 : Option Addr) (n c m c' : Nat) (ls : List Lay) (ys : List Yr) (lo hi : Int) (t : Tru) (v0 v1 v2 v3 v4 : Value) (w : World) (hl : ls.length = n) (hn : n ≤ maxLen) (hcap : n ≤ c) (hL : LaysAt w w.heap.size A ls)
    (hm : ys.length = m) (hm2 : m ≤ maxLen) (hY : YrsAt w w.heap.size A2 ys) (s0 : SlInts w v0 t.ms) (s1 : SlInts w v1 t.ws) (s2 : SlInts w v2 t.ss) (s3 : SlInts w v3 t.vs) (s4 : SlInts w v4 t.ns)
    (n0 : t.ms.length ≤ maxLen) (n1 : t.ws.length ≤ maxLen) (n2 : t.ss.length ≤ maxLen) (n3 : t.vs.length ≤ maxLen) (n4 : t.ns.length ≤ maxLen) (hr : yearsI ls lo hi ys = 0) (hp : possT ls lo hi ys t = true) (S : St) (hS : runS ls t 0 m = S) :
    Calls Tryd.prog 25 #[.agg #[.slice A n c, .int .i64 lo, .int .i64 hi], .slice A2 m c', .agg #[v0, v1, v2, v3, v4]] w fun e w' => ∃ (B : Option Addr) (k : Nat), e = .returned (.tuple #[.slice B m k, .agg #[.int .i64 S.In, .int .i64 S.Out, .int .i64 S.Lf], .int .i64 0]) ∧ IntsAt w' w'.heap.size B S.th ∧ Below w.heap.size w w' := by
  refine (play_any A A2 n c m c' ls ys lo hi t v0 v1 v2 v3 v4 w hl hn hcap hL hm hm2 hY s0 s1 s2 s3 s4 n0 n1 n2 n3 n4).mono ?_
  rintro e w' ⟨v, rfl, ⟨B, k, rfl, _, hB⟩, hb⟩
  have hq : playI ls lo hi ys t = (S.th, (S.In, S.Out, S.Lf), 0) := by unfold playI; rw [hr, if_pos rfl, hp, hm, hS]; rfl
  have hlen : S.th.length = m := by rw [← hS]; exact (run_len _ _ _ _).1
  rw [hq] at hB ⊢
  exact ⟨B, k, by rw [hlen], hB, hb⟩
end Go.Proofs.YtccekbdhffccdaaDoor
