/- Stores: who of the whole queue has come by some week. -/
import Derived.Test.YtijjkiogmlannaaDoorEB
namespace Go.Proofs.YtijjkiogmlannaaDoor

theorem queue_filter {S : Sto} {p : Nat} {ice : List Bool} {w : Nat} : ∀ {L : Nat}, w < L → (S.queue p ice L).filter (fun j => decide (arrI ice (S.ship j).w.toNat ≤ (w : Int))) = S.queue p ice (w + 1)
  | 0, h => absurd h (by omega)
  | L + 1, h => by
    rw [queue_succ, List.filter_append]
    by_cases hw : w < L
    · rw [queue_filter hw]
      have e : (S.comes p ice L).filter (fun j => decide (arrI ice (S.ship j).w.toNat ≤ (w : Int))) = [] := by
        rw [List.filter_eq_nil_iff]
        intro j hj
        obtain ⟨_, _, ha⟩ := comes_mem.1 hj
        rw [ha]
        simp only [decide_eq_true_eq]
        omega
      rw [e, List.append_nil]
    · have hwl : w = L := by omega
      subst hwl
      rw [queue_succ]
      congr 1
      · rw [List.filter_eq_self]
        intro j hj
        obtain ⟨_, _, v, hv, ha⟩ := queue_mem.1 hj
        rw [ha]
        simp only [decide_eq_true_eq]
        omega
      · rw [List.filter_eq_self]
        intro j hj
        obtain ⟨_, _, ha⟩ := comes_mem.1 hj
        rw [ha]
        simp
/-- A week's landing, ship by ship of the whole queue, those that have not come left out. -/
theorem ldF_queue {S : Sto} {p : Nat} {ice : List Bool} {w L : Nat} (h : w < L) (q : Ld) : (S.queue p ice L).foldl (fun q j => if arrI ice (S.ship j).w.toNat ≤ (w : Int) then ldS S.yd S.cg q j else q) q = ldF S.yd S.cg q (S.queue p ice (w + 1)) := by
  rw [← queue_filter h]
  generalize S.queue p ice L = l
  induction l generalizing q with
  | nil => rfl
  | cons x l ih =>
    rw [List.foldl_cons, List.filter_cons, ih]
    by_cases hx : arrI ice (S.ship x).w.toNat ≤ (w : Int)
    · rw [if_pos hx, if_pos (decide_eq_true hx)]; rfl
    · rw [if_neg hx, if_neg (by simpa using hx)]
end Go.Proofs.YtijjkiogmlannaaDoor
