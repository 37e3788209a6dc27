/- Coolers: the break is the first of the smallest. -/
import Derived.Test.YtmppiiamcpjhnaaDT
namespace Go.Proofs.Ytmppiiamcpjhnaa
open Go.RowKit Go.Shelf

theorem sub_map {α β : Type} (f : α → β) : ∀ (m : Nat) (l : List α), (subL m l).map (List.map f) = subL m (l.map f)
  | 0, l => by simp [subL]
  | m + 1, [] => by simp [subL]
  | m + 1, x :: l => by
    simp only [subL, List.map_cons, List.map_append, List.map_map]
    rw [← sub_map f m l, ← sub_map f (m + 1) l, List.map_map]
    rfl
theorem sets_order {s : Nat} (m : Nat) : (setsI m 0 s).Pairwise fun a b => befB (sitZ ((a : Nat) : Int)) (sitZ ((b : Nat) : Int)) = true := by
  have h1 := sets_sub m (c := 0) (r := s) (fun i j hi _ => by simp at hi)
  have h2 : (setsI m 0 s).map (fun u => sitZ ((u : Nat) : Int)) = subL m (sitZ (s : Int)) := by
    have e := congrArg (List.map (List.map Int.ofNat)) h1
    rw [List.map_map, List.map_map] at e
    have e2 : ((subL m (sitL (s : Int))).map (List.map Int.ofNat ∘ fun o => sitL (((0 : Nat) : Int)) ++ o)) = subL m (sitZ (s : Int)) := by
      rw [sit_zero]
      exact sub_map Int.ofNat m (sitL (s : Int))
    exact e.trans e2
  have h3 : (subL m (sitZ (s : Int))).Pairwise fun a b => befB a b = true := sub_order m (by
    unfold sitZ
    rw [List.pairwise_map]
    exact (sitL_pair _).imp fun h => Int.ofNat_lt.2 h)
  rw [← h2, List.pairwise_map] at h3
  exact h3
theorem befB_asym : ∀ {a b : List Int}, befB a b = true → befB b a = false
  | [], _, h => by simp [befB] at h
  | _ :: _, [], h => by simp [befB] at h
  | x :: a, y :: b, h => by
    unfold befB at h ⊢
    by_cases e : x = y
    · rw [if_pos e] at h
      rw [if_pos e.symm]
      exact befB_asym h
    · rw [if_neg e] at h
      rw [if_neg (fun h => e h.symm)]
      simp only [decide_eq_true_eq] at h
      simp only [decide_eq_false_iff_not]
      omega
theorem befB_self : ∀ a : List Int, befB a a = false
  | [] => rfl
  | x :: a => by unfold befB; rw [if_pos rfl]; exact befB_self a
theorem sets_size {m s x : Nat} (hx : x ∈ setsI m 0 s) : (sitL (x : Int)).length = m ∧ (sitL (x : Int)).Sublist (sitL (s : Int)) := by
  have h1 : sitL (x : Int) ∈ (setsI m 0 s).map fun u => sitL ((u : Nat) : Int) := List.mem_map.2 ⟨x, hx, rfl⟩
  rw [sets_sub m (fun i j hi _ => by simp at hi)] at h1
  obtain ⟨o, ho, e⟩ := List.mem_map.1 h1
  rw [sit_zero, List.nil_append] at e
  obtain ⟨h2, h3⟩ := sub_mem.1 ho
  rw [← e]
  exact ⟨h3, h2⟩
theorem sets_all {m s y : Nat} (hs : s < 2 ^ 10) (hy : y < 2 ^ 10) (hl : (sitL (y : Int)).length = m) (hsub : (sitL (y : Int)).Sublist (sitL (s : Int))) : y ∈ setsI m 0 s := by
  have hmem : sitL (y : Int) ∈ (setsI m 0 s).map fun u => sitL ((u : Nat) : Int) := by
    rw [sets_sub m (fun i j hi _ => by simp at hi)]
    refine List.mem_map.2 ⟨sitL (y : Int), sub_mem.2 ⟨hsub, hl⟩, ?_⟩
    rw [sit_zero, List.nil_append]
  obtain ⟨x', hx', he⟩ := List.mem_map.1 hmem
  have hxe := sit_inj (sets_lt m 0 s (by decide) hs x' hx') hy he
  rw [← hxe]
  exact hx'
/-- Whatever breaks a house has at least as many, and if as many, it doesn't come before. -/
theorem brk_first {T : Tn} {s h x y : Nat} (hs : s < 2 ^ 10) (hy : y < 2 ^ 10) (hx : brkO T s h = some x) (hsub : (sitL (y : Int)).Sublist (sitL (s : Int))) (hm : bearsI T h s + 1 ≤ (sitL (y : Int)).length) (hb : bearsI T h (dropS s y) < 0) :
    (sitL (x : Int)).length < (sitL (y : Int)).length ∨ ((sitL (y : Int)).length = (sitL (x : Int)).length ∧ befB (sitZ (y : Int)) (sitZ (x : Int)) = false) := by
  unfold brkO at hx
  have hin := bearsV_in (needI T h) (givL T h s)
  change -1 ≤ bearsI T h s ∧ bearsI T h s ≤ 3 at hin
  obtain ⟨m, hme⟩ : ∃ m, (bearsI T h s + 1).toNat = m := ⟨_, rfl⟩
  rw [hme] at hx
  obtain ⟨hx1, hx2⟩ := sets_size (List.mem_of_find?_eq_some hx)
  by_cases hlt : m < (sitL (y : Int)).length
  · exact .inl (by omega)
  · have hyl : (sitL (y : Int)).length = m := by omega
    refine .inr ⟨by omega, ?_⟩
    have hyin := sets_all hs hy hyl hsub
    obtain ⟨_, as1, bs1, he, hall⟩ := List.find?_eq_some_iff_append.1 hx
    have hord := sets_order (s := s) m
    rw [he] at hyin hord
    rcases List.mem_append.1 hyin with h1 | h1
    · have := hall y h1
      simp at this
      omega
    · rcases List.mem_cons.1 h1 with rfl | h1
      · exact befB_self _
      · have h2 := (List.pairwise_cons.1 (List.pairwise_append.1 hord).2.1).1 y h1
        exact befB_asym h2
end Go.Proofs.Ytmppiiamcpjhnaa
