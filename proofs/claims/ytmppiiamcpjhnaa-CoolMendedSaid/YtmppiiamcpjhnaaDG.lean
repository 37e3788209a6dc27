/- Coolers: what a cooler gives to a house, in truth. -/
import Derived.Test.YtmppiiamcpjhnaaDF
namespace Go.Proofs.Ytmppiiamcpjhnaa
open Go.RowKit Go.Shelf

theorem cold_get {T : Tn} {X : Tu} (K : TnOk T) (O : TuOk T X) {i k : Nat} (hi : i < T.ss.length) (hk : k < T.hs.length) : ∃ g n, X.gs[i]? = some g ∧ g[k]? = some n ∧ 0 ≤ n ∧ n ≤ 1000000 := by
  have h := O.r i hi
  unfold rowB at h
  rw [Bool.and_eq_true, List.all_eq_true] at h
  have h2 := h.2 k (List.mem_range.2 hk)
  unfold coldAt at h2
  split at h2
  · rename_i s g hs hg
    split at h2
    · rename_i x n hx hn
      have h3 := inB_iff.1 h2
      have h4 := (K.ss s (List.mem_of_getElem? hs)).gv x (List.mem_of_getElem? hx)
      exact ⟨g, n, hg, hn, by omega, by omega⟩
    · cases h2
  · cases h2
theorem need_get {T : Tn} {X : Tu} (K : TnOk T) (O : TuOk T X) {k : Nat} (hk : k < T.hs.length) : ∃ n, X.ns[k]? = some n ∧ 0 ≤ n ∧ n ≤ 1000000 := by
  have h := O.nd k hk
  unfold needB at h
  split at h
  · rename_i x n hx hn
    have h3 := inB_iff.1 h
    have h4 := (K.hs x (List.mem_of_getElem? hx)).n
    exact ⟨n, hn, by omega, by omega⟩
  · cases h
/-- What a site gives to a house. -/
def givA (X : Tu) (h x : Nat) : Int := (X.gs.getD x []).getD h 0
theorem giv_eq {X : Tu} {h x : Nat} {g : List Int} {n : Int} (h1 : X.gs[x]? = some g) (h2 : g[h]? = some n) : givA X h x = n := by
  unfold givA
  rw [List.getD_eq_getElem?_getD, List.getD_eq_getElem?_getD, h1, Option.getD_some, h2, Option.getD_some]
set_option maxRecDepth 100000 in
set_option maxHeartbeats 4000000 in
theorem give_any {u : World} {bx bh : Nat} {U : UV} {X : Tu} {s h : Nat} {g : List Int} {n : Int} (zx : u.heap[bx]? = some (.cells (uvC U) 46 (0, 0))) (zh : u.heap[bh]? = some (.cells #[.int .i64 (h : Int)] 3 (0, 0))) (hX : TuAt u u.heap.size U X) (hg : X.gs[s]? = some g) (hn : g[h]? = some n) :
    Calls Try.prog 62 #[.int .i64 (s : Int), .pointer (some ⟨bx, 0, none⟩), .pointer (some ⟨bh, 0, none⟩)] u fun e u' => e = .returned (.int .i64 (givA X h s)) ∧ Below u.heap.size u u' := by
  have HE := Lib.hid (giv_eq hg hn)
  have hng := hX.ng
  obtain ⟨an, nn, cn, ag, ng, cg⟩ := U
  obtain ⟨x0, x1⟩ := box2 zx
  have y0 := cell_blk (k := 0) zh rfl
  simp only at x0 x1 hng
  have hsn : s < ng := by have := (List.getElem?_eq_some_iff.1 hg).1; omega
  obtain ⟨b, o, A', m, c', hag, hbb, hm, c0, hrow, hmx⟩ := grid_row hX.gs hg
  simp only at hag
  subst hag
  obtain ⟨b2, o2, rfl, hb2, e0⟩ := ints_el hrow hn
  have hhm : h < m := by have := (List.getElem?_eq_some_iff.1 hn).1; omega
  have k1 : (0 : Int) ≤ (s : Int) := by omega
  have k2 : (s : Int) < (ng : Int) := by omega
  have k3 : (0 : Int) ≤ (h : Int) := by omega
  have k4 : (h : Int) < (m : Int) := by omega
  clear zx zh hX hg hn hng hm hrow hb2 hbb
  go_enter Try.func62, Try.ntmps62
  go_wp2_with fail
  go_quiet (fail)
  go_wp2_with fail
  go_ret
  exact ⟨by rw [HE.out]; rfl, belN (Below.refl _ _) _⟩
end Go.Proofs.Ytmppiiamcpjhnaa
