/- Coolers: whether a house is surely level, by the specification. -/
import Derived.Test.YtmppiiamcpjhnaaDQ
namespace Go.Proofs.Ytmppiiamcpjhnaa
open Go.RowKit Go.Shelf
attribute [local go_sem] Oper.semAt_some

set_option maxRecDepth 100000 in
set_option maxHeartbeats 8000000 in
theorem rlevel_any (V : TV) (T : Tn) (A : Option Addr) (n c : Nat) (cs : List Int) (h : Nat) (w : World) (hN : TnAt w w.heap.size V T) (hl : cs.length = n) (hn : n ≤ 100) (hA : IntsAt w w.heap.size A cs) (hK : TnOk T) (hC : coolB T cs = true) (hh : h < T.hs.length) :
    Calls Try.prog 72 #[tvV V, .slice A n c, .int .i64 (h : Int)] w fun e w' => e = .returned (.bool (decide (0 ≤ bearsI T h (setI cs)))) ∧ Below w.heap.size w w' := by
  have z := heap_alloc_new w (.cells (tvC V) 25)
  have hb := (Below.refl w.heap.size w).alloc (Nat.le_refl _) (.cells (tvC V) 25)
  obtain ⟨w1, hw1⟩ : ∃ z, w.alloc (.cells (tvC V) 25) = z := ⟨_, rfl⟩
  rw [hw1] at z hb
  have hdr : Below w1.heap.size w1 w1.drew := (Below.refl _ _).drew
  have HN := Lib.hid ((hN.up hb).up hdr); have HA := Lib.hid ((hA.next hb hb.size).next hdr hdr.size); have HB := Lib.hid hb; have HZ := Lib.hid z
  have HK := Lib.hid hK; have HL := Lib.hid hl; have HH := Lib.hid hh; have HD := Lib.hid hdr
  have hin : ∀ x ∈ cs, 0 ≤ x ∧ x < T.ss.length := fun x hx => by have := clB_mem hC x hx; omega
  have HIN := Lib.hid hin
  have HLV := Lib.hid (worst_level hK hC hh)
  obtain ⟨ah, nh, ch, az, ns, cz⟩ := V
  obtain ⟨v0, v1⟩ := box2 z
  simp only at v0 v1
  have hlen : (ovL T (worstT T) cs).length = T.hs.length := by unfold ovL; rw [List.length_map, List.length_range]
  have hget : (ovL T (worstT T) cs)[h]? = some (ovV (worstT T) cs h) := by unfold ovL; rw [List.getElem?_map, List.getElem?_range hh]; rfl
  have HGT := Lib.hid (And.intro hlen hget)
  have k3 : (0 : Int) ≤ (h : Int) := by omega
  have k4 : (h : Int) < (T.hs.length : Int) := by omega
  obtain ⟨y, hy⟩ : ∃ y, ovV (worstT T) cs h = y := ⟨_, rfl⟩
  rw [hy] at HGT HLV
  have hw1' : w.alloc (.cells #[.slice ah nh ch, .slice az ns cz] 25) = w1 := hw1
  have fol : Try.prog.follows .mixedOrders = true := by kernel_rfl
  clear z hb hw1 hN hl hA hK hC hh hin hlen hget hdr hy
  refine callsIn_wide.1 (callsIn_of_wp (n := 5) Try.func72 rfl trivial ?_ rfl)
  simp only [Try.ntmps72, List.size_toArray, List.length_cons, List.length_nil, Nat.reduceAdd, Nat.reduceSub, Array.replicate_succ, Array.replicate_zero, List.push_toArray, List.append_toArray, List.nil_append, List.cons_append]
  gi_wp2
  clear hw1'
  gi_region_with_o (first
    | (refine ⟨trivial, callsIn_wide.2 ((Worst_any _ T _ HN.out HK.out).mono ?_)⟩
       rintro e W4 ⟨⟨an, nn, cn, ag, ng, cg⟩, rfl, hb4, hU⟩
       have hb14 := HD.out.trans hb4
       obtain ⟨v0', v1'⟩ := box2 ((hb14.block _ (heapsz HZ.out)).trans HZ.out)
       have HB4 := Lib.hid hb4; have HB14 := Lib.hid hb14; have HU := Lib.hid hU
       clear hb4 hb14 hU)
    | (refine ⟨trivial, callsIn_wide.2 ((rover_any _ T A n c cs _ (worstT T) _ (HN.out.up HB4.out) HL.out hn (HA.out.next HB4.out HB4.out.size) HU.out HK.out (worst_ok HK.out) HIN.out).mono ?_)⟩
       rintro e W5 ⟨v5, rfl, hb5, hr5⟩
       obtain ⟨A5, c5, hv5⟩ := hr5.len
       subst hv5
       rw [HGT.out.1]
       obtain ⟨b9, o9, hA9, _, c9⟩ := ints_el (row_ints hr5) HGT.out.2
       subst hA9
       have HB5 := Lib.hid (HB.out.trans ((HB14.out.trans (hb5.mono HB14.out.size)).mono HB.out.size))
       clear hb5 hr5)
    | fail)
  all_goals
    gi_wp2
    refine bodyPost_ret (v := .bool (decide (0 ≤ y))) ?_ rfl ⟨by simp only [HLV.out], HB5.out⟩
    simp [results, Try.results72, go_sem, Act.put]
end Go.Proofs.Ytmppiiamcpjhnaa
