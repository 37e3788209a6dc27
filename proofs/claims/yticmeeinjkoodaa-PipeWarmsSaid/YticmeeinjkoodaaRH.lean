/- Pipes: equal spans, by the specification; the law PipeWarms. -/
import Derived.Test.YticmeeinjkoodaaRG
namespace Go.Proofs.Yticmeeinjkoodaa
open Go.RowKit Go.Shelf

set_option maxRecDepth 100000 in
set_option maxHeartbeats 8000000 in
theorem sspans_any (LL : List (List (Int × Int))) (A1 A2 : Option Addr) (n c1 c2 : Nat) (w : World) (hl : LL.length = n) (hn : n ≤ 1000) (h72 : ∀ row ∈ LL, row.length ≤ 1000) (h1 : GridAt 2 prR w w.heap.size A1 LL) (h2 : GridAt 2 prR w w.heap.size A2 LL) :
    Calls Try.prog 22 #[.slice A1 n c1, .slice A2 n c2] w fun e w' => e = .returned (.bool true) ∧ Below w.heap.size w w' := by
  have HL := Lib.hid hl; have H1 := Lib.hid h1; have H2 := Lib.hid h2; have H72 := Lib.hid h72
  clear hl h1 h2 h72
  go_enter Try.func22, Try.ntmps22
  go_wp2_with fail
  go_loopw [5, 6] (fun ii _ wr => ∃ k : Nat, k ≤ n ∧ ii = .int .i64 k ∧ Below w.heap.size w wr) (fun ii _ _ => n - (intOf ii).toNat)
  case atStart => exact ⟨0, by omega, rfl, Below.refl _ _⟩
  case round =>
    obtain ⟨k, hk, rfl, hbr⟩ := hrel
    have HBR := Lib.hid hbr
    by_cases hlt : k < n
    · have k3 : (0 : Int) ≤ (k : Int) := by omega
      have k4 : (k : Int) < (n : Int) := by omega
      obtain ⟨row, hrow⟩ := get_of_lt (l := LL) (k := k) (by rw [HL.out]; exact hlt)
      obtain ⟨b, o, A', m, c', rfl, hbb, hm, hc, hr, _⟩ := grid_row H1.out hrow
      obtain ⟨d, q, A'', m', c'', rfl, hdd, hm', hc2, hr2, _⟩ := grid_row H2.out hrow
      obtain rfl : m = m' := hm.trans hm'.symm
      have hm72 : m ≤ 1000 := by rw [hm]; exact H72.out row (List.mem_of_getElem? hrow)
      have HM := Lib.hid hm; have HR := Lib.hid hr; have HR2 := Lib.hid hr2
      have HC : Hid (∀ u : World, Below w.heap.size w u → u.cell? ⟨b, o + k, none⟩ = some (.slice A' m c') ∧ u.cell? ⟨d, q + k, none⟩ = some (.slice A'' m c'')) := Lib.hid fun u hu => ⟨((bcell hu).1 _ _ hbb).trans hc, ((bcell hu).1 _ _ hdd).trans hc2⟩
      have p0 := fun u : KeptW wr => (HC.out u.w (hbr.trans (u.h.mono hbr.size))).1
      have p1 := fun u : KeptW wr => (HC.out u.w (hbr.trans (u.h.mono hbr.size))).2
      clear hrow hbb hm hc hr hdd hm' hc2 hr2 hbr
      go_wp2_with fail
      refine rk_region (by kernel_rfl) (by kernel_rfl) ?_
      repeat (go_big_quiet_step (fail))
      refine wpQuiet_nil ?_
      rintro wy ⟨⟨_, hby⟩, rfl⟩
      have HBY := Lib.hid (HBR.out.trans (hby.mono HBR.out.size))
      clear hby p0 p1
      go_wp2_with fail
      go_loopw [6] (fun jj wr => ∃ j : Nat, j ≤ m ∧ jj = .int .i64 j ∧ Below w.heap.size w wr) (fun jj _ => m - (intOf jj).toNat)
      case atStart => exact ⟨0, by omega, rfl, HBY.out⟩
      case round =>
        obtain ⟨j, hj, rfl, hbq⟩ := hrel
        have HBQ := Lib.hid hbq
        obtain ⟨t0, t1⟩ := HC.out wr hbq
        by_cases hjt : j < m
        · have j3 : (0 : Int) ≤ (j : Int) := by omega
          have j4 : (j : Int) < (m : Int) := by omega
          obtain ⟨x, hx⟩ := get_of_lt (l := row) (k := j) (by rw [← HM.out]; exact hjt)
          obtain ⟨b5, o5, rfl, hb5, x0, x1⟩ := pr_el HR.out hx
          obtain ⟨b6, o6, rfl, hb6, y0, y1⟩ := pr_el HR2.out hx
          obtain ⟨xa, xb⟩ := x
          simp only at x0 x1 y0 y1
          have p0 := fun u : KeptW wr => (HC.out u.w (hbq.trans (u.h.mono hbq.size))).1
          have p1 := fun u : KeptW wr => (HC.out u.w (hbq.trans (u.h.mono hbq.size))).2
          have hq5 := fun u : KeptW wr => (bcell (hbq.trans (u.h.mono hbq.size))).1
          have r0 : ∀ u : KeptW wr, u.w.cell? ⟨b5, o5 + j * 2, none⟩ = some (.int .i64 xa) := fun u => (hq5 u _ _ hb5).trans x0
          have r1 : ∀ u : KeptW wr, u.w.cell? ⟨b5, o5 + j * 2 + 1, none⟩ = some (.int .i64 xb) := fun u => (hq5 u _ _ hb5).trans x1
          have r2 : ∀ u : KeptW wr, u.w.cell? ⟨b6, o6 + j * 2, none⟩ = some (.int .i64 xa) := fun u => (hq5 u _ _ hb6).trans y0
          have r3 : ∀ u : KeptW wr, u.w.cell? ⟨b6, o6 + j * 2 + 1, none⟩ = some (.int .i64 xb) := fun u => (hq5 u _ _ hb6).trans y1
          have hq := (eq47s xa xb).1; have hgg := (eq47s xa xb).2
          clear hx hb5 hb6 x0 x1 y0 y1 hbq hq5
          go_wp2_with fail
          refine rk_region (by kernel_rfl) (by kernel_rfl) ?_
          repeat (go_big_quiet_step (fail))
          refine wpQuiet_nil ?_
          rintro wv ⟨⟨_, hbv⟩, rfl⟩
          have HBV := Lib.hid (HBQ.out.trans (hbv.mono HBQ.out.size))
          clear hbv p0 p1 r0 r1 r2 r3 t0 t1
          go_wp2_with fail
          exact ⟨⟨j + 1, by omega, rfl, HBV.out⟩, by simp [intOf]; omega⟩
        · obtain rfl : m = j := by omega
          have j4 : ¬ (m : Int) < (m : Int) := by omega
          clear hbq
          go_wp2_with fail
          exact ⟨⟨k + 1, by omega, rfl, HBQ.out⟩, by simp [intOf]; omega⟩
    · obtain rfl : n = k := by omega
      have k4 : ¬ (n : Int) < (n : Int) := by omega
      clear hbr
      go_wp2_with fail
      go_ret
      exact ⟨rfl, HBR.out⟩
end Go.Proofs.Yticmeeinjkoodaa
