/- Contracts of the checks of thaws: the code's. -/
import Derived.Test.YtdlaphlpimlgdaaGreatDoorH
namespace Go.Proofs.YtdlaphlpimlgdaaGreatDoor
open Go.RowKit

theorem int_cells {w : World} {B : Nat} {A : Option Addr} {xs : List Int} (h : IntsAt w B A xs) (hne : xs ≠ []) : ∃ b o, A = some ⟨b, o, none⟩ ∧ b < B ∧ ∀ i x, xs[i]? = some x → w.cell? ⟨b, o + i, none⟩ = some (.int .i64 x) := by
  obtain ⟨b, o, rfl, hb, hc⟩ := h hne
  exact ⟨b, o, rfl, hb, fun i x hx => by simpa using hc i x hx 0 _ rfl⟩
theorem any_no {xs : List Int} {f : Int → Bool} {k : Nat} {x : Int} (hx : xs[k]? = some x) (ha : (xs.take k).any f = false) (hf : f x = false) : (xs.take (k + 1)).any f = false := by
  rw [List.take_add_one, List.any_append, ha, hx]
  simp [hf]
theorem any_yes {xs : List Int} {f : Int → Bool} {k : Nat} {x : Int} (hx : xs[k]? = some x) (hf : f x = true) : xs.any f = true := List.any_eq_true.2 ⟨x, List.mem_of_getElem? hx, hf⟩
set_option maxRecDepth 100000 in
set_option maxHeartbeats 2000000 in
theorem tooLong_any (A : Option Addr) (n c : Nat) (xs : List Int) (w : World) (hl : xs.length = n) (hn : n ≤ maxLen) (hA : IntsAt w w.heap.size A xs) :
    Calls Tryz.prog 78 #[.slice A n c] w fun e w' => e = .returned (.bool (xs.any fun x => decide (10 < x))) ∧ w = w' := by
  have HL := Lib.hid hl
  unfold maxLen at hn
  clear hl
  go_enter Tryz.func78, Tryz.ntmps78
  go_wp2_with fail
  go_loopw [7] (fun i wr => ∃ k : Nat, k ≤ n ∧ i = .int .i64 k ∧ (xs.take k).any (fun x => decide (10 < x)) = false ∧ wr = w) (fun i _ => n - (intOf i).toNat)
  case atStart => exact ⟨0, Nat.zero_le _, rfl, by simp, rfl⟩
  case round =>
    obtain ⟨k, hk, rfl, hall, rfl⟩ := hrel
    have HALL := Lib.hid hall
    clear hall
    by_cases hlt : k < n
    · obtain ⟨x, hx⟩ := get_of_lt (l := xs) (k := k) (by rw [HL.out]; exact hlt)
      obtain ⟨b, o, rfl, hb, hcs⟩ := int_cells hA (by intro h; rw [h] at hx; simp at hx)
      have c0 := hcs k x hx
      have HX := Lib.hid hx
      have hk0 : (0 : Int) ≤ (k : Int) := by omega
      have hk1 : (k : Int) < (n : Int) := by omega
      clear hx hcs hb
      by_cases hx10 : 10 < x
      · go_wp2_with fail
        go_ret
        exact ⟨by rw [any_yes HX.out (decide_eq_true hx10)]; rfl, rfl⟩
      · have HF := Lib.hid (show decide (10 < x) = false from decide_eq_false hx10)
        go_wp2_with fail
        exact ⟨⟨k + 1, by omega, by go_num, any_no HX.out HALL.out HF.out, trivial⟩, by simp [intOf]; omega⟩
    · have hke : k = n := by omega
      have hk1 : ¬ (k : Int) < (n : Int) := by omega
      go_wp2_with fail
      go_ret
      have := HALL.out
      rw [List.take_of_length_le (by rw [HL.out]; omega)] at this
      exact ⟨by rw [this]; rfl, rfl⟩

/-! ### Thaws -/

abbrev Sp := Int × Int
/-- Rows of spans: a slice of slices. -/
def SpsAt (w : World) (B : Nat) (A : Option Addr) (ts : List (List Sp)) : Prop :=
  ts ≠ [] → ∃ b o, A = some ⟨b, o, none⟩ ∧ b < B ∧ ∀ i x, ts[i]? = some x → ∃ A' c', w.cell? ⟨b, o + i, none⟩ = some (.slice A' x.length c') ∧ PrsAt w B A' x ∧ x.length ≤ maxLen ∧ x.length ≤ c'
theorem SpsAt.next {w w' : World} {B B' : Nat} {A : Option Addr} {ts : List (List Sp)} (h : SpsAt w B A ts) (hb : Below B w w') (hB : B ≤ B') : SpsAt w' B' A ts := fun hne => by
  obtain ⟨b, o, rfl, hlt, hc⟩ := h hne
  refine ⟨b, o, rfl, by omega, fun i x hx => ?_⟩
  obtain ⟨A', c', h1, h2, h3⟩ := hc i x hx
  exact ⟨A', c', ((bcell hb).1 _ _ hlt).trans h1, h2.next hb hB, h3⟩
theorem SpsAt.up {w w' : World} {A : Option Addr} {ts : List (List Sp)} (h : SpsAt w w.heap.size A ts) (hb : Below w.heap.size w w') : SpsAt w' w'.heap.size A ts := h.next hb hb.size
def spB (x : Sp) : Bool := withinB 0 x.1 x.2 50000
def rowB (np : Int) (x : List Sp) : Bool := decide ((x.length : Int) = np) && x.all spB
def thawsB (np : Int) (ts : List (List Sp)) : Bool := ts.all (rowB np)
def thawsI (s : Sit) (ts : List (List Sp)) : Int := if 10 < (ts.length : Int) then 3 else if sitB s then (if thawsB (s.ps.length : Int) ts then 0 else 2) else 2
theorem site_box {w : World} {B : Nat} {AP AQ AR : Option Addr} {np cp nq cq nr cr : Nat} {may sink tilt : Int}
    (z : w.heap[B]? = some (.cells #[.slice AP np cp, .slice AQ nq cq, .slice AR nr cr, .int .i64 may, .int .i64 sink, .int .i64 tilt] 26 (0, 0))) :
    w.cell? ⟨B, 0, none⟩ = some (.slice AP np cp) ∧ w.cell? ⟨B, 1, none⟩ = some (.slice AQ nq cq) ∧ w.cell? ⟨B, 2, none⟩ = some (.slice AR nr cr) ∧ w.cell? ⟨B, 3, none⟩ = some (.int .i64 may) ∧ w.cell? ⟨B, 4, none⟩ = some (.int .i64 sink) ∧ w.cell? ⟨B, 5, none⟩ = some (.int .i64 tilt) := by
  have p0 := cell_of_row w B 0 _ 26 (0, 0) z
  have p1 := cell_of_row w B 1 _ 26 (0, 0) z
  have p2 := cell_of_row w B 2 _ 26 (0, 0) z
  have p3 := cell_of_row w B 3 _ 26 (0, 0) z
  have p4 := cell_of_row w B 4 _ 26 (0, 0) z
  have p5 := cell_of_row w B 5 _ 26 (0, 0) z
  simp at p0 p1 p2 p3 p4 p5
  exact ⟨p0, p1, p2, p3, p4, p5⟩
theorem one_int (w : World) (x : Int) : IntsAt (w.alloc (.cells #[.int .i64 x] 3)) (w.alloc (.cells #[.int .i64 x] 3)).heap.size (some ⟨w.heap.size, 0, none⟩) [x] := fun _ => by
  refine ⟨w.heap.size, 0, rfl, by simp, fun i y hy j v hv => ?_⟩
  cases i with
  | zero =>
    cases j with
    | zero => simp at hy; subst hy; simp [intR] at hv; subst hv; simp
    | succ j => simp [intR] at hv
  | succ i => simp at hy
set_option maxRecDepth 100000 in
set_option maxHeartbeats 4000000 in
theorem checkThaws_any (AP AQ AR A : Option Addr) (np cp nq cq nr cr n c : Nat) (ps : List Pil) (qs : List (Int × Int)) (rs : List Rw) (may sink tilt : Int) (ts : List (List Sp)) (w : World) (hp : ps.length = np) (hp2 : np ≤ maxLen) (hP : PilsAt w w.heap.size AP ps)
    (hq : qs.length = nq) (hq2 : nq ≤ maxLen) (hQ : PrsAt w w.heap.size AQ qs) (hr : rs.length = nr) (hr2 : nr ≤ maxLen) (hR : RwsAt w w.heap.size AR rs) (hl : ts.length = n) (hn : n ≤ maxLen) (hT : SpsAt w w.heap.size A ts) :
    Calls Tryz.prog 68 #[.agg #[.slice AP np cp, .slice AQ nq cq, .slice AR nr cr, .int .i64 may, .int .i64 sink, .int .i64 tilt], .slice A n c] w fun e w' => e = .returned (.int .i64 (thawsI ⟨ps, qs, rs, may, sink, tilt⟩ ts)) ∧ Below w.heap.size w w' := by
  have HP := Lib.hid hp; have HQ := Lib.hid hq; have HR := Lib.hid hr; have HL := Lib.hid hl
  have HP2 := Lib.hid hp2; have HQ2 := Lib.hid hq2; have HR2 := Lib.hid hr2; have HN := Lib.hid hn
  have HPA := Lib.hid hP; have HQA := Lib.hid hQ; have HRA := Lib.hid hR; have HT := Lib.hid hT
  have HCI : Hid (thawsI ⟨ps, qs, rs, may, sink, tilt⟩ ts = if 10 < (n : Int) then 3 else if sitB ⟨ps, qs, rs, may, sink, tilt⟩ then (if thawsB (np : Int) ts then 0 else 2) else 2) := Lib.hid (by rw [← hp, ← hl]; rfl)
  unfold maxLen at hn hp2
  obtain ⟨z0, z1, hb0⟩ := two_boxes w (.cells #[.slice AP np cp, .slice AQ nq cq, .slice AR nr cr, .int .i64 may, .int .i64 sink, .int .i64 tilt] 26) (.cells #[.int .i64 (n : Int)] 3)
  have hi := one_int (w.alloc (.cells #[.slice AP np cp, .slice AQ nq cq, .slice AR nr cr, .int .i64 may, .int .i64 sink, .int .i64 tilt] 26)) (n : Int)
  rw [show (w.alloc (.cells #[.slice AP np cp, .slice AQ nq cq, .slice AR nr cr, .int .i64 may, .int .i64 sink, .int .i64 tilt] 26)).heap.size = w.heap.size + 1 by simp] at hi
  obtain ⟨w1, hw1⟩ : ∃ z, (w.alloc (.cells #[.slice AP np cp, .slice AQ nq cq, .slice AR nr cr, .int .i64 may, .int .i64 sink, .int .i64 tilt] 26)).alloc (.cells #[.int .i64 (n : Int)] 3) = z := ⟨_, rfl⟩
  rw [hw1] at z0 hb0 hi
  have Z0 := Lib.hid z0; have HB1 := Lib.hid hb0; have HI := Lib.hid hi
  obtain ⟨p0, p1, p2, p3, p4, p5⟩ := site_box z0
  clear z0 z1 hb0 hi hp hq hr hl hP hQ hR hT hq2 hr2
  go_enter Tryz.func68, Tryz.ntmps68
  go_wp2_with fail
  refine (tooLong_any _ 1 1 [(n : Int)] w1 rfl (by decide) HI.out).mono ?_
  rintro e w' ⟨rfl, rfl⟩
  by_cases h10 : 10 < (n : Int)
  · have hb : ([(n : Int)].any fun x => decide (10 < x)) = true := by simp only [List.any_cons, List.any_nil, decide_eq_true h10]; rfl
    rw [hb]
    have HV := Lib.hid (HCI.out.trans (if_pos h10))
    go_wp2_with fail
    go_ret
    exact ⟨by rw [HV.out]; rfl, HB1.out⟩
  · have hb : ([(n : Int)].any fun x => decide (10 < x)) = false := by simp only [List.any_cons, List.any_nil, decide_eq_false h10]; rfl
    rw [hb]
    have HV := Lib.hid (HCI.out.trans (if_neg h10))
    clear hb h10
    go_wp2_with fail
    refine (Check_any AP AQ AR np cp nq cq nr cr ps qs rs may sink tilt w1 HP.out HP2.out (HPA.out.up HB1.out) HQ.out HQ2.out (HQA.out.up HB1.out) HR.out HR2.out (HRA.out.up HB1.out)).mono ?_
    rintro e w2 ⟨rfl, hb⟩
    have HB2 := Lib.hid (HB1.out.trans (hb.mono HB1.out.size))
    have y0 := (hb.block _ (heapsz Z0.out)).trans Z0.out
    have Y0 := Lib.hid y0
    clear hb p0 p1 p2 p3 p4 p5 y0
    unfold checkI
    cases hs : sitB ⟨ps, qs, rs, may, sink, tilt⟩ with
    | false =>
      have HW := Lib.hid (HV.out.trans (by rw [hs]; rfl) : thawsI ⟨ps, qs, rs, may, sink, tilt⟩ ts = 2)
      clear hs
      go_wp2_with fail
      go_ret
      exact ⟨by rw [HW.out]; rfl, HB2.out⟩
    | true =>
      have HW := Lib.hid (HV.out.trans (by rw [hs]; rfl) : thawsI ⟨ps, qs, rs, may, sink, tilt⟩ ts = if thawsB (np : Int) ts then 0 else 2)
      clear hs
      go_wp2_with fail
      go_loopw [18] (fun i wr => ∃ k : Nat, k ≤ n ∧ i = .int .i64 k ∧ (ts.take k).all (rowB (np : Int)) = true ∧ Below w.heap.size w wr ∧ wr.heap[w.heap.size]? = some (.cells #[.slice AP np cp, .slice AQ nq cq, .slice AR nr cr, .int .i64 may, .int .i64 sink, .int .i64 tilt] 26 (0, 0))) (fun i _ => n - (intOf i).toNat)
      case atStart => exact ⟨0, Nat.zero_le _, rfl, by simp, HB2.out, Y0.out⟩
      case round =>
        obtain ⟨k, hk, rfl, hall, hbr, hz⟩ := hrel
        have HALL := Lib.hid hall; have HBR := Lib.hid hbr; have HZ := Lib.hid hz
        clear hall
        by_cases hlt : k < n
        · obtain ⟨x, hx⟩ := get_of_lt (l := ts) (k := k) (by rw [HL.out]; exact hlt)
          obtain ⟨b, o, rfl, hb, hcs⟩ := HT.out (by intro h; rw [h] at hx; simp at hx)
          obtain ⟨A', c', e1, e2, e3, e4⟩ := hcs k x hx
          have c0 := ((bcell hbr).1 _ _ hb).trans e1
          have HX := Lib.hid hx
          have HX2 := Lib.hid e2
          obtain ⟨m, hm⟩ : ∃ m, x.length = m := ⟨_, rfl⟩
          rw [hm] at c0 e3 e4
          unfold maxLen at e3
          have HM := Lib.hid hm
          obtain ⟨p0, p1, p2, p3, p4, p5⟩ := site_box hz
          have hk0 : (0 : Int) ≤ (k : Int) := by omega
          have hk1 : (k : Int) < (n : Int) := by omega
          have HR1 : Hid (rowB (np : Int) x = (decide ((m : Int) = np) && x.all spB)) := Lib.hid (by rw [← hm]; rfl)
          clear hx hcs hbr hz hb e1 e2 hm p1 p2 p3 p4 p5
          by_cases hmn : m = np
          · subst hmn
            have HR2 : Hid (rowB (m : Int) x = x.all spB) := Lib.hid (by rw [HR1.out]; simp)
            go_wp2_with fail
            go_loopw [30] (fun i wq => ∃ j : Nat, j ≤ m ∧ i = .int .i64 j ∧ (x.take j).all spB = true ∧ Below w.heap.size w wq ∧ wq.heap[w.heap.size]? = some (.cells #[.slice AP m cp, .slice AQ nq cq, .slice AR nr cr, .int .i64 may, .int .i64 sink, .int .i64 tilt] 26 (0, 0))) (fun i _ => m - (intOf i).toNat)
            case atStart => exact ⟨0, Nat.zero_le _, rfl, by simp, HBR.out, HZ.out⟩
            case round =>
              obtain ⟨j, hj, rfl, hall, hbq, hzq⟩ := hrel
              have HALQ := Lib.hid hall; have HBQ := Lib.hid hbq; have HZQ := Lib.hid hzq
              clear hall p0 c0
              by_cases hlj : j < m
              · obtain ⟨y, hy⟩ := get_of_lt (l := x) (k := j) (by rw [HM.out]; exact hlj)
                obtain ⟨b', o', rfl, hb', hcs'⟩ := pr_cells HX2.out (by intro h; rw [h] at hy; simp at hy)
                obtain ⟨d0, d1⟩ := hcs' j y hy
                replace d0 := ((bcell hbq).1 _ _ hb').trans d0
                replace d1 := ((bcell hbq).1 _ _ hb').trans d1
                have HY := Lib.hid hy
                obtain ⟨u, v⟩ := y
                simp only at d0 d1
                have hj0 : (0 : Int) ≤ (j : Int) := by omega
                have hj1 : (j : Int) < (m : Int) := by omega
                have HBA := Lib.hid (HBQ.out.alloc HBQ.out.size (.cells #[.int .i64 u, .int .i64 v] 42))
                have HZA := Lib.hid ((Below.heap_alloc wr (.cells #[.int .i64 u, .int .i64 v] 42) _ (heapsz hzq)).trans hzq)
                clear hy hcs' hbq hzq hb'
                go_wp2_with fail
                refine (within_any 0 u v 50000 _).mono ?_
                rintro e w3 ⟨rfl, hb3⟩
                have HB3 := Lib.hid (HBA.out.trans (hb3.mono HBA.out.size))
                have HZ3 := Lib.hid ((hb3.block _ (heapsz HZA.out)).trans HZA.out)
                clear hb3 d0 d1
                cases q : withinB 0 u v 50000 with
                | false =>
                  have HF := Lib.hid (show spB (u, v) = false from q)
                  clear q
                  go_wp2_with fail
                  go_ret
                  exact ⟨by rw [HW.out, show thawsB (m : Int) ts = false from all_no HX.out (by rw [HR2.out]; exact all_no HY.out HF.out)]; rfl, HB3.out⟩
                | true =>
                  have HF := Lib.hid (show spB (u, v) = true from q)
                  clear q
                  go_wp2_with fail
                  exact ⟨⟨j + 1, by omega, by go_num, take_all HY.out HALQ.out HF.out, HB3.out, HZ3.out⟩, by simp [intOf]; omega⟩
              · have hje : j = m := by omega
                have hj1 : ¬ (j : Int) < (m : Int) := by omega
                have HF : Hid (rowB (m : Int) x = true) := Lib.hid (by
                  have := HALQ.out
                  rw [List.take_of_length_le (by rw [HM.out]; omega)] at this
                  rw [HR2.out, this])
                clear hbq hzq
                go_wp2_with fail
                exact ⟨⟨k + 1, by omega, by go_num, take_all HX.out HALL.out HF.out, HBQ.out, HZQ.out⟩, by simp [intOf]; omega⟩
          · have HF : Hid (rowB (np : Int) x = false) := Lib.hid (by rw [HR1.out, decide_eq_false (by omega)]; rfl)
            have hmn' : ¬ (m : Int) = (np : Int) := by omega
            go_wp2_with fail
            go_ret
            exact ⟨by rw [HW.out, show thawsB (np : Int) ts = false from all_no HX.out HF.out]; rfl, HBR.out⟩
        · have hke : k = n := by omega
          have hk1 : ¬ (k : Int) < (n : Int) := by omega
          clear hbr hz
          have HF : Hid (thawsB (np : Int) ts = true) := Lib.hid (by
            have := HALL.out
            rw [List.take_of_length_le (by rw [HL.out]; omega)] at this
            exact this)
          go_wp2_with fail
          go_ret
          exact ⟨by rw [HW.out, HF.out]; rfl, HBR.out⟩
end Go.Proofs.YtdlaphlpimlgdaaGreatDoor
/- Contracts of the checks of plans: the code's. -/
namespace Go.Proofs.YtdlaphlpimlgdaaGreatDoor
open Go.RowKit

theorem two_ints (w : World) (x y : Int) : IntsAt (w.alloc (.cells #[.int .i64 x, .int .i64 y] 3)) (w.alloc (.cells #[.int .i64 x, .int .i64 y] 3)).heap.size (some ⟨w.heap.size, 0, none⟩) [x, y] := fun _ => by
  refine ⟨w.heap.size, 0, rfl, by simp, fun i z hz j v hv => ?_⟩
  cases j with
  | succ j => simp [intR] at hv
  | zero =>
    simp [intR] at hv
    subst hv
    cases i with
    | zero => simp at hz; subst hz; simp
    | succ i =>
      cases i with
      | zero => simp at hz; subst hz; simp
      | succ i => simp at hz
theorem pow_bd {np : Nat} (h1 : 1 ≤ np) (h2 : np ≤ 6) : 2 ≤ (2 ^ np : Int) ∧ (2 ^ np : Int) ≤ 64 := by
  have : np = 1 ∨ np = 2 ∨ np = 3 ∨ np = 4 ∨ np = 5 ∨ np = 6 := by omega
  rcases this with rfl | rfl | rfl | rfl | rfl | rfl <;> decide
def planB (np : Nat) (plan : List Int) : Bool := plan.all fun x => inB 0 x ((2 ^ np : Int) - 1)
/-- The error of a site, thaws and a plan. -/
def planI (s : Sit) (ts : List (List Sp)) (plan : List Int) : Int :=
  if 10 < (ts.length : Int) ∨ 10 < (plan.length : Int) then 3 else if thawsI s ts = 0 then (if plan.length = ts.length ∧ planB s.ps.length plan = true then 0 else 2) else thawsI s ts
theorem sit_np {s : Sit} (h : sitB s = true) : 1 ≤ s.ps.length ∧ s.ps.length ≤ 6 := by
  unfold sitB pilsB at h
  simp only [Bool.and_eq_true, inB_iff] at h
  omega
theorem thawsI_0 {s : Sit} {ts : List (List Sp)} (h : thawsI s ts = 0) : sitB s = true ∧ thawsB (s.ps.length : Int) ts = true := by
  unfold thawsI at h
  split at h
  · exact absurd h (by decide)
  · split at h
    · rename_i h2
      split at h
      · rename_i h3
        exact ⟨h2, h3⟩
      · exact absurd h (by decide)
    · exact absurd h (by decide)
set_option maxRecDepth 100000 in
set_option maxHeartbeats 4000000 in
theorem checkPlan_any (AP AQ AR A A2 : Option Addr) (np cp nq cq nr cr n c m c2 : Nat) (ps : List Pil) (qs : List (Int × Int)) (rs : List Rw) (may sink tilt : Int) (ts : List (List Sp)) (plan : List Int) (w : World) (hp : ps.length = np) (hp2 : np ≤ maxLen) (hP : PilsAt w w.heap.size AP ps)
    (hq : qs.length = nq) (hq2 : nq ≤ maxLen) (hQ : PrsAt w w.heap.size AQ qs) (hr : rs.length = nr) (hr2 : nr ≤ maxLen) (hR : RwsAt w w.heap.size AR rs) (hl : ts.length = n) (hn : n ≤ maxLen) (hT : SpsAt w w.heap.size A ts) (hm : plan.length = m) (hm2 : m ≤ maxLen) (hL : IntsAt w w.heap.size A2 plan) :
    Calls Tryz.prog 76 #[.agg #[.slice AP np cp, .slice AQ nq cq, .slice AR nr cr, .int .i64 may, .int .i64 sink, .int .i64 tilt], .slice A n c, .slice A2 m c2] w fun e w' => e = .returned (.int .i64 (planI ⟨ps, qs, rs, may, sink, tilt⟩ ts plan)) ∧ Below w.heap.size w w' := by
  have HP := Lib.hid hp; have HQ := Lib.hid hq; have HR := Lib.hid hr; have HL := Lib.hid hl; have HM := Lib.hid hm
  have HP2 := Lib.hid hp2; have HQ2 := Lib.hid hq2; have HR2 := Lib.hid hr2; have HN := Lib.hid hn
  have HPA := Lib.hid hP; have HQA := Lib.hid hQ; have HRA := Lib.hid hR; have HT := Lib.hid hT; have HLA := Lib.hid hL
  have HCI : Hid (planI ⟨ps, qs, rs, may, sink, tilt⟩ ts plan = if 10 < (n : Int) ∨ 10 < (m : Int) then 3 else if thawsI ⟨ps, qs, rs, may, sink, tilt⟩ ts = 0 then (if m = n ∧ planB np plan = true then 0 else 2) else thawsI ⟨ps, qs, rs, may, sink, tilt⟩ ts) := Lib.hid (by rw [← hp, ← hl, ← hm]; rfl)
  have H6 : Hid (thawsI ⟨ps, qs, rs, may, sink, tilt⟩ ts = 0 → 1 ≤ np ∧ np ≤ 6) := Lib.hid (fun h => by rw [← hp]; exact sit_np (thawsI_0 h).1)
  unfold maxLen at hn hp2 hm2
  obtain ⟨z0, z1, hb0⟩ := two_boxes w (.cells #[.slice AP np cp, .slice AQ nq cq, .slice AR nr cr, .int .i64 may, .int .i64 sink, .int .i64 tilt] 26) (.cells #[.int .i64 (n : Int), .int .i64 (m : Int)] 3)
  have hi := two_ints (w.alloc (.cells #[.slice AP np cp, .slice AQ nq cq, .slice AR nr cr, .int .i64 may, .int .i64 sink, .int .i64 tilt] 26)) (n : Int) (m : Int)
  rw [show (w.alloc (.cells #[.slice AP np cp, .slice AQ nq cq, .slice AR nr cr, .int .i64 may, .int .i64 sink, .int .i64 tilt] 26)).heap.size = w.heap.size + 1 by simp] at hi
  obtain ⟨w1, hw1⟩ : ∃ z, (w.alloc (.cells #[.slice AP np cp, .slice AQ nq cq, .slice AR nr cr, .int .i64 may, .int .i64 sink, .int .i64 tilt] 26)).alloc (.cells #[.int .i64 (n : Int), .int .i64 (m : Int)] 3) = z := ⟨_, rfl⟩
  rw [hw1] at z0 hb0 hi
  have Z0 := Lib.hid z0; have HB1 := Lib.hid hb0; have HI := Lib.hid hi
  obtain ⟨p0, p1, p2, p3, p4, p5⟩ := site_box z0
  clear z0 z1 hb0 hi hp hq hr hl hm hP hQ hR hT hL hq2 hr2
  go_enter Tryz.func76, Tryz.ntmps76
  go_wp2_with fail
  refine (tooLong_any _ 2 2 [(n : Int), (m : Int)] w1 rfl (by decide) HI.out).mono ?_
  rintro e w' ⟨rfl, rfl⟩
  by_cases h10 : 10 < (n : Int) ∨ 10 < (m : Int)
  · have hb : ([(n : Int), (m : Int)].any fun x => decide (10 < x)) = true := by simpa using h10
    rw [hb]
    have HV := Lib.hid (HCI.out.trans (if_pos h10))
    clear h10 hb
    go_wp2_with fail
    go_ret
    exact ⟨by rw [HV.out]; rfl, HB1.out⟩
  · have hb : ([(n : Int), (m : Int)].any fun x => decide (10 < x)) = false := by simpa using h10
    rw [hb]
    have HV := Lib.hid (HCI.out.trans (if_neg h10))
    clear hb h10
    go_wp2_with fail
    refine (checkThaws_any AP AQ AR A np cp nq cq nr cr n c ps qs rs may sink tilt ts w1 HP.out HP2.out (HPA.out.up HB1.out) HQ.out HQ2.out (HQA.out.up HB1.out) HR.out HR2.out (HRA.out.up HB1.out) HL.out HN.out (HT.out.up HB1.out)).mono ?_
    rintro e w2 ⟨rfl, hb⟩
    have HB2 := Lib.hid (HB1.out.trans (hb.mono HB1.out.size))
    have Y0 := Lib.hid ((hb.block _ (heapsz Z0.out)).trans Z0.out)
    clear hb p0 p1 p2 p3 p4 p5
    obtain ⟨E, hE⟩ : ∃ z, thawsI ⟨ps, qs, rs, may, sink, tilt⟩ ts = z := ⟨_, rfl⟩
    have HV2 := HV.out
    rw [hE] at HV2 ⊢
    have H62 := H6.out
    rw [hE] at H62
    have HV3 := Lib.hid HV2
    clear HV2 hE
    by_cases hE0 : E = 0
    · subst hE0
      have h6 := H62 rfl
      have HV4 := Lib.hid (HV3.out.trans (if_pos rfl))
      clear H62
      by_cases hmn : m = n
      · subst hmn
        have HV5 : Hid (planI ⟨ps, qs, rs, may, sink, tilt⟩ ts plan = if planB np plan = true then 0 else 2) := Lib.hid (HV4.out.trans (by simp))
        obtain ⟨T, hT⟩ : ∃ z, (2 ^ np : Int) = z := ⟨_, rfl⟩
        have hT2 := pow_bd h6.1 h6.2
        obtain ⟨S, hS⟩ : ∃ z, T - 1 = z := ⟨_, rfl⟩
        have HS : Hid (planB np plan = plan.all fun x => inB 0 x S) := Lib.hid (by rw [← hS, ← hT]; rfl)
        have S1 : Hid (Value.int .i64 (wrap64 (2 ^ np)) = Value.int .i64 T) := Lib.hid (by rw [hT] at hT2 ⊢; congr 1; exact w64 (by omega))
        have S2 : Hid (Value.int .i64 (wrap64 (T - 1)) = Value.int .i64 S) := Lib.hid (by rw [hT] at hT2; rw [hS]; congr 1; exact w64 (by omega))
        clear hT hS hT2
        go_wp2_with fail
        go_loopw [29] (fun i wr => ∃ k : Nat, k ≤ m ∧ i = .int .i64 k ∧ (plan.take k).all (fun x => inB 0 x S) = true ∧ Below w.heap.size w wr ∧ wr.heap[w.heap.size]? = some (.cells #[.slice AP np cp, .slice AQ nq cq, .slice AR nr cr, .int .i64 may, .int .i64 sink, .int .i64 tilt] 26 (0, 0))) (fun i _ => m - (intOf i).toNat)
        case atStart => exact ⟨0, Nat.zero_le _, rfl, by simp, HB2.out, Y0.out⟩
        case round =>
          obtain ⟨k, hk, rfl, hall, hbr, hz⟩ := hrel
          have HALL := Lib.hid hall; have HBR := Lib.hid hbr; have HZ := Lib.hid hz
          clear hall
          by_cases hlt : k < m
          · obtain ⟨x, hx⟩ := get_of_lt (l := plan) (k := k) (by rw [HM.out]; exact hlt)
            obtain ⟨b, o, rfl, hb, hcs⟩ := int_cells HLA.out (by intro h; rw [h] at hx; simp at hx)
            have c0 := ((bcell hbr).1 _ _ hb).trans (hcs k x hx)
            have HX := Lib.hid hx
            obtain ⟨p0, p1, p2, p3, p4, p5⟩ := site_box hz
            have hk0 : (0 : Int) ≤ (k : Int) := by omega
            have hk1 : (k : Int) < (m : Int) := by omega
            clear hx hcs hbr hz hb p1 p2 p3 p4 p5
            have s1 := S1.out
            have s2 := S2.out
            cases q : inB 0 x S with
            | false =>
              have HF := Lib.hid (HV5.out.trans (by rw [HS.out, all_no HX.out q]; rfl) : planI ⟨ps, qs, rs, may, sink, tilt⟩ ts plan = 2)
              go_wp2_with (first
                | (go_at_call 67; refine (from_any _ _ _ _).mono ?_; rintro e w' ⟨rfl, rfl⟩)
                | fail)
              go_ret
              exact ⟨by rw [HF.out]; rfl, HBR.out⟩
            | true =>
              have HF := Lib.hid (take_all HX.out HALL.out q)
              go_wp2_with (first
                | (go_at_call 67; refine (from_any _ _ _ _).mono ?_; rintro e w' ⟨rfl, rfl⟩)
                | fail)
              exact ⟨⟨k + 1, by omega, by go_num, HF.out, HBR.out, HZ.out⟩, by simp [intOf]; omega⟩
          · have hke : k = m := by omega
            have hk1 : ¬ (k : Int) < (m : Int) := by omega
            clear hbr hz
            have HF : Hid (planB np plan = true) := Lib.hid (by
              have := HALL.out
              rw [List.take_of_length_le (by rw [HM.out]; omega)] at this
              rw [HS.out, this])
            go_wp2_with fail
            go_ret
            exact ⟨by rw [HV5.out, HF.out]; rfl, HBR.out⟩
      · have HV5 : Hid (planI ⟨ps, qs, rs, may, sink, tilt⟩ ts plan = 2) := Lib.hid (HV4.out.trans (if_neg (fun h => hmn h.1)))
        have hmn' : ¬ (m : Int) = (n : Int) := by omega
        go_wp2_with fail
        go_ret
        exact ⟨by rw [HV5.out]; rfl, HB2.out⟩
    · have HV4 : Hid (planI ⟨ps, qs, rs, may, sink, tilt⟩ ts plan = E) := Lib.hid (HV3.out.trans (if_neg hE0))
      clear H62
      go_wp2_with fail
      go_ret
      exact ⟨by rw [HV4.out]; rfl, HB2.out⟩
end Go.Proofs.YtdlaphlpimlgdaaGreatDoor
/- The statement's tests: thaws, sites, plans. -/
namespace Go.Proofs.YtdlaphlpimlgdaaGreatDoor
open Go.RowKit

set_option maxRecDepth 100000 in
set_option maxHeartbeats 4000000 in
theorem refThaws_any (AP AQ AR A : Option Addr) (np cp nq cq nr cr n c : Nat) (may sink tilt : Int) (ts : List (List Sp)) (w : World) (hp2 : np ≤ maxLen) (hl : ts.length = n) (hn : n ≤ maxLen) (hT : SpsAt w w.heap.size A ts) :
    Calls Tryz.prog 75 #[.agg #[.slice AP np cp, .slice AQ nq cq, .slice AR nr cr, .int .i64 may, .int .i64 sink, .int .i64 tilt], .slice A n c] w fun e w' => e = .returned (.bool (thawsB (np : Int) ts)) ∧ Below w.heap.size w w' := by
  have HL := Lib.hid hl
  have HT := Lib.hid hT
  unfold maxLen at hn hp2
  have hb0 := (Below.refl w.heap.size w).alloc (Nat.le_refl _) (.cells #[.slice AP np cp, .slice AQ nq cq, .slice AR nr cr, .int .i64 may, .int .i64 sink, .int .i64 tilt] 26)
  have z0 := heap_alloc_new w (.cells #[.slice AP np cp, .slice AQ nq cq, .slice AR nr cr, .int .i64 may, .int .i64 sink, .int .i64 tilt] 26)
  clear hl hT
  go_enter Tryz.func75, Tryz.ntmps75
  go_wp2_with fail
  go_loopw [5] (fun i wr => ∃ k : Nat, k ≤ n ∧ i = .int .i64 k ∧ (ts.take k).all (rowB (np : Int)) = true ∧ Below w.heap.size w wr ∧ wr.heap[w.heap.size]? = some (.cells #[.slice AP np cp, .slice AQ nq cq, .slice AR nr cr, .int .i64 may, .int .i64 sink, .int .i64 tilt] 26 (0, 0))) (fun i _ => n - (intOf i).toNat)
  case atStart => exact ⟨0, Nat.zero_le _, rfl, by simp, hb0, z0⟩
  case round =>
    obtain ⟨k, hk, rfl, hall, hbr, hz⟩ := hrel
    have HALL := Lib.hid hall; have HBR := Lib.hid hbr; have HZ := Lib.hid hz
    clear hall
    by_cases hlt : k < n
    · obtain ⟨x, hx⟩ := get_of_lt (l := ts) (k := k) (by rw [HL.out]; exact hlt)
      obtain ⟨b, o, rfl, hb, hcs⟩ := HT.out (by intro h; rw [h] at hx; simp at hx)
      obtain ⟨A', c', e1, e2, e3, e4⟩ := hcs k x hx
      have ltb : b < wr.heap.size := Nat.lt_of_lt_of_le hb hbr.size
      have HX := Lib.hid hx
      have HX2 := Lib.hid e2
      have HB := Lib.hid hb
      obtain ⟨m, hm⟩ : ∃ m, x.length = m := ⟨_, rfl⟩
      rw [hm] at e1 e3 e4
      have HE1 := Lib.hid e1
      unfold maxLen at e3
      have HM := Lib.hid hm
      have c0 : ∀ q : KeptW wr, q.w.cell? ⟨b, o + k, none⟩ = some (.slice A' m c') := fun q => ((bcell q.h).1 _ _ ltb).trans (((bcell hbr).1 _ _ hb).trans e1)
      have ltz := heapsz hz
      have q0 := (site_box hz).1
      have p0 : ∀ q : KeptW wr, q.w.cell? ⟨w.heap.size, 0, none⟩ = some (.slice AP np cp) := fun q => ((bcell q.h).1 _ 0 ltz).trans q0
      have hk0 : (0 : Int) ≤ (k : Int) := by omega
      have hk1 : (k : Int) < (n : Int) := by omega
      have HR1 : Hid (rowB (np : Int) x = (decide ((m : Int) = np) && x.all spB)) := Lib.hid (by rw [← hm]; rfl)
      clear hx hcs hbr hz hb e1 e2 hm q0 ltz
      by_cases hmn : m = np
      · subst hmn
        have HR2 : Hid (rowB (m : Int) x = x.all spB) := Lib.hid (by rw [HR1.out]; simp)
        go_wp2_with fail
        refine rk_region (by kernel_rfl) (by kernel_rfl) ?_
        repeat (go_big_quiet_step (fail))
        refine wpQuiet_nil ?_
        rintro _ ⟨⟨wz, hbz⟩, rfl⟩
        have BZ := Lib.hid (HBR.out.trans (hbz.mono HBR.out.size))
        have ZZ := Lib.hid ((hbz.block _ (heapsz HZ.out)).trans HZ.out)
        clear c0 p0 hbz
        go_wp2_with fail
        go_loopw [6] (fun i wq => ∃ j : Nat, j ≤ m ∧ i = .int .i64 j ∧ (x.take j).all spB = true ∧ Below w.heap.size w wq ∧ wq.heap[w.heap.size]? = some (.cells #[.slice AP m cp, .slice AQ nq cq, .slice AR nr cr, .int .i64 may, .int .i64 sink, .int .i64 tilt] 26 (0, 0))) (fun i _ => m - (intOf i).toNat)
        case atStart => exact ⟨0, Nat.zero_le _, rfl, by simp, BZ.out, ZZ.out⟩
        case round =>
          obtain ⟨j, hj, rfl, hall, hbq, hzq⟩ := hrel
          have HALQ := Lib.hid hall; have HBQ := Lib.hid hbq; have HZQ := Lib.hid hzq
          have c0 := ((bcell hbq).1 _ _ HB.out).trans HE1.out
          clear hall
          by_cases hlj : j < m
          · obtain ⟨y, hy⟩ := get_of_lt (l := x) (k := j) (by rw [HM.out]; exact hlj)
            obtain ⟨b', o', rfl, hb', hcs'⟩ := pr_cells HX2.out (by intro h; rw [h] at hy; simp at hy)
            obtain ⟨d0, d1⟩ := hcs' j y hy
            replace d0 := ((bcell hbq).1 _ _ hb').trans d0
            replace d1 := ((bcell hbq).1 _ _ hb').trans d1
            have HY := Lib.hid hy
            obtain ⟨u, v⟩ := y
            simp only at d0 d1
            have hj0 : (0 : Int) ≤ (j : Int) := by omega
            have hj1 : (j : Int) < (m : Int) := by omega
            clear hy hcs' hbq hzq hb'
            go_wp2_with fail
            refine (thaw_any u v _).mono ?_
            rintro e w3 ⟨rfl, hb3⟩
            have HB3 := Lib.hid (HBQ.out.trans (hb3.mono HBQ.out.size))
            have HZ3 := Lib.hid ((hb3.block _ (heapsz HZQ.out)).trans HZQ.out)
            clear hb3 d0 d1 c0
            cases q : withinB 0 u v 50000 with
            | false =>
              have HF := Lib.hid (show spB (u, v) = false from q)
              clear q
              go_wp2_with fail
              go_ret
              exact ⟨by rw [show thawsB (m : Int) ts = false from all_no HX.out (by rw [HR2.out]; exact all_no HY.out HF.out)]; rfl, HB3.out⟩
            | true =>
              have HF := Lib.hid (show spB (u, v) = true from q)
              clear q
              go_wp2_with fail
              exact ⟨⟨j + 1, by omega, by go_num, take_all HY.out HALQ.out HF.out, HB3.out, HZ3.out⟩, by simp [intOf]; omega⟩
          · have hje : j = m := by omega
            have hj1 : ¬ (j : Int) < (m : Int) := by omega
            have HF : Hid (rowB (m : Int) x = true) := Lib.hid (by
              have := HALQ.out
              rw [List.take_of_length_le (by rw [HM.out]; omega)] at this
              rw [HR2.out, this])
            clear hbq hzq
            go_wp2_with fail
            exact ⟨⟨k + 1, by omega, by go_num, take_all HX.out HALL.out HF.out, HBQ.out, HZQ.out⟩, by simp [intOf]; omega⟩
      · have HF : Hid (rowB (np : Int) x = false) := Lib.hid (by rw [HR1.out, decide_eq_false (by omega)]; rfl)
        go_wp2_with fail
        refine rk_region (by kernel_rfl) (by kernel_rfl) ?_
        repeat (go_big_quiet_step (fail))
        refine wpQuiet_nil ?_
        rintro _ ⟨⟨wz, hbz⟩, rfl⟩
        have BZ := Lib.hid (HBR.out.trans (hbz.mono HBR.out.size))
        clear c0 p0 hbz
        go_wp2_with fail
        go_ret
        exact ⟨by rw [show thawsB (np : Int) ts = false from all_no HX.out HF.out]; rfl, BZ.out⟩
    · have hke : k = n := by omega
      have hk1 : ¬ (k : Int) < (n : Int) := by omega
      clear hbr hz
      have HF : Hid (thawsB (np : Int) ts = true) := Lib.hid (by
        have := HALL.out
        rw [List.take_of_length_le (by rw [HL.out]; omega)] at this
        exact this)
      go_wp2_with fail
      go_ret
      exact ⟨by rw [HF.out]; rfl, HBR.out⟩
end Go.Proofs.YtdlaphlpimlgdaaGreatDoor
/- The statement's test of plans. -/
namespace Go.Proofs.YtdlaphlpimlgdaaGreatDoor
open Go.RowKit

theorem pow_le {k np : Nat} (h : k ≤ np) (h2 : np ≤ 6) : 1 ≤ (2 ^ k : Int) ∧ (2 ^ k : Int) ≤ 64 := by
  have : k = 0 ∨ k = 1 ∨ k = 2 ∨ k = 3 ∨ k = 4 ∨ k = 5 ∨ k = 6 := by omega
  rcases this with rfl | rfl | rfl | rfl | rfl | rfl | rfl <;> decide
set_option maxRecDepth 100000 in
set_option maxHeartbeats 4000000 in
theorem refPlan_any (AP AQ AR A2 : Option Addr) (np cp nq cq nr cr m c2 yrs : Nat) (may sink tilt : Int) (plan : List Int) (w : World) (h6 : np ≤ 6) (hm : plan.length = m) (hm2 : m ≤ maxLen) (hL : IntsAt w w.heap.size A2 plan) :
    Calls Tryz.prog 48 #[.agg #[.slice AP np cp, .slice AQ nq cq, .slice AR nr cr, .int .i64 may, .int .i64 sink, .int .i64 tilt], .slice A2 m c2, .int .i64 (yrs : Int)] w fun e w' => e = .returned (.bool (planB np plan && decide (m = yrs))) ∧ Below w.heap.size w w' := by
  have HM := Lib.hid hm
  have HLA := Lib.hid hL
  unfold maxLen at hm2
  have HB0 := Lib.hid ((Below.refl w.heap.size w).alloc (Nat.le_refl _) (.cells #[.slice AP np cp, .slice AQ nq cq, .slice AR nr cr, .int .i64 may, .int .i64 sink, .int .i64 tilt] 26))
  have z0 := heap_alloc_new w (.cells #[.slice AP np cp, .slice AQ nq cq, .slice AR nr cr, .int .i64 may, .int .i64 sink, .int .i64 tilt] 26)
  obtain ⟨W, hW⟩ : ∃ z, w.alloc (.cells #[.slice AP np cp, .slice AQ nq cq, .slice AR nr cr, .int .i64 may, .int .i64 sink, .int .i64 tilt] 26) = z := ⟨_, rfl⟩
  rw [hW] at HB0 z0
  have p0 := (site_box z0).1
  clear hm hL z0
  go_enter Tryz.func48, Tryz.ntmps48
  go_wp2_with fail
  go_loopw [7, 8] (fun s i wr => ∃ k : Nat, k ≤ np ∧ i = .int .i64 k ∧ s = .int .i64 (2 ^ k : Int) ∧ wr = W) (fun _ i _ => np - (intOf i).toNat)
  case atStart => exact ⟨0, Nat.zero_le _, rfl, rfl, rfl⟩
  case round =>
    obtain ⟨k, hk, rfl, rfl, rfl⟩ := hrel
    by_cases hlt : k < np
    · have hk1 : (k : Int) < (np : Int) := by omega
      obtain ⟨T, eT⟩ : ∃ z, (2 ^ k : Int) = z := ⟨_, rfl⟩
      have hT := pow_le hk h6
      have hT2 : (2 ^ (k + 1) : Int) = 2 * T := by rw [Int.pow_succ, eT, Int.mul_comm]
      have HT2 := Lib.hid hT2
      rw [eT] at hT ⊢
      have sT : Value.int .i64 (wrap64 (2 * T)) = Value.int .i64 (2 * T) := by congr 1; exact w64 (by omega)
      clear hT2 eT
      go_wp2_with fail
      exact ⟨⟨k + 1, by omega, by go_num, by rw [HT2.out], trivial⟩, by simp [intOf]; omega⟩
    · have hke : k = np := by omega
      have hk1 : ¬ (k : Int) < (np : Int) := by omega
      have hT := pow_le hk h6
      obtain ⟨S, hS⟩ : ∃ z, (2 ^ k : Int) - 1 = z := ⟨_, rfl⟩
      have HS : Hid (planB np plan = plan.all fun x => inB 0 x S) := Lib.hid (by rw [← hS, hke]; rfl)
      obtain ⟨T, eT⟩ : ∃ z, (2 ^ k : Int) = z := ⟨_, rfl⟩
      rw [eT] at hT hS ⊢
      have S2 : Hid (Value.int .i64 (wrap64 (T - 1)) = Value.int .i64 S) := Lib.hid (by rw [hS]; congr 1; exact w64 (by omega))
      clear hT eT hS
      go_wp2_with fail
      clear p0
      go_loopw [9] (fun i wq => ∃ j : Nat, j ≤ m ∧ i = .int .i64 j ∧ (plan.take j).all (fun x => inB 0 x S) = true ∧ Below w.heap.size w wq) (fun i _ => m - (intOf i).toNat)
      case atStart => exact ⟨0, Nat.zero_le _, rfl, by simp, HB0.out⟩
      case round =>
        obtain ⟨j, hj, rfl, hall, hbr⟩ := hrel
        have HALL := Lib.hid hall; have HBR := Lib.hid hbr
        clear hall
        by_cases hlj : j < m
        · obtain ⟨x, hx⟩ := get_of_lt (l := plan) (k := j) (by rw [HM.out]; exact hlj)
          obtain ⟨b, o, rfl, hb, hcs⟩ := int_cells HLA.out (by intro h; rw [h] at hx; simp at hx)
          have c0 := ((bcell hbr).1 _ _ hb).trans (hcs j x hx)
          have HX := Lib.hid hx
          have hj0 : (0 : Int) ≤ (j : Int) := by omega
          have hj1 : (j : Int) < (m : Int) := by omega
          have s2 := S2.out
          clear hx hcs hbr hb
          cases q : inB 0 x S with
          | false =>
            have HF := Lib.hid (HS.out.trans (all_no HX.out q))
            go_wp2_with (first
              | (go_at_call 74; refine (in_any _ _ _ _).mono ?_; rintro e w' ⟨rfl, rfl⟩)
              | fail)
            go_ret
            exact ⟨by rw [HF.out]; rfl, HBR.out⟩
          | true =>
            have HF := Lib.hid (take_all HX.out HALL.out q)
            go_wp2_with (first
              | (go_at_call 74; refine (in_any _ _ _ _).mono ?_; rintro e w' ⟨rfl, rfl⟩)
              | fail)
            exact ⟨⟨j + 1, by omega, by go_num, HF.out, HBR.out⟩, by simp [intOf]; omega⟩
        · have hje : j = m := by omega
          have hj1 : ¬ (j : Int) < (m : Int) := by omega
          clear hbr
          have HF : Hid (planB np plan = true) := Lib.hid (by
            have := HALL.out
            rw [List.take_of_length_le (by rw [HM.out]; omega)] at this
            rw [HS.out, this])
          by_cases hmy : (m : Int) = (yrs : Int)
          · have HD : Hid (decide (m = yrs) = true) := Lib.hid (decide_eq_true (by omega))
            go_wp2_with fail
            go_ret
            exact ⟨by rw [HF.out, HD.out]; simp, HBR.out⟩
          · have HD : Hid (decide (m = yrs) = false) := Lib.hid (decide_eq_false (by omega))
            go_wp2_with fail
            go_ret
            exact ⟨by rw [HF.out, HD.out]; simp; omega, HBR.out⟩
end Go.Proofs.YtdlaphlpimlgdaaGreatDoor
