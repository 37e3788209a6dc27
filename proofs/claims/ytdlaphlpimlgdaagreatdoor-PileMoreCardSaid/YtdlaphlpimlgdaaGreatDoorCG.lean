/- The levels of all piles, as the specification has them. -/
import Derived.Test.YtdlaphlpimlgdaaGreatDoorCM
namespace Go.Proofs.YtdlaphlpimlgdaaGreatDoor
open Go.RowKit

/-- An operation that leaves a fixed value, and the world as it is. -/
theorem relQ {P : Program} {w : World} {rels : List (Tmp × Nat)} {cv : Tmp → Value} {F : Nat → Value → World → Prop} {i : Nat} {o : Oper} {g : Nat → Value} {u : KeptW w} (d : Tmp) (hd : o.dst = some d) (hF : F i (cv d) u.w)
    (he : (execOp (evalBy (rhoT rels cv g)) o).run P u.w = .ok (.value (cv d)) u.w) :
    Yield P (fun v w' => Below u.w.heap.size u.w w' ∧ F i v w' ∧ ∀ d, o.dst = some d → relOf rels d = none → v = cv d) ((execOp (evalBy (rhoT rels cv g)) o).run P u.w) := by
  rw [he]
  exact ⟨Below.refl _ _, hF, fun e he' _ => by rw [hd] at he'; injection he' with he'; subst he'; rfl⟩
/-- A call. -/
theorem relC {P : Program} {w : World} {rels : List (Tmp × Nat)} {cv : Tmp → Value} {F : Nat → Value → World → Prop} {i : Nat} {o : Oper} {g : Nat → Value} {u : KeptW w} (f : FuncId) (args : Array Value)
    (he : (execOp (evalBy (rhoT rels cv g)) o).run P u.w = .ok (.enter f args) u.w)
    (hc : Calls P f args u.w fun e w' => ∃ v, e = .returned v ∧ Below u.w.heap.size u.w w' ∧ F i v w' ∧ ∀ d, o.dst = some d → relOf rels d = none → v = cv d) :
    Yield P (fun v w' => Below u.w.heap.size u.w w' ∧ F i v w' ∧ ∀ d, o.dst = some d → relOf rels d = none → v = cv d) ((execOp (evalBy (rhoT rels cv g)) o).run P u.w) := by
  rw [he]
  exact hc
/-- An operation that hands on what another one has left. -/
theorem relM {P : Program} {w : World} {rels : List (Tmp × Nat)} {cv : Tmp → Value} {F : Nat → Value → World → Prop} {i : Nat} {o : Oper} {g : Nat → Value} {u : KeptW w} (v : Value) (hF : F i v u.w) (hd : ∀ d, o.dst = some d → relOf rels d = none → v = cv d)
    (he : (execOp (evalBy (rhoT rels cv g)) o).run P u.w = .ok (.value v) u.w) :
    Yield P (fun v w' => Below u.w.heap.size u.w w' ∧ F i v w' ∧ ∀ d, o.dst = some d → relOf rels d = none → v = cv d) ((execOp (evalBy (rhoT rels cv g)) o).run P u.w) := by
  rw [he]
  exact ⟨Below.refl _ _, hF, hd⟩
def TruG (n : Nat) (L : List (List Tru)) (v : Value) (w : World) : Prop := ∃ A c, v = .slice A n c ∧ GridAt 3 truR w w.heap.size A L
def LvsV (m : Nat) (L : List (List Int)) (v : Value) (w : World) : Prop := ∃ A c, v = .slice A m c ∧ LvsAt w w.heap.size A L
theorem TruG.next {n : Nat} {L : List (List Tru)} {v : Value} {w w' : World} (h : TruG n L v w) (hb : Below w.heap.size w w') : TruG n L v w' := by
  obtain ⟨A, c, e, h⟩ := h
  exact ⟨A, c, e, h.up hb⟩
theorem LvsV.next {n : Nat} {L : List (List Int)} {v : Value} {w w' : World} (h : LvsV n L v w) (hb : Below w.heap.size w w') : LvsV n L v w' := by
  obtain ⟨A, c, e, h⟩ := h
  exact ⟨A, c, e, h.up hb⟩
def rlF (n m : Nat) (T1 T2 : List (List Tru)) (L1 L2 : List (List Int)) : Nat → Value → World → Prop
  | 4, v, w => TruG n T1 v w
  | 5, v, w => LvsV m L1 v w
  | 10, v, w => TruG n T2 v w
  | 11, v, w => LvsV m L2 v w
  | 12, v, w => LvsV m L1 v w
  | 13, v, w => LvsV m L2 v w
  | _, _, _ => True
theorem rlF_keep (n m : Nat) (T1 T2 : List (List Tru)) (L1 L2 : List (List Int)) (i : Nat) (v : Value) (w1 w2 : World) (h : rlF n m T1 T2 L1 L2 i v w1) (hb : Below w1.heap.size w1 w2) : rlF n m T1 T2 L1 L2 i v w2 := by
  unfold rlF at *
  split
  · exact TruG.next h hb
  · exact LvsV.next h hb
  · exact TruG.next h hb
  · exact LvsV.next h hb
  · exact LvsV.next h hb
  · exact LvsV.next h hb
  · trivial
def rlCv (sv tv pv : Value) (bs : Nat) : Tmp → Value
  | 3 => .pointer (some ⟨bs, 0, none⟩)
  | 2 => pv
  | 1 => tv
  | 13 => sv
  | 14 => pv
  | 15 => sv
  | 16 => tv
  | 19 => sv
  | 20 => pv
  | 21 => sv
  | 22 => tv
  | _ => undef
theorem setF_ends (X : Ctx) (most : Bool) {t i : Nat} (ht : t < X.n) (hi : i < X.np) : setF (X.endsL most) t i = (X.endT most t i).s := by
  unfold setF Ctx.endsL
  simp only [List.getD_eq_getElem?_getD]
  rw [gridL_at _ ht, Option.getD_some, rowL_at _ hi, Option.getD_some]
theorem ends_set {X : Ctx} (K : X.Ok) (most : Bool) : ∀ row ∈ X.endsL most, ∀ x ∈ row, 0 ≤ x.s ∧ x.s ≤ 1000 := by
  intro row hr x hx
  unfold Ctx.endsL gridL at hr
  obtain ⟨t, _, rfl⟩ := List.mem_map.1 hr
  obtain ⟨i, _, rfl⟩ := List.mem_map.1 hx
  cases most with
  | true => exact K.most_in t i
  | false => exact K.least_in t i
theorem ends_lv {X : Ctx} (K : X.Ok) {plan : List Int} (hp : plan.length = X.n) :
    lvT (setF (X.endsL true)) plan X.np = lvT (mostF X.ps X.rs X.ts) plan X.ps.length ∧ lvT (setF (X.endsL false)) plan X.np = lvT (leastF X.ps X.rs X.ts) plan X.ps.length := by
  rw [K.hp]
  exact ⟨lvT_eq fun t i ht hi => (setF_ends X true (by omega) hi).symm, lvT_eq fun t i ht hi => (setF_ends X false (by omega) hi).symm⟩
theorem prR_len (x : Int × Int) : (prR x).length = 2 := rfl
def sgCv (v va vb : Value) (ba oa bb ob b1 o1 b2 o2 np c1 c2 t i : Nat) (x y : Int) : Tmp → Value
  | 11 => v
  | 7 => va
  | 10 => .int .i64 (t : Int)
  | 12 => .int .i64 (i : Int)
  | 8 => vb
  | 40 => v
  | 41 => va
  | 42 => .int .i64 (t : Int)
  | 43 => .pointer (some ⟨ba, oa + t, none⟩)
  | 44 => .slice (some ⟨b1, o1, none⟩) np c1
  | 45 => .int .i64 (i : Int)
  | 46 => .pointer (some ⟨b1, o1 + i, none⟩)
  | 47 => .int .i64 x
  | 48 => vb
  | 49 => .int .i64 (t : Int)
  | 50 => .pointer (some ⟨bb, ob + t, none⟩)
  | 51 => .slice (some ⟨b2, o2, none⟩) np c2
  | 52 => .int .i64 (i : Int)
  | 53 => .pointer (some ⟨b2, o2 + i, none⟩)
  | 54 => .int .i64 y
  | 55 => .agg #[.int .i64 x, .int .i64 y]
  | _ => undef
section
attribute [local irreducible] QT
set_option maxRecDepth 100000 in
set_option maxHeartbeats 8000000 in
theorem refLevels_any {X : Ctx} {w : World} (h : X.In w) (A2 : Option Addr) (m c2 : Nat) (plan : List Int) (hm : plan.length = m) (hL : IntsAt w w.heap.size A2 plan) (h0 : planI X.sit X.ts plan = 0) :
    Calls Tryz.prog 30 #[X.sv, X.tv, .slice A2 m c2] w fun e w' => ∃ A3 c3, e = .returned (.slice A3 m c3) ∧ SpsAt w' w'.heap.size A3 (spanL X.ps X.rs X.ts plan) ∧ m ≤ c3 ∧ Below w.heap.size w w' := by
  obtain ⟨z0, hb0⟩ := site_new X w
  obtain ⟨hth, hpl, hpb0⟩ := planI_0 h0
  have K : X.Ok := ⟨h.hp, h.hq, h.hr, h.hl, hth⟩
  have hmn : m = X.n := by rw [← hm, hpl, h.hl]
  have hpb : planB X.np plan = true := by rw [← h.hp]; exact hpb0
  have HK := Lib.hid K; have HTH := Lib.hid hth; have HPB := Lib.hid hpb; have HM := Lib.hid hm
  have np6 := K.np6; have n10 := K.n10
  obtain ⟨g1, g2⟩ := ends_lv K (hm.trans hmn)
  have G1 := Lib.hid g1; have G2 := Lib.hid g2
  have hsp : spanL X.ps X.rs X.ts plan = zipL (lvT (mostF X.ps X.rs X.ts) plan X.ps.length) (lvT (leastF X.ps X.rs X.ts) plan X.ps.length) := rfl
  rw [hsp]
  have E1 := Lib.hid (ends_set K true); have E2 := Lib.hid (ends_set K false)
  have HNP := Lib.hid h.hp
  have hlenA : ∀ f : Nat → Nat → Int, (lvT f plan X.ps.length).length = m ∧ ∀ r ∈ lvT f plan X.ps.length, r.length = X.np := fun f => ⟨by unfold lvT; rw [List.length_map, List.length_range]; exact hm, fun r hr => by rw [← h.hp]; exact lvT_rows r hr⟩
  have LA1 := Lib.hid (hlenA (mostF X.ps X.rs X.ts)); have LA2 := Lib.hid (hlenA (leastF X.ps X.rs X.ts))
  obtain ⟨LA, hLA⟩ : ∃ z, lvT (mostF X.ps X.rs X.ts) plan X.ps.length = z := ⟨_, rfl⟩
  obtain ⟨LB, hLB⟩ : ∃ z, lvT (leastF X.ps X.rs X.ts) plan X.ps.length = z := ⟨_, rfl⟩
  rw [hLA] at G1 LA1 ⊢
  rw [hLB] at G2 LA2 ⊢
  obtain ⟨w1, hw1⟩ : ∃ z, w.alloc (.cells X.cells 26) = z := ⟨_, rfl⟩
  rw [hw1] at z0 hb0
  have HI := Lib.hid (h.up hb0); have HB := Lib.hid hb0; have HL := Lib.hid (RowAt.up (k := 1) (R := intR) hL hb0)
  have Z0 := Lib.hid z0
  clear h h0 z0 hb0 K hth hpl hpb hpb0 hm hL g1 g2 hsp hLA hLB hlenA
  subst hmn
  go_enter Tryz.func30, Tryz.ntmps30
  go_wp2_with fail
  refine rel_region [3, 2, 1] [(17, 4), (18, 5), (23, 10), (24, 11), (7, 12), (8, 13)] (rlCv X.sv X.tv (.slice A2 X.n c2) w.heap.size) (rlF X.n X.n (X.endsL true) (X.endsL false) LA LB) (by kernel_rfl) (by kernel_rfl) (by kernel_rfl) (by kernel_rfl) (by kernel_rfl) (by kernel_rfl) ?_ (rlF_keep X.n X.n (X.endsL true) (X.endsL false) LA LB) ?_ ?_
  · intro t ht
    simp only [List.mem_cons, List.not_mem_nil, or_false] at ht
    rcases ht with rfl | rfl | rfl <;> rfl
  · refine allOps_array ?_
    have hp : ∀ u : KeptW w1, _ := fun u => site_box ((u.h.block _ (heapsz Z0.out)).trans Z0.out)
    have hends : ∀ (most : Bool) (u : KeptW w1), Calls Tryz.prog 39 #[X.sv, X.tv, .bool most] u.w fun e w' => ∃ v, e = .returned v ∧ Below u.w.heap.size u.w w' ∧ TruG X.n (X.endsL most) v w' := fun most u =>
      (refEnds_any (HI.out.up u.h) HTH.out most).mono (by
        rintro e w' ⟨A3, c3, rfl, g1, _, g3⟩
        exact ⟨_, rfl, g3, A3, c3, rfl, g1⟩)
    have hplay : ∀ (most : Bool) (LL : List (List Int)) (v : Value) (u : KeptW w1), lvT (setF (X.endsL most)) plan X.np = LL → (∀ row ∈ X.endsL most, ∀ x ∈ row, 0 ≤ x.s ∧ x.s ≤ 1000) → TruG X.n (X.endsL most) v u.w → Calls Tryz.prog 34 #[X.sv, .slice A2 X.n c2, v] u.w fun e w' => ∃ v, e = .returned v ∧ Below u.w.heap.size u.w w' ∧ LvsV X.n LL v w' := fun most LL v u hLL hset hv => by
      obtain ⟨A, c, rfl, hg⟩ := hv
      refine (refPlay_any X.AP X.AQ X.AR A2 A X.np X.cp X.nq X.cq X.nr X.cr X.n c2 c X.may X.sink X.tilt plan (X.endsL most) u.w np6 HM.out n10 (RowAt.up (k := 1) (R := intR) HL.out u.h) HPB.out (by unfold Ctx.endsL gridL; simp) (gridL_in _) hg hset).mono ?_
      rintro e w' ⟨A3, c3, rfl, g1, _, g3⟩
      rw [hLL] at g1
      exact ⟨_, rfl, g3, A3, c3, rfl, g1⟩
    refine ⟨?_, ?_, ?_, ?_, ?_, ?_, ?_, ?_, ?_, ?_, ?_, ?_, ?_, ?_, trivial⟩ <;> intro g u hd_ <;> obtain ⟨q0, q1, q2, q3, q4, q5⟩ := hp u
    · refine ⟨rfl, relQ 13 rfl trivial ?_⟩
      simp [go_sem, evalBy, rhoT, relOf, rlCv, q0, q1, q2, q3, q4, q5]
    · refine ⟨rfl, relQ 14 rfl trivial ?_⟩
      simp [go_sem, evalBy, rhoT, relOf, rlCv]
    · refine ⟨rfl, relQ 15 rfl trivial ?_⟩
      simp [go_sem, evalBy, rhoT, relOf, rlCv, q0, q1, q2, q3, q4, q5]
    · refine ⟨rfl, relQ 16 rfl trivial ?_⟩
      simp [go_sem, evalBy, rhoT, relOf, rlCv]
    · refine ⟨rfl, relC 39 #[X.sv, X.tv, .bool true] (by simp [go_sem, evalBy, rhoT, relOf, rlCv]) ?_⟩
      refine (hends true u).mono ?_
      rintro e w' ⟨v, rfl, hb, hv⟩
      exact ⟨v, rfl, hb, hv, fun e he hn => by injection he with he; subst he; exact absurd hn (by simp [relOf])⟩
    · refine ⟨rfl, relC 34 #[X.sv, .slice A2 X.n c2, g 4] (by simp [go_sem, evalBy, rhoT, relOf, rlCv]) ?_⟩
      refine (hplay true LA (g 4) u G1.out E1.out (hd_ ⟨4, .data⟩ (by simp) rfl)).mono ?_
      rintro e w' ⟨v, rfl, hb, hv⟩
      exact ⟨v, rfl, hb, hv, fun e he hn => by injection he with he; subst he; exact absurd hn (by simp [relOf])⟩
    · refine ⟨rfl, relQ 19 rfl trivial ?_⟩
      simp [go_sem, evalBy, rhoT, relOf, rlCv, q0, q1, q2, q3, q4, q5]
    · refine ⟨rfl, relQ 20 rfl trivial ?_⟩
      simp [go_sem, evalBy, rhoT, relOf, rlCv]
    · refine ⟨rfl, relQ 21 rfl trivial ?_⟩
      simp [go_sem, evalBy, rhoT, relOf, rlCv, q0, q1, q2, q3, q4, q5]
    · refine ⟨rfl, relQ 22 rfl trivial ?_⟩
      simp [go_sem, evalBy, rhoT, relOf, rlCv]
    · refine ⟨rfl, relC 39 #[X.sv, X.tv, .bool false] (by simp [go_sem, evalBy, rhoT, relOf, rlCv]) ?_⟩
      refine (hends false u).mono ?_
      rintro e w' ⟨v, rfl, hb, hv⟩
      exact ⟨v, rfl, hb, hv, fun e he hn => by injection he with he; subst he; exact absurd hn (by simp [relOf])⟩
    · refine ⟨rfl, relC 34 #[X.sv, .slice A2 X.n c2, g 10] (by simp [go_sem, evalBy, rhoT, relOf, rlCv]) ?_⟩
      refine (hplay false LB (g 10) u G2.out E2.out (hd_ ⟨10, .data⟩ (by simp) rfl)).mono ?_
      rintro e w' ⟨v, rfl, hb, hv⟩
      exact ⟨v, rfl, hb, hv, fun e he hn => by injection he with he; subst he; exact absurd hn (by simp [relOf])⟩
    · have hv := hd_ ⟨5, .data⟩ (by simp) rfl
      refine ⟨rfl, relM (g 5) hv (fun e he hn => by injection he with he; subst he; exact absurd hn (by simp [relOf])) ?_⟩
      simp [go_sem, evalBy, rhoT, relOf]
    · have hv := hd_ ⟨11, .data⟩ (by simp) rfl
      refine ⟨rfl, relM (g 11) hv (fun e he hn => by injection he with he; subst he; exact absurd hn (by simp [relOf])) ?_⟩
      simp [go_sem, evalBy, rhoT, relOf]
  · intro g u hf
    obtain ⟨A, ca, eg1, hs1⟩ : LvsV X.n LA (g 12) u.w := hf 12 (by decide)
    obtain ⟨B, cb, eg2, hs2⟩ : LvsV X.n LB (g 13) u.w := hf 13 (by decide)
    have HBU := Lib.hid (HB.out.trans (u.h.mono HB.out.size))
    simp [putAll, Act.put, rhoT, relOf, rlCv, eg1, eg2]
    obtain ⟨w2, hw2⟩ : ∃ x, u.w = x := ⟨_, rfl⟩
    rw [hw2] at hs1 hs2 HBU ⊢
    have SN1 := Lib.hid hs1; have SN2 := Lib.hid hs2
    clear hw2 hs1 hs2 hf eg1 eg2
    go_wp2_with fail
    go_loopw [9, 10] (fun v i wr => ∃ (t : Nat) (rows : List Value), t ≤ X.n ∧ i = .int .i64 t ∧ Below w2.heap.size w2 wr ∧ GrdI prR 42 40 w w2.heap.size ((zipL LA LB).take t) v rows wr) (fun _ i _ => X.n - (intOf i).toNat)
    case atStart => exact ⟨0, [], Nat.zero_le _, rfl, Below.refl _ _, GrdI.nil HBU.out HBU.out.size⟩
    case round =>
      obtain ⟨t, rows, ht, rfl, hbr, hI⟩ := hrel
      have HG := Lib.hid hI; have HBR := Lib.hid hbr
      clear hI hbr
      by_cases hlt : t < X.n
      · have ht0 : (0 : Int) ≤ (t : Int) := by omega
        have ht1 : (t : Int) < (X.n : Int) := by omega
        obtain ⟨ra, hra⟩ := get_of_lt (l := LA) (k := t) (by rw [LA1.out.1]; exact hlt)
        obtain ⟨rb, hrb⟩ := get_of_lt (l := LB) (k := t) (by rw [LA2.out.1]; exact hlt)
        obtain ⟨ba, oa, A', n1, c1, rfl, hba, hn1, d1, p1, _⟩ := lvs_row SN1.out hra
        obtain ⟨bb, ob, B', n2, c2', rfl, hbb, hn2, d2, p2, _⟩ := lvs_row SN2.out hrb
        have l1 := LA1.out.2 ra (List.mem_of_getElem? hra)
        have l2 := LA2.out.2 rb (List.mem_of_getElem? hrb)
        rw [l1] at hn1
        rw [l2] at hn2
        rw [hn1] at d1
        rw [hn2] at d2
        have HZ : Hid ((zipL LA LB)[t]? = some (ra.zip rb)) := Lib.hid (by unfold zipL; rw [List.getElem?_zipWith, hra, hrb])
        have HRL : Hid ((ra.zip rb).length = X.np) := Lib.hid (by rw [List.length_zip, l1, l2, Nat.min_self])
        have P1 := Lib.hid p1; have P2 := Lib.hid p2; have L1 := Lib.hid l1; have L2 := Lib.hid l2
        have FD : Hid (∀ u, Below w2.heap.size w2 u → u.cell? ⟨ba, oa + t, none⟩ = some (.slice A' X.np c1) ∧ u.cell? ⟨bb, ob + t, none⟩ = some (.slice B' X.np c2')) := Lib.hid fun u hu => ⟨((bcell hu).1 _ _ hba).trans d1, ((bcell hu).1 _ _ hbb).trans d2⟩
        clear hra hrb hba hbb d1 d2 p1 p2 l1 l2 hn1 hn2
        go_wp2_with fail
        rename World => wo
        go_loopw [11, 12] (fun v i wq => ∃ k : Nat, k ≤ X.np ∧ i = .int .i64 k ∧ Below wo.heap.size wo wq ∧ wq.ownsRow wo.heap.size 42 2 v k (flatR prR ((ra.zip rb).take k))) (fun _ i _ => X.np - (intOf i).toNat)
        case atStart => exact ⟨0, Nat.zero_le _, rfl, Below.refl _ _, World.ownsRow_nil _ _ _ _⟩
        case round =>
          obtain ⟨k, hk, rfl, hbw, hown⟩ := hrel
          have HBW := Lib.hid hbw; have HOWN := Lib.hid hown
          have HKB : Hid (Below w2.heap.size w2 wr) := Lib.hid (HBR.out.trans (hbw.mono HBR.out.size))
          obtain ⟨f1, f2⟩ := FD.out wr HKB.out
          clear hown hbw
          by_cases hkt : k < X.np
          · have hk0 : (0 : Int) ≤ (k : Int) := by omega
            have hk1 : (k : Int) < (X.np : Int) := by omega
            obtain ⟨x, hx⟩ := get_of_lt (l := ra) (k := k) (by rw [L1.out]; exact hkt)
            obtain ⟨y, hy⟩ := get_of_lt (l := rb) (k := k) (by rw [L2.out]; exact hkt)
            obtain ⟨b1, o1, rfl, hb1, g1⟩ := ints_el P1.out hx
            obtain ⟨b2, o2, rfl, hb2, g2⟩ := ints_el P2.out hy
            have FC : Hid (∀ u, Below w2.heap.size w2 u → (u.cell? ⟨ba, oa + t, none⟩ = some (.slice (some ⟨b1, o1, none⟩) X.np c1) ∧ u.cell? ⟨bb, ob + t, none⟩ = some (.slice (some ⟨b2, o2, none⟩) X.np c2')) ∧ u.cell? ⟨b1, o1 + k, none⟩ = some (.int .i64 x) ∧ u.cell? ⟨b2, o2 + k, none⟩ = some (.int .i64 y)) := Lib.hid fun u hu => ⟨FD.out u hu, ((bcell hu).1 _ _ hb1).trans g1, ((bcell hu).1 _ _ hb2).trans g2⟩
            have HX : Hid ((ra.zip rb)[k]? = some (x, y)) := Lib.hid (by rw [List.getElem?_zip_eq_some]; exact ⟨hx, hy⟩)
            clear hx hy g1 g2 hb1 hb2
            go_wp2_with fail
            clear f1 f2
            obtain ⟨i0, hi0, hz0, hz1, hz2⟩ := info_parts span_info
            apply tail_region
            case hs => exact (rfl : _ = [_, _, _, _, _, _, _, _, _, _, _, _, _, _, _, _, _, _] ++ [_])
            case hm => kernel_rfl
            case hT => kernel_rfl
            have hlow : wo.heap.size ≤ wr.heap.size := HBW.out.size
            have hkeep : ∀ done g w', SL ⟨wr, wo.heap.size, 42, 2, k, u11, flatR prR ((ra.zip rb).take k), prR (x, y), 16, 17⟩ done g w' → Below w2.heap.size w2 w' := fun done g w' hS =>
              HKB.out.grown hS.grown HKB.out.size (fun B hB => Nat.le_trans HBR.out.size (own_at HOWN.out hB).1)
            refine plan_guarded_any (γ := GhE) [11, 7, 10, 12, 8] (rhoO 56 57 (sgCv u11 (.slice (some ⟨ba, oa, none⟩) X.n ca) (.slice (some ⟨bb, ob, none⟩) X.n cb) ba oa bb ob b1 o1 b2 o2 X.np c1 c2' t k x y)) (SL ⟨wr, wo.heap.size, 42, 2, k, u11, flatR prR ((ra.zip rb).take k), prR (x, y), 16, 17⟩) ⟨fun _ => undef, fun _ => undef⟩ (by kernel_rfl) (by kernel_rfl) (by kernel_rfl) (by kernel_rfl) ?_ (SL.start HOWN.out hlow (by decide)) ?_ ?_
            · intro t ht
              simp only [List.mem_cons, List.not_mem_nil, or_false] at ht
              rcases ht with rfl | rfl | rfl | rfl | rfl <;> rfl
            · refine allOps_array ?_
              refine ⟨?_, ?_, ?_, ?_, ?_, ?_, ?_, ?_, ?_, ?_, ?_, ?_, ?_, ?_, ?_, ?_, ?_, ?_, trivial⟩ <;> intro done g w' hS hu hdep _ <;> obtain ⟨⟨x0, x1⟩, y0, y1⟩ := FC.out w' (hkeep _ _ _ hS)
              · refine quietL hS 40 rfl (by simp) (by simp) rfl ?_
                simp [go_sem, evalBy, rhoO, sgCv]
              · refine quietL hS 41 rfl (by simp) (by simp) rfl ?_
                simp [go_sem, evalBy, rhoO, sgCv]
              · refine quietL hS 42 rfl (by simp) (by simp) rfl ?_
                simp [go_sem, evalBy, rhoO, sgCv]
              · refine quietL hS 43 rfl (by simp) (by simp) rfl ?_
                simp [go_sem, evalBy, rhoO, sgCv, ht0, ht1]
              · refine quietL hS 44 rfl (by simp) (by simp) rfl ?_
                simp [go_sem, evalBy, rhoO, sgCv, x0]
              · refine quietL hS 45 rfl (by simp) (by simp) rfl ?_
                simp [go_sem, evalBy, rhoO, sgCv]
              · refine quietL hS 46 rfl (by simp) (by simp) rfl ?_
                simp [go_sem, evalBy, rhoO, sgCv, hk0, hk1]
              · refine quietL hS 47 rfl (by simp) (by simp) rfl ?_
                simp [go_sem, evalBy, rhoO, sgCv, y0]
              · refine quietL hS 48 rfl (by simp) (by simp) rfl ?_
                simp [go_sem, evalBy, rhoO, sgCv]
              · refine quietL hS 49 rfl (by simp) (by simp) rfl ?_
                simp [go_sem, evalBy, rhoO, sgCv]
              · refine quietL hS 50 rfl (by simp) (by simp) rfl ?_
                simp [go_sem, evalBy, rhoO, sgCv, ht0, ht1]
              · refine quietL hS 51 rfl (by simp) (by simp) rfl ?_
                simp [go_sem, evalBy, rhoO, sgCv, x1]
              · refine quietL hS 52 rfl (by simp) (by simp) rfl ?_
                simp [go_sem, evalBy, rhoO, sgCv]
              · refine quietL hS 53 rfl (by simp) (by simp) rfl ?_
                simp [go_sem, evalBy, rhoO, sgCv, hk0, hk1]
              · refine quietL hS 54 rfl (by simp) (by simp) rfl ?_
                simp [go_sem, evalBy, rhoO, sgCv, y1]
              · refine quietL hS 55 rfl (by simp) (by simp) rfl ?_
                simp [go_sem, evalBy, rhoO, sgCv]
              · refine buildL hS 56 rfl rfl rfl ?_ (fun _ => rfl) (fun t b' ht => rhoO_b t b' ht)
                simp [go_sem, evalBy, rhoO, sgCv, prR]
              · exact appendL hS 57 rfl rfl hu (hdep ⟨16, .data⟩ (by simp) rfl) rfl 40 56 40 rfl rfl rfl i0 _ 16 Tryz.underlying40 hi0 hz0 hz1 hz2 rfl (by show 0 < 2; decide) rfl (by simp [Value.oneCell', prR]) (by unfold maxLen; show k + 1 ≤ _; omega) (by show (k + 1) * 16 ≤ _; omega) (fun _ => rfl) (fun t c' ht => rhoO_c t c' ht)
            · intro g wC hS
              have hA := SL.after hS (show 17 < _ by decide)
              have HBC := Lib.hid (HBW.out.grown hA.1 HBW.out.size (fun B hB => (own_at HOWN.out hB).1))
              have HOC := Lib.hid hA.2.1
              clear hA hS hkeep
              simp only [QT]
              unfold Oper.wp
              simp [go_sem, putAll, Act.put, rhoO, sgCv]
              go_wp2_with fail
              refine ⟨⟨k + 1, by omega, by go_num, HBC.out, ?_⟩, by simp [intOf]; omega⟩
              rw [flatR_take HX.out]
              exact HOC.out
          · have hke : k = X.np := by omega
            have hk1 : ¬ (k : Int) < (X.np : Int) := by omega
            subst hke
            have hfull : (ra.zip rb).take X.np = ra.zip rb := List.take_of_length_le (by rw [HRL.out]; exact Nat.le_refl _)
            rw [hfull] at HOWN
            obtain ⟨g, cg, rfl, _⟩ := HOWN.out.form (by omega)
            have HG2 := Lib.hid (HG.out.below HBW.out)
            have HRI : Hid (RowIs prR 42 w2.heap.size (ra.zip rb) (.slice (some ⟨g, 0, none⟩) X.np cg) wr) := Lib.hid (RowIs.of_own (k := 2) (by rw [HRL.out]; exact own_mono HOWN.out HBR.out.size))
            have HLT : Hid (((zipL LA LB).take t).length = t) := Lib.hid (by rw [List.length_take]; unfold zipL; rw [List.length_zipWith, LA1.out.1, LA2.out.1]; omega)
            have HZ2 : Hid ((zipL LA LB).take (t + 1) = (zipL LA LB).take t ++ [ra.zip rb]) := Lib.hid (by rw [List.take_add_one, HZ.out]; rfl)
            obtain ⟨j0, hj0, jz0, jz1, jz2⟩ := info_parts spans_info
            have hsz : w2.heap.size ≤ wr.heap.size := HKB.out.size
            clear hfull
            go_wp2_with (first
              | (at_builtin
                 refine wpList_append_own _ rfl _ _ 27 rfl w2.heap.size 40 j0 _ 1 24 Tryz.underlying27 hj0 jz0 jz1 jz2 rfl (by decide) _ _ _ rfl (Go.Proofs.YtdlaphlpimlgdaaGreatDoor.own_next HG2.out.own ((Below.refl _ wr).alloc (Nat.le_refl _) _)) ⟨wr.heap.size, 0, none⟩ 1 1 [.slice (some ⟨g, 0, none⟩) X.np cg] rfl rfl (cell_one_new _ _ _) (by simp [Value.oneCell']) (by rw [HLT.out]; unfold maxLen; omega) (by rw [HLT.out]; omega) (by simp; omega) ?_
                 intro v' w4 hown4 hgrow4 _)
              | fail)
            have hA := HG2.out.append (by decide) HRI.out hown4 hgrow4
            rw [← HZ2.out] at hA
            refine ⟨⟨t + 1, _, by omega, by go_num, ?_, hA⟩, by simp [intOf]; omega⟩
            have hb1 := (Below.refl wr.heap.size wr).alloc (Nat.le_refl _) (.cells #[.slice (some ⟨g, 0, none⟩) X.np cg] 40)
            exact (HKB.out.trans (hb1.mono HKB.out.size)).grown hgrow4 (Nat.le_trans HKB.out.size hb1.size) (fun B hB => (own_at HG2.out.own hB).1)
      · have hte : t = X.n := by omega
        have hk1 : ¬ (t : Int) < (X.n : Int) := by omega
        have hlen : (zipL LA LB).length = X.n := by unfold zipL; rw [List.length_zipWith, LA1.out.1, LA2.out.1, Nat.min_self]
        have hfull : (zipL LA LB).take t = zipL LA LB := List.take_of_length_le (by omega)
        rw [hfull] at HG
        clear hfull
        go_wp2_with fail
        go_ret
        obtain ⟨A3, c3, rfl, g1, g2, g3⟩ := HG.out.grid prR_len (fun row hr => by
          unfold zipL at hr
          obtain ⟨j, hj⟩ := List.mem_iff_getElem?.1 hr
          rw [List.getElem?_zipWith] at hj
          cases ha : LA[j]? with
          | none => rw [ha] at hj; simp at hj
          | some x =>
            cases hb : LB[j]? with
            | none => rw [ha, hb] at hj; simp at hj
            | some y =>
              rw [ha, hb] at hj
              simp at hj
              subst hj
              rw [List.length_zip]
              have := LA1.out.2 x (List.mem_of_getElem? ha)
              unfold maxLen
              omega)
        exact ⟨A3, c3, congrArg (fun m => Ending.returned (Value.slice A3 m c3)) hlen, g1, by omega, g3⟩
end
end Go.Proofs.YtdlaphlpimlgdaaGreatDoor
