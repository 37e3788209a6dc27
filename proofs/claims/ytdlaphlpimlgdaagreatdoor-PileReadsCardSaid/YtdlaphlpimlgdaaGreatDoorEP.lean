/- The map of a reader's methods: what is put into it, and what is found in it. -/
import Derived.Test.YtdlaphlpimlgdaaGreatDoorEO
namespace Go.Proofs.YtdlaphlpimlgdaaGreatDoor
open Go.RowKit Go.Shelf
open Go.Maps (Keyed)
open Go.ChangeMaps (setBlock heap_setBlock_same heap_setBlock_other)

def rdE (j : Nat) : MapEntry := if j = 0 then ⟨.string ⟨wLev.toArray⟩, .func (.func 123) #[] #[], 0⟩ else if j = 1 then ⟨.string ⟨wYear.toArray⟩, .func (.func 124) #[] #[], 1⟩ else ⟨.string ⟨wEnd.toArray⟩, .func (.func 125) #[] #[], 2⟩
theorem strV_ne {p q : List UInt8} (h : p ≠ q) : Value.string ⟨p.toArray⟩ ≠ Value.string ⟨q.toArray⟩ := fun e => h (by
  injection e with e
  have := congrArg (fun b : ByteArray => b.data.toList) e
  simpa using this)
theorem str_put {w : World} {b clock : Nat} {es : Array MapEntry} (hb : w.heap[b]? = some (.map es clock)) {key : ByteArray} {val : Value} (hk : key.size ≤ 100000) (hes : ∀ e ∈ es.toList, ∃ l, keyOf Tryz.prog 9 e.key = some l) (hne : ∀ e ∈ es.toList, e.key ≠ .string key) :
    (Instr.mapUpdate 175 (.map (some b)) (.string key) val).run Tryz.prog w = .ok () (setBlock w b (.map (es.push ⟨.string key, val, clock⟩) (clock + 1))) := by
  obtain ⟨kl, hkey⟩ := str_key key hk
  rcases str_law.find w hkey es.toList hes with ⟨h1, h2⟩ | ⟨j, e0, h1, h2, h3⟩
  · simp [Instr.mapUpdate, run_underlying Tryz.underlying175, MapKept.run_getObj_map hb, str_law.check w false hkey, h1, MapKept.run_setObj_map _ hb, Result.andThen, setBlock]
  · exact absurd h3 (hne e0 (List.mem_of_getElem? h2))
theorem rdE_key (j : Nat) : ∃ l, keyOf Tryz.prog 9 (rdE j).key = some l := by
  unfold rdE
  split
  · exact str_key _ (by decide)
  · split
    · exact str_key _ (by decide)
    · exact str_key _ (by decide)
theorem rd_map (w : World) : ∃ W1 W2 W3, (Instr.mapUpdate 175 (.map (some w.heap.size)) (.string ⟨wLev.toArray⟩) (.func (.func 123) #[] #[])).run Tryz.prog (w.alloc (.map #[] 0)) = .ok () W1 ∧
    (Instr.mapUpdate 175 (.map (some w.heap.size)) (.string ⟨wYear.toArray⟩) (.func (.func 124) #[] #[])).run Tryz.prog W1 = .ok () W2 ∧
    (Instr.mapUpdate 175 (.map (some w.heap.size)) (.string ⟨wEnd.toArray⟩) (.func (.func 125) #[] #[])).run Tryz.prog W2 = .ok () W3 ∧
    W3.heap[w.heap.size]? = some (.map #[rdE 0, rdE 1, rdE 2] 3) ∧ Below w.heap.size w W3 ∧ W3.heap.size = w.heap.size + 1 := by
  have h0 := heap_alloc_new w (.map #[] 0)
  have hb0 := (Below.refl w.heap.size w).alloc (Nat.le_refl _) (.map #[] 0)
  have e1 := str_put h0 (key := ⟨wLev.toArray⟩) (val := .func (.func 123) #[] #[]) (by decide) (fun e he => by simp at he) (fun e he => by simp at he)
  obtain ⟨W1, hW1⟩ : ∃ z, setBlock (w.alloc (.map #[] 0)) w.heap.size (.map ((#[] : Array MapEntry).push ⟨.string ⟨wLev.toArray⟩, .func (.func 123) #[] #[], 0⟩) (0 + 1)) = z := ⟨_, rfl⟩
  have s1 : W1.heap.size = w.heap.size + 1 := by rw [← hW1]; simp [setBlock]
  have h1 : W1.heap[w.heap.size]? = some (.map #[rdE 0] 1) := by rw [← hW1]; exact heap_setBlock_same h0 _
  have k1 : ∀ i, i ≠ w.heap.size → W1.heap[i]? = (w.alloc (.map #[] 0)).heap[i]? := fun i hi => by rw [← hW1]; exact heap_setBlock_other h0 _ hi
  have o1 : W1.os = w.os ∧ W1.tape = w.tape ∧ W1.output = w.output := by rw [← hW1]; exact ⟨rfl, rfl, rfl⟩
  have e2 := str_put h1 (key := ⟨wYear.toArray⟩) (val := .func (.func 124) #[] #[]) (by decide) (fun e he => by simp at he; rw [he]; exact rdE_key 0) (fun e he => by simp at he; rw [he]; exact strV_ne (by decide))
  obtain ⟨W2, hW2⟩ : ∃ z, setBlock W1 w.heap.size (.map ((#[rdE 0] : Array MapEntry).push ⟨.string ⟨wYear.toArray⟩, .func (.func 124) #[] #[], 1⟩) (1 + 1)) = z := ⟨_, rfl⟩
  have s2 : W2.heap.size = w.heap.size + 1 := by rw [← hW2, ← s1]; simp [setBlock]
  have h2 : W2.heap[w.heap.size]? = some (.map #[rdE 0, rdE 1] 2) := by rw [← hW2]; exact heap_setBlock_same h1 _
  have k2 : ∀ i, i ≠ w.heap.size → W2.heap[i]? = W1.heap[i]? := fun i hi => by rw [← hW2]; exact heap_setBlock_other h1 _ hi
  have o2 : W2.os = W1.os ∧ W2.tape = W1.tape ∧ W2.output = W1.output := by rw [← hW2]; exact ⟨rfl, rfl, rfl⟩
  have e3 := str_put h2 (key := ⟨wEnd.toArray⟩) (val := .func (.func 125) #[] #[]) (by decide) (fun e he => by simp at he; rcases he with he | he; (rw [he]; exact rdE_key 0); (rw [he]; exact rdE_key 1)) (fun e he => by simp at he; rcases he with he | he <;> rw [he] <;> exact strV_ne (by decide))
  obtain ⟨W3, hW3⟩ : ∃ z, setBlock W2 w.heap.size (.map ((#[rdE 0, rdE 1] : Array MapEntry).push ⟨.string ⟨wEnd.toArray⟩, .func (.func 125) #[] #[], 2⟩) (2 + 1)) = z := ⟨_, rfl⟩
  have s3 : W3.heap.size = w.heap.size + 1 := by rw [← hW3, ← s2]; simp [setBlock]
  have h3 : W3.heap[w.heap.size]? = some (.map #[rdE 0, rdE 1, rdE 2] 3) := by rw [← hW3]; exact heap_setBlock_same h2 _
  have k3 : ∀ i, i ≠ w.heap.size → W3.heap[i]? = W2.heap[i]? := fun i hi => by rw [← hW3]; exact heap_setBlock_other h2 _ hi
  have o3 : W3.os = W2.os ∧ W3.tape = W2.tape ∧ W3.output = W2.output := by rw [← hW3]; exact ⟨rfl, rfl, rfl⟩
  rw [hW1] at e1
  rw [hW2] at e2
  rw [hW3] at e3
  refine ⟨W1, W2, W3, e1, e2, e3, h3, ⟨o3.1.trans (o2.1.trans o1.1), o3.2.1.trans (o2.2.1.trans o1.2.1), o3.2.2.trans (o2.2.2.trans o1.2.2), by omega, fun i hi => ?_⟩, s3⟩
  rw [k3 i (by omega), k2 i (by omega), k1 i (by omega)]
  exact hb0.block i hi
/-- What is found under a word. -/
def rdV (p : List UInt8) : Value × Bool := if p = wLev then (.func (.func 123) #[] #[], true) else if p = wYear then (.func (.func 124) #[] #[], true) else if p = wEnd then (.func (.func 125) #[] #[], true) else (.nilFunc, false)
set_option maxRecDepth 100000 in
theorem rd_look {w : World} {b c : Nat} (hb : w.heap[b]? = some (.map #[rdE 0, rdE 1, rdE 2] c)) (p : List UInt8) (hp : p.length ≤ 100000) :
    (Instr.lookup 175 (.map (some b)) (.string ⟨p.toArray⟩) true).run Tryz.prog w = .ok (.tuple #[(rdV p).1, .bool (rdV p).2]) w := by
  obtain ⟨kl, hkey⟩ := str_key ⟨p.toArray⟩ (by show p.toArray.size ≤ _; rw [List.size_toArray]; exact hp)
  have hes : ∀ e ∈ (#[rdE 0, rdE 1, rdE 2] : Array MapEntry).toList, ∃ l, keyOf Tryz.prog 9 e.key = some l := fun e he => by
    simp at he
    rcases he with he | he | he <;> rw [he]
    · exact rdE_key 0
    · exact rdE_key 1
    · exact rdE_key 2
  rcases str_law.find w hkey _ hes with ⟨h1, h2⟩ | ⟨j, e0, h1, h2, h3⟩
  · have hv : rdV p = (.nilFunc, false) := by
      unfold rdV
      rw [if_neg (fun e => h2 (rdE 0) (by simp) (by rw [e]; rfl)), if_neg (fun e => h2 (rdE 1) (by simp) (by rw [e]; rfl)), if_neg (fun e => h2 (rdE 2) (by simp) (by rw [e]; rfl))]
    rw [hv]
    simp [Instr.lookup, run_underlying Tryz.underlying175, MapKept.run_getObj_map hb, str_law.check w _ hkey, h1, Result.andThen]
  · have hpe : ∀ q : List UInt8, e0.key = .string ⟨q.toArray⟩ → p = q := fun q hq => by
      rw [h3] at hq
      injection hq with hq
      have h5 : (ByteArray.mk p.toArray).data.toList = (ByteArray.mk q.toArray).data.toList := by rw [hq]
      exact h5
    have hj : j < 3 := by have := (List.getElem?_eq_some_iff.1 h2).1; simpa using this
    have hv : e0.val = (rdV p).1 ∧ (rdV p).2 = true := by
      match j, hj, h2 with
      | 0, _, h2 =>
        have e : rdE 0 = e0 := by simpa using h2
        have := hpe wLev (by rw [← e]; rfl)
        subst this
        rw [← e]
        exact ⟨rfl, rfl⟩
      | 1, _, h2 =>
        have e : rdE 1 = e0 := by simpa using h2
        have := hpe wYear (by rw [← e]; rfl)
        subst this
        rw [← e]
        exact ⟨rfl, rfl⟩
      | 2, _, h2 =>
        have e : rdE 2 = e0 := by simpa using h2
        have := hpe wEnd (by rw [← e]; rfl)
        subst this
        rw [← e]
        exact ⟨rfl, rfl⟩
    have hv1 := hv.1; have hv2 := hv.2
    simp [Instr.lookup, run_underlying Tryz.underlying175, MapKept.run_getObj_map hb, str_law.check w _ hkey, h1, Result.andThen, hv1, hv2]
end Go.Proofs.YtdlaphlpimlgdaaGreatDoor
