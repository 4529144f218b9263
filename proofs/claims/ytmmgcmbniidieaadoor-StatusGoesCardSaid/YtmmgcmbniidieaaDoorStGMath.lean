/- What one step of a driver leaves of a valid state. No program here. -/
import Derived.Test.YtmmgcmbniidieaaDoorStMath
import Derived.Test.YtmmgcmbniidieaaDoorStZ
namespace Go.Proofs.YtmmgcmbniidieaaDoor.St
open Go.RowKit Fe
set_option linter.unusedSimpArgs false
set_option linter.unusedVariables false

set_option maxRecDepth 100000 in
theorem break_ok0 : ∀ s ∈ L12, ∀ a z : Bool, okB s a z = true → hasb s 4#8 = true → okB (s ||| 64#8) a z = true := by decide +kernel
theorem or_ok {s : Byte} {a z : Bool} (h : okB s a z = true) (h4 : hasb s 4#8 = true) : okB (s ||| 64#8) a z = true := break_ok0 s (in12 h) a z h h4
set_option maxRecDepth 100000 in
theorem chain0 : ∀ s ∈ L12, ∀ a z : Bool, okB s a z = true → (hasb s 8#8 = true → a = true ∧ hasb s 2#8 = true) ∧ (hasb s 4#8 = true → hasb s 8#8 = true) ∧ (hasb s 2#8 = true → hasb s 1#8 = true) := by decide +kernel
theorem chain {s : Byte} {a z : Bool} (h : okB s a z = true) : (hasb s 8#8 = true → a = true ∧ hasb s 2#8 = true) ∧ (hasb s 4#8 = true → hasb s 8#8 = true) ∧ (hasb s 2#8 = true → hasb s 1#8 = true) := chain0 s (in12 h) a z h
set_option maxRecDepth 100000 in
theorem kept0 : ∀ s ∈ L12, ∀ p0 p1 p2 p3 p4 a : Bool, s &&& ~~~setV s p0 p1 p2 p3 p4 a = 0#8 := by decide +kernel
theorem kept {s : Byte} {a z : Bool} (wd : Byte) (h : okB s a z = true) : s &&& ~~~setTo s wd a 5 = 0#8 := by rw [setTo_V]; exact kept0 s (in12 h) _ _ _ _ _ _
def maskV (p0 p1 p2 p3 p4 : Bool) : Byte := (if p0 then 1#8 else 0#8) ||| (if p1 then 2#8 else 0#8) ||| (if p2 then 8#8 else 0#8) ||| (if p3 then 4#8 else 0#8) ||| (if p4 then 128#8 else 0#8)
set_option maxRecDepth 100000 in
theorem come0 : ∀ s ∈ L12, ∀ p0 p1 p2 p3 p4 a : Bool, (setV s p0 p1 p2 p3 p4 a &&& ~~~s) &&& ~~~maskV p0 p1 p2 p3 p4 = 0#8 := by decide +kernel
set_option maxRecDepth 100000 in
theorem mask0 : ∀ n : Fin 256, maskV (hasb (BitVec.ofFin n) 1#8) (hasb (BitVec.ofFin n) 2#8) (hasb (BitVec.ofFin n) 8#8) (hasb (BitVec.ofFin n) 4#8) (hasb (BitVec.ofFin n) 128#8) &&& ~~~(BitVec.ofFin n) = 0#8 := by decide +kernel
theorem sub_trans {a b c : Byte} (h1 : a &&& ~~~b = 0#8) (h2 : b &&& ~~~c = 0#8) : a &&& ~~~c = 0#8 := by
  apply BitVec.eq_of_getLsbD_eq
  intro i hi
  have e1 := congrArg (fun Z => BitVec.getLsbD Z i) h1
  have e2 := congrArg (fun Z => BitVec.getLsbD Z i) h2
  simp only [BitVec.getLsbD_and, BitVec.getLsbD_not, BitVec.getLsbD_zero, decide_eq_true hi, Bool.true_and] at e1 e2 ⊢
  revert e1 e2
  cases a.getLsbD i <;> cases b.getLsbD i <;> cases c.getLsbD i <;> simp
theorem come {s : Byte} {a z : Bool} (wd : Byte) (h : okB s a z = true) : (setTo s wd a 5 &&& ~~~s) &&& ~~~wd = 0#8 := by
  rw [setTo_V]
  exact sub_trans (come0 s (in12 h) _ _ _ _ _ a) (mask0 wd.toFin)
set_option maxRecDepth 100000 in
theorem runs0 : ∀ n : Fin 256, (hasb (BitVec.ofFin n) 4#8 && !hasb (BitVec.ofFin n) 64#8 && !hasb (BitVec.ofFin n) 128#8) = (BitVec.ofFin n &&& 196#8 == 4#8) := by decide +kernel
theorem runs_eq {k : Int} {O G : Set64} {s : Byte} (h : validB k O G s = true) : runsB k O G s = (s &&& 196#8 == 4#8) := by
  unfold runsB; rw [h, Bool.true_and]; exact runs0 s.toFin
theorem self_out (s : Byte) : s &&& ~~~s = 0#8 := by
  apply BitVec.eq_of_getLsbD_eq
  intro i hi
  simp
/-- An offer as the law makes it. -/
theorem offers_made {k : Int} (hk : k = 1 ∨ k = 2 ∨ k = 3) (X : Set64) : offersB k ((X &&& allF k) ||| v1) = true := by
  have hv : (allF k).getLsbD 32 = true := by rcases hk with rfl | rfl | rfl <;> decide
  have hz : (allF k == 0#64) = false := by rcases hk with rfl | rfl | rfl <;> decide
  unfold offersB knownB
  have h1 : within ((X &&& allF k) ||| v1) (allF k) = true := (Fe.within_iff _ _).2 fun i hi hx => by
    rw [BitVec.getLsbD_or, BitVec.getLsbD_and, v1_bit _ hi, Bool.or_eq_true, Bool.and_eq_true, decide_eq_true_iff] at hx
    rcases hx with hx | rfl
    · exact hx.2
    · exact hv
  have h2 : hasB ((X &&& allF k) ||| v1) 32 = true := by
    unfold hasB
    show (true && true && BitVec.getLsbD _ 32) = true
    rw [BitVec.getLsbD_or, v1_bit _ (by decide)]; simp
  rw [h1, h2, hz]; rfl
set_option maxRecDepth 100000 in
theorem ask0 : ∀ s ∈ L12, ∀ a z a' z' : Bool, okB s a z = true → hasb s 2#8 = true → hasb s 8#8 = false → okB s a' z' = true := by decide +kernel
/-- The state behind a step. -/
theorem ask_valid {k : Int} {O G : Set64} {s : Byte} (X : Set64) (h : validB k O G s = true) : validB k O (askG k O G s X) s = true := by
  unfold askG
  cases hb : askB k O G s with
  | false => exact h
  | true =>
    show validB k O X s = true
    unfold askB at hb
    rw [Bool.and_eq_true, Bool.and_eq_true] at hb
    have ho := offers_of h
    rw [valid_ok, ho, Bool.true_and] at h ⊢
    have h2 := hb.1.2
    have h8 : hasb s 8#8 = false := by simpa using hb.2
    exact ask0 s (in12 h) _ _ _ _ h h2 h8
theorem ask_fixed {k : Int} {O G : Set64} {s : Byte} (X : Set64) (h : hasb s 8#8 = true) : askG k O G s X = G := by
  unfold askG askB; rw [h]; simp

end Go.Proofs.YtmmgcmbniidieaaDoor.St
