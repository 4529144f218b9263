
/- Sets of features as rows of 64 bits. No program here. -/
import Derived.Test.YtkejcdephnkkgaaRows
import Derived.WalkKit
namespace Go.Proofs.Ytkejcdephnkkgaa.Fe
open Go.RowKit
set_option linter.unusedSimpArgs false
set_option linter.unusedVariables false

abbrev Set64 := BitVec 64
/-- A set as a number. -/
def nu (X : Set64) : Int := ((X.toNat : Nat) : Int)
theorem nu_lo (X : Set64) : 0 ≤ nu X := by unfold nu; omega
theorem nu_hi (X : Set64) : nu X ≤ 18446744073709551615 := by have := X.isLt; unfold nu; omega
theorem nu_inj {X Y : Set64} : nu X = nu Y ↔ X = Y := by
  constructor
  · intro h; apply BitVec.eq_of_toNat_eq; unfold nu at h; omega
  · rintro rfl; rfl
theorem nu_of {f : Int} (h : 0 ≤ f ∧ f ≤ 18446744073709551615) : ∃ X, f = nu X := by
  refine ⟨BitVec.ofInt 64 f, ?_⟩
  unfold nu
  rw [BitVec.toNat_ofInt]; omega
theorem nu_beq (X Y : Set64) : (nu X == nu Y) = (X == Y) := by
  by_cases h : X = Y
  · subst h; simp
  · have : nu X ≠ nu Y := fun e => h (nu_inj.1 e)
    rw [beq_eq_false_iff_ne.2 this, beq_eq_false_iff_ne.2 h]
theorem nu_zero : nu 0#64 = 0 := rfl
theorem nu_beq0 (X : Set64) : (nu X == 0) = (X == 0#64) := nu_beq X 0#64
theorem ofInt_nu (X : Set64) : BitVec.ofInt 64 (nu X) = X := by
  apply BitVec.eq_of_toNat_eq; unfold nu; rw [BitVec.toNat_ofInt]; have := X.isLt; omega
theorem wrap_nu (X : Set64) : IntKind.u64.wrap (nu X) = nu X := by
  have h1 := nu_lo X
  have h2 := nu_hi X
  rw [IntKind.wrap_u64]; omega
theorem b_and (X Y : Set64) : bits .and .u64 (nu X) (nu Y) = nu (X &&& Y) := by
  show IntKind.u64.wrap ((BitVec.ofInt 64 _ &&& BitVec.ofInt 64 _).toNat : Nat) = _
  rw [ofInt_nu, ofInt_nu]; exact wrap_nu _
theorem b_or (X Y : Set64) : bits .or .u64 (nu X) (nu Y) = nu (X ||| Y) := by
  show IntKind.u64.wrap ((BitVec.ofInt 64 _ ||| BitVec.ofInt 64 _).toNat : Nat) = _
  rw [ofInt_nu, ofInt_nu]; exact wrap_nu _
theorem b_andNot (X Y : Set64) : bits .andNot .u64 (nu X) (nu Y) = nu (X &&& ~~~Y) := by
  show IntKind.u64.wrap ((BitVec.ofInt 64 _ &&& ~~~(BitVec.ofInt 64 _)).toNat : Nat) = _
  rw [ofInt_nu, ofInt_nu]; exact wrap_nu _

/-- One bit. -/
def one (k : Nat) : Set64 := BitVec.twoPow 64 k
theorem one_bit (k i : Nat) (hi : i < 64) : (one k).getLsbD i = decide (i = k) := by
  unfold one; rw [BitVec.getLsbD_twoPow]; by_cases h : i = k <;> simp [h] <;> omega
theorem ext {X Y : Set64} (h : ∀ i, i < 64 → X.getLsbD i = Y.getLsbD i) : X = Y := BitVec.eq_of_getLsbD_eq (fun i hi => h i hi)
theorem and_one0 (X : Set64) (k : Nat) (hk : k < 64) : (X &&& one k == 0#64) = !X.getLsbD k := by
  cases h : X.getLsbD k
  · rw [show X &&& one k = 0#64 from ext fun i hi => by
      rw [BitVec.getLsbD_and, one_bit _ _ hi]
      by_cases e : i = k
      · subst e; simp [h]
      · simp [e]]
    rfl
  · rw [beq_eq_false_iff_ne.2]
    · rfl
    · intro e
      have := congrArg (fun Z => BitVec.getLsbD Z k) e
      simp [BitVec.getLsbD_and, one_bit _ _ hk, h] at this
theorem sub0 (X Y : Set64) : (X &&& ~~~Y == 0#64) = true ↔ ∀ i, i < 64 → X.getLsbD i = true → Y.getLsbD i = true := by
  rw [beq_iff_eq]
  constructor
  · intro h i hi hx
    have := congrArg (fun Z => BitVec.getLsbD Z i) h
    simp [BitVec.getLsbD_and, BitVec.getLsbD_not, hi, hx] at this
    exact this
  · intro h
    refine ext fun i hi => ?_
    rw [BitVec.getLsbD_and, BitVec.getLsbD_not]
    cases hx : X.getLsbD i
    · simp
    · simp [h i hi hx]

end Go.Proofs.Ytkejcdephnkkgaa.Fe
