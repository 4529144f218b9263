/- A device's status as a row of 8 bits: what may be set, and what a word sets. No program here. -/
import Derived.Test.YtmmgcmbniidieaaDoorFeMath
namespace Go.Proofs.YtmmgcmbniidieaaDoor.St
open Go.RowKit Fe
set_option linter.unusedSimpArgs false
set_option linter.unusedVariables false

abbrev Byte := BitVec 8
def nb (X : Byte) : Int := ((X.toNat : Nat) : Int)
theorem nb_lo (X : Byte) : 0 ≤ nb X := by unfold nb; omega
theorem nb_hi (X : Byte) : nb X ≤ 255 := by have := X.isLt; unfold nb; omega
theorem nb_inj {X Y : Byte} : nb X = nb Y ↔ X = Y := by
  constructor
  · intro h; apply BitVec.eq_of_toNat_eq; unfold nb at h; omega
  · rintro rfl; rfl
theorem nb_of {f : Int} (h : 0 ≤ f ∧ f ≤ 255) : ∃ X, f = nb X := by
  refine ⟨BitVec.ofInt 8 f, ?_⟩
  unfold nb
  rw [BitVec.toNat_ofInt]; omega
theorem nb_beq (X Y : Byte) : (nb X == nb Y) = (X == Y) := by
  by_cases h : X = Y
  · subst h; simp
  · have : nb X ≠ nb Y := fun e => h (nb_inj.1 e)
    rw [beq_eq_false_iff_ne.2 this, beq_eq_false_iff_ne.2 h]
theorem nb_beq0 (X : Byte) : (nb X == 0) = (X == 0#8) := nb_beq X 0#8
theorem ofInt_nb (X : Byte) : BitVec.ofInt 8 (nb X) = X := by
  apply BitVec.eq_of_toNat_eq; unfold nb; rw [BitVec.toNat_ofInt]; have := X.isLt; omega
theorem wrap_nb (X : Byte) : IntKind.u8.wrap (nb X) = nb X := by
  have h1 := nb_lo X
  have h2 := nb_hi X
  rw [IntKind.wrap_u8]; omega
theorem y_and (X Y : Byte) : bits .and .u8 (nb X) (nb Y) = nb (X &&& Y) := by
  show IntKind.u8.wrap ((BitVec.ofInt 8 _ &&& BitVec.ofInt 8 _).toNat : Nat) = _
  rw [ofInt_nb, ofInt_nb]; exact wrap_nb _
theorem y_or (X Y : Byte) : bits .or .u8 (nb X) (nb Y) = nb (X ||| Y) := by
  show IntKind.u8.wrap ((BitVec.ofInt 8 _ ||| BitVec.ofInt 8 _).toNat : Nat) = _
  rw [ofInt_nb, ofInt_nb]; exact wrap_nb _
theorem y_andNot (X Y : Byte) : bits .andNot .u8 (nb X) (nb Y) = nb (X &&& ~~~Y) := by
  show IntKind.u8.wrap ((BitVec.ofInt 8 _ &&& ~~~(BitVec.ofInt 8 _)).toNat : Nat) = _
  rw [ofInt_nb, ofInt_nb]; exact wrap_nb _

def hasb (s b : Byte) : Bool := !(s &&& b == 0#8)
/-- The bits that can be written, in order, and whether each may be set; a: the features asked for are accepted. -/
def bitOf (i : Nat) : Byte := if i = 0 then 1#8 else if i = 1 then 2#8 else if i = 2 then 8#8 else if i = 3 then 4#8 else 128#8
def mayB (i : Nat) (s : Byte) (a : Bool) : Bool := if i = 0 then true else if i = 1 then hasb s 1#8 else if i = 2 then hasb s 2#8 && a else if i = 3 then hasb s 8#8 else true
def okTo (s : Byte) (a : Bool) : Nat → Bool
  | 0 => true
  | k + 1 => okTo s a k && (!hasb s (bitOf k) || mayB k s a)
/-- z: no features are asked for. -/
def allowedB (s : Byte) (a z : Bool) : Bool := okTo s a 5 && (hasb s 4#8 || !hasb s 64#8) && (hasb s 2#8 || z)
def setTo (s w : Byte) (a : Bool) : Nat → Byte
  | 0 => s
  | k + 1 => if hasb w (bitOf k) && mayB k (setTo s w a k) a then setTo s w a k ||| bitOf k else setTo s w a k
def maskB (s : Byte) : Bool := s &&& 48#8 == 0#8
def offersB (k : Int) (O : Set64) : Bool := knownB k O && hasB O 32
def validB (k : Int) (O G : Set64) (s : Byte) : Bool := offersB k O && maskB s && allowedB s (acceptB k O G) (G == 0#64)

theorem okTo_less {s : Byte} {a : Bool} : ∀ {i j : Nat}, i ≤ j → okTo s a i = false → okTo s a j = false := by
  intro i j h
  induction h with
  | refl => exact id
  | step _ ih => intro hi; unfold okTo; rw [ih hi]; rfl

end Go.Proofs.YtmmgcmbniidieaaDoor.St
