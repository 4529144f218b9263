
/- Memory in regions: Load, Store. -/
import Derived.Test.YtlcpdhplaaljaaaGmWord
import Derived.Test.YtlcpdhplaaljaaaLe
namespace Go.Proofs.Ytlcpdhplaaljaaa.GmLoad
open Go.RowKit Rw GmFind GmWord Le
set_option linter.unusedVariables false
set_option linter.unusedSimpArgs false

/-- A place lies in the bytes. -/
theorem place_fits {r : Rg} {k n3 : Nat} {at_ n : Int} {o : Nat} (hf : r.Fits k n3) (h : place r k at_ n = some o) : (o : Int) + n ≤ n3 ∧ 1 ≤ n := by
  unfold place at h
  by_cases ho : okB r k (idx r at_ k) at_ n = true
  · rw [if_pos ho] at h
    injection h with h
    unfold okB Rg.end_ at ho
    simp only [Bool.and_eq_true, decide_eq_true_eq] at ho
    obtain ⟨⟨⟨h1, h2⟩, h3⟩, h4⟩ := ho
    obtain ⟨h5, h6⟩ := hf _ h1
    omega
  · rw [if_neg ho] at h
    exact absurd h (by simp)

/-- The bytes of a memory. -/
def By (w : World) (b3 n3 : Nat) (g : Nat → Int) : Prop := ∀ j, j < n3 → w.cell? ⟨b3, j, none⟩ = some (.int .u8 (g j))
/-- What Load answers. -/
def loadV (g : Nat → Int) (nb : Int) : Option Nat → Value
  | some o => .tuple #[.int .u64 (wordI (fun j => g (o + j)) nb.toNat), .int .i64 0]
  | none => .tuple #[.int .u64 0, .int .i64 5]

/-- The bytes with a word stored. -/
def stG (g : Nat → Int) (n : Nat) (v : Int) : Option Nat → Nat → Int
  | some o => fun j => if o ≤ j ∧ j < o + n then byteI v (j - o) else g j
  | none => g
/-- What Store answers. -/
def errV : Option Nat → Value
  | some _ => .int .i64 0
  | none => .int .i64 5
def stF (F : Nat → Value) (o n : Nat) (v : Int) : Nat → Value := fun j => if o ≤ j ∧ j < o + n then .int .u8 (byteI v (j - o)) else F j

end Go.Proofs.Ytlcpdhplaaljaaa.GmLoad
