
/- Memory in regions: Write. -/
import Derived.Test.YtlcpdhplaaljaaaGmRead
namespace Go.Proofs.Ytlcpdhplaaljaaa.GmWrite
open Go.RowKit Rw GmFind GmWord GmLoad GmCopy
set_option linter.unusedVariables false
set_option linter.unusedSimpArgs false

/-- The cells with bytes written. -/
def wrF (F : Nat → Value) (o n : Nat) (gb : Nat → Int) : Nat → Value := fun j => if o ≤ j ∧ j < o + n then .int .u8 (gb (j - o)) else F j

end Go.Proofs.Ytlcpdhplaaljaaa.GmWrite
