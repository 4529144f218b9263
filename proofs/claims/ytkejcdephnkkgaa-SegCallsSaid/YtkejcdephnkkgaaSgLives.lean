
/- The chapter's examples of segments. -/
import Derived.Test.YtkejcdephnkkgaaSgMath
import Derived.Test.YtkejcdephnkkgaaMEng1
namespace Go.Proofs.Ytkejcdephnkkgaa.SgLives
open Go.RowKit Rw Sg SgCheck
set_option linter.unusedVariables false
set_option linter.unusedSimpArgs false

theorem envOk : (Eng.Env.of Try.prog).Ok := Eng.Env.of_ok _ (by kernel_rfl) (by kernel_rfl)
theorem lives_run : Eng.isTrue (Eng.runL (Eng.Env.of Try.prog) 100000 7 []) = true := by kernel_rfl
theorem lives_any (w : World) : Calls Try.prog 7 #[] w (Gives w.heap.size w (.bool true)) := Eng.runs envOk lives_run w

end Go.Proofs.Ytkejcdephnkkgaa.SgLives
