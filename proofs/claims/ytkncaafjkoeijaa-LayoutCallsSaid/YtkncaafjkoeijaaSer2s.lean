
/- Contracts of the functions of package serial, and of the document's own answers: words, events at positions, distances. -/
import Derived.Test.YtkncaafjkoeijaaSer
import Derived.Test.YtkncaafjkoeijaaSerBits
namespace Go.Proofs.Ytkncaafjkoeijaa.Ser
open Go.RowKit SerBits
set_option linter.unusedVariables false
set_option linter.unusedSimpArgs false

theorem s_start (w : World) : Calls Try.prog 129 #[] w (Gives w.heap.size w (posV 0 true)) := by
  unfold Gives
  go_enter Try.func129, Try.ntmps129
  go_wp2
  go_returns
  exact ⟨rfl, by go_grown⟩
end Go.Proofs.Ytkncaafjkoeijaa.Ser
