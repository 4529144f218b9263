/- Contracts of the functions of package serial, one each. -/
import Derived.Test.YtgabbefghabcaaaLib
namespace Go.Proofs.Ytgabbefghabcaaa.Ser
open Go.RowKit
set_option linter.unusedVariables false

theorem lives_any (w : World) :
    Calls Try.prog 13 #[] w (Lib.True1 w.heap.size w) := by
  unfold Lib.True1
  go_enter Try.func13, Try.ntmps13
  go_wp2
  go_ret
  exact ⟨rfl, by go_grown⟩

theorem u16w (n : Int) : IntKind.u16.wrap n = n % 65536 := by simp [IntKind.wrap, IntKind.bits, IntKind.signed]

theorem dist_any (a b : Int) (w : World) :
    Calls Try.prog 16 #[.int .u16 a, .int .u16 b] w fun e w' => e = .returned (.int .u16 (IntKind.u16.wrap (a - b))) ∧ w = w' := by
  go_enter Try.func16, Try.ntmps16
  go_wp2
  go_ret
  exact ⟨rfl, rfl⟩

/-- Was the event passed? -/
def passed (event next old : Int) : Bool := decide (IntKind.u16.wrap (IntKind.u16.wrap (next - event) - 1) < IntKind.u16.wrap (next - old))

theorem need_any (a b c : Int) (w : World) :
    Calls Try.prog 18 #[.int .u16 a, .int .u16 b, .int .u16 c] w fun e w' => e = .returned (.bool (passed a b c)) ∧ w = w' := by
  go_enter Try.func18, Try.ntmps18
  go_wp2
  go_ret
  exact ⟨rfl, rfl⟩

end Go.Proofs.Ytgabbefghabcaaa.Ser
