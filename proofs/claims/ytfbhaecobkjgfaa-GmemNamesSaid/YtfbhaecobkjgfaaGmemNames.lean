/- The law GmemNames: the chapter's examples. No input; no condition. -/
import Derived.Test.YtfbhaecobkjgfaaEngZ
import Derived.Test.YtfbhaecobkjgfaaLib
namespace Go.Proofs.Ytfbhaecobkjgfaa.GmemNames
open Go.ChangeShapes Go.WideShapes Go.ChangeAt Go.RowKit
set_option linter.unusedVariables false

theorem envOk : (Eng.Env.of Try.prog).Ok := Eng.Env.of_ok _ (by kernel_rfl) (by kernel_rfl)

theorem run : Eng.isTrue (Eng.runL (Eng.Env.of Try.prog) 100000 3 []) = true := by kernel_rfl

theorem walk (w : World) : Calls Try.prog 3 #[] w (Lib.True1 w.heap.size w) := Eng.runs envOk run w

set_option maxRecDepth 100000 in
theorem lifted (os : Os) (started : os.Started) (H : Type) (enc : TypeId × Value → H) :
    ReturnsInHanded {} Try.checked os 3 .any (Rows.gmemNamesSpec.pre6 enc Try.prog Try.f3 Rows.gmemNamesRow.domain false) (Rows.gmemNamesSpec.post enc Try.prog Try.f3 false true false false) := by
  refine Lib.lifted (C := Try.checked) (tb := 4) H enc Lib.own started (by kernel_rfl) Try.func3
    (ChangeSpec.witness6 (enc := enc) (C := Try.checked) false ⟨#[], #[], []⟩ 8 (by kernel_rfl) (by kernel_rfl) (by kernel_rfl) (by kernel_rfl))
    Lib.laidOut (Lib.readable_of (by kernel_rfl)) rfl Try.underlying4 rfl ?_ ?_
  · intro ds h
    match ds, h with
    | [], _ => exact ⟨rfl, rfl, rfl⟩
  · intro W base args ds p hval hA hfz hlt
    rw [Try.params3] at hval
    have hA' : DataW.TrodAll enc Try.prog W 0 (fun _ => true) true Try.f3.params.toList args.toList ds p := hA
    rw [Try.params3] at hA'
    obtain ⟨hargs, rfl, rfl⟩ := trodAll_nil hA'
    obtain rfl : args = #[] := by cases args; simp_all
    exact walk  W

theorem over : Rows.gmemNamesRow.holds Try.pinned (OpenSpec.ofChange Rows.gmemNamesSpec) :=
  OpenClaim.holds_of_wide 3 Try.f3 rfl rfl rfl rfl rfl rfl rfl ⟨rfl, rfl, rfl, rfl, rfl⟩ rfl rfl rfl rfl rfl (by kernel_rfl) Try.func3 (by kernel_rfl)
    (of_decide_eq_true (by kernel_rfl)) (by unfold Func.isWrapper; first | (rw [if_pos (by decide +kernel)]; kernel_rfl) | (rw [if_neg (by decide +kernel)]; exact ⟨rfl, rfl⟩))
    (fun os started H enc _ => lifted os started H enc)

/-- The statement. -/
theorem proved : Rows.GmemNamesSaid :=
  over

end Go.Proofs.Ytfbhaecobkjgfaa.GmemNames
