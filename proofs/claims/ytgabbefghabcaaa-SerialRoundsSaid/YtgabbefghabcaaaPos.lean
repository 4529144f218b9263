/- A position by value, opened. -/
import Derived.Test.YtgabbefghabcaaaLib
import Derived.Lib.SmallJoins
namespace Go.Proofs.Ytgabbefghabcaaa.Pos
open Go.ChangeShapes Go.WideShapes Go.ChangeAt Go.RowKit

theorem cellsPos : Try.prog.cellsOf 23 = 2 := by kernel_rfl

theorem open_pos {H : Type} {enc : TypeId × Value → H} {W : World} {r : Reach} {b0 base : Nat} {spare : Nat → Bool} {held : Bool} {v : Value} {d : DataW H} {p : List MemPlace}
    (hv : Value.okWide Try.prog W r b0 23 v) (h : DataW.Trod enc Try.prog W base spare held 23 v d p) :
    ∃ (a : Int) (b : Bool), v = .agg #[.int .i64 a, .bool b] ∧ (Lit.int .i64 a).wf = true := by
  obtain ⟨c0, c1, y0, y1, m, rfl, rfl, rfl, hy0, hy1⟩ := Joins.open_agg2 Try.underlying23 (by kernel_rfl) cellsPos hv h
  obtain ⟨a, e0, rfl, wa⟩ := DataW.trod_int Try.underlying3 hy0
  obtain ⟨b, e1, rfl⟩ := DataW.trod_bool Try.underlying4 hy1
  simp at e0 e1
  subst e0 e1
  exact ⟨a, b, rfl, wa⟩

end Go.Proofs.Ytgabbefghabcaaa.Pos
