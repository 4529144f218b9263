
/- Rings by value, opened. -/
import Derived.Test.YtkncaafjkoeijaaLay1
import Derived.Test.YtkncaafjkoeijaaAgg5
namespace Go.Proofs.Ytkncaafjkoeijaa.Lay
open Go.ChangeShapes Go.WideShapes Go.ChangeAt Go.RowKit Ser

theorem cRings : Try.prog.cellsOf 89 = 5 := by kernel_rfl
set_option maxRecDepth 100000 in
theorem open_rings {H : Type} {enc : TypeId × Value → H} {W : World} {r : Reach} {b0 base : Nat} {spare : Nat → Bool} {held : Bool} {v : Value} {d : DataW H} {p : List MemPlace}
    (hv : Value.okWide Try.prog W r b0 89 v) (h : DataW.Trod enc Try.prog W base spare held 89 v d p) :
    ∃ (q : Bool) (n a b c : Int), v = ringV q n a b c ∧ (Lit.int .i64 n).wf = true ∧ u64in a ∧ u64in b ∧ u64in c := by
  obtain ⟨c0, c1, c2, c3, c4, y0, y1, y2, y3, y4, m, rfl, rfl, rfl, hy0, hy1, hy2, hy3, hy4⟩ := Lib.open_agg5 Try.underlying89 (by kernel_rfl) cRings hv h
  obtain ⟨q, e0, rfl⟩ := DataW.trod_bool Try.underlying4 hy0
  obtain ⟨n, e1, rfl, w1⟩ := DataW.trod_int Try.underlying3 hy1
  obtain ⟨a, e2, rfl, w2⟩ := DataW.trod_int Try.underlying26 hy2
  obtain ⟨b, e3, rfl, w3⟩ := DataW.trod_int Try.underlying26 hy3
  obtain ⟨c, e4, rfl, w4⟩ := DataW.trod_int Try.underlying26 hy4
  simp at e0 e1 e2 e3 e4
  subst e0 e1 e2 e3 e4
  exact ⟨q, n, a, b, c, rfl, w1, bounds_u64 w2, bounds_u64 w3, bounds_u64 w4⟩

end Go.Proofs.Ytkncaafjkoeijaa.Lay
