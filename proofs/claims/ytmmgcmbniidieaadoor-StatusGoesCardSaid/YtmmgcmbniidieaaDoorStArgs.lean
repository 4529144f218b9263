/- A device as an argument, opened. -/
import Derived.Test.YtmmgcmbniidieaaDoorLib
import Derived.Test.YtmmgcmbniidieaaDoorStZ
import Derived.Lib.SmallJoins
namespace Go.Proofs.YtmmgcmbniidieaaDoor.StArgs
open Go.ChangeShapes Go.WideShapes Go.ChangeAt Go.RowKit Fe St

theorem cDev : Tryd.prog.cellsOf 24 = 4 := by kernel_rfl
theorem in64 {a : Int} (w : (Lit.int .u64 a).wf = true) : 0 ≤ a ∧ a ≤ 18446744073709551615 := bounds_u64 w
theorem in8 {a : Int} (w : (Lit.int .u8 a).wf = true) : 0 ≤ a ∧ a ≤ 255 := bounds_u8 w
set_option maxRecDepth 100000 in
theorem open_dev {H : Type} {enc : TypeId × Value → H} {W : World} {r : Reach} {b0 base : Nat} {spare : Nat → Bool} {held : Bool} {v : Value} {d : DataW H} {p : List MemPlace}
    (hv : Value.okWide Tryd.prog W r b0 24 v) (h : DataW.Trod enc Tryd.prog W base spare held 24 v d p) :
    ∃ (k : Int) (O G : Set64) (s : Byte), v = dev k O G s ∧ (Lit.int .i64 k).wf = true := by
  obtain ⟨c0, c1, c2, c3, y0, y1, y2, y3, m, rfl, rfl, rfl, hy0, hy1, hy2, hy3⟩ := Joins.open_agg4 Tryd.underlying24 (by kernel_rfl) cDev hv h
  obtain ⟨a, e0, rfl, wa⟩ := DataW.trod_int Tryd.underlying3 hy0
  obtain ⟨l, e1, rfl, wl⟩ := DataW.trod_int Tryd.underlying22 hy1
  obtain ⟨f, e2, rfl, wf⟩ := DataW.trod_int Tryd.underlying22 hy2
  obtain ⟨x, e3, rfl, wx⟩ := DataW.trod_int Tryd.underlying5 hy3
  simp at e0 e1 e2 e3
  subst e0 e1 e2 e3
  obtain ⟨O, rfl⟩ := nu_of (in64 wl)
  obtain ⟨G, rfl⟩ := nu_of (in64 wf)
  obtain ⟨s, rfl⟩ := nb_of (in8 wx)
  exact ⟨a, O, G, s, rfl, wa⟩

end Go.Proofs.YtmmgcmbniidieaaDoor.StArgs
