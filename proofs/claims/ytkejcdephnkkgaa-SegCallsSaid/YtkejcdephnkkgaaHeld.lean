
/- A region that draws its order, among calls that make memory: one walk in the order of the text, if what its loads read is held by every world on the way. -/
import Derived.Test.YtkejcdephnkkgaaLib
import Derived.BigQuiet
namespace Go.Proofs.Ytkejcdephnkkgaa.Lib
open Go.RowKit
set_option linter.unusedVariables false

/-- What these cells hold, and that they may be written. -/
def HeldCells : List (Nat × Nat × Value) → World → Prop
  | [], _ => True
  | (b, o, v) :: r, w => (b < w.heap.size ∧ w.cell? ⟨b, o, none⟩ = some v ∧ w.frozen? ⟨b, o, none⟩ = false) ∧ HeldCells r w

/-- Nothing that was in w0 has changed, nothing that was in W; these cells hold this. -/
def Held (w0 W : World) (L : List (Nat × Nat × Value)) (w : World) : Prop := Below w0.heap.size w0 w ∧ Below W.heap.size W w ∧ HeldCells L w

theorem HeldCells.step {W W' : World} (hb : Below W.heap.size W W') : ∀ L, HeldCells L W → HeldCells L W'
  | [], _ => trivial
  | (b, o, v) :: r, ⟨⟨h1, h2, h3⟩, h⟩ => ⟨⟨Nat.lt_of_lt_of_le h1 hb.size, (hb.cell (p := ⟨b, o, none⟩) h1).trans h2, (hb.frozen (p := ⟨b, o, none⟩) h1).trans h3⟩, HeldCells.step hb r h⟩

theorem Held.step {w0 V W W' : World} {L : List (Nat × Nat × Value)} (h : Held w0 V L W) (hb : Below W.heap.size W W') : Held w0 V L W' :=
  ⟨h.1.trans (hb.mono h.1.size), h.2.1.trans (hb.mono h.2.1.size), h.2.2.step hb⟩

/-- A callee that makes memory and changes none, met in a world of the class. -/
theorem Held.call {P : Program} {f : FuncId} {args : Array Value} {w0 V W : World} {L : List (Nat × Nat × Value)} {v : Value} (hq : Held w0 V L W)
    (h : Calls P f args W fun e W' => e = .returned v ∧ Below W.heap.size W W') : Calls P f args W (fun e W' => e = .returned v ∧ Held w0 V L W') :=
  h.mono fun _ _ ⟨he, hb⟩ => ⟨he, hq.step hb⟩
/-- One that leaves the world. -/
theorem Held.same {P : Program} {f : FuncId} {args : Array Value} {w0 V W : World} {L : List (Nat × Nat × Value)} {v : Value} (hq : Held w0 V L W)
    (h : Calls P f args W fun e W' => e = .returned v ∧ W = W') : Calls P f args W (fun e W' => e = .returned v ∧ Held w0 V L W') :=
  h.mono fun _ _ ⟨he, hb⟩ => ⟨he, hb ▸ hq⟩

/-- The region's theorem at a class, its operations written out. -/
theorem wp_region_class {P : Program} {id : Nat} {Q : Exit → Act → World → Prop} {a : Act} {w : World} {l : List Oper} (C : World → Prop) (hm : P.follows .mixedOrders = true) (hB : Region.lexB .any l.toArray = true)
    (hC : C w.drew) (h : wpQuiet P l.toArray C (fun a' => ∀ w', C w' → Q .normal a' w') l a) : (Code.region id l.toArray true).wp P Q a w :=
  wp_region_quiet (C := C) hm hB hC (by simpa using h)

end Go.Proofs.Ytkejcdephnkkgaa.Lib
