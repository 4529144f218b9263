/- A call in a drawn region by a contract whose arguments are compared apart (a contract that does not fit is then seen at once: one function, several contracts). -/
import Derived.Test.YtmmgcmbniidieaaDoorHeld
namespace Go.Proofs.YtmmgcmbniidieaaDoor.Lib
open Go.RowKit

theorem Held.callEq {P : Program} {f : FuncId} {args args' : Array Value} {w0 V W : World} {L : List (Nat × Nat × Value)} {v : Value} (hq : Held w0 V L W)
    (h : Calls P f args' W fun e W' => e = .returned v ∧ Below W.heap.size W W') (e : args = args') : Calls P f args W (fun e W' => e = .returned v ∧ Held w0 V L W') :=
  e ▸ h.mono fun _ _ ⟨he, hb⟩ => ⟨he, hq.step hb⟩

end Go.Proofs.YtmmgcmbniidieaaDoor.Lib
