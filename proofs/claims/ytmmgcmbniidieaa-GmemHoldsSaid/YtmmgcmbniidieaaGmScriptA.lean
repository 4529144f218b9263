/- The law GmemScript: calls met in a region that draws its order. -/
import Derived.Test.YtmmgcmbniidieaaGmPair
import Derived.Test.YtmmgcmbniidieaaGmOwn
import Derived.Test.YtmmgcmbniidieaaGmSame
import Derived.Test.YtmmgcmbniidieaaGmSmall
import Derived.Test.YtmmgcmbniidieaaGmArgs
import Derived.Test.YtmmgcmbniidieaaGmKit
import Derived.Test.YtmmgcmbniidieaaAssert
import Derived.Test.YtmmgcmbniidieaaHeld
import Derived.Shelf.Abstract
namespace Go.Proofs.Ytmmgcmbniidieaa.Asrt
open Go.RowKit Rw
def As.cut (size N : Nat) (F : Nat → Value) : As := ⟨fun v w => ∃ A c, v = .slice A N c ∧ IsRow w w.heap.size size A N F, fun _ _ _ ⟨A, c, e, h⟩ hb => ⟨A, c, e, (h.below hb).more hb.size⟩⟩
end Go.Proofs.Ytmmgcmbniidieaa.Asrt
namespace Go.Proofs.Ytmmgcmbniidieaa.GmScriptA
open Go.RowKit Rw Le GmFind GmWord GmCheck GmNew GmPair GmZero GmOwn
set_option linter.unusedVariables false
set_option linter.unusedSimpArgs false

theorem rowAt {w W : World} {s n : Nat} {A : Option Addr} {F : Nat → Value} (h : IsRow w w.heap.size s A n F) (hb : Below w.heap.size w W) : IsRow W W.heap.size s A n F := (h.below hb).more hb.size
theorem turn_below {B b top : Nat} {W W' : World} (e : B = b) (h : Turned B top W W') (hs : b ≤ W.heap.size) : Below b W W' := by
  subst e
  exact h.below hs
open GmActs in
theorem isB_at {w W : World} {v : Value} (h : IsB w v) (hb : Below w.heap.size w W) : IsB W v := by
  obtain ⟨A, n, c, g, h1, h2, h3, h4, h5, h6⟩ := h
  exact ⟨A, n, c, g, h1, h2, h3, h4, rowAt h5 hb, h6⟩
section
variable {w V W : World} {L : List (Nat × Nat × Value)} {R : Ending → World → Prop} {y y1 y2 : Value}
theorem asrt_img {P : Program} {f : FuncId} {x : Value} {S : Nat} {g : Nat → Int} (hC : Lib.Held w V L W) (e : y = x) (h : Calls P f #[x] W (ImgP S g W)) (hR : ∀ v w', (Asrt.As.cut 1 S (u8F g)).φ v w' → Lib.Held w V L w' → Below W.heap.size W w' → R (.returned v) w') : Calls P f #[y] W R := by
  subst e
  exact h.mono fun e w' ⟨A, c, he, hr, hb⟩ => by subst he; exact hR _ _ ⟨_, _, rfl, hr⟩ (hC.step hb) hb
theorem asrt_rg {P : Program} {f : FuncId} {x : Value} {k : Nat} {r : Rg} (hC : Lib.Held w V L W) (e : y = x) (h : Calls P f #[x] W (RgP k r W)) (hR : ∀ v w', (Asrt.As.cut 2 k r.cell).φ v w' → Lib.Held w V L w' → Below W.heap.size W w' → R (.returned v) w') : Calls P f #[y] W R := by
  subst e
  exact h.mono fun e w' ⟨A, c, he, hr, hb⟩ => by subst he; exact hR _ _ ⟨_, _, rfl, hr⟩ (hC.step hb) hb
theorem asrt_q2b {P : Program} {f : FuncId} {x1 x2 v : Value} (hC : Lib.Held w V L W) (e1 : y1 = x1) (e2 : y2 = x2) (h : Calls P f #[x1, x2] W (fun e w' => e = .returned v ∧ Below W.heap.size W w')) (hR : ∀ w', Lib.Held w V L w' → Below W.heap.size W w' → R (.returned v) w') : Calls P f #[y1, y2] W R := by
  subst e1 e2
  exact h.mono fun e w' ⟨he, hb⟩ => by subst he; exact hR _ (hC.step hb) hb
theorem asrt_str {o : Oper} {a : Act} {s n c : Nat} {A : Option Addr} {g : Nat → Int} (hb : a.tmps.getD s undef = .slice A n c) (hg : Bytes8 g n) (hr : IsRow W W.heap.size 1 A n (u8F g)) (hop : o.op = .convert 37 9 (.tmp s)) :
    (execOp a.eval o).run Try.prog W = .ok (.value (.string (strOf g n))) W := by
  have := run_str (P := Try.prog) 37 9 5 Try.underlying37 Try.underlying5 Try.underlying9 A n c W.heap.size g W hg hr
  simp only [execOp, hop, Act.eval, hb, Sem.run_bind, this, Result.andThen_ok, Sem.run_pure]
end
end Go.Proofs.Ytmmgcmbniidieaa.GmScriptA
