/- The law DescFields: what its last region's operations do. -/
import Derived.Test.YtkncaafjkoeijaaDes
import Derived.Test.YtkncaafjkoeijaaDesTab
import Derived.Test.YtkncaafjkoeijaaDesArgs
import Derived.Test.YtkncaafjkoeijaaAct
namespace Go.Proofs.Ytkncaafjkoeijaa.Asrt
open Go Go.RowKit Eng Lib Rw
/-- A slice of so many cells that read as this. -/
def As.cut (size N : Nat) (F : Nat → Value) : As := ⟨fun v w => ∃ A c, v = .slice A N c ∧ IsRow w w.heap.size size A N F, fun _ _ _ ⟨A, c, e, h⟩ hb => ⟨A, c, e, (h.below hb).more hb.size⟩⟩
end Go.Proofs.Ytkncaafjkoeijaa.Asrt
namespace Go.Proofs.Ytkncaafjkoeijaa.DescFieldsA
open Go.ChangeShapes Go.WideShapes Go.ChangeAt Go.RowKit Le Rw DesPut DesTab DesArgs
set_option linter.unusedVariables false
set_option linter.unusedSimpArgs false

theorem strOf_append (f : Nat → Int) (a b : Nat) : DesArgs.strOf f (a + b) = DesArgs.strOf f a ++ DesArgs.strOf (fun j => f (a + j)) b := by
  unfold DesArgs.strOf
  apply ByteArray.ext
  simp [List.range_add, ByteArray.data_append, Function.comp_def]
theorem strOf_size (f : Nat → Int) (n : Nat) : (DesArgs.strOf f n).size = n := by unfold DesArgs.strOf; simp [ByteArray.size]

/-- The descriptors from number k on. -/
def dropD (d : D4) (k : Nat) : D4 := ⟨fun i => d.a (k + i), fun i => d.l (k + i), fun i => d.f (k + i), fun i => d.x (k + i)⟩
theorem dropD_cell (d : D4) (k j : Nat) : (dropD d k).cell j = d.cell (k * 4 + j) := by
  unfold D4.cell dropD
  rw [show (k * 4 + j) % 4 = j % 4 from by omega, show (k * 4 + j) / 4 = k + j / 4 from by omega]
theorem dropD_byte (d : D4) (k j : Nat) : (dropD d k).byte j = d.byte (16 * k + j) := by
  unfold D4.byte dropD
  rw [show (16 * k + j) % 16 = j % 16 from by omega, show (16 * k + j) / 16 = k + j / 16 from by omega]
theorem dropD_in {d : D4} {n k : Nat} (h : d.In n) (hk : k ≤ n) : (dropD d k).In (n - k) := fun i hi => h (k + i) (by omega)

section
variable {w V W : World} {L : List (Nat × Nat × Value)} {R : Ending → World → Prop} {y : Value}
theorem asrt_tab {A : Option Addr} {m c : Nat} {D : D4} (hC : Lib.Held w V L W) (e : y = .slice A m c) (hr : IsRow W W.heap.size 4 A m D.cell) (hm : m ≤ 300) (hd : D.In m)
    (hR : ∀ v w', (Asrt.As.cut 1 (16 * m) (u8F D.byte)).φ v w' → Lib.Held w V L w' → Below W.heap.size W w' → R (.returned v) w') : Calls Try.prog 54 #[y] W R := by
  subst e
  refine (table_any A m c D W (by omega) hd hr).mono ?_
  rintro e w' ⟨g, cap, rfl, ho, hb⟩
  refine hR _ _ ⟨_, _, rfl, ?_⟩ (hC.step hb) hb
  refine (IsRow.of_own ho).congr fun j hj => ?_
  unfold D4.row
  have hj' : j < 16 * m := by omega
  simp [List.getD_eq_getElem?_getD, hj']
theorem asrt_str {o : Oper} {a : Act} {s n c : Nat} {A : Option Addr} {g : Nat → Int} (hs : a.tmps.getD s undef = .slice A n c) (hg : Bytes g n) (hr : IsRow W W.heap.size 1 A n (u8F g)) (hop : o.op = .convert 37 9 (.tmp s)) :
    (execOp a.eval o).run Try.prog W = .ok (.value (.string (DesArgs.strOf g n))) W := by
  have := run_str (P := Try.prog) 37 9 5 Try.underlying37 Try.underlying5 Try.underlying9 A n c W.heap.size g W hg hr
  simp only [execOp, hop, Act.eval, hs, Sem.run_bind, this, Result.andThen_ok, Sem.run_pure]
theorem asrt_lo {o : Oper} {a : Act} {s q n c Z : Nat} {A : Option Addr} (hs : a.tmps.getD s undef = .slice A n c) (hq : a.tmps.getD q undef = .int .i64 (Z : Int)) (hZ : Z ≤ c) (hop : o.op = .slice 65 (.tmp s) none (some (.tmp q)) none) :
    (execOp a.eval o).run Try.prog W = .ok (.value (.slice A Z c)) W := by
  have hB : 0 ≤ (Z : Int) ∧ (Z : Int) ≤ c := by omega
  have hu := Try.underlying65
  simp only [execOp, hop, Act.eval, hs, hq, Option.map_some, Option.map_none]
  cases A <;> simp [go_sem, hB, hZ]
theorem asrt_hi {o : Oper} {a : Act} {s q n c Z : Nat} {A : Option Addr} {d : D4} (hs : a.tmps.getD s undef = .slice A n c) (hq : a.tmps.getD q undef = .int .i64 (Z : Int)) (hZ : Z ≤ n) (hn : n ≤ c) (hr : IsRow W W.heap.size 4 A n d.cell) (hop : o.op = .slice 65 (.tmp s) (some (.tmp q)) none none) :
    ∃ v, (execOp a.eval o).run Try.prog W = .ok (.value v) W ∧ (Asrt.As.cut 4 (n - Z) (dropD d Z).cell).φ v W := by
  have hB : 0 ≤ (Z : Int) ∧ (Z : Int) ≤ n := by omega
  have hu := Try.underlying65
  simp only [execOp, hop, Act.eval, hs, hq, Option.map_some, Option.map_none]
  have hrow : ∀ A', (0 < n - Z → ∃ ad, A = some ad ∧ A' = some (ad.add (Z * 4))) → IsRow W W.heap.size 4 A' (n - Z) (dropD d Z).cell := fun A' h hp => by
    obtain ⟨ad, e1, e2⟩ := h hp
    obtain ⟨ad', e3, hb, hc⟩ := hr (by omega)
    rw [e1] at e3
    cases e3
    refine ⟨_, e2, by rw [block_of_add]; exact hb, fun j hj => ?_⟩
    rw [Go.Deep.add_add, hc (Z * 4 + j) (by omega), dropD_cell]
  cases A with
  | none =>
    simp [go_sem, hB, hZ]
    exact ⟨_, _, rfl, hrow _ (fun h => by obtain ⟨ad, e, _⟩ := hr (by omega); cases e)⟩
  | some ad =>
    simp [go_sem, hB, hZ]
    exact ⟨_, _, rfl, hrow _ (fun h => ⟨ad, rfl, by rw [if_neg (by omega)]⟩)⟩
theorem asrt_add {o : Oper} {a : Act} {s q x y : Nat} {f : Nat → Int} (hs : a.tmps.getD s undef = .string (DesArgs.strOf f x)) (hq : a.tmps.getD q undef = .string (DesArgs.strOf (fun j => f (x + j)) y)) (hx : x ≤ 100000) (hy : y ≤ 100000) (hop : o.op = .binOp .add 9 (.tmp s) (.tmp q) 9) :
    (execOp a.eval o).run Try.prog W = .ok (.value (.string (DesArgs.strOf f (x + y)))) W := by
  have h1 := strOf_size f x
  have h2 := strOf_size (fun j => f (x + j)) y
  have h3 : ¬ 9223372036854775807 < (DesArgs.strOf f x).size + (DesArgs.strOf (fun j => f (x + j)) y).size := by omega
  rw [strOf_append]
  simp only [execOp, hop, Act.eval, hs, hq]
  simp [go_sem, h3]
end

end Go.Proofs.Ytkncaafjkoeijaa.DescFieldsA
