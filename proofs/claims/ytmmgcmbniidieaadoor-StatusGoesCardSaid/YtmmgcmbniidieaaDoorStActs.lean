/- A list of what a driver does, as an argument, opened. -/
import Derived.Test.YtmmgcmbniidieaaDoorStArgs
import Derived.Test.YtmmgcmbniidieaaDoorArgs2
import Derived.Test.YtmmgcmbniidieaaDoorRow
namespace Go.Proofs.YtmmgcmbniidieaaDoor.StArgs
open Go.ChangeShapes Go.WideShapes Go.ChangeAt Go.RowKit Go.Deep Rw Fe St
set_option linter.unusedVariables false

theorem cAct : Tryd.prog.cellsOf 41 = 4 := by kernel_rfl
structure Ac where
  kd : Int
  wd : Int
  set : Int
  nd : Bool
def cellA (f : Nat → Ac) (j : Nat) : Value :=
  if j % 4 = 0 then .int .i64 (f (j / 4)).kd else if j % 4 = 1 then .int .u8 (f (j / 4)).wd else if j % 4 = 2 then .int .u64 (f (j / 4)).set else .bool (f (j / 4)).nd
theorem cellA0 (f : Nat → Ac) (i : Nat) : cellA f (i * 4) = .int .i64 (f i).kd := by unfold cellA; rw [if_pos (by omega), show i * 4 / 4 = i from by omega]
theorem cellA1 (f : Nat → Ac) (i : Nat) : cellA f (i * 4 + 1) = .int .u8 (f i).wd := by unfold cellA; rw [if_neg (by omega), if_pos (by omega), show (i * 4 + 1) / 4 = i from by omega]
theorem cellA2 (f : Nat → Ac) (i : Nat) : cellA f (i * 4 + 2) = .int .u64 (f i).set := by unfold cellA; rw [if_neg (by omega), if_neg (by omega), if_pos (by omega), show (i * 4 + 2) / 4 = i from by omega]
theorem cellA3 (f : Nat → Ac) (i : Nat) : cellA f (i * 4 + 3) = .bool (f i).nd := by unfold cellA; rw [if_neg (by omega), if_neg (by omega), if_neg (by omega), show (i * 4 + 3) / 4 = i from by omega]
structure IsActs (W : World) (v : Value) (A : Option Addr) (k c : Nat) (f : Nat → Ac) : Prop where
  val : v = .slice A k c
  le : k ≤ c
  max : c ≤ maxLen
  row : IsRow W W.heap.size 4 A k (cellA f)
  wk : ∀ i, i < k → (Lit.int .i64 (f i).kd).wf = true
  ww : ∀ i, i < k → 0 ≤ (f i).wd ∧ (f i).wd ≤ 255
  ws : ∀ i, i < k → 0 ≤ (f i).set ∧ (f i).set ≤ 18446744073709551615
theorem cell_bool {H : Type} {enc : TypeId × Value → H} {W : World} {base : Nat} {spare : Nat → Bool} {held : Bool} {m : Nat} {x : Value} {y : DataW H × List MemPlace} (hy : DataW.trod enc Tryd.prog W base spare held m 4 [x] = some y) : ∃ b, x = .bool b := by
  obtain ⟨b, e, _⟩ := DataW.trod_bool Tryd.underlying4 hy
  exact ⟨b, by simpa using e⟩
def boolOf (x : Value) : Bool := match x with | .bool b => b | _ => false
theorem cell_is {H : Type} {enc : TypeId × Value → H} {W : World} {base : Nat} {spare : Nat → Bool} {held : Bool} {m : Nat} {x : Value} {y : DataW H × List MemPlace} (hy : DataW.trod enc Tryd.prog W base spare held m 4 [x] = some y) : x = .bool (boolOf x) := by
  obtain ⟨b, rfl⟩ := cell_bool hy
  rfl
set_option maxRecDepth 100000 in
theorem open_acts {H : Type} {enc : TypeId × Value → H} {W : World} {r : Reach} {b0 base : Nat} {held : Bool} {v : Value} {d : DataW H} {p : List MemPlace}
    (hv : Value.okWide Tryd.prog W r b0 37 v) (h : DataW.Trod enc Tryd.prog W base (fun _ => true) held 37 v d p) : ∃ A k c f, IsActs W v A k c f := by
  obtain ⟨A, n, c, F, hv', hn, hc, hr, hf⟩ := Args.open_structs Tryd.underlying37 Tryd.underlying41 (by kernel_rfl) cAct (by decide) hv h
  have t0 : ∀ i, i < n → F (i * 4) = .int .i64 (intOf (F (i * 4))) ∧ (Lit.int .i64 (intOf (F (i * 4)))).wf = true := fun i hi => by
    obtain ⟨m, y, hy⟩ := hf i hi 0 _ rfl
    exact Args.cell_int Tryd.underlying3 hy
  have t1 : ∀ i, i < n → F (i * 4 + 1) = .int .u8 (intOf (F (i * 4 + 1))) ∧ (Lit.int .u8 (intOf (F (i * 4 + 1)))).wf = true := fun i hi => by
    obtain ⟨m, y, hy⟩ := hf i hi 1 _ rfl
    exact Args.cell_int Tryd.underlying5 hy
  have t2 : ∀ i, i < n → F (i * 4 + 2) = .int .u64 (intOf (F (i * 4 + 2))) ∧ (Lit.int .u64 (intOf (F (i * 4 + 2)))).wf = true := fun i hi => by
    obtain ⟨m, y, hy⟩ := hf i hi 2 _ rfl
    exact Args.cell_int Tryd.underlying22 hy
  have t3 : ∀ i, i < n → F (i * 4 + 3) = .bool (boolOf (F (i * 4 + 3))) := fun i hi => by
    obtain ⟨m, y, hy⟩ := hf i hi 3 _ rfl
    exact cell_is hy
  refine ⟨A, n, c, fun i => ⟨intOf (F (i * 4)), intOf (F (i * 4 + 1)), intOf (F (i * 4 + 2)), boolOf (F (i * 4 + 3))⟩, hv', hn, hc, ?_, fun i hi => (t0 i hi).2, fun i hi => bounds_u8 (t1 i hi).2, fun i hi => bounds_u64 (t2 i hi).2⟩
  refine hr.congr fun j hj => ?_
  have hj : j < n * 4 := hj
  obtain ⟨i, q, hq, rfl⟩ : ∃ i q, q < 4 ∧ j = i * 4 + q := ⟨j / 4, j % 4, by omega, by omega⟩
  have hi : i < n := by omega
  rcases (show q = 0 ∨ q = 1 ∨ q = 2 ∨ q = 3 by omega) with rfl | rfl | rfl | rfl
  · rw [Nat.add_zero, cellA0]; exact (t0 i hi).1
  · rw [cellA1]; exact (t1 i hi).1
  · rw [cellA2]; exact (t2 i hi).1
  · rw [cellA3]; exact t3 i hi

end Go.Proofs.YtmmgcmbniidieaaDoor.StArgs
