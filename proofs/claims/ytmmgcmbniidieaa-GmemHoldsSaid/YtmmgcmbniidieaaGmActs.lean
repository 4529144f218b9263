
/- Arguments that are lists of calls of a memory, opened. -/
import Derived.Test.YtmmgcmbniidieaaGmArgs
import Derived.Test.YtmmgcmbniidieaaArgs
import Derived.Lib.AtoiErrMem
namespace Go.Proofs.Ytmmgcmbniidieaa.GmActs
open Go.ChangeShapes Go.WideShapes Go.ChangeAt Go.RowKit Go.Deep Rw
set_option linter.unusedVariables false

theorem cAct : Try.prog.cellsOf 39 = 5 := by kernel_rfl
/-- One call: its kind, address, number, value and bytes. -/
structure Ac where
  kd : Int
  at_ : Int
  nb : Int
  vv : Int
  b : Value
def cellA (f : Nat → Ac) (j : Nat) : Value :=
  if j % 5 = 0 then .int .i64 (f (j / 5)).kd else if j % 5 = 1 then .int .u64 (f (j / 5)).at_ else if j % 5 = 2 then .int .i64 (f (j / 5)).nb else if j % 5 = 3 then .int .u64 (f (j / 5)).vv else (f (j / 5)).b
theorem cellA0 (f : Nat → Ac) (i : Nat) : cellA f (i * 5) = .int .i64 (f i).kd := by unfold cellA; rw [if_pos (by omega), show i * 5 / 5 = i from by omega]
theorem cellA1 (f : Nat → Ac) (i : Nat) : cellA f (i * 5 + 1) = .int .u64 (f i).at_ := by unfold cellA; rw [if_neg (by omega), if_pos (by omega), show (i * 5 + 1) / 5 = i from by omega]
theorem cellA2 (f : Nat → Ac) (i : Nat) : cellA f (i * 5 + 2) = .int .i64 (f i).nb := by unfold cellA; rw [if_neg (by omega), if_neg (by omega), if_pos (by omega), show (i * 5 + 2) / 5 = i from by omega]
theorem cellA3 (f : Nat → Ac) (i : Nat) : cellA f (i * 5 + 3) = .int .u64 (f i).vv := by unfold cellA; rw [if_neg (by omega), if_neg (by omega), if_neg (by omega), if_pos (by omega), show (i * 5 + 3) / 5 = i from by omega]
theorem cellA4 (f : Nat → Ac) (i : Nat) : cellA f (i * 5 + 4) = (f i).b := by unfold cellA; rw [if_neg (by omega), if_neg (by omega), if_neg (by omega), if_neg (by omega), show (i * 5 + 4) / 5 = i from by omega]

/-- Bytes in memory. -/
def IsB (W : World) (v : Value) : Prop := ∃ (A : Option Addr) (n c : Nat) (g : Nat → Int), v = .slice A n c ∧ n ≤ c ∧ c ≤ maxLen ∧ (A = none → n = 0 ∧ c = 0) ∧ IsRow W W.heap.size 1 A n (fun j => .int .u8 (g j)) ∧ ∀ j, 0 ≤ g j ∧ g j ≤ 255
theorem isB {W : World} {v : Value} {H : Type} {enc : TypeId × Value → H} {base m : Nat} {held : Bool} {y : DataW H × List MemPlace} (h : DataW.trod enc Try.prog W base (fun _ => true) held m 37 [v] = some y) : IsB W v := by
  rcases Go.ChangeShapes.open_ints Try.underlying37 Try.underlying5 (by kernel_rfl) h with ⟨h1, _⟩ | ⟨a, len, cap, zs, h1, _, h2, h3, h4, h5, h6, h7⟩
  · obtain rfl : v = .slice none 0 0 := by simpa using h1
    exact ⟨none, 0, 0, fun _ => 0, rfl, Nat.le_refl _, by decide, fun _ => ⟨rfl, rfl⟩, IsRow.none_, fun _ => ⟨Int.le_refl 0, by show (0 : Int) ≤ 255; decide⟩⟩
  · obtain rfl : v = .slice (some a) len cap := by simpa using h1
    simp only [if_true] at h4
    refine ⟨some a, len, cap, fun j => zs.getD j 0, rfl, by omega, h3, fun e => (by cases e), fun hp => ⟨a, rfl, ?_, fun j hj => ?_⟩, fun j => ?_⟩
    · exact Go.Lib.lt_of_cell (h6 0 (by omega))
    · have hj : j < len := by omega
      rw [h6 j (by omega)]
    · by_cases hj : j < zs.length
      · have := h7 (zs.getD j 0) (by rw [List.getD_eq_getElem?_getD, List.getElem?_eq_getElem hj]; exact List.getElem_mem hj)
        exact bounds_u8 this
      · show 0 ≤ zs.getD j 0 ∧ zs.getD j 0 ≤ 255
        rw [List.getD_eq_getElem?_getD, List.getElem?_eq_none (by omega)]
        decide

structure IsActs (W : World) (v : Value) (A : Option Addr) (k c : Nat) (f : Nat → Ac) : Prop where
  val : v = .slice A k c
  le : k ≤ c
  max : c ≤ maxLen
  row : IsRow W W.heap.size 5 A k (cellA f)
  wk : ∀ i, i < k → (Lit.int .i64 (f i).kd).wf = true
  wa : ∀ i, i < k → 0 ≤ (f i).at_ ∧ (f i).at_ ≤ 18446744073709551615
  wn : ∀ i, i < k → (Lit.int .i64 (f i).nb).wf = true
  wv : ∀ i, i < k → 0 ≤ (f i).vv ∧ (f i).vv ≤ 18446744073709551615
  wb : ∀ i, i < k → IsB W (f i).b
set_option maxRecDepth 100000 in
theorem open_acts {H : Type} {enc : TypeId × Value → H} {W : World} {r : Reach} {b0 base : Nat} {held : Bool} {v : Value} {d : DataW H} {p : List MemPlace}
    (hv : Value.okWide Try.prog W r b0 23 v) (h : DataW.Trod enc Try.prog W base (fun _ => true) held 23 v d p) : ∃ A k c f, IsActs W v A k c f := by
  obtain ⟨A, n, c, F, hv', hn, hc, hr, hf⟩ := Args.open_structs Try.underlying23 Try.underlying39 (by kernel_rfl) cAct (by decide) hv h
  have t0 : ∀ i, i < n → F (i * 5) = .int .i64 (intOf (F (i * 5))) ∧ (Lit.int .i64 (intOf (F (i * 5)))).wf = true := fun i hi => by
    obtain ⟨m, y, hy⟩ := hf i hi 0 _ rfl
    exact Args.cell_int Try.underlying3 hy
  have t1 : ∀ i, i < n → F (i * 5 + 1) = .int .u64 (intOf (F (i * 5 + 1))) ∧ (Lit.int .u64 (intOf (F (i * 5 + 1)))).wf = true := fun i hi => by
    obtain ⟨m, y, hy⟩ := hf i hi 1 _ rfl
    exact Args.cell_int Try.underlying26 hy
  have t2 : ∀ i, i < n → F (i * 5 + 2) = .int .i64 (intOf (F (i * 5 + 2))) ∧ (Lit.int .i64 (intOf (F (i * 5 + 2)))).wf = true := fun i hi => by
    obtain ⟨m, y, hy⟩ := hf i hi 2 _ rfl
    exact Args.cell_int Try.underlying3 hy
  have t3 : ∀ i, i < n → F (i * 5 + 3) = .int .u64 (intOf (F (i * 5 + 3))) ∧ (Lit.int .u64 (intOf (F (i * 5 + 3)))).wf = true := fun i hi => by
    obtain ⟨m, y, hy⟩ := hf i hi 3 _ rfl
    exact Args.cell_int Try.underlying26 hy
  have t4 : ∀ i, i < n → IsB W (F (i * 5 + 4)) := fun i hi => by
    obtain ⟨m, y, hy⟩ := hf i hi 4 _ rfl
    exact isB hy
  refine ⟨A, n, c, fun i => ⟨intOf (F (i * 5)), intOf (F (i * 5 + 1)), intOf (F (i * 5 + 2)), intOf (F (i * 5 + 3)), F (i * 5 + 4)⟩, hv', hn, hc, ?_, fun i hi => (t0 i hi).2, fun i hi => bounds_u64 (t1 i hi).2, fun i hi => (t2 i hi).2, fun i hi => bounds_u64 (t3 i hi).2, t4⟩
  refine hr.congr fun j hj => ?_
  have hj : j < n * 5 := hj
  obtain ⟨i, q, hq, rfl⟩ : ∃ i q, q < 5 ∧ j = i * 5 + q := ⟨j / 5, j % 5, by omega, by omega⟩
  have hi : i < n := by omega
  rcases (show q = 0 ∨ q = 1 ∨ q = 2 ∨ q = 3 ∨ q = 4 by omega) with rfl | rfl | rfl | rfl | rfl
  · rw [Nat.add_zero, cellA0]; exact (t0 i hi).1
  · rw [cellA1]; exact (t1 i hi).1
  · rw [cellA2]; exact (t2 i hi).1
  · rw [cellA3]; exact (t3 i hi).1
  · rw [cellA4]
end Go.Proofs.Ytmmgcmbniidieaa.GmActs
