
/- Arguments that are lists of regions, opened. -/
import Derived.Test.YtmmgcmbniidieaaGmCheck
import Derived.Test.YtmmgcmbniidieaaArgs2
namespace Go.Proofs.Ytmmgcmbniidieaa.GmArgs
open Go.ChangeShapes Go.WideShapes Go.ChangeAt Go.RowKit Go.Deep Rw GmFind GmCheck
set_option linter.unusedVariables false

theorem cRegion : Try.prog.cellsOf 55 = 2 := by kernel_rfl
/-- A list of regions. -/
structure IsRegs (W : World) (v : Value) (A : Option Addr) (k c : Nat) (r : Rg) : Prop where
  val : v = .slice A k c
  none_ : A = none → k = 0 ∧ c = 0
  le : k ≤ c
  max : c ≤ maxLen
  raw : Raw r k
  lst : Lst W W.heap.size A k r

theorem none_empty {H : Type} {enc : TypeId × Value → H} {P : Program} {W : World} {base : Nat} {spare : Nat → Bool} {held : Bool} {t e : TypeId} {n c : Nat} {d : DataW H} {p : List MemPlace} (ht : P.underlying t = some (.slice e)) (h : DataW.Trod enc P W base spare held t (.slice none n c) d p) : n = 0 ∧ c = 0 := by
  obtain ⟨fuel, hf⟩ := h
  rcases open_slice ht hf with ⟨h1, _⟩ | ⟨a, len, cap, m, k, D, Pl, hcs, _⟩
  · have h1 : [Value.slice none n c] = [Value.slice none 0 0] := h1
    injection h1 with h1 _
    injection h1 with _ h2 h3
    exact ⟨h2, h3⟩
  · have hcs : [Value.slice none n c] = [Value.slice (some a) len cap] := hcs
    injection hcs with hcs _
    injection hcs with h1 _
    cases h1

set_option maxRecDepth 100000 in
theorem open_regions {H : Type} {enc : TypeId × Value → H} {W : World} {r : Reach} {b0 base : Nat} {spare : Nat → Bool} {held : Bool} {v : Value} {d : DataW H} {p : List MemPlace}
    (hv : Value.okWide Try.prog W r b0 22 v) (h : DataW.Trod enc Try.prog W base spare held 22 v d p) : ∃ A k c r, IsRegs W v A k c r := by
  obtain ⟨A, n, c, F, hv', hn, hc, hr, hf⟩ := Args.open_structs Try.underlying22 Try.underlying55 (by kernel_rfl) cRegion (by decide) hv h
  have t0 : ∀ i, i < n → F (i * 2) = .int .u64 (intOf (F (i * 2))) ∧ (Lit.int .u64 (intOf (F (i * 2)))).wf = true := fun i hi => by
    obtain ⟨m, y, hy⟩ := hf i hi 0 _ rfl
    exact Args.cell_int Try.underlying26 hy
  have t1 : ∀ i, i < n → F (i * 2 + 1) = .int .u64 (intOf (F (i * 2 + 1))) ∧ (Lit.int .u64 (intOf (F (i * 2 + 1)))).wf = true := fun i hi => by
    obtain ⟨m, y, hy⟩ := hf i hi 1 _ rfl
    exact Args.cell_int Try.underlying26 hy
  refine ⟨A, n, c, ⟨fun i => intOf (F (i * 2)), fun i => intOf (F (i * 2 + 1)), fun _ => 0⟩, hv', ?_, hn, hc, ?_, ?_⟩
  · rintro rfl
    subst hv'
    exact none_empty Try.underlying22 h
  · intro i hi
    obtain ⟨k1, k2⟩ := bounds_u64 (t0 i hi).2
    obtain ⟨k3, k4⟩ := bounds_u64 (t1 i hi).2
    exact ⟨k1, k2, k3, k4⟩
  · refine hr.congr fun j hj => ?_
    have hj : j < n * 2 := hj
    have hj' : j / 2 < n := Nat.div_lt_of_lt_mul (by rw [Nat.mul_comm]; exact hj)
    unfold Rg.cell
    by_cases h0 : j % 2 = 0
    · rw [if_pos h0]
      have e : j / 2 * 2 = j := by omega
      have := (t0 (j / 2) hj').1
      rw [e] at this
      show F j = .int .u64 (intOf (F (j / 2 * 2)))
      rw [e]; exact this
    · rw [if_neg h0]
      have e : j / 2 * 2 + 1 = j := by omega
      have := (t1 (j / 2) hj').1
      rw [e] at this
      show F j = .int .u64 (intOf (F (j / 2 * 2 + 1)))
      rw [e]; exact this

end Go.Proofs.Ytmmgcmbniidieaa.GmArgs
