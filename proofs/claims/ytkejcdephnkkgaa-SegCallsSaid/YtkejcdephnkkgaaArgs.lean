
/- Arguments that are slices, opened. -/
import Derived.Test.YtkejcdephnkkgaaLib
import Derived.ChangeSlices
namespace Go.Proofs.Ytkejcdephnkkgaa.Args
open Go.ChangeShapes Go.WideShapes Go.ChangeAt Go.RowKit

/-- A value that is a slice of these numbers of a kind. -/
def IsInts (w : World) (k : IntKind) (v : Value) (zs : List Int) : Prop :=
  (v = .slice none 0 0 ∧ zs = []) ∨ ∃ (a : Addr) (cap : Nat), v = .slice (some a) zs.length cap ∧ zs.length ≤ cap ∧ cap ≤ maxLen ∧ (∀ i, i < zs.length → w.cell? (a.add i) = some (.int k (zs.getD i 0)) ∧ a.block < w.heap.size) ∧ ∀ n ∈ zs, (Lit.int k n).wf = true

/-- A value at a slice type is no aggregate. -/
theorem cells_slice {P : Program} {W : World} {r : Reach} {b0 : Nat} {t e : TypeId} {v x : Value} (ht : P.underlying t = some (.slice e)) (hv : Value.okWide P W r b0 t v) (h : v.cells.toList = [x]) : v = x := by
  cases v with
  | agg cs => exfalso; simp [Value.okWide, ht, Cell.okWide, Cell.ok] at hv
  | _ => simpa [Value.cells] using h

theorem open_ints {H : Type} {enc : TypeId × Value → H} {P : Program} {W : World} {r : Reach} {b0 base : Nat} {held : Bool} {k : IntKind} {t e : TypeId} {v : Value} {d : DataW H} {p : List MemPlace} (ht : P.underlying t = some (.slice e)) (he : P.underlying e = some (.int k)) (hc : P.cellsOf e = 1)
    (hv : Value.okWide P W r b0 t v) (h : DataW.Trod enc P W base (fun _ => true) held t v d p) (hlt : ∀ x ∈ p, x.block < W.heap.size) : ∃ zs, IsInts W k v zs := by
  obtain ⟨fuel, hf⟩ := h
  rcases Go.ChangeShapes.open_ints ht he hc hf with ⟨h1, _⟩ | ⟨a, len, cap, zs, h1, _, h2, h3, h4, h5, h6, h7⟩
  · exact ⟨[], .inl ⟨cells_slice ht hv h1, rfl⟩⟩
  · simp only [if_true] at h4
    injection h5 with h5 h8
    have hl : (zs.take len).length = len := by simp; omega
    refine ⟨zs.take len, .inr ⟨a, cap, by rw [hl]; exact cells_slice ht hv h1, by omega, h3, ?_, fun n hn => h7 n (List.mem_of_mem_take hn)⟩⟩
    intro i hi
    rw [hl] at hi
    refine ⟨?_, ?_⟩
    · rw [h6 i (by omega)]
      simp [List.getD_eq_getElem?_getD, hi]
    · refine hlt (.cell a.block (a.off + i)) ?_
      rw [h8]
      exact List.mem_map.2 ⟨i, List.mem_range.2 (by omega), rfl⟩

end Go.Proofs.Ytkejcdephnkkgaa.Args
