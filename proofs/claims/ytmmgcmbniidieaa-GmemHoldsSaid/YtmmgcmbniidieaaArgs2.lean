
/- Arguments that are slices of structs of one-cell fields, opened. -/
import Derived.Test.YtmmgcmbniidieaaArgs
import Derived.Test.YtmmgcmbniidieaaRow
import Derived.Deep.Slices
import Derived.Deep.Fields
import Derived.ChangeSame
import Derived.Lib.SmallJoins
namespace Go.Proofs.Ytmmgcmbniidieaa.Args
open Go.ChangeShapes Go.WideShapes Go.ChangeAt Go.RowKit Go.Deep Rw
set_option linter.unusedVariables false

theorem block_lt {w : World} {a : Addr} {v : Value} (h : w.cell? a = some v) : a.block < w.heap.size := by
  unfold World.cell? at h
  cases ho : w.heap[a.block]? with
  | none => simp [ho] at h
  | some o => exact (Array.getElem?_eq_some_iff.1 ho).1

section
variable {H : Type} {enc : TypeId × Value → H} {P : Program} {W : World} {base : Nat} {spare : Nat → Bool} {held : Bool}
theorem open_structs {r : Reach} {b0 : Nat} {t e : TypeId} {fs : Array Field} {v : Value} {d : DataW H} {p : List MemPlace} (ht : P.underlying t = some (.slice e)) (he : P.underlying e = some (.struct fs))
    (hone : oneCellFields P fs = true) (hC : P.cellsOf e = fs.size) (h0 : 0 < fs.size) (hv : Value.okWide P W r b0 t v) (h : DataW.Trod enc P W base spare held t v d p) :
    ∃ (A : Option Addr) (n c : Nat) (F : Nat → Value), v = .slice A n c ∧ n ≤ c ∧ c ≤ maxLen ∧ IsRow W W.heap.size fs.size A n F ∧
      ∀ i, i < n → ∀ (j : Nat) (f : Field), fs[j]? = some f → ∃ (m : Nat) (y : DataW H × List MemPlace), DataW.trod enc P W base spare held m f.type [F (i * fs.size + j)] = some y := by
  obtain ⟨fuel, hf⟩ := h
  rcases open_slice ht hf with ⟨h1, _⟩ | ⟨a, len, cap, m, n, D, Pl, hcs, hb, hl, hm, hmm, hx, hi⟩
  · exact ⟨none, 0, 0, fun _ => undef, cells_slice ht hv h1, by omega, by decide, IsRow.none_, fun i hi => by omega⟩
  · have key : ∀ i, i < len → ∀ (j : Nat) (f : Field), fs[j]? = some f → ∃ (v : Value) (m : Nat) (y : DataW H × List MemPlace), W.cell? (a.add (i * fs.size + j)) = some v ∧ DataW.trod enc P W base spare held m f.type [v] = some y := by
      intro i hil j f hj
      obtain ⟨cs', hc, ht'⟩ := hi i (by subst hmm; split <;> omega)
      rw [hC] at hc
      obtain ⟨ys, n', hn', hy, hlen, hyl, hff⟩ := DataW.trod_struct he ht'
      obtain ⟨_, hcl, hat⟩ := World.cells?_some hc
      obtain ⟨ho, hk⟩ := hone_of hone j f hj
      have hjl : j < fs.size := (Array.getElem?_eq_some_iff.1 hj).1
      have hcell := hat j hjl
      have hv' : cs'[j]? = some (cs'[j]'(by omega)) := List.getElem?_eq_getElem (by omega)
      have h1 := hff j f hj
      rw [ho, hk] at h1
      have hone' : (cs'.drop j).take 1 = [cs'[j]'(by omega)] := by
        rw [List.drop_eq_getElem_cons (by omega)]
        rfl
      rw [hone'] at h1
      have hys : ys[j]? = some (ys[j]'(by omega)) := List.getElem?_eq_getElem (by omega)
      refine ⟨_, _, _, ?_, h1.trans hys⟩
      rw [← Go.Deep.add_add, hcell, hv']
    refine ⟨some a, len, cap, fun k => (W.cell? (a.add k)).getD undef, cells_slice ht hv hcs, hl, by omega, ?_, ?_⟩
    · intro hn
      have cell : ∀ k, k < len * fs.size → ∃ v, W.cell? (a.add k) = some v := fun k hk => by
        have hq : k / fs.size < len := Nat.div_lt_of_lt_mul (by rw [Nat.mul_comm]; exact hk)
        have hr : k % fs.size < fs.size := Nat.mod_lt _ h0
        obtain ⟨v, _, _, hc, _⟩ := key (k / fs.size) hq (k % fs.size) fs[k % fs.size] (Array.getElem?_eq_getElem hr)
        rw [Nat.mul_comm, Nat.div_add_mod] at hc
        exact ⟨v, hc⟩
      refine ⟨a, rfl, ?_, fun k hk => ?_⟩
      · obtain ⟨v, hc⟩ := cell 0 (Nat.mul_pos hn h0)
        have := block_lt hc
        rwa [block_of_add] at this
      · obtain ⟨v, hc⟩ := cell k hk
        show W.cell? (a.add k) = some ((W.cell? (a.add k)).getD undef)
        rw [hc, Option.getD_some]
    · intro i hil j f hj
      obtain ⟨v, m', y, hc, ht'⟩ := key i hil j f hj
      exact ⟨m', y, by simp only [hc, Option.getD_some]; exact ht'⟩
/-- A cell that reads as a number. -/
theorem cell_int {t : TypeId} {k : IntKind} {m : Nat} {x : Value} {y : DataW H × List MemPlace} (ht : P.underlying t = some (.int k)) (hy : DataW.trod enc P W base spare held m t [x] = some y) : x = .int k (intOf x) ∧ (Lit.int k (intOf x)).wf = true := by
  obtain ⟨n, e, _, wx⟩ := DataW.trod_int ht hy
  simp at e
  subst e
  exact ⟨rfl, wx⟩
end

end Go.Proofs.Ytmmgcmbniidieaa.Args
