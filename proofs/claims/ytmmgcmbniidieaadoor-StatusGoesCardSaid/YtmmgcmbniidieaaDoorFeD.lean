
/- The listed table of package feat: its rules, as the program's text lays them. -/
import Derived.Test.YtmmgcmbniidieaaDoorLibD
import Derived.Test.YtmmgcmbniidieaaDoorFeC
import Derived.Test.YtmmgcmbniidieaaDoorTie
namespace Go.Proofs.YtmmgcmbniidieaaDoor.Door
open Go.ChangeShapes Go.WideShapes Go.ChangeAt Go.RowKit Fe
set_option linter.unusedVariables false

noncomputable def laidL : List (String × DataW Unit) := [("dumbwaiter/feat.rules", Rows.laid_dumbwaiter_feat_rules)]
theorem gRules : Tryd.prog.globalNamed "dumbwaiter/feat.rules" = some 0 := by kernel_rfl
theorem tRules : (Tryd.prog.globals[0]?).map (·.type) = some 63 := by kernel_rfl

/-- The door's own heap meets the condition. -/
theorem met (os : Os) (args : Array Value) : laidMetH Tryd.prog laidL ((World.doorLaid Tryd.prog 400 os).forCall (fun _ _ => 0) ⟨#[], args, []⟩).memory :=
  laidMetH_of_parts3 (fuel := 8) (laidMet_of_run' 8 (by kernel_rfl) (by kernel_rfl)) (by kernel_rfl) (by kernel_rfl)

def Given (W : World) : Prop := ∃ ad cap, Rules W ad cap
theorem lt_of {w : World} {a : Addr} {v : Value} (h : w.cell? a = some v) : a.block < w.heap.size := by
  unfold World.cell? at h
  cases ho : w.heap[a.block]? with
  | none => simp [ho] at h
  | some o => exact (Array.getElem?_eq_some_iff.1 ho).1

theorem given {W : World} (h : laidMetH Tryd.prog laidL W) : Given W := by
  rw [MakeChecks.laidMetH_plain _ _ _ (by kernel_rfl)] at h
  obtain ⟨ps, ⟨g0, t0, cs0, f0, p0, q0, hg0, ht0, hv0, hd0, _⟩, _, _⟩ := h
  obtain rfl := Option.some.inj (gRules.symm.trans hg0)
  obtain rfl := Option.some.inj (tRules.symm.trans ht0)
  obtain ⟨a, cap, hcs, hel⟩ := LibD.open_pairs (ds := [.agg [.lit (.int .u64 262144), .lit (.int .u64 131072)], .agg [.lit (.int .u64 524288), .lit (.int .u64 131072)], .agg [.lit (.int .u64 4194304), .lit (.int .u64 131072)], .agg [.lit (.int .u64 8388608), .lit (.int .u64 131072)], .agg [.lit (.int .u64 8388608), .lit (.int .u64 32)]]) (rest := []) Tryd.underlying63 Tryd.underlying64 Tryd.underlying22 (by kernel_rfl) (by kernel_rfl) hd0
  have hg : W.cell? ⟨0, 0, none⟩ = some (.slice (some a) 5 cap) := by
    have := World.var?_cell hg0 hv0 0
    rw [Array.eq_one_of_toList hcs] at this
    simpa using this
  have key : ∀ i, i < 5 → W.cell? (a.add (i * 2)) = some (st (R0 i)) ∧ W.cell? (a.add (i * 2 + 1)) = some (st (R1 i)) := by
    intro i hi
    obtain ⟨x, y, h1, h2, h3⟩ := hel i hi
    rw [h2, h3]
    match i, hi with
    | 0, _ => simp at h1; obtain ⟨rfl, rfl⟩ := h1; exact ⟨rfl, rfl⟩
    | 1, _ => simp at h1; obtain ⟨rfl, rfl⟩ := h1; exact ⟨rfl, rfl⟩
    | 2, _ => simp at h1; obtain ⟨rfl, rfl⟩ := h1; exact ⟨rfl, rfl⟩
    | 3, _ => simp at h1; obtain ⟨rfl, rfl⟩ := h1; exact ⟨rfl, rfl⟩
    | 4, _ => simp at h1; obtain ⟨rfl, rfl⟩ := h1; exact ⟨rfl, rfl⟩
  refine ⟨a, cap, hg, lt_of hg, ?_, fun j hj => ?_⟩
  · have := lt_of (key 0 (by omega)).1
    rwa [Rw.block_of_add] at this
  · obtain ⟨k1, k2⟩ := key (j / 2) (by omega)
    rcases Nat.mod_two_eq_zero_or_one j with h | h
    · rw [← ruleC0] at k1
      rwa [show j / 2 * 2 = j from by omega] at k1
    · rw [← ruleC1] at k2
      rwa [show j / 2 * 2 + 1 = j from by omega] at k2

end Go.Proofs.YtmmgcmbniidieaaDoor.Door
