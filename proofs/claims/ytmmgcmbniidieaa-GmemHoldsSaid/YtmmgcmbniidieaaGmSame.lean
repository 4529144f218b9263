
/- dumbwaiterkit.SameRegions of two lists of the same regions. -/
import Derived.Test.YtmmgcmbniidieaaGmCheck
import Derived.RegionTactic
namespace Go.Proofs.Ytmmgcmbniidieaa.GmSame
open Go.RowKit Rw GmFind GmWord GmCheck
set_option linter.unusedVariables false
set_option linter.unusedSimpArgs false

set_option maxRecDepth 100000 in
set_option maxHeartbeats 2000000 in
theorem same_any (A1 A2 : Option Addr) (n c1 c2 : Nat) (r : Rg) (w : World) (hn : n ≤ 1000000) (h1 : Lst w w.heap.size A1 n r) (h2 : Lst w w.heap.size A2 n r) :
    Calls Try.prog 27 #[.slice A1 n c1, .slice A2 n c2] w fun e w' => e = .returned (.bool true) ∧ Below w.heap.size w w' := by
  unfold Lst at h1 h2
  go_enter Try.func27, Try.ntmps27
  go_wp2
  go_loopw [5] (fun i wr => ∃ k : Nat, k ≤ n ∧ i = .int .i64 k ∧ Below w.heap.size w wr) (fun i wr => n - (intOf i).toNat)
  case atStart => exact ⟨0, by omega, rfl, Below.refl _ _⟩
  case round =>
    obtain ⟨k, hk, rfl, hb⟩ := hrel
    by_cases hlt : k < n
    · obtain ⟨a1, rfl, hb1, hc1⟩ := h1 (by omega)
      obtain ⟨a2, rfl, hb2, hc2⟩ := h2 (by omega)
      have hw1 : ∀ j, j < n * 2 → wr.cell? (a1.add j) = some (r.cell j) := fun j hj => (hb.cell (p := a1.add j) (by rw [block_of_add]; exact hb1)).trans (hc1 j hj)
      have hw2 : ∀ j, j < n * 2 → wr.cell? (a2.add j) = some (r.cell j) := fun j hj => (hb.cell (p := a2.add j) (by rw [block_of_add]; exact hb2)).trans (hc2 j hj)
      have c0 : wr.cell? (a1.add (k * 2)) = some (.int .u64 (r.at_ k)) := (el0 hw1 hlt (by omega)).trans (by rw [Rg.cell0])
      have c1 : wr.cell? ⟨(a1.add (k * 2)).block, (a1.add (k * 2)).off + 1, none⟩ = some (.int .u64 (r.len k)) := (elj hw1 hlt 1 (by omega) (by omega)).trans (by rw [Rg.cell1])
      have e0 : wr.cell? (a2.add (k * 2)) = some (.int .u64 (r.at_ k)) := (el0 hw2 hlt (by omega)).trans (by rw [Rg.cell0])
      have e1 : wr.cell? ⟨(a2.add (k * 2)).block, (a2.add (k * 2)).off + 1, none⟩ = some (.int .u64 (r.len k)) := (elj hw2 hlt 1 (by omega) (by omega)).trans (by rw [Rg.cell1])
      clear hw1 hw2 hc1 hc2
      go_wp2
      go_region
      go_wp2
      go_roundw
      case rel => exact ⟨k + 1, by omega, by go_num, hb.drew⟩
      case measure => simp [intOf]; omega
    · obtain rfl : k = n := by omega
      go_wp2
      go_ret
      exact ⟨rfl, hb⟩

end Go.Proofs.Ytmmgcmbniidieaa.GmSame
