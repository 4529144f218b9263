
/- Slices of numbers in worlds that are turned: literals, a struct stored anew. -/
import Derived.Test.YtkejcdephnkkgaaFrGive
namespace Go.Proofs.Ytkejcdephnkkgaa.Fr
open Go.RowKit Rw Fe
set_option linter.unusedVariables false
set_option linter.unusedSimpArgs false

theorem Sl.lit (w : World) (t : TypeId) (l : List Int) (a : Array Value) (n : Nat) (hl : l.length = n) (ha : a = (rowI l).toArray) (hn : n ≤ 1000000) : Sl (w.alloc (.cells a t)) (w.alloc (.cells a t)).heap.size (some ⟨w.heap.size, 0, none⟩) n n l := by
  subst ha hl
  refine ⟨rfl, Nat.le_refl _, by unfold maxLen; omega, (fun e => by cases e), fun h0 => ⟨_, rfl, by simp, fun j hj => ?_⟩⟩
  have e : (⟨w.heap.size, 0, none⟩ : Addr).add j = ⟨w.heap.size, j, none⟩ := by unfold Addr.add; split <;> simp_all
  have hj' : j < l.length := by omega
  rw [e, World.cell?_alloc_new]
  unfold rowI cellI
  simp [List.getD_eq_getElem?_getD, List.getElem?_eq_getElem hj']
/-- A struct of two cells, stored anew. -/
theorem store2 {W : World} {b : Nat} {u0 u1 : Value} (v0 v1 : Value) (c0 : W.cell? ⟨b, 0, none⟩ = some u0) (c1 : W.cell? ⟨b, 1, none⟩ = some u1) :
    ∃ V, (W.setCell ⟨b, 0, none⟩ v0).setCell ⟨b, 1, none⟩ v1 = V ∧ V.heap.size = W.heap.size ∧ V.cell? ⟨b, 0, none⟩ = some v0 ∧ V.cell? ⟨b, 1, none⟩ = some v1 ∧ (∀ p : Addr, p.block ≠ b → V.cell? p = W.cell? p) ∧ (∀ p : Addr, V.frozen? p = W.frozen? p) := by
  refine ⟨_, rfl, by simp, ?_, ?_, ?_, ?_⟩
  · rw [World.cell?_setCell_other _ _ _ _ (by simp)]
    exact World.cell?_setCell_same' _ _ _ (by rw [c0]; rfl)
  · exact World.cell?_setCell_same' _ _ _ (by rw [World.cell?_setCell_other _ _ _ _ (by simp), c1]; rfl)
  · intro p hp
    rw [World.cell?_setCell_other _ _ _ _ (by rintro rfl; exact hp rfl), World.cell?_setCell_other _ _ _ _ (by rintro rfl; exact hp rfl)]
  · intro p; simp
theorem Sl.stored {W V : World} {b n c : Nat} {A : Option Addr} {l : List Int} (h : Sl W W.heap.size A n c l) (hf : Far b A n) (hs : V.heap.size = W.heap.size) (hc : ∀ p : Addr, p.block ≠ b → V.cell? p = W.cell? p) : Sl V V.heap.size A n c l :=
  ⟨h.len, h.le, h.max, h.nil, fun h0 => by
    obtain ⟨ad, e, hb, hcell⟩ := h.row h0
    exact ⟨ad, e, by omega, fun j hj => (hc _ (by rw [block_of_add]; exact hf ad e h0)).trans (hcell j hj)⟩⟩

end Go.Proofs.Ytkejcdephnkkgaa.Fr
