/- Free lists: what Take hands over is of its own making (it may be appended to). -/
import Derived.Test.YtkejcdephnkkgaaFrOut
namespace Go.Proofs.Ytkejcdephnkkgaa.FrOwn
open Go.RowKit Rw Fe Fr FrRead FrAdd FrOpen FrBuild FrCalls FrTake FrOut Own
set_option linter.unusedVariables false
set_option linter.unusedSimpArgs false

def SlQ (w : World) (n : Nat) (l : List Int) (e : Ending) (w' : World) : Prop :=
  ∃ (C : Option Addr) (cc : Nat), e = .returned (.slice C n cc) ∧ Sl w' w'.heap.size C n cc l ∧ (∀ ad, C = some ad → 0 < n → w.heap.size ≤ ad.block) ∧ w'.ownsRow w.heap.size 3 1 (.slice C n cc) n (rowI l) ∧ Below w.heap.size w w'

set_option maxRecDepth 100000 in
set_option maxHeartbeats 2000000 in
theorem left_own (A : Option Addr) (n c : Nat) (l : List Int) (w : World) (h : Sl w w.heap.size A n c l) (h1 : 1 ≤ n) (hn : n ≤ 1000000) : Calls Try.prog 60 #[.slice A n c, .slice none 0 0] w (SlQ w n l) := by
  obtain ⟨i0, hi, hz0, hz1, hz2⟩ := i64info
  have I0 := Lib.hid hi
  have I1 := Lib.hid hz0
  have I2 := Lib.hid hz1
  have I3 := Lib.hid hz2
  have H := Lib.hid h
  have hc1 := max63 h.max
  have hc2 := h.le
  have HL := Lib.hid (show (rowI l).length = n * 1 from by rw [rowI_length, h.len]; omega)
  have HC := Lib.hid h.cells
  obtain ⟨ad, rfl, _⟩ := h.el (k := 0) (by omega)
  clear h hi hz0 hz1 hz2
  unfold SlQ
  go_enter Try.func60, Try.ntmps60
  go_wp2_with (at_builtin; refine wpList_append_grows _ rfl _ _ 54 rfl 3 i0 (.int .i64 0) 1 8 Try.underlying54 I0.out I1.out I2.out I3.out rfl (by decide) (some ad) 0 0 [] rfl (fun e => by cases e) rfl (fun b e j u hu => by cases hu) ad n c (rowI l) rfl HL.out (HC.out ad rfl) (rowI_one l) (by omega) (by unfold maxLen; omega) (by omega) ?_)
  intro v W2 hown hg
  obtain ⟨A2, c2, rfl⟩ := own_slice hown
  have hb2 : Below w.heap.size w W2 := (Below.refl _ w).grown hg (Nat.le_refl _) (fun k e => by cases e)
  have HO := Lib.hid (And.intro hown hb2)
  clear hown hg hb2
  go_wp2_with (at_builtin; refine wpList_append_own_none rfl _ _ 54 rfl w.heap.size 3 i0 1 Try.underlying54 I0.out (.slice A2 n c2) n (rowI l) rfl HO.out.1 rfl ?_)
  go_wp2_with fail
  go_ret
  exact ⟨A2, c2, rfl, Sl.of_own HO.out.1, Sl.new_of HO.out.1, HO.out.1, HO.out.2⟩
theorem own_keep {w w' : World} {base n c : Nat} {e : TypeId} {A : Option Addr} {xs : List Value} (h : w.ownsRow base e 1 (.slice A n c) n xs) (hk : ∀ g, base ≤ g → g < w.heap.size → w'.heap[g]? = w.heap[g]?) : w'.ownsRow 0 e 1 (.slice A n c) n xs := by
  refine ⟨h.1, ?_⟩
  rcases h.2 with h1 | ⟨g, cap, cur, h1, h2, h3, h4⟩
  · exact .inl h1
  · exact .inr ⟨g, cap, cur, h1, Nat.zero_le _, (hk g h2 (Array.getElem?_eq_some_iff.1 h3).1).trans h3, h4⟩

end Go.Proofs.Ytkejcdephnkkgaa.FrOwn
