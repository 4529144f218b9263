
/- The document's own answer of Place is the program's: no walk. -/
import Derived.Test.YtkncaafjkoeijaaLayMove
namespace Go.Proofs.Ytkncaafjkoeijaa.Lay
open Go.RowKit Ser
set_option linter.unusedVariables false
set_option linter.unusedSimpArgs false

/-- What the document's own answer asks before it hands out rings. -/
def badPlace (p : Bool) (n d f1 v f2 e f3 x y z : Int) : Bool :=
  (f1 != 0) || ((f2 != 0) || ((f3 != 0) || (decide (w64 (d + x) < d) || (decide (w64 (v + y) < v) || (decide (w64 (e + (z - 1)) < e) || !checkB p n d v e)))))

theorem alignR_in' {n t a f : Int} (hn : u64in n) (ht : 1 ≤ t) (h : alignR n t = (a, f)) (h0 : f = 0) : n ≤ a ∧ a - n < t ∧ a % t = 0 ∧ u64in a := by
  rcases alignR_cases n t hn ht with ⟨a', h', h1⟩ | ⟨h', h1⟩
  · rw [h'] at h; cases h; exact h1
  · rw [h'] at h; cases h; cases h0

theorem place_ref {p : Bool} {n b x y z t d f1 v f2 e f3 : Int} (hb : u64in b) (hs : sizeB p n = true) (hp : partsI p n = (x, y, z)) (ht : toI p = t)
    (h1 : alignR b 16 = (d, f1)) (h2 : alignR (w64 (d + x)) t = (v, f2)) (h3 : alignR (w64 (v + y)) 4 = (e, f3)) :
    placeI p n b = if badPlace p n d f1 v f2 e f3 x y z = true then noPlace else (p, n, d, v, e, w64 (w64 (e + z) - b), 0) := by
  have hin := parts_in hs hp
  have ht1 : (t = 4 ∨ t = 2) := by rw [← ht]; unfold toI; split <;> simp
  have e0 : placeI p n b = place1 p n b x y t z := by unfold placeI; rw [if_pos hs, hp, ht]
  rw [e0]
  unfold place1
  simp only [h1]
  by_cases g1 : f1 = 0
  case neg =>
    rw [if_neg g1, if_pos (by unfold badPlace; simp [g1])]
  rw [if_pos g1]
  unfold place2
  simp only [h2]
  by_cases g2 : f2 = 0
  case neg =>
    rw [if_neg g2, if_pos (by unfold badPlace; simp [g2])]
  rw [if_pos g2]
  unfold place3
  simp only [h3]
  by_cases g3 : f3 = 0
  case neg =>
    rw [if_neg g3, if_pos (by unfold badPlace; simp [g3])]
  rw [if_pos g3]
  obtain ⟨a1, a2, a3, a4⟩ := alignR_in' hb (by omega) h1 g1
  obtain ⟨b1, b2, b3, b4⟩ := alignR_in' (w64_in _) (by omega) h2 g2
  obtain ⟨c1, c2, c3', c4⟩ := alignR_in' (w64_in _) (by omega) h3 g3
  unfold u64in at hb a4 b4 c4
  have w1 : w64 (d + x) = d + x ∧ d + x ≤ 18446744073709551615 ∨ w64 (d + x) = d + x - 18446744073709551616 ∧ 18446744073709551616 ≤ d + x := by unfold w64; rw [IntKind.wrap_u64]; omega
  have w2 : w64 (v + y) = v + y ∧ v + y ≤ 18446744073709551615 ∨ w64 (v + y) = v + y - 18446744073709551616 ∧ 18446744073709551616 ≤ v + y := by unfold w64; rw [IntKind.wrap_u64]; omega
  have w3 : w64 (e + (z - 1)) = e + (z - 1) ∧ e + (z - 1) ≤ 18446744073709551615 ∨ w64 (e + (z - 1)) = e + (z - 1) - 18446744073709551616 ∧ 18446744073709551616 ≤ e + (z - 1) := by unfold w64; rw [IntKind.wrap_u64]; omega
  have w4 : w64 (w64 (e + z) - 1) = w64 (e + (z - 1)) := by unfold w64; rw [IntKind.wrap_u64, IntKind.wrap_u64, IntKind.wrap_u64]; omega
  rw [w4]
  rcases w1 with ⟨w1, w1'⟩ | ⟨w1, w1'⟩
  · rcases w2 with ⟨w2, w2'⟩ | ⟨w2, w2'⟩
    · rcases w3 with ⟨w3, w3'⟩ | ⟨w3, w3'⟩
      · have hc : checkB p n d v e = true := by
          unfold checkB
          rw [hs, hp, ht]
          show (true && apartB d x v y t e z) = true
          unfold apartB
          have p1 : partB d x 16 = true := by unfold partB; rw [decide_eq_true a3, decide_eq_true (by omega)]; rfl
          have p2 : partB v y t = true := by unfold partB; rw [decide_eq_true b3, decide_eq_true (by omega)]; rfl
          have p3 : partB e z 4 = true := by unfold partB; rw [decide_eq_true c3', decide_eq_true (by omega)]; rfl
          rw [p1, p2, p3, shareB_of (by omega) (by omega) (.inl (by omega)), shareB_of (by omega) (by omega) (.inl (by omega)), shareB_of (by omega) (by omega) (.inl (by omega))]
          rfl
        have hbad : badPlace p n d f1 v f2 e f3 x y z = false := by
          unfold badPlace
          rw [hc, g1, g2, g3, decide_eq_false (p := w64 (d + x) < d) (by omega), decide_eq_false (p := w64 (v + y) < v) (by omega), decide_eq_false (p := w64 (e + (z - 1)) < e) (by omega)]
          rfl
        rw [hbad, if_neg (by omega), if_neg (by decide)]
      · have hbad : badPlace p n d f1 v f2 e f3 x y z = true := by
          unfold badPlace
          rw [decide_eq_true (p := w64 (e + (z - 1)) < e) (by omega)]
          simp
        rw [hbad, if_pos (by omega), if_pos rfl]
    · have hbad : badPlace p n d f1 v f2 e f3 x y z = true := by
        unfold badPlace
        rw [decide_eq_true (p := w64 (v + y) < v) (by omega)]
        simp
      rw [hbad, if_pos (by omega), if_pos rfl]
  · have hbad : badPlace p n d f1 v f2 e f3 x y z = true := by
      unfold badPlace
      rw [decide_eq_true (p := w64 (d + x) < d) (by omega)]
      simp
    rw [hbad, if_pos (by omega), if_pos rfl]

end Go.Proofs.Ytkncaafjkoeijaa.Lay
