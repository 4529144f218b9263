
/- A memory of one region: New; where a range lies. -/
import Derived.Test.YtkncaafjkoeijaaGmNew
namespace Go.Proofs.Ytkncaafjkoeijaa.GmOne
open Go.RowKit Rw GmFind GmWord GmLoad GmCheck GmCopyR GmNew
set_option linter.unusedVariables false
set_option linter.unusedSimpArgs false

def one (a n : Int) : Rg := ⟨fun _ => a, fun _ => n, fun _ => 0⟩
/-- The region, as a memory holds it. -/
noncomputable def oneM (a n : Int) : Rg := stR (one a n)

theorem one_in {a n : Int} (ha : 0 ≤ a) (hn : 1 ≤ n) (he : a + (n - 1) ≤ 18446744073709551615) : (oneM a n).In 1 :=
  ⟨fun _ _ => ha, fun _ _ => hn, fun _ _ => he, fun i h => by omega⟩
theorem one_fits {a n : Int} {n3 : Nat} (hn : 1 ≤ n) (h : (n3 : Int) = n) : (oneM a n).Fits 1 n3 := fun i hi => by
  obtain rfl : i = 0 := by omega
  exact ⟨Int.le_refl _, by show (0 : Int) + n ≤ n3; omega⟩

theorem new_one (a n : Int) (blk c : Nat) (w : World) (ha : 0 ≤ a) (hn : 1 ≤ n) (hn2 : n ≤ 1048576) (he : a + (n - 1) ≤ 18446744073709551615)
    (h0 : w.cell? ⟨blk, 0, none⟩ = some (.int .u64 a)) (h1 : w.cell? ⟨blk, 1, none⟩ = some (.int .u64 n)) (hb : blk < w.heap.size) :
    Calls Try.prog 13 #[.slice (some ⟨blk, 0, none⟩) 1 c] w fun e w' => ∃ (m g1 b3 c2 n3 c3 : Nat) (A2 : Option Addr), e = .returned (.tuple #[.pointer (some ⟨m, 0, none⟩), .int .i64 0]) ∧ MemAt w' m 1 g1 A2 (some ⟨b3, 0, none⟩) 1 c2 n3 c3 (oneM a n) ∧
      (n3 : Int) = n ∧ n3 ≤ c3 ∧ w'.rowIs b3 5 c3 (fun _ => .int .u8 0) ∧ w.heap.size ≤ m ∧ w.heap.size ≤ g1 ∧ g1 < m ∧ m < b3 ∧ (∀ a, A2 = some a → m < a.block ∧ a.block < b3) ∧ Below w.heap.size w w' := by
  refine (new_ok (some ⟨blk, 0, none⟩) 1 c (one a n) w (by decide) (by decide) (fun i hi => ⟨ha, by show a ≤ _; omega, by show 0 ≤ n; omega, by show n ≤ _; omega⟩) (fun i hi => ?_) (fun _ => ⟨_, rfl, hb, fun j hj => ?_⟩)).mono ?_
  · obtain rfl : i = 0 := by omega
    refine ⟨hn, ?_, he, fun h => by omega⟩
    show (0 : Int) + n ≤ 1048576
    omega
  · match j, hj with
    | 0, _ => exact h0
    | 1, _ => exact h1
  · rintro e W ⟨m, g1, b3, c2, n3, c3, A2, h1, h2, h3, h4⟩
    refine ⟨m, g1, b3, c2, n3, c3, A2, h1, h2, ?_, h4⟩
    rw [h3]
    show (0 : Int) + n = n
    omega

theorem place_one (a n x k : Int) : place (oneM a n) 1 x k = if (a ≤ x ∧ 1 ≤ k ∧ x + k ≤ a + n) then some (x - a).toNat else none := by
  have hid : idx (oneM a n) x 1 = if x ≤ a + (n - 1) then 0 else 1 := by
    show (if idx (oneM a n) x 0 < 0 then idx (oneM a n) x 0 else if x ≤ (oneM a n).end_ 0 then 0 else 0 + 1) = _
    rw [if_neg (by omega)]
    rfl
  unfold place
  by_cases h : x ≤ a + (n - 1)
  · have e0 : idx (oneM a n) x 1 = 0 := by rw [hid, if_pos h]
    rw [e0]
    have ho : okB (oneM a n) 1 0 x k = decide (a ≤ x ∧ 1 ≤ k ∧ x + k ≤ a + n) := by
      unfold okB
      show (decide (0 < 1) && decide (a ≤ x) && decide (1 ≤ k) && decide (k - 1 ≤ a + (n - 1) - x)) = _
      by_cases h1 : a ≤ x
      · by_cases h2 : 1 ≤ k
        · by_cases h3 : x + k ≤ a + n
          · rw [decide_eq_true h1, decide_eq_true h2, decide_eq_true (p := k - 1 ≤ a + (n - 1) - x) (by omega), decide_eq_true (p := a ≤ x ∧ 1 ≤ k ∧ x + k ≤ a + n) ⟨h1, h2, h3⟩]; rfl
          · rw [decide_eq_false (p := k - 1 ≤ a + (n - 1) - x) (by omega), decide_eq_false (p := a ≤ x ∧ 1 ≤ k ∧ x + k ≤ a + n) (fun h => h3 h.2.2), Bool.and_false]
        · rw [decide_eq_false h2, decide_eq_false (p := a ≤ x ∧ 1 ≤ k ∧ x + k ≤ a + n) (fun h => h2 h.2.1), Bool.and_false, Bool.false_and]
      · rw [decide_eq_false h1, decide_eq_false (p := a ≤ x ∧ 1 ≤ k ∧ x + k ≤ a + n) (fun h => h1 h.1), Bool.and_false, Bool.false_and, Bool.false_and]
    rw [ho]
    by_cases hc : a ≤ x ∧ 1 ≤ k ∧ x + k ≤ a + n
    · rw [if_pos (decide_eq_true hc), if_pos hc]
      show some ((0 : Int) + (x - a)).toNat = _
      rw [Int.zero_add]
    · rw [if_neg (by simp [hc]), if_neg hc]
  · have e1 : idx (oneM a n) x 1 = 1 := by rw [hid, if_neg h]
    have : okB (oneM a n) 1 1 x k = false := by unfold okB; simp
    rw [e1, this, if_neg (by decide), if_neg (fun hc => h (by have h1 := hc.2.1; have h2 := hc.2.2; omega))]

end Go.Proofs.Ytkncaafjkoeijaa.GmOne
