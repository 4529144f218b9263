
/- Free lists: a bitmap's has and add; within; read. -/
import Derived.Test.YtkejcdephnkkgaaFrL
import Derived.Test.YtkejcdephnkkgaaHeld
import Derived.Test.YtkejcdephnkkgaaSetN
import Derived.RegionTactic
import Derived.BigRegion
import Derived.LoopN
import Derived.OwnWalk
namespace Go.Proofs.Ytkejcdephnkkgaa.FrRead
open Go.RowKit Rw Fe Fr
set_option linter.unusedVariables false
set_option linter.unusedSimpArgs false

theorem validSize_is (s : Int) (r : Bool) (h : (decide (1 ≤ s) && decide (s ≤ 32768)) = r) (w : World) : Calls Try.prog 58 #[num s] w fun e w' => e = .returned (.bool r) ∧ w = w' := by
  by_cases h1 : 1 ≤ s
  · by_cases h2 : s ≤ 32768
    · obtain rfl : r = true := by rw [← h]; simp [h1, h2]
      clear h
      go_enter Try.func58, Try.ntmps58
      go_wp2
      go_ret
      exact ⟨rfl, rfl⟩
    · obtain rfl : r = false := by rw [← h]; simp [h1, h2]
      have d : decide (s ≤ 32768) = false := decide_eq_false h2
      clear h
      go_enter Try.func58, Try.ntmps58
      go_wp2
      go_ret
      exact ⟨rfl, rfl⟩
  · obtain rfl : r = false := by rw [← h]; simp [h1]
    have d : decide (1 ≤ s) = false := decide_eq_false h1
    clear h
    go_enter Try.func58, Try.ntmps58
    go_wp2
    go_ret
    exact ⟨rfl, rfl⟩
theorem valid_is (s x : Int) (r : Bool) (h : (decide (0 ≤ x) && decide (x < s)) = r) (w : World) : Calls Try.prog 63 #[num s, num x] w fun e w' => e = .returned (.bool r) ∧ w = w' := by
  by_cases h1 : 0 ≤ x
  · by_cases h2 : x < s
    · obtain rfl : r = true := by rw [← h]; simp [h1, h2]
      clear h
      go_enter Try.func63, Try.ntmps63
      go_wp2
      go_ret
      exact ⟨rfl, rfl⟩
    · obtain rfl : r = false := by rw [← h]; simp [h1, h2]
      have d : decide (x < s) = false := decide_eq_false h2
      clear h
      go_enter Try.func63, Try.ntmps63
      go_wp2
      go_ret
      exact ⟨rfl, rfl⟩
  · obtain rfl : r = false := by rw [← h]; simp [h1]
    have d : decide (0 ≤ x) = false := decide_eq_false h1
    clear h
    go_enter Try.func63, Try.ntmps63
    go_wp2
    go_ret
    exact ⟨rfl, rfl⟩
theorem closure_is (s x : Int) (b : Nat) (r : Bool) (h : (decide (0 ≤ x) && decide (x < s)) = r) (w : World) (hb : w.cell? ⟨b, 0, none⟩ = some (num s)) : Calls Try.prog 72 #[num x, .pointer (some ⟨b, 0, none⟩)] w fun e w' => e = .returned (.bool (!r)) ∧ w = w' := by
  go_enter Try.func72, Try.ntmps72
  go_wp2_with fail
  refine (valid_is s x r h _).mono ?_
  rintro e w' ⟨rfl, rfl⟩
  go_wp2_with fail
  go_ret
  exact ⟨rfl, rfl⟩

set_option maxRecDepth 100000 in
set_option maxHeartbeats 1000000 in
theorem index_is (s : Int) (b : Nat) (A : Option Addr) (n c : Nat) (l : List Int) (w : World) (hs : Sl w w.heap.size A n c l) (hb : w.cell? ⟨b, 0, none⟩ = some (num s)) :
    Calls Try.prog 75 #[.slice A n c, .func (.func 72) #[] #[.pointer (some ⟨b, 0, none⟩)]] w fun e w' => ∃ i : Int, e = .returned (num i) ∧ decide (0 ≤ i) = !inB s l ∧ w = w' := by
  have hmax : n ≤ 9223372036854775807 := by have h1 := hs.le; have h2 := hs.max; unfold maxLen at h2; omega
  obtain ⟨R, hR⟩ : ∃ R, inB s l = R := ⟨_, rfl⟩
  rw [hR]
  have HRR := Lib.hid hR
  clear hR
  have HS := Lib.hid hs
  clear hs
  go_enter Try.func75, Try.ntmps75
  go_wp2_with fail
  go_loop [8] (fun i => ∃ k : Nat, k ≤ n ∧ i = num k ∧ ∀ x ∈ l.take k, 0 ≤ x ∧ x < s) (fun i => n - (intOf i).toNat)
  case atStart => exact ⟨0, by omega, rfl, fun x hx => by simp at hx⟩
  case round =>
    obtain ⟨k, hk, rfl, hall⟩ := hrel
    have HALL := Lib.hid hall
    clear hall
    by_cases hlt : k < n
    · obtain ⟨ad, rfl, had, c0⟩ := HS.out.el hlt
      obtain ⟨x, hx⟩ : ∃ x, l.getD k 0 = x := ⟨_, rfl⟩
      rw [hx] at c0
      have HX := Lib.hid hx
      clear hx
      obtain ⟨r, hr⟩ : ∃ r, (decide (0 ≤ x) && decide (x < s)) = r := ⟨_, rfl⟩
      have HR := Lib.hid hr
      clear hr
      go_wp2_with fail
      refine (closure_is s x b r HR.out _ hb).mono ?_
      rintro e w' ⟨rfl, rfl⟩
      cases r with
      | true =>
        go_wp2_with fail
        go_round
        case rel => exact ⟨k + 1, by omega, by go_num, fun y hy => by
          rw [take_succ (by rw [HS.out.len]; exact hlt), List.mem_append, List.mem_singleton, HX.out] at hy
          rcases hy with hy | rfl
          · exact HALL.out y hy
          · simpa using HR.out⟩
        case measure => simp [intOf]; omega
      | false =>
        have hno : inB s l = false := by
          cases hq : inB s l with
          | false => rfl
          | true =>
            have := inB_iff.1 hq x (by rw [← HX.out]; exact getD_mem (by rw [HS.out.len]; exact hlt))
            have h2 := HR.out
            simp [this.1, this.2] at h2
        obtain rfl : R = false := HRR.out.symm.trans hno
        clear hno
        go_wp2_with fail
        go_ret
        exact ⟨k, rfl, by simp, rfl⟩
    · obtain rfl : k = n := by omega
      have hyes : inB s l = true := inB_iff.2 fun x hx => HALL.out x (by rw [List.take_of_length_le (by rw [HS.out.len]; exact Nat.le_refl _)]; exact hx)
      obtain rfl : R = true := HRR.out.symm.trans hyes
      clear hyes
      go_wp2_with fail
      go_ret
      exact ⟨-1, rfl, by decide, rfl⟩

theorem contains_is (s : Int) (b : Nat) (A : Option Addr) (n c : Nat) (l : List Int) (r : Bool) (hr : inB s l = r) (w : World) (hs : Sl w w.heap.size A n c l) (hb : w.cell? ⟨b, 0, none⟩ = some (num s)) :
    Calls Try.prog 71 #[.slice A n c, .func (.func 72) #[] #[.pointer (some ⟨b, 0, none⟩)]] w fun e w' => e = .returned (.bool (!r)) ∧ w = w' := by
  have HR := Lib.hid hr
  clear hr
  go_enter Try.func71, Try.ntmps71
  go_wp2_with fail
  refine (index_is s b A n c l _ hs hb).mono ?_
  rintro e w' ⟨i, rfl, hi, rfl⟩
  rw [HR.out] at hi
  go_wp2_with fail
  go_ret
  exact ⟨rfl, rfl⟩
theorem within_is (s : Int) (A : Option Addr) (n c : Nat) (l : List Int) (r : Bool) (hr : inB s l = r) (w : World) (hs : Sl w w.heap.size A n c l) :
    Calls Try.prog 61 #[num s, .slice A n c] w fun e w' => e = .returned (.bool r) ∧ Below w.heap.size w w' := by
  have HS := Lib.hid (show Sl (w.alloc (.cells #[num s] 3)) (w.alloc (.cells #[num s] 3)).heap.size A n c l from hs.on (Nat.le_refl _) ((Below.refl _ _).alloc (Nat.le_refl _) _))
  have HR := Lib.hid hr
  clear hs hr
  go_enter Try.func61, Try.ntmps61
  go_wp2_with fail
  refine (contains_is s w.heap.size A n c l r HR.out _ HS.out (by go_cell)).mono ?_
  rintro e w' ⟨rfl, rfl⟩
  go_wp2_with fail
  go_ret
  exact ⟨rfl, by go_grown⟩

end Go.Proofs.Ytkejcdephnkkgaa.FrRead
