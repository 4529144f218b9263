
/- One of a few, picked by a number (dumbwaiterkit.Pick). -/
import Derived.Test.YtkejcdephnkkgaaLib
namespace Go.Proofs.Ytkejcdephnkkgaa.Pick
open Go.ChangeShapes Go.WideShapes Go.ChangeAt Go.RowKit
set_option linter.unusedVariables false

abbrev num (n : Int) : Value := .int .i64 n

/-- A number within a bound, made from any. -/
theorem pick_any (n m : Int) (hm : 1 ≤ m ∧ m ≤ 9223372036854775807) (hn : (Lit.int .i64 n).wf = true) (w : World) : Calls Try.prog 40 #[num n, num m] w fun e w' => e = .returned (num (n % m)) ∧ w = w' := by
  have hb := bounds_i64 hn
  obtain ⟨hm1, hm2⟩ := hm
  by_cases h0 : 0 ≤ n
  · have e : n.tmod m = n % m := Int.tmod_eq_emod_of_nonneg h0
    have h1 := Int.emod_nonneg n (b := m) (by omega)
    go_enter Try.func40, Try.ntmps40
    go_wp2
    go_ret
    exact ⟨rfl, rfl⟩
  · have h1 := Int.emod_nonneg n (b := m) (by omega)
    have h2 := Int.emod_lt_of_pos n (b := m) (by omega)
    have h3 : n.tmod m = if m ∣ n then 0 else n % m - m := by
      rw [Int.tmod_eq_emod]; simp only [h0, false_or]
      by_cases hd : m ∣ n
      · have := Int.emod_eq_zero_of_dvd hd; simp [hd]; omega
      · simp [hd]; omega
    by_cases hd : n % m = 0
    · have e : n.tmod m = 0 := by rw [h3, if_pos (Int.dvd_of_emod_eq_zero hd)]
      have Hd := Lib.hid hd
      clear h3 hd
      go_enter Try.func40, Try.ntmps40
      go_wp2
      go_ret
      exact ⟨by rw [Hd.out]; rfl, rfl⟩
    · have e : n.tmod m = n % m - m := by rw [h3, if_neg (fun h => hd (Int.emod_eq_zero_of_dvd h))]
      clear h3
      go_enter Try.func40, Try.ntmps40
      go_wp2
      go_ret
      exact ⟨by first | rfl | (simp; done) | (congr 2; simp; omega), rfl⟩
theorem pick_some (n m : Int) (hm : 1 ≤ m ∧ m ≤ 9223372036854775807) (hn : (Lit.int .i64 n).wf = true) (w : World) : Calls Try.prog 40 #[num n, num m] w fun e w' => ∃ r, 0 ≤ r ∧ r < m ∧ e = .returned (num r) ∧ w = w' :=
  (pick_any n m hm hn w).mono fun e w' h => ⟨n % m, Int.emod_nonneg _ (by omega), Int.emod_lt_of_pos _ (by omega), h.1, h.2⟩

end Go.Proofs.Ytkejcdephnkkgaa.Pick
