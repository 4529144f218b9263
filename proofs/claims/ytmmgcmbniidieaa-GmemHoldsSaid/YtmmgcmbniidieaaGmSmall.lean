
/- The law's small: are calls gone through? -/
import Derived.Test.YtmmgcmbniidieaaGmActs
namespace Go.Proofs.Ytmmgcmbniidieaa.GmSmall
open Go.RowKit Go.Deep Rw GmActs
set_option linter.unusedVariables false
set_option linter.unusedSimpArgs false

/-- At most 2000 bytes. -/
def Few (v : Value) : Prop := ∃ (A : Option Addr) (n c : Nat), v = .slice A n c ∧ n ≤ 2000
def SmallP (k : Nat) (f : Nat → Ac) (w : World) (e : Ending) (w' : World) : Prop := ∃ b : Bool, e = .returned (.bool b) ∧ (b = true → k ≤ 80 ∧ ∀ i, i < k → Few (f i).b) ∧ w = w'

set_option maxRecDepth 100000 in
set_option maxHeartbeats 4000000 in
theorem small_any (A : Option Addr) (k c : Nat) (f : Nat → Ac) (w : World) (hk : k ≤ 9223372036854775807) (h : IsRow w w.heap.size 5 A k (cellA f)) (hb : ∀ i, i < k → IsB w (f i).b) :
    Calls Try.prog 8 #[.slice A k c] w (SmallP k f w) := by
  have HL := Lib.hid h
  have HB := Lib.hid hb
  clear h hb
  go_enter Try.func8, Try.ntmps8
  go_wp2_with fail
  go_loop [3] (fun y => ∃ i : Nat, i ≤ k ∧ i ≤ 81 ∧ y = .int .i64 i ∧ Hid (∀ j, j < i → Few (f j).b)) (fun y => 100 - (intOf y).toNat)
  case atStart => exact ⟨0, by omega, by omega, rfl, Lib.hid (fun j hj => by omega)⟩
  case round =>
    obtain ⟨i, hi, hi2, rfl, HF⟩ := hrel
    by_cases hlt : i < k
    · by_cases h8 : i ≤ 80
      · have d1 : decide ((i : Int) < (k : Int)) = true := decide_eq_true (by omega)
        have d2 : decide ((i : Int) ≤ 80) = true := decide_eq_true (by omega)
        obtain ⟨ad, rfl, had, hc⟩ := HL.out (by omega)
        obtain ⟨B, n, cb, g, hbv, hn, hcb, _, _, _⟩ := HB.out i hlt
        have c4 := elj hc hlt 4 (by decide) (by decide)
        rw [cellA4, hbv] at c4
        clear hc
        by_cases h2 : n ≤ 2000
        · have d3 : decide ((2000 : Int) < (n : Int)) = false := decide_eq_false (by omega)
          have HN := Lib.hid (show ∀ j, j < i + 1 → Few (f j).b from fun j hj => by
            by_cases e : j = i
            · subst e; exact ⟨B, n, cb, hbv, h2⟩
            · exact HF.out j (by omega))
          clear hbv
          go_wp2_with fail
          go_round
          case rel => exact ⟨i + 1, by omega, by omega, by go_num, HN⟩
          case measure => simp [intOf]; omega
        · have d3 : decide ((2000 : Int) < (n : Int)) = true := decide_eq_true (by omega)
          clear hbv
          go_wp2_with fail
          go_ret
          exact ⟨false, rfl, (fun h => by cases h), rfl⟩
      · have d1 : decide ((i : Int) < (k : Int)) = true := decide_eq_true (by omega)
        have d2 : decide ((i : Int) ≤ 80) = false := decide_eq_false (by omega)
        have d3 : decide ((k : Int) ≤ 80) = false := decide_eq_false (by omega)
        go_wp2_with fail
        go_ret
        exact ⟨false, rfl, (fun h => by cases h), rfl⟩
    · obtain rfl : i = k := by omega
      have d1 : decide ((i : Int) < (i : Int)) = false := decide_eq_false (by omega)
      go_wp2_with fail
      go_ret
      exact ⟨decide ((i : Int) ≤ 80), rfl, (fun h => ⟨by have := of_decide_eq_true h; omega, HF.out⟩), rfl⟩
end Go.Proofs.Ytmmgcmbniidieaa.GmSmall
