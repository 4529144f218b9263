/- The law GmemHolds: its own 'in': is a range within one region? -/
import Derived.Test.YtmmgcmbniidieaaGmRefF
import Derived.Test.YtmmgcmbniidieaaGmRefP
import Derived.RegionTactic
namespace Go.Proofs.Ytmmgcmbniidieaa.GmHoldIn
open Go.RowKit Rw GmFind GmWord GmCheck GmRef GmRefP
set_option linter.unusedVariables false
set_option linter.unusedSimpArgs false

theorem five (a n x l : Int) (ha : 0 ≤ a ∧ a ≤ 18446744073709551615) (hn : 0 ≤ n ∧ n ≤ 18446744073709551615) (hx : 0 ≤ x) (hl : 1 ≤ l) (he : x + (l - 1) ≤ 18446744073709551615) :
    (n = 0) ∨ (1 ≤ n ∧ a < x) ∨ (1 ≤ n ∧ x ≤ a ∧ 18446744073709551615 < a + (n - 1)) ∨ (1 ≤ n ∧ x ≤ a ∧ a + (n - 1) ≤ 18446744073709551615 ∧ x + (l - 1) < a + (n - 1)) ∨ (1 ≤ n ∧ x ≤ a ∧ a + (n - 1) ≤ 18446744073709551615 ∧ a + (n - 1) ≤ x + (l - 1)) := by omega

set_option maxRecDepth 100000 in
set_option maxHeartbeats 8000000 in
theorem in_loop (bl k c : Nat) (A : Option Addr) (r : Rg) (a n : Int) (v : Bool) (w : World) (hk : k ≤ 1000000) (hr : r.In k) (ha : 0 ≤ a ∧ a ≤ 18446744073709551615) (hn : 0 ≤ n ∧ n ≤ 18446744073709551615)
    (hb : w.cell? ⟨bl, 0, none⟩ = some (.slice A k c)) (hbl : bl < w.heap.size) (h : Lst w w.heap.size A k r) (hv : (place r k a n).isSome = v) :
    Calls Try.prog 29 #[.int .u64 a, .int .u64 n, .pointer (some ⟨bl, 0, none⟩)] w (GmWord.Gives w.heap.size w (.bool v)) := by
  unfold GmWord.Gives
  have HL := Lib.hid h
  have HI := Lib.hid hr
  have HV := Lib.hid hv
  clear h hr hv
  go_enter Try.func29, Try.ntmps29
  go_wp2_with fail
  go_loopw [6] (fun i wr => ∃ j : Nat, j ≤ k ∧ i = .int .i64 ((j : Nat) : Int) ∧ Below w.heap.size w wr ∧ Hid (∀ i, i < j → ¬ inR r a n i)) (fun i wr => k - (intOf i).toNat)
  case atStart => exact ⟨0, by omega, rfl, Below.refl _ _, Lib.hid (fun i hi => by omega)⟩
  case round =>
    obtain ⟨j, hj, rfl, hbw, HN⟩ := hrel
    have m0 : wr.cell? ⟨bl, 0, none⟩ = some (.slice A k c) := (hbw.cell (p := ⟨bl, 0, none⟩) hbl).trans hb
    by_cases hlt : j < k
    · have dj : decide (((j : Nat) : Int) < ((k : Nat) : Int)) = true := decide_eq_true (by omega)
      obtain ⟨ad, rfl, hbk, hcell⟩ := HL.out (by omega)
      have hw1 : ∀ i, i < k * 2 → wr.cell? (ad.add i) = some (r.cell i) := fun i hi => (hbw.cell (p := ad.add i) (by rw [block_of_add]; exact hbk)).trans (hcell i hi)
      have c0 : wr.cell? (ad.add (j * 2)) = some (.int .u64 (r.at_ j)) := (el0 hw1 hlt (by omega)).trans (by rw [Rg.cell0])
      have c1 : wr.cell? ⟨(ad.add (j * 2)).block, (ad.add (j * 2)).off + 1, none⟩ = some (.int .u64 (r.len j)) := (elj hw1 hlt 1 (by omega) (by omega)).trans (by rw [Rg.cell1])
      have x0 := HI.out.a0 j hlt
      have l0 := HI.out.l0 j hlt
      have e0 : r.at_ j + (r.len j - 1) ≤ 18446744073709551615 := HI.out.e1 j hlt
      have hinr : inR r a n j ↔ (1 ≤ n ∧ r.at_ j ≤ a ∧ a + (n - 1) ≤ r.at_ j + (r.len j - 1)) := by unfold inR; omega
      have HIN := Lib.hid hinr
      clear hw1 hcell hinr hj
      generalize r.at_ j = x at c0 x0 e0 HIN
      generalize r.len j = l at c1 l0 e0 HIN
      have g1 : IntKind.u64.wrap (l - 1) = l - 1 := by rw [IntKind.wrap_u64]; omega
      have g2 : IntKind.u64.wrap (x + (l - 1)) = x + (l - 1) := by rw [IntKind.wrap_u64]; omega
      rcases five a n x l ha hn x0 l0 e0 with rfl | ⟨h1, h2⟩ | ⟨h1, h2, h3⟩ | ⟨h1, h2, h3, h4⟩ | ⟨h1, h2, h3, h4⟩
      ·
        go_wp2
        go_region
        go_wp2
        go_roundw
        case rel => exact ⟨j + 1, by omega, by go_num, hbw.drew, Lib.hid (fun i hi => by
          by_cases e : i = j
          · subst e; exact fun hh => absurd (HIN.out.1 hh) (by omega)
          · exact HN.out i (by omega))⟩
        case measure => simp [intOf]; omega
      ·
        have d1 : decide (0 < n) = true := decide_eq_true (by omega)
        have d2 : decide (x ≤ a) = false := decide_eq_false (by omega)
        go_wp2
        go_region
        go_wp2
        go_roundw
        case rel => exact ⟨j + 1, by omega, by go_num, hbw.drew, Lib.hid (fun i hi => by
          by_cases e : i = j
          · subst e; exact fun hh => absurd (HIN.out.1 hh) (by omega)
          · exact HN.out i (by omega))⟩
        case measure => simp [intOf]; omega
      ·
        have d1 : decide (0 < n) = true := decide_eq_true (by omega)
        have q1 : IntKind.u64.wrap (n - 1) = n - 1 := by rw [IntKind.wrap_u64]; omega
        have d2 : decide (x ≤ a) = true := decide_eq_true (by omega)
        have q2 : IntKind.u64.wrap (a + (n - 1)) = a + (n - 1) - 18446744073709551616 := by rw [IntKind.wrap_u64]; omega
        have d3 : decide (a ≤ a + (n - 1) - 18446744073709551616) = false := decide_eq_false (by omega)
        go_wp2
        go_region
        go_wp2
        go_roundw
        case rel => exact ⟨j + 1, by omega, by go_num, hbw.drew, Lib.hid (fun i hi => by
          by_cases e : i = j
          · subst e; exact fun hh => absurd (HIN.out.1 hh) (by omega)
          · exact HN.out i (by omega))⟩
        case measure => simp [intOf]; omega
      ·
        have d1 : decide (0 < n) = true := decide_eq_true (by omega)
        have q1 : IntKind.u64.wrap (n - 1) = n - 1 := by rw [IntKind.wrap_u64]; omega
        have d2 : decide (x ≤ a) = true := decide_eq_true (by omega)
        have q2 : IntKind.u64.wrap (a + (n - 1)) = a + (n - 1) := by rw [IntKind.wrap_u64]; omega
        have d3 : decide (a ≤ a + (n - 1)) = true := decide_eq_true (by omega)
        have d4 : decide (a + (n - 1) ≤ x + (l - 1)) = false := decide_eq_false (by omega)
        go_wp2
        go_region
        go_wp2
        go_roundw
        case rel => exact ⟨j + 1, by omega, by go_num, hbw.drew, Lib.hid (fun i hi => by
          by_cases e : i = j
          · subst e; exact fun hh => absurd (HIN.out.1 hh) (by omega)
          · exact HN.out i (by omega))⟩
        case measure => simp [intOf]; omega
      ·
        have d1 : decide (0 < n) = true := decide_eq_true (by omega)
        have q1 : IntKind.u64.wrap (n - 1) = n - 1 := by rw [IntKind.wrap_u64]; omega
        have d2 : decide (x ≤ a) = true := decide_eq_true (by omega)
        have q2 : IntKind.u64.wrap (a + (n - 1)) = a + (n - 1) := by rw [IntKind.wrap_u64]; omega
        have d3 : decide (a ≤ a + (n - 1)) = true := decide_eq_true (by omega)
        have d4 : decide (a + (n - 1) ≤ x + (l - 1)) = true := decide_eq_true (by omega)
        have hv : v = true := by
          rw [← HV.out]
          exact (place_inR HI.out).2 ⟨j, hlt, HIN.out.2 ⟨h1, h2, h4⟩⟩
        subst hv
        go_wp2
        go_region
        go_wp2
        go_ret
        exact ⟨rfl, by go_grown⟩
    · obtain rfl : j = k := by omega
      have dj : decide (((j : Nat) : Int) < ((j : Nat) : Int)) = false := decide_eq_false (by omega)
      have hv : v = false := by
        rw [← HV.out]
        cases hp : (place r j a n).isSome with
        | false => rfl
        | true =>
          obtain ⟨i, hi, hin⟩ := (place_inR HI.out).1 hp
          exact absurd hin (HN.out i hi)
      subst hv
      go_wp2
      go_ret
      exact ⟨rfl, by go_grown⟩

end Go.Proofs.Ytmmgcmbniidieaa.GmHoldIn
