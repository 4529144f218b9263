
/- A memory of any list of regions, the program's and the document's: where it is refused; where a range lies. -/
import Derived.Test.YtmmgcmbniidieaaGmNew0
import Derived.Test.YtmmgcmbniidieaaGmBad
import Derived.Test.YtmmgcmbniidieaaGmKit0
import Derived.Test.YtmmgcmbniidieaaGmRefP
namespace Go.Proofs.Ytmmgcmbniidieaa.GmTwin
open Go.RowKit Rw GmFind GmWord GmCheck GmCopyR GmNew GmRef GmRefM GmRefP
set_option linter.unusedVariables false
set_option linter.unusedSimpArgs false

/-- A list that a memory is made of. -/
def Good (k : Nat) (r : Rg) : Prop := k ≤ 16 ∧ ∀ i, i < k → Step r i
theorem first_bad (r : Rg) : ∀ n : Nat, (∀ i, i < n → Step r i) ∨ ∃ j, j < n ∧ (∀ i, i < j → Step r i) ∧ ¬ Step r j
  | 0 => .inl (fun i hi => by omega)
  | n + 1 => by
    rcases first_bad r n with h | ⟨j, h1, h2, h3⟩
    · by_cases hs : Step r n
      · refine .inl (fun i hi => ?_)
        by_cases e : i = n
        · subst e; exact hs
        · exact h i (by omega)
      · exact .inr ⟨n, by omega, h, hs⟩
    · exact .inr ⟨j, by omega, h2, h3⟩
theorem place_zero (r : Rg) (a n : Int) : (place r 0 a n).isSome = false := by
  cases h : (place r 0 a n).isSome
  · rfl
  · obtain ⟨i, hi, _⟩ := (place_inR (r := r) (k := 0) ⟨fun i hi => by omega, fun i hi => by omega, fun i hi => by omega, fun i hi => by omega⟩).1 h
    omega
theorem row_none {w : World} {B size : Nat} {A : Option Addr} {F : Nat → Value} : IsRow w B size A 0 F := fun h => absurd h (by decide)

theorem check_no (A : Option Addr) (k c : Nat) (r : Rg) (w : World) (hr : Raw r k) (hg : ¬ Good k r) (h : Lst w w.heap.size A k r) : Calls Try.prog 12 #[.slice A k c] w (GmWord.Gives w.heap.size w (.int .i64 2)) := by
  by_cases hk : k ≤ 16
  · rcases first_bad r k with h1 | ⟨j, hj, h1, h2⟩
    · exact absurd ⟨hk, h1⟩ hg
    · exact GmBad.check_bad A k c j r w hk hr hj h1 h2 h
  · exact GmBad.check_many A k c w (by omega)
theorem r_check_no (A : Option Addr) (k c : Nat) (r : Rg) (w : World) (hr : Raw r k) (hg : ¬ Good k r) (h : Lst w w.heap.size A k r) : Calls Try.prog 51 #[.slice A k c] w (GmWord.Gives w.heap.size w (.int .i64 2)) := by
  by_cases hk : k ≤ 16
  · exact r_check_any A k c r 2 w hk hr (fun h1 => absurd ⟨hk, h1⟩ hg) (fun _ => rfl) h
  · exact r_check_many A k c w (by omega)
theorem new_bad (A : Option Addr) (k c : Nat) (r : Rg) (w : World) (hr : Raw r k) (hg : ¬ Good k r) (h : Lst w w.heap.size A k r) : Calls Try.prog 9 #[.slice A k c] w (GmWord.Gives w.heap.size w (.tuple #[.pointer none, .int .i64 2])) :=
  GmNew0.new_no A k c w fun W e => by subst e; exact check_no A k c r w hr hg h
theorem r_new_bad (A : Option Addr) (k c : Nat) (r : Rg) (w : World) (hr : Raw r k) (hg : ¬ Good k r) (h : Lst w w.heap.size A k r) : Calls Try.prog 11 #[.slice A k c] w (GmWord.Gives w.heap.size w (.tuple #[.pointer none, .int .i64 2])) :=
  r_new_no A k c w fun W e => by subst e; exact r_check_no A k c r w hr hg h

/-- A list of its own, of any length. -/
theorem regions_any (A : Option Addr) (k c : Nat) (r : Rg) (w : World) (hk : k ≤ 1000000) (hA : A = none → c = 0) (h : Lst w w.heap.size A k r) :
    Calls Try.prog 10 #[.slice A k c] w fun e w' => ∃ (A' : Option Addr) (c' : Nat), e = .returned (.slice A' k c') ∧ Lst w' w'.heap.size A' k r ∧ Below w.heap.size w w' := by
  by_cases h0 : 0 < k
  · exact GmKit.regions_some A k c r w h0 hk h
  · obtain rfl : k = 0 := by omega
    exact (GmKit.regions_none A c w hA).mono fun e w' ⟨A', c', he, _, hb⟩ => ⟨A', c', he, row_none, hb⟩

/-- The program's memory, as far as Has goes. -/
structure PMem (w : World) (m k : Nat) (r : Rg) : Prop where
  self : w.cell? ⟨m, 0, none⟩ = some (.pointer (some ⟨m, 0, none⟩))
  lt : m < w.heap.size
  has : ∀ W, Below w.heap.size w W → ∀ a n : Int, 0 ≤ a ∧ a ≤ 18446744073709551615 → 0 ≤ n ∧ n ≤ 18446744073709551615 →
    Calls Try.prog 23 #[.pointer (some ⟨m, 0, none⟩), .int .u64 a, .int .u64 n] W (GmWord.Gives W.heap.size W (.bool (place (stR r) k a n).isSome))
/-- The document's. -/
structure QMem (w : World) (m k : Nat) (r : Rg) : Prop where
  has : ∀ W, Below w.heap.size w W → ∀ a n : Int, 0 ≤ a ∧ a ≤ 18446744073709551615 → 0 ≤ n ∧ n ≤ 18446744073709551615 →
    Calls Try.prog 24 #[.pointer (some ⟨m, 0, none⟩), .int .u64 a, .int .u64 n] W (GmWord.Gives W.heap.size W (.bool (place (stR r) k a n).isSome))
theorem fits_steps {r : Rg} {k n3 : Nat} (hr : Raw r k) (h3 : (n3 : Int) = sum r k) : (stR r).Fits k n3 := fun i hi => by
  have h1 := sum_lo hr i (by omega)
  have h2 := sum_up hr (Nat.le_refl k) hi
  exact ⟨h1, by show sum r i + r.len i ≤ (n3 : Int); omega⟩
theorem sum_most {r : Rg} {k : Nat} (hs : ∀ i, i < k → Step r i) : sum r k ≤ 1048576 := by
  cases k with
  | zero => show (0 : Int) ≤ _; decide
  | succ i => exact (hs i (by omega)).2.1
theorem new_good (A : Option Addr) (k c : Nat) (r : Rg) (w : World) (hr : Raw r k) (hg : Good k r) (h : Lst w w.heap.size A k r) :
    Calls Try.prog 9 #[.slice A k c] w fun e w' => ∃ m, e = .returned (.tuple #[.pointer (some ⟨m, 0, none⟩), .int .i64 0]) ∧ PMem w' m k r ∧ Below w.heap.size w w' := by
  by_cases h0 : 0 < k
  · refine (new_ok A k c r w h0 hg.1 hr hg.2 h).mono ?_
    rintro e w' ⟨m, g1, b3, c2, n3, c3, A2, he, hM, h3, hc, _, _, _, _, _, _, hb⟩
    have hm := sum_most hg.2
    exact ⟨m, he, ⟨hM.self, hM.lt, fun W hW a n ha hn => has_any k m g1 b3 a n (stR r) W (by have := hg.1; omega) (in_steps hr hg.2) (fits_steps hr h3) hc (by omega) (hM.below hW) ha.1 ha.2 hn.1 hn.2⟩, hb⟩
  · obtain rfl : k = 0 := by omega
    refine (GmNew0.new_none A c r w).mono ?_
    rintro e w' ⟨m, g1, he, hM, _, _, _, hb⟩
    exact ⟨m, he, ⟨hM.self, hM.lt, fun W hW a n ha hn => by rw [place_zero]; exact GmNew0.has_none m g1 a n r W (hM.below hW)⟩, hb⟩
theorem r_new_good (A : Option Addr) (k c : Nat) (r : Rg) (w : World) (hr : Raw r k) (hg : Good k r) (hA : A = none → c = 0) (h : Lst w w.heap.size A k r) :
    Calls Try.prog 11 #[.slice A k c] w fun e w' => ∃ m, e = .returned (.tuple #[.pointer (some ⟨m, 0, none⟩), .int .i64 0]) ∧ QMem w' m k r ∧ Below w.heap.size w w' := by
  by_cases h0 : 0 < k
  · refine (r_new_ok A k c r w h0 hg.1 hr hg.2 h).mono ?_
    rintro e w' ⟨m, c2, A2, x, ps, he, hM, hP, hl, _, ho, hbk, hb⟩
    have hR := RM.of_new hg.1 hr hg.2 hM hP hl ho hbk
    exact ⟨m, he, ⟨fun W hW a n ha hn => (hR.below hW).has ha hn⟩, hb⟩
  · obtain rfl : k = 0 := by omega
    refine (r_new_none A c r w hA).mono ?_
    rintro e w' ⟨m, c2, A2, x, ps, he, hM, hP, hl, _, ho, hbk, hb⟩
    have hR := RM.of_new (by decide) hr hg.2 hM hP hl ho hbk
    exact ⟨m, he, ⟨fun W hW a n ha hn => (hR.below hW).has ha hn⟩, hb⟩

end Go.Proofs.Ytmmgcmbniidieaa.GmTwin
