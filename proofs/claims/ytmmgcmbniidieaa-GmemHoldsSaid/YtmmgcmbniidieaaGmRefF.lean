
/- The document's own memory: find, Has. -/
import Derived.Test.YtmmgcmbniidieaaGmRef
namespace Go.Proofs.Ytmmgcmbniidieaa.GmRef
open Go.RowKit Rw GmFind GmWord GmCheck
set_option linter.unusedVariables false
set_option linter.unusedSimpArgs false

/-- Does a region hold the range? -/
def inR (r : Rg) (a n : Int) (i : Nat) : Prop := 1 ≤ n ∧ r.at_ i ≤ a ∧ n ≤ r.len i ∧ a - r.at_ i ≤ r.len i - n
/-- What find answers. -/
def FindP (r : Rg) (k : Nat) (a n : Int) (B : Nat) (w : World) (e : Ending) (w' : World) : Prop := Below B w w' ∧
  ((∃ i : Nat, i < k ∧ inR r a n i ∧ (∀ j, j < i → ¬ inR r a n j) ∧ e = .returned (.tuple #[.int .i64 i, .int .i64 (a - r.at_ i)])) ∨ ((∀ j, j < k → ¬ inR r a n j) ∧ e = .returned (.tuple #[.int .i64 (-1), .int .i64 0])))

set_option maxRecDepth 100000 in
set_option maxHeartbeats 4000000 in
theorem r_find_any (mm k c : Nat) (A : Option Addr) (r : Rg) (a n : Int) (w : World) (hk : k ≤ 1000000) (hr : Raw r k) (hl : ∀ i, i < k → r.len i ≤ 1048576) (ha : 0 ≤ a ∧ a ≤ 18446744073709551615) (hn : 0 ≤ n ∧ n ≤ 18446744073709551615)
    (h0 : w.cell? ⟨mm, 0, none⟩ = some (.slice A k c)) (hm : mm < w.heap.size) (h : Lst w w.heap.size A k r) :
    Calls Try.prog 54 #[.pointer (some ⟨mm, 0, none⟩), .int .u64 a, .int .u64 n] w (FindP r k a n w.heap.size w) := by
  have HL := Lib.hid h
  have HR := Lib.hid hr
  have HLE := Lib.hid hl
  clear h hr hl
  go_enter Try.func54, Try.ntmps54
  go_wp2_with fail
  go_loopw [8] (fun y wr => ∃ i : Nat, i ≤ k ∧ (∀ j, j < i → ¬ inR r a n j) ∧ y = .int .i64 i ∧ Below w.heap.size w wr) (fun y wr => k - (intOf y).toNat)
  case atStart => exact ⟨0, by omega, fun j hj => by omega, rfl, Below.refl _ _⟩
  case round =>
    obtain ⟨i, hi, hno, rfl, hb⟩ := hrel
    have HNO := Lib.hid hno
    clear hno
    have hwz := hb.size
    have m0 := (hb.cell (p := ⟨mm, 0, none⟩) hm).trans h0
    by_cases hlt : i < k
    · obtain ⟨ad, hA, had, hc⟩ := (HL.out.below hb) (by omega)
      have c0 := el0 hc hlt (by decide)
      have c1 := elj hc hlt 1 (by decide) (by decide)
      rw [Rg.cell0] at c0
      rw [Rg.cell1] at c1
      obtain ⟨r1, r2, r3, r4⟩ := HR.out i hlt
      have r5 := HLE.out i hlt
      clear hc
      subst hA
      by_cases hin : inR r a n i
      · obtain ⟨a1, a2, a3, a4⟩ := hin
        have HI : Hid (inR r a n i) := Lib.hid ⟨a1, a2, a3, a4⟩
        have f1 : IntKind.u64.wrap (a - r.at_ i) = a - r.at_ i := by rw [IntKind.wrap_u64]; omega
        have f2 : IntKind.u64.wrap (r.len i - n) = r.len i - n := by rw [IntKind.wrap_u64]; omega
        go_wp2_with fail
        go_region
        go_wp2_with fail
        go_returns
        exact ⟨by go_grown, .inl ⟨i, hlt, HI.out, HNO.out, rfl⟩⟩
      · have HI : Hid (¬ inR r a n i) := Lib.hid hin
        have hstep : ∀ W : World, Below w.heap.size w W → ∃ i' : Nat, i' ≤ k ∧ (∀ j, j < i' → ¬ inR r a n j) ∧ Value.int .i64 ((i : Int) + 1) = .int .i64 i' ∧ Below w.heap.size w W := fun W hW => ⟨i + 1, by omega, fun j hj => by
          rcases Nat.lt_or_ge j i with h | h
          · exact HNO.out j h
          · obtain rfl : j = i := by omega
            exact HI.out, by go_num, hW⟩
        have HST := Lib.hid hstep
        clear hin hstep
        by_cases b1 : 1 ≤ n
        case neg =>
          go_wp2_with fail
          go_roundw
          case rel => exact HST.out _ (by go_grown)
          case measure => simp [intOf]; omega
        by_cases b2 : r.at_ i ≤ a
        case neg =>
          go_wp2_with fail
          go_roundw
          case rel => exact HST.out _ (by go_grown)
          case measure => simp [intOf]; omega
        by_cases b3 : n ≤ r.len i
        case neg =>
          go_wp2_with fail
          go_roundw
          case rel => exact HST.out _ (by go_grown)
          case measure => simp [intOf]; omega
        have b4 : ¬ a - r.at_ i ≤ r.len i - n := fun hh => HI.out ⟨b1, b2, b3, hh⟩
        have f1 : IntKind.u64.wrap (a - r.at_ i) = a - r.at_ i := by rw [IntKind.wrap_u64]; omega
        have f2 : IntKind.u64.wrap (r.len i - n) = r.len i - n := by rw [IntKind.wrap_u64]; omega
        go_wp2_with fail
        go_roundw
        case rel => exact HST.out _ (by go_grown)
        case measure => simp [intOf]; omega
    · obtain rfl : i = k := by omega
      go_wp2_with fail
      go_returns
      exact ⟨hb, .inr ⟨HNO.out, rfl⟩⟩

/-- A range is in a region exactly if find has a place for it. -/
theorem place_inR {r : Rg} {k : Nat} {a n : Int} (hr : r.In k) : (place r k a n).isSome = true ↔ ∃ i, i < k ∧ inR r a n i := by
  unfold place
  constructor
  · intro h
    by_cases ho : okB r k (idx r a k) a n = true
    · have ho' := ho
      unfold okB at ho'
      simp only [Bool.and_eq_true, decide_eq_true_eq] at ho'
      obtain ⟨⟨⟨h1, h2⟩, h3⟩, h4⟩ := ho'
      have e : r.end_ (idx r a k) = r.at_ (idx r a k) + (r.len (idx r a k) - 1) := rfl
      rw [e] at h4
      exact ⟨idx r a k, h1, h3, h2, by omega, by omega⟩
    · rw [if_neg ho] at h; cases h
  · rintro ⟨i, hi, h1, h2, h3, h4⟩
    have e : r.end_ i = r.at_ i + (r.len i - 1) := rfl
    have hid : idx r a k = i := by
      refine idx_eq r a k i (by omega) (fun j hj => ?_) (fun _ => by rw [e]; omega)
      obtain ⟨p, rfl⟩ : ∃ p, i = p + 1 := ⟨i - 1, by omega⟩
      have g1 := hr.mono' (i := j) (j := p) (by omega) (by omega)
      have g2 := hr.up p (by omega)
      omega
    have ho : okB r k (idx r a k) a n = true := by
      rw [hid]
      unfold okB
      rw [e, decide_eq_true hi, decide_eq_true h2, decide_eq_true h1, decide_eq_true (by omega)]
      rfl
    rw [if_pos ho]
    rfl

set_option maxRecDepth 100000 in
set_option maxHeartbeats 4000000 in
theorem r_has_any (mm k c : Nat) (A : Option Addr) (r : Rg) (a n : Int) (w : World) (hk : k ≤ 1000000) (hr : Raw r k) (hI : r.In k) (hl : ∀ i, i < k → r.len i ≤ 1048576) (ha : 0 ≤ a ∧ a ≤ 18446744073709551615) (hn : 0 ≤ n ∧ n ≤ 18446744073709551615)
    (h0 : w.cell? ⟨mm, 0, none⟩ = some (.slice A k c)) (hm : mm < w.heap.size) (h : Lst w w.heap.size A k r) :
    Calls Try.prog 24 #[.pointer (some ⟨mm, 0, none⟩), .int .u64 a, .int .u64 n] w (GmWord.Gives w.heap.size w (.bool (place r k a n).isSome)) := by
  unfold GmWord.Gives
  have HF := Lib.hid (r_find_any mm k c A r a n w hk hr hl ha hn h0 hm h)
  have HP := Lib.hid (place_inR (a := a) (n := n) hI)
  clear hr hI hl h h0
  generalize (place r k a n).isSome = s at HP ⊢
  go_enter Try.func24, Try.ntmps24
  go_wp2_with fail
  refine HF.out.mono ?_
  rintro e W ⟨hb, ⟨i, hi, hin, _, rfl⟩ | ⟨hno, rfl⟩⟩
  · obtain rfl : s = true := HP.out.2 ⟨i, hi, hin⟩
    have f : decide ((0 : Int) ≤ (i : Int)) = true := decide_eq_true (by omega)
    go_wp2_with fail
    go_ret
    exact ⟨rfl, by go_grown⟩
  · obtain rfl : s = false := by
      cases s with
      | false => rfl
      | true =>
        obtain ⟨i, hi, hin⟩ := HP.out.1 rfl
        exact absurd hin (hno i hi)
    go_wp2_with fail
    go_ret
    exact ⟨rfl, by go_grown⟩

set_option maxRecDepth 100000 in
theorem r_new_no (A : Option Addr) (k c : Nat) (w : World) (h : ∀ W, w = W → Calls Try.prog 51 #[.slice A k c] W (GmWord.Gives W.heap.size W (.int .i64 2))) : Calls Try.prog 11 #[.slice A k c] w (GmWord.Gives w.heap.size w (.tuple #[.pointer none, .int .i64 2])) := by
  unfold GmWord.Gives
  have H := Lib.hid h
  clear h
  go_enter Try.func11, Try.ntmps11
  go_wp2_with fail
  refine (H.out _ rfl).mono ?_
  rintro e W1 ⟨rfl, hg1⟩
  go_wp2_with fail
  go_returns
  exact ⟨rfl, by go_grown⟩

end Go.Proofs.Ytmmgcmbniidieaa.GmRef
