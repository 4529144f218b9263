
/- The best set of an offer: closed, wanted, and the greatest. No program here. -/
import Derived.Test.YtmmgcmbniidieaaDoorFeMath
namespace Go.Proofs.YtmmgcmbniidieaaDoor.Fe
open Go.RowKit
set_option linter.unusedSimpArgs false
set_option linter.unusedVariables false

theorem best17 (k : Int) (O W : Set64) : (bestF k O W).getLsbD 17 = (O.getLsbD 17 && W.getLsbD 17 && (allF k).getLsbD 17) := by
  rw [best_bit k O W 17 (by decide)]
  simp only [show ¬ 17 = 32 by decide, show ¬ 17 = 18 by decide, show ¬ 17 = 19 by decide, show ¬ 17 = 22 by decide, show ¬ 17 = 23 by decide, decide_false, Bool.or_false, Bool.false_and, Bool.not_false, Bool.and_true]
theorem best5 (k : Int) (O W : Set64) : (bestF k O W).getLsbD 5 = (O.getLsbD 5 && W.getLsbD 5 && (allF k).getLsbD 5) := by
  rw [best_bit k O W 5 (by decide)]
  simp only [show ¬ 5 = 32 by decide, show ¬ 5 = 18 by decide, show ¬ 5 = 19 by decide, show ¬ 5 = 22 by decide, show ¬ 5 = 23 by decide, decide_false, Bool.or_false, Bool.false_and, Bool.not_false, Bool.and_true]
theorem best32 (k : Int) (O W : Set64) : (bestF k O W).getLsbD 32 = (O.getLsbD 32 && (allF k).getLsbD 32) := by
  rw [best_bit k O W 32 (by decide)]
  simp only [show ¬ 32 = 18 by decide, show ¬ 32 = 19 by decide, show ¬ 32 = 22 by decide, show ¬ 32 = 23 by decide, decide_false, decide_true, Bool.or_false, Bool.or_true, Bool.false_and, Bool.not_false, Bool.and_true]
theorem taut1 : ∀ o w d a E e p q : Bool, ((o && (w || d) && a) && !(E && !p) && !(e && !q)) = true → o = true ∧ (w || d) = true ∧ a = true ∧ (E = true → p = true) ∧ (e = true → q = true) := by decide
theorem best_of {k : Int} {O W : Set64} {i : Nat} (hi : i < 64) (h : (bestF k O W).getLsbD i = true) :
    O.getLsbD i = true ∧ (W.getLsbD i || decide (i = 32)) = true ∧ (allF k).getLsbD i = true ∧ ((decide (i = 18) || decide (i = 19) || decide (i = 22) || decide (i = 23)) = true → (bestF k O W).getLsbD 17 = true) ∧ (decide (i = 23) = true → (bestF k O W).getLsbD 5 = true) := by
  rw [best17, best5]
  rw [best_bit k O W i hi] at h
  exact taut1 _ _ _ _ _ _ _ _ h
theorem taut2 : ∀ o w d a E e p q : Bool, o = true → (w || d) = true → a = true → (E = true → p = true) → (e = true → q = true) → ((o && (w || d) && a) && !(E && !p) && !(e && !q)) = true := by decide
theorem of_best {k : Int} {O W : Set64} {i : Nat} (hi : i < 64) (h1 : O.getLsbD i = true) (h2 : (W.getLsbD i || decide (i = 32)) = true) (h3 : (allF k).getLsbD i = true)
    (h4 : (decide (i = 18) || decide (i = 19) || decide (i = 22) || decide (i = 23)) = true → (O.getLsbD 17 && W.getLsbD 17 && (allF k).getLsbD 17) = true) (h5 : decide (i = 23) = true → (O.getLsbD 5 && W.getLsbD 5 && (allF k).getLsbD 5) = true) : (bestF k O W).getLsbD i = true := by
  rw [best_bit k O W i hi]
  exact taut2 _ _ _ _ _ _ _ _ h1 h2 h3 h4 h5
theorem bestOk_v {k : Int} {O : Set64} (h : bestOk k O = true) : O.getLsbD 32 = true := by
  unfold bestOk hasB at h
  rw [Bool.and_eq_true, Bool.and_eq_true] at h
  exact h.2.2
theorem bestOk_of {k : Int} (hk : k = 1 ∨ k = 2 ∨ k = 3) {O : Set64} (h : O.getLsbD 32 = true) : bestOk k O = true := by
  unfold bestOk hasB
  rw [all_ne hk]
  exact h
theorem best_cl {k : Int} (hk : k = 1 ∨ k = 2 ∨ k = 3) {O W : Set64} (h : bestOk k O = true) : Cl k (bestF k O W) := by
  refine ⟨fun i hi hx => (best_of hi hx).2.2.1, ?_, fun hc => ?_, fun hm => ?_⟩
  · rw [best32, bestOk_v h, all_v1 hk]; rfl
  · rw [Bool.or_eq_true, Bool.or_eq_true, Bool.or_eq_true] at hc
    rcases hc with ((hx | hx) | hx) | hx
    · exact (best_of (by decide) hx).2.2.2.1 (by decide)
    · exact (best_of (by decide) hx).2.2.2.1 (by decide)
    · exact (best_of (by decide) hx).2.2.2.1 (by decide)
    · exact (best_of (by decide) hx).2.2.2.1 (by decide)
  · exact (best_of (by decide) hm).2.2.2.2 (by decide)
theorem best_accepted {k : Int} (hk : k = 1 ∨ k = 2 ∨ k = 3) {O W : Set64} (h : bestOk k O = true) : acceptB k O (bestF k O W) = true := by
  unfold acceptB
  rw [(closed_iff hk _).2 (best_cl hk h), Bool.true_and]
  exact (within_iff _ _).2 fun i hi hx => (best_of hi hx).1
theorem best_wanted (k : Int) (O W : Set64) : within (bestF k O W) (W ||| v1) = true :=
  (within_iff _ _).2 fun i hi hx => by rw [BitVec.getLsbD_or, v1_bit _ hi]; exact (best_of hi hx).2.1
theorem best_most {k : Int} (hk : k = 1 ∨ k = 2 ∨ k = 3) {O W D : Set64} (ha : acceptB k O D = true) (hw : within D (W ||| v1) = true) : within D (bestF k O W) = true := by
  unfold acceptB at ha
  rw [Bool.and_eq_true] at ha
  have hc := (closed_iff hk D).1 ha.1
  have ho := (within_iff _ _).1 ha.2
  have hv := (within_iff _ _).1 hw
  have hv' : ∀ i, i < 64 → D.getLsbD i = true → (W.getLsbD i || decide (i = 32)) = true := fun i hi hx => by
    have := hv i hi hx
    rwa [BitVec.getLsbD_or, v1_bit _ hi] at this
  refine (within_iff _ _).2 fun i hi hx => of_best hi (ho i hi hx) (hv' i hi hx) (hc.sub i hi hx) (fun h4 => ?_) (fun h5 => ?_)
  · have h17 : D.getLsbD 17 = true := hc.c (by
      rw [Bool.or_eq_true, Bool.or_eq_true, Bool.or_eq_true] at h4 ⊢
      rcases h4 with ((h | h) | h) | h
      · rw [of_decide_eq_true h] at hx; exact .inl (.inl (.inl hx))
      · rw [of_decide_eq_true h] at hx; exact .inl (.inl (.inr hx))
      · rw [of_decide_eq_true h] at hx; exact .inl (.inr hx)
      · rw [of_decide_eq_true h] at hx; exact .inr hx)
    have w17 := hv' 17 (by decide) h17
    rw [show decide (17 = 32) = false from rfl, Bool.or_false] at w17
    rw [ho 17 (by decide) h17, w17, hc.sub 17 (by decide) h17]; rfl
  · have h5' : D.getLsbD 5 = true := hc.m (by rw [of_decide_eq_true h5] at hx; exact hx)
    have w5 := hv' 5 (by decide) h5'
    rw [show decide (5 = 32) = false from rfl, Bool.or_false] at w5
    rw [ho 5 (by decide) h5', w5, hc.sub 5 (by decide) h5']; rfl
theorem best_again {k : Int} (hk : k = 1 ∨ k = 2 ∨ k = 3) {O W : Set64} (h : bestOk k O = true) : bestF k (bestF k O W) W = bestF k O W := by
  have h2 : acceptB k (bestF k O W) (bestF k O W) = true := by
    unfold acceptB
    rw [(closed_iff hk _).2 (best_cl hk h), Bool.true_and]
    exact (within_iff _ _).2 fun i hi hx => hx
  have h3 := (within_iff _ _).1 (best_most hk h2 (best_wanted k O W))
  refine ext fun i hi => ?_
  cases e : (bestF k O W).getLsbD i
  · cases e2 : (bestF k (bestF k O W) W).getLsbD i
    · rfl
    · rw [(best_of hi e2).1] at e; cases e
  · exact h3 i hi e

end Go.Proofs.YtmmgcmbniidieaaDoor.Fe
