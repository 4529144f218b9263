
/- Closed sets of features: what the rules make of a set, bit by bit. No program here. -/
import Derived.Test.YtmmgcmbniidieaaDoorFe
namespace Go.Proofs.YtmmgcmbniidieaaDoor.Fe
open Go.RowKit
set_option linter.unusedSimpArgs false
set_option linter.unusedVariables false

theorem r0_0 : R0 0 = one 18 := by decide
theorem r0_1 : R0 1 = one 19 := by decide
theorem r0_2 : R0 2 = one 22 := by decide
theorem r0_3 : R0 3 = one 23 := by decide
theorem r0_4 : R0 4 = one 23 := by decide
theorem r1_0 : R1 0 = one 17 := by decide
theorem r1_1 : R1 1 = one 17 := by decide
theorem r1_2 : R1 2 = one 17 := by decide
theorem r1_3 : R1 3 = one 17 := by decide
theorem r1_4 : R1 4 = one 5 := by decide

theorem add_bit (X : Set64) (a b i : Nat) (ha : a < 64) (hi : i < 64) : (addF (one a) (one b) X).getLsbD i = (X.getLsbD i || (decide (i = b) && X.getLsbD a)) := by
  unfold addF
  rw [and_one0 X a ha]
  cases h : X.getLsbD a
  · simp
  · simp [one_bit _ _ hi]
theorem drop_bit (X : Set64) (a b i : Nat) (hb : b < 64) (hi : i < 64) : (dropF (one a) (one b) X).getLsbD i = (X.getLsbD i && !(decide (i = a) && !X.getLsbD b)) := by
  unfold dropF
  rw [and_one0 X b hb]
  cases h : X.getLsbD b
  · show (X &&& ~~~one a).getLsbD i = _
    rw [BitVec.getLsbD_and, BitVec.getLsbD_not, one_bit _ _ hi]
    simp only [hi, decide_true, Bool.true_and, Bool.not_false, Bool.and_true]
  · simp

theorem pass_add (X : Set64) (i : Nat) (hi : i < 64) : (pass addF X 5).getLsbD i = (X.getLsbD i || (decide (i = 17) && (X.getLsbD 18 || X.getLsbD 19 || X.getLsbD 22 || X.getLsbD 23)) || (decide (i = 5) && X.getLsbD 23)) := by
  unfold pass pass pass pass pass pass
  rw [r0_0, r0_1, r0_2, r0_3, r0_4, r1_0, r1_1, r1_2, r1_3, r1_4]
  simp only [add_bit _ _ _ _ (show 18 < 64 by decide), add_bit _ _ _ _ (show 19 < 64 by decide), add_bit _ _ _ _ (show 22 < 64 by decide), add_bit _ _ _ _ (show 23 < 64 by decide), hi, show 18 < 64 by decide, show 19 < 64 by decide, show 22 < 64 by decide, show 23 < 64 by decide, show ¬ 18 = 17 by decide, show ¬ 19 = 17 by decide, show ¬ 22 = 17 by decide, show ¬ 23 = 17 by decide, decide_false, Bool.false_and, Bool.or_false]
  generalize X.getLsbD i = x
  generalize X.getLsbD 18 = a
  generalize X.getLsbD 19 = b
  generalize X.getLsbD 22 = c
  generalize X.getLsbD 23 = d
  generalize decide (i = 17) = p
  generalize decide (i = 5) = q
  revert x a b c d p q
  decide
theorem pass_drop (X : Set64) (i : Nat) (hi : i < 64) : (pass dropF X 5).getLsbD i = (X.getLsbD i && !((decide (i = 18) || decide (i = 19) || decide (i = 22) || decide (i = 23)) && !X.getLsbD 17) && !(decide (i = 23) && !X.getLsbD 5)) := by
  unfold pass pass pass pass pass pass
  rw [r0_0, r0_1, r0_2, r0_3, r0_4, r1_0, r1_1, r1_2, r1_3, r1_4]
  simp only [drop_bit _ _ _ _ (show 17 < 64 by decide), drop_bit _ _ _ _ (show 5 < 64 by decide), hi, show 17 < 64 by decide, show 5 < 64 by decide, show ¬ 17 = 18 by decide, show ¬ 17 = 19 by decide, show ¬ 17 = 22 by decide, show ¬ 17 = 23 by decide, show ¬ 5 = 18 by decide, show ¬ 5 = 19 by decide, show ¬ 5 = 22 by decide, show ¬ 5 = 23 by decide, decide_false, Bool.false_and, Bool.not_false, Bool.and_true]
  generalize X.getLsbD i = x
  generalize X.getLsbD 17 = a
  generalize X.getLsbD 5 = b
  generalize decide (i = 18) = p
  generalize decide (i = 19) = q
  generalize decide (i = 22) = r
  generalize decide (i = 23) = s
  revert x a b p q r s
  decide
theorem add_idem (X : Set64) : pass addF (pass addF X 5) 5 = pass addF X 5 := by
  refine ext fun i hi => ?_
  simp only [pass_add _ _ hi, pass_add X 18 (by decide), pass_add X 19 (by decide), pass_add X 22 (by decide), pass_add X 23 (by decide), show ¬ 18 = 17 by decide, show ¬ 19 = 17 by decide, show ¬ 22 = 17 by decide, show ¬ 23 = 17 by decide, show ¬ 18 = 5 by decide, show ¬ 19 = 5 by decide, show ¬ 22 = 5 by decide, show ¬ 23 = 5 by decide, decide_false, Bool.false_and, Bool.or_false]
  generalize X.getLsbD i = x
  generalize X.getLsbD 18 = a
  generalize X.getLsbD 19 = b
  generalize X.getLsbD 22 = c
  generalize X.getLsbD 23 = d
  generalize decide (i = 17) = p
  generalize decide (i = 5) = q
  revert x a b c d p q
  decide
theorem drop_idem (X : Set64) : pass dropF (pass dropF X 5) 5 = pass dropF X 5 := by
  refine ext fun i hi => ?_
  simp only [pass_drop _ _ hi, pass_drop X 17 (by decide), pass_drop X 5 (by decide), show ¬ 17 = 18 by decide, show ¬ 17 = 19 by decide, show ¬ 17 = 22 by decide, show ¬ 17 = 23 by decide, show ¬ 5 = 18 by decide, show ¬ 5 = 19 by decide, show ¬ 5 = 22 by decide, show ¬ 5 = 23 by decide, decide_false, Bool.false_or, Bool.false_and, Bool.not_false, Bool.and_true]
  generalize X.getLsbD i = x
  generalize X.getLsbD 17 = a
  generalize X.getLsbD 5 = b
  generalize decide (i = 18) = p
  generalize decide (i = 19) = q
  generalize decide (i = 22) = r
  generalize decide (i = 23) = s
  revert x a b p q r s
  decide

def v1 : Set64 := 4294967296#64
theorem v1_one : v1 = one 32 := by decide
def allF (k : Int) : Set64 := if k = 1 then 1156165107747#64 else if k = 2 then 1156151538208#64 else if k = 3 then 1156151508999#64 else 0#64
def within (X Y : Set64) : Bool := X &&& ~~~Y == 0#64
def knownB (k : Int) (X : Set64) : Bool := !(allF k == 0#64) && within X (allF k)
def needsF (k : Int) (X : Set64) : Set64 := if knownB k X then pass addF (X ||| v1) 5 &&& ~~~X else 0#64
def closedB (k : Int) (X : Set64) : Bool := knownB k X && needsF k X == 0#64
def acceptB (k : Int) (O X : Set64) : Bool := closedB k X && within X O
def hasB (X : Set64) (n : Int) : Bool := decide (0 ≤ n) && decide (n < 64) && X.getLsbD n.toNat
def bestF (k : Int) (O W : Set64) : Set64 := pass dropF (O &&& (W ||| v1) &&& allF k) 5
def bestOk (k : Int) (O : Set64) : Bool := !(allF k == 0#64) && hasB O 32

theorem within_iff (X Y : Set64) : within X Y = true ↔ ∀ i, i < 64 → X.getLsbD i = true → Y.getLsbD i = true := sub0 X Y
theorem v1_bit (i : Nat) (hi : i < 64) : v1.getLsbD i = decide (i = 32) := by rw [v1_one, one_bit _ _ hi]
theorem all_ne {k : Int} (hk : k = 1 ∨ k = 2 ∨ k = 3) : (allF k == 0#64) = false := by rcases hk with rfl | rfl | rfl <;> decide
theorem all_v1 {k : Int} (hk : k = 1 ∨ k = 2 ∨ k = 3) : (allF k).getLsbD 32 = true := by rcases hk with rfl | rfl | rfl <;> decide
theorem all_closed {k : Int} (hk : k = 1 ∨ k = 2 ∨ k = 3) : ((allF k).getLsbD 18 || (allF k).getLsbD 19 || (allF k).getLsbD 22 || (allF k).getLsbD 23) = true → (allF k).getLsbD 17 = true ∧ (allF k).getLsbD 5 = true := by
  rcases hk with rfl | rfl | rfl <;> decide

/-- What a closed set is, bit by bit. -/
structure Cl (k : Int) (X : Set64) : Prop where
  sub : ∀ i, i < 64 → X.getLsbD i = true → (allF k).getLsbD i = true
  v : X.getLsbD 32 = true
  c : (X.getLsbD 18 || X.getLsbD 19 || X.getLsbD 22 || X.getLsbD 23) = true → X.getLsbD 17 = true
  m : X.getLsbD 23 = true → X.getLsbD 5 = true
theorem known_iff {k : Int} (hk : k = 1 ∨ k = 2 ∨ k = 3) (X : Set64) : knownB k X = true ↔ ∀ i, i < 64 → X.getLsbD i = true → (allF k).getLsbD i = true := by
  unfold knownB
  rw [all_ne hk]
  simpa using within_iff X (allF k)
theorem needs_bit {k : Int} {X : Set64} (h : knownB k X = true) (i : Nat) (hi : i < 64) : (needsF k X).getLsbD i = (!X.getLsbD i && (decide (i = 32) || (decide (i = 17) && (X.getLsbD 18 || X.getLsbD 19 || X.getLsbD 22 || X.getLsbD 23)) || (decide (i = 5) && X.getLsbD 23))) := by
  unfold needsF
  rw [if_pos h, BitVec.getLsbD_and, BitVec.getLsbD_not, pass_add _ _ hi]
  simp only [BitVec.getLsbD_or, v1_bit _ hi, v1_bit 18 (by decide), v1_bit 19 (by decide), v1_bit 22 (by decide), v1_bit 23 (by decide), show ¬ 18 = 32 by decide, show ¬ 19 = 32 by decide, show ¬ 22 = 32 by decide, show ¬ 23 = 32 by decide, decide_false, Bool.or_false, hi, decide_true, Bool.true_and]
  generalize X.getLsbD i = x
  generalize (X.getLsbD 18 || X.getLsbD 19 || X.getLsbD 22 || X.getLsbD 23) = a
  generalize X.getLsbD 23 = d
  generalize decide (i = 17) = p
  generalize decide (i = 5) = q
  generalize decide (i = 32) = r
  revert x a d p q r
  decide
theorem closed_iff {k : Int} (hk : k = 1 ∨ k = 2 ∨ k = 3) (X : Set64) : closedB k X = true ↔ Cl k X := by
  unfold closedB
  rw [Bool.and_eq_true]
  constructor
  · rintro ⟨h1, h2⟩
    have h3 : ∀ i, i < 64 → (needsF k X).getLsbD i = false := fun i hi => by rw [beq_iff_eq.1 h2]; simp
    refine ⟨(known_iff hk X).1 h1, ?_, fun h => ?_, fun h => ?_⟩
    · have := h3 32 (by decide); rw [needs_bit h1 _ (by decide)] at this; simpa using this
    · have := h3 17 (by decide); rw [needs_bit h1 _ (by decide), h] at this; simpa using this
    · have := h3 5 (by decide); rw [needs_bit h1 _ (by decide), h] at this; simpa using this
  · rintro ⟨h1, h2, h3, h4⟩
    have hk' := (known_iff hk X).2 h1
    refine ⟨hk', beq_iff_eq.2 (ext fun i hi => ?_)⟩
    rw [needs_bit hk' i hi, BitVec.getLsbD_zero]
    cases hx : X.getLsbD i
    · by_cases e1 : i = 32
      · subst e1; rw [h2] at hx; cases hx
      · by_cases e2 : i = 17
        · subst e2
          cases hc : (X.getLsbD 18 || X.getLsbD 19 || X.getLsbD 22 || X.getLsbD 23)
          · simp
          · rw [h3 hc] at hx; cases hx
        · by_cases e3 : i = 5
          · subst e3
            cases hc : X.getLsbD 23
            · simp
            · rw [h4 hc] at hx; cases hx
          · simp [e1, e2, e3]
    · simp

/-- A known set with what it needs is closed. -/
theorem with_needs {k : Int} (hk : k = 1 ∨ k = 2 ∨ k = 3) {X : Set64} (h : knownB k X = true) : Cl k (X ||| needsF k X) := by
  have hs := (known_iff hk X).1 h
  have hb : ∀ i, i < 64 → (X ||| needsF k X).getLsbD i = (X.getLsbD i || (decide (i = 32) || (decide (i = 17) && (X.getLsbD 18 || X.getLsbD 19 || X.getLsbD 22 || X.getLsbD 23)) || (decide (i = 5) && X.getLsbD 23))) := fun i hi => by
    rw [BitVec.getLsbD_or, needs_bit h i hi]
    generalize X.getLsbD i = x
    generalize (decide (i = 32) || (decide (i = 17) && (X.getLsbD 18 || X.getLsbD 19 || X.getLsbD 22 || X.getLsbD 23)) || (decide (i = 5) && X.getLsbD 23)) = a
    revert x a
    decide
  have n18 : (X ||| needsF k X).getLsbD 18 = X.getLsbD 18 := by rw [hb 18 (by decide)]; simp only [show ¬ 18 = 32 by decide, show ¬ 18 = 17 by decide, show ¬ 18 = 5 by decide, decide_false, Bool.false_and, Bool.or_false]
  have n19 : (X ||| needsF k X).getLsbD 19 = X.getLsbD 19 := by rw [hb 19 (by decide)]; simp only [show ¬ 19 = 32 by decide, show ¬ 19 = 17 by decide, show ¬ 19 = 5 by decide, decide_false, Bool.false_and, Bool.or_false]
  have n22 : (X ||| needsF k X).getLsbD 22 = X.getLsbD 22 := by rw [hb 22 (by decide)]; simp only [show ¬ 22 = 32 by decide, show ¬ 22 = 17 by decide, show ¬ 22 = 5 by decide, decide_false, Bool.false_and, Bool.or_false]
  have n23 : (X ||| needsF k X).getLsbD 23 = X.getLsbD 23 := by rw [hb 23 (by decide)]; simp only [show ¬ 23 = 32 by decide, show ¬ 23 = 17 by decide, show ¬ 23 = 5 by decide, decide_false, Bool.false_and, Bool.or_false]
  have n17 : (X ||| needsF k X).getLsbD 17 = (X.getLsbD 17 || (X.getLsbD 18 || X.getLsbD 19 || X.getLsbD 22 || X.getLsbD 23)) := by rw [hb 17 (by decide)]; simp only [show ¬ 17 = 32 by decide, show ¬ 17 = 5 by decide, decide_false, decide_true, Bool.true_and, Bool.false_and, Bool.or_false, Bool.false_or]
  have n5 : (X ||| needsF k X).getLsbD 5 = (X.getLsbD 5 || X.getLsbD 23) := by rw [hb 5 (by decide)]; simp only [show ¬ 5 = 32 by decide, show ¬ 5 = 17 by decide, decide_false, decide_true, Bool.true_and, Bool.false_and, Bool.or_false, Bool.false_or]
  refine ⟨fun i hi hx => ?_, ?_, fun hc => ?_, fun hm => ?_⟩
  · rw [hb i hi] at hx
    cases e : X.getLsbD i
    · rw [e, Bool.false_or] at hx
      by_cases e1 : i = 32
      · rw [e1]; exact all_v1 hk
      · by_cases e2 : i = 17
        · subst e2
          simp only [show ¬ 17 = 32 by decide, show ¬ 17 = 5 by decide, decide_false, decide_true, Bool.true_and, Bool.false_and, Bool.or_false, Bool.false_or] at hx
          refine (all_closed hk ?_).1
          rw [Bool.or_eq_true, Bool.or_eq_true, Bool.or_eq_true] at hx ⊢
          rcases hx with ((h | h) | h) | h
          · exact .inl (.inl (.inl (hs 18 (by decide) h)))
          · exact .inl (.inl (.inr (hs 19 (by decide) h)))
          · exact .inl (.inr (hs 22 (by decide) h))
          · exact .inr (hs 23 (by decide) h)
        · by_cases e3 : i = 5
          · subst e3
            simp only [show ¬ 5 = 32 by decide, show ¬ 5 = 17 by decide, decide_false, decide_true, Bool.true_and, Bool.false_and, Bool.or_false, Bool.false_or] at hx
            refine (all_closed hk ?_).2
            rw [Bool.or_eq_true]
            exact .inr (hs 23 (by decide) hx)
          · simp only [e1, e2, e3, decide_false, Bool.false_and, Bool.or_false] at hx
            cases hx
    · exact hs i hi e
  · rw [hb 32 (by decide)]; simp only [decide_true, Bool.true_or, Bool.or_true]
  · rw [n18, n19, n22, n23] at hc
    rw [n17, hc, Bool.or_true]
  · rw [n23] at hm
    rw [n5, hm, Bool.or_true]
theorem cl_or {k : Int} {X Y : Set64} (h : Cl k X) (g : Cl k Y) : Cl k (X ||| Y) := by
  refine ⟨fun i hi hx => ?_, ?_, fun hc => ?_, fun hm => ?_⟩
  · rw [BitVec.getLsbD_or, Bool.or_eq_true] at hx
    rcases hx with hx | hx
    · exact h.sub i hi hx
    · exact g.sub i hi hx
  · simp [h.v]
  · have hc1 := h.c
    have hc2 := g.c
    simp only [BitVec.getLsbD_or] at hc ⊢
    revert hc hc1 hc2
    generalize X.getLsbD 18 = a; generalize X.getLsbD 19 = b; generalize X.getLsbD 22 = c; generalize X.getLsbD 23 = d; generalize X.getLsbD 17 = e
    generalize Y.getLsbD 18 = a'; generalize Y.getLsbD 19 = b'; generalize Y.getLsbD 22 = c'; generalize Y.getLsbD 23 = d'; generalize Y.getLsbD 17 = e'
    revert a b c d e a' b' c' d' e'
    decide
  · have hc1 := h.m
    have hc2 := g.m
    simp only [BitVec.getLsbD_or] at hm ⊢
    revert hm hc1 hc2
    generalize X.getLsbD 23 = d; generalize X.getLsbD 5 = e
    generalize Y.getLsbD 23 = d'; generalize Y.getLsbD 5 = e'
    revert d e d' e'
    decide
theorem cl_and {k : Int} {X Y : Set64} (h : Cl k X) (g : Cl k Y) : Cl k (X &&& Y) := by
  refine ⟨fun i hi hx => ?_, ?_, fun hc => ?_, fun hm => ?_⟩
  · rw [BitVec.getLsbD_and, Bool.and_eq_true] at hx
    exact h.sub i hi hx.1
  · simp [h.v, g.v]
  · have hc1 := h.c
    have hc2 := g.c
    simp only [BitVec.getLsbD_and] at hc ⊢
    revert hc hc1 hc2
    generalize X.getLsbD 18 = a; generalize X.getLsbD 19 = b; generalize X.getLsbD 22 = c; generalize X.getLsbD 23 = d; generalize X.getLsbD 17 = e
    generalize Y.getLsbD 18 = a'; generalize Y.getLsbD 19 = b'; generalize Y.getLsbD 22 = c'; generalize Y.getLsbD 23 = d'; generalize Y.getLsbD 17 = e'
    revert a b c d e a' b' c' d' e'
    decide
  · have hc1 := h.m
    have hc2 := g.m
    simp only [BitVec.getLsbD_and] at hm ⊢
    revert hm hc1 hc2
    generalize X.getLsbD 23 = d; generalize X.getLsbD 5 = e
    generalize Y.getLsbD 23 = d'; generalize Y.getLsbD 5 = e'
    revert d e d' e'
    decide
/-- What is left of an offer is closed. -/
theorem best_bit (k : Int) (O W : Set64) (i : Nat) (hi : i < 64) : (bestF k O W).getLsbD i = ((O.getLsbD i && (W.getLsbD i || decide (i = 32)) && (allF k).getLsbD i) && !((decide (i = 18) || decide (i = 19) || decide (i = 22) || decide (i = 23)) && !(O.getLsbD 17 && W.getLsbD 17 && (allF k).getLsbD 17)) && !(decide (i = 23) && !(O.getLsbD 5 && W.getLsbD 5 && (allF k).getLsbD 5))) := by
  unfold bestF
  rw [pass_drop _ _ hi]
  simp only [BitVec.getLsbD_and, BitVec.getLsbD_or, v1_bit _ hi, v1_bit 17 (by decide), v1_bit 5 (by decide), show ¬ 17 = 32 by decide, show ¬ 5 = 32 by decide, decide_false, Bool.or_false]

end Go.Proofs.YtmmgcmbniidieaaDoor.Fe
