/- The document's features against the program's: what is needed, and the best set, bit by bit. No program here. -/
import Derived.Test.YtmmgcmbniidieaaDoorStR1
namespace Go.Proofs.YtmmgcmbniidieaaDoor.StR
open Go.RowKit Fe
set_option linter.unusedSimpArgs false
set_option linter.unusedVariables false

def dropc (k : Int) (X : Set64) (i : Nat) : Bool := decide (k = 1) && (((decide (i = 18) || decide (i = 19) || decide (i = 22)) && !X.getLsbD 17) || (decide (i = 23) && !(X.getLsbD 17 && X.getLsbD 5)))
theorem one_in (s : Set64) (j : Nat) (hj : j < 64) : (one j &&& ~~~s == 0#64) = s.getLsbD j := by
  rw [BitVec.and_comm, and_one0 _ _ hj, BitVec.getLsbD_not]
  simp [hj]
theorem two_in (s : Set64) : ((one 17 ||| one 5) &&& ~~~s == 0#64) = (s.getLsbD 17 && s.getLsbD 5) := by
  have h : ((one 17 ||| one 5) &&& ~~~s == 0#64) = true ↔ (s.getLsbD 17 && s.getLsbD 5) = true := by
    rw [sub0]
    constructor
    · intro h
      rw [Bool.and_eq_true]
      exact ⟨h 17 (by decide) (by decide), h 5 (by decide) (by decide)⟩
    · intro h i hi hx
      rw [Bool.and_eq_true] at h
      rw [BitVec.getLsbD_or, one_bit _ _ hi, one_bit _ _ hi, Bool.or_eq_true, decide_eq_true_iff, decide_eq_true_iff] at hx
      rcases hx with rfl | rfl
      · exact h.1
      · exact h.2
  rw [Bool.eq_iff_iff]; exact h
theorem need_in (k : Int) (s : Set64) (b : Nat) : (needF k b &&& ~~~s == 0#64) = !dropc k s b := by
  unfold needF dropc
  by_cases hk : k = 1
  · rw [if_pos hk]
    by_cases h : b = 18 ∨ b = 19 ∨ b = 22
    · rw [if_pos h, one_in _ _ (by decide)]
      have e : (decide (b = 18) || decide (b = 19) || decide (b = 22)) = true := by rcases h with h | h | h <;> simp [h]
      have e2 : decide (b = 23) = false := by rcases h with h | h | h <;> simp [h]
      rw [e, e2]
      simp [hk]
    · rw [if_neg h]
      have e : (decide (b = 18) || decide (b = 19) || decide (b = 22)) = false := by simp; omega
      rw [e]
      by_cases h23 : b = 23
      · rw [if_pos h23, two_in]
        simp [hk, h23]
      · rw [if_neg h23]
        simp [hk, h23]
  · rw [if_neg hk]
    simp [hk]
def rstep (k : Int) (s : Set64) (b : Nat) : Set64 := if s.getLsbD b && !(needF k b &&& ~~~s == 0#64) then s &&& ~~~one b else s
theorem rstep_bit (k : Int) (s : Set64) (b i : Nat) (hi : i < 64) : (rstep k s b).getLsbD i = (s.getLsbD i && !(decide (i = b) && dropc k s b)) := by
  unfold rstep
  rw [need_in, Bool.not_not]
  by_cases e : i = b
  · subst e
    cases hs : s.getLsbD i
    · simp [hs]
    · cases hd : dropc k s i
      · simp [hs]
      · simp only [Bool.and_true, if_true]
        rw [BitVec.getLsbD_and, BitVec.getLsbD_not, one_bit _ _ hi]
        simp
  · split
    · rw [BitVec.getLsbD_and, BitVec.getLsbD_not, one_bit _ _ hi]
      simp [e, hi]
    · simp [e]
def rpass (k : Int) (s : Set64) : Nat → Set64
  | 0 => s
  | b + 1 => rstep k (rpass k s b) b
theorem dropc_same (k : Int) {X Y : Set64} (h17 : X.getLsbD 17 = Y.getLsbD 17) (h5 : X.getLsbD 5 = Y.getLsbD 5) (i : Nat) : dropc k X i = dropc k Y i := by unfold dropc; rw [h17, h5]
theorem dropc17 (k : Int) (X : Set64) : dropc k X 17 = false := by unfold dropc; simp
theorem dropc5 (k : Int) (X : Set64) : dropc k X 5 = false := by unfold dropc; simp
theorem rpass_bit (k : Int) (X : Set64) : ∀ n i, i < 64 → (rpass k X n).getLsbD i = (X.getLsbD i && !(decide (i < n) && dropc k X i))
  | 0, i, hi => by simp [rpass]
  | n + 1, i, hi => by
    unfold rpass
    have h17 : (rpass k X n).getLsbD 17 = X.getLsbD 17 := by rw [rpass_bit k X n 17 (by decide), dropc17]; simp
    have h5 : (rpass k X n).getLsbD 5 = X.getLsbD 5 := by rw [rpass_bit k X n 5 (by decide), dropc5]; simp
    rw [rstep_bit _ _ _ _ hi, rpass_bit k X n i hi, dropc_same k h17 h5]
    by_cases e : i = n
    · subst e
      simp
    · have : decide (i < n + 1) = decide (i < n) := by rw [decide_eq_decide]; omega
      rw [this]
      simp [e]
theorem rpass64 (k : Int) (X : Set64) (i : Nat) (hi : i < 64) : (rpass k X 64).getLsbD i = (X.getLsbD i && !dropc k X i) := by
  rw [rpass_bit k X 64 i hi, decide_eq_true hi, Bool.true_and]
/-- Three rounds. -/
def rounds3 (k : Int) (X : Set64) : Nat → Set64
  | 0 => X
  | q + 1 => rpass k (rounds3 k X q) 64
theorem rounds3_bit (k : Int) (X : Set64) : ∀ q i, i < 64 → (rounds3 k X (q + 1)).getLsbD i = (X.getLsbD i && !dropc k X i)
  | 0, i, hi => rpass64 k X i hi
  | q + 1, i, hi => by
    have h17 : (rounds3 k X (q + 1)).getLsbD 17 = X.getLsbD 17 := by rw [rounds3_bit k X q 17 (by decide), dropc17]; simp
    have h5 : (rounds3 k X (q + 1)).getLsbD 5 = X.getLsbD 5 := by rw [rounds3_bit k X q 5 (by decide), dropc5]; simp
    show (rpass k (rounds3 k X (q + 1)) 64).getLsbD i = _
    rw [rpass64 _ _ _ hi, rounds3_bit k X q i hi, dropc_same k h17 h5]
    cases X.getLsbD i <;> cases dropc k X i <;> rfl
theorem low {k : Int} (hk : k = 2 ∨ k = 3) {X : Set64} (h : within X (allF k) = true) : X.getLsbD 18 = false ∧ X.getLsbD 19 = false ∧ X.getLsbD 22 = false ∧ X.getLsbD 23 = false := by
  have key : ∀ i, i < 64 → (allF k).getLsbD i = false → X.getLsbD i = false := fun i hi ha => by
    cases hx : X.getLsbD i
    · rfl
    · rw [(Fe.within_iff _ _).1 h i hi hx] at ha; cases ha
  rcases hk with rfl | rfl
  · exact ⟨key 18 (by decide) (by decide), key 19 (by decide) (by decide), key 22 (by decide) (by decide), key 23 (by decide) (by decide)⟩
  · exact ⟨key 18 (by decide) (by decide), key 19 (by decide) (by decide), key 22 (by decide) (by decide), key 23 (by decide) (by decide)⟩
theorem taut1 : ∀ x a b e f : Bool, (x && !((e && !a) || (f && !(a && b)))) = (x && !((e || f) && !a) && !(f && !b)) := by decide
theorem rounds_is {k : Int} (hk : k = 1 ∨ k = 2 ∨ k = 3) {X : Set64} (h : within X (allF k) = true) : rounds3 k X 3 = pass dropF X 5 := by
  refine Fe.ext fun i hi => ?_
  rw [rounds3_bit k X 2 i hi, pass_drop X i hi]
  rcases hk with h1 | hk
  · unfold dropc
    rw [decide_eq_true h1, Bool.true_and]
    exact taut1 _ _ _ _ _
  · have h1 : ¬ k = 1 := by rcases hk with h | h <;> omega
    obtain ⟨a, b, c, d⟩ := low hk h
    unfold dropc
    rw [decide_eq_false h1]
    by_cases e18 : i = 18
    · subst e18; rw [a]; rfl
    · by_cases e19 : i = 19
      · subst e19; rw [b]; rfl
      · by_cases e22 : i = 22
        · subst e22; rw [c]; rfl
        · by_cases e23 : i = 23
          · subst e23; rw [d]; rfl
          · simp [e18, e19, e22, e23]
theorem within_and (A B : Set64) : within (A &&& B) B = true := (Fe.within_iff _ _).2 fun i hi hx => by
  rw [BitVec.getLsbD_and, Bool.and_eq_true] at hx; exact hx.2
theorem best_same {k : Int} (hk : k = 1 ∨ k = 2 ∨ k = 3) (O W : Set64) : rounds3 k (O &&& (W ||| v1) &&& allF k) 3 = bestF k O W := rounds_is hk (within_and _ _)

def needAcc (k : Int) (X : Set64) : Nat → Set64
  | 0 => v1
  | b + 1 => if X.getLsbD b then needAcc k X b ||| needF k b else needAcc k X b
theorem needF_bit (k : Int) (b i : Nat) (hi : i < 64) : (needF k b).getLsbD i = true ↔ k = 1 ∧ (((b = 18 ∨ b = 19 ∨ b = 22) ∧ i = 17) ∨ (b = 23 ∧ (i = 17 ∨ i = 5))) := by
  unfold needF
  by_cases hk : k = 1
  · rw [if_pos hk]
    by_cases h : b = 18 ∨ b = 19 ∨ b = 22
    · rw [if_pos h, one_bit _ _ hi, decide_eq_true_iff]; omega
    · rw [if_neg h]
      by_cases h23 : b = 23
      · rw [if_pos h23, BitVec.getLsbD_or, one_bit _ _ hi, one_bit _ _ hi, Bool.or_eq_true, decide_eq_true_iff, decide_eq_true_iff]; omega
      · rw [if_neg h23]
        simp; omega
  · rw [if_neg hk]
    simp [hk]
theorem needAcc_bit (k : Int) (X : Set64) (i : Nat) (hi : i < 64) : ∀ n, (needAcc k X n).getLsbD i = true ↔ i = 32 ∨ ∃ b, b < n ∧ X.getLsbD b = true ∧ (needF k b).getLsbD i = true
  | 0 => by
    unfold needAcc
    rw [v1_bit _ hi, decide_eq_true_iff]
    constructor
    · exact .inl
    · rintro (h | ⟨b, hb, _⟩)
      · exact h
      · omega
  | n + 1 => by
    unfold needAcc
    have ih := needAcc_bit k X i hi n
    cases hx : X.getLsbD n with
    | true =>
      rw [if_pos rfl, BitVec.getLsbD_or, Bool.or_eq_true, ih]
      constructor
      · rintro ((h | ⟨b, hb, h⟩) | h)
        · exact .inl h
        · exact .inr ⟨b, by omega, h⟩
        · exact .inr ⟨n, by omega, hx, h⟩
      · rintro (h | ⟨b, hb, h⟩)
        · exact .inl (.inl h)
        · by_cases e : b = n
          · exact .inr (e ▸ h.2)
          · exact .inl (.inr ⟨b, by omega, h⟩)
    | false =>
      rw [if_neg (by simp), ih]
      constructor
      · rintro (h | ⟨b, hb, h⟩)
        · exact .inl h
        · exact .inr ⟨b, by omega, h⟩
      · rintro (h | ⟨b, hb, h⟩)
        · exact .inl h
        · by_cases e : b = n
          · rw [e, hx] at h; cases h.1
          · exact .inr ⟨b, by omega, h⟩
theorem known_in {k : Int} {X : Set64} (h : knownB k X = true) : (k = 1 ∨ k = 2 ∨ k = 3) ∧ within X (allF k) = true := by
  unfold knownB at h
  rw [Bool.and_eq_true] at h
  refine ⟨?_, h.2⟩
  by_cases h1 : k = 1
  · exact .inl h1
  · by_cases h2 : k = 2
    · exact .inr (.inl h2)
    · by_cases h3 : k = 3
      · exact .inr (.inr h3)
      · have := h.1
        unfold allF at this
        rw [if_neg h1, if_neg h2, if_neg h3] at this
        simp at this
theorem needs_same {k : Int} {X : Set64} (h : knownB k X = true) : needAcc k X 64 &&& ~~~X = needsF k X := by
  unfold needsF
  rw [if_pos h]
  obtain ⟨hk, hin⟩ := known_in h
  refine Fe.ext fun i hi => ?_
  rw [BitVec.getLsbD_and, BitVec.getLsbD_and, BitVec.getLsbD_not]
  cases hx : X.getLsbD i with
  | true => simp
  | false =>
    have key : (needAcc k X 64).getLsbD i = (pass addF (X ||| v1) 5).getLsbD i := by
      rw [Bool.eq_iff_iff, needAcc_bit k X i hi 64, pass_add _ _ hi]
      simp only [BitVec.getLsbD_or, v1_bit _ hi, v1_bit 18 (by decide), v1_bit 19 (by decide), v1_bit 22 (by decide), v1_bit 23 (by decide), hx, show ¬ 18 = 32 by decide, show ¬ 19 = 32 by decide, show ¬ 22 = 32 by decide, show ¬ 23 = 32 by decide, decide_false, Bool.or_false, Bool.false_or, Bool.or_eq_true, Bool.and_eq_true, decide_eq_true_iff]
      constructor
      · rintro (h | ⟨b, hb, hxb, hn⟩)
        · exact .inl (.inl h)
        · rcases (needF_bit k b i hi).1 hn with ⟨_, ⟨(rfl | rfl | rfl), h17⟩ | ⟨rfl, h17 | h5⟩⟩
          · exact .inl (.inr ⟨h17, .inl (.inl (.inl hxb))⟩)
          · exact .inl (.inr ⟨h17, .inl (.inl (.inr hxb))⟩)
          · exact .inl (.inr ⟨h17, .inl (.inr hxb)⟩)
          · exact .inl (.inr ⟨h17, .inr hxb⟩)
          · exact .inr ⟨h5, hxb⟩
      · rcases hk with h1 | hk
        · rintro ((h | ⟨h17, hq⟩) | ⟨h5, hq⟩)
          · exact .inl h
          · rcases hq with ((hq | hq) | hq) | hq
            · exact .inr ⟨18, by decide, hq, (needF_bit k 18 i hi).2 ⟨h1, .inl ⟨.inl rfl, h17⟩⟩⟩
            · exact .inr ⟨19, by decide, hq, (needF_bit k 19 i hi).2 ⟨h1, .inl ⟨.inr (.inl rfl), h17⟩⟩⟩
            · exact .inr ⟨22, by decide, hq, (needF_bit k 22 i hi).2 ⟨h1, .inl ⟨.inr (.inr rfl), h17⟩⟩⟩
            · exact .inr ⟨23, by decide, hq, (needF_bit k 23 i hi).2 ⟨h1, .inr ⟨rfl, .inl h17⟩⟩⟩
          · exact .inr ⟨23, by decide, hq, (needF_bit k 23 i hi).2 ⟨h1, .inr ⟨rfl, .inr h5⟩⟩⟩
        · obtain ⟨a, b, c, d⟩ := low hk hin
          rw [a, b, c, d]
          rintro ((h | ⟨h17, hq⟩) | ⟨h5, hq⟩)
          · exact .inl h
          · simp at hq
          · cases hq
    rw [key]

end Go.Proofs.YtmmgcmbniidieaaDoor.StR
