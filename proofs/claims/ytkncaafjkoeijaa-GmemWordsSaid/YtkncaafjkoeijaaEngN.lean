
/- What a piece of a run leaves alone on the machine's own heap. -/
import Derived.Test.YtkncaafjkoeijaaEngO
namespace Go.Proofs.Ytkncaafjkoeijaa.Eng
open Go
set_option linter.unusedVariables false
set_option linter.unusedSimpArgs false

structure Mono (s s' : LS) : Prop where
  nx : s.nx ≤ s'.nx
  low : s'.low ≤ s.low
  same : ∀ i, i < s.nx → i < s'.low → s'.h.get i = s.h.get i
  wf : (∀ i, s.nx ≤ i → s.h.get i = none) → ∀ i, s'.nx ≤ i → s'.h.get i = none

theorem Mono.refl (s : LS) : Mono s s := ⟨Nat.le_refl _, Nat.le_refl _, fun _ _ _ => rfl, fun h => h⟩
theorem Mono.trans {a b c : LS} (h : Mono a b) (k : Mono b c) : Mono a c :=
  ⟨Nat.le_trans h.nx k.nx, Nat.le_trans k.low h.low, fun i h1 h2 => (k.same i (Nat.lt_of_lt_of_le h1 h.nx) h2).trans (h.same i h1 (Nat.lt_of_lt_of_le h2 k.low)), fun h0 => k.wf (h.wf h0)⟩

theorem low_le (b low : Nat) : (bif Nat.blt b low then b else low) ≤ low ∧ (bif Nat.blt b low then b else low) ≤ b := by
  rw [blt_ite]; split <;> omega

theorem Mono.write (s : LS) (b : Nat) (x : Option LObj) {y : LObj} (hb : s.h.get b = some y ∨ x = none) : Mono s ⟨s.h.set b x, s.nx, bif Nat.blt b s.low then b else s.low⟩ := by
  have := low_le b s.low
  refine ⟨Nat.le_refl _, this.1, fun i h1 h2 => ?_, fun hw i hi => ?_⟩
  · simp only [Tr.get_set]
    rw [if_neg (by simp only at h2; omega)]
  · simp only [Tr.get_set]
    by_cases e : i = b
    · subst e
      rcases hb with hb | hb
      · rw [hw i hi] at hb; cases hb
      · simp [hb]
    · rw [if_neg e]; exact hw i hi

theorem Mono.new (s : LS) (x : Option LObj) : Mono s ⟨s.h.set s.nx x, s.nx + 1, s.low⟩ := by
  refine ⟨Nat.le_succ _, Nat.le_refl _, fun i h1 h2 => ?_, fun hw i hi => ?_⟩
  · simp only [Tr.get_set]
    rw [if_neg (by omega)]
  · simp only at hi
    simp only [Tr.get_set]
    rw [if_neg (by omega)]; exact hw i (by omega)

theorem Mono.move (s : LS) (b : Nat) (x : Option LObj) : Mono s ⟨(s.h.set b none).set s.nx x, s.nx + 1, bif Nat.blt b s.low then b else s.low⟩ :=
  (Mono.write s b none (y := die) (.inr rfl)).trans (Mono.new ⟨s.h.set b none, s.nx, bif Nat.blt b s.low then b else s.low⟩ x)

theorem store_mono {s s' : LS} {b o : Nat} {v : Value} (h : s.store b o v = some s') : Mono s s' := by
  unfold LS.store at h
  split at h
  · rw [cond_eq_ite] at h
    split at h
    · rename_i hob _; injection h with h; subst h; exact Mono.write _ _ _ (.inl hob)
    · cases h
  · cases h

theorem stores_mono : ∀ {l : List Value} {s s' : LS} {b o : Nat}, s.stores b o l = some s' → Mono s s'
  | [], s, s', b, o, h => by simp only [LS.stores, Option.some.injEq] at h; subst h; exact Mono.refl _
  | v :: l, s, s', b, o, h => by
    simp only [LS.stores] at h
    split at h
    · rename_i s1 hs1; exact (store_mono hs1).trans (stores_mono h)
    · cases h

theorem storeVar_mono {E : Env} {s s' : LS} {ty : TypeId} {b o : Nat} {v : Value} (h : storeVarL E s ty b o v = some s') : Mono s s' := by
  unfold storeVarL at h
  rw [cond_eq_ite] at h
  split at h
  · exact stores_mono h
  · cases h

theorem append_mono {s s' : LS} {size n : Nat} {x v : Value} {new : List Value} (h : appendL s size x new n = some (v, s')) : Mono s s' := by
  unfold appendL at h
  split at h
  · rw [cond_eq_ite] at h
    split at h
    · cases h
    · rw [beq_ite] at h
      split at h
      · simp only [Option.some.injEq, Prod.mk.injEq] at h; obtain ⟨-, rfl⟩ := h; exact Mono.refl _
      · simp only [Option.some.injEq, Prod.mk.injEq] at h; obtain ⟨-, rfl⟩ := h; exact Mono.new _ _
  · rw [ble_ite] at h
    split at h
    · split at h
      · rename_i s1 hs1
        simp only [Option.some.injEq, Prod.mk.injEq] at h; obtain ⟨-, rfl⟩ := h; exact stores_mono hs1
      · cases h
    · rw [cond_eq_ite] at h
      split at h
      · cases h
      · split at h
        · rw [beq_ite] at h
          split at h
          · simp only [Option.some.injEq, Prod.mk.injEq] at h; obtain ⟨-, rfl⟩ := h; exact Mono.new _ _
          · rw [cond_eq_ite] at h
            split at h
            · simp only [Option.some.injEq, Prod.mk.injEq] at h; obtain ⟨-, rfl⟩ := h; exact Mono.move _ _ _
            · cases h
        · cases h
  · cases h

theorem pure_mono {E : Env} {s s' : LS} {t : Tr Value} {o : Op} {v : Value} (h : (match pureL E t o with | some v => some (v, s) | none => none) = some (v, s')) : Mono s s' := by
  split at h
  · simp only [Option.some.injEq, Prod.mk.injEq] at h; obtain ⟨-, rfl⟩ := h; exact Mono.refl _
  · cases h

theorem op_mono {E : Env} {s s' : LS} {t : Tr Value} {o : Op} {v : Value} (h : opL E s t o = some (v, s')) : Mono s s' := by
  unfold opL at h
  split at h
  all_goals first
    | exact pure_mono h
    | skip
  all_goals
    repeat' (first
      | (exact pure_mono h)
      | (exact append_mono h)
      | (simp only [Option.some.injEq, Prod.mk.injEq] at h
         obtain ⟨-, rfl⟩ := h
         first
           | exact Mono.refl _
           | exact Mono.new _ _
           | exact Mono.write _ _ _ (.inl (by assumption))
           | (rw [← cond_eq_ite]; exact Mono.write _ _ _ (.inl (by assumption)))
           | (exact storeVar_mono (by assumption))
           | (exact stores_mono (by assumption)))
      | cases h
      | (rw [cond_eq_ite] at h)
      | split at h)

end Go.Proofs.Ytkncaafjkoeijaa.Eng
