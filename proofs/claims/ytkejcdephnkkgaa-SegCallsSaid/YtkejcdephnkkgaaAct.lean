/- A frame behind a region done by assertions, written out again: the old one, with the region's slots put. -/
import Derived.Test.YtkejcdephnkkgaaAssert
namespace Go.Proofs.Ytkejcdephnkkgaa.Asrt
open Go Go.RowKit Eng Lib
set_option linter.unusedVariables false
set_option linter.unusedSimpArgs false

def putAll : Act → List (Nat × Value) → Act
  | a, [] => a
  | a, (d, v) :: l => putAll (a.put (some d) v) l
theorem putAll_size : ∀ (l : List (Nat × Value)) (a : Act), (putAll a l).tmps.size = a.tmps.size
  | [], _ => rfl
  | (d, v) :: l, a => (putAll_size l _).trans (put_size a _ v)
theorem putAll_def : ∀ (l : List (Nat × Value)) (a : Act), (putAll a l).defers = a.defers
  | [], _ => rfl
  | (d, v) :: l, a => (putAll_def l _).trans (put_def a _ v)
theorem putAll_get {a' : Act} {i : Nat} : ∀ (l : List (Nat × Value)) (a : Act), (∀ p ∈ l, a'.tmps.getD p.1 undef = p.2) → (∀ p ∈ l, p.1 < a.tmps.size) → ((l.map (·.1)).elem i = false → a.tmps.getD i undef = a'.tmps.getD i undef) → (putAll a l).tmps.getD i undef = a'.tmps.getD i undef
  | [], a, _, _, h => h rfl
  | (d, v) :: l, a, h1, h2, h3 => by
    refine putAll_get l (a.put (some d) v) (fun p hp => h1 p (List.mem_cons_of_mem _ hp)) (fun p hp => by rw [put_size]; exact h2 p (List.mem_cons_of_mem _ hp)) (fun hi => ?_)
    by_cases e : i = d
    · subst e
      rw [put_get a _ v (h2 (i, v) (List.mem_cons_self ..))]
      exact (h1 (i, v) (List.mem_cons_self ..)).symm
    · rw [put_ne a _ v i (fun e' => e (Option.some.inj e').symm)]
      refine h3 ?_
      have hne : (i == d) = false := by simpa using e
      simp only [List.map_cons, List.elem_cons, hne, Bool.false_or]
      simpa using hi
theorem act_after {a a' : Act} {ops : Array Oper} (hs : a'.tmps.size = a.tmps.size) (hd : a'.defers = a.defers) (hU : ∀ d, (ops.toList.any fun o => o.dst == some d) = false → a'.tmps.getD d undef = a.tmps.getD d undef)
    (l : List (Nat × Value)) (hl : ∀ p ∈ l, a'.tmps.getD p.1 undef = p.2) (hb : (l.all fun p => Nat.blt p.1 a.tmps.size) = true) (hall : (ops.toList.all fun o => match o.dst with | none => true | some d => (l.map (·.1)).elem d) = true) : a' = putAll a l := by
  have ht : a'.tmps = (putAll a l).tmps := by
    refine Array.ext (by rw [putAll_size]; exact hs) fun i h1 h2 => ?_
    have key := putAll_get (a' := a') (i := i) l a hl (fun p hp => by have := List.all_eq_true.1 hb p hp; simpa using this) (fun hi => by
      refine (hU i ?_).symm
      rw [List.any_eq_false]
      intro o ho
      have := List.all_eq_true.1 hall o ho
      cases he : o.dst with
      | none => simp
      | some d =>
        rw [he] at this
        intro hc
        have hc : d = i := by simpa using hc
        subst hc
        have this : (l.map (·.1)).elem d = true := this
        exact absurd (this.symm.trans hi) (by decide))
    simp only [Array.getD_eq_getD_getElem?, Array.getElem?_eq_getElem h1, Array.getElem?_eq_getElem h2, Option.getD_some] at key
    exact key.symm
  cases a' with
  | mk t df =>
    cases hp : putAll a l with
    | mk t2 df2 =>
      rw [hp] at ht
      have h3 := putAll_def l a
      rw [hp] at h3
      simp only at ht h3 hd
      rw [ht, hd, ← h3]

end Go.Proofs.Ytkejcdephnkkgaa.Asrt
