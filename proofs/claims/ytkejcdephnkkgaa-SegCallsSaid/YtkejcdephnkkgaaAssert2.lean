
/- A region that draws its order, whose operations may write and append in place: each slot has an assertion, that must hold until the operations that use it are past; one obligation an operation, whatever the order. -/
import Derived.Test.YtkejcdephnkkgaaAssert
namespace Go.Proofs.Ytkejcdephnkkgaa.Asr2
open Go Go.RowKit Eng Lib Asrt
set_option linter.unusedVariables false
set_option linter.unusedSimpArgs false

/-- What is said of a slot's value in a world. -/
abbrev As2 := Value → World → Prop
def is (c : Value) : As2 := fun v _ => v = c
def find : List (Nat × As2) → Nat → Option As2
  | [], _ => none
  | (k, p) :: l, d => bif Nat.beq k d then some p else find l d
def tab (TL : List (Nat × As2)) (a : Act) (d : Nat) (v : Value) (w : World) : Prop :=
  match find TL d with
  | some p => p v w
  | none => v = a.tmps.getD d undef

/-- Behind operation j nobody looks at slot d any more: each that does comes ahead of j, or is j. -/
def deadB (ops : List Oper) (j d : Nat) : Bool := (List.range ops.length).all fun k => !((match ops[k]? with | some o => (tmpsOf ops o).elem d | none => false)) || Nat.beq k j || Nat.testBit ((masks ops []).getD j 0) k

/-- One operation's obligation. -/
def Ob (P : Program) (ops : Array Oper) (C : World → Prop) (T : Nat → Value → World → Prop) (last : Nat → Bool) (E : Nat → World → Prop) (j : Nat) (o : Oper) : Prop :=
  ∀ (a : Act) (w : World) (K : Act → World → Prop) (Q : Exit → Act → World → Prop), C w → (∀ d, (o.looksAt ops).elem d = true → T d (a.tmps.getD d undef) w) →
    (∀ v w', (∀ d, o.dst = some d → T d v w') → C w' → (∀ d, o.dst ≠ some d → (deadB ops.toList j d = false ∨ last d = true) → ∀ v0, T d v0 w → T d v0 w') →
      E j w' → (∀ k, k ≠ j → Nat.testBit ((masks ops.toList []).getD k 0) j = false → E k w → E k w') → K (a.put o.dst v) w') →
    if Region.wanted o (yielded ops a.tmps) = true then o.wp P a w K Q else False
def AllAt (P : Program) (ops : Array Oper) (C : World → Prop) (T : Nat → Value → World → Prop) (last : Nat → Bool) (E : Nat → World → Prop) : List Nat → Prop
  | [] => True
  | j :: l => Ob P ops C T last E j (ops.getD j default) ∧ AllAt P ops C T last E l
theorem AllAt.get {P : Program} {ops : Array Oper} {C : World → Prop} {T : Nat → Value → World → Prop} {last : Nat → Bool} {E : Nat → World → Prop} : ∀ {l : List Nat}, AllAt P ops C T last E l → ∀ j ∈ l, Ob P ops C T last E j (ops.getD j default)
  | [], _, j, h => by simp at h
  | _ :: _, ⟨h0, h1⟩, j, h => by
    rcases List.mem_cons.1 h with rfl | h
    · exact h0
    · exact AllAt.get h1 j h

structure Inv (ops : Array Oper) (C : World → Prop) (T : Nat → Value → World → Prop) (last : Nat → Bool) (E : Nat → World → Prop) (a0 : Act) (w0 : World) (l : Array Bool) (a : Act) (w : World) : Prop where
  size : l.size = ops.size
  closed : ∀ (j : Nat) (o : Oper), Ls l j → ops[j]? = some o → ∀ e ∈ o.after.toList, Region.binds .any e = true → Ls l e.on
  tm : a.tmps.size = a0.tmps.size
  df : a.defers = a0.defers
  val : ∀ (j : Nat) (o : Oper) (d : Nat), Ls l j → ops[j]? = some o → o.dst = some d → (last d = false ∧ ∃ k, Ls l k ∧ k < ops.size ∧ deadB ops.toList k d = true) ∨ T d (a.tmps.getD d undef) w
  un : ∀ d, (∀ (j : Nat) (o : Oper), Ls l j → ops[j]? = some o → o.dst ≠ some d) → a.tmps.getD d undef = a0.tmps.getD d undef
  base : ∀ d, (ops.toList.any fun o => o.dst == some d) = false → (last d = false ∧ ∃ k, Ls l k ∧ k < ops.size ∧ deadB ops.toList k d = true) ∨ T d (a.tmps.getD d undef) w
  eff : ∀ k, Ls l k → k < ops.size → E k w
  cl : C w

theorem Ls_none (n j : Nat) : ¬ Ls (Array.replicate n false) j := by
  unfold Ls
  rw [Array.getD_eq_getD_getElem?, Array.getElem?_replicate]
  split <;> simp

set_option maxHeartbeats 4000000 in
theorem wp_region_assert {P : Program} {id : Nat} {Q : Exit → Act → World → Prop} {a : Act} {w : World} {ops : Array Oper} (hm : P.follows .mixedOrders = true) (hpl : (plan ops.toList).isSome = true)
    (C : World → Prop) (TL : List (Nat × As2)) (last : Nat → Bool) (E : Nat → World → Prop) (hC : C w.drew) (hk : ∀ d p, find TL d = some p → (ops.toList.any fun o => o.dst == some d) = false → p (a.tmps.getD d undef) w.drew) (hd : (ops.toList.all fun o => dstOk a.tmps.size o.dst) = true)
    (hops : AllAt P ops C (tab TL a) last E (List.range ops.size))
    (hQ : ∀ a' w', C w' → a'.tmps.size = a.tmps.size → a'.defers = a.defers → (∀ d p, last d = true → find TL d = some p → p (a'.tmps.getD d undef) w') → (∀ k, k < ops.size → E k w') → (∀ d, (ops.toList.any fun o => o.dst == some d) = false → a'.tmps.getD d undef = a.tmps.getD d undef) → Q .normal a' w') :
    (Code.region id ops true).wp P Q a w := by
  have hs : sound ops.toList (masks ops.toList []) ops.toList 0 = true := by
    unfold plan at hpl
    simp only at hpl
    rw [cond_eq_ite] at hpl
    split at hpl
    · assumption
    · simp at hpl
  have sd : ∀ (j : Nat) (o : Oper), ops[j]? = some o → Sd ops.toList (masks ops.toList []) o j := fun j o ho => by
    have := sound_spec ops.toList 0 hs j o (by simpa using ho)
    rwa [Nat.zero_add] at this
  have cls : ∀ (j k : Nat) (o : Oper), ops[j]? = some o → Nat.testBit ((masks ops.toList []).getD j 0) k = true → ∃ e ∈ o.after.toList, Region.binds .any e = true ∧ (k = e.on ∨ Nat.testBit ((masks ops.toList []).getD e.on 0) k = true) := fun j k o hj hk => by
    have := masks_bit ops.toList [] j k o (by simpa using hj) (by simpa using (sd j o hj).back) (by simpa using hk)
    simpa using this
  have written : ∀ d, (ops.toList.any fun o => o.dst == some d) = true → ∃ (k : Nat) (o : Oper), ops[k]? = some o ∧ o.dst = some d := fun d h => by
    obtain ⟨o, ho, he⟩ := List.any_eq_true.1 h
    obtain ⟨k, hk⟩ := List.mem_iff_getElem?.1 ho
    exact ⟨k, o, by simpa using hk, by simpa using he⟩
  have unwritten : ∀ d, (ops.toList.any fun o => o.dst == some d) = false → ∀ (k : Nat) (o : Oper), ops[k]? = some o → o.dst ≠ some d := fun d h k o ho e => by
    have := List.any_eq_false.1 h o (List.mem_of_getElem? (by simpa using ho))
    simp [e] at this
  -- all that an operation that may come up waits for has been
  have anc : ∀ (l : Array Bool), (∀ (j : Nat) (o : Oper), Ls l j → ops[j]? = some o → ∀ e ∈ o.after.toList, Region.binds .any e = true → Ls l e.on) →
      ∀ (n j k : Nat) (o : Oper), j ≤ n → ops[j]? = some o → (∀ e ∈ o.after.toList, Region.binds .any e = true → Ls l e.on) → Nat.testBit ((masks ops.toList []).getD j 0) k = true → Ls l k := by
    intro l hcl n
    induction n with
    | zero =>
      intro j k o hj ho he hk
      obtain ⟨e, h1, h2, _⟩ := cls j k o ho hk
      have := (sd j o ho).back e h1 h2
      omega
    | succ n ih =>
      intro j k o hj ho he hk
      obtain ⟨e, h1, h2, h3⟩ := cls j k o ho hk
      have hlt := (sd j o ho).back e h1 h2
      rcases h3 with rfl | h3
      · exact he e h1 h2
      · have hes := he e h1 h2
        have hjn : j < ops.size := (Array.getElem?_eq_some_iff.1 ho).1
        have hoe : ops[e.on]? = some ops[e.on] := Array.getElem?_eq_getElem (by omega)
        exact ih e.on k _ (by omega) hoe (fun e' h1' h2' => hcl e.on _ hes hoe e' h1' h2') h3
  have dok : ∀ (j : Nat) (o : Oper) (d : Nat), ops[j]? = some o → o.dst = some d → d < a.tmps.size := fun j o d ho he => by
    have := List.all_eq_true.1 hd o (List.mem_of_getElem? (by simpa using ho))
    rw [he] at this
    exact Nat.le_of_ble_eq_true this
  have main : ∀ (fuel : Nat) (l : Array Bool) (a1 : Act) (w1 : World), l.toList.count false = fuel → Inv ops C (tab TL a) last E a w.drew l a1 w1 → wpAny P .any ops Q fuel l a1 w1 := by
    have done : ∀ (l : Array Bool) (a1 : Act) (w1 : World), Region.ready .any ops l = [] → Inv ops C (tab TL a) last E a w.drew l a1 w1 → Q .normal a1 w1 := by
      intro l a1 w1 hr I
      have hall : ∀ j, j < ops.size → Ls l j := by
        intro j
        induction j using Nat.strongRecOn with
        | _ j ih =>
          intro hj
          by_cases hlj : Ls l j
          · exact hlj
          · exfalso
            have ho : ops[j]? = some ops[j] := Array.getElem?_eq_getElem hj
            have : j ∈ Region.ready .any ops l := (ready_spec I.size j).2 ⟨hj, hlj, _, ho, fun e he hb => by
              have hlt := (sd j _ ho).back e he hb
              exact ih e.on hlt (by omega)⟩
            rw [hr] at this; cases this
      refine hQ a1 w1 I.cl I.tm I.df ?_ (fun k hk => I.eff k (hall k hk) hk) ?_
      · intro d p hlast hp
        have key : (last d = false ∧ ∃ k, Ls l k ∧ k < ops.size ∧ deadB ops.toList k d = true) ∨ tab TL a d (a1.tmps.getD d undef) w1 := by
          by_cases hw : (ops.toList.any fun o => o.dst == some d) = true
          · obtain ⟨k, o, ho, he⟩ := written d hw
            exact I.val k o d (hall k (Array.getElem?_eq_some_iff.1 ho).1) ho he
          · exact I.base d (by simpa using hw)
        rcases key with ⟨h0, _⟩ | this
        · rw [hlast] at h0; cases h0
        unfold tab at this
        rw [hp] at this; exact this
      · intro d hw
        exact I.un d fun j o _ ho => unwritten d hw j o ho
    intro fuel
    induction fuel with
    | zero =>
      intro l a1 w1 hc I
      have hr : Region.ready .any ops l = [] := by
        cases hr : Region.ready .any ops l with
        | nil => rfl
        | cons j r =>
          exfalso
          have hj : j ∈ Region.ready .any ops l := by rw [hr]; simp
          obtain ⟨h1, h2, _⟩ := (ready_spec I.size j).1 hj
          have hjl : j < l.size := by rw [I.size]; exact h1
          have : false ∈ l.toList := by
            unfold Ls at h2
            simp only [Array.getD_eq_getD_getElem?, Array.getElem?_eq_getElem hjl, Option.getD_some] at h2
            have : l[j] = false := by simpa using h2
            rw [← this]; simp
          exact absurd (List.count_pos_iff.2 this) (by omega)
      exact ⟨hr, done l a1 w1 hr I⟩
    | succ fuel ih =>
      intro l a1 w1 hc I
      refine ⟨fun hr => done l a1 w1 hr I, fun j hj => ?_⟩
      obtain ⟨h1, h2, o, ho, h3⟩ := (ready_spec I.size j).1 hj
      have hjl : j < l.size := by rw [I.size]; exact h1
      have hlj : l[j]? = some false := by
        unfold Ls at h2
        simp only [Array.getD_eq_getD_getElem?, Array.getElem?_eq_getElem hjl, Option.getD_some] at h2
        rw [Array.getElem?_eq_getElem hjl]; congr 1; simpa using h2
      have hcount : (l.setIfInBounds j true).toList.count false = fuel := by
        have := count_set l.toList j (by simpa using hlj)
        rw [Array.toList_setIfInBounds]; omega
      have hlook : ∀ d, (o.looksAt ops).elem d = true → tab TL a d (a1.tmps.getD d undef) w1 := by
        intro d hdl
        have hdm : d ∈ o.looksAt ops := by simpa using hdl
        have hd' : d ∈ tmpsOf ops.toList o := by unfold tmpsOf; simpa using hdm
        have key : (last d = false ∧ ∃ k, Ls l k ∧ k < ops.size ∧ deadB ops.toList k d = true) ∨ tab TL a d (a1.tmps.getD d undef) w1 := by
          by_cases hw : (ops.toList.any fun o => o.dst == some d) = true
          · obtain ⟨k, o', hk', hdst⟩ := written d hw
            exact I.val k o' d (anc l I.closed j j k o (Nat.le_refl _) ho h3 ((sd j o ho).looks d hd' k o' (by simpa using hk') hdst)) hk' hdst
          · exact I.base d (by simpa using hw)
        rcases key with ⟨_, q, hq1, hq2, hq3⟩ | hT
        · exfalso
          have hq4 := List.all_eq_true.1 hq3 j (List.mem_range.2 (by simpa using h1))
          have hoj : ops.toList[j]? = some o := by simpa using ho
          rw [hoj] at hq4
          simp only [List.elem_eq_mem, hd', decide_true, Bool.not_true, Bool.false_or, Bool.or_eq_true] at hq4
          rcases hq4 with hq4 | hq4
          · have : j = q := Nat.eq_of_beq_eq_true hq4
            exact h2 (this ▸ hq1)
          · have hoq : ops[q]? = some ops[q] := Array.getElem?_eq_getElem hq2
            exact h2 (anc l I.closed q q j _ (Nat.le_refl _) hoq (fun e he hb => I.closed q _ hq1 hoq e he hb) hq4)
        · exact hT
      have next : ∀ v w2, (∀ d, o.dst = some d → tab TL a d v w2) → C w2 → (∀ d, o.dst ≠ some d → (deadB ops.toList j d = false ∨ last d = true) → ∀ v0, tab TL a d v0 w1 → tab TL a d v0 w2) → E j w2 → (∀ k, k ≠ j → Nat.testBit ((masks ops.toList []).getD k 0) j = false → E k w1 → E k w2) → wpAny P .any ops Q fuel (l.setIfInBounds j true) (a1.put o.dst v) w2 := by
        intro v w2 hv hc2 hb2 hE1 hE2
        refine ih _ _ _ hcount ⟨by simpa using I.size, ?_, by rw [put_size]; exact I.tm, by rw [put_def]; exact I.df, ?_, ?_, ?_, ?_, hc2⟩
        · intro k o' hk' ho' e he hb
          rcases (Ls.set hjl k).1 hk' with rfl | hk'
          · rw [ho] at ho'; cases ho'
            exact (Ls.set hjl _).2 (.inr (h3 e he hb))
          · exact (Ls.set hjl _).2 (.inr (I.closed k o' hk' ho' e he hb))
        · intro k o' d hk' ho' hdst
          by_cases e : o.dst = some d
          · have hlt : d < a1.tmps.size := by rw [I.tm]; exact dok j o d ho e
            rw [e, put_get a1 d v hlt]
            exact .inr (hv d e)
          · rw [put_ne a1 _ v d e]
            rcases (Ls.set hjl k).1 hk' with rfl | hk'
            · rw [ho] at ho'; cases ho'; exact absurd hdst e
            · rcases I.val k o' d hk' ho' hdst with ⟨h5, q, h6, h7, h8⟩ | hT
              · exact .inl ⟨h5, q, (Ls.set hjl q).2 (.inr h6), h7, h8⟩
              · by_cases hl : last d = true
                · exact .inr (hb2 d e (.inr hl) _ hT)
                · cases hdd : deadB ops.toList j d with
                  | false => exact .inr (hb2 d e (.inl hdd) _ hT)
                  | true => exact .inl ⟨by simpa using hl, j, (Ls.set hjl j).2 (.inl rfl), h1, hdd⟩
        · intro d hun
          have e : o.dst ≠ some d := hun j o ((Ls.set hjl j).2 (.inl rfl)) ho
          rw [put_ne a1 _ v d e]
          exact I.un d fun k o' hk' ho' => hun k o' ((Ls.set hjl k).2 (.inr hk')) ho'
        · intro d hun
          have e : o.dst ≠ some d := unwritten d hun j o ho
          rw [put_ne a1 _ v d e]
          rcases I.base d hun with ⟨h5, q, h6, h7, h8⟩ | hT
          · exact .inl ⟨h5, q, (Ls.set hjl q).2 (.inr h6), h7, h8⟩
          · by_cases hl : last d = true
            · exact .inr (hb2 d e (.inr hl) _ hT)
            · cases hdd : deadB ops.toList j d with
              | false => exact .inr (hb2 d e (.inl hdd) _ hT)
              | true => exact .inl ⟨by simpa using hl, j, (Ls.set hjl j).2 (.inl rfl), h1, hdd⟩
        · intro k hk hks
          rcases (Ls.set hjl k).1 hk with rfl | hk'
          · exact hE1
          · refine hE2 k (fun e => h2 (e ▸ hk')) ?_ (I.eff k hk' hks)
            cases hb : Nat.testBit ((masks ops.toList []).getD k 0) j with
            | false => rfl
            | true =>
              exfalso
              have hok : ops[k]? = some ops[k] := Array.getElem?_eq_getElem hks
              exact h2 (anc l I.closed k k j _ (Nat.le_refl _) hok (fun e he hbb => I.closed k _ hk' hok e he hbb) hb)
      have hob' := AllAt.get hops j (List.mem_range.2 h1)
      rw [show ops.getD j default = o from by rw [Array.getD_eq_getD_getElem?, ho]; rfl] at hob'
      have hob := hob' a1 w1 (wpAny P .any ops Q fuel (l.setIfInBounds j true)) Q I.cl hlook (fun v w2 k1 k2 k3 k4 k5 => next v w2 k1 k2 k3 k4 k5)
      unfold wpOp
      rw [ho]
      simp only
      split
      · rename_i hw; rw [if_pos hw] at hob; exact .inl hob
      · rename_i hw; rw [if_neg hw] at hob; exact hob.elim
  refine wp_region_any hm (main _ _ _ _ ?_ ⟨by simp, ?_, rfl, rfl, ?_, fun d _ => rfl, ?_, ?_, hC⟩)
  · simp
  · intro j o hj
    exact absurd hj (Ls_none _ _)
  · intro j o d hj
    exact absurd hj (Ls_none _ _)
  · intro d hun
    right
    unfold tab
    cases hf : find TL d with
    | none => rfl
    | some p => exact hk d p hf hun
  · intro k hk
    exact absurd hk (Ls_none _ _)

/-! One operation each. -/
section
variable {P : Program} {ops : Array Oper} {C : World → Prop} {T : Nat → Value → World → Prop} {last : Nat → Bool} {E : Nat → World → Prop} {j : Nat} {o : Oper}

/-- What an operation leaves to the others. -/
def Keeps (ops : Array Oper) (T : Nat → Value → World → Prop) (last : Nat → Bool) (E : Nat → World → Prop) (j : Nat) (o : Oper) (w w' : World) : Prop :=
  (∀ d, o.dst ≠ some d → (deadB ops.toList j d = false ∨ last d = true) → ∀ v0, T d v0 w → T d v0 w') ∧ (∀ k, k ≠ j → Nat.testBit ((masks ops.toList []).getD k 0) j = false → E k w → E k w')
theorem Keeps.rfl (w : World) : Keeps ops T last E j o w w := ⟨fun _ _ _ _ h => h, fun _ _ _ h => h⟩
theorem ob_any (hy : Yes ops T o) (h : ∀ (a : Act) (w : World), C w → (∀ d, (o.looksAt ops).elem d = true → T d (a.tmps.getD d undef) w) →
    ∃ v w', (execOp a.eval o).run P w = .ok (.value v) w' ∧ (∀ d, o.dst = some d → T d v w') ∧ C w' ∧ E j w' ∧ Keeps ops T last E j o w w') : Ob P ops C T last E j o := by
  intro a w K Q hC hT hK
  rw [if_pos (hy a w hT)]
  obtain ⟨v, w', hr, h1, h2, h3, h4⟩ := h a w hC hT
  unfold Oper.wp
  rw [hr, Oper.upon_value]
  exact hK v w' h1 h2 h4.1 h3 h4.2
theorem ob_calls {f : FuncId} {xs : Array Operand} {ts : Array TypeId} (hy : Yes ops T o) (eg : ∀ args w, (callFunc f args).run P w = .ok (.enter f args) w) (hop : o.op = .call { callee := .value (.func f), args := xs, argTypes := ts })
    (h : ∀ (a : Act) (w : World), C w → (∀ d, (o.looksAt ops).elem d = true → T d (a.tmps.getD d undef) w) →
      Calls P f (xs.toList.map a.eval).toArray w fun e w' => ∃ v, e = .returned v ∧ (∀ d, o.dst = some d → T d v w') ∧ C w' ∧ E j w' ∧ Keeps ops T last E j o w w') : Ob P ops C T last E j o := by
  intro a w K Q hC hT hK
  rw [if_pos (hy a w hT)]
  have hr : (execOp a.eval o).run P w = .ok (.enter f (xs.toList.map a.eval).toArray) w := by
    rw [show (xs.toList.map a.eval).toArray = xs.map a.eval from by rw [← Array.toList_map]]
    simp [execOp, hop, resolve, Act.eval, Sem.run_bind, Deferred.ofValue, Sem.run_pure, Result.andThen_ok, invoke, eg]
  unfold Oper.wp
  rw [hr, Oper.upon_enter]
  refine (h a w hC hT).mono ?_
  rintro e w' ⟨v, rfl, h1, h2, h3, h4⟩
  exact hK v w' h1 h2 h4.1 h3 h4.2
theorem ob_skip (hy : Yes ops T o) (hdst : o.dst = none) (h : ∀ (a : Act) (w : World), C w → (∀ d, (o.looksAt ops).elem d = true → T d (a.tmps.getD d undef) w) →
    ∃ w', (execOp a.eval o).run P w = .ok .skip w' ∧ C w' ∧ E j w' ∧ Keeps ops T last E j o w w') : Ob P ops C T last E j o := by
  intro a w K Q hC hT hK
  rw [if_pos (hy a w hT)]
  obtain ⟨w', hr, h2, h3, h4⟩ := h a w hC hT
  unfold Oper.wp
  rw [hr, Oper.upon_skip]
  exact hK undef w' (fun d hd => by rw [hdst] at hd; cases hd) h2 h4.1 h3 h4.2
variable {d0 : Nat}
theorem ob_val (hy : Yes ops T o) (hdst : o.dst = some d0) (hE : ∀ w, E j w) (h : ∀ (a : Act) (w : World), C w → (∀ d, (o.looksAt ops).elem d = true → T d (a.tmps.getD d undef) w) → ∃ v, (execOp a.eval o).run P w = .ok (.value v) w ∧ T d0 v w) : Ob P ops C T last E j o :=
  ob_any hy fun a w hC hT => by
    obtain ⟨v, hr, hv⟩ := h a w hC hT
    exact ⟨v, w, hr, fun d hd => by rw [hdst] at hd; cases hd; exact hv, hC, hE w, Keeps.rfl w⟩
theorem ob_move {s : Nat} (hy : Yes ops T o) (hdst : o.dst = some d0) (hE : ∀ w, E j w) (hop : o.op = .move (.tmp s)) (h : ∀ v w, T s v w → T d0 v w) : Ob P ops C T last E j o :=
  ob_val hy hdst hE fun a w hC hT => ⟨a.tmps.getD s undef, by simp [execOp, hop, Act.eval, Sem.run_pure], h _ _ (hT s (by unfold Oper.looksAt; rw [hop]; simp [Op.operands]))⟩
theorem ob_assign {s : Nat} (hy : Yes ops T o) (hdst : o.dst = some d0) (hE : ∀ w, E j w) (hop : o.op = .assign (.tmp s)) (h : ∀ v w, T s v w → T d0 v w) : Ob P ops C T last E j o :=
  ob_val hy hdst hE fun a w hC hT => ⟨a.tmps.getD s undef, by simp [execOp, hop, Act.eval, Sem.run_pure], h _ _ (hT s (by unfold Oper.looksAt; rw [hop]; simp [Op.operands]))⟩
end

theorem find_mem : ∀ {TL : List (Nat × As2)} {d : Nat} {p : As2}, find TL d = some p → (d, p) ∈ TL
  | [], d, p, h => by simp [find] at h
  | (k, q) :: l, d, p, h => by
    unfold find at h
    cases hk : Nat.beq k d with
    | true =>
      rw [hk] at h
      simp only [cond_true, Option.some.injEq] at h
      subst h
      rw [Nat.eq_of_beq_eq_true hk]
      exact List.mem_cons_self
    | false =>
      rw [hk] at h
      exact List.mem_cons_of_mem _ (find_mem h)
/-- Row by row of the table: it is written here, or nobody looks at it any more, or it stays. -/
def goneB (ops : Array Oper) (last : Nat → Bool) (j : Nat) (o : Oper) (d : Nat) : Bool := o.dst == some d || (!last d && deadB ops.toList j d)
theorem keeps_tab {ops : Array Oper} {TL : List (Nat × As2)} {a : Act} {last : Nat → Bool} {E : Nat → World → Prop} {j : Nat} {o : Oper} {w w' : World}
    (h : ∀ q ∈ TL, goneB ops last j o q.1 = true ∨ ∀ v, q.2 v w → q.2 v w') (hE : ∀ k, k ≠ j → Nat.testBit ((masks ops.toList []).getD k 0) j = false → E k w → E k w') : Keeps ops (tab TL a) last E j o w w' := by
  refine ⟨fun d hd hn v0 hv => ?_, hE⟩
  unfold tab at hv ⊢
  cases hf : find TL d with
  | none => rw [hf] at hv; exact hv
  | some p =>
    rw [hf] at hv
    rcases h _ (find_mem hf) with hg | hs
    · exfalso
      simp only [goneB, Bool.or_eq_true, Bool.and_eq_true, beq_iff_eq] at hg
      rcases hg with hg | ⟨h1, h2⟩
      · exact hd hg
      · rcases hn with hn | hn
        · rw [hn] at h2; cases h2
        · rw [hn] at h1; cases h1
    · exact hs _ hv

end Go.Proofs.Ytkejcdephnkkgaa.Asr2
