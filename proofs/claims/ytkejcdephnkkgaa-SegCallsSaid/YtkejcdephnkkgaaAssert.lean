
/- A region that draws its order, whose operations read, and call functions that make memory: each slot has an assertion of its own, that no step takes away; one obligation an operation, whatever the order. -/
import Derived.Test.YtkejcdephnkkgaaMEng1
import Derived.Test.YtkejcdephnkkgaaHeld
import Derived.Deep.OwnRows
namespace Go.Proofs.Ytkejcdephnkkgaa.Asrt
open Go Go.RowKit Eng Lib
set_option linter.unusedVariables false
set_option linter.unusedSimpArgs false

/-- What is said of a slot's value: it stays true where nothing that was there changes. -/
structure As where
  φ : Value → World → Prop
  st : ∀ v w1 w2, φ v w1 → Below w1.heap.size w1 w2 → φ v w2
def As.is (c : Value) : As := ⟨fun v _ => v = c, fun _ _ _ h _ => h⟩

def find : List (Nat × As) → Nat → Option As
  | [], _ => none
  | (k, p) :: l, d => bif Nat.beq k d then some p else find l d
def tab (TL : List (Nat × As)) (a : Act) (d : Nat) (v : Value) (w : World) : Prop :=
  match find TL d with
  | some p => p.φ v w
  | none => v = a.tmps.getD d undef
theorem tab_st {TL : List (Nat × As)} {a : Act} {d : Nat} {v : Value} {w1 w2 : World} (h : tab TL a d v w1) (hb : Below w1.heap.size w1 w2) : tab TL a d v w2 := by
  unfold tab at h ⊢
  split at h
  · exact As.st _ _ _ _ h hb
  · exact h

/-- One operation's obligation. -/
def Ob (P : Program) (ops : Array Oper) (C : World → Prop) (T : Nat → Value → World → Prop) (o : Oper) : Prop :=
  ∀ (a : Act) (w : World) (K : Act → World → Prop) (Q : Exit → Act → World → Prop), C w → (∀ d, (o.looksAt ops).elem d = true → T d (a.tmps.getD d undef) w) →
    (∀ v w', (∀ d, o.dst = some d → T d v w') → C w' → Below w.heap.size w w' → K (a.put o.dst v) w') →
    if Region.wanted o (yielded ops a.tmps) = true then o.wp P a w K Q else K (a.put o.dst undef) w
/-- The obligations of the operations with these numbers. -/
def AllAt (P : Program) (ops : Array Oper) (C : World → Prop) (T : Nat → Value → World → Prop) : List Nat → Prop
  | [] => True
  | j :: l => Ob P ops C T (ops.getD j default) ∧ AllAt P ops C T l
theorem AllAt.get {P : Program} {ops : Array Oper} {C : World → Prop} {T : Nat → Value → World → Prop} : ∀ {l : List Nat}, AllAt P ops C T l → ∀ j ∈ l, Ob P ops C T (ops.getD j default)
  | [], _, j, h => by simp at h
  | _ :: _, ⟨h0, h1⟩, j, h => by
    rcases List.mem_cons.1 h with rfl | h
    · exact h0
    · exact AllAt.get h1 j h
/-- The operations of a function's region. -/
def regionOf (id : Nat) : Code → Option (Array Oper)
  | .region i ops _ => bif Nat.beq i id then some ops else none
  | .seq a b => match regionOf id a with | some r => some r | none => regionOf id b
  | .cond _ a b => match regionOf id a with | some r => some r | none => regionOf id b
  | .block _ a => regionOf id a
  | .loop a => regionOf id a
  | .rangeFunc _ _ a b => match regionOf id a with | some r => some r | none => regionOf id b
  | .scope a => regionOf id a
  | _ => none
def opsOf (f : Func) (id : Nat) : Array Oper := match f.body with | some c => (match regionOf id c with | some r => r | none => #[]) | none => #[]
theorem to_ops {P : Program} {c : Code} {Q : Exit → Act → World → Prop} {a : Act} {w : World} {id : Nat} {ops : Array Oper} (h : c = Code.region id ops true) (hw : (Code.region id ops true).wp P Q a w) : c.wp P Q a w := h ▸ hw

theorem put_size (a : Act) (dst : Option Tmp) (v : Value) : (a.put dst v).tmps.size = a.tmps.size := by cases dst <;> simp [Act.put]
theorem put_def (a : Act) (dst : Option Tmp) (v : Value) : (a.put dst v).defers = a.defers := by cases dst <;> rfl
theorem put_get (a : Act) (d : Tmp) (v : Value) (h : d < a.tmps.size) : (a.put (some d) v).tmps.getD d undef = v := by
  simp [Act.put, Array.getD_eq_getD_getElem?, h]
theorem put_ne (a : Act) (dst : Option Tmp) (v : Value) (d : Tmp) (h : dst ≠ some d) : (a.put dst v).tmps.getD d undef = a.tmps.getD d undef := by
  cases dst with
  | none => rfl
  | some e =>
    have : e ≠ d := fun h' => h (by rw [h'])
    simp [Act.put, Array.getD_eq_getD_getElem?, Array.getElem?_setIfInBounds, this]

structure Inv (ops : Array Oper) (C : World → Prop) (T : Nat → Value → World → Prop) (a0 : Act) (w0 : World) (l : Array Bool) (a : Act) (w : World) : Prop where
  size : l.size = ops.size
  closed : ∀ (j : Nat) (o : Oper), Ls l j → ops[j]? = some o → ∀ e ∈ o.after.toList, Region.binds .any e = true → Ls l e.on
  tm : a.tmps.size = a0.tmps.size
  df : a.defers = a0.defers
  val : ∀ (j : Nat) (o : Oper) (d : Nat), Ls l j → ops[j]? = some o → o.dst = some d → T d (a.tmps.getD d undef) w
  un : ∀ d, (∀ (j : Nat) (o : Oper), Ls l j → ops[j]? = some o → o.dst ≠ some d) → a.tmps.getD d undef = a0.tmps.getD d undef
  cl : C w
  bl : Below w0.heap.size w0 w

theorem wp_region_assert {P : Program} {id : Nat} {Q : Exit → Act → World → Prop} {a : Act} {w : World} {ops : Array Oper} (hm : P.follows .mixedOrders = true) (hpl : (plan ops.toList).isSome = true)
    (C : World → Prop) (TL : List (Nat × As)) (hC : C w.drew) (hk : (TL.all fun p => ops.toList.any fun o => o.dst == some p.1) = true) (hd : (ops.toList.all fun o => dstOk a.tmps.size o.dst) = true)
    (hops : AllAt P ops C (tab TL a) (List.range ops.size))
    (hQ : ∀ a' w', C w' → Below w.heap.size w w' → a'.tmps.size = a.tmps.size → a'.defers = a.defers → (∀ d p, find TL d = some p → p.φ (a'.tmps.getD d undef) w') → (∀ d, (ops.toList.any fun o => o.dst == some d) = false → a'.tmps.getD d undef = a.tmps.getD d undef) → Q .normal a' w') :
    (Code.region id ops true).wp P Q a w := by
  have hs : sound ops.toList (masks ops.toList []) ops.toList 0 = true := by
    unfold plan at hpl
    simp only at hpl
    rw [cond_eq_ite] at hpl
    split at hpl
    · assumption
    · simp at hpl
  have sd : ∀ (j : Nat) (o : Oper), ops[j]? = some o → Sd ops.toList (masks ops.toList []) o j := fun j o ho => by
    have := sound_spec ops.toList 0 hs j o (by simpa using ho)
    rwa [Nat.zero_add] at this
  have cls : ∀ (j k : Nat) (o : Oper), ops[j]? = some o → Nat.testBit ((masks ops.toList []).getD j 0) k = true → ∃ e ∈ o.after.toList, Region.binds .any e = true ∧ (k = e.on ∨ Nat.testBit ((masks ops.toList []).getD e.on 0) k = true) := fun j k o hj hk => by
    have := masks_bit ops.toList [] j k o (by simpa using hj) (by simpa using (sd j o hj).back) (by simpa using hk)
    simpa using this
  have written : ∀ d, (ops.toList.any fun o => o.dst == some d) = true → ∃ (k : Nat) (o : Oper), ops[k]? = some o ∧ o.dst = some d := fun d h => by
    obtain ⟨o, ho, he⟩ := List.any_eq_true.1 h
    obtain ⟨k, hk⟩ := List.mem_iff_getElem?.1 ho
    exact ⟨k, o, by simpa using hk, by simpa using he⟩
  have unwritten : ∀ d, (ops.toList.any fun o => o.dst == some d) = false → ∀ (k : Nat) (o : Oper), ops[k]? = some o → o.dst ≠ some d := fun d h k o ho e => by
    have := List.any_eq_false.1 h o (List.mem_of_getElem? (by simpa using ho))
    simp [e] at this
  -- all that an operation that may come up waits for has been
  have anc : ∀ (l : Array Bool), (∀ (j : Nat) (o : Oper), Ls l j → ops[j]? = some o → ∀ e ∈ o.after.toList, Region.binds .any e = true → Ls l e.on) →
      ∀ (n j k : Nat) (o : Oper), j ≤ n → ops[j]? = some o → (∀ e ∈ o.after.toList, Region.binds .any e = true → Ls l e.on) → Nat.testBit ((masks ops.toList []).getD j 0) k = true → Ls l k := by
    intro l hcl n
    induction n with
    | zero =>
      intro j k o hj ho he hk
      obtain ⟨e, h1, h2, _⟩ := cls j k o ho hk
      have := (sd j o ho).back e h1 h2
      omega
    | succ n ih =>
      intro j k o hj ho he hk
      obtain ⟨e, h1, h2, h3⟩ := cls j k o ho hk
      have hlt := (sd j o ho).back e h1 h2
      rcases h3 with rfl | h3
      · exact he e h1 h2
      · have hes := he e h1 h2
        have hjn : j < ops.size := (Array.getElem?_eq_some_iff.1 ho).1
        have hoe : ops[e.on]? = some ops[e.on] := Array.getElem?_eq_getElem (by omega)
        exact ih e.on k _ (by omega) hoe (fun e' h1' h2' => hcl e.on _ hes hoe e' h1' h2') h3
  have dok : ∀ (j : Nat) (o : Oper) (d : Nat), ops[j]? = some o → o.dst = some d → d < a.tmps.size := fun j o d ho he => by
    have := List.all_eq_true.1 hd o (List.mem_of_getElem? (by simpa using ho))
    rw [he] at this
    exact Nat.le_of_ble_eq_true this
  have main : ∀ (fuel : Nat) (l : Array Bool) (a1 : Act) (w1 : World), l.toList.count false = fuel → Inv ops C (tab TL a) a w.drew l a1 w1 → wpAny P .any ops Q fuel l a1 w1 := by
    have done : ∀ (l : Array Bool) (a1 : Act) (w1 : World), Region.ready .any ops l = [] → Inv ops C (tab TL a) a w.drew l a1 w1 → Q .normal a1 w1 := by
      intro l a1 w1 hr I
      have hall : ∀ j, j < ops.size → Ls l j := by
        intro j
        induction j using Nat.strongRecOn with
        | _ j ih =>
          intro hj
          by_cases hlj : Ls l j
          · exact hlj
          · exfalso
            have ho : ops[j]? = some ops[j] := Array.getElem?_eq_getElem hj
            have : j ∈ Region.ready .any ops l := (ready_spec I.size j).2 ⟨hj, hlj, _, ho, fun e he hb => by
              have hlt := (sd j _ ho).back e he hb
              exact ih e.on hlt (by omega)⟩
            rw [hr] at this; cases this
      refine hQ a1 w1 I.cl ((Below.refl w.heap.size w).drew.trans I.bl) I.tm I.df ?_ ?_
      · intro d p hp
        have hw : (ops.toList.any fun o => o.dst == some d) = true := by
          have key : ∀ TL : List (Nat × As), find TL d = some p → ∃ q ∈ TL, q.1 = d := by
            intro TL
            induction TL with
            | nil => intro h; cases h
            | cons q l ih =>
              intro h
              obtain ⟨k, p'⟩ := q
              unfold find at h
              rw [beq_ite] at h
              split at h
              · rename_i e; exact ⟨(k, p'), by simp, e⟩
              · obtain ⟨q, hq, e⟩ := ih h; exact ⟨q, by simp [hq], e⟩
          obtain ⟨q, hq, rfl⟩ := key TL hp
          exact List.all_eq_true.1 hk q hq
        obtain ⟨k, o, ho, he⟩ := written d hw
        have := I.val k o d (hall k (Array.getElem?_eq_some_iff.1 ho).1) ho he
        unfold tab at this
        rw [hp] at this; exact this
      · intro d hw
        exact I.un d fun j o _ ho => unwritten d hw j o ho
    intro fuel
    induction fuel with
    | zero =>
      intro l a1 w1 hc I
      have hr : Region.ready .any ops l = [] := by
        cases hr : Region.ready .any ops l with
        | nil => rfl
        | cons j r =>
          exfalso
          have hj : j ∈ Region.ready .any ops l := by rw [hr]; simp
          obtain ⟨h1, h2, _⟩ := (ready_spec I.size j).1 hj
          have hjl : j < l.size := by rw [I.size]; exact h1
          have : false ∈ l.toList := by
            unfold Ls at h2
            simp only [Array.getD_eq_getD_getElem?, Array.getElem?_eq_getElem hjl, Option.getD_some] at h2
            have : l[j] = false := by simpa using h2
            rw [← this]; simp
          exact absurd (List.count_pos_iff.2 this) (by omega)
      exact ⟨hr, done l a1 w1 hr I⟩
    | succ fuel ih =>
      intro l a1 w1 hc I
      refine ⟨fun hr => done l a1 w1 hr I, fun j hj => ?_⟩
      obtain ⟨h1, h2, o, ho, h3⟩ := (ready_spec I.size j).1 hj
      have hjl : j < l.size := by rw [I.size]; exact h1
      have hlj : l[j]? = some false := by
        unfold Ls at h2
        simp only [Array.getD_eq_getD_getElem?, Array.getElem?_eq_getElem hjl, Option.getD_some] at h2
        rw [Array.getElem?_eq_getElem hjl]; congr 1; simpa using h2
      have hcount : (l.setIfInBounds j true).toList.count false = fuel := by
        have := count_set l.toList j (by simpa using hlj)
        rw [Array.toList_setIfInBounds]; omega
      have hlook : ∀ d, (o.looksAt ops).elem d = true → tab TL a d (a1.tmps.getD d undef) w1 := by
        intro d hdl
        have hdm : d ∈ o.looksAt ops := by simpa using hdl
        have hd' : d ∈ tmpsOf ops.toList o := by unfold tmpsOf; simpa using hdm
        by_cases hw : (ops.toList.any fun o => o.dst == some d) = true
        · obtain ⟨k, o', hk', hdst⟩ := written d hw
          exact I.val k o' d (anc l I.closed j j k o (Nat.le_refl _) ho h3 ((sd j o ho).looks d hd' k o' (by simpa using hk') hdst)) hk' hdst
        · have hw' : (ops.toList.any fun o => o.dst == some d) = false := by simpa using hw
          have hu := I.un d fun j o _ ho => unwritten d hw' j o ho
          unfold tab
          cases hf : find TL d with
          | none => exact hu
          | some p =>
            exfalso
            have key : ∀ TL : List (Nat × As), find TL d = some p → ∃ q ∈ TL, q.1 = d := by
              intro TL
              induction TL with
              | nil => intro h; cases h
              | cons q l ih =>
                intro h
                obtain ⟨k, p'⟩ := q
                unfold find at h
                rw [beq_ite] at h
                split at h
                · rename_i e; exact ⟨(k, p'), by simp, e⟩
                · obtain ⟨q, hq, e⟩ := ih h; exact ⟨q, by simp [hq], e⟩
            obtain ⟨q, hq, rfl⟩ := key TL hf
            exact hw (List.all_eq_true.1 hk q hq)
      have next : ∀ v w2, (∀ d, o.dst = some d → tab TL a d v w2) → C w2 → Below w1.heap.size w1 w2 → wpAny P .any ops Q fuel (l.setIfInBounds j true) (a1.put o.dst v) w2 := by
        intro v w2 hv hc2 hb2
        refine ih _ _ _ hcount ⟨by simpa using I.size, ?_, by rw [put_size]; exact I.tm, by rw [put_def]; exact I.df, ?_, ?_, hc2, I.bl.trans (hb2.mono I.bl.size)⟩
        · intro k o' hk' ho' e he hb
          rcases (Ls.set hjl k).1 hk' with rfl | hk'
          · rw [ho] at ho'; cases ho'
            exact (Ls.set hjl _).2 (.inr (h3 e he hb))
          · exact (Ls.set hjl _).2 (.inr (I.closed k o' hk' ho' e he hb))
        · intro k o' d hk' ho' hdst
          by_cases e : o.dst = some d
          · have hlt : d < a1.tmps.size := by rw [I.tm]; exact dok j o d ho e
            rw [e, put_get a1 d v hlt]
            exact hv d e
          · rw [put_ne a1 _ v d e]
            rcases (Ls.set hjl k).1 hk' with rfl | hk'
            · rw [ho] at ho'; cases ho'; exact absurd hdst e
            · exact tab_st (I.val k o' d hk' ho' hdst) hb2
        · intro d hun
          have e : o.dst ≠ some d := hun j o ((Ls.set hjl j).2 (.inl rfl)) ho
          rw [put_ne a1 _ v d e]
          exact I.un d fun k o' hk' ho' => hun k o' ((Ls.set hjl k).2 (.inr hk')) ho'
      have hob' := AllAt.get hops j (List.mem_range.2 h1)
      rw [show ops.getD j default = o from by rw [Array.getD_eq_getD_getElem?, ho]; rfl] at hob'
      have hob := hob' a1 w1 (wpAny P .any ops Q fuel (l.setIfInBounds j true)) Q I.cl hlook (fun v w2 h1 h2 h3 => next v w2 h1 h2 h3)
      unfold wpOp
      rw [ho]
      simp only
      split
      · rename_i hw; rw [if_pos hw] at hob; exact .inl hob
      · rename_i hw; rw [if_neg hw] at hob; exact hob
  refine wp_region_any hm (main _ _ _ _ ?_ ⟨by simp, ?_, rfl, rfl, ?_, fun d _ => rfl, hC, Below.refl _ _⟩)
  · simp
  · intro j o hj
    unfold Ls at hj
    simp [Array.getD_eq_getD_getElem?, Array.getElem?_replicate] at hj
    split at hj <;> simp_all
  · intro j o d hj
    unfold Ls at hj
    simp [Array.getD_eq_getD_getElem?, Array.getElem?_replicate] at hj
    split at hj <;> simp_all

/-- A cell that the class holds. -/
theorem held_get {w : World} : ∀ {L : List (Nat × Nat × Value)}, HeldCells L w → ∀ (k : Nat) {b o : Nat} {v : Value}, L[k]? = some (b, o, v) → w.cell? ⟨b, o, none⟩ = some v
  | [], _, k, _, _, _, h => by simp at h
  | (b', o', v') :: l, h, 0, b, o, v, e => by
    simp at e
    obtain ⟨rfl, rfl, rfl⟩ := e
    exact h.1.2.1
  | _ :: l, h, k + 1, b, o, v, e => held_get h.2 k (by simpa using e)
/-- A slice over a new row of one cell an element. -/
def As.row (t : TypeId) (n : Nat) (f : Nat → Value) : As := ⟨fun v w => ∃ b, v = .slice (some ⟨b, 0, none⟩) n n ∧ w.rowIs b t n f, fun v w1 w2 ⟨b, e, h⟩ hb => ⟨b, e, h.of_block (hb.block b h.lt)⟩⟩
/-- A slice of so many elements. -/
def As.len (n : Nat) : As := ⟨fun v _ => ∃ a c, v = .slice a n c, fun _ _ _ h _ => h⟩

/-! One operation each. -/
section
variable {P : Program} {ops : Array Oper} {C : World → Prop} {T : Nat → Value → World → Prop} {o : Oper}

/-- It is carried out. -/
def Yes (ops : Array Oper) (T : Nat → Value → World → Prop) (o : Oper) : Prop :=
  ∀ (a : Act) (w : World), (∀ d, (o.looksAt ops).elem d = true → T d (a.tmps.getD d undef) w) → Region.wanted o (yielded ops a.tmps) = true
theorem yes_plain (hg : o.guard = none) : Yes ops T o := fun a w _ => by unfold Region.wanted; rw [hg]
theorem yes_guard (j d : Nat) (b : Bool) (hg : o.guard = some (j, b)) (hj : (ops[j]?).bind (·.dst) = some d) (hT : ∀ v w, T d v w → v = .bool b) : Yes ops T o := fun a w h => by
  have hl : (o.looksAt ops).elem d = true := by
    unfold Oper.looksAt
    rw [hg]
    simp [hj]
  have hv := hT _ _ (h d hl)
  unfold Region.wanted
  rw [hg]
  simp only [yielded, hj, Option.bind_some]
  cases hs : a.tmps[d]? with
  | none =>
    simp only [Array.getD_eq_getD_getElem?, hs, Option.getD_none] at hv
    cases hv
  | some v =>
    simp only [Array.getD_eq_getD_getElem?, hs, Option.getD_some] at hv
    subst hv; simp

variable {d0 : Nat}
theorem ob_val (hy : Yes ops T o) (hdst : o.dst = some d0) (h : ∀ (a : Act) (w : World), C w → (∀ d, (o.looksAt ops).elem d = true → T d (a.tmps.getD d undef) w) → ∃ v, (execOp a.eval o).run P w = .ok (.value v) w ∧ T d0 v w) : Ob P ops C T o := by
  intro a w K Q hC hT hK
  rw [if_pos (hy a w hT)]
  obtain ⟨v, hr, hv⟩ := h a w hC hT
  unfold Oper.wp
  rw [hr, Oper.upon_value]
  exact hK v w (fun d hd => by rw [hdst] at hd; cases hd; exact hv) hC (Below.refl _ _)
theorem ob_move {s : Nat} (hy : Yes ops T o) (hdst : o.dst = some d0) (hop : o.op = .move (.tmp s)) (h : ∀ v w, T s v w → T d0 v w) : Ob P ops C T o :=
  ob_val hy hdst fun a w hC hT => ⟨a.tmps.getD s undef, by simp [execOp, hop, Act.eval, Sem.run_pure], h _ _ (hT s (by unfold Oper.looksAt; rw [hop]; simp [Op.operands]))⟩
theorem ob_assign {s : Nat} (hy : Yes ops T o) (hdst : o.dst = some d0) (hop : o.op = .assign (.tmp s)) (h : ∀ v w, T s v w → T d0 v w) : Ob P ops C T o :=
  ob_val hy hdst fun a w hC hT => ⟨a.tmps.getD s undef, by simp [execOp, hop, Act.eval, Sem.run_pure], h _ _ (hT s (by unfold Oper.looksAt; rw [hop]; simp [Op.operands]))⟩
theorem ob_call {f : FuncId} {xs : Array Operand} {ts : Array TypeId} (hy : Yes ops T o) (hdst : o.dst = some d0) (eg : ∀ args w, (callFunc f args).run P w = .ok (.enter f args) w) (hop : o.op = .call { callee := .value (.func f), args := xs, argTypes := ts })
    (h : ∀ (a : Act) (w : World), C w → (∀ d, (o.looksAt ops).elem d = true → T d (a.tmps.getD d undef) w) → Calls P f (xs.toList.map a.eval).toArray w fun e w' => ∃ v, e = .returned v ∧ C w' ∧ Below w.heap.size w w' ∧ T d0 v w') : Ob P ops C T o := by
  intro a w K Q hC hT hK
  rw [if_pos (hy a w hT)]
  have hr : (execOp a.eval o).run P w = .ok (.enter f (xs.toList.map a.eval).toArray) w := by
    rw [show (xs.toList.map a.eval).toArray = xs.map a.eval from by rw [← Array.toList_map]]
    simp [execOp, hop, resolve, Act.eval, Sem.run_bind, Deferred.ofValue, Sem.run_pure, Result.andThen_ok, invoke, eg]
  unfold Oper.wp
  rw [hr, Oper.upon_enter]
  refine (h a w hC hT).mono ?_
  rintro e w' ⟨v, rfl, h1, h2, h3⟩
  exact hK v w' (fun d hd => by rw [hdst] at hd; cases hd; exact h3) h1 h2
end

end Go.Proofs.Ytkejcdephnkkgaa.Asrt
