
/- A region that draws its order: what is static. -/
import Derived.Test.YtkncaafjkoeijaaEngC
namespace Go.Proofs.Ytkncaafjkoeijaa.Eng
open Go
set_option linter.unusedVariables false
set_option linter.unusedSimpArgs false

/-! ### what an operation looks at -/
theorem map_lev {t t2 : Tr Value} {l : List Operand} (h : ∀ x ∈ l, lev t x = lev t2 x) : l.map (lev t) = l.map (lev t2) := List.map_congr_left h
theorem amap_lev {t t2 : Tr Value} {l : Array Operand} (h : ∀ x ∈ l, lev t x = lev t2 x) : l.map (lev t) = l.map (lev t2) := Array.map_congr_left h
theorem omap_lev {t t2 : Tr Value} {l : Option Operand} (h : ∀ x ∈ l.toArray, lev t x = lev t2 x) : l.map (lev t) = l.map (lev t2) := by
  cases l with
  | none => rfl
  | some x => simp [h x (by simp)]
theorem parts_lev {t t2 : Tr Value} {l : List (Nat × Operand)} (h : ∀ x ∈ l.map (·.2), lev t x = lev t2 x) : l.map (fun p => (p.1, lev t p.2)) = l.map (fun p => (p.1, lev t2 p.2)) ∧ l.map (fun p => lev t p.2) = l.map (fun p => lev t2 p.2) :=
  ⟨List.map_congr_left fun p hp => by rw [h p.2 (List.mem_map.2 ⟨p, hp, rfl⟩)], List.map_congr_left fun p hp => h p.2 (List.mem_map.2 ⟨p, hp, rfl⟩)⟩
theorem all_lev {t t2 : Tr Value} {l : List Operand} (f : Value → Bool) (h : ∀ x ∈ l, lev t x = lev t2 x) : (l.all fun x => f (lev t x)) = l.all fun x => f (lev t2 x) := by
  induction l with
  | nil => rfl
  | cons x l ih => simp only [List.all_cons, h x (by simp), ih fun y hy => h y (by simp [hy])]

theorem callee_congr {t t2 : Tr Value} {o : Op} (h : ∀ x ∈ o.operands, lev t x = lev t2 x) : calleeL t o = calleeL t2 o := by
  unfold calleeL
  split
  · rename_i f args ats
    simp only [Op.operands, Call.operands, Array.mem_append] at h
    rw [h f (.inl (by simp)), map_lev (t := t) (t2 := t2) (l := args.toList) fun x hx => h x (.inr (by simpa using hx))]
  · rfl

theorem arg0 {args : Array Operand} {i : Nat} {x : Operand} (h : args[i]? = some x) : x ∈ args := Array.mem_of_getElem? h

theorem pure_congr {E : Env} {t t2 : Tr Value} {o : Op} (h : ∀ x ∈ o.operands, lev t x = lev t2 x) : pureL E t o = pureL E t2 o := by
  cases o <;> simp only [Op.operands] at h <;> simp only [pureL]
  case build ty ps =>
    have := parts_lev (t := t) (t2 := t2) (l := ps.toList) fun x hx => h x (by simpa using hx)
    rw [this.1]
  case makeFunc fn a b =>
    rw [amap_lev fun x hx => h x (Array.mem_append.2 (.inl hx)), amap_lev fun x hx => h x (Array.mem_append.2 (.inr hx))]
  case slice ty x lo hi mx =>
    simp only [Array.mem_append] at h
    rw [h x (.inl (.inl (.inl (by simp)))), omap_lev fun y hy => h y (.inl (.inl (.inr hy))), omap_lev fun y hy => h y (.inl (.inr hy)), omap_lev fun y hy => h y (.inr hy)]
  case call c =>
    obtain ⟨callee, args, ats⟩ := c
    cases callee with
    | builtin b =>
      simp only [Call.operands, Array.empty_append] at h
      cases b <;> simp only [pureL]
      case len =>
        split
        · rename_i x ty h0 _; rw [h x (arg0 h0)]
        · rfl
      case min =>
        rw [amap_lev h, all_lev (ground 4) (l := args.toList) fun x hx => h x (by simpa using hx)]
      case max =>
        rw [amap_lev h, all_lev (ground 4) (l := args.toList) fun x hx => h x (by simpa using hx)]
    | _ => rfl
  case pick c a b => rw [h c (by simp), h a (by simp), h b (by simp)]
  case binOp op ty x y yt => rw [h x (by simp), h y (by simp)]
  case indexAddr ty x y => rw [h x (by simp), h y (by simp)]
  case index ty x y => rw [h x (by simp), h y (by simp)]
  case move x => rw [h x (by simp)]
  case assign x => rw [h x (by simp)]
  case nilCheck x => rw [h x (by simp)]
  case unOp op ty x => rw [h x (by simp)]
  case convert a b x => rw [h x (by simp)]
  case makeInterface ty x => rw [h x (by simp)]
  case fieldAddr ty x f => rw [h x (by simp)]
  case field ty x f => rw [h x (by simp)]
  case extract x i => rw [h x (by simp)]
  case sliceToArrayPointer ty x => rw [h x (by simp)]

theorem op_congr {E : Env} {t t2 : Tr Value} {s : LS} {o : Op} (h : ∀ x ∈ o.operands, lev t x = lev t2 x) : opL E s t o = opL E s t2 o := by
  have hp := pure_congr (E := E) h
  cases o <;> simp only [Op.operands] at h <;> simp only [opL]
  case buildSlice ty n ps =>
    have := parts_lev (t := t) (t2 := t2) (l := ps.toList) fun x hx => h x (by simpa using hx)
    rw [this.1, this.2]
  case box ty x => rw [h x (by simp)]
  case load ty x => rw [h x (by simp)]
  case store ty x y => rw [h x (by simp), h y (by simp)]
  case makeSlice ty x y => rw [h x (by simp), h y (by simp)]
  case convert a b x => rw [hp, h x (by simp)]
  case slice ty x lo hi mx =>
    rw [hp]
    simp only [Array.mem_append] at h
    rw [h x (.inl (.inl (.inl (by simp)))), omap_lev fun y hy => h y (.inl (.inl (.inr hy))), omap_lev fun y hy => h y (.inl (.inr hy)), omap_lev fun y hy => h y (.inr hy)]
  case call c =>
    obtain ⟨callee, args, ats⟩ := c
    cases callee with
    | builtin b =>
      simp only [Call.operands, Array.empty_append] at h
      cases b <;> simp only [opL] <;> first | (rw [hp]; done) | skip
      case append =>
        split
        · rename_i x y tx ty h0 h1 _ _; rw [h x (arg0 h0), h y (arg0 h1)]
        · rfl
      case cap =>
        split
        · rename_i x ty h0 _; rw [h x (arg0 h0)]
        · rfl
      case copy =>
        split
        · rename_i x y tx h0 h1 _; rw [h x (arg0 h0), h y (arg0 h1)]
        · rfl
      case clear =>
        split
        · rename_i x ty h0 _; rw [h x (arg0 h0)]
        · rfl
    | _ => simp only [hp]
  all_goals (rw [hp])

theorem act_congr {E : Env} {t t2 : Tr Value} {s : LS} {o : Op} (f : Nat) (h : ∀ x ∈ o.operands, lev t x = lev t2 x) : actL E f s t o = actL E f s t2 o := by
  cases f with
  | zero => simp only [actL]
  | succ f => simp only [actL, callee_congr h, op_congr h]

/-! ### the plan -/
theorem masks_acc : ∀ (l : List Oper) (acc : List Nat), ∃ l', masks l acc = acc ++ l' ∧ l'.length = l.length
  | [], acc => ⟨[], by simp [masks], rfl⟩
  | o :: l, acc => by
    simp only [masks]
    obtain ⟨l', h1, h2⟩ := masks_acc l (acc ++ [o.after.toList.foldl (fun m e => bif Region.binds .any e then m ||| 2 ^ e.on ||| acc.getD e.on 0 else m) 0])
    exact ⟨_ :: l', by rw [h1, List.append_assoc]; rfl, by simp [h2]⟩

theorem fold_bit (g : Nat → Nat) : ∀ (l : List Edge) (m k : Nat), Nat.testBit (l.foldl (fun m e => bif Region.binds .any e then m ||| 2 ^ e.on ||| g e.on else m) m) k = true →
    Nat.testBit m k = true ∨ ∃ e ∈ l, Region.binds .any e = true ∧ (k = e.on ∨ Nat.testBit (g e.on) k = true)
  | [], m, k, h => .inl h
  | e :: l, m, k, h => by
    simp only [List.foldl_cons] at h
    rcases fold_bit g l _ k h with h | ⟨e', he', h1, h2⟩
    · cases hb : Region.binds .any e with
      | false => rw [hb] at h; exact .inl h
      | true =>
        rw [hb] at h
        simp only [cond_true, Nat.testBit_or, Bool.or_eq_true] at h
        rcases h with (h | h) | h
        · exact .inl h
        · rw [Nat.testBit_two_pow] at h
          exact .inr ⟨e, by simp, hb, .inl (by simpa using (of_decide_eq_true h).symm)⟩
        · exact .inr ⟨e, by simp, hb, .inr h⟩
    · exact .inr ⟨e', by simp [he'], h1, h2⟩

/-- A bit of a mask is a direct edge, or a bit of the mask of one. -/
theorem masks_bit : ∀ (l : List Oper) (acc : List Nat) (j k : Nat) (o : Oper), l[j]? = some o → (∀ e ∈ o.after.toList, Region.binds .any e = true → e.on < acc.length + j) → Nat.testBit ((masks l acc).getD (acc.length + j) 0) k = true →
    ∃ e ∈ o.after.toList, Region.binds .any e = true ∧ (k = e.on ∨ Nat.testBit ((masks l acc).getD e.on 0) k = true)
  | [], acc, j, k, o, h, _, _ => by simp at h
  | o' :: l, acc, 0, k, o, h, he, hk => by
    simp at h; subst h
    obtain ⟨l', h1, h2⟩ := masks_acc l (acc ++ [o'.after.toList.foldl (fun m e => bif Region.binds .any e then m ||| 2 ^ e.on ||| acc.getD e.on 0 else m) 0])
    have hm : masks (o' :: l) acc = acc ++ (o'.after.toList.foldl (fun m e => bif Region.binds .any e then m ||| 2 ^ e.on ||| acc.getD e.on 0 else m) 0 :: l') := by
      simp only [masks]; rw [h1, List.append_assoc]; rfl
    rw [hm] at hk ⊢
    have e1 : (acc ++ (o'.after.toList.foldl (fun m e => bif Region.binds .any e then m ||| 2 ^ e.on ||| acc.getD e.on 0 else m) 0 :: l')).getD (acc.length + 0) 0 = o'.after.toList.foldl (fun m e => bif Region.binds .any e then m ||| 2 ^ e.on ||| acc.getD e.on 0 else m) 0 := by
      simp [List.getD_eq_getElem?_getD]
    rw [e1] at hk
    rcases fold_bit (fun i => acc.getD i 0) _ _ _ hk with h | ⟨e, h3, h4, h5⟩
    · simp at h
    · refine ⟨e, h3, h4, ?_⟩
      rcases h5 with h5 | h5
      · exact .inl h5
      · right
        have hlt := he e h3 h4
        simp only [List.getD_eq_getElem?_getD] at h5 ⊢
        rw [List.getElem?_append_left (by omega)]; exact h5
  | o' :: l, acc, j + 1, k, o, h, he, hk => by
    have := masks_bit l (acc ++ [o'.after.toList.foldl (fun m e => bif Region.binds .any e then m ||| 2 ^ e.on ||| acc.getD e.on 0 else m) 0]) j k o (by simpa using h) (by intro e h1 h2; have := he e h1 h2; simp; omega) (by
      simp only [masks] at hk
      simpa [Nat.add_assoc, Nat.add_comm 1 j] using hk)
    simpa only [masks] using this

theorem writers_spec (d : Tmp) : ∀ (l : List Oper) (i k : Nat) (o : Oper), l[k]? = some o → o.dst = some d → i + k ∈ writers d l i
  | [], i, k, o, h, _ => by simp at h
  | o' :: l, i, 0, o, h, hd => by
    simp at h; subst h
    simp only [writers, hd, beq_ite, if_true]
    simp
  | o' :: l, i, k + 1, o, h, hd => by
    have := writers_spec d l (i + 1) k o (by simpa using h) hd
    rw [show i + (k + 1) = i + 1 + k by omega]
    simp only [writers]
    split
    · rw [beq_ite]; split
      · exact List.mem_cons_of_mem _ this
      · exact this
    · exact this

/-- What 'sound' says of each operation. -/
structure Sd (ops : List Oper) (ms : List Nat) (o : Oper) (j : Nat) : Prop where
  looks : ∀ d ∈ tmpsOf ops o, ∀ (k : Nat) (o' : Oper), ops[k]? = some o' → o'.dst = some d → Nat.testBit (ms.getD j 0) k = true
  own : ∀ d, o.dst = some d → ∀ (k : Nat) (o' : Oper), ops[k]? = some o' → o'.dst = some d → k = j
  back : ∀ e ∈ o.after.toList, Region.binds .any e = true → e.on < j

theorem sound_spec {ops : List Oper} {ms : List Nat} : ∀ (l : List Oper) (i : Nat), sound ops ms l i = true → ∀ (j : Nat) (o : Oper), l[j]? = some o → Sd ops ms o (i + j)
  | [], i, h, j, o, hj => by simp at hj
  | o' :: l, i, h, j, o, hj => by
    simp only [sound, Bool.and_eq_true] at h
    obtain ⟨⟨⟨h1, h2⟩, h3⟩, h4⟩ := h
    cases j with
    | succ j => rw [show i + (j + 1) = i + 1 + j by omega]; exact sound_spec l (i + 1) h4 j o (by simpa using hj)
    | zero =>
      simp at hj; subst hj
      refine ⟨?_, ?_, ?_⟩
      · intro d hd k o2 hk hdst
        have := List.all_eq_true.1 (List.all_eq_true.1 h1 d hd) _ (writers_spec d ops 0 k o2 hk hdst)
        simpa using this
      · intro d hd k o2 hk hdst
        rw [hd] at h2
        have := List.all_eq_true.1 h2 _ (writers_spec d ops 0 k o2 hk hdst)
        have := Nat.eq_of_beq_eq_true this
        omega
      · intro e he hb
        have := List.all_eq_true.1 h3 e he
        simp only [hb, Bool.not_true, Bool.false_or] at this
        exact Nat.le_of_ble_eq_true this

theorem bar_spec {n : Nat} {ms : List Nat} {j : Nat} (h : isBar n ms j = true) (k : Nat) (hk : k < n) : k = j ∨ (k < j ∧ Nat.testBit (ms.getD j 0) k = true) ∨ (j < k ∧ Nat.testBit (ms.getD k 0) j = true) := by
  have := List.all_eq_true.1 h k (List.mem_range.2 hk)
  simp only [Bool.or_eq_true] at this
  rcases this with h | h
  · exact .inl (Nat.eq_of_beq_eq_true h)
  · rw [blt_ite] at h
    split at h
    · rename_i hlt; exact .inr (.inl ⟨hlt, h⟩)
    · rename_i hlt
      by_cases e : k = j
      · exact .inl e
      · exact .inr (.inr ⟨by omega, h⟩)

end Go.Proofs.Ytkncaafjkoeijaa.Eng
