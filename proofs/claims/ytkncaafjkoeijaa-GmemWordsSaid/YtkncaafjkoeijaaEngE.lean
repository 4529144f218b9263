
/- A region that draws its order: whatever the order is, it ends as the order of the text does. -/
import Derived.Test.YtkncaafjkoeijaaEngD
namespace Go.Proofs.Ytkncaafjkoeijaa.Eng
open Go
set_option linter.unusedVariables false
set_option linter.unusedSimpArgs false

theorem merge_get (h' : Tr LObj) : ∀ (n : Nat) (h : Tr LObj) (i j : Nat), (merge h h' i n).get j = if i ≤ j ∧ j < i + n then h'.get j else h.get j
  | 0, h, i, j => by simp only [merge]; rw [if_neg (by omega)]
  | n + 1, h, i, j => by
    simp only [merge]
    rw [merge_get h' n _ (i + 1) j, Tr.get_set]
    by_cases e : j = i
    · subst e; rw [if_neg (by omega), if_pos rfl, if_pos (by omega)]
    · by_cases h1 : i + 1 ≤ j ∧ j < i + 1 + n
      · rw [if_pos h1, if_pos (by omega)]
      · rw [if_neg h1, if_neg e, if_neg (by omega)]

/-- One step of the walk in the order of the text. -/
inductive Stp (E : Env) (F : Nat) (ops : Array Oper) (o : Oper) (m : Nat) (bar : Bool) (i : Nat) (T : Tr Value) (s s' : LS) (v : Value) (H H' : Tr LObj) (M M' : Nat) : Prop
  | skip : wantedL ops T o.guard = some false → v = undef → s' = s → H' = H → M' = M → Stp E F ops o m bar i T s s' v H H' M M'
  | bar (g : Nat) : wantedL ops T o.guard = some true → bar = true → g ≤ F → actL E g s T o.op = .ok (v, s') → H' = s'.h → M' = 0 → Stp E F ops o m bar i T s s' v H H' M M'
  | act (g : Nat) (s1 : LS) (hs : Tr LObj) : wantedL ops T o.guard = some true → bar = false → g ≤ F → actL E g ⟨hs, s.nx, big⟩ T o.op = .ok (v, s1) → s.nx ≤ s1.low → s.nx < big →
      ((hs = s.h ∧ M &&& m = M ∧ s' = ⟨s1.h, s1.nx, s.low⟩) ∨ (hs = H ∧ s' = ⟨merge s.h s1.h s.nx (s1.nx - s.nx), s1.nx, s.low⟩)) → H' = H → M' = (bif Nat.beq s1.nx s.nx then M else M ||| 2 ^ i) → Stp E F ops o m bar i T s s' v H H' M M'

theorem Stp.le {E : Env} {F F' : Nat} {ops : Array Oper} {o : Oper} {m : Nat} {bar : Bool} {i : Nat} {T : Tr Value} {s s' : LS} {v : Value} {H H' : Tr LObj} {M M' : Nat} (hF : F ≤ F') : Stp E F ops o m bar i T s s' v H H' M M' → Stp E F' ops o m bar i T s s' v H H' M M'
  | .skip a b c d e => .skip a b c d e
  | .bar g a b c d e f => .bar g a b (by omega) d e f
  | .act g s1 hs a b c d e f h i k => .act g s1 hs a b (by omega) d e f h i k

theorem trace {E : Env} {nt : Nat} {ops : Array Oper} : ∀ (f : Nat) (l : List Oper) (pl : List (Nat × Bool)) (t : Tr Value) (s : LS) (hb : Tr LObj) (mk j : Nat) (t' : Tr Value) (s' : LS), drawL E f nt ops l pl t s hb mk j = .ok (t', s') →
    ∃ (T : Nat → Tr Value) (S : Nat → LS) (V : Nat → Value) (H : Nat → Tr LObj) (M : Nat → Nat), T j = t ∧ S j = s ∧ H j = hb ∧ M j = mk ∧ T (j + l.length) = t' ∧ S (j + l.length) = s' ∧
      ∀ (k : Nat) (o : Oper), l[k]? = some o → ∃ m b, pl[k]? = some (m, b) ∧ dstOk nt o.dst = true ∧ T (j + k + 1) = putL (T (j + k)) o.dst (V (j + k)) ∧
        Stp E f ops o m b (j + k) (T (j + k)) (S (j + k)) (S (j + k + 1)) (V (j + k)) (H (j + k)) (H (j + k + 1)) (M (j + k)) (M (j + k + 1))
  | 0, l, pl, t, s, hb, mk, j, t', s', h => by simp [drawL] at h
  | f + 1, [], pl, t, s, hb, mk, j, t', s', h => by
    simp only [drawL] at h
    injection h with h; injection h with h1 h2; subst h1 h2
    exact ⟨fun _ => t, fun _ => s, fun _ => undef, fun _ => hb, fun _ => mk, rfl, rfl, rfl, rfl, rfl, rfl, fun k o h => by simp at h⟩
  | f + 1, o :: l, [], t, s, hb, mk, j, t', s', h => by simp [drawL] at h
  | f + 1, o :: l, (m, b) :: pl, t, s, hb, mk, j, t', s', h => by
    simp only [drawL] at h
    rw [cond_eq_ite] at h
    split at h
    · cases h
    · rename_i hd
      have hd : dstOk nt o.dst = true := by simpa using hd
      -- what follows, with one step in front
      have front : ∀ (v : Value) (s1 : LS) (hb1 : Tr LObj) (mk1 : Nat), drawL E f nt ops l pl (putL t o.dst v) s1 hb1 mk1 (j + 1) = .ok (t', s') → Stp E (f + 1) ops o m b j t s s1 v hb hb1 mk mk1 →
          ∃ (T : Nat → Tr Value) (S : Nat → LS) (V : Nat → Value) (H : Nat → Tr LObj) (M : Nat → Nat), T j = t ∧ S j = s ∧ H j = hb ∧ M j = mk ∧ T (j + (o :: l).length) = t' ∧ S (j + (o :: l).length) = s' ∧
          ∀ (k : Nat) (o1 : Oper), (o :: l)[k]? = some o1 → ∃ m1 b1, ((m, b) :: pl)[k]? = some (m1, b1) ∧ dstOk nt o1.dst = true ∧ T (j + k + 1) = putL (T (j + k)) o1.dst (V (j + k)) ∧
            Stp E (f + 1) ops o1 m1 b1 (j + k) (T (j + k)) (S (j + k)) (S (j + k + 1)) (V (j + k)) (H (j + k)) (H (j + k + 1)) (M (j + k)) (M (j + k + 1)) := by
        intro v s1 hb1 mk1 hrest hst
        obtain ⟨T, S, V, H, M, e1, e2, e3, e4, e5, e6, hall⟩ := trace f l pl _ _ _ _ _ _ _ hrest
        have hlen : j + (o :: l).length = j + 1 + l.length := by simp; omega
        refine ⟨fun k => if k = j then t else T k, fun k => if k = j then s else S k, fun k => if k = j then v else V k, fun k => if k = j then hb else H k, fun k => if k = j then mk else M k,
          by simp, by simp, by simp, by simp, by rw [hlen]; exact (if_neg (by omega)).trans e5, by rw [hlen]; exact (if_neg (by omega)).trans e6, ?_⟩
        intro k o1 hk
        cases k with
        | zero =>
          simp at hk; subst hk
          refine ⟨m, b, rfl, hd, ?_, ?_⟩
          · simp [e1]
          · simp only [Nat.add_zero, if_true, show ¬ (j + 1 = j) by omega, if_false, e2, e3, e4]; exact hst
        | succ k =>
          obtain ⟨m1, b1, h1, h2, h3, h4⟩ := hall k o1 (by simpa using hk)
          refine ⟨m1, b1, by simpa using h1, h2, ?_, ?_⟩
          · simp only [show ¬ (j + (k + 1) + 1 = j) by omega, show ¬ (j + (k + 1) = j) by omega, if_false]
            rw [show j + (k + 1) = j + 1 + k by omega]; exact h3
          · simp only [show ¬ (j + (k + 1) + 1 = j) by omega, show ¬ (j + (k + 1) = j) by omega, if_false]
            rw [show j + (k + 1) = j + 1 + k by omega]; exact h4.le (by omega)
      split at h
      · cases h
      · rename_i hw
        exact front undef s hb mk h (.skip hw rfl rfl rfl rfl)
      · rename_i hw
        rw [cond_eq_ite] at h
        split at h
        · rename_i hb1
          split at h
          · rename_i v s1 ha
            exact front v s1 s1.h 0 h (.bar f hw hb1 (by omega) ha rfl rfl)
          · cases h
        · rename_i hb0
          have hb0 : b = false := by simpa using hb0
          rw [beq_ite] at h
          split at h
          · rename_i hmk
            split at h
            · rename_i v s1 ha
              rw [cond_eq_ite] at h
              split at h
              · rename_i hc
                simp only [Bool.and_eq_true] at hc
                exact front v _ _ _ h (.act f s1 s.h hw hb0 (by omega) ha (Nat.le_of_ble_eq_true hc.1) (Nat.le_of_ble_eq_true hc.2) (.inl ⟨rfl, hmk, rfl⟩) rfl rfl)
              · cases h
            · cases h
          · split at h
            · rename_i v s1 ha
              rw [cond_eq_ite] at h
              split at h
              · rename_i hc
                simp only [Bool.and_eq_true] at hc
                exact front v _ _ _ h (.act f s1 hb hw hb0 (by omega) ha (Nat.le_of_ble_eq_true hc.1) (Nat.le_of_ble_eq_true hc.2) (.inr ⟨rfl, rfl⟩) rfl rfl)
              · cases h
            · cases h

/-- The walk in the order of the text, whole. -/
structure Cx (E : Env) (F nt : Nat) (ops : Array Oper) (ms : List Nat) (t : Tr Value) (s : LS) where
  T : Nat → Tr Value
  S : Nat → LS
  V : Nat → Value
  H : Nat → Tr LObj
  M : Nat → Nat
  t0 : T 0 = t
  s0 : S 0 = s
  h0 : H 0 = s.h
  m0 : M 0 = 0
  sd : ∀ (j : Nat) (o : Oper), ops[j]? = some o → Sd ops.toList ms o j
  closed : ∀ (j k : Nat) (o : Oper), ops[j]? = some o → Nat.testBit (ms.getD j 0) k = true → ∃ e ∈ o.after.toList, Region.binds .any e = true ∧ (k = e.on ∨ Nat.testBit (ms.getD e.on 0) k = true)
  step : ∀ (k : Nat) (o : Oper), ops[k]? = some o → dstOk nt o.dst = true ∧ T (k + 1) = putL (T k) o.dst (V k) ∧
    Stp E F ops o (ms.getD k 0) (isBar ops.size ms k) k (T k) (S k) (S (k + 1)) (V k) (H k) (H (k + 1)) (M k) (M (k + 1))

section
variable {E : Env} {F nt : Nat} {ops : Array Oper} {ms : List Nat} {t : Tr Value} {s : LS}

theorem Cx.make {f : Nat} {pl : List (Nat × Bool)} {t' : Tr Value} {s' : LS} (hpl : plan ops.toList = some pl) (h : drawL E f nt ops ops.toList pl t s s.h 0 0 = .ok (t', s')) :
    ∃ (ms : List Nat) (c : Cx E f nt ops ms t s), c.T ops.size = t' ∧ c.S ops.size = s' := by
  unfold plan at hpl
  simp only at hpl
  rw [cond_eq_ite] at hpl
  split at hpl
  · rename_i hs
    injection hpl with hpl
    obtain ⟨T, S, V, H, M, e1, e2, e3, e4, e5, e6, hall⟩ := trace f _ _ _ _ _ _ _ _ _ h
    have hsd : ∀ (j : Nat) (o : Oper), ops[j]? = some o → Sd ops.toList (masks ops.toList []) o j := by
      intro j o hj
      have := sound_spec ops.toList 0 hs j o (by simpa using hj)
      rwa [Nat.zero_add] at this
    refine ⟨masks ops.toList [], ⟨T, S, V, H, M, e1, e2, e3, e4, hsd, ?_, ?_⟩, by simpa using e5, by simpa using e6⟩
    · intro j k o hj hk
      have := masks_bit ops.toList [] j k o (by simpa using hj) (by simpa using (hsd j o hj).back) (by simpa using hk)
      exact this
    · intro k o hk
      obtain ⟨m, b, h1, h2, h3, h4⟩ := hall k o (by simpa using hk)
      rw [← hpl] at h1
      have hlt : k < ops.size := (Array.getElem?_eq_some_iff.1 hk).1
      simp only [List.getElem?_map, List.getElem?_range, Array.length_toList, hlt, Option.map_some, Option.some.injEq, Prod.mk.injEq] at h1
      obtain ⟨rfl, rfl⟩ := h1
      rw [Nat.zero_add] at h3 h4
      exact ⟨h2, h3, h4⟩
  · cases hpl

theorem op_some {k : Nat} (hk : k < ops.size) : ∃ o, ops[k]? = some o := ⟨_, Array.getElem?_eq_getElem hk⟩

/-- Whether the step may have written to what there was. -/
def Cx.Bar (c : Cx E F nt ops ms t s) (k : Nat) : Prop := ∃ o, ops[k]? = some o ∧ isBar ops.size ms k = true ∧ wantedL ops (c.T k) o.guard = some true

theorem Cx.keep (c : Cx E F nt ops ms t s) (hA : ∀ g, g ≤ F → ActOk E g) {k : Nat} (hk : k < ops.size) (hb : ¬ c.Bar k) (x : Nat) (hx : x < (c.S k).nx) : (c.S (k + 1)).h.get x = (c.S k).h.get x := by
  obtain ⟨o, ho⟩ := op_some hk
  obtain ⟨hd, hT, hst⟩ := c.step k o ho
  cases hst with
  | skip a b e _ _ => rw [e]
  | bar g a b hg ha _ _ => exact absurd ⟨o, ho, b, a⟩ hb
  | act g s1 hs a b hg ha hlow hbig hor _ _ =>
    obtain ⟨hm, _⟩ := hA g hg _ _ _ _ _ ha
    rcases hor with ⟨e1, _, e2⟩ | ⟨e1, e2⟩
    · rw [e2]; subst e1; exact hm.same x hx (by omega)
    · rw [e2]; simp only [merge_get]; rw [if_neg (by omega)]

theorem Cx.mono1 (c : Cx E F nt ops ms t s) (hA : ∀ g, g ≤ F → ActOk E g) {k : Nat} (hk : k < ops.size) : Mono (c.S k) (c.S (k + 1)) := by
  obtain ⟨o, ho⟩ := op_some hk
  obtain ⟨hd, hT, hst⟩ := c.step k o ho
  have hkeep := fun hb => c.keep hA hk hb
  cases hst with
  | skip a b e _ _ => rw [e]; exact Mono.refl _
  | bar g a b hg ha _ _ => exact (hA g hg _ _ _ _ _ ha).1
  | act g s1 hs a b hg ha hlow hbig hor _ _ =>
    have hnb : ¬ c.Bar k := by
      rintro ⟨_, _, h2, _⟩; rw [h2] at b; cases b
    obtain ⟨hm, _⟩ := hA g hg _ _ _ _ _ ha
    have hnx : (c.S k).nx ≤ s1.nx := hm.nx
    refine ⟨?_, ?_, fun i h1 h2 => hkeep hnb i h1, ?_⟩
    · rcases hor with ⟨_, _, e2⟩ | ⟨_, e2⟩ <;> (rw [e2]; exact hnx)
    · rcases hor with ⟨_, _, e2⟩ | ⟨_, e2⟩ <;> (rw [e2]; exact Nat.le_refl _)
    · intro hw i hi
      rcases hor with ⟨e1, _, e2⟩ | ⟨e1, e2⟩
      · rw [e2] at hi ⊢; subst e1; exact hm.wf hw i hi
      · rw [e2] at hi ⊢
        simp only at hi
        simp only [merge_get]
        rw [if_neg (by omega)]
        exact hw i (by omega)

theorem Cx.mono (c : Cx E F nt ops ms t s) (hA : ∀ g, g ≤ F → ActOk E g) : ∀ (d p : Nat), p + d ≤ ops.size → Mono (c.S p) (c.S (p + d))
  | 0, p, _ => Mono.refl _
  | d + 1, p, h => (Cx.mono c hA d p (by omega)).trans (c.mono1 hA (by omega))

theorem Cx.nx (c : Cx E F nt ops ms t s) (hA : ∀ g, g ≤ F → ActOk E g) {p q : Nat} (h1 : p ≤ q) (h2 : q ≤ ops.size) : (c.S p).nx ≤ (c.S q).nx := by
  have := (c.mono hA (q - p) p (by omega)).nx
  rwa [show p + (q - p) = q by omega] at this

theorem Cx.stable (c : Cx E F nt ops ms t s) (hA : ∀ g, g ≤ F → ActOk E g) : ∀ (d p : Nat), p + d ≤ ops.size → (∀ k, p ≤ k → k < p + d → ¬ c.Bar k) → ∀ x, x < (c.S p).nx → (c.S (p + d)).h.get x = (c.S p).h.get x
  | 0, p, _, _, x, _ => rfl
  | d + 1, p, h, hb, x, hx => by
    have h1 := Cx.stable c hA d p (by omega) (fun k h1 h2 => hb k h1 (by omega)) x hx
    rw [← h1]
    exact c.keep hA (by omega) (hb (p + d) (by omega) (by omega)) x (Nat.lt_of_lt_of_le hx (c.nx hA (by omega) (by omega)))

theorem Cx.stable' (c : Cx E F nt ops ms t s) (hA : ∀ g, g ≤ F → ActOk E g) {p q : Nat} (h1 : p ≤ q) (h2 : q ≤ ops.size) (hb : ∀ k, p ≤ k → k < q → ¬ c.Bar k) {x : Nat} (hx : x < (c.S p).nx) : (c.S q).h.get x = (c.S p).h.get x := by
  have := c.stable hA (q - p) p (by omega) (fun k h3 h4 => hb k h3 (by omega)) x hx
  rwa [show p + (q - p) = q by omega] at this

theorem Cx.wf (c : Cx E F nt ops ms t s) (hA : ∀ g, g ≤ F → ActOk E g) (hw : ∀ i, s.nx ≤ i → s.h.get i = none) {p : Nat} (h : p ≤ ops.size) : ∀ i, (c.S p).nx ≤ i → (c.S p).h.get i = none := by
  have := (c.mono hA p 0 (by omega)).wf (by rw [c.s0]; exact hw)
  rwa [Nat.zero_add] at this

theorem Cx.base (c : Cx E F nt ops ms t s) (hA : ∀ g, g ≤ F → ActOk E g) : ∀ j, j ≤ ops.size → ∃ b, b ≤ j ∧ c.H j = (c.S b).h ∧ (b = 0 ∨ ∃ b', b = b' + 1 ∧ c.Bar b') ∧ (∀ k, b ≤ k → k < j → ¬ c.Bar k) ∧
    ∀ k, b ≤ k → k < j → (c.S k).nx < (c.S (k + 1)).nx → Nat.testBit (c.M j) k = true
  | 0, _ => ⟨0, Nat.le_refl _, by rw [c.h0, c.s0], .inl rfl, fun k _ h => by omega, fun k _ h => by omega⟩
  | j + 1, hj => by
    obtain ⟨b, h1, h2, h3, h4, h5⟩ := Cx.base c hA j (by omega)
    obtain ⟨o, ho⟩ := op_some (show j < ops.size by omega)
    obtain ⟨hd, hT, hst⟩ := c.step j o ho
    cases hst with
    | skip a e0 e e1 e2 =>
      refine ⟨b, by omega, by rw [e1, h2], h3, ?_, ?_⟩
      · intro k hk1 hk2
        by_cases ek : k = j
        · subst ek
          rintro ⟨o', ho', _, hw⟩
          rw [ho] at ho'; injection ho' with ho'; subst ho'
          rw [a] at hw; cases hw
        · exact h4 k hk1 (by omega)
      · intro k hk1 hk2 hlt
        by_cases ek : k = j
        · subst ek; rw [e] at hlt; omega
        · rw [e2]; exact h5 k hk1 (by omega) hlt
    | bar g a e0 hg ha e1 e2 =>
      exact ⟨j + 1, Nat.le_refl _, e1, .inr ⟨j, rfl, o, ho, e0, a⟩, fun k _ h => by omega, fun k _ h => by omega⟩
    | act g s1 hs a e0 hg ha hlow hbig hor e1 e2 =>
      have hnx : (c.S (j + 1)).nx = s1.nx := by rcases hor with ⟨_, _, e⟩ | ⟨_, e⟩ <;> rw [e]
      refine ⟨b, by omega, by rw [e1, h2], h3, ?_, ?_⟩
      · intro k hk1 hk2
        by_cases ek : k = j
        · subst ek
          rintro ⟨_, _, hb, _⟩; rw [hb] at e0; cases e0
        · exact h4 k hk1 (by omega)
      · intro k hk1 hk2 hlt
        rw [e2, beq_ite]
        by_cases ek : k = j
        · subst ek
          rw [if_neg (by omega)]
          simp [Nat.testBit_or, Nat.testBit_two_pow]
        · have := h5 k hk1 (by omega) hlt
          split
          · exact this
          · simp [Nat.testBit_or, this]

/-- The frame in the order of the text. -/
theorem Cx.frame (c : Cx E F nt ops ms t s) : ∀ j, j ≤ ops.size → (∀ (k : Nat) (o : Oper) (d : Nat), k < j → ops[k]? = some o → o.dst = some d → (c.T j).get d = some (c.V k)) ∧
    ∀ d, (∀ (k : Nat) (o : Oper), k < j → ops[k]? = some o → o.dst ≠ some d) → (c.T j).get d = t.get d
  | 0, _ => ⟨fun k o d h => by omega, fun d _ => by rw [c.t0]⟩
  | j + 1, hj => by
    obtain ⟨h1, h2⟩ := Cx.frame c j (by omega)
    obtain ⟨o, ho⟩ := op_some (show j < ops.size by omega)
    obtain ⟨hd, hT, hst⟩ := c.step j o ho
    have hput : ∀ d, o.dst ≠ some d → (c.T (j + 1)).get d = (c.T j).get d := by
      intro d hne
      rw [hT]
      cases e : o.dst with
      | none => rfl
      | some d' =>
        simp only [putL, Tr.get_set]
        rw [if_neg (by rintro rfl; exact hne e)]
    refine ⟨?_, ?_⟩
    · intro k o' d hk hko hdst
      by_cases ek : k = j
      · subst ek
        rw [ho] at hko; injection hko with hko; subst hko
        rw [hT, hdst]
        simp [putL, Tr.get_set]
      · rw [hput d ?_]
        · exact h1 k o' d (by omega) hko hdst
        · intro e
          have := (c.sd j o ho).own d e k o' (by simpa using hko) hdst
          omega
    · intro d hne
      rw [hput d (hne j o (by omega) ho)]
      exact h2 d fun k o' hk hko => hne k o' (by omega) hko

end
end Go.Proofs.Ytkncaafjkoeijaa.Eng
