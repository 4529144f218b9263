
/- A region that draws its order: one operation more. -/
import Derived.Test.YtkncaafjkoeijaaEngF
namespace Go.Proofs.Ytkncaafjkoeijaa.Eng
open Go
set_option linter.unusedVariables false
set_option linter.unusedSimpArgs false

section
variable {E : Env} {F nt : Nat} {ops : Array Oper} {ms : List Nat} {t : Tr Value} {s : LS}

theorem looks_lev {ops : Array Oper} {o : Oper} {t1 t2 : Tr Value} (h : ∀ d ∈ o.looksAt ops, t1.get d = t2.get d) : (∀ x ∈ o.op.operands, lev t1 x = lev t2 x) ∧ wantedL ops t1 o.guard = wantedL ops t2 o.guard := by
  refine ⟨?_, ?_⟩
  · intro x hx
    cases x with
    | tmp d =>
      have : d ∈ o.looksAt ops := by
        unfold Oper.looksAt
        refine List.mem_append.2 (.inl (List.mem_filterMap.2 ⟨.tmp d, by simpa using hx, rfl⟩))
      simp only [lev, h d this]
    | _ => rfl
  · unfold wantedL
    split
    · rfl
    · rename_i j want hg
      split
      · rename_i oj hoj
        split
        · rename_i d hd
          have : d ∈ o.looksAt ops := by
            unfold Oper.looksAt
            refine List.mem_append.2 (.inr ?_)
            rw [hg]; simp [hoj, hd]
          rw [h d this]
        · rfl
      · rfl

theorem put_other {t : Tr Value} {dst : Option Nat} {v : Value} {d : Nat} (h : dst ≠ some d) : (putL t dst v).get d = t.get d := by
  cases dst with
  | none => rfl
  | some d' => simp only [putL, Tr.get_set]; rw [if_neg (by rintro rfl; exact h rfl)]
theorem put_same {t : Tr Value} {dst : Option Nat} {v : Value} {d : Nat} (h : dst = some d) : (putL t dst v).get d = some v := by
  subst h; simp [putL, Tr.get_set]

theorem Inv.step {c : Cx E F nt ops ms t s} (hA : ∀ g, g ≤ F → ActOk E g) (hw : ∀ i, s.nx ≤ i → s.h.get i = none) {B : Nat} {ρ0 : Ren} {w0 : World} {l : Array Bool} {a : Act} {w : World} {ρ : Ren} {h : LS} {ts : Tr Value} {b : Nat} (I : Inv c B ρ0 w0 l a w ρ h ts b)
    {j : Nat} {o : Oper} (ho : ops[j]? = some o) (hnl : ¬ Ls l j) (hpre : ∀ k, Nat.testBit (ms.getD j 0) k = true → Ls l k ∧ k < j) {Q : Exit → Act → World → Prop} {K : Act → World → Prop}
    (hK : ∀ a' w' ρ' h' ts' b', Inv c B ρ0 w0 (l.setIfInBounds j true) a' w' ρ' h' ts' b' → K a' w') : wpOp E.P ops Q j K a w := by
  have hjn : j < ops.size := (Array.getElem?_eq_some_iff.1 ho).1
  have hjl : j < l.size := by rw [I.size]; exact hjn
  have hbj : b ≤ j := by
    rcases Nat.lt_or_ge j b with h | h
    · exact absurd (I.pre j h) hnl
    · exact h
  obtain ⟨hl1, hl2⟩ := looks_lev (I.looks ho hpre)
  obtain ⟨hd, hT, hst⟩ := c.step j o ho
  have hset := Ls.set (l := l) hjl
  have hclosed : ∀ i, Ls (l.setIfInBounds j true) i → ∀ k, Nat.testBit (ms.getD i 0) k = true → Ls (l.setIfInBounds j true) k := by
    intro i hi k hk
    rw [hset] at hi ⊢
    rcases hi with rfl | hi
    · exact .inr (hpre k hk).1
    · exact .inr (I.closed i hi k hk)
  have ht1 : ∀ v, v = c.V j → ∀ (k : Nat) (o' : Oper) (d : Nat), ops[k]? = some o' → o'.dst = some d → Ls (l.setIfInBounds j true) k → (putL ts o.dst v).get d = some (c.V k) := by
    rintro v rfl k o' d hk hdst hlk
    rw [hset] at hlk
    by_cases e : o.dst = some d
    · have := (c.sd j o ho).own d e k o' (by simpa using hk) hdst
      subst this
      exact put_same e
    · rw [put_other e]
      rcases hlk with rfl | hlk
      · rw [ho] at hk; injection hk with hk; subst hk; exact absurd hdst e
      · exact I.t1 k o' d hk hdst hlk
  have ht2 : ∀ v, ∀ d, (∀ (k : Nat) (o' : Oper), ops[k]? = some o' → o'.dst = some d → ¬ Ls (l.setIfInBounds j true) k) → (putL ts o.dst v).get d = t.get d := by
    intro v d hne
    by_cases e : o.dst = some d
    · exact absurd ((hset j).2 (.inl rfl)) (hne j o ho e)
    · rw [put_other e]
      exact I.t2 d fun k o' hk hdst hlk => hne k o' hk hdst ((hset k).2 (.inr hlk))
  have hpre' : ∀ k, k < b → Ls (l.setIfInBounds j true) k := fun k hk => (hset k).2 (.inr (I.pre k hk))
  have hb0' : b = 0 ∨ ∃ b', b = b' + 1 ∧ c.Bar b' ∧ Ls (l.setIfInBounds j true) b' := by
    rcases I.b0 with h | ⟨b', h1, h2, h3⟩
    · exact .inl h
    · exact .inr ⟨b', h1, h2, (hset b').2 (.inr h3)⟩
  have hnxj : (c.S j).nx ≤ (c.S (j + 1)).nx := c.nx hA (by omega) (by omega)
  have hnxn : (c.S (j + 1)).nx ≤ (c.S ops.size).nx := c.nx hA (by omega) (Nat.le_refl _)
  have h0j : s.nx ≤ (c.S j).nx := by have := c.nx hA (Nat.zero_le j) (by omega); rwa [c.s0] at this
  unfold wpOp
  simp only [ho]
  cases hst with
  | skip a1 a2 a3 a4 a5 =>
    have hwant : Region.wanted o (yielded ops a.tmps) = false := wanted_ok I.tr (by rw [hl2]; exact a1)
    rw [if_neg (by rw [hwant]; decide)]
    refine hK _ _ ρ h (putL ts o.dst undef) b ⟨by simpa using I.size, hclosed, I.nx, hb0', I.ble, hpre', ?_, I.p1, ?_, ?_, I.p4, I.st, I.r, I.tr.put (fun _ _ h => h) .undef hd, ht1 undef a2.symm, ht2 undef⟩
    · intro k hk hlk
      rw [hset] at hlk
      rcases hlk with rfl | hlk
      · rintro ⟨o', ho', _, hw'⟩
        rw [ho] at ho'; injection ho' with ho'; subst ho'
        rw [a1] at hw'; cases hw'
      · exact I.post k hk hlk
    · intro k hk hkn hlk i h1 h2
      rw [hset] at hlk
      rcases hlk with rfl | hlk
      · rw [a3] at h2; omega
      · exact I.p2 k hk hkn hlk i h1 h2
    · intro k hk hkn hlk i h1 h2
      exact I.p3 k hk hkn (fun h => hlk ((hset k).2 (.inr h))) i h1 h2
  | bar g a1 hbar hg ha _ _ =>
    have hwant : Region.wanted o (yielded ops a.tmps) = true := wanted_ok I.tr (by rw [hl2]; exact a1)
    rw [if_pos hwant]
    left
    have hlo : ∀ k, k < j → Ls l k := by
      intro k hk
      rcases bar_spec hbar k (by omega) with h | ⟨_, h⟩ | ⟨h, _⟩
      · omega
      · exact (hpre k h).1
      · omega
    have hhi : ∀ k, j < k → k < ops.size → ¬ Ls l k := by
      intro k hk hkn hlk
      rcases bar_spec hbar k hkn with h | ⟨h, _⟩ | ⟨_, h⟩
      · omega
      · omega
      · exact hnl (I.closed k hlk j h)
    have hsub : ∀ i x, (c.S j).h.get i = some x → h.h.get i = some x := by
      intro i x hx
      have hi : i < (c.S j).nx := by
        rcases Nat.lt_or_ge i (c.S j).nx with h | h
        · exact h
        · rw [c.wf hA hw (by omega) i h] at hx; cases hx
      by_cases hib : i < (c.S b).nx
      · rw [I.p1 i hib, ← c.stable' hA hbj (by omega) (fun k h1 h2 => I.post k h1 (hlo k h2)) hib]; exact hx
      · obtain ⟨k, k1, k2, k3, k4⟩ := c.locate j b i hbj (by omega) hi
        rw [I.p2 k k1 (by omega) (hlo k k2) i k3 k4, ← c.stable' hA (show k + 1 ≤ j by omega) (by omega) (fun k' h1 h2 => I.post k' (by omega) (hlo k' h2)) k4]; exact hx
    have hR0 : R B ρ (c.S j) w := I.r.sub hsub (fun i x hx => by
      rcases Nat.lt_or_ge i (c.S j).nx with h | h
      · exact h
      · rw [c.wf hA hw (by omega) i h] at hx; cases hx)
    have ha' : actL E g (c.S j) ts o.op = .ok (c.V j, c.S (j + 1)) := by rw [act_congr g hl1]; exact ha
    obtain ⟨hm, hrun⟩ := hA g hg _ _ _ _ _ ha'
    refine hrun B nt ρ w a hR0 I.tr (fun i h1 h2 => (I.p3 j hbj hjn hnl i h1 h2).2) _ _ ?_
    intro ρ' w' v' hS hR1 hv
    refine hK _ _ ρ' ⟨(c.S (j + 1)).h, (c.S ops.size).nx, big⟩ (putL ts o.dst (c.V j)) (j + 1) ⟨by simpa using I.size, hclosed, rfl, .inr ⟨j, rfl, ⟨o, ho, hbar, a1⟩, (hset j).2 (.inl rfl)⟩, by omega, ?_, ?_, fun _ _ => rfl, ?_, ?_, ?_, ?_, ?_, I.tr.put hS.ext hv hd, ht1 _ rfl, ht2 _⟩
    · intro k hk
      rw [hset]
      by_cases e : k = j
      · exact .inl e
      · exact .inr (hlo k (by omega))
    · intro k hk hlk
      rw [hset] at hlk
      rcases hlk with rfl | hlk
      · omega
      · by_cases hkn : k < ops.size
        · exact absurd hlk (hhi k (by omega) hkn)
        · rintro ⟨o', ho', _⟩
          exact absurd (Array.getElem?_eq_some_iff.1 ho').1 hkn
    · intro k hk hkn hlk i h1 h2
      rw [hset] at hlk
      rcases hlk with rfl | hlk
      · omega
      · exact absurd hlk (hhi k (by omega) hkn)
    · intro k hk hkn hlk i h1 h2
      have hge : (c.S (j + 1)).nx ≤ i := Nat.le_trans (c.nx hA hk (by omega)) h1
      exact ⟨c.wf hA hw (by omega) i hge, by rw [hS.out i (.inr hge)]; exact (I.p3 k (by omega) hkn (hhi k (by omega) hkn) i h1 h2).2⟩
    · intro i hi
      exact c.wf hA hw (by omega) i (by omega)
    · exact St.comp I.st I.r hS hsub (fun i x hx => .inl hx) (by rw [I.nx]) h0j (by rw [I.nx]; exact hnxn)
    · refine hR1.sub (fun i x hx => hx) (fun i x hx => ?_)
      have := hR1.wf i x hx
      show i < (c.S ops.size).nx
      omega
  | act g s1 hs a1 hbar hg ha hlow hbig hor _ _ =>
    have hwant : Region.wanted o (yielded ops a.tmps) = true := wanted_ok I.tr (by rw [hl2]; exact a1)
    rw [if_pos hwant]
    left
    have hs1 : (c.S (j + 1)).nx = s1.nx := by rcases hor with ⟨_, _, e⟩ | ⟨_, e⟩ <;> rw [e]
    have hnew : ∀ i, (c.S j).nx ≤ i → i < (c.S (j + 1)).nx → (c.S (j + 1)).h.get i = s1.h.get i := by
      intro i h1 h2
      rcases hor with ⟨_, _, e⟩ | ⟨_, e⟩
      · rw [e]
      · rw [e]; simp only [merge_get]; rw [if_pos ⟨h1, by omega⟩]
    obtain ⟨bj, q1, q2, q3, q4, q5⟩ := c.base hA j (by omega)
    have e1 : bj ≤ b := by
      rcases q3 with h | ⟨b', rfl, hb'⟩
      · omega
      · have hlb : Ls l b' := by
          obtain ⟨_, _, hib, _⟩ := hb'
          rcases bar_spec hib j hjn with h | ⟨h, _⟩ | ⟨_, h⟩
          · omega
          · omega
          · exact (hpre b' h).1
        rcases Nat.lt_or_ge b' b with h | h
        · omega
        · exact absurd hb' (I.post b' h hlb)
    have e2 : b ≤ bj := by
      rcases I.b0 with h | ⟨b', rfl, hb', _⟩
      · omega
      · rcases Nat.lt_or_ge b' bj with h | h
        · omega
        · exact absurd hb' (q4 b' h (by omega))
    obtain rfl : bj = b := by omega
    have hsub : ∀ i x, hs.get i = some x → h.h.get i = some x ∧ i < (c.S j).nx := by
      intro i x hx
      rcases hor with ⟨e, hmk, _⟩ | ⟨e, _⟩
      · subst e
        have hi : i < (c.S j).nx := by
          rcases Nat.lt_or_ge i (c.S j).nx with h | h
          · exact h
          · rw [c.wf hA hw (by omega) i h] at hx; cases hx
        refine ⟨?_, hi⟩
        by_cases hib : i < (c.S bj).nx
        · rw [I.p1 i hib, ← c.stable' hA hbj (by omega) q4 hib]; exact hx
        · obtain ⟨k, k1, k2, k3, k4⟩ := c.locate j bj i hbj (by omega) hi
          have hbit := q5 k k1 k2 (by omega)
          have hbit2 : Nat.testBit (ms.getD j 0) k = true := by
            rw [← hmk, Nat.testBit_and, Bool.and_eq_true] at hbit
            exact hbit.2
          rw [I.p2 k k1 (by omega) (hpre k hbit2).1 i k3 k4, ← c.stable' hA (show k + 1 ≤ j by omega) (by omega) (fun k' h1 h2 => q4 k' (by omega) h2) k4]; exact hx
      · subst e
        rw [q2] at hx
        have hib : i < (c.S bj).nx := by
          rcases Nat.lt_or_ge i (c.S bj).nx with h | h
          · exact h
          · rw [c.wf hA hw (by omega) i h] at hx; cases hx
        exact ⟨by rw [I.p1 i hib]; exact hx, Nat.lt_of_lt_of_le hib (c.nx hA hbj (by omega))⟩
    have hR0 : R B ρ ⟨hs, (c.S j).nx, big⟩ w := I.r.sub (fun i x hx => (hsub i x hx).1) (fun i x hx => (hsub i x hx).2)
    have ha' : actL E g ⟨hs, (c.S j).nx, big⟩ ts o.op = .ok (c.V j, s1) := by rw [act_congr g hl1]; exact ha
    obtain ⟨hm, hrun⟩ := hA g hg _ _ _ _ _ ha'
    refine hrun B nt ρ w a hR0 I.tr (fun i h1 h2 => (I.p3 j hbj hjn hnl i h1 (by rw [hs1]; exact h2)).2) _ _ ?_
    intro ρ' w' v' hS hR1 hv
    have hget : ∀ i, (merge h.h s1.h (c.S j).nx ((c.S (j + 1)).nx - (c.S j).nx)).get i = if (c.S j).nx ≤ i ∧ i < (c.S (j + 1)).nx then s1.h.get i else h.h.get i := by
      intro i
      rw [merge_get]
      by_cases e : (c.S j).nx ≤ i ∧ i < (c.S (j + 1)).nx
      · rw [if_pos e, if_pos (by omega)]
      · rw [if_neg e, if_neg (by omega)]
    have hdisj : ∀ k, k < ops.size → k ≠ j → ∀ i, (c.S k).nx ≤ i → i < (c.S (k + 1)).nx → ¬ ((c.S j).nx ≤ i ∧ i < (c.S (j + 1)).nx) := by
      intro k hkn hkj i h1 h2 ⟨h3, h4⟩
      rcases Nat.lt_or_gt_of_ne hkj with hlt | hgt
      · have := c.nx hA (show k + 1 ≤ j by omega) (by omega); omega
      · have := c.nx hA (show j + 1 ≤ k by omega) (by omega); omega
    have hobj : ∀ i x, (merge h.h s1.h (c.S j).nx ((c.S (j + 1)).nx - (c.S j).nx)).get i = some x → (s1.h.get i = some x ∧ (c.S j).nx ≤ i) ∨ h.h.get i = some x := by
      intro i x hx
      rw [hget] at hx
      split at hx
      · rename_i e; exact .inl ⟨hx, e.1⟩
      · exact .inr hx
    refine hK _ _ ρ' ⟨merge h.h s1.h (c.S j).nx ((c.S (j + 1)).nx - (c.S j).nx), (c.S ops.size).nx, big⟩ (putL ts o.dst (c.V j)) bj
      ⟨by simpa using I.size, hclosed, rfl, hb0', I.ble, hpre', ?_, ?_, ?_, ?_, ?_, ?_, ?_, I.tr.put hS.ext hv hd, ht1 _ rfl, ht2 _⟩
    · intro k hk hlk
      rw [hset] at hlk
      rcases hlk with rfl | hlk
      · rintro ⟨_, _, hb', _⟩; rw [hb'] at hbar; cases hbar
      · exact I.post k hk hlk
    · intro i hi
      have := c.nx hA hbj (by omega)
      show (merge h.h s1.h _ _).get i = _
      rw [hget, if_neg (by omega)]; exact I.p1 i hi
    · intro k hk hkn hlk i h1 h2
      show (merge h.h s1.h _ _).get i = _
      rw [hset] at hlk
      by_cases e : k = j
      · subst e
        rw [hget, if_pos ⟨h1, h2⟩, hnew i h1 h2]
      · rw [hget, if_neg (hdisj k hkn e i h1 h2)]
        exact I.p2 k hk hkn (hlk.resolve_left e) i h1 h2
    · intro k hk hkn hlk i h1 h2
      have e : k ≠ j := fun e => hlk ((hset k).2 (.inl e))
      have hlk' : ¬ Ls l k := fun h => hlk ((hset k).2 (.inr h))
      have hd := hdisj k hkn e i h1 h2
      obtain ⟨g1, g2⟩ := I.p3 k hk hkn hlk' i h1 h2
      refine ⟨?_, ?_⟩
      · show (merge h.h s1.h _ _).get i = _
        rw [hget, if_neg hd]; exact g1
      · rw [hS.out i (by show i < (c.S j).nx ∨ s1.nx ≤ i; omega)]; exact g2
    · intro i hi
      show (merge h.h s1.h _ _).get i = _
      rw [hget, if_neg (by omega)]; exact I.p4 i hi
    · exact St.comp I.st I.r hS (fun i x hx => (hsub i x hx).1) (fun i x hx => (hobj i x hx).imp (fun h => h.1) id) (by rw [I.nx]) h0j (by rw [I.nx, ← hs1]; exact hnxn)
    · refine R.comp I.r hR1 hS (fun i x hx => (hsub i x hx).1) ?_ hobj ?_ (fun i x hx => (hsub i x hx).2)
      · intro i x hx
        have hi := (hsub i x hx).2
        rw [hm.same i hi (by show i < s1.low; omega)]; exact hx
      · intro i x hx
        show i < (c.S ops.size).nx
        rcases hobj i x hx with ⟨h1, _⟩ | h1
        · have := hR1.wf i x h1; omega
        · have := I.r.wf i x h1; rw [I.nx] at this; exact this

end
end Go.Proofs.Ytkncaafjkoeijaa.Eng
