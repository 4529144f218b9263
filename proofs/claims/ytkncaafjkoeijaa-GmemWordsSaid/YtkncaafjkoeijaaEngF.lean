
/- A region that draws its order, in any order; the machine, whole. -/
import Derived.Test.YtkncaafjkoeijaaEngE
namespace Go.Proofs.Ytkncaafjkoeijaa.Eng
open Go
set_option linter.unusedVariables false
set_option linter.unusedSimpArgs false

/-- A part of a heap. -/
theorem R.sub {B : Nat} {ρ : Ren} {s s' : LS} {w : World} (h : R B ρ s w) (hs : ∀ i o, s'.h.get i = some o → s.h.get i = some o) (hwf : ∀ i o, s'.h.get i = some o → i < s'.nx) : R B ρ s' w :=
  ⟨h.base, hwf, fun i o hi => h.obj i o (hs i o hi), fun i j o o' p q hi hj => h.inj i j o o' p q (hs i o hi) (hs j o' hj)⟩

/-- A step on a part of a heap is one of the whole. -/
theorem St.comp {ρ0 ρ ρ' : Ren} {s h h' s0 s1 : LS} {w0 w w' : World} {B : Nat} (A : St ρ0 s w0 ρ h w) (hR : R B ρ h w) (b : St ρ s0 w ρ' s1 w') (hsub : ∀ i o, s0.h.get i = some o → h.h.get i = some o)
    (hobj : ∀ i o, h'.h.get i = some o → s1.h.get i = some o ∨ h.h.get i = some o) (hnx : h'.nx = h.nx) (h1 : s.nx ≤ s0.nx) (h2 : s1.nx ≤ h.nx) : St ρ0 s w0 ρ' h' w' where
  ext := fun i p hi => b.ext i p (A.ext i p hi)
  out := fun i hi => by rw [b.out i (by omega), A.out i (by omega)]
  size := Nat.le_trans A.size b.size
  os := b.os.trans A.os
  tape := b.tape.trans A.tape
  output := b.output.trans A.output
  keeps := fun k hk hne => by
    rw [b.keeps k (Nat.lt_of_lt_of_le hk A.size) ?_, A.keeps k hk hne]
    intro i o p hi hp e
    rcases A.places i o p (hsub i o hi) hp with h | ⟨j, o', p', hj, hp', e'⟩
    · omega
    · exact hne j o' p' hj hp' (e'.trans e)
  places := fun i o p hi hp => by
    have old : ∀ j o q, h.h.get j = some o → ρ j = some q → w0.heap.size ≤ q.at_ ∨ ∃ k o' p', s.h.get k = some o' ∧ ρ0 k = some p' ∧ p'.at_ = q.at_ := fun j o q hj hq => A.places j o q hj hq
    rcases hobj i o hi with h | h
    · rcases b.places i o p h hp with h3 | ⟨j, o', p', hj, hp', e'⟩
      · exact .inl (Nat.le_trans A.size h3)
      · rcases old j o' p' (hsub j o' hj) hp' with h4 | ⟨k, o2, p2, hk, hp2, e2⟩
        · exact .inl (by omega)
        · exact .inr ⟨k, o2, p2, hk, hp2, e2.trans e'⟩
    · obtain ⟨q, hq, _⟩ := hR.obj i o h
      have := b.ext i q hq
      rw [hp] at this; injection this with this; subst this
      exact old i o p h hq

/-- A step that leaves what there was, on a part of a heap: the whole with what is new. -/
theorem R.comp {B : Nat} {ρ ρ' : Ren} {h h' s0 s1 : LS} {w w' : World} (hR : R B ρ h w) (hR1 : R B ρ' s1 w') (b : St ρ s0 w ρ' s1 w') (hsub : ∀ i o, s0.h.get i = some o → h.h.get i = some o)
    (hsame : ∀ i o, s0.h.get i = some o → s1.h.get i = some o) (hobj : ∀ i o, h'.h.get i = some o → (s1.h.get i = some o ∧ s0.nx ≤ i) ∨ h.h.get i = some o) (hwf : ∀ i o, h'.h.get i = some o → i < h'.nx)
    (hold : ∀ i o, s0.h.get i = some o → i < s0.nx) : R B ρ' h' w' := by
  have key : ∀ i o, h.h.get i = some o → ∃ p, ρ i = some p ∧ ρ' i = some p ∧ OR ρ' w' p o ∧ B ≤ p.at_ ∧ p.at_ < w.heap.size ∧ p.at_ < w'.heap.size := by
    intro i o hi
    obtain ⟨p, hp, hor, h1, h2⟩ := hR.obj i o hi
    refine ⟨p, hp, b.ext i p hp, ?_, h1, h2, Nat.lt_of_lt_of_le h2 b.size⟩
    cases hs : s0.h.get i with
    | some o' =>
      have e := hsub i o' hs
      rw [hi] at e; injection e with e; subst e
      obtain ⟨q, hq, hor', _⟩ := hR1.obj i o (hsame i o hs)
      rw [b.ext i p hp] at hq; injection hq with hq; subst hq
      exact hor'
    | none =>
      refine hor.keep b.ext (b.keeps _ h2 ?_)
      intro j o' q hj hq e
      have := hR.inj j i o' o q p (hsub j o' hj) hi hq hp e
      subst this
      rw [hs] at hj; cases hj
  -- a new row and an old one
  have cross : ∀ i o j o' p q, s1.h.get i = some o → s0.nx ≤ i → h.h.get j = some o' → ρ' i = some p → ρ' j = some q → p.at_ = q.at_ → i = j := by
    intro i o j o' p q hi hni hj hp hq e
    obtain ⟨q0, hq0, hq0', _, _, hlt, _⟩ := key j o' hj
    rw [hq] at hq0'; injection hq0' with hq0'; subst hq0'
    rcases b.places i o p hi hp with h3 | ⟨k, o2, p2, hk, hp2, e2⟩
    · omega
    · have hkj : k = j := hR.inj k j o2 o' p2 q (hsub k o2 hk) hj hp2 hq0 (e2.trans e)
      subst hkj
      have := hR1.inj i k o o2 p p2 hi (hsame k o2 hk) hp (b.ext k p2 hp2) e2.symm
      have := hold k o2 hk
      omega
  refine ⟨Nat.le_trans hR.base b.size, hwf, ?_, ?_⟩
  · intro i o hi
    rcases hobj i o hi with ⟨h1, _⟩ | h1
    · exact hR1.obj i o h1
    · obtain ⟨p, _, hp, hor, h2, _, h3⟩ := key i o h1
      exact ⟨p, hp, hor, h2, h3⟩
  · intro i j o o' p q hi hj hp hq e
    rcases hobj i o hi with ⟨h1, n1⟩ | h1 <;> rcases hobj j o' hj with ⟨h2, n2⟩ | h2
    · exact hR1.inj i j o o' p q h1 h2 hp hq e
    · exact cross i o j o' p q h1 n1 h2 hp hq e
    · exact (cross j o' i o q p h2 n2 h1 hq hp e.symm).symm
    · obtain ⟨p0, hp0, hp0', _⟩ := key i o h1
      obtain ⟨q0, hq0, hq0', _⟩ := key j o' h2
      rw [hp] at hp0'; injection hp0' with hp0'; subst hp0'
      rw [hq] at hq0'; injection hq0' with hq0'; subst hq0'
      exact hR.inj i j o o' p q h1 h2 hp0 hq0 e

def Ls (l : Array Bool) (k : Nat) : Prop := l.getD k false = true

theorem Ls.set {l : Array Bool} {j : Nat} (hj : j < l.size) (k : Nat) : Ls (l.setIfInBounds j true) k ↔ k = j ∨ Ls l k := by
  unfold Ls
  simp only [Array.getD_eq_getD_getElem?, Array.getElem?_setIfInBounds]
  by_cases e : j = k
  · subst e; simp [hj]
  · simp [e, show ¬ k = j from fun h => e h.symm]

section
variable {E : Env} {F nt : Nat} {ops : Array Oper} {ms : List Nat} {t : Tr Value} {s : LS}

/-- How it stands when these operations have been carried out. -/
structure Inv (c : Cx E F nt ops ms t s) (B : Nat) (ρ0 : Ren) (w0 : World) (l : Array Bool) (a : Act) (w : World) (ρ : Ren) (h : LS) (ts : Tr Value) (b : Nat) : Prop where
  size : l.size = ops.size
  closed : ∀ j, Ls l j → ∀ k, Nat.testBit (ms.getD j 0) k = true → Ls l k
  nx : h.nx = (c.S ops.size).nx
  b0 : b = 0 ∨ ∃ b', b = b' + 1 ∧ c.Bar b' ∧ Ls l b'
  ble : b ≤ ops.size
  pre : ∀ k, k < b → Ls l k
  post : ∀ k, b ≤ k → Ls l k → ¬ c.Bar k
  p1 : ∀ i, i < (c.S b).nx → h.h.get i = (c.S b).h.get i
  p2 : ∀ k, b ≤ k → k < ops.size → Ls l k → ∀ i, (c.S k).nx ≤ i → i < (c.S (k + 1)).nx → h.h.get i = (c.S (k + 1)).h.get i
  p3 : ∀ k, b ≤ k → k < ops.size → ¬ Ls l k → ∀ i, (c.S k).nx ≤ i → i < (c.S (k + 1)).nx → h.h.get i = none ∧ ρ i = none
  p4 : ∀ i, (c.S ops.size).nx ≤ i → h.h.get i = none
  st : St ρ0 s w0 ρ h w
  r : R B ρ h w
  tr : TR nt ρ ts a
  t1 : ∀ (k : Nat) (o : Oper) (d : Nat), ops[k]? = some o → o.dst = some d → Ls l k → ts.get d = some (c.V k)
  t2 : ∀ d, (∀ (k : Nat) (o : Oper), ops[k]? = some o → o.dst = some d → ¬ Ls l k) → ts.get d = t.get d

/-- Each number below the end was given at the start, or by one of the operations. -/
theorem Cx.locate (c : Cx E F nt ops ms t s) : ∀ (n b i : Nat), b ≤ n → (c.S b).nx ≤ i → i < (c.S n).nx → ∃ k, b ≤ k ∧ k < n ∧ (c.S k).nx ≤ i ∧ i < (c.S (k + 1)).nx
  | 0, b, i, h, h1, h2 => by
    exfalso
    have : b = 0 := by omega
    subst this; omega
  | n + 1, b, i, h, h1, h2 => by
    by_cases hb : b = n + 1
    · subst hb; omega
    · by_cases hi : i < (c.S n).nx
      · obtain ⟨k, k1, k2, k3, k4⟩ := Cx.locate c n b i (by omega) h1 hi
        exact ⟨k, k1, by omega, k3, k4⟩
      · exact ⟨n, by omega, by omega, by omega, h2⟩

/-- What an operation that may come up looks at. -/
theorem Inv.looks {c : Cx E F nt ops ms t s} {B : Nat} {ρ0 : Ren} {w0 : World} {l : Array Bool} {a : Act} {w : World} {ρ : Ren} {h : LS} {ts : Tr Value} {b : Nat} (I : Inv c B ρ0 w0 l a w ρ h ts b) {j : Nat} {o : Oper} (ho : ops[j]? = some o)
    (hpre : ∀ k, Nat.testBit (ms.getD j 0) k = true → Ls l k ∧ k < j) (d : Nat) (hd : d ∈ o.looksAt ops) : ts.get d = (c.T j).get d := by
  have hjn : j < ops.size := (Array.getElem?_eq_some_iff.1 ho).1
  obtain ⟨f1, f2⟩ := c.frame j (by omega)
  have hd' : d ∈ tmpsOf ops.toList o := by unfold tmpsOf; simpa using hd
  by_cases hw : ∃ (k : Nat) (o' : Oper), ops[k]? = some o' ∧ o'.dst = some d
  · obtain ⟨k, o', hk, hdst⟩ := hw
    obtain ⟨h1, h2⟩ := hpre k ((c.sd j o ho).looks d hd' k o' (by simpa using hk) hdst)
    rw [I.t1 k o' d hk hdst h1, f1 k o' d h2 hk hdst]
  · rw [I.t2 d (fun k o' hk hdst => absurd ⟨k, o', hk, hdst⟩ hw), f2 d (fun k o' _ hk hdst => hw ⟨k, o', hk, hdst⟩)]

theorem count_set : ∀ (l : List Bool) (j : Nat), l[j]? = some false → (l.set j true).count false + 1 = l.count false
  | [], j, h => by simp at h
  | x :: l, 0, h => by simp at h; subst h; simp
  | x :: l, j + 1, h => by
    have := count_set l j (by simpa using h)
    simp only [List.set_cons_succ, List.count_cons]
    omega

end
end Go.Proofs.Ytkncaafjkoeijaa.Eng
