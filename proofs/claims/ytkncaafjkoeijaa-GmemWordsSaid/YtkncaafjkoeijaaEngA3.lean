
/- append. -/
import Derived.Test.YtkncaafjkoeijaaEngA2
namespace Go.Proofs.Ytkncaafjkoeijaa.Eng
open Go
set_option linter.unusedVariables false
set_option linter.unusedSimpArgs false

/-- A row that is moved: the old name goes, a new one stands for a part of its block. -/
theorem adopt_ok {B : Nat} {ρ : Ren} {s s' : LS} {w w' : World} (h : R B ρ s w) {b : Nat} {p : Pl} (hp : ρ b = some p) {n c z zn es es2 n2 c2 z2 zn2 q ext} (ho : s.h.get b = some (.cells n c z zn es)) (hf : ρ s.nx = none) {C : Array Value} {T : TypeId}
    (hsize : w'.heap.size = w.heap.size) (hothers : ∀ k, k ≠ p.at_ → w'.heap[k]? = w.heap[k]?) (hos : w'.os = w.os) (htp : w'.tape = w.tape) (hout : w'.output = w.output)
    (hC : w'.heap[p.at_]? = some (.cells C T (0, 0))) (hCs : q + ext ≤ C.size) (hn : n2 ≤ ext) (hv : ∀ k, k < n2 → VR ρ (cellAt c2 z2 zn2 k) (C.getD (q + k) undef)) {low : Nat}
    (hs' : s' = ⟨(s.h.set b none).set s.nx (some (.cells n2 c2 z2 zn2 es2)), s.nx + 1, low⟩) : R B (ρ.put s.nx ⟨p.at_, q, ext, es2⟩) s' w' ∧ St ρ s w (ρ.put s.nx ⟨p.at_, q, ext, es2⟩) s' w' := by
  obtain ⟨hes, _, hB, hat, _⟩ := h.row hp ho
  have he : Ext ρ (ρ.put s.nx ⟨p.at_, q, ext, es2⟩) := Ren.ext_put hf
  have hget : ∀ i o, s'.h.get i = some o → (i = s.nx ∧ o = .cells n2 c2 z2 zn2 es2) ∨ (i ≠ s.nx ∧ i ≠ b ∧ s.h.get i = some o) := by
    intro i o hi
    rw [hs'] at hi
    simp only [Tr.get_set] at hi
    by_cases e : i = s.nx
    · rw [if_pos e] at hi; injection hi with hi; exact .inl ⟨e, hi.symm⟩
    · rw [if_neg e] at hi
      by_cases e2 : i = b
      · rw [if_pos e2] at hi; cases hi
      · rw [if_neg e2] at hi; exact .inr ⟨e, e2, hi⟩
  have hput : ∀ i, i ≠ s.nx → (ρ.put s.nx ⟨p.at_, q, ext, es2⟩) i = ρ i := fun i e => by simp [Ren.put, e]
  have hwf : ∀ i o, s'.h.get i = some o → i < s'.nx := by
    intro i o hi
    have : s'.nx = s.nx + 1 := by rw [hs']
    rcases hget i o hi with ⟨rfl, rfl⟩ | ⟨e1, e2, hi⟩
    · omega
    · have := h.wf _ _ hi; omega
  refine ⟨⟨by rw [hsize]; exact h.base, hwf, ?_, ?_⟩, ⟨he, ?_, by omega, hos, htp, hout, ?_, ?_⟩⟩
  · intro i o hi
    rcases hget i o hi with ⟨rfl, rfl⟩ | ⟨e1, e2, hi⟩
    · exact ⟨_, Ren.put_same, ⟨rfl, hn, C, T, hC, hCs, fun k hk => (hv k hk).ext he⟩, hB, by simpa [hsize] using hat⟩
    · obtain ⟨r, hr, hor, h1, h2⟩ := h.obj i o hi
      exact ⟨r, he _ _ hr, hor.keep he (hothers _ fun e' => e2 (h.inj i b o _ r p hi ho hr hp e')), h1, by omega⟩
  · intro i j o o' p' q' hi hj hp' hq' e
    rcases hget i o hi with ⟨rfl, rfl⟩ | ⟨e1, e2, hi⟩ <;> rcases hget j o' hj with ⟨rfl, rfl⟩ | ⟨e3, e4, hj⟩
    · rfl
    · rw [Ren.put_same] at hp'; injection hp' with hp'; subst hp'
      rw [hput _ e3] at hq'
      exact absurd (h.inj j b o' _ q' p hj ho hq' hp e.symm) e4
    · rw [Ren.put_same] at hq'; injection hq' with hq'; subst hq'
      rw [hput _ e1] at hp'
      exact absurd (h.inj i b o _ p' p hi ho hp' hp e) e2
    · rw [hput _ e1] at hp'; rw [hput _ e3] at hq'
      exact h.inj i j o o' p' q' hi hj hp' hq' e
  · intro i hi
    have : s'.nx = s.nx + 1 := by rw [hs']
    exact hput i (by omega)
  · intro k hk hne
    exact hothers k fun e => hne b _ p ho hp e.symm
  · intro i o r hi hr
    rcases hget i o hi with ⟨rfl, rfl⟩ | ⟨e1, e2, hi⟩
    · rw [Ren.put_same] at hr; injection hr with hr; subst hr; exact .inr ⟨b, _, p, ho, hp, rfl⟩
    · rw [hput _ e1] at hr; exact .inr ⟨i, o, r, hi, hr, rfl⟩

/-- Forgetting a row. -/
theorem forget_ok {B : Nat} {ρ : Ren} {s s' : LS} {w : World} (h : R B ρ s w) (b : Nat) {low : Nat} (hs' : s' = ⟨s.h.set b none, s.nx, low⟩) : R B ρ s' w ∧ St ρ s w ρ s' w := by
  have hget : ∀ i o, s'.h.get i = some o → s.h.get i = some o := by
    intro i o hi
    rw [hs'] at hi
    simp only [Tr.get_set] at hi
    by_cases e : i = b
    · rw [if_pos e] at hi; cases hi
    · rw [if_neg e] at hi; exact hi
  refine ⟨⟨h.base, fun i o hi => by have := h.wf _ _ (hget i o hi); rw [hs']; exact this, fun i o hi => h.obj i o (hget i o hi), fun i j o o' p q hi hj => h.inj i j o o' p q (hget i o hi) (hget j o' hj)⟩, ⟨fun _ _ h => h, fun _ _ => rfl, Nat.le_refl _, rfl, rfl, rfl, fun _ _ _ => rfl, fun i o p hi hp => .inr ⟨i, o, p, hget i o hi, hp, rfl⟩⟩⟩

theorem grownCap_ge (w : World) {need old : Nat} (e : TypeId) (h : need ≤ 2000000) : need ≤ grownCap w need old e := by
  unfold grownCap Question.cut
  exact Nat.le_add_right _ _

/-- What an append looks at. -/
structure AH (P : Program) (w : World) (ats : Array TypeId) (args : Array Value) (elem : TypeId) (i : TypeInfo) (zv : Value) (base : Option Addr) (sLen sCap n : Nat) (new' : List Value) : Prop where
  f0 : ∃ tx, ats[0]? = some tx ∧ P.underlying tx = some (.slice elem)
  a0 : args[0]? = some (.slice base sLen sCap)
  hi : P.info? elem = some i
  hz : i.zero = some zv
  hb : i.bytes ≤ 1000000
  hn : n ≤ 1000000
  hsz : zv.cells.size = i.size
  hpos : i.size ≠ 0
  src : ∃ ty dy x', ats[1]? = some ty ∧ P.underlying ty = some dy ∧ args[1]? = some x' ∧
    (((∀ k, dy ≠ .int k) ∧ (Builtin.lenOf x').run P w = .ok n w ∧ ∀ w2 : World, w2.heap = w.heap → (Builtin.firstCells i.size n x').run P w2 = .ok new'.toArray w2) ∨
     ((∃ k, dy = .int k) ∧ (∃ k, x' = .int k n) ∧ n ≠ 0 ∧ new'.toArray = Builtin.zeroCells zv.cells n))

theorem isInt_false {dy : TypeDesc} (h : ∀ k, dy ≠ .int k) : (match dy with | .int _ => true | _ => false) = false := by
  cases dy <;> first | rfl | exact absurd rfl (h _)

section
variable {P : Program} {w : World} {ats : Array TypeId} {args : Array Value} {elem : TypeId} {i : TypeInfo} {zv : Value} {base : Option Addr} {sLen sCap n : Nat} {new' : List Value}

set_option maxRecDepth 20000 in
theorem AH.place (h : AH P w ats args elem i zv base sLen sCap n new') (hle : sLen + n ≤ sCap) {ad : Addr} (hb : base = some ad) {w' : World} (hst : (storeCells (ad.add (sLen * i.size)) new').run P w = .ok () w') (T : TypeId) :
    (Builtin.append_ ats T args).run P w = .ok (.slice base (sLen + n) sCap) w' := by
  obtain ⟨tx, h0, hu⟩ := h.f0
  obtain ⟨ty, dy, x', h1, hd, ha, hsrc⟩ := h.src
  subst hb
  rcases hsrc with ⟨hk, hlen, hfc⟩ | ⟨⟨k, rfl⟩, ⟨k2, rfl⟩, hn0, hnew⟩
  · have e := isInt_false hk
    simp only [Builtin.append_, h0, h.a0, ha, h1, Sem.run_bind, run_underlying hu, run_underlying hd, Result.andThen_ok, sizeOf, typeInfo, run_program, h.hi, Sem.run_pure, e, Bool.false_eq_true, if_false, hlen, hle, if_true, Bool.not_false, hfc w rfl, hst]
  · have hlt : ¬ ((n : Int) < 0) := by omega
    have hmul : ¬ ((n : Int) * (i.bytes : Int) > 2 ^ 48) := by
      have := Nat.mul_le_mul h.hn h.hb
      rw [← Int.natCast_mul]
      generalize n * i.bytes = M at this
      omega
    have hnz : ¬ (n * i.size = 0) := by
      intro e; rcases Nat.mul_eq_zero.1 e with e | e
      · exact hn0 e
      · exact h.hpos e
    simp only [Builtin.append_, h0, h.a0, ha, h1, Sem.run_bind, run_underlying hu, run_underlying hd, Result.andThen_ok, sizeOf, typeInfo, run_program, h.hi, Sem.run_pure, if_true, asInt, asIntOf, wrap_small h.hn, hlt, if_false, hmul, Int.toNat_natCast, hle, Bool.not_true, Bool.false_eq_true, hnz, zeroValue, h.hz, ← hnew, hst]

set_option maxRecDepth 20000 in
theorem AH.grow (h : AH P w ats args elem i zv base sLen sCap n new') (hlt : sCap < sLen + n) (hsl : sLen ≤ 1000000) {old' : List Value} (hold : ∀ w2 : World, w2.heap = w.heap → (Builtin.firstCells i.size sLen (.slice base sLen sCap)).run P w2 = .ok old'.toArray w2) (T : TypeId) :
    (Builtin.append_ ats T args).run P w = .ok (.slice (some ⟨w.heap.size, 0, none⟩) (sLen + n) (grownCap w (sLen + n) sCap elem))
      (w.drew.alloc (.cells (old'.toArray ++ new'.toArray ++ Builtin.zeroCells zv.cells (grownCap w (sLen + n) sCap elem - (sLen + n))) elem)) := by
  obtain ⟨tx, h0, hu⟩ := h.f0
  obtain ⟨ty, dy, x', h1, hd, ha, hsrc⟩ := h.src
  have hn := h.hn
  have hgt : ¬ (sLen + n ≤ sCap) := by omega
  have hmax : ¬ (((sLen + n : Nat) : Int) > IntKind.i64.max) := by
    have : IntKind.i64.max = 9223372036854775807 := rfl
    omega
  have hfit : ¬ (Builtin.nextslicecap (sLen + n) sCap * i.bytes > 2 ^ 48) := by
    have h1 := nextslicecap_le hlt
    have := Nat.mul_le_mul (show Builtin.nextslicecap (sLen + n) sCap ≤ 4000000 by omega) h.hb
    generalize Builtin.nextslicecap (sLen + n) sCap * i.bytes = M at this
    omega
  rcases hsrc with ⟨hk, hlen, hfc⟩ | ⟨⟨k, rfl⟩, ⟨k2, rfl⟩, hn0, hnew⟩
  · have e := isInt_false hk
    simp only [Builtin.append_, h0, h.a0, ha, h1, Sem.run_bind, run_underlying hu, run_underlying hd, Result.andThen_ok, sizeOf, typeInfo, run_program, h.hi, Sem.run_pure, e, Bool.false_eq_true, if_false, hlen, hgt, Bool.not_false, if_true, hmax, false_and, hfit, run_choose, Question.forced, run_askRoom]
    simp only [World.drew_eq, hold w.drew rfl, hfc w.drew rfl, Result.andThen_ok, zeroValue, typeInfo, Sem.run_bind, run_program, h.hi, h.hz, Sem.run_pure, newRow, run_newObj]
    rfl
  · have hlt0 : ¬ ((n : Int) < 0) := by omega
    have hmul : ¬ ((n : Int) * (i.bytes : Int) > 2 ^ 48) := by
      have := Nat.mul_le_mul h.hn h.hb
      rw [← Int.natCast_mul]
      generalize n * i.bytes = M at this
      omega
    have hnz : ¬ (n * i.size = 0) := by
      intro e; rcases Nat.mul_eq_zero.1 e with e | e
      · exact hn0 e
      · exact h.hpos e
    simp only [Builtin.append_, h0, h.a0, ha, h1, Sem.run_bind, run_underlying hu, run_underlying hd, Result.andThen_ok, sizeOf, typeInfo, run_program, h.hi, Sem.run_pure, if_true, asInt, asIntOf, wrap_small h.hn, hlt0, if_false, hmul, Int.toNat_natCast, hgt, hmax, false_and, hfit, run_choose, Question.forced, run_askRoom, Bool.false_eq_true]
    simp only [World.drew_eq, hold w.drew rfl, Result.andThen_ok, Bool.not_true, Bool.false_eq_true, if_false, hnz, zeroValue, typeInfo, Sem.run_bind, run_program, h.hi, h.hz, Sem.run_pure, newRow, run_newObj, ← hnew]
    rfl

end
end Go.Proofs.Ytkncaafjkoeijaa.Eng
