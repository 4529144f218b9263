
/- Two operands; lengths; all pure operations together. -/
import Derived.Test.YtkncaafjkoeijaaEngQ
namespace Go.Proofs.Ytkncaafjkoeijaa.Eng
open Go
set_option linter.unusedVariables false
set_option linter.unusedSimpArgs false

theorem intOp_ok {P : Program} {op : BinOp} {k : IntKind} {m n : Int} {v : Value} {t : TypeId} {x y : Operand} (h : intOp op k m n = some v) (w : World) :
    (do eqGuard op t x y (.int k m) (.int k n); binOp op t (.int k m) (.int k n) : Sem Value).run P w = .ok v w ∧ ground 4 v = true := by
  cases op <;> simp only [intOp, Option.some.injEq] at h <;> first
    | (subst h; refine ⟨?_, rfl⟩; simp [eqGuard, binOp, Op.intArith, Op.intCmp])
    | cases h

theorem eql_run {P : Program} {t : TypeId} {x y : Value} {r : Bool} {w : World} (hb : binOp .eql t x y = (do pure (.bool (← Op.equalIn (9999 + 1) t x y)) : Sem Value)) (hn : binOp .neq t x y = (do pure (.bool (!(← Op.equalIn (9999 + 1) t x y))) : Sem Value))
    (h : (Op.equalIn (9999 + 1) t x y).run P w = .ok r w) : (binOp .eql t x y).run P w = .ok (.bool r) w ∧ (binOp .neq t x y).run P w = .ok (.bool !r) w := by
  rw [hb, hn]
  simp only [Sem.run_bind, h, Result.andThen_ok, Sem.run_pure, and_self]

theorem nilEq_ok {E : Env} (hE : E.Ok) {ρ : Ren} {t : TypeId} {x y x' y' : Value} {r : Bool} (h : nilEq E t x y = some r) (hx : VR ρ x x') (hy : VR ρ y y') (w : World) (X Y : Operand) :
    (∀ op, (eqGuard op t X Y x' y').run E.P w = .ok () w) ∧ (binOp .eql t x' y').run E.P w = .ok (.bool r) w ∧ (binOp .neq t x' y').run E.P w = .ok (.bool !r) w := by
  unfold nilEq at h
  split at h
  case h_11 e a i b j hu =>
    rw [cond_eq_ite] at h
    split at h
    · cases h
    · rename_i hc
      injection h with h; subst h
      simp only [Bool.or_eq_true, Bool.not_eq_true', not_or] at hc
      have hsz : sizeT E e ≠ 0 := fun e => hc.1 (by rw [e]; rfl)
      have hab : a = b := Nat.eq_of_beq_eq_true (by simpa using hc.2)
      subst hab
      cases hx; cases hy
      rename_i p hp q hq
      rw [hp] at hq; injection hq with hq; subst hq
      have hd : ((⟨p.at_, p.off + i, none⟩ : Addr) == ⟨p.at_, p.off + j, none⟩) = Nat.beq i j := by
        rw [Bool.eq_iff_iff]
        simp only [beq_iff_eq, Addr.mk.injEq, true_and, and_true, Nat.add_left_cancel_iff]
        exact ⟨fun e => by rw [e]; exact Nat.beq_refl j, Nat.eq_of_beq_eq_true⟩
      refine ⟨fun op => ?_, eql_run rfl rfl ?_⟩
      · cases op <;> rfl
      · rw [Op.equalIn, Sem.run_bind, run_und hE hu]
        simp only [Result.andThen_ok, Sem.run_bind, run_size hE (sizeT_some hsz), ne_eq, hsz, not_false_eq_true, if_true, sameAddr, beq_self_eq_true, hd, Sem.run_pure]
  case h_12 => cases h
  all_goals
    rename_i hu
    injection h with h; subst h
    cases hx; cases hy
    refine ⟨fun op => ?_, eql_run rfl rfl ?_⟩
    · cases op <;> rfl
    · rw [Op.equalIn, Sem.run_bind, run_und hE hu]; rfl

section
variable {E : Env} (hE : E.Ok) {nt : Nat} {ρ : Ren} {t : Tr Value} {a : Act} (ht : TR nt ρ t a) (w : World) {o : Oper} {v : Value}
include hE ht

theorem binOp_ok {op : BinOp} {ty yt : TypeId} {x y : Operand} (ho : o.op = .binOp op ty x y yt) (h : pureL E t o.op = some v) : POk E ρ a w o v := by
  rw [ho] at h
  simp only [pureL, binL] at h
  have hx := lev_ok ht x
  have hy := lev_ok ht y
  have fin : ∀ v', (do eqGuard op ty x y (a.eval x) (a.eval y); binOp op ty (a.eval x) (a.eval y) : Sem Value).run E.P w = .ok v' w → VR ρ v v' → POk E ρ a w o v := by
    intro v' hr hv
    exact ⟨v', by simp only [execOp, ho]; rw [Sem.run_bind, hr]; rfl, hv⟩
  split at h
  · rename_i r hr
    injection h with h; subst h
    split at hr
    · rename_i j m k n hl1 hl2
      rw [hl1] at hx; rw [hl2] at hy
      rw [cond_eq_ite] at hr
      split at hr
      · rename_i hk
        obtain rfl : j = k := by simpa [sameKind] using hk
        obtain ⟨h1, h2⟩ := intOp_ok (P := E.P) (t := ty) (x := x) (y := y) hr w
        generalize hg1 : a.eval x = g1 at hx fin
        generalize hg2 : a.eval y = g2 at hy fin
        cases hx; cases hy
        exact fin _ h1 (ground_refl 4 _ h2)
      · cases hr
    · cases hr
  · rw [cond_eq_ite] at h
    split at h
    · rename_i hg
      simp only [Bool.and_eq_true] at hg
      obtain ⟨h1, h2⟩ := pureG_ok h w
      rw [ground_eq 4 _ _ hg.1 hx, ground_eq 4 _ _ hg.2 hy] at fin
      exact fin _ h1 (ground_refl 4 _ h2)
    · split at h
      · split at h
        · rename_i r hr
          injection h with h; subst h
          obtain ⟨h1, h2, h3⟩ := nilEq_ok hE hr hx hy w x y
          refine fin _ ?_ (.bool _)
          simp only [Sem.run_bind, h1, Result.andThen_ok, h2]
        · cases h
      · split at h
        · rename_i r hr
          injection h with h; subst h
          obtain ⟨h1, h2, h3⟩ := nilEq_ok hE hr hx hy w x y
          refine fin _ ?_ (.bool _)
          simp only [Sem.run_bind, h1, Result.andThen_ok, h3]
        · cases h
      · cases h

omit hE ht in
/-- A call of a builtin. -/
theorem builtin_run {b : Builtin} {args : Array Operand} {ats : Array TypeId} (ho : o.op = .call { callee := .builtin b, args, argTypes := ats }) :
    ∃ cs, execOp a.eval o = (do let d ← pure (Deferred.mk (.builtin b ats o.type cs) (args.map a.eval)); invoke d.target d.args : Sem Next) := by
  exact ⟨args.map fun | .const _ => true | _ => false, by simp only [execOp, ho, resolve]; rfl⟩

theorem len_ok {args : Array Operand} {ats : Array TypeId} (ho : o.op = .call { callee := .builtin .len, args, argTypes := ats }) (h : pureL E t o.op = some v) : POk E ρ a w o v := by
  obtain ⟨cs, hcall⟩ := builtin_run ho
  rw [ho] at h
  simp only [pureL] at h
  split at h
  · rename_i x ty h0 ht0
    have hx := lev_ok ht x
    have h0' : (args.map a.eval)[0]? = some (a.eval x) := by simp [h0]
    have key : ∀ n : Nat, (Builtin.len_ ats o.type (args.map a.eval)).run E.P w = .ok (.int .i64 n) w → POk E ρ a w o (.int .i64 n) := by
      intro n hn
      refine ⟨.int .i64 n, ?_, .int _ _⟩
      rw [hcall]
      simp only [Sem.run_bind, Sem.run_pure, Result.andThen_ok, invoke, builtin, hn]
    split at h <;> first
      | (rename_i hu hl
         rw [hl] at hx
         injection h with h; subst h
         refine key _ ?_
         generalize hg : a.eval x = g at hx h0'
         cases hx <;> simp [Builtin.len_, ht0, h0', run_und hE hu, goInt])
      | (rename_i hu
         injection h with h; subst h
         refine key _ ?_
         simp [Builtin.len_, ht0, h0', run_und hE hu, goInt])
      | cases h
  · cases h

omit hE in
theorem args_ground {args : Array Operand} (h : (args.toList.all fun x => ground 4 (lev t x)) = true) : args.map a.eval = args.map (lev t) := by
  apply Array.ext'
  simp only [Array.toList_map]
  refine List.map_congr_left fun x hx => ?_
  exact ground_eq 4 _ _ (List.all_eq_true.1 h x hx) (lev_ok ht x)

omit hE in
theorem min_ok {args : Array Operand} {ats : Array TypeId} (ho : o.op = .call { callee := .builtin .min, args, argTypes := ats }) (h : pureL E t o.op = some v) : POk E ρ a w o v := by
  obtain ⟨cs, hcall⟩ := builtin_run ho
  rw [ho] at h
  simp only [pureL] at h
  rw [cond_eq_ite] at h
  split at h
  · rename_i hg
    obtain ⟨h1, h2⟩ := pureG_ok h w
    refine ⟨v, ?_, ground_refl 4 _ h2⟩
    rw [hcall]
    have : (Builtin.min_ ats o.type (args.map a.eval)).run E.P w = .ok v w := by rw [args_ground ht hg]; exact h1
    simp only [Sem.run_bind, Sem.run_pure, Result.andThen_ok, invoke, builtin, this]
  · cases h

omit hE in
theorem max_ok {args : Array Operand} {ats : Array TypeId} (ho : o.op = .call { callee := .builtin .max, args, argTypes := ats }) (h : pureL E t o.op = some v) : POk E ρ a w o v := by
  obtain ⟨cs, hcall⟩ := builtin_run ho
  rw [ho] at h
  simp only [pureL] at h
  rw [cond_eq_ite] at h
  split at h
  · rename_i hg
    obtain ⟨h1, h2⟩ := pureG_ok h w
    refine ⟨v, ?_, ground_refl 4 _ h2⟩
    rw [hcall]
    have : (Builtin.max_ ats o.type (args.map a.eval)).run E.P w = .ok v w := by rw [args_ground ht hg]; exact h1
    simp only [Sem.run_bind, Sem.run_pure, Result.andThen_ok, invoke, builtin, this]
  · cases h

/-- All of them. -/
theorem pure_ok (h : pureL E t o.op = some v) : POk E ρ a w o v := by
  cases ho : o.op with
  | move x => exact move_ok ht w (.inl ho) h
  | assign x => exact move_ok ht w (.inr ho) h
  | pick c x y => exact pick_ok ht w ho h
  | build ty parts => exact build_ok hE ht w ho h
  | nilCheck x => exact nilCheck_ok ht w ho h
  | binOp op ty x y yt => exact binOp_ok hE ht w ho h
  | unOp op ty x => exact unOp_ok ht w ho h
  | convert src dst x => exact convert_ok hE ht w ho h
  | makeInterface ty x => exact makeInterface_ok hE ht w ho h
  | makeFunc fn x y => exact makeFunc_ok ht w ho h
  | slice ty x lo hi mx => exact slice_ok hE ht w ho h
  | fieldAddr sty x f => exact fieldAddr_ok hE ht w ho h
  | field ty x f => exact field_ok hE ht w ho h
  | indexAddr ty x ix => exact indexAddr_ok hE ht w ho h
  | index ty x ix => exact index_ok hE ht w ho h
  | extract x i => exact extract_ok ht w ho h
  | sliceToArrayPointer ty x => exact toArrayPointer_ok hE ht w ho h
  | call c =>
    obtain ⟨callee, args, ats⟩ := c
    cases callee with
    | builtin b =>
      cases b with
      | len => exact len_ok hE ht w ho h
      | min => exact min_ok ht w ho h
      | max => exact max_ok ht w ho h
      | _ => rw [ho] at h; simp [pureL] at h
    | _ => rw [ho] at h; simp [pureL] at h
  | _ => rw [ho] at h; simp [pureL] at h

end
end Go.Proofs.Ytkncaafjkoeijaa.Eng
