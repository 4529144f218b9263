
/- The machine's runs are the program's: calls, lists of operations, code. -/
import Derived.Test.YtkncaafjkoeijaaEngX
namespace Go.Proofs.Ytkncaafjkoeijaa.Eng
open Go
set_option linter.unusedVariables false
set_option linter.unusedSimpArgs false

def LX.to : LX → Exit
  | .normal => .normal
  | .exit id => .exit id
  | .ret => .ret

theorem Free.left {ρ : Ren} {a b c : Nat} (h : Free ρ a c) (hb : b ≤ c) : Free ρ a b := fun i h1 h2 => h i h1 (by omega)
theorem Free.right {ρ ρ' : Ren} {s s' s'' : LS} {w w' : World} (h : Free ρ s.nx s''.nx) (hm : s.nx ≤ s'.nx) (hS : St ρ s w ρ' s' w') : Free ρ' s'.nx s''.nx := fun i h1 h2 => by
  rw [hS.out i (.inr h1)]; exact h i (by omega) h2

def CallOk (E : Env) (f : Nat) : Prop := ∀ g args s v s', callL E f g args s = .ok (v, s') → Mono s s' ∧ ∀ B ρ w (args' : Array Value), R B ρ s w → VRs ρ args args'.toList → Free ρ s.nx s'.nx →
  Calls E.P g args' w (fun e w' => ∃ ρ' v', e = .returned v' ∧ St ρ s w ρ' s' w' ∧ R B ρ' s' w' ∧ VR ρ' v v')

def ActOk (E : Env) (f : Nat) : Prop := ∀ s t (o : Oper) v s', actL E f s t o.op = .ok (v, s') → Mono s s' ∧ ∀ B nt ρ w a, R B ρ s w → TR nt ρ t a → Free ρ s.nx s'.nx → ∀ (K : Act → World → Prop) (Q : Exit → Act → World → Prop),
  (∀ ρ' w' v', St ρ s w ρ' s' w' → R B ρ' s' w' → VR ρ' v v' → K (a.put o.dst v') w') → o.wp E.P a w K Q

def OpsOk (E : Env) (f : Nat) : Prop := ∀ nt ops l t s t' s', opsL E f nt ops l t s = .ok (t', s') → Mono s s' ∧ ∀ B ρ w a, R B ρ s w → TR nt ρ t a → Free ρ s.nx s'.nx → ∀ (Q : Exit → Act → World → Prop),
  (∀ ρ' a' w', St ρ s w ρ' s' w' → R B ρ' s' w' → TR nt ρ' t' a' → Q .normal a' w') → wpList E.P ops Q l a w

/-- A region that draws its order. -/
def DrawOk (E : Env) (f : Nat) : Prop := ∀ nt (ops : Array Oper) pl t s t' s' id, plan ops.toList = some pl → drawL E f nt ops ops.toList pl t s s.h 0 0 = .ok (t', s') → Mono s s' ∧ ∀ B ρ w a, R B ρ s w → TR nt ρ t a → Free ρ s.nx s'.nx → ∀ (Q : Exit → Act → World → Prop),
  (∀ ρ' a' w', St ρ s w ρ' s' w' → R B ρ' s' w' → TR nt ρ' t' a' → Q .normal a' w') → (Code.region id ops true).wp E.P Q a w

def ExecOk (E : Env) (f : Nat) : Prop := ∀ nt c t s x t' s', execL E f nt c t s = .ok (x, t', s') → Mono s s' ∧ ∀ B ρ w a, R B ρ s w → TR nt ρ t a → Free ρ s.nx s'.nx → ∀ (Q : Exit → Act → World → Prop),
  (∀ ρ' a' w', St ρ s w ρ' s' w' → R B ρ' s' w' → TR nt ρ' t' a' → Q x.to a' w') → c.wp E.P Q a w

def LoopOk (E : Env) (f : Nat) : Prop := ∀ nt c t s x t' s', execL E f nt (.loop c) t s = .ok (x, t', s') → Mono s s' ∧ ∀ B ρ w a, R B ρ s w → TR nt ρ t a → Free ρ s.nx s'.nx → ∀ (Q : Exit → Act → World → Prop),
  (∀ ρ' a' w', St ρ s w ρ' s' w' → R B ρ' s' w' → TR nt ρ' t' a' → Q x.to a' w') → Code.rounds E.P c Q f a w

theorem callee_ok {E : Env} {nt : Nat} {ρ : Ren} {t : Tr Value} {a : Act} (ht : TR nt ρ t a) {o : Oper} {g : FuncId} {args : List Value} (h : calleeL t o.op = some (g, args)) (hE : E.Ok) {fn : Func} {c : Code} (hf : E.fns.get g = some fn) (hc : fn.body = some c) (w : World) :
    ∃ args' : Array Value, (execOp a.eval o).run E.P w = .ok (.enter g args') w ∧ VRs ρ args args'.toList := by
  unfold calleeL at h
  split at h
  · rename_i f as ats hop
    have hx := lev_ok ht f
    split at h
    · rename_i g' x y hl
      injection h with h; injection h with h1 h2; subst h1 h2
      rw [hl] at hx
      generalize hg : a.eval f = u at hx
      cases hx
      rename_i x' y' hx hy
      refine ⟨x' ++ as.map a.eval ++ y', ?_, ?_⟩
      · have h1 := hE.fns _ _ hf
        have h2 := hE.names _ _ hf
        simp only [execOp, hop, resolve, Sem.run_bind, hg, Deferred.ofValue, Sem.run_pure, Result.andThen_ok, invoke, callFunc, run_program, h1, h2, Bool.false_eq_true, if_false, hc, Option.isNone_some]
      · simp only [Array.toList_append, Array.toList_map, List.append_assoc]
        exact VRs.append (VRs.append hy (levs_ok ht as.toList)) hx
    · cases h
  · cases h

section
variable {E : Env} (hE : E.Ok)
include hE

theorem call_step {f : Nat} (hX : ExecOk E f) : CallOk E (f + 1) := by
  intro g args s v s' h
  simp only [callL] at h
  split at h
  · rename_i fn hfn
    split at h
    · rename_i c hc
      have fin : ∀ x t s1 l, execL E f (Nat.max args.length fn.ntmps) c (frameL 0 args) s = .ok (x, t, s1) → (x = .normal ∨ x = .ret) → resultsL E s1 t fn.results.toList = some l → v = resultL l → s' = s1 →
          Mono s s' ∧ ∀ B ρ w (args' : Array Value), R B ρ s w → VRs ρ args args'.toList → Free ρ s.nx s'.nx →
          Calls E.P g args' w (fun e w' => ∃ ρ' v', e = .returned v' ∧ St ρ s w ρ' s' w' ∧ R B ρ' s' w' ∧ VR ρ' v v') := by
        intro x t s1 l hex hxx hl e1 e2
        subst e1 e2
        obtain ⟨hm, hrun⟩ := hX _ _ _ _ _ _ _ hex
        refine ⟨hm, fun B ρ w args' hR hv hF => ?_⟩
        refine calls_of_wp (hE.fns _ _ hfn) hc (hrun B ρ w _ hR (frame_ok hv fn.ntmps) hF _ ?_)
        intro ρ' a' w' hS hR' ht'
        obtain ⟨v', hr, hvr⟩ := results_ok hE hR' ht' hl
        have : bodyPost E.P fn (fun e w' => ∃ ρ' v', e = .returned v' ∧ St ρ s w ρ' s' w' ∧ R B ρ' s' w' ∧ VR ρ' (resultL l) v') .normal a' w' :=
          ⟨ht'.defers, v', hr, ρ', v', rfl, hS, hR', hvr⟩
        rcases hxx with rfl | rfl
        · exact this
        · exact this
      split at h
      · rename_i t s1 hex
        split at h
        · rename_i l hl
          injection h with h; injection h with h1 h2
          exact fin _ _ _ _ hex (.inl rfl) hl h1.symm h2.symm
        · cases h
      · rename_i t s1 hex
        split at h
        · rename_i l hl
          injection h with h; injection h with h1 h2
          exact fin _ _ _ _ hex (.inr rfl) hl h1.symm h2.symm
        · cases h
      · cases h
      · cases h
    · cases h
  · cases h

theorem act_step {f : Nat} (hC : CallOk E f) : ActOk E (f + 1) := by
  intro s t o v s' h
  simp only [actL] at h
  split at h
  · rename_i g args hg
    split at h
    · rename_i v1 s1 hcl
      injection h with h; injection h with h1 h2; subst h1 h2
      obtain ⟨hm, hrun⟩ := hC _ _ _ _ _ hcl
      refine ⟨hm, fun B nt ρ w a hR ht hF K Q hK => ?_⟩
      have hb : ∃ fn c, E.fns.get g = some fn ∧ fn.body = some c := by
        cases f with
        | zero => simp [callL] at hcl
        | succ f =>
          simp only [callL] at hcl
          split at hcl
          · rename_i fn hfn
            split at hcl
            · rename_i c hc; exact ⟨fn, c, hfn, hc⟩
            · cases hcl
          · cases hcl
      obtain ⟨fn, c, hfn, hc⟩ := hb
      obtain ⟨args', hr, hv⟩ := callee_ok ht hg hE hfn hc w
      unfold Oper.wp
      rw [hr, Oper.upon_enter]
      refine (hrun B ρ w args' hR hv hF).mono ?_
      rintro e w' ⟨ρ', v', rfl, hS, hR', hvr⟩
      exact hK ρ' w' v' hS hR' hvr
    · cases h
  · split at h
    · rename_i v1 s1 hop
      injection h with h; injection h with h1 h2; subst h1 h2
      refine ⟨op_mono hop, fun B nt ρ w a hR ht hF K Q hK => ?_⟩
      obtain ⟨w', ρ', v', hr, hS, hR', hv⟩ := op_ok hE ht hR hF hop
      unfold Oper.wp
      rcases hr with hr | ⟨hr, rfl⟩
      · rw [hr, Oper.upon_value]; exact hK ρ' w' v' hS hR' hv
      · rw [hr, Oper.upon_skip]; exact hK ρ' w' undef hS hR' hv
    · cases h

omit hE in
theorem ops_step {f : Nat} (hA : ActOk E f) (hO : OpsOk E f) : OpsOk E (f + 1) := by
  intro nt ops l t s t' s' h
  cases l with
  | nil =>
    simp only [opsL] at h
    injection h with h; injection h with h1 h2; subst h1 h2
    exact ⟨Mono.refl _, fun B ρ w a hR ht hF Q hQ => hQ ρ a w (.refl _ _ _) hR ht⟩
  | cons o l =>
    simp only [opsL] at h
    split at h
    · cases h
    · rename_i hw
      rw [cond_eq_ite] at h
      split at h
      · rename_i hd
        obtain ⟨hm, hrun⟩ := hO _ _ _ _ _ _ _ h
        refine ⟨hm, fun B ρ w a hR ht hF Q hQ => ?_⟩
        unfold wpList
        rw [if_neg (by rw [wanted_ok ht hw]; decide)]
        exact hrun B ρ w _ hR (ht.put (fun _ _ h => h) .undef hd) hF Q hQ
      · cases h
    · rename_i hw
      rw [cond_eq_ite] at h
      split at h
      · rename_i hd
        split at h
        · rename_i v s1 hact
          obtain ⟨hm1, hrun1⟩ := hA _ _ _ _ _ hact
          obtain ⟨hm2, hrun2⟩ := hO _ _ _ _ _ _ _ h
          refine ⟨hm1.trans hm2, fun B ρ w a hR ht hF Q hQ => ?_⟩
          unfold wpList
          rw [if_pos (wanted_ok ht hw)]
          left
          refine hrun1 B nt ρ w a hR ht (hF.left hm2.nx) _ _ ?_
          intro ρ' w' v' hS hR' hv
          refine hrun2 B ρ' w' _ hR' (ht.put hS.ext hv hd) (hF.right hm1.nx hS) Q ?_
          intro ρ'' a' w'' hS' hR'' ht'
          exact hQ ρ'' a' w'' (hS.trans hm1.nx hm2.nx hS') hR'' ht'
        · cases h
      · cases h

omit hE in
theorem loop_step {f : Nat} (hX : ExecOk E f) (hL : LoopOk E f) : LoopOk E (f + 1) := by
  intro nt c t s x t' s' h
  simp only [execL] at h
  split at h
  · rename_i t1 s1 hc
    obtain ⟨hm1, hrun1⟩ := hX _ _ _ _ _ _ _ hc
    obtain ⟨hm2, hrun2⟩ := hL _ _ _ _ _ _ _ h
    refine ⟨hm1.trans hm2, fun B ρ w a hR ht hF Q hQ => ?_⟩
    rw [rounds_succ]
    refine hrun1 B ρ w a hR ht (hF.left hm2.nx) _ ?_
    intro ρ' a' w' hS hR' ht'
    refine hrun2 B ρ' w' a' hR' ht' (hF.right hm1.nx hS) Q ?_
    intro ρ'' a'' w'' hS' hR'' ht''
    exact hQ ρ'' a'' w'' (hS.trans hm1.nx hm2.nx hS') hR'' ht''
  · rename_i r hne
    obtain ⟨hm1, hrun1⟩ := hX _ _ _ _ _ _ _ h
    refine ⟨hm1, fun B ρ w a hR ht hF Q hQ => ?_⟩
    rw [rounds_succ]
    refine hrun1 B ρ w a hR ht hF _ ?_
    intro ρ' a' w' hS hR' ht'
    have := hQ ρ' a' w' hS hR' ht'
    cases x with
    | normal => exact absurd h (hne _ _)
    | exit id => exact this
    | ret => exact this

omit hE in
theorem exec_step {f : Nat} (hX : ExecOk E f) (hO : OpsOk E f) (hD : DrawOk E f) (hL : LoopOk E (f + 1)) : ExecOk E (f + 1) := by
  intro nt c t s x t' s' h
  cases c with
  | skip =>
    simp only [execL] at h
    injection h with h; injection h with h1 h2; injection h2 with h2 h3; subst h1 h2 h3
    exact ⟨Mono.refl _, fun B ρ w a hR ht hF Q hQ => wp_skip (hQ ρ a w (.refl _ _ _) hR ht)⟩
  | label l =>
    simp only [execL] at h
    injection h with h; injection h with h1 h2; injection h2 with h2 h3; subst h1 h2 h3
    exact ⟨Mono.refl _, fun B ρ w a hR ht hF Q hQ => wp_label (hQ ρ a w (.refl _ _ _) hR ht)⟩
  | exit id =>
    simp only [execL] at h
    injection h with h; injection h with h1 h2; injection h2 with h2 h3; subst h1 h2 h3
    exact ⟨Mono.refl _, fun B ρ w a hR ht hF Q hQ => wp_exit (hQ ρ a w (.refl _ _ _) hR ht)⟩
  | ret =>
    simp only [execL] at h
    injection h with h; injection h with h1 h2; injection h2 with h2 h3; subst h1 h2 h3
    exact ⟨Mono.refl _, fun B ρ w a hR ht hF Q hQ => wp_ret (hQ ρ a w (.refl _ _ _) hR ht)⟩
  | seq c d =>
    simp only [execL] at h
    split at h
    · rename_i t1 s1 hc
      obtain ⟨hm1, hrun1⟩ := hX _ _ _ _ _ _ _ hc
      obtain ⟨hm2, hrun2⟩ := hX _ _ _ _ _ _ _ h
      refine ⟨hm1.trans hm2, fun B ρ w a hR ht hF Q hQ => wp_seq ?_⟩
      refine hrun1 B ρ w a hR ht (hF.left hm2.nx) _ ?_
      intro ρ' a' w' hS hR' ht'
      refine hrun2 B ρ' w' a' hR' ht' (hF.right hm1.nx hS) Q ?_
      intro ρ'' a'' w'' hS' hR'' ht''
      exact hQ ρ'' a'' w'' (hS.trans hm1.nx hm2.nx hS') hR'' ht''
    · rename_i r hne
      obtain ⟨hm1, hrun1⟩ := hX _ _ _ _ _ _ _ h
      refine ⟨hm1, fun B ρ w a hR ht hF Q hQ => wp_seq ?_⟩
      refine hrun1 B ρ w a hR ht hF _ ?_
      intro ρ' a' w' hS hR' ht'
      have := hQ ρ' a' w' hS hR' ht'
      cases x with
      | normal => exact absurd h (hne _ _)
      | exit id => exact this
      | ret => exact this
  | cond y c d =>
    simp only [execL] at h
    split at h
    · rename_i hl
      obtain ⟨hm1, hrun1⟩ := hX _ _ _ _ _ _ _ h
      refine ⟨hm1, fun B ρ w a hR ht hF Q hQ => wp_cond_true ?_ (hrun1 B ρ w a hR ht hF Q hQ)⟩
      have := lev_ok ht y; rw [hl] at this; exact (this.bool_of rfl true).2 rfl
    · rename_i hl
      obtain ⟨hm1, hrun1⟩ := hX _ _ _ _ _ _ _ h
      refine ⟨hm1, fun B ρ w a hR ht hF Q hQ => wp_cond_false ?_ (hrun1 B ρ w a hR ht hF Q hQ)⟩
      have := lev_ok ht y; rw [hl] at this; exact (this.bool_of rfl false).2 rfl
    · cases h
  | block id c =>
    simp only [execL] at h
    split at h
    · rename_i j t1 s1 hc
      obtain ⟨hm1, hrun1⟩ := hX _ _ _ _ _ _ _ hc
      rw [beq_ite] at h
      split at h
      · rename_i e
        injection h with h; injection h with h1 h2; injection h2 with h2 h3; subst h1 h2 h3
        refine ⟨hm1, fun B ρ w a hR ht hF Q hQ => wp_block ?_⟩
        refine hrun1 B ρ w a hR ht hF _ ?_
        intro ρ' a' w' hS hR' ht'
        show (if j = id then Q .normal a' w' else Q (.exit j) a' w')
        rw [if_pos e]; exact hQ ρ' a' w' hS hR' ht'
      · rename_i e
        injection h with h; injection h with h1 h2; injection h2 with h2 h3; subst h1 h2 h3
        refine ⟨hm1, fun B ρ w a hR ht hF Q hQ => wp_block ?_⟩
        refine hrun1 B ρ w a hR ht hF _ ?_
        intro ρ' a' w' hS hR' ht'
        show (if j = id then Q .normal a' w' else Q (.exit j) a' w')
        rw [if_neg e]; exact hQ ρ' a' w' hS hR' ht'
    · rename_i r hne
      obtain ⟨hm1, hrun1⟩ := hX _ _ _ _ _ _ _ h
      refine ⟨hm1, fun B ρ w a hR ht hF Q hQ => wp_block ?_⟩
      refine hrun1 B ρ w a hR ht hF _ ?_
      intro ρ' a' w' hS hR' ht'
      have := hQ ρ' a' w' hS hR' ht'
      cases x with
      | normal => exact this
      | exit id => exact absurd h (hne _ _ _)
      | ret => exact this
  | loop c =>
    obtain ⟨hm, hrun⟩ := hL _ _ _ _ _ _ _ h
    exact ⟨hm, fun B ρ w a hR ht hF Q hQ => wp_loop_rounds (f + 1) (hrun B ρ w a hR ht hF Q hQ)⟩
  | region id ops dr =>
    cases dr with
    | false =>
      simp only [execL] at h
      split at h
      · rename_i t1 s1 ho
        injection h with h; injection h with h1 h2; injection h2 with h2 h3; subst h1 h2 h3
        obtain ⟨hm, hrun⟩ := hO _ _ _ _ _ _ _ ho
        exact ⟨hm, fun B ρ w a hR ht hF Q hQ => wp_region_list (hrun B ρ w a hR ht hF Q hQ)⟩
      · cases h
    | true =>
      simp only [execL] at h
      split at h
      · rename_i pl hpl
        split at h
        · rename_i t1 s1 ho
          injection h with h; injection h with h1 h2; injection h2 with h2 h3; subst h1 h2 h3
          exact hD _ _ _ _ _ _ _ id hpl ho
        · cases h
      · cases h
  | _ => simp [execL] at h

end
end Go.Proofs.Ytkncaafjkoeijaa.Eng
