
/- The machine, whole: a call whose run on the machine's empty heap answers true answers true in every world, and leaves what was there. -/
import Derived.Test.YtkncaafjkoeijaaEngG
import Derived.Below
namespace Go.Proofs.Ytkncaafjkoeijaa.Eng
open Go Go.RowKit
set_option linter.unusedVariables false
set_option linter.unusedSimpArgs false

section
variable {E : Env} {F nt : Nat} {ops : Array Oper} {ms : List Nat} {t : Tr Value} {s : LS}

theorem ready_spec {l : Array Bool} (hl : l.size = ops.size) (j : Nat) : j ∈ Region.ready .any ops l ↔ j < ops.size ∧ ¬ Ls l j ∧ ∃ o, ops[j]? = some o ∧ ∀ e ∈ o.after.toList, Region.binds .any e = true → Ls l e.on := by
  unfold Region.ready Ls
  simp only [List.mem_filter, List.mem_range, Bool.and_eq_true, Bool.not_eq_true']
  constructor
  · rintro ⟨h1, h2, h3⟩
    have ho : ops[j]? = some ops[j] := Array.getElem?_eq_getElem h1
    refine ⟨h1, ?_, ops[j], ho, ?_⟩
    · have hjl : j < l.size := by omega
      simp only [Array.getD_eq_getD_getElem?, Array.getElem?_eq_getElem hjl, Option.getD_some] at h2 ⊢
      simp [h2]
    · intro e he hb
      rw [ho] at h3
      simp only [Option.map_some, Option.getD_some, Array.all_eq_true_iff_forall_mem] at h3
      have := h3 e (by simpa using he)
      simpa [hb] using this
  · rintro ⟨h1, h2, o, ho, h3⟩
    refine ⟨h1, ?_, ?_⟩
    · have hjl : j < l.size := by omega
      simp only [Array.getD_eq_getD_getElem?, Array.getElem?_eq_getElem hjl, Option.getD_some] at h2 ⊢
      simpa using h2
    · rw [ho]
      simp only [Option.map_some, Option.getD_some, Array.all_eq_true_iff_forall_mem]
      intro e he
      cases hb : Region.binds .any e with
      | false => rfl
      | true => simpa using h3 e (by simpa using he) hb

theorem Inv.any {c : Cx E F nt ops ms t s} (hA : ∀ g, g ≤ F → ActOk E g) (hw : ∀ i, s.nx ≤ i → s.h.get i = none) {B : Nat} {ρ0 : Ren} {w0 : World} {Q : Exit → Act → World → Prop}
    (hQ : ∀ ρ' a' w', St ρ0 s w0 ρ' (c.S ops.size) w' → R B ρ' (c.S ops.size) w' → TR nt ρ' (c.T ops.size) a' → Q .normal a' w') :
    ∀ (fuel : Nat) (l : Array Bool) (a : Act) (w : World) (ρ : Ren) (h : LS) (ts : Tr Value) (b : Nat), l.toList.count false = fuel → Inv c B ρ0 w0 l a w ρ h ts b → wpAny E.P .any ops Q fuel l a w := by
  have done : ∀ (l : Array Bool) (a : Act) (w : World) (ρ : Ren) (h : LS) (ts : Tr Value) (b : Nat), Region.ready .any ops l = [] → Inv c B ρ0 w0 l a w ρ h ts b → Q .normal a w := by
    intro l a w ρ h ts b hr I
    have hall : ∀ j, j < ops.size → Ls l j := by
      intro j
      induction j using Nat.strongRecOn with
      | _ j ih =>
        intro hj
        by_cases hlj : Ls l j
        · exact hlj
        · exfalso
          obtain ⟨o, ho⟩ := op_some hj
          have : j ∈ Region.ready .any ops l := (ready_spec I.size j).2 ⟨hj, hlj, o, ho, fun e he hb => by
            have hlt := (c.sd j o ho).back e he hb
            exact ih e.on hlt (by omega)⟩
          rw [hr] at this; cases this
    have hnob : ∀ k, b ≤ k → k < ops.size → ¬ c.Bar k := fun k h1 h2 => I.post k h1 (hall k h2)
    have hheap : ∀ i, h.h.get i = (c.S ops.size).h.get i := by
      intro i
      by_cases h1 : i < (c.S b).nx
      · rw [I.p1 i h1, c.stable' hA I.ble (Nat.le_refl _) hnob h1]
      · by_cases h2 : i < (c.S ops.size).nx
        · obtain ⟨k, k1, k2, k3, k4⟩ := c.locate ops.size b i I.ble (by omega) h2
          rw [I.p2 k k1 k2 (hall k k2) i k3 k4, c.stable' hA (show k + 1 ≤ ops.size by omega) (Nat.le_refl _) (fun k' h1 h2 => hnob k' (by omega) h2) k4]
        · rw [I.p4 i (by omega), c.wf hA hw (Nat.le_refl _) i (by omega)]
    have hR : R B ρ (c.S ops.size) w := I.r.sub (fun i x hx => by rw [hheap]; exact hx) (fun i x hx => by
      have := I.r.wf i x (by rw [hheap]; exact hx)
      rw [I.nx] at this; exact this)
    have hS : St ρ0 s w0 ρ (c.S ops.size) w := ⟨I.st.ext, fun i hi => I.st.out i (by rw [I.nx]; exact hi), I.st.size, I.st.os, I.st.tape, I.st.output, I.st.keeps, fun i x p hx hp => I.st.places i x p (by rw [hheap]; exact hx) hp⟩
    refine hQ ρ a w hS hR ⟨I.tr.size, fun i => ?_, I.tr.defers⟩
    obtain ⟨f1, f2⟩ := c.frame ops.size (Nat.le_refl _)
    have : ts.get i = (c.T ops.size).get i := by
      by_cases hwr : ∃ (k : Nat) (o' : Oper), ops[k]? = some o' ∧ o'.dst = some i
      · obtain ⟨k, o', hk, hdst⟩ := hwr
        have hkn : k < ops.size := (Array.getElem?_eq_some_iff.1 hk).1
        rw [I.t1 k o' i hk hdst (hall k hkn), f1 k o' i hkn hk hdst]
      · rw [I.t2 i (fun k o' hk hdst => absurd ⟨k, o', hk, hdst⟩ hwr), f2 i (fun k o' _ hk hdst => hwr ⟨k, o', hk, hdst⟩)]
    have hv := I.tr.val i
    simp only [lev] at hv ⊢
    rw [← this]; exact hv
  intro fuel
  induction fuel with
  | zero =>
    intro l a w ρ h ts b hc I
    have hr : Region.ready .any ops l = [] := by
      cases hr : Region.ready .any ops l with
      | nil => rfl
      | cons j r =>
        exfalso
        have hj : j ∈ Region.ready .any ops l := by rw [hr]; simp
        obtain ⟨h1, h2, _⟩ := (ready_spec I.size j).1 hj
        have hjl : j < l.size := by rw [I.size]; exact h1
        have : false ∈ l.toList := by
          unfold Ls at h2
          simp only [Array.getD_eq_getD_getElem?, Array.getElem?_eq_getElem hjl, Option.getD_some] at h2
          have : l[j] = false := by simpa using h2
          rw [← this]; simp
        exact absurd (List.count_pos_iff.2 this) (by omega)
    exact ⟨hr, done l a w ρ h ts b hr I⟩
  | succ fuel ih =>
    intro l a w ρ h ts b hc I
    refine ⟨fun hr => done l a w ρ h ts b hr I, fun j hj => ?_⟩
    obtain ⟨h1, h2, o, ho, h3⟩ := (ready_spec I.size j).1 hj
    have hjl : j < l.size := by rw [I.size]; exact h1
    -- what it waits for has been carried out
    have hmask : ∀ k, Nat.testBit (ms.getD j 0) k = true → Ls l k ∧ k < j := by
      have key : ∀ n i, i ≤ n → i < ops.size → ∀ k, Nat.testBit (ms.getD i 0) k = true → k < i := by
        intro n
        induction n with
        | zero =>
          intro i hi hin k hk
          obtain ⟨oi, hoi⟩ := op_some hin
          obtain ⟨e, he, hb, _⟩ := c.closed i k oi hoi hk
          have := (c.sd i oi hoi).back e he hb
          omega
        | succ n ihn =>
          intro i hi hin k hk
          obtain ⟨oi, hoi⟩ := op_some hin
          obtain ⟨e, he, hb, hor⟩ := c.closed i k oi hoi hk
          have hlt := (c.sd i oi hoi).back e he hb
          rcases hor with rfl | hk2
          · exact hlt
          · have := ihn e.on (by omega) (by omega) k hk2; omega
      intro k hk
      refine ⟨?_, key j j (Nat.le_refl _) h1 k hk⟩
      obtain ⟨e, he, hb, hor⟩ := c.closed j k o ho hk
      rcases hor with rfl | hk2
      · exact h3 e he hb
      · exact I.closed e.on (h3 e he hb) k hk2
    refine I.step hA hw ho h2 hmask ?_
    intro a' w' ρ' h' ts' b' I'
    refine ih _ a' w' ρ' h' ts' b' ?_ I'
    have hjf : l.toList[j]? = some false := by
      unfold Ls at h2
      simp only [Array.getD_eq_getD_getElem?, Array.getElem?_eq_getElem hjl, Option.getD_some] at h2
      have : l[j] = false := by simpa using h2
      rw [← this]; simp [hjl]
    have := count_set l.toList j hjf
    rw [Array.toList_setIfInBounds]
    omega

theorem draw_ok {E : Env} (hE : E.Ok) {f : Nat} (hA : ∀ g, g ≤ f → ActOk E g) : DrawOk E f := by
  intro nt ops pl t s t' s' id hpl h
  obtain ⟨ms, c, hT, hS⟩ := Cx.make hpl h
  subst hT hS
  have hm : Mono s (c.S ops.size) := by
    have := c.mono hA ops.size 0 (by omega)
    rw [c.s0, Nat.zero_add] at this; exact this
  refine ⟨hm, fun B ρ w a hR ht hF Q hQ => ?_⟩
  have hw : ∀ i, s.nx ≤ i → s.h.get i = none := by
    intro i hi
    cases hg : s.h.get i with
    | none => rfl
    | some o => have := hR.wf i o hg; omega
  refine wp_region_any hE.mixed ?_
  have hcount : (Array.replicate ops.size false).toList.count false = ops.size := by simp
  have hno : ∀ k, ¬ Ls (Array.replicate ops.size false) k := by
    intro k hk
    unfold Ls at hk
    simp only [Array.getD_eq_getD_getElem?, Array.getElem?_replicate] at hk
    split at hk <;> simp at hk
  have hrw : R B ρ ⟨s.h, (c.S ops.size).nx, big⟩ w.drew := by
    refine ⟨hR.base, fun i o hi => Nat.lt_of_lt_of_le (hR.wf i o hi) hm.nx, fun i o hi => ?_, hR.inj⟩
    obtain ⟨p, hp, hor, h1, h2⟩ := hR.obj i o hi
    exact ⟨p, hp, hor.keep (fun _ _ h => h) rfl, h1, h2⟩
  have hst : St ρ s w ρ ⟨s.h, (c.S ops.size).nx, big⟩ w.drew := ⟨fun _ _ h => h, fun _ _ => rfl, Nat.le_refl _, rfl, rfl, rfl, fun _ _ _ => rfl, fun i o p hi hp => .inr ⟨i, o, p, hi, hp, rfl⟩⟩
  refine Inv.any (c := c) hA hw hQ ops.size _ a w.drew ρ ⟨s.h, (c.S ops.size).nx, big⟩ t 0 hcount
    ⟨by simp, fun j hj => absurd hj (hno j), rfl, .inl rfl, Nat.zero_le _, fun k h => by omega, fun k _ hk => absurd hk (hno k), fun i _ => by rw [c.s0], fun k _ _ hk => absurd hk (hno k), ?_, ?_, hst, hrw, ht, fun k o d _ _ hk => absurd hk (hno k), fun d _ => rfl⟩
  · intro k _ hkn _ i h1 h2
    have g1 := c.nx hA (Nat.zero_le k) (by omega)
    have g2 := c.nx hA (show k + 1 ≤ ops.size by omega) (Nat.le_refl _)
    rw [c.s0] at g1
    exact ⟨hw i (by omega), hF i (by omega) (by omega)⟩
  · intro i hi
    exact hw i (Nat.le_trans hm.nx hi)

end

theorem all_ok {E : Env} (hE : E.Ok) : ∀ f, CallOk E f ∧ ActOk E f ∧ OpsOk E f ∧ ExecOk E f ∧ LoopOk E f ∧ ∀ g, g ≤ f → ActOk E g := by
  intro f
  induction f with
  | zero =>
    have ha : ActOk E 0 := fun s t o v s' h => by simp [actL] at h
    refine ⟨fun g args s v s' h => by simp [callL] at h, ha, fun nt ops l t s t' s' h => by simp [opsL] at h, fun nt c t s x t' s' h => by simp [execL] at h, fun nt c t s x t' s' h => by simp [execL] at h, ?_⟩
    intro g hg
    obtain rfl : g = 0 := by omega
    exact ha
  | succ f ih =>
    obtain ⟨hC, hA, hO, hX, hL, hall⟩ := ih
    have hA' := act_step hE hC
    have hL' := loop_step hX hL
    refine ⟨call_step hE hX, hA', ops_step hA hO, exec_step hX hO (draw_ok hE hall) hL', hL', ?_⟩
    intro g hg
    rcases Nat.lt_or_ge g (f + 1) with h | h
    · exact hall g (by omega)
    · obtain rfl : g = f + 1 := by omega
      exact hA'

/-- A call without arguments that answers true on the machine's empty heap does so in every world, and leaves what was there. -/
theorem runs {E : Env} (hE : E.Ok) {f : Nat} {g : FuncId} (h : isTrue (runL E f g []) = true) (w : World) : Calls E.P g #[] w fun e w' => e = .returned (.bool true) ∧ Below w.heap.size w w' := by
  unfold runL at h
  cases hc : callL E f g [] ⟨.e, 0, 0⟩ with
  | bad l => rw [hc] at h; simp [isTrue] at h
  | ok r =>
    obtain ⟨v, s'⟩ := r
    rw [hc] at h
    have hv : v = .bool true := by
      simp only [isTrue] at h
      split at h
      · rename_i e; injection e
      · cases h
    subst hv
    obtain ⟨_, hrun⟩ := (all_ok hE f).1 _ _ _ _ _ hc
    have hR : R w.heap.size (fun _ => none) ⟨.e, 0, 0⟩ w := ⟨Nat.le_refl _, fun i o h => by simp [Tr.get] at h, fun i o h => by simp [Tr.get] at h, fun i j o o' p q h => by simp [Tr.get] at h⟩
    refine (hrun w.heap.size _ w #[] hR .nil (fun _ _ _ => rfl)).mono ?_
    rintro e w' ⟨ρ', v', rfl, hS, hR', hv⟩
    cases hv
    exact ⟨rfl, hS.os, hS.tape, hS.output, hS.size, fun k hk => hS.keeps k hk (fun i o p h => by simp [Tr.get] at h)⟩

/-- The same of a call that looks at none of its unknown arguments ('bot'), and answers a value without an address. -/
theorem runsAny {E : Env} (hE : E.Ok) {f : Nat} {g : FuncId} {args : List Value} {v : Value} (h : runL E f g args = .ok v) (hg : ground 4 v = true) {args' : Array Value} (ha : VRs (fun _ => none) args args'.toList) (w : World) :
    Calls E.P g args' w fun e w' => e = .returned v ∧ Below w.heap.size w w' := by
  unfold runL at h
  cases hc : callL E f g args ⟨.e, 0, 0⟩ with
  | bad l => rw [hc] at h; cases h
  | ok r =>
    obtain ⟨v1, s'⟩ := r
    rw [hc] at h
    injection h with h; subst h
    obtain ⟨_, hrun⟩ := (all_ok hE f).1 _ _ _ _ _ hc
    have hR : R w.heap.size (fun _ => none) ⟨.e, 0, 0⟩ w := ⟨Nat.le_refl _, fun i o h => by simp [Tr.get] at h, fun i o h => by simp [Tr.get] at h, fun i j o o' p q h => by simp [Tr.get] at h⟩
    refine (hrun w.heap.size _ w args' hR ha (fun _ _ _ => rfl)).mono ?_
    rintro e w' ⟨ρ', v', rfl, hS, hR', hv⟩
    rw [ground_eq 4 _ _ hg hv]
    exact ⟨rfl, hS.os, hS.tape, hS.output, hS.size, fun k hk => hS.keeps k hk (fun i o p h => by simp [Tr.get] at h)⟩

end Go.Proofs.Ytkncaafjkoeijaa.Eng
