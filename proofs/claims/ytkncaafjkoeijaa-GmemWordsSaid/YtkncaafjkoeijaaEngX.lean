
/- Frames, guards, results; what an operation looks at. -/
import Derived.Test.YtkncaafjkoeijaaEngN
import Derived.LoopN
import Derived.Orders
namespace Go.Proofs.Ytkncaafjkoeijaa.Eng
open Go
set_option linter.unusedVariables false
set_option linter.unusedSimpArgs false

theorem TR.put {nt : Nat} {ρ ρ' : Ren} {t : Tr Value} {a : Act} (h : TR nt ρ t a) (he : Ext ρ ρ') {v v' : Value} (hv : VR ρ' v v') {dst : Option Nat} (hd : dstOk nt dst = true) :
    TR nt ρ' (putL t dst v) (a.put dst v') := by
  cases dst with
  | none => exact ⟨h.size, fun i => (h.val i).ext he, h.defers⟩
  | some d =>
    have hd : d < nt := Nat.le_of_ble_eq_true hd
    refine ⟨by simp [Act.put, h.size], fun i => ?_, h.defers⟩
    simp only [putL, Act.put, lev, Tr.get_set]
    by_cases e : i = d
    · subst e
      have : i < a.tmps.size := by rw [h.size]; exact hd
      simp only [if_true, Array.getD_eq_getD_getElem?, Array.getElem?_setIfInBounds_self, this]
      exact hv
    · simp only [e, if_false]
      have := (h.val i).ext he
      simp only [lev] at this
      rw [Array.getD_eq_getD_getElem?, Array.getElem?_setIfInBounds_ne (fun e' => e e'.symm), ← Array.getD_eq_getD_getElem?]
      exact this

theorem TR.ext {nt : Nat} {ρ ρ' : Ren} {t : Tr Value} {a : Act} (h : TR nt ρ t a) (he : Ext ρ ρ') : TR nt ρ' t a := ⟨h.size, fun i => (h.val i).ext he, h.defers⟩

theorem VR.bool_of {ρ : Ren} {v v' : Value} (h : VR ρ v v') (hb : isBot v = false) (b : Bool) : v' = .bool b ↔ v = .bool b := by
  cases h <;> first | (simp [isBot] at hb; done) | (constructor <;> intro h <;> first | exact h | cases h)

theorem wanted_ok {nt : Nat} {ρ : Ren} {t : Tr Value} {a : Act} (h : TR nt ρ t a) {ops : Array Oper} {o : Oper} {b : Bool} (hw : wantedL ops t o.guard = some b) : Region.wanted o (yielded ops a.tmps) = b := by
  unfold wantedL at hw
  unfold Region.wanted
  split at hw
  · rename_i hg; rw [hg]; injection hw
  · rename_i j want hg
    rw [hg]
    simp only [yielded]
    split at hw
    · rename_i oj hoj
      split at hw
      · rename_i d hd
        simp only [hoj, Option.bind_some, hd]
        have hv := h.val d
        simp only [lev] at hv
        have key : ∀ c : Bool, a.tmps[d]? = some (.bool c) ↔ a.tmps.getD d undef = .bool c := by
          intro c
          rw [Array.getD_eq_getD_getElem?]
          cases e : a.tmps[d]? with
          | none => simp [undef]
          | some x => simp
        have none_of : ∀ v, VR ρ v (a.tmps.getD d undef) → isBot v = false → (∀ c, v ≠ .bool c) → ∀ c, a.tmps[d]? ≠ some (.bool c) := by
          intro v hv hb hne c hc
          exact absurd ((hv.bool_of hb c).1 ((key c).1 hc)) (hne c)
        split at hw
        · rename_i c hc
          rw [hc] at hv
          injection hw with hw; subst hw
          have := (key c).2 ((hv.bool_of rfl c).2 rfl)
          rw [this]; simp
        · rename_i v hv1 hv2
          rw [hv2] at hv
          rw [cond_eq_ite] at hw
          split at hw
          · cases hw
          · rename_i hb
            injection hw with hw; subst hw
            have := none_of v hv (by simpa using hb) hv1
            split
            · rename_i c hc; exact absurd hc (this c)
            · rfl
        · rename_i hc
          rw [hc] at hv
          injection hw with hw; subst hw
          have := none_of undef hv rfl (fun c => by simp [undef])
          split
          · rename_i c hc; exact absurd hc (this c)
          · rfl
      · rename_i hd
        injection hw with hw; subst hw
        simp [hoj, hd]
    · rename_i hoj
      injection hw with hw; subst hw
      simp [hoj]

theorem frame_get : ∀ (l : List Value) (k i : Nat), (frameL k l).get i = if k ≤ i then l[i - k]? else none
  | [], k, i => by simp [frameL, Tr.get]
  | v :: l, k, i => by
    simp only [frameL, Tr.get_set, frame_get l (k + 1) i]
    by_cases e : i = k
    · subst e; simp
    · rw [if_neg e]
      by_cases h : k ≤ i
      · rw [if_pos h, if_pos (by omega), show i - k = (i - (k + 1)) + 1 by omega]; simp
      · rw [if_neg h, if_neg (by omega)]

theorem frame_ok {ρ : Ren} {l : List Value} {args : Array Value} (h : VRs ρ l args.toList) (n : Nat) : TR (Nat.max l.length n) ρ (frameL 0 l) { tmps := args ++ Array.replicate (n - args.size) undef, defers := [] } := by
  have hlen : l.length = args.size := by simpa using h.length
  refine ⟨?_, fun i => ?_, rfl⟩
  · simp only [Array.size_append, Array.size_replicate, hlen]
    show _ = max args.size n
    omega
  · simp only [lev, frame_get, Nat.zero_le, if_true, Nat.sub_zero]
    by_cases hi : i < l.length
    · obtain ⟨v', hv', hr⟩ := h.get i l[i] (by simp [hi])
      have e1 : l[i]? = some l[i] := by simp [hi]
      have e2 : (args ++ Array.replicate (n - args.size) undef)[i]? = some v' := by
        rw [Array.getElem?_append_left (by rw [← hlen]; exact hi)]; simpa using hv'
      rw [e1, Array.getD_eq_getD_getElem?, e2]; exact hr
    · have e1 : l[i]? = none := List.getElem?_eq_none (Nat.le_of_not_lt hi)
      have e2 : ((args ++ Array.replicate (n - args.size) undef)[i]?).getD undef = undef := by
        rw [Array.getElem?_append_right (by rw [← hlen]; exact Nat.le_of_not_lt hi), Array.getElem?_replicate]
        split <;> rfl
      rw [e1, Array.getD_eq_getD_getElem?, e2]; exact .undef

theorem results_list {E : Env} (hE : E.Ok) {B nt : Nat} {ρ : Ren} {t : Tr Value} {a : Act} {s : LS} {w : World} (hR : R B ρ s w) (ht : TR nt ρ t a) : ∀ (rs : List ResultVar) (l : List Value), resultsL E s t rs = some l →
    ∃ l', VRs ρ l l' ∧ (rs.mapM (fun r : ResultVar => match r with | .tmp t => (pure (a.tmps.getD t undef) : Sem Value) | .cell p t => do loadVar t (← asAddr (a.tmps.getD p undef)))).run E.P w = .ok l' w
  | [], l, h => by simp only [resultsL, Option.some.injEq] at h; subst h; exact ⟨[], .nil, by simp⟩
  | .tmp i :: rs, l, h => by
    simp only [resultsL] at h
    split at h
    · rename_i r hr
      injection h with h; subst h
      obtain ⟨l', h1, h2⟩ := results_list hE hR ht rs r hr
      exact ⟨_ :: l', .cons (ht.val i) h1, by simp only [List.mapM_cons, Sem.run_bind, Sem.run_pure, Result.andThen_ok, h2]⟩
    · cases h
  | .cell p ty :: rs, l, h => by
    simp only [resultsL] at h
    split at h
    · rename_i b o hb
      obtain ⟨q, hq, hx⟩ := addrOf_ok ht hb
      split at h
      · rename_i v r hv hr
        injection h with h; subst h
        obtain ⟨l', h1, h2⟩ := results_list hE hR ht rs r hr
        obtain ⟨v', h3, h4⟩ := loadVar_ok hE hR hv hq
        have hx : a.tmps.getD p undef = .pointer (some ⟨q.at_, q.off + o, none⟩) := hx
        have ha : (asAddr (a.tmps.getD p undef)).run E.P w = .ok ⟨q.at_, q.off + o, none⟩ w := by rw [hx]; rfl
        exact ⟨v' :: l', .cons h4 h1, by simp only [List.mapM_cons, Sem.run_bind, Sem.run_pure, Result.andThen_ok, h2, ha, h3]⟩
      · cases h
    · cases h

theorem results_ok {E : Env} (hE : E.Ok) {B nt : Nat} {ρ : Ren} {t : Tr Value} {a : Act} {s : LS} {w : World} (hR : R B ρ s w) (ht : TR nt ρ t a) {fn : Func} {l : List Value} (h : resultsL E s t fn.results.toList = some l) :
    ∃ v', (results fn a.tmps).run E.P w = .ok v' w ∧ VR ρ (resultL l) v' := by
  obtain ⟨l', h1, h2⟩ := results_list hE hR ht _ _ h
  have hm : (fn.results.mapM (fun r : ResultVar => match r with | .tmp t => (pure (a.tmps.getD t undef) : Sem Value) | .cell p t => do loadVar t (← asAddr (a.tmps.getD p undef)))).run E.P w = .ok l'.toArray w := by
    rw [Array.mapM_eq_mapM_toList, Sem.run_map, h2]; rfl
  have hlen := h1.length
  refine ⟨if h : l'.toArray.size = 1 then l'.toArray[0] else .tuple l'.toArray, ?_, ?_⟩
  · unfold results
    rw [Sem.run_bind]
    refine (congrArg (fun r => Result.andThen r _) hm).trans ?_
    rfl
  · cases h1 with
    | nil => exact .tuple .nil
    | cons hv hvs =>
      cases hvs with
      | nil => exact hv
      | cons hv2 hvs2 => exact .tuple (.cons hv (.cons hv2 hvs2))

end Go.Proofs.Ytkncaafjkoeijaa.Eng
