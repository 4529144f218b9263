
/- Operations that leave memory. -/
import Derived.Test.YtkncaafjkoeijaaEngM
namespace Go.Proofs.Ytkncaafjkoeijaa.Eng
open Go
set_option linter.unusedVariables false
set_option linter.unusedSimpArgs false

structure Env.Ok (E : Env) : Prop where
  info : ∀ t i, E.info.get t = some i → E.P.info? t = some i
  fns : ∀ g fn, E.fns.get g = some fn → E.P.funcs[g]? = some fn
  names : ∀ g fn, E.fns.get g = some fn → (fn.name == "runtime.NumGoroutine") = false
  mixed : E.P.follows .mixedOrders = true

theorem Env.of_ok (P : Program) (hn : (P.funcs.toList.all fun fn => !(fn.name == "runtime.NumGoroutine")) = true) (hm : P.follows .mixedOrders = true) : (Env.of P).Ok where
  info := fun t i h => by
    have := Tr.get_ofF _ _ _ _ h
    have h' : P.types[t]? = some i := by simpa using this
    have hlt : t < P.types.size := by
      rcases Nat.lt_or_ge t P.types.size with h | h
      · exact h
      · rw [Array.getElem?_eq_none h] at h'; cases h'
    show (if t < P.types.size then P.types[t]? else _) = _
    rw [if_pos hlt, h']
  fns := fun g fn h => by
    have := Tr.get_ofF _ _ _ _ h
    show P.funcs[g]? = some fn
    simpa using this
  names := fun g fn h => by
    have h1 : P.funcs.toList[g]? = some fn := Tr.get_ofF _ _ _ _ h
    have := List.all_eq_true.1 hn fn (List.mem_of_getElem? h1)
    simpa using this
  mixed := hm

section
variable {E : Env} (hE : E.Ok)
include hE

theorem und_ok {t : TypeId} {d : TypeDesc} (h : E.und t = some d) : E.P.underlying t = some d := by
  unfold Env.und at h
  split at h
  · rename_i i hi
    have := hE.info _ _ hi
    unfold Program.underlying
    rw [this]
    rcases i with ⟨d0, _, _, _, _, _, _, _, _, _⟩
    cases d0 <;> simp only at h ⊢ <;> try exact h
    split at h
    · rename_i j hj; rw [hE.info _ _ hj]; exact h
    · cases h
  · cases h

theorem run_und {t : TypeId} {d : TypeDesc} (h : E.und t = some d) (w : World) : (underlying t).run E.P w = .ok d w := run_underlying (und_ok hE h) w

theorem run_info {t : TypeId} {i : TypeInfo} (h : E.info.get t = some i) (w : World) : (typeInfo t).run E.P w = .ok i w := by
  simp [typeInfo, hE.info _ _ h]

theorem run_size {t : TypeId} (h : (E.info.get t).isSome = true) (w : World) : (sizeOf t).run E.P w = .ok (sizeT E t) w := by
  obtain ⟨i, hi⟩ := Option.isSome_iff_exists.1 h
  simp [sizeOf, run_info hE hi, sizeT, hi]

omit hE in
theorem sizeT_some {t : TypeId} (h : sizeT E t ≠ 0) : (E.info.get t).isSome = true := by
  unfold sizeT at h
  split at h
  · rename_i i hi; rw [hi]; rfl
  · exact absurd rfl h

theorem run_agg {t : TypeId} (h : (E.und t).isSome = true) (w : World) : (isAgg t).run E.P w = .ok (isAggT E t) w := by
  obtain ⟨d, hd⟩ := Option.isSome_iff_exists.1 h
  have hd' := und_ok hE hd
  simp only [isAgg, Sem.run_bind, run_underlying hd' w, Result.andThen_ok, isAggT, hd]
  cases d <;> rfl

theorem run_zero {t : TypeId} {z : List Value} (h : zeroT E t = some z) (w : World) : ∃ v, (zeroValue t).run E.P w = .ok v w ∧ v.cells.toList = z ∧ z.all (ground 4) = true ∧ z.all isCell = true := by
  unfold zeroT at h
  split at h
  · rename_i i hi
    split at h
    · rename_i v hv
      rw [cond_eq_ite] at h
      split at h
      · rename_i hg
        simp only [Bool.and_eq_true] at hg
        injection h with h
        exact ⟨v, by simp [zeroValue, run_info hE hi, hv], h, h ▸ hg.1, h ▸ hg.2⟩
      · cases h
    · cases h
  · cases h
end

theorem pureRun_ok {α : Type} {P : Program} : ∀ {s : Sem α} {a : α}, pureRun P s = some a → ∀ w, s.run P w = .ok a w
  | .pure a, b, h, w => by simp only [pureRun, Option.some.injEq] at h; subst h; rfl
  | .program k, b, h, w => by simp only [pureRun] at h; exact pureRun_ok h w
  | .load .., b, h, w | .store .., b, h, w | .new .., b, h, w | .shape .., b, h, w | .freeze .., b, h, w | .frozen .., b, h, w | .getObj .., b, h, w
  | .setObj .., b, h, w | .choose .., b, h, w | .sys .., b, h, w | .mark .., b, h, w | .halt .., b, h, w => by simp [pureRun] at h

theorem ground_refl {ρ : Ren} : ∀ (d : Nat) (v : Value), ground d v = true → VR ρ v v := by
  intro d
  induction d with
  | zero => intro v h; simp [ground] at h
  | succ d ih =>
    have ihs : ∀ l : List Value, l.all (ground d) = true → VRs ρ l l := by
      intro l
      induction l with
      | nil => intro _; exact .nil
      | cons x l ihl =>
        intro h
        simp only [List.all_cons, Bool.and_eq_true] at h
        exact .cons (ih _ h.1) (ihl h.2)
    intro v h
    cases v with
    | bool b => exact .bool b
    | int k n => exact .int k n
    | float k n => exact .float k n
    | complex k a b => exact .complex k a b
    | string s => exact .string s
    | nilFunc => exact .nilFunc
    | nilIface => exact .nilIface
    | pointer a => cases a <;> first | exact .ptr0 | simp [ground] at h
    | map a => cases a <;> first | exact .map0 | simp [ground] at h
    | chan a => cases a <;> first | exact .chan0 | simp [ground] at h
    | slice a n c =>
      cases a with
      | none =>
        simp only [ground, Bool.and_eq_true] at h
        obtain rfl := Nat.eq_of_beq_eq_true h.1
        obtain rfl := Nat.eq_of_beq_eq_true h.2
        exact .slice0
      | some a => simp [ground] at h
    | func fn a b => simp only [ground, Bool.and_eq_true] at h; exact .func fn (ihs _ h.1) (ihs _ h.2)
    | iface t v => simp only [ground] at h; exact .iface t (ih _ h)
    | agg a => simp only [ground] at h; exact .agg (ihs _ h)
    | tuple a => simp only [ground] at h; exact .tuple (ihs _ h)

theorem grounds_refl {ρ : Ren} {d : Nat} : ∀ l : List Value, l.all (ground d) = true → VRs ρ l l
  | [], _ => .nil
  | x :: l, h => by
    simp only [List.all_cons, Bool.and_eq_true] at h
    exact .cons (ground_refl d x h.1) (grounds_refl l h.2)

structure TR (nt : Nat) (ρ : Ren) (t : Tr Value) (a : Act) : Prop where
  size : a.tmps.size = nt
  val : ∀ i, VR ρ (lev t (.tmp i)) (a.tmps.getD i undef)
  defers : a.defers = []

theorem VR.undef {ρ : Ren} : VR ρ undef undef := .tuple .nil

theorem lev_ok {nt : Nat} {ρ : Ren} {t : Tr Value} {a : Act} (h : TR nt ρ t a) : ∀ x : Operand, VR ρ (lev t x) (a.eval x)
  | .tmp i => h.val i
  | .const v => by
    show VR ρ (bif ground 4 v then v else bot) v
    cases e : ground 4 v with
    | true => exact ground_refl 4 v e
    | false => exact .bot _ _
  | .global g => .bot _ _
  | .func f => .func _ .nil .nil

theorem levs_ok {nt : Nat} {ρ : Ren} {t : Tr Value} {a : Act} (h : TR nt ρ t a) (l : List Operand) : VRs ρ (l.map (lev t)) (l.map a.eval) :=
  VRs.map l fun x _ => lev_ok h x

theorem grounds_eq {ρ : Ren} {d : Nat} : ∀ {l l' : List Value}, l.all (ground d) = true → VRs ρ l l' → l' = l
  | _, _, _, .nil => rfl
  | _, _, h, .cons a b => by
    simp only [List.all_cons, Bool.and_eq_true] at h
    rw [ground_eq d _ _ h.1 a, grounds_eq h.2 b]

theorem natOf_ok {ρ : Ren} {v v' : Value} {n : Nat} (h : natOf v = some n) (hv : VR ρ v v') : ∃ k, v = .int k n ∧ v' = .int k n := by
  unfold natOf at h
  split at h
  · rename_i k m
    injection h with h; subst h
    cases hv
    exact ⟨k, rfl, rfl⟩
  · cases h

/-- A part of an aggregate. -/
theorem part_ok {E : Env} (hE : E.Ok) {ρ : Ren} {t : TypeId} {cs cs' : Array Value} {off : Nat} {v : Value} (h : partL E t cs off = some v) (hc : VRs ρ cs.toList cs'.toList) (w : World) :
    ∃ v', (part t cs' off).run E.P w = .ok v' w ∧ VR ρ v v' := by
  unfold partL at h
  rw [cond_eq_ite] at h
  split at h
  · rename_i hok
    simp only [okT, Bool.and_eq_true] at hok
    rw [cond_eq_ite] at h
    split at h
    · rename_i hag
      injection h with h; subst h
      refine ⟨.agg (cs'.extract off (off + sizeT E t)), by simp [part, run_agg hE hok.2, hag, run_size hE hok.1], .agg ?_⟩
      have := (hc.drop off).take (sizeT E t)
      simpa [Array.toList_extract, List.extract_eq_take_drop] using this
    · rename_i hag
      have hag : isAggT E t = false := by simpa using hag
      obtain ⟨v', hv', hr⟩ := hc.get off v (by simpa using h)
      have hv2 : cs'[off]? = some v' := by simpa using hv'
      exact ⟨v', by simp [part, run_agg hE hok.2, hag, hv2], hr⟩
  · cases h

theorem run_bound {P : Program} {w : World} {k : IntKind} {n y : Nat} (code : BoundsCode) (h : n ≤ y) : (Instr.sliceBound (.int k n) y code).run P w = .ok n w := by
  have h1 : (0 : Int) ≤ (n : Int) ∧ (n : Int) ≤ (y : Int) := by omega
  simp [Instr.sliceBound, asIntOf, h1]

/-- An optional operand and what it stands for. -/
inductive OVR (ρ : Ren) : Option Value → Option Value → Prop
  | none : OVR ρ none none
  | some {v v'} : VR ρ v v' → OVR ρ (some v) (some v')

theorem boundL_ok {ρ : Ren} {v v' : Value} {y n : Nat} (h : boundL v y = some n) (hv : VR ρ v v') : n ≤ y ∧ ∃ k, v' = .int k n := by
  unfold boundL at h
  split at h
  · rename_i m hn
    rw [ble_ite] at h
    split at h
    · rename_i hle
      injection h with h; subst h
      obtain ⟨k, _, e⟩ := natOf_ok hn hv
      exact ⟨hle, k, e⟩
    · cases h
  · cases h

theorem sliceB_ok {ρ : Ren} {isS : Bool} {P : Program} {w : World} {len cap cap' l h m : Nat} {lo hi mx lo' hi' mx' : Option Value} (hcap : cap ≤ cap')
    (hs : sliceB len cap lo hi mx = some (l, h, m)) (hlo : OVR ρ lo lo') (hhi : OVR ρ hi hi') (hmx : OVR ρ mx mx') (hlen : len ≤ cap) :
    ∃ m', (Instr.sliceBounds isS len cap' lo' hi' mx').run P w = .ok (l, h, m') w ∧ l ≤ h ∧ h ≤ m ∧ ((m = cap ∧ m' = cap') ∨ (m' = m ∧ m ≤ cap)) := by
  unfold sliceB at hs
  simp only [Option.bind_eq_some_iff, Option.some.injEq, Prod.mk.injEq] at hs
  obtain ⟨m0, hm, h0, hh, l0, hl, rfl, rfl, rfl⟩ := hs
  cases hmx with
  | none =>
    simp only [Option.some.injEq] at hm; subst hm
    cases hhi with
    | none =>
      simp only [Option.some.injEq] at hh; subst hh
      cases hlo with
      | none => simp only [Option.some.injEq] at hl; subst hl; exact ⟨cap', by simp [Instr.sliceBounds], by omega, hlen, .inl ⟨rfl, rfl⟩⟩
      | some hv => obtain ⟨h1, k, rfl⟩ := boundL_ok hl hv; exact ⟨cap', by simp [Instr.sliceBounds, run_bound _ h1], h1, hlen, .inl ⟨rfl, rfl⟩⟩
    | some hv =>
      obtain ⟨h1, k, rfl⟩ := boundL_ok hh hv
      have h1' : h0 ≤ cap' := by omega
      cases hlo with
      | none => simp only [Option.some.injEq] at hl; subst hl; exact ⟨cap', by simp [Instr.sliceBounds, run_bound _ h1'], by omega, h1, .inl ⟨rfl, rfl⟩⟩
      | some hv => obtain ⟨h2, k, rfl⟩ := boundL_ok hl hv; exact ⟨cap', by simp [Instr.sliceBounds, run_bound _ h1', run_bound _ h2], h2, h1, .inl ⟨rfl, rfl⟩⟩
  | some hv =>
    obtain ⟨h3, k, rfl⟩ := boundL_ok hm hv
    have h3' : m0 ≤ cap' := by omega
    cases hhi with
    | none => simp at hh
    | some hv =>
      obtain ⟨h1, k, rfl⟩ := boundL_ok hh hv
      cases hlo with
      | none => simp only [Option.some.injEq] at hl; subst hl; exact ⟨m0, by simp [Instr.sliceBounds, run_bound _ h3', run_bound _ h1], by omega, h1, .inr ⟨rfl, h3⟩⟩
      | some hv => obtain ⟨h2, k, rfl⟩ := boundL_ok hl hv; exact ⟨m0, by simp [Instr.sliceBounds, run_bound _ h3', run_bound _ h1, run_bound _ h2], h2, h1, .inr ⟨rfl, h3⟩⟩

theorem OVR.map {nt : Nat} {ρ : Ren} {t : Tr Value} {a : Act} (h : TR nt ρ t a) : ∀ x : Option Operand, OVR ρ (x.map (lev t)) (x.map a.eval)
  | Option.none => OVR.none
  | Option.some x => OVR.some (lev_ok h x)

end Go.Proofs.Ytkncaafjkoeijaa.Eng
