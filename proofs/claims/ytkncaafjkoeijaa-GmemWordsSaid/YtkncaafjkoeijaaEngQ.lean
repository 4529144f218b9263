
/- Operations that leave memory, one by one. -/
import Derived.Test.YtkncaafjkoeijaaEngP
namespace Go.Proofs.Ytkncaafjkoeijaa.Eng
open Go
set_option linter.unusedVariables false
set_option linter.unusedSimpArgs false

/-- Filling in. -/
theorem foldl_put {ρ : Ren} (off : Nat) : ∀ (l l' : List Value), VRs ρ l l' → ∀ (k : Nat) (A A' : Array Value), VRs ρ A.toList A'.toList →
    VRs ρ ((l.zipIdx k).foldl (fun cs (x : Value × Nat) => cs.setIfInBounds (off + x.2) x.1) A).toList ((l'.zipIdx k).foldl (fun cs (x : Value × Nat) => cs.setIfInBounds (off + x.2) x.1) A').toList
  | _, _, .nil, k, A, A', h => h
  | _, _, .cons (v := v) (v' := v') (l := l) (l' := l') a b, k, A, A', h => by
    simp only [List.zipIdx_cons, List.foldl_cons]
    refine foldl_put off l l' b (k + 1) _ _ ?_
    refine VRs.of_get (by simpa using h.length) ?_
    intro j u u' hu hu'
    simp only [Array.toList_setIfInBounds, List.getElem?_set] at hu hu'
    by_cases e : off + k = j
    · simp only [e, if_true] at hu hu'
      split at hu <;> split at hu' <;> simp_all
    · simp only [e, if_false] at hu hu'
      obtain ⟨u2, h2, hr⟩ := h.get j u hu
      rw [h2] at hu'; injection hu' with hu'; subst hu'; exact hr

inductive PVR (ρ : Ren) : List (Nat × Value) → List (Nat × Value) → Prop
  | nil : PVR ρ [] []
  | cons {i v v' l l'} : VR ρ v v' → isBot v = false → PVR ρ l l' → PVR ρ ((i, v) :: l) ((i, v') :: l')

theorem VR.cells_size {ρ : Ren} {v v' : Value} (h : VR ρ v v') (hb : isBot v = false) : v.cells.size = v'.cells.size := by
  have := (h.cells hb).length
  simpa using this

theorem fill_ok {ρ : Ren} {place : Nat → Option (Nat × Nat)} : ∀ {l l' : List (Nat × Value)}, PVR ρ l l' → ∀ {A A' C : Array Value}, VRs ρ A.toList A'.toList → Instr.fill place A l = some C →
    ∃ C', Instr.fill place A' l' = some C' ∧ VRs ρ C.toList C'.toList
  | _, _, .nil, A, A', C, hA, h => by
    simp only [Instr.fill, Option.some.injEq] at h; subst h
    exact ⟨A', rfl, hA⟩
  | _, _, .cons (i := i) (v := v) (v' := v') hv hb hl, A, A', C, hA, h => by
    have hs := hv.cells_size hb
    have hAs : A.size = A'.size := by have := hA.length; simpa using this
    unfold Instr.fill at h ⊢
    split at h
    · cases h
    · rename_i off size hp
      split at h
      · cases h
      · rename_i hc
        rw [hs, hAs] at hc
        simp only [hc, if_false]
        refine fill_ok hl ?_ h
        simp only [← Array.foldl_toList, Array.toList_zipIdx]
        exact foldl_put off _ _ (hv.cells hb) 0 A A' hA

theorem parts_ok {nt : Nat} {ρ : Ren} {t : Tr Value} {a : Act} (h : TR nt ρ t a) : ∀ (l : List (Nat × Operand)), noBot (l.map fun p => lev t p.2) = true →
    PVR ρ (l.map fun p => (p.1, lev t p.2)) (l.map fun p => (p.1, a.eval p.2))
  | [], _ => .nil
  | p :: l, hb => by
    simp only [noBot, List.map_cons, List.all_cons, Bool.and_eq_true, Bool.not_eq_true'] at hb
    exact .cons (lev_ok h _) hb.1 (parts_ok h l hb.2)

theorem mapM_fields {E : Env} (hE : E.Ok) (w : World) : ∀ (l : List Field), (l.all fun f => (E.info.get f.type).isSome) = true →
    (l.mapM fun f => (do pure (f.offset, ← sizeOf f.type) : Sem (Nat × Nat))).run E.P w = .ok (l.map fun f => (f.offset, sizeT E f.type)) w
  | [], _ => by simp
  | f :: l, h => by
    simp only [List.all_cons, Bool.and_eq_true] at h
    have := mapM_fields hE w l h.2
    simp only [List.mapM_cons, Sem.run_bind, run_size hE h.1, Result.andThen_ok, Sem.run_pure, this, List.map_cons]

theorem pureG_ok {P : Program} {s : Sem Value} {v : Value} (h : pureG P s = some v) (w : World) : s.run P w = .ok v w ∧ ground 4 v = true := by
  unfold pureG at h
  split at h
  · rename_i u hu
    rw [cond_eq_ite] at h
    split at h
    · rename_i hg
      injection h with h; subst h
      exact ⟨pureRun_ok hu w, hg⟩
    · cases h
  · cases h

/-- What a pure operation owes. -/
def POk (E : Env) (ρ : Ren) (a : Act) (w : World) (o : Oper) (v : Value) : Prop := ∃ v', (execOp a.eval o).run E.P w = .ok (.value v') w ∧ VR ρ v v'

section
variable {E : Env} (hE : E.Ok) {nt : Nat} {ρ : Ren} {t : Tr Value} {a : Act} (ht : TR nt ρ t a) (w : World) {o : Oper} {v : Value}
include hE ht

theorem build_ok {ty : TypeId} {parts : Array (Nat × Operand)} (ho : o.op = .build ty parts) (h : pureL E t o.op = some v) : POk E ρ a w o v := by
  rw [ho] at h
  simp only [pureL, buildL] at h
  rw [cond_eq_ite] at h
  split at h
  · rename_i hb
    have hp := parts_ok ht parts.toList (by simpa [List.map_map, Function.comp_def] using hb)
    split at h
    · rename_i zero fields hz hu
      obtain ⟨z, hz1, hz2, hz3, _⟩ := run_zero hE hz w
      split at h
      · rename_i cells hf
        rw [cond_eq_ite] at h
        split at h
        · rename_i hfs
          injection h with h; subst h
          have hz0 : VRs ρ zero.toArray.toList z.cells.toList := by rw [hz2]; exact grounds_refl _ hz3
          obtain ⟨C', hC, hr⟩ := fill_ok hp hz0 hf
          refine ⟨.agg C', ?_, .agg hr⟩
          simp only [execOp, ho, Instr.build, Sem.run_bind, hz1, Result.andThen_ok, run_und hE hu]
          have hm : (fields.mapM fun f => (do pure (f.offset, ← sizeOf f.type) : Sem (Nat × Nat))).run E.P w = .ok (fields.map fun f => (f.offset, sizeT E f.type)) w := by
            have := mapM_fields hE w fields.toList hfs
            rw [Array.mapM_eq_mapM_toList, Sem.run_map, this]
            simp only [Result.andThen_ok]
            rw [← Array.toList_map]
          rw [hm]
          simp only [Result.andThen_ok]
          have hpe : (Array.map (fun x : Nat × Operand => match x with | (i, x) => (i, a.eval x)) parts).toList = parts.toList.map fun p => (p.1, a.eval p.2) := by simp
          rw [hpe, hC]
          simp
        · cases h
      · cases h
    · rename_i zero n elem hz hu
      obtain ⟨z, hz1, hz2, hz3, _⟩ := run_zero hE hz w
      split at h
      · rename_i cells hf
        rw [cond_eq_ite] at h
        split at h
        · rename_i hfs
          injection h with h; subst h
          have hz0 : VRs ρ zero.toArray.toList z.cells.toList := by rw [hz2]; exact grounds_refl _ hz3
          obtain ⟨C', hC, hr⟩ := fill_ok hp hz0 hf
          refine ⟨.agg C', ?_, .agg hr⟩
          simp only [execOp, ho, Instr.build, Sem.run_bind, hz1, Result.andThen_ok, run_und hE hu, run_size hE hfs]
          have hpe : (Array.map (fun x : Nat × Operand => match x with | (i, x) => (i, a.eval x)) parts).toList = parts.toList.map fun p => (p.1, a.eval p.2) := by simp
          rw [hpe, hC]
          simp
        · cases h
      · cases h
    · cases h
  · cases h

omit hE in
theorem move_ok {x : Operand} (ho : o.op = .move x ∨ o.op = .assign x) (h : pureL E t o.op = some v) : POk E ρ a w o v := by
  refine ⟨a.eval x, ?_, ?_⟩
  · rcases ho with ho | ho <;> simp [execOp, ho]
  · rcases ho with ho | ho <;> (rw [ho] at h; simp only [pureL, Option.some.injEq] at h; subst h; exact lev_ok ht x)

omit hE in
theorem pick_ok {c x y : Operand} (ho : o.op = .pick c x y) (h : pureL E t o.op = some v) : POk E ρ a w o v := by
  rw [ho] at h
  simp only [pureL] at h
  have hc := lev_ok ht c
  split at h <;> rename_i hl <;> first
    | (rw [hl] at hc
       injection h with h; subst h
       generalize hg : a.eval c = g at hc
       cases hc
       first
         | exact ⟨a.eval x, by simp [execOp, ho, hg, asBool], lev_ok ht x⟩
         | exact ⟨a.eval y, by simp [execOp, ho, hg, asBool], lev_ok ht y⟩)
    | cases h

omit hE in
theorem nilCheck_ok {x : Operand} (ho : o.op = .nilCheck x) (h : pureL E t o.op = some v) : POk E ρ a w o v := by
  rw [ho] at h
  simp only [pureL] at h
  have hx := lev_ok ht x
  split at h <;> rename_i hl <;> first
    | (rw [hl] at hx
       injection h with h; subst h
       generalize hg : a.eval x = g at hx
       refine ⟨g, ?_, hx⟩
       cases hx <;> simp [execOp, ho, hg])
    | cases h

omit hE in
theorem unOp_ok {op : UnOp} {ty : TypeId} {x : Operand} (ho : o.op = .unOp op ty x) (h : pureL E t o.op = some v) : POk E ρ a w o v := by
  rw [ho] at h
  simp only [pureL] at h
  rw [cond_eq_ite] at h
  split at h
  · rename_i hg
    have hx := ground_eq 4 _ _ hg (lev_ok ht x)
    obtain ⟨h1, h2⟩ := pureG_ok h w
    exact ⟨v, by simp only [execOp, ho, Sem.run_bind, hx, h1, Result.andThen_ok, Sem.run_pure], ground_refl 4 v h2⟩
  · cases h

theorem convert_ok {src dst : TypeId} {x : Operand} (ho : o.op = .convert src dst x) (h : pureL E t o.op = some v) : POk E ρ a w o v := by
  rw [ho] at h
  simp only [pureL] at h
  have hx := lev_ok ht x
  split at h
  · rename_i k n hl
    rw [hl] at hx
    generalize hg : a.eval x = g at hx
    cases hx
    obtain ⟨h1, h2⟩ := pureG_ok h w
    exact ⟨v, by simp only [execOp, ho, Sem.run_bind, hg, h1, Result.andThen_ok, Sem.run_pure], ground_refl 4 v h2⟩
  · rename_i s hl
    rw [hl] at hx
    generalize hg : a.eval x = g at hx
    cases hx
    split at h
    · rename_i d hs hd
      injection h with h; subst h
      refine ⟨.string s, ?_, .string s⟩
      simp only [execOp, ho, hg, convert, Sem.run_bind, run_und hE hs, run_und hE hd, Result.andThen_ok]
      cases d <;> rfl
    · cases h
  · cases h

theorem makeInterface_ok {ty : TypeId} {x : Operand} (ho : o.op = .makeInterface ty x) (h : pureL E t o.op = some v) : POk E ρ a w o v := by
  rw [ho] at h
  simp only [pureL] at h
  split at h
  · cases h
  · rename_i d hne hu
    injection h with h; subst h
    refine ⟨.iface ty (a.eval x), ?_, .iface ty (lev_ok ht x)⟩
    simp only [execOp, ho, Instr.makeInterface, Sem.run_bind, run_und hE hu, Result.andThen_ok]
    cases d <;> first | rfl | exact absurd hu (hne _)
  · cases h

omit hE in
theorem makeFunc_ok {fn : Fn} {x y : Array Operand} (ho : o.op = .makeFunc fn x y) (h : pureL E t o.op = some v) : POk E ρ a w o v := by
  rw [ho] at h
  simp only [pureL, Option.some.injEq] at h
  subst h
  refine ⟨.func fn (x.map a.eval) (y.map a.eval), by simp [execOp, ho, Instr.makeFunc], .func fn ?_ ?_⟩
  · simpa using levs_ok ht x.toList
  · simpa using levs_ok ht y.toList

omit hE in
theorem addrOf_ok {x : Operand} {b i : Nat} (h : addrOf (lev t x) = some (b, i)) : ∃ p, ρ b = some p ∧ a.eval x = .pointer (some ⟨p.at_, p.off + i, none⟩) := by
  have hx := lev_ok ht x
  unfold addrOf at h
  split at h
  · rename_i b' i' hl
    injection h with h; injection h with h1 h2; subst h1 h2
    rw [hl] at hx
    generalize hg : a.eval x = g at hx
    cases hx
    exact ⟨_, by assumption, rfl⟩
  · cases h

theorem fieldAddr_ok {sty : TypeId} {x : Operand} {f : Nat} (ho : o.op = .fieldAddr sty x f) (h : pureL E t o.op = some v) : POk E ρ a w o v := by
  rw [ho] at h
  simp only [pureL] at h
  split at h
  · rename_i fields b i hu hx
    obtain ⟨p, hp, hx'⟩ := addrOf_ok ht hx
    split at h
    · rename_i fd hf
      rw [beq_ite] at h
      split at h
      · cases h
      · rename_i hsz
        injection h with h; subst h
        refine ⟨.pointer (some ⟨p.at_, p.off + (i + fd.offset), none⟩), ?_, .ptr hp⟩
        simp only [execOp, ho, hx', Instr.fieldAt, Sem.run_bind, run_und hE hu, Result.andThen_ok, hf, Instr.sureAddr, Sem.run_pure, fieldPlace, run_size hE (sizeT_some hsz), hsz, if_false, add_none]
        simp [Nat.add_assoc]
    · cases h
  · cases h

theorem field_ok {ty : TypeId} {x : Operand} {f : Nat} (ho : o.op = .field ty x f) (h : pureL E t o.op = some v) : POk E ρ a w o v := by
  rw [ho] at h
  simp only [pureL] at h
  have hx := lev_ok ht x
  split at h
  · rename_i fields cs hu hl
    rw [hl] at hx
    generalize hg : a.eval x = g at hx
    cases hx
    rename_i cs' hcs
    split at h
    · rename_i fd hf
      obtain ⟨v', hr, hv⟩ := part_ok hE h hcs w
      exact ⟨v', by simp only [execOp, ho, hg, Instr.field, Sem.run_bind, run_und hE hu, Result.andThen_ok, hf, asAgg, Sem.run_pure, hr], hv⟩
    · cases h
  · cases h

omit hE in
theorem extract_ok {x : Operand} {i : Nat} (ho : o.op = .extract x i) (h : pureL E t o.op = some v) : POk E ρ a w o v := by
  rw [ho] at h
  simp only [pureL] at h
  have hx := lev_ok ht x
  split at h
  · rename_i vs hl
    rw [hl] at hx
    generalize hg : a.eval x = g at hx
    cases hx
    rename_i cs' hcs
    obtain ⟨v', hv', hr⟩ := hcs.get i v (by simpa using h)
    have hv2 : cs'[i]? = some v' := by simpa using hv'
    exact ⟨v', by simp only [execOp, ho, hg, Instr.extract, hv2, Sem.run_bind, Sem.run_pure, Result.andThen_ok], hr⟩
  · cases h

theorem index_ok {ty : TypeId} {x ix : Operand} (ho : o.op = .index ty x ix) (h : pureL E t o.op = some v) : POk E ρ a w o v := by
  rw [ho] at h
  simp only [pureL] at h
  have hx := lev_ok ht x
  have hi := lev_ok ht ix
  split at h
  · rename_i n elem cs i hu hl hn
    rw [hl] at hx
    generalize hg : a.eval x = g at hx
    cases hx
    rename_i cs' hcs
    obtain ⟨k, _, hi'⟩ := natOf_ok hn hi
    rw [blt_ite] at h
    split at h
    · rename_i hlt
      have hsome : (E.info.get elem).isSome = true := by
        unfold partL at h
        rw [cond_eq_ite] at h
        split at h
        · rename_i hok; simp only [okT, Bool.and_eq_true] at hok; exact hok.1
        · cases h
      obtain ⟨v', hr, hv⟩ := part_ok hE h hcs w
      refine ⟨v', ?_, hv⟩
      have hc : (0 : Int) ≤ (i : Int) ∧ (i : Int) < (n : Int) := by omega
      simp only [execOp, ho, hg, hi', Instr.index, asIntOf, Sem.run_bind, Sem.run_pure, run_und hE hu, Result.andThen_ok, hc, and_self, if_true, run_size hE hsome, Int.toNat_natCast, hr]
    · cases h
  · rename_i s i hu hl hn
    rw [hl] at hx
    generalize hg : a.eval x = g at hx
    cases hx
    obtain ⟨k, _, hi'⟩ := natOf_ok hn hi
    split at h
    · rename_i b hb
      injection h with h; subst h
      refine ⟨.int .u8 b.toNat, ?_, .int _ _⟩
      have hc : (0 : Int) ≤ (i : Int) := by omega
      simp only [execOp, ho, hg, hi', Instr.index, asIntOf, Sem.run_bind, Sem.run_pure, run_und hE hu, Result.andThen_ok, hc, if_true, Int.toNat_natCast, hb]
    · cases h
  · cases h

theorem indexAddr_ok {ty : TypeId} {x ix : Operand} (ho : o.op = .indexAddr ty x ix) (h : pureL E t o.op = some v) : POk E ρ a w o v := by
  rw [ho] at h
  simp only [pureL] at h
  have hx := lev_ok ht x
  have hi := lev_ok ht ix
  split at h
  · rename_i n elem b j i hu hl hn
    rw [hl] at hx
    generalize hg : a.eval x = g at hx
    cases hx
    rename_i p hp
    obtain ⟨k, _, hi'⟩ := natOf_ok hn hi
    rw [cond_eq_ite] at h
    split at h
    · rename_i hc
      simp only [Bool.and_eq_true] at hc
      have hlt : i < n := Nat.le_of_ble_eq_true hc.1
      injection h with h; subst h
      refine ⟨.pointer (some ⟨p.at_, p.off + (j + i * sizeT E elem), none⟩), ?_, .ptr hp⟩
      have hc' : (0 : Int) ≤ (i : Int) ∧ (i : Int) < (n : Int) := by omega
      simp only [execOp, ho, hg, hi', Instr.indexAt, asIntOf, Sem.run_bind, Sem.run_pure, run_und hE hu, Result.andThen_ok, Instr.sureAddr, hc', and_self, if_true, run_size hE hc.2, Int.toNat_natCast, add_none, Nat.add_assoc]
    · cases h
  · rename_i elem b j n c i hu hl hn
    rw [hl] at hx
    generalize hg : a.eval x = g at hx
    cases hx
    rename_i q c' p hp hnc hq hcap
    obtain ⟨k, _, hi'⟩ := natOf_ok hn hi
    rw [cond_eq_ite] at h
    split at h
    · rename_i hc
      simp only [Bool.and_eq_true] at hc
      have hlt : i < n := Nat.le_of_ble_eq_true hc.1
      obtain rfl := hq (by omega)
      injection h with h; subst h
      refine ⟨.pointer (some ⟨p.at_, p.off + (j + i * sizeT E elem), none⟩), ?_, .ptr hp⟩
      have hc' : (0 : Int) ≤ (i : Int) ∧ (i : Int) < (n : Int) := by omega
      simp only [execOp, ho, hg, hi', Instr.indexAt, asIntOf, Sem.run_bind, Sem.run_pure, run_und hE hu, Result.andThen_ok, Instr.sureAddr, hc', and_self, if_true, run_size hE hc.2, Int.toNat_natCast, add_none, Nat.add_assoc]
    · cases h
  · cases h

theorem toArrayPointer_ok {ty : TypeId} {x : Operand} (ho : o.op = .sliceToArrayPointer ty x) (h : pureL E t o.op = some v) : POk E ρ a w o v := by
  rw [ho] at h
  simp only [pureL] at h
  have hx := lev_ok ht x
  split at h
  · rename_i n elem ad len cap hu hl
    rw [hl] at hx
    generalize hg : a.eval x = g at hx
    cases hx
    rename_i i j q c' p hp hq hcap hnc
    rw [cond_eq_ite] at h
    split at h
    · rename_i hc
      simp only [Bool.and_eq_true, Bool.not_eq_true'] at hc
      have hlt : n ≤ len := Nat.le_of_ble_eq_true hc.1
      obtain rfl := hq (by intro e; rw [e] at hc; exact absurd hc.2 (by decide))
      injection h with h; subst h
      refine ⟨.pointer (some ⟨p.at_, p.off + j, none⟩), ?_, .ptr hp⟩
      simp only [execOp, ho, hg, Instr.arrayAt, Sem.run_bind, run_und hE hu, Result.andThen_ok, show ¬ len < n by omega, if_false, Sem.run_pure]
    · cases h
  · cases h

theorem slice_ok {ty : TypeId} {x : Operand} {lo hi mx : Option Operand} (ho : o.op = .slice ty x lo hi mx) (h : pureL E t o.op = some v) : POk E ρ a w o v := by
  rw [ho] at h
  simp only [pureL] at h
  have hx := lev_ok ht x
  split at h
  · rename_i n elem b j hu hl
    rw [hl] at hx
    generalize hg : a.eval x = g at hx
    cases hx
    rename_i p hp
    split at h
    · rename_i l hh m hs
      rw [cond_eq_ite] at h
      split at h
      · rename_i hc
        obtain ⟨m', hr, h1, h2, h3⟩ := sliceB_ok (P := E.P) (w := w) (isS := false) (Nat.le_refl n) hs (OVR.map ht lo) (OVR.map ht hi) (OVR.map ht mx) (Nat.le_refl n)
        obtain rfl : m' = m := by omega
        injection h with h; subst h
        refine ⟨.slice (some (if m' = l then (⟨p.at_, p.off + j, none⟩ : Addr) else (⟨p.at_, p.off + j, none⟩ : Addr).add (l * sizeT E elem))) (hh - l) (m' - l), ?_, ?_⟩
        · simp only [execOp, ho, hg, Instr.sliceAt, Sem.run_bind, run_und hE hu, Result.andThen_ok, Instr.sureAddr, Sem.run_pure, hr, run_size hE hc]
        · rw [add_none, beq_ite]
          by_cases e : m' = l
          · simp only [e, if_true]; exact .slice hp (by omega) (fun h => by omega) (.inl rfl)
          · simp only [e, if_false]; exact .slice hp (by omega) (fun _ => by omega) (.inl rfl)
      · cases h
    · cases h
  · rename_i str hu hl
    rw [hl] at hx
    generalize hg : a.eval x = g at hx
    cases hx
    split at h
    · cases h
    · split at h
      · rename_i l hh m hs
        obtain ⟨m', hr, h1, h2, h3⟩ := sliceB_ok (P := E.P) (w := w) (isS := false) (Nat.le_refl str.size) hs (OVR.map ht lo) (OVR.map ht hi) .none (Nat.le_refl str.size)
        injection h with h; subst h
        refine ⟨.string (str.extract l hh), ?_, .string _⟩
        simp only [execOp, ho, hg, Instr.sliceAt, Instr.slice, Sem.run_bind, run_und hE hu, Result.andThen_ok, Option.map_none, Option.isSome_none, Bool.false_eq_true, if_false, hr, Sem.run_pure]
      · cases h
  · cases h

end
end Go.Proofs.Ytkncaafjkoeijaa.Eng
