
/- Operations on memory: made rows, copies, appends. -/
import Derived.Test.YtkncaafjkoeijaaEngA
namespace Go.Proofs.Ytkncaafjkoeijaa.Eng
open Go
set_option linter.unusedVariables false
set_option linter.unusedSimpArgs false

theorem zeros_cell {z : List Value} (h : z.all isCell = true) : ∀ n, (zeros z n).all isCell = true
  | 0 => rfl
  | n + 1 => by simp only [zeros, List.all_append, h, zeros_cell h n, Bool.and_self]

theorem cellAt_zero {z : List Value} {k : Nat} (h : 0 < z.length) : cellAt .e z z.length k = nth z (k % z.length) ∧ z[k % z.length]? = some (nth z (k % z.length)) := by
  refine ⟨rfl, ?_⟩
  have : k % z.length < z.length := Nat.mod_lt _ h
  rw [nth_get z (k % z.length) z[k % z.length] (by simp [this])]
  simp [this]

theorem src_ok {P : Program} {B : Nat} {ρ : Ren} {s : LS} {w : World} (hR : R B ρ s w) {size n : Nat} {x x' : Value} (hx : VR ρ x x') {l : List Value} (h : srcL s size n x = some l) (hcap : n ≤ (lenL x).getD 0) :
    ∃ l', VRs ρ l l' ∧ ∀ w2 : World, w2.heap = w.heap → (Builtin.firstCells size n x').run P w2 = .ok l'.toArray w2 := by
  unfold srcL at h
  split at h
  · rename_i b o len cap
    cases hx
    rename_i q c' p hp hcap' hq hnc
    obtain ⟨l', hlen, hvs, hcs⟩ := loads_ok hR hp _ _ _ h
    refine ⟨l', hvs, fun w2 hw2 => ?_⟩
    simp only [Builtin.firstCells]
    refine loads_run hlen ?_
    intro k u hk
    have e : ∀ ad : Addr, w2.cell? ad = w.cell? ad := fun ad => by unfold World.cell?; rw [hw2]
    rw [e]
    by_cases h0 : cap = 0
    · simp only [lenL, Option.getD_some] at hcap
      have : n * size = 0 := by rw [show n = 0 by omega]; simp
      have : l' = [] := List.eq_nil_of_length_eq_zero (by omega)
      rw [this] at hk; simp at hk
    · rw [hq h0]; exact hcs k u hk
  · injection h with h; subst h
    cases hx
    exact ⟨[], .nil, fun w2 _ => by simp [Builtin.firstCells]⟩
  · rename_i str
    injection h with h; subst h
    cases hx
    refine ⟨_, grounds_refl (d := 4) _ ?_, fun w2 _ => ?_⟩
    · exact List.all_eq_true.2 fun v hv => by obtain ⟨b, _, rfl⟩ := List.mem_map.1 hv; rfl
    · simp only [Builtin.firstCells, Sem.run_pure]
      congr 1
      apply Array.ext'
      simp
  · cases h

theorem lenL_ok {P : Program} {ρ : Ren} {x x' : Value} (hx : VR ρ x x') {n : Nat} (h : lenL x = some n) (w : World) : (Builtin.lenOf x').run P w = .ok n w := by
  unfold lenL at h
  split at h
  · injection h with h; subst h; cases hx <;> rfl
  · injection h with h; subst h; cases hx; rfl
  · cases h

/-- What a row of stores leaves. -/
theorem storeCells_world {P : Program} {b : Nat} {T : TypeId} : ∀ (l : List Value) (off i : Nat) (w : World) (C : Array Value), w.heap[b]? = some (.cells C T (0, 0)) → off + i + l.length ≤ C.size → (∀ v ∈ l, v.oneCell' = true) →
    ∃ w' C', (storeCells ⟨b, off, none⟩ l i).run P w = .ok () w' ∧ w'.heap[b]? = some (.cells C' T (0, 0)) ∧ C'.size = C.size ∧ (∀ j v, l[j]? = some v → C'.getD (off + i + j) undef = v) ∧
      (∀ k, k < off + i ∨ off + i + l.length ≤ k → C'.getD k undef = C.getD k undef) ∧ w'.heap.size = w.heap.size ∧ (∀ k, k ≠ b → w'.heap[k]? = w.heap[k]?) ∧ w'.os = w.os ∧ w'.tape = w.tape ∧ w'.output = w.output
  | [], off, i, w, C, hC, hl, hv => ⟨w, C, rfl, hC, rfl, fun j v h => by simp at h, fun _ _ => rfl, rfl, fun _ _ => rfl, rfl, rfl, rfl⟩
  | v :: l, off, i, w, C, hC, hl, hv => by
    simp only [List.length_cons] at hl
    have hrun : (store ⟨b, off + i, none⟩ v).run P w = .ok () (w.setCell ⟨b, off + i, none⟩ v) := by
      rw [run_store P w _ v _ (hv v (by simp)), cell_of_row w _ _ C T _ hC, getD_some (by omega), frozen_of_row w _ _ C T hC]; rfl
    have hnew := heap_setCell_same w b (off + i) C T v hC
    obtain ⟨w', C', h1, h2, h3, h4, h5, h6, h7, h8, h9, h10⟩ := storeCells_world l off (i + 1) _ _ hnew (by simp; omega) (fun u hu => hv u (by simp [hu]))
    refine ⟨w', C', ?_, h2, by simpa using h3, ?_, ?_, by simpa using h6, ?_, h8, h9, h10⟩
    · simp only [storeCells, Sem.run_bind, add_none, hrun, Result.andThen_ok]; exact h1
    · intro j u hj
      cases j with
      | zero =>
        simp at hj; subst hj
        rw [h5 (off + i + 0) (by omega)]
        have hh : off + i < C.size := by omega
        simp [Array.getD, hh]
      | succ j =>
        rw [show off + i + (j + 1) = off + (i + 1) + j by omega]
        exact h4 j u (by simpa using hj)
    · intro k hk
      simp only [List.length_cons] at hk
      rw [h5 k (by omega)]
      simp only [Array.getD_eq_getD_getElem?]
      rw [Array.getElem?_setIfInBounds_ne (by omega)]
    · intro k hk
      rw [h7 k hk]
      exact heap_setCell_other w _ _ _ hk

/-- A row is written anew. -/
theorem upd_ok {B : Nat} {ρ : Ren} {s s' : LS} {w w' : World} (h : R B ρ s w) {b : Nat} {p : Pl} (hp : ρ b = some p) {n c z zn es n2 c2 z2 zn2} (ho : s.h.get b = some (.cells n c z zn es)) {C : Array Value} {T : TypeId}
    (hsize : w'.heap.size = w.heap.size) (hothers : ∀ k, k ≠ p.at_ → w'.heap[k]? = w.heap[k]?) (hos : w'.os = w.os) (htp : w'.tape = w.tape) (hout : w'.output = w.output)
    (hC : w'.heap[p.at_]? = some (.cells C T (0, 0))) (hCs : p.off + p.ext ≤ C.size) (hn : n2 ≤ p.ext) (hv : ∀ k, k < n2 → VR ρ (cellAt c2 z2 zn2 k) (C.getD (p.off + k) undef)) {low : Nat}
    (hs' : s' = ⟨s.h.set b (some (.cells n2 c2 z2 zn2 es)), s.nx, low⟩) : R B ρ s' w' ∧ St ρ s w ρ s' w' := by
  obtain ⟨hes, _, hB, hat, _⟩ := h.row hp ho
  have hget : ∀ i o, s'.h.get i = some o → (i = b ∧ o = .cells n2 c2 z2 zn2 es) ∨ (i ≠ b ∧ s.h.get i = some o) := by
    intro i o hi
    rw [hs'] at hi
    simp only [Tr.get_set] at hi
    by_cases e : i = b
    · rw [if_pos e] at hi; injection hi with hi; exact .inl ⟨e, hi.symm⟩
    · rw [if_neg e] at hi; exact .inr ⟨e, hi⟩
  have hold : ∀ i o, s'.h.get i = some o → ∃ o', s.h.get i = some o' := by
    intro i o hi
    rcases hget i o hi with ⟨rfl, _⟩ | ⟨_, hi⟩
    · exact ⟨_, ho⟩
    · exact ⟨_, hi⟩
  have hwf : ∀ i o, s'.h.get i = some o → i < s'.nx := by
    intro i o hi
    obtain ⟨o', ho'⟩ := hold i o hi
    have : s'.nx = s.nx := by rw [hs']
    have := h.wf _ _ ho'; omega
  refine ⟨⟨by rw [hsize]; exact h.base, hwf, ?_, ?_⟩, ⟨fun _ _ h => h, fun _ _ => rfl, by omega, hos, htp, hout, ?_, ?_⟩⟩
  · intro i o hi
    rcases hget i o hi with ⟨rfl, rfl⟩ | ⟨e, hi⟩
    · exact ⟨p, hp, ⟨hes, hn, C, T, hC, hCs, hv⟩, hB, by omega⟩
    · obtain ⟨q, hq, hor, h1, h2⟩ := h.obj i o hi
      exact ⟨q, hq, hor.keep (fun _ _ h => h) (hothers _ fun e' => e (h.inj i b o _ q p hi ho hq hp e')), h1, by omega⟩
  · intro i j o o' p' q' hi hj hp' hq' e
    obtain ⟨x, hx⟩ := hold i o hi
    obtain ⟨y, hy⟩ := hold j o' hj
    exact h.inj i j x y p' q' hx hy hp' hq' e
  · intro k hk hne
    exact hothers k fun e => hne b _ p ho hp e.symm
  · intro i o q hi hq
    obtain ⟨x, hx⟩ := hold i o hi
    exact .inr ⟨i, x, q, hx, hq, rfl⟩

section
variable {E : Env} (hE : E.Ok) {B : Nat} {nt : Nat} {ρ : Ren} {t : Tr Value} {a : Act} (ht : TR nt ρ t a) {s s' : LS} {w : World} (hR : R B ρ s w) {o : Oper} {v : Value}
include hE ht hR

set_option maxRecDepth 20000 in
theorem makeSlice_ok (hF : Free ρ s.nx s'.nx) {ty : TypeId} {x y : Operand} (ho : o.op = .makeSlice ty x y) (h : opL E s t o.op = some (v, s')) : OpOk E B ρ s w a o v s' := by
  rw [ho] at h
  simp only [opL] at h
  split at h
  · rename_i elem l c hu hx hy
    split at h
    · rename_i z hz
      rw [cond_eq_ite] at h
      split at h
      · rename_i hc
        simp only [Bool.and_eq_true] at hc
        obtain ⟨⟨⟨⟨h1, h2⟩, h3⟩, h4⟩, h5⟩ := hc
        replace h1 : l ≤ c := Nat.le_of_ble_eq_true h1
        replace h2 : c ≤ 1000000 := Nat.le_of_ble_eq_true h2
        replace h3 : bytesT E elem ≤ 1000000 := Nat.le_of_ble_eq_true h3
        replace h4 : z.length = sizeT E elem := Nat.eq_of_beq_eq_true h4
        simp only [Option.some.injEq, Prod.mk.injEq] at h
        obtain ⟨rfl, hs'⟩ := h
        have hfr : ρ s.nx = none := hF _ (Nat.le_refl _) (by rw [← hs']; simp)
        obtain ⟨k1, _, hx'⟩ := natOf_ok hx (lev_ok ht x)
        obtain ⟨k2, _, hy'⟩ := natOf_ok hy (lev_ok ht y)
        obtain ⟨zv, hz1, hz2, hz3, hz4⟩ := run_zero hE hz w
        obtain ⟨i, hi⟩ := Option.isSome_iff_exists.1 h5
        have hb : bytesT E elem = i.bytes := by simp [bytesT, hi]
        have hsz : sizeT E elem = i.size := by simp [sizeT, hi]
        have hzs : zv.cells.size = i.size := by rw [← hsz, ← h4, ← hz2]; simp
        have hmul : i.bytes * c ≤ 1000000 * 1000000 := Nat.mul_le_mul (by omega) h2
        have hmul' : ¬ ((i.bytes : Int) * (c : Int) > 2 ^ 48) := by
          rw [← Int.natCast_mul]
          generalize i.bytes * c = M at hmul
          omega
        have hC : ∃ C : Array Value, (Instr.makeSlice ty (.int k1 l) (.int k2 c)).run E.P w = .ok (.slice (some ⟨w.heap.size, 0, none⟩) l c) (w.alloc (.cells C elem)) ∧ C.size = c * i.size ∧ ∀ k, k < c * i.size → VR ρ (cellAt .e z z.length k) (C.getD k undef) := by
          by_cases h0 : c * i.size = 0
          · refine ⟨#[], ?_, by rw [h0]; rfl, by intro k hk; omega⟩
            have hr0 : (Array.range 0) = #[] := rfl
            simp only [Instr.makeSlice, asInt, asIntOf, Sem.run_bind, Sem.run_pure, run_und hE hu, Result.andThen_ok, run_info hE hi, wrap_small (show l ≤ 1000000 by omega), wrap_small h2]
            have hc1 : ¬ ((c : Int) < 0) := by omega
            have hc2 := hmul'
            have hc3 : ¬ ((l : Int) < 0) := by omega
            have hc4 : ¬ ((l : Int) > (c : Int)) := by omega
            simp only [hc1, hc2, hc3, hc4, decide_false, Bool.or_self, Bool.false_eq_true, if_false, Result.andThen_ok, Sem.run_bind, run_askRoom, sizeOf, run_info hE hi, Sem.run_pure, Int.toNat_natCast, h0, if_true, hr0, Array.map_empty, newRow, run_newObj]
            rfl
          · refine ⟨(zeros z c).toArray, ?_, by simp [zeros_len, h4, hsz], ?_⟩
            · have hzz := zeros_range zv.cells c (.inl (by intro e; rw [hzs] at e; rw [e] at h0; simp at h0))
              rw [hzs, hz2] at hzz
              simp only [Instr.makeSlice, asInt, asIntOf, Sem.run_bind, Sem.run_pure, run_und hE hu, Result.andThen_ok, run_info hE hi, wrap_small (show l ≤ 1000000 by omega), wrap_small h2]
              have hc1 : ¬ ((c : Int) < 0) := by omega
              have hc2 := hmul'
              have hc3 : ¬ ((l : Int) < 0) := by omega
              have hc4 : ¬ ((l : Int) > (c : Int)) := by omega
              simp only [hc1, hc2, hc3, hc4, decide_false, Bool.or_self, Bool.false_eq_true, if_false, Result.andThen_ok, Sem.run_bind, run_askRoom, sizeOf, run_info hE hi, Sem.run_pure, Int.toNat_natCast, h0, hz1, hzs, hzz, newRow, run_newObj]
              rfl
            · intro k hk
              have hpos : 0 < z.length := by
                rcases Nat.eq_zero_or_pos z.length with h | h
                · exfalso; apply h0; rw [← hsz, ← h4, h]; simp
                · exact h
              obtain ⟨e1, e2⟩ := cellAt_zero (z := z) (k := k) hpos
              rw [e1]
              have e3 : (zeros z c)[k]? = some (nth z (k % z.length)) := by rw [zeros_get z c k (by rw [h4, hsz]; exact hk), e2]
              have e4 : (zeros z c).toArray.getD k undef = nth z (k % z.length) := by rw [Array.getD_eq_getD_getElem?]; simp [e3]
              rw [e4]
              exact ground_refl 4 _ (List.all_eq_true.1 hz3 _ (List.mem_of_getElem? e2))
        obtain ⟨C, hrun, hCs, hCv⟩ := hC
        obtain ⟨g1, g2⟩ := new_ok (n := c * i.size) (ext := c * i.size) (es := 0) (T := elem) hR hfr (same_world w) (Nat.le_refl _) (by omega) hCv (s' := s') (low := s.low) (by rw [← hs', hsz])
        refine ⟨_, _, .slice (some ⟨w.heap.size, 0, none⟩) l c, .inl ?_, g2, g1, .slice (p := ⟨w.heap.size, 0, c * i.size, 0⟩) Ren.put_same h1 (fun _ => rfl) (.inl rfl)⟩
        simp only [execOp, ho, hx', hy', Sem.run_bind, hrun, Result.andThen_ok, Sem.run_pure]
      · cases h
    · cases h
  · cases h

theorem capOp_ok {args : Array Operand} {ats : Array TypeId} (ho : o.op = .call { callee := .builtin .cap, args, argTypes := ats }) (h : opL E s t o.op = some (v, s')) : OpOk E B ρ s w a o v s' := by
  obtain ⟨cs, hcall⟩ := builtin_run (a := a) ho
  rw [ho] at h
  simp only [opL] at h
  split at h
  · rename_i x ty h0 ht0
    have hx := lev_ok ht x
    have h0' : (args.map a.eval)[0]? = some (a.eval x) := by simp [h0]
    have key : ∀ n : Nat, (Builtin.cap_ ats o.type (args.map a.eval)).run E.P w = .ok (.int .i64 n) w → OpOk E B ρ s w a o (.int .i64 n) s := by
      intro n hn
      refine ⟨w, ρ, .int .i64 n, .inl ?_, .refl _ _ _, hR, .int _ _⟩
      rw [hcall]
      simp only [Sem.run_bind, Sem.run_pure, Result.andThen_ok, invoke, builtin, hn]
    split at h
    · rename_i n c hu hl
      simp only [Option.some.injEq, Prod.mk.injEq] at h
      obtain ⟨rfl, rfl⟩ := h
      rw [hl] at hx
      generalize hg : a.eval x = g at hx h0'
      cases hx
      refine key _ ?_
      simp [Builtin.cap_, ht0, h0', run_und hE hu, goInt]
    · rename_i ad n c hu hl
      rw [cond_eq_ite] at h
      split at h
      · rename_i hc
        simp only [Option.some.injEq, Prod.mk.injEq] at h
        obtain ⟨rfl, rfl⟩ := h
        rw [hl] at hx
        generalize hg : a.eval x = g at hx h0'
        cases hx
        rename_i q c' p hp hcap hq hnc
        have hes : p.es = 0 := by
          unfold LS.exact at hc
          split at hc
          · rename_i es hes
            rw [grows_ok hR hes hp]; exact Nat.eq_of_beq_eq_true hc
          · cases hc
        have hc' : c' = c := by
          rcases hq with h | ⟨_, h, _⟩
          · exact h
          · exact absurd hes h
        rw [hc'] at h0'
        refine key _ ?_
        simp [Builtin.cap_, ht0, h0', run_und hE hu, goInt]
      · cases h
    · rename_i n e hu
      simp only [Option.some.injEq, Prod.mk.injEq] at h
      obtain ⟨rfl, rfl⟩ := h
      refine key _ ?_
      simp [Builtin.cap_, ht0, h0', run_und hE hu, goInt]
    · cases h
  · cases h

omit hE ht hR in
theorem first0 {x x' : Value} {m size : Nat} (hx : VR ρ x x') (h : lenL x = some m) : (Builtin.firstCells size 0 x').run E.P w = .ok #[] w := by
  unfold lenL at h
  split at h
  · cases hx <;> simp [Builtin.firstCells, loadCells, loadCellsFrom]
  · cases hx; simp [Builtin.firstCells]
  · cases h

theorem copyOp_ok {args : Array Operand} {ats : Array TypeId} (ho : o.op = .call { callee := .builtin .copy, args, argTypes := ats }) (h : opL E s t o.op = some (v, s')) : OpOk E B ρ s w a o v s' := by
  obtain ⟨cs, hcall⟩ := builtin_run (a := a) ho
  rw [ho] at h
  simp only [opL] at h
  split at h
  · rename_i x y tx h0 h1 ht0
    have hx := lev_ok ht x
    have hy := lev_ok ht y
    have h0' : (args.map a.eval)[0]? = some (a.eval x) := by simp [h0]
    have h1' : (args.map a.eval)[1]? = some (a.eval y) := by simp [h1]
    have key : ∀ (n : Nat) (w' : World) (s' : LS), St ρ s w ρ s' w' → R B ρ s' w' → (Builtin.copy_ ats o.type (args.map a.eval)).run E.P w = .ok (.int .i64 n) w' → OpOk E B ρ s w a o (.int .i64 n) s' := by
      intro n w' s' hS hR' hn
      refine ⟨w', ρ, .int .i64 n, .inl ?_, hS, hR', .int _ _⟩
      rw [hcall]
      simp only [Sem.run_bind, Sem.run_pure, Result.andThen_ok, invoke, builtin, hn]
    split at h
    · rename_i elem ad len cap m hu hl hm
      have hlen := lenL_ok (P := E.P) hy hm w
      rw [hl] at hx
      generalize hg : a.eval x = g at hx h0'
      rw [cond_eq_ite] at h
      split at h
      · cases h
      · rename_i hs
        have hs : (E.info.get elem).isSome = true := by cases hh : (E.info.get elem).isSome <;> simp_all
        rw [beq_ite] at h
        split at h
        · rename_i hmin
          simp only [Option.some.injEq, Prod.mk.injEq] at h
          obtain ⟨rfl, rfl⟩ := h
          refine key 0 w s (.refl _ _ _) hR ?_
          have hmin' : Nat.min m len = 0 := hmin
          cases hx <;> simp [Builtin.copy_, ht0, h0', h1', run_und hE hu, hlen, hmin', run_size hE hs, first0 hy hm, storeCells, goInt]
        · rename_i hmin
          split at h
          · rename_i cells b j hcs
            split at h
            · rename_i s1 hs1
              simp only [Option.some.injEq, Prod.mk.injEq] at h
              obtain ⟨rfl, rfl⟩ := h
              obtain ⟨l', hvs, hrun⟩ := src_ok (P := E.P) hR hy hcs (by rw [hm]; exact Nat.min_le_left _ _)
              cases hx
              rename_i q c' p hp hcap hq hnc
              have hle : Nat.min m len ≤ len := Nat.min_le_right _ _
              obtain rfl := hq (by omega)
              obtain ⟨w', hst, hR', hS, _⟩ := stores_ok hp E.P _ _ hvs j 0 s s1 w hR hs1
              refine key _ w' s1 hS hR' ?_
              simp [Builtin.copy_, ht0, h0', h1', run_und hE hu, hlen, run_size hE hs, hrun w rfl, hst, goInt]
            · cases h
          · cases h
    · cases h
  · cases h

theorem clearOp_ok {args : Array Operand} {ats : Array TypeId} (ho : o.op = .call { callee := .builtin .clear, args, argTypes := ats }) (h : opL E s t o.op = some (v, s')) : OpOk E B ρ s w a o v s' := by
  obtain ⟨cs, hcall⟩ := builtin_run (a := a) ho
  rw [ho] at h
  simp only [opL] at h
  split at h
  · rename_i x tx h0 ht0
    have hx := lev_ok ht x
    have h0' : (args.map a.eval)[0]? = some (a.eval x) := by simp [h0]
    have key : ∀ (w' : World) (s' : LS), St ρ s w ρ s' w' → R B ρ s' w' → (Builtin.clear_ ats o.type (args.map a.eval)).run E.P w = .ok (.tuple #[]) w' → OpOk E B ρ s w a o (.tuple #[]) s' := by
      intro w' s' hS hR' hn
      refine ⟨w', ρ, .tuple #[], .inl ?_, hS, hR', .tuple .nil⟩
      rw [hcall]
      simp only [Sem.run_bind, Sem.run_pure, Result.andThen_ok, invoke, builtin, hn]
    split at h
    · rename_i elem b j n cap hu hl
      rw [hl] at hx
      generalize hg : a.eval x = g at hx h0'
      cases hx
      rename_i q c' p hp hcap hq hnc
      split at h
      · rename_i z hz
        split at h
        · rename_i len c0 z0 zn0 es hob
          rw [beq_ite] at h
          split at h
          · rename_i hn0
            subst hn0
            simp only [Option.some.injEq, Prod.mk.injEq] at h
            obtain ⟨rfl, rfl⟩ := h
            exact key w s (.refl _ _ _) hR (by simp [Builtin.clear_, ht0, h0', run_und hE hu])
          · rename_i hn0
            rw [cond_eq_ite] at h
            split at h
            · rename_i hc
              simp only [Bool.and_eq_true, Bool.not_eq_true'] at hc
              obtain ⟨⟨⟨h1, h2⟩, h3⟩, h4⟩ := hc
              replace h1 := Nat.eq_of_beq_eq_true h1
              replace h2 := Nat.eq_of_beq_eq_true h2
              replace h3 := Nat.eq_of_beq_eq_true h3
              have h4 : z.length ≠ 0 := fun e => by rw [e] at h4; exact absurd h4 (by decide)
              simp only [Option.some.injEq, Prod.mk.injEq] at h
              obtain ⟨rfl, hs'⟩ := h
              subst h1
              obtain rfl := hq (by omega)
              obtain ⟨zv, hz1, hz2, hz3, hz4⟩ := run_zero hE hz w
              obtain ⟨hes, hn, hB, hat, C, T, hC, hCs, hvs⟩ := hR.row hp hob
              have hzs : zv.cells.size = z.length := by rw [← hz2]; simp
              have hzl : Builtin.zeroCells zv.cells n = (zeros z n).toArray := by
                have := zeros_range zv.cells n (.inl (by omega))
                rw [hz2] at this; exact this
              have hlen : (zeros z n).length = len := by rw [zeros_len, h3, h2]
              obtain ⟨w', C', g1, g2, g3, g4, g5, g6, g7, g8, g9, g10⟩ := storeCells_world (P := E.P) (zeros z n) (p.off + 0) 0 w C hC (by omega) (fun u hu => by
                have h5 : isCell u = true := List.all_eq_true.1 (zeros_cell hz4 n) u hu
                exact (ground_refl (ρ := ρ) 4 u (List.all_eq_true.1 (zeros_ground hz3 n) u hu)).cell h5)
              obtain ⟨k1, k2⟩ := upd_ok hR hp hob (n2 := len) (c2 := .e) (z2 := z) (zn2 := z.length) g6 g7 g8 g9 g10 g2 (by omega) hn (by
                intro k hk
                obtain ⟨e1, e2⟩ := cellAt_zero (z := z) (k := k) (by omega)
                rw [e1]
                have e3 : (zeros z n)[k]? = some (nth z (k % z.length)) := by rw [zeros_get z n k (by rw [h3, h2]; exact hk), e2]
                have e4 := g4 k _ e3
                rw [show p.off + k = p.off + 0 + 0 + k by omega, e4]
                exact ground_refl 4 _ (List.all_eq_true.1 hz3 _ (List.mem_of_getElem? e2))) hs'.symm
              refine key w' s' k2 k1 ?_
              obtain ⟨n', rfl⟩ : ∃ n', n = n' + 1 := ⟨n - 1, by omega⟩
              have g1' : (storeCells ⟨p.at_, p.off, none⟩ (zeros z (n' + 1))).run E.P w = .ok () w' := by simpa using g1
              simp [Builtin.clear_, ht0, h0', run_und hE hu, hz1, hzl, g1']
            · cases h
        · cases h
      · cases h
    · rename_i n cap hu hl
      rw [hl] at hx
      generalize hg : a.eval x = g at hx h0'
      cases hx
      simp only [Option.some.injEq, Prod.mk.injEq] at h
      obtain ⟨rfl, rfl⟩ := h
      exact key w s (.refl _ _ _) hR (by simp [Builtin.clear_, ht0, h0', run_und hE hu])
    · cases h
  · cases h

end
end Go.Proofs.Ytkncaafjkoeijaa.Eng
