
/- Operations on memory: making, loading, storing. -/
import Derived.Test.YtkncaafjkoeijaaEngB
namespace Go.Proofs.Ytkncaafjkoeijaa.Eng
open Go
set_option linter.unusedVariables false
set_option linter.unusedSimpArgs false

/-- What an operation on memory owes. -/
def OpOk (E : Env) (B : Nat) (ρ : Ren) (s : LS) (w : World) (a : Act) (o : Oper) (v : Value) (s' : LS) : Prop :=
  ∃ w' ρ' v', ((execOp a.eval o).run E.P w = .ok (.value v') w' ∨ ((execOp a.eval o).run E.P w = .ok .skip w' ∧ v' = undef)) ∧ St ρ s w ρ' s' w' ∧ R B ρ' s' w' ∧ VR ρ' v v'

def Free (ρ : Ren) (m n : Nat) : Prop := ∀ i, m ≤ i → i < n → ρ i = none

theorem nth_get : ∀ (l : List Value) (k : Nat) (v : Value), l[k]? = some v → nth l k = v
  | [], k, v, h => by simp at h
  | x :: l, 0, v, h => by simp at h; subst h; rfl
  | x :: l, k + 1, v, h => by
    show (bif Nat.beq (k + 1) 0 then x else nth l (k + 1 - 1)) = v
    rw [beq_ite, if_neg (by omega)]
    exact nth_get l k v (by simpa using h)

theorem cellAt_list {l : List Value} {k : Nat} (h : k < l.length) : ∃ v, l[k]? = some v ∧ cellAt .e l l.length k = v := by
  refine ⟨l[k], by simp [h], ?_⟩
  unfold cellAt
  simp only [Tr.get, Nat.mod_eq_of_lt h]
  exact nth_get l k _ (by simp [h])

/-- A new row of these cells. -/
theorem row_ok {B : Nat} {ρ : Ren} {s : LS} {w w0 : World} (h : R B ρ s w) (hf : ρ s.nx = none) {l l' : List Value} (hl : VRs ρ l l') (T : TypeId) (es : Nat) (rest : List Value)
    (hw0 : w0.heap = w.heap ∧ w0.os = w.os ∧ w0.tape = w.tape ∧ w0.output = w.output) {s' : LS} {low : Nat} (hs' : s' = ⟨s.h.set s.nx (some (.cells l.length .e l l.length es)), s.nx + 1, low⟩) :
    R B (ρ.put s.nx ⟨w.heap.size, 0, l'.length + rest.length, es⟩) s' (w0.alloc (.cells (l'.toArray ++ rest.toArray) T)) ∧
      St ρ s w (ρ.put s.nx ⟨w.heap.size, 0, l'.length + rest.length, es⟩) s' (w0.alloc (.cells (l'.toArray ++ rest.toArray) T)) := by
  have hlen := hl.length
  refine new_ok h hf hw0 (by omega) (by simp) ?_ hs'
  intro k hk
  obtain ⟨v, hv, hc⟩ := cellAt_list hk
  obtain ⟨v', hv', hr⟩ := hl.get k v hv
  rw [hc]
  have hlt : k < l'.length := by omega
  have e : (l'.toArray ++ rest.toArray).getD k undef = v' := by
    have h2 : (l'.toArray ++ rest.toArray)[k]? = some v' := by
      rw [Array.getElem?_append_left (by simpa using hlt)]
      simpa using hv'
    rw [Array.getD_eq_getD_getElem?, h2]; rfl
  rw [e]; exact hr

theorem row0_ok {B : Nat} {ρ : Ren} {s : LS} {w w0 : World} (h : R B ρ s w) (hf : ρ s.nx = none) {l l' : List Value} (hl : VRs ρ l l') (T : TypeId) (es : Nat)
    (hw0 : w0.heap = w.heap ∧ w0.os = w.os ∧ w0.tape = w.tape ∧ w0.output = w.output) {s' : LS} {low : Nat} (hs' : s' = ⟨s.h.set s.nx (some (.cells l.length .e l l.length es)), s.nx + 1, low⟩) :
    R B (ρ.put s.nx ⟨w.heap.size, 0, l'.length, es⟩) s' (w0.alloc (.cells l'.toArray T)) ∧ St ρ s w (ρ.put s.nx ⟨w.heap.size, 0, l'.length, es⟩) s' (w0.alloc (.cells l'.toArray T)) := by
  have := row_ok h hf hl T es [] hw0 hs'
  simpa using this

theorem zeros_len (z : List Value) : ∀ n, (zeros z n).length = n * z.length
  | 0 => by simp [zeros]
  | n + 1 => by simp [zeros, zeros_len z n, Nat.add_mul]; omega
theorem zeros_get (z : List Value) : ∀ (n j : Nat), j < n * z.length → (zeros z n)[j]? = z[j % z.length]?
  | 0, j, h => by simp at h
  | n + 1, j, h => by
    simp only [zeros]
    by_cases hj : j < z.length
    · rw [List.getElem?_append_left hj, Nat.mod_eq_of_lt hj]
    · have hz : 0 < z.length := by
        rcases Nat.eq_zero_or_pos z.length with h0 | h0
        · rw [h0] at h; simp at h
        · exact h0
      rw [List.getElem?_append_right (by omega), zeros_get z n (j - z.length) (by rw [Nat.add_mul] at h; omega)]
      rw [← Nat.mod_eq_sub_mod (by omega)]

theorem zeros_ground {z : List Value} (h : z.all (ground 4) = true) : ∀ n, (zeros z n).all (ground 4) = true
  | 0 => rfl
  | n + 1 => by simp only [zeros, List.all_append, h, zeros_ground h n, Bool.and_self]

/-- The zeros that the model lays. -/
theorem zeros_range (z : Array Value) (n : Nat) (hz : z.size ≠ 0 ∨ n = 0) : (Array.range (n * z.size)).map (fun i => z[i % z.size]!) = (zeros z.toList n).toArray := by
  apply Array.ext'
  apply List.ext_getElem?
  intro j
  simp only [Array.toList_map, Array.toList_range, List.getElem?_map]
  by_cases hj : j < n * z.size
  · have h1 : (zeros z.toList n)[j]? = z.toList[j % z.toList.length]? := zeros_get _ _ _ (by simpa using hj)
    rw [h1]
    have hpos : 0 < z.size := by
      rcases hz with h | h
      · omega
      · subst h; simp at hj
    have hm : j % z.size < z.size := Nat.mod_lt _ hpos
    simp [hj, hm]
  · have h1 : (zeros z.toList n).length ≤ j := by rw [zeros_len]; simpa using Nat.le_of_not_lt hj
    rw [List.getElem?_eq_none h1]
    simp [Nat.le_of_not_lt hj]

theorem same_world (w : World) : w.heap = w.heap ∧ w.os = w.os ∧ w.tape = w.tape ∧ w.output = w.output := ⟨rfl, rfl, rfl, rfl⟩

section
variable {E : Env} (hE : E.Ok) {B : Nat} {nt : Nat} {ρ : Ren} {t : Tr Value} {a : Act} (ht : TR nt ρ t a) {s s' : LS} {w : World} (hR : R B ρ s w) {o : Oper} {v : Value} (hF : Free ρ s.nx s'.nx)
include hE ht hR hF

omit ht in
theorem alloc_ok {e : TypeId} (ho : o.op = .alloc e) (h : opL E s t o.op = some (v, s')) : OpOk E B ρ s w a o v s' := by
  rw [ho] at h
  simp only [opL] at h
  split at h
  · rename_i z hz
    simp only [LS.row, Option.some.injEq, Prod.mk.injEq] at h
    obtain ⟨rfl, hs'⟩ := h
    obtain ⟨zv, hz1, hz2, hz3, hz4⟩ := run_zero hE hz w
    have hf : ρ s.nx = none := hF _ (Nat.le_refl _) (by rw [← hs']; simp)
    obtain ⟨h1, h2⟩ := row0_ok hR hf (grounds_refl (ρ := ρ) z hz3) e 0 (same_world w) hs'.symm
    refine ⟨_, _, .pointer (some ⟨w.heap.size, 0, none⟩), .inl ?_, h2, h1, .ptr (p := ⟨w.heap.size, 0, z.length, 0⟩) Ren.put_same⟩
    simp only [execOp, ho, Instr.alloc, Sem.run_bind, hz1, Result.andThen_ok, newVar, newRow, run_newObj, Sem.run_pure]
    rw [← hz2]; rfl
  · cases h

omit hE in
theorem box_ok {e : TypeId} {x : Operand} (ho : o.op = .box e x) (h : opL E s t o.op = some (v, s')) : OpOk E B ρ s w a o v s' := by
  rw [ho] at h
  simp only [opL] at h
  rw [cond_eq_ite] at h
  split at h
  · cases h
  · rename_i hb
    simp only [LS.row, Option.some.injEq, Prod.mk.injEq] at h
    obtain ⟨rfl, hs'⟩ := h
    have hf : ρ s.nx = none := hF _ (Nat.le_refl _) (by rw [← hs']; simp)
    have hv := (lev_ok ht x).cells (by simpa using hb)
    obtain ⟨h1, h2⟩ := row0_ok hR hf hv e 0 (same_world w) hs'.symm
    refine ⟨_, _, .pointer (some ⟨w.heap.size, 0, none⟩), .inl ?_, h2, h1, .ptr (p := ⟨w.heap.size, 0, (a.eval x).cells.toList.length, 0⟩) Ren.put_same⟩
    simp only [execOp, ho, Instr.box, Sem.run_bind, Result.andThen_ok, newVar, newRow, run_newObj, Sem.run_pure]
    rfl

theorem buildSlice_ok {ty : TypeId} {len : Nat} {parts : Array (Nat × Operand)} (ho : o.op = .buildSlice ty len parts) (h : opL E s t o.op = some (v, s')) : OpOk E B ρ s w a o v s' := by
  rw [ho] at h
  simp only [opL] at h
  split at h
  · rename_i elem hu
    split at h
    · rename_i z hz
      rw [cond_eq_ite] at h
      split at h
      · rename_i hc
        simp only [Bool.and_eq_true] at hc
        obtain ⟨⟨⟨hc1, hc2⟩, hc3⟩, hc4⟩ := hc
        have hle : len * sizeT E elem ≤ 1000000 := Nat.le_of_ble_eq_true hc1
        have hzl : z.length = sizeT E elem := Nat.eq_of_beq_eq_true hc2
        obtain ⟨zv, hz1, hz2, hz3, hz4⟩ := run_zero hE hz w
        have hzs : zv.cells.size = sizeT E elem := by rw [← hzl, ← hz2]; simp
        split at h
        · rename_i cells hf
          simp only [LS.row, Option.some.injEq, Prod.mk.injEq] at h
          obtain ⟨rfl, hs'⟩ := h
          have hfr : ρ s.nx = none := hF _ (Nat.le_refl _) (by rw [← hs']; simp)
          have hp := parts_ok ht parts.toList (by simpa [List.map_map, Function.comp_def] using hc4)
          obtain ⟨C', hC, hr⟩ := fill_ok hp (A := (zeros z len).toArray) (A' := (zeros z len).toArray) (grounds_refl _ (by simpa using zeros_ground hz3 len)) hf
          obtain ⟨h1, h2⟩ := row0_ok hR hfr hr elem 0 (same_world w) hs'.symm
          refine ⟨_, _, .slice (some ⟨w.heap.size, 0, none⟩) len len, .inl ?_, h2, h1, .slice (p := ⟨w.heap.size, 0, C'.toList.length, 0⟩) Ren.put_same (Nat.le_refl _) (fun _ => rfl) (.inl rfl)⟩
          have hbig : ¬ (len * sizeT E elem > 2 ^ 24) := by omega
          have hpe : (Array.map (fun x : Nat × Operand => match x with | (i, x) => (i, a.eval x)) parts).toList = parts.toList.map fun p => (p.1, a.eval p.2) := by simp
          simp only [execOp, ho, Instr.buildSlice, Sem.run_bind, run_und hE hu, Result.andThen_ok, run_size hE hc3, hbig, if_false, hpe]
          by_cases h0 : len * sizeT E elem = 0
          · have hz0 : (zeros z len) = [] := List.eq_nil_of_length_eq_zero (by rw [zeros_len, hzl, h0])
            rw [hz0] at hC
            have hr0 : (Array.range 0) = #[] := rfl
            simp only [h0, if_true, Sem.run_pure, Sem.run_bind, Result.andThen_ok, hr0, Array.map_empty]
            rw [show ([] : List Value).toArray = #[] from rfl] at hC
            rw [hC]
            simp only [newRow, Sem.run_bind, run_newObj, Result.andThen_ok, Sem.run_pure]
            rfl
          · have hzz := zeros_range zv.cells len (.inl (by intro e; rw [hzs] at e; rw [e] at h0; simp at h0))
            rw [hzs, hz2] at hzz
            simp only [h0, if_false, hz1, Result.andThen_ok, Sem.run_pure, Sem.run_bind]
            rw [show (Array.range (len * sizeT E elem)).map (fun x => zv.cells[x % zv.cells.size]!) = (zeros z len).toArray by rw [hzs]; exact hzz, hC]
            simp only [newRow, Sem.run_bind, run_newObj, Result.andThen_ok, Sem.run_pure]
            rfl
        · cases h
      · cases h
    · cases h
  · cases h

end

theorem loadVar_ok {E : Env} (hE : E.Ok) {B : Nat} {ρ : Ren} {s : LS} {w : World} (hR : R B ρ s w) {ty : TypeId} {b i : Nat} {v : Value} (h : loadVarL E s ty b i = some v) {p : Pl} (hp : ρ b = some p) :
    ∃ v', (loadVar ty ⟨p.at_, p.off + i, none⟩).run E.P w = .ok v' w ∧ VR ρ v v' := by
  unfold loadVarL at h
  rw [cond_eq_ite] at h
  split at h
  · rename_i hok
    simp only [okT, Bool.and_eq_true] at hok
    rw [cond_eq_ite] at h
    split at h
    · rename_i hag
      split at h
      · rename_i l hl
        injection h with h; subst h
        obtain ⟨l', hlen, hvs, hcs⟩ := loads_ok hR hp _ _ _ hl
        refine ⟨.agg l'.toArray, ?_, .agg (by simpa using hvs)⟩
        simp only [loadVar, Sem.run_bind, run_agg hE hok.2, hag, Result.andThen_ok, if_true, run_size hE hok.1, loads_run hlen hcs, Sem.run_pure]
      · cases h
    · rename_i hag
      obtain ⟨v', hc, hv⟩ := load_ok hR h hp
      have hag : isAggT E ty = false := by simpa using hag
      refine ⟨v', ?_, hv⟩
      simp [loadVar, run_agg hE hok.2, hag, hc]
  · cases h

theorem storeVar_ok {E : Env} (hE : E.Ok) {B : Nat} {ρ : Ren} {s s' : LS} {w : World} (hR : R B ρ s w) {ty : TypeId} {b i : Nat} {v v' : Value} (h : storeVarL E s ty b i v = some s') {p : Pl} (hp : ρ b = some p) (hv : VR ρ v v') :
    ∃ w', (storeVar ty ⟨p.at_, p.off + i, none⟩ v').run E.P w = .ok () w' ∧ R B ρ s' w' ∧ St ρ s w ρ s' w' ∧ s'.nx = s.nx := by
  unfold storeVarL at h
  rw [cond_eq_ite] at h
  split at h
  · rename_i hok
    simp only [okT, Bool.and_eq_true, Bool.not_eq_true'] at hok
    obtain ⟨⟨hok, hsz⟩, hb⟩ := hok
    have hsz : v.cells.size = sizeT E ty := Nat.eq_of_beq_eq_true hsz
    obtain ⟨w', hr, h1, h2, h3⟩ := stores_ok hp E.P _ _ (hv.cells hb) i 0 s s' w hR h
    refine ⟨w', ?_, h1, h2, h3⟩
    simp only [storeVar, Sem.run_bind, run_size hE hok.1, Result.andThen_ok]
    rw [if_neg (by rw [← hv.cells_size hb]; simpa using hsz)]
    simpa [Result.andThen] using hr
  · cases h

section
variable {E : Env} (hE : E.Ok) {B : Nat} {nt : Nat} {ρ : Ren} {t : Tr Value} {a : Act} (ht : TR nt ρ t a) {s s' : LS} {w : World} (hR : R B ρ s w) {o : Oper} {v : Value}
include hE ht hR

theorem loadOp_ok {ty : TypeId} {x : Operand} (ho : o.op = .load ty x) (h : opL E s t o.op = some (v, s')) : OpOk E B ρ s w a o v s' := by
  rw [ho] at h
  simp only [opL] at h
  split at h
  · rename_i b i hx
    obtain ⟨p, hp, hx'⟩ := addrOf_ok ht hx
    split at h
    · rename_i u hu
      simp only [Option.some.injEq, Prod.mk.injEq] at h
      obtain ⟨rfl, rfl⟩ := h
      obtain ⟨v', hr, hv⟩ := loadVar_ok hE hR hu hp
      refine ⟨w, ρ, v', .inl ?_, .refl _ _ _, hR, hv⟩
      simp only [execOp, ho, hx', Instr.loadAt, Instr.sureAddr, Sem.run_bind, Sem.run_pure, Result.andThen_ok, hr]
    · cases h
  · cases h

theorem storeOp_ok {ty : TypeId} {x y : Operand} (ho : o.op = .store ty x y) (h : opL E s t o.op = some (v, s')) : OpOk E B ρ s w a o v s' := by
  rw [ho] at h
  simp only [opL] at h
  split at h
  · rename_i b i hx
    obtain ⟨p, hp, hx'⟩ := addrOf_ok ht hx
    split at h
    · rename_i u hu
      simp only [Option.some.injEq, Prod.mk.injEq] at h
      obtain ⟨rfl, rfl⟩ := h
      obtain ⟨w', hr, h1, h2, h3⟩ := storeVar_ok hE hR hu hp (lev_ok ht y)
      refine ⟨w', ρ, undef, .inr ⟨?_, rfl⟩, h2, h1, .undef⟩
      simp only [execOp, ho, hx', Instr.storeAt, Instr.sureAddr, Sem.run_bind, Sem.run_pure, Result.andThen_ok, hr]
    · cases h
  · cases h

end
end Go.Proofs.Ytkncaafjkoeijaa.Eng
