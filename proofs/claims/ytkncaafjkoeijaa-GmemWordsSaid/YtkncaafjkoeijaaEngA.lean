
/- Operations on memory: rows that are cut, that grow, that are copied. -/
import Derived.Test.YtkncaafjkoeijaaEngH
namespace Go.Proofs.Ytkncaafjkoeijaa.Eng
open Go
set_option linter.unusedVariables false
set_option linter.unusedSimpArgs false

theorem wrap_small {n : Nat} (h : n ≤ 1000000) : IntKind.i64.wrap (n : Int) = n := by
  unfold IntKind.wrap
  simp only [IntKind.bits, IntKind.signed, Bool.true_and, decide_eq_true_eq, ge_iff_le]
  have h1 : (n : Int) % 2 ^ 64 = n := Int.emod_eq_of_lt (by omega) (by omega)
  rw [h1, if_neg (by omega)]

theorem grows_ok {B : Nat} {ρ : Ren} {s : LS} {w : World} (hR : R B ρ s w) {b es : Nat} (h : s.grows b = some es) {p : Pl} (hp : ρ b = some p) : p.es = es := by
  unfold LS.grows at h
  split at h
  · rename_i ho
    injection h with h; subst h
    exact (hR.row hp ho).1.symm
  · cases h

section
variable {E : Env} (hE : E.Ok) {B : Nat} {nt : Nat} {ρ : Ren} {t : Tr Value} {a : Act} (ht : TR nt ρ t a) {s s' : LS} {w : World} (hR : R B ρ s w) {o : Oper} {v : Value}
include hE ht hR

theorem pureOp_ok (h : (match pureL E t o.op with | some v => some (v, s) | none => none) = some (v, s')) : OpOk E B ρ s w a o v s' := by
  split at h
  · rename_i u hu
    simp only [Option.some.injEq, Prod.mk.injEq] at h
    obtain ⟨rfl, rfl⟩ := h
    obtain ⟨v', hr, hv⟩ := pure_ok hE ht w hu
    exact ⟨w, ρ, v', .inl hr, .refl _ _ _, hR, hv⟩
  · cases h

theorem sliceOp_ok {ty : TypeId} {x : Operand} {lo hi mx : Option Operand} (ho : o.op = .slice ty x lo hi mx) (h : opL E s t o.op = some (v, s')) : OpOk E B ρ s w a o v s' := by
  have hop := ho
  rw [ho] at h
  simp only [opL] at h
  have hx := lev_ok ht x
  split at h
  · rename_i elem ad len cap hu hl
    rw [hl] at hx
    generalize hg : a.eval x = g at hx
    split at h
    · rename_i l hh m b j hs
      cases hx
      rename_i q c' p hp hcap hq hnc
      rw [cond_eq_ite] at h
      split at h
      · rename_i hc
        simp only [Bool.and_eq_true] at hc
        obtain ⟨hc1, hc2⟩ := hc
        simp only [Option.some.injEq, Prod.mk.injEq] at h
        obtain ⟨rfl, rfl⟩ := h
        have hes : p.es = 0 ∨ p.es = sizeT E elem := by
          unfold LS.fits at hc2
          split at hc2
          · rename_i es hes
            rw [grows_ok hR hes hp]
            simp only [Bool.or_eq_true] at hc2
            rcases hc2 with h | h
            · exact .inl (Nat.eq_of_beq_eq_true h)
            · exact .inr (Nat.eq_of_beq_eq_true h)
          · cases hc2
        obtain ⟨m', hr, h1, h2, h3⟩ := sliceB_ok (P := E.P) (w := w) (isS := true) (cap := cap) (cap' := c') (by omega) hs (OVR.map ht lo) (OVR.map ht hi) (OVR.map ht mx) hnc
        refine ⟨w, ρ, .slice (some (if m' = l then (⟨p.at_, q, none⟩ : Addr) else (⟨p.at_, q, none⟩ : Addr).add (l * sizeT E elem))) (hh - l) (m' - l), .inl ?_, .refl _ _ _, hR, ?_⟩
        · simp only [execOp, ho, hg, Instr.sliceAt, Instr.slice, Sem.run_bind, run_und hE hu, Result.andThen_ok, hr, run_size hE hc1, Sem.run_pure]
          by_cases e : m' = l <;> simp [e]
        · rw [add_none, beq_ite]
          by_cases e : m = l
          · subst e
            simp only [if_true]
            by_cases e' : m' = m
            · simp only [e', if_true]
              exact .slice hp (by omega) (fun h => by omega) (.inl rfl)
            · simp only [e', if_false]
              rcases h3 with ⟨rfl, rfl⟩ | ⟨h, _⟩
              · rcases hcap with h | ⟨h4, h5, h6⟩
                · exact absurd h e'
                · refine .slice hp (by omega) (fun h => by omega) (.inr ⟨by omega, h5, ?_⟩)
                  rcases hes with h | h
                  · exact absurd h h5
                  · rw [← h]
                    have : (m' - m) * p.es = m' * p.es - m * p.es := Nat.sub_mul _ _ _
                    have h7 : m * p.es ≤ m' * p.es := Nat.mul_le_mul_right _ (by omega)
                    omega
              · exact absurd h e'
          · have e' : ¬ m' = l := by omega
            simp only [e, e', if_false]
            have hq' := hq (by omega)
            refine .slice hp (by omega) (fun _ => by omega) ?_
            rcases h3 with ⟨rfl, rfl⟩ | ⟨rfl, _⟩
            · rcases hcap with h | ⟨h4, h5, h6⟩
              · exact .inl (by omega)
              · refine .inr ⟨by omega, h5, ?_⟩
                rcases hes with h | h
                · exact absurd h h5
                · rw [← h]
                  have : (m' - l) * p.es = m' * p.es - l * p.es := Nat.sub_mul _ _ _
                  have h7 : l * p.es ≤ m' * p.es := Nat.mul_le_mul_right _ (by omega)
                  omega
            · exact .inl rfl
      · cases h
    · rename_i l hh m hs
      cases hx
      rw [cond_eq_ite] at h
      split at h
      · rename_i hc
        simp only [Option.some.injEq, Prod.mk.injEq] at h
        obtain ⟨rfl, rfl⟩ := h
        obtain ⟨m', hr, h1, h2, h3⟩ := sliceB_ok (P := E.P) (w := w) (isS := true) (Nat.le_refl 0) hs (OVR.map ht lo) (OVR.map ht hi) (OVR.map ht mx) (Nat.le_refl 0)
        have e1 : m' = 0 := by omega
        have e2 : hh = 0 := by omega
        have e3 : l = 0 := by omega
        subst e1 e2 e3
        refine ⟨w, ρ, .slice none 0 0, .inl ?_, .refl _ _ _, hR, .slice0⟩
        simp only [execOp, ho, hg, Instr.sliceAt, Instr.slice, Sem.run_bind, run_und hE hu, Result.andThen_ok, hr, run_size hE hc, Sem.run_pure]
        rfl
      · cases h
    · cases h
  · rw [← hop] at h
    exact pureOp_ok hE ht hR h

omit hE ht hR in
theorem bytes_ok : ∀ {l : List Value} {bs : List UInt8}, bytesOf l = some bs → ∃ ns : List Int, l = ns.map (fun n => .int .u8 n) ∧ bs = ns.map fun n => UInt8.ofNat n.toNat
  | [], bs, h => by simp only [bytesOf, Option.some.injEq] at h; subst h; exact ⟨[], rfl, rfl⟩
  | x :: l, bs, h => by
    unfold bytesOf at h
    split at h
    · cases ‹x :: l = []›
    · rename_i n l1 he
      injection he with h1 h2; subst h1 h2
      split at h
      · rename_i r hr
        injection h with h; subst h
        obtain ⟨ns, e1, e2⟩ := bytes_ok hr
        exact ⟨n :: ns, by simp [e1], by simp [e2]⟩
      · cases h
    · cases h

omit ht hR in
theorem toStr (a : Option Addr) (len cap : Nat) {src dst e : TypeId} (hs : E.und src = some (.slice e)) (hd : E.und dst = some .string) (he : E.und e = some (.int .u8)) :
    (convert src dst (.slice a len cap)).run E.P w = (Conv.bytesToString (.slice a len cap)).run E.P w := run_convert_bytes_string w src dst e a len cap (und_ok hE hs) (und_ok hE he) (und_ok hE hd)

theorem convertOp_ok {src dst : TypeId} {x : Operand} (ho : o.op = .convert src dst x) (h : opL E s t o.op = some (v, s')) : OpOk E B ρ s w a o v s' := by
  have hop := ho
  rw [ho] at h
  simp only [opL] at h
  have hx := lev_ok ht x
  split at h
  · rename_i len cap hl
    rw [hl] at hx
    generalize hg : a.eval x = g at hx
    cases hx
    split at h
    · rename_i e hs hd
      split at h
      · rename_i he
        simp only [Option.some.injEq, Prod.mk.injEq] at h
        obtain ⟨rfl, rfl⟩ := h
        refine ⟨w, ρ, .string .empty, .inl ?_, .refl _ _ _, hR, .string _⟩
        simp only [execOp, ho, hg, Sem.run_bind, toStr hE _ _ _ hs hd he, Conv.bytesToString, Sem.run_pure, Result.andThen_ok]
      · cases h
    · cases h
  · rename_i b j n cap hl
    rw [hl] at hx
    generalize hg : a.eval x = g at hx
    cases hx
    rename_i q c' p hp hcap hq hnc
    split at h
    · rename_i e hs hd
      split at h
      · rename_i l he hls
        split at h
        · rename_i bs hbs
          simp only [Option.some.injEq, Prod.mk.injEq] at h
          obtain ⟨rfl, rfl⟩ := h
          obtain ⟨ns, e1, e2⟩ := bytes_ok hbs
          refine ⟨w, ρ, .string ⟨bs.toArray⟩, .inl ?_, .refl _ _ _, hR, .string _⟩
          obtain ⟨l', hlen, hvs, hcs⟩ := loads_ok hR hp _ _ _ hls
          have hll : l' = l := by
            refine grounds_eq (d := 4) ?_ hvs
            rw [e1]; simp [ground]
          have hrun : (loadCells ⟨p.at_, q, none⟩ n).run E.P w = .ok (ns.map (Value.int .u8)).toArray w := by
            rw [← e1, ← hll]
            refine loads_run hlen ?_
            intro k u hk
            by_cases h0 : cap = 0
            · have : l' = [] := List.eq_nil_of_length_eq_zero (by omega)
              rw [this] at hk; simp at hk
            · rw [hq h0]; exact hcs k u hk
          have hfold : ∀ (ns : List Int) (A : ByteArray), ns.foldl (fun r n => r.push (UInt8.ofNat n.toNat)) A = ⟨A.data ++ (ns.map fun n => UInt8.ofNat n.toNat).toArray⟩ := by
            intro ns
            induction ns with
            | nil => intro A; simp
            | cons n ns ih => intro A; simp only [List.foldl_cons, ih]; simp [ByteArray.push]
          simp only [execOp, ho, hg, Sem.run_bind, toStr hE _ _ _ hs hd he, run_bytesToString w _ _ _ ns hrun, Sem.run_pure, Result.andThen_ok, hfold, e2]
          rw [show ByteArray.empty.data = #[] from rfl, Array.empty_append]
        · cases h
      · cases h
    · cases h
  · rw [← hop] at h
    exact pureOp_ok hE ht hR h

end
end Go.Proofs.Ytkncaafjkoeijaa.Eng
