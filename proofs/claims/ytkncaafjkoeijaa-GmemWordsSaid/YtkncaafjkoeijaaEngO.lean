
/- All operations together. -/
import Derived.Test.YtkncaafjkoeijaaEngA4
namespace Go.Proofs.Ytkncaafjkoeijaa.Eng
open Go
set_option linter.unusedVariables false
set_option linter.unusedSimpArgs false

section
variable {E : Env} (hE : E.Ok) {B : Nat} {nt : Nat} {ρ : Ren} {t : Tr Value} {a : Act} (ht : TR nt ρ t a) {s s' : LS} {w : World} (hR : R B ρ s w) {o : Oper} {v : Value}
include hE ht hR

theorem appendOp_ok (hF : Free ρ s.nx s'.nx) {args : Array Operand} {ats : Array TypeId} (ho : o.op = .call { callee := .builtin .append, args, argTypes := ats }) (h : opL E s t o.op = some (v, s')) : OpOk E B ρ s w a o v s' := by
  obtain ⟨cs, hcall⟩ := builtin_run (a := a) ho
  rw [ho] at h
  simp only [opL] at h
  split at h
  · rename_i x y tx ty h0 h1 ht0 ht1
    have hx := lev_ok ht x
    have hy := lev_ok ht y
    have h0' : (args.map a.eval)[0]? = some (a.eval x) := by simp [h0]
    have h1' : (args.map a.eval)[1]? = some (a.eval y) := by simp [h1]
    have key : (∃ w' ρ' v', (Builtin.append_ ats o.type (args.map a.eval)).run E.P w = .ok v' w' ∧ St ρ s w ρ' s' w' ∧ R B ρ' s' w' ∧ VR ρ' v v') → OpOk E B ρ s w a o v s' := by
      rintro ⟨w', ρ', v', hn, hS, hR', hv⟩
      refine ⟨w', ρ', v', .inl ?_, hS, hR', hv⟩
      rw [hcall]
      simp only [Sem.run_bind, Sem.run_pure, Result.andThen_ok, invoke, builtin, hn]
    have hAH : ∀ {elem : TypeId} {z : List Value} {n : Nat}, E.und tx = some (.slice elem) → zeroT E elem = some z → okApp E elem z n = true → ∃ i zv, E.info.get elem = some i ∧ sizeT E elem = i.size ∧ zv.cells.toList = z ∧ z.all (ground 4) = true ∧ z.all isCell = true ∧ z.length = i.size ∧
        ∀ (new' : List Value) (ty dy : _) (x' : Value), ats[1]? = some ty → E.P.underlying ty = some dy → (args.map a.eval)[1]? = some x' →
          (((∀ k, dy ≠ .int k) ∧ (Builtin.lenOf x').run E.P w = .ok n w ∧ ∀ w2 : World, w2.heap = w.heap → (Builtin.firstCells i.size n x').run E.P w2 = .ok new'.toArray w2) ∨
            ((∃ k, dy = .int k) ∧ (∃ k, x' = .int k n) ∧ n ≠ 0 ∧ new'.toArray = Builtin.zeroCells zv.cells n)) →
          ∀ base sLen sCap, a.eval x = .slice base sLen sCap → AH E.P w ats (args.map a.eval) elem i zv base sLen sCap n new' := by
      intro elem z n hu hz hok
      simp only [okApp, Bool.and_eq_true, Bool.not_eq_true'] at hok
      obtain ⟨⟨⟨k1, k2⟩, k3⟩, k4⟩ := hok
      replace k1 := Nat.le_of_ble_eq_true k1
      replace k2 := Nat.le_of_ble_eq_true k2
      replace k3 := Nat.eq_of_beq_eq_true k3
      have k4 : z.length ≠ 0 := fun e => by rw [e] at k4; exact absurd k4 (by decide)
      unfold zeroT at hz
      split at hz
      · rename_i i hi
        split at hz
        · rename_i zv hzv
          rw [cond_eq_ite] at hz
          split at hz
          · rename_i hg
            simp only [Bool.and_eq_true] at hg
            injection hz with hz
            have hsz : sizeT E elem = i.size := by simp [sizeT, hi]
            refine ⟨i, zv, hi, hsz, hz, hz ▸ hg.1, hz ▸ hg.2, by omega, ?_⟩
            intro new' ty dy x' e1 e2 e3 hsrc base sLen sCap e4
            exact ⟨⟨tx, ht0, und_ok hE hu⟩, by rw [h0', e4], hE.info _ _ hi, hzv, by simpa [bytesT, hi] using k2, k1, by rw [← hsz, ← k3, ← hz]; simp, by omega, ty, dy, x', e1, e2, e3, hsrc⟩
          · cases hz
        · cases hz
      · cases hz
    split at h
    · rename_i elem k hu hty
      split at h
      · rename_i n z hn hz
        rw [cond_eq_ite] at h
        split at h
        · rename_i hc
          simp only [Bool.and_eq_true, Bool.not_eq_true'] at hc
          obtain ⟨hok, hn0⟩ := hc
          have hn0 : n ≠ 0 := fun e => by rw [e] at hn0; exact absurd hn0 (by decide)
          obtain ⟨i, zv, hi, hsz, hzl, hzg, hzc, hzs, hA⟩ := hAH hu hz hok
          obtain ⟨k2, _, hy'⟩ := natOf_ok hn hy
          have hzz : (zeros z n).toArray = Builtin.zeroCells zv.cells n := by
            have hpos : zv.cells.size ≠ 0 := by
              have : zv.cells.size = z.length := by rw [← hzl]; simp
              simp only [okApp, Bool.and_eq_true, Bool.not_eq_true'] at hok
              intro e; rw [← this, e] at hok; exact absurd hok.2 (by decide)
            have := zeros_range zv.cells n (.inl hpos)
            rw [hzl] at this; exact this.symm
          have hsrc := hA (zeros z n) ty (.int k) (a.eval y) ht1 (und_ok hE hty) h1' (.inr ⟨⟨k, rfl⟩, ⟨k2, hy'⟩, hn0, hzz⟩)
          split at h
          · rename_i hl
            simp only [Option.some.injEq, Prod.mk.injEq] at h
            obtain ⟨rfl, hs'⟩ := h
            rw [hl] at hx
            generalize hg : a.eval x = g at hx
            cases hx
            have A := hsrc _ _ _ hg
            have hfr : ρ s.nx = none := hF _ (Nat.le_refl _) (by rw [← hs']; simp)
            have hrun := A.grow (old' := []) (by omega) (by omega) (fun w2 _ => run_firstCells_none w2 _ _ _ _) o.type
            rw [Nat.zero_add] at hrun
            have hge := grownCap_ge w (need := n) (old := 0) elem (by have := A.hn; omega)
            have hCs : (([] : List Value).toArray ++ (zeros z n).toArray ++ Builtin.zeroCells zv.cells (grownCap w n 0 elem - n)).size = grownCap w n 0 elem * i.size := by
              have e1 : (Builtin.zeroCells zv.cells (grownCap w n 0 elem - n)).size = (grownCap w n 0 elem - n) * i.size := by simp [Builtin.zeroCells, A.hsz]
              simp only [Array.size_append, e1, List.size_toArray, zeros_len, hzs, List.length_nil, Nat.zero_add]
              rw [← Nat.add_mul]; congr 1; omega
            have hle : n * i.size ≤ grownCap w n 0 elem * i.size := Nat.mul_le_mul_right _ hge
            obtain ⟨g1, g2⟩ := new_ok (n := n * i.size) (ext := grownCap w n 0 elem * i.size) (es := i.size) (c := .e) (z := z) (zn := z.length) (T := elem) (w0 := w.drew) (C := ([] : List Value).toArray ++ (zeros z n).toArray ++ Builtin.zeroCells zv.cells (grownCap w n 0 elem - n)) hR hfr (drew_world w) hle (by omega) (by
              intro k hk
              have hpos : 0 < z.length := by
                rcases Nat.eq_zero_or_pos z.length with h | h
                · rw [← hzs, h] at hk; simp at hk
                · exact h
              obtain ⟨e1, e2⟩ := cellAt_zero (z := z) (k := k) hpos
              rw [e1]
              have e3 : (zeros z n)[k]? = some (nth z (k % z.length)) := by rw [zeros_get z n k (by rw [hzs]; exact hk), e2]
              have e4 : (([] : List Value).toArray ++ (zeros z n).toArray ++ Builtin.zeroCells zv.cells (grownCap w n 0 elem - n)).getD k undef = nth z (k % z.length) := by
                rw [Array.getD_eq_getD_getElem?, Array.getElem?_append_left (by simp [zeros_len, hzs]; exact hk)]
                simp [e3]
              rw [e4]
              exact ground_refl 4 _ (List.all_eq_true.1 hzg _ (List.mem_of_getElem? e2))) (s' := s') (low := s.low) (by rw [← hs', hsz])
            refine key ⟨_, _, _, hrun, g2, g1, .slice (p := ⟨w.heap.size, 0, grownCap w n 0 elem * i.size, i.size⟩) Ren.put_same (Nat.le_refl _) (fun _ => rfl) (.inr ⟨hge, A.hpos, ?_⟩)⟩
            simp
          · rw [hsz] at h
            exact key (appendL_ok hR hF hx (grounds_refl (ρ := ρ) _ (zeros_ground hzg n)) hsrc (by rw [zeros_len, hzs]) o.type h)
        · cases h
      · cases h
    · rename_i elem dy hne hu hty
      split at h
      · rename_i n z hn hz
        rw [cond_eq_ite] at h
        split at h
        · rename_i hok
          obtain ⟨i, zv, hi, hsz, hzl, hzg, hzc, hzs, hA⟩ := hAH hu hz hok
          split at h
          · rename_i new hnew
            rw [beq_ite] at h
            split at h
            · rename_i hlen
              rw [hsz] at h hlen hnew
              obtain ⟨new', hvs, hrun⟩ := src_ok (P := E.P) hR hy hnew (by rw [hn]; exact Nat.le_refl _)
              have hsrc := hA new' ty dy (a.eval y) ht1 (und_ok hE hty) h1' (.inl ⟨fun k e => hne k e, lenL_ok hy hn w, hrun⟩)
              exact key (appendL_ok hR hF hx hvs hsrc hlen o.type h)
            · cases h
          · cases h
        · cases h
      · cases h
    · cases h
  · cases h

theorem op_ok (hF : Free ρ s.nx s'.nx) (h : opL E s t o.op = some (v, s')) : OpOk E B ρ s w a o v s' := by
  have hp : (opL E s t o.op = match pureL E t o.op with | some v => some (v, s) | none => none) → OpOk E B ρ s w a o v s' := fun e => pureOp_ok hE ht hR (e.symm.trans h)
  cases ho : o.op with
  | alloc e => exact alloc_ok hE hR hF ho h
  | box e x => exact box_ok ht hR hF ho h
  | buildSlice ty len parts => exact buildSlice_ok hE ht hR hF ho h
  | load ty x => exact loadOp_ok hE ht hR ho h
  | store ty x y => exact storeOp_ok hE ht hR ho h
  | convert src dst x => exact convertOp_ok hE ht hR ho h
  | slice ty x lo hi mx => exact sliceOp_ok hE ht hR ho h
  | makeSlice ty x y => exact makeSlice_ok hE ht hR hF ho h
  | call c =>
    obtain ⟨callee, args, ats⟩ := c
    cases callee with
    | builtin b =>
      cases b with
      | append => exact appendOp_ok hE ht hR hF ho h
      | cap => exact capOp_ok hE ht hR ho h
      | copy => exact copyOp_ok hE ht hR ho h
      | clear => exact clearOp_ok hE ht hR ho h
      | _ => exact hp (by rw [ho]; rfl)
    | _ => exact hp (by rw [ho]; rfl)
  | _ => exact hp (by rw [ho]; rfl)

end
end Go.Proofs.Ytkncaafjkoeijaa.Eng
