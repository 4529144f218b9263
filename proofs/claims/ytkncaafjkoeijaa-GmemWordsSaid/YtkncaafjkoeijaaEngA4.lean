
/- append on the machine's heap; all operations together. -/
import Derived.Test.YtkncaafjkoeijaaEngA3
namespace Go.Proofs.Ytkncaafjkoeijaa.Eng
open Go
set_option linter.unusedVariables false
set_option linter.unusedSimpArgs false

theorem AH.none0 {P : Program} {w : World} {ats : Array TypeId} {args : Array Value} {elem : TypeId} {i : TypeInfo} {zv : Value} {new' : List Value} (h : AH P w ats args elem i zv none 0 0 0 new') (T : TypeId) :
    (Builtin.append_ ats T args).run P w = .ok (.slice none 0 0) w := by
  obtain ⟨tx, h0, hu⟩ := h.f0
  obtain ⟨ty, dy, x', h1, hd, ha, hsrc⟩ := h.src
  rcases hsrc with ⟨hk, hlen, hfc⟩ | ⟨_, _, hn0, _⟩
  · have e := isInt_false hk
    simp only [Builtin.append_, h0, h.a0, ha, h1, Sem.run_bind, run_underlying hu, run_underlying hd, Result.andThen_ok, sizeOf, typeInfo, run_program, h.hi, Sem.run_pure, e, Bool.false_eq_true, if_false, hlen, Nat.add_zero, Nat.le_refl, if_true, Bool.not_false, hfc w rfl]
  · exact absurd rfl hn0

theorem drew_world (w : World) : w.drew.heap = w.heap ∧ w.drew.os = w.os ∧ w.drew.tape = w.tape ∧ w.drew.output = w.output := ⟨rfl, rfl, rfl, rfl⟩

theorem zeroCells_len (z : Array Value) (n : Nat) : (Builtin.zeroCells z n).toList.length = n * z.size := by simp [Builtin.zeroCells]

theorem appendL_ok {P : Program} {B : Nat} {ρ : Ren} {s s' : LS} {w : World} (hR : R B ρ s w) (hF : Free ρ s.nx s'.nx) {x x' : Value} (hx : VR ρ x x') {new new' : List Value} (hnew : VRs ρ new new') {n : Nat} {v : Value} {ats : Array TypeId} {args : Array Value} {elem : TypeId} {i : TypeInfo} {zv : Value}
    (hAH : ∀ base sLen sCap, x' = .slice base sLen sCap → AH P w ats args elem i zv base sLen sCap n new') (hlen : new.length = n * i.size) (T : TypeId) (h : appendL s i.size x new n = some (v, s')) :
    ∃ w' ρ' v', (Builtin.append_ ats T args).run P w = .ok v' w' ∧ St ρ s w ρ' s' w' ∧ R B ρ' s' w' ∧ VR ρ' v v' := by
  have hlen' : new'.length = n * i.size := by rw [← hnew.length]; exact hlen
  unfold appendL at h
  split at h
  · rename_i len cap
    cases hx
    have A := hAH _ _ _ rfl
    rw [cond_eq_ite] at h
    split at h
    · cases h
    · rw [beq_ite] at h
      split at h
      · rename_i hn0; subst hn0
        simp only [Option.some.injEq, Prod.mk.injEq] at h
        obtain ⟨rfl, rfl⟩ := h
        exact ⟨w, ρ, _, A.none0 T, .refl _ _ _, hR, .slice0⟩
      · rename_i hn0
        simp only [Option.some.injEq, Prod.mk.injEq] at h
        obtain ⟨rfl, hs'⟩ := h
        have hfr : ρ s.nx = none := hF _ (Nat.le_refl _) (by rw [← hs']; simp)
        have hrun := A.grow (old' := []) (by omega) (by omega) (fun w2 _ => run_firstCells_none w2 _ _ _ _) T
        have hge := grownCap_ge w (need := n) (old := 0) elem (by have := A.hn; omega)
        rw [Nat.zero_add] at hrun
        obtain ⟨g1, g2⟩ := row_ok hR hfr hnew elem i.size (Builtin.zeroCells zv.cells (grownCap w n 0 elem - n)).toList (drew_world w) hs'.symm
        have ec : new'.toArray ++ (Builtin.zeroCells zv.cells (grownCap w n 0 elem - n)).toList.toArray = ([] : List Value).toArray ++ new'.toArray ++ Builtin.zeroCells zv.cells (grownCap w n 0 elem - n) := by simp
        rw [ec] at g1 g2
        refine ⟨_, _, _, hrun, g2, g1, ?_⟩
        refine .slice Ren.put_same (Nat.le_refl _) (fun _ => rfl) (.inr ⟨by omega, A.hpos, ?_⟩)
        simp only [zeroCells_len, A.hsz, hlen', Nat.zero_add]
        have := Nat.sub_mul (grownCap w n 0 elem) n i.size
        have h3 : n * i.size ≤ grownCap w n 0 elem * i.size := Nat.mul_le_mul_right _ hge
        omega
  · rename_i b o len cap
    cases hx
    rename_i q c' p hp hcap hq hnc
    have A := hAH _ _ _ rfl
    have hn := A.hn
    rw [ble_ite] at h
    split at h
    · rename_i hle
      split at h
      · rename_i s1 hs1
        simp only [Option.some.injEq, Prod.mk.injEq] at h
        obtain ⟨rfl, rfl⟩ := h
        by_cases h0 : cap = 0
        · have hn0 : n = 0 := by omega
          have e1 : new = [] := List.eq_nil_of_length_eq_zero (by rw [hlen, hn0]; simp)
          have e2 : new' = [] := List.eq_nil_of_length_eq_zero (by rw [hlen', hn0]; simp)
          subst e1 e2
          simp only [LS.stores, Option.some.injEq] at hs1; subst hs1
          exact ⟨w, ρ, _, A.place (by omega) rfl rfl T, .refl _ _ _, hR, .slice hp (by omega) hq hcap⟩
        · obtain rfl := hq h0
          obtain ⟨w', hst, hR', hS, _⟩ := stores_ok hp P _ _ hnew (o + len * i.size) 0 s s1 w hR hs1
          refine ⟨w', ρ, _, A.place (by omega) rfl (w' := w') ?_ T, hS, hR', .slice hp (by omega) (fun _ => rfl) hcap⟩
          rw [add_none, Nat.add_assoc]; exact hst
      · cases h
    · rename_i hgt
      rw [cond_eq_ite] at h
      split at h
      · cases h
      · rename_i hl
        have hl : len ≤ 1000000 := Nat.le_of_ble_eq_true (by simpa using hl)
        split at h
        · rename_i old es hold hes
          have hpe := grows_ok hR hes hp
          obtain ⟨old', hol, hov, hoc⟩ := loads_ok hR hp _ _ _ hold
          have hoc' : ∀ (j : Nat) (u : Value), old'[j]? = some u → w.cell? ((⟨p.at_, q, none⟩ : Addr).add j) = some u := by
            intro j u hj
            by_cases h0 : cap = 0
            · have : old' = [] := List.eq_nil_of_length_eq_zero (by rw [hol, show len = 0 by omega]; simp)
              rw [this] at hj; simp at hj
            · rw [hq h0]; exact hoc j u hj
          have hfc : ∀ w2 : World, w2.heap = w.heap → (Builtin.firstCells i.size len (.slice (some ⟨p.at_, q, none⟩) len c')).run P w2 = .ok old'.toArray w2 := by
            intro w2 hw2
            simp only [Builtin.firstCells]
            refine loads_run hol ?_
            intro k u hk
            have e : ∀ ad : Addr, w2.cell? ad = w.cell? ad := fun ad => by unfold World.cell?; rw [hw2]
            rw [e]; exact hoc' k u hk
          have hrow : VRs ρ (old ++ new) (old' ++ new') := VRs.append hnew hov
          have hgrow : ∀ (s0 : LS), R B ρ s0 w → s0.nx = s.nx → ∀ (low : Nat), s' = ⟨s0.h.set s0.nx (some (.cells (old ++ new).length .e (old ++ new) (old ++ new).length i.size)), s0.nx + 1, low⟩ → c' < len + n → ρ s.nx = none →
              ∃ w' ρ' v', (Builtin.append_ ats T args).run P w = .ok v' w' ∧ St ρ s0 w ρ' s' w' ∧ R B ρ' s' w' ∧ VR ρ' (.slice (some ⟨s.nx, 0, none⟩) (len + n) (len + n)) v' := by
            intro s0 hR0 hnx low hs0 hlt hfr
            have hrun := A.grow hlt hl hfc T
            have hge := grownCap_ge w (need := len + n) (old := c') elem (by omega)
            obtain ⟨g1, g2⟩ := row_ok hR0 (by rw [hnx]; exact hfr) hrow elem i.size (Builtin.zeroCells zv.cells (grownCap w (len + n) c' elem - (len + n))).toList (drew_world w) hs0
            have ec : (old' ++ new').toArray ++ (Builtin.zeroCells zv.cells (grownCap w (len + n) c' elem - (len + n))).toList.toArray = old'.toArray ++ new'.toArray ++ Builtin.zeroCells zv.cells (grownCap w (len + n) c' elem - (len + n)) := by simp
            rw [ec] at g1 g2
            refine ⟨_, _, _, hrun, g2, g1, ?_⟩
            · rw [← hnx]
              refine .slice Ren.put_same (Nat.le_refl _) (fun _ => rfl) (.inr ⟨by omega, A.hpos, ?_⟩)
              simp only [zeroCells_len, A.hsz, hlen', hol, List.length_append, Nat.zero_add]
              have := Nat.sub_mul (grownCap w (len + n) c' elem) (len + n) i.size
              have h3 : (len + n) * i.size ≤ grownCap w (len + n) c' elem * i.size := Nat.mul_le_mul_right _ hge
              have h4 := Nat.add_mul len n i.size
              omega
          rw [beq_ite] at h
          split at h
          · rename_i hes0
            simp only [Option.some.injEq, Prod.mk.injEq] at h
            obtain ⟨rfl, hs'⟩ := h
            have hfr : ρ s.nx = none := hF _ (Nat.le_refl _) (by rw [← hs']; simp)
            have hc' : c' = cap := by
              rcases hcap with h | ⟨_, h, _⟩
              · exact h
              · exact absurd (hpe.trans hes0) h
            exact hgrow s hR rfl _ hs'.symm (by omega) hfr
          · rename_i hes0
            rw [cond_eq_ite] at h
            split at h
            · rename_i hesz
              simp only [Bool.and_eq_true] at hesz
              obtain ⟨hesz, hncell⟩ := hesz
              have hesz : es = i.size := Nat.eq_of_beq_eq_true hesz
              subst hesz
              simp only [Option.some.injEq, Prod.mk.injEq] at h
              obtain ⟨rfl, hs'⟩ := h
              have hfr : ρ s.nx = none := hF _ (Nat.le_refl _) (by rw [← hs']; simp)
              by_cases hfit : len + n ≤ c'
              · have hroom : q + c' * i.size ≤ p.off + p.ext := by
                  rcases hcap with h | ⟨_, _, h⟩
                  · omega
                  · rw [← hpe]; exact h
                unfold LS.grows at hes
                split at hes
                · rename_i n1 c1 z1 zn1 es1 hob
                  injection hes with hes; subst hes
                  obtain ⟨_, hn1, hB1, hat, C, TT, hC, hCs, hvs⟩ := hR.row hp hob
                  have hm1 : (len + n) * i.size ≤ c' * i.size := Nat.mul_le_mul_right _ hfit
                  have hm2 := Nat.add_mul len n i.size
                  obtain ⟨w', C', g1, g2, g3, g4, g5, g6, g7, g8, g9, g10⟩ := storeCells_world (P := P) new' (q + len * i.size) 0 w C hC (by omega) (fun u hu => by
                    obtain ⟨k, hk⟩ := List.mem_iff_getElem?.1 hu
                    have hk2 : k < new.length := by rw [hnew.length]; exact (List.getElem?_eq_some_iff.1 hk).1
                    obtain ⟨u2, e1, e2⟩ := hnew.get k _ (List.getElem?_eq_getElem hk2)
                    rw [hk] at e1; injection e1 with e1; subst e1
                    exact e2.cell (List.all_eq_true.1 hncell _ (List.getElem_mem hk2)))
                  obtain ⟨k1, k2⟩ := adopt_ok (q := q) (ext := p.off + p.ext - q) (es2 := i.size) (n2 := (old ++ new).length) (c2 := .e) (z2 := old ++ new) (zn2 := (old ++ new).length) hR hp hob hfr g6 g7 g8 g9 g10 g2 (by omega) (by rw [hrow.length]; simp only [List.length_append, hol, hlen']; omega) (by
                    intro k hk
                    obtain ⟨u, hu, e⟩ := cellAt_list hk
                    obtain ⟨u', hu', hr⟩ := hrow.get k u hu
                    rw [e]
                    have : C'.getD (q + k) undef = u' := by
                      by_cases hk2 : k < len * i.size
                      · rw [List.getElem?_append_left (by rw [hol]; exact hk2)] at hu'
                        rw [g5 (q + k) (by omega)]
                        have h6 := hoc' k u' hu'
                        rw [add_none, cell_of_row w _ _ C TT _ hC] at h6
                        rw [Array.getD_eq_getD_getElem?, h6]; rfl
                      · rw [List.getElem?_append_right (by rw [hol]; omega), hol] at hu'
                        have := g4 _ _ hu'
                        rw [← this]; congr 1; omega
                    rw [this]; exact hr) hs'.symm
                  refine ⟨w', _, _, A.place hfit rfl (w' := w') (by rw [add_none]; exact g1) T, k2, k1, .slice (p := ⟨p.at_, q, p.off + p.ext - q, i.size⟩) Ren.put_same (Nat.le_refl _) (fun _ => rfl) (.inr ⟨hfit, A.hpos, ?_⟩)⟩
                  simp only; omega
                · cases hes
              · obtain ⟨f1, f2⟩ := forget_ok (s' := ⟨s.h.set b none, s.nx, s.low⟩) hR b rfl
                obtain ⟨w', ρ', v', r1, r2, r3, r4⟩ := hgrow ⟨s.h.set b none, s.nx, s.low⟩ f1 rfl _ hs'.symm (by omega) hfr
                refine ⟨w', ρ', v', r1, St.trans (s' := ⟨s.h.set b none, s.nx, s.low⟩) (Nat.le_refl _) (by rw [← hs']; simp) f2 r2, r3, r4⟩
            · cases h
        · cases h
  · cases h

end Go.Proofs.Ytkncaafjkoeijaa.Eng
