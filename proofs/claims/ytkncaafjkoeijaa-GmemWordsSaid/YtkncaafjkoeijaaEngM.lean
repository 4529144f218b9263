
/- Memory: what is loaded, stored and made on the machine's heap is loaded, stored and made in the world. -/
import Derived.Test.YtkncaafjkoeijaaEngR
namespace Go.Proofs.Ytkncaafjkoeijaa.Eng
open Go
set_option linter.unusedVariables false
set_option linter.unusedSimpArgs false

theorem add_none (b o i : Nat) : (⟨b, o, none⟩ : Addr).add i = ⟨b, o + i, none⟩ := by
  unfold Addr.add
  split
  · subst_vars; rfl
  · rfl

theorem VR.cell {ρ : Ren} {v v' : Value} (h : VR ρ v v') (hc : isCell v = true) : v'.oneCell' = true := by
  cases h <;> first | rfl | (simp [isCell] at hc; done)

/-- What an object says, read at one cell. -/
theorem R.row {B : Nat} {ρ : Ren} {s : LS} {w : World} (h : R B ρ s w) {b : Nat} {p : Pl} (hp : ρ b = some p) {n c z zn es} (ho : s.h.get b = some (.cells n c z zn es)) :
    es = p.es ∧ n ≤ p.ext ∧ B ≤ p.at_ ∧ p.at_ < w.heap.size ∧ ∃ C T, w.heap[p.at_]? = some (.cells C T (0, 0)) ∧ p.off + p.ext ≤ C.size ∧ ∀ k, k < n → VR ρ (cellAt c z zn k) (C.getD (p.off + k) undef) := by
  obtain ⟨q, hq, hor, h1, h2⟩ := h.obj b _ ho
  obtain rfl : q = p := by rw [hp] at hq; injection hq with hq; exact hq.symm
  exact ⟨hor.1, hor.2.1, h1, h2, hor.2.2⟩

theorem getD_some {C : Array Value} {k : Nat} (h : k < C.size) : C[k]? = some (C.getD k undef) := by
  rw [Array.getElem?_eq_getElem h]; simp [Array.getD, h]

theorem load_ok {B : Nat} {ρ : Ren} {s : LS} {w : World} (h : R B ρ s w) {b o : Nat} {v : Value} (hl : s.load b o = some v) {p : Pl} (hp : ρ b = some p) :
    ∃ v', w.cell? ⟨p.at_, p.off + o, none⟩ = some v' ∧ VR ρ v v' := by
  unfold LS.load at hl
  split at hl
  · rename_i n c z zn es ho
    rw [blt_ite] at hl
    split at hl
    · rename_i hlt
      obtain ⟨_, hn, _, _, C, T, hC, hsz, hv⟩ := h.row hp ho
      injection hl with hl; subst hl
      refine ⟨C.getD (p.off + o) undef, ?_, hv o hlt⟩
      rw [cell_of_row w _ _ C T _ hC]
      exact getD_some (by omega)
    · cases hl
  · cases hl

theorem loads_ok {B : Nat} {ρ : Ren} {s : LS} {w : World} (h : R B ρ s w) {b : Nat} {p : Pl} (hp : ρ b = some p) : ∀ (n o : Nat) (l : List Value), s.loads b o n = some l →
    ∃ l' : List Value, l'.length = n ∧ VRs ρ l l' ∧ ∀ (j : Nat) (v : Value), l'[j]? = some v → w.cell? ((⟨p.at_, p.off + o, none⟩ : Addr).add j) = some v
  | 0, o, l, hl => by
    simp only [LS.loads, Option.some.injEq] at hl; subst hl
    exact ⟨[], rfl, .nil, fun j v h => by simp at h⟩
  | n + 1, o, l, hl => by
    simp only [LS.loads] at hl
    split at hl
    · rename_i v hv
      split at hl
      · rename_i l1 hl1
        injection hl with hl; subst hl
        obtain ⟨v', hc, hvr⟩ := load_ok h hv hp
        obtain ⟨l', hlen, hvs, hcs⟩ := loads_ok h hp n (o + 1) l1 hl1
        refine ⟨v' :: l', by simp [hlen], .cons hvr hvs, ?_⟩
        intro j u hj
        rw [add_none]
        cases j with
        | zero => simp at hj; subst hj; simpa using hc
        | succ j =>
          have := hcs j u (by simpa using hj)
          rw [add_none] at this
          rwa [show p.off + (o + 1) + j = p.off + o + (j + 1) by omega] at this
      · cases hl
    · cases hl

theorem loads_run {P : Program} {w : World} {a : Addr} {n : Nat} {l' : List Value} (hlen : l'.length = n) (hc : ∀ (j : Nat) (v : Value), l'[j]? = some v → w.cell? (a.add j) = some v) :
    (loadCells a n).run P w = .ok l'.toArray w := by
  subst hlen
  exact run_loadCells_list w a l' hc

theorem cellAt_set (c : Tr Value) (z : List Value) (zn o : Nat) (v : Value) (k : Nat) : cellAt (c.set o (some v)) z zn k = if k = o then v else cellAt c z zn k := by
  unfold cellAt
  rw [Tr.get_set]
  by_cases h : k = o <;> simp [h]

theorem OR.keep {ρ ρ' : Ren} {w w' : World} {p : Pl} (he : Ext ρ ρ') (hb : w'.heap[p.at_]? = w.heap[p.at_]?) : ∀ {o : LObj}, OR ρ w p o → OR ρ' w' p o
  | .cells n c z zn es, ⟨h1, h2, C, T, hC, hs, hv⟩ => ⟨h1, h2, C, T, hb.trans hC, hs, fun k hk => (hv k hk).ext he⟩
  | .map _ _, h => h.elim
  | .siter _ _, h => h.elim

theorem store_ok {B : Nat} {ρ : Ren} {s s' : LS} {w : World} (h : R B ρ s w) {b o : Nat} {v v' : Value} (hl : s.store b o v = some s') {p : Pl} (hp : ρ b = some p) (hv : VR ρ v v') :
    ∃ w', (∀ (P : Program) (m : Mode), (store ⟨p.at_, p.off + o, none⟩ v' m).run P w = .ok () w') ∧ R B ρ s' w' ∧ St ρ s w ρ s' w' ∧ s'.nx = s.nx := by
  unfold LS.store at hl
  split at hl
  · rename_i n c z zn es ho
    rw [cond_eq_ite] at hl
    split at hl
    · rename_i hc
      injection hl with hl; subst hl
      simp only [Bool.and_eq_true] at hc
      obtain ⟨hlt, hcell⟩ := hc
      replace hlt : o < n := Nat.le_of_ble_eq_true hlt
      obtain ⟨hes, hn, hB, hsz, C, T, hC, hCs, hvs⟩ := h.row hp ho
      refine ⟨w.setCell ⟨p.at_, p.off + o, none⟩ v', fun P m => ?_, ?_, ?_, rfl⟩
      · rw [run_store P w _ v' m (hv.cell hcell), cell_of_row w _ _ C T _ hC, getD_some (by omega), frozen_of_row w _ _ C T hC]; rfl
      · have hnew := heap_setCell_same w p.at_ (p.off + o) C T v' hC
        refine ⟨by simpa using h.base, ?_, ?_, ?_⟩
        · intro i x hx
          simp only [Tr.get_set] at hx
          by_cases e : i = b
          · subst e; exact h.wf _ _ ho
          · rw [if_neg e] at hx; exact h.wf _ _ hx
        · intro i x hx
          simp only [Tr.get_set] at hx
          by_cases e : i = b
          · subst e
            rw [if_pos rfl] at hx
            injection hx with hx; subst hx
            refine ⟨p, hp, ⟨hes, hn, _, T, hnew, by simpa using hCs, ?_⟩, hB, by simpa using hsz⟩
            intro k hk
            rw [cellAt_set]
            by_cases ek : k = o
            · subst ek
              rw [if_pos rfl]
              have hh : p.off + k < C.size := by omega
              simp only [Array.getD, Array.size_setIfInBounds, hh, dite_true, Array.getInternal_eq_getElem, Array.getElem_setIfInBounds_self]
              exact hv
            · rw [if_neg ek]
              have hh : p.off + k < C.size := by omega
              have := hvs k hk
              simp only [Array.getD, Array.size_setIfInBounds, hh, dite_true, Array.getInternal_eq_getElem] at this ⊢
              rw [Array.getElem_setIfInBounds_ne]
              · exact this
              · omega
          · rw [if_neg e] at hx
            obtain ⟨q, hq, hor, h1, h2⟩ := h.obj i x hx
            refine ⟨q, hq, hor.keep (fun _ _ h => h) ?_, h1, by simpa using h2⟩
            exact heap_setCell_other w _ _ _ (fun e' => e (h.inj i b x _ q p hx ho hq hp e'))
        · intro i j x y q r hx hy hq hr
          simp only [Tr.get_set] at hx hy
          have key : ∀ (i : Nat) (x : LObj), (if i = b then some (LObj.cells n (c.set o (some v)) z zn es) else s.h.get i) = some x → ∃ x', s.h.get i = some x' := by
            intro i x hx
            by_cases e : i = b
            · subst e; exact ⟨_, ho⟩
            · rw [if_neg e] at hx; exact ⟨_, hx⟩
          obtain ⟨x', hx'⟩ := key i x hx
          obtain ⟨y', hy'⟩ := key j y hy
          exact h.inj i j x' y' q r hx' hy' hq hr
      · refine ⟨fun _ _ h => h, fun _ _ => rfl, by simp, rfl, rfl, rfl, ?_, ?_⟩
        · intro k hk hne
          exact heap_setCell_other w _ _ _ (fun e => hne b _ p ho hp e.symm)
        · intro i x q hx hq
          simp only [Tr.get_set] at hx
          by_cases e : i = b
          · subst e; exact .inr ⟨i, _, p, ho, hp, by rw [hp] at hq; injection hq with hq; rw [hq]⟩
          · rw [if_neg e] at hx; exact .inr ⟨i, x, q, hx, hq, rfl⟩
    · cases hl
  · cases hl

theorem stores_ok {B : Nat} {ρ : Ren} {b : Nat} {p : Pl} (hp : ρ b = some p) (P : Program) : ∀ (l l' : List Value), VRs ρ l l' → ∀ (o i : Nat) (s s' : LS) (w : World), R B ρ s w → s.stores b (o + i) l = some s' →
    ∃ w', (storeCells ⟨p.at_, p.off + o, none⟩ l' i).run P w = .ok () w' ∧ R B ρ s' w' ∧ St ρ s w ρ s' w' ∧ s'.nx = s.nx
  | _, _, .nil, o, i, s, s', w, hR, hs => by
    simp only [LS.stores, Option.some.injEq] at hs; subst hs
    exact ⟨w, rfl, hR, .refl _ _ _, rfl⟩
  | _, _, .cons (v := v) (v' := v') (l := l) (l' := l') hv hvs, o, i, s, s', w, hR, hs => by
    simp only [LS.stores] at hs
    split at hs
    · rename_i s1 hs1
      obtain ⟨w1, hr1, hR1, hS1, hn1⟩ := store_ok hR hs1 hp hv
      obtain ⟨w2, hr2, hR2, hS2, hn2⟩ := stores_ok hp P l l' hvs o (i + 1) s1 s' w1 hR1 hs
      refine ⟨w2, ?_, hR2, hS1.trans (by omega) (by omega) hS2, by omega⟩
      simp only [storeCells, Sem.run_bind, add_none]
      rw [show p.off + o + i = p.off + (o + i) by omega, hr1]
      exact hr2
    · cases hs

def Ren.put (ρ : Ren) (i : Nat) (p : Pl) : Ren := fun j => if j = i then some p else ρ j
theorem Ren.ext_put {ρ : Ren} {i : Nat} {p : Pl} (h : ρ i = none) : Ext ρ (ρ.put i p) := by
  intro j q hq
  unfold Ren.put
  by_cases e : j = i
  · subst e; rw [h] at hq; cases hq
  · rw [if_neg e]; exact hq
@[simp] theorem Ren.put_same {ρ : Ren} {i : Nat} {p : Pl} : ρ.put i p i = some p := by simp [Ren.put]

/-- A new row. -/
theorem new_ok {B : Nat} {ρ : Ren} {s : LS} {w w0 : World} (h : R B ρ s w) (hf : ρ s.nx = none) {n c z zn es ext} {C : Array Value} {T : TypeId}
    (hw0 : w0.heap = w.heap ∧ w0.os = w.os ∧ w0.tape = w.tape ∧ w0.output = w.output)
    (hn : n ≤ ext) (hext : ext ≤ C.size) (hv : ∀ k, k < n → VR ρ (cellAt c z zn k) (C.getD k undef)) {s' : LS} {low : Nat} (hs' : s' = ⟨s.h.set s.nx (some (.cells n c z zn es)), s.nx + 1, low⟩) :
    R B (ρ.put s.nx ⟨w.heap.size, 0, ext, es⟩) s' (w0.alloc (.cells C T)) ∧ St ρ s w (ρ.put s.nx ⟨w.heap.size, 0, ext, es⟩) s' (w0.alloc (.cells C T)) := by
  have he : Ext ρ (ρ.put s.nx ⟨w.heap.size, 0, ext, es⟩) := Ren.ext_put hf
  have hnone : s.h.get s.nx = none := by
    cases hg : s.h.get s.nx with
    | none => rfl
    | some o => obtain ⟨p, hp, _⟩ := h.obj _ _ hg; rw [hf] at hp; cases hp
  obtain ⟨hh, hos, htp, hout⟩ := hw0
  have hold : ∀ i, i < w.heap.size → (w0.alloc (.cells C T)).heap[i]? = w.heap[i]? := fun i hi => by
    rw [Go.RowKit.Below.heap_alloc w0 _ i (by rw [hh]; exact hi), hh]
  have hget : ∀ i o, s'.h.get i = some o → (i = s.nx ∧ o = .cells n c z zn es) ∨ (i ≠ s.nx ∧ s.h.get i = some o) := by
    intro i o hi
    rw [hs'] at hi
    simp only [Tr.get_set] at hi
    by_cases e : i = s.nx
    · rw [if_pos e] at hi; injection hi with hi; exact .inl ⟨e, hi.symm⟩
    · rw [if_neg e] at hi; exact .inr ⟨e, hi⟩
  have hput : ∀ i, i ≠ s.nx → (ρ.put s.nx ⟨w.heap.size, 0, ext, es⟩) i = ρ i := fun i e => by simp [Ren.put, e]
  refine ⟨⟨by simp [hh]; have := h.base; omega, fun i o hi => ?_, ?_, ?_⟩, ⟨he, ?_, by simp [hh], hos, htp, hout, ?_, ?_⟩⟩
  · have : s'.nx = s.nx + 1 := by rw [hs']
    rcases hget i o hi with ⟨rfl, rfl⟩ | ⟨e, hi⟩
    · omega
    · have := h.wf _ _ hi; omega
  · intro i o hi
    rcases hget i o hi with ⟨rfl, rfl⟩ | ⟨e, hi⟩
    · refine ⟨_, Ren.put_same, ⟨rfl, hn, C, T, ?_, by simpa using hext, ?_⟩, h.base, by simp [hh]⟩
      · have := heap_alloc_new w0 (.cells C T); rwa [hh] at this
      · intro k hk; simpa using (hv k hk).ext he
    · obtain ⟨p, hp, hor, h1, h2⟩ := h.obj i o hi
      exact ⟨p, he _ _ hp, hor.keep he (hold _ h2), h1, by simp [hh]; omega⟩
  · intro i j o o' p q hi hj hp hq e
    rcases hget i o hi with ⟨rfl, rfl⟩ | ⟨e1, hi⟩ <;> rcases hget j o' hj with ⟨rfl, rfl⟩ | ⟨e2, hj⟩
    · rfl
    · rw [Ren.put_same] at hp; injection hp with hp; subst hp
      rw [hput _ e2] at hq
      obtain ⟨q', hq', _, _, h2⟩ := h.obj j o' hj
      rw [hq'] at hq; injection hq with hq; subst hq
      simp at e; omega
    · rw [Ren.put_same] at hq; injection hq with hq; subst hq
      rw [hput _ e1] at hp
      obtain ⟨q', hq', _, _, h2⟩ := h.obj i o hi
      rw [hq'] at hp; injection hp with hp; subst hp
      simp at e; omega
    · rw [hput _ e1] at hp; rw [hput _ e2] at hq
      exact h.inj i j o o' p q hi hj hp hq e
  · intro i hi
    have : s'.nx = s.nx + 1 := by rw [hs']
    exact hput i (by omega)
  · intro b hb _
    exact hold b hb
  · intro i o p hi hp
    rcases hget i o hi with ⟨rfl, rfl⟩ | ⟨e, hi⟩
    · rw [Ren.put_same] at hp; injection hp with hp; subst hp; exact .inl (Nat.le_refl _)
    · rw [hput _ e] at hp; exact .inr ⟨i, o, p, hi, hp, rfl⟩

end Go.Proofs.Ytkncaafjkoeijaa.Eng
