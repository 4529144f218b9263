/- A slice that is appended to: full, or of the call's own. One step of a region that draws its order. -/
import Derived.Test.YtkejcdephnkkgaaFrWorld
import Derived.Deep.RegionLawGrows
import Derived.Laws.OwnMore
namespace Go.Proofs.Ytkejcdephnkkgaa.FrOut
open Go.RowKit Rw Fe Fr Own
set_option linter.unusedVariables false
set_option linter.unusedSimpArgs false

theorem kept {w w' : World} {A : Option Addr} {n c : Nat} {l : List Int} {row : Option Nat} (h : Sl w w.heap.size A n c l) (hg : w.grownBy w' row) (hne : ∀ g, row = some g → Far g A n) : Sl w' w'.heap.size A n c l :=
  ⟨h.len, h.le, h.max, h.nil, fun h0 => by
    obtain ⟨ad, e, hb, hc⟩ := h.row h0
    refine ⟨ad, e, Nat.lt_of_lt_of_le hb hg.size, fun j hj => (World.cell?_of_block (hg.block _ (by rw [block_of_add]; exact hb) (fun e2 => ?_))).trans (hc j hj)⟩
    rw [block_of_add] at e2
    exact hne _ e2.symm ad e h0 rfl⟩
/-- A slice that may be appended to: nothing of others lies behind it. -/
structure Out (w : World) (e : TypeId) (A : Option Addr) (n c : Nat) (l : List Int) : Prop where
  sl : Sl w w.heap.size A n c l
  ap : c = n ∨ w.ownsRow 0 e 1 (.slice A n c) n (rowI l)
theorem Out.nil (w : World) (e : TypeId) : Out w e none 0 0 [] := ⟨Sl.empty _ _, .inl rfl⟩
theorem Out.kept {w w' : World} {e : TypeId} {A : Option Addr} {n c : Nat} {l : List Int} {row : Option Nat} (h : Out w e A n c l) (hg : w.grownBy w' row) (hne : ∀ g, row = some g → ∀ ad, A = some ad → ad.block ≠ g) : Out w' e A n c l := by
  refine ⟨FrOut.kept h.sl hg (fun g e1 ad e2 _ => hne g e1 ad e2), ?_⟩
  rcases h.ap with h1 | h1
  · exact .inl h1
  · right
    refine h1.kept hg ?_
    cases A with
    | none => exact .inl rfl
    | some a => exact .inr fun e2 => hne a.block e2.symm a rfl rfl
theorem Out.below {w w' : World} {e : TypeId} {A : Option Addr} {n c : Nat} {l : List Int} (h : Out w e A n c l) (hb : Below w.heap.size w w') : Out w' e A n c l := h.kept (only_of_below hb none) (fun g e => by cases e)
theorem Out.full {w : World} {e : TypeId} {A : Option Addr} {n : Nat} {l : List Int} (h : Sl w w.heap.size A n n l) : Out w e A n n l := ⟨h, .inl rfl⟩
theorem stored (W : World) (b : Nat) (v0 v1 : Value) : W.grownBy ((W.setCell ⟨b, 0, none⟩ v0).setCell ⟨b, 1, none⟩ v1) (some b) := by
  have h0 := only_setCell (World.grownBy.refl W (some b)) (p := ⟨b, 0, none⟩) (.inl rfl) v0
  exact only_setCell h0 (p := ⟨b, 1, none⟩) (.inl rfl) v1

theorem step_append_out {P : Program} {ops : Array Oper} {o : Oper} {a : Act} {w : World} {K : Act → World → Prop} {Q : Exit → Act → World → Prop} {E : Prop}
    (hg : o.guard = none) (s x : Operand) (t : TypeId) (hop : o.op = Op.call { callee := Callee.builtin Builtin.append, args := #[s, x], argTypes := #[t, t] })
    (e : TypeId) (i : TypeInfo) (z : Value) (bytes : Nat) (h1 : P.underlying t = some (.slice e)) (h2 : P.info? e = some i) (h3 : i.zero = some z) (h4 : i.size = 1) (h5 : i.bytes = bytes) (h6 : z.cells.size = 1)
    (A : Option Addr) (n c : Nat) (l : List Int) (hs : a.eval s = .slice A n c) (hO : Out w e A n c l)
    (B : Option Addr) (m d : Nat) (r : List Int) (hx : a.eval x = .slice B m d) (hr : Sl w w.heap.size B m d r) (hm : 1 ≤ m) (b1 : n + m ≤ maxLen) (b2 : (n + m) * bytes ≤ 140737488355328)
    (hK : ∀ C cc w', Out w' e C (n + m) cc (l ++ r) → (∀ b, C = some b → A = some b ∨ w.heap.size ≤ b.block) → (∃ row, w.grownBy w' row ∧ ∀ g, row = some g → ∃ b, A = some b ∧ b.block = g) → K (a.put o.dst (.slice C (n + m) cc)) w') :
    if Region.wanted o (yielded ops a.tmps) = true then Oper.wp P o a w K Q else E := by
  obtain ⟨ad, rfl, _⟩ := hr.el (k := 0) (by omega)
  have hlr : (rowI r).length = m * 1 := by rw [rowI_length, hr.len]; omega
  have hll : (rowI l).length = n * 1 := by rw [rowI_length, hO.sl.len]; omega
  by_cases hroom : n + m ≤ c
  · have hown : w.ownsRow 0 e 1 (.slice A n c) n (rowI l) := by
      rcases hO.ap with h | h
      · omega
      · exact h
    obtain ⟨g, rfl⟩ : ∃ g, A = some ⟨g, 0, none⟩ := by
      rcases hown.2 with ⟨h, _⟩ | ⟨g, cap, cur, h, _⟩
      · injection h with _ _ h; omega
      · injection h with h _ _; exact ⟨g, h⟩
    have hw : Region.wanted o (yielded ops a.tmps) = true := by simp [Region.wanted, hg]
    rw [if_pos hw]
    obtain ⟨w', hrun, r1, r2⟩ := run_append_fits (P := P) w 0 t o.type e i 1 h1 h2 h4 g n c (rowI l) hown ad m d (rowI r) hlr (hr.cells ad rfl) (rowI_one r) hroom
    rw [← rowI_append] at r1
    unfold Oper.wp
    simp [execOp, hop, resolve, invoke, builtin, hs, hx, hrun, Result.andThen]
    exact hK _ _ w' ⟨Sl.of_own r1, .inr r1⟩ (fun b e => .inl e) ⟨_, r2, fun g' e => ⟨_, rfl, by injection e⟩⟩
  · refine step_append_grows hg s x t hop e i z 1 bytes h1 h2 h3 h4 h5 h6 (by decide) A n c (rowI l) hs (fun e => by have := hO.sl.nil e; have := hO.sl.le; omega) hll hO.sl.cells ad m d (rowI r) hx hlr (hr.cells ad rfl) (rowI_one r) (by omega) b1 b2 ?_
    intro v' w' hown hg'
    rw [← rowI_append] at hown
    obtain ⟨C, cc, rfl⟩ := own_slice hown
    have hn : ∀ b, C = some b → w.heap.size ≤ b.block := fun b e => own_block hown _ (by rw [e]; rfl)
    have hown0 : w'.ownsRow 0 e 1 (.slice C (n + m) cc) (n + m) (rowI (l ++ r)) := by
      refine ⟨hown.1, ?_⟩
      rcases hown.2 with h | ⟨g, cap, cur, h1, _, h3⟩
      · exact .inl h
      · exact .inr ⟨g, cap, cur, h1, Nat.zero_le _, h3⟩
    exact hK C cc w' ⟨Sl.of_own hown, .inr hown0⟩ (fun b e => .inr (hn b e)) ⟨none, hg', fun g e => by cases e⟩

end Go.Proofs.Ytkejcdephnkkgaa.FrOut
