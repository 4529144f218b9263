/- append of any slice to one that may be appended to: one step, guarded or not. -/
import Derived.Test.YtkejcdephnkkgaaFrOut
namespace Go.Proofs.Ytkejcdephnkkgaa.FrAny
open Go.RowKit Rw Fe Fr FrOut FrBuild Own
set_option linter.unusedVariables false
set_option linter.unusedSimpArgs false

theorem step_append_any {P : Program} {ops : Array Oper} {o : Oper} {a : Act} {w : World} {K : Act → World → Prop} {Q : Exit → Act → World → Prop} {E : Prop}
    (hw : Region.wanted o (yielded ops a.tmps) = true) (s x : Operand) (t : TypeId) (hop : o.op = Op.call { callee := Callee.builtin Builtin.append, args := #[s, x], argTypes := #[t, t] })
    (e : TypeId) (i : TypeInfo) (z : Value) (bytes : Nat) (h1 : P.underlying t = some (.slice e)) (h2 : P.info? e = some i) (h3 : i.zero = some z) (h4 : i.size = 1) (h5 : i.bytes = bytes) (h6 : z.cells.size = 1)
    (A : Option Addr) (n c : Nat) (l : List Int) (hs : a.eval s = .slice A n c) (hO : Out w e A n c l)
    (B : Option Addr) (m d : Nat) (r : List Int) (hx : a.eval x = .slice B m d) (hr : Sl w w.heap.size B m d r) (hA : B = none → m = 0) (b1 : n + m ≤ maxLen) (b2 : (n + m) * bytes ≤ 140737488355328)
    (hK : ∀ C cc w', Out w' e C (n + m) cc (l ++ r) → (∀ b, C = some b → A = some b ∨ w.heap.size ≤ b.block) → (∃ row, w.grownBy w' row ∧ ∀ g, row = some g → ∃ b, A = some b ∧ b.block = g) → K (a.put o.dst (.slice C (n + m) cc)) w') :
    if Region.wanted o (yielded ops a.tmps) = true then Oper.wp P o a w K Q else E := by
  rw [if_pos hw]
  by_cases m0 : m = 0
  · subst m0
    have hle := hO.sl.le
    have hrun := run_append_zero (P := P) (w := w) t o.type e i h1 h2 A B n c d hle
    have r0 : r = [] := List.eq_nil_of_length_eq_zero hr.len
    subst r0
    unfold Oper.wp
    simp [execOp, hop, resolve, invoke, builtin, hs, hx, hrun, Result.andThen]
    have h9 : K (a.put o.dst (.slice A n c)) w := by simpa using hK A c w (by simpa using hO) (fun b e => .inl e) ⟨none, World.grownBy.refl _ _, fun g e => by cases e⟩
    exact h9
  obtain ⟨ad, rfl, _⟩ := hr.el (k := 0) (by omega)
  have hlr : (rowI r).length = m * 1 := by rw [rowI_length, hr.len]; omega
  have hll : (rowI l).length = n * 1 := by rw [rowI_length, hO.sl.len]; omega
  by_cases hroom : n + m ≤ c
  · have hown : w.ownsRow 0 e 1 (.slice A n c) n (rowI l) := by
      rcases hO.ap with h | h
      · omega
      · exact h
    obtain ⟨g, rfl⟩ : ∃ g, A = some ⟨g, 0, none⟩ := by
      rcases hown.2 with ⟨h, _⟩ | ⟨g, cap, cur, h, _⟩
      · injection h with _ _ h; omega
      · injection h with h _ _; exact ⟨g, h⟩
    obtain ⟨w', hrun, r1, r2⟩ := run_append_fits (P := P) w 0 t o.type e i 1 h1 h2 h4 g n c (rowI l) hown ad m d (rowI r) hlr (hr.cells ad rfl) (rowI_one r) hroom
    rw [← rowI_append] at r1
    unfold Oper.wp
    simp [execOp, hop, resolve, invoke, builtin, hs, hx, hrun, Result.andThen]
    exact hK _ _ w' ⟨Sl.of_own r1, .inr r1⟩ (fun b e => .inl e) ⟨_, r2, fun g' e => ⟨_, rfl, by injection e⟩⟩
  · have key : ∃ v' w', (Builtin.append_ #[t, t] o.type #[.slice A n c, .slice (some ad) m d]).run P w = .ok v' w' ∧ w'.ownsRow w.heap.size e 1 v' (n + m) (rowI l ++ rowI r) ∧ w.grownBy w' none := by
      cases A with
      | some b => exact run_append_arg_grows (P := P) w t o.type e i z 1 bytes h1 h2 h3 h4 h5 h6 (by decide) b n c (rowI l) hll (hO.sl.cells b rfl) ad m d (rowI r) hlr (hr.cells ad rfl) (by omega) b1 b2
      | none =>
        have hc0 : c = 0 := hO.sl.nil rfl
        have hn0 : n = 0 := by have := hO.sl.le; omega
        subst hc0 hn0
        have l0 : l = [] := List.eq_nil_of_length_eq_zero hO.sl.len
        subst l0
        obtain ⟨v', w', hrun, r1, r2, _⟩ := run_append_own (P := P) w w.heap.size t o.type e i z 1 bytes h1 h2 h3 h4 h5 h6 (by decide) (.slice none 0 0) 0 [] (World.ownsRow_nil w _ e 1) ad m d (rowI r) hlr (hr.cells ad rfl) (rowI_one r) b1 b2 (Nat.le_refl _)
        exact ⟨v', w', hrun, r1, r2⟩
    obtain ⟨v', w', hrun, hown, hg'⟩ := key
    unfold Oper.wp
    simp [execOp, hop, resolve, invoke, builtin, hs, hx, hrun, Result.andThen]
    rw [← rowI_append] at hown
    obtain ⟨C, cc, rfl⟩ := own_slice hown
    have hn : ∀ b, C = some b → w.heap.size ≤ b.block := fun b e => own_block hown _ (by rw [e]; rfl)
    have hown0 : w'.ownsRow 0 e 1 (.slice C (n + m) cc) (n + m) (rowI (l ++ r)) := by
      refine ⟨hown.1, ?_⟩
      rcases hown.2 with h | ⟨g, cap, cur, h1, _, h3⟩
      · exact .inl h
      · exact .inr ⟨g, cap, cur, h1, Nat.zero_le _, h3⟩
    exact hK C cc w' ⟨Sl.of_own hown, .inr hown0⟩ (fun b e => .inr (hn b e)) ⟨none, hg', fun g e => by cases e⟩

theorem step_append_new {P : Program} {ops : Array Oper} {o : Oper} {a : Act} {w : World} {K : Act → World → Prop} {Q : Exit → Act → World → Prop} {E : Prop}
    (hw : Region.wanted o (yielded ops a.tmps) = true) (s x : Operand) (t : TypeId) (hop : o.op = Op.call { callee := Callee.builtin Builtin.append, args := #[s, x], argTypes := #[t, t] })
    (e : TypeId) (i : TypeInfo) (z : Value) (bytes : Nat) (h1 : P.underlying t = some (.slice e)) (h2 : P.info? e = some i) (h3 : i.zero = some z) (h4 : i.size = 1) (h5 : i.bytes = bytes) (h6 : z.cells.size = 1)
    (A : Option Addr) (hs : a.eval s = .slice A 0 0) (hO : Out w e A 0 0 [])
    (B : Option Addr) (m d : Nat) (r : List Int) (hx : a.eval x = .slice B m d) (hr : Sl w w.heap.size B m d r) (hA : B = none → m = 0) (b1 : m ≤ maxLen) (b2 : m * bytes ≤ 140737488355328)
    (hK : ∀ C cc w', Out w' e C m cc r → (∀ b, C = some b → A = some b ∨ w.heap.size ≤ b.block) → (∃ row, w.grownBy w' row ∧ ∀ g, row = some g → ∃ b, A = some b ∧ b.block = g) → K (a.put o.dst (.slice C m cc)) w') :
    if Region.wanted o (yielded ops a.tmps) = true then Oper.wp P o a w K Q else E := by
  refine step_append_any hw s x t hop e i z bytes h1 h2 h3 h4 h5 h6 A 0 0 [] hs hO B m d r hx hr hA (by omega) (by rw [Nat.zero_add]; exact b2) ?_
  intro C cc w' q1 q2 q3
  rw [Nat.zero_add] at q1 ⊢
  exact hK C cc w' q1 q2 q3

end Go.Proofs.Ytkejcdephnkkgaa.FrAny
