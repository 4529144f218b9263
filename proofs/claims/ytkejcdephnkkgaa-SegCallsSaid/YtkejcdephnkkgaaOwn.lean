
/- Rows and maps of a call's own. -/
import Derived.Test.YtkejcdephnkkgaaRow
import Derived.Maps.Own
import Derived.Maps.Views
namespace Go.Proofs.Ytkejcdephnkkgaa.Own
open Go.RowKit Rw
set_option linter.unusedVariables false
set_option linter.unusedSimpArgs false

theorem own_slice {w : World} {base : Nat} {e : TypeId} {size n : Nat} {v : Value} {xs : List Value} (h : w.ownsRow base e size v n xs) : ∃ A c, v = .slice A n c := by
  rcases h.2 with ⟨h1, h2⟩ | ⟨g, cap, cur, h1, _⟩
  · exact ⟨_, _, by rw [h1, h2]⟩
  · exact ⟨_, _, h1⟩
theorem own_block {w : World} {base : Nat} {e : TypeId} {size n c : Nat} {A : Option Addr} {xs : List Value} (h : w.ownsRow base e size (.slice A n c) n xs) : ∀ g, (Value.slice A n c).ownBlock = some g → base ≤ g := by
  intro g hg
  rcases h.2 with ⟨h1, h2⟩ | ⟨g', cap, cur, h1, hb, _⟩
  · rw [h1] at hg; cases hg
  · rw [h1] at hg; cases hg; exact hb
theorem grown_refl (w : World) (row : Option Nat) : w.grownBy w row := ⟨rfl, rfl, rfl, Nat.le_refl _, fun _ _ _ => rfl⟩
theorem own_ne {w w' : World} {base : Nat} {e : TypeId} {size n c : Nat} {A : Option Addr} {xs : List Value} {row : Option Nat} (h : w.ownsRow base e size (.slice A n c) n xs) (hg : w.grownBy w' row) (hne : ∀ b, row = some b → b < base ∨ w.heap.size ≤ b) : w'.ownsRow base e size (.slice A n c) n xs := by
  refine h.kept hg ?_
  cases ho : (Value.slice A n c).ownBlock with
  | none => exact .inl rfl
  | some g =>
    right
    intro e
    have h1 := own_block h g ho
    have h2 := (h.lt g ho).2
    have := hne g e.symm
    omega


theorem map_below {w w' : World} {b n : Nat} {P : Program} {k : TypeId} {R : Value → Option (DataW Unit × List MemPlace)} {D : DataW Unit} (hb : Below w.heap.size w w') (h : w.ownsMap P k R b n D) : w'.ownsMap P k R b n D := by
  have hlt := h.lt
  obtain ⟨es, clock, h1, h2, h3, h4⟩ := h
  exact ⟨es, clock, (hb.block b hlt).trans h1, h2, h3, h4⟩
theorem bool_inv {P : Program} {e : TypeId} (he : P.underlying e = some .bool) {v : Value} {d : DataW Unit} {ps : List MemPlace} {x : Bool} (h : plainElem P e v = some (d, ps)) (hd : d = .lit (.bool x)) : v = .bool x := by
  unfold plainElem at h
  rw [he] at h
  subst hd
  cases v <;> simp_all
/-- A map with bools, made by the call, as the set of the keys that it has (integers of kind q). -/
structure SetAt (P : Program) (tk tb : TypeId) (q : IntKind) (w : World) (b : Nat) (vis : List Int) (D : DataW Unit) : Prop where
  own : w.ownsMap P tk (plainElem P tb) b vis.length D
  map : Maps.IsMap D
  at_ : ∀ x : Int, D.atKey (.int q x) (.lit (.bool false)) = .lit (.bool (decide (x ∈ vis)))
theorem SetAt.below {P : Program} {tk tb : TypeId} {q : IntKind} {w w' : World} {b : Nat} {vis : List Int} {D : DataW Unit} (h : SetAt P tk tb q w b vis D) (hb : Below w.heap.size w w') : SetAt P tk tb q w' b vis D := ⟨map_below hb h.own, h.map, h.at_⟩
theorem SetAt.kept {P : Program} {tk tb : TypeId} {q : IntKind} {w w' : World} {b : Nat} {vis : List Int} {D : DataW Unit} {row : Option Nat} (h : SetAt P tk tb q w b vis D) (hg : w.grownBy w' row) (hne : some b ≠ row) : SetAt P tk tb q w' b vis D := ⟨h.own.kept hg hne, h.map, h.at_⟩
theorem SetAt.lookup {P : Program} {tk tb tm : TypeId} {q : IntKind} {w : World} {b : Nat} {vis : List Int} {D : DataW Unit} {x : Int} {y : Bool} (h : SetAt P tk tb q w b vis D) (ht : P.underlying tm = some (.map tk tb)) (hk : P.underlying tk = some (.int q)) (hb : P.underlying tb = some .bool)
    (hz : (zeroValue tb).run P w = .ok (.bool false) w) (hx : (Lit.int q x).wf = true) (hy : decide (x ∈ vis) = y) : (Instr.lookup tm (.map (some b)) (.int q x) false).run P w = .ok (.bool y) w := by
  obtain ⟨v, ps, h1, h2⟩ := h.own.lookup (Maps.int_keyed hk) ht hz (plainElem_bool hb false) (Maps.keyOf_int_mk hk hx)
  rw [h.at_ x, hy] at h2
  rw [h1, bool_inv hb h2 rfl]
theorem SetAt.put {P : Program} {tk tb : TypeId} {q : IntKind} {w w' : World} {b : Nat} {vis : List Int} {D : DataW Unit} {x : Int} (h : SetAt P tk tb q w b vis D) (ho : w'.ownsMap P tk (plainElem P tb) b (vis.length + 1) (D.put (.int q x) (.lit (.bool true)))) : SetAt P tk tb q w' b (vis ++ [x]) (D.put (.int q x) (.lit (.bool true))) := by
  refine ⟨by simpa using ho, h.map.put _ _, fun y => ?_⟩
  by_cases e : y = x
  · subst e
    rw [Maps.atKey_put_same h.map (by trivial)]
    simp
  · rw [Maps.atKey_put_other (by intro e'; injection e' with _ e'; exact e e'), h.at_ y]
    simp [e]

end Go.Proofs.Ytkejcdephnkkgaa.Own
