/- The law GmemHolds: a map from addresses to bytes, beside the memory's bytes. -/
import Derived.Test.YtmmgcmbniidieaaGmSolo
import Derived.Test.YtmmgcmbniidieaaGmHoldIn
import Derived.Maps.Own
import Derived.Maps.Views
namespace Go.Proofs.Ytmmgcmbniidieaa.GmHoldM
open Go.ChangeShapes Go.WideShapes Go.ChangeAt Go.RowKit Rw Le GmFind GmWord GmCheck GmNew GmRef GmRefM GmRefN GmRefP SgConcat
set_option linter.unusedVariables false
set_option linter.unusedSimpArgs false

theorem law : Maps.Keyed Try.prog 26 := Maps.int_keyed Try.underlying26
theorem zero8 (w : World) : (zeroValue 5).run Try.prog w = .ok (.int .u8 0) w := by kernel_rfl
/-- A map of bytes, made by the call: what each address has. -/
structure MapD (w : World) (b n : Nat) (H : Int → Int) (D : DataW Unit) : Prop where
  own : w.ownsMap Try.prog 26 (plainElem Try.prog 5) b n D
  map : Maps.IsMap D
  at_ : ∀ x : Int, D.atKey (.int .u64 x) (.lit (.int .u8 0)) = .lit (.int .u8 (H x))
def BMap (w : World) (b n : Nat) (H : Int → Int) : Prop := (∃ D, MapD w b n H D) ∧ ∀ x, 0 ≤ H x ∧ H x ≤ 255
def setH (H : Int → Int) (x v : Int) : Int → Int := fun y => if y = x then v else H y
theorem BMap.look {w : World} {b n : Nat} {H : Int → Int} (h : BMap w b n H) {x : Int} (hx : 0 ≤ x ∧ x ≤ 18446744073709551615) : (Instr.lookup 53 (.map (some b)) (.int .u64 x) false).run Try.prog w = .ok (.int .u8 (H x)) w := by
  obtain ⟨⟨D, hD⟩, _⟩ := h
  obtain ⟨v, ps, h1, h2⟩ := hD.own.lookup law Try.underlying53 (zero8 w) (plainElem_int Try.underlying5 (by decide)) (Maps.keyOf_int_mk Try.underlying26 (WalkArith.wf_u64 hx))
  rw [hD.at_ x] at h2
  obtain ⟨a, rfl, e, _⟩ := plainElem_int_inv Try.underlying5 h2
  injection e with e _
  injection e with e
  injection e with _ e
  rw [h1, e]
theorem BMap.kept {w w' : World} {b n : Nat} {H : Int → Int} {row : Option Nat} (h : BMap w b n H) (hg : w.grownBy w' row) (hne : some b ≠ row) : BMap w' b n H := by
  obtain ⟨⟨D, hD⟩, hl⟩ := h
  exact ⟨⟨D, hD.own.kept hg hne, hD.map, hD.at_⟩, hl⟩
theorem BMap.lt {w : World} {b n : Nat} {H : Int → Int} (h : BMap w b n H) : b < w.heap.size := by
  obtain ⟨⟨D, hD⟩, _⟩ := h
  exact hD.own.lt
theorem BMap.below {w w' : World} {b n : Nat} {H : Int → Int} (h : BMap w b n H) (hb : Below w.heap.size w w') : BMap w' b n H := h.kept (only_of_below hb none) (by simp)
theorem MapD.put {w w' : World} {b n : Nat} {H : Int → Int} {D : DataW Unit} {x v : Int} (h : MapD w b n H D) (hl : ∀ x, 0 ≤ H x ∧ H x ≤ 255) (hv : 0 ≤ v ∧ v ≤ 255) (ho : w'.ownsMap Try.prog 26 (plainElem Try.prog 5) b (n + 1) (D.put (.int .u64 x) (.lit (.int .u8 v)))) : BMap w' b (n + 1) (setH H x v) := by
  refine ⟨⟨_, ho, h.map.put _ _, fun y => ?_⟩, fun y => ?_⟩
  · unfold setH
    by_cases e : y = x
    · subst e
      rw [Maps.atKey_put_same h.map (by trivial), if_pos rfl]
    · rw [Maps.atKey_put_other (by intro e'; injection e' with _ e'; exact e e'), h.at_ y, if_neg e]
  · unfold setH
    split
    · exact hv
    · exact hl y
theorem BMap.made (w : World) : BMap (w.alloc (.map #[] 0)) w.heap.size 0 (fun _ => 0) :=
  ⟨⟨.map [], World.ownsMap_made w Try.prog 26 (plainElem Try.prog 5), Maps.isMap_empty, fun x => rfl⟩, fun x => ⟨Int.le_refl 0, by show (0 : Int) ≤ 255; decide⟩⟩

/-- The map and the memory hold the same. -/
def Same (r : Rg) (k : Nat) (H : Int → Int) (g : Nat → Int) : Prop := ∀ i, i < k → ∀ d : Nat, (d : Int) < r.len i → H (r.at_ i + d) = g ((r.st i).toNat + d)
structure Well (r : Rg) (k : Nat) : Prop where
  inr : r.In k
  st0 : ∀ i, i < k → 0 ≤ r.st i
  up : ∀ i j, i < j → j < k → r.st i + r.len i ≤ r.st j
theorem well_of {r : Rg} {k : Nat} (hr : Raw r k) (hs : ∀ i, i < k → Step r i) : Well (stR r) k :=
  ⟨in_steps hr hs, fun i hi => sum_lo hr i (by omega), fun i j hij hj => sum_up hr (by omega) hij⟩
def putH (H : Int → Int) (a : Int) (gb : Nat → Int) (n : Nat) : Int → Int := fun x => if a ≤ x ∧ x < a + n then gb (x - a).toNat else H x
theorem putH_succ (H : Int → Int) (a : Int) (gb : Nat → Int) (n : Nat) : setH (putH H a gb n) (a + n) (gb n) = putH H a gb (n + 1) := by
  funext y
  unfold setH putH
  by_cases e : y = a + n
  · subst e
    rw [if_pos rfl, if_pos (by omega)]
    congr 1; omega
  · rw [if_neg e]
    by_cases h : a ≤ y ∧ y < a + n
    · rw [if_pos h, if_pos (by omega)]
    · rw [if_neg h, if_neg (by omega)]
theorem putH_zero (H : Int → Int) (a : Int) (gb : Nat → Int) : putH H a gb 0 = H := by
  funext y
  unfold putH
  rw [if_neg (by omega)]
/-- Where a range lies. -/
theorem lies {r : Rg} {k o : Nat} {a n : Int} (hw : Well r k) (hp : place r k a n = some o) : ∃ i, i < k ∧ 1 ≤ n ∧ r.at_ i ≤ a ∧ a + n ≤ r.at_ i + r.len i ∧ (o : Int) = r.st i + (a - r.at_ i) ∧ r.at_ i + (r.len i - 1) ≤ 18446744073709551615 ∧ 0 ≤ r.at_ i := by
  obtain ⟨i, hi, hin⟩ := (place_inR hw.inr).1 (by rw [hp]; rfl)
  have := place_at hw.inr hi hin
  rw [hp] at this
  injection this with this
  obtain ⟨h1, h2, h3, h4⟩ := hin
  have h0 := hw.st0 i hi
  exact ⟨i, hi, h1, h2, by omega, by omega, hw.inr.e1 i hi, hw.inr.a0 i hi⟩
theorem same_put {r : Rg} {k o n : Nat} {a : Int} {H : Int → Int} {g gb : Nat → Int} (hw : Well r k) (hp : place r k a n = some o) (h : Same r k H g) : Same r k (putH H a gb n) (putG g o n gb) := by
  obtain ⟨i, hi, h1, h2, h3, h4, _, _⟩ := lies hw hp
  intro i' hi' d hd
  have s0 := hw.st0 i' hi'
  have s1 := hw.st0 i hi
  unfold putH putG
  rcases Nat.lt_trichotomy i' i with hlt | rfl | hgt
  · have u := hw.up i' i hlt hi
    have m : r.at_ i' + (r.len i' - 1) < r.at_ i := by
      have g1 := hw.inr.mono' (i := i') (j := i - 1) (by omega) (by omega)
      have g2 := hw.inr.up (i - 1) (by omega)
      rw [show i - 1 + 1 = i by omega] at g2
      have e : r.end_ i' = r.at_ i' + (r.len i' - 1) := rfl
      omega
    rw [if_neg (by omega), if_neg (by omega)]
    exact h i' hi' d hd
  · by_cases hin : a ≤ r.at_ i' + d ∧ r.at_ i' + d < a + n
    · rw [if_pos hin, if_pos (by omega)]
      congr 1; omega
    · rw [if_neg hin, if_neg (by omega)]
      exact h i' hi' d hd
  · have u := hw.up i i' hgt hi'
    have m : r.at_ i + (r.len i - 1) < r.at_ i' := by
      have g1 := hw.inr.mono' (i := i) (j := i' - 1) (by omega) (by omega)
      have g2 := hw.inr.up (i' - 1) (by omega)
      rw [show i' - 1 + 1 = i' by omega] at g2
      have e : r.end_ i = r.at_ i + (r.len i - 1) := rfl
      omega
    rw [if_neg (by omega), if_neg (by omega)]
    exact h i' hi' d hd
/-- The word that the map has. -/
def a64 (x : Int) : Int := IntKind.u64.wrap x
def wantH (H : Int → Int) (a : Int) (q m : Nat) : Int := wordI (fun j => H (a64 (a + (q + j : Nat)))) m
theorem want_step (H : Int → Int) (a : Int) (q m : Nat) : 256 * wantH H a (q + 1) m + H (a64 (a + (q : Nat))) = wantH H a q (m + 1) := by
  unfold wantH
  rw [word_cons]
  have e : (fun j => H (a64 (a + ((q + 1 + j : Nat) : Int)))) = fun j => H (a64 (a + ((q + (1 + j) : Nat) : Int))) := by
    funext j; rw [Nat.add_assoc]
  rw [e]
  show _ = H (a64 (a + ((q + 0 : Nat) : Int))) + _
  rw [Nat.add_zero]; omega
theorem want_is {r : Rg} {k o n : Nat} {a : Int} {H : Int → Int} {g : Nat → Int} (hw : Well r k) (hp : place r k a n = some o) (h : Same r k H g) : wantH H a 0 n = wordI (fun j => g (o + j)) n := by
  obtain ⟨i, hi, h1, h2, h3, h4, h5, h6⟩ := lies hw hp
  have s1 := hw.st0 i hi
  unfold wantH
  refine word_congr fun j hj => ?_
  have e : a64 (a + ((0 + j : Nat) : Int)) = r.at_ i + ((a - r.at_ i + j).toNat : Nat) := by
    unfold a64; rw [IntKind.wrap_u64]; omega
  rw [e, h i hi _ (by omega)]
  congr 1; omega

end Go.Proofs.Ytmmgcmbniidieaa.GmHoldM
