
/- A slice's cells: what a value that is a slice reads as, below a block. -/
import Derived.Test.YtkejcdephnkkgaaLib
import Derived.Below
import Derived.Deep.OwnRows
import Derived.Deep.Draws
import Derived.Deep.AppendLies
import Derived.OwnWalk
namespace Go.Proofs.Ytkejcdephnkkgaa.Rw
open Go.RowKit
set_option linter.unusedVariables false
set_option linter.unusedSimpArgs false

theorem block_of_add (a : Addr) (n : Nat) : (a.add n).block = a.block := by unfold Addr.add; split <;> rfl
theorem add_of_add (a : Addr) (i j : Nat) : (a.add i).add j = a.add (i + j) := by
  unfold Addr.add
  by_cases hi : i = 0 <;> by_cases hj : j = 0 <;> simp [hi, hj, Nat.add_assoc]

/-- A slice value of n elements of so many cells, all below block B: cell j is F j. -/
def IsRow (w : World) (B size : Nat) (A : Option Addr) (n : Nat) (F : Nat → Value) : Prop :=
  0 < n → ∃ ad, A = some ad ∧ ad.block < B ∧ ∀ j, j < n * size → w.cell? (ad.add j) = some (F j)

section
variable {w w' : World} {B B' size n : Nat} {A : Option Addr} {F G : Nat → Value}
theorem IsRow.none_ : IsRow w B size A 0 F := fun h => absurd h (by omega)
theorem IsRow.keep (h : IsRow w B size A n F) (hk : ∀ p : Addr, p.block < B → w'.cell? p = w.cell? p) : IsRow w' B size A n F := fun hn => by
  obtain ⟨ad, e, hb, hc⟩ := h hn
  exact ⟨ad, e, hb, fun j hj => (hk _ (by rw [block_of_add]; exact hb)).trans (hc j hj)⟩
theorem IsRow.more (h : IsRow w B size A n F) (hB : B ≤ B') : IsRow w B' size A n F := fun hn => by
  obtain ⟨ad, e, hb, hc⟩ := h hn
  exact ⟨ad, e, by omega, hc⟩
theorem IsRow.congr (h : IsRow w B size A n F) (e : ∀ j, j < n * size → F j = G j) : IsRow w B size A n G := fun hn => by
  obtain ⟨ad, e1, hb, hc⟩ := h hn
  exact ⟨ad, e1, hb, fun j hj => by rw [hc j hj, e j hj]⟩
theorem IsRow.below (h : IsRow w B size A n F) (hb : Below B w w') : IsRow w' B size A n F := h.keep fun _ hp => hb.cell hp
theorem IsRow.drew (h : IsRow w B size A n F) : IsRow w.drew B size A n F := h
theorem IsRow.drewN (h : IsRow w B size A n F) (k : Nat) : IsRow (w.drewN k) B size A n F := h
theorem IsRow.alloc (h : IsRow w B size A n F) (hB : B ≤ w.heap.size) (o : Obj) : IsRow (w.alloc o) B size A n F := h.keep fun p hp => World.cell?_alloc_lt w o p (by omega)
theorem IsRow.setCell (h : IsRow w B size A n F) {p : Addr} (hB : B ≤ p.block) (u : Value) : IsRow (w.setCell p u) B size A n F :=
  h.keep fun q hq => World.cell?_setCell_other w p q u (fun e => by subst e; omega)
theorem IsRow.grown (h : IsRow w B size A n F) {row : Option Nat} (hg : w.grownBy w' row) (hB : B ≤ w.heap.size) (hr : ∀ g, row = some g → B ≤ g) : IsRow w' B size A n F :=
  h.keep fun p hp => World.cell?_of_block (hg.block p.block (by omega) (fun e => by have := hr _ e.symm; omega))
theorem IsRow.cut (h : IsRow w B size A n F) {k m cap : Nat} (hk : k + m ≤ n) (hc : n ≤ cap) :
    IsRow w B size (if cap = k then A else A.map (·.add (k * size))) m (fun j => F (k * size + j)) := fun hn => by
  obtain ⟨ad, rfl, hb, hcell⟩ := h (by omega)
  rw [if_neg (by omega)]
  refine ⟨ad.add (k * size), rfl, by rw [block_of_add]; exact hb, fun j hj => ?_⟩
  rw [add_of_add]
  refine hcell _ ?_
  have : (k + m) * size ≤ n * size := Nat.mul_le_mul_right _ hk
  rw [Nat.add_mul] at this; omega
theorem IsRow.of_own {base : Nat} {e : TypeId} {c : Nat} {xs : List Value} (h : w.ownsRow base e size (.slice A n c) n xs) : IsRow w w.heap.size size A n (fun j => xs.getD j undef) := fun hn => by
  obtain ⟨g, cap, hv, _, hlt⟩ := h.form hn
  have hA : A = some ⟨g, 0, none⟩ := by injection hv
  subst hA
  refine ⟨_, rfl, hlt, fun j hj => h.cells (g := g) rfl j _ ?_⟩
  have := h.1
  simp [List.getD_eq_getElem?_getD, List.getElem?_eq_getElem (show j < xs.length by omega)]
theorem IsRow.of_rowIs {b : Nat} {t : TypeId} {m c : Nat} (h : w.rowIs b t m F) (hn : n * size ≤ m) : IsRow w w.heap.size size (some ⟨b, 0, none⟩) n F := fun _ =>
  ⟨_, rfl, h.lt, fun j hj => by
    have e : (⟨b, 0, none⟩ : Addr).add j = ⟨b, j, none⟩ := by unfold Addr.add; split <;> simp_all
    rw [e]; exact h.cell (by omega)⟩
end

/-- The cells of one element, as the walk spells their places. -/
theorem el0 {w : World} {size n i : Nat} {ad : Addr} {F : Nat → Value} (h : ∀ j, j < n * size → w.cell? (ad.add j) = some (F j)) (hi : i < n) (hs : 0 < size) : w.cell? (ad.add (i * size)) = some (F (i * size)) := by
  refine h _ ?_
  have := Nat.mul_le_mul_right size (show i + 1 ≤ n by omega)
  rw [Nat.add_mul] at this; omega
theorem elj {w : World} {size n i : Nat} {ad : Addr} {F : Nat → Value} (h : ∀ j, j < n * size → w.cell? (ad.add j) = some (F j)) (hi : i < n) (j : Nat) (h0 : 0 < j) (hj : j < size) :
    w.cell? ⟨(ad.add (i * size)).block, (ad.add (i * size)).off + j, none⟩ = some (F (i * size + j)) := by
  have e : (⟨(ad.add (i * size)).block, (ad.add (i * size)).off + j, none⟩ : Addr) = ad.add (i * size + j) := by
    rw [← add_of_add]
    show _ = Addr.add (ad.add (i * size)) j
    unfold Addr.add
    rw [if_neg (show ¬ j = 0 by omega)]
  rw [e]
  refine h _ ?_
  have := Nat.mul_le_mul_right size (show i + 1 ≤ n by omega)
  rw [Nat.add_mul] at this; omega

theorem rowIs_cells {w : World} {b : Nat} {t : TypeId} {m n : Nat} {F : Nat → Value} (h : w.rowIs b t m F) (hn : n ≤ m) : ∀ (j : Nat) (u : Value), ((List.range n).map F)[j]? = some u → w.cell? ((⟨b, 0, none⟩ : Addr).add j) = some u := fun j u hu => by
  obtain ⟨x, hx, rfl⟩ : ∃ x, (List.range n)[j]? = some x ∧ F x = u := by simpa using hu
  obtain ⟨hlt, rfl⟩ := List.getElem?_eq_some_iff.1 hx
  have hj : j < n := by simpa using hlt
  have e : (⟨b, 0, none⟩ : Addr).add j = ⟨b, j, none⟩ := by unfold Addr.add; split <;> simp_all
  rw [e, h.cell (by omega)]; simp
theorem only_drew {a w : World} {row : Option Nat} (h : a.grownBy w row) : a.grownBy w.drew row := ⟨h.os, h.tape, h.output, h.size, h.block⟩
theorem only_drewN {a w : World} {row : Option Nat} (h : a.grownBy w row) (n : Nat) : a.grownBy (w.drewN n) row := ⟨h.os, h.tape, h.output, h.size, h.block⟩
theorem only_alloc {a w : World} {row : Option Nat} (h : a.grownBy w row) (o : Obj) : a.grownBy (w.alloc o) row :=
  ⟨h.os, h.tape, h.output, Nat.le_trans h.size (by simp), fun i hi hne => (Below.heap_alloc w o i (Nat.lt_of_lt_of_le hi h.size)).trans (h.block i hi hne)⟩
theorem only_setCell {a w : World} {g : Nat} (h : a.grownBy w (some g)) {p : Addr} (hp : p.block = g ∨ a.heap.size ≤ p.block) (u : Value) : a.grownBy (w.setCell p u) (some g) :=
  ⟨h.os, h.tape, h.output, by simpa [World.setCell] using h.size, fun i hi hne => (Below.heap_setCell w p u i (by
    rintro rfl
    rcases hp with hp | hp
    · exact hne (by rw [hp])
    · omega)).trans (h.block i hi hne)⟩
theorem only_of_below {a w : World} (h : Below a.heap.size a w) (row : Option Nat) : a.grownBy w row := ⟨h.os, h.tape, h.output, h.size, fun i hi _ => h.block i hi⟩
theorem only_trans {a b c : World} {row : Option Nat} (h : a.grownBy b row) (k : b.grownBy c row) : a.grownBy c row :=
  ⟨k.os.trans h.os, k.tape.trans h.tape, k.output.trans h.output, Nat.le_trans h.size k.size, fun i hi hne => (k.block i (Nat.lt_of_lt_of_le hi h.size) hne).trans (h.block i hi hne)⟩
/-- What only turned a new block left what was below. -/
theorem below_only {a b c : World} {B g : Nat} (h : Below B a b) (k : b.grownBy c (some g)) (hB : B ≤ b.heap.size) (hg : B ≤ g) : Below B a c := h.grown k hB (fun k e => by cases e; exact hg)

end Go.Proofs.Ytkejcdephnkkgaa.Rw
