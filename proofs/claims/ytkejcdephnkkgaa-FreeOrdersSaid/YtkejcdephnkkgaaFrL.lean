
/- Lists of numbers and where they lie; sets of numbers as rows of words. No program here. -/
import Derived.Test.YtkejcdephnkkgaaRow
import Derived.Test.YtkejcdephnkkgaaOwn
import Derived.Test.YtkejcdephnkkgaaFeBits
namespace Go.Proofs.Ytkejcdephnkkgaa.Fr
open Go.RowKit Rw Fe
set_option linter.unusedVariables false
set_option linter.unusedSimpArgs false

abbrev num (n : Int) : Value := .int .i64 n
abbrev wd (X : Set64) : Value := .int .u64 (nu X)
def cellI (l : List Int) (j : Nat) : Value := num (l.getD j 0)
def rowI (l : List Int) : List Value := l.map num
theorem rowI_length (l : List Int) : (rowI l).length = l.length := by simp [rowI]
theorem rowI_append (l r : List Int) : rowI (l ++ r) = rowI l ++ rowI r := by simp [rowI]
theorem rowI_nil : rowI [] = [] := rfl
theorem rowI_one (l : List Int) : ∀ v ∈ rowI l, v.oneCell' = true := by
  intro v hv
  obtain ⟨q, _, rfl⟩ := List.mem_map.1 hv
  rfl
theorem rowI_get {l : List Int} {j : Nat} {v : Value} (h : (rowI l)[j]? = some v) : j < l.length ∧ cellI l j = v := by
  simp only [rowI, List.getElem?_map, Option.map_eq_some_iff] at h
  obtain ⟨q, hq, rfl⟩ := h
  obtain ⟨h1, h2⟩ := List.getElem?_eq_some_iff.1 hq
  refine ⟨h1, ?_⟩
  unfold cellI
  rw [List.getD_eq_getElem?_getD, hq]; rfl
theorem rowI_getD (l : List Int) {j : Nat} (h : j < l.length) : (rowI l).getD j undef = cellI l j := by
  unfold cellI rowI
  simp [List.getD_eq_getElem?_getD, List.getElem?_eq_getElem h]

/-- A slice of n numbers, where it lies. -/
structure Sl (w : World) (B : Nat) (A : Option Addr) (n c : Nat) (l : List Int) : Prop where
  len : l.length = n
  le : n ≤ c
  max : c ≤ maxLen
  nil : A = none → c = 0
  row : IsRow w B 1 A n (cellI l)

section
variable {w w' : World} {B B' n c : Nat} {A : Option Addr} {l : List Int}
theorem Sl.below (h : Sl w B A n c l) (hb : Below B w w') : Sl w' B A n c l := ⟨h.len, h.le, h.max, h.nil, h.row.below hb⟩
theorem Sl.more (h : Sl w B A n c l) (hB : B ≤ B') : Sl w B' A n c l := ⟨h.len, h.le, h.max, h.nil, h.row.more hB⟩
theorem Sl.on (h : Sl w B A n c l) (hB : B ≤ w.heap.size) (hb : Below w.heap.size w w') : Sl w' w'.heap.size A n c l :=
  (h.below (hb.mono hB)).more (Nat.le_trans hB hb.size)
theorem Sl.el (h : Sl w B A n c l) {k : Nat} (hk : k < n) : ∃ ad, A = some ad ∧ ad.block < B ∧ w.cell? (ad.add k) = some (num (l.getD k 0)) := by
  obtain ⟨ad, e, hb, hc⟩ := h.row (by omega)
  exact ⟨ad, e, hb, hc k (by omega)⟩
theorem Sl.cells (h : Sl w B A n c l) : ∀ ad, A = some ad → ∀ j u, (rowI l)[j]? = some u → w.cell? (ad.add j) = some u := by
  intro ad e j u hj
  obtain ⟨h1, rfl⟩ := rowI_get hj
  rw [h.len] at h1
  obtain ⟨ad', e', _, hc⟩ := h.row (by omega)
  rw [e] at e'
  injection e' with e'
  subst e'
  exact hc j (by omega)
theorem Sl.of_own {base : Nat} {e : TypeId} (h : w.ownsRow base e 1 (.slice A n c) n (rowI l)) : Sl w w.heap.size A n c l := by
  have hl : l.length = n := by have := h.1; rw [rowI_length] at this; omega
  refine ⟨hl, ?_, ?_, ?_, (IsRow.of_own h).congr fun j hj => rowI_getD l (by omega)⟩
  · rcases h.2 with ⟨h1, h2⟩ | ⟨g, cap, cur, h1, _, _, h3, h4, _⟩
    · omega
    · injection h1 with h5 _ h6; omega
  · rcases h.2 with ⟨h1, h2⟩ | ⟨g, cap, cur, h1, _, _, h3, h4, _⟩
    · injection h1 with _ _ h6; unfold maxLen; omega
    · injection h1 with h5 _ h6; omega
  · intro hA
    rcases h.2 with ⟨h1, h2⟩ | ⟨g, cap, cur, h1, _⟩
    · injection h1
    · injection h1 with h5 _ h6; rw [hA] at h5; cases h5
theorem Sl.empty (w : World) (B : Nat) : Sl w B none 0 0 [] := ⟨rfl, Nat.le_refl _, by unfold maxLen; omega, fun _ => rfl, IsRow.none_⟩
theorem Sl.take (h : Sl w B A n c l) {m : Nat} (hm : m ≤ n) : Sl w B A m c (l.take m) :=
  ⟨by rw [List.length_take, h.len]; omega, Nat.le_trans hm h.le, h.max, h.nil, fun h0 => by
    obtain ⟨ad, e, hb, hc⟩ := h.row (by omega)
    refine ⟨ad, e, hb, fun j hj => (hc j (by omega)).trans ?_⟩
    unfold cellI
    rw [List.getD_eq_getElem?_getD, List.getD_eq_getElem?_getD, List.getElem?_take, if_pos (by omega)]⟩
theorem Sl.drop (h : Sl w B A n c l) {m : Nat} (hm : m ≤ n) : Sl w B (if c = m then A else A.map (·.add m)) (n - m) (c - m) (l.drop m) := by
  have hle := h.le
  have hmax := h.max
  refine ⟨by rw [List.length_drop, h.len], by omega, by omega, ?_, ?_⟩
  · intro hA
    split at hA
    · omega
    · cases A with
      | none => have := h.nil rfl; omega
      | some a => cases hA
  · have := h.row.cut (k := m) (m := n - m) (cap := c) (by omega) hle
    rw [Nat.mul_one] at this
    refine this.congr fun j hj => ?_
    unfold cellI
    rw [List.getD_eq_getElem?_getD, List.getD_eq_getElem?_getD, List.getElem?_drop]
/-- The same slice with no room behind it. -/
theorem Sl.clip (h : Sl w B A n c l) {d : Nat} (hd : n ≤ d) (hc : d ≤ c) : Sl w B A n d l := ⟨h.len, hd, Nat.le_trans hc h.max, fun e => by have := h.nil e; omega, h.row⟩
end

theorem Sl.keep {w w' : World} {base B n c : Nat} {A : Option Addr} {l : List Int} (h : Sl w B A n c l) (hn : ∀ ad, A = some ad → 0 < n → base ≤ ad.block) (hk : ∀ p : Addr, base ≤ p.block → p.block < B → w'.cell? p = w.cell? p) (hB : B ≤ w'.heap.size) : Sl w' w'.heap.size A n c l :=
  ⟨h.len, h.le, h.max, h.nil, fun h0 => by
    obtain ⟨ad, e, hb, hc⟩ := h.row h0
    exact ⟨ad, e, by omega, fun j hj => (hk _ (by rw [block_of_add]; exact hn ad e h0) (by rw [block_of_add]; exact hb)).trans (hc j hj)⟩⟩
/-- Where a slice's elements lie: not below lo. -/
def New (lo : Nat) (A : Option Addr) (n : Nat) : Prop := ∀ ad, A = some ad → 0 < n → lo ≤ ad.block
theorem New.mono {lo lo' n : Nat} {A : Option Addr} (h : New lo A n) (hl : lo' ≤ lo) : New lo' A n := fun ad e h0 => Nat.le_trans hl (h ad e h0)
/-- .. not in block b. -/
def Far (b : Nat) (A : Option Addr) (n : Nat) : Prop := ∀ ad, A = some ad → 0 < n → ad.block ≠ b
theorem New.far {lo b n : Nat} {A : Option Addr} (h : New lo A n) (hb : b < lo) : Far b A n := fun ad e h0 => by have := h ad e h0; omega
theorem Sl.far {w : World} {B b n c : Nat} {A : Option Addr} {l : List Int} (h : Sl w B A n c l) (hb : B ≤ b) : Far b A n := fun ad e h0 => by
  obtain ⟨ad', e', hlt, _⟩ := h.row h0
  rw [e] at e'
  injection e' with e'
  subst e'
  omega
theorem Sl.set {w : World} {B b n c : Nat} {A : Option Addr} {l : List Int} (h : Sl w B A n c l) (hf : Far b A n) (o : Nat) (v : Value) : Sl (w.setCell ⟨b, o, none⟩ v) B A n c l :=
  ⟨h.len, h.le, h.max, h.nil, fun h0 => by
    obtain ⟨ad, e, hb, hc⟩ := h.row h0
    exact ⟨ad, e, hb, fun j hj => (World.cell?_setCell_other _ _ _ _ (by
      intro e2
      have h1 := congrArg Addr.block e2
      rw [block_of_add] at h1
      exact hf ad e h0 (by simpa using h1.symm))).trans (hc j hj)⟩⟩
theorem Far.take {b n m : Nat} {A : Option Addr} (h : Far b A n) (hm : m ≤ n) : Far b A m := fun ad e h0 => h ad e (by omega)
theorem Far.drop {b n m c : Nat} {A : Option Addr} (h : Far b A n) (hm : m ≤ n) : Far b (if c = m then A else A.map (·.add m)) (n - m) := fun ad e h0 => by
  split at e
  · exact h ad e (by omega)
  · cases A with
    | none => cases e
    | some a => simp at e; subst e; rw [block_of_add]; exact h a rfl (by omega)
theorem Sl.new_of {w : World} {base n c : Nat} {A : Option Addr} {e : TypeId} {xs : List Value} (h : w.ownsRow base e 1 (.slice A n c) n xs) : ∀ ad, A = some ad → 0 < n → base ≤ ad.block := by
  intro ad hA _
  exact Own.own_block h _ (by rw [hA]; rfl)

theorem getD_mem {l : List Int} {k : Nat} (h : k < l.length) : l.getD k 0 ∈ l := by
  rw [List.getD_eq_getElem?_getD, List.getElem?_eq_getElem h]
  exact List.getElem_mem h
theorem take_succ {l : List Int} {k : Nat} (h : k < l.length) : l.take (k + 1) = l.take k ++ [l.getD k 0] := by
  rw [List.take_add_one, List.getElem?_eq_getElem h, List.getD_eq_getElem?_getD, List.getElem?_eq_getElem h]
  rfl
theorem drop_cons {l : List Int} {k : Nat} (h : k < l.length) : l.drop k = l.getD k 0 :: l.drop (k + 1) := by
  rw [List.drop_eq_getElem_cons h, List.getD_eq_getElem?_getD, List.getElem?_eq_getElem h]
  rfl

/-- A set of numbers, in a block of words. -/
def BitsAt (w : World) (t : TypeId) (b m : Nat) (vis : List Int) : Prop :=
  ∃ W : Nat → Set64, w.rowIs b t m (fun k => wd (W k)) ∧ ∀ x : Nat, x < 64 * m → (W (x / 64)).getLsbD (x % 64) = decide ((x : Int) ∈ vis)
theorem BitsAt.lt {w : World} {t : TypeId} {b m : Nat} {vis : List Int} (h : BitsAt w t b m vis) : b < w.heap.size := by
  obtain ⟨W, h1, _⟩ := h
  exact h1.lt
theorem BitsAt.of_block {w w' : World} {t : TypeId} {b m : Nat} {vis : List Int} (h : BitsAt w t b m vis) (e : w'.heap[b]? = w.heap[b]?) : BitsAt w' t b m vis := by
  obtain ⟨W, h1, h2⟩ := h
  exact ⟨W, h1.of_block e, h2⟩
theorem BitsAt.below {w w' : World} {t : TypeId} {b m : Nat} {vis : List Int} (h : BitsAt w t b m vis) (hb : Below w.heap.size w w') : BitsAt w' t b m vis := h.of_block (hb.block b h.lt)
theorem BitsAt.setOther {w : World} {t : TypeId} {b m : Nat} {vis : List Int} (h : BitsAt w t b m vis) {a : Addr} (ha : b ≠ a.block) (v : Value) : BitsAt (w.setCell a v) t b m vis := by
  obtain ⟨W, h1, h2⟩ := h
  exact ⟨W, h1.setOther ha v, h2⟩
theorem BitsAt.congr {w : World} {t : TypeId} {b m : Nat} {vis vis' : List Int} (h : BitsAt w t b m vis) (e : ∀ x, x ∈ vis ↔ x ∈ vis') : BitsAt w t b m vis' := by
  obtain ⟨W, h1, h2⟩ := h
  exact ⟨W, h1, fun x hx => by rw [h2 x hx]; simp only [e]⟩

theorem shl_one {k : Nat} (hk : k < 64) : IntKind.u64.wrap ((2 : Int) ^ k) = nu (one k) := by
  have e : nu (one k) = ((2 ^ k : Nat) : Int) := by
    unfold nu one
    rw [BitVec.toNat_twoPow, Nat.mod_eq_of_lt (Nat.pow_lt_pow_right (by decide) hk)]
  rw [← wrap_nu, e]
  congr 1
theorem bits_step {W : Nat → Set64} {m x : Nat} {vis : List Int} (h : ∀ y : Nat, y < 64 * m → (W (y / 64)).getLsbD (y % 64) = decide ((y : Int) ∈ vis)) :
    ∀ y : Nat, y < 64 * m → ((fun k => if k = x / 64 then W (x / 64) ||| one (x % 64) else W k) (y / 64)).getLsbD (y % 64) = decide ((y : Int) ∈ vis ++ [(x : Int)]) := by
  intro y hy
  have hy' := h y hy
  by_cases e : y / 64 = x / 64
  · show (if y / 64 = x / 64 then W (x / 64) ||| one (x % 64) else W (y / 64)).getLsbD (y % 64) = _
    rw [if_pos e, BitVec.getLsbD_or, one_bit _ _ (by omega), ← e, hy']
    by_cases e2 : y = x
    · subst e2; simp
    · have h3 : ¬ y % 64 = x % 64 := by omega
      have h4 : ¬ (y : Int) = (x : Int) := by omega
      simp [h3, h4]
  · show (if y / 64 = x / 64 then W (x / 64) ||| one (x % 64) else W (y / 64)).getLsbD (y % 64) = _
    rw [if_neg e, hy']
    have h4 : ¬ (y : Int) = (x : Int) := by omega
    simp [h4]

/-- A list that is valid. -/
structure Ok (s : Int) (l : List Int) : Prop where
  lo : 1 ≤ s
  hi : s ≤ 32768
  ins : ∀ x ∈ l, 0 ≤ x ∧ x < s
  nodup : l.Nodup
def inB (s : Int) (l : List Int) : Bool := l.all fun x => decide (0 ≤ x) && decide (x < s)
theorem inB_iff {s : Int} {l : List Int} : inB s l = true ↔ ∀ x ∈ l, 0 ≤ x ∧ x < s := by
  unfold inB
  simp [List.all_eq_true]

end Go.Proofs.Ytkejcdephnkkgaa.Fr
