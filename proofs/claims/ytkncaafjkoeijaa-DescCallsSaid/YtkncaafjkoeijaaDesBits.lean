
/- Flags as rows of 16 bits. No program here. -/
import Derived.Test.YtkncaafjkoeijaaRows
import Derived.WalkKit
namespace Go.Proofs.Ytkncaafjkoeijaa.DesBits
open Go.RowKit
set_option linter.unusedSimpArgs false
set_option linter.unusedVariables false

def hasB (f m : Int) : Bool := !(bits .and .u16 f m == 0)
def markI (f : Int) (w u : Bool) : Int :=
  let g := bits .andNot .u16 f 32896
  let g := if w then bits .or .u16 g 128 else g
  if w = u then bits .or .u16 g 32768 else g

theorem nat_u16 (x : Nat) (h : x < 65536) : IntKind.u16.wrap (x : Int) = (x : Int) := by rw [IntKind.wrap_u16]; omega
theorem ofInt_toNat (X : BitVec 16) : BitVec.ofInt 16 ((X.toNat : Nat) : Int) = X := by
  apply BitVec.eq_of_toNat_eq; rw [BitVec.toNat_ofInt]; have := X.isLt; omega
theorem b_and (X : BitVec 16) (m : Int) : bits .and .u16 ((X.toNat : Nat) : Int) m = (((X &&& BitVec.ofInt 16 m).toNat : Nat) : Int) := by
  show IntKind.u16.wrap ((BitVec.ofInt 16 _ &&& BitVec.ofInt 16 m).toNat : Nat) = _
  rw [ofInt_toNat, nat_u16 _ (BitVec.isLt _)]
theorem b_or (X : BitVec 16) (m : Int) : bits .or .u16 ((X.toNat : Nat) : Int) m = (((X ||| BitVec.ofInt 16 m).toNat : Nat) : Int) := by
  show IntKind.u16.wrap ((BitVec.ofInt 16 _ ||| BitVec.ofInt 16 m).toNat : Nat) = _
  rw [ofInt_toNat, nat_u16 _ (BitVec.isLt _)]
theorem b_andNot (X : BitVec 16) (m : Int) : bits .andNot .u16 ((X.toNat : Nat) : Int) m = (((X &&& ~~~(BitVec.ofInt 16 m)).toNat : Nat) : Int) := by
  show IntKind.u16.wrap ((BitVec.ofInt 16 _ &&& ~~~(BitVec.ofInt 16 m)).toNat : Nat) = _
  rw [ofInt_toNat, nat_u16 _ (BitVec.isLt _)]

def mk (X : BitVec 16) (w u : Bool) : BitVec 16 :=
  let g := X &&& 32639#16
  let g := if w then g ||| 128#16 else g
  if w = u then g ||| 32768#16 else g
theorem mark_mk (X : BitVec 16) (w u : Bool) : markI ((X.toNat : Nat) : Int) w u = ((mk X w u).toNat : Nat) := by
  unfold markI mk
  have e1 : ~~~(BitVec.ofInt 16 32896) = 32639#16 := by decide
  have e2 : BitVec.ofInt 16 128 = 128#16 := by decide
  have e3 : BitVec.ofInt 16 32768 = 32768#16 := by decide
  rw [b_andNot, e1]
  cases w <;> cases u <;> simp only [b_or, e2, e3, if_true, if_false, Bool.false_eq_true, reduceCtorEq, Bool.true_eq_false, ↓reduceIte]
theorem has_mk (X : BitVec 16) (k : Nat) (hk : k < 16) : hasB ((X.toNat : Nat) : Int) ((2 ^ k : Nat) : Int) = X.getLsbD k := by
  unfold hasB
  have e : BitVec.ofInt 16 ((2 ^ k : Nat) : Int) = BitVec.twoPow 16 k := by
    apply BitVec.eq_of_toNat_eq; rw [BitVec.toNat_ofInt, BitVec.toNat_twoPow]
    have : 2 ^ k < 2 ^ 16 := Nat.pow_lt_pow_right (by decide) hk
    generalize 2 ^ k = q at *; omega
  rw [b_and, e, BitVec.and_twoPow]
  cases h : X.getLsbD k
  · simp
  · have : (BitVec.twoPow 16 k).toNat ≠ 0 := by
      rw [BitVec.toNat_twoPow]
      have h1 : 2 ^ k < 2 ^ 16 := Nat.pow_lt_pow_right (by decide) hk
      have := Nat.two_pow_pos k
      rw [Nat.mod_eq_of_lt h1]; omega
    simp only [if_true]
    generalize (BitVec.twoPow 16 k).toNat = q at *
    simp; omega

theorem mk_bit (X : BitVec 16) (w u : Bool) (i : Nat) (hi : i < 16) : (mk X w u).getLsbD i = if i = 7 then w else if i = 15 then w == u else X.getLsbD i := by
  have h : i = 0 ∨ i = 1 ∨ i = 2 ∨ i = 3 ∨ i = 4 ∨ i = 5 ∨ i = 6 ∨ i = 7 ∨ i = 8 ∨ i = 9 ∨ i = 10 ∨ i = 11 ∨ i = 12 ∨ i = 13 ∨ i = 14 ∨ i = 15 := by omega
  unfold mk
  rcases h with h | h | h | h | h | h | h | h | h | h | h | h | h | h | h | h <;> subst h <;> cases w <;> cases u <;> simp [BitVec.getLsbD_or, BitVec.getLsbD_and] <;> decide

theorem mk_mk (X : BitVec 16) (w u v : Bool) : mk (mk X w u) w v = mk X w v := by
  apply BitVec.eq_of_getLsbD_eq
  intro i hi
  rw [mk_bit _ _ _ _ hi, mk_bit _ _ _ _ hi, mk_bit _ _ _ _ hi]
  split
  · rfl
  · split <;> rfl
theorem mk_rest (X : BitVec 16) (w u : Bool) : mk X w u &&& 32639#16 = X &&& 32639#16 := by
  apply BitVec.eq_of_getLsbD_eq
  intro i hi
  rw [BitVec.getLsbD_and, BitVec.getLsbD_and, mk_bit _ _ _ _ hi]
  by_cases h7 : i = 7
  · subst h7; have : (32639#16).getLsbD 7 = false := by decide
    simp [this]
  · by_cases h15 : i = 15
    · subst h15; have : (32639#16).getLsbD 15 = false := by decide
      simp [this]
    · simp [h7, h15]

theorem of_range (f : Int) (h : 0 ≤ f ∧ f ≤ 65535) : ∃ X : BitVec 16, f = ((X.toNat : Nat) : Int) := by
  refine ⟨BitVec.ofInt 16 f, ?_⟩
  rw [BitVec.toNat_ofInt]; omega

theorem mark_has (f : Int) (h : 0 ≤ f ∧ f ≤ 65535) (w u : Bool) : hasB (markI f w u) 128 = w ∧ hasB (markI f w u) 32768 = (w == u) := by
  obtain ⟨X, rfl⟩ := of_range f h
  rw [mark_mk]
  exact ⟨(has_mk _ 7 (by decide)).trans (by rw [mk_bit _ _ _ _ (by decide)]; rfl), (has_mk _ 15 (by decide)).trans (by rw [mk_bit _ _ _ _ (by decide)]; rfl)⟩
theorem mark_mark (f : Int) (h : 0 ≤ f ∧ f ≤ 65535) (w u v : Bool) : markI (markI f w u) w v = markI f w v := by
  obtain ⟨X, rfl⟩ := of_range f h
  rw [mark_mk, mark_mk, mark_mk, mk_mk]
theorem mark_rest (f : Int) (h : 0 ≤ f ∧ f ≤ 65535) (w u : Bool) : bits .and .u16 (markI f w u) 32639 = bits .and .u16 f 32639 := by
  obtain ⟨X, rfl⟩ := of_range f h
  have e : BitVec.ofInt 16 32639 = 32639#16 := by decide
  rw [mark_mk, b_and, b_and, e, mk_rest]
theorem mark_lo (f : Int) (h : 0 ≤ f ∧ f ≤ 65535) (w u : Bool) : 0 ≤ markI f w u ∧ markI f w u ≤ 65535 := by
  obtain ⟨X, rfl⟩ := of_range f h
  rw [mark_mk]; have := (mk X w u).isLt; omega

end Go.Proofs.Ytkncaafjkoeijaa.DesBits
