
/- Words and their bytes, the lowest first. No program here. -/
import Derived.Test.YtkejcdephnkkgaaRows
import Derived.WalkKit
namespace Go.Proofs.Ytkejcdephnkkgaa.Le
open Go.RowKit

/-- Byte i of a word. -/
def byteI (v : Int) (i : Nat) : Int := v / 2 ^ (8 * i) % 256
/-- A word from its bytes, the lowest first. -/
def wordI : (Nat → Int) → Nat → Int
  | _, 0 => 0
  | g, n + 1 => wordI g n + g n * 2 ^ (8 * n)
def Bytes (g : Nat → Int) (n : Nat) : Prop := ∀ i, i < n → 0 ≤ g i ∧ g i ≤ 255

theorem byte_lo (v : Int) (i : Nat) : 0 ≤ byteI v i ∧ byteI v i ≤ 255 := by unfold byteI; omega
theorem pow_pos (n : Nat) : (0 : Int) < 2 ^ (8 * n) := Int.pow_pos (by decide)
theorem pow_succ8 (n : Nat) : (2 : Int) ^ (8 * (n + 1)) = 2 ^ (8 * n) * 256 := by
  rw [show 8 * (n + 1) = 8 * n + 8 from by omega, Int.pow_add]; rfl
theorem pow_le8 {n m : Nat} (h : n ≤ m) : (2 : Int) ^ (8 * n) ≤ 2 ^ (8 * m) := by
  have h1 := Nat.pow_le_pow_right (n := 2) (by decide) (show 8 * n ≤ 8 * m by omega)
  have h2 : ((2 ^ (8 * n) : Nat) : Int) ≤ ((2 ^ (8 * m) : Nat) : Int) := by omega
  simpa using h2
theorem word_lo {g : Nat → Int} : ∀ {n : Nat}, Bytes g n → 0 ≤ wordI g n ∧ wordI g n < 2 ^ (8 * n)
  | 0, _ => by simp [wordI]
  | n + 1, h => by
    obtain ⟨h1, h2⟩ := word_lo (n := n) fun i hi => h i (by omega)
    obtain ⟨h3, h4⟩ := h n (by omega)
    have hp := pow_pos n
    rw [pow_succ8]
    unfold wordI
    generalize (2 : Int) ^ (8 * n) = q at *
    generalize g n = x at *
    constructor
    · have := Int.mul_nonneg h3 (Int.le_of_lt hp); omega
    · have : x * q ≤ 255 * q := Int.mul_le_mul_of_nonneg_right h4 (Int.le_of_lt hp)
      omega
theorem word_congr {g h : Nat → Int} : ∀ {n : Nat}, (∀ i, i < n → g i = h i) → wordI g n = wordI h n
  | 0, _ => rfl
  | n + 1, e => by unfold wordI; rw [word_congr (n := n) fun i hi => e i (by omega), e n (by omega)]
theorem or_join (a x : Int) (k : Nat) (ha : 0 ≤ a) (ha2 : a < 2 ^ (8 * k)) (hx : 0 ≤ x ∧ x ≤ 255) (hk : k < 8) : bits .or .u64 a (IntKind.u64.wrap (x * 2 ^ (8 * k))) = a + x * 2 ^ (8 * k) := by
  have h8 : (2 : Int) ^ (8 * (k + 1)) ≤ 2 ^ (8 * 8) := pow_le8 (by omega)
  rw [pow_succ8] at h8
  have h64 : (2 : Int) ^ (8 * 8) = 18446744073709551616 := by decide
  rw [h64] at h8
  have hp := pow_pos k
  have hx1 : 0 ≤ x * 2 ^ (8 * k) := Int.mul_nonneg hx.1 (Int.le_of_lt hp)
  have hx2 : x * 2 ^ (8 * k) ≤ 255 * 2 ^ (8 * k) := Int.mul_le_mul_of_nonneg_right hx.2 (Int.le_of_lt hp)
  have hw : IntKind.u64.wrap (x * 2 ^ (8 * k)) = x * 2 ^ (8 * k) := by
    rw [IntKind.wrap_u64]
    generalize x * 2 ^ (8 * k) = y at *
    generalize (2 : Int) ^ (8 * k) = q at *
    omega
  rw [hw, u64_or a _ ha (by generalize x * 2 ^ (8 * k) = y at *; generalize (2 : Int) ^ (8 * k) = q at *; omega) hx1 (by generalize x * 2 ^ (8 * k) = y at *; generalize (2 : Int) ^ (8 * k) = q at *; omega)]
  obtain ⟨A, rfl⟩ := Int.eq_ofNat_of_zero_le ha
  obtain ⟨X, rfl⟩ := Int.eq_ofNat_of_zero_le hx.1
  have e : ((X : Int) * 2 ^ (8 * k)) = ((X * 2 ^ (8 * k) : Nat) : Int) := by simp
  rw [e, Int.toNat_natCast, Int.toNat_natCast, Nat.or_comm, nat_join (8 * k) _ _ (Nat.mul_mod_left _ _) (by
    have : ((A : Nat) : Int) < ((2 ^ (8 * k) : Nat) : Int) := by simpa using ha2
    omega)]
  simp; omega
theorem word_step (g : Nat → Int) (k : Nat) (h : Bytes g (k + 1)) (hk : k < 8) : bits .or .u64 (wordI g k) (IntKind.u64.wrap (g k * 2 ^ (8 * k))) = wordI g (k + 1) := by
  obtain ⟨h1, h2⟩ := word_lo (n := k) fun i hi => h i (by omega)
  rw [or_join _ _ _ h1 h2 (h k (by omega)) hk]; rfl
theorem word_byte (v : Int) (hv : 0 ≤ v) : ∀ n : Nat, wordI (byteI v) n = v % 2 ^ (8 * n)
  | 0 => by simp [wordI, Int.emod_one]
  | n + 1 => by
    unfold wordI
    rw [word_byte v hv n, pow_succ8]
    obtain ⟨V, rfl⟩ := Int.eq_ofNat_of_zero_le hv
    have := Nat.mod_mul (x := V) (a := 2 ^ (8 * n)) (b := 256)
    have e : ((V : Int) % (2 ^ (8 * n) * 256)) = ((V % (2 ^ (8 * n) * 256) : Nat) : Int) := by simp
    rw [e, this]
    unfold byteI
    simp [Int.mul_comm]
theorem byte_word {g : Nat → Int} : ∀ {n : Nat}, Bytes g n → ∀ i, i < n → byteI (wordI g n) i = g i
  | 0, _, i, hi => by omega
  | n + 1, h, i, hi => by
    have hb : Bytes g n := fun j hj => h j (by omega)
    obtain ⟨h1, h2⟩ := word_lo hb
    have hp := pow_pos n
    have hx := h n (by omega)
    unfold wordI
    by_cases e : i = n
    · subst e
      unfold byteI
      rw [Int.add_mul_ediv_right _ _ (by omega), Int.ediv_eq_zero_of_lt h1 h2]; omega
    · rw [← byte_word hb i (by omega)]
      unfold byteI
      have e1 : (2 : Int) ^ (8 * n) = 2 ^ (8 * i) * (256 * 2 ^ (8 * (n - i - 1))) := by
        rw [show 8 * n = 8 * i + (8 + 8 * (n - i - 1)) from by omega, Int.pow_add, Int.pow_add]; rfl
      rw [e1, show g n * (2 ^ (8 * i) * (256 * 2 ^ (8 * (n - i - 1)))) = (g n * (256 * 2 ^ (8 * (n - i - 1)))) * 2 ^ (8 * i) from by rw [← Int.mul_assoc, Int.mul_comm (g n) (2 ^ (8 * i)), Int.mul_assoc, Int.mul_comm], Int.add_mul_ediv_right _ _ (by have := pow_pos i; omega)]
      rw [show g n * (256 * 2 ^ (8 * (n - i - 1))) = 256 * (g n * 2 ^ (8 * (n - i - 1))) from by rw [← Int.mul_assoc, Int.mul_comm (g n) 256, Int.mul_assoc], Int.add_mul_emod_self_left]

end Go.Proofs.Ytkejcdephnkkgaa.Le
