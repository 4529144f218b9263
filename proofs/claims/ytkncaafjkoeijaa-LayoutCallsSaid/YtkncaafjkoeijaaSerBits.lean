
/- Numbers of package serial: words, powers of two, multiples. No program here. -/
import Derived.Test.YtkncaafjkoeijaaRows
import Derived.WalkKit
namespace Go.Proofs.Ytkncaafjkoeijaa.SerBits
open Go.RowKit

theorem i64_mask (k : Nat) (hk : k ≤ 62) (m : Int) (hm : m = ((2 ^ k - 1 : Nat) : Int)) (n : Int) : bits .and .i64 n m = n % ((2 ^ k : Nat) : Int) := by
  subst hm
  have hp : 2 ^ k ≤ 2 ^ 62 := Nat.pow_le_pow_right (by decide) hk
  have hp0 : 0 < 2 ^ k := Nat.two_pow_pos k
  have h1 : (BitVec.ofInt 64 ((2 ^ k - 1 : Nat) : Int)).toNat = 2 ^ k - 1 := by
    rw [BitVec.toNat_ofInt]; omega
  have key : (BitVec.ofInt 64 n &&& BitVec.ofInt 64 ((2 ^ k - 1 : Nat) : Int)).toNat = (n % ((2 ^ 64 : Nat) : Int)).toNat % 2 ^ k := by
    rw [BitVec.toNat_and, BitVec.toNat_ofInt, h1, Nat.and_two_pow_sub_one_eq_mod]
  show IntKind.i64.wrap ((BitVec.ofInt 64 n &&& BitVec.ofInt 64 ((2 ^ k - 1 : Nat) : Int)).toNat : Nat) = _
  rw [key, IntKind.wrap_i64]
  have hd : (2 ^ 64 : Nat) = 2 ^ k * 2 ^ (64 - k) := by rw [← Nat.pow_add]; congr 1; omega
  have h2 : (((n % ((2 ^ 64 : Nat) : Int)).toNat % 2 ^ k : Nat) : Int) = n % ((2 ^ k : Nat) : Int) := by
    rw [Int.natCast_emod, Int.toNat_of_nonneg (Int.emod_nonneg _ (by decide)), hd, Int.natCast_mul, Int.emod_emod_of_dvd _ (Int.dvd_mul_right _ _)]
  rw [h2]
  have h3 := Int.emod_nonneg n (b := ((2 ^ k : Nat) : Int)) (by omega)
  have h4 := Int.emod_lt_of_pos n (b := ((2 ^ k : Nat) : Int)) (by omega)
  generalize n % ((2 ^ k : Nat) : Int) = r at *
  have h5 : 2 ^ k ≤ 4611686018427387904 := Nat.le_trans hp (by decide)
  generalize 2 ^ k = q at *
  omega

theorem i64_and32767 (n : Int) : bits .and .i64 n 32767 = n % 32768 := i64_mask 15 (by decide) _ (by decide) n
theorem i64_and65535 (n : Int) : bits .and .i64 n 65535 = n % 65536 := i64_mask 16 (by decide) _ (by decide) n

theorem u16_low (x : Int) (h1 : 0 ≤ x) (h2 : x ≤ 65535) : bits .and .u16 x 32767 = x % 32768 := by
  rw [u16_and x 32767 h1 (by omega) (by decide) (by decide)]
  have : (32767 : Int).toNat = 2 ^ 15 - 1 := by decide
  rw [this, Nat.and_two_pow_sub_one_eq_mod]; omega
theorem u16_high (x : Int) (h1 : 0 ≤ x) (h2 : x ≤ 65535) : bits .and .u16 x 32768 = x / 32768 % 2 * 32768 := by
  rw [u16_and x 32768 h1 (by omega) (by decide) (by decide)]
  have : (32768 : Int).toNat = 2 ^ 15 := by decide
  rw [this, nat_bit]; omega
theorem u16_join (x : Int) (h1 : 0 ≤ x) (h2 : x < 32768) : bits .or .u16 x 32768 = x + 32768 := by
  rw [u16_or x 32768 h1 (by omega) (by decide) (by decide), Nat.or_comm, nat_join 15 _ _ (by decide) (by omega)]
  have : (32768 : Int).toNat = 32768 := by decide
  omega

/-- A position as a word. -/
def wordI (a : Int) (b : Bool) : Int := a % 32768 + if b then 32768 else 0
theorem wordI_lo (a : Int) (b : Bool) : 0 ≤ wordI a b ∧ wordI a b ≤ 65535 := by unfold wordI; split <;> omega

theorem s_word_f (a : Int) : bits .and .u16 (IntKind.u16.wrap a) 32767 = wordI a false := by
  rw [u16_low _ (by rw [IntKind.wrap_u16]; omega) (by rw [IntKind.wrap_u16]; omega), IntKind.wrap_u16]; simp [wordI]
theorem s_word_t (a : Int) : bits .or .u16 (wordI a false) 32768 = wordI a true := by
  rw [u16_join _ (by unfold wordI; simp; omega) (by unfold wordI; simp; omega)]; simp [wordI]
theorem r_word_f (a : Int) : IntKind.u16.wrap (bits .and .i64 a 32767) = wordI a false := by
  rw [i64_and32767, IntKind.wrap_u16]; simp [wordI]; omega
theorem r_word_t (a : Int) : IntKind.u16.wrap (wordI a false + 32768) = wordI a true := by
  rw [IntKind.wrap_u16]; simp [wordI]; omega

end Go.Proofs.Ytkncaafjkoeijaa.SerBits
