
/- Words and their parts: numbers of the law GmemWords. No program here. -/
import Derived.Test.YtmmgcmbniidieaaLe
import Derived.Laws.BitsAllLaws
namespace Go.Proofs.Ytmmgcmbniidieaa.GmWordsM
open Go.RowKit Le
set_option linter.unusedVariables false
set_option linter.unusedSimpArgs false

theorem div_div (v b c : Int) (hb : 0 < b) : v / b / c = v / (b * c) := by
  rw [Int.ediv_ediv, if_neg (fun h => by omega), Int.sub_zero]
theorem byte_shift (v : Int) (i t : Nat) : byteI v (i + t) = byteI (v / 2 ^ (8 * i)) t := by
  unfold byteI
  rw [div_div _ _ _ (pow_pos i), ← Int.pow_add, show 8 * i + 8 * t = 8 * (i + t) from by omega]
theorem word_shift (v : Int) (hv : 0 ≤ v) (i n : Nat) : wordI (fun t => byteI v (i + t)) n = v / 2 ^ (8 * i) % 2 ^ (8 * n) := by
  rw [word_congr (h := byteI (v / 2 ^ (8 * i))) (fun t _ => byte_shift v i t), word_byte _ (Int.ediv_nonneg hv (Int.le_of_lt (pow_pos i)))]
theorem word_split (g : Nat → Int) (n : Nat) : ∀ m, wordI g (n + m) = wordI g n + 2 ^ (8 * n) * wordI (fun t => g (n + t)) m
  | 0 => by simp [wordI]
  | m + 1 => by
    show wordI g (n + m) + g (n + m) * 2 ^ (8 * (n + m)) = _
    rw [word_split g n m]
    show _ = wordI g n + 2 ^ (8 * n) * (wordI (fun t => g (n + t)) m + g (n + m) * 2 ^ (8 * m))
    rw [Int.mul_add, show 8 * (n + m) = 8 * n + 8 * m from by omega, Int.pow_add, Int.mul_comm (g (n + m)), Int.mul_assoc, Int.add_assoc, Int.mul_comm (2 ^ (8 * m)) (g (n + m))]
theorem step (v : Int) (i n : Nat) : v / 2 ^ (8 * (i + n)) * 2 ^ (8 * n) + v / 2 ^ (8 * i) % 2 ^ (8 * n) = v / 2 ^ (8 * i) := by
  rw [show 8 * (i + n) = 8 * i + 8 * n from by omega, Int.pow_add, ← div_div _ _ _ (pow_pos i)]
  generalize v / 2 ^ (8 * i) = z
  rw [Int.mul_comm]
  exact Int.mul_ediv_add_emod z _
theorem or_parts {b x : Int} {k : Nat} (hb : 0 ≤ b) (hx : 0 ≤ x) (hxk : x < 2 ^ k) (h : b * 2 ^ k + x ≤ 18446744073709551615) : bits .or .u64 (IntKind.u64.wrap (b * 2 ^ k)) x = b * 2 ^ k + x := by
  obtain ⟨B, rfl⟩ := Int.eq_ofNat_of_zero_le hb
  obtain ⟨X, rfl⟩ := Int.eq_ofNat_of_zero_le hx
  have e : ((B : Int) * 2 ^ k) = ((B * 2 ^ k : Nat) : Int) := by simp
  have hX : X < 2 ^ k := by
    have : ((2 ^ k : Nat) : Int) = (2 : Int) ^ k := Int.natCast_pow 2 k
    omega
  rw [e] at h ⊢
  rw [IntKind.wrap_u64, Int.emod_eq_of_lt (by omega) (by omega), u64_or _ _ (by omega) (by omega) (by omega) (by omega), Int.toNat_natCast, Int.toNat_natCast, Nat.mul_comm, ← Nat.two_pow_add_eq_or_of_lt hX]
  omega
theorem mask_nat (V W k : Nat) (hk : k ≤ 64) (hV : V < 2 ^ 64) : (V &&& (2 ^ 64 - 1 - (2 ^ k - 1))) ||| (W &&& (2 ^ k - 1)) = 2 ^ k * (V / 2 ^ k) + W % 2 ^ k := by
  have hp := Nat.two_pow_pos k
  rw [Nat.two_pow_add_eq_or_of_lt (Nat.mod_lt W hp), Nat.and_two_pow_sub_one_eq_mod]
  congr 1
  refine Nat.eq_of_testBit_eq fun i => ?_
  have e : 2 ^ 64 - 1 - (2 ^ k - 1) = 2 ^ 64 - (2 ^ k - 1 + 1) := by omega
  rw [Nat.testBit_and, e, Nat.testBit_two_pow_sub_succ (by have := Nat.pow_le_pow_right (n := 2) (by decide) hk; omega), Nat.testBit_two_pow_sub_one, Nat.mul_comm, ← Nat.shiftLeft_eq, Nat.testBit_shiftLeft, Nat.testBit_div_two_pow]
  by_cases h : k ≤ i
  · rw [show i - k + k = i from by omega]
    by_cases h64 : i < 64
    · simp [h, h64, Nat.not_lt.2 h]
    · have : V.testBit i = false := Nat.testBit_lt_two_pow (Nat.lt_of_lt_of_le hV (Nat.pow_le_pow_right (by decide) (by omega)))
      simp [this]
  · simp [h, Nat.lt_of_not_le h]

/-- A word stored over another's first bytes, as the masks have it. -/
theorem masked {v u : Int} {n : Nat} (hv : 0 ≤ v ∧ v ≤ 18446744073709551615) (hu : 0 ≤ u ∧ u ≤ 18446744073709551615) (hn : n ≤ 7) {M : Int} (hM : M = 2 ^ (8 * n) - 1) :
    bits .or .u64 (bits .andNot .u64 v M) (bits .and .u64 u M) = wordI (fun t => if t < n then byteI u t else byteI v t) 8 := by
  obtain ⟨V, rfl⟩ := Int.eq_ofNat_of_zero_le hv.1
  obtain ⟨U, rfl⟩ := Int.eq_ofNat_of_zero_le hu.1
  have hp := Nat.two_pow_pos (8 * n)
  have hp2 : 2 ^ (8 * n) ≤ 2 ^ 56 := Nat.pow_le_pow_right (by decide) (by omega)
  have hp3 : (2 : Nat) ^ 56 = 72057594037927936 := by decide
  have e : ((2 ^ (8 * n) : Nat) : Int) = (2 : Int) ^ (8 * n) := Int.natCast_pow 2 (8 * n)
  obtain rfl : M = ((2 ^ (8 * n) - 1 : Nat) : Int) := by rw [hM, ← e]; omega
  have h1 : bits .andNot .u64 (V : Int) ((2 ^ (8 * n) - 1 : Nat) : Int) = ((V &&& (18446744073709551615 - (2 ^ (8 * n) - 1)) : Nat) : Int) := u64_andNot_nat V (2 ^ (8 * n) - 1) (by omega) (by omega)
  have h2 : bits .and .u64 (U : Int) ((2 ^ (8 * n) - 1 : Nat) : Int) = ((U &&& (2 ^ (8 * n) - 1) : Nat) : Int) := u64_and_nat U (2 ^ (8 * n) - 1) (by omega) (by omega)
  have l1 : V &&& (18446744073709551615 - (2 ^ (8 * n) - 1)) ≤ V := Nat.and_le_left
  have l2 : U &&& (2 ^ (8 * n) - 1) ≤ U := Nat.and_le_left
  rw [h1, h2, u64_or _ _ (by omega) (by omega) (by omega) (by omega), Int.toNat_natCast, Int.toNat_natCast]
  have hm := mask_nat V U (8 * n) (by omega) (by omega)
  have h64 : (2 : Nat) ^ 64 - 1 = 18446744073709551615 := by decide
  rw [h64] at hm
  rw [hm]
  have hs := word_split (fun t => if t < n then byteI (U : Int) t else byteI (V : Int) t) n (8 - n)
  rw [show n + (8 - n) = 8 from by omega] at hs
  rw [hs, word_congr (h := byteI (U : Int)) (n := n) (fun t ht => by rw [if_pos ht]), word_congr (h := fun t => byteI (V : Int) (n + t)) (n := 8 - n) (fun t ht => by rw [if_neg (by omega)]), word_byte _ (by omega), word_shift _ (by omega)]
  have hV : (V : Int) / 2 ^ (8 * n) % 2 ^ (8 * (8 - n)) = (V : Int) / 2 ^ (8 * n) := by
    refine Int.emod_eq_of_lt (Int.ediv_nonneg (by omega) (by rw [← e]; omega)) ?_
    rw [← e, show ((V : Int) / ((2 ^ (8 * n) : Nat) : Int)) = ((V / 2 ^ (8 * n) : Nat) : Int) from by simp]
    have : V / 2 ^ (8 * n) < 2 ^ (8 * (8 - n)) := by
      rw [Nat.div_lt_iff_lt_mul hp, ← Nat.pow_add, show 8 * (8 - n) + 8 * n = 64 from by omega]
      omega
    have e2 : ((2 ^ (8 * (8 - n)) : Nat) : Int) = (2 : Int) ^ (8 * (8 - n)) := Int.natCast_pow 2 _
    omega
  rw [hV, ← e]
  simp only [Int.natCast_add, Int.natCast_mul, Int.natCast_ediv, Int.natCast_emod]
  omega

end Go.Proofs.Ytmmgcmbniidieaa.GmWordsM
