
/- One byte of a word turned: the word itself, turned where that byte lies. No program here. -/
import Derived.Test.YtkncaafjkoeijaaDesPut
import Derived.Laws.BitsAllLaws
namespace Go.Proofs.Ytkncaafjkoeijaa.DesXor
open Go.RowKit Le DesPut
set_option linter.unusedVariables false
set_option linter.unusedSimpArgs false

theorem xor_byte_nat (v y k i : Nat) (hy : y < 256) : (v ^^^ (y * 2 ^ (8 * k))) / 2 ^ (8 * i) % 256 = if i = k then (v / 2 ^ (8 * k) % 256) ^^^ y else v / 2 ^ (8 * i) % 256 := by
  have h256 : (256 : Nat) = 2 ^ 8 := by decide
  refine Nat.eq_of_testBit_eq fun j => ?_
  rw [h256, Nat.testBit_mod_two_pow, Nat.testBit_div_two_pow, Nat.testBit_xor, ← Nat.shiftLeft_eq, Nat.testBit_shiftLeft]
  by_cases e : i = k
  · subst e
    rw [if_pos rfl, Nat.testBit_xor, Nat.testBit_mod_two_pow, Nat.testBit_div_two_pow]
    by_cases hj : j < 8
    · have h1 : decide (8 * i + j ≥ 8 * i) = true := decide_eq_true (by omega)
      have h2 : 8 * i + j - 8 * i = j := by omega
      simp [hj, h2]
    · have hz : y.testBit j = false := Nat.testBit_lt_two_pow (Nat.lt_of_lt_of_le hy (by rw [h256]; exact Nat.pow_le_pow_right (by decide) (by omega)))
      simp [hj, hz]
  · rw [if_neg e, Nat.testBit_mod_two_pow, Nat.testBit_div_two_pow]
    by_cases hj : j < 8
    · have hf : (decide (8 * i + j ≥ 8 * k) && y.testBit (8 * i + j - 8 * k)) = false := by
        by_cases hk : 8 * k ≤ 8 * i + j
        · have hz : y.testBit (8 * i + j - 8 * k) = false := Nat.testBit_lt_two_pow (Nat.lt_of_lt_of_le hy (by rw [h256]; exact Nat.pow_le_pow_right (by decide) (by omega)))
          rw [hz, Bool.and_false]
        · rw [decide_eq_false (by omega), Bool.false_and]
      rw [Nat.add_comm] at hf
      rw [hf, Bool.xor_false]
    · simp [hj]

/-- A number v', v with byte k turned by y. -/
structure Turned (v y : Int) (k n : Nat) (v' : Int) : Prop where
  lo : 0 ≤ v'
  hi : v' < 2 ^ (8 * n)
  byte : ∀ i, byteI v' i = if i = k then bits .xor .u8 (byteI v k) y else byteI v i
theorem turned_nat {V Y k n : Nat} (hV : V < 2 ^ (8 * n)) (hY : Y < 256) (hk : k < n) : Turned (V : Int) (Y : Int) k n ((V ^^^ (Y * 2 ^ (8 * k)) : Nat) : Int) := by
  have hYk : Y * 2 ^ (8 * k) < 2 ^ (8 * n) := by
    have h1 : Y * 2 ^ (8 * k) < 256 * 2 ^ (8 * k) := Nat.mul_lt_mul_of_pos_right hY (Nat.two_pow_pos _)
    have h2 : 256 * 2 ^ (8 * k) = 2 ^ (8 * (k + 1)) := by rw [Nat.mul_add, Nat.pow_add]; omega
    have h3 : 2 ^ (8 * (k + 1)) ≤ 2 ^ (8 * n) := Nat.pow_le_pow_right (by decide) (by omega)
    omega
  have hlt : V ^^^ (Y * 2 ^ (8 * k)) < 2 ^ (8 * n) := Nat.xor_lt_two_pow hV hYk
  refine ⟨by omega, ?_, fun i => ?_⟩
  · have : ((2 ^ (8 * n) : Nat) : Int) = (2 : Int) ^ (8 * n) := Int.natCast_pow 2 (8 * n)
    omega
  · have e : ∀ (U m : Nat), byteI (U : Int) m = ((U / 2 ^ (8 * m) % 256 : Nat) : Int) := fun U m => by unfold byteI; simp
    rw [e, e, e, xor_byte_nat V Y k i hY]
    split
    · rw [u8_xor _ _ (by omega) (by omega) (by omega) (by omega), Int.toNat_natCast, Int.toNat_natCast]
    · rfl
theorem shift_lt {Y k n : Nat} (hY : Y < 256) (hk : k < n) : Y * 2 ^ (8 * k) < 2 ^ (8 * n) := by
  have h1 : Y * 2 ^ (8 * k) < 256 * 2 ^ (8 * k) := Nat.mul_lt_mul_of_pos_right hY (Nat.two_pow_pos _)
  have h2 : 256 * 2 ^ (8 * k) = 2 ^ (8 * (k + 1)) := by rw [Nat.mul_add, Nat.pow_add]; omega
  have h3 : 2 ^ (8 * (k + 1)) ≤ 2 ^ (8 * n) := Nat.pow_le_pow_right (by decide) (by omega)
  omega
theorem turned64 {v y : Int} {k : Nat} (hv : 0 ≤ v ∧ v ≤ 18446744073709551615) (hy : 0 ≤ y ∧ y ≤ 255) (hk : k < 8) : Turned v y k 8 (bits .xor .u64 v (IntKind.u64.wrap (y * 2 ^ (8 * k)))) := by
  obtain ⟨V, rfl⟩ := Int.eq_ofNat_of_zero_le hv.1
  obtain ⟨Y, rfl⟩ := Int.eq_ofNat_of_zero_le hy.1
  have h1 : Y * 2 ^ (8 * k) < 18446744073709551616 := shift_lt (n := 8) (by omega) hk
  have e : ((Y : Int) * 2 ^ (8 * k)) = ((Y * 2 ^ (8 * k) : Nat) : Int) := by simp
  rw [e, IntKind.wrap_u64, Int.emod_eq_of_lt (by omega) (by omega), u64_xor _ _ (by omega) (by omega) (by omega) (by omega), Int.toNat_natCast, Int.toNat_natCast]
  exact turned_nat (V := V) (Y := Y) (k := k) (n := 8) (by omega) (by omega) hk
theorem turned32 {v y : Int} {k : Nat} (hv : 0 ≤ v ∧ v ≤ 4294967295) (hy : 0 ≤ y ∧ y ≤ 255) (hk : k < 4) : Turned v y k 4 (bits .xor .u32 v (IntKind.u32.wrap (y * 2 ^ (8 * k)))) := by
  obtain ⟨V, rfl⟩ := Int.eq_ofNat_of_zero_le hv.1
  obtain ⟨Y, rfl⟩ := Int.eq_ofNat_of_zero_le hy.1
  have h1 : Y * 2 ^ (8 * k) < 4294967296 := shift_lt (n := 4) (by omega) hk
  have e : ((Y : Int) * 2 ^ (8 * k)) = ((Y * 2 ^ (8 * k) : Nat) : Int) := by simp
  rw [e, IntKind.wrap_u32', Int.emod_eq_of_lt (by omega) (by omega), u32_xor _ _ (by omega) (by omega) (by omega) (by omega), Int.toNat_natCast, Int.toNat_natCast]
  exact turned_nat (V := V) (Y := Y) (k := k) (n := 4) (by omega) (by omega) hk
theorem turned16 {v y : Int} {k : Nat} (hv : 0 ≤ v ∧ v ≤ 65535) (hy : 0 ≤ y ∧ y ≤ 255) (hk : k < 2) : Turned v y k 2 (bits .xor .u16 v (IntKind.u16.wrap (y * 2 ^ (8 * k)))) := by
  obtain ⟨V, rfl⟩ := Int.eq_ofNat_of_zero_le hv.1
  obtain ⟨Y, rfl⟩ := Int.eq_ofNat_of_zero_le hy.1
  have h1 : Y * 2 ^ (8 * k) < 65536 := shift_lt (n := 2) (by omega) hk
  have e : ((Y : Int) * 2 ^ (8 * k)) = ((Y * 2 ^ (8 * k) : Nat) : Int) := by simp
  rw [e, IntKind.wrap_u16, Int.emod_eq_of_lt (by omega) (by omega), u16_xor _ _ (by omega) (by omega) (by omega) (by omega), Int.toNat_natCast, Int.toNat_natCast]
  exact turned_nat (V := V) (Y := Y) (k := k) (n := 2) (by omega) (by omega) hk
theorem Turned.word {v y v' : Int} {k n : Nat} (h : Turned v y k n v') {g : Nat → Int} (hg : ∀ i, i < n → g i = if i = k then bits .xor .u8 (byteI v k) y else byteI v i) : wordI g n = v' := by
  rw [word_congr (h := byteI v') (fun i hi => by rw [hg i hi, h.byte]), word_byte v' h.lo n, Int.emod_eq_of_lt h.lo h.hi]
theorem plain_word {v : Int} {n : Nat} (h0 : 0 ≤ v) (h1 : v < 2 ^ (8 * n)) {g : Nat → Int} (hg : ∀ i, i < n → g i = byteI v i) : wordI g n = v := by
  rw [word_congr (h := byteI v) hg, word_byte v h0 n, Int.emod_eq_of_lt h0 h1]

/-- The bytes with byte k turned. -/
def turnG (g : Nat → Int) (k : Nat) (y : Int) (j : Nat) : Int := if j = k then bits .xor .u8 (g j) y else g j
theorem turnG_lo {g : Nat → Int} {n k : Nat} {y : Int} (h : Bytes g n) (hy : 0 ≤ y ∧ y ≤ 255) : Bytes (turnG g k y) n := fun j hj => by
  unfold turnG
  have hx := h j hj
  split
  · rw [u8_xor _ _ (by omega) (by omega) (by omega) (by omega)]
    have : (g j).toNat ^^^ y.toNat < 2 ^ 8 := Nat.xor_lt_two_pow (by omega) (by omega)
    omega
  · exact hx

theorem fields (a l f x y : Int) (k : Nat) (h : DescIn a l f x) (hy : 0 ≤ y ∧ y ≤ 255) (hk : k < 16) :
    (k < 8 → fA (turnG (descG a l f x) k y) = bits .xor .u64 a (IntKind.u64.wrap (y * 2 ^ (8 * k))) ∧ fL (turnG (descG a l f x) k y) = l ∧ fF (turnG (descG a l f x) k y) = f ∧ fX (turnG (descG a l f x) k y) = x) ∧
    (8 ≤ k → k < 12 → fA (turnG (descG a l f x) k y) = a ∧ fL (turnG (descG a l f x) k y) = bits .xor .u32 l (IntKind.u32.wrap (y * 2 ^ (8 * (k - 8)))) ∧ fF (turnG (descG a l f x) k y) = f ∧ fX (turnG (descG a l f x) k y) = x) ∧
    (12 ≤ k → k < 14 → fA (turnG (descG a l f x) k y) = a ∧ fL (turnG (descG a l f x) k y) = l ∧ fF (turnG (descG a l f x) k y) = bits .xor .u16 f (IntKind.u16.wrap (y * 2 ^ (8 * (k - 12)))) ∧ fX (turnG (descG a l f x) k y) = x) ∧
    (14 ≤ k → fA (turnG (descG a l f x) k y) = a ∧ fL (turnG (descG a l f x) k y) = l ∧ fF (turnG (descG a l f x) k y) = f ∧ fX (turnG (descG a l f x) k y) = bits .xor .u16 x (IntKind.u16.wrap (y * 2 ^ (8 * (k - 14))))) := by
  have gA : ∀ i, i < 8 → descG a l f x i = byteI a i := fun i hi => by unfold descG; rw [if_pos hi]
  have gL : ∀ i, i < 4 → descG a l f x (8 + i) = byteI l i := fun i hi => by unfold descG; rw [if_neg (by omega), if_pos (by omega)]; congr 1; omega
  have gF : ∀ i, i < 2 → descG a l f x (12 + i) = byteI f i := fun i hi => by unfold descG; rw [if_neg (by omega), if_neg (by omega), if_pos (by omega)]; congr 1; omega
  have gX : ∀ i, i < 2 → descG a l f x (14 + i) = byteI x i := fun i hi => by unfold descG; rw [if_neg (by omega), if_neg (by omega), if_neg (by omega)]; congr 1; omega
  have tA : ∀ i, i < 8 → turnG (descG a l f x) k y i = if i = k then bits .xor .u8 (byteI a k) y else byteI a i := fun i hi => by
    unfold turnG
    by_cases e : i = k
    · rw [if_pos e, if_pos e, gA i hi, e]
    · rw [if_neg e, if_neg e, gA i hi]
  have tL : 8 ≤ k → ∀ i, i < 4 → turnG (descG a l f x) k y (8 + i) = if i = k - 8 then bits .xor .u8 (byteI l (k - 8)) y else byteI l i := fun h8 i hi => by
    unfold turnG
    by_cases e : i = k - 8
    · rw [if_pos (by omega), if_pos e, gL i hi, e]
    · rw [if_neg (by omega), if_neg e, gL i hi]
  have tF : 12 ≤ k → ∀ i, i < 2 → turnG (descG a l f x) k y (12 + i) = if i = k - 12 then bits .xor .u8 (byteI f (k - 12)) y else byteI f i := fun h8 i hi => by
    unfold turnG
    by_cases e : i = k - 12
    · rw [if_pos (by omega), if_pos e, gF i hi, e]
    · rw [if_neg (by omega), if_neg e, gF i hi]
  have tX : 14 ≤ k → ∀ i, i < 2 → turnG (descG a l f x) k y (14 + i) = if i = k - 14 then bits .xor .u8 (byteI x (k - 14)) y else byteI x i := fun h8 i hi => by
    unfold turnG
    by_cases e : i = k - 14
    · rw [if_pos (by omega), if_pos e, gX i hi, e]
    · rw [if_neg (by omega), if_neg e, gX i hi]
  have h64 : (2 : Int) ^ (8 * 8) = 18446744073709551616 := by decide
  have h32 : (2 : Int) ^ (8 * 4) = 4294967296 := by decide
  have h16 : (2 : Int) ^ (8 * 2) = 65536 := by decide
  have pA : ¬ k < 8 → fA (turnG (descG a l f x) k y) = a := fun hn => plain_word h.a0 (by rw [h64]; have := h.a1; omega) (fun i hi => by unfold turnG; rw [if_neg (by omega), gA i hi])
  have pL : ¬ (8 ≤ k ∧ k < 12) → fL (turnG (descG a l f x) k y) = l := fun hn => plain_word h.l0 (by rw [h32]; have := h.l1; omega) (fun i hi => by unfold turnG; rw [if_neg (by omega), gL i hi])
  have pF : ¬ (12 ≤ k ∧ k < 14) → fF (turnG (descG a l f x) k y) = f := fun hn => plain_word h.f0 (by rw [h16]; have := h.f1; omega) (fun i hi => by unfold turnG; rw [if_neg (by omega), gF i hi])
  have pX : ¬ 14 ≤ k → fX (turnG (descG a l f x) k y) = x := fun hn => plain_word h.x0 (by rw [h16]; have := h.x1; omega) (fun i hi => by unfold turnG; rw [if_neg (by omega), gX i hi])
  refine ⟨fun h1 => ⟨?_, pL (by omega), pF (by omega), pX (by omega)⟩, fun h1 h2 => ⟨pA (by omega), ?_, pF (by omega), pX (by omega)⟩, fun h1 h2 => ⟨pA (by omega), pL (by omega), ?_, pX (by omega)⟩, fun h1 => ⟨pA (by omega), pL (by omega), pF (by omega), ?_⟩⟩
  · exact (turned64 ⟨h.a0, h.a1⟩ hy h1).word tA
  · exact (turned32 (k := k - 8) ⟨h.l0, h.l1⟩ hy (by omega)).word (tL h1)
  · exact (turned16 (k := k - 12) ⟨h.f0, h.f1⟩ hy (by omega)).word (tF h1)
  · exact (turned16 (k := k - 14) ⟨h.x0, h.x1⟩ hy (by omega)).word (tX h1)

end Go.Proofs.Ytkncaafjkoeijaa.DesXor
