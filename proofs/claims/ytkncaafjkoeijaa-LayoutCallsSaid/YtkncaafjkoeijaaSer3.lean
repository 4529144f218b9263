
/- Contracts of the functions of package serial, and of the document's own answers: powers of two, multiples. -/
import Derived.Test.YtkncaafjkoeijaaSer
import Derived.Test.YtkncaafjkoeijaaSerBits
namespace Go.Proofs.Ytkncaafjkoeijaa.Ser
open Go.RowKit SerBits
set_option linter.unusedVariables false
set_option linter.unusedSimpArgs false

abbrev u64 (a : Int) : Value := .int .u64 a
def U64max : Int := 18446744073709551615

/-- Is it a power of two, up to 32768? -/
def powB (n : Int) : Bool := decide (1 ≤ n ∧ n ≤ 32768) && (n.toNat &&& (n.toNat - 1) == 0)

theorem pow_some {n : Int} (h : powB n = true) : ∃ j, j ≤ 15 ∧ n = ((2 ^ j : Nat) : Int) := by
  simp only [powB, Bool.and_eq_true, decide_eq_true_eq, beq_iff_eq] at h
  obtain ⟨⟨h1, h2⟩, h3⟩ := h
  obtain ⟨k, hk⟩ := (Nat.and_sub_one_eq_zero_iff_isPowerOfTwo (by omega)).1 h3
  refine ⟨k, ?_, by omega⟩
  rcases Nat.lt_or_ge k 16 with h | h
  · omega
  · have : 2 ^ 16 ≤ 2 ^ k := Nat.pow_le_pow_right (by decide) h
    omega
theorem pow_of {j : Nat} (h : j ≤ 15) : powB ((2 ^ j : Nat) : Int) = true := by
  have h1 : 2 ^ j ≤ 2 ^ 15 := Nat.pow_le_pow_right (by decide) h
  have h2 := Nat.two_pow_pos j
  simp only [powB, Bool.and_eq_true, decide_eq_true_eq, beq_iff_eq]
  refine ⟨⟨by omega, by omega⟩, ?_⟩
  rw [Int.toNat_natCast]
  exact (Nat.and_sub_one_eq_zero_iff_isPowerOfTwo (by omega)).2 ⟨j, rfl⟩

theorem s_power_any (n : Int) (w : World) : Calls Try.prog 130 #[num n] w fun e w' => e = .returned (.bool (powB n)) ∧ w = w' := by
  by_cases h1 : 1 ≤ n
  case neg =>
    have hp : powB n = false := by simp [powB]; omega
    go_enter Try.func130, Try.ntmps130
    go_wp2
    go_ret
    exact ⟨rfl, rfl⟩
  by_cases h2 : n ≤ 32768
  case neg =>
    have hp : powB n = false := by simp [powB]; omega
    go_enter Try.func130, Try.ntmps130
    go_wp2
    go_ret
    exact ⟨rfl, rfl⟩
  obtain ⟨x, hx⟩ : ∃ x, n.toNat &&& (n - 1).toNat = x := ⟨_, rfl⟩
  have hA : bits .and .u64 n (n - 1) = (x : Int) := by rw [u64_and n (n - 1) (by omega) (by omega) (by omega) (by omega), hx]
  have hN : (n != 0) = true := by simp; omega
  have hp : powB n = (x == 0) := by
    rw [show (n - 1).toNat = n.toNat - 1 from by omega] at hx
    simp [powB, hx, h1, h2]
  have Hp := Lib.hid hp
  clear hp hx
  by_cases h0 : x = 0
  · subst h0
    go_enter Try.func130, Try.ntmps130
    go_wp2
    go_ret
    exact ⟨by rw [Hp.out]; rfl, rfl⟩
  · have hB : ((x : Int) == 0) = false := by rw [beq_eq_false_iff_ne]; omega
    go_enter Try.func130, Try.ntmps130
    go_wp2
    go_ret
    exact ⟨by rw [Hp.out]; simp [h0], rfl⟩

theorem r_power_any (n : Int) (w : World) : Calls Try.prog 131 #[num n] w fun e w' => e = .returned (.bool (powB n)) ∧ w = w' := by
  have hpow : ∀ j : Nat, j ≤ 15 → powB ((2 ^ j : Nat) : Int) = true := fun j h => pow_of h
  have Hpow := Lib.hid hpow
  have Hs : Hid (powB n = true → ∃ j, j ≤ 15 ∧ n = ((2 ^ j : Nat) : Int)) := Lib.hid pow_some
  clear hpow
  go_enter Try.func131, Try.ntmps131
  go_wp2
  go_loop [3] (fun k => ∃ j : Nat, j ≤ 16 ∧ k = .int .i64 ((2 ^ j : Nat) : Int) ∧ ∀ i, i < j → n ≠ ((2 ^ i : Nat) : Int)) (fun k => (65536 - intOf k).toNat)
  case atStart => exact ⟨0, by omega, rfl, fun i hi => by omega⟩
  case round =>
    obtain ⟨j, hj, rfl, hno⟩ := hrel
    have Hno := Lib.hid hno
    clear hno
    by_cases hj15 : j ≤ 15
    · have hb : 2 ^ j ≤ 2 ^ 15 := Nat.pow_le_pow_right (by decide) hj15
      have h0 := Nat.two_pow_pos j
      have Hq : Hid (2 ^ (j + 1) = 2 * 2 ^ j) := Lib.hid (by rw [Nat.pow_succ]; omega)
      have Hj : Hid (powB ((2 ^ j : Nat) : Int) = true) := Lib.hid (Hpow.out j hj15)
      obtain ⟨q, hq⟩ : ∃ q, 2 ^ j = q := ⟨_, rfl⟩
      have Hg := Lib.hid hq
      rw [hq] at hb h0 Hq Hj ⊢
      clear hq
      have hb1 : (q : Int) ≤ 32768 := by omega
      have hb0 : 1 ≤ (q : Int) := by omega
      clear hb h0
      by_cases he : (q : Int) = n
      · have hE : ((q : Int) == n) = true := by simpa using he
        have Hr : Hid (powB n = true) := Lib.hid (he ▸ Hj.out)
        clear he
        go_wp2
        go_ret
        exact ⟨by rw [Hr.out]; rfl, rfl⟩
      · have hE : ((q : Int) == n) = false := by simpa using he
        go_wp2
        go_round
        case rel =>
          refine ⟨j + 1, by omega, ?_, ?_⟩
          · rw [Hq.out]; go_num
          · intro i hi e
            rcases Nat.lt_succ_iff_lt_or_eq.1 hi with h | h
            · exact Hno.out i h e
            · subst h; rw [Hg.out] at e; exact he e.symm
        case measure => simp [intOf]; omega
    · obtain rfl : j = 16 := by omega
      have hp : powB n = false := by
        rcases hb : powB n with _ | _
        · rfl
        · obtain ⟨i, hi, e⟩ := Hs.out hb
          exact absurd e (Hno.out i (by omega))
      have Hp := Lib.hid hp
      clear hp
      go_wp2
      go_ret
      exact ⟨by rw [Hp.out]; rfl, rfl⟩

/-! Multiples. -/
def u64over (x : Int) : Prop := 18446744073709551616 ≤ x
def u64in (x : Int) : Prop := 0 ≤ x ∧ x ≤ 18446744073709551615

theorem wrap_over (x : Int) (h : u64over x) (h2 : x < 2 * 18446744073709551616) : IntKind.u64.wrap x = x - 18446744073709551616 := by
  unfold u64over at h; rw [IntKind.wrap_u64]; omega
theorem wrap_fits (x : Int) (h : u64in x) : IntKind.u64.wrap x = x := by
  unfold u64in at h; rw [IntKind.wrap_u64]; omega

theorem s_align_zero (n : Int) (w : World) : Calls Try.prog 117 #[u64 n, u64 0] w fun e w' => e = .returned (.tuple #[u64 0, num 2]) ∧ w = w' := by
  go_enter Try.func117, Try.ntmps117
  go_wp2
  go_returns
  exact ⟨rfl, rfl⟩
theorem s_align_bad (n t x : Int) (ht : 1 ≤ t) (htm : u64in t) (hx : x ≠ 0) (h1 : bits .and .u64 t (t - 1) = x) (w : World) : Calls Try.prog 117 #[u64 n, u64 t] w fun e w' => e = .returned (.tuple #[u64 0, num 2]) ∧ w = w' := by
  have hX : (x == 0) = false := by rw [beq_eq_false_iff_ne]; omega
  have hX' : (x != 0) = true := by simp [hx]
  have hN : (t == 0) = false := by rw [beq_eq_false_iff_ne]; omega
  have hN' : (t != 0) = true := by simp; omega
  have hT : IntKind.u64.wrap (t - 1) = t - 1 := wrap_fits _ (by unfold u64in at *; omega)
  go_enter Try.func117, Try.ntmps117
  go_wp2
  go_returns
  exact ⟨rfl, rfl⟩
theorem s_align_none (n t : Int) (hn : 0 ≤ n) (ht : 1 ≤ t) (htm : u64in t) (h1 : bits .and .u64 t (t - 1) = 0) (h2 : bits .and .u64 n (t - 1) = 0) (h3 : n % t = 0) (w : World) : Calls Try.prog 117 #[u64 n, u64 t] w fun e w' => e = .returned (.tuple #[u64 n, num 0]) ∧ w = w' := by
  have hN : (t == 0) = false := by rw [beq_eq_false_iff_ne]; omega
  have hN' : (t != 0) = true := by simp; omega
  have hT : IntKind.u64.wrap (t - 1) = t - 1 := wrap_fits _ (by unfold u64in at *; omega)
  go_enter Try.func117, Try.ntmps117
  go_wp2
  go_returns
  exact ⟨rfl, rfl⟩
theorem s_align_up (n t r : Int) (hn : 0 ≤ n) (hr0 : 0 < r) (hrn : r ≤ n) (hrt : r < t) (htm : u64in t) (hnm : u64in n) (hf : u64in (n - r + t)) (h1 : bits .and .u64 t (t - 1) = 0) (h2 : bits .and .u64 n (t - 1) = r) (h3 : n % t = r) (w : World) :
    Calls Try.prog 117 #[u64 n, u64 t] w fun e w' => e = .returned (.tuple #[u64 (n - r + t), num 0]) ∧ w = w' := by
  have hN : (t == 0) = false := by rw [beq_eq_false_iff_ne]; omega
  have hN' : (t != 0) = true := by simp; omega
  have hR : (r == 0) = false := by rw [beq_eq_false_iff_ne]; omega
  have hT : IntKind.u64.wrap (t - 1) = t - 1 := wrap_fits _ (by unfold u64in at *; omega)
  have hS : IntKind.u64.wrap (n - r) = n - r := wrap_fits _ (by unfold u64in at *; omega)
  have hU : IntKind.u64.wrap (n - r + t) = n - r + t := wrap_fits _ hf
  go_enter Try.func117, Try.ntmps117
  go_wp2
  go_returns
  exact ⟨rfl, rfl⟩
theorem s_align_over (n t r : Int) (hn : 0 ≤ n) (hr0 : 0 < r) (hrn : r ≤ n) (hrt : r < t) (htm : u64in t) (hnm : u64in n) (hf : u64over (n - r + t)) (h1 : bits .and .u64 t (t - 1) = 0) (h2 : bits .and .u64 n (t - 1) = r) (h3 : n % t = r) (w : World) :
    Calls Try.prog 117 #[u64 n, u64 t] w fun e w' => e = .returned (.tuple #[u64 0, num 2]) ∧ w = w' := by
  have hN : (t == 0) = false := by rw [beq_eq_false_iff_ne]; omega
  have hN' : (t != 0) = true := by simp; omega
  have hR : (r == 0) = false := by rw [beq_eq_false_iff_ne]; omega
  have hT : IntKind.u64.wrap (t - 1) = t - 1 := wrap_fits _ (by unfold u64in at *; omega)
  have hS : IntKind.u64.wrap (n - r) = n - r := wrap_fits _ (by unfold u64in at *; omega)
  obtain ⟨y, hy, hyn⟩ : ∃ y, n - r + t - 18446744073709551616 = y ∧ y < n := ⟨_, rfl, by unfold u64in at *; omega⟩
  have hU : IntKind.u64.wrap (n - r + t) = y := (wrap_over _ hf (by unfold u64in at *; omega)).trans hy
  clear hy
  go_enter Try.func117, Try.ntmps117
  go_wp2
  go_returns
  exact ⟨rfl, rfl⟩

theorem r_align_zero (n : Int) (w : World) : Calls Try.prog 118 #[u64 n, u64 0] w fun e w' => e = .returned (.tuple #[u64 0, num 2]) ∧ w = w' := by
  go_enter Try.func118, Try.ntmps118
  go_wp2
  go_returns
  exact ⟨rfl, rfl⟩
theorem r_align_bad (n t x : Int) (ht : 1 ≤ t) (htm : u64in t) (hx : x ≠ 0) (h1 : bits .and .u64 t (t - 1) = x) (w : World) : Calls Try.prog 118 #[u64 n, u64 t] w fun e w' => e = .returned (.tuple #[u64 0, num 2]) ∧ w = w' := by
  have hX : (x == 0) = false := by rw [beq_eq_false_iff_ne]; omega
  have hX' : (x != 0) = true := by simp [hx]
  have hN : (t == 0) = false := by rw [beq_eq_false_iff_ne]; omega
  have hN' : (t != 0) = true := by simp; omega
  have hT : IntKind.u64.wrap (t - 1) = t - 1 := wrap_fits _ (by unfold u64in at *; omega)
  go_enter Try.func118, Try.ntmps118
  go_wp2
  go_returns
  exact ⟨rfl, rfl⟩
theorem r_align_none (n t : Int) (hn : 0 ≤ n) (ht : 1 ≤ t) (htm : u64in t) (h1 : bits .and .u64 t (t - 1) = 0) (h2 : bits .and .u64 n (t - 1) = 0) (h3 : n % t = 0) (w : World) : Calls Try.prog 118 #[u64 n, u64 t] w fun e w' => e = .returned (.tuple #[u64 n, num 0]) ∧ w = w' := by
  have hN : (t == 0) = false := by rw [beq_eq_false_iff_ne]; omega
  have hN' : (t != 0) = true := by simp; omega
  have hT : IntKind.u64.wrap (t - 1) = t - 1 := wrap_fits _ (by unfold u64in at *; omega)
  go_enter Try.func118, Try.ntmps118
  go_wp2
  go_returns
  exact ⟨rfl, rfl⟩
theorem r_align_up (n t r : Int) (hn : 0 ≤ n) (hr0 : 0 < r) (hrn : r ≤ n) (hrt : r < t) (htm : u64in t) (hnm : u64in n) (hf : u64in (n - r + t)) (h1 : bits .and .u64 t (t - 1) = 0) (h2 : bits .and .u64 n (t - 1) = r) (h3 : n % t = r) (w : World) :
    Calls Try.prog 118 #[u64 n, u64 t] w fun e w' => e = .returned (.tuple #[u64 (n - r + t), num 0]) ∧ w = w' := by
  have hN : (t == 0) = false := by rw [beq_eq_false_iff_ne]; omega
  have hN' : (t != 0) = true := by simp; omega
  have hR : (r == 0) = false := by rw [beq_eq_false_iff_ne]; omega
  have hT : IntKind.u64.wrap (t - 1) = t - 1 := wrap_fits _ (by unfold u64in at *; omega)
  have hS : IntKind.u64.wrap (n - r) = n - r := wrap_fits _ (by unfold u64in at *; omega)
  have hU : IntKind.u64.wrap (n - r + t) = n - r + t := wrap_fits _ hf
  go_enter Try.func118, Try.ntmps118
  go_wp2
  go_returns
  exact ⟨rfl, rfl⟩
theorem r_align_over (n t r : Int) (hn : 0 ≤ n) (hr0 : 0 < r) (hrn : r ≤ n) (hrt : r < t) (htm : u64in t) (hnm : u64in n) (hf : u64over (n - r + t)) (h1 : bits .and .u64 t (t - 1) = 0) (h2 : bits .and .u64 n (t - 1) = r) (h3 : n % t = r) (w : World) :
    Calls Try.prog 118 #[u64 n, u64 t] w fun e w' => e = .returned (.tuple #[u64 0, num 2]) ∧ w = w' := by
  have hN : (t == 0) = false := by rw [beq_eq_false_iff_ne]; omega
  have hN' : (t != 0) = true := by simp; omega
  have hR : (r == 0) = false := by rw [beq_eq_false_iff_ne]; omega
  have hT : IntKind.u64.wrap (t - 1) = t - 1 := wrap_fits _ (by unfold u64in at *; omega)
  have hS : IntKind.u64.wrap (n - r) = n - r := wrap_fits _ (by unfold u64in at *; omega)
  obtain ⟨y, hy, hyn⟩ : ∃ y, n - r + t - 18446744073709551616 = y ∧ y < n := ⟨_, rfl, by unfold u64in at *; omega⟩
  have hU : IntKind.u64.wrap (n - r + t) = y := (wrap_over _ hf (by unfold u64in at *; omega)).trans hy
  clear hy
  go_enter Try.func118, Try.ntmps118
  go_wp2
  go_returns
  exact ⟨rfl, rfl⟩

/-- A number within a bound, made from any. -/
theorem pick_any (n m : Int) (hm : 1 ≤ m ∧ m ≤ 9223372036854775807) (hn : (Lit.int .i64 n).wf = true) (w : World) : Calls Try.prog 17 #[num n, num m] w fun e w' => e = .returned (num (n % m)) ∧ w = w' := by
  have hb := bounds_i64 hn
  obtain ⟨hm1, hm2⟩ := hm
  by_cases h0 : 0 ≤ n
  · have e : n.tmod m = n % m := Int.tmod_eq_emod_of_nonneg h0
    have h1 := Int.emod_nonneg n (b := m) (by omega)
    go_enter Try.func17, Try.ntmps17
    go_wp2
    go_ret
    exact ⟨rfl, rfl⟩
  · have h1 := Int.emod_nonneg n (b := m) (by omega)
    have h2 := Int.emod_lt_of_pos n (b := m) (by omega)
    have h3 : n.tmod m = if m ∣ n then 0 else n % m - m := by
      rw [Int.tmod_eq_emod]; simp only [h0, false_or]
      by_cases hd : m ∣ n
      · have := Int.emod_eq_zero_of_dvd hd; simp [hd]; omega
      · simp [hd]; omega
    by_cases hd : n % m = 0
    · have e : n.tmod m = 0 := by rw [h3, if_pos (Int.dvd_of_emod_eq_zero hd)]
      have Hd := Lib.hid hd
      clear h3 hd
      go_enter Try.func17, Try.ntmps17
      go_wp2
      go_ret
      exact ⟨by rw [Hd.out]; rfl, rfl⟩
    · have e : n.tmod m = n % m - m := by rw [h3, if_neg (fun h => hd (Int.emod_eq_zero_of_dvd h))]
      clear h3
      go_enter Try.func17, Try.ntmps17
      go_wp2
      go_ret
      exact ⟨by first | rfl | (simp; done) | (congr 2; simp; omega), rfl⟩

/-- A power of two as a number of 64 bits, and what its mask does. -/
def P2 (t : Int) : Prop := 1 ≤ t ∧ u64in t ∧ bits .and .u64 t (t - 1) = 0 ∧ ∀ n, u64in n → bits .and .u64 n (t - 1) = n % t
theorem p2_of (j : Nat) (h : j ≤ 63) : P2 ((2 ^ j : Nat) : Int) := by
  have h1 := Nat.two_pow_pos j
  have h2 : 2 ^ j ≤ 2 ^ 63 := Nat.pow_le_pow_right (by decide) h
  have h2' : 2 ^ j ≤ 9223372036854775808 := h2
  have hm : ∀ n : Int, u64in n → bits .and .u64 n (((2 ^ j : Nat) : Int) - 1) = n % ((2 ^ j : Nat) : Int) := by
    intro n hn
    unfold u64in at hn
    rw [u64_and n _ hn.1 (by omega) (by omega) (by omega)]
    rw [show (((2 ^ j : Nat) : Int) - 1).toNat = 2 ^ j - 1 from by omega, Nat.and_two_pow_sub_one_eq_mod, Int.natCast_emod, Int.toNat_of_nonneg hn.1]
  refine ⟨by omega, by unfold u64in; omega, ?_, hm⟩
  rw [hm _ (by unfold u64in; omega), Int.emod_self]

/-- The smallest multiple that is not below, and the error's number. -/
def alignR (n t : Int) : Int × Int := if n % t = 0 then (n, 0) else if n - n % t + t ≤ 18446744073709551615 then (n - n % t + t, 0) else (0, 2)
theorem alignR_cases (n t : Int) (hn : u64in n) (ht : 1 ≤ t) : (∃ a, alignR n t = (a, 0) ∧ n ≤ a ∧ a - n < t ∧ a % t = 0 ∧ u64in a) ∨ (alignR n t = (0, 2) ∧ n > 18446744073709551615 - (t - 1)) := by
  have h1 := Int.emod_nonneg n (b := t) (by omega)
  have h2 := Int.emod_lt_of_pos n (b := t) (by omega)
  have h3 := Int.mul_ediv_add_emod n t
  have h4 : n % t ≤ n := by
    have := Int.mul_nonneg (a := t) (b := n / t) (by omega) (Int.ediv_nonneg hn.1 (by omega)); omega
  unfold alignR u64in at *
  by_cases h : n % t = 0
  · left; exact ⟨n, by rw [if_pos h], by omega, by omega, h, hn⟩
  · rw [if_neg h]
    by_cases hb : n - n % t + t ≤ 18446744073709551615
    · left
      refine ⟨_, by rw [if_pos hb], by omega, by omega, ?_, by omega, by omega⟩
      rw [show n - n % t + t = t * (n / t + 1) by rw [Int.mul_add]; omega]
      exact Int.mul_emod_right _ _
    · right; exact ⟨by rw [if_neg hb], by omega⟩
theorem alignR_self (n t : Int) (h : n % t = 0) : alignR n t = (n, 0) := by unfold alignR; rw [if_pos h]

theorem s_align_is (n t a e : Int) (hn : u64in n) (hP : P2 t) (h : alignR n t = (a, e)) (w : World) :
    Calls Try.prog 117 #[u64 n, u64 t] w fun e' w' => e' = .returned (.tuple #[u64 a, num e]) ∧ w = w' := by
  obtain ⟨h1, h2, h3, h4⟩ := hP
  have k1 := Int.emod_nonneg n (b := t) (by omega)
  have k2 := Int.emod_lt_of_pos n (b := t) (by omega)
  have k3 := Int.mul_ediv_add_emod n t
  have k4 : n % t ≤ n := by
    have := Int.mul_nonneg (a := t) (b := n / t) (by omega) (Int.ediv_nonneg hn.1 (by omega)); omega
  have k5 := h4 n hn
  unfold alignR at h
  split at h
  · rename_i hz
    cases h
    exact s_align_none n t hn.1 h1 h2 h3 (by rw [k5, hz]) hz w
  · split at h
    · cases h
      exact s_align_up n t (n % t) hn.1 (by omega) k4 k2 h2 hn (by unfold u64in at *; omega) h3 k5 rfl w
    · cases h
      exact s_align_over n t (n % t) hn.1 (by omega) k4 k2 h2 hn (by unfold u64over u64in at *; omega) h3 k5 rfl w

theorem r_align_is (n t a e : Int) (hn : u64in n) (hP : P2 t) (h : alignR n t = (a, e)) (w : World) :
    Calls Try.prog 118 #[u64 n, u64 t] w fun e' w' => e' = .returned (.tuple #[u64 a, num e]) ∧ w = w' := by
  obtain ⟨h1, h2, h3, h4⟩ := hP
  have k1 := Int.emod_nonneg n (b := t) (by omega)
  have k2 := Int.emod_lt_of_pos n (b := t) (by omega)
  have k3 := Int.mul_ediv_add_emod n t
  have k4 : n % t ≤ n := by
    have := Int.mul_nonneg (a := t) (b := n / t) (by omega) (Int.ediv_nonneg hn.1 (by omega)); omega
  have k5 := h4 n hn
  unfold alignR at h
  split at h
  · rename_i hz
    cases h
    exact r_align_none n t hn.1 h1 h2 h3 (by rw [k5, hz]) hz w
  · split at h
    · cases h
      exact r_align_up n t (n % t) hn.1 (by omega) k4 k2 h2 hn (by unfold u64in at *; omega) h3 k5 rfl w
    · cases h
      exact r_align_over n t (n % t) hn.1 (by omega) k4 k2 h2 hn (by unfold u64over u64in at *; omega) h3 k5 rfl w

/-- Every number of 64 bits that is a power of two is one. -/
theorem p2_mk (t : Int) (ht : u64in t) (h0 : ¬ t = 0) (h : bits .and .u64 t (t - 1) = 0) : P2 t := by
  unfold u64in at ht
  rw [u64_and t (t - 1) ht.1 (by omega) (by omega) (by omega), show (t - 1).toNat = t.toNat - 1 from by omega] at h
  obtain ⟨k, hk⟩ := (Nat.and_sub_one_eq_zero_iff_isPowerOfTwo (n := t.toNat) (by omega)).1 (by omega)
  have hk63 : k ≤ 63 := by
    rcases Nat.lt_or_ge k 64 with h | h
    · omega
    · have : 2 ^ 64 ≤ 2 ^ k := Nat.pow_le_pow_right (by decide) h
      have h2 : 18446744073709551616 ≤ 2 ^ k := this
      omega
  have e : t = ((2 ^ k : Nat) : Int) := by omega
  rw [e]; exact p2_of k hk63

theorem pick_some (n m : Int) (hm : 1 ≤ m ∧ m ≤ 9223372036854775807) (hn : (Lit.int .i64 n).wf = true) (w : World) : Calls Try.prog 17 #[num n, num m] w fun e w' => ∃ r, 0 ≤ r ∧ r < m ∧ e = .returned (num r) ∧ w = w' :=
  (pick_any n m hm hn w).mono fun e w' h => ⟨n % m, Int.emod_nonneg _ (by omega), Int.emod_lt_of_pos _ (by omega), h.1, h.2⟩

end Go.Proofs.Ytkncaafjkoeijaa.Ser
