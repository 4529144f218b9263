/- The law SerialAligns: Align is the smallest result possible; powers are those obtained by doubling. For every input; no condition. -/
import Derived.Test.YtgabbefghabcaaaSer3
import Derived.Test.YtgabbefghabcaaaPos
namespace Go.Proofs.Ytgabbefghabcaaa.SerialAligns
open Go.ChangeShapes Go.WideShapes Go.ChangeAt Go.RowKit Ser
set_option linter.unusedVariables false
set_option linter.unusedSimpArgs false

theorem pow_double (n : Int) (h1 : 1 ≤ n) (h2 : n ≤ 16384) : powB (2 * n) = powB n := by
  rw [Bool.eq_iff_iff]
  constructor
  · intro h
    obtain ⟨j, hj, e⟩ := pow_some h
    match j, hj, e with
    | 0, _, e => simp at e; omega
    | k + 1, hj, e =>
      have : n = ((2 ^ k : Nat) : Int) := by rw [Nat.pow_succ] at e; omega
      rw [this]; exact pow_of (by omega)
  · intro h
    obtain ⟨j, hj, e⟩ := pow_some h
    by_cases h15 : j = 15
    · subst h15; omega
    · have : 2 * n = ((2 ^ (j + 1) : Nat) : Int) := by rw [Nat.pow_succ]; omega
      rw [this]; exact pow_of (by omega)

/-- What the multiples of a power and of the next one have to do with each other. -/
theorem align_facts (n t : Int) (hn : u64in n) (ht : 1 ≤ t) :
    (∃ a c g, alignR n t = (a, 0) ∧ n ≤ a ∧ a - n < t ∧ a % t = 0 ∧ u64in a ∧ alignR a t = (a, 0) ∧ alignR n (2 * t) = (c, g) ∧ u64in c ∧ ((g = 0 ∧ a ≤ c) ∨ g = 2)) ∨ (alignR n t = (0, 2) ∧ n > 18446744073709551615 - (t - 1)) := by
  rcases alignR_cases n t hn ht with ⟨a, e, h1, h2, h3, h4⟩ | h
  · left
    rcases alignR_cases n (2 * t) hn (by omega) with ⟨c, e', k1, k2, k3, k4⟩ | ⟨e', _⟩
    · refine ⟨a, c, 0, e, h1, h2, h3, h4, alignR_self a t h3, e', k4, Or.inl ⟨rfl, ?_⟩⟩
      obtain ⟨x, hx⟩ := Int.dvd_of_emod_eq_zero h3
      obtain ⟨y, hy⟩ := Int.dvd_of_emod_eq_zero k3
      rcases Int.lt_or_le c a with hlt | hle
      · exfalso
        have hy' : c = t * (2 * y) := by rw [hy, Int.mul_comm 2 t, Int.mul_assoc]
        have : t * (2 * y) < t * x := by omega
        have hxy : 2 * y < x := Int.lt_of_mul_lt_mul_left this (by omega)
        have : t * (2 * y + 1) ≤ t * x := Int.mul_le_mul_of_nonneg_left (by omega) (by omega)
        rw [Int.mul_add] at this
        omega
      · exact hle
    · exact ⟨a, 0, 2, e, h1, h2, h3, h4, alignR_self a t h3, e', ⟨by decide, by decide⟩, Or.inr rfl⟩
  · exact Or.inr h

theorem walk (a0 a1 a2 : Int) (w0 : (Lit.int .u64 a0).wf = true) (w1 : (Lit.int .i64 a1).wf = true) (w2 : (Lit.int .i64 a2).wf = true) (w : World) :
    Calls Try.prog 8 #[u64 a0, num a1, num a2] w (Lib.True1 w.heap.size w) := by
  unfold Lib.True1
  have hn : u64in a0 := bounds_u64 w0
  have hb0 : Below w.heap.size w w := Below.refl _ _
  clear w0
  go_enter Try.func8, Try.ntmps8
  go_wp2_with fail
  refine (lives_any _).mono ?_
  rintro e W1 ⟨rfl, hg1⟩
  have hb1 : Below w.heap.size w W1 := (show Below w.heap.size w _ by go_grown).trans (hg1.mono (by go_size))
  obtain ⟨hc1, hf1⟩ := bcell hg1
  have hs1 := hg1.size
  try simp only [World.size_alloc, World.size_setCell, World.size_drew] at hs1
  clear hg1 hc1 hf1
  go_wp2_with fail
  refine (pick_some a1 63 (by omega) w1 _).mono ?_
  rintro e w' ⟨j, hk1, hk2, rfl, rfl⟩
  go_wp2_with fail
  obtain ⟨t, ht⟩ : ∃ t, IntKind.u64.wrap (2 ^ j.toNat) = t := ⟨_, rfl⟩
  obtain ⟨q, hq⟩ : ∃ q : Nat, 2 ^ j.toNat = q := ⟨_, rfl⟩
  have hq1 : q ≤ 4611686018427387904 := by
    rw [← hq]; exact Nat.pow_le_pow_right (n := 2) (by decide) (show j.toNat ≤ 62 by omega)
  have ht' : t = (q : Int) := by
    rw [← ht, show (2 : Int) ^ j.toNat = (q : Int) by rw [← hq]; simp, wrap_fits]
    unfold u64in; omega
  have ht1 : t ≤ 4611686018427387904 := by omega
  have hP : P2 t := by rw [ht', ← hq]; exact p2_of j.toNat (by omega)
  have hP2 : P2 (2 * t) := by
    have := p2_of (j.toNat + 1) (by omega)
    rw [Nat.pow_succ, hq] at this
    rw [ht', show 2 * (q : Int) = ((q * 2 : Nat) : Int) by omega]
    exact this
  rw [ht]
  have ht0 : 1 ≤ t := hP.1
  clear ht ht' hq hq1
  have hw : IntKind.u64.wrap (2 * t) = 2 * t := wrap_fits _ hP2.2.1
  have hw2 : IntKind.u64.wrap (t - 1) = t - 1 := wrap_fits _ (by unfold u64in; omega)
  rcases align_facts a0 t hn ht0 with ⟨a, c, g, e1, h1, h2, h3, h4, e2, e3, h5, h6⟩ | ⟨e1, h1⟩
  · have E2 := Lib.hid e2
    have E3 := Lib.hid e3
    have hw3 : IntKind.u64.wrap (a - a0) = a - a0 := wrap_fits _ (by unfold u64in at *; omega)
    have htm : a.tmod t = 0 := by rw [Int.tmod_eq_emod_of_nonneg h4.1, h3]
    clear e2 e3
    rcases h6 with ⟨rfl, h7⟩ | rfl
    all_goals
      refine (s_align_is a0 t a 0 hn hP e1 _).mono ?_
      rintro e w' ⟨rfl, rfl⟩
      go_wp2_with fail
      refine (s_align_is a t a 0 h4 hP E2.out _).mono ?_
      rintro e w' ⟨rfl, rfl⟩
      go_wp2_with fail
      refine (s_align_is a0 (2 * t) c _ hn hP2 E3.out _).mono ?_
      rintro e w' ⟨rfl, rfl⟩
      go_wp2_with fail
      refine (pick_some a2 16384 (by omega) w2 _).mono ?_
      rintro e w' ⟨k, hs1, hs2, rfl, rfl⟩
      go_wp2_with fail
      have hpd := pow_double (1 + k) (by omega) (by omega)
      refine (s_power_any (1 + k) _).mono ?_
      rintro e w' ⟨rfl, rfl⟩
      go_wp2_with fail
      refine (s_power_any (2 * (1 + k)) _).mono ?_
      rintro e w' ⟨rfl, rfl⟩
      go_wp2_with fail
      go_ret
      exact ⟨rfl, by go_grown⟩
  · skip
    refine (s_align_is a0 t 0 2 hn hP e1 _).mono ?_
    rintro e w' ⟨rfl, rfl⟩
    go_wp2_with fail
    go_ret
    exact ⟨rfl, by go_grown⟩

set_option maxRecDepth 100000 in
theorem lifted (os : Os) (started : os.Started) (H : Type) (enc : TypeId × Value → H) :
    ReturnsInHanded {} Try.checked os 8 .any (Rows.serialAlignsSpec.pre6 enc Try.prog Try.f8 Rows.serialAlignsRow.domain false) (Rows.serialAlignsSpec.post enc Try.prog Try.f8 false true false false) := by
  refine Lib.lifted (C := Try.checked) (tb := 4) H enc Lib.own started (by kernel_rfl) Try.func8
    (ChangeSpec.witness6 (enc := enc) (C := Try.checked) false ⟨#[], #[.int .u64 0, .int .i64 0, .int .i64 0], []⟩ 8 (by kernel_rfl) (by kernel_rfl) (by kernel_rfl) (by kernel_rfl))
    Lib.laidOut (Lib.readable_of (by kernel_rfl)) rfl Try.underlying4 rfl ?_ ?_
  · intro ds h
    match ds, h with
    | [_, _, _], _ => exact ⟨rfl, rfl, rfl⟩
  · intro W base args ds p hval hA hfz hlt
    rw [Try.params8] at hval
    have hA' : DataW.TrodAll enc Try.prog W 0 (fun _ => true) true Try.f8.params.toList args.toList ds p := hA
    rw [Try.params8] at hA'
    obtain ⟨v0, vs0, d0, ds0, p0, q0, hargs, rfl, rfl, h0, r0⟩ := trodAll_cons hA'
    obtain ⟨v1, vs1, d1, ds1, p1, q1, rfl, rfl, rfl, h1, r1⟩ := trodAll_cons r0
    obtain ⟨v2, vs2, d2, ds2, p2, q2, rfl, rfl, rfl, h2, r2⟩ := trodAll_cons r1
    obtain ⟨rfl, rfl, rfl⟩ := trodAll_nil r2
    obtain rfl : args = #[v0, v1, v2] := by cases args; simp_all
    obtain ⟨a0, rfl, rfl, rfl, w0⟩ := open_int Try.underlying29 (hval 0 29 v0 rfl rfl) h0
    obtain ⟨a1, rfl, rfl, rfl, w1⟩ := open_int Try.underlying3 (hval 1 3 v1 rfl rfl) h1
    obtain ⟨a2, rfl, rfl, rfl, w2⟩ := open_int Try.underlying3 (hval 2 3 v2 rfl rfl) h2
    exact walk a0 a1 a2 w0 w1 w2 W

theorem over : Rows.serialAlignsRow.holds Try.pinned (OpenSpec.ofChange Rows.serialAlignsSpec) :=
  OpenClaim.holds_of_wide 8 Try.f8 rfl rfl rfl rfl rfl rfl rfl ⟨rfl, rfl, rfl, rfl, rfl⟩ rfl rfl rfl rfl rfl (by kernel_rfl) Try.func8 (by kernel_rfl)
    (of_decide_eq_true (by kernel_rfl)) (by unfold Func.isWrapper; first | (rw [if_pos (by decide +kernel)]; kernel_rfl) | (rw [if_neg (by decide +kernel)]; exact ⟨rfl, rfl⟩))
    (fun os started H enc _ => lifted os started H enc)

/-- The statement. -/
theorem proved : Rows.SerialAlignsSaid :=
  over

end Go.Proofs.Ytgabbefghabcaaa.SerialAligns
