
/- Package feat: contracts of its functions. -/
import Derived.Test.YtmmgcmbniidieaaDoorFeMath
import Derived.Test.YtmmgcmbniidieaaDoorHeld
import Derived.Test.YtmmgcmbniidieaaDoorSetN
namespace Go.Proofs.YtmmgcmbniidieaaDoor.Fe
open Go.RowKit Rw
set_option linter.unusedSimpArgs false
set_option linter.unusedVariables false

abbrev num (n : Int) : Value := .int .i64 n

theorem all_any (k : Int) (w : World) : Calls Tryd.prog 31 #[num k] w (Gives w.heap.size w (st (allF k))) := by
  unfold Gives
  by_cases h1 : k = 1
  · subst h1
    go_enter Tryd.func31, Tryd.ntmps31
    go_wp2
    go_ret
    exact ⟨rfl, by go_grown⟩
  · by_cases h2 : k = 2
    · subst h2
      go_enter Tryd.func31, Tryd.ntmps31
      go_wp2
      go_ret
      exact ⟨rfl, by go_grown⟩
    · by_cases h3 : k = 3
      · subst h3
        go_enter Tryd.func31, Tryd.ntmps31
        go_wp2
        go_ret
        exact ⟨rfl, by go_grown⟩
      · have e : allF k = 0#64 := by unfold allF; rw [if_neg h1, if_neg h2, if_neg h3]
        have d1 : (k == 1) = false := by simpa using h1
        have d2 : (k == 2) = false := by simpa using h2
        have d3 : (k == 3) = false := by simpa using h3
        rw [e]
        clear h1 h2 h3 e
        go_enter Tryd.func31, Tryd.ntmps31
        go_wp2
        go_ret
        exact ⟨rfl, by go_grown⟩
theorem within_any (X Y : Set64) (w : World) : Calls Tryd.prog 45 #[st X, st Y] w (Gives w.heap.size w (.bool (within X Y))) := by
  unfold Gives within
  have e1 := b_andNot X Y
  have c := nu_beq0 (X &&& ~~~Y)
  go_enter Tryd.func45, Tryd.ntmps45
  go_wp2
  go_ret
  exact ⟨rfl, by go_grown⟩
theorem known_is (k : Int) (X : Set64) (b : Bool) (h : knownB k X = b) (w : World) : Calls Tryd.prog 42 #[num k, st X] w (Gives w.heap.size w (.bool b)) := by
  unfold Gives
  have hb0 : Below w.heap.size w w := Below.refl _ _
  cases hz : (allF k == 0#64) with
  | true =>
    have c : (nu (allF k) != 0) = false := by rw [bne, nu_beq0, hz]; rfl
    obtain rfl : b = false := by rw [← h]; unfold knownB; rw [hz]; rfl
    clear h hz
    go_enter Tryd.func42, Tryd.ntmps42
    go_wp2_with fail
    refine (all_any k _).mono ?_
    rintro eE W1 ⟨rfl, hg1⟩
    have hb1 : Below w.heap.size w W1 := (show Below w.heap.size w _ by go_grown).trans (hg1.mono (by first | omega | go_size))
    obtain ⟨hc1, hf1⟩ := bcell hg1
    have hs1 := hg1.size
    try simp only [World.size_alloc, World.size_setCell, World.size_drew] at hs1
    clear hg1 hc1 hf1
    go_wp2_with fail
    go_ret
    exact ⟨rfl, by go_grown⟩
  | false =>
    have c : (nu (allF k) != 0) = true := by rw [bne, nu_beq0, hz]; rfl
    obtain rfl : b = within X (allF k) := by rw [← h]; unfold knownB; rw [hz]; rfl
    clear h hz
    go_enter Tryd.func42, Tryd.ntmps42
    go_wp2_with fail
    refine (all_any k _).mono ?_
    rintro eE W1 ⟨rfl, hg1⟩
    have hb1 : Below w.heap.size w W1 := (show Below w.heap.size w _ by go_grown).trans (hg1.mono (by first | omega | go_size))
    obtain ⟨hc1, hf1⟩ := bcell hg1
    have hs1 := hg1.size
    try simp only [World.size_alloc, World.size_setCell, World.size_drew] at hs1
    clear hg1 hc1 hf1
    go_wp2_with fail
    refine (within_any _ _ _).mono ?_
    rintro eE W2 ⟨rfl, hg2⟩
    have hb2 : Below w.heap.size w W2 := (show Below w.heap.size w _ by go_grown).trans (hg2.mono (by first | omega | go_size))
    obtain ⟨hc2, hf2⟩ := bcell hg2
    have hs2 := hg2.size
    try simp only [World.size_alloc, World.size_setCell, World.size_drew] at hs2
    clear hg2 hc2 hf2
    go_wp2_with fail
    go_ret
    exact ⟨rfl, by go_grown⟩
theorem needs_is (k : Int) (X : Set64) (N : Set64) (h : needsF k X = N) (ad : Addr) (cap : Nat) (w : World) (hR : Rules w ad cap) : Calls Tryd.prog 46 #[num k, st X] w (Gives w.heap.size w (st N)) := by
  unfold Gives
  have hb0 : Below w.heap.size w w := Below.refl _ _
  have HR := Lib.hid hR
  clear hR
  cases hz : knownB k X with
  | false =>
    obtain rfl : N = 0#64 := by rw [← h]; unfold needsF; rw [hz]; rfl
    have HZ := Lib.hid hz
    clear h hz
    go_enter Tryd.func46, Tryd.ntmps46
    go_wp2_with fail
    refine (known_is k X false HZ.out _).mono ?_
    rintro eE W1 ⟨rfl, hg1⟩
    have hb1 : Below w.heap.size w W1 := (show Below w.heap.size w _ by go_grown).trans (hg1.mono (by first | omega | go_size))
    obtain ⟨hc1, hf1⟩ := bcell hg1
    have hs1 := hg1.size
    try simp only [World.size_alloc, World.size_setCell, World.size_drew] at hs1
    clear hg1 hc1 hf1
    go_wp2_with fail
    go_ret
    exact ⟨rfl, by go_grown⟩
  | true =>
    obtain rfl : N = pass addF (X ||| v1) 5 &&& ~~~X := by rw [← h]; unfold needsF; rw [hz]; rfl
    have HZ := Lib.hid hz
    have e1 : bits .or .u64 (nu X) 4294967296 = nu (X ||| v1) := b_or X v1
    have e2 := b_andNot (pass addF (X ||| v1) 5) X
    clear h hz
    go_enter Tryd.func46, Tryd.ntmps46
    go_wp2_with fail
    refine (known_is k X true HZ.out _).mono ?_
    rintro eE W1 ⟨rfl, hg1⟩
    have hb1 : Below w.heap.size w W1 := (show Below w.heap.size w _ by go_grown).trans (hg1.mono (by first | omega | go_size))
    obtain ⟨hc1, hf1⟩ := bcell hg1
    have hs1 := hg1.size
    try simp only [World.size_alloc, World.size_setCell, World.size_drew] at hs1
    clear hg1 hc1 hf1
    go_wp2_with fail
    refine (settle_add _ ad cap _ (HR.out.below (by go_grown)) (add_idem _)).mono ?_
    rintro eE W2 ⟨rfl, hg2⟩
    have hb2 : Below w.heap.size w W2 := (show Below w.heap.size w _ by go_grown).trans (hg2.mono (by first | omega | go_size))
    obtain ⟨hc2, hf2⟩ := bcell hg2
    have hs2 := hg2.size
    try simp only [World.size_alloc, World.size_setCell, World.size_drew] at hs2
    clear hg2 hc2 hf2
    go_wp2_with fail
    go_ret
    exact ⟨rfl, by go_grown⟩
theorem closed_is (k : Int) (X : Set64) (b : Bool) (h : closedB k X = b) (ad : Addr) (cap : Nat) (w : World) (hR : Rules w ad cap) : Calls Tryd.prog 44 #[num k, st X] w (Gives w.heap.size w (.bool b)) := by
  unfold Gives
  have hb0 : Below w.heap.size w w := Below.refl _ _
  have HR := Lib.hid hR
  clear hR
  cases hz : knownB k X with
  | false =>
    obtain rfl : b = false := by rw [← h]; unfold closedB; rw [hz]; rfl
    have HZ := Lib.hid hz
    clear h hz
    go_enter Tryd.func44, Tryd.ntmps44
    go_wp2_with fail
    refine (known_is k X false HZ.out _).mono ?_
    rintro eE W1 ⟨rfl, hg1⟩
    have hb1 : Below w.heap.size w W1 := (show Below w.heap.size w _ by go_grown).trans (hg1.mono (by first | omega | go_size))
    obtain ⟨hc1, hf1⟩ := bcell hg1
    have hs1 := hg1.size
    try simp only [World.size_alloc, World.size_setCell, World.size_drew] at hs1
    clear hg1 hc1 hf1
    go_wp2_with fail
    go_ret
    exact ⟨rfl, by go_grown⟩
  | true =>
    obtain rfl : b = (needsF k X == 0#64) := by rw [← h]; unfold closedB; rw [hz]; rfl
    have HZ := Lib.hid hz
    have c := nu_beq0 (needsF k X)
    clear h hz
    go_enter Tryd.func44, Tryd.ntmps44
    go_wp2_with fail
    refine (known_is k X true HZ.out _).mono ?_
    rintro eE W1 ⟨rfl, hg1⟩
    have hb1 : Below w.heap.size w W1 := (show Below w.heap.size w _ by go_grown).trans (hg1.mono (by first | omega | go_size))
    obtain ⟨hc1, hf1⟩ := bcell hg1
    have hs1 := hg1.size
    try simp only [World.size_alloc, World.size_setCell, World.size_drew] at hs1
    clear hg1 hc1 hf1
    go_wp2_with fail
    refine (needs_is k X _ rfl ad cap _ (HR.out.below (by go_grown))).mono ?_
    rintro eE W2 ⟨rfl, hg2⟩
    have hb2 : Below w.heap.size w W2 := (show Below w.heap.size w _ by go_grown).trans (hg2.mono (by first | omega | go_size))
    obtain ⟨hc2, hf2⟩ := bcell hg2
    have hs2 := hg2.size
    try simp only [World.size_alloc, World.size_setCell, World.size_drew] at hs2
    clear hg2 hc2 hf2
    go_wp2_with fail
    go_ret
    exact ⟨rfl, by go_grown⟩
theorem accept_is (k : Int) (O X : Set64) (b : Bool) (h : acceptB k O X = b) (ad : Addr) (cap : Nat) (w : World) (hR : Rules w ad cap) : Calls Tryd.prog 38 #[num k, st O, st X] w (Gives w.heap.size w (.bool b)) := by
  unfold Gives
  have hb0 : Below w.heap.size w w := Below.refl _ _
  have HR := Lib.hid hR
  clear hR
  cases hz : closedB k X with
  | false =>
    obtain rfl : b = false := by rw [← h]; unfold acceptB; rw [hz]; rfl
    have HZ := Lib.hid hz
    clear h hz
    go_enter Tryd.func38, Tryd.ntmps38
    go_wp2_with fail
    refine (closed_is k X false HZ.out ad cap _ (HR.out.below (by go_grown))).mono ?_
    rintro eE W1 ⟨rfl, hg1⟩
    have hb1 : Below w.heap.size w W1 := (show Below w.heap.size w _ by go_grown).trans (hg1.mono (by first | omega | go_size))
    obtain ⟨hc1, hf1⟩ := bcell hg1
    have hs1 := hg1.size
    try simp only [World.size_alloc, World.size_setCell, World.size_drew] at hs1
    clear hg1 hc1 hf1
    go_wp2_with fail
    go_ret
    exact ⟨rfl, by go_grown⟩
  | true =>
    obtain rfl : b = within X O := by rw [← h]; unfold acceptB; rw [hz]; rfl
    have HZ := Lib.hid hz
    clear h hz
    go_enter Tryd.func38, Tryd.ntmps38
    go_wp2_with fail
    refine (closed_is k X true HZ.out ad cap _ (HR.out.below (by go_grown))).mono ?_
    rintro eE W1 ⟨rfl, hg1⟩
    have hb1 : Below w.heap.size w W1 := (show Below w.heap.size w _ by go_grown).trans (hg1.mono (by first | omega | go_size))
    obtain ⟨hc1, hf1⟩ := bcell hg1
    have hs1 := hg1.size
    try simp only [World.size_alloc, World.size_setCell, World.size_drew] at hs1
    clear hg1 hc1 hf1
    go_wp2_with fail
    refine (within_any _ _ _).mono ?_
    rintro eE W2 ⟨rfl, hg2⟩
    have hb2 : Below w.heap.size w W2 := (show Below w.heap.size w _ by go_grown).trans (hg2.mono (by first | omega | go_size))
    obtain ⟨hc2, hf2⟩ := bcell hg2
    have hs2 := hg2.size
    try simp only [World.size_alloc, World.size_setCell, World.size_drew] at hs2
    clear hg2 hc2 hf2
    go_wp2_with fail
    go_ret
    exact ⟨rfl, by go_grown⟩
theorem isBit_is (n : Int) (b : Bool) (h : (decide (0 ≤ n) && decide (n < 64)) = b) (w : World) : Calls Tryd.prog 43 #[num n] w (Gives w.heap.size w (.bool b)) := by
  unfold Gives
  by_cases h1 : 0 ≤ n
  · by_cases h2 : n < 64
    · obtain rfl : b = true := by rw [← h]; simp [h1, h2]
      clear h
      go_enter Tryd.func43, Tryd.ntmps43
      go_wp2
      go_ret
      exact ⟨rfl, by go_grown⟩
    · obtain rfl : b = false := by rw [← h]; simp [h1, h2]
      have d : decide (n < 64) = false := decide_eq_false h2
      clear h
      go_enter Tryd.func43, Tryd.ntmps43
      go_wp2
      go_ret
      exact ⟨rfl, by go_grown⟩
  · obtain rfl : b = false := by rw [← h]; simp [h1]
    have d : decide (0 ≤ n) = false := decide_eq_false h1
    clear h
    go_enter Tryd.func43, Tryd.ntmps43
    go_wp2
    go_ret
    exact ⟨rfl, by go_grown⟩
theorem shl_one {n : Int} (h1 : 0 ≤ n) (h2 : n < 64) : IntKind.u64.wrap ((2 : Int) ^ n.toNat) = nu (one n.toNat) := by
  obtain ⟨k, rfl⟩ := Int.eq_ofNat_of_zero_le h1
  have hk : k < 64 := by omega
  have e : nu (one ((k : Nat) : Int).toNat) = ((2 ^ k : Nat) : Int) := by
    unfold nu one
    rw [Int.toNat_natCast, BitVec.toNat_twoPow, Nat.mod_eq_of_lt (Nat.pow_lt_pow_right (by decide) hk)]
  rw [← wrap_nu, e, Int.toNat_natCast]
  congr 1
theorem has_is (X : Set64) (n : Int) (b : Bool) (h : hasB X n = b) (w : World) : Calls Tryd.prog 32 #[st X, num n] w (Gives w.heap.size w (.bool b)) := by
  unfold Gives
  have hb0 : Below w.heap.size w w := Below.refl _ _
  cases hz : (decide (0 ≤ n) && decide (n < 64)) with
  | false =>
    obtain rfl : b = false := by rw [← h]; unfold hasB; rw [hz]; rfl
    have HZ := Lib.hid hz
    clear h hz
    go_enter Tryd.func32, Tryd.ntmps32
    go_wp2_with fail
    refine (isBit_is n false HZ.out _).mono ?_
    rintro eE W1 ⟨rfl, hg1⟩
    have hb1 : Below w.heap.size w W1 := (show Below w.heap.size w _ by go_grown).trans (hg1.mono (by first | omega | go_size))
    obtain ⟨hc1, hf1⟩ := bcell hg1
    have hs1 := hg1.size
    try simp only [World.size_alloc, World.size_setCell, World.size_drew] at hs1
    clear hg1 hc1 hf1
    go_wp2_with fail
    go_ret
    exact ⟨rfl, by go_grown⟩
  | true =>
    obtain rfl : b = X.getLsbD n.toNat := by rw [← h]; unfold hasB; rw [hz]; rfl
    have hn : 0 ≤ n ∧ n < 64 := by simpa using hz
    have HZ := Lib.hid hz
    obtain ⟨h1, h2⟩ := hn
    have e := shl_one h1 h2
    have e2 := b_and X (one n.toNat)
    have e3 : (nu (X &&& one n.toNat) != 0) = X.getLsbD n.toNat := by rw [bne, nu_beq0, and_one0 X _ (by omega), Bool.not_not]
    clear h hz
    go_enter Tryd.func32, Tryd.ntmps32
    go_wp2_with fail
    refine (isBit_is n true HZ.out _).mono ?_
    rintro eE W1 ⟨rfl, hg1⟩
    have hb1 : Below w.heap.size w W1 := (show Below w.heap.size w _ by go_grown).trans (hg1.mono (by first | omega | go_size))
    obtain ⟨hc1, hf1⟩ := bcell hg1
    have hs1 := hg1.size
    try simp only [World.size_alloc, World.size_setCell, World.size_drew] at hs1
    clear hg1 hc1 hf1
    go_wp2_with fail
    go_ret
    exact ⟨rfl, by go_grown⟩
theorem best_no (k : Int) (O W : Set64) (h : bestOk k O = false) (ad : Addr) (cap : Nat) (w : World) (hR : Rules w ad cap) : Calls Tryd.prog 23 #[num k, st O, st W] w (Gives w.heap.size w (.tuple #[st 0#64, num 2])) := by
  unfold Gives
  have hb0 : Below w.heap.size w w := Below.refl _ _
  clear hR
  cases hz : (allF k == 0#64) with
  | true =>
    have c : (nu (allF k) == 0) = true := by rw [nu_beq0, hz]
    clear h hz
    go_enter Tryd.func23, Tryd.ntmps23
    go_wp2_with fail
    refine (all_any k _).mono ?_
    rintro eE W1 ⟨rfl, hg1⟩
    have hb1 : Below w.heap.size w W1 := (show Below w.heap.size w _ by go_grown).trans (hg1.mono (by first | omega | go_size))
    obtain ⟨hc1, hf1⟩ := bcell hg1
    have hs1 := hg1.size
    try simp only [World.size_alloc, World.size_setCell, World.size_drew] at hs1
    clear hg1 hc1 hf1
    go_wp2_with fail
    go_returns
    exact ⟨rfl, by go_grown⟩
  | false =>
    have c : (nu (allF k) == 0) = false := by rw [nu_beq0, hz]
    have HH := Lib.hid (show hasB O 32 = false by unfold bestOk at h; rw [hz] at h; exact h)
    clear h hz
    go_enter Tryd.func23, Tryd.ntmps23
    go_wp2_with fail
    refine (all_any k _).mono ?_
    rintro eE W1 ⟨rfl, hg1⟩
    have hb1 : Below w.heap.size w W1 := (show Below w.heap.size w _ by go_grown).trans (hg1.mono (by first | omega | go_size))
    obtain ⟨hc1, hf1⟩ := bcell hg1
    have hs1 := hg1.size
    try simp only [World.size_alloc, World.size_setCell, World.size_drew] at hs1
    clear hg1 hc1 hf1
    go_wp2_with fail
    refine (has_is O 32 false HH.out _).mono ?_
    rintro eE W2 ⟨rfl, hg2⟩
    have hb2 : Below w.heap.size w W2 := (show Below w.heap.size w _ by go_grown).trans (hg2.mono (by first | omega | go_size))
    obtain ⟨hc2, hf2⟩ := bcell hg2
    have hs2 := hg2.size
    try simp only [World.size_alloc, World.size_setCell, World.size_drew] at hs2
    clear hg2 hc2 hf2
    go_wp2_with fail
    go_returns
    exact ⟨rfl, by go_grown⟩
theorem best_is (k : Int) (O W B : Set64) (hB : bestF k O W = B) (h : bestOk k O = true) (ad : Addr) (cap : Nat) (w : World) (hR : Rules w ad cap) : Calls Tryd.prog 23 #[num k, st O, st W] w (Gives w.heap.size w (.tuple #[st B, num 0])) := by
  subst hB
  unfold Gives
  have hb0 : Below w.heap.size w w := Below.refl _ _
  have HR := Lib.hid hR
  clear hR
  have hz : (allF k == 0#64) = false := by
    unfold bestOk at h
    cases e : (allF k == 0#64)
    · rfl
    · rw [e] at h; cases h
  have c : (nu (allF k) == 0) = false := by rw [nu_beq0, hz]
  have HH := Lib.hid (show hasB O 32 = true by unfold bestOk at h; rw [hz] at h; exact h)
  have e1 : bits .or .u64 (nu W) 4294967296 = nu (W ||| v1) := b_or W v1
  have e2 := b_and O (W ||| v1)
  have e3 := b_and (O &&& (W ||| v1)) (allF k)
  clear h hz
  go_enter Tryd.func23, Tryd.ntmps23
  go_wp2_with fail
  refine (all_any k _).mono ?_
  rintro eE W1 ⟨rfl, hg1⟩
  have hb1 : Below w.heap.size w W1 := (show Below w.heap.size w _ by go_grown).trans (hg1.mono (by first | omega | go_size))
  obtain ⟨hc1, hf1⟩ := bcell hg1
  have hs1 := hg1.size
  try simp only [World.size_alloc, World.size_setCell, World.size_drew] at hs1
  clear hg1 hc1 hf1
  go_wp2_with fail
  refine (has_is O 32 true HH.out _).mono ?_
  rintro eE W2 ⟨rfl, hg2⟩
  have hb2 : Below w.heap.size w W2 := (show Below w.heap.size w _ by go_grown).trans (hg2.mono (by first | omega | go_size))
  obtain ⟨hc2, hf2⟩ := bcell hg2
  have hs2 := hg2.size
  try simp only [World.size_alloc, World.size_setCell, World.size_drew] at hs2
  clear hg2 hc2 hf2
  go_wp2_with fail
  refine (settle_drop _ ad cap _ (HR.out.below (by go_grown)) (drop_idem _)).mono ?_
  rintro eE W3 ⟨rfl, hg3⟩
  have hb3 : Below w.heap.size w W3 := (show Below w.heap.size w _ by go_grown).trans (hg3.mono (by first | omega | go_size))
  obtain ⟨hc3, hf3⟩ := bcell hg3
  have hs3 := hg3.size
  try simp only [World.size_alloc, World.size_setCell, World.size_drew] at hs3
  clear hg3 hc3 hf3
  go_wp2_with fail
  go_returns
  exact ⟨rfl, by go_grown⟩

/-- A set with more bits. -/
def orAll (X : Set64) (f : Nat → Nat) : Nat → Set64
  | 0 => X
  | k + 1 => orAll X f k ||| one (f k)
theorem orAll_bit (X : Set64) (f : Nat → Nat) (i : Nat) (hi : i < 64) : ∀ n, (orAll X f n).getLsbD i = (X.getLsbD i || (List.range n).any fun j => decide (i = f j))
  | 0 => by simp [orAll]
  | n + 1 => by
    unfold orAll
    rw [BitVec.getLsbD_or, orAll_bit X f i hi n, one_bit _ _ hi, List.range_succ, List.any_append]
    simp [Bool.or_assoc]

end Go.Proofs.YtmmgcmbniidieaaDoor.Fe
