/- The law FeatBest: the best set is accepted, and no accepted set contained in both has more. For every input; the package's rules as the program's text lays them. -/
import Derived.Test.YtkncaafjkoeijaaDoorFeLives
import Derived.Test.YtkncaafjkoeijaaDoorFeBest
import Derived.Test.YtkncaafjkoeijaaDoorCards
import Derived.Test.YtkncaafjkoeijaaDoorPick
namespace Go.Proofs.YtkncaafjkoeijaaDoor.FeatBest
open Go.ChangeShapes Go.WideShapes Go.ChangeAt Go.RowKit Fe
set_option linter.unusedVariables false
set_option linter.unusedSimpArgs false

theorem of_u64 {a : Int} (h : (Lit.int .u64 a).wf = true) : ∃ X, a = nu X := nu_of (by have := bounds_u64 h; omega)
theorem kinds {r : Int} (h0 : 0 ≤ r) (h3 : r < 3) : 1 + r = 1 ∨ 1 + r = 2 ∨ 1 + r = 3 := by omega

set_option maxRecDepth 100000 in
set_option maxHeartbeats 4000000 in
theorem walk_no (n r k : Int) (hkr : 1 + r = k) (hk1 : 1 ≤ k) (hk3 : k ≤ 3) (O W D : Set64) (w : World) (hP : ∀ W, Calls Tryd.prog 17 #[num n, num 3] W fun e w' => e = .returned (num r) ∧ W = w') (ad : Addr) (cap : Nat) (hR : Rules w ad cap) (hno : bestOk k O = false) :
    Calls Tryd.prog 5 #[num n, st O, st W, st D] w (Lib.True1 w.heap.size w) := by
  unfold Lib.True1
  have hb0 : Below w.heap.size w w := Below.refl _ _
  have HR := Lib.hid hR
  have HP := Lib.hid hP
  have HN := Lib.hid hno
  have hz : (O &&& v1 == 0#64) = true := by
    have hk : k = 1 ∨ k = 2 ∨ k = 3 := by omega
    unfold bestOk at hno
    rw [all_ne hk] at hno
    have h32 : O.getLsbD 32 = false := hno
    rw [v1_one, and_one0 O 32 (by decide), h32]; rfl
  have b1 := b_and O v1
  have c1 : (nu (O &&& v1) == 0) = true := by rw [nu_beq0, hz]
  clear hR hP hno hz
  go_enter Tryd.func5, Tryd.ntmps5
  go_wp2_with fail
  refine (lives_any ad cap _ (HR.out.below (by go_grown))).mono ?_
  rintro eE W1 ⟨rfl, hg1⟩
  have hb1 : Below w.heap.size w W1 := (show Below w.heap.size w _ by go_grown).trans (hg1.mono (by first | omega | go_size))
  obtain ⟨hc1, hf1⟩ := bcell hg1
  have hs1 := hg1.size
  try simp only [World.size_alloc, World.size_setCell, World.size_drew] at hs1
  clear hg1 hc1 hf1
  go_wp2_with fail
  refine (HP.out _).mono ?_
  rintro e w' ⟨rfl, rfl⟩
  go_wp2_with fail
  refine (bit_is 32 v1 (by decide) (by decide) (by decide) _).mono ?_
  rintro eE W3 ⟨rfl, hg3⟩
  have hb3 : Below w.heap.size w W3 := (show Below w.heap.size w _ by go_grown).trans (hg3.mono (by first | omega | go_size))
  obtain ⟨hc3, hf3⟩ := bcell hg3
  have hs3 := hg3.size
  try simp only [World.size_alloc, World.size_setCell, World.size_drew] at hs3
  clear hg3 hc3 hf3
  go_wp2_with fail
  refine (best_no k O W HN.out ad cap _ (HR.out.below (by go_grown))).mono ?_
  rintro eE W4 ⟨rfl, hg4⟩
  have hb4 : Below w.heap.size w W4 := (show Below w.heap.size w _ by go_grown).trans (hg4.mono (by first | omega | go_size))
  obtain ⟨hc4, hf4⟩ := bcell hg4
  have hs4 := hg4.size
  try simp only [World.size_alloc, World.size_setCell, World.size_drew] at hs4
  clear hg4 hc4 hf4
  go_wp2_with fail
  go_ret
  exact ⟨rfl, by go_grown⟩

set_option maxRecDepth 100000 in
set_option maxHeartbeats 4000000 in
theorem walk_yes (n r k : Int) (hkr : 1 + r = k) (hk1 : 1 ≤ k) (hk3 : k ≤ 3) (O W D : Set64) (w : World) (hP : ∀ W, Calls Tryd.prog 17 #[num n, num 3] W fun e w' => e = .returned (num r) ∧ W = w') (ad : Addr) (cap : Nat) (hR : Rules w ad cap) (hyes : bestOk k O = true) :
    Calls Tryd.prog 5 #[num n, st O, st W, st D] w (Lib.True1 w.heap.size w) := by
  unfold Lib.True1
  have hb0 : Below w.heap.size w w := Below.refl _ _
  have hk : k = 1 ∨ k = 2 ∨ k = 3 := by omega
  have HR := Lib.hid hR
  have HP := Lib.hid hP
  have HY := Lib.hid hyes
  obtain ⟨B, hB⟩ : ∃ B, bestF k O W = B := ⟨_, rfl⟩
  have HB := Lib.hid hB
  have A1 := Lib.hid (hB ▸ best_accepted (W := W) hk hyes)
  have w1 := hB ▸ best_wanted k O W
  have A2 := Lib.hid (show bestF k B W = B from hB ▸ best_again (W := W) hk hyes)
  have Y2 := Lib.hid (show bestOk k B = true from bestOk_of hk (hB ▸ (best_cl (W := W) hk hyes).v))
  obtain ⟨D1, hD1⟩ : ∃ D1, D &&& O &&& (W ||| v1) &&& allF k = D1 := ⟨_, rfl⟩
  obtain ⟨N, hN⟩ : ∃ N, needsF k D1 = N := ⟨_, rfl⟩
  have HN := Lib.hid hN
  obtain ⟨D2, hD2⟩ : ∃ D2, D1 ||| N = D2 := ⟨_, rfl⟩
  have most := fun (ha : acceptB k O D2 = true) (hw : within D2 (W ||| v1) = true) => hB ▸ best_most hk ha hw
  have b1 := b_and D O
  have b2 := b_or W v1
  have b3 := b_and (D &&& O) (W ||| v1)
  have b4 : bits .and .u64 (nu (D &&& O &&& (W ||| v1))) (nu (allF k)) = nu D1 := by rw [b_and, hD1]
  have b5 : bits .or .u64 (nu D1) (nu N) = nu D2 := by rw [b_or, hD2]
  have b6 := b_andNot D2 (W ||| v1)
  have b7 := b_andNot D2 B
  have b8 := b_andNot B (W ||| v1)
  have c1 : (nu (B &&& ~~~(W ||| v1)) == 0) = true := by rw [nu_beq0]; exact w1
  have c2 : (nu B == nu B) = true := beq_self_eq_true _
  clear hR hP hyes hB hN hD1 hD2 hk w1
  cases ha : acceptB k O D2 with
  | false =>
    have HA := Lib.hid ha
    clear ha most
    go_enter Tryd.func5, Tryd.ntmps5
    go_wp2_with fail
    refine (lives_any ad cap _ (HR.out.below (by go_grown))).mono ?_
    rintro eE W1 ⟨rfl, hg1⟩
    have hb1 : Below w.heap.size w W1 := (show Below w.heap.size w _ by go_grown).trans (hg1.mono (by first | omega | go_size))
    obtain ⟨hc1, hf1⟩ := bcell hg1
    have hs1 := hg1.size
    try simp only [World.size_alloc, World.size_setCell, World.size_drew] at hs1
    clear hg1 hc1 hf1
    go_wp2_with fail
    refine (HP.out _).mono ?_
    rintro e w' ⟨rfl, rfl⟩
    go_wp2_with fail
    refine (bit_is 32 v1 (by decide) (by decide) (by decide) _).mono ?_
    rintro eE W3 ⟨rfl, hg3⟩
    have hb3 : Below w.heap.size w W3 := (show Below w.heap.size w _ by go_grown).trans (hg3.mono (by first | omega | go_size))
    obtain ⟨hc3, hf3⟩ := bcell hg3
    have hs3 := hg3.size
    try simp only [World.size_alloc, World.size_setCell, World.size_drew] at hs3
    clear hg3 hc3 hf3
    go_wp2_with fail
    refine (best_is k O W B HB.out HY.out ad cap _ (HR.out.below (by go_grown))).mono ?_
    rintro eE W4 ⟨rfl, hg4⟩
    have hb4 : Below w.heap.size w W4 := (show Below w.heap.size w _ by go_grown).trans (hg4.mono (by first | omega | go_size))
    obtain ⟨hc4, hf4⟩ := bcell hg4
    have hs4 := hg4.size
    try simp only [World.size_alloc, World.size_setCell, World.size_drew] at hs4
    clear hg4 hc4 hf4
    go_wp2_with fail
    refine (all_any k _).mono ?_
    rintro eE W5 ⟨rfl, hg5⟩
    have hb5 : Below w.heap.size w W5 := (show Below w.heap.size w _ by go_grown).trans (hg5.mono (by first | omega | go_size))
    obtain ⟨hc5, hf5⟩ := bcell hg5
    have hs5 := hg5.size
    try simp only [World.size_alloc, World.size_setCell, World.size_drew] at hs5
    clear hg5 hc5 hf5
    go_wp2_with fail
    refine (needs_is k D1 N HN.out ad cap _ (HR.out.below (by go_grown))).mono ?_
    rintro eE W6 ⟨rfl, hg6⟩
    have hb6 : Below w.heap.size w W6 := (show Below w.heap.size w _ by go_grown).trans (hg6.mono (by first | omega | go_size))
    obtain ⟨hc6, hf6⟩ := bcell hg6
    have hs6 := hg6.size
    try simp only [World.size_alloc, World.size_setCell, World.size_drew] at hs6
    clear hg6 hc6 hf6
    go_wp2_with fail
    refine (accept_is k O D2 false HA.out ad cap _ (HR.out.below (by go_grown))).mono ?_
    rintro eE W7 ⟨rfl, hg7⟩
    have hb7 : Below w.heap.size w W7 := (show Below w.heap.size w _ by go_grown).trans (hg7.mono (by first | omega | go_size))
    obtain ⟨hc7, hf7⟩ := bcell hg7
    have hs7 := hg7.size
    try simp only [World.size_alloc, World.size_setCell, World.size_drew] at hs7
    clear hg7 hc7 hf7
    go_wp2_with fail
    refine (best_is k B W B A2.out Y2.out ad cap _ (HR.out.below (by go_grown))).mono ?_
    rintro eE W8 ⟨rfl, hg8⟩
    have hb8 : Below w.heap.size w W8 := (show Below w.heap.size w _ by go_grown).trans (hg8.mono (by first | omega | go_size))
    obtain ⟨hc8, hf8⟩ := bcell hg8
    have hs8 := hg8.size
    try simp only [World.size_alloc, World.size_setCell, World.size_drew] at hs8
    clear hg8 hc8 hf8
    go_wp2_with fail
    refine (accept_is k O B true A1.out ad cap _ (HR.out.below (by go_grown))).mono ?_
    rintro eE W9 ⟨rfl, hg9⟩
    have hb9 : Below w.heap.size w W9 := (show Below w.heap.size w _ by go_grown).trans (hg9.mono (by first | omega | go_size))
    obtain ⟨hc9, hf9⟩ := bcell hg9
    have hs9 := hg9.size
    try simp only [World.size_alloc, World.size_setCell, World.size_drew] at hs9
    clear hg9 hc9 hf9
    go_wp2_with fail
    go_ret
    exact ⟨rfl, by go_grown⟩
  | true =>
    have HA := Lib.hid ha
    cases hw : within D2 (W ||| v1) with
    | false =>
      have c3 : (nu (D2 &&& ~~~(W ||| v1)) == 0) = false := by rw [nu_beq0]; exact hw
      clear ha most hw
      go_enter Tryd.func5, Tryd.ntmps5
      go_wp2_with fail
      refine (lives_any ad cap _ (HR.out.below (by go_grown))).mono ?_
      rintro eE W1 ⟨rfl, hg1⟩
      have hb1 : Below w.heap.size w W1 := (show Below w.heap.size w _ by go_grown).trans (hg1.mono (by first | omega | go_size))
      obtain ⟨hc1, hf1⟩ := bcell hg1
      have hs1 := hg1.size
      try simp only [World.size_alloc, World.size_setCell, World.size_drew] at hs1
      clear hg1 hc1 hf1
      go_wp2_with fail
      refine (HP.out _).mono ?_
      rintro e w' ⟨rfl, rfl⟩
      go_wp2_with fail
      refine (bit_is 32 v1 (by decide) (by decide) (by decide) _).mono ?_
      rintro eE W3 ⟨rfl, hg3⟩
      have hb3 : Below w.heap.size w W3 := (show Below w.heap.size w _ by go_grown).trans (hg3.mono (by first | omega | go_size))
      obtain ⟨hc3, hf3⟩ := bcell hg3
      have hs3 := hg3.size
      try simp only [World.size_alloc, World.size_setCell, World.size_drew] at hs3
      clear hg3 hc3 hf3
      go_wp2_with fail
      refine (best_is k O W B HB.out HY.out ad cap _ (HR.out.below (by go_grown))).mono ?_
      rintro eE W4 ⟨rfl, hg4⟩
      have hb4 : Below w.heap.size w W4 := (show Below w.heap.size w _ by go_grown).trans (hg4.mono (by first | omega | go_size))
      obtain ⟨hc4, hf4⟩ := bcell hg4
      have hs4 := hg4.size
      try simp only [World.size_alloc, World.size_setCell, World.size_drew] at hs4
      clear hg4 hc4 hf4
      go_wp2_with fail
      refine (all_any k _).mono ?_
      rintro eE W5 ⟨rfl, hg5⟩
      have hb5 : Below w.heap.size w W5 := (show Below w.heap.size w _ by go_grown).trans (hg5.mono (by first | omega | go_size))
      obtain ⟨hc5, hf5⟩ := bcell hg5
      have hs5 := hg5.size
      try simp only [World.size_alloc, World.size_setCell, World.size_drew] at hs5
      clear hg5 hc5 hf5
      go_wp2_with fail
      refine (needs_is k D1 N HN.out ad cap _ (HR.out.below (by go_grown))).mono ?_
      rintro eE W6 ⟨rfl, hg6⟩
      have hb6 : Below w.heap.size w W6 := (show Below w.heap.size w _ by go_grown).trans (hg6.mono (by first | omega | go_size))
      obtain ⟨hc6, hf6⟩ := bcell hg6
      have hs6 := hg6.size
      try simp only [World.size_alloc, World.size_setCell, World.size_drew] at hs6
      clear hg6 hc6 hf6
      go_wp2_with fail
      refine (accept_is k O D2 true HA.out ad cap _ (HR.out.below (by go_grown))).mono ?_
      rintro eE W7 ⟨rfl, hg7⟩
      have hb7 : Below w.heap.size w W7 := (show Below w.heap.size w _ by go_grown).trans (hg7.mono (by first | omega | go_size))
      obtain ⟨hc7, hf7⟩ := bcell hg7
      have hs7 := hg7.size
      try simp only [World.size_alloc, World.size_setCell, World.size_drew] at hs7
      clear hg7 hc7 hf7
      go_wp2_with fail
      refine (best_is k B W B A2.out Y2.out ad cap _ (HR.out.below (by go_grown))).mono ?_
      rintro eE W8 ⟨rfl, hg8⟩
      have hb8 : Below w.heap.size w W8 := (show Below w.heap.size w _ by go_grown).trans (hg8.mono (by first | omega | go_size))
      obtain ⟨hc8, hf8⟩ := bcell hg8
      have hs8 := hg8.size
      try simp only [World.size_alloc, World.size_setCell, World.size_drew] at hs8
      clear hg8 hc8 hf8
      go_wp2_with fail
      refine (accept_is k O B true A1.out ad cap _ (HR.out.below (by go_grown))).mono ?_
      rintro eE W9 ⟨rfl, hg9⟩
      have hb9 : Below w.heap.size w W9 := (show Below w.heap.size w _ by go_grown).trans (hg9.mono (by first | omega | go_size))
      obtain ⟨hc9, hf9⟩ := bcell hg9
      have hs9 := hg9.size
      try simp only [World.size_alloc, World.size_setCell, World.size_drew] at hs9
      clear hg9 hc9 hf9
      go_wp2_with fail
      go_ret
      exact ⟨rfl, by go_grown⟩
    | true =>
      have c3 : (nu (D2 &&& ~~~(W ||| v1)) == 0) = true := by rw [nu_beq0]; exact hw
      have c4 : (nu (D2 &&& ~~~B) != 0) = false := by rw [bne, nu_beq0, show (D2 &&& ~~~B == 0#64) = true from most ha hw]; rfl
      clear ha most hw
      go_enter Tryd.func5, Tryd.ntmps5
      go_wp2_with fail
      refine (lives_any ad cap _ (HR.out.below (by go_grown))).mono ?_
      rintro eE W1 ⟨rfl, hg1⟩
      have hb1 : Below w.heap.size w W1 := (show Below w.heap.size w _ by go_grown).trans (hg1.mono (by first | omega | go_size))
      obtain ⟨hc1, hf1⟩ := bcell hg1
      have hs1 := hg1.size
      try simp only [World.size_alloc, World.size_setCell, World.size_drew] at hs1
      clear hg1 hc1 hf1
      go_wp2_with fail
      refine (HP.out _).mono ?_
      rintro e w' ⟨rfl, rfl⟩
      go_wp2_with fail
      refine (bit_is 32 v1 (by decide) (by decide) (by decide) _).mono ?_
      rintro eE W3 ⟨rfl, hg3⟩
      have hb3 : Below w.heap.size w W3 := (show Below w.heap.size w _ by go_grown).trans (hg3.mono (by first | omega | go_size))
      obtain ⟨hc3, hf3⟩ := bcell hg3
      have hs3 := hg3.size
      try simp only [World.size_alloc, World.size_setCell, World.size_drew] at hs3
      clear hg3 hc3 hf3
      go_wp2_with fail
      refine (best_is k O W B HB.out HY.out ad cap _ (HR.out.below (by go_grown))).mono ?_
      rintro eE W4 ⟨rfl, hg4⟩
      have hb4 : Below w.heap.size w W4 := (show Below w.heap.size w _ by go_grown).trans (hg4.mono (by first | omega | go_size))
      obtain ⟨hc4, hf4⟩ := bcell hg4
      have hs4 := hg4.size
      try simp only [World.size_alloc, World.size_setCell, World.size_drew] at hs4
      clear hg4 hc4 hf4
      go_wp2_with fail
      refine (all_any k _).mono ?_
      rintro eE W5 ⟨rfl, hg5⟩
      have hb5 : Below w.heap.size w W5 := (show Below w.heap.size w _ by go_grown).trans (hg5.mono (by first | omega | go_size))
      obtain ⟨hc5, hf5⟩ := bcell hg5
      have hs5 := hg5.size
      try simp only [World.size_alloc, World.size_setCell, World.size_drew] at hs5
      clear hg5 hc5 hf5
      go_wp2_with fail
      refine (needs_is k D1 N HN.out ad cap _ (HR.out.below (by go_grown))).mono ?_
      rintro eE W6 ⟨rfl, hg6⟩
      have hb6 : Below w.heap.size w W6 := (show Below w.heap.size w _ by go_grown).trans (hg6.mono (by first | omega | go_size))
      obtain ⟨hc6, hf6⟩ := bcell hg6
      have hs6 := hg6.size
      try simp only [World.size_alloc, World.size_setCell, World.size_drew] at hs6
      clear hg6 hc6 hf6
      go_wp2_with fail
      refine (accept_is k O D2 true HA.out ad cap _ (HR.out.below (by go_grown))).mono ?_
      rintro eE W7 ⟨rfl, hg7⟩
      have hb7 : Below w.heap.size w W7 := (show Below w.heap.size w _ by go_grown).trans (hg7.mono (by first | omega | go_size))
      obtain ⟨hc7, hf7⟩ := bcell hg7
      have hs7 := hg7.size
      try simp only [World.size_alloc, World.size_setCell, World.size_drew] at hs7
      clear hg7 hc7 hf7
      go_wp2_with fail
      refine (best_is k B W B A2.out Y2.out ad cap _ (HR.out.below (by go_grown))).mono ?_
      rintro eE W8 ⟨rfl, hg8⟩
      have hb8 : Below w.heap.size w W8 := (show Below w.heap.size w _ by go_grown).trans (hg8.mono (by first | omega | go_size))
      obtain ⟨hc8, hf8⟩ := bcell hg8
      have hs8 := hg8.size
      try simp only [World.size_alloc, World.size_setCell, World.size_drew] at hs8
      clear hg8 hc8 hf8
      go_wp2_with fail
      refine (accept_is k O B true A1.out ad cap _ (HR.out.below (by go_grown))).mono ?_
      rintro eE W9 ⟨rfl, hg9⟩
      have hb9 : Below w.heap.size w W9 := (show Below w.heap.size w _ by go_grown).trans (hg9.mono (by first | omega | go_size))
      obtain ⟨hc9, hf9⟩ := bcell hg9
      have hs9 := hg9.size
      try simp only [World.size_alloc, World.size_setCell, World.size_drew] at hs9
      clear hg9 hc9 hf9
      go_wp2_with fail
      go_ret
      exact ⟨rfl, by go_grown⟩

theorem walk (n a b c : Int) (hn : (Lit.int .i64 n).wf = true) (ha : (Lit.int .u64 a).wf = true) (hb : (Lit.int .u64 b).wf = true) (hc : (Lit.int .u64 c).wf = true) (w : World) (hG : Door.Given w) : Calls Tryd.prog 5 #[.int .i64 n, .int .u64 a, .int .u64 b, .int .u64 c] w (Lib.True1 w.heap.size w) := by
  obtain ⟨A, rfl⟩ := of_u64 ha
  obtain ⟨B, rfl⟩ := of_u64 hb
  obtain ⟨C, rfl⟩ := of_u64 hc
  obtain ⟨ad, cap, hR⟩ := hG
  have hP : ∀ W, Calls Tryd.prog 17 #[num n, num 3] W fun e w' => e = .returned (num (n % 3)) ∧ W = w' := fun W => Pick.pick_any n 3 (by decide) hn W
  cases h : bestOk (1 + n % 3) A
  · exact walk_no n (n % 3) _ rfl (by omega) (by omega) A B C w hP ad cap hR h
  · exact walk_yes n (n % 3) _ rfl (by omega) (by omega) A B C w hP ad cap hR h

set_option maxRecDepth 100000 in
theorem lifted (os : Os) (started : os.Started) (H : Type) (enc : TypeId × Value → H) :
    ReturnsInHanded {} Tryd.checked os 5 .any (fun w args => (Rows.featBestSpec.pre enc Tryd.prog Tryd.f5 [] false w args ∧ laidMetH Tryd.prog Door.laidL w) ∧ sizedMet enc Tryd.prog Tryd.f5 (OpenSpec.ofChange Rows.featBestSpec) false w args) (Rows.featBestSpec.post enc Tryd.prog Tryd.f5 false true false false) := by
  refine LibD.lifted (C := Tryd.checked) (tb := 4) (laid := Door.laidL) H enc Lib.own started (by kernel_rfl) Tryd.func5
    (ChangeSpec.witness_shaped (enc := enc) (C := Tryd.checked) (os := os) (X := fun w _ => laidMetH Tryd.prog Door.laidL w) false (World.doorLaid Tryd.prog 400 os) #[.int .i64 0, .int .u64 0, .int .u64 0, .int .u64 0] 8 rfl (World.shaped_of_RefB (by kernel_rfl) (by kernel_rfl)) (by kernel_rfl) (by kernel_rfl) (by kernel_rfl) (Door.met os _))
    Lib.laidOut (Lib.readable_of (by kernel_rfl)) rfl Tryd.underlying4 rfl ?_ ?_
  · intro ds h
    match ds, h with
    | [_, _, _, _], _ => exact ⟨rfl, rfl, rfl⟩
  · intro W base args ds p hval hA hfz hlt hL
    rw [Tryd.params5] at hval
    have hA' : DataW.TrodAll enc Tryd.prog W 0 (fun _ => true) true Tryd.f5.params.toList args.toList ds p := hA
    rw [Tryd.params5] at hA'
    obtain ⟨v0, vs0, d0, ds0, p0, q0, hargs, rfl, rfl, h0, r0⟩ := trodAll_cons hA'
    obtain ⟨v1, vs1, d1, ds1, p1, q1, rfl, rfl, rfl, h1, r1⟩ := trodAll_cons r0
    obtain ⟨v2, vs2, d2, ds2, p2, q2, rfl, rfl, rfl, h2, r2⟩ := trodAll_cons r1
    obtain ⟨v3, vs3, d3, ds3, p3, q3, rfl, rfl, rfl, h3, r3⟩ := trodAll_cons r2
    obtain ⟨rfl, rfl, rfl⟩ := trodAll_nil r3
    obtain rfl : args = #[v0, v1, v2, v3] := by cases args; simp_all
    obtain ⟨a0, rfl, rfl, rfl, w0⟩ := open_int Tryd.underlying3 (hval 0 3 v0 rfl rfl) h0
    obtain ⟨a1, rfl, rfl, rfl, w1⟩ := open_int Tryd.underlying22 (hval 1 22 v1 rfl rfl) h1
    obtain ⟨a2, rfl, rfl, rfl, w2⟩ := open_int Tryd.underlying22 (hval 2 22 v2 rfl rfl) h2
    obtain ⟨a3, rfl, rfl, rfl, w3⟩ := open_int Tryd.underlying22 (hval 3 22 v3 rfl rfl) h3
    exact walk a0 a1 a2 a3 w0 w1 w2 w3 W (Door.given hL)

theorem over : Rows.featBestRow.holds Tryd.pinned (OpenSpec.ofChange Rows.featBestSpec) :=
  OpenClaim.holds_of_wide 5 Tryd.f5 rfl rfl rfl rfl rfl rfl rfl ⟨rfl, rfl, rfl, rfl, rfl⟩ rfl rfl rfl rfl rfl (by kernel_rfl) Tryd.func5 (by kernel_rfl)
    (of_decide_eq_true (by kernel_rfl)) (by unfold Func.isWrapper; first | (rw [if_pos (by decide +kernel)]; kernel_rfl) | (rw [if_neg (by decide +kernel)]; exact ⟨rfl, rfl⟩))
    (fun os started H enc _ => lifted os started H enc)

/-- The statement. -/
theorem proved : Rows.FeatBestCardSaid :=
  Claim7.holds_tied_plain_at .later [] Rows.featBestCard.laidKinds true Rows.featBestCard.stood.harness false
    over (fun _ h => by cases h) (by kernel_rfl) (fun _ h => by cases h) featBest_row_tie rfl ⟨rfl, rfl⟩ (by kernel_rfl) rfl
    (fun f fn hf hfn => by
      obtain rfl : f = 5 := Option.some.inj ((show Tryd.prog.funcNamed "dumbwaiter/dumbwaiterlaw06.FeatBest" = some 5 by kernel_rfl).symm.trans hf) |>.symm
      obtain rfl : fn = Tryd.f5 := (Option.some.inj (Tryd.func5.symm.trans hfn)).symm
      exact ⟨by kernel_rfl, LibD.no_stand (by kernel_rfl)⟩)
    (by kernel_rfl)

end Go.Proofs.YtkncaafjkoeijaaDoor.FeatBest
