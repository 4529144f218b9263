/- The document's features (dumbwaiterref06): bits, All, Has, needs, Known. -/
import Derived.Test.YtmmgcmbniidieaaDoorFeC
namespace Go.Proofs.YtmmgcmbniidieaaDoor.StR
open Go.RowKit Rw Fe
set_option linter.unusedSimpArgs false
set_option linter.unusedVariables false

/-- A set of bits. -/
def orR (f : Nat → Nat) : Nat → Set64
  | 0 => 0#64
  | k + 1 => orR f k ||| one (f k)
def Cells (w : World) (b : Nat) : Nat → List Nat → Prop
  | _, [] => True
  | o, x :: l => w.cell? ⟨b, o, none⟩ = some (num ((x : Nat) : Int)) ∧ Cells w b (o + 1) l
theorem cells_at {w : World} {b : Nat} : ∀ (xs : List Nat) (o : Nat), Cells w b o xs → ∀ j, j < xs.length → w.cell? ⟨b, o + j, none⟩ = some (num ((xs.getD j 0 : Nat) : Int))
  | [], _, _, j, hj => absurd hj (by simp)
  | x :: l, o, ⟨h, _⟩, 0, _ => h
  | x :: l, o, ⟨_, h⟩, j + 1, hj => by
    have := cells_at l (o + 1) h j (by simpa using hj)
    rw [show o + (j + 1) = o + 1 + j by omega, this]; rfl
theorem row_of {w : World} {b : Nat} (xs : List Nat) (h : Cells w b 0 xs) (hb : b < w.heap.size) : IsRow w w.heap.size 1 (some ⟨b, 0, none⟩) xs.length (fun j => num ((xs.getD j 0 : Nat) : Int)) := fun _ =>
  ⟨_, rfl, hb, fun j hj => by
    have e : (⟨b, 0, none⟩ : Addr).add j = ⟨b, j, none⟩ := by unfold Addr.add; split <;> simp_all
    rw [e]
    have := cells_at xs 0 h j (by omega)
    rwa [Nat.zero_add] at this⟩

set_option maxRecDepth 100000 in
theorem bits_is (A : Option Addr) (n c : Nat) (f : Nat → Nat) (R : Set64) (w : World) (hn : n ≤ 1000) (hf : ∀ j, j < n → f j < 64) (h : IsRow w w.heap.size 1 A n (fun j => num ((f j : Nat) : Int))) (hR : orR f n = R) : Calls Tryd.prog 25 #[.slice A n c] w (Gives w.heap.size w (st R)) := by
  subst hR
  unfold Gives
  have HR := Lib.hid h
  have HF := Lib.hid hf
  clear h hf
  go_enter Tryd.func25, Tryd.ntmps25
  go_wp2_with fail
  go_loopw [3, 4] (fun s i wr => ∃ k : Nat, k ≤ n ∧ i = num k ∧ s = st (orR f k) ∧ Below w.heap.size w wr) (fun s i wr => n - (intOf i).toNat)
  case atStart => exact ⟨0, by omega, rfl, rfl, Below.refl _ _⟩
  case round =>
    obtain ⟨k, hk, rfl, rfl, hb⟩ := hrel
    by_cases hlt : k < n
    · obtain ⟨ad, rfl, hbl, hcell⟩ := HR.out (by omega)
      have c0 : wr.cell? (ad.add k) = some (num (f k)) := (hb.cell (p := ad.add k) (by rw [block_of_add]; exact hbl)).trans (by rw [← hcell k (by omega)])
      have hk64 := HF.out k hlt
      have e := shl_one (n := (f k : Int)) (by omega) (by omega)
      have e1 := b_or (orR f k) (one (f k))
      have e2 : ((f k : Nat) : Int).toNat = f k := rfl
      have e3 : IntKind.u64.wrap ((f k : Nat) : Int) = ((f k : Nat) : Int) := by rw [IntKind.wrap_u64]; omega
      rw [e2] at e
      clear hcell
      go_wp2_with fail
      go_roundw
      case rel => exact ⟨k + 1, by omega, by go_num, rfl, by go_grown⟩
      case measure => simp [intOf]; omega
    · obtain rfl : k = n := by omega
      go_wp2_with fail
      go_ret
      exact ⟨rfl, hb⟩

theorem bit_of (X : Set64) (n : Nat) : ((nu X / 2 ^ n).tmod 2 == 1) = X.getLsbD n := by
  have h0 : nu X / 2 ^ n = ((X.toNat / 2 ^ n : Nat) : Int) := by unfold nu; push_cast; rfl
  have h1 : X.getLsbD n = decide (X.toNat / 2 ^ n % 2 = 1) := by
    show X.toNat.testBit n = _
    exact Nat.testBit_eq_decide_div_mod_eq
  rw [h1, h0]
  generalize X.toNat / 2 ^ n = y
  rw [Int.tmod_eq_emod_of_nonneg (by omega)]
  by_cases h : y % 2 = 1
  · rw [decide_eq_true h, beq_iff_eq]; omega
  · rw [decide_eq_false h, beq_eq_false_iff_ne]; omega
theorem has_is (X : Set64) (n : Nat) (hn : n < 64) (b : Bool) (h : X.getLsbD n = b) (w : World) : Calls Tryd.prog 27 #[st X, num ((n : Nat) : Int)] w (Gives w.heap.size w (.bool b)) := by
  subst h
  unfold Gives
  have e3 : IntKind.u64.wrap ((n : Nat) : Int) = ((n : Nat) : Int) := by rw [IntKind.wrap_u64]; omega
  have e4 := bit_of X n
  have d1 : decide (((n : Nat) : Int) < 64) = true := by simp; omega
  have d2 : decide (0 ≤ ((n : Nat) : Int)) = true := by simp
  go_enter Tryd.func27, Tryd.ntmps27
  go_wp2
  go_ret
  exact ⟨rfl, by go_grown⟩

def needF (k : Int) (b : Nat) : Set64 := if k = 1 then (if b = 18 ∨ b = 19 ∨ b = 22 then one 17 else if b = 23 then one 17 ||| one 5 else 0#64) else 0#64
theorem all_any (k : Int) (w : World) : Calls Tryd.prog 17 #[num k] w (Gives w.heap.size w (st (allF k))) := by
  unfold Gives
  have hb0 : Below w.heap.size w w := Below.refl _ _
  by_cases h1 : k = 1
  · subst h1
    have e : bits .or .u64 (nu (1156151508992#64)) (nu (13598755#64)) = nu (1156165107747#64) := b_or _ _
    go_enter Tryd.func17, Tryd.ntmps17
    go_wp2_with fail
    refine (bits_is _ 6 6 (fun j => [28, 29, 32, 34, 35, 40].getD j 0) (1156151508992#64) _ (by decide) (by decide) (row_of [28, 29, 32, 34, 35, 40] ⟨by go_cell, by go_cell, by go_cell, by go_cell, by go_cell, by go_cell, trivial⟩ (by go_size)) (by decide +kernel)).mono ?_
    rintro eE W1 ⟨rfl, hg1⟩
    have hb1 : Below w.heap.size w W1 := (show Below w.heap.size w _ by go_grown).trans (hg1.mono (by first | omega | go_size))
    obtain ⟨hc1, hf1⟩ := bcell hg1
    have hs1 := hg1.size
    try simp only [World.size_alloc, World.size_setCell, World.size_drew] at hs1
    clear hg1 hc1 hf1
    go_wp2_with fail
    refine (bits_is _ 10 10 (fun j => [0, 1, 5, 15, 16, 17, 18, 19, 22, 23].getD j 0) (13598755#64) _ (by decide) (by decide) (row_of [0, 1, 5, 15, 16, 17, 18, 19, 22, 23] ⟨by go_cell, by go_cell, by go_cell, by go_cell, by go_cell, by go_cell, by go_cell, by go_cell, by go_cell, by go_cell, trivial⟩ (by go_size)) (by decide +kernel)).mono ?_
    rintro eE W2 ⟨rfl, hg2⟩
    have hb2 : Below w.heap.size w W2 := (show Below w.heap.size w _ by go_grown).trans (hg2.mono (by first | omega | go_size))
    obtain ⟨hc2, hf2⟩ := bcell hg2
    have hs2 := hg2.size
    try simp only [World.size_alloc, World.size_setCell, World.size_drew] at hs2
    clear hg2 hc2 hf2
    go_wp2_with fail
    go_ret
    exact ⟨rfl, by go_grown⟩
  · by_cases h2 : k = 2
    · subst h2
      have e : bits .or .u64 (nu (1156151508992#64)) (nu (29216#64)) = nu (1156151538208#64) := b_or _ _
      go_enter Tryd.func17, Tryd.ntmps17
      go_wp2_with fail
      refine (bits_is _ 6 6 (fun j => [28, 29, 32, 34, 35, 40].getD j 0) (1156151508992#64) _ (by decide) (by decide) (row_of [28, 29, 32, 34, 35, 40] ⟨by go_cell, by go_cell, by go_cell, by go_cell, by go_cell, by go_cell, trivial⟩ (by go_size)) (by decide +kernel)).mono ?_
      rintro eE W1 ⟨rfl, hg1⟩
      have hb1 : Below w.heap.size w W1 := (show Below w.heap.size w _ by go_grown).trans (hg1.mono (by first | omega | go_size))
      obtain ⟨hc1, hf1⟩ := bcell hg1
      have hs1 := hg1.size
      try simp only [World.size_alloc, World.size_setCell, World.size_drew] at hs1
      clear hg1 hc1 hf1
      go_wp2_with fail
      refine (bits_is _ 5 5 (fun j => [5, 9, 12, 13, 14].getD j 0) (29216#64) _ (by decide) (by decide) (row_of [5, 9, 12, 13, 14] ⟨by go_cell, by go_cell, by go_cell, by go_cell, by go_cell, trivial⟩ (by go_size)) (by decide +kernel)).mono ?_
      rintro eE W2 ⟨rfl, hg2⟩
      have hb2 : Below w.heap.size w W2 := (show Below w.heap.size w _ by go_grown).trans (hg2.mono (by first | omega | go_size))
      obtain ⟨hc2, hf2⟩ := bcell hg2
      have hs2 := hg2.size
      try simp only [World.size_alloc, World.size_setCell, World.size_drew] at hs2
      clear hg2 hc2 hf2
      go_wp2_with fail
      go_ret
      exact ⟨rfl, by go_grown⟩
    · by_cases h3 : k = 3
      · subst h3
        have e : bits .or .u64 (nu (1156151508992#64)) (nu (7#64)) = nu (1156151508999#64) := b_or _ _
        go_enter Tryd.func17, Tryd.ntmps17
        go_wp2_with fail
        refine (bits_is _ 6 6 (fun j => [28, 29, 32, 34, 35, 40].getD j 0) (1156151508992#64) _ (by decide) (by decide) (row_of [28, 29, 32, 34, 35, 40] ⟨by go_cell, by go_cell, by go_cell, by go_cell, by go_cell, by go_cell, trivial⟩ (by go_size)) (by decide +kernel)).mono ?_
        rintro eE W1 ⟨rfl, hg1⟩
        have hb1 : Below w.heap.size w W1 := (show Below w.heap.size w _ by go_grown).trans (hg1.mono (by first | omega | go_size))
        obtain ⟨hc1, hf1⟩ := bcell hg1
        have hs1 := hg1.size
        try simp only [World.size_alloc, World.size_setCell, World.size_drew] at hs1
        clear hg1 hc1 hf1
        go_wp2_with fail
        refine (bits_is _ 3 3 (fun j => [0, 1, 2].getD j 0) (7#64) _ (by decide) (by decide) (row_of [0, 1, 2] ⟨by go_cell, by go_cell, by go_cell, trivial⟩ (by go_size)) (by decide +kernel)).mono ?_
        rintro eE W2 ⟨rfl, hg2⟩
        have hb2 : Below w.heap.size w W2 := (show Below w.heap.size w _ by go_grown).trans (hg2.mono (by first | omega | go_size))
        obtain ⟨hc2, hf2⟩ := bcell hg2
        have hs2 := hg2.size
        try simp only [World.size_alloc, World.size_setCell, World.size_drew] at hs2
        clear hg2 hc2 hf2
        go_wp2_with fail
        go_ret
        exact ⟨rfl, by go_grown⟩
      · have e : allF k = 0#64 := by unfold allF; rw [if_neg h1, if_neg h2, if_neg h3]
        have d1 : (k == 1) = false := by simpa using h1
        have d2 : (k == 2) = false := by simpa using h2
        have d3 : (k == 3) = false := by simpa using h3
        rw [e]
        clear h1 h2 h3 e
        go_enter Tryd.func17, Tryd.ntmps17
        go_wp2_with fail
        refine (bits_is _ 6 6 (fun j => [28, 29, 32, 34, 35, 40].getD j 0) (1156151508992#64) _ (by decide) (by decide) (row_of [28, 29, 32, 34, 35, 40] ⟨by go_cell, by go_cell, by go_cell, by go_cell, by go_cell, by go_cell, trivial⟩ (by go_size)) (by decide +kernel)).mono ?_
        rintro eE W1 ⟨rfl, hg1⟩
        have hb1 : Below w.heap.size w W1 := (show Below w.heap.size w _ by go_grown).trans (hg1.mono (by first | omega | go_size))
        obtain ⟨hc1, hf1⟩ := bcell hg1
        have hs1 := hg1.size
        try simp only [World.size_alloc, World.size_setCell, World.size_drew] at hs1
        clear hg1 hc1 hf1
        go_wp2_with fail
        go_ret
        exact ⟨rfl, by go_grown⟩

theorem needs_any (k : Int) (b : Nat) (hb : b < 64) (w : World) : Calls Tryd.prog 28 #[num k, num ((b : Nat) : Int)] w (Gives w.heap.size w (st (needF k b))) := by
  unfold Gives
  have hb0 : Below w.heap.size w w := Below.refl _ _
  by_cases h1 : k = 1
  · subst h1
    by_cases h18 : b = 18
    · subst h18
      go_enter Tryd.func28, Tryd.ntmps28
      go_wp2_with fail
      refine (bits_is _ 1 1 (fun j => [17].getD j 0) (one 17) _ (by decide) (by decide) (row_of [17] ⟨by go_cell, trivial⟩ (by go_size)) (by decide +kernel)).mono ?_
      rintro eE W1 ⟨rfl, hg1⟩
      have hb1 : Below w.heap.size w W1 := (show Below w.heap.size w _ by go_grown).trans (hg1.mono (by first | omega | go_size))
      obtain ⟨hc1, hf1⟩ := bcell hg1
      have hs1 := hg1.size
      try simp only [World.size_alloc, World.size_setCell, World.size_drew] at hs1
      clear hg1 hc1 hf1
      go_wp2_with fail
      go_ret
      exact ⟨rfl, by go_grown⟩
    · by_cases h19 : b = 19
      · subst h19
        go_enter Tryd.func28, Tryd.ntmps28
        go_wp2_with fail
        refine (bits_is _ 1 1 (fun j => [17].getD j 0) (one 17) _ (by decide) (by decide) (row_of [17] ⟨by go_cell, trivial⟩ (by go_size)) (by decide +kernel)).mono ?_
        rintro eE W1 ⟨rfl, hg1⟩
        have hb1 : Below w.heap.size w W1 := (show Below w.heap.size w _ by go_grown).trans (hg1.mono (by first | omega | go_size))
        obtain ⟨hc1, hf1⟩ := bcell hg1
        have hs1 := hg1.size
        try simp only [World.size_alloc, World.size_setCell, World.size_drew] at hs1
        clear hg1 hc1 hf1
        go_wp2_with fail
        go_ret
        exact ⟨rfl, by go_grown⟩
      · by_cases h22 : b = 22
        · subst h22
          go_enter Tryd.func28, Tryd.ntmps28
          go_wp2_with fail
          refine (bits_is _ 1 1 (fun j => [17].getD j 0) (one 17) _ (by decide) (by decide) (row_of [17] ⟨by go_cell, trivial⟩ (by go_size)) (by decide +kernel)).mono ?_
          rintro eE W1 ⟨rfl, hg1⟩
          have hb1 : Below w.heap.size w W1 := (show Below w.heap.size w _ by go_grown).trans (hg1.mono (by first | omega | go_size))
          obtain ⟨hc1, hf1⟩ := bcell hg1
          have hs1 := hg1.size
          try simp only [World.size_alloc, World.size_setCell, World.size_drew] at hs1
          clear hg1 hc1 hf1
          go_wp2_with fail
          go_ret
          exact ⟨rfl, by go_grown⟩
        · by_cases h23 : b = 23
          · subst h23
            go_enter Tryd.func28, Tryd.ntmps28
            go_wp2_with fail
            refine (bits_is _ 2 2 (fun j => [17, 5].getD j 0) (one 17 ||| one 5) _ (by decide) (by decide) (row_of [17, 5] ⟨by go_cell, by go_cell, trivial⟩ (by go_size)) (by decide +kernel)).mono ?_
            rintro eE W1 ⟨rfl, hg1⟩
            have hb1 : Below w.heap.size w W1 := (show Below w.heap.size w _ by go_grown).trans (hg1.mono (by first | omega | go_size))
            obtain ⟨hc1, hf1⟩ := bcell hg1
            have hs1 := hg1.size
            try simp only [World.size_alloc, World.size_setCell, World.size_drew] at hs1
            clear hg1 hc1 hf1
            go_wp2_with fail
            go_ret
            exact ⟨rfl, by go_grown⟩
          · have e : needF 1 b = 0#64 := by unfold needF; rw [if_pos rfl, if_neg (by omega), if_neg h23]
            have d1 : (((b : Nat) : Int) == 18) = false := by rw [beq_eq_false_iff_ne]; omega
            have d2 : (((b : Nat) : Int) == 19) = false := by rw [beq_eq_false_iff_ne]; omega
            have d3 : (((b : Nat) : Int) == 22) = false := by rw [beq_eq_false_iff_ne]; omega
            have d4 : (((b : Nat) : Int) == 23) = false := by rw [beq_eq_false_iff_ne]; omega
            rw [e]
            clear h18 h19 h22 h23 e
            go_enter Tryd.func28, Tryd.ntmps28
            go_wp2
            go_ret
            exact ⟨rfl, by go_grown⟩
  · have e : needF k b = 0#64 := by unfold needF; rw [if_neg h1]
    have d1 : (k != 1) = true := by simpa using h1
    rw [e]
    clear h1 e
    go_enter Tryd.func28, Tryd.ntmps28
    go_wp2
    go_ret
    exact ⟨rfl, by go_grown⟩

theorem known_is (k : Int) (X : Set64) (b : Bool) (h : knownB k X = b) (w : World) : Calls Tryd.prog 40 #[num k, st X] w (Gives w.heap.size w (.bool b)) := by
  unfold Gives
  have hb0 : Below w.heap.size w w := Below.refl _ _
  cases hz : (allF k == 0#64) with
  | true =>
    have c : (nu (allF k) != 0) = false := by rw [bne, nu_beq0, hz]; rfl
    obtain rfl : b = false := by rw [← h]; unfold knownB; rw [hz]; rfl
    clear h hz
    go_enter Tryd.func40, Tryd.ntmps40
    go_wp2_with fail
    refine (all_any k _).mono ?_
    rintro eE W1 ⟨rfl, hg1⟩
    have hb1 : Below w.heap.size w W1 := (show Below w.heap.size w _ by go_grown).trans (hg1.mono (by first | omega | go_size))
    obtain ⟨hc1, hf1⟩ := bcell hg1
    have hs1 := hg1.size
    try simp only [World.size_alloc, World.size_setCell, World.size_drew] at hs1
    clear hg1 hc1 hf1
    go_wp2_with fail
    go_ret
    exact ⟨rfl, by go_grown⟩
  | false =>
    have c : (nu (allF k) != 0) = true := by rw [bne, nu_beq0, hz]; rfl
    obtain rfl : b = within X (allF k) := by rw [← h]; unfold knownB; rw [hz]; rfl
    have e1 := b_andNot X (allF k)
    have c2 := nu_beq0 (X &&& ~~~(allF k))
    clear h hz
    go_enter Tryd.func40, Tryd.ntmps40
    go_wp2_with fail
    refine (all_any k _).mono ?_
    rintro eE W1 ⟨rfl, hg1⟩
    have hb1 : Below w.heap.size w W1 := (show Below w.heap.size w _ by go_grown).trans (hg1.mono (by first | omega | go_size))
    obtain ⟨hc1, hf1⟩ := bcell hg1
    have hs1 := hg1.size
    try simp only [World.size_alloc, World.size_setCell, World.size_drew] at hs1
    clear hg1 hc1 hf1
    go_wp2_with fail
    refine (all_any k _).mono ?_
    rintro eE W2 ⟨rfl, hg2⟩
    have hb2 : Below w.heap.size w W2 := (show Below w.heap.size w _ by go_grown).trans (hg2.mono (by first | omega | go_size))
    obtain ⟨hc2, hf2⟩ := bcell hg2
    have hs2 := hg2.size
    try simp only [World.size_alloc, World.size_setCell, World.size_drew] at hs2
    clear hg2 hc2 hf2
    go_wp2_with fail
    go_ret
    exact ⟨rfl, by go_grown⟩

end Go.Proofs.YtmmgcmbniidieaaDoor.StR
