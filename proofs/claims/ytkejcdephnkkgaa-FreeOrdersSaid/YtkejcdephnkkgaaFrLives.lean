/- Free lists: the law's lives. -/
import Derived.Test.YtkejcdephnkkgaaFrWorld
namespace Go.Proofs.Ytkejcdephnkkgaa.FrLives
open Go.RowKit Rw Fe Fr FrRead FrAdd FrOpen FrBuild FrCalls FrTake FrGive Own
set_option linter.unusedVariables false
set_option linter.unusedSimpArgs false

theorem ok4 : Ok 4 (seqI 4) := seqI_ok (by decide) (by decide)
theorem ok23 : Ok 4 ((seqI 4).drop 2) := ⟨by decide, by decide, by decide, by decide⟩
theorem ok3 : Ok 4 (((seqI 4).drop 2).drop 1) := ⟨by decide, by decide, by decide, by decide⟩
theorem ok103 : Ok 4 ([1, 0] ++ ((seqI 4).drop 2).drop 1) := ⟨by decide, by decide, by decide, by decide⟩

theorem d01 : decide ((seqI 4).take 2 = [0, 1]) = true := by decide
theorem d2 : decide (((seqI 4).drop 2).take 1 = [2]) = true := by decide
theorem d103 : decide ([1, 0] ++ ((seqI 4).drop 2).drop 1 = [1, 0, 3]) = true := by decide
theorem in10 : inB 4 [1, 0] = true := by decide
theorem nd10 : ((((seqI 4).drop 2).drop 1) ++ [1, 0]).Nodup := by decide
theorem in3 : inB 4 [3] = true := by decide
theorem nd3 : ¬ (([1, 0] ++ ((seqI 4).drop 2).drop 1) ++ [3]).Nodup := by decide

set_option maxRecDepth 100000 in
set_option maxHeartbeats 8000000 in
theorem lives_any (w : World) : Calls Try.prog 35 #[] w fun e w' => e = .returned (.bool true) ∧ Below w.heap.size w w' := by
  have hb0 : Below w.heap.size w w := Below.refl _ _
  go_enter Try.func35, Try.ntmps35
  go_wp2_with fail
  refine (new_is 4 _ (by decide) (by decide)).mono ?_
  rintro eE W1 ⟨C, cc, rfl, hS1, hN1, hg1⟩
  have S1 := Lib.hid hS1
  clear hS1
  have hb1 : Below w.heap.size w W1 := (show Below w.heap.size w _ by go_grown).trans (hg1.mono (by first | omega | go_size))
  obtain ⟨hc1, hf1⟩ := bcell hg1
  have hs1 := hg1.size
  try simp only [World.size_alloc, World.size_setCell, World.size_drew] at hs1
  clear hg1 hc1 hf1
  go_wp2_with fail
  have hb1' : Below W1.heap.size W1 (W1.alloc (.cells #[.int .i64 4, .slice C 4 cc] 56)) := (Below.refl _ _).alloc (Nat.le_refl _) _
  refine (take_ok 4 C 4 cc 2 (seqI 4) _ (S1.out.on (Nat.le_refl _) hb1') ok4 (by decide) (by decide) (by decide)).mono ?_
  rintro eE W2 ⟨A2, C2, a2, c2, rfl, hA2, hC2, nA2, nC2, hg2⟩
  simp only [World.size_alloc] at nA2 nC2
  have hb2 : Below w.heap.size w W2 := (show Below w.heap.size w _ by go_grown).trans (hg2.mono (by first | omega | go_size))
  obtain ⟨hc2, hf2⟩ := bcell hg2
  have hs2 := hg2.size
  try simp only [World.size_alloc, World.size_setCell, World.size_drew] at hs2
  have hl2_0_0 : W2.cell? ⟨W1.heap.size, 0, none⟩ = some (num 4) := (hc2 _ _ (by first | omega | go_size)).trans (by first | (with_reducible assumption) | go_cell)
  have hz2_0_0 : W2.frozen? ⟨W1.heap.size, 0, none⟩ = false := (hf2 _ _ (by first | omega | go_size)).trans (by first | (with_reducible assumption) | (go_simp; done) | (simp [*]; done))
  have hl2_0_1 : W2.cell? ⟨W1.heap.size, 1, none⟩ = some (.slice C 4 cc) := (hc2 _ _ (by first | omega | go_size)).trans (by first | (with_reducible assumption) | go_cell)
  have hz2_0_1 : W2.frozen? ⟨W1.heap.size, 1, none⟩ = false := (hf2 _ _ (by first | omega | go_size)).trans (by first | (with_reducible assumption) | (go_simp; done) | (simp [*]; done))
  have hk2_0 : W1.heap.size < W2.heap.size := by omega
  clear hg2 hc2 hf2
  go_wp2_with fail
  have hb3 : Below w.heap.size w ((W2.setCell ⟨W1.heap.size, 0, none⟩ (num 4)).setCell ⟨W1.heap.size, 1, none⟩ (.slice C2 2 c2)) := by go_grown
  obtain ⟨W3, hW3, hsE3, hl3_0_0, hl3_0_1, hc3, hf3⟩ := store2 (W := W2) (b := W1.heap.size) (num 4) (.slice C2 2 c2) (by assumption) (by assumption)
  rw [hW3] at hb3 ⊢
  have hz3_0_0 : W3.frozen? ⟨W1.heap.size, 0, none⟩ = false := (hf3 _).trans (by assumption)
  have hz3_0_1 : W3.frozen? ⟨W1.heap.size, 1, none⟩ = false := (hf3 _).trans (by assumption)
  have HS3 := Lib.hid hsE3
  have hs3 : W2.heap.size ≤ W3.heap.size := by omega
  have hsu3 : W3.heap.size ≤ W2.heap.size := by omega
  have hk3_0 : W1.heap.size < W3.heap.size := by omega
  clear hW3 hsE3
  have A3 := Lib.hid (Sl.stored hA2 (nA2.far (by omega)) HS3.out hc3)
  have C3 := Lib.hid (Sl.stored hC2 (nC2.far (by omega)) HS3.out hc3)
  have FA := Lib.hid (nA2.far (b := W1.heap.size) (by omega))
  clear hA2 hC2 hc3 hf3
  refine (take_ok 4 C2 2 c2 1 ((seqI 4).drop 2) _ C3.out ok23 (by decide) (by decide) (by decide)).mono ?_
  rintro eE W4 ⟨B4, C4, b4, c4, rfl, hB4, hC4, nB4, nC4, hg4⟩
  have A4 := Lib.hid (A3.out.on (Nat.le_refl _) hg4)
  have hb4 : Below w.heap.size w W4 := (show Below w.heap.size w _ by go_grown).trans (hg4.mono (by first | omega | go_size))
  obtain ⟨hc4, hf4⟩ := bcell hg4
  have hs4 := hg4.size
  try simp only [World.size_alloc, World.size_setCell, World.size_drew] at hs4
  have hl4_0_0 : W4.cell? ⟨W1.heap.size, 0, none⟩ = some (num 4) := (hc4 _ _ (by first | omega | go_size)).trans (by first | (with_reducible assumption) | go_cell)
  have hz4_0_0 : W4.frozen? ⟨W1.heap.size, 0, none⟩ = false := (hf4 _ _ (by first | omega | go_size)).trans (by first | (with_reducible assumption) | (go_simp; done) | (simp [*]; done))
  have hl4_0_1 : W4.cell? ⟨W1.heap.size, 1, none⟩ = some (.slice C2 2 c2) := (hc4 _ _ (by first | omega | go_size)).trans (by first | (with_reducible assumption) | go_cell)
  have hz4_0_1 : W4.frozen? ⟨W1.heap.size, 1, none⟩ = false := (hf4 _ _ (by first | omega | go_size)).trans (by first | (with_reducible assumption) | (go_simp; done) | (simp [*]; done))
  have hk4_0 : W1.heap.size < W4.heap.size := by omega
  clear hg4 hc4 hf4
  go_wp2_with fail
  have hb5 : Below w.heap.size w ((W4.setCell ⟨W1.heap.size, 0, none⟩ (num 4)).setCell ⟨W1.heap.size, 1, none⟩ (.slice C4 1 c4)) := by go_grown
  obtain ⟨W5, hW5, hsE5, hl5_0_0, hl5_0_1, hc5, hf5⟩ := store2 (W := W4) (b := W1.heap.size) (num 4) (.slice C4 1 c4) (by assumption) (by assumption)
  rw [hW5] at hb5 ⊢
  have hz5_0_0 : W5.frozen? ⟨W1.heap.size, 0, none⟩ = false := (hf5 _).trans (by assumption)
  have hz5_0_1 : W5.frozen? ⟨W1.heap.size, 1, none⟩ = false := (hf5 _).trans (by assumption)
  have HS5 := Lib.hid hsE5
  have hs5 : W4.heap.size ≤ W5.heap.size := by omega
  have hsu5 : W5.heap.size ≤ W4.heap.size := by omega
  have hk5_0 : W1.heap.size < W5.heap.size := by omega
  clear hW5 hsE5
  have A5 := Lib.hid (Sl.stored A4.out FA.out HS5.out hc5)
  have B5 := Lib.hid (Sl.stored hB4 (nB4.far (by omega)) HS5.out hc5)
  have C5 := Lib.hid (Sl.stored hC4 (nC4.far (by omega)) HS5.out hc5)
  have FB := Lib.hid (nB4.far (b := W1.heap.size) (by omega))
  clear hB4 hC4 hc5 hf5
  have hg6 : Below W5.heap.size W5 (W5.alloc (.cells #[num 1, num 0] 3)) := (Below.refl _ _).alloc (Nat.le_refl _) _
  have G7 := give_ok 4 C4 (some ⟨W5.heap.size, 0, none⟩) 1 c4 2 2 (((seqI 4).drop 2).drop 1) [1, 0] _ (C5.out.on (Nat.le_refl _) hg6) (Sl.lit W5 3 [1, 0] #[num 1, num 0] 2 rfl rfl (by decide)) ok3 in10 nd10 (by decide) (by decide)
  rw [HS5.out] at G7
  refine G7.mono ?_
  clear G7
  rintro eE W7 ⟨C7, c7, rfl, hC7, nC7, hg7⟩
  simp only [World.size_alloc] at nC7
  have A7 := Lib.hid ((A5.out.on (Nat.le_refl _) hg6).on (Nat.le_refl _) hg7)
  have B7 := Lib.hid ((B5.out.on (Nat.le_refl _) hg6).on (Nat.le_refl _) hg7)
  clear hg6
  have hb7 : Below w.heap.size w W7 := (show Below w.heap.size w _ by go_grown).trans (hg7.mono (by first | omega | go_size))
  obtain ⟨hc7, hf7⟩ := bcell hg7
  have hs7 := hg7.size
  try simp only [World.size_alloc, World.size_setCell, World.size_drew] at hs7
  have hl7_0_0 : W7.cell? ⟨W1.heap.size, 0, none⟩ = some (num 4) := (hc7 _ _ (by first | omega | go_size)).trans (by first | (with_reducible assumption) | go_cell)
  have hz7_0_0 : W7.frozen? ⟨W1.heap.size, 0, none⟩ = false := (hf7 _ _ (by first | omega | go_size)).trans (by first | (with_reducible assumption) | (go_simp; done) | (simp [*]; done))
  have hl7_0_1 : W7.cell? ⟨W1.heap.size, 1, none⟩ = some (.slice C4 1 c4) := (hc7 _ _ (by first | omega | go_size)).trans (by first | (with_reducible assumption) | go_cell)
  have hz7_0_1 : W7.frozen? ⟨W1.heap.size, 1, none⟩ = false := (hf7 _ _ (by first | omega | go_size)).trans (by first | (with_reducible assumption) | (go_simp; done) | (simp [*]; done))
  have hk7_0 : W1.heap.size < W7.heap.size := by omega
  clear hg7 hc7 hf7
  go_wp2_with fail
  have hb8 : Below w.heap.size w ((W7.setCell ⟨W1.heap.size, 0, none⟩ (num 4)).setCell ⟨W1.heap.size, 1, none⟩ (.slice C7 3 c7)) := by go_grown
  obtain ⟨W8, hW8, hsE8, hl8_0_0, hl8_0_1, hc8, hf8⟩ := store2 (W := W7) (b := W1.heap.size) (num 4) (.slice C7 3 c7) (by assumption) (by assumption)
  rw [hW8] at hb8 ⊢
  have hz8_0_0 : W8.frozen? ⟨W1.heap.size, 0, none⟩ = false := (hf8 _).trans (by assumption)
  have hz8_0_1 : W8.frozen? ⟨W1.heap.size, 1, none⟩ = false := (hf8 _).trans (by assumption)
  have HS8 := Lib.hid hsE8
  have hs8 : W7.heap.size ≤ W8.heap.size := by omega
  have hsu8 : W8.heap.size ≤ W7.heap.size := by omega
  have hk8_0 : W1.heap.size < W8.heap.size := by omega
  clear hW8 hsE8
  have A8 := Lib.hid (Sl.stored A7.out FA.out HS8.out hc8)
  have B8 := Lib.hid (Sl.stored B7.out FB.out HS8.out hc8)
  have C8 := Lib.hid (Sl.stored hC7 (nC7.far (by omega)) HS8.out hc8)
  clear hC7 hc8 hf8
  have hg9 : Below W8.heap.size W8 (W8.alloc (.cells #[num 3] 3)) := (Below.refl _ _).alloc (Nat.le_refl _) _
  have G9 := give_there 4 C7 (some ⟨W8.heap.size, 0, none⟩) 3 c7 1 1 ([1, 0] ++ ((seqI 4).drop 2).drop 1) [3] _ (C8.out.on (Nat.le_refl _) hg9) (Sl.lit W8 3 [3] #[num 3] 1 rfl rfl (by decide)) ok103 in3 nd3
  rw [HS8.out] at G9
  refine G9.mono ?_
  clear G9
  rintro eE W9 ⟨rfl, hg10⟩
  have A9 := Lib.hid ((A8.out.on (Nat.le_refl _) hg9).on (Nat.le_refl _) hg10)
  have B9 := Lib.hid ((B8.out.on (Nat.le_refl _) hg9).on (Nat.le_refl _) hg10)
  have C9 := Lib.hid ((C8.out.on (Nat.le_refl _) hg9).on (Nat.le_refl _) hg10)
  clear hg9
  have hg9 := hg10
  clear hg10
  have hb9 : Below w.heap.size w W9 := (show Below w.heap.size w _ by go_grown).trans (hg9.mono (by first | omega | go_size))
  obtain ⟨hc9, hf9⟩ := bcell hg9
  have hs9 := hg9.size
  try simp only [World.size_alloc, World.size_setCell, World.size_drew] at hs9
  have hl9_0_0 : W9.cell? ⟨W1.heap.size, 0, none⟩ = some (num 4) := (hc9 _ _ (by first | omega | go_size)).trans (by first | (with_reducible assumption) | go_cell)
  have hz9_0_0 : W9.frozen? ⟨W1.heap.size, 0, none⟩ = false := (hf9 _ _ (by first | omega | go_size)).trans (by first | (with_reducible assumption) | (go_simp; done) | (simp [*]; done))
  have hl9_0_1 : W9.cell? ⟨W1.heap.size, 1, none⟩ = some (.slice C7 3 c7) := (hc9 _ _ (by first | omega | go_size)).trans (by first | (with_reducible assumption) | go_cell)
  have hz9_0_1 : W9.frozen? ⟨W1.heap.size, 1, none⟩ = false := (hf9 _ _ (by first | omega | go_size)).trans (by first | (with_reducible assumption) | (go_simp; done) | (simp [*]; done))
  have hk9_0 : W1.heap.size < W9.heap.size := by omega
  clear hg9 hc9 hf9
  go_wp2_with fail
  have hg11 : Below W9.heap.size W9 (W9.alloc (.cells #[num 0, .slice none 0 0] 56)) := (Below.refl _ _).alloc (Nat.le_refl _) _
  obtain ⟨W11, hW11⟩ : ∃ W, W9.alloc (.cells #[num 0, .slice none 0 0] 56) = W := ⟨_, rfl⟩
  have hZ11 := Lib.hid (show W11.heap.size = W9.heap.size + 1 from by rw [← hW11]; simp)
  rw [hW11] at hg11
  have hg12 : Below W11.heap.size W11 (W11.alloc (.cells #[num 0, num 1] 3)) := (Below.refl _ _).alloc (Nat.le_refl _) _
  have hg12' := hg11.trans (hg12.mono hg11.size)
  have G12 := ints_is A2 (some ⟨W11.heap.size, 0, none⟩) 2 2 a2 2 ((seqI 4).take 2) [0, 1] _ (A9.out.on (Nat.le_refl _) hg12') (Sl.lit W11 3 [0, 1] #[num 0, num 1] 2 rfl rfl (by decide)) true d01
  rw [hZ11.out, ← hW11] at G12
  rw [← hW11] at hg12'
  refine G12.mono ?_
  clear G12 hW11 hZ11 hg12 hg11
  rintro eE W13 ⟨rfl, hg13⟩
  have hg13' := hg12'.trans (hg13.mono hg12'.size)
  have B13 := Lib.hid (B9.out.on (Nat.le_refl _) hg13')
  have C13 := Lib.hid (C9.out.on (Nat.le_refl _) hg13')
  have hb13 : Below w.heap.size w W13 := (show Below w.heap.size w _ by go_grown).trans (hg13.mono (by first | omega | go_size))
  obtain ⟨hc13, hf13⟩ := bcell hg13
  have hs13 := hg13.size
  try simp only [World.size_alloc, World.size_setCell, World.size_drew] at hs13
  have hl13_0_0 : W13.cell? ⟨W1.heap.size, 0, none⟩ = some (num 4) := (hc13 _ _ (by first | omega | go_size)).trans (by first | (with_reducible assumption) | go_cell)
  have hz13_0_0 : W13.frozen? ⟨W1.heap.size, 0, none⟩ = false := (hf13 _ _ (by first | omega | go_size)).trans (by first | (with_reducible assumption) | (go_simp; done) | (simp [*]; done))
  have hl13_0_1 : W13.cell? ⟨W1.heap.size, 1, none⟩ = some (.slice C7 3 c7) := (hc13 _ _ (by first | omega | go_size)).trans (by first | (with_reducible assumption) | go_cell)
  have hz13_0_1 : W13.frozen? ⟨W1.heap.size, 1, none⟩ = false := (hf13 _ _ (by first | omega | go_size)).trans (by first | (with_reducible assumption) | (go_simp; done) | (simp [*]; done))
  have hk13_0 : W1.heap.size < W13.heap.size := by omega
  clear hg13 hc13 hf13
  go_wp2_with fail
  have hg14 : Below W13.heap.size W13 (W13.alloc (.cells #[num 2] 3)) := (Below.refl _ _).alloc (Nat.le_refl _) _
  have G14 := ints_is B4 (some ⟨W13.heap.size, 0, none⟩) 1 1 b4 1 (((seqI 4).drop 2).take 1) [2] _ (B13.out.on (Nat.le_refl _) hg14) (Sl.lit W13 3 [2] #[num 2] 1 rfl rfl (by decide)) true d2
  refine G14.mono ?_
  clear G14
  rintro eE W15 ⟨rfl, hg15⟩
  have C15 := Lib.hid ((C13.out.on (Nat.le_refl _) hg14).on (Nat.le_refl _) hg15)
  have hb15 : Below w.heap.size w W15 := (show Below w.heap.size w _ by go_grown).trans (hg15.mono (by first | omega | go_size))
  obtain ⟨hc15, hf15⟩ := bcell hg15
  have hs15 := hg15.size
  try simp only [World.size_alloc, World.size_setCell, World.size_drew] at hs15
  have hl15_0_0 : W15.cell? ⟨W1.heap.size, 0, none⟩ = some (num 4) := (hc15 _ _ (by first | omega | go_size)).trans (by first | (with_reducible assumption) | go_cell)
  have hz15_0_0 : W15.frozen? ⟨W1.heap.size, 0, none⟩ = false := (hf15 _ _ (by first | omega | go_size)).trans (by first | (with_reducible assumption) | (go_simp; done) | (simp [*]; done))
  have hl15_0_1 : W15.cell? ⟨W1.heap.size, 1, none⟩ = some (.slice C7 3 c7) := (hc15 _ _ (by first | omega | go_size)).trans (by first | (with_reducible assumption) | go_cell)
  have hz15_0_1 : W15.frozen? ⟨W1.heap.size, 1, none⟩ = false := (hf15 _ _ (by first | omega | go_size)).trans (by first | (with_reducible assumption) | (go_simp; done) | (simp [*]; done))
  have hk15_0 : W1.heap.size < W15.heap.size := by omega
  clear hg15 hc15 hf15
  go_wp2_with fail
  have hg16 : Below W15.heap.size W15 (W15.alloc (.cells #[num 1, num 0, num 3] 3)) := (Below.refl _ _).alloc (Nat.le_refl _) _
  have G16 := ints_is C7 (some ⟨W15.heap.size, 0, none⟩) 3 3 c7 3 ([1, 0] ++ ((seqI 4).drop 2).drop 1) [1, 0, 3] _ (C15.out.on (Nat.le_refl _) hg16) (Sl.lit W15 3 [1, 0, 3] #[num 1, num 0, num 3] 3 rfl rfl (by decide)) true d103
  refine G16.mono ?_
  clear G16
  rintro eE W17 ⟨rfl, hg17⟩
  have hb17 : Below w.heap.size w W17 := (show Below w.heap.size w _ by go_grown).trans (hg17.mono (by first | omega | go_size))
  obtain ⟨hc17, hf17⟩ := bcell hg17
  have hs17 := hg17.size
  try simp only [World.size_alloc, World.size_setCell, World.size_drew] at hs17
  clear hg17 hc17 hf17
  go_wp2_with fail
  go_ret
  exact ⟨rfl, by go_grown⟩

end Go.Proofs.Ytkejcdephnkkgaa.FrLives
