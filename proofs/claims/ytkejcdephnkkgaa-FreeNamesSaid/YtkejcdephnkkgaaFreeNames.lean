/- The law FreeNames: the chapter's examples. No input; no condition. -/
import Derived.Test.YtkejcdephnkkgaaFrLives
namespace Go.Proofs.Ytkejcdephnkkgaa.FreeNames
open Go.ChangeShapes Go.WideShapes Go.ChangeAt Go.RowKit Rw Fe Fr FrRead FrAdd FrOpen FrBuild FrCalls FrTake FrGive FrLives Own
set_option linter.unusedVariables false
set_option linter.unusedSimpArgs false

theorem ok3' : Ok ((3 : Nat) : Int) (seqI 3) := seqI_ok (by decide) (by decide)
theorem out3 : inB ((3 : Nat) : Int) [3] = false := by decide
theorem m2 : decide ((2 : Int) ∈ seqI 3) = true := by decide
theorem m3 : decide ((3 : Int) ∈ seqI 3) = false := by decide
theorem b11 : badB 2 [1, 1] = true := by decide

set_option maxRecDepth 100000 in
set_option maxHeartbeats 8000000 in
theorem walk (w : World) : Calls Try.prog 4 #[] w (Lib.True1 w.heap.size w) := by
  unfold Lib.True1
  have hb0 : Below w.heap.size w w := Below.refl _ _
  go_enter Try.func4, Try.ntmps4
  go_wp2_with fail
  refine (new_no 0 _ (by decide)).mono ?_
  rintro eE W1 ⟨rfl, hg1⟩
  have hb1 : Below w.heap.size w W1 := (show Below w.heap.size w _ by go_grown).trans (hg1.mono (by first | omega | go_size))
  obtain ⟨hc1, hf1⟩ := bcell hg1
  have hs1 := hg1.size
  try simp only [World.size_alloc, World.size_setCell, World.size_drew] at hs1
  clear hg1 hc1 hf1
  go_wp2_with fail
  refine (new_is 3 _ (by decide) (by decide)).mono ?_
  rintro eE W2 ⟨C, cc, rfl, hS2, hN2, hg2⟩
  have S2 := Lib.hid hS2
  clear hS2
  have hb2 : Below w.heap.size w W2 := (show Below w.heap.size w _ by go_grown).trans (hg2.mono (by first | omega | go_size))
  obtain ⟨hc2, hf2⟩ := bcell hg2
  have hs2 := hg2.size
  try simp only [World.size_alloc, World.size_setCell, World.size_drew] at hs2
  clear hg2 hc2 hf2
  go_wp2_with fail
  have hg3 : Below W2.heap.size W2 (W2.alloc (.cells #[num 3, .slice C 3 cc] 56)) := (Below.refl _ _).alloc (Nat.le_refl _) _
  have S3 := Lib.hid (S2.out.on (Nat.le_refl _) hg3)
  clear hg3
  refine (take_many 3 C 3 cc 4 (seqI 3) _ S3.out ok3' (by decide) (by decide)).mono ?_
  rintro eE W4 ⟨rfl, hg4⟩
  have S4 := Lib.hid (S3.out.on (Nat.le_refl _) hg4)
  have hb4 : Below w.heap.size w W4 := (show Below w.heap.size w _ by go_grown).trans (hg4.mono (by first | omega | go_size))
  obtain ⟨hc4, hf4⟩ := bcell hg4
  have hs4 := hg4.size
  try simp only [World.size_alloc, World.size_setCell, World.size_drew] at hs4
  have hl4_0_0 : W4.cell? ⟨W2.heap.size, 0, none⟩ = some (num 3) := (hc4 _ _ (by first | omega | go_size)).trans (by first | (with_reducible assumption) | go_cell)
  have hz4_0_0 : W4.frozen? ⟨W2.heap.size, 0, none⟩ = false := (hf4 _ _ (by first | omega | go_size)).trans (by first | (with_reducible assumption) | (go_simp; done) | (simp [*]; done))
  have hl4_0_1 : W4.cell? ⟨W2.heap.size, 1, none⟩ = some (.slice C 3 cc) := (hc4 _ _ (by first | omega | go_size)).trans (by first | (with_reducible assumption) | go_cell)
  have hz4_0_1 : W4.frozen? ⟨W2.heap.size, 1, none⟩ = false := (hf4 _ _ (by first | omega | go_size)).trans (by first | (with_reducible assumption) | (go_simp; done) | (simp [*]; done))
  have hk4_0 : W2.heap.size < W4.heap.size := by omega
  clear hg4 hc4 hf4
  go_wp2_with fail
  have hg5 : Below W4.heap.size W4 (W4.alloc (.cells #[num 0, .slice none 0 0] 56)) := (Below.refl _ _).alloc (Nat.le_refl _) _
  have S5 := Lib.hid (S4.out.on (Nat.le_refl _) hg5)
  clear hg5
  refine (take_low 3 0 C 3 cc (seqI 3) _ S5.out ok3' (by decide)).mono ?_
  rintro eE W6 ⟨rfl, hg6⟩
  have S6 := Lib.hid (S5.out.on (Nat.le_refl _) hg6)
  have hb6 : Below w.heap.size w W6 := (show Below w.heap.size w _ by go_grown).trans (hg6.mono (by first | omega | go_size))
  obtain ⟨hc6, hf6⟩ := bcell hg6
  have hs6 := hg6.size
  try simp only [World.size_alloc, World.size_setCell, World.size_drew] at hs6
  have hl6_0_0 : W6.cell? ⟨W2.heap.size, 0, none⟩ = some (num 3) := (hc6 _ _ (by first | omega | go_size)).trans (by first | (with_reducible assumption) | go_cell)
  have hz6_0_0 : W6.frozen? ⟨W2.heap.size, 0, none⟩ = false := (hf6 _ _ (by first | omega | go_size)).trans (by first | (with_reducible assumption) | (go_simp; done) | (simp [*]; done))
  have hl6_0_1 : W6.cell? ⟨W2.heap.size, 1, none⟩ = some (.slice C 3 cc) := (hc6 _ _ (by first | omega | go_size)).trans (by first | (with_reducible assumption) | go_cell)
  have hz6_0_1 : W6.frozen? ⟨W2.heap.size, 1, none⟩ = false := (hf6 _ _ (by first | omega | go_size)).trans (by first | (with_reducible assumption) | (go_simp; done) | (simp [*]; done))
  have hk6_0 : W2.heap.size < W6.heap.size := by omega
  clear hg6 hc6 hf6
  go_wp2_with fail
  have hg7 : Below W6.heap.size W6 (W6.alloc (.cells #[num 0, .slice none 0 0] 56)) := (Below.refl _ _).alloc (Nat.le_refl _) _
  have S7 := Lib.hid (S6.out.on (Nat.le_refl _) hg7)
  clear hg7
  have hg8 : Below (W6.alloc (.cells #[num 0, .slice none 0 0] 56)).heap.size (W6.alloc (.cells #[num 0, .slice none 0 0] 56)) ((W6.alloc (.cells #[num 0, .slice none 0 0] 56)).alloc (.cells #[num 3] 3)) := (Below.refl _ _).alloc (Nat.le_refl _) _
  have G9 := give_out 3 C (some ⟨(W6.alloc (.cells #[num 0, .slice none 0 0] 56)).heap.size, 0, none⟩) 3 cc 1 1 (seqI 3) [3] _ (S7.out.on (Nat.le_refl _) hg8) (Sl.lit (W6.alloc (.cells #[num 0, .slice none 0 0] 56)) 3 [3] #[num 3] 1 rfl rfl (by decide)) ok3' out3
  have S8 := Lib.hid (S7.out.on (Nat.le_refl _) hg8)
  have e7 : (W6.alloc (.cells #[num 0, .slice none 0 0] 56)).heap.size = W6.heap.size + 1 := by simp
  rw [e7] at G9
  clear e7 hg8
  refine G9.mono ?_
  clear G9
  rintro eE W9 ⟨rfl, hg9⟩
  have S9 := Lib.hid (S8.out.on (Nat.le_refl _) hg9)
  have hb9 : Below w.heap.size w W9 := (show Below w.heap.size w _ by go_grown).trans (hg9.mono (by first | omega | go_size))
  obtain ⟨hc9, hf9⟩ := bcell hg9
  have hs9 := hg9.size
  try simp only [World.size_alloc, World.size_setCell, World.size_drew] at hs9
  have hl9_0_0 : W9.cell? ⟨W2.heap.size, 0, none⟩ = some (num 3) := (hc9 _ _ (by first | omega | go_size)).trans (by first | (with_reducible assumption) | go_cell)
  have hz9_0_0 : W9.frozen? ⟨W2.heap.size, 0, none⟩ = false := (hf9 _ _ (by first | omega | go_size)).trans (by first | (with_reducible assumption) | (go_simp; done) | (simp [*]; done))
  have hl9_0_1 : W9.cell? ⟨W2.heap.size, 1, none⟩ = some (.slice C 3 cc) := (hc9 _ _ (by first | omega | go_size)).trans (by first | (with_reducible assumption) | go_cell)
  have hz9_0_1 : W9.frozen? ⟨W2.heap.size, 1, none⟩ = false := (hf9 _ _ (by first | omega | go_size)).trans (by first | (with_reducible assumption) | (go_simp; done) | (simp [*]; done))
  have hk9_0 : W2.heap.size < W9.heap.size := by omega
  clear hg9 hc9 hf9
  go_wp2_with fail
  have hg10 : Below W9.heap.size W9 (W9.alloc (.cells #[num 0, .slice none 0 0] 56)) := (Below.refl _ _).alloc (Nat.le_refl _) _
  have S10 := Lib.hid (S9.out.on (Nat.le_refl _) hg10)
  clear hg10
  refine (take_ok 3 C 3 cc 3 (seqI 3) _ S10.out ok3' (by decide) (by decide) (by decide)).mono ?_
  rintro eE W11 ⟨A1, A2, c1, c2, rfl, hA1, hA2, nA1, nA2, hg11⟩
  have S11 := Lib.hid (S10.out.on (Nat.le_refl _) hg11)
  clear hA1 hA2 nA1 nA2
  have hb11 : Below w.heap.size w W11 := (show Below w.heap.size w _ by go_grown).trans (hg11.mono (by first | omega | go_size))
  obtain ⟨hc11, hf11⟩ := bcell hg11
  have hs11 := hg11.size
  try simp only [World.size_alloc, World.size_setCell, World.size_drew] at hs11
  have hl11_0_0 : W11.cell? ⟨W2.heap.size, 0, none⟩ = some (num 3) := (hc11 _ _ (by first | omega | go_size)).trans (by first | (with_reducible assumption) | go_cell)
  have hz11_0_0 : W11.frozen? ⟨W2.heap.size, 0, none⟩ = false := (hf11 _ _ (by first | omega | go_size)).trans (by first | (with_reducible assumption) | (go_simp; done) | (simp [*]; done))
  have hl11_0_1 : W11.cell? ⟨W2.heap.size, 1, none⟩ = some (.slice C 3 cc) := (hc11 _ _ (by first | omega | go_size)).trans (by first | (with_reducible assumption) | go_cell)
  have hz11_0_1 : W11.frozen? ⟨W2.heap.size, 1, none⟩ = false := (hf11 _ _ (by first | omega | go_size)).trans (by first | (with_reducible assumption) | (go_simp; done) | (simp [*]; done))
  have hk11_0 : W2.heap.size < W11.heap.size := by omega
  clear hg11 hc11 hf11
  go_wp2_with fail
  have hg12 : Below W11.heap.size W11 (W11.alloc (.cells #[num 3, .slice A2 0 c2] 56)) := (Below.refl _ _).alloc (Nat.le_refl _) _
  have S12 := Lib.hid (S11.out.on (Nat.le_refl _) hg12)
  clear hg12
  refine (lives_any _).mono ?_
  rintro eE W13 ⟨rfl, hg13⟩
  have S13 := Lib.hid (S12.out.on (Nat.le_refl _) hg13)
  have hb13 : Below w.heap.size w W13 := (show Below w.heap.size w _ by go_grown).trans (hg13.mono (by first | omega | go_size))
  obtain ⟨hc13, hf13⟩ := bcell hg13
  have hs13 := hg13.size
  try simp only [World.size_alloc, World.size_setCell, World.size_drew] at hs13
  have hl13_0_0 : W13.cell? ⟨W2.heap.size, 0, none⟩ = some (num 3) := (hc13 _ _ (by first | omega | go_size)).trans (by first | (with_reducible assumption) | go_cell)
  have hz13_0_0 : W13.frozen? ⟨W2.heap.size, 0, none⟩ = false := (hf13 _ _ (by first | omega | go_size)).trans (by first | (with_reducible assumption) | (go_simp; done) | (simp [*]; done))
  have hl13_0_1 : W13.cell? ⟨W2.heap.size, 1, none⟩ = some (.slice C 3 cc) := (hc13 _ _ (by first | omega | go_size)).trans (by first | (with_reducible assumption) | go_cell)
  have hz13_0_1 : W13.frozen? ⟨W2.heap.size, 1, none⟩ = false := (hf13 _ _ (by first | omega | go_size)).trans (by first | (with_reducible assumption) | (go_simp; done) | (simp [*]; done))
  have hk13_0 : W2.heap.size < W13.heap.size := by omega
  clear hg13 hc13 hf13
  go_wp2_with fail
  refine (count_ok 3 C 3 cc (seqI 3) _ S13.out ok3').mono ?_
  rintro eE W14 ⟨rfl, hg14⟩
  have S14 := Lib.hid (S13.out.on (Nat.le_refl _) hg14)
  have hb14 : Below w.heap.size w W14 := (show Below w.heap.size w _ by go_grown).trans (hg14.mono (by first | omega | go_size))
  obtain ⟨hc14, hf14⟩ := bcell hg14
  have hs14 := hg14.size
  try simp only [World.size_alloc, World.size_setCell, World.size_drew] at hs14
  have hl14_0_0 : W14.cell? ⟨W2.heap.size, 0, none⟩ = some (num 3) := (hc14 _ _ (by first | omega | go_size)).trans (by first | (with_reducible assumption) | go_cell)
  have hz14_0_0 : W14.frozen? ⟨W2.heap.size, 0, none⟩ = false := (hf14 _ _ (by first | omega | go_size)).trans (by first | (with_reducible assumption) | (go_simp; done) | (simp [*]; done))
  have hl14_0_1 : W14.cell? ⟨W2.heap.size, 1, none⟩ = some (.slice C 3 cc) := (hc14 _ _ (by first | omega | go_size)).trans (by first | (with_reducible assumption) | go_cell)
  have hz14_0_1 : W14.frozen? ⟨W2.heap.size, 1, none⟩ = false := (hf14 _ _ (by first | omega | go_size)).trans (by first | (with_reducible assumption) | (go_simp; done) | (simp [*]; done))
  have hk14_0 : W2.heap.size < W14.heap.size := by omega
  clear hg14 hc14 hf14
  go_wp2_with fail
  refine (is_ok 3 2 C 3 cc (seqI 3) true _ S14.out ok3' m2).mono ?_
  rintro eE W15 ⟨rfl, hg15⟩
  have S15 := Lib.hid (S14.out.on (Nat.le_refl _) hg15)
  have hb15 : Below w.heap.size w W15 := (show Below w.heap.size w _ by go_grown).trans (hg15.mono (by first | omega | go_size))
  obtain ⟨hc15, hf15⟩ := bcell hg15
  have hs15 := hg15.size
  try simp only [World.size_alloc, World.size_setCell, World.size_drew] at hs15
  have hl15_0_0 : W15.cell? ⟨W2.heap.size, 0, none⟩ = some (num 3) := (hc15 _ _ (by first | omega | go_size)).trans (by first | (with_reducible assumption) | go_cell)
  have hz15_0_0 : W15.frozen? ⟨W2.heap.size, 0, none⟩ = false := (hf15 _ _ (by first | omega | go_size)).trans (by first | (with_reducible assumption) | (go_simp; done) | (simp [*]; done))
  have hl15_0_1 : W15.cell? ⟨W2.heap.size, 1, none⟩ = some (.slice C 3 cc) := (hc15 _ _ (by first | omega | go_size)).trans (by first | (with_reducible assumption) | go_cell)
  have hz15_0_1 : W15.frozen? ⟨W2.heap.size, 1, none⟩ = false := (hf15 _ _ (by first | omega | go_size)).trans (by first | (with_reducible assumption) | (go_simp; done) | (simp [*]; done))
  have hk15_0 : W2.heap.size < W15.heap.size := by omega
  clear hg15 hc15 hf15
  go_wp2_with fail
  refine (is_ok 3 3 C 3 cc (seqI 3) false _ S15.out ok3' m3).mono ?_
  rintro eE W16 ⟨rfl, hg16⟩
  have S16 := Lib.hid (S15.out.on (Nat.le_refl _) hg16)
  have hb16 : Below w.heap.size w W16 := (show Below w.heap.size w _ by go_grown).trans (hg16.mono (by first | omega | go_size))
  obtain ⟨hc16, hf16⟩ := bcell hg16
  have hs16 := hg16.size
  try simp only [World.size_alloc, World.size_setCell, World.size_drew] at hs16
  have hl16_0_0 : W16.cell? ⟨W2.heap.size, 0, none⟩ = some (num 3) := (hc16 _ _ (by first | omega | go_size)).trans (by first | (with_reducible assumption) | go_cell)
  have hz16_0_0 : W16.frozen? ⟨W2.heap.size, 0, none⟩ = false := (hf16 _ _ (by first | omega | go_size)).trans (by first | (with_reducible assumption) | (go_simp; done) | (simp [*]; done))
  have hl16_0_1 : W16.cell? ⟨W2.heap.size, 1, none⟩ = some (.slice C 3 cc) := (hc16 _ _ (by first | omega | go_size)).trans (by first | (with_reducible assumption) | go_cell)
  have hz16_0_1 : W16.frozen? ⟨W2.heap.size, 1, none⟩ = false := (hf16 _ _ (by first | omega | go_size)).trans (by first | (with_reducible assumption) | (go_simp; done) | (simp [*]; done))
  have hk16_0 : W2.heap.size < W16.heap.size := by omega
  clear hg16 hc16 hf16
  go_wp2_with fail
  have hg17 : Below W16.heap.size W16 (W16.alloc (.cells #[num 1, num 1] 3)) := (Below.refl _ _).alloc (Nat.le_refl _) _
  have S17 := Lib.hid (S16.out.on (Nat.le_refl _) hg17)
  clear hg17
  refine (check_bad 2 (some ⟨W16.heap.size, 0, none⟩) 2 2 [1, 1] _ (Sl.lit W16 3 [1, 1] #[num 1, num 1] 2 rfl rfl (by decide)) b11).mono ?_
  rintro eE W18 ⟨rfl, hg18⟩
  have S18 := Lib.hid (S17.out.on (Nat.le_refl _) hg18)
  have hb18 : Below w.heap.size w W18 := (show Below w.heap.size w _ by go_grown).trans (hg18.mono (by first | omega | go_size))
  obtain ⟨hc18, hf18⟩ := bcell hg18
  have hs18 := hg18.size
  try simp only [World.size_alloc, World.size_setCell, World.size_drew] at hs18
  have hl18_0_0 : W18.cell? ⟨W2.heap.size, 0, none⟩ = some (num 3) := (hc18 _ _ (by first | omega | go_size)).trans (by first | (with_reducible assumption) | go_cell)
  have hz18_0_0 : W18.frozen? ⟨W2.heap.size, 0, none⟩ = false := (hf18 _ _ (by first | omega | go_size)).trans (by first | (with_reducible assumption) | (go_simp; done) | (simp [*]; done))
  have hl18_0_1 : W18.cell? ⟨W2.heap.size, 1, none⟩ = some (.slice C 3 cc) := (hc18 _ _ (by first | omega | go_size)).trans (by first | (with_reducible assumption) | go_cell)
  have hz18_0_1 : W18.frozen? ⟨W2.heap.size, 1, none⟩ = false := (hf18 _ _ (by first | omega | go_size)).trans (by first | (with_reducible assumption) | (go_simp; done) | (simp [*]; done))
  have hk18_0 : W2.heap.size < W18.heap.size := by omega
  clear hg18 hc18 hf18
  go_wp2_with fail
  refine (same_is 3 3 C C 3 3 cc cc (seqI 3) (seqI 3) true _ S18.out S18.out (by simp)).mono ?_
  rintro eE W19 ⟨rfl, hg19⟩
  have hb19 : Below w.heap.size w W19 := (show Below w.heap.size w _ by go_grown).trans (hg19.mono (by first | omega | go_size))
  obtain ⟨hc19, hf19⟩ := bcell hg19
  have hs19 := hg19.size
  try simp only [World.size_alloc, World.size_setCell, World.size_drew] at hs19
  clear hg19 hc19 hf19
  go_wp2_with fail
  go_ret
  exact ⟨rfl, by go_grown⟩

set_option maxRecDepth 100000 in
theorem lifted (os : Os) (started : os.Started) (H : Type) (enc : TypeId × Value → H) :
    ReturnsInHanded {} Try.checked os 4 .any (Rows.freeNamesSpec.pre6 enc Try.prog Try.f4 Rows.freeNamesRow.domain false) (Rows.freeNamesSpec.post enc Try.prog Try.f4 false true false false) := by
  refine Lib.lifted (C := Try.checked) (tb := 4) H enc Lib.own started (by kernel_rfl) Try.func4
    (ChangeSpec.witness6 (enc := enc) (C := Try.checked) false ⟨#[], #[], []⟩ 8 (by kernel_rfl) (by kernel_rfl) (by kernel_rfl) (by kernel_rfl))
    Lib.laidOut (Lib.readable_of (by kernel_rfl)) rfl Try.underlying4 rfl ?_ ?_
  · intro ds h
    match ds, h with
    | [], _ => exact ⟨rfl, rfl, rfl⟩
  · intro W base args ds p hval hA hfz hlt
    rw [Try.params4] at hval
    have hA' : DataW.TrodAll enc Try.prog W 0 (fun _ => true) true Try.f4.params.toList args.toList ds p := hA
    rw [Try.params4] at hA'
    obtain ⟨hargs, rfl, rfl⟩ := trodAll_nil hA'
    obtain rfl : args = #[] := by cases args; simp_all
    exact walk W

theorem over : Rows.freeNamesRow.holds Try.pinned (OpenSpec.ofChange Rows.freeNamesSpec) :=
  OpenClaim.holds_of_wide 4 Try.f4 rfl rfl rfl rfl rfl rfl rfl ⟨rfl, rfl, rfl, rfl, rfl⟩ rfl rfl rfl rfl rfl (by kernel_rfl) Try.func4 (by kernel_rfl)
    (of_decide_eq_true (by kernel_rfl)) (by unfold Func.isWrapper; first | (rw [if_pos (by decide +kernel)]; kernel_rfl) | (rw [if_neg (by decide +kernel)]; exact ⟨rfl, rfl⟩))
    (fun os started H enc _ => lifted os started H enc)

/-- The statement. -/
theorem proved : Rows.FreeNamesSaid :=
  over

end Go.Proofs.Ytkejcdephnkkgaa.FreeNames
