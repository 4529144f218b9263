/- The law StatusInits: a driver that follows the document brings every device to life, with what it wishes as far as possible; for any state and any wish. The features' rules as the program's text lays them. -/
import Derived.Test.YtmmgcmbniidieaaDoorStLives
import Derived.Test.YtmmgcmbniidieaaDoorStMath
import Derived.Test.YtmmgcmbniidieaaDoorStArgs
import Derived.Test.YtmmgcmbniidieaaDoorStR2
import Derived.Test.YtmmgcmbniidieaaDoorHeldEq
import Derived.Test.YtmmgcmbniidieaaDoorCards
namespace Go.Proofs.YtmmgcmbniidieaaDoor.StatusInits
open Go.ChangeShapes Go.WideShapes Go.ChangeAt Go.RowKit Fe St
set_option linter.unusedVariables false
set_option linter.unusedSimpArgs false

set_option maxRecDepth 100000 in
set_option maxHeartbeats 4000000 in
theorem walk_off (k : Int) (O G : Set64) (s : Byte) (X : Set64) (w : World) (hG : Door.Given w) (hv : validB k O G s = false) : Calls Tryd.prog 6 #[dev k O G s, st X] w (Lib.True1 w.heap.size w) := by
  unfold Lib.True1
  obtain ⟨ad, cap, hR⟩ := hG
  have hb0 : Below w.heap.size w w := Below.refl _ _
  have HR := Lib.hid hR
  have HV := Lib.hid hv
  have HC := Lib.hid (show (if validB k O G s then (0 : Int) else 2) = 2 by rw [hv]; rfl)
  clear hR hv
  go_enter Tryd.func6, Tryd.ntmps6
  go_wp2_with fail
  refine (St.lives_any ad cap _ (HR.out.below (by go_grown))).mono ?_
  rintro eE W1 ⟨rfl, hg1⟩
  have hb1 : Below w.heap.size w W1 := (show Below w.heap.size w _ by go_grown).trans (hg1.mono (by first | omega | go_size))
  obtain ⟨hc1, hf1⟩ := bcell hg1
  have hs1 := hg1.size
  try simp only [World.size_alloc, World.size_setCell, World.size_drew] at hs1
  have hl1_0_0 : W1.cell? ⟨w.heap.size, 0, none⟩ = some (num k) := (hc1 _ _ (by first | omega | go_size)).trans (by first | (with_reducible assumption) | go_cell)
  have hz1_0_0 : W1.frozen? ⟨w.heap.size, 0, none⟩ = false := (hf1 _ _ (by first | omega | go_size)).trans (by first | (with_reducible assumption) | (go_simp; done) | (simp [*]; done))
  have hl1_0_1 : W1.cell? ⟨w.heap.size, 1, none⟩ = some (st O) := (hc1 _ _ (by first | omega | go_size)).trans (by first | (with_reducible assumption) | go_cell)
  have hz1_0_1 : W1.frozen? ⟨w.heap.size, 1, none⟩ = false := (hf1 _ _ (by first | omega | go_size)).trans (by first | (with_reducible assumption) | (go_simp; done) | (simp [*]; done))
  have hl1_0_2 : W1.cell? ⟨w.heap.size, 2, none⟩ = some (st G) := (hc1 _ _ (by first | omega | go_size)).trans (by first | (with_reducible assumption) | go_cell)
  have hz1_0_2 : W1.frozen? ⟨w.heap.size, 2, none⟩ = false := (hf1 _ _ (by first | omega | go_size)).trans (by first | (with_reducible assumption) | (go_simp; done) | (simp [*]; done))
  have hl1_0_3 : W1.cell? ⟨w.heap.size, 3, none⟩ = some (by8 s) := (hc1 _ _ (by first | omega | go_size)).trans (by first | (with_reducible assumption) | go_cell)
  have hz1_0_3 : W1.frozen? ⟨w.heap.size, 3, none⟩ = false := (hf1 _ _ (by first | omega | go_size)).trans (by first | (with_reducible assumption) | (go_simp; done) | (simp [*]; done))
  have hk1_0 : w.heap.size < W1.heap.size := by omega
  clear hg1 hc1 hf1
  go_wp2_with fail
  refine (check_is k O G s 2 HC.out ad cap _ (HR.out.below (by go_grown))).mono ?_
  rintro eE W2 ⟨rfl, hg2⟩
  have hb2 : Below w.heap.size w W2 := (show Below w.heap.size w _ by go_grown).trans (hg2.mono (by first | omega | go_size))
  obtain ⟨hc2, hf2⟩ := bcell hg2
  have hs2 := hg2.size
  try simp only [World.size_alloc, World.size_setCell, World.size_drew] at hs2
  have hl2_0_0 : W2.cell? ⟨w.heap.size, 0, none⟩ = some (num k) := (hc2 _ _ (by first | omega | go_size)).trans (by first | (with_reducible assumption) | go_cell)
  have hz2_0_0 : W2.frozen? ⟨w.heap.size, 0, none⟩ = false := (hf2 _ _ (by first | omega | go_size)).trans (by first | (with_reducible assumption) | (go_simp; done) | (simp [*]; done))
  have hl2_0_1 : W2.cell? ⟨w.heap.size, 1, none⟩ = some (st O) := (hc2 _ _ (by first | omega | go_size)).trans (by first | (with_reducible assumption) | go_cell)
  have hz2_0_1 : W2.frozen? ⟨w.heap.size, 1, none⟩ = false := (hf2 _ _ (by first | omega | go_size)).trans (by first | (with_reducible assumption) | (go_simp; done) | (simp [*]; done))
  have hl2_0_2 : W2.cell? ⟨w.heap.size, 2, none⟩ = some (st G) := (hc2 _ _ (by first | omega | go_size)).trans (by first | (with_reducible assumption) | go_cell)
  have hz2_0_2 : W2.frozen? ⟨w.heap.size, 2, none⟩ = false := (hf2 _ _ (by first | omega | go_size)).trans (by first | (with_reducible assumption) | (go_simp; done) | (simp [*]; done))
  have hl2_0_3 : W2.cell? ⟨w.heap.size, 3, none⟩ = some (by8 s) := (hc2 _ _ (by first | omega | go_size)).trans (by first | (with_reducible assumption) | go_cell)
  have hz2_0_3 : W2.frozen? ⟨w.heap.size, 3, none⟩ = false := (hf2 _ _ (by first | omega | go_size)).trans (by first | (with_reducible assumption) | (go_simp; done) | (simp [*]; done))
  have hk2_0 : w.heap.size < W2.heap.size := by omega
  clear hg2 hc2 hf2
  go_wp2_with fail
  refine (init_no k O G s X HV.out ad cap _ (HR.out.below (by go_grown))).mono ?_
  rintro eE W3 ⟨rfl, hg3⟩
  have hb3 : Below w.heap.size w W3 := (show Below w.heap.size w _ by go_grown).trans (hg3.mono (by first | omega | go_size))
  obtain ⟨hc3, hf3⟩ := bcell hg3
  have hs3 := hg3.size
  try simp only [World.size_alloc, World.size_setCell, World.size_drew] at hs3
  have hl3_0_0 : W3.cell? ⟨w.heap.size, 0, none⟩ = some (num k) := (hc3 _ _ (by first | omega | go_size)).trans (by first | (with_reducible assumption) | go_cell)
  have hz3_0_0 : W3.frozen? ⟨w.heap.size, 0, none⟩ = false := (hf3 _ _ (by first | omega | go_size)).trans (by first | (with_reducible assumption) | (go_simp; done) | (simp [*]; done))
  have hl3_0_1 : W3.cell? ⟨w.heap.size, 1, none⟩ = some (st O) := (hc3 _ _ (by first | omega | go_size)).trans (by first | (with_reducible assumption) | go_cell)
  have hz3_0_1 : W3.frozen? ⟨w.heap.size, 1, none⟩ = false := (hf3 _ _ (by first | omega | go_size)).trans (by first | (with_reducible assumption) | (go_simp; done) | (simp [*]; done))
  have hl3_0_2 : W3.cell? ⟨w.heap.size, 2, none⟩ = some (st G) := (hc3 _ _ (by first | omega | go_size)).trans (by first | (with_reducible assumption) | go_cell)
  have hz3_0_2 : W3.frozen? ⟨w.heap.size, 2, none⟩ = false := (hf3 _ _ (by first | omega | go_size)).trans (by first | (with_reducible assumption) | (go_simp; done) | (simp [*]; done))
  have hl3_0_3 : W3.cell? ⟨w.heap.size, 3, none⟩ = some (by8 s) := (hc3 _ _ (by first | omega | go_size)).trans (by first | (with_reducible assumption) | go_cell)
  have hz3_0_3 : W3.frozen? ⟨w.heap.size, 3, none⟩ = false := (hf3 _ _ (by first | omega | go_size)).trans (by first | (with_reducible assumption) | (go_simp; done) | (simp [*]; done))
  have hk3_0 : w.heap.size < W3.heap.size := by omega
  clear hg3 hc3 hf3
  go_wp2_with fail
  go_ret
  exact ⟨rfl, by go_grown⟩

theorem or64 : (15#8 : Byte) ||| 64#8 = 79#8 := rfl
set_option maxRecDepth 100000 in
set_option maxHeartbeats 8000000 in
theorem walk_on (k : Int) (O G : Set64) (s : Byte) (X : Set64) (w : World) (hG : Door.Given w) (hv : validB k O G s = true) : Calls Tryd.prog 6 #[dev k O G s, st X] w (Lib.True1 w.heap.size w) := by
  unfold Lib.True1
  obtain ⟨ad, cap, hR⟩ := hG
  have hb0 : Below w.heap.size w w := Below.refl _ _
  have HR := Lib.hid hR
  have HV := Lib.hid hv
  have HC := Lib.hid (show (if validB k O G s then (0 : Int) else 2) = 0 by rw [hv]; rfl)
  have ho := offers_of hv
  obtain ⟨hb, hk⟩ := offers_best ho
  generalize hB : bestF k O X = B
  have ha : acceptB k O B = true := hB ▸ best_accepted hk hb
  have HB := Lib.hid hB
  have HO := Lib.hid ho
  have HA := Lib.hid ha
  have HK := Lib.hid hb
  have HAsk := Lib.hid (show askG k O 0#64 3#8 B = B by unfold askG askB; rw [v3 _ ho]; rfl)
  have h15 : validB k O B 15#8 = true := v15 ho ha
  have h79 : validB k O B 79#8 = true := valid_of ho rfl (by rw [ha]; cases (B == 0#64) <;> rfl)
  have H15 := Lib.hid h15
  have H79 := Lib.hid h79
  have HR15 := Lib.hid (show runsB k O B 15#8 = true by unfold runsB; rw [h15]; rfl)
  have HR79 := Lib.hid (show runsB k O B 79#8 = false by unfold runsB; rw [h79]; rfl)
  have HW79 := Lib.hid (show setTo 79#8 15#8 (acceptB k O B) 5 = 79#8 by rw [ha]; rfl)
  clear hR hv hB ho ha hb hk h15 h79
  have ek := beq_self_eq_true k
  have eO := beq_self_eq_true (nu O)
  have eB := beq_self_eq_true (nu B)
  go_enter Tryd.func6, Tryd.ntmps6
  go_wp2_with fail
  refine (St.lives_any ad cap _ (HR.out.below (by go_grown))).mono ?_
  rintro eE W1 ⟨rfl, hg1⟩
  have hb1 : Below w.heap.size w W1 := (show Below w.heap.size w _ by go_grown).trans (hg1.mono (by first | omega | go_size))
  obtain ⟨hc1, hf1⟩ := bcell hg1
  have hs1 := hg1.size
  try simp only [World.size_alloc, World.size_setCell, World.size_drew] at hs1
  have hl1_0_0 : W1.cell? ⟨w.heap.size, 0, none⟩ = some (num k) := (hc1 _ _ (by first | omega | go_size)).trans (by first | (with_reducible assumption) | go_cell)
  have hz1_0_0 : W1.frozen? ⟨w.heap.size, 0, none⟩ = false := (hf1 _ _ (by first | omega | go_size)).trans (by first | (with_reducible assumption) | (go_simp; done) | (simp [*]; done))
  have hl1_0_1 : W1.cell? ⟨w.heap.size, 1, none⟩ = some (st O) := (hc1 _ _ (by first | omega | go_size)).trans (by first | (with_reducible assumption) | go_cell)
  have hz1_0_1 : W1.frozen? ⟨w.heap.size, 1, none⟩ = false := (hf1 _ _ (by first | omega | go_size)).trans (by first | (with_reducible assumption) | (go_simp; done) | (simp [*]; done))
  have hl1_0_2 : W1.cell? ⟨w.heap.size, 2, none⟩ = some (st G) := (hc1 _ _ (by first | omega | go_size)).trans (by first | (with_reducible assumption) | go_cell)
  have hz1_0_2 : W1.frozen? ⟨w.heap.size, 2, none⟩ = false := (hf1 _ _ (by first | omega | go_size)).trans (by first | (with_reducible assumption) | (go_simp; done) | (simp [*]; done))
  have hl1_0_3 : W1.cell? ⟨w.heap.size, 3, none⟩ = some (by8 s) := (hc1 _ _ (by first | omega | go_size)).trans (by first | (with_reducible assumption) | go_cell)
  have hz1_0_3 : W1.frozen? ⟨w.heap.size, 3, none⟩ = false := (hf1 _ _ (by first | omega | go_size)).trans (by first | (with_reducible assumption) | (go_simp; done) | (simp [*]; done))
  have hk1_0 : w.heap.size < W1.heap.size := by omega
  clear hg1 hc1 hf1
  go_wp2_with fail
  refine (check_is k O G s 0 HC.out ad cap _ (HR.out.below (by go_grown))).mono ?_
  rintro eE W2 ⟨rfl, hg2⟩
  have hb2 : Below w.heap.size w W2 := (show Below w.heap.size w _ by go_grown).trans (hg2.mono (by first | omega | go_size))
  obtain ⟨hc2, hf2⟩ := bcell hg2
  have hs2 := hg2.size
  try simp only [World.size_alloc, World.size_setCell, World.size_drew] at hs2
  have hl2_0_0 : W2.cell? ⟨w.heap.size, 0, none⟩ = some (num k) := (hc2 _ _ (by first | omega | go_size)).trans (by first | (with_reducible assumption) | go_cell)
  have hz2_0_0 : W2.frozen? ⟨w.heap.size, 0, none⟩ = false := (hf2 _ _ (by first | omega | go_size)).trans (by first | (with_reducible assumption) | (go_simp; done) | (simp [*]; done))
  have hl2_0_1 : W2.cell? ⟨w.heap.size, 1, none⟩ = some (st O) := (hc2 _ _ (by first | omega | go_size)).trans (by first | (with_reducible assumption) | go_cell)
  have hz2_0_1 : W2.frozen? ⟨w.heap.size, 1, none⟩ = false := (hf2 _ _ (by first | omega | go_size)).trans (by first | (with_reducible assumption) | (go_simp; done) | (simp [*]; done))
  have hl2_0_2 : W2.cell? ⟨w.heap.size, 2, none⟩ = some (st G) := (hc2 _ _ (by first | omega | go_size)).trans (by first | (with_reducible assumption) | go_cell)
  have hz2_0_2 : W2.frozen? ⟨w.heap.size, 2, none⟩ = false := (hf2 _ _ (by first | omega | go_size)).trans (by first | (with_reducible assumption) | (go_simp; done) | (simp [*]; done))
  have hl2_0_3 : W2.cell? ⟨w.heap.size, 3, none⟩ = some (by8 s) := (hc2 _ _ (by first | omega | go_size)).trans (by first | (with_reducible assumption) | go_cell)
  have hz2_0_3 : W2.frozen? ⟨w.heap.size, 3, none⟩ = false := (hf2 _ _ (by first | omega | go_size)).trans (by first | (with_reducible assumption) | (go_simp; done) | (simp [*]; done))
  have hk2_0 : w.heap.size < W2.heap.size := by omega
  clear hg2 hc2 hf2
  go_wp2_with fail
  refine (init_ok k O G s X B HV.out HB.out ad cap _ (HR.out.below (by go_grown))).mono ?_
  rintro eE W3 ⟨rfl, hg3⟩
  have hb3 : Below w.heap.size w W3 := (show Below w.heap.size w _ by go_grown).trans (hg3.mono (by first | omega | go_size))
  obtain ⟨hc3, hf3⟩ := bcell hg3
  have hs3 := hg3.size
  try simp only [World.size_alloc, World.size_setCell, World.size_drew] at hs3
  have hl3_0_0 : W3.cell? ⟨w.heap.size, 0, none⟩ = some (num k) := (hc3 _ _ (by first | omega | go_size)).trans (by first | (with_reducible assumption) | go_cell)
  have hz3_0_0 : W3.frozen? ⟨w.heap.size, 0, none⟩ = false := (hf3 _ _ (by first | omega | go_size)).trans (by first | (with_reducible assumption) | (go_simp; done) | (simp [*]; done))
  have hl3_0_1 : W3.cell? ⟨w.heap.size, 1, none⟩ = some (st O) := (hc3 _ _ (by first | omega | go_size)).trans (by first | (with_reducible assumption) | go_cell)
  have hz3_0_1 : W3.frozen? ⟨w.heap.size, 1, none⟩ = false := (hf3 _ _ (by first | omega | go_size)).trans (by first | (with_reducible assumption) | (go_simp; done) | (simp [*]; done))
  have hl3_0_2 : W3.cell? ⟨w.heap.size, 2, none⟩ = some (st G) := (hc3 _ _ (by first | omega | go_size)).trans (by first | (with_reducible assumption) | go_cell)
  have hz3_0_2 : W3.frozen? ⟨w.heap.size, 2, none⟩ = false := (hf3 _ _ (by first | omega | go_size)).trans (by first | (with_reducible assumption) | (go_simp; done) | (simp [*]; done))
  have hl3_0_3 : W3.cell? ⟨w.heap.size, 3, none⟩ = some (by8 s) := (hc3 _ _ (by first | omega | go_size)).trans (by first | (with_reducible assumption) | go_cell)
  have hz3_0_3 : W3.frozen? ⟨w.heap.size, 3, none⟩ = false := (hf3 _ _ (by first | omega | go_size)).trans (by first | (with_reducible assumption) | (go_simp; done) | (simp [*]; done))
  have hk3_0 : w.heap.size < W3.heap.size := by omega
  clear hg3 hc3 hf3
  go_wp2_with fail
  refine (StR.best_is k O X B HB.out HK.out _).mono ?_
  rintro eE W4 ⟨rfl, hg4⟩
  have hb4 : Below w.heap.size w W4 := (show Below w.heap.size w _ by go_grown).trans (hg4.mono (by first | omega | go_size))
  obtain ⟨hc4, hf4⟩ := bcell hg4
  have hs4 := hg4.size
  try simp only [World.size_alloc, World.size_setCell, World.size_drew] at hs4
  have hl4_0_0 : W4.cell? ⟨w.heap.size, 0, none⟩ = some (num k) := (hc4 _ _ (by first | omega | go_size)).trans (by first | (with_reducible assumption) | go_cell)
  have hz4_0_0 : W4.frozen? ⟨w.heap.size, 0, none⟩ = false := (hf4 _ _ (by first | omega | go_size)).trans (by first | (with_reducible assumption) | (go_simp; done) | (simp [*]; done))
  have hl4_0_1 : W4.cell? ⟨w.heap.size, 1, none⟩ = some (st O) := (hc4 _ _ (by first | omega | go_size)).trans (by first | (with_reducible assumption) | go_cell)
  have hz4_0_1 : W4.frozen? ⟨w.heap.size, 1, none⟩ = false := (hf4 _ _ (by first | omega | go_size)).trans (by first | (with_reducible assumption) | (go_simp; done) | (simp [*]; done))
  have hl4_0_2 : W4.cell? ⟨w.heap.size, 2, none⟩ = some (st G) := (hc4 _ _ (by first | omega | go_size)).trans (by first | (with_reducible assumption) | go_cell)
  have hz4_0_2 : W4.frozen? ⟨w.heap.size, 2, none⟩ = false := (hf4 _ _ (by first | omega | go_size)).trans (by first | (with_reducible assumption) | (go_simp; done) | (simp [*]; done))
  have hl4_0_3 : W4.cell? ⟨w.heap.size, 3, none⟩ = some (by8 s) := (hc4 _ _ (by first | omega | go_size)).trans (by first | (with_reducible assumption) | go_cell)
  have hz4_0_3 : W4.frozen? ⟨w.heap.size, 3, none⟩ = false := (hf4 _ _ (by first | omega | go_size)).trans (by first | (with_reducible assumption) | (go_simp; done) | (simp [*]; done))
  have hk4_0 : w.heap.size < W4.heap.size := by omega
  have hl4_1_0 : W4.cell? ⟨W3.heap.size, 0, none⟩ = some (num k) := (hc4 _ _ (by first | omega | go_size)).trans (by first | (with_reducible assumption) | go_cell)
  have hz4_1_0 : W4.frozen? ⟨W3.heap.size, 0, none⟩ = false := (hf4 _ _ (by first | omega | go_size)).trans (by first | (with_reducible assumption) | (go_simp; done) | (simp [*]; done))
  have hl4_1_1 : W4.cell? ⟨W3.heap.size, 1, none⟩ = some (st O) := (hc4 _ _ (by first | omega | go_size)).trans (by first | (with_reducible assumption) | go_cell)
  have hz4_1_1 : W4.frozen? ⟨W3.heap.size, 1, none⟩ = false := (hf4 _ _ (by first | omega | go_size)).trans (by first | (with_reducible assumption) | (go_simp; done) | (simp [*]; done))
  have hl4_1_2 : W4.cell? ⟨W3.heap.size, 2, none⟩ = some (st B) := (hc4 _ _ (by first | omega | go_size)).trans (by first | (with_reducible assumption) | go_cell)
  have hz4_1_2 : W4.frozen? ⟨W3.heap.size, 2, none⟩ = false := (hf4 _ _ (by first | omega | go_size)).trans (by first | (with_reducible assumption) | (go_simp; done) | (simp [*]; done))
  have hl4_1_3 : W4.cell? ⟨W3.heap.size, 3, none⟩ = some (by8 15#8) := (hc4 _ _ (by first | omega | go_size)).trans (by first | (with_reducible assumption) | go_cell)
  have hz4_1_3 : W4.frozen? ⟨W3.heap.size, 3, none⟩ = false := (hf4 _ _ (by first | omega | go_size)).trans (by first | (with_reducible assumption) | (go_simp; done) | (simp [*]; done))
  have hk4_1 : W3.heap.size < W4.heap.size := by omega
  clear hg4 hc4 hf4
  go_wp2_with fail
  refine (write_zero k O G s HV.out ad cap _ (HR.out.below (by go_grown))).mono ?_
  rintro eE W5 ⟨rfl, hg5⟩
  have hb5 : Below w.heap.size w W5 := (show Below w.heap.size w _ by go_grown).trans (hg5.mono (by first | omega | go_size))
  obtain ⟨hc5, hf5⟩ := bcell hg5
  have hs5 := hg5.size
  try simp only [World.size_alloc, World.size_setCell, World.size_drew] at hs5
  have hl5_0_0 : W5.cell? ⟨w.heap.size, 0, none⟩ = some (num k) := (hc5 _ _ (by first | omega | go_size)).trans (by first | (with_reducible assumption) | go_cell)
  have hz5_0_0 : W5.frozen? ⟨w.heap.size, 0, none⟩ = false := (hf5 _ _ (by first | omega | go_size)).trans (by first | (with_reducible assumption) | (go_simp; done) | (simp [*]; done))
  have hl5_0_1 : W5.cell? ⟨w.heap.size, 1, none⟩ = some (st O) := (hc5 _ _ (by first | omega | go_size)).trans (by first | (with_reducible assumption) | go_cell)
  have hz5_0_1 : W5.frozen? ⟨w.heap.size, 1, none⟩ = false := (hf5 _ _ (by first | omega | go_size)).trans (by first | (with_reducible assumption) | (go_simp; done) | (simp [*]; done))
  have hl5_0_2 : W5.cell? ⟨w.heap.size, 2, none⟩ = some (st G) := (hc5 _ _ (by first | omega | go_size)).trans (by first | (with_reducible assumption) | go_cell)
  have hz5_0_2 : W5.frozen? ⟨w.heap.size, 2, none⟩ = false := (hf5 _ _ (by first | omega | go_size)).trans (by first | (with_reducible assumption) | (go_simp; done) | (simp [*]; done))
  have hl5_0_3 : W5.cell? ⟨w.heap.size, 3, none⟩ = some (by8 s) := (hc5 _ _ (by first | omega | go_size)).trans (by first | (with_reducible assumption) | go_cell)
  have hz5_0_3 : W5.frozen? ⟨w.heap.size, 3, none⟩ = false := (hf5 _ _ (by first | omega | go_size)).trans (by first | (with_reducible assumption) | (go_simp; done) | (simp [*]; done))
  have hk5_0 : w.heap.size < W5.heap.size := by omega
  have hl5_1_0 : W5.cell? ⟨W3.heap.size, 0, none⟩ = some (num k) := (hc5 _ _ (by first | omega | go_size)).trans (by first | (with_reducible assumption) | go_cell)
  have hz5_1_0 : W5.frozen? ⟨W3.heap.size, 0, none⟩ = false := (hf5 _ _ (by first | omega | go_size)).trans (by first | (with_reducible assumption) | (go_simp; done) | (simp [*]; done))
  have hl5_1_1 : W5.cell? ⟨W3.heap.size, 1, none⟩ = some (st O) := (hc5 _ _ (by first | omega | go_size)).trans (by first | (with_reducible assumption) | go_cell)
  have hz5_1_1 : W5.frozen? ⟨W3.heap.size, 1, none⟩ = false := (hf5 _ _ (by first | omega | go_size)).trans (by first | (with_reducible assumption) | (go_simp; done) | (simp [*]; done))
  have hl5_1_2 : W5.cell? ⟨W3.heap.size, 2, none⟩ = some (st B) := (hc5 _ _ (by first | omega | go_size)).trans (by first | (with_reducible assumption) | go_cell)
  have hz5_1_2 : W5.frozen? ⟨W3.heap.size, 2, none⟩ = false := (hf5 _ _ (by first | omega | go_size)).trans (by first | (with_reducible assumption) | (go_simp; done) | (simp [*]; done))
  have hl5_1_3 : W5.cell? ⟨W3.heap.size, 3, none⟩ = some (by8 15#8) := (hc5 _ _ (by first | omega | go_size)).trans (by first | (with_reducible assumption) | go_cell)
  have hz5_1_3 : W5.frozen? ⟨W3.heap.size, 3, none⟩ = false := (hf5 _ _ (by first | omega | go_size)).trans (by first | (with_reducible assumption) | (go_simp; done) | (simp [*]; done))
  have hk5_1 : W3.heap.size < W5.heap.size := by omega
  clear hg5 hc5 hf5
  go_wp2_with fail
  refine (write_to k O 0#64 0#8 1#8 1#8 (v0 HO.out) rfl (s01 _) ad cap _ (HR.out.below (by go_grown))).mono ?_
  rintro eE W6 ⟨rfl, hg6⟩
  have hb6 : Below w.heap.size w W6 := (show Below w.heap.size w _ by go_grown).trans (hg6.mono (by first | omega | go_size))
  obtain ⟨hc6, hf6⟩ := bcell hg6
  have hs6 := hg6.size
  try simp only [World.size_alloc, World.size_setCell, World.size_drew] at hs6
  have hl6_0_0 : W6.cell? ⟨W3.heap.size, 0, none⟩ = some (num k) := (hc6 _ _ (by first | omega | go_size)).trans (by first | (with_reducible assumption) | go_cell)
  have hz6_0_0 : W6.frozen? ⟨W3.heap.size, 0, none⟩ = false := (hf6 _ _ (by first | omega | go_size)).trans (by first | (with_reducible assumption) | (go_simp; done) | (simp [*]; done))
  have hl6_0_1 : W6.cell? ⟨W3.heap.size, 1, none⟩ = some (st O) := (hc6 _ _ (by first | omega | go_size)).trans (by first | (with_reducible assumption) | go_cell)
  have hz6_0_1 : W6.frozen? ⟨W3.heap.size, 1, none⟩ = false := (hf6 _ _ (by first | omega | go_size)).trans (by first | (with_reducible assumption) | (go_simp; done) | (simp [*]; done))
  have hl6_0_2 : W6.cell? ⟨W3.heap.size, 2, none⟩ = some (st B) := (hc6 _ _ (by first | omega | go_size)).trans (by first | (with_reducible assumption) | go_cell)
  have hz6_0_2 : W6.frozen? ⟨W3.heap.size, 2, none⟩ = false := (hf6 _ _ (by first | omega | go_size)).trans (by first | (with_reducible assumption) | (go_simp; done) | (simp [*]; done))
  have hl6_0_3 : W6.cell? ⟨W3.heap.size, 3, none⟩ = some (by8 15#8) := (hc6 _ _ (by first | omega | go_size)).trans (by first | (with_reducible assumption) | go_cell)
  have hz6_0_3 : W6.frozen? ⟨W3.heap.size, 3, none⟩ = false := (hf6 _ _ (by first | omega | go_size)).trans (by first | (with_reducible assumption) | (go_simp; done) | (simp [*]; done))
  have hk6_0 : W3.heap.size < W6.heap.size := by omega
  clear hg6 hc6 hf6
  go_wp2_with fail
  refine (write_to k O 0#64 1#8 3#8 3#8 (v1' HO.out) rfl (s13 _) ad cap _ (HR.out.below (by go_grown))).mono ?_
  rintro eE W7 ⟨rfl, hg7⟩
  have hb7 : Below w.heap.size w W7 := (show Below w.heap.size w _ by go_grown).trans (hg7.mono (by first | omega | go_size))
  obtain ⟨hc7, hf7⟩ := bcell hg7
  have hs7 := hg7.size
  try simp only [World.size_alloc, World.size_setCell, World.size_drew] at hs7
  have hl7_0_0 : W7.cell? ⟨W3.heap.size, 0, none⟩ = some (num k) := (hc7 _ _ (by first | omega | go_size)).trans (by first | (with_reducible assumption) | go_cell)
  have hz7_0_0 : W7.frozen? ⟨W3.heap.size, 0, none⟩ = false := (hf7 _ _ (by first | omega | go_size)).trans (by first | (with_reducible assumption) | (go_simp; done) | (simp [*]; done))
  have hl7_0_1 : W7.cell? ⟨W3.heap.size, 1, none⟩ = some (st O) := (hc7 _ _ (by first | omega | go_size)).trans (by first | (with_reducible assumption) | go_cell)
  have hz7_0_1 : W7.frozen? ⟨W3.heap.size, 1, none⟩ = false := (hf7 _ _ (by first | omega | go_size)).trans (by first | (with_reducible assumption) | (go_simp; done) | (simp [*]; done))
  have hl7_0_2 : W7.cell? ⟨W3.heap.size, 2, none⟩ = some (st B) := (hc7 _ _ (by first | omega | go_size)).trans (by first | (with_reducible assumption) | go_cell)
  have hz7_0_2 : W7.frozen? ⟨W3.heap.size, 2, none⟩ = false := (hf7 _ _ (by first | omega | go_size)).trans (by first | (with_reducible assumption) | (go_simp; done) | (simp [*]; done))
  have hl7_0_3 : W7.cell? ⟨W3.heap.size, 3, none⟩ = some (by8 15#8) := (hc7 _ _ (by first | omega | go_size)).trans (by first | (with_reducible assumption) | go_cell)
  have hz7_0_3 : W7.frozen? ⟨W3.heap.size, 3, none⟩ = false := (hf7 _ _ (by first | omega | go_size)).trans (by first | (with_reducible assumption) | (go_simp; done) | (simp [*]; done))
  have hk7_0 : W3.heap.size < W7.heap.size := by omega
  clear hg7 hc7 hf7
  go_wp2_with fail
  refine (ask_is k O 0#64 3#8 B B HAsk.out ad cap _ (HR.out.below (by go_grown))).mono ?_
  rintro eE W8 ⟨rfl, hg8⟩
  have hb8 : Below w.heap.size w W8 := (show Below w.heap.size w _ by go_grown).trans (hg8.mono (by first | omega | go_size))
  obtain ⟨hc8, hf8⟩ := bcell hg8
  have hs8 := hg8.size
  try simp only [World.size_alloc, World.size_setCell, World.size_drew] at hs8
  have hl8_0_0 : W8.cell? ⟨W3.heap.size, 0, none⟩ = some (num k) := (hc8 _ _ (by first | omega | go_size)).trans (by first | (with_reducible assumption) | go_cell)
  have hz8_0_0 : W8.frozen? ⟨W3.heap.size, 0, none⟩ = false := (hf8 _ _ (by first | omega | go_size)).trans (by first | (with_reducible assumption) | (go_simp; done) | (simp [*]; done))
  have hl8_0_1 : W8.cell? ⟨W3.heap.size, 1, none⟩ = some (st O) := (hc8 _ _ (by first | omega | go_size)).trans (by first | (with_reducible assumption) | go_cell)
  have hz8_0_1 : W8.frozen? ⟨W3.heap.size, 1, none⟩ = false := (hf8 _ _ (by first | omega | go_size)).trans (by first | (with_reducible assumption) | (go_simp; done) | (simp [*]; done))
  have hl8_0_2 : W8.cell? ⟨W3.heap.size, 2, none⟩ = some (st B) := (hc8 _ _ (by first | omega | go_size)).trans (by first | (with_reducible assumption) | go_cell)
  have hz8_0_2 : W8.frozen? ⟨W3.heap.size, 2, none⟩ = false := (hf8 _ _ (by first | omega | go_size)).trans (by first | (with_reducible assumption) | (go_simp; done) | (simp [*]; done))
  have hl8_0_3 : W8.cell? ⟨W3.heap.size, 3, none⟩ = some (by8 15#8) := (hc8 _ _ (by first | omega | go_size)).trans (by first | (with_reducible assumption) | go_cell)
  have hz8_0_3 : W8.frozen? ⟨W3.heap.size, 3, none⟩ = false := (hf8 _ _ (by first | omega | go_size)).trans (by first | (with_reducible assumption) | (go_simp; done) | (simp [*]; done))
  have hk8_0 : W3.heap.size < W8.heap.size := by omega
  have hl8_1_0 : W8.cell? ⟨W7.heap.size, 0, none⟩ = some (num k) := (hc8 _ _ (by first | omega | go_size)).trans (by first | (with_reducible assumption) | go_cell)
  have hz8_1_0 : W8.frozen? ⟨W7.heap.size, 0, none⟩ = false := (hf8 _ _ (by first | omega | go_size)).trans (by first | (with_reducible assumption) | (go_simp; done) | (simp [*]; done))
  have hl8_1_1 : W8.cell? ⟨W7.heap.size, 1, none⟩ = some (st O) := (hc8 _ _ (by first | omega | go_size)).trans (by first | (with_reducible assumption) | go_cell)
  have hz8_1_1 : W8.frozen? ⟨W7.heap.size, 1, none⟩ = false := (hf8 _ _ (by first | omega | go_size)).trans (by first | (with_reducible assumption) | (go_simp; done) | (simp [*]; done))
  have hl8_1_2 : W8.cell? ⟨W7.heap.size, 2, none⟩ = some (st 0#64) := (hc8 _ _ (by first | omega | go_size)).trans (by first | (with_reducible assumption) | go_cell)
  have hz8_1_2 : W8.frozen? ⟨W7.heap.size, 2, none⟩ = false := (hf8 _ _ (by first | omega | go_size)).trans (by first | (with_reducible assumption) | (go_simp; done) | (simp [*]; done))
  have hl8_1_3 : W8.cell? ⟨W7.heap.size, 3, none⟩ = some (by8 3#8) := (hc8 _ _ (by first | omega | go_size)).trans (by first | (with_reducible assumption) | go_cell)
  have hz8_1_3 : W8.frozen? ⟨W7.heap.size, 3, none⟩ = false := (hf8 _ _ (by first | omega | go_size)).trans (by first | (with_reducible assumption) | (go_simp; done) | (simp [*]; done))
  have hk8_1 : W7.heap.size < W8.heap.size := by omega
  clear hg8 hc8 hf8
  go_wp2_with fail
  refine (write_to k O B 3#8 11#8 11#8 (v3 B HO.out) rfl (s311 HA.out) ad cap _ (HR.out.below (by go_grown))).mono ?_
  rintro eE W9 ⟨rfl, hg9⟩
  have hb9 : Below w.heap.size w W9 := (show Below w.heap.size w _ by go_grown).trans (hg9.mono (by first | omega | go_size))
  obtain ⟨hc9, hf9⟩ := bcell hg9
  have hs9 := hg9.size
  try simp only [World.size_alloc, World.size_setCell, World.size_drew] at hs9
  have hl9_0_0 : W9.cell? ⟨W3.heap.size, 0, none⟩ = some (num k) := (hc9 _ _ (by first | omega | go_size)).trans (by first | (with_reducible assumption) | go_cell)
  have hz9_0_0 : W9.frozen? ⟨W3.heap.size, 0, none⟩ = false := (hf9 _ _ (by first | omega | go_size)).trans (by first | (with_reducible assumption) | (go_simp; done) | (simp [*]; done))
  have hl9_0_1 : W9.cell? ⟨W3.heap.size, 1, none⟩ = some (st O) := (hc9 _ _ (by first | omega | go_size)).trans (by first | (with_reducible assumption) | go_cell)
  have hz9_0_1 : W9.frozen? ⟨W3.heap.size, 1, none⟩ = false := (hf9 _ _ (by first | omega | go_size)).trans (by first | (with_reducible assumption) | (go_simp; done) | (simp [*]; done))
  have hl9_0_2 : W9.cell? ⟨W3.heap.size, 2, none⟩ = some (st B) := (hc9 _ _ (by first | omega | go_size)).trans (by first | (with_reducible assumption) | go_cell)
  have hz9_0_2 : W9.frozen? ⟨W3.heap.size, 2, none⟩ = false := (hf9 _ _ (by first | omega | go_size)).trans (by first | (with_reducible assumption) | (go_simp; done) | (simp [*]; done))
  have hl9_0_3 : W9.cell? ⟨W3.heap.size, 3, none⟩ = some (by8 15#8) := (hc9 _ _ (by first | omega | go_size)).trans (by first | (with_reducible assumption) | go_cell)
  have hz9_0_3 : W9.frozen? ⟨W3.heap.size, 3, none⟩ = false := (hf9 _ _ (by first | omega | go_size)).trans (by first | (with_reducible assumption) | (go_simp; done) | (simp [*]; done))
  have hk9_0 : W3.heap.size < W9.heap.size := by omega
  have hl9_1_0 : W9.cell? ⟨W7.heap.size, 0, none⟩ = some (num k) := (hc9 _ _ (by first | omega | go_size)).trans (by first | (with_reducible assumption) | go_cell)
  have hz9_1_0 : W9.frozen? ⟨W7.heap.size, 0, none⟩ = false := (hf9 _ _ (by first | omega | go_size)).trans (by first | (with_reducible assumption) | (go_simp; done) | (simp [*]; done))
  have hl9_1_1 : W9.cell? ⟨W7.heap.size, 1, none⟩ = some (st O) := (hc9 _ _ (by first | omega | go_size)).trans (by first | (with_reducible assumption) | go_cell)
  have hz9_1_1 : W9.frozen? ⟨W7.heap.size, 1, none⟩ = false := (hf9 _ _ (by first | omega | go_size)).trans (by first | (with_reducible assumption) | (go_simp; done) | (simp [*]; done))
  have hl9_1_2 : W9.cell? ⟨W7.heap.size, 2, none⟩ = some (st 0#64) := (hc9 _ _ (by first | omega | go_size)).trans (by first | (with_reducible assumption) | go_cell)
  have hz9_1_2 : W9.frozen? ⟨W7.heap.size, 2, none⟩ = false := (hf9 _ _ (by first | omega | go_size)).trans (by first | (with_reducible assumption) | (go_simp; done) | (simp [*]; done))
  have hl9_1_3 : W9.cell? ⟨W7.heap.size, 3, none⟩ = some (by8 3#8) := (hc9 _ _ (by first | omega | go_size)).trans (by first | (with_reducible assumption) | go_cell)
  have hz9_1_3 : W9.frozen? ⟨W7.heap.size, 3, none⟩ = false := (hf9 _ _ (by first | omega | go_size)).trans (by first | (with_reducible assumption) | (go_simp; done) | (simp [*]; done))
  have hk9_1 : W7.heap.size < W9.heap.size := by omega
  clear hg9 hc9 hf9
  go_wp2_with fail
  refine (write_to k O B 11#8 15#8 15#8 (v11 HO.out HA.out) rfl (s1115 _) ad cap _ (HR.out.below (by go_grown))).mono ?_
  rintro eE W10 ⟨rfl, hg10⟩
  have hb10 : Below w.heap.size w W10 := (show Below w.heap.size w _ by go_grown).trans (hg10.mono (by first | omega | go_size))
  obtain ⟨hc10, hf10⟩ := bcell hg10
  have hs10 := hg10.size
  try simp only [World.size_alloc, World.size_setCell, World.size_drew] at hs10
  have hl10_0_0 : W10.cell? ⟨W3.heap.size, 0, none⟩ = some (num k) := (hc10 _ _ (by first | omega | go_size)).trans (by first | (with_reducible assumption) | go_cell)
  have hz10_0_0 : W10.frozen? ⟨W3.heap.size, 0, none⟩ = false := (hf10 _ _ (by first | omega | go_size)).trans (by first | (with_reducible assumption) | (go_simp; done) | (simp [*]; done))
  have hl10_0_1 : W10.cell? ⟨W3.heap.size, 1, none⟩ = some (st O) := (hc10 _ _ (by first | omega | go_size)).trans (by first | (with_reducible assumption) | go_cell)
  have hz10_0_1 : W10.frozen? ⟨W3.heap.size, 1, none⟩ = false := (hf10 _ _ (by first | omega | go_size)).trans (by first | (with_reducible assumption) | (go_simp; done) | (simp [*]; done))
  have hl10_0_2 : W10.cell? ⟨W3.heap.size, 2, none⟩ = some (st B) := (hc10 _ _ (by first | omega | go_size)).trans (by first | (with_reducible assumption) | go_cell)
  have hz10_0_2 : W10.frozen? ⟨W3.heap.size, 2, none⟩ = false := (hf10 _ _ (by first | omega | go_size)).trans (by first | (with_reducible assumption) | (go_simp; done) | (simp [*]; done))
  have hl10_0_3 : W10.cell? ⟨W3.heap.size, 3, none⟩ = some (by8 15#8) := (hc10 _ _ (by first | omega | go_size)).trans (by first | (with_reducible assumption) | go_cell)
  have hz10_0_3 : W10.frozen? ⟨W3.heap.size, 3, none⟩ = false := (hf10 _ _ (by first | omega | go_size)).trans (by first | (with_reducible assumption) | (go_simp; done) | (simp [*]; done))
  have hk10_0 : W3.heap.size < W10.heap.size := by omega
  have hl10_1_0 : W10.cell? ⟨W7.heap.size, 0, none⟩ = some (num k) := (hc10 _ _ (by first | omega | go_size)).trans (by first | (with_reducible assumption) | go_cell)
  have hz10_1_0 : W10.frozen? ⟨W7.heap.size, 0, none⟩ = false := (hf10 _ _ (by first | omega | go_size)).trans (by first | (with_reducible assumption) | (go_simp; done) | (simp [*]; done))
  have hl10_1_1 : W10.cell? ⟨W7.heap.size, 1, none⟩ = some (st O) := (hc10 _ _ (by first | omega | go_size)).trans (by first | (with_reducible assumption) | go_cell)
  have hz10_1_1 : W10.frozen? ⟨W7.heap.size, 1, none⟩ = false := (hf10 _ _ (by first | omega | go_size)).trans (by first | (with_reducible assumption) | (go_simp; done) | (simp [*]; done))
  have hl10_1_2 : W10.cell? ⟨W7.heap.size, 2, none⟩ = some (st 0#64) := (hc10 _ _ (by first | omega | go_size)).trans (by first | (with_reducible assumption) | go_cell)
  have hz10_1_2 : W10.frozen? ⟨W7.heap.size, 2, none⟩ = false := (hf10 _ _ (by first | omega | go_size)).trans (by first | (with_reducible assumption) | (go_simp; done) | (simp [*]; done))
  have hl10_1_3 : W10.cell? ⟨W7.heap.size, 3, none⟩ = some (by8 3#8) := (hc10 _ _ (by first | omega | go_size)).trans (by first | (with_reducible assumption) | go_cell)
  have hz10_1_3 : W10.frozen? ⟨W7.heap.size, 3, none⟩ = false := (hf10 _ _ (by first | omega | go_size)).trans (by first | (with_reducible assumption) | (go_simp; done) | (simp [*]; done))
  have hk10_1 : W7.heap.size < W10.heap.size := by omega
  clear hg10 hc10 hf10
  go_wp2_with fail
  refine (break_ok k O B 15#8 H15.out rfl 79#8 or64 ad cap _ (HR.out.below (by go_grown))).mono ?_
  rintro eE W11 ⟨rfl, hg11⟩
  have hb11 : Below w.heap.size w W11 := (show Below w.heap.size w _ by go_grown).trans (hg11.mono (by first | omega | go_size))
  obtain ⟨hc11, hf11⟩ := bcell hg11
  have hs11 := hg11.size
  try simp only [World.size_alloc, World.size_setCell, World.size_drew] at hs11
  have hl11_0_0 : W11.cell? ⟨W3.heap.size, 0, none⟩ = some (num k) := (hc11 _ _ (by first | omega | go_size)).trans (by first | (with_reducible assumption) | go_cell)
  have hz11_0_0 : W11.frozen? ⟨W3.heap.size, 0, none⟩ = false := (hf11 _ _ (by first | omega | go_size)).trans (by first | (with_reducible assumption) | (go_simp; done) | (simp [*]; done))
  have hl11_0_1 : W11.cell? ⟨W3.heap.size, 1, none⟩ = some (st O) := (hc11 _ _ (by first | omega | go_size)).trans (by first | (with_reducible assumption) | go_cell)
  have hz11_0_1 : W11.frozen? ⟨W3.heap.size, 1, none⟩ = false := (hf11 _ _ (by first | omega | go_size)).trans (by first | (with_reducible assumption) | (go_simp; done) | (simp [*]; done))
  have hl11_0_2 : W11.cell? ⟨W3.heap.size, 2, none⟩ = some (st B) := (hc11 _ _ (by first | omega | go_size)).trans (by first | (with_reducible assumption) | go_cell)
  have hz11_0_2 : W11.frozen? ⟨W3.heap.size, 2, none⟩ = false := (hf11 _ _ (by first | omega | go_size)).trans (by first | (with_reducible assumption) | (go_simp; done) | (simp [*]; done))
  have hl11_0_3 : W11.cell? ⟨W3.heap.size, 3, none⟩ = some (by8 15#8) := (hc11 _ _ (by first | omega | go_size)).trans (by first | (with_reducible assumption) | go_cell)
  have hz11_0_3 : W11.frozen? ⟨W3.heap.size, 3, none⟩ = false := (hf11 _ _ (by first | omega | go_size)).trans (by first | (with_reducible assumption) | (go_simp; done) | (simp [*]; done))
  have hk11_0 : W3.heap.size < W11.heap.size := by omega
  have hl11_1_0 : W11.cell? ⟨W7.heap.size, 0, none⟩ = some (num k) := (hc11 _ _ (by first | omega | go_size)).trans (by first | (with_reducible assumption) | go_cell)
  have hz11_1_0 : W11.frozen? ⟨W7.heap.size, 0, none⟩ = false := (hf11 _ _ (by first | omega | go_size)).trans (by first | (with_reducible assumption) | (go_simp; done) | (simp [*]; done))
  have hl11_1_1 : W11.cell? ⟨W7.heap.size, 1, none⟩ = some (st O) := (hc11 _ _ (by first | omega | go_size)).trans (by first | (with_reducible assumption) | go_cell)
  have hz11_1_1 : W11.frozen? ⟨W7.heap.size, 1, none⟩ = false := (hf11 _ _ (by first | omega | go_size)).trans (by first | (with_reducible assumption) | (go_simp; done) | (simp [*]; done))
  have hl11_1_2 : W11.cell? ⟨W7.heap.size, 2, none⟩ = some (st B) := (hc11 _ _ (by first | omega | go_size)).trans (by first | (with_reducible assumption) | go_cell)
  have hz11_1_2 : W11.frozen? ⟨W7.heap.size, 2, none⟩ = false := (hf11 _ _ (by first | omega | go_size)).trans (by first | (with_reducible assumption) | (go_simp; done) | (simp [*]; done))
  have hl11_1_3 : W11.cell? ⟨W7.heap.size, 3, none⟩ = some (by8 15#8) := (hc11 _ _ (by first | omega | go_size)).trans (by first | (with_reducible assumption) | go_cell)
  have hz11_1_3 : W11.frozen? ⟨W7.heap.size, 3, none⟩ = false := (hf11 _ _ (by first | omega | go_size)).trans (by first | (with_reducible assumption) | (go_simp; done) | (simp [*]; done))
  have hk11_1 : W7.heap.size < W11.heap.size := by omega
  clear hg11 hc11 hf11
  go_wp2_with fail
  refine (init_ok k O B 79#8 X B H79.out HB.out ad cap _ (HR.out.below (by go_grown))).mono ?_
  rintro eE W12 ⟨rfl, hg12⟩
  have hb12 : Below w.heap.size w W12 := (show Below w.heap.size w _ by go_grown).trans (hg12.mono (by first | omega | go_size))
  obtain ⟨hc12, hf12⟩ := bcell hg12
  have hs12 := hg12.size
  try simp only [World.size_alloc, World.size_setCell, World.size_drew] at hs12
  have hl12_0_0 : W12.cell? ⟨W3.heap.size, 0, none⟩ = some (num k) := (hc12 _ _ (by first | omega | go_size)).trans (by first | (with_reducible assumption) | go_cell)
  have hz12_0_0 : W12.frozen? ⟨W3.heap.size, 0, none⟩ = false := (hf12 _ _ (by first | omega | go_size)).trans (by first | (with_reducible assumption) | (go_simp; done) | (simp [*]; done))
  have hl12_0_1 : W12.cell? ⟨W3.heap.size, 1, none⟩ = some (st O) := (hc12 _ _ (by first | omega | go_size)).trans (by first | (with_reducible assumption) | go_cell)
  have hz12_0_1 : W12.frozen? ⟨W3.heap.size, 1, none⟩ = false := (hf12 _ _ (by first | omega | go_size)).trans (by first | (with_reducible assumption) | (go_simp; done) | (simp [*]; done))
  have hl12_0_2 : W12.cell? ⟨W3.heap.size, 2, none⟩ = some (st B) := (hc12 _ _ (by first | omega | go_size)).trans (by first | (with_reducible assumption) | go_cell)
  have hz12_0_2 : W12.frozen? ⟨W3.heap.size, 2, none⟩ = false := (hf12 _ _ (by first | omega | go_size)).trans (by first | (with_reducible assumption) | (go_simp; done) | (simp [*]; done))
  have hl12_0_3 : W12.cell? ⟨W3.heap.size, 3, none⟩ = some (by8 15#8) := (hc12 _ _ (by first | omega | go_size)).trans (by first | (with_reducible assumption) | go_cell)
  have hz12_0_3 : W12.frozen? ⟨W3.heap.size, 3, none⟩ = false := (hf12 _ _ (by first | omega | go_size)).trans (by first | (with_reducible assumption) | (go_simp; done) | (simp [*]; done))
  have hk12_0 : W3.heap.size < W12.heap.size := by omega
  have hl12_1_0 : W12.cell? ⟨W7.heap.size, 0, none⟩ = some (num k) := (hc12 _ _ (by first | omega | go_size)).trans (by first | (with_reducible assumption) | go_cell)
  have hz12_1_0 : W12.frozen? ⟨W7.heap.size, 0, none⟩ = false := (hf12 _ _ (by first | omega | go_size)).trans (by first | (with_reducible assumption) | (go_simp; done) | (simp [*]; done))
  have hl12_1_1 : W12.cell? ⟨W7.heap.size, 1, none⟩ = some (st O) := (hc12 _ _ (by first | omega | go_size)).trans (by first | (with_reducible assumption) | go_cell)
  have hz12_1_1 : W12.frozen? ⟨W7.heap.size, 1, none⟩ = false := (hf12 _ _ (by first | omega | go_size)).trans (by first | (with_reducible assumption) | (go_simp; done) | (simp [*]; done))
  have hl12_1_2 : W12.cell? ⟨W7.heap.size, 2, none⟩ = some (st B) := (hc12 _ _ (by first | omega | go_size)).trans (by first | (with_reducible assumption) | go_cell)
  have hz12_1_2 : W12.frozen? ⟨W7.heap.size, 2, none⟩ = false := (hf12 _ _ (by first | omega | go_size)).trans (by first | (with_reducible assumption) | (go_simp; done) | (simp [*]; done))
  have hl12_1_3 : W12.cell? ⟨W7.heap.size, 3, none⟩ = some (by8 15#8) := (hc12 _ _ (by first | omega | go_size)).trans (by first | (with_reducible assumption) | go_cell)
  have hz12_1_3 : W12.frozen? ⟨W7.heap.size, 3, none⟩ = false := (hf12 _ _ (by first | omega | go_size)).trans (by first | (with_reducible assumption) | (go_simp; done) | (simp [*]; done))
  have hk12_1 : W7.heap.size < W12.heap.size := by omega
  have hl12_2_0 : W12.cell? ⟨W11.heap.size, 0, none⟩ = some (num k) := (hc12 _ _ (by first | omega | go_size)).trans (by first | (with_reducible assumption) | go_cell)
  have hz12_2_0 : W12.frozen? ⟨W11.heap.size, 0, none⟩ = false := (hf12 _ _ (by first | omega | go_size)).trans (by first | (with_reducible assumption) | (go_simp; done) | (simp [*]; done))
  have hl12_2_1 : W12.cell? ⟨W11.heap.size, 1, none⟩ = some (st O) := (hc12 _ _ (by first | omega | go_size)).trans (by first | (with_reducible assumption) | go_cell)
  have hz12_2_1 : W12.frozen? ⟨W11.heap.size, 1, none⟩ = false := (hf12 _ _ (by first | omega | go_size)).trans (by first | (with_reducible assumption) | (go_simp; done) | (simp [*]; done))
  have hl12_2_2 : W12.cell? ⟨W11.heap.size, 2, none⟩ = some (st B) := (hc12 _ _ (by first | omega | go_size)).trans (by first | (with_reducible assumption) | go_cell)
  have hz12_2_2 : W12.frozen? ⟨W11.heap.size, 2, none⟩ = false := (hf12 _ _ (by first | omega | go_size)).trans (by first | (with_reducible assumption) | (go_simp; done) | (simp [*]; done))
  have hl12_2_3 : W12.cell? ⟨W11.heap.size, 3, none⟩ = some (by8 79#8) := (hc12 _ _ (by first | omega | go_size)).trans (by first | (with_reducible assumption) | go_cell)
  have hz12_2_3 : W12.frozen? ⟨W11.heap.size, 3, none⟩ = false := (hf12 _ _ (by first | omega | go_size)).trans (by first | (with_reducible assumption) | (go_simp; done) | (simp [*]; done))
  have hk12_2 : W11.heap.size < W12.heap.size := by omega
  clear hg12 hc12 hf12
  go_wp2_with fail
  refine Lib.wp_region_class (Lib.Held w _ [(W3.heap.size, 0, (num k : Value)), (W3.heap.size, 1, (st O : Value)), (W3.heap.size, 2, (st B : Value)), (W3.heap.size, 3, (by8 15#8 : Value)), (W7.heap.size, 0, (num k : Value)), (W7.heap.size, 1, (st O : Value)), (W7.heap.size, 2, (st B : Value)), (W7.heap.size, 3, (by8 15#8 : Value)), (W11.heap.size, 0, (num k : Value)), (W11.heap.size, 1, (st O : Value)), (W11.heap.size, 2, (st B : Value)), (W11.heap.size, 3, (by8 79#8 : Value)), (W12.heap.size, 0, (num k : Value)), (W12.heap.size, 1, (st O : Value)), (W12.heap.size, 2, (st B : Value)), (W12.heap.size, 3, (by8 15#8 : Value))]) (by kernel_rfl) (by kernel_rfl) ⟨by go_grown, Below.refl _ _, ⟨by first | omega | go_size, by first | go_cell | (simp [*]; done), by first | (with_reducible assumption) | (go_simp; done) | (simp [*]; done)⟩, ⟨by first | omega | go_size, by first | go_cell | (simp [*]; done), by first | (with_reducible assumption) | (go_simp; done) | (simp [*]; done)⟩, ⟨by first | omega | go_size, by first | go_cell | (simp [*]; done), by first | (with_reducible assumption) | (go_simp; done) | (simp [*]; done)⟩, ⟨by first | omega | go_size, by first | go_cell | (simp [*]; done), by first | (with_reducible assumption) | (go_simp; done) | (simp [*]; done)⟩, ⟨by first | omega | go_size, by first | go_cell | (simp [*]; done), by first | (with_reducible assumption) | (go_simp; done) | (simp [*]; done)⟩, ⟨by first | omega | go_size, by first | go_cell | (simp [*]; done), by first | (with_reducible assumption) | (go_simp; done) | (simp [*]; done)⟩, ⟨by first | omega | go_size, by first | go_cell | (simp [*]; done), by first | (with_reducible assumption) | (go_simp; done) | (simp [*]; done)⟩, ⟨by first | omega | go_size, by first | go_cell | (simp [*]; done), by first | (with_reducible assumption) | (go_simp; done) | (simp [*]; done)⟩, ⟨by first | omega | go_size, by first | go_cell | (simp [*]; done), by first | (with_reducible assumption) | (go_simp; done) | (simp [*]; done)⟩, ⟨by first | omega | go_size, by first | go_cell | (simp [*]; done), by first | (with_reducible assumption) | (go_simp; done) | (simp [*]; done)⟩, ⟨by first | omega | go_size, by first | go_cell | (simp [*]; done), by first | (with_reducible assumption) | (go_simp; done) | (simp [*]; done)⟩, ⟨by first | omega | go_size, by first | go_cell | (simp [*]; done), by first | (with_reducible assumption) | (go_simp; done) | (simp [*]; done)⟩, ⟨by first | omega | go_size, by first | go_cell | (simp [*]; done), by first | (with_reducible assumption) | (go_simp; done) | (simp [*]; done)⟩, ⟨by first | omega | go_size, by first | go_cell | (simp [*]; done), by first | (with_reducible assumption) | (go_simp; done) | (simp [*]; done)⟩, ⟨by first | omega | go_size, by first | go_cell | (simp [*]; done), by first | (with_reducible assumption) | (go_simp; done) | (simp [*]; done)⟩, ⟨by first | omega | go_size, by first | go_cell | (simp [*]; done), by first | (with_reducible assumption) | (go_simp; done) | (simp [*]; done)⟩, trivial⟩ ?_
  repeat (first | go_big_quiet_step ((intro hq; first | rfl | (go_at_call 12; exact Lib.Held.callEq hq (runs_is k O B 15#8 true HR15.out ad cap _ (HR.out.below hq.1)) rfl) | (go_at_call 12; exact Lib.Held.callEq hq (runs_is k O B 79#8 false HR79.out ad cap _ (HR.out.below hq.1)) rfl) | (go_at_call 13; exact Lib.Held.call hq (write_to k O B 79#8 15#8 79#8 H79.out rfl HW79.out ad cap _ (HR.out.below hq.1))) | (have hq' := hq; obtain ⟨hbq, heq, ⟨hkq_0, hlq_0, hzq_0⟩, ⟨hkq_1, hlq_1, hzq_1⟩, ⟨hkq_2, hlq_2, hzq_2⟩, ⟨hkq_3, hlq_3, hzq_3⟩, ⟨hkq_4, hlq_4, hzq_4⟩, ⟨hkq_5, hlq_5, hzq_5⟩, ⟨hkq_6, hlq_6, hzq_6⟩, ⟨hkq_7, hlq_7, hzq_7⟩, ⟨hkq_8, hlq_8, hzq_8⟩, ⟨hkq_9, hlq_9, hzq_9⟩, ⟨hkq_10, hlq_10, hzq_10⟩, ⟨hkq_11, hlq_11, hzq_11⟩, ⟨hkq_12, hlq_12, hzq_12⟩, ⟨hkq_13, hlq_13, hzq_13⟩, ⟨hkq_14, hlq_14, hzq_14⟩, ⟨hkq_15, hlq_15, hzq_15⟩, _⟩ := hq'; go_simp; rfl))) | quiet_step ((intro hq; first | rfl | (go_at_call 12; exact Lib.Held.callEq hq (runs_is k O B 15#8 true HR15.out ad cap _ (HR.out.below hq.1)) rfl) | (go_at_call 12; exact Lib.Held.callEq hq (runs_is k O B 79#8 false HR79.out ad cap _ (HR.out.below hq.1)) rfl) | (go_at_call 13; exact Lib.Held.call hq (write_to k O B 79#8 15#8 79#8 H79.out rfl HW79.out ad cap _ (HR.out.below hq.1))) | (have hq' := hq; obtain ⟨hbq, heq, ⟨hkq_0, hlq_0, hzq_0⟩, ⟨hkq_1, hlq_1, hzq_1⟩, ⟨hkq_2, hlq_2, hzq_2⟩, ⟨hkq_3, hlq_3, hzq_3⟩, ⟨hkq_4, hlq_4, hzq_4⟩, ⟨hkq_5, hlq_5, hzq_5⟩, ⟨hkq_6, hlq_6, hzq_6⟩, ⟨hkq_7, hlq_7, hzq_7⟩, ⟨hkq_8, hlq_8, hzq_8⟩, ⟨hkq_9, hlq_9, hzq_9⟩, ⟨hkq_10, hlq_10, hzq_10⟩, ⟨hkq_11, hlq_11, hzq_11⟩, ⟨hkq_12, hlq_12, hzq_12⟩, ⟨hkq_13, hlq_13, hzq_13⟩, ⟨hkq_14, hlq_14, hzq_14⟩, ⟨hkq_15, hlq_15, hzq_15⟩, _⟩ := hq'; go_simp; rfl))))
  refine wpQuiet_nil ?_
  intro W13 hq13
  obtain ⟨hb13, he13, ⟨hk13_0, hl13_0, hz13_0⟩, ⟨hk13_1, hl13_1, hz13_1⟩, ⟨hk13_2, hl13_2, hz13_2⟩, ⟨hk13_3, hl13_3, hz13_3⟩, ⟨hk13_4, hl13_4, hz13_4⟩, ⟨hk13_5, hl13_5, hz13_5⟩, ⟨hk13_6, hl13_6, hz13_6⟩, ⟨hk13_7, hl13_7, hz13_7⟩, ⟨hk13_8, hl13_8, hz13_8⟩, ⟨hk13_9, hl13_9, hz13_9⟩, ⟨hk13_10, hl13_10, hz13_10⟩, ⟨hk13_11, hl13_11, hz13_11⟩, ⟨hk13_12, hl13_12, hz13_12⟩, ⟨hk13_13, hl13_13, hz13_13⟩, ⟨hk13_14, hl13_14, hz13_14⟩, ⟨hk13_15, hl13_15, hz13_15⟩, _⟩ := hq13
  have hs13 := he13.size
  try simp only [World.size_alloc, World.size_setCell, World.size_drew] at hs13
  go_wp2_with fail
  go_ret
  exact ⟨rfl, by go_grown⟩

theorem walk (k : Int) (O G : Set64) (s : Byte) (x : Int) (hk : (Lit.int .i64 k).wf = true) (hx : (Lit.int .u64 x).wf = true) (w : World) (hG : Door.Given w) : Calls Tryd.prog 6 #[dev k O G s, .int .u64 x] w (Lib.True1 w.heap.size w) := by
  obtain ⟨X, rfl⟩ := nu_of (StArgs.in64 hx)
  cases h : validB k O G s with
  | false => exact walk_off k O G s X w hG h
  | true => exact walk_on k O G s X w hG h

set_option maxRecDepth 100000 in
theorem lifted (os : Os) (started : os.Started) (H : Type) (enc : TypeId × Value → H) :
    ReturnsInHanded {} Tryd.checked os 6 .any (fun w args => (Rows.statusInitsSpec.pre enc Tryd.prog Tryd.f6 [] false w args ∧ laidMetH Tryd.prog Door.laidL w) ∧ sizedMet enc Tryd.prog Tryd.f6 (OpenSpec.ofChange Rows.statusInitsSpec) false w args) (Rows.statusInitsSpec.post enc Tryd.prog Tryd.f6 false true false false) := by
  refine LibD.lifted (C := Tryd.checked) (tb := 4) (laid := Door.laidL) H enc Lib.own started (by kernel_rfl) Tryd.func6
    (ChangeSpec.witness_shaped (enc := enc) (C := Tryd.checked) (os := os) (X := fun w _ => laidMetH Tryd.prog Door.laidL w) false (World.doorLaid Tryd.prog 400 os) #[.agg #[.int .i64 0, .int .u64 0, .int .u64 0, .int .u8 0], .int .u64 0] 8 rfl (World.shaped_of_RefB (by kernel_rfl) (by kernel_rfl)) (by kernel_rfl) (by kernel_rfl) (by kernel_rfl) (Door.met os _))
    Lib.laidOut (Lib.readable_of (by kernel_rfl)) rfl Tryd.underlying4 rfl ?_ ?_
  · intro ds h
    match ds, h with
    | [_, _], _ => exact ⟨rfl, rfl, rfl⟩
  · intro W base args ds p hval hA hfz hlt hL
    rw [Tryd.params6] at hval
    have hA' : DataW.TrodAll enc Tryd.prog W 0 (fun _ => true) true Tryd.f6.params.toList args.toList ds p := hA
    rw [Tryd.params6] at hA'
    obtain ⟨v0, vs0, d0, ds0, p0, q0, hargs, rfl, rfl, h0, r0⟩ := trodAll_cons hA'
    obtain ⟨v1, vs1, d1, ds1, p1, q1, rfl, rfl, rfl, h1, r1⟩ := trodAll_cons r0
    obtain ⟨rfl, rfl, rfl⟩ := trodAll_nil r1
    obtain rfl : args = #[v0, v1] := by cases args; simp_all
    obtain ⟨a0_0, a0_1, a0_2, a0_3, rfl, w0⟩ := StArgs.open_dev (hval 0 24 v0 rfl rfl) h0
    obtain ⟨a1, rfl, rfl, rfl, w1⟩ := open_int Tryd.underlying22 (hval 1 22 v1 rfl rfl) h1
    exact walk a0_0 a0_1 a0_2 a0_3 a1 w0 w1 W (Door.given hL)

theorem over : Rows.statusInitsRow.holds Tryd.pinned (OpenSpec.ofChange Rows.statusInitsSpec) :=
  OpenClaim.holds_of_wide 6 Tryd.f6 rfl rfl rfl rfl rfl rfl rfl ⟨rfl, rfl, rfl, rfl, rfl⟩ rfl rfl rfl rfl rfl (by kernel_rfl) Tryd.func6 (by kernel_rfl)
    (of_decide_eq_true (by kernel_rfl)) (by unfold Func.isWrapper; first | (rw [if_pos (by decide +kernel)]; kernel_rfl) | (rw [if_neg (by decide +kernel)]; exact ⟨rfl, rfl⟩))
    (fun os started H enc _ => lifted os started H enc)

/-- The statement. -/
theorem proved : Rows.StatusInitsCardSaid :=
  Claim7.holds_tied_plain_at .later [] Rows.statusInitsCard.laidKinds true Rows.statusInitsCard.stood.harness false
    over (fun _ h => by cases h) (by kernel_rfl) (fun _ h => by cases h) statusInits_row_tie rfl ⟨rfl, rfl⟩ (by kernel_rfl) rfl
    (fun f fn hf hfn => by
      obtain rfl : f = 6 := Option.some.inj ((show Tryd.prog.funcNamed "dumbwaiter/dumbwaiterlaw07.StatusInits" = some 6 by kernel_rfl).symm.trans hf) |>.symm
      obtain rfl : fn = Tryd.f6 := (Option.some.inj (Tryd.func6.symm.trans hfn)).symm
      exact ⟨by kernel_rfl, LibD.no_stand (by kernel_rfl)⟩)
    (by kernel_rfl)

end Go.Proofs.YtmmgcmbniidieaaDoor.StatusInits
