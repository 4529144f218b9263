/- The law StatusNames: the chapter's examples. No input; the features' rules as the program's text lays them. -/
import Derived.Test.YtmmgcmbniidieaaDoorStLives
import Derived.Test.YtmmgcmbniidieaaDoorHeldEq
import Derived.Test.YtmmgcmbniidieaaDoorCards
namespace Go.Proofs.YtmmgcmbniidieaaDoor.StatusNames
open Go.ChangeShapes Go.WideShapes Go.ChangeAt Go.RowKit Fe St
set_option linter.unusedVariables false
set_option linter.unusedSimpArgs false

set_option maxRecDepth 100000 in
set_option maxHeartbeats 4000000 in
theorem walk (w : World) (hG : Door.Given w) : Calls Tryd.prog 3 #[] w (Lib.True1 w.heap.size w) := by
  unfold Lib.True1
  obtain ⟨ad, cap, hR⟩ := hG
  have hb0 : Below w.heap.size w w := Below.refl _ _
  have HR := Lib.hid hR
  clear hR
  have c15 : (nb 15#8 == 15) = true := rfl
  have c79 : (nb 79#8 == 79) = true := rfl
  have c0 : (nb 0#8 == 0) = true := rfl
  have c128 : (nb 128#8 == 128) = true := rfl
  have cv : (nu (4294967296#64) == 4294967296) = true := rfl
  have hf1 := field_st 3 (4294967296#64) 0#64 0#8
  have hf2 := field_st 3 (4294967296#64) 0#64 128#8
  go_enter Tryd.func3, Tryd.ntmps3
  go_wp2_with fail
  refine (new_no 2 (0#64) (by decide +kernel) ad cap _ (HR.out.below (by go_grown))).mono ?_
  rintro eE W1 ⟨rfl, hg1⟩
  have hb1 : Below w.heap.size w W1 := (show Below w.heap.size w _ by go_grown).trans (hg1.mono (by first | omega | go_size))
  obtain ⟨hc1, hf1⟩ := bcell hg1
  have hs1 := hg1.size
  try simp only [World.size_alloc, World.size_setCell, World.size_drew] at hs1
  clear hg1 hc1 hf1
  go_wp2_with fail
  refine (new_no 9 (4294967296#64) (by decide +kernel) ad cap _ (HR.out.below (by go_grown))).mono ?_
  rintro eE W2 ⟨rfl, hg2⟩
  have hb2 : Below w.heap.size w W2 := (show Below w.heap.size w _ by go_grown).trans (hg2.mono (by first | omega | go_size))
  obtain ⟨hc2, hf2⟩ := bcell hg2
  have hs2 := hg2.size
  try simp only [World.size_alloc, World.size_setCell, World.size_drew] at hs2
  clear hg2 hc2 hf2
  go_wp2_with fail
  refine (new_ok 3 (4294967296#64) (by decide +kernel) ad cap _ (HR.out.below (by go_grown))).mono ?_
  rintro eE W3 ⟨rfl, hg3⟩
  have hb3 : Below w.heap.size w W3 := (show Below w.heap.size w _ by go_grown).trans (hg3.mono (by first | omega | go_size))
  obtain ⟨hc3, hf3⟩ := bcell hg3
  have hs3 := hg3.size
  try simp only [World.size_alloc, World.size_setCell, World.size_drew] at hs3
  clear hg3 hc3 hf3
  go_wp2_with fail
  refine (break_dead 3 (4294967296#64) 0#64 0#8 (by decide +kernel) (by decide +kernel) ad cap _ (HR.out.below (by go_grown))).mono ?_
  rintro eE W4 ⟨rfl, hg4⟩
  have hb4 : Below w.heap.size w W4 := (show Below w.heap.size w _ by go_grown).trans (hg4.mono (by first | omega | go_size))
  obtain ⟨hc4, hf4⟩ := bcell hg4
  have hs4 := hg4.size
  try simp only [World.size_alloc, World.size_setCell, World.size_drew] at hs4
  have hl4_0_0 : W4.cell? ⟨W3.heap.size, 0, none⟩ = some (num 3) := (hc4 _ _ (by first | omega | go_size)).trans (by first | (with_reducible assumption) | go_cell)
  have hz4_0_0 : W4.frozen? ⟨W3.heap.size, 0, none⟩ = false := (hf4 _ _ (by first | omega | go_size)).trans (by first | (with_reducible assumption) | (go_simp; done) | (simp [*]; done))
  have hl4_0_1 : W4.cell? ⟨W3.heap.size, 1, none⟩ = some (st (4294967296#64)) := (hc4 _ _ (by first | omega | go_size)).trans (by first | (with_reducible assumption) | go_cell)
  have hz4_0_1 : W4.frozen? ⟨W3.heap.size, 1, none⟩ = false := (hf4 _ _ (by first | omega | go_size)).trans (by first | (with_reducible assumption) | (go_simp; done) | (simp [*]; done))
  have hl4_0_2 : W4.cell? ⟨W3.heap.size, 2, none⟩ = some (st 0#64) := (hc4 _ _ (by first | omega | go_size)).trans (by first | (with_reducible assumption) | go_cell)
  have hz4_0_2 : W4.frozen? ⟨W3.heap.size, 2, none⟩ = false := (hf4 _ _ (by first | omega | go_size)).trans (by first | (with_reducible assumption) | (go_simp; done) | (simp [*]; done))
  have hl4_0_3 : W4.cell? ⟨W3.heap.size, 3, none⟩ = some (by8 0#8) := (hc4 _ _ (by first | omega | go_size)).trans (by first | (with_reducible assumption) | go_cell)
  have hz4_0_3 : W4.frozen? ⟨W3.heap.size, 3, none⟩ = false := (hf4 _ _ (by first | omega | go_size)).trans (by first | (with_reducible assumption) | (go_simp; done) | (simp [*]; done))
  have hk4_0 : W3.heap.size < W4.heap.size := by omega
  clear hg4 hc4 hf4
  go_wp2_with fail
  refine (break_no 0 0#64 0#64 0#8 (by decide +kernel) ad cap _ (HR.out.below (by go_grown))).mono ?_
  rintro eE W5 ⟨rfl, hg5⟩
  have hb5 : Below w.heap.size w W5 := (show Below w.heap.size w _ by go_grown).trans (hg5.mono (by first | omega | go_size))
  obtain ⟨hc5, hf5⟩ := bcell hg5
  have hs5 := hg5.size
  try simp only [World.size_alloc, World.size_setCell, World.size_drew] at hs5
  have hl5_0_0 : W5.cell? ⟨W3.heap.size, 0, none⟩ = some (num 3) := (hc5 _ _ (by first | omega | go_size)).trans (by first | (with_reducible assumption) | go_cell)
  have hz5_0_0 : W5.frozen? ⟨W3.heap.size, 0, none⟩ = false := (hf5 _ _ (by first | omega | go_size)).trans (by first | (with_reducible assumption) | (go_simp; done) | (simp [*]; done))
  have hl5_0_1 : W5.cell? ⟨W3.heap.size, 1, none⟩ = some (st (4294967296#64)) := (hc5 _ _ (by first | omega | go_size)).trans (by first | (with_reducible assumption) | go_cell)
  have hz5_0_1 : W5.frozen? ⟨W3.heap.size, 1, none⟩ = false := (hf5 _ _ (by first | omega | go_size)).trans (by first | (with_reducible assumption) | (go_simp; done) | (simp [*]; done))
  have hl5_0_2 : W5.cell? ⟨W3.heap.size, 2, none⟩ = some (st 0#64) := (hc5 _ _ (by first | omega | go_size)).trans (by first | (with_reducible assumption) | go_cell)
  have hz5_0_2 : W5.frozen? ⟨W3.heap.size, 2, none⟩ = false := (hf5 _ _ (by first | omega | go_size)).trans (by first | (with_reducible assumption) | (go_simp; done) | (simp [*]; done))
  have hl5_0_3 : W5.cell? ⟨W3.heap.size, 3, none⟩ = some (by8 0#8) := (hc5 _ _ (by first | omega | go_size)).trans (by first | (with_reducible assumption) | go_cell)
  have hz5_0_3 : W5.frozen? ⟨W3.heap.size, 3, none⟩ = false := (hf5 _ _ (by first | omega | go_size)).trans (by first | (with_reducible assumption) | (go_simp; done) | (simp [*]; done))
  have hk5_0 : W3.heap.size < W5.heap.size := by omega
  clear hg5 hc5 hf5
  go_wp2_with fail
  refine (init_ok 3 (4294967296#64) 0#64 0#8 0#64 (4294967296#64) (by decide +kernel) (by decide +kernel) ad cap _ (HR.out.below (by go_grown))).mono ?_
  rintro eE W6 ⟨rfl, hg6⟩
  have hb6 : Below w.heap.size w W6 := (show Below w.heap.size w _ by go_grown).trans (hg6.mono (by first | omega | go_size))
  obtain ⟨hc6, hf6⟩ := bcell hg6
  have hs6 := hg6.size
  try simp only [World.size_alloc, World.size_setCell, World.size_drew] at hs6
  have hl6_0_0 : W6.cell? ⟨W3.heap.size, 0, none⟩ = some (num 3) := (hc6 _ _ (by first | omega | go_size)).trans (by first | (with_reducible assumption) | go_cell)
  have hz6_0_0 : W6.frozen? ⟨W3.heap.size, 0, none⟩ = false := (hf6 _ _ (by first | omega | go_size)).trans (by first | (with_reducible assumption) | (go_simp; done) | (simp [*]; done))
  have hl6_0_1 : W6.cell? ⟨W3.heap.size, 1, none⟩ = some (st (4294967296#64)) := (hc6 _ _ (by first | omega | go_size)).trans (by first | (with_reducible assumption) | go_cell)
  have hz6_0_1 : W6.frozen? ⟨W3.heap.size, 1, none⟩ = false := (hf6 _ _ (by first | omega | go_size)).trans (by first | (with_reducible assumption) | (go_simp; done) | (simp [*]; done))
  have hl6_0_2 : W6.cell? ⟨W3.heap.size, 2, none⟩ = some (st 0#64) := (hc6 _ _ (by first | omega | go_size)).trans (by first | (with_reducible assumption) | go_cell)
  have hz6_0_2 : W6.frozen? ⟨W3.heap.size, 2, none⟩ = false := (hf6 _ _ (by first | omega | go_size)).trans (by first | (with_reducible assumption) | (go_simp; done) | (simp [*]; done))
  have hl6_0_3 : W6.cell? ⟨W3.heap.size, 3, none⟩ = some (by8 0#8) := (hc6 _ _ (by first | omega | go_size)).trans (by first | (with_reducible assumption) | go_cell)
  have hz6_0_3 : W6.frozen? ⟨W3.heap.size, 3, none⟩ = false := (hf6 _ _ (by first | omega | go_size)).trans (by first | (with_reducible assumption) | (go_simp; done) | (simp [*]; done))
  have hk6_0 : W3.heap.size < W6.heap.size := by omega
  clear hg6 hc6 hf6
  go_wp2_with fail
  refine (break_ok 3 (4294967296#64) (4294967296#64) 15#8 (by decide +kernel) (by decide +kernel) 79#8 (by decide) ad cap _ (HR.out.below (by go_grown))).mono ?_
  rintro eE W7 ⟨rfl, hg7⟩
  have hb7 : Below w.heap.size w W7 := (show Below w.heap.size w _ by go_grown).trans (hg7.mono (by first | omega | go_size))
  obtain ⟨hc7, hf7⟩ := bcell hg7
  have hs7 := hg7.size
  try simp only [World.size_alloc, World.size_setCell, World.size_drew] at hs7
  have hl7_0_0 : W7.cell? ⟨W3.heap.size, 0, none⟩ = some (num 3) := (hc7 _ _ (by first | omega | go_size)).trans (by first | (with_reducible assumption) | go_cell)
  have hz7_0_0 : W7.frozen? ⟨W3.heap.size, 0, none⟩ = false := (hf7 _ _ (by first | omega | go_size)).trans (by first | (with_reducible assumption) | (go_simp; done) | (simp [*]; done))
  have hl7_0_1 : W7.cell? ⟨W3.heap.size, 1, none⟩ = some (st (4294967296#64)) := (hc7 _ _ (by first | omega | go_size)).trans (by first | (with_reducible assumption) | go_cell)
  have hz7_0_1 : W7.frozen? ⟨W3.heap.size, 1, none⟩ = false := (hf7 _ _ (by first | omega | go_size)).trans (by first | (with_reducible assumption) | (go_simp; done) | (simp [*]; done))
  have hl7_0_2 : W7.cell? ⟨W3.heap.size, 2, none⟩ = some (st 0#64) := (hc7 _ _ (by first | omega | go_size)).trans (by first | (with_reducible assumption) | go_cell)
  have hz7_0_2 : W7.frozen? ⟨W3.heap.size, 2, none⟩ = false := (hf7 _ _ (by first | omega | go_size)).trans (by first | (with_reducible assumption) | (go_simp; done) | (simp [*]; done))
  have hl7_0_3 : W7.cell? ⟨W3.heap.size, 3, none⟩ = some (by8 0#8) := (hc7 _ _ (by first | omega | go_size)).trans (by first | (with_reducible assumption) | go_cell)
  have hz7_0_3 : W7.frozen? ⟨W3.heap.size, 3, none⟩ = false := (hf7 _ _ (by first | omega | go_size)).trans (by first | (with_reducible assumption) | (go_simp; done) | (simp [*]; done))
  have hk7_0 : W3.heap.size < W7.heap.size := by omega
  have hl7_1_0 : W7.cell? ⟨W6.heap.size, 0, none⟩ = some (num 3) := (hc7 _ _ (by first | omega | go_size)).trans (by first | (with_reducible assumption) | go_cell)
  have hz7_1_0 : W7.frozen? ⟨W6.heap.size, 0, none⟩ = false := (hf7 _ _ (by first | omega | go_size)).trans (by first | (with_reducible assumption) | (go_simp; done) | (simp [*]; done))
  have hl7_1_1 : W7.cell? ⟨W6.heap.size, 1, none⟩ = some (st (4294967296#64)) := (hc7 _ _ (by first | omega | go_size)).trans (by first | (with_reducible assumption) | go_cell)
  have hz7_1_1 : W7.frozen? ⟨W6.heap.size, 1, none⟩ = false := (hf7 _ _ (by first | omega | go_size)).trans (by first | (with_reducible assumption) | (go_simp; done) | (simp [*]; done))
  have hl7_1_2 : W7.cell? ⟨W6.heap.size, 2, none⟩ = some (st (4294967296#64)) := (hc7 _ _ (by first | omega | go_size)).trans (by first | (with_reducible assumption) | go_cell)
  have hz7_1_2 : W7.frozen? ⟨W6.heap.size, 2, none⟩ = false := (hf7 _ _ (by first | omega | go_size)).trans (by first | (with_reducible assumption) | (go_simp; done) | (simp [*]; done))
  have hl7_1_3 : W7.cell? ⟨W6.heap.size, 3, none⟩ = some (by8 15#8) := (hc7 _ _ (by first | omega | go_size)).trans (by first | (with_reducible assumption) | go_cell)
  have hz7_1_3 : W7.frozen? ⟨W6.heap.size, 3, none⟩ = false := (hf7 _ _ (by first | omega | go_size)).trans (by first | (with_reducible assumption) | (go_simp; done) | (simp [*]; done))
  have hk7_1 : W6.heap.size < W7.heap.size := by omega
  clear hg7 hc7 hf7
  go_wp2_with fail
  refine (fixed_ok 3 (4294967296#64) (4294967296#64) 15#8 (by decide +kernel) (by decide +kernel) ad cap _ (HR.out.below (by go_grown))).mono ?_
  rintro eE W8 ⟨rfl, hg8⟩
  have hb8 : Below w.heap.size w W8 := (show Below w.heap.size w _ by go_grown).trans (hg8.mono (by first | omega | go_size))
  obtain ⟨hc8, hf8⟩ := bcell hg8
  have hs8 := hg8.size
  try simp only [World.size_alloc, World.size_setCell, World.size_drew] at hs8
  have hl8_0_0 : W8.cell? ⟨W3.heap.size, 0, none⟩ = some (num 3) := (hc8 _ _ (by first | omega | go_size)).trans (by first | (with_reducible assumption) | go_cell)
  have hz8_0_0 : W8.frozen? ⟨W3.heap.size, 0, none⟩ = false := (hf8 _ _ (by first | omega | go_size)).trans (by first | (with_reducible assumption) | (go_simp; done) | (simp [*]; done))
  have hl8_0_1 : W8.cell? ⟨W3.heap.size, 1, none⟩ = some (st (4294967296#64)) := (hc8 _ _ (by first | omega | go_size)).trans (by first | (with_reducible assumption) | go_cell)
  have hz8_0_1 : W8.frozen? ⟨W3.heap.size, 1, none⟩ = false := (hf8 _ _ (by first | omega | go_size)).trans (by first | (with_reducible assumption) | (go_simp; done) | (simp [*]; done))
  have hl8_0_2 : W8.cell? ⟨W3.heap.size, 2, none⟩ = some (st 0#64) := (hc8 _ _ (by first | omega | go_size)).trans (by first | (with_reducible assumption) | go_cell)
  have hz8_0_2 : W8.frozen? ⟨W3.heap.size, 2, none⟩ = false := (hf8 _ _ (by first | omega | go_size)).trans (by first | (with_reducible assumption) | (go_simp; done) | (simp [*]; done))
  have hl8_0_3 : W8.cell? ⟨W3.heap.size, 3, none⟩ = some (by8 0#8) := (hc8 _ _ (by first | omega | go_size)).trans (by first | (with_reducible assumption) | go_cell)
  have hz8_0_3 : W8.frozen? ⟨W3.heap.size, 3, none⟩ = false := (hf8 _ _ (by first | omega | go_size)).trans (by first | (with_reducible assumption) | (go_simp; done) | (simp [*]; done))
  have hk8_0 : W3.heap.size < W8.heap.size := by omega
  have hl8_1_0 : W8.cell? ⟨W6.heap.size, 0, none⟩ = some (num 3) := (hc8 _ _ (by first | omega | go_size)).trans (by first | (with_reducible assumption) | go_cell)
  have hz8_1_0 : W8.frozen? ⟨W6.heap.size, 0, none⟩ = false := (hf8 _ _ (by first | omega | go_size)).trans (by first | (with_reducible assumption) | (go_simp; done) | (simp [*]; done))
  have hl8_1_1 : W8.cell? ⟨W6.heap.size, 1, none⟩ = some (st (4294967296#64)) := (hc8 _ _ (by first | omega | go_size)).trans (by first | (with_reducible assumption) | go_cell)
  have hz8_1_1 : W8.frozen? ⟨W6.heap.size, 1, none⟩ = false := (hf8 _ _ (by first | omega | go_size)).trans (by first | (with_reducible assumption) | (go_simp; done) | (simp [*]; done))
  have hl8_1_2 : W8.cell? ⟨W6.heap.size, 2, none⟩ = some (st (4294967296#64)) := (hc8 _ _ (by first | omega | go_size)).trans (by first | (with_reducible assumption) | go_cell)
  have hz8_1_2 : W8.frozen? ⟨W6.heap.size, 2, none⟩ = false := (hf8 _ _ (by first | omega | go_size)).trans (by first | (with_reducible assumption) | (go_simp; done) | (simp [*]; done))
  have hl8_1_3 : W8.cell? ⟨W6.heap.size, 3, none⟩ = some (by8 15#8) := (hc8 _ _ (by first | omega | go_size)).trans (by first | (with_reducible assumption) | go_cell)
  have hz8_1_3 : W8.frozen? ⟨W6.heap.size, 3, none⟩ = false := (hf8 _ _ (by first | omega | go_size)).trans (by first | (with_reducible assumption) | (go_simp; done) | (simp [*]; done))
  have hk8_1 : W6.heap.size < W8.heap.size := by omega
  have hl8_2_0 : W8.cell? ⟨W7.heap.size, 0, none⟩ = some (num 3) := (hc8 _ _ (by first | omega | go_size)).trans (by first | (with_reducible assumption) | go_cell)
  have hz8_2_0 : W8.frozen? ⟨W7.heap.size, 0, none⟩ = false := (hf8 _ _ (by first | omega | go_size)).trans (by first | (with_reducible assumption) | (go_simp; done) | (simp [*]; done))
  have hl8_2_1 : W8.cell? ⟨W7.heap.size, 1, none⟩ = some (st (4294967296#64)) := (hc8 _ _ (by first | omega | go_size)).trans (by first | (with_reducible assumption) | go_cell)
  have hz8_2_1 : W8.frozen? ⟨W7.heap.size, 1, none⟩ = false := (hf8 _ _ (by first | omega | go_size)).trans (by first | (with_reducible assumption) | (go_simp; done) | (simp [*]; done))
  have hl8_2_2 : W8.cell? ⟨W7.heap.size, 2, none⟩ = some (st (4294967296#64)) := (hc8 _ _ (by first | omega | go_size)).trans (by first | (with_reducible assumption) | go_cell)
  have hz8_2_2 : W8.frozen? ⟨W7.heap.size, 2, none⟩ = false := (hf8 _ _ (by first | omega | go_size)).trans (by first | (with_reducible assumption) | (go_simp; done) | (simp [*]; done))
  have hl8_2_3 : W8.cell? ⟨W7.heap.size, 3, none⟩ = some (by8 79#8) := (hc8 _ _ (by first | omega | go_size)).trans (by first | (with_reducible assumption) | go_cell)
  have hz8_2_3 : W8.frozen? ⟨W7.heap.size, 3, none⟩ = false := (hf8 _ _ (by first | omega | go_size)).trans (by first | (with_reducible assumption) | (go_simp; done) | (simp [*]; done))
  have hk8_2 : W7.heap.size < W8.heap.size := by omega
  clear hg8 hc8 hf8
  go_wp2_with fail
  refine Lib.wp_region_class (Lib.Held w _ [(W3.heap.size, 0, (num 3 : Value)), (W3.heap.size, 1, (st (4294967296#64) : Value)), (W3.heap.size, 2, (st 0#64 : Value)), (W3.heap.size, 3, (by8 0#8 : Value)), (W6.heap.size, 0, (num 3 : Value)), (W6.heap.size, 1, (st (4294967296#64) : Value)), (W6.heap.size, 2, (st (4294967296#64) : Value)), (W6.heap.size, 3, (by8 15#8 : Value)), (W7.heap.size, 0, (num 3 : Value)), (W7.heap.size, 1, (st (4294967296#64) : Value)), (W7.heap.size, 2, (st (4294967296#64) : Value)), (W7.heap.size, 3, (by8 79#8 : Value))]) (by kernel_rfl) (by kernel_rfl) ⟨by go_grown, Below.refl _ _, ⟨by first | omega | go_size, by first | go_cell | (simp [*]; done), by first | (with_reducible assumption) | (go_simp; done) | (simp [*]; done)⟩, ⟨by first | omega | go_size, by first | go_cell | (simp [*]; done), by first | (with_reducible assumption) | (go_simp; done) | (simp [*]; done)⟩, ⟨by first | omega | go_size, by first | go_cell | (simp [*]; done), by first | (with_reducible assumption) | (go_simp; done) | (simp [*]; done)⟩, ⟨by first | omega | go_size, by first | go_cell | (simp [*]; done), by first | (with_reducible assumption) | (go_simp; done) | (simp [*]; done)⟩, ⟨by first | omega | go_size, by first | go_cell | (simp [*]; done), by first | (with_reducible assumption) | (go_simp; done) | (simp [*]; done)⟩, ⟨by first | omega | go_size, by first | go_cell | (simp [*]; done), by first | (with_reducible assumption) | (go_simp; done) | (simp [*]; done)⟩, ⟨by first | omega | go_size, by first | go_cell | (simp [*]; done), by first | (with_reducible assumption) | (go_simp; done) | (simp [*]; done)⟩, ⟨by first | omega | go_size, by first | go_cell | (simp [*]; done), by first | (with_reducible assumption) | (go_simp; done) | (simp [*]; done)⟩, ⟨by first | omega | go_size, by first | go_cell | (simp [*]; done), by first | (with_reducible assumption) | (go_simp; done) | (simp [*]; done)⟩, ⟨by first | omega | go_size, by first | go_cell | (simp [*]; done), by first | (with_reducible assumption) | (go_simp; done) | (simp [*]; done)⟩, ⟨by first | omega | go_size, by first | go_cell | (simp [*]; done), by first | (with_reducible assumption) | (go_simp; done) | (simp [*]; done)⟩, ⟨by first | omega | go_size, by first | go_cell | (simp [*]; done), by first | (with_reducible assumption) | (go_simp; done) | (simp [*]; done)⟩, trivial⟩ ?_
  repeat (first | go_big_quiet_step ((intro hq; first | rfl | (go_at_call 11; exact Lib.Held.call hq (St.lives_any ad cap _ (HR.out.below hq.1))) | (go_at_call 12; exact Lib.Held.call hq (runs_is 3 (4294967296#64) (4294967296#64) 79#8 false (by decide +kernel) ad cap _ (HR.out.below hq.1))) | (go_at_call 13; exact Lib.Held.callEq hq (write_zero 3 (4294967296#64) (4294967296#64) 79#8 (by decide +kernel) ad cap _ (HR.out.below hq.1)) rfl) | (go_at_call 14; exact Lib.Held.call hq (ask_is 3 (4294967296#64) 0#64 0#8 (4294967296#64) 0#64 (by decide +kernel) ad cap _ (HR.out.below hq.1))) | (go_at_call 13; exact Lib.Held.callEq hq (write_to 3 (4294967296#64) 0#64 0#8 128#8 128#8 (by decide +kernel) rfl (by decide +kernel) ad cap _ (HR.out.below hq.1)) rfl) | (go_at_call 15; exact Lib.Held.call hq (check_is 2 (4294967296#64) 0#64 2#8 2 (by decide +kernel) ad cap _ (HR.out.below hq.1))) | (have hq' := hq; obtain ⟨hbq, heq, ⟨hkq_0, hlq_0, hzq_0⟩, ⟨hkq_1, hlq_1, hzq_1⟩, ⟨hkq_2, hlq_2, hzq_2⟩, ⟨hkq_3, hlq_3, hzq_3⟩, ⟨hkq_4, hlq_4, hzq_4⟩, ⟨hkq_5, hlq_5, hzq_5⟩, ⟨hkq_6, hlq_6, hzq_6⟩, ⟨hkq_7, hlq_7, hzq_7⟩, ⟨hkq_8, hlq_8, hzq_8⟩, ⟨hkq_9, hlq_9, hzq_9⟩, ⟨hkq_10, hlq_10, hzq_10⟩, ⟨hkq_11, hlq_11, hzq_11⟩, _⟩ := hq'; go_simp; rfl))) | quiet_step ((intro hq; first | rfl | (go_at_call 11; exact Lib.Held.call hq (St.lives_any ad cap _ (HR.out.below hq.1))) | (go_at_call 12; exact Lib.Held.call hq (runs_is 3 (4294967296#64) (4294967296#64) 79#8 false (by decide +kernel) ad cap _ (HR.out.below hq.1))) | (go_at_call 13; exact Lib.Held.callEq hq (write_zero 3 (4294967296#64) (4294967296#64) 79#8 (by decide +kernel) ad cap _ (HR.out.below hq.1)) rfl) | (go_at_call 14; exact Lib.Held.call hq (ask_is 3 (4294967296#64) 0#64 0#8 (4294967296#64) 0#64 (by decide +kernel) ad cap _ (HR.out.below hq.1))) | (go_at_call 13; exact Lib.Held.callEq hq (write_to 3 (4294967296#64) 0#64 0#8 128#8 128#8 (by decide +kernel) rfl (by decide +kernel) ad cap _ (HR.out.below hq.1)) rfl) | (go_at_call 15; exact Lib.Held.call hq (check_is 2 (4294967296#64) 0#64 2#8 2 (by decide +kernel) ad cap _ (HR.out.below hq.1))) | (have hq' := hq; obtain ⟨hbq, heq, ⟨hkq_0, hlq_0, hzq_0⟩, ⟨hkq_1, hlq_1, hzq_1⟩, ⟨hkq_2, hlq_2, hzq_2⟩, ⟨hkq_3, hlq_3, hzq_3⟩, ⟨hkq_4, hlq_4, hzq_4⟩, ⟨hkq_5, hlq_5, hzq_5⟩, ⟨hkq_6, hlq_6, hzq_6⟩, ⟨hkq_7, hlq_7, hzq_7⟩, ⟨hkq_8, hlq_8, hzq_8⟩, ⟨hkq_9, hlq_9, hzq_9⟩, ⟨hkq_10, hlq_10, hzq_10⟩, ⟨hkq_11, hlq_11, hzq_11⟩, _⟩ := hq'; go_simp; rfl))))
  refine wpQuiet_nil ?_
  intro W9 hq9
  obtain ⟨hb9, he9, ⟨hk9_0, hl9_0, hz9_0⟩, ⟨hk9_1, hl9_1, hz9_1⟩, ⟨hk9_2, hl9_2, hz9_2⟩, ⟨hk9_3, hl9_3, hz9_3⟩, ⟨hk9_4, hl9_4, hz9_4⟩, ⟨hk9_5, hl9_5, hz9_5⟩, ⟨hk9_6, hl9_6, hz9_6⟩, ⟨hk9_7, hl9_7, hz9_7⟩, ⟨hk9_8, hl9_8, hz9_8⟩, ⟨hk9_9, hl9_9, hz9_9⟩, ⟨hk9_10, hl9_10, hz9_10⟩, ⟨hk9_11, hl9_11, hz9_11⟩, _⟩ := hq9
  have hs9 := he9.size
  try simp only [World.size_alloc, World.size_setCell, World.size_drew] at hs9
  go_wp2_with fail
  go_ret
  exact ⟨rfl, by go_grown⟩

set_option maxRecDepth 100000 in
theorem lifted (os : Os) (started : os.Started) (H : Type) (enc : TypeId × Value → H) :
    ReturnsInHanded {} Tryd.checked os 3 .any (fun w args => (Rows.statusNamesSpec.pre enc Tryd.prog Tryd.f3 [] false w args ∧ laidMetH Tryd.prog Door.laidL w) ∧ sizedMet enc Tryd.prog Tryd.f3 (OpenSpec.ofChange Rows.statusNamesSpec) false w args) (Rows.statusNamesSpec.post enc Tryd.prog Tryd.f3 false true false false) := by
  refine LibD.lifted (C := Tryd.checked) (tb := 4) (laid := Door.laidL) H enc Lib.own started (by kernel_rfl) Tryd.func3
    (ChangeSpec.witness_shaped (enc := enc) (C := Tryd.checked) (os := os) (X := fun w _ => laidMetH Tryd.prog Door.laidL w) false (World.doorLaid Tryd.prog 400 os) #[] 8 rfl (World.shaped_of_RefB (by kernel_rfl) (by kernel_rfl)) (by kernel_rfl) (by kernel_rfl) (by kernel_rfl) (Door.met os _))
    Lib.laidOut (Lib.readable_of (by kernel_rfl)) rfl Tryd.underlying4 rfl ?_ ?_
  · intro ds h
    match ds, h with
    | [], _ => exact ⟨rfl, rfl, rfl⟩
  · intro W base args ds p hval hA hfz hlt hL
    rw [Tryd.params3] at hval
    have hA' : DataW.TrodAll enc Tryd.prog W 0 (fun _ => true) true Tryd.f3.params.toList args.toList ds p := hA
    rw [Tryd.params3] at hA'
    obtain ⟨hargs, rfl, rfl⟩ := trodAll_nil hA'
    obtain rfl : args = #[] := by cases args; simp_all
    exact walk W (Door.given hL)

theorem over : Rows.statusNamesRow.holds Tryd.pinned (OpenSpec.ofChange Rows.statusNamesSpec) :=
  OpenClaim.holds_of_wide 3 Tryd.f3 rfl rfl rfl rfl rfl rfl rfl ⟨rfl, rfl, rfl, rfl, rfl⟩ rfl rfl rfl rfl rfl (by kernel_rfl) Tryd.func3 (by kernel_rfl)
    (of_decide_eq_true (by kernel_rfl)) (by unfold Func.isWrapper; first | (rw [if_pos (by decide +kernel)]; kernel_rfl) | (rw [if_neg (by decide +kernel)]; exact ⟨rfl, rfl⟩))
    (fun os started H enc _ => lifted os started H enc)

/-- The statement. -/
theorem proved : Rows.StatusNamesCardSaid :=
  Claim7.holds_tied_plain_at .later [] Rows.statusNamesCard.laidKinds true Rows.statusNamesCard.stood.harness false
    over (fun _ h => by cases h) (by kernel_rfl) (fun _ h => by cases h) statusNames_row_tie rfl ⟨rfl, rfl⟩ (by kernel_rfl) rfl
    (fun f fn hf hfn => by
      obtain rfl : f = 3 := Option.some.inj ((show Tryd.prog.funcNamed "dumbwaiter/dumbwaiterlaw07.StatusNames" = some 3 by kernel_rfl).symm.trans hf) |>.symm
      obtain rfl : fn = Tryd.f3 := (Option.some.inj (Tryd.func3.symm.trans hfn)).symm
      exact ⟨by kernel_rfl, LibD.no_stand (by kernel_rfl)⟩)
    (by kernel_rfl)

end Go.Proofs.YtmmgcmbniidieaaDoor.StatusNames
