/- The chapter's examples of package status. -/
import Derived.Test.YtmmgcmbniidieaaDoorStZ
namespace Go.Proofs.YtmmgcmbniidieaaDoor.St
open Go.RowKit Rw Fe
set_option linter.unusedSimpArgs false
set_option linter.unusedVariables false

theorem field_st (k : Int) (O G : Set64) (s : Byte) (W : World) : (Instr.field 24 (dev k O G s) 3).run Tryd.prog W = .ok (by8 s) W := by kernel_rfl

set_option maxRecDepth 100000 in
set_option maxHeartbeats 4000000 in
theorem lives_any (ad : Addr) (cap : Nat) (w : World) (hR : Rules w ad cap) : Calls Tryd.prog 11 #[] w (Gives w.heap.size w (.bool true)) := by
  unfold Gives
  have hb0 : Below w.heap.size w w := Below.refl _ _
  have HR := Lib.hid hR
  clear hR
  have c15 : (nb 15#8 == 15) = true := rfl
  have c3 : (nb 3#8 == 3) = true := rfl
  have hf := field_st 2 (4294967808#64) 0#64 3#8
  go_enter Tryd.func11, Tryd.ntmps11
  go_wp2_with fail
  refine (new_ok 2 (4294967808#64) (by decide +kernel) ad cap _ (HR.out.below (by go_grown))).mono ?_
  rintro eE W1 ⟨rfl, hg1⟩
  have hb1 : Below w.heap.size w W1 := (show Below w.heap.size w _ by go_grown).trans (hg1.mono (by first | omega | go_size))
  obtain ⟨hc1, hf1⟩ := bcell hg1
  have hs1 := hg1.size
  try simp only [World.size_alloc, World.size_setCell, World.size_drew] at hs1
  clear hg1 hc1 hf1
  go_wp2_with fail
  refine (write_to 2 (4294967808#64) 0#64 0#8 1#8 1#8 (by decide +kernel) rfl (s01 _) ad cap _ (HR.out.below (by go_grown))).mono ?_
  rintro eE W2 ⟨rfl, hg2⟩
  have hb2 : Below w.heap.size w W2 := (show Below w.heap.size w _ by go_grown).trans (hg2.mono (by first | omega | go_size))
  obtain ⟨hc2, hf2⟩ := bcell hg2
  have hs2 := hg2.size
  try simp only [World.size_alloc, World.size_setCell, World.size_drew] at hs2
  have hl2_0_0 : W2.cell? ⟨W1.heap.size, 0, none⟩ = some (num 2) := (hc2 _ _ (by first | omega | go_size)).trans (by first | (with_reducible assumption) | go_cell)
  have hz2_0_0 : W2.frozen? ⟨W1.heap.size, 0, none⟩ = false := (hf2 _ _ (by first | omega | go_size)).trans (by first | (with_reducible assumption) | (go_simp; done) | (simp [*]; done))
  have hl2_0_1 : W2.cell? ⟨W1.heap.size, 1, none⟩ = some (st (4294967808#64)) := (hc2 _ _ (by first | omega | go_size)).trans (by first | (with_reducible assumption) | go_cell)
  have hz2_0_1 : W2.frozen? ⟨W1.heap.size, 1, none⟩ = false := (hf2 _ _ (by first | omega | go_size)).trans (by first | (with_reducible assumption) | (go_simp; done) | (simp [*]; done))
  have hl2_0_2 : W2.cell? ⟨W1.heap.size, 2, none⟩ = some (st 0#64) := (hc2 _ _ (by first | omega | go_size)).trans (by first | (with_reducible assumption) | go_cell)
  have hz2_0_2 : W2.frozen? ⟨W1.heap.size, 2, none⟩ = false := (hf2 _ _ (by first | omega | go_size)).trans (by first | (with_reducible assumption) | (go_simp; done) | (simp [*]; done))
  have hl2_0_3 : W2.cell? ⟨W1.heap.size, 3, none⟩ = some (by8 0#8) := (hc2 _ _ (by first | omega | go_size)).trans (by first | (with_reducible assumption) | go_cell)
  have hz2_0_3 : W2.frozen? ⟨W1.heap.size, 3, none⟩ = false := (hf2 _ _ (by first | omega | go_size)).trans (by first | (with_reducible assumption) | (go_simp; done) | (simp [*]; done))
  have hk2_0 : W1.heap.size < W2.heap.size := by omega
  clear hg2 hc2 hf2
  go_wp2_with fail
  refine (write_to 2 (4294967808#64) 0#64 1#8 3#8 3#8 (by decide +kernel) rfl (s13 _) ad cap _ (HR.out.below (by go_grown))).mono ?_
  rintro eE W3 ⟨rfl, hg3⟩
  have hb3 : Below w.heap.size w W3 := (show Below w.heap.size w _ by go_grown).trans (hg3.mono (by first | omega | go_size))
  obtain ⟨hc3, hf3⟩ := bcell hg3
  have hs3 := hg3.size
  try simp only [World.size_alloc, World.size_setCell, World.size_drew] at hs3
  have hl3_0_0 : W3.cell? ⟨W1.heap.size, 0, none⟩ = some (num 2) := (hc3 _ _ (by first | omega | go_size)).trans (by first | (with_reducible assumption) | go_cell)
  have hz3_0_0 : W3.frozen? ⟨W1.heap.size, 0, none⟩ = false := (hf3 _ _ (by first | omega | go_size)).trans (by first | (with_reducible assumption) | (go_simp; done) | (simp [*]; done))
  have hl3_0_1 : W3.cell? ⟨W1.heap.size, 1, none⟩ = some (st (4294967808#64)) := (hc3 _ _ (by first | omega | go_size)).trans (by first | (with_reducible assumption) | go_cell)
  have hz3_0_1 : W3.frozen? ⟨W1.heap.size, 1, none⟩ = false := (hf3 _ _ (by first | omega | go_size)).trans (by first | (with_reducible assumption) | (go_simp; done) | (simp [*]; done))
  have hl3_0_2 : W3.cell? ⟨W1.heap.size, 2, none⟩ = some (st 0#64) := (hc3 _ _ (by first | omega | go_size)).trans (by first | (with_reducible assumption) | go_cell)
  have hz3_0_2 : W3.frozen? ⟨W1.heap.size, 2, none⟩ = false := (hf3 _ _ (by first | omega | go_size)).trans (by first | (with_reducible assumption) | (go_simp; done) | (simp [*]; done))
  have hl3_0_3 : W3.cell? ⟨W1.heap.size, 3, none⟩ = some (by8 0#8) := (hc3 _ _ (by first | omega | go_size)).trans (by first | (with_reducible assumption) | go_cell)
  have hz3_0_3 : W3.frozen? ⟨W1.heap.size, 3, none⟩ = false := (hf3 _ _ (by first | omega | go_size)).trans (by first | (with_reducible assumption) | (go_simp; done) | (simp [*]; done))
  have hk3_0 : W1.heap.size < W3.heap.size := by omega
  clear hg3 hc3 hf3
  go_wp2_with fail
  refine (ask_is 2 (4294967808#64) 0#64 3#8 (4294967296#64) (4294967296#64) (by decide +kernel) ad cap _ (HR.out.below (by go_grown))).mono ?_
  rintro eE W4 ⟨rfl, hg4⟩
  have hb4 : Below w.heap.size w W4 := (show Below w.heap.size w _ by go_grown).trans (hg4.mono (by first | omega | go_size))
  obtain ⟨hc4, hf4⟩ := bcell hg4
  have hs4 := hg4.size
  try simp only [World.size_alloc, World.size_setCell, World.size_drew] at hs4
  have hl4_0_0 : W4.cell? ⟨W1.heap.size, 0, none⟩ = some (num 2) := (hc4 _ _ (by first | omega | go_size)).trans (by first | (with_reducible assumption) | go_cell)
  have hz4_0_0 : W4.frozen? ⟨W1.heap.size, 0, none⟩ = false := (hf4 _ _ (by first | omega | go_size)).trans (by first | (with_reducible assumption) | (go_simp; done) | (simp [*]; done))
  have hl4_0_1 : W4.cell? ⟨W1.heap.size, 1, none⟩ = some (st (4294967808#64)) := (hc4 _ _ (by first | omega | go_size)).trans (by first | (with_reducible assumption) | go_cell)
  have hz4_0_1 : W4.frozen? ⟨W1.heap.size, 1, none⟩ = false := (hf4 _ _ (by first | omega | go_size)).trans (by first | (with_reducible assumption) | (go_simp; done) | (simp [*]; done))
  have hl4_0_2 : W4.cell? ⟨W1.heap.size, 2, none⟩ = some (st 0#64) := (hc4 _ _ (by first | omega | go_size)).trans (by first | (with_reducible assumption) | go_cell)
  have hz4_0_2 : W4.frozen? ⟨W1.heap.size, 2, none⟩ = false := (hf4 _ _ (by first | omega | go_size)).trans (by first | (with_reducible assumption) | (go_simp; done) | (simp [*]; done))
  have hl4_0_3 : W4.cell? ⟨W1.heap.size, 3, none⟩ = some (by8 0#8) := (hc4 _ _ (by first | omega | go_size)).trans (by first | (with_reducible assumption) | go_cell)
  have hz4_0_3 : W4.frozen? ⟨W1.heap.size, 3, none⟩ = false := (hf4 _ _ (by first | omega | go_size)).trans (by first | (with_reducible assumption) | (go_simp; done) | (simp [*]; done))
  have hk4_0 : W1.heap.size < W4.heap.size := by omega
  clear hg4 hc4 hf4
  go_wp2_with fail
  refine (write_to 2 (4294967808#64) (4294967296#64) 3#8 11#8 11#8 (by decide +kernel) rfl (by decide +kernel) ad cap _ (HR.out.below (by go_grown))).mono ?_
  rintro eE W5 ⟨rfl, hg5⟩
  have hb5 : Below w.heap.size w W5 := (show Below w.heap.size w _ by go_grown).trans (hg5.mono (by first | omega | go_size))
  obtain ⟨hc5, hf5⟩ := bcell hg5
  have hs5 := hg5.size
  try simp only [World.size_alloc, World.size_setCell, World.size_drew] at hs5
  have hl5_0_0 : W5.cell? ⟨W1.heap.size, 0, none⟩ = some (num 2) := (hc5 _ _ (by first | omega | go_size)).trans (by first | (with_reducible assumption) | go_cell)
  have hz5_0_0 : W5.frozen? ⟨W1.heap.size, 0, none⟩ = false := (hf5 _ _ (by first | omega | go_size)).trans (by first | (with_reducible assumption) | (go_simp; done) | (simp [*]; done))
  have hl5_0_1 : W5.cell? ⟨W1.heap.size, 1, none⟩ = some (st (4294967808#64)) := (hc5 _ _ (by first | omega | go_size)).trans (by first | (with_reducible assumption) | go_cell)
  have hz5_0_1 : W5.frozen? ⟨W1.heap.size, 1, none⟩ = false := (hf5 _ _ (by first | omega | go_size)).trans (by first | (with_reducible assumption) | (go_simp; done) | (simp [*]; done))
  have hl5_0_2 : W5.cell? ⟨W1.heap.size, 2, none⟩ = some (st 0#64) := (hc5 _ _ (by first | omega | go_size)).trans (by first | (with_reducible assumption) | go_cell)
  have hz5_0_2 : W5.frozen? ⟨W1.heap.size, 2, none⟩ = false := (hf5 _ _ (by first | omega | go_size)).trans (by first | (with_reducible assumption) | (go_simp; done) | (simp [*]; done))
  have hl5_0_3 : W5.cell? ⟨W1.heap.size, 3, none⟩ = some (by8 0#8) := (hc5 _ _ (by first | omega | go_size)).trans (by first | (with_reducible assumption) | go_cell)
  have hz5_0_3 : W5.frozen? ⟨W1.heap.size, 3, none⟩ = false := (hf5 _ _ (by first | omega | go_size)).trans (by first | (with_reducible assumption) | (go_simp; done) | (simp [*]; done))
  have hk5_0 : W1.heap.size < W5.heap.size := by omega
  clear hg5 hc5 hf5
  go_wp2_with fail
  refine (write_to 2 (4294967808#64) (4294967296#64) 11#8 15#8 15#8 (by decide +kernel) rfl (by decide +kernel) ad cap _ (HR.out.below (by go_grown))).mono ?_
  rintro eE W6 ⟨rfl, hg6⟩
  have hb6 : Below w.heap.size w W6 := (show Below w.heap.size w _ by go_grown).trans (hg6.mono (by first | omega | go_size))
  obtain ⟨hc6, hf6⟩ := bcell hg6
  have hs6 := hg6.size
  try simp only [World.size_alloc, World.size_setCell, World.size_drew] at hs6
  have hl6_0_0 : W6.cell? ⟨W1.heap.size, 0, none⟩ = some (num 2) := (hc6 _ _ (by first | omega | go_size)).trans (by first | (with_reducible assumption) | go_cell)
  have hz6_0_0 : W6.frozen? ⟨W1.heap.size, 0, none⟩ = false := (hf6 _ _ (by first | omega | go_size)).trans (by first | (with_reducible assumption) | (go_simp; done) | (simp [*]; done))
  have hl6_0_1 : W6.cell? ⟨W1.heap.size, 1, none⟩ = some (st (4294967808#64)) := (hc6 _ _ (by first | omega | go_size)).trans (by first | (with_reducible assumption) | go_cell)
  have hz6_0_1 : W6.frozen? ⟨W1.heap.size, 1, none⟩ = false := (hf6 _ _ (by first | omega | go_size)).trans (by first | (with_reducible assumption) | (go_simp; done) | (simp [*]; done))
  have hl6_0_2 : W6.cell? ⟨W1.heap.size, 2, none⟩ = some (st 0#64) := (hc6 _ _ (by first | omega | go_size)).trans (by first | (with_reducible assumption) | go_cell)
  have hz6_0_2 : W6.frozen? ⟨W1.heap.size, 2, none⟩ = false := (hf6 _ _ (by first | omega | go_size)).trans (by first | (with_reducible assumption) | (go_simp; done) | (simp [*]; done))
  have hl6_0_3 : W6.cell? ⟨W1.heap.size, 3, none⟩ = some (by8 0#8) := (hc6 _ _ (by first | omega | go_size)).trans (by first | (with_reducible assumption) | go_cell)
  have hz6_0_3 : W6.frozen? ⟨W1.heap.size, 3, none⟩ = false := (hf6 _ _ (by first | omega | go_size)).trans (by first | (with_reducible assumption) | (go_simp; done) | (simp [*]; done))
  have hk6_0 : W1.heap.size < W6.heap.size := by omega
  clear hg6 hc6 hf6
  go_wp2_with fail
  refine (write_to 2 (4294967808#64) 0#64 0#8 1#8 1#8 (by decide +kernel) rfl (s01 _) ad cap _ (HR.out.below (by go_grown))).mono ?_
  rintro eE W7 ⟨rfl, hg7⟩
  have hb7 : Below w.heap.size w W7 := (show Below w.heap.size w _ by go_grown).trans (hg7.mono (by first | omega | go_size))
  obtain ⟨hc7, hf7⟩ := bcell hg7
  have hs7 := hg7.size
  try simp only [World.size_alloc, World.size_setCell, World.size_drew] at hs7
  have hl7_0_0 : W7.cell? ⟨W1.heap.size, 0, none⟩ = some (num 2) := (hc7 _ _ (by first | omega | go_size)).trans (by first | (with_reducible assumption) | go_cell)
  have hz7_0_0 : W7.frozen? ⟨W1.heap.size, 0, none⟩ = false := (hf7 _ _ (by first | omega | go_size)).trans (by first | (with_reducible assumption) | (go_simp; done) | (simp [*]; done))
  have hl7_0_1 : W7.cell? ⟨W1.heap.size, 1, none⟩ = some (st (4294967808#64)) := (hc7 _ _ (by first | omega | go_size)).trans (by first | (with_reducible assumption) | go_cell)
  have hz7_0_1 : W7.frozen? ⟨W1.heap.size, 1, none⟩ = false := (hf7 _ _ (by first | omega | go_size)).trans (by first | (with_reducible assumption) | (go_simp; done) | (simp [*]; done))
  have hl7_0_2 : W7.cell? ⟨W1.heap.size, 2, none⟩ = some (st 0#64) := (hc7 _ _ (by first | omega | go_size)).trans (by first | (with_reducible assumption) | go_cell)
  have hz7_0_2 : W7.frozen? ⟨W1.heap.size, 2, none⟩ = false := (hf7 _ _ (by first | omega | go_size)).trans (by first | (with_reducible assumption) | (go_simp; done) | (simp [*]; done))
  have hl7_0_3 : W7.cell? ⟨W1.heap.size, 3, none⟩ = some (by8 0#8) := (hc7 _ _ (by first | omega | go_size)).trans (by first | (with_reducible assumption) | go_cell)
  have hz7_0_3 : W7.frozen? ⟨W1.heap.size, 3, none⟩ = false := (hf7 _ _ (by first | omega | go_size)).trans (by first | (with_reducible assumption) | (go_simp; done) | (simp [*]; done))
  have hk7_0 : W1.heap.size < W7.heap.size := by omega
  have hl7_1_0 : W7.cell? ⟨W6.heap.size, 0, none⟩ = some (num 2) := (hc7 _ _ (by first | omega | go_size)).trans (by first | (with_reducible assumption) | go_cell)
  have hz7_1_0 : W7.frozen? ⟨W6.heap.size, 0, none⟩ = false := (hf7 _ _ (by first | omega | go_size)).trans (by first | (with_reducible assumption) | (go_simp; done) | (simp [*]; done))
  have hl7_1_1 : W7.cell? ⟨W6.heap.size, 1, none⟩ = some (st (4294967808#64)) := (hc7 _ _ (by first | omega | go_size)).trans (by first | (with_reducible assumption) | go_cell)
  have hz7_1_1 : W7.frozen? ⟨W6.heap.size, 1, none⟩ = false := (hf7 _ _ (by first | omega | go_size)).trans (by first | (with_reducible assumption) | (go_simp; done) | (simp [*]; done))
  have hl7_1_2 : W7.cell? ⟨W6.heap.size, 2, none⟩ = some (st (4294967296#64)) := (hc7 _ _ (by first | omega | go_size)).trans (by first | (with_reducible assumption) | go_cell)
  have hz7_1_2 : W7.frozen? ⟨W6.heap.size, 2, none⟩ = false := (hf7 _ _ (by first | omega | go_size)).trans (by first | (with_reducible assumption) | (go_simp; done) | (simp [*]; done))
  have hl7_1_3 : W7.cell? ⟨W6.heap.size, 3, none⟩ = some (by8 15#8) := (hc7 _ _ (by first | omega | go_size)).trans (by first | (with_reducible assumption) | go_cell)
  have hz7_1_3 : W7.frozen? ⟨W6.heap.size, 3, none⟩ = false := (hf7 _ _ (by first | omega | go_size)).trans (by first | (with_reducible assumption) | (go_simp; done) | (simp [*]; done))
  have hk7_1 : W6.heap.size < W7.heap.size := by omega
  clear hg7 hc7 hf7
  go_wp2_with fail
  refine (write_to 2 (4294967808#64) 0#64 1#8 3#8 3#8 (by decide +kernel) rfl (s13 _) ad cap _ (HR.out.below (by go_grown))).mono ?_
  rintro eE W8 ⟨rfl, hg8⟩
  have hb8 : Below w.heap.size w W8 := (show Below w.heap.size w _ by go_grown).trans (hg8.mono (by first | omega | go_size))
  obtain ⟨hc8, hf8⟩ := bcell hg8
  have hs8 := hg8.size
  try simp only [World.size_alloc, World.size_setCell, World.size_drew] at hs8
  have hl8_0_0 : W8.cell? ⟨W1.heap.size, 0, none⟩ = some (num 2) := (hc8 _ _ (by first | omega | go_size)).trans (by first | (with_reducible assumption) | go_cell)
  have hz8_0_0 : W8.frozen? ⟨W1.heap.size, 0, none⟩ = false := (hf8 _ _ (by first | omega | go_size)).trans (by first | (with_reducible assumption) | (go_simp; done) | (simp [*]; done))
  have hl8_0_1 : W8.cell? ⟨W1.heap.size, 1, none⟩ = some (st (4294967808#64)) := (hc8 _ _ (by first | omega | go_size)).trans (by first | (with_reducible assumption) | go_cell)
  have hz8_0_1 : W8.frozen? ⟨W1.heap.size, 1, none⟩ = false := (hf8 _ _ (by first | omega | go_size)).trans (by first | (with_reducible assumption) | (go_simp; done) | (simp [*]; done))
  have hl8_0_2 : W8.cell? ⟨W1.heap.size, 2, none⟩ = some (st 0#64) := (hc8 _ _ (by first | omega | go_size)).trans (by first | (with_reducible assumption) | go_cell)
  have hz8_0_2 : W8.frozen? ⟨W1.heap.size, 2, none⟩ = false := (hf8 _ _ (by first | omega | go_size)).trans (by first | (with_reducible assumption) | (go_simp; done) | (simp [*]; done))
  have hl8_0_3 : W8.cell? ⟨W1.heap.size, 3, none⟩ = some (by8 0#8) := (hc8 _ _ (by first | omega | go_size)).trans (by first | (with_reducible assumption) | go_cell)
  have hz8_0_3 : W8.frozen? ⟨W1.heap.size, 3, none⟩ = false := (hf8 _ _ (by first | omega | go_size)).trans (by first | (with_reducible assumption) | (go_simp; done) | (simp [*]; done))
  have hk8_0 : W1.heap.size < W8.heap.size := by omega
  have hl8_1_0 : W8.cell? ⟨W6.heap.size, 0, none⟩ = some (num 2) := (hc8 _ _ (by first | omega | go_size)).trans (by first | (with_reducible assumption) | go_cell)
  have hz8_1_0 : W8.frozen? ⟨W6.heap.size, 0, none⟩ = false := (hf8 _ _ (by first | omega | go_size)).trans (by first | (with_reducible assumption) | (go_simp; done) | (simp [*]; done))
  have hl8_1_1 : W8.cell? ⟨W6.heap.size, 1, none⟩ = some (st (4294967808#64)) := (hc8 _ _ (by first | omega | go_size)).trans (by first | (with_reducible assumption) | go_cell)
  have hz8_1_1 : W8.frozen? ⟨W6.heap.size, 1, none⟩ = false := (hf8 _ _ (by first | omega | go_size)).trans (by first | (with_reducible assumption) | (go_simp; done) | (simp [*]; done))
  have hl8_1_2 : W8.cell? ⟨W6.heap.size, 2, none⟩ = some (st (4294967296#64)) := (hc8 _ _ (by first | omega | go_size)).trans (by first | (with_reducible assumption) | go_cell)
  have hz8_1_2 : W8.frozen? ⟨W6.heap.size, 2, none⟩ = false := (hf8 _ _ (by first | omega | go_size)).trans (by first | (with_reducible assumption) | (go_simp; done) | (simp [*]; done))
  have hl8_1_3 : W8.cell? ⟨W6.heap.size, 3, none⟩ = some (by8 15#8) := (hc8 _ _ (by first | omega | go_size)).trans (by first | (with_reducible assumption) | go_cell)
  have hz8_1_3 : W8.frozen? ⟨W6.heap.size, 3, none⟩ = false := (hf8 _ _ (by first | omega | go_size)).trans (by first | (with_reducible assumption) | (go_simp; done) | (simp [*]; done))
  have hk8_1 : W6.heap.size < W8.heap.size := by omega
  clear hg8 hc8 hf8
  go_wp2_with fail
  refine (ask_is 2 (4294967808#64) 0#64 3#8 (512#64) (512#64) (by decide +kernel) ad cap _ (HR.out.below (by go_grown))).mono ?_
  rintro eE W9 ⟨rfl, hg9⟩
  have hb9 : Below w.heap.size w W9 := (show Below w.heap.size w _ by go_grown).trans (hg9.mono (by first | omega | go_size))
  obtain ⟨hc9, hf9⟩ := bcell hg9
  have hs9 := hg9.size
  try simp only [World.size_alloc, World.size_setCell, World.size_drew] at hs9
  have hl9_0_0 : W9.cell? ⟨W1.heap.size, 0, none⟩ = some (num 2) := (hc9 _ _ (by first | omega | go_size)).trans (by first | (with_reducible assumption) | go_cell)
  have hz9_0_0 : W9.frozen? ⟨W1.heap.size, 0, none⟩ = false := (hf9 _ _ (by first | omega | go_size)).trans (by first | (with_reducible assumption) | (go_simp; done) | (simp [*]; done))
  have hl9_0_1 : W9.cell? ⟨W1.heap.size, 1, none⟩ = some (st (4294967808#64)) := (hc9 _ _ (by first | omega | go_size)).trans (by first | (with_reducible assumption) | go_cell)
  have hz9_0_1 : W9.frozen? ⟨W1.heap.size, 1, none⟩ = false := (hf9 _ _ (by first | omega | go_size)).trans (by first | (with_reducible assumption) | (go_simp; done) | (simp [*]; done))
  have hl9_0_2 : W9.cell? ⟨W1.heap.size, 2, none⟩ = some (st 0#64) := (hc9 _ _ (by first | omega | go_size)).trans (by first | (with_reducible assumption) | go_cell)
  have hz9_0_2 : W9.frozen? ⟨W1.heap.size, 2, none⟩ = false := (hf9 _ _ (by first | omega | go_size)).trans (by first | (with_reducible assumption) | (go_simp; done) | (simp [*]; done))
  have hl9_0_3 : W9.cell? ⟨W1.heap.size, 3, none⟩ = some (by8 0#8) := (hc9 _ _ (by first | omega | go_size)).trans (by first | (with_reducible assumption) | go_cell)
  have hz9_0_3 : W9.frozen? ⟨W1.heap.size, 3, none⟩ = false := (hf9 _ _ (by first | omega | go_size)).trans (by first | (with_reducible assumption) | (go_simp; done) | (simp [*]; done))
  have hk9_0 : W1.heap.size < W9.heap.size := by omega
  have hl9_1_0 : W9.cell? ⟨W6.heap.size, 0, none⟩ = some (num 2) := (hc9 _ _ (by first | omega | go_size)).trans (by first | (with_reducible assumption) | go_cell)
  have hz9_1_0 : W9.frozen? ⟨W6.heap.size, 0, none⟩ = false := (hf9 _ _ (by first | omega | go_size)).trans (by first | (with_reducible assumption) | (go_simp; done) | (simp [*]; done))
  have hl9_1_1 : W9.cell? ⟨W6.heap.size, 1, none⟩ = some (st (4294967808#64)) := (hc9 _ _ (by first | omega | go_size)).trans (by first | (with_reducible assumption) | go_cell)
  have hz9_1_1 : W9.frozen? ⟨W6.heap.size, 1, none⟩ = false := (hf9 _ _ (by first | omega | go_size)).trans (by first | (with_reducible assumption) | (go_simp; done) | (simp [*]; done))
  have hl9_1_2 : W9.cell? ⟨W6.heap.size, 2, none⟩ = some (st (4294967296#64)) := (hc9 _ _ (by first | omega | go_size)).trans (by first | (with_reducible assumption) | go_cell)
  have hz9_1_2 : W9.frozen? ⟨W6.heap.size, 2, none⟩ = false := (hf9 _ _ (by first | omega | go_size)).trans (by first | (with_reducible assumption) | (go_simp; done) | (simp [*]; done))
  have hl9_1_3 : W9.cell? ⟨W6.heap.size, 3, none⟩ = some (by8 15#8) := (hc9 _ _ (by first | omega | go_size)).trans (by first | (with_reducible assumption) | go_cell)
  have hz9_1_3 : W9.frozen? ⟨W6.heap.size, 3, none⟩ = false := (hf9 _ _ (by first | omega | go_size)).trans (by first | (with_reducible assumption) | (go_simp; done) | (simp [*]; done))
  have hk9_1 : W6.heap.size < W9.heap.size := by omega
  clear hg9 hc9 hf9
  go_wp2_with fail
  refine (write_to 2 (4294967808#64) (512#64) 3#8 11#8 3#8 (by decide +kernel) rfl (by decide +kernel) ad cap _ (HR.out.below (by go_grown))).mono ?_
  rintro eE W10 ⟨rfl, hg10⟩
  have hb10 : Below w.heap.size w W10 := (show Below w.heap.size w _ by go_grown).trans (hg10.mono (by first | omega | go_size))
  obtain ⟨hc10, hf10⟩ := bcell hg10
  have hs10 := hg10.size
  try simp only [World.size_alloc, World.size_setCell, World.size_drew] at hs10
  have hl10_0_0 : W10.cell? ⟨W1.heap.size, 0, none⟩ = some (num 2) := (hc10 _ _ (by first | omega | go_size)).trans (by first | (with_reducible assumption) | go_cell)
  have hz10_0_0 : W10.frozen? ⟨W1.heap.size, 0, none⟩ = false := (hf10 _ _ (by first | omega | go_size)).trans (by first | (with_reducible assumption) | (go_simp; done) | (simp [*]; done))
  have hl10_0_1 : W10.cell? ⟨W1.heap.size, 1, none⟩ = some (st (4294967808#64)) := (hc10 _ _ (by first | omega | go_size)).trans (by first | (with_reducible assumption) | go_cell)
  have hz10_0_1 : W10.frozen? ⟨W1.heap.size, 1, none⟩ = false := (hf10 _ _ (by first | omega | go_size)).trans (by first | (with_reducible assumption) | (go_simp; done) | (simp [*]; done))
  have hl10_0_2 : W10.cell? ⟨W1.heap.size, 2, none⟩ = some (st 0#64) := (hc10 _ _ (by first | omega | go_size)).trans (by first | (with_reducible assumption) | go_cell)
  have hz10_0_2 : W10.frozen? ⟨W1.heap.size, 2, none⟩ = false := (hf10 _ _ (by first | omega | go_size)).trans (by first | (with_reducible assumption) | (go_simp; done) | (simp [*]; done))
  have hl10_0_3 : W10.cell? ⟨W1.heap.size, 3, none⟩ = some (by8 0#8) := (hc10 _ _ (by first | omega | go_size)).trans (by first | (with_reducible assumption) | go_cell)
  have hz10_0_3 : W10.frozen? ⟨W1.heap.size, 3, none⟩ = false := (hf10 _ _ (by first | omega | go_size)).trans (by first | (with_reducible assumption) | (go_simp; done) | (simp [*]; done))
  have hk10_0 : W1.heap.size < W10.heap.size := by omega
  have hl10_1_0 : W10.cell? ⟨W6.heap.size, 0, none⟩ = some (num 2) := (hc10 _ _ (by first | omega | go_size)).trans (by first | (with_reducible assumption) | go_cell)
  have hz10_1_0 : W10.frozen? ⟨W6.heap.size, 0, none⟩ = false := (hf10 _ _ (by first | omega | go_size)).trans (by first | (with_reducible assumption) | (go_simp; done) | (simp [*]; done))
  have hl10_1_1 : W10.cell? ⟨W6.heap.size, 1, none⟩ = some (st (4294967808#64)) := (hc10 _ _ (by first | omega | go_size)).trans (by first | (with_reducible assumption) | go_cell)
  have hz10_1_1 : W10.frozen? ⟨W6.heap.size, 1, none⟩ = false := (hf10 _ _ (by first | omega | go_size)).trans (by first | (with_reducible assumption) | (go_simp; done) | (simp [*]; done))
  have hl10_1_2 : W10.cell? ⟨W6.heap.size, 2, none⟩ = some (st (4294967296#64)) := (hc10 _ _ (by first | omega | go_size)).trans (by first | (with_reducible assumption) | go_cell)
  have hz10_1_2 : W10.frozen? ⟨W6.heap.size, 2, none⟩ = false := (hf10 _ _ (by first | omega | go_size)).trans (by first | (with_reducible assumption) | (go_simp; done) | (simp [*]; done))
  have hl10_1_3 : W10.cell? ⟨W6.heap.size, 3, none⟩ = some (by8 15#8) := (hc10 _ _ (by first | omega | go_size)).trans (by first | (with_reducible assumption) | go_cell)
  have hz10_1_3 : W10.frozen? ⟨W6.heap.size, 3, none⟩ = false := (hf10 _ _ (by first | omega | go_size)).trans (by first | (with_reducible assumption) | (go_simp; done) | (simp [*]; done))
  have hk10_1 : W6.heap.size < W10.heap.size := by omega
  clear hg10 hc10 hf10
  go_wp2_with fail
  refine (runs_is 2 (4294967808#64) (4294967296#64) 15#8 true (by decide +kernel) ad cap _ (HR.out.below (by go_grown))).mono ?_
  rintro eE W11 ⟨rfl, hg11⟩
  have hb11 : Below w.heap.size w W11 := (show Below w.heap.size w _ by go_grown).trans (hg11.mono (by first | omega | go_size))
  obtain ⟨hc11, hf11⟩ := bcell hg11
  have hs11 := hg11.size
  try simp only [World.size_alloc, World.size_setCell, World.size_drew] at hs11
  have hl11_0_0 : W11.cell? ⟨W1.heap.size, 0, none⟩ = some (num 2) := (hc11 _ _ (by first | omega | go_size)).trans (by first | (with_reducible assumption) | go_cell)
  have hz11_0_0 : W11.frozen? ⟨W1.heap.size, 0, none⟩ = false := (hf11 _ _ (by first | omega | go_size)).trans (by first | (with_reducible assumption) | (go_simp; done) | (simp [*]; done))
  have hl11_0_1 : W11.cell? ⟨W1.heap.size, 1, none⟩ = some (st (4294967808#64)) := (hc11 _ _ (by first | omega | go_size)).trans (by first | (with_reducible assumption) | go_cell)
  have hz11_0_1 : W11.frozen? ⟨W1.heap.size, 1, none⟩ = false := (hf11 _ _ (by first | omega | go_size)).trans (by first | (with_reducible assumption) | (go_simp; done) | (simp [*]; done))
  have hl11_0_2 : W11.cell? ⟨W1.heap.size, 2, none⟩ = some (st 0#64) := (hc11 _ _ (by first | omega | go_size)).trans (by first | (with_reducible assumption) | go_cell)
  have hz11_0_2 : W11.frozen? ⟨W1.heap.size, 2, none⟩ = false := (hf11 _ _ (by first | omega | go_size)).trans (by first | (with_reducible assumption) | (go_simp; done) | (simp [*]; done))
  have hl11_0_3 : W11.cell? ⟨W1.heap.size, 3, none⟩ = some (by8 0#8) := (hc11 _ _ (by first | omega | go_size)).trans (by first | (with_reducible assumption) | go_cell)
  have hz11_0_3 : W11.frozen? ⟨W1.heap.size, 3, none⟩ = false := (hf11 _ _ (by first | omega | go_size)).trans (by first | (with_reducible assumption) | (go_simp; done) | (simp [*]; done))
  have hk11_0 : W1.heap.size < W11.heap.size := by omega
  have hl11_1_0 : W11.cell? ⟨W6.heap.size, 0, none⟩ = some (num 2) := (hc11 _ _ (by first | omega | go_size)).trans (by first | (with_reducible assumption) | go_cell)
  have hz11_1_0 : W11.frozen? ⟨W6.heap.size, 0, none⟩ = false := (hf11 _ _ (by first | omega | go_size)).trans (by first | (with_reducible assumption) | (go_simp; done) | (simp [*]; done))
  have hl11_1_1 : W11.cell? ⟨W6.heap.size, 1, none⟩ = some (st (4294967808#64)) := (hc11 _ _ (by first | omega | go_size)).trans (by first | (with_reducible assumption) | go_cell)
  have hz11_1_1 : W11.frozen? ⟨W6.heap.size, 1, none⟩ = false := (hf11 _ _ (by first | omega | go_size)).trans (by first | (with_reducible assumption) | (go_simp; done) | (simp [*]; done))
  have hl11_1_2 : W11.cell? ⟨W6.heap.size, 2, none⟩ = some (st (4294967296#64)) := (hc11 _ _ (by first | omega | go_size)).trans (by first | (with_reducible assumption) | go_cell)
  have hz11_1_2 : W11.frozen? ⟨W6.heap.size, 2, none⟩ = false := (hf11 _ _ (by first | omega | go_size)).trans (by first | (with_reducible assumption) | (go_simp; done) | (simp [*]; done))
  have hl11_1_3 : W11.cell? ⟨W6.heap.size, 3, none⟩ = some (by8 15#8) := (hc11 _ _ (by first | omega | go_size)).trans (by first | (with_reducible assumption) | go_cell)
  have hz11_1_3 : W11.frozen? ⟨W6.heap.size, 3, none⟩ = false := (hf11 _ _ (by first | omega | go_size)).trans (by first | (with_reducible assumption) | (go_simp; done) | (simp [*]; done))
  have hk11_1 : W6.heap.size < W11.heap.size := by omega
  have hl11_2_0 : W11.cell? ⟨W10.heap.size, 0, none⟩ = some (num 2) := (hc11 _ _ (by first | omega | go_size)).trans (by first | (with_reducible assumption) | go_cell)
  have hz11_2_0 : W11.frozen? ⟨W10.heap.size, 0, none⟩ = false := (hf11 _ _ (by first | omega | go_size)).trans (by first | (with_reducible assumption) | (go_simp; done) | (simp [*]; done))
  have hl11_2_1 : W11.cell? ⟨W10.heap.size, 1, none⟩ = some (st (4294967808#64)) := (hc11 _ _ (by first | omega | go_size)).trans (by first | (with_reducible assumption) | go_cell)
  have hz11_2_1 : W11.frozen? ⟨W10.heap.size, 1, none⟩ = false := (hf11 _ _ (by first | omega | go_size)).trans (by first | (with_reducible assumption) | (go_simp; done) | (simp [*]; done))
  have hl11_2_2 : W11.cell? ⟨W10.heap.size, 2, none⟩ = some (st (512#64)) := (hc11 _ _ (by first | omega | go_size)).trans (by first | (with_reducible assumption) | go_cell)
  have hz11_2_2 : W11.frozen? ⟨W10.heap.size, 2, none⟩ = false := (hf11 _ _ (by first | omega | go_size)).trans (by first | (with_reducible assumption) | (go_simp; done) | (simp [*]; done))
  have hl11_2_3 : W11.cell? ⟨W10.heap.size, 3, none⟩ = some (by8 3#8) := (hc11 _ _ (by first | omega | go_size)).trans (by first | (with_reducible assumption) | go_cell)
  have hz11_2_3 : W11.frozen? ⟨W10.heap.size, 3, none⟩ = false := (hf11 _ _ (by first | omega | go_size)).trans (by first | (with_reducible assumption) | (go_simp; done) | (simp [*]; done))
  have hk11_2 : W10.heap.size < W11.heap.size := by omega
  clear hg11 hc11 hf11
  go_wp2_with fail
  refine (write_to 2 (4294967808#64) 0#64 0#8 15#8 3#8 (by decide +kernel) rfl (by decide +kernel) ad cap _ (HR.out.below (by go_grown))).mono ?_
  rintro eE W12 ⟨rfl, hg12⟩
  have hb12 : Below w.heap.size w W12 := (show Below w.heap.size w _ by go_grown).trans (hg12.mono (by first | omega | go_size))
  obtain ⟨hc12, hf12⟩ := bcell hg12
  have hs12 := hg12.size
  try simp only [World.size_alloc, World.size_setCell, World.size_drew] at hs12
  have hl12_0_0 : W12.cell? ⟨W1.heap.size, 0, none⟩ = some (num 2) := (hc12 _ _ (by first | omega | go_size)).trans (by first | (with_reducible assumption) | go_cell)
  have hz12_0_0 : W12.frozen? ⟨W1.heap.size, 0, none⟩ = false := (hf12 _ _ (by first | omega | go_size)).trans (by first | (with_reducible assumption) | (go_simp; done) | (simp [*]; done))
  have hl12_0_1 : W12.cell? ⟨W1.heap.size, 1, none⟩ = some (st (4294967808#64)) := (hc12 _ _ (by first | omega | go_size)).trans (by first | (with_reducible assumption) | go_cell)
  have hz12_0_1 : W12.frozen? ⟨W1.heap.size, 1, none⟩ = false := (hf12 _ _ (by first | omega | go_size)).trans (by first | (with_reducible assumption) | (go_simp; done) | (simp [*]; done))
  have hl12_0_2 : W12.cell? ⟨W1.heap.size, 2, none⟩ = some (st 0#64) := (hc12 _ _ (by first | omega | go_size)).trans (by first | (with_reducible assumption) | go_cell)
  have hz12_0_2 : W12.frozen? ⟨W1.heap.size, 2, none⟩ = false := (hf12 _ _ (by first | omega | go_size)).trans (by first | (with_reducible assumption) | (go_simp; done) | (simp [*]; done))
  have hl12_0_3 : W12.cell? ⟨W1.heap.size, 3, none⟩ = some (by8 0#8) := (hc12 _ _ (by first | omega | go_size)).trans (by first | (with_reducible assumption) | go_cell)
  have hz12_0_3 : W12.frozen? ⟨W1.heap.size, 3, none⟩ = false := (hf12 _ _ (by first | omega | go_size)).trans (by first | (with_reducible assumption) | (go_simp; done) | (simp [*]; done))
  have hk12_0 : W1.heap.size < W12.heap.size := by omega
  have hl12_1_0 : W12.cell? ⟨W6.heap.size, 0, none⟩ = some (num 2) := (hc12 _ _ (by first | omega | go_size)).trans (by first | (with_reducible assumption) | go_cell)
  have hz12_1_0 : W12.frozen? ⟨W6.heap.size, 0, none⟩ = false := (hf12 _ _ (by first | omega | go_size)).trans (by first | (with_reducible assumption) | (go_simp; done) | (simp [*]; done))
  have hl12_1_1 : W12.cell? ⟨W6.heap.size, 1, none⟩ = some (st (4294967808#64)) := (hc12 _ _ (by first | omega | go_size)).trans (by first | (with_reducible assumption) | go_cell)
  have hz12_1_1 : W12.frozen? ⟨W6.heap.size, 1, none⟩ = false := (hf12 _ _ (by first | omega | go_size)).trans (by first | (with_reducible assumption) | (go_simp; done) | (simp [*]; done))
  have hl12_1_2 : W12.cell? ⟨W6.heap.size, 2, none⟩ = some (st (4294967296#64)) := (hc12 _ _ (by first | omega | go_size)).trans (by first | (with_reducible assumption) | go_cell)
  have hz12_1_2 : W12.frozen? ⟨W6.heap.size, 2, none⟩ = false := (hf12 _ _ (by first | omega | go_size)).trans (by first | (with_reducible assumption) | (go_simp; done) | (simp [*]; done))
  have hl12_1_3 : W12.cell? ⟨W6.heap.size, 3, none⟩ = some (by8 15#8) := (hc12 _ _ (by first | omega | go_size)).trans (by first | (with_reducible assumption) | go_cell)
  have hz12_1_3 : W12.frozen? ⟨W6.heap.size, 3, none⟩ = false := (hf12 _ _ (by first | omega | go_size)).trans (by first | (with_reducible assumption) | (go_simp; done) | (simp [*]; done))
  have hk12_1 : W6.heap.size < W12.heap.size := by omega
  have hl12_2_0 : W12.cell? ⟨W10.heap.size, 0, none⟩ = some (num 2) := (hc12 _ _ (by first | omega | go_size)).trans (by first | (with_reducible assumption) | go_cell)
  have hz12_2_0 : W12.frozen? ⟨W10.heap.size, 0, none⟩ = false := (hf12 _ _ (by first | omega | go_size)).trans (by first | (with_reducible assumption) | (go_simp; done) | (simp [*]; done))
  have hl12_2_1 : W12.cell? ⟨W10.heap.size, 1, none⟩ = some (st (4294967808#64)) := (hc12 _ _ (by first | omega | go_size)).trans (by first | (with_reducible assumption) | go_cell)
  have hz12_2_1 : W12.frozen? ⟨W10.heap.size, 1, none⟩ = false := (hf12 _ _ (by first | omega | go_size)).trans (by first | (with_reducible assumption) | (go_simp; done) | (simp [*]; done))
  have hl12_2_2 : W12.cell? ⟨W10.heap.size, 2, none⟩ = some (st (512#64)) := (hc12 _ _ (by first | omega | go_size)).trans (by first | (with_reducible assumption) | go_cell)
  have hz12_2_2 : W12.frozen? ⟨W10.heap.size, 2, none⟩ = false := (hf12 _ _ (by first | omega | go_size)).trans (by first | (with_reducible assumption) | (go_simp; done) | (simp [*]; done))
  have hl12_2_3 : W12.cell? ⟨W10.heap.size, 3, none⟩ = some (by8 3#8) := (hc12 _ _ (by first | omega | go_size)).trans (by first | (with_reducible assumption) | go_cell)
  have hz12_2_3 : W12.frozen? ⟨W10.heap.size, 3, none⟩ = false := (hf12 _ _ (by first | omega | go_size)).trans (by first | (with_reducible assumption) | (go_simp; done) | (simp [*]; done))
  have hk12_2 : W10.heap.size < W12.heap.size := by omega
  clear hg12 hc12 hf12
  go_wp2_with fail
  go_ret
  exact ⟨rfl, by go_grown⟩

end Go.Proofs.YtmmgcmbniidieaaDoor.St
