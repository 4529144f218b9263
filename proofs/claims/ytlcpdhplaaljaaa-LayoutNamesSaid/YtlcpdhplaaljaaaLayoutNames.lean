/- The law LayoutNames: the chapter's examples. No input; no condition. -/
import Derived.Test.YtlcpdhplaaljaaaLayLives
import Derived.Test.YtlcpdhplaaljaaaLayFits
import Derived.Test.YtlcpdhplaaljaaaGmOne
namespace Go.Proofs.Ytlcpdhplaaljaaa.LayoutNames
open Go.ChangeShapes Go.WideShapes Go.ChangeAt Go.RowKit Ser Lay
set_option linter.unusedVariables false
set_option linter.unusedSimpArgs false

theorem uin (x : Int) (h : 0 ≤ x ∧ x ≤ 18446744073709551615) : u64in x := h

set_option maxRecDepth 100000 in
set_option maxHeartbeats 3000000 in
theorem walk (w : World) : Calls Try.prog 3 #[] w (Lib.True1 w.heap.size w) := by
  unfold Lib.True1
  have hb0 : Below w.heap.size w w := Below.refl _ _
  have HP1 := Lib.hid (show placeI false 6 0 = noPlace from by decide +kernel)
  have HP2 := Lib.hid (show placeI true 6 0 = (true, 6, 0, 96, 100, 104, 0) from by decide +kernel)
  have HP3 := Lib.hid (show placeI true 1 18446744073709551596 = noPlace from by decide +kernel)
  have HW1 := Lib.hid (show whereI true 6 0 96 100 3 0 = (0, 0, 2) from by decide +kernel)
  have HW2 := Lib.hid (show whereI true 6 0 96 100 11 0 = (100, 4, 0) from by decide +kernel)
  have HW3 := Lib.hid (show whereI true 6 0 96 100 11 1 = (0, 0, 2) from by decide +kernel)
  have HC1 := Lib.hid (show (if checkB false 4 8 0 0 = true then (0 : Int) else 2) = 2 from by decide +kernel)
  have HC2 := Lib.hid (show checkB true 6 0 96 100 = true from by decide +kernel)
  have HO1 := Lib.hid (show overB true 6 0 96 100 103 1 = true from by decide +kernel)
  have HO2 := Lib.hid (show overB true 6 0 96 100 104 9 = false from by decide +kernel)
  have HO3 := Lib.hid (show overB true 6 0 96 100 0 0 = false from by decide +kernel)
  have HPA := Lib.hid (show partsI true 6 = (96, 4, 4) from by decide +kernel)
  have u0 := Lib.hid (uin 0 (by omega))
  have u1 := Lib.hid (uin 18446744073709551596 (by omega))
  have u96 := Lib.hid (uin 96 (by omega))
  have u100 := Lib.hid (uin 100 (by omega))
  have u8 := Lib.hid (uin 8 (by omega))
  have u103 := Lib.hid (uin 103 (by omega))
  have u104 := Lib.hid (uin 104 (by omega))
  have u9 := Lib.hid (uin 9 (by omega))
  have uu1 := Lib.hid (uin 1 (by omega))
  have wf0 : (Lit.int .i64 0).wf = true := by decide
  have wf1 : (Lit.int .i64 1).wf = true := by decide
  go_enter Try.func3, Try.ntmps3
  go_wp2_with fail
  refine (place_is false 6 0 _ u0.out HP1.out _).mono ?_
  rintro eE W1 ⟨rfl, hg1⟩
  have hb1 : Below w.heap.size w W1 := (show Below w.heap.size w _ by go_grown).trans (hg1.mono (by first | omega | go_size))
  obtain ⟨hc1, hf1⟩ := bcell hg1
  have hs1 := hg1.size
  try simp only [World.size_alloc, World.size_setCell, World.size_drew] at hs1
  clear hg1 hc1 hf1
  go_wp2_with fail
  refine (place_is true 6 0 _ u0.out HP2.out _).mono ?_
  rintro eE W2 ⟨rfl, hg2⟩
  have hb2 : Below w.heap.size w W2 := (show Below w.heap.size w _ by go_grown).trans (hg2.mono (by first | omega | go_size))
  obtain ⟨hc2, hf2⟩ := bcell hg2
  have hs2 := hg2.size
  try simp only [World.size_alloc, World.size_setCell, World.size_drew] at hs2
  clear hg2 hc2 hf2
  go_wp2_with fail
  refine (place_is true 1 18446744073709551596 _ u1.out HP3.out _).mono ?_
  rintro eE W3 ⟨rfl, hg3⟩
  have hb3 : Below w.heap.size w W3 := (show Below w.heap.size w _ by go_grown).trans (hg3.mono (by first | omega | go_size))
  obtain ⟨hc3, hf3⟩ := bcell hg3
  have hs3 := hg3.size
  try simp only [World.size_alloc, World.size_setCell, World.size_drew] at hs3
  have hl3_0_0 : W3.cell? ⟨W2.heap.size, 0, none⟩ = some (.bool true) := (hc3 _ _ (by first | omega | go_size)).trans (by first | (with_reducible assumption) | go_cell)
  have hz3_0_0 : W3.frozen? ⟨W2.heap.size, 0, none⟩ = false := (hf3 _ _ (by first | omega | go_size)).trans (by first | (with_reducible assumption) | (go_simp; done) | (simp [*]; done))
  have hl3_0_1 : W3.cell? ⟨W2.heap.size, 1, none⟩ = some (.int .i64 6) := (hc3 _ _ (by first | omega | go_size)).trans (by first | (with_reducible assumption) | go_cell)
  have hz3_0_1 : W3.frozen? ⟨W2.heap.size, 1, none⟩ = false := (hf3 _ _ (by first | omega | go_size)).trans (by first | (with_reducible assumption) | (go_simp; done) | (simp [*]; done))
  have hl3_0_2 : W3.cell? ⟨W2.heap.size, 2, none⟩ = some (.int .u64 0) := (hc3 _ _ (by first | omega | go_size)).trans (by first | (with_reducible assumption) | go_cell)
  have hz3_0_2 : W3.frozen? ⟨W2.heap.size, 2, none⟩ = false := (hf3 _ _ (by first | omega | go_size)).trans (by first | (with_reducible assumption) | (go_simp; done) | (simp [*]; done))
  have hl3_0_3 : W3.cell? ⟨W2.heap.size, 3, none⟩ = some (.int .u64 96) := (hc3 _ _ (by first | omega | go_size)).trans (by first | (with_reducible assumption) | go_cell)
  have hz3_0_3 : W3.frozen? ⟨W2.heap.size, 3, none⟩ = false := (hf3 _ _ (by first | omega | go_size)).trans (by first | (with_reducible assumption) | (go_simp; done) | (simp [*]; done))
  have hl3_0_4 : W3.cell? ⟨W2.heap.size, 4, none⟩ = some (.int .u64 100) := (hc3 _ _ (by first | omega | go_size)).trans (by first | (with_reducible assumption) | go_cell)
  have hz3_0_4 : W3.frozen? ⟨W2.heap.size, 4, none⟩ = false := (hf3 _ _ (by first | omega | go_size)).trans (by first | (with_reducible assumption) | (go_simp; done) | (simp [*]; done))
  have hk3_0 : W2.heap.size < W3.heap.size := by omega
  clear hg3 hc3 hf3
  go_wp2_with fail
  refine (where_is true 6 0 96 100 3 0 0 0 2 u0.out u96.out u100.out wf0 HW1.out _).mono ?_
  rintro eE W4 ⟨rfl, hg4⟩
  have hb4 : Below w.heap.size w W4 := (show Below w.heap.size w _ by go_grown).trans (hg4.mono (by first | omega | go_size))
  obtain ⟨hc4, hf4⟩ := bcell hg4
  have hs4 := hg4.size
  try simp only [World.size_alloc, World.size_setCell, World.size_drew] at hs4
  have hl4_0_0 : W4.cell? ⟨W2.heap.size, 0, none⟩ = some (.bool true) := (hc4 _ _ (by first | omega | go_size)).trans (by first | (with_reducible assumption) | go_cell)
  have hz4_0_0 : W4.frozen? ⟨W2.heap.size, 0, none⟩ = false := (hf4 _ _ (by first | omega | go_size)).trans (by first | (with_reducible assumption) | (go_simp; done) | (simp [*]; done))
  have hl4_0_1 : W4.cell? ⟨W2.heap.size, 1, none⟩ = some (.int .i64 6) := (hc4 _ _ (by first | omega | go_size)).trans (by first | (with_reducible assumption) | go_cell)
  have hz4_0_1 : W4.frozen? ⟨W2.heap.size, 1, none⟩ = false := (hf4 _ _ (by first | omega | go_size)).trans (by first | (with_reducible assumption) | (go_simp; done) | (simp [*]; done))
  have hl4_0_2 : W4.cell? ⟨W2.heap.size, 2, none⟩ = some (.int .u64 0) := (hc4 _ _ (by first | omega | go_size)).trans (by first | (with_reducible assumption) | go_cell)
  have hz4_0_2 : W4.frozen? ⟨W2.heap.size, 2, none⟩ = false := (hf4 _ _ (by first | omega | go_size)).trans (by first | (with_reducible assumption) | (go_simp; done) | (simp [*]; done))
  have hl4_0_3 : W4.cell? ⟨W2.heap.size, 3, none⟩ = some (.int .u64 96) := (hc4 _ _ (by first | omega | go_size)).trans (by first | (with_reducible assumption) | go_cell)
  have hz4_0_3 : W4.frozen? ⟨W2.heap.size, 3, none⟩ = false := (hf4 _ _ (by first | omega | go_size)).trans (by first | (with_reducible assumption) | (go_simp; done) | (simp [*]; done))
  have hl4_0_4 : W4.cell? ⟨W2.heap.size, 4, none⟩ = some (.int .u64 100) := (hc4 _ _ (by first | omega | go_size)).trans (by first | (with_reducible assumption) | go_cell)
  have hz4_0_4 : W4.frozen? ⟨W2.heap.size, 4, none⟩ = false := (hf4 _ _ (by first | omega | go_size)).trans (by first | (with_reducible assumption) | (go_simp; done) | (simp [*]; done))
  have hk4_0 : W2.heap.size < W4.heap.size := by omega
  clear hg4 hc4 hf4
  go_wp2_with fail
  refine (where_is true 6 0 96 100 11 0 100 4 0 u0.out u96.out u100.out wf0 HW2.out _).mono ?_
  rintro eE W5 ⟨rfl, hg5⟩
  have hb5 : Below w.heap.size w W5 := (show Below w.heap.size w _ by go_grown).trans (hg5.mono (by first | omega | go_size))
  obtain ⟨hc5, hf5⟩ := bcell hg5
  have hs5 := hg5.size
  try simp only [World.size_alloc, World.size_setCell, World.size_drew] at hs5
  have hl5_0_0 : W5.cell? ⟨W2.heap.size, 0, none⟩ = some (.bool true) := (hc5 _ _ (by first | omega | go_size)).trans (by first | (with_reducible assumption) | go_cell)
  have hz5_0_0 : W5.frozen? ⟨W2.heap.size, 0, none⟩ = false := (hf5 _ _ (by first | omega | go_size)).trans (by first | (with_reducible assumption) | (go_simp; done) | (simp [*]; done))
  have hl5_0_1 : W5.cell? ⟨W2.heap.size, 1, none⟩ = some (.int .i64 6) := (hc5 _ _ (by first | omega | go_size)).trans (by first | (with_reducible assumption) | go_cell)
  have hz5_0_1 : W5.frozen? ⟨W2.heap.size, 1, none⟩ = false := (hf5 _ _ (by first | omega | go_size)).trans (by first | (with_reducible assumption) | (go_simp; done) | (simp [*]; done))
  have hl5_0_2 : W5.cell? ⟨W2.heap.size, 2, none⟩ = some (.int .u64 0) := (hc5 _ _ (by first | omega | go_size)).trans (by first | (with_reducible assumption) | go_cell)
  have hz5_0_2 : W5.frozen? ⟨W2.heap.size, 2, none⟩ = false := (hf5 _ _ (by first | omega | go_size)).trans (by first | (with_reducible assumption) | (go_simp; done) | (simp [*]; done))
  have hl5_0_3 : W5.cell? ⟨W2.heap.size, 3, none⟩ = some (.int .u64 96) := (hc5 _ _ (by first | omega | go_size)).trans (by first | (with_reducible assumption) | go_cell)
  have hz5_0_3 : W5.frozen? ⟨W2.heap.size, 3, none⟩ = false := (hf5 _ _ (by first | omega | go_size)).trans (by first | (with_reducible assumption) | (go_simp; done) | (simp [*]; done))
  have hl5_0_4 : W5.cell? ⟨W2.heap.size, 4, none⟩ = some (.int .u64 100) := (hc5 _ _ (by first | omega | go_size)).trans (by first | (with_reducible assumption) | go_cell)
  have hz5_0_4 : W5.frozen? ⟨W2.heap.size, 4, none⟩ = false := (hf5 _ _ (by first | omega | go_size)).trans (by first | (with_reducible assumption) | (go_simp; done) | (simp [*]; done))
  have hk5_0 : W2.heap.size < W5.heap.size := by omega
  clear hg5 hc5 hf5
  go_wp2_with fail
  refine (where_is true 6 0 96 100 11 1 0 0 2 u0.out u96.out u100.out wf1 HW3.out _).mono ?_
  rintro eE W6 ⟨rfl, hg6⟩
  have hb6 : Below w.heap.size w W6 := (show Below w.heap.size w _ by go_grown).trans (hg6.mono (by first | omega | go_size))
  obtain ⟨hc6, hf6⟩ := bcell hg6
  have hs6 := hg6.size
  try simp only [World.size_alloc, World.size_setCell, World.size_drew] at hs6
  have hl6_0_0 : W6.cell? ⟨W2.heap.size, 0, none⟩ = some (.bool true) := (hc6 _ _ (by first | omega | go_size)).trans (by first | (with_reducible assumption) | go_cell)
  have hz6_0_0 : W6.frozen? ⟨W2.heap.size, 0, none⟩ = false := (hf6 _ _ (by first | omega | go_size)).trans (by first | (with_reducible assumption) | (go_simp; done) | (simp [*]; done))
  have hl6_0_1 : W6.cell? ⟨W2.heap.size, 1, none⟩ = some (.int .i64 6) := (hc6 _ _ (by first | omega | go_size)).trans (by first | (with_reducible assumption) | go_cell)
  have hz6_0_1 : W6.frozen? ⟨W2.heap.size, 1, none⟩ = false := (hf6 _ _ (by first | omega | go_size)).trans (by first | (with_reducible assumption) | (go_simp; done) | (simp [*]; done))
  have hl6_0_2 : W6.cell? ⟨W2.heap.size, 2, none⟩ = some (.int .u64 0) := (hc6 _ _ (by first | omega | go_size)).trans (by first | (with_reducible assumption) | go_cell)
  have hz6_0_2 : W6.frozen? ⟨W2.heap.size, 2, none⟩ = false := (hf6 _ _ (by first | omega | go_size)).trans (by first | (with_reducible assumption) | (go_simp; done) | (simp [*]; done))
  have hl6_0_3 : W6.cell? ⟨W2.heap.size, 3, none⟩ = some (.int .u64 96) := (hc6 _ _ (by first | omega | go_size)).trans (by first | (with_reducible assumption) | go_cell)
  have hz6_0_3 : W6.frozen? ⟨W2.heap.size, 3, none⟩ = false := (hf6 _ _ (by first | omega | go_size)).trans (by first | (with_reducible assumption) | (go_simp; done) | (simp [*]; done))
  have hl6_0_4 : W6.cell? ⟨W2.heap.size, 4, none⟩ = some (.int .u64 100) := (hc6 _ _ (by first | omega | go_size)).trans (by first | (with_reducible assumption) | go_cell)
  have hz6_0_4 : W6.frozen? ⟨W2.heap.size, 4, none⟩ = false := (hf6 _ _ (by first | omega | go_size)).trans (by first | (with_reducible assumption) | (go_simp; done) | (simp [*]; done))
  have hk6_0 : W2.heap.size < W6.heap.size := by omega
  clear hg6 hc6 hf6
  go_wp2_with fail
  (with_reducible refine (GmOne.new_one 0 103 W6.heap.size 1 _ (by omega) (by omega) (by omega) (by omega) (by go_cell) (by go_cell) (by go_size)).mono ?_)
  rintro eE W7 ⟨m, g1', b3, c2, n3, c3', A2, rfl, hM, hn3, hle, hrow, _, _, _, _, _, hg7⟩
  have HM := Lib.hid hM
  have p1 := Lib.hid (show (GmWord.place (GmOne.oneM 0 103) 1 0 96).isSome = true from by rw [GmOne.place_one, if_pos ⟨by omega, by omega, by omega⟩]; rfl)
  have p2 := Lib.hid (show (GmWord.place (GmOne.oneM 0 103) 1 96 4).isSome = true from by rw [GmOne.place_one, if_pos ⟨by omega, by omega, by omega⟩]; rfl)
  have p3 := Lib.hid (show (GmWord.place (GmOne.oneM 0 103) 1 100 4).isSome = false from by rw [GmOne.place_one, if_neg (fun hh => by have := hh.2.2; omega)]; rfl)
  have I1 := Lib.hid (GmOne.one_in (a := 0) (n := 103) (by omega) (by omega) (by omega))
  have I2 := Lib.hid (GmOne.one_fits (a := 0) (n := 103) (n3 := n3) (by omega) hn3)
  have k3 : n3 ≤ 1000000000 := by omega
  clear hM hrow hn3
  have hb7 : Below w.heap.size w W7 := (show Below w.heap.size w _ by go_grown).trans (hg7.mono (by first | omega | go_size))
  obtain ⟨hc7, hf7⟩ := bcell hg7
  have hs7 := hg7.size
  try simp only [World.size_alloc, World.size_setCell, World.size_drew] at hs7
  have hl7_0_0 : W7.cell? ⟨W2.heap.size, 0, none⟩ = some (.bool true) := (hc7 _ _ (by first | omega | go_size)).trans (by first | (with_reducible assumption) | go_cell)
  have hz7_0_0 : W7.frozen? ⟨W2.heap.size, 0, none⟩ = false := (hf7 _ _ (by first | omega | go_size)).trans (by first | (with_reducible assumption) | (go_simp; done) | (simp [*]; done))
  have hl7_0_1 : W7.cell? ⟨W2.heap.size, 1, none⟩ = some (.int .i64 6) := (hc7 _ _ (by first | omega | go_size)).trans (by first | (with_reducible assumption) | go_cell)
  have hz7_0_1 : W7.frozen? ⟨W2.heap.size, 1, none⟩ = false := (hf7 _ _ (by first | omega | go_size)).trans (by first | (with_reducible assumption) | (go_simp; done) | (simp [*]; done))
  have hl7_0_2 : W7.cell? ⟨W2.heap.size, 2, none⟩ = some (.int .u64 0) := (hc7 _ _ (by first | omega | go_size)).trans (by first | (with_reducible assumption) | go_cell)
  have hz7_0_2 : W7.frozen? ⟨W2.heap.size, 2, none⟩ = false := (hf7 _ _ (by first | omega | go_size)).trans (by first | (with_reducible assumption) | (go_simp; done) | (simp [*]; done))
  have hl7_0_3 : W7.cell? ⟨W2.heap.size, 3, none⟩ = some (.int .u64 96) := (hc7 _ _ (by first | omega | go_size)).trans (by first | (with_reducible assumption) | go_cell)
  have hz7_0_3 : W7.frozen? ⟨W2.heap.size, 3, none⟩ = false := (hf7 _ _ (by first | omega | go_size)).trans (by first | (with_reducible assumption) | (go_simp; done) | (simp [*]; done))
  have hl7_0_4 : W7.cell? ⟨W2.heap.size, 4, none⟩ = some (.int .u64 100) := (hc7 _ _ (by first | omega | go_size)).trans (by first | (with_reducible assumption) | go_cell)
  have hz7_0_4 : W7.frozen? ⟨W2.heap.size, 4, none⟩ = false := (hf7 _ _ (by first | omega | go_size)).trans (by first | (with_reducible assumption) | (go_simp; done) | (simp [*]; done))
  have hk7_0 : W2.heap.size < W7.heap.size := by omega
  clear hg7 hc7 hf7
  go_wp2_with fail
  refine (lives_any _).mono ?_
  rintro eE W8 ⟨rfl, hg8⟩
  have HM8 := Lib.hid (HM.out.below hg8)
  have hb8 : Below w.heap.size w W8 := (show Below w.heap.size w _ by go_grown).trans (hg8.mono (by first | omega | go_size))
  obtain ⟨hc8, hf8⟩ := bcell hg8
  have hs8 := hg8.size
  try simp only [World.size_alloc, World.size_setCell, World.size_drew] at hs8
  have hl8_0_0 : W8.cell? ⟨W2.heap.size, 0, none⟩ = some (.bool true) := (hc8 _ _ (by first | omega | go_size)).trans (by first | (with_reducible assumption) | go_cell)
  have hz8_0_0 : W8.frozen? ⟨W2.heap.size, 0, none⟩ = false := (hf8 _ _ (by first | omega | go_size)).trans (by first | (with_reducible assumption) | (go_simp; done) | (simp [*]; done))
  have hl8_0_1 : W8.cell? ⟨W2.heap.size, 1, none⟩ = some (.int .i64 6) := (hc8 _ _ (by first | omega | go_size)).trans (by first | (with_reducible assumption) | go_cell)
  have hz8_0_1 : W8.frozen? ⟨W2.heap.size, 1, none⟩ = false := (hf8 _ _ (by first | omega | go_size)).trans (by first | (with_reducible assumption) | (go_simp; done) | (simp [*]; done))
  have hl8_0_2 : W8.cell? ⟨W2.heap.size, 2, none⟩ = some (.int .u64 0) := (hc8 _ _ (by first | omega | go_size)).trans (by first | (with_reducible assumption) | go_cell)
  have hz8_0_2 : W8.frozen? ⟨W2.heap.size, 2, none⟩ = false := (hf8 _ _ (by first | omega | go_size)).trans (by first | (with_reducible assumption) | (go_simp; done) | (simp [*]; done))
  have hl8_0_3 : W8.cell? ⟨W2.heap.size, 3, none⟩ = some (.int .u64 96) := (hc8 _ _ (by first | omega | go_size)).trans (by first | (with_reducible assumption) | go_cell)
  have hz8_0_3 : W8.frozen? ⟨W2.heap.size, 3, none⟩ = false := (hf8 _ _ (by first | omega | go_size)).trans (by first | (with_reducible assumption) | (go_simp; done) | (simp [*]; done))
  have hl8_0_4 : W8.cell? ⟨W2.heap.size, 4, none⟩ = some (.int .u64 100) := (hc8 _ _ (by first | omega | go_size)).trans (by first | (with_reducible assumption) | go_cell)
  have hz8_0_4 : W8.frozen? ⟨W2.heap.size, 4, none⟩ = false := (hf8 _ _ (by first | omega | go_size)).trans (by first | (with_reducible assumption) | (go_simp; done) | (simp [*]; done))
  have hk8_0 : W2.heap.size < W8.heap.size := by omega
  clear hg8 hc8 hf8
  go_wp2_with fail
  refine (fits_nil true 6 0 96 100 _).mono ?_
  rintro eE W9 ⟨rfl, hg9⟩
  have HM9 := Lib.hid (HM8.out.below hg9)
  have hb9 : Below w.heap.size w W9 := (show Below w.heap.size w _ by go_grown).trans (hg9.mono (by first | omega | go_size))
  obtain ⟨hc9, hf9⟩ := bcell hg9
  have hs9 := hg9.size
  try simp only [World.size_alloc, World.size_setCell, World.size_drew] at hs9
  have hl9_0_0 : W9.cell? ⟨W2.heap.size, 0, none⟩ = some (.bool true) := (hc9 _ _ (by first | omega | go_size)).trans (by first | (with_reducible assumption) | go_cell)
  have hz9_0_0 : W9.frozen? ⟨W2.heap.size, 0, none⟩ = false := (hf9 _ _ (by first | omega | go_size)).trans (by first | (with_reducible assumption) | (go_simp; done) | (simp [*]; done))
  have hl9_0_1 : W9.cell? ⟨W2.heap.size, 1, none⟩ = some (.int .i64 6) := (hc9 _ _ (by first | omega | go_size)).trans (by first | (with_reducible assumption) | go_cell)
  have hz9_0_1 : W9.frozen? ⟨W2.heap.size, 1, none⟩ = false := (hf9 _ _ (by first | omega | go_size)).trans (by first | (with_reducible assumption) | (go_simp; done) | (simp [*]; done))
  have hl9_0_2 : W9.cell? ⟨W2.heap.size, 2, none⟩ = some (.int .u64 0) := (hc9 _ _ (by first | omega | go_size)).trans (by first | (with_reducible assumption) | go_cell)
  have hz9_0_2 : W9.frozen? ⟨W2.heap.size, 2, none⟩ = false := (hf9 _ _ (by first | omega | go_size)).trans (by first | (with_reducible assumption) | (go_simp; done) | (simp [*]; done))
  have hl9_0_3 : W9.cell? ⟨W2.heap.size, 3, none⟩ = some (.int .u64 96) := (hc9 _ _ (by first | omega | go_size)).trans (by first | (with_reducible assumption) | go_cell)
  have hz9_0_3 : W9.frozen? ⟨W2.heap.size, 3, none⟩ = false := (hf9 _ _ (by first | omega | go_size)).trans (by first | (with_reducible assumption) | (go_simp; done) | (simp [*]; done))
  have hl9_0_4 : W9.cell? ⟨W2.heap.size, 4, none⟩ = some (.int .u64 100) := (hc9 _ _ (by first | omega | go_size)).trans (by first | (with_reducible assumption) | go_cell)
  have hz9_0_4 : W9.frozen? ⟨W2.heap.size, 4, none⟩ = false := (hf9 _ _ (by first | omega | go_size)).trans (by first | (with_reducible assumption) | (go_simp; done) | (simp [*]; done))
  have hk9_0 : W2.heap.size < W9.heap.size := by omega
  clear hg9 hc9 hf9
  go_wp2_with fail
  refine (fits_is true 6 0 96 100 96 4 4 1 m g1' b3 (GmOne.oneM 0 103) true true false 5 _ (by decide) I1.out I2.out hle k3 HM9.out u0.out u96.out u100.out HC2.out HPA.out p1.out p2.out p3.out rfl).mono ?_
  rintro eE W10 ⟨rfl, hg10⟩
  have hb10 : Below w.heap.size w W10 := (show Below w.heap.size w _ by go_grown).trans (hg10.mono (by first | omega | go_size))
  obtain ⟨hc10, hf10⟩ := bcell hg10
  have hs10 := hg10.size
  try simp only [World.size_alloc, World.size_setCell, World.size_drew] at hs10
  have hl10_0_0 : W10.cell? ⟨W2.heap.size, 0, none⟩ = some (.bool true) := (hc10 _ _ (by first | omega | go_size)).trans (by first | (with_reducible assumption) | go_cell)
  have hz10_0_0 : W10.frozen? ⟨W2.heap.size, 0, none⟩ = false := (hf10 _ _ (by first | omega | go_size)).trans (by first | (with_reducible assumption) | (go_simp; done) | (simp [*]; done))
  have hl10_0_1 : W10.cell? ⟨W2.heap.size, 1, none⟩ = some (.int .i64 6) := (hc10 _ _ (by first | omega | go_size)).trans (by first | (with_reducible assumption) | go_cell)
  have hz10_0_1 : W10.frozen? ⟨W2.heap.size, 1, none⟩ = false := (hf10 _ _ (by first | omega | go_size)).trans (by first | (with_reducible assumption) | (go_simp; done) | (simp [*]; done))
  have hl10_0_2 : W10.cell? ⟨W2.heap.size, 2, none⟩ = some (.int .u64 0) := (hc10 _ _ (by first | omega | go_size)).trans (by first | (with_reducible assumption) | go_cell)
  have hz10_0_2 : W10.frozen? ⟨W2.heap.size, 2, none⟩ = false := (hf10 _ _ (by first | omega | go_size)).trans (by first | (with_reducible assumption) | (go_simp; done) | (simp [*]; done))
  have hl10_0_3 : W10.cell? ⟨W2.heap.size, 3, none⟩ = some (.int .u64 96) := (hc10 _ _ (by first | omega | go_size)).trans (by first | (with_reducible assumption) | go_cell)
  have hz10_0_3 : W10.frozen? ⟨W2.heap.size, 3, none⟩ = false := (hf10 _ _ (by first | omega | go_size)).trans (by first | (with_reducible assumption) | (go_simp; done) | (simp [*]; done))
  have hl10_0_4 : W10.cell? ⟨W2.heap.size, 4, none⟩ = some (.int .u64 100) := (hc10 _ _ (by first | omega | go_size)).trans (by first | (with_reducible assumption) | go_cell)
  have hz10_0_4 : W10.frozen? ⟨W2.heap.size, 4, none⟩ = false := (hf10 _ _ (by first | omega | go_size)).trans (by first | (with_reducible assumption) | (go_simp; done) | (simp [*]; done))
  have hk10_0 : W2.heap.size < W10.heap.size := by omega
  clear hg10 hc10 hf10
  go_wp2_with fail
  refine (check_is false 4 8 0 0 2 u8.out u0.out u0.out HC1.out _).mono ?_
  rintro eE W11 ⟨rfl, hg11⟩
  have hb11 : Below w.heap.size w W11 := (show Below w.heap.size w _ by go_grown).trans (hg11.mono (by first | omega | go_size))
  obtain ⟨hc11, hf11⟩ := bcell hg11
  have hs11 := hg11.size
  try simp only [World.size_alloc, World.size_setCell, World.size_drew] at hs11
  have hl11_0_0 : W11.cell? ⟨W2.heap.size, 0, none⟩ = some (.bool true) := (hc11 _ _ (by first | omega | go_size)).trans (by first | (with_reducible assumption) | go_cell)
  have hz11_0_0 : W11.frozen? ⟨W2.heap.size, 0, none⟩ = false := (hf11 _ _ (by first | omega | go_size)).trans (by first | (with_reducible assumption) | (go_simp; done) | (simp [*]; done))
  have hl11_0_1 : W11.cell? ⟨W2.heap.size, 1, none⟩ = some (.int .i64 6) := (hc11 _ _ (by first | omega | go_size)).trans (by first | (with_reducible assumption) | go_cell)
  have hz11_0_1 : W11.frozen? ⟨W2.heap.size, 1, none⟩ = false := (hf11 _ _ (by first | omega | go_size)).trans (by first | (with_reducible assumption) | (go_simp; done) | (simp [*]; done))
  have hl11_0_2 : W11.cell? ⟨W2.heap.size, 2, none⟩ = some (.int .u64 0) := (hc11 _ _ (by first | omega | go_size)).trans (by first | (with_reducible assumption) | go_cell)
  have hz11_0_2 : W11.frozen? ⟨W2.heap.size, 2, none⟩ = false := (hf11 _ _ (by first | omega | go_size)).trans (by first | (with_reducible assumption) | (go_simp; done) | (simp [*]; done))
  have hl11_0_3 : W11.cell? ⟨W2.heap.size, 3, none⟩ = some (.int .u64 96) := (hc11 _ _ (by first | omega | go_size)).trans (by first | (with_reducible assumption) | go_cell)
  have hz11_0_3 : W11.frozen? ⟨W2.heap.size, 3, none⟩ = false := (hf11 _ _ (by first | omega | go_size)).trans (by first | (with_reducible assumption) | (go_simp; done) | (simp [*]; done))
  have hl11_0_4 : W11.cell? ⟨W2.heap.size, 4, none⟩ = some (.int .u64 100) := (hc11 _ _ (by first | omega | go_size)).trans (by first | (with_reducible assumption) | go_cell)
  have hz11_0_4 : W11.frozen? ⟨W2.heap.size, 4, none⟩ = false := (hf11 _ _ (by first | omega | go_size)).trans (by first | (with_reducible assumption) | (go_simp; done) | (simp [*]; done))
  have hk11_0 : W2.heap.size < W11.heap.size := by omega
  clear hg11 hc11 hf11
  go_wp2_with fail
  refine (over_is true 6 0 96 100 103 1 true u0.out u96.out u100.out u103.out uu1.out HO1.out _).mono ?_
  rintro eE W12 ⟨rfl, hg12⟩
  have hb12 : Below w.heap.size w W12 := (show Below w.heap.size w _ by go_grown).trans (hg12.mono (by first | omega | go_size))
  obtain ⟨hc12, hf12⟩ := bcell hg12
  have hs12 := hg12.size
  try simp only [World.size_alloc, World.size_setCell, World.size_drew] at hs12
  have hl12_0_0 : W12.cell? ⟨W2.heap.size, 0, none⟩ = some (.bool true) := (hc12 _ _ (by first | omega | go_size)).trans (by first | (with_reducible assumption) | go_cell)
  have hz12_0_0 : W12.frozen? ⟨W2.heap.size, 0, none⟩ = false := (hf12 _ _ (by first | omega | go_size)).trans (by first | (with_reducible assumption) | (go_simp; done) | (simp [*]; done))
  have hl12_0_1 : W12.cell? ⟨W2.heap.size, 1, none⟩ = some (.int .i64 6) := (hc12 _ _ (by first | omega | go_size)).trans (by first | (with_reducible assumption) | go_cell)
  have hz12_0_1 : W12.frozen? ⟨W2.heap.size, 1, none⟩ = false := (hf12 _ _ (by first | omega | go_size)).trans (by first | (with_reducible assumption) | (go_simp; done) | (simp [*]; done))
  have hl12_0_2 : W12.cell? ⟨W2.heap.size, 2, none⟩ = some (.int .u64 0) := (hc12 _ _ (by first | omega | go_size)).trans (by first | (with_reducible assumption) | go_cell)
  have hz12_0_2 : W12.frozen? ⟨W2.heap.size, 2, none⟩ = false := (hf12 _ _ (by first | omega | go_size)).trans (by first | (with_reducible assumption) | (go_simp; done) | (simp [*]; done))
  have hl12_0_3 : W12.cell? ⟨W2.heap.size, 3, none⟩ = some (.int .u64 96) := (hc12 _ _ (by first | omega | go_size)).trans (by first | (with_reducible assumption) | go_cell)
  have hz12_0_3 : W12.frozen? ⟨W2.heap.size, 3, none⟩ = false := (hf12 _ _ (by first | omega | go_size)).trans (by first | (with_reducible assumption) | (go_simp; done) | (simp [*]; done))
  have hl12_0_4 : W12.cell? ⟨W2.heap.size, 4, none⟩ = some (.int .u64 100) := (hc12 _ _ (by first | omega | go_size)).trans (by first | (with_reducible assumption) | go_cell)
  have hz12_0_4 : W12.frozen? ⟨W2.heap.size, 4, none⟩ = false := (hf12 _ _ (by first | omega | go_size)).trans (by first | (with_reducible assumption) | (go_simp; done) | (simp [*]; done))
  have hk12_0 : W2.heap.size < W12.heap.size := by omega
  clear hg12 hc12 hf12
  go_wp2_with fail
  refine (over_is true 6 0 96 100 104 9 false u0.out u96.out u100.out u104.out u9.out HO2.out _).mono ?_
  rintro eE W13 ⟨rfl, hg13⟩
  have hb13 : Below w.heap.size w W13 := (show Below w.heap.size w _ by go_grown).trans (hg13.mono (by first | omega | go_size))
  obtain ⟨hc13, hf13⟩ := bcell hg13
  have hs13 := hg13.size
  try simp only [World.size_alloc, World.size_setCell, World.size_drew] at hs13
  have hl13_0_0 : W13.cell? ⟨W2.heap.size, 0, none⟩ = some (.bool true) := (hc13 _ _ (by first | omega | go_size)).trans (by first | (with_reducible assumption) | go_cell)
  have hz13_0_0 : W13.frozen? ⟨W2.heap.size, 0, none⟩ = false := (hf13 _ _ (by first | omega | go_size)).trans (by first | (with_reducible assumption) | (go_simp; done) | (simp [*]; done))
  have hl13_0_1 : W13.cell? ⟨W2.heap.size, 1, none⟩ = some (.int .i64 6) := (hc13 _ _ (by first | omega | go_size)).trans (by first | (with_reducible assumption) | go_cell)
  have hz13_0_1 : W13.frozen? ⟨W2.heap.size, 1, none⟩ = false := (hf13 _ _ (by first | omega | go_size)).trans (by first | (with_reducible assumption) | (go_simp; done) | (simp [*]; done))
  have hl13_0_2 : W13.cell? ⟨W2.heap.size, 2, none⟩ = some (.int .u64 0) := (hc13 _ _ (by first | omega | go_size)).trans (by first | (with_reducible assumption) | go_cell)
  have hz13_0_2 : W13.frozen? ⟨W2.heap.size, 2, none⟩ = false := (hf13 _ _ (by first | omega | go_size)).trans (by first | (with_reducible assumption) | (go_simp; done) | (simp [*]; done))
  have hl13_0_3 : W13.cell? ⟨W2.heap.size, 3, none⟩ = some (.int .u64 96) := (hc13 _ _ (by first | omega | go_size)).trans (by first | (with_reducible assumption) | go_cell)
  have hz13_0_3 : W13.frozen? ⟨W2.heap.size, 3, none⟩ = false := (hf13 _ _ (by first | omega | go_size)).trans (by first | (with_reducible assumption) | (go_simp; done) | (simp [*]; done))
  have hl13_0_4 : W13.cell? ⟨W2.heap.size, 4, none⟩ = some (.int .u64 100) := (hc13 _ _ (by first | omega | go_size)).trans (by first | (with_reducible assumption) | go_cell)
  have hz13_0_4 : W13.frozen? ⟨W2.heap.size, 4, none⟩ = false := (hf13 _ _ (by first | omega | go_size)).trans (by first | (with_reducible assumption) | (go_simp; done) | (simp [*]; done))
  have hk13_0 : W2.heap.size < W13.heap.size := by omega
  clear hg13 hc13 hf13
  go_wp2_with fail
  refine (over_is true 6 0 96 100 0 0 false u0.out u96.out u100.out u0.out u0.out HO3.out _).mono ?_
  rintro eE W14 ⟨rfl, hg14⟩
  have hb14 : Below w.heap.size w W14 := (show Below w.heap.size w _ by go_grown).trans (hg14.mono (by first | omega | go_size))
  obtain ⟨hc14, hf14⟩ := bcell hg14
  have hs14 := hg14.size
  try simp only [World.size_alloc, World.size_setCell, World.size_drew] at hs14
  have hl14_0_0 : W14.cell? ⟨W2.heap.size, 0, none⟩ = some (.bool true) := (hc14 _ _ (by first | omega | go_size)).trans (by first | (with_reducible assumption) | go_cell)
  have hz14_0_0 : W14.frozen? ⟨W2.heap.size, 0, none⟩ = false := (hf14 _ _ (by first | omega | go_size)).trans (by first | (with_reducible assumption) | (go_simp; done) | (simp [*]; done))
  have hl14_0_1 : W14.cell? ⟨W2.heap.size, 1, none⟩ = some (.int .i64 6) := (hc14 _ _ (by first | omega | go_size)).trans (by first | (with_reducible assumption) | go_cell)
  have hz14_0_1 : W14.frozen? ⟨W2.heap.size, 1, none⟩ = false := (hf14 _ _ (by first | omega | go_size)).trans (by first | (with_reducible assumption) | (go_simp; done) | (simp [*]; done))
  have hl14_0_2 : W14.cell? ⟨W2.heap.size, 2, none⟩ = some (.int .u64 0) := (hc14 _ _ (by first | omega | go_size)).trans (by first | (with_reducible assumption) | go_cell)
  have hz14_0_2 : W14.frozen? ⟨W2.heap.size, 2, none⟩ = false := (hf14 _ _ (by first | omega | go_size)).trans (by first | (with_reducible assumption) | (go_simp; done) | (simp [*]; done))
  have hl14_0_3 : W14.cell? ⟨W2.heap.size, 3, none⟩ = some (.int .u64 96) := (hc14 _ _ (by first | omega | go_size)).trans (by first | (with_reducible assumption) | go_cell)
  have hz14_0_3 : W14.frozen? ⟨W2.heap.size, 3, none⟩ = false := (hf14 _ _ (by first | omega | go_size)).trans (by first | (with_reducible assumption) | (go_simp; done) | (simp [*]; done))
  have hl14_0_4 : W14.cell? ⟨W2.heap.size, 4, none⟩ = some (.int .u64 100) := (hc14 _ _ (by first | omega | go_size)).trans (by first | (with_reducible assumption) | go_cell)
  have hz14_0_4 : W14.frozen? ⟨W2.heap.size, 4, none⟩ = false := (hf14 _ _ (by first | omega | go_size)).trans (by first | (with_reducible assumption) | (go_simp; done) | (simp [*]; done))
  have hk14_0 : W2.heap.size < W14.heap.size := by omega
  clear hg14 hc14 hf14
  go_wp2_with fail
  go_ret
  exact ⟨rfl, by go_grown⟩

set_option maxRecDepth 100000 in
theorem lifted (os : Os) (started : os.Started) (H : Type) (enc : TypeId × Value → H) :
    ReturnsInHanded {} Try.checked os 3 .any (Rows.layoutNamesSpec.pre6 enc Try.prog Try.f3 Rows.layoutNamesRow.domain false) (Rows.layoutNamesSpec.post enc Try.prog Try.f3 false true false false) := by
  refine Lib.lifted (C := Try.checked) (tb := 4) H enc Lib.own started (by kernel_rfl) Try.func3
    (ChangeSpec.witness6 (enc := enc) (C := Try.checked) false ⟨#[], #[], []⟩ 8 (by kernel_rfl) (by kernel_rfl) (by kernel_rfl) (by kernel_rfl))
    Lib.laidOut (Lib.readable_of (by kernel_rfl)) rfl Try.underlying4 rfl ?_ ?_
  · intro ds h
    match ds, h with
    | [], _ => exact ⟨rfl, rfl, rfl⟩
  · intro W base args ds p hval hA hfz hlt
    rw [Try.params3] at hval
    have hA' : DataW.TrodAll enc Try.prog W 0 (fun _ => true) true Try.f3.params.toList args.toList ds p := hA
    rw [Try.params3] at hA'
    obtain ⟨hargs, rfl, rfl⟩ := trodAll_nil hA'
    obtain rfl : args = #[] := by cases args; simp_all
    exact walk W

theorem over : Rows.layoutNamesRow.holds Try.pinned (OpenSpec.ofChange Rows.layoutNamesSpec) :=
  OpenClaim.holds_of_wide 3 Try.f3 rfl rfl rfl rfl rfl rfl rfl ⟨rfl, rfl, rfl, rfl, rfl⟩ rfl rfl rfl rfl rfl (by kernel_rfl) Try.func3 (by kernel_rfl)
    (of_decide_eq_true (by kernel_rfl)) (by unfold Func.isWrapper; first | (rw [if_pos (by decide +kernel)]; kernel_rfl) | (rw [if_neg (by decide +kernel)]; exact ⟨rfl, rfl⟩))
    (fun os started H enc _ => lifted os started H enc)

/-- The statement. -/
theorem proved : Rows.LayoutNamesSaid :=
  over

end Go.Proofs.Ytlcpdhplaaljaaa.LayoutNames
