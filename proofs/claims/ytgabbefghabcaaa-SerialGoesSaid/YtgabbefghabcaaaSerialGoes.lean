/- The law SerialGoes: in parts as at once; twice the size is nothing; Between is the distance. For every input; no condition. -/
import Derived.Test.YtgabbefghabcaaaSerFwd
import Derived.Test.YtgabbefghabcaaaPos
namespace Go.Proofs.Ytgabbefghabcaaa.SerialGoes
open Go.ChangeShapes Go.WideShapes Go.ChangeAt Go.RowKit Ser
set_option linter.unusedVariables false
set_option linter.unusedSimpArgs false

theorem walk (a0 : Int) (b0 : Bool) (a1 a2 a3 : Int) (w0 : (Lit.int .i64 a0).wf = true) (w1 : (Lit.int .i64 a1).wf = true) (w2 : (Lit.int .i64 a2).wf = true) (w3 : (Lit.int .i64 a3).wf = true) (w : World) :
    Calls Try.prog 6 #[posV a0 b0, num a1, num a2, num a3] w (Lib.True1 w.heap.size w) := by
  unfold Lib.True1
  have hb0 : Below w.heap.size w w := Below.refl _ _
  go_enter Try.func6, Try.ntmps6
  go_wp2_with fail
  refine (lives_any _).mono ?_
  rintro e W1 ⟨rfl, hg1⟩
  have hb1 : Below w.heap.size w W1 := (show Below w.heap.size w _ by go_grown).trans (hg1.mono (by go_size))
  obtain ⟨hc1, hf1⟩ := bcell hg1
  have hs1 := hg1.size
  try simp only [World.size_alloc, World.size_setCell, World.size_drew] at hs1
  have hl1_0_0 : W1.cell? ⟨w.heap.size, 0, none⟩ = some (num a0) := (hc1 _ _ (by go_size)).trans (by go_cell)
  have hz1_0_0 : W1.frozen? ⟨w.heap.size, 0, none⟩ = false := (hf1 _ _ (by go_size)).trans (by first | (go_simp; done) | (simp [*]; done))
  have hl1_0_1 : W1.cell? ⟨w.heap.size, 1, none⟩ = some (.bool b0) := (hc1 _ _ (by go_size)).trans (by go_cell)
  have hz1_0_1 : W1.frozen? ⟨w.heap.size, 1, none⟩ = false := (hf1 _ _ (by go_size)).trans (by first | (go_simp; done) | (simp [*]; done))
  have hk1_0 : w.heap.size < W1.heap.size := by omega
  clear hg1 hc1 hf1
  go_wp2_with fail
  refine (pick_some a1 32768 (by omega) w1 _).mono ?_
  rintro e w' ⟨k, hk1, hk2, rfl, rfl⟩
  go_wp2_with fail
  obtain ⟨n, hn⟩ : ∃ n, 1 + k = n := ⟨_, rfl⟩
  have hn1 : 1 ≤ n := by omega
  have hn2 : n ≤ 32768 := by omega
  rw [hn]
  clear hn hk1 hk2
  refine (pick_some a0 n (by omega) w0 _).mono ?_
  rintro e w' ⟨p, hp1, hp2, rfl, rfl⟩
  go_wp2_with fail
  refine (pick_some a2 (n + 1) (by omega) w2 _).mono ?_
  rintro e w' ⟨a, ha1, ha2, rfl, rfl⟩
  go_wp2_with fail
  refine (pick_some a3 (n - a + 1) (by omega) w3 _).mono ?_
  rintro e w' ⟨b, hq1, hq2, rfl, rfl⟩
  go_wp2_with fail
  obtain ⟨⟨x, xb⟩, hx⟩ : ∃ y : Int × Bool, fwd p b0 a n = y := ⟨_, rfl⟩
  obtain ⟨⟨z, zb⟩, hz⟩ : ∃ y : Int × Bool, fwd p b0 (a + b) n = y := ⟨_, rfl⟩
  have hxx := fwd_in p a n x b0 xb (by omega) hx
  have hzz := fwd_in p (a + b) n z b0 zb (by omega) hz
  have hy := (fwd_fwd p a b n x b0 xb (by omega) hq1 (by omega) hx).trans hz
  have hu := fwd_round p n b0 hp1
  have hv := fwd_round p n (!b0) hp1
  rw [Bool.not_not] at hv
  obtain ⟨o, ho⟩ : ∃ o, SerBits.wordI p b0 = o := ⟨_, rfl⟩
  have Hx := Lib.hid hx
  have Hy := Lib.hid hy
  have Hz := Lib.hid hz
  have Hu := Lib.hid hu
  have Hv := Lib.hid hv
  have Ho := Lib.hid ho
  clear hx hy hz hu hv ho
  refine (go_is p a n x b0 xb (by omega) Hx.out _).mono ?_
  rintro e W2 ⟨rfl, hg2⟩
  have hb2 : Below w.heap.size w W2 := (show Below w.heap.size w _ by go_grown).trans (hg2.mono (by go_size))
  obtain ⟨hc2, hf2⟩ := bcell hg2
  have hs2 := hg2.size
  try simp only [World.size_alloc, World.size_setCell, World.size_drew] at hs2
  have hl2_0_0 : W2.cell? ⟨w.heap.size, 0, none⟩ = some (num p) := (hc2 _ _ (by go_size)).trans (by go_cell)
  have hz2_0_0 : W2.frozen? ⟨w.heap.size, 0, none⟩ = false := (hf2 _ _ (by go_size)).trans (by first | (go_simp; done) | (simp [*]; done))
  have hl2_0_1 : W2.cell? ⟨w.heap.size, 1, none⟩ = some (.bool b0) := (hc2 _ _ (by go_size)).trans (by go_cell)
  have hz2_0_1 : W2.frozen? ⟨w.heap.size, 1, none⟩ = false := (hf2 _ _ (by go_size)).trans (by first | (go_simp; done) | (simp [*]; done))
  have hk2_0 : w.heap.size < W2.heap.size := by omega
  clear hg2 hc2 hf2
  go_wp2_with fail
  refine (go_is x b n z xb zb (by omega) Hy.out _).mono ?_
  rintro e W3 ⟨rfl, hg3⟩
  have hb3 : Below w.heap.size w W3 := (show Below w.heap.size w _ by go_grown).trans (hg3.mono (by go_size))
  obtain ⟨hc3, hf3⟩ := bcell hg3
  have hs3 := hg3.size
  try simp only [World.size_alloc, World.size_setCell, World.size_drew] at hs3
  have hl3_0_0 : W3.cell? ⟨w.heap.size, 0, none⟩ = some (num p) := (hc3 _ _ (by go_size)).trans (by go_cell)
  have hz3_0_0 : W3.frozen? ⟨w.heap.size, 0, none⟩ = false := (hf3 _ _ (by go_size)).trans (by first | (go_simp; done) | (simp [*]; done))
  have hl3_0_1 : W3.cell? ⟨w.heap.size, 1, none⟩ = some (.bool b0) := (hc3 _ _ (by go_size)).trans (by go_cell)
  have hz3_0_1 : W3.frozen? ⟨w.heap.size, 1, none⟩ = false := (hf3 _ _ (by go_size)).trans (by first | (go_simp; done) | (simp [*]; done))
  have hk3_0 : w.heap.size < W3.heap.size := by omega
  have hl3_1_0 : W3.cell? ⟨W2.heap.size, 0, none⟩ = some (num x) := (hc3 _ _ (by go_size)).trans (by go_cell)
  have hz3_1_0 : W3.frozen? ⟨W2.heap.size, 0, none⟩ = false := (hf3 _ _ (by go_size)).trans (by first | (go_simp; done) | (simp [*]; done))
  have hl3_1_1 : W3.cell? ⟨W2.heap.size, 1, none⟩ = some (.bool xb) := (hc3 _ _ (by go_size)).trans (by go_cell)
  have hz3_1_1 : W3.frozen? ⟨W2.heap.size, 1, none⟩ = false := (hf3 _ _ (by go_size)).trans (by first | (go_simp; done) | (simp [*]; done))
  have hk3_1 : W2.heap.size < W3.heap.size := by omega
  clear hg3 hc3 hf3
  go_wp2_with fail
  refine (go_is p (a + b) n z b0 zb (by omega) Hz.out _).mono ?_
  rintro e W4 ⟨rfl, hg4⟩
  have hb4 : Below w.heap.size w W4 := (show Below w.heap.size w _ by go_grown).trans (hg4.mono (by go_size))
  obtain ⟨hc4, hf4⟩ := bcell hg4
  have hs4 := hg4.size
  try simp only [World.size_alloc, World.size_setCell, World.size_drew] at hs4
  have hl4_0_0 : W4.cell? ⟨w.heap.size, 0, none⟩ = some (num p) := (hc4 _ _ (by go_size)).trans (by go_cell)
  have hz4_0_0 : W4.frozen? ⟨w.heap.size, 0, none⟩ = false := (hf4 _ _ (by go_size)).trans (by first | (go_simp; done) | (simp [*]; done))
  have hl4_0_1 : W4.cell? ⟨w.heap.size, 1, none⟩ = some (.bool b0) := (hc4 _ _ (by go_size)).trans (by go_cell)
  have hz4_0_1 : W4.frozen? ⟨w.heap.size, 1, none⟩ = false := (hf4 _ _ (by go_size)).trans (by first | (go_simp; done) | (simp [*]; done))
  have hk4_0 : w.heap.size < W4.heap.size := by omega
  have hl4_1_0 : W4.cell? ⟨W2.heap.size, 0, none⟩ = some (num x) := (hc4 _ _ (by go_size)).trans (by go_cell)
  have hz4_1_0 : W4.frozen? ⟨W2.heap.size, 0, none⟩ = false := (hf4 _ _ (by go_size)).trans (by first | (go_simp; done) | (simp [*]; done))
  have hl4_1_1 : W4.cell? ⟨W2.heap.size, 1, none⟩ = some (.bool xb) := (hc4 _ _ (by go_size)).trans (by go_cell)
  have hz4_1_1 : W4.frozen? ⟨W2.heap.size, 1, none⟩ = false := (hf4 _ _ (by go_size)).trans (by first | (go_simp; done) | (simp [*]; done))
  have hk4_1 : W2.heap.size < W4.heap.size := by omega
  have hl4_2_0 : W4.cell? ⟨W3.heap.size, 0, none⟩ = some (num z) := (hc4 _ _ (by go_size)).trans (by go_cell)
  have hz4_2_0 : W4.frozen? ⟨W3.heap.size, 0, none⟩ = false := (hf4 _ _ (by go_size)).trans (by first | (go_simp; done) | (simp [*]; done))
  have hl4_2_1 : W4.cell? ⟨W3.heap.size, 1, none⟩ = some (.bool zb) := (hc4 _ _ (by go_size)).trans (by go_cell)
  have hz4_2_1 : W4.frozen? ⟨W3.heap.size, 1, none⟩ = false := (hf4 _ _ (by go_size)).trans (by first | (go_simp; done) | (simp [*]; done))
  have hk4_2 : W3.heap.size < W4.heap.size := by omega
  clear hg4 hc4 hf4
  go_wp2_with fail
  refine (go_is p n n p b0 (!b0) (by omega) Hu.out _).mono ?_
  rintro e W5 ⟨rfl, hg5⟩
  have hb5 : Below w.heap.size w W5 := (show Below w.heap.size w _ by go_grown).trans (hg5.mono (by go_size))
  obtain ⟨hc5, hf5⟩ := bcell hg5
  have hs5 := hg5.size
  try simp only [World.size_alloc, World.size_setCell, World.size_drew] at hs5
  have hl5_0_0 : W5.cell? ⟨w.heap.size, 0, none⟩ = some (num p) := (hc5 _ _ (by go_size)).trans (by go_cell)
  have hz5_0_0 : W5.frozen? ⟨w.heap.size, 0, none⟩ = false := (hf5 _ _ (by go_size)).trans (by first | (go_simp; done) | (simp [*]; done))
  have hl5_0_1 : W5.cell? ⟨w.heap.size, 1, none⟩ = some (.bool b0) := (hc5 _ _ (by go_size)).trans (by go_cell)
  have hz5_0_1 : W5.frozen? ⟨w.heap.size, 1, none⟩ = false := (hf5 _ _ (by go_size)).trans (by first | (go_simp; done) | (simp [*]; done))
  have hk5_0 : w.heap.size < W5.heap.size := by omega
  have hl5_1_0 : W5.cell? ⟨W3.heap.size, 0, none⟩ = some (num z) := (hc5 _ _ (by go_size)).trans (by go_cell)
  have hz5_1_0 : W5.frozen? ⟨W3.heap.size, 0, none⟩ = false := (hf5 _ _ (by go_size)).trans (by first | (go_simp; done) | (simp [*]; done))
  have hl5_1_1 : W5.cell? ⟨W3.heap.size, 1, none⟩ = some (.bool zb) := (hc5 _ _ (by go_size)).trans (by go_cell)
  have hz5_1_1 : W5.frozen? ⟨W3.heap.size, 1, none⟩ = false := (hf5 _ _ (by go_size)).trans (by first | (go_simp; done) | (simp [*]; done))
  have hk5_1 : W3.heap.size < W5.heap.size := by omega
  have hl5_2_0 : W5.cell? ⟨W4.heap.size, 0, none⟩ = some (num z) := (hc5 _ _ (by go_size)).trans (by go_cell)
  have hz5_2_0 : W5.frozen? ⟨W4.heap.size, 0, none⟩ = false := (hf5 _ _ (by go_size)).trans (by first | (go_simp; done) | (simp [*]; done))
  have hl5_2_1 : W5.cell? ⟨W4.heap.size, 1, none⟩ = some (.bool zb) := (hc5 _ _ (by go_size)).trans (by go_cell)
  have hz5_2_1 : W5.frozen? ⟨W4.heap.size, 1, none⟩ = false := (hf5 _ _ (by go_size)).trans (by first | (go_simp; done) | (simp [*]; done))
  have hk5_2 : W4.heap.size < W5.heap.size := by omega
  clear hg5 hc5 hf5
  go_wp2_with fail
  refine (go_is p n n p (!b0) b0 (by omega) Hv.out _).mono ?_
  rintro e W6 ⟨rfl, hg6⟩
  have hb6 : Below w.heap.size w W6 := (show Below w.heap.size w _ by go_grown).trans (hg6.mono (by go_size))
  obtain ⟨hc6, hf6⟩ := bcell hg6
  have hs6 := hg6.size
  try simp only [World.size_alloc, World.size_setCell, World.size_drew] at hs6
  have hl6_0_0 : W6.cell? ⟨w.heap.size, 0, none⟩ = some (num p) := (hc6 _ _ (by go_size)).trans (by go_cell)
  have hz6_0_0 : W6.frozen? ⟨w.heap.size, 0, none⟩ = false := (hf6 _ _ (by go_size)).trans (by first | (go_simp; done) | (simp [*]; done))
  have hl6_0_1 : W6.cell? ⟨w.heap.size, 1, none⟩ = some (.bool b0) := (hc6 _ _ (by go_size)).trans (by go_cell)
  have hz6_0_1 : W6.frozen? ⟨w.heap.size, 1, none⟩ = false := (hf6 _ _ (by go_size)).trans (by first | (go_simp; done) | (simp [*]; done))
  have hk6_0 : w.heap.size < W6.heap.size := by omega
  have hl6_1_0 : W6.cell? ⟨W3.heap.size, 0, none⟩ = some (num z) := (hc6 _ _ (by go_size)).trans (by go_cell)
  have hz6_1_0 : W6.frozen? ⟨W3.heap.size, 0, none⟩ = false := (hf6 _ _ (by go_size)).trans (by first | (go_simp; done) | (simp [*]; done))
  have hl6_1_1 : W6.cell? ⟨W3.heap.size, 1, none⟩ = some (.bool zb) := (hc6 _ _ (by go_size)).trans (by go_cell)
  have hz6_1_1 : W6.frozen? ⟨W3.heap.size, 1, none⟩ = false := (hf6 _ _ (by go_size)).trans (by first | (go_simp; done) | (simp [*]; done))
  have hk6_1 : W3.heap.size < W6.heap.size := by omega
  have hl6_2_0 : W6.cell? ⟨W4.heap.size, 0, none⟩ = some (num z) := (hc6 _ _ (by go_size)).trans (by go_cell)
  have hz6_2_0 : W6.frozen? ⟨W4.heap.size, 0, none⟩ = false := (hf6 _ _ (by go_size)).trans (by first | (go_simp; done) | (simp [*]; done))
  have hl6_2_1 : W6.cell? ⟨W4.heap.size, 1, none⟩ = some (.bool zb) := (hc6 _ _ (by go_size)).trans (by go_cell)
  have hz6_2_1 : W6.frozen? ⟨W4.heap.size, 1, none⟩ = false := (hf6 _ _ (by go_size)).trans (by first | (go_simp; done) | (simp [*]; done))
  have hk6_2 : W4.heap.size < W6.heap.size := by omega
  have hl6_3_0 : W6.cell? ⟨W5.heap.size, 0, none⟩ = some (num p) := (hc6 _ _ (by go_size)).trans (by go_cell)
  have hz6_3_0 : W6.frozen? ⟨W5.heap.size, 0, none⟩ = false := (hf6 _ _ (by go_size)).trans (by first | (go_simp; done) | (simp [*]; done))
  have hl6_3_1 : W6.cell? ⟨W5.heap.size, 1, none⟩ = some (.bool (!b0)) := (hc6 _ _ (by go_size)).trans (by go_cell)
  have hz6_3_1 : W6.frozen? ⟨W5.heap.size, 1, none⟩ = false := (hf6 _ _ (by go_size)).trans (by first | (go_simp; done) | (simp [*]; done))
  have hk6_3 : W5.heap.size < W6.heap.size := by omega
  clear hg6 hc6 hf6
  go_wp2_with fail
  refine (between_is p (a + b) n z b0 zb (by omega) Hz.out _).mono ?_
  rintro e W7 ⟨rfl, hg7⟩
  have hb7 : Below w.heap.size w W7 := (show Below w.heap.size w _ by go_grown).trans (hg7.mono (by go_size))
  obtain ⟨hc7, hf7⟩ := bcell hg7
  have hs7 := hg7.size
  try simp only [World.size_alloc, World.size_setCell, World.size_drew] at hs7
  have hl7_0_0 : W7.cell? ⟨w.heap.size, 0, none⟩ = some (num p) := (hc7 _ _ (by go_size)).trans (by go_cell)
  have hz7_0_0 : W7.frozen? ⟨w.heap.size, 0, none⟩ = false := (hf7 _ _ (by go_size)).trans (by first | (go_simp; done) | (simp [*]; done))
  have hl7_0_1 : W7.cell? ⟨w.heap.size, 1, none⟩ = some (.bool b0) := (hc7 _ _ (by go_size)).trans (by go_cell)
  have hz7_0_1 : W7.frozen? ⟨w.heap.size, 1, none⟩ = false := (hf7 _ _ (by go_size)).trans (by first | (go_simp; done) | (simp [*]; done))
  have hk7_0 : w.heap.size < W7.heap.size := by omega
  have hl7_1_0 : W7.cell? ⟨W3.heap.size, 0, none⟩ = some (num z) := (hc7 _ _ (by go_size)).trans (by go_cell)
  have hz7_1_0 : W7.frozen? ⟨W3.heap.size, 0, none⟩ = false := (hf7 _ _ (by go_size)).trans (by first | (go_simp; done) | (simp [*]; done))
  have hl7_1_1 : W7.cell? ⟨W3.heap.size, 1, none⟩ = some (.bool zb) := (hc7 _ _ (by go_size)).trans (by go_cell)
  have hz7_1_1 : W7.frozen? ⟨W3.heap.size, 1, none⟩ = false := (hf7 _ _ (by go_size)).trans (by first | (go_simp; done) | (simp [*]; done))
  have hk7_1 : W3.heap.size < W7.heap.size := by omega
  have hl7_2_0 : W7.cell? ⟨W4.heap.size, 0, none⟩ = some (num z) := (hc7 _ _ (by go_size)).trans (by go_cell)
  have hz7_2_0 : W7.frozen? ⟨W4.heap.size, 0, none⟩ = false := (hf7 _ _ (by go_size)).trans (by first | (go_simp; done) | (simp [*]; done))
  have hl7_2_1 : W7.cell? ⟨W4.heap.size, 1, none⟩ = some (.bool zb) := (hc7 _ _ (by go_size)).trans (by go_cell)
  have hz7_2_1 : W7.frozen? ⟨W4.heap.size, 1, none⟩ = false := (hf7 _ _ (by go_size)).trans (by first | (go_simp; done) | (simp [*]; done))
  have hk7_2 : W4.heap.size < W7.heap.size := by omega
  have hl7_3_0 : W7.cell? ⟨W5.heap.size, 0, none⟩ = some (num p) := (hc7 _ _ (by go_size)).trans (by go_cell)
  have hz7_3_0 : W7.frozen? ⟨W5.heap.size, 0, none⟩ = false := (hf7 _ _ (by go_size)).trans (by first | (go_simp; done) | (simp [*]; done))
  have hl7_3_1 : W7.cell? ⟨W5.heap.size, 1, none⟩ = some (.bool (!b0)) := (hc7 _ _ (by go_size)).trans (by go_cell)
  have hz7_3_1 : W7.frozen? ⟨W5.heap.size, 1, none⟩ = false := (hf7 _ _ (by go_size)).trans (by first | (go_simp; done) | (simp [*]; done))
  have hk7_3 : W5.heap.size < W7.heap.size := by omega
  have hl7_4_0 : W7.cell? ⟨W6.heap.size, 0, none⟩ = some (num p) := (hc7 _ _ (by go_size)).trans (by go_cell)
  have hz7_4_0 : W7.frozen? ⟨W6.heap.size, 0, none⟩ = false := (hf7 _ _ (by go_size)).trans (by first | (go_simp; done) | (simp [*]; done))
  have hl7_4_1 : W7.cell? ⟨W6.heap.size, 1, none⟩ = some (.bool b0) := (hc7 _ _ (by go_size)).trans (by go_cell)
  have hz7_4_1 : W7.frozen? ⟨W6.heap.size, 1, none⟩ = false := (hf7 _ _ (by go_size)).trans (by first | (go_simp; done) | (simp [*]; done))
  have hk7_4 : W6.heap.size < W7.heap.size := by omega
  clear hg7 hc7 hf7
  go_wp2_with fail
  refine (s_word_any p b0 _).mono ?_
  rw [Ho.out]
  rintro e W8 ⟨rfl, hg8⟩
  have hb8 : Below w.heap.size w W8 := (show Below w.heap.size w _ by go_grown).trans (hg8.mono (by go_size))
  obtain ⟨hc8, hf8⟩ := bcell hg8
  have hs8 := hg8.size
  try simp only [World.size_alloc, World.size_setCell, World.size_drew] at hs8
  have hl8_0_0 : W8.cell? ⟨w.heap.size, 0, none⟩ = some (num p) := (hc8 _ _ (by go_size)).trans (by go_cell)
  have hz8_0_0 : W8.frozen? ⟨w.heap.size, 0, none⟩ = false := (hf8 _ _ (by go_size)).trans (by first | (go_simp; done) | (simp [*]; done))
  have hl8_0_1 : W8.cell? ⟨w.heap.size, 1, none⟩ = some (.bool b0) := (hc8 _ _ (by go_size)).trans (by go_cell)
  have hz8_0_1 : W8.frozen? ⟨w.heap.size, 1, none⟩ = false := (hf8 _ _ (by go_size)).trans (by first | (go_simp; done) | (simp [*]; done))
  have hk8_0 : w.heap.size < W8.heap.size := by omega
  have hl8_1_0 : W8.cell? ⟨W3.heap.size, 0, none⟩ = some (num z) := (hc8 _ _ (by go_size)).trans (by go_cell)
  have hz8_1_0 : W8.frozen? ⟨W3.heap.size, 0, none⟩ = false := (hf8 _ _ (by go_size)).trans (by first | (go_simp; done) | (simp [*]; done))
  have hl8_1_1 : W8.cell? ⟨W3.heap.size, 1, none⟩ = some (.bool zb) := (hc8 _ _ (by go_size)).trans (by go_cell)
  have hz8_1_1 : W8.frozen? ⟨W3.heap.size, 1, none⟩ = false := (hf8 _ _ (by go_size)).trans (by first | (go_simp; done) | (simp [*]; done))
  have hk8_1 : W3.heap.size < W8.heap.size := by omega
  have hl8_2_0 : W8.cell? ⟨W4.heap.size, 0, none⟩ = some (num z) := (hc8 _ _ (by go_size)).trans (by go_cell)
  have hz8_2_0 : W8.frozen? ⟨W4.heap.size, 0, none⟩ = false := (hf8 _ _ (by go_size)).trans (by first | (go_simp; done) | (simp [*]; done))
  have hl8_2_1 : W8.cell? ⟨W4.heap.size, 1, none⟩ = some (.bool zb) := (hc8 _ _ (by go_size)).trans (by go_cell)
  have hz8_2_1 : W8.frozen? ⟨W4.heap.size, 1, none⟩ = false := (hf8 _ _ (by go_size)).trans (by first | (go_simp; done) | (simp [*]; done))
  have hk8_2 : W4.heap.size < W8.heap.size := by omega
  have hl8_3_0 : W8.cell? ⟨W5.heap.size, 0, none⟩ = some (num p) := (hc8 _ _ (by go_size)).trans (by go_cell)
  have hz8_3_0 : W8.frozen? ⟨W5.heap.size, 0, none⟩ = false := (hf8 _ _ (by go_size)).trans (by first | (go_simp; done) | (simp [*]; done))
  have hl8_3_1 : W8.cell? ⟨W5.heap.size, 1, none⟩ = some (.bool (!b0)) := (hc8 _ _ (by go_size)).trans (by go_cell)
  have hz8_3_1 : W8.frozen? ⟨W5.heap.size, 1, none⟩ = false := (hf8 _ _ (by go_size)).trans (by first | (go_simp; done) | (simp [*]; done))
  have hk8_3 : W5.heap.size < W8.heap.size := by omega
  have hl8_4_0 : W8.cell? ⟨W6.heap.size, 0, none⟩ = some (num p) := (hc8 _ _ (by go_size)).trans (by go_cell)
  have hz8_4_0 : W8.frozen? ⟨W6.heap.size, 0, none⟩ = false := (hf8 _ _ (by go_size)).trans (by first | (go_simp; done) | (simp [*]; done))
  have hl8_4_1 : W8.cell? ⟨W6.heap.size, 1, none⟩ = some (.bool b0) := (hc8 _ _ (by go_size)).trans (by go_cell)
  have hz8_4_1 : W8.frozen? ⟨W6.heap.size, 1, none⟩ = false := (hf8 _ _ (by go_size)).trans (by first | (go_simp; done) | (simp [*]; done))
  have hk8_4 : W6.heap.size < W8.heap.size := by omega
  clear hg8 hc8 hf8
  go_wp2_with fail
  refine (read_is p n o b0 (by omega) Ho.out _).mono ?_
  rintro e W9 ⟨rfl, hg9⟩
  have hb9 : Below w.heap.size w W9 := (show Below w.heap.size w _ by go_grown).trans (hg9.mono (by go_size))
  obtain ⟨hc9, hf9⟩ := bcell hg9
  have hs9 := hg9.size
  try simp only [World.size_alloc, World.size_setCell, World.size_drew] at hs9
  have hl9_0_0 : W9.cell? ⟨w.heap.size, 0, none⟩ = some (num p) := (hc9 _ _ (by go_size)).trans (by go_cell)
  have hz9_0_0 : W9.frozen? ⟨w.heap.size, 0, none⟩ = false := (hf9 _ _ (by go_size)).trans (by first | (go_simp; done) | (simp [*]; done))
  have hl9_0_1 : W9.cell? ⟨w.heap.size, 1, none⟩ = some (.bool b0) := (hc9 _ _ (by go_size)).trans (by go_cell)
  have hz9_0_1 : W9.frozen? ⟨w.heap.size, 1, none⟩ = false := (hf9 _ _ (by go_size)).trans (by first | (go_simp; done) | (simp [*]; done))
  have hk9_0 : w.heap.size < W9.heap.size := by omega
  have hl9_1_0 : W9.cell? ⟨W3.heap.size, 0, none⟩ = some (num z) := (hc9 _ _ (by go_size)).trans (by go_cell)
  have hz9_1_0 : W9.frozen? ⟨W3.heap.size, 0, none⟩ = false := (hf9 _ _ (by go_size)).trans (by first | (go_simp; done) | (simp [*]; done))
  have hl9_1_1 : W9.cell? ⟨W3.heap.size, 1, none⟩ = some (.bool zb) := (hc9 _ _ (by go_size)).trans (by go_cell)
  have hz9_1_1 : W9.frozen? ⟨W3.heap.size, 1, none⟩ = false := (hf9 _ _ (by go_size)).trans (by first | (go_simp; done) | (simp [*]; done))
  have hk9_1 : W3.heap.size < W9.heap.size := by omega
  have hl9_2_0 : W9.cell? ⟨W4.heap.size, 0, none⟩ = some (num z) := (hc9 _ _ (by go_size)).trans (by go_cell)
  have hz9_2_0 : W9.frozen? ⟨W4.heap.size, 0, none⟩ = false := (hf9 _ _ (by go_size)).trans (by first | (go_simp; done) | (simp [*]; done))
  have hl9_2_1 : W9.cell? ⟨W4.heap.size, 1, none⟩ = some (.bool zb) := (hc9 _ _ (by go_size)).trans (by go_cell)
  have hz9_2_1 : W9.frozen? ⟨W4.heap.size, 1, none⟩ = false := (hf9 _ _ (by go_size)).trans (by first | (go_simp; done) | (simp [*]; done))
  have hk9_2 : W4.heap.size < W9.heap.size := by omega
  have hl9_3_0 : W9.cell? ⟨W5.heap.size, 0, none⟩ = some (num p) := (hc9 _ _ (by go_size)).trans (by go_cell)
  have hz9_3_0 : W9.frozen? ⟨W5.heap.size, 0, none⟩ = false := (hf9 _ _ (by go_size)).trans (by first | (go_simp; done) | (simp [*]; done))
  have hl9_3_1 : W9.cell? ⟨W5.heap.size, 1, none⟩ = some (.bool (!b0)) := (hc9 _ _ (by go_size)).trans (by go_cell)
  have hz9_3_1 : W9.frozen? ⟨W5.heap.size, 1, none⟩ = false := (hf9 _ _ (by go_size)).trans (by first | (go_simp; done) | (simp [*]; done))
  have hk9_3 : W5.heap.size < W9.heap.size := by omega
  have hl9_4_0 : W9.cell? ⟨W6.heap.size, 0, none⟩ = some (num p) := (hc9 _ _ (by go_size)).trans (by go_cell)
  have hz9_4_0 : W9.frozen? ⟨W6.heap.size, 0, none⟩ = false := (hf9 _ _ (by go_size)).trans (by first | (go_simp; done) | (simp [*]; done))
  have hl9_4_1 : W9.cell? ⟨W6.heap.size, 1, none⟩ = some (.bool b0) := (hc9 _ _ (by go_size)).trans (by go_cell)
  have hz9_4_1 : W9.frozen? ⟨W6.heap.size, 1, none⟩ = false := (hf9 _ _ (by go_size)).trans (by first | (go_simp; done) | (simp [*]; done))
  have hk9_4 : W6.heap.size < W9.heap.size := by omega
  clear hg9 hc9 hf9
  go_wp2_with fail
  go_ret
  exact ⟨rfl, by go_grown⟩

set_option maxRecDepth 100000 in
theorem lifted (os : Os) (started : os.Started) (H : Type) (enc : TypeId × Value → H) :
    ReturnsInHanded {} Try.checked os 6 .any (Rows.serialGoesSpec.pre6 enc Try.prog Try.f6 Rows.serialGoesRow.domain false) (Rows.serialGoesSpec.post enc Try.prog Try.f6 false true false false) := by
  refine Lib.lifted (C := Try.checked) (tb := 4) H enc Lib.own started (by kernel_rfl) Try.func6
    (ChangeSpec.witness6 (enc := enc) (C := Try.checked) false ⟨#[], #[.agg #[.int .i64 0, .bool false], .int .i64 0, .int .i64 0, .int .i64 0], []⟩ 8 (by kernel_rfl) (by kernel_rfl) (by kernel_rfl) (by kernel_rfl))
    Lib.laidOut (Lib.readable_of (by kernel_rfl)) rfl Try.underlying4 rfl ?_ ?_
  · intro ds h
    match ds, h with
    | [_, _, _, _], _ => exact ⟨rfl, rfl, rfl⟩
  · intro W base args ds p hval hA hfz hlt
    rw [Try.params6] at hval
    have hA' : DataW.TrodAll enc Try.prog W 0 (fun _ => true) true Try.f6.params.toList args.toList ds p := hA
    rw [Try.params6] at hA'
    obtain ⟨v0, vs0, d0, ds0, p0, q0, hargs, rfl, rfl, h0, r0⟩ := trodAll_cons hA'
    obtain ⟨v1, vs1, d1, ds1, p1, q1, rfl, rfl, rfl, h1, r1⟩ := trodAll_cons r0
    obtain ⟨v2, vs2, d2, ds2, p2, q2, rfl, rfl, rfl, h2, r2⟩ := trodAll_cons r1
    obtain ⟨v3, vs3, d3, ds3, p3, q3, rfl, rfl, rfl, h3, r3⟩ := trodAll_cons r2
    obtain ⟨rfl, rfl, rfl⟩ := trodAll_nil r3
    obtain rfl : args = #[v0, v1, v2, v3] := by cases args; simp_all
    obtain ⟨a0, b0, rfl, w0⟩ := Pos.open_pos (hval 0 23 v0 rfl rfl) h0
    obtain ⟨a1, rfl, rfl, rfl, w1⟩ := open_int Try.underlying3 (hval 1 3 v1 rfl rfl) h1
    obtain ⟨a2, rfl, rfl, rfl, w2⟩ := open_int Try.underlying3 (hval 2 3 v2 rfl rfl) h2
    obtain ⟨a3, rfl, rfl, rfl, w3⟩ := open_int Try.underlying3 (hval 3 3 v3 rfl rfl) h3
    exact walk a0 b0 a1 a2 a3 w0 w1 w2 w3 W

theorem over : Rows.serialGoesRow.holds Try.pinned (OpenSpec.ofChange Rows.serialGoesSpec) :=
  OpenClaim.holds_of_wide 6 Try.f6 rfl rfl rfl rfl rfl rfl rfl ⟨rfl, rfl, rfl, rfl, rfl⟩ rfl rfl rfl rfl rfl (by kernel_rfl) Try.func6 (by kernel_rfl)
    (of_decide_eq_true (by kernel_rfl)) (by unfold Func.isWrapper; first | (rw [if_pos (by decide +kernel)]; kernel_rfl) | (rw [if_neg (by decide +kernel)]; exact ⟨rfl, rfl⟩))
    (fun os started H enc _ => lifted os started H enc)

/-- The statement. -/
theorem proved : Rows.SerialGoesSaid :=
  over

end Go.Proofs.Ytgabbefghabcaaa.SerialGoes
