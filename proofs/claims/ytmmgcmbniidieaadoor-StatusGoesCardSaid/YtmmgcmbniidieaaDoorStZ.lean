/- Package status: Init; the chapter's examples. -/
import Derived.Test.YtmmgcmbniidieaaDoorStY
import Derived.Test.YtmmgcmbniidieaaDoorFeBest
import Derived.Test.YtmmgcmbniidieaaDoorFeD
namespace Go.Proofs.YtmmgcmbniidieaaDoor.St
open Go.RowKit Rw Fe
set_option linter.unusedSimpArgs false
set_option linter.unusedVariables false

theorem kinds_of {k : Int} (h : (allF k == 0#64) = false) : k = 1 ∨ k = 2 ∨ k = 3 := by
  by_cases h1 : k = 1
  · exact .inl h1
  · by_cases h2 : k = 2
    · exact .inr (.inl h2)
    · by_cases h3 : k = 3
      · exact .inr (.inr h3)
      · exact absurd h (by unfold allF; rw [if_neg h1, if_neg h2, if_neg h3]; decide)
theorem offers_best {k : Int} {O : Set64} (h : offersB k O = true) : bestOk k O = true ∧ (k = 1 ∨ k = 2 ∨ k = 3) := by
  unfold offersB knownB at h
  simp only [Bool.and_eq_true, Bool.not_eq_true'] at h
  have h1 : (allF k == 0#64) = false := by
    have := h.1.1
    simpa using this
  refine ⟨?_, kinds_of h1⟩
  unfold bestOk
  rw [h1, h.2]; rfl
theorem offers_of {k : Int} {O G : Set64} {s : Byte} (h : validB k O G s = true) : offersB k O = true := by
  unfold validB at h
  simp only [Bool.and_eq_true] at h
  exact h.1.1
theorem valid_of {k : Int} {O G : Set64} {s : Byte} (ho : offersB k O = true) (hm : maskB s = true) (ha : allowedB s (acceptB k O G) (G == 0#64) = true) : validB k O G s = true := by
  unfold validB
  rw [ho, hm, ha]; rfl
theorem all0 (a z : Bool) : allowedB 0#8 a true = true := by cases a <;> rfl
theorem all1 (a : Bool) : allowedB 1#8 a true = true := by cases a <;> rfl
theorem all3 (a z : Bool) : allowedB 3#8 a z = true := by cases a <;> cases z <;> rfl
theorem all11 (z : Bool) : allowedB 11#8 true z = true := by cases z <;> rfl
theorem all15 (z : Bool) : allowedB 15#8 true z = true := by cases z <;> rfl
theorem v0 {k : Int} {O : Set64} (ho : offersB k O = true) : validB k O 0#64 0#8 = true := valid_of ho rfl (all0 _ true)
theorem v1' {k : Int} {O : Set64} (ho : offersB k O = true) : validB k O 0#64 1#8 = true := valid_of ho rfl (all1 _)
theorem v3 {k : Int} {O : Set64} (G : Set64) (ho : offersB k O = true) : validB k O G 3#8 = true := valid_of ho rfl (all3 _ _)
theorem v11 {k : Int} {O G : Set64} (ho : offersB k O = true) (ha : acceptB k O G = true) : validB k O G 11#8 = true := valid_of ho rfl (by rw [ha]; exact all11 _)
theorem v15 {k : Int} {O G : Set64} (ho : offersB k O = true) (ha : acceptB k O G = true) : validB k O G 15#8 = true := valid_of ho rfl (by rw [ha]; exact all15 _)

/-- One step of a driver that follows the document. -/
theorem write_to (k : Int) (O G : Set64) (s wd S : Byte) (hv : validB k O G s = true) (hw : (wd == 0#8) = false) (hS : setTo s wd (acceptB k O G) 5 = S) (ad : Addr) (cap : Nat) (w : World) (hR : Rules w ad cap) : Calls Tryd.prog 13 #[dev k O G s, by8 wd] w (Gives w.heap.size w (dev k O G S)) := hS ▸ write_set k O G s wd hv hw ad cap w hR
theorem s01 (a : Bool) : setTo 0#8 1#8 a 5 = 1#8 := by cases a <;> rfl
theorem s13 (a : Bool) : setTo 1#8 3#8 a 5 = 3#8 := by cases a <;> rfl
theorem s311 {a : Bool} (h : a = true) : setTo 3#8 11#8 a 5 = 11#8 := by rw [h]; rfl
theorem s1115 (a : Bool) : setTo 11#8 15#8 a 5 = 15#8 := by cases a <;> rfl

set_option maxRecDepth 100000 in
set_option maxHeartbeats 4000000 in
theorem init_ok (k : Int) (O G : Set64) (s : Byte) (X B : Set64) (h : validB k O G s = true) (hB : bestF k O X = B) (ad : Addr) (cap : Nat) (w : World) (hR : Rules w ad cap) : Calls Tryd.prog 9 #[dev k O G s, st X] w (Gives w.heap.size w (.tuple #[dev k O B 15#8, num 0])) := by
  unfold Gives
  have hb0 : Below w.heap.size w w := Below.refl _ _
  have ho := offers_of h
  obtain ⟨hb, hk⟩ := offers_best ho
  have ha : acceptB k O B = true := hB ▸ best_accepted hk hb
  have HR := Lib.hid hR
  have HV := Lib.hid h
  have HB := Lib.hid hB
  have HO := Lib.hid ho
  have HA := Lib.hid ha
  have HK := Lib.hid hb
  have HAsk := Lib.hid (show askG k O 0#64 3#8 B = B by unfold askG askB; rw [v3 _ ho]; rfl)
  clear hR h hB ho ha hb hk
  go_enter Tryd.func9, Tryd.ntmps9
  go_wp2_with fail
  refine (best_is k O X B HB.out HK.out ad cap _ (HR.out.below (by go_grown))).mono ?_
  rintro eE W1 ⟨rfl, hg1⟩
  have hb1 : Below w.heap.size w W1 := (show Below w.heap.size w _ by go_grown).trans (hg1.mono (by first | omega | go_size))
  obtain ⟨hc1, hf1⟩ := bcell hg1
  have hs1 := hg1.size
  try simp only [World.size_alloc, World.size_setCell, World.size_drew] at hs1
  have hl1_0_0 : W1.cell? ⟨w.heap.size, 0, none⟩ = some (num k) := (hc1 _ _ (by first | omega | go_size)).trans (by first | (with_reducible assumption) | go_cell)
  have hz1_0_0 : W1.frozen? ⟨w.heap.size, 0, none⟩ = false := (hf1 _ _ (by first | omega | go_size)).trans (by first | (with_reducible assumption) | (go_simp; done) | (simp [*]; done))
  have hl1_0_1 : W1.cell? ⟨w.heap.size, 1, none⟩ = some (st O) := (hc1 _ _ (by first | omega | go_size)).trans (by first | (with_reducible assumption) | go_cell)
  have hz1_0_1 : W1.frozen? ⟨w.heap.size, 1, none⟩ = false := (hf1 _ _ (by first | omega | go_size)).trans (by first | (with_reducible assumption) | (go_simp; done) | (simp [*]; done))
  have hl1_0_2 : W1.cell? ⟨w.heap.size, 2, none⟩ = some (st G) := (hc1 _ _ (by first | omega | go_size)).trans (by first | (with_reducible assumption) | go_cell)
  have hz1_0_2 : W1.frozen? ⟨w.heap.size, 2, none⟩ = false := (hf1 _ _ (by first | omega | go_size)).trans (by first | (with_reducible assumption) | (go_simp; done) | (simp [*]; done))
  have hl1_0_3 : W1.cell? ⟨w.heap.size, 3, none⟩ = some (by8 s) := (hc1 _ _ (by first | omega | go_size)).trans (by first | (with_reducible assumption) | go_cell)
  have hz1_0_3 : W1.frozen? ⟨w.heap.size, 3, none⟩ = false := (hf1 _ _ (by first | omega | go_size)).trans (by first | (with_reducible assumption) | (go_simp; done) | (simp [*]; done))
  have hk1_0 : w.heap.size < W1.heap.size := by omega
  have hl1_1_0 : W1.cell? ⟨w.heap.size + 1, 0, none⟩ = some (.int .i64 0) := (hc1 _ _ (by first | omega | go_size)).trans (by first | (with_reducible assumption) | go_cell)
  have hz1_1_0 : W1.frozen? ⟨w.heap.size + 1, 0, none⟩ = false := (hf1 _ _ (by first | omega | go_size)).trans (by first | (with_reducible assumption) | (go_simp; done) | (simp [*]; done))
  have hl1_1_1 : W1.cell? ⟨w.heap.size + 1, 1, none⟩ = some (.int .u64 0) := (hc1 _ _ (by first | omega | go_size)).trans (by first | (with_reducible assumption) | go_cell)
  have hz1_1_1 : W1.frozen? ⟨w.heap.size + 1, 1, none⟩ = false := (hf1 _ _ (by first | omega | go_size)).trans (by first | (with_reducible assumption) | (go_simp; done) | (simp [*]; done))
  have hl1_1_2 : W1.cell? ⟨w.heap.size + 1, 2, none⟩ = some (.int .u64 0) := (hc1 _ _ (by first | omega | go_size)).trans (by first | (with_reducible assumption) | go_cell)
  have hz1_1_2 : W1.frozen? ⟨w.heap.size + 1, 2, none⟩ = false := (hf1 _ _ (by first | omega | go_size)).trans (by first | (with_reducible assumption) | (go_simp; done) | (simp [*]; done))
  have hl1_1_3 : W1.cell? ⟨w.heap.size + 1, 3, none⟩ = some (.int .u8 0) := (hc1 _ _ (by first | omega | go_size)).trans (by first | (with_reducible assumption) | go_cell)
  have hz1_1_3 : W1.frozen? ⟨w.heap.size + 1, 3, none⟩ = false := (hf1 _ _ (by first | omega | go_size)).trans (by first | (with_reducible assumption) | (go_simp; done) | (simp [*]; done))
  have hk1_1 : w.heap.size + 1 < W1.heap.size := by omega
  clear hg1 hc1 hf1
  go_wp2_with fail
  refine (valid_is k O G s true HV.out ad cap _ (HR.out.below (by go_grown))).mono ?_
  rintro eE W2 ⟨rfl, hg2⟩
  have hb2 : Below w.heap.size w W2 := (show Below w.heap.size w _ by go_grown).trans (hg2.mono (by first | omega | go_size))
  obtain ⟨hc2, hf2⟩ := bcell hg2
  have hs2 := hg2.size
  try simp only [World.size_alloc, World.size_setCell, World.size_drew] at hs2
  have hl2_0_0 : W2.cell? ⟨w.heap.size, 0, none⟩ = some (num k) := (hc2 _ _ (by first | omega | go_size)).trans (by first | (with_reducible assumption) | go_cell)
  have hz2_0_0 : W2.frozen? ⟨w.heap.size, 0, none⟩ = false := (hf2 _ _ (by first | omega | go_size)).trans (by first | (with_reducible assumption) | (go_simp; done) | (simp [*]; done))
  have hl2_0_1 : W2.cell? ⟨w.heap.size, 1, none⟩ = some (st O) := (hc2 _ _ (by first | omega | go_size)).trans (by first | (with_reducible assumption) | go_cell)
  have hz2_0_1 : W2.frozen? ⟨w.heap.size, 1, none⟩ = false := (hf2 _ _ (by first | omega | go_size)).trans (by first | (with_reducible assumption) | (go_simp; done) | (simp [*]; done))
  have hl2_0_2 : W2.cell? ⟨w.heap.size, 2, none⟩ = some (st G) := (hc2 _ _ (by first | omega | go_size)).trans (by first | (with_reducible assumption) | go_cell)
  have hz2_0_2 : W2.frozen? ⟨w.heap.size, 2, none⟩ = false := (hf2 _ _ (by first | omega | go_size)).trans (by first | (with_reducible assumption) | (go_simp; done) | (simp [*]; done))
  have hl2_0_3 : W2.cell? ⟨w.heap.size, 3, none⟩ = some (by8 s) := (hc2 _ _ (by first | omega | go_size)).trans (by first | (with_reducible assumption) | go_cell)
  have hz2_0_3 : W2.frozen? ⟨w.heap.size, 3, none⟩ = false := (hf2 _ _ (by first | omega | go_size)).trans (by first | (with_reducible assumption) | (go_simp; done) | (simp [*]; done))
  have hk2_0 : w.heap.size < W2.heap.size := by omega
  have hl2_1_0 : W2.cell? ⟨w.heap.size + 1, 0, none⟩ = some (.int .i64 0) := (hc2 _ _ (by first | omega | go_size)).trans (by first | (with_reducible assumption) | go_cell)
  have hz2_1_0 : W2.frozen? ⟨w.heap.size + 1, 0, none⟩ = false := (hf2 _ _ (by first | omega | go_size)).trans (by first | (with_reducible assumption) | (go_simp; done) | (simp [*]; done))
  have hl2_1_1 : W2.cell? ⟨w.heap.size + 1, 1, none⟩ = some (.int .u64 0) := (hc2 _ _ (by first | omega | go_size)).trans (by first | (with_reducible assumption) | go_cell)
  have hz2_1_1 : W2.frozen? ⟨w.heap.size + 1, 1, none⟩ = false := (hf2 _ _ (by first | omega | go_size)).trans (by first | (with_reducible assumption) | (go_simp; done) | (simp [*]; done))
  have hl2_1_2 : W2.cell? ⟨w.heap.size + 1, 2, none⟩ = some (.int .u64 0) := (hc2 _ _ (by first | omega | go_size)).trans (by first | (with_reducible assumption) | go_cell)
  have hz2_1_2 : W2.frozen? ⟨w.heap.size + 1, 2, none⟩ = false := (hf2 _ _ (by first | omega | go_size)).trans (by first | (with_reducible assumption) | (go_simp; done) | (simp [*]; done))
  have hl2_1_3 : W2.cell? ⟨w.heap.size + 1, 3, none⟩ = some (.int .u8 0) := (hc2 _ _ (by first | omega | go_size)).trans (by first | (with_reducible assumption) | go_cell)
  have hz2_1_3 : W2.frozen? ⟨w.heap.size + 1, 3, none⟩ = false := (hf2 _ _ (by first | omega | go_size)).trans (by first | (with_reducible assumption) | (go_simp; done) | (simp [*]; done))
  have hk2_1 : w.heap.size + 1 < W2.heap.size := by omega
  clear hg2 hc2 hf2
  go_wp2_with fail
  refine (write_zero k O G s HV.out ad cap _ (HR.out.below (by go_grown))).mono ?_
  rintro eE W3 ⟨rfl, hg3⟩
  have hb3 : Below w.heap.size w W3 := (show Below w.heap.size w _ by go_grown).trans (hg3.mono (by first | omega | go_size))
  obtain ⟨hc3, hf3⟩ := bcell hg3
  have hs3 := hg3.size
  try simp only [World.size_alloc, World.size_setCell, World.size_drew] at hs3
  have hl3_0_0 : W3.cell? ⟨w.heap.size, 0, none⟩ = some (num k) := (hc3 _ _ (by first | omega | go_size)).trans (by first | (with_reducible assumption) | go_cell)
  have hz3_0_0 : W3.frozen? ⟨w.heap.size, 0, none⟩ = false := (hf3 _ _ (by first | omega | go_size)).trans (by first | (with_reducible assumption) | (go_simp; done) | (simp [*]; done))
  have hl3_0_1 : W3.cell? ⟨w.heap.size, 1, none⟩ = some (st O) := (hc3 _ _ (by first | omega | go_size)).trans (by first | (with_reducible assumption) | go_cell)
  have hz3_0_1 : W3.frozen? ⟨w.heap.size, 1, none⟩ = false := (hf3 _ _ (by first | omega | go_size)).trans (by first | (with_reducible assumption) | (go_simp; done) | (simp [*]; done))
  have hl3_0_2 : W3.cell? ⟨w.heap.size, 2, none⟩ = some (st G) := (hc3 _ _ (by first | omega | go_size)).trans (by first | (with_reducible assumption) | go_cell)
  have hz3_0_2 : W3.frozen? ⟨w.heap.size, 2, none⟩ = false := (hf3 _ _ (by first | omega | go_size)).trans (by first | (with_reducible assumption) | (go_simp; done) | (simp [*]; done))
  have hl3_0_3 : W3.cell? ⟨w.heap.size, 3, none⟩ = some (by8 s) := (hc3 _ _ (by first | omega | go_size)).trans (by first | (with_reducible assumption) | go_cell)
  have hz3_0_3 : W3.frozen? ⟨w.heap.size, 3, none⟩ = false := (hf3 _ _ (by first | omega | go_size)).trans (by first | (with_reducible assumption) | (go_simp; done) | (simp [*]; done))
  have hk3_0 : w.heap.size < W3.heap.size := by omega
  have hl3_1_0 : W3.cell? ⟨w.heap.size + 1, 0, none⟩ = some (.int .i64 0) := (hc3 _ _ (by first | omega | go_size)).trans (by first | (with_reducible assumption) | go_cell)
  have hz3_1_0 : W3.frozen? ⟨w.heap.size + 1, 0, none⟩ = false := (hf3 _ _ (by first | omega | go_size)).trans (by first | (with_reducible assumption) | (go_simp; done) | (simp [*]; done))
  have hl3_1_1 : W3.cell? ⟨w.heap.size + 1, 1, none⟩ = some (.int .u64 0) := (hc3 _ _ (by first | omega | go_size)).trans (by first | (with_reducible assumption) | go_cell)
  have hz3_1_1 : W3.frozen? ⟨w.heap.size + 1, 1, none⟩ = false := (hf3 _ _ (by first | omega | go_size)).trans (by first | (with_reducible assumption) | (go_simp; done) | (simp [*]; done))
  have hl3_1_2 : W3.cell? ⟨w.heap.size + 1, 2, none⟩ = some (.int .u64 0) := (hc3 _ _ (by first | omega | go_size)).trans (by first | (with_reducible assumption) | go_cell)
  have hz3_1_2 : W3.frozen? ⟨w.heap.size + 1, 2, none⟩ = false := (hf3 _ _ (by first | omega | go_size)).trans (by first | (with_reducible assumption) | (go_simp; done) | (simp [*]; done))
  have hl3_1_3 : W3.cell? ⟨w.heap.size + 1, 3, none⟩ = some (.int .u8 0) := (hc3 _ _ (by first | omega | go_size)).trans (by first | (with_reducible assumption) | go_cell)
  have hz3_1_3 : W3.frozen? ⟨w.heap.size + 1, 3, none⟩ = false := (hf3 _ _ (by first | omega | go_size)).trans (by first | (with_reducible assumption) | (go_simp; done) | (simp [*]; done))
  have hk3_1 : w.heap.size + 1 < W3.heap.size := by omega
  clear hg3 hc3 hf3
  go_wp2_with fail
  refine (write_to k O 0#64 0#8 1#8 1#8 (v0 HO.out) rfl (s01 _) ad cap _ (HR.out.below (by go_grown))).mono ?_
  rintro eE W4 ⟨rfl, hg4⟩
  have hb4 : Below w.heap.size w W4 := (show Below w.heap.size w _ by go_grown).trans (hg4.mono (by first | omega | go_size))
  obtain ⟨hc4, hf4⟩ := bcell hg4
  have hs4 := hg4.size
  try simp only [World.size_alloc, World.size_setCell, World.size_drew] at hs4
  have hl4_0_0 : W4.cell? ⟨w.heap.size, 0, none⟩ = some (num k) := (hc4 _ _ (by first | omega | go_size)).trans (by first | (with_reducible assumption) | go_cell)
  have hz4_0_0 : W4.frozen? ⟨w.heap.size, 0, none⟩ = false := (hf4 _ _ (by first | omega | go_size)).trans (by first | (with_reducible assumption) | (go_simp; done) | (simp [*]; done))
  have hl4_0_1 : W4.cell? ⟨w.heap.size, 1, none⟩ = some (st O) := (hc4 _ _ (by first | omega | go_size)).trans (by first | (with_reducible assumption) | go_cell)
  have hz4_0_1 : W4.frozen? ⟨w.heap.size, 1, none⟩ = false := (hf4 _ _ (by first | omega | go_size)).trans (by first | (with_reducible assumption) | (go_simp; done) | (simp [*]; done))
  have hl4_0_2 : W4.cell? ⟨w.heap.size, 2, none⟩ = some (st G) := (hc4 _ _ (by first | omega | go_size)).trans (by first | (with_reducible assumption) | go_cell)
  have hz4_0_2 : W4.frozen? ⟨w.heap.size, 2, none⟩ = false := (hf4 _ _ (by first | omega | go_size)).trans (by first | (with_reducible assumption) | (go_simp; done) | (simp [*]; done))
  have hl4_0_3 : W4.cell? ⟨w.heap.size, 3, none⟩ = some (by8 s) := (hc4 _ _ (by first | omega | go_size)).trans (by first | (with_reducible assumption) | go_cell)
  have hz4_0_3 : W4.frozen? ⟨w.heap.size, 3, none⟩ = false := (hf4 _ _ (by first | omega | go_size)).trans (by first | (with_reducible assumption) | (go_simp; done) | (simp [*]; done))
  have hk4_0 : w.heap.size < W4.heap.size := by omega
  have hl4_1_0 : W4.cell? ⟨w.heap.size + 1, 0, none⟩ = some (.int .i64 0) := (hc4 _ _ (by first | omega | go_size)).trans (by first | (with_reducible assumption) | go_cell)
  have hz4_1_0 : W4.frozen? ⟨w.heap.size + 1, 0, none⟩ = false := (hf4 _ _ (by first | omega | go_size)).trans (by first | (with_reducible assumption) | (go_simp; done) | (simp [*]; done))
  have hl4_1_1 : W4.cell? ⟨w.heap.size + 1, 1, none⟩ = some (.int .u64 0) := (hc4 _ _ (by first | omega | go_size)).trans (by first | (with_reducible assumption) | go_cell)
  have hz4_1_1 : W4.frozen? ⟨w.heap.size + 1, 1, none⟩ = false := (hf4 _ _ (by first | omega | go_size)).trans (by first | (with_reducible assumption) | (go_simp; done) | (simp [*]; done))
  have hl4_1_2 : W4.cell? ⟨w.heap.size + 1, 2, none⟩ = some (.int .u64 0) := (hc4 _ _ (by first | omega | go_size)).trans (by first | (with_reducible assumption) | go_cell)
  have hz4_1_2 : W4.frozen? ⟨w.heap.size + 1, 2, none⟩ = false := (hf4 _ _ (by first | omega | go_size)).trans (by first | (with_reducible assumption) | (go_simp; done) | (simp [*]; done))
  have hl4_1_3 : W4.cell? ⟨w.heap.size + 1, 3, none⟩ = some (.int .u8 0) := (hc4 _ _ (by first | omega | go_size)).trans (by first | (with_reducible assumption) | go_cell)
  have hz4_1_3 : W4.frozen? ⟨w.heap.size + 1, 3, none⟩ = false := (hf4 _ _ (by first | omega | go_size)).trans (by first | (with_reducible assumption) | (go_simp; done) | (simp [*]; done))
  have hk4_1 : w.heap.size + 1 < W4.heap.size := by omega
  clear hg4 hc4 hf4
  go_wp2_with fail
  refine (write_to k O 0#64 1#8 3#8 3#8 (v1' HO.out) rfl (s13 _) ad cap _ (HR.out.below (by go_grown))).mono ?_
  rintro eE W5 ⟨rfl, hg5⟩
  have hb5 : Below w.heap.size w W5 := (show Below w.heap.size w _ by go_grown).trans (hg5.mono (by first | omega | go_size))
  obtain ⟨hc5, hf5⟩ := bcell hg5
  have hs5 := hg5.size
  try simp only [World.size_alloc, World.size_setCell, World.size_drew] at hs5
  have hl5_0_0 : W5.cell? ⟨w.heap.size, 0, none⟩ = some (num k) := (hc5 _ _ (by first | omega | go_size)).trans (by first | (with_reducible assumption) | go_cell)
  have hz5_0_0 : W5.frozen? ⟨w.heap.size, 0, none⟩ = false := (hf5 _ _ (by first | omega | go_size)).trans (by first | (with_reducible assumption) | (go_simp; done) | (simp [*]; done))
  have hl5_0_1 : W5.cell? ⟨w.heap.size, 1, none⟩ = some (st O) := (hc5 _ _ (by first | omega | go_size)).trans (by first | (with_reducible assumption) | go_cell)
  have hz5_0_1 : W5.frozen? ⟨w.heap.size, 1, none⟩ = false := (hf5 _ _ (by first | omega | go_size)).trans (by first | (with_reducible assumption) | (go_simp; done) | (simp [*]; done))
  have hl5_0_2 : W5.cell? ⟨w.heap.size, 2, none⟩ = some (st G) := (hc5 _ _ (by first | omega | go_size)).trans (by first | (with_reducible assumption) | go_cell)
  have hz5_0_2 : W5.frozen? ⟨w.heap.size, 2, none⟩ = false := (hf5 _ _ (by first | omega | go_size)).trans (by first | (with_reducible assumption) | (go_simp; done) | (simp [*]; done))
  have hl5_0_3 : W5.cell? ⟨w.heap.size, 3, none⟩ = some (by8 s) := (hc5 _ _ (by first | omega | go_size)).trans (by first | (with_reducible assumption) | go_cell)
  have hz5_0_3 : W5.frozen? ⟨w.heap.size, 3, none⟩ = false := (hf5 _ _ (by first | omega | go_size)).trans (by first | (with_reducible assumption) | (go_simp; done) | (simp [*]; done))
  have hk5_0 : w.heap.size < W5.heap.size := by omega
  have hl5_1_0 : W5.cell? ⟨w.heap.size + 1, 0, none⟩ = some (.int .i64 0) := (hc5 _ _ (by first | omega | go_size)).trans (by first | (with_reducible assumption) | go_cell)
  have hz5_1_0 : W5.frozen? ⟨w.heap.size + 1, 0, none⟩ = false := (hf5 _ _ (by first | omega | go_size)).trans (by first | (with_reducible assumption) | (go_simp; done) | (simp [*]; done))
  have hl5_1_1 : W5.cell? ⟨w.heap.size + 1, 1, none⟩ = some (.int .u64 0) := (hc5 _ _ (by first | omega | go_size)).trans (by first | (with_reducible assumption) | go_cell)
  have hz5_1_1 : W5.frozen? ⟨w.heap.size + 1, 1, none⟩ = false := (hf5 _ _ (by first | omega | go_size)).trans (by first | (with_reducible assumption) | (go_simp; done) | (simp [*]; done))
  have hl5_1_2 : W5.cell? ⟨w.heap.size + 1, 2, none⟩ = some (.int .u64 0) := (hc5 _ _ (by first | omega | go_size)).trans (by first | (with_reducible assumption) | go_cell)
  have hz5_1_2 : W5.frozen? ⟨w.heap.size + 1, 2, none⟩ = false := (hf5 _ _ (by first | omega | go_size)).trans (by first | (with_reducible assumption) | (go_simp; done) | (simp [*]; done))
  have hl5_1_3 : W5.cell? ⟨w.heap.size + 1, 3, none⟩ = some (.int .u8 0) := (hc5 _ _ (by first | omega | go_size)).trans (by first | (with_reducible assumption) | go_cell)
  have hz5_1_3 : W5.frozen? ⟨w.heap.size + 1, 3, none⟩ = false := (hf5 _ _ (by first | omega | go_size)).trans (by first | (with_reducible assumption) | (go_simp; done) | (simp [*]; done))
  have hk5_1 : w.heap.size + 1 < W5.heap.size := by omega
  clear hg5 hc5 hf5
  go_wp2_with fail
  refine (ask_is k O 0#64 3#8 B B HAsk.out ad cap _ (HR.out.below (by go_grown))).mono ?_
  rintro eE W6 ⟨rfl, hg6⟩
  have hb6 : Below w.heap.size w W6 := (show Below w.heap.size w _ by go_grown).trans (hg6.mono (by first | omega | go_size))
  obtain ⟨hc6, hf6⟩ := bcell hg6
  have hs6 := hg6.size
  try simp only [World.size_alloc, World.size_setCell, World.size_drew] at hs6
  have hl6_0_0 : W6.cell? ⟨w.heap.size, 0, none⟩ = some (num k) := (hc6 _ _ (by first | omega | go_size)).trans (by first | (with_reducible assumption) | go_cell)
  have hz6_0_0 : W6.frozen? ⟨w.heap.size, 0, none⟩ = false := (hf6 _ _ (by first | omega | go_size)).trans (by first | (with_reducible assumption) | (go_simp; done) | (simp [*]; done))
  have hl6_0_1 : W6.cell? ⟨w.heap.size, 1, none⟩ = some (st O) := (hc6 _ _ (by first | omega | go_size)).trans (by first | (with_reducible assumption) | go_cell)
  have hz6_0_1 : W6.frozen? ⟨w.heap.size, 1, none⟩ = false := (hf6 _ _ (by first | omega | go_size)).trans (by first | (with_reducible assumption) | (go_simp; done) | (simp [*]; done))
  have hl6_0_2 : W6.cell? ⟨w.heap.size, 2, none⟩ = some (st G) := (hc6 _ _ (by first | omega | go_size)).trans (by first | (with_reducible assumption) | go_cell)
  have hz6_0_2 : W6.frozen? ⟨w.heap.size, 2, none⟩ = false := (hf6 _ _ (by first | omega | go_size)).trans (by first | (with_reducible assumption) | (go_simp; done) | (simp [*]; done))
  have hl6_0_3 : W6.cell? ⟨w.heap.size, 3, none⟩ = some (by8 s) := (hc6 _ _ (by first | omega | go_size)).trans (by first | (with_reducible assumption) | go_cell)
  have hz6_0_3 : W6.frozen? ⟨w.heap.size, 3, none⟩ = false := (hf6 _ _ (by first | omega | go_size)).trans (by first | (with_reducible assumption) | (go_simp; done) | (simp [*]; done))
  have hk6_0 : w.heap.size < W6.heap.size := by omega
  have hl6_1_0 : W6.cell? ⟨w.heap.size + 1, 0, none⟩ = some (.int .i64 0) := (hc6 _ _ (by first | omega | go_size)).trans (by first | (with_reducible assumption) | go_cell)
  have hz6_1_0 : W6.frozen? ⟨w.heap.size + 1, 0, none⟩ = false := (hf6 _ _ (by first | omega | go_size)).trans (by first | (with_reducible assumption) | (go_simp; done) | (simp [*]; done))
  have hl6_1_1 : W6.cell? ⟨w.heap.size + 1, 1, none⟩ = some (.int .u64 0) := (hc6 _ _ (by first | omega | go_size)).trans (by first | (with_reducible assumption) | go_cell)
  have hz6_1_1 : W6.frozen? ⟨w.heap.size + 1, 1, none⟩ = false := (hf6 _ _ (by first | omega | go_size)).trans (by first | (with_reducible assumption) | (go_simp; done) | (simp [*]; done))
  have hl6_1_2 : W6.cell? ⟨w.heap.size + 1, 2, none⟩ = some (.int .u64 0) := (hc6 _ _ (by first | omega | go_size)).trans (by first | (with_reducible assumption) | go_cell)
  have hz6_1_2 : W6.frozen? ⟨w.heap.size + 1, 2, none⟩ = false := (hf6 _ _ (by first | omega | go_size)).trans (by first | (with_reducible assumption) | (go_simp; done) | (simp [*]; done))
  have hl6_1_3 : W6.cell? ⟨w.heap.size + 1, 3, none⟩ = some (.int .u8 0) := (hc6 _ _ (by first | omega | go_size)).trans (by first | (with_reducible assumption) | go_cell)
  have hz6_1_3 : W6.frozen? ⟨w.heap.size + 1, 3, none⟩ = false := (hf6 _ _ (by first | omega | go_size)).trans (by first | (with_reducible assumption) | (go_simp; done) | (simp [*]; done))
  have hk6_1 : w.heap.size + 1 < W6.heap.size := by omega
  clear hg6 hc6 hf6
  go_wp2_with fail
  refine (write_to k O B 3#8 11#8 11#8 (v3 B HO.out) rfl (s311 HA.out) ad cap _ (HR.out.below (by go_grown))).mono ?_
  rintro eE W7 ⟨rfl, hg7⟩
  have hb7 : Below w.heap.size w W7 := (show Below w.heap.size w _ by go_grown).trans (hg7.mono (by first | omega | go_size))
  obtain ⟨hc7, hf7⟩ := bcell hg7
  have hs7 := hg7.size
  try simp only [World.size_alloc, World.size_setCell, World.size_drew] at hs7
  have hl7_0_0 : W7.cell? ⟨w.heap.size + 1, 0, none⟩ = some (.int .i64 0) := (hc7 _ _ (by first | omega | go_size)).trans (by first | (with_reducible assumption) | go_cell)
  have hz7_0_0 : W7.frozen? ⟨w.heap.size + 1, 0, none⟩ = false := (hf7 _ _ (by first | omega | go_size)).trans (by first | (with_reducible assumption) | (go_simp; done) | (simp [*]; done))
  have hl7_0_1 : W7.cell? ⟨w.heap.size + 1, 1, none⟩ = some (.int .u64 0) := (hc7 _ _ (by first | omega | go_size)).trans (by first | (with_reducible assumption) | go_cell)
  have hz7_0_1 : W7.frozen? ⟨w.heap.size + 1, 1, none⟩ = false := (hf7 _ _ (by first | omega | go_size)).trans (by first | (with_reducible assumption) | (go_simp; done) | (simp [*]; done))
  have hl7_0_2 : W7.cell? ⟨w.heap.size + 1, 2, none⟩ = some (.int .u64 0) := (hc7 _ _ (by first | omega | go_size)).trans (by first | (with_reducible assumption) | go_cell)
  have hz7_0_2 : W7.frozen? ⟨w.heap.size + 1, 2, none⟩ = false := (hf7 _ _ (by first | omega | go_size)).trans (by first | (with_reducible assumption) | (go_simp; done) | (simp [*]; done))
  have hl7_0_3 : W7.cell? ⟨w.heap.size + 1, 3, none⟩ = some (.int .u8 0) := (hc7 _ _ (by first | omega | go_size)).trans (by first | (with_reducible assumption) | go_cell)
  have hz7_0_3 : W7.frozen? ⟨w.heap.size + 1, 3, none⟩ = false := (hf7 _ _ (by first | omega | go_size)).trans (by first | (with_reducible assumption) | (go_simp; done) | (simp [*]; done))
  have hk7_0 : w.heap.size + 1 < W7.heap.size := by omega
  clear hg7 hc7 hf7
  go_wp2_with fail
  refine (write_to k O B 11#8 15#8 15#8 (v11 HO.out HA.out) rfl (s1115 _) ad cap _ (HR.out.below (by go_grown))).mono ?_
  rintro eE W8 ⟨rfl, hg8⟩
  have hb8 : Below w.heap.size w W8 := (show Below w.heap.size w _ by go_grown).trans (hg8.mono (by first | omega | go_size))
  obtain ⟨hc8, hf8⟩ := bcell hg8
  have hs8 := hg8.size
  try simp only [World.size_alloc, World.size_setCell, World.size_drew] at hs8
  have hl8_0_0 : W8.cell? ⟨w.heap.size + 1, 0, none⟩ = some (.int .i64 0) := (hc8 _ _ (by first | omega | go_size)).trans (by first | (with_reducible assumption) | go_cell)
  have hz8_0_0 : W8.frozen? ⟨w.heap.size + 1, 0, none⟩ = false := (hf8 _ _ (by first | omega | go_size)).trans (by first | (with_reducible assumption) | (go_simp; done) | (simp [*]; done))
  have hl8_0_1 : W8.cell? ⟨w.heap.size + 1, 1, none⟩ = some (.int .u64 0) := (hc8 _ _ (by first | omega | go_size)).trans (by first | (with_reducible assumption) | go_cell)
  have hz8_0_1 : W8.frozen? ⟨w.heap.size + 1, 1, none⟩ = false := (hf8 _ _ (by first | omega | go_size)).trans (by first | (with_reducible assumption) | (go_simp; done) | (simp [*]; done))
  have hl8_0_2 : W8.cell? ⟨w.heap.size + 1, 2, none⟩ = some (.int .u64 0) := (hc8 _ _ (by first | omega | go_size)).trans (by first | (with_reducible assumption) | go_cell)
  have hz8_0_2 : W8.frozen? ⟨w.heap.size + 1, 2, none⟩ = false := (hf8 _ _ (by first | omega | go_size)).trans (by first | (with_reducible assumption) | (go_simp; done) | (simp [*]; done))
  have hl8_0_3 : W8.cell? ⟨w.heap.size + 1, 3, none⟩ = some (.int .u8 0) := (hc8 _ _ (by first | omega | go_size)).trans (by first | (with_reducible assumption) | go_cell)
  have hz8_0_3 : W8.frozen? ⟨w.heap.size + 1, 3, none⟩ = false := (hf8 _ _ (by first | omega | go_size)).trans (by first | (with_reducible assumption) | (go_simp; done) | (simp [*]; done))
  have hk8_0 : w.heap.size + 1 < W8.heap.size := by omega
  clear hg8 hc8 hf8
  go_wp2_with fail
  have hB9 : Below w.heap.size w (((((W8).setCell ⟨w.heap.size + 1, 0, none⟩ (num k)).setCell ⟨w.heap.size + 1, 1, none⟩ (st O)).setCell ⟨w.heap.size + 1, 2, none⟩ (st B)).setCell ⟨w.heap.size + 1, 3, none⟩ (by8 15#8)) := by go_grown
  generalize hG9 : ((((W8).setCell ⟨w.heap.size + 1, 0, none⟩ (num k)).setCell ⟨w.heap.size + 1, 1, none⟩ (st O)).setCell ⟨w.heap.size + 1, 2, none⟩ (st B)).setCell ⟨w.heap.size + 1, 3, none⟩ (by8 15#8) = WG9 at hB9 ⊢
  have hR9 := Lib.set_row (W := W8) (b := w.heap.size + 1) [num k, st O, st B, by8 15#8] (by simp only [Lib.HasRow, Nat.zero_add, Nat.reduceAdd, and_true]; exact ⟨⟨_, by first | (with_reducible assumption) | go_cell | (simp [*]; done)⟩, ⟨_, by first | (with_reducible assumption) | go_cell | (simp [*]; done)⟩, ⟨_, by first | (with_reducible assumption) | go_cell | (simp [*]; done)⟩, ⟨_, by first | (with_reducible assumption) | go_cell | (simp [*]; done)⟩⟩) hG9
  clear hG9
  simp only [Lib.RowAt, Nat.zero_add, Nat.reduceAdd, and_true] at hR9
  obtain ⟨qr0, qr1, qr2, qr3⟩ := hR9
  exact bodyPost_ret (v := .tuple #[dev k O B 15#8, num 0]) (by simp [results, Tryd.results9, go_sem, qr0, qr1, qr2, qr3]) rfl ⟨rfl, hB9⟩

set_option maxRecDepth 100000 in
set_option maxHeartbeats 2000000 in
theorem init_no (k : Int) (O G : Set64) (s : Byte) (X : Set64) (h : validB k O G s = false) (ad : Addr) (cap : Nat) (w : World) (hR : Rules w ad cap) : Calls Tryd.prog 9 #[dev k O G s, st X] w (Gives w.heap.size w (.tuple #[dev 0 0#64 0#64 0#8, num 2])) := by
  unfold Gives
  have hb0 : Below w.heap.size w w := Below.refl _ _
  have HR := Lib.hid hR
  have HV := Lib.hid h
  clear hR h
  cases hb : bestOk k O with
  | false =>
    have HK := Lib.hid hb
    clear hb
    go_enter Tryd.func9, Tryd.ntmps9
    go_wp2_with fail
    refine (best_no k O X HK.out ad cap _ (HR.out.below (by go_grown))).mono ?_
    rintro eE W1 ⟨rfl, hg1⟩
    have hb1 : Below w.heap.size w W1 := (show Below w.heap.size w _ by go_grown).trans (hg1.mono (by first | omega | go_size))
    obtain ⟨hc1, hf1⟩ := bcell hg1
    have hs1 := hg1.size
    try simp only [World.size_alloc, World.size_setCell, World.size_drew] at hs1
    have hl1_0_0 : W1.cell? ⟨w.heap.size, 0, none⟩ = some (num k) := (hc1 _ _ (by first | omega | go_size)).trans (by first | (with_reducible assumption) | go_cell)
    have hz1_0_0 : W1.frozen? ⟨w.heap.size, 0, none⟩ = false := (hf1 _ _ (by first | omega | go_size)).trans (by first | (with_reducible assumption) | (go_simp; done) | (simp [*]; done))
    have hl1_0_1 : W1.cell? ⟨w.heap.size, 1, none⟩ = some (st O) := (hc1 _ _ (by first | omega | go_size)).trans (by first | (with_reducible assumption) | go_cell)
    have hz1_0_1 : W1.frozen? ⟨w.heap.size, 1, none⟩ = false := (hf1 _ _ (by first | omega | go_size)).trans (by first | (with_reducible assumption) | (go_simp; done) | (simp [*]; done))
    have hl1_0_2 : W1.cell? ⟨w.heap.size, 2, none⟩ = some (st G) := (hc1 _ _ (by first | omega | go_size)).trans (by first | (with_reducible assumption) | go_cell)
    have hz1_0_2 : W1.frozen? ⟨w.heap.size, 2, none⟩ = false := (hf1 _ _ (by first | omega | go_size)).trans (by first | (with_reducible assumption) | (go_simp; done) | (simp [*]; done))
    have hl1_0_3 : W1.cell? ⟨w.heap.size, 3, none⟩ = some (by8 s) := (hc1 _ _ (by first | omega | go_size)).trans (by first | (with_reducible assumption) | go_cell)
    have hz1_0_3 : W1.frozen? ⟨w.heap.size, 3, none⟩ = false := (hf1 _ _ (by first | omega | go_size)).trans (by first | (with_reducible assumption) | (go_simp; done) | (simp [*]; done))
    have hk1_0 : w.heap.size < W1.heap.size := by omega
    have hl1_1_0 : W1.cell? ⟨w.heap.size + 1, 0, none⟩ = some (.int .i64 0) := (hc1 _ _ (by first | omega | go_size)).trans (by first | (with_reducible assumption) | go_cell)
    have hz1_1_0 : W1.frozen? ⟨w.heap.size + 1, 0, none⟩ = false := (hf1 _ _ (by first | omega | go_size)).trans (by first | (with_reducible assumption) | (go_simp; done) | (simp [*]; done))
    have hl1_1_1 : W1.cell? ⟨w.heap.size + 1, 1, none⟩ = some (.int .u64 0) := (hc1 _ _ (by first | omega | go_size)).trans (by first | (with_reducible assumption) | go_cell)
    have hz1_1_1 : W1.frozen? ⟨w.heap.size + 1, 1, none⟩ = false := (hf1 _ _ (by first | omega | go_size)).trans (by first | (with_reducible assumption) | (go_simp; done) | (simp [*]; done))
    have hl1_1_2 : W1.cell? ⟨w.heap.size + 1, 2, none⟩ = some (.int .u64 0) := (hc1 _ _ (by first | omega | go_size)).trans (by first | (with_reducible assumption) | go_cell)
    have hz1_1_2 : W1.frozen? ⟨w.heap.size + 1, 2, none⟩ = false := (hf1 _ _ (by first | omega | go_size)).trans (by first | (with_reducible assumption) | (go_simp; done) | (simp [*]; done))
    have hl1_1_3 : W1.cell? ⟨w.heap.size + 1, 3, none⟩ = some (.int .u8 0) := (hc1 _ _ (by first | omega | go_size)).trans (by first | (with_reducible assumption) | go_cell)
    have hz1_1_3 : W1.frozen? ⟨w.heap.size + 1, 3, none⟩ = false := (hf1 _ _ (by first | omega | go_size)).trans (by first | (with_reducible assumption) | (go_simp; done) | (simp [*]; done))
    have hk1_1 : w.heap.size + 1 < W1.heap.size := by omega
    clear hg1 hc1 hf1
    go_wp2_with fail
    have hB2 : Below w.heap.size w (((((W1).setCell ⟨w.heap.size + 1, 0, none⟩ (.int .i64 0)).setCell ⟨w.heap.size + 1, 1, none⟩ (.int .u64 0)).setCell ⟨w.heap.size + 1, 2, none⟩ (.int .u64 0)).setCell ⟨w.heap.size + 1, 3, none⟩ (.int .u8 0)) := by go_grown
    generalize hG2 : ((((W1).setCell ⟨w.heap.size + 1, 0, none⟩ (.int .i64 0)).setCell ⟨w.heap.size + 1, 1, none⟩ (.int .u64 0)).setCell ⟨w.heap.size + 1, 2, none⟩ (.int .u64 0)).setCell ⟨w.heap.size + 1, 3, none⟩ (.int .u8 0) = WG2 at hB2 ⊢
    have hR2 := Lib.set_row (W := W1) (b := w.heap.size + 1) [.int .i64 0, .int .u64 0, .int .u64 0, .int .u8 0] (by simp only [Lib.HasRow, Nat.zero_add, Nat.reduceAdd, and_true]; exact ⟨⟨_, by first | (with_reducible assumption) | go_cell | (simp [*]; done)⟩, ⟨_, by first | (with_reducible assumption) | go_cell | (simp [*]; done)⟩, ⟨_, by first | (with_reducible assumption) | go_cell | (simp [*]; done)⟩, ⟨_, by first | (with_reducible assumption) | go_cell | (simp [*]; done)⟩⟩) hG2
    clear hG2
    simp only [Lib.RowAt, Nat.zero_add, Nat.reduceAdd, and_true] at hR2
    obtain ⟨qr0, qr1, qr2, qr3⟩ := hR2
    exact bodyPost_ret (v := .tuple #[.agg #[.int .i64 0, .int .u64 0, .int .u64 0, .int .u8 0], num 2]) (by simp [results, Tryd.results9, go_sem, qr0, qr1, qr2, qr3]) rfl ⟨rfl, hB2⟩
  | true =>
    have HK := Lib.hid hb
    clear hb
    go_enter Tryd.func9, Tryd.ntmps9
    go_wp2_with fail
    refine (best_is k O X _ rfl HK.out ad cap _ (HR.out.below (by go_grown))).mono ?_
    rintro eE W1 ⟨rfl, hg1⟩
    have hb1 : Below w.heap.size w W1 := (show Below w.heap.size w _ by go_grown).trans (hg1.mono (by first | omega | go_size))
    obtain ⟨hc1, hf1⟩ := bcell hg1
    have hs1 := hg1.size
    try simp only [World.size_alloc, World.size_setCell, World.size_drew] at hs1
    have hl1_0_0 : W1.cell? ⟨w.heap.size, 0, none⟩ = some (num k) := (hc1 _ _ (by first | omega | go_size)).trans (by first | (with_reducible assumption) | go_cell)
    have hz1_0_0 : W1.frozen? ⟨w.heap.size, 0, none⟩ = false := (hf1 _ _ (by first | omega | go_size)).trans (by first | (with_reducible assumption) | (go_simp; done) | (simp [*]; done))
    have hl1_0_1 : W1.cell? ⟨w.heap.size, 1, none⟩ = some (st O) := (hc1 _ _ (by first | omega | go_size)).trans (by first | (with_reducible assumption) | go_cell)
    have hz1_0_1 : W1.frozen? ⟨w.heap.size, 1, none⟩ = false := (hf1 _ _ (by first | omega | go_size)).trans (by first | (with_reducible assumption) | (go_simp; done) | (simp [*]; done))
    have hl1_0_2 : W1.cell? ⟨w.heap.size, 2, none⟩ = some (st G) := (hc1 _ _ (by first | omega | go_size)).trans (by first | (with_reducible assumption) | go_cell)
    have hz1_0_2 : W1.frozen? ⟨w.heap.size, 2, none⟩ = false := (hf1 _ _ (by first | omega | go_size)).trans (by first | (with_reducible assumption) | (go_simp; done) | (simp [*]; done))
    have hl1_0_3 : W1.cell? ⟨w.heap.size, 3, none⟩ = some (by8 s) := (hc1 _ _ (by first | omega | go_size)).trans (by first | (with_reducible assumption) | go_cell)
    have hz1_0_3 : W1.frozen? ⟨w.heap.size, 3, none⟩ = false := (hf1 _ _ (by first | omega | go_size)).trans (by first | (with_reducible assumption) | (go_simp; done) | (simp [*]; done))
    have hk1_0 : w.heap.size < W1.heap.size := by omega
    have hl1_1_0 : W1.cell? ⟨w.heap.size + 1, 0, none⟩ = some (.int .i64 0) := (hc1 _ _ (by first | omega | go_size)).trans (by first | (with_reducible assumption) | go_cell)
    have hz1_1_0 : W1.frozen? ⟨w.heap.size + 1, 0, none⟩ = false := (hf1 _ _ (by first | omega | go_size)).trans (by first | (with_reducible assumption) | (go_simp; done) | (simp [*]; done))
    have hl1_1_1 : W1.cell? ⟨w.heap.size + 1, 1, none⟩ = some (.int .u64 0) := (hc1 _ _ (by first | omega | go_size)).trans (by first | (with_reducible assumption) | go_cell)
    have hz1_1_1 : W1.frozen? ⟨w.heap.size + 1, 1, none⟩ = false := (hf1 _ _ (by first | omega | go_size)).trans (by first | (with_reducible assumption) | (go_simp; done) | (simp [*]; done))
    have hl1_1_2 : W1.cell? ⟨w.heap.size + 1, 2, none⟩ = some (.int .u64 0) := (hc1 _ _ (by first | omega | go_size)).trans (by first | (with_reducible assumption) | go_cell)
    have hz1_1_2 : W1.frozen? ⟨w.heap.size + 1, 2, none⟩ = false := (hf1 _ _ (by first | omega | go_size)).trans (by first | (with_reducible assumption) | (go_simp; done) | (simp [*]; done))
    have hl1_1_3 : W1.cell? ⟨w.heap.size + 1, 3, none⟩ = some (.int .u8 0) := (hc1 _ _ (by first | omega | go_size)).trans (by first | (with_reducible assumption) | go_cell)
    have hz1_1_3 : W1.frozen? ⟨w.heap.size + 1, 3, none⟩ = false := (hf1 _ _ (by first | omega | go_size)).trans (by first | (with_reducible assumption) | (go_simp; done) | (simp [*]; done))
    have hk1_1 : w.heap.size + 1 < W1.heap.size := by omega
    clear hg1 hc1 hf1
    go_wp2_with fail
    refine (valid_is k O G s false HV.out ad cap _ (HR.out.below (by go_grown))).mono ?_
    rintro eE W3 ⟨rfl, hg3⟩
    have hb3 : Below w.heap.size w W3 := (show Below w.heap.size w _ by go_grown).trans (hg3.mono (by first | omega | go_size))
    obtain ⟨hc3, hf3⟩ := bcell hg3
    have hs3 := hg3.size
    try simp only [World.size_alloc, World.size_setCell, World.size_drew] at hs3
    have hl3_0_0 : W3.cell? ⟨w.heap.size, 0, none⟩ = some (num k) := (hc3 _ _ (by first | omega | go_size)).trans (by first | (with_reducible assumption) | go_cell)
    have hz3_0_0 : W3.frozen? ⟨w.heap.size, 0, none⟩ = false := (hf3 _ _ (by first | omega | go_size)).trans (by first | (with_reducible assumption) | (go_simp; done) | (simp [*]; done))
    have hl3_0_1 : W3.cell? ⟨w.heap.size, 1, none⟩ = some (st O) := (hc3 _ _ (by first | omega | go_size)).trans (by first | (with_reducible assumption) | go_cell)
    have hz3_0_1 : W3.frozen? ⟨w.heap.size, 1, none⟩ = false := (hf3 _ _ (by first | omega | go_size)).trans (by first | (with_reducible assumption) | (go_simp; done) | (simp [*]; done))
    have hl3_0_2 : W3.cell? ⟨w.heap.size, 2, none⟩ = some (st G) := (hc3 _ _ (by first | omega | go_size)).trans (by first | (with_reducible assumption) | go_cell)
    have hz3_0_2 : W3.frozen? ⟨w.heap.size, 2, none⟩ = false := (hf3 _ _ (by first | omega | go_size)).trans (by first | (with_reducible assumption) | (go_simp; done) | (simp [*]; done))
    have hl3_0_3 : W3.cell? ⟨w.heap.size, 3, none⟩ = some (by8 s) := (hc3 _ _ (by first | omega | go_size)).trans (by first | (with_reducible assumption) | go_cell)
    have hz3_0_3 : W3.frozen? ⟨w.heap.size, 3, none⟩ = false := (hf3 _ _ (by first | omega | go_size)).trans (by first | (with_reducible assumption) | (go_simp; done) | (simp [*]; done))
    have hk3_0 : w.heap.size < W3.heap.size := by omega
    have hl3_1_0 : W3.cell? ⟨w.heap.size + 1, 0, none⟩ = some (.int .i64 0) := (hc3 _ _ (by first | omega | go_size)).trans (by first | (with_reducible assumption) | go_cell)
    have hz3_1_0 : W3.frozen? ⟨w.heap.size + 1, 0, none⟩ = false := (hf3 _ _ (by first | omega | go_size)).trans (by first | (with_reducible assumption) | (go_simp; done) | (simp [*]; done))
    have hl3_1_1 : W3.cell? ⟨w.heap.size + 1, 1, none⟩ = some (.int .u64 0) := (hc3 _ _ (by first | omega | go_size)).trans (by first | (with_reducible assumption) | go_cell)
    have hz3_1_1 : W3.frozen? ⟨w.heap.size + 1, 1, none⟩ = false := (hf3 _ _ (by first | omega | go_size)).trans (by first | (with_reducible assumption) | (go_simp; done) | (simp [*]; done))
    have hl3_1_2 : W3.cell? ⟨w.heap.size + 1, 2, none⟩ = some (.int .u64 0) := (hc3 _ _ (by first | omega | go_size)).trans (by first | (with_reducible assumption) | go_cell)
    have hz3_1_2 : W3.frozen? ⟨w.heap.size + 1, 2, none⟩ = false := (hf3 _ _ (by first | omega | go_size)).trans (by first | (with_reducible assumption) | (go_simp; done) | (simp [*]; done))
    have hl3_1_3 : W3.cell? ⟨w.heap.size + 1, 3, none⟩ = some (.int .u8 0) := (hc3 _ _ (by first | omega | go_size)).trans (by first | (with_reducible assumption) | go_cell)
    have hz3_1_3 : W3.frozen? ⟨w.heap.size + 1, 3, none⟩ = false := (hf3 _ _ (by first | omega | go_size)).trans (by first | (with_reducible assumption) | (go_simp; done) | (simp [*]; done))
    have hk3_1 : w.heap.size + 1 < W3.heap.size := by omega
    clear hg3 hc3 hf3
    go_wp2_with fail
    have hB2 : Below w.heap.size w (((((W3).setCell ⟨w.heap.size + 1, 0, none⟩ (.int .i64 0)).setCell ⟨w.heap.size + 1, 1, none⟩ (.int .u64 0)).setCell ⟨w.heap.size + 1, 2, none⟩ (.int .u64 0)).setCell ⟨w.heap.size + 1, 3, none⟩ (.int .u8 0)) := by go_grown
    generalize hG2 : ((((W3).setCell ⟨w.heap.size + 1, 0, none⟩ (.int .i64 0)).setCell ⟨w.heap.size + 1, 1, none⟩ (.int .u64 0)).setCell ⟨w.heap.size + 1, 2, none⟩ (.int .u64 0)).setCell ⟨w.heap.size + 1, 3, none⟩ (.int .u8 0) = WG2 at hB2 ⊢
    have hR2 := Lib.set_row (W := W3) (b := w.heap.size + 1) [.int .i64 0, .int .u64 0, .int .u64 0, .int .u8 0] (by simp only [Lib.HasRow, Nat.zero_add, Nat.reduceAdd, and_true]; exact ⟨⟨_, by first | (with_reducible assumption) | go_cell | (simp [*]; done)⟩, ⟨_, by first | (with_reducible assumption) | go_cell | (simp [*]; done)⟩, ⟨_, by first | (with_reducible assumption) | go_cell | (simp [*]; done)⟩, ⟨_, by first | (with_reducible assumption) | go_cell | (simp [*]; done)⟩⟩) hG2
    clear hG2
    simp only [Lib.RowAt, Nat.zero_add, Nat.reduceAdd, and_true] at hR2
    obtain ⟨qr0, qr1, qr2, qr3⟩ := hR2
    exact bodyPost_ret (v := .tuple #[.agg #[.int .i64 0, .int .u64 0, .int .u64 0, .int .u8 0], num 2]) (by simp [results, Tryd.results9, go_sem, qr0, qr1, qr2, qr3]) rfl ⟨rfl, hB2⟩

end Go.Proofs.YtmmgcmbniidieaaDoor.St
