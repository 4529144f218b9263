/- The law StatusSteps: writing one word has the effect of writing its bits one by one, in order; for any valid state, and any word but 0. The features' rules as the program's text lays them. -/
import Derived.Test.YtmmgcmbniidieaaDoorStLives
import Derived.Test.YtmmgcmbniidieaaDoorStMath
import Derived.Test.YtmmgcmbniidieaaDoorStArgs
import Derived.Test.YtmmgcmbniidieaaDoorHeldEq
import Derived.Test.YtmmgcmbniidieaaDoorCards
namespace Go.Proofs.YtmmgcmbniidieaaDoor.StatusSteps
open Go.ChangeShapes Go.WideShapes Go.ChangeAt Go.RowKit Fe St
set_option linter.unusedVariables false
set_option linter.unusedSimpArgs false

/-- The five bits, in their order, in memory. -/
def Row5 (W : World) (b : Nat) : Prop :=
  (W.cell? ⟨b, 0, none⟩ = some (by8 1#8) ∧ W.cell? ⟨b, 1, none⟩ = some (by8 2#8) ∧ W.cell? ⟨b, 2, none⟩ = some (by8 8#8) ∧ W.cell? ⟨b, 3, none⟩ = some (by8 4#8) ∧ W.cell? ⟨b, 4, none⟩ = some (by8 128#8)) ∧
  (W.frozen? ⟨b, 0, none⟩ = false ∧ W.frozen? ⟨b, 1, none⟩ = false ∧ W.frozen? ⟨b, 2, none⟩ = false ∧ W.frozen? ⟨b, 3, none⟩ = false ∧ W.frozen? ⟨b, 4, none⟩ = false)
theorem eql_dev (k k' : Int) (O O' G G' : Set64) (s s' : Byte) (W : World) : True := trivial

set_option maxRecDepth 100000 in
set_option maxHeartbeats 4000000 in
theorem walk_off (k : Int) (O G : Set64) (s wd : Byte) (w : World) (hG : Door.Given w) (h : (!validB k O G s || wd == 0#8) = true) : Calls Tryd.prog 5 #[dev k O G s, by8 wd] w (Lib.True1 w.heap.size w) := by
  unfold Lib.True1
  obtain ⟨ad, cap, hR⟩ := hG
  have hb0 : Below w.heap.size w w := Below.refl _ _
  have HR := Lib.hid hR
  clear hR
  cases hv : validB k O G s with
  | false =>
    have HV := Lib.hid (show (if validB k O G s then (0 : Int) else 2) = 2 by rw [hv]; rfl)
    clear hv h
    go_enter Tryd.func5, Tryd.ntmps5
    go_wp2_with fail
    refine (St.lives_any ad cap _ (HR.out.below (by go_grown))).mono ?_
    rintro eE W1 ⟨rfl, hg1⟩
    have hb1 : Below w.heap.size w W1 := (show Below w.heap.size w _ by go_grown).trans (hg1.mono (by first | omega | go_size))
    obtain ⟨hc1, hf1⟩ := bcell hg1
    have hs1 := hg1.size
    try simp only [World.size_alloc, World.size_setCell, World.size_drew] at hs1
    have hl1_0_0 : W1.cell? ⟨w.heap.size, 0, none⟩ = some (num k) := (hc1 _ _ (by first | omega | go_size)).trans (by first | (with_reducible assumption) | go_cell)
    have hz1_0_0 : W1.frozen? ⟨w.heap.size, 0, none⟩ = false := (hf1 _ _ (by first | omega | go_size)).trans (by first | (with_reducible assumption) | (go_simp; done) | (simp [*]; done))
    have hl1_0_1 : W1.cell? ⟨w.heap.size, 1, none⟩ = some (st O) := (hc1 _ _ (by first | omega | go_size)).trans (by first | (with_reducible assumption) | go_cell)
    have hz1_0_1 : W1.frozen? ⟨w.heap.size, 1, none⟩ = false := (hf1 _ _ (by first | omega | go_size)).trans (by first | (with_reducible assumption) | (go_simp; done) | (simp [*]; done))
    have hl1_0_2 : W1.cell? ⟨w.heap.size, 2, none⟩ = some (st G) := (hc1 _ _ (by first | omega | go_size)).trans (by first | (with_reducible assumption) | go_cell)
    have hz1_0_2 : W1.frozen? ⟨w.heap.size, 2, none⟩ = false := (hf1 _ _ (by first | omega | go_size)).trans (by first | (with_reducible assumption) | (go_simp; done) | (simp [*]; done))
    have hl1_0_3 : W1.cell? ⟨w.heap.size, 3, none⟩ = some (by8 s) := (hc1 _ _ (by first | omega | go_size)).trans (by first | (with_reducible assumption) | go_cell)
    have hz1_0_3 : W1.frozen? ⟨w.heap.size, 3, none⟩ = false := (hf1 _ _ (by first | omega | go_size)).trans (by first | (with_reducible assumption) | (go_simp; done) | (simp [*]; done))
    have hk1_0 : w.heap.size < W1.heap.size := by omega
    clear hg1 hc1 hf1
    go_wp2_with fail
    refine (check_is k O G s 2 HV.out ad cap _ (HR.out.below (by go_grown))).mono ?_
    rintro eE W2 ⟨rfl, hg2⟩
    have hb2 : Below w.heap.size w W2 := (show Below w.heap.size w _ by go_grown).trans (hg2.mono (by first | omega | go_size))
    obtain ⟨hc2, hf2⟩ := bcell hg2
    have hs2 := hg2.size
    try simp only [World.size_alloc, World.size_setCell, World.size_drew] at hs2
    have hl2_0_0 : W2.cell? ⟨w.heap.size, 0, none⟩ = some (num k) := (hc2 _ _ (by first | omega | go_size)).trans (by first | (with_reducible assumption) | go_cell)
    have hz2_0_0 : W2.frozen? ⟨w.heap.size, 0, none⟩ = false := (hf2 _ _ (by first | omega | go_size)).trans (by first | (with_reducible assumption) | (go_simp; done) | (simp [*]; done))
    have hl2_0_1 : W2.cell? ⟨w.heap.size, 1, none⟩ = some (st O) := (hc2 _ _ (by first | omega | go_size)).trans (by first | (with_reducible assumption) | go_cell)
    have hz2_0_1 : W2.frozen? ⟨w.heap.size, 1, none⟩ = false := (hf2 _ _ (by first | omega | go_size)).trans (by first | (with_reducible assumption) | (go_simp; done) | (simp [*]; done))
    have hl2_0_2 : W2.cell? ⟨w.heap.size, 2, none⟩ = some (st G) := (hc2 _ _ (by first | omega | go_size)).trans (by first | (with_reducible assumption) | go_cell)
    have hz2_0_2 : W2.frozen? ⟨w.heap.size, 2, none⟩ = false := (hf2 _ _ (by first | omega | go_size)).trans (by first | (with_reducible assumption) | (go_simp; done) | (simp [*]; done))
    have hl2_0_3 : W2.cell? ⟨w.heap.size, 3, none⟩ = some (by8 s) := (hc2 _ _ (by first | omega | go_size)).trans (by first | (with_reducible assumption) | go_cell)
    have hz2_0_3 : W2.frozen? ⟨w.heap.size, 3, none⟩ = false := (hf2 _ _ (by first | omega | go_size)).trans (by first | (with_reducible assumption) | (go_simp; done) | (simp [*]; done))
    have hk2_0 : w.heap.size < W2.heap.size := by omega
    clear hg2 hc2 hf2
    go_wp2_with fail
    go_ret
    exact ⟨rfl, by go_grown⟩
  | true =>
    have hz : (wd == 0#8) = true := by rw [hv] at h; exact h
    obtain rfl := eq_of_beq hz
    have c : (nb 0#8 == 0) = true := rfl
    have HV := Lib.hid (show (if validB k O G s then (0 : Int) else 2) = 0 by rw [hv]; rfl)
    clear hv h hz
    go_enter Tryd.func5, Tryd.ntmps5
    go_wp2_with fail
    refine (St.lives_any ad cap _ (HR.out.below (by go_grown))).mono ?_
    rintro eE W1 ⟨rfl, hg1⟩
    have hb1 : Below w.heap.size w W1 := (show Below w.heap.size w _ by go_grown).trans (hg1.mono (by first | omega | go_size))
    obtain ⟨hc1, hf1⟩ := bcell hg1
    have hs1 := hg1.size
    try simp only [World.size_alloc, World.size_setCell, World.size_drew] at hs1
    have hl1_0_0 : W1.cell? ⟨w.heap.size, 0, none⟩ = some (num k) := (hc1 _ _ (by first | omega | go_size)).trans (by first | (with_reducible assumption) | go_cell)
    have hz1_0_0 : W1.frozen? ⟨w.heap.size, 0, none⟩ = false := (hf1 _ _ (by first | omega | go_size)).trans (by first | (with_reducible assumption) | (go_simp; done) | (simp [*]; done))
    have hl1_0_1 : W1.cell? ⟨w.heap.size, 1, none⟩ = some (st O) := (hc1 _ _ (by first | omega | go_size)).trans (by first | (with_reducible assumption) | go_cell)
    have hz1_0_1 : W1.frozen? ⟨w.heap.size, 1, none⟩ = false := (hf1 _ _ (by first | omega | go_size)).trans (by first | (with_reducible assumption) | (go_simp; done) | (simp [*]; done))
    have hl1_0_2 : W1.cell? ⟨w.heap.size, 2, none⟩ = some (st G) := (hc1 _ _ (by first | omega | go_size)).trans (by first | (with_reducible assumption) | go_cell)
    have hz1_0_2 : W1.frozen? ⟨w.heap.size, 2, none⟩ = false := (hf1 _ _ (by first | omega | go_size)).trans (by first | (with_reducible assumption) | (go_simp; done) | (simp [*]; done))
    have hl1_0_3 : W1.cell? ⟨w.heap.size, 3, none⟩ = some (by8 s) := (hc1 _ _ (by first | omega | go_size)).trans (by first | (with_reducible assumption) | go_cell)
    have hz1_0_3 : W1.frozen? ⟨w.heap.size, 3, none⟩ = false := (hf1 _ _ (by first | omega | go_size)).trans (by first | (with_reducible assumption) | (go_simp; done) | (simp [*]; done))
    have hk1_0 : w.heap.size < W1.heap.size := by omega
    clear hg1 hc1 hf1
    go_wp2_with fail
    refine (check_is k O G s 0 HV.out ad cap _ (HR.out.below (by go_grown))).mono ?_
    rintro eE W2 ⟨rfl, hg2⟩
    have hb2 : Below w.heap.size w W2 := (show Below w.heap.size w _ by go_grown).trans (hg2.mono (by first | omega | go_size))
    obtain ⟨hc2, hf2⟩ := bcell hg2
    have hs2 := hg2.size
    try simp only [World.size_alloc, World.size_setCell, World.size_drew] at hs2
    have hl2_0_0 : W2.cell? ⟨w.heap.size, 0, none⟩ = some (num k) := (hc2 _ _ (by first | omega | go_size)).trans (by first | (with_reducible assumption) | go_cell)
    have hz2_0_0 : W2.frozen? ⟨w.heap.size, 0, none⟩ = false := (hf2 _ _ (by first | omega | go_size)).trans (by first | (with_reducible assumption) | (go_simp; done) | (simp [*]; done))
    have hl2_0_1 : W2.cell? ⟨w.heap.size, 1, none⟩ = some (st O) := (hc2 _ _ (by first | omega | go_size)).trans (by first | (with_reducible assumption) | go_cell)
    have hz2_0_1 : W2.frozen? ⟨w.heap.size, 1, none⟩ = false := (hf2 _ _ (by first | omega | go_size)).trans (by first | (with_reducible assumption) | (go_simp; done) | (simp [*]; done))
    have hl2_0_2 : W2.cell? ⟨w.heap.size, 2, none⟩ = some (st G) := (hc2 _ _ (by first | omega | go_size)).trans (by first | (with_reducible assumption) | go_cell)
    have hz2_0_2 : W2.frozen? ⟨w.heap.size, 2, none⟩ = false := (hf2 _ _ (by first | omega | go_size)).trans (by first | (with_reducible assumption) | (go_simp; done) | (simp [*]; done))
    have hl2_0_3 : W2.cell? ⟨w.heap.size, 3, none⟩ = some (by8 s) := (hc2 _ _ (by first | omega | go_size)).trans (by first | (with_reducible assumption) | go_cell)
    have hz2_0_3 : W2.frozen? ⟨w.heap.size, 3, none⟩ = false := (hf2 _ _ (by first | omega | go_size)).trans (by first | (with_reducible assumption) | (go_simp; done) | (simp [*]; done))
    have hk2_0 : w.heap.size < W2.heap.size := by omega
    clear hg2 hc2 hf2
    go_wp2_with fail
    go_ret
    exact ⟨rfl, by go_grown⟩

set_option maxRecDepth 100000 in
set_option maxHeartbeats 8000000 in
theorem walk_on (k : Int) (O G : Set64) (s wd : Byte) (w : World) (hG : Door.Given w) (hv : validB k O G s = true) (hz : (wd == 0#8) = false) : Calls Tryd.prog 5 #[dev k O G s, by8 wd] w (Lib.True1 w.heap.size w) := by
  unfold Lib.True1
  obtain ⟨ad, cap, hR⟩ := hG
  have hb0 : Below w.heap.size w w := Below.refl _ _
  have HR := Lib.hid hR
  have HC := Lib.hid (show (if validB k O G s then (0 : Int) else 2) = 0 by rw [hv]; rfl)
  have HV := Lib.hid hv
  have HZ := Lib.hid hz
  have ho := offers_of hv
  have hok : okB s (acceptB k O G) (G == 0#64) = true := by rw [valid_ok, ho] at hv; exact hv
  have HO := Lib.hid hok
  have HOne := Lib.hid (fun j (hj : j ≤ 5) => show validB k O G (oneTo s wd (acceptB k O G) j) = true by rw [valid_ok, ho, one_ok wd hok hj]; rfl)
  have HX := Lib.hid (show validB k O G (setTo s wd (acceptB k O G) 5) = true by rw [valid_ok, ho, set_ok wd hok]; rfl)
  have c : (nb wd == 0) = false := by rw [nb_beq0]; exact hz
  clear hR hv hz ho hok
  go_enter Tryd.func5, Tryd.ntmps5
  go_wp2_with fail
  refine (St.lives_any ad cap _ (HR.out.below (by go_grown))).mono ?_
  rintro eE W1 ⟨rfl, hg1⟩
  have hb1 : Below w.heap.size w W1 := (show Below w.heap.size w _ by go_grown).trans (hg1.mono (by first | omega | go_size))
  obtain ⟨hc1, hf1⟩ := bcell hg1
  have hs1 := hg1.size
  try simp only [World.size_alloc, World.size_setCell, World.size_drew] at hs1
  have hl1_0_0 : W1.cell? ⟨w.heap.size, 0, none⟩ = some (num k) := (hc1 _ _ (by first | omega | go_size)).trans (by first | (with_reducible assumption) | go_cell)
  have hz1_0_0 : W1.frozen? ⟨w.heap.size, 0, none⟩ = false := (hf1 _ _ (by first | omega | go_size)).trans (by first | (with_reducible assumption) | (go_simp; done) | (simp [*]; done))
  have hl1_0_1 : W1.cell? ⟨w.heap.size, 1, none⟩ = some (st O) := (hc1 _ _ (by first | omega | go_size)).trans (by first | (with_reducible assumption) | go_cell)
  have hz1_0_1 : W1.frozen? ⟨w.heap.size, 1, none⟩ = false := (hf1 _ _ (by first | omega | go_size)).trans (by first | (with_reducible assumption) | (go_simp; done) | (simp [*]; done))
  have hl1_0_2 : W1.cell? ⟨w.heap.size, 2, none⟩ = some (st G) := (hc1 _ _ (by first | omega | go_size)).trans (by first | (with_reducible assumption) | go_cell)
  have hz1_0_2 : W1.frozen? ⟨w.heap.size, 2, none⟩ = false := (hf1 _ _ (by first | omega | go_size)).trans (by first | (with_reducible assumption) | (go_simp; done) | (simp [*]; done))
  have hl1_0_3 : W1.cell? ⟨w.heap.size, 3, none⟩ = some (by8 s) := (hc1 _ _ (by first | omega | go_size)).trans (by first | (with_reducible assumption) | go_cell)
  have hz1_0_3 : W1.frozen? ⟨w.heap.size, 3, none⟩ = false := (hf1 _ _ (by first | omega | go_size)).trans (by first | (with_reducible assumption) | (go_simp; done) | (simp [*]; done))
  have hk1_0 : w.heap.size < W1.heap.size := by omega
  clear hg1 hc1 hf1
  go_wp2_with fail
  refine (check_is k O G s 0 HC.out ad cap _ (HR.out.below (by go_grown))).mono ?_
  rintro eE W2 ⟨rfl, hg2⟩
  have hb2 : Below w.heap.size w W2 := (show Below w.heap.size w _ by go_grown).trans (hg2.mono (by first | omega | go_size))
  obtain ⟨hc2, hf2⟩ := bcell hg2
  have hs2 := hg2.size
  try simp only [World.size_alloc, World.size_setCell, World.size_drew] at hs2
  have hl2_0_0 : W2.cell? ⟨w.heap.size, 0, none⟩ = some (num k) := (hc2 _ _ (by first | omega | go_size)).trans (by first | (with_reducible assumption) | go_cell)
  have hz2_0_0 : W2.frozen? ⟨w.heap.size, 0, none⟩ = false := (hf2 _ _ (by first | omega | go_size)).trans (by first | (with_reducible assumption) | (go_simp; done) | (simp [*]; done))
  have hl2_0_1 : W2.cell? ⟨w.heap.size, 1, none⟩ = some (st O) := (hc2 _ _ (by first | omega | go_size)).trans (by first | (with_reducible assumption) | go_cell)
  have hz2_0_1 : W2.frozen? ⟨w.heap.size, 1, none⟩ = false := (hf2 _ _ (by first | omega | go_size)).trans (by first | (with_reducible assumption) | (go_simp; done) | (simp [*]; done))
  have hl2_0_2 : W2.cell? ⟨w.heap.size, 2, none⟩ = some (st G) := (hc2 _ _ (by first | omega | go_size)).trans (by first | (with_reducible assumption) | go_cell)
  have hz2_0_2 : W2.frozen? ⟨w.heap.size, 2, none⟩ = false := (hf2 _ _ (by first | omega | go_size)).trans (by first | (with_reducible assumption) | (go_simp; done) | (simp [*]; done))
  have hl2_0_3 : W2.cell? ⟨w.heap.size, 3, none⟩ = some (by8 s) := (hc2 _ _ (by first | omega | go_size)).trans (by first | (with_reducible assumption) | go_cell)
  have hz2_0_3 : W2.frozen? ⟨w.heap.size, 3, none⟩ = false := (hf2 _ _ (by first | omega | go_size)).trans (by first | (with_reducible assumption) | (go_simp; done) | (simp [*]; done))
  have hk2_0 : w.heap.size < W2.heap.size := by omega
  clear hg2 hc2 hf2
  go_wp2_with fail
  clear c
  go_loopw [21] (fun i wr => ∃ j : Nat, j ≤ 5 ∧ i = num j ∧ Below w.heap.size w wr ∧ W2.heap.size + 1 < wr.heap.size ∧ DevAt wr w.heap.size k O G s ∧ DevAt wr W2.heap.size k O G (oneTo s wd (acceptB k O G) j) ∧ Row5 wr (W2.heap.size + 1)) (fun i wr => 5 - (intOf i).toNat)
  case atStart => exact ⟨0, by omega, rfl, by go_grown, by go_size, ⟨⟨by go_cell, by go_cell, by go_cell, by go_cell⟩, by first | (with_reducible assumption) | (go_simp; done) | (simp [*]; done), by first | (with_reducible assumption) | (go_simp; done) | (simp [*]; done), by first | (with_reducible assumption) | (go_simp; done) | (simp [*]; done), by first | (with_reducible assumption) | (go_simp; done) | (simp [*]; done)⟩, (show DevAt _ W2.heap.size k O G s from ⟨⟨by go_cell, by go_cell, by go_cell, by go_cell⟩, by first | (with_reducible assumption) | (go_simp; done) | (simp [*]; done), by first | (with_reducible assumption) | (go_simp; done) | (simp [*]; done), by first | (with_reducible assumption) | (go_simp; done) | (simp [*]; done), by first | (with_reducible assumption) | (go_simp; done) | (simp [*]; done)⟩), ⟨⟨(show World.cell? _ _ = some (.int .u8 1) by go_cell), (show World.cell? _ _ = some (.int .u8 2) by go_cell), (show World.cell? _ _ = some (.int .u8 8) by go_cell), (show World.cell? _ _ = some (.int .u8 4) by go_cell), (show World.cell? _ _ = some (.int .u8 128) by go_cell)⟩, by first | (with_reducible assumption) | (go_simp; done) | (simp [*]; done), by first | (with_reducible assumption) | (go_simp; done) | (simp [*]; done), by first | (with_reducible assumption) | (go_simp; done) | (simp [*]; done), by first | (with_reducible assumption) | (go_simp; done) | (simp [*]; done), by first | (with_reducible assumption) | (go_simp; done) | (simp [*]; done)⟩⟩
  case round =>
    obtain ⟨j, hj, rfl, hbw, hsz, ⟨⟨m0, m1, m2, m3⟩, n0, n1, n2, n3⟩, ⟨⟨o0, o1, o2, o3⟩, p0, p1, p2, p3⟩, ⟨⟨q0, q1, q2, q3, q4⟩, r0, r1, r2, r3, r4⟩⟩ := hrel
    clear hl2_0_0 hl2_0_1 hl2_0_2 hl2_0_3 hz2_0_0 hz2_0_1 hz2_0_2 hz2_0_3 hl1_0_0 hl1_0_1 hl1_0_2 hl1_0_3 hz1_0_0 hz1_0_1 hz1_0_2 hz1_0_3
    have hk0 : w.heap.size < wr.heap.size := by omega
    have hk1 : W2.heap.size < wr.heap.size := by omega
    by_cases h5 : j < 5
    · clear hj
      have HM := Lib.hid o3
      clear o3
      match j, h5, HM with
      | 0, _, HM2 =>
        have o3 := HM2.out
        clear HM HM2
        generalize hT : oneTo s wd (acceptB k O G) 0 = T at o3
        have HT := Lib.hid hT
        clear hT
        have e := y_and wd 1#8
        have c2 : (nb (wd &&& 1#8) != 0) = hasb wd 1#8 := by rw [bne, nb_beq0]; rfl
        cases hh : hasb wd 1#8 with
        | false =>
          have HH := Lib.hid hh
          rw [hh] at c2
          clear hh
          go_wp2_with fail
          go_roundw
          case rel =>
            refine ⟨1, by omega, by go_num, by go_grown, by go_size, ⟨⟨m0, m1, m2, m3⟩, n0, n1, n2, n3⟩, ?_, ⟨⟨q0, q1, q2, q3, q4⟩, r0, r1, r2, r3, r4⟩⟩
            have hS : oneTo s wd (acceptB k O G) 1 = T := by unfold oneTo; rw [HT.out, show hasb wd (bitOf 0) = false from HH.out]; rfl
            rw [hS]
            exact ⟨⟨o0, o1, o2, o3⟩, p0, p1, p2, p3⟩
          case measure => simp [intOf]
        | true =>
          have HH := Lib.hid hh
          rw [hh] at c2
          clear hh
          generalize hU : setTo T 1#8 (acceptB k O G) 5 = U
          have HU := Lib.hid hU
          clear hU
          have HN := Lib.hid (show validB k O G T = true from HT.out ▸ HOne.out 0 (by decide))
          go_wp2_with fail
          refine (write_to k O G T 1#8 U HN.out rfl HU.out ad cap _ (HR.out.below (by go_grown))).mono ?_
          rintro eE W3 ⟨rfl, hg3⟩
          have hb3 : Below w.heap.size w W3 := (show Below w.heap.size w _ by go_grown).trans (hg3.mono (by first | omega | go_size))
          obtain ⟨hc3, hf3⟩ := bcell hg3
          have hs3 := hg3.size
          try simp only [World.size_alloc, World.size_setCell, World.size_drew] at hs3
          have hl3_0_0 : W3.cell? ⟨w.heap.size, 0, none⟩ = some (num k) := (hc3 _ _ (by first | omega | go_size)).trans (by first | (with_reducible assumption) | go_cell)
          have hz3_0_0 : W3.frozen? ⟨w.heap.size, 0, none⟩ = false := (hf3 _ _ (by first | omega | go_size)).trans (by first | (with_reducible assumption) | (go_simp; done) | (simp [*]; done))
          have hl3_0_1 : W3.cell? ⟨w.heap.size, 1, none⟩ = some (st O) := (hc3 _ _ (by first | omega | go_size)).trans (by first | (with_reducible assumption) | go_cell)
          have hz3_0_1 : W3.frozen? ⟨w.heap.size, 1, none⟩ = false := (hf3 _ _ (by first | omega | go_size)).trans (by first | (with_reducible assumption) | (go_simp; done) | (simp [*]; done))
          have hl3_0_2 : W3.cell? ⟨w.heap.size, 2, none⟩ = some (st G) := (hc3 _ _ (by first | omega | go_size)).trans (by first | (with_reducible assumption) | go_cell)
          have hz3_0_2 : W3.frozen? ⟨w.heap.size, 2, none⟩ = false := (hf3 _ _ (by first | omega | go_size)).trans (by first | (with_reducible assumption) | (go_simp; done) | (simp [*]; done))
          have hl3_0_3 : W3.cell? ⟨w.heap.size, 3, none⟩ = some (by8 s) := (hc3 _ _ (by first | omega | go_size)).trans (by first | (with_reducible assumption) | go_cell)
          have hz3_0_3 : W3.frozen? ⟨w.heap.size, 3, none⟩ = false := (hf3 _ _ (by first | omega | go_size)).trans (by first | (with_reducible assumption) | (go_simp; done) | (simp [*]; done))
          have hk3_0 : w.heap.size < W3.heap.size := by omega
          have hl3_1_0 : W3.cell? ⟨W2.heap.size + 1, 0, none⟩ = some (by8 1#8) := (hc3 _ _ (by first | omega | go_size)).trans (by first | (with_reducible assumption) | go_cell)
          have hz3_1_0 : W3.frozen? ⟨W2.heap.size + 1, 0, none⟩ = false := (hf3 _ _ (by first | omega | go_size)).trans (by first | (with_reducible assumption) | (go_simp; done) | (simp [*]; done))
          have hl3_1_1 : W3.cell? ⟨W2.heap.size + 1, 1, none⟩ = some (by8 2#8) := (hc3 _ _ (by first | omega | go_size)).trans (by first | (with_reducible assumption) | go_cell)
          have hz3_1_1 : W3.frozen? ⟨W2.heap.size + 1, 1, none⟩ = false := (hf3 _ _ (by first | omega | go_size)).trans (by first | (with_reducible assumption) | (go_simp; done) | (simp [*]; done))
          have hl3_1_2 : W3.cell? ⟨W2.heap.size + 1, 2, none⟩ = some (by8 8#8) := (hc3 _ _ (by first | omega | go_size)).trans (by first | (with_reducible assumption) | go_cell)
          have hz3_1_2 : W3.frozen? ⟨W2.heap.size + 1, 2, none⟩ = false := (hf3 _ _ (by first | omega | go_size)).trans (by first | (with_reducible assumption) | (go_simp; done) | (simp [*]; done))
          have hl3_1_3 : W3.cell? ⟨W2.heap.size + 1, 3, none⟩ = some (by8 4#8) := (hc3 _ _ (by first | omega | go_size)).trans (by first | (with_reducible assumption) | go_cell)
          have hz3_1_3 : W3.frozen? ⟨W2.heap.size + 1, 3, none⟩ = false := (hf3 _ _ (by first | omega | go_size)).trans (by first | (with_reducible assumption) | (go_simp; done) | (simp [*]; done))
          have hl3_1_4 : W3.cell? ⟨W2.heap.size + 1, 4, none⟩ = some (by8 128#8) := (hc3 _ _ (by first | omega | go_size)).trans (by first | (with_reducible assumption) | go_cell)
          have hz3_1_4 : W3.frozen? ⟨W2.heap.size + 1, 4, none⟩ = false := (hf3 _ _ (by first | omega | go_size)).trans (by first | (with_reducible assumption) | (go_simp; done) | (simp [*]; done))
          have hk3_1 : W2.heap.size + 1 < W3.heap.size := by omega
          have hl3_2_0 : W3.cell? ⟨W2.heap.size, 0, none⟩ = some (num k) := (hc3 _ _ (by first | omega | go_size)).trans (by first | (with_reducible assumption) | go_cell)
          have hz3_2_0 : W3.frozen? ⟨W2.heap.size, 0, none⟩ = false := (hf3 _ _ (by first | omega | go_size)).trans (by first | (with_reducible assumption) | (go_simp; done) | (simp [*]; done))
          have hl3_2_1 : W3.cell? ⟨W2.heap.size, 1, none⟩ = some (st O) := (hc3 _ _ (by first | omega | go_size)).trans (by first | (with_reducible assumption) | go_cell)
          have hz3_2_1 : W3.frozen? ⟨W2.heap.size, 1, none⟩ = false := (hf3 _ _ (by first | omega | go_size)).trans (by first | (with_reducible assumption) | (go_simp; done) | (simp [*]; done))
          have hl3_2_2 : W3.cell? ⟨W2.heap.size, 2, none⟩ = some (st G) := (hc3 _ _ (by first | omega | go_size)).trans (by first | (with_reducible assumption) | go_cell)
          have hz3_2_2 : W3.frozen? ⟨W2.heap.size, 2, none⟩ = false := (hf3 _ _ (by first | omega | go_size)).trans (by first | (with_reducible assumption) | (go_simp; done) | (simp [*]; done))
          have hl3_2_3 : W3.cell? ⟨W2.heap.size, 3, none⟩ = some (by8 T) := (hc3 _ _ (by first | omega | go_size)).trans (by first | (with_reducible assumption) | go_cell)
          have hz3_2_3 : W3.frozen? ⟨W2.heap.size, 3, none⟩ = false := (hf3 _ _ (by first | omega | go_size)).trans (by first | (with_reducible assumption) | (go_simp; done) | (simp [*]; done))
          have hk3_2 : W2.heap.size < W3.heap.size := by omega
          clear hg3 hc3 hf3
          go_wp2_with fail
          go_roundw
          case rel =>
            refine ⟨1, by omega, by go_num, by go_grown, by go_size, ⟨⟨by go_cell, by go_cell, by go_cell, by go_cell⟩, by first | (with_reducible assumption) | (go_simp; done) | (simp [*]; done), by first | (with_reducible assumption) | (go_simp; done) | (simp [*]; done), by first | (with_reducible assumption) | (go_simp; done) | (simp [*]; done), by first | (with_reducible assumption) | (go_simp; done) | (simp [*]; done)⟩, ?_, ⟨⟨by go_cell, by go_cell, by go_cell, by go_cell, by go_cell⟩, by first | (with_reducible assumption) | (go_simp; done) | (simp [*]; done), by first | (with_reducible assumption) | (go_simp; done) | (simp [*]; done), by first | (with_reducible assumption) | (go_simp; done) | (simp [*]; done), by first | (with_reducible assumption) | (go_simp; done) | (simp [*]; done), by first | (with_reducible assumption) | (go_simp; done) | (simp [*]; done)⟩⟩
            have hS : oneTo s wd (acceptB k O G) 1 = U := by unfold oneTo; rw [HT.out, show hasb wd (bitOf 0) = true from HH.out, ← HU.out]; rfl
            rw [hS]
            exact ⟨⟨by go_cell, by go_cell, by go_cell, by go_cell⟩, by first | (with_reducible assumption) | (go_simp; done) | (simp [*]; done), by first | (with_reducible assumption) | (go_simp; done) | (simp [*]; done), by first | (with_reducible assumption) | (go_simp; done) | (simp [*]; done), by first | (with_reducible assumption) | (go_simp; done) | (simp [*]; done)⟩
          case measure => simp [intOf]
      | 1, _, HM2 =>
        have o3 := HM2.out
        clear HM HM2
        generalize hT : oneTo s wd (acceptB k O G) 1 = T at o3
        have HT := Lib.hid hT
        clear hT
        have e := y_and wd 2#8
        have c2 : (nb (wd &&& 2#8) != 0) = hasb wd 2#8 := by rw [bne, nb_beq0]; rfl
        cases hh : hasb wd 2#8 with
        | false =>
          have HH := Lib.hid hh
          rw [hh] at c2
          clear hh
          go_wp2_with fail
          go_roundw
          case rel =>
            refine ⟨2, by omega, by go_num, by go_grown, by go_size, ⟨⟨m0, m1, m2, m3⟩, n0, n1, n2, n3⟩, ?_, ⟨⟨q0, q1, q2, q3, q4⟩, r0, r1, r2, r3, r4⟩⟩
            have hS : oneTo s wd (acceptB k O G) 2 = T := by unfold oneTo; rw [HT.out, show hasb wd (bitOf 1) = false from HH.out]; rfl
            rw [hS]
            exact ⟨⟨o0, o1, o2, o3⟩, p0, p1, p2, p3⟩
          case measure => simp [intOf]
        | true =>
          have HH := Lib.hid hh
          rw [hh] at c2
          clear hh
          generalize hU : setTo T 2#8 (acceptB k O G) 5 = U
          have HU := Lib.hid hU
          clear hU
          have HN := Lib.hid (show validB k O G T = true from HT.out ▸ HOne.out 1 (by decide))
          go_wp2_with fail
          refine (write_to k O G T 2#8 U HN.out rfl HU.out ad cap _ (HR.out.below (by go_grown))).mono ?_
          rintro eE W3 ⟨rfl, hg3⟩
          have hb3 : Below w.heap.size w W3 := (show Below w.heap.size w _ by go_grown).trans (hg3.mono (by first | omega | go_size))
          obtain ⟨hc3, hf3⟩ := bcell hg3
          have hs3 := hg3.size
          try simp only [World.size_alloc, World.size_setCell, World.size_drew] at hs3
          have hl3_0_0 : W3.cell? ⟨w.heap.size, 0, none⟩ = some (num k) := (hc3 _ _ (by first | omega | go_size)).trans (by first | (with_reducible assumption) | go_cell)
          have hz3_0_0 : W3.frozen? ⟨w.heap.size, 0, none⟩ = false := (hf3 _ _ (by first | omega | go_size)).trans (by first | (with_reducible assumption) | (go_simp; done) | (simp [*]; done))
          have hl3_0_1 : W3.cell? ⟨w.heap.size, 1, none⟩ = some (st O) := (hc3 _ _ (by first | omega | go_size)).trans (by first | (with_reducible assumption) | go_cell)
          have hz3_0_1 : W3.frozen? ⟨w.heap.size, 1, none⟩ = false := (hf3 _ _ (by first | omega | go_size)).trans (by first | (with_reducible assumption) | (go_simp; done) | (simp [*]; done))
          have hl3_0_2 : W3.cell? ⟨w.heap.size, 2, none⟩ = some (st G) := (hc3 _ _ (by first | omega | go_size)).trans (by first | (with_reducible assumption) | go_cell)
          have hz3_0_2 : W3.frozen? ⟨w.heap.size, 2, none⟩ = false := (hf3 _ _ (by first | omega | go_size)).trans (by first | (with_reducible assumption) | (go_simp; done) | (simp [*]; done))
          have hl3_0_3 : W3.cell? ⟨w.heap.size, 3, none⟩ = some (by8 s) := (hc3 _ _ (by first | omega | go_size)).trans (by first | (with_reducible assumption) | go_cell)
          have hz3_0_3 : W3.frozen? ⟨w.heap.size, 3, none⟩ = false := (hf3 _ _ (by first | omega | go_size)).trans (by first | (with_reducible assumption) | (go_simp; done) | (simp [*]; done))
          have hk3_0 : w.heap.size < W3.heap.size := by omega
          have hl3_1_0 : W3.cell? ⟨W2.heap.size + 1, 0, none⟩ = some (by8 1#8) := (hc3 _ _ (by first | omega | go_size)).trans (by first | (with_reducible assumption) | go_cell)
          have hz3_1_0 : W3.frozen? ⟨W2.heap.size + 1, 0, none⟩ = false := (hf3 _ _ (by first | omega | go_size)).trans (by first | (with_reducible assumption) | (go_simp; done) | (simp [*]; done))
          have hl3_1_1 : W3.cell? ⟨W2.heap.size + 1, 1, none⟩ = some (by8 2#8) := (hc3 _ _ (by first | omega | go_size)).trans (by first | (with_reducible assumption) | go_cell)
          have hz3_1_1 : W3.frozen? ⟨W2.heap.size + 1, 1, none⟩ = false := (hf3 _ _ (by first | omega | go_size)).trans (by first | (with_reducible assumption) | (go_simp; done) | (simp [*]; done))
          have hl3_1_2 : W3.cell? ⟨W2.heap.size + 1, 2, none⟩ = some (by8 8#8) := (hc3 _ _ (by first | omega | go_size)).trans (by first | (with_reducible assumption) | go_cell)
          have hz3_1_2 : W3.frozen? ⟨W2.heap.size + 1, 2, none⟩ = false := (hf3 _ _ (by first | omega | go_size)).trans (by first | (with_reducible assumption) | (go_simp; done) | (simp [*]; done))
          have hl3_1_3 : W3.cell? ⟨W2.heap.size + 1, 3, none⟩ = some (by8 4#8) := (hc3 _ _ (by first | omega | go_size)).trans (by first | (with_reducible assumption) | go_cell)
          have hz3_1_3 : W3.frozen? ⟨W2.heap.size + 1, 3, none⟩ = false := (hf3 _ _ (by first | omega | go_size)).trans (by first | (with_reducible assumption) | (go_simp; done) | (simp [*]; done))
          have hl3_1_4 : W3.cell? ⟨W2.heap.size + 1, 4, none⟩ = some (by8 128#8) := (hc3 _ _ (by first | omega | go_size)).trans (by first | (with_reducible assumption) | go_cell)
          have hz3_1_4 : W3.frozen? ⟨W2.heap.size + 1, 4, none⟩ = false := (hf3 _ _ (by first | omega | go_size)).trans (by first | (with_reducible assumption) | (go_simp; done) | (simp [*]; done))
          have hk3_1 : W2.heap.size + 1 < W3.heap.size := by omega
          have hl3_2_0 : W3.cell? ⟨W2.heap.size, 0, none⟩ = some (num k) := (hc3 _ _ (by first | omega | go_size)).trans (by first | (with_reducible assumption) | go_cell)
          have hz3_2_0 : W3.frozen? ⟨W2.heap.size, 0, none⟩ = false := (hf3 _ _ (by first | omega | go_size)).trans (by first | (with_reducible assumption) | (go_simp; done) | (simp [*]; done))
          have hl3_2_1 : W3.cell? ⟨W2.heap.size, 1, none⟩ = some (st O) := (hc3 _ _ (by first | omega | go_size)).trans (by first | (with_reducible assumption) | go_cell)
          have hz3_2_1 : W3.frozen? ⟨W2.heap.size, 1, none⟩ = false := (hf3 _ _ (by first | omega | go_size)).trans (by first | (with_reducible assumption) | (go_simp; done) | (simp [*]; done))
          have hl3_2_2 : W3.cell? ⟨W2.heap.size, 2, none⟩ = some (st G) := (hc3 _ _ (by first | omega | go_size)).trans (by first | (with_reducible assumption) | go_cell)
          have hz3_2_2 : W3.frozen? ⟨W2.heap.size, 2, none⟩ = false := (hf3 _ _ (by first | omega | go_size)).trans (by first | (with_reducible assumption) | (go_simp; done) | (simp [*]; done))
          have hl3_2_3 : W3.cell? ⟨W2.heap.size, 3, none⟩ = some (by8 T) := (hc3 _ _ (by first | omega | go_size)).trans (by first | (with_reducible assumption) | go_cell)
          have hz3_2_3 : W3.frozen? ⟨W2.heap.size, 3, none⟩ = false := (hf3 _ _ (by first | omega | go_size)).trans (by first | (with_reducible assumption) | (go_simp; done) | (simp [*]; done))
          have hk3_2 : W2.heap.size < W3.heap.size := by omega
          clear hg3 hc3 hf3
          go_wp2_with fail
          go_roundw
          case rel =>
            refine ⟨2, by omega, by go_num, by go_grown, by go_size, ⟨⟨by go_cell, by go_cell, by go_cell, by go_cell⟩, by first | (with_reducible assumption) | (go_simp; done) | (simp [*]; done), by first | (with_reducible assumption) | (go_simp; done) | (simp [*]; done), by first | (with_reducible assumption) | (go_simp; done) | (simp [*]; done), by first | (with_reducible assumption) | (go_simp; done) | (simp [*]; done)⟩, ?_, ⟨⟨by go_cell, by go_cell, by go_cell, by go_cell, by go_cell⟩, by first | (with_reducible assumption) | (go_simp; done) | (simp [*]; done), by first | (with_reducible assumption) | (go_simp; done) | (simp [*]; done), by first | (with_reducible assumption) | (go_simp; done) | (simp [*]; done), by first | (with_reducible assumption) | (go_simp; done) | (simp [*]; done), by first | (with_reducible assumption) | (go_simp; done) | (simp [*]; done)⟩⟩
            have hS : oneTo s wd (acceptB k O G) 2 = U := by unfold oneTo; rw [HT.out, show hasb wd (bitOf 1) = true from HH.out, ← HU.out]; rfl
            rw [hS]
            exact ⟨⟨by go_cell, by go_cell, by go_cell, by go_cell⟩, by first | (with_reducible assumption) | (go_simp; done) | (simp [*]; done), by first | (with_reducible assumption) | (go_simp; done) | (simp [*]; done), by first | (with_reducible assumption) | (go_simp; done) | (simp [*]; done), by first | (with_reducible assumption) | (go_simp; done) | (simp [*]; done)⟩
          case measure => simp [intOf]
      | 2, _, HM2 =>
        have o3 := HM2.out
        clear HM HM2
        generalize hT : oneTo s wd (acceptB k O G) 2 = T at o3
        have HT := Lib.hid hT
        clear hT
        have e := y_and wd 8#8
        have c2 : (nb (wd &&& 8#8) != 0) = hasb wd 8#8 := by rw [bne, nb_beq0]; rfl
        cases hh : hasb wd 8#8 with
        | false =>
          have HH := Lib.hid hh
          rw [hh] at c2
          clear hh
          go_wp2_with fail
          go_roundw
          case rel =>
            refine ⟨3, by omega, by go_num, by go_grown, by go_size, ⟨⟨m0, m1, m2, m3⟩, n0, n1, n2, n3⟩, ?_, ⟨⟨q0, q1, q2, q3, q4⟩, r0, r1, r2, r3, r4⟩⟩
            have hS : oneTo s wd (acceptB k O G) 3 = T := by unfold oneTo; rw [HT.out, show hasb wd (bitOf 2) = false from HH.out]; rfl
            rw [hS]
            exact ⟨⟨o0, o1, o2, o3⟩, p0, p1, p2, p3⟩
          case measure => simp [intOf]
        | true =>
          have HH := Lib.hid hh
          rw [hh] at c2
          clear hh
          generalize hU : setTo T 8#8 (acceptB k O G) 5 = U
          have HU := Lib.hid hU
          clear hU
          have HN := Lib.hid (show validB k O G T = true from HT.out ▸ HOne.out 2 (by decide))
          go_wp2_with fail
          refine (write_to k O G T 8#8 U HN.out rfl HU.out ad cap _ (HR.out.below (by go_grown))).mono ?_
          rintro eE W3 ⟨rfl, hg3⟩
          have hb3 : Below w.heap.size w W3 := (show Below w.heap.size w _ by go_grown).trans (hg3.mono (by first | omega | go_size))
          obtain ⟨hc3, hf3⟩ := bcell hg3
          have hs3 := hg3.size
          try simp only [World.size_alloc, World.size_setCell, World.size_drew] at hs3
          have hl3_0_0 : W3.cell? ⟨w.heap.size, 0, none⟩ = some (num k) := (hc3 _ _ (by first | omega | go_size)).trans (by first | (with_reducible assumption) | go_cell)
          have hz3_0_0 : W3.frozen? ⟨w.heap.size, 0, none⟩ = false := (hf3 _ _ (by first | omega | go_size)).trans (by first | (with_reducible assumption) | (go_simp; done) | (simp [*]; done))
          have hl3_0_1 : W3.cell? ⟨w.heap.size, 1, none⟩ = some (st O) := (hc3 _ _ (by first | omega | go_size)).trans (by first | (with_reducible assumption) | go_cell)
          have hz3_0_1 : W3.frozen? ⟨w.heap.size, 1, none⟩ = false := (hf3 _ _ (by first | omega | go_size)).trans (by first | (with_reducible assumption) | (go_simp; done) | (simp [*]; done))
          have hl3_0_2 : W3.cell? ⟨w.heap.size, 2, none⟩ = some (st G) := (hc3 _ _ (by first | omega | go_size)).trans (by first | (with_reducible assumption) | go_cell)
          have hz3_0_2 : W3.frozen? ⟨w.heap.size, 2, none⟩ = false := (hf3 _ _ (by first | omega | go_size)).trans (by first | (with_reducible assumption) | (go_simp; done) | (simp [*]; done))
          have hl3_0_3 : W3.cell? ⟨w.heap.size, 3, none⟩ = some (by8 s) := (hc3 _ _ (by first | omega | go_size)).trans (by first | (with_reducible assumption) | go_cell)
          have hz3_0_3 : W3.frozen? ⟨w.heap.size, 3, none⟩ = false := (hf3 _ _ (by first | omega | go_size)).trans (by first | (with_reducible assumption) | (go_simp; done) | (simp [*]; done))
          have hk3_0 : w.heap.size < W3.heap.size := by omega
          have hl3_1_0 : W3.cell? ⟨W2.heap.size + 1, 0, none⟩ = some (by8 1#8) := (hc3 _ _ (by first | omega | go_size)).trans (by first | (with_reducible assumption) | go_cell)
          have hz3_1_0 : W3.frozen? ⟨W2.heap.size + 1, 0, none⟩ = false := (hf3 _ _ (by first | omega | go_size)).trans (by first | (with_reducible assumption) | (go_simp; done) | (simp [*]; done))
          have hl3_1_1 : W3.cell? ⟨W2.heap.size + 1, 1, none⟩ = some (by8 2#8) := (hc3 _ _ (by first | omega | go_size)).trans (by first | (with_reducible assumption) | go_cell)
          have hz3_1_1 : W3.frozen? ⟨W2.heap.size + 1, 1, none⟩ = false := (hf3 _ _ (by first | omega | go_size)).trans (by first | (with_reducible assumption) | (go_simp; done) | (simp [*]; done))
          have hl3_1_2 : W3.cell? ⟨W2.heap.size + 1, 2, none⟩ = some (by8 8#8) := (hc3 _ _ (by first | omega | go_size)).trans (by first | (with_reducible assumption) | go_cell)
          have hz3_1_2 : W3.frozen? ⟨W2.heap.size + 1, 2, none⟩ = false := (hf3 _ _ (by first | omega | go_size)).trans (by first | (with_reducible assumption) | (go_simp; done) | (simp [*]; done))
          have hl3_1_3 : W3.cell? ⟨W2.heap.size + 1, 3, none⟩ = some (by8 4#8) := (hc3 _ _ (by first | omega | go_size)).trans (by first | (with_reducible assumption) | go_cell)
          have hz3_1_3 : W3.frozen? ⟨W2.heap.size + 1, 3, none⟩ = false := (hf3 _ _ (by first | omega | go_size)).trans (by first | (with_reducible assumption) | (go_simp; done) | (simp [*]; done))
          have hl3_1_4 : W3.cell? ⟨W2.heap.size + 1, 4, none⟩ = some (by8 128#8) := (hc3 _ _ (by first | omega | go_size)).trans (by first | (with_reducible assumption) | go_cell)
          have hz3_1_4 : W3.frozen? ⟨W2.heap.size + 1, 4, none⟩ = false := (hf3 _ _ (by first | omega | go_size)).trans (by first | (with_reducible assumption) | (go_simp; done) | (simp [*]; done))
          have hk3_1 : W2.heap.size + 1 < W3.heap.size := by omega
          have hl3_2_0 : W3.cell? ⟨W2.heap.size, 0, none⟩ = some (num k) := (hc3 _ _ (by first | omega | go_size)).trans (by first | (with_reducible assumption) | go_cell)
          have hz3_2_0 : W3.frozen? ⟨W2.heap.size, 0, none⟩ = false := (hf3 _ _ (by first | omega | go_size)).trans (by first | (with_reducible assumption) | (go_simp; done) | (simp [*]; done))
          have hl3_2_1 : W3.cell? ⟨W2.heap.size, 1, none⟩ = some (st O) := (hc3 _ _ (by first | omega | go_size)).trans (by first | (with_reducible assumption) | go_cell)
          have hz3_2_1 : W3.frozen? ⟨W2.heap.size, 1, none⟩ = false := (hf3 _ _ (by first | omega | go_size)).trans (by first | (with_reducible assumption) | (go_simp; done) | (simp [*]; done))
          have hl3_2_2 : W3.cell? ⟨W2.heap.size, 2, none⟩ = some (st G) := (hc3 _ _ (by first | omega | go_size)).trans (by first | (with_reducible assumption) | go_cell)
          have hz3_2_2 : W3.frozen? ⟨W2.heap.size, 2, none⟩ = false := (hf3 _ _ (by first | omega | go_size)).trans (by first | (with_reducible assumption) | (go_simp; done) | (simp [*]; done))
          have hl3_2_3 : W3.cell? ⟨W2.heap.size, 3, none⟩ = some (by8 T) := (hc3 _ _ (by first | omega | go_size)).trans (by first | (with_reducible assumption) | go_cell)
          have hz3_2_3 : W3.frozen? ⟨W2.heap.size, 3, none⟩ = false := (hf3 _ _ (by first | omega | go_size)).trans (by first | (with_reducible assumption) | (go_simp; done) | (simp [*]; done))
          have hk3_2 : W2.heap.size < W3.heap.size := by omega
          clear hg3 hc3 hf3
          go_wp2_with fail
          go_roundw
          case rel =>
            refine ⟨3, by omega, by go_num, by go_grown, by go_size, ⟨⟨by go_cell, by go_cell, by go_cell, by go_cell⟩, by first | (with_reducible assumption) | (go_simp; done) | (simp [*]; done), by first | (with_reducible assumption) | (go_simp; done) | (simp [*]; done), by first | (with_reducible assumption) | (go_simp; done) | (simp [*]; done), by first | (with_reducible assumption) | (go_simp; done) | (simp [*]; done)⟩, ?_, ⟨⟨by go_cell, by go_cell, by go_cell, by go_cell, by go_cell⟩, by first | (with_reducible assumption) | (go_simp; done) | (simp [*]; done), by first | (with_reducible assumption) | (go_simp; done) | (simp [*]; done), by first | (with_reducible assumption) | (go_simp; done) | (simp [*]; done), by first | (with_reducible assumption) | (go_simp; done) | (simp [*]; done), by first | (with_reducible assumption) | (go_simp; done) | (simp [*]; done)⟩⟩
            have hS : oneTo s wd (acceptB k O G) 3 = U := by unfold oneTo; rw [HT.out, show hasb wd (bitOf 2) = true from HH.out, ← HU.out]; rfl
            rw [hS]
            exact ⟨⟨by go_cell, by go_cell, by go_cell, by go_cell⟩, by first | (with_reducible assumption) | (go_simp; done) | (simp [*]; done), by first | (with_reducible assumption) | (go_simp; done) | (simp [*]; done), by first | (with_reducible assumption) | (go_simp; done) | (simp [*]; done), by first | (with_reducible assumption) | (go_simp; done) | (simp [*]; done)⟩
          case measure => simp [intOf]
      | 3, _, HM2 =>
        have o3 := HM2.out
        clear HM HM2
        generalize hT : oneTo s wd (acceptB k O G) 3 = T at o3
        have HT := Lib.hid hT
        clear hT
        have e := y_and wd 4#8
        have c2 : (nb (wd &&& 4#8) != 0) = hasb wd 4#8 := by rw [bne, nb_beq0]; rfl
        cases hh : hasb wd 4#8 with
        | false =>
          have HH := Lib.hid hh
          rw [hh] at c2
          clear hh
          go_wp2_with fail
          go_roundw
          case rel =>
            refine ⟨4, by omega, by go_num, by go_grown, by go_size, ⟨⟨m0, m1, m2, m3⟩, n0, n1, n2, n3⟩, ?_, ⟨⟨q0, q1, q2, q3, q4⟩, r0, r1, r2, r3, r4⟩⟩
            have hS : oneTo s wd (acceptB k O G) 4 = T := by unfold oneTo; rw [HT.out, show hasb wd (bitOf 3) = false from HH.out]; rfl
            rw [hS]
            exact ⟨⟨o0, o1, o2, o3⟩, p0, p1, p2, p3⟩
          case measure => simp [intOf]
        | true =>
          have HH := Lib.hid hh
          rw [hh] at c2
          clear hh
          generalize hU : setTo T 4#8 (acceptB k O G) 5 = U
          have HU := Lib.hid hU
          clear hU
          have HN := Lib.hid (show validB k O G T = true from HT.out ▸ HOne.out 3 (by decide))
          go_wp2_with fail
          refine (write_to k O G T 4#8 U HN.out rfl HU.out ad cap _ (HR.out.below (by go_grown))).mono ?_
          rintro eE W3 ⟨rfl, hg3⟩
          have hb3 : Below w.heap.size w W3 := (show Below w.heap.size w _ by go_grown).trans (hg3.mono (by first | omega | go_size))
          obtain ⟨hc3, hf3⟩ := bcell hg3
          have hs3 := hg3.size
          try simp only [World.size_alloc, World.size_setCell, World.size_drew] at hs3
          have hl3_0_0 : W3.cell? ⟨w.heap.size, 0, none⟩ = some (num k) := (hc3 _ _ (by first | omega | go_size)).trans (by first | (with_reducible assumption) | go_cell)
          have hz3_0_0 : W3.frozen? ⟨w.heap.size, 0, none⟩ = false := (hf3 _ _ (by first | omega | go_size)).trans (by first | (with_reducible assumption) | (go_simp; done) | (simp [*]; done))
          have hl3_0_1 : W3.cell? ⟨w.heap.size, 1, none⟩ = some (st O) := (hc3 _ _ (by first | omega | go_size)).trans (by first | (with_reducible assumption) | go_cell)
          have hz3_0_1 : W3.frozen? ⟨w.heap.size, 1, none⟩ = false := (hf3 _ _ (by first | omega | go_size)).trans (by first | (with_reducible assumption) | (go_simp; done) | (simp [*]; done))
          have hl3_0_2 : W3.cell? ⟨w.heap.size, 2, none⟩ = some (st G) := (hc3 _ _ (by first | omega | go_size)).trans (by first | (with_reducible assumption) | go_cell)
          have hz3_0_2 : W3.frozen? ⟨w.heap.size, 2, none⟩ = false := (hf3 _ _ (by first | omega | go_size)).trans (by first | (with_reducible assumption) | (go_simp; done) | (simp [*]; done))
          have hl3_0_3 : W3.cell? ⟨w.heap.size, 3, none⟩ = some (by8 s) := (hc3 _ _ (by first | omega | go_size)).trans (by first | (with_reducible assumption) | go_cell)
          have hz3_0_3 : W3.frozen? ⟨w.heap.size, 3, none⟩ = false := (hf3 _ _ (by first | omega | go_size)).trans (by first | (with_reducible assumption) | (go_simp; done) | (simp [*]; done))
          have hk3_0 : w.heap.size < W3.heap.size := by omega
          have hl3_1_0 : W3.cell? ⟨W2.heap.size + 1, 0, none⟩ = some (by8 1#8) := (hc3 _ _ (by first | omega | go_size)).trans (by first | (with_reducible assumption) | go_cell)
          have hz3_1_0 : W3.frozen? ⟨W2.heap.size + 1, 0, none⟩ = false := (hf3 _ _ (by first | omega | go_size)).trans (by first | (with_reducible assumption) | (go_simp; done) | (simp [*]; done))
          have hl3_1_1 : W3.cell? ⟨W2.heap.size + 1, 1, none⟩ = some (by8 2#8) := (hc3 _ _ (by first | omega | go_size)).trans (by first | (with_reducible assumption) | go_cell)
          have hz3_1_1 : W3.frozen? ⟨W2.heap.size + 1, 1, none⟩ = false := (hf3 _ _ (by first | omega | go_size)).trans (by first | (with_reducible assumption) | (go_simp; done) | (simp [*]; done))
          have hl3_1_2 : W3.cell? ⟨W2.heap.size + 1, 2, none⟩ = some (by8 8#8) := (hc3 _ _ (by first | omega | go_size)).trans (by first | (with_reducible assumption) | go_cell)
          have hz3_1_2 : W3.frozen? ⟨W2.heap.size + 1, 2, none⟩ = false := (hf3 _ _ (by first | omega | go_size)).trans (by first | (with_reducible assumption) | (go_simp; done) | (simp [*]; done))
          have hl3_1_3 : W3.cell? ⟨W2.heap.size + 1, 3, none⟩ = some (by8 4#8) := (hc3 _ _ (by first | omega | go_size)).trans (by first | (with_reducible assumption) | go_cell)
          have hz3_1_3 : W3.frozen? ⟨W2.heap.size + 1, 3, none⟩ = false := (hf3 _ _ (by first | omega | go_size)).trans (by first | (with_reducible assumption) | (go_simp; done) | (simp [*]; done))
          have hl3_1_4 : W3.cell? ⟨W2.heap.size + 1, 4, none⟩ = some (by8 128#8) := (hc3 _ _ (by first | omega | go_size)).trans (by first | (with_reducible assumption) | go_cell)
          have hz3_1_4 : W3.frozen? ⟨W2.heap.size + 1, 4, none⟩ = false := (hf3 _ _ (by first | omega | go_size)).trans (by first | (with_reducible assumption) | (go_simp; done) | (simp [*]; done))
          have hk3_1 : W2.heap.size + 1 < W3.heap.size := by omega
          have hl3_2_0 : W3.cell? ⟨W2.heap.size, 0, none⟩ = some (num k) := (hc3 _ _ (by first | omega | go_size)).trans (by first | (with_reducible assumption) | go_cell)
          have hz3_2_0 : W3.frozen? ⟨W2.heap.size, 0, none⟩ = false := (hf3 _ _ (by first | omega | go_size)).trans (by first | (with_reducible assumption) | (go_simp; done) | (simp [*]; done))
          have hl3_2_1 : W3.cell? ⟨W2.heap.size, 1, none⟩ = some (st O) := (hc3 _ _ (by first | omega | go_size)).trans (by first | (with_reducible assumption) | go_cell)
          have hz3_2_1 : W3.frozen? ⟨W2.heap.size, 1, none⟩ = false := (hf3 _ _ (by first | omega | go_size)).trans (by first | (with_reducible assumption) | (go_simp; done) | (simp [*]; done))
          have hl3_2_2 : W3.cell? ⟨W2.heap.size, 2, none⟩ = some (st G) := (hc3 _ _ (by first | omega | go_size)).trans (by first | (with_reducible assumption) | go_cell)
          have hz3_2_2 : W3.frozen? ⟨W2.heap.size, 2, none⟩ = false := (hf3 _ _ (by first | omega | go_size)).trans (by first | (with_reducible assumption) | (go_simp; done) | (simp [*]; done))
          have hl3_2_3 : W3.cell? ⟨W2.heap.size, 3, none⟩ = some (by8 T) := (hc3 _ _ (by first | omega | go_size)).trans (by first | (with_reducible assumption) | go_cell)
          have hz3_2_3 : W3.frozen? ⟨W2.heap.size, 3, none⟩ = false := (hf3 _ _ (by first | omega | go_size)).trans (by first | (with_reducible assumption) | (go_simp; done) | (simp [*]; done))
          have hk3_2 : W2.heap.size < W3.heap.size := by omega
          clear hg3 hc3 hf3
          go_wp2_with fail
          go_roundw
          case rel =>
            refine ⟨4, by omega, by go_num, by go_grown, by go_size, ⟨⟨by go_cell, by go_cell, by go_cell, by go_cell⟩, by first | (with_reducible assumption) | (go_simp; done) | (simp [*]; done), by first | (with_reducible assumption) | (go_simp; done) | (simp [*]; done), by first | (with_reducible assumption) | (go_simp; done) | (simp [*]; done), by first | (with_reducible assumption) | (go_simp; done) | (simp [*]; done)⟩, ?_, ⟨⟨by go_cell, by go_cell, by go_cell, by go_cell, by go_cell⟩, by first | (with_reducible assumption) | (go_simp; done) | (simp [*]; done), by first | (with_reducible assumption) | (go_simp; done) | (simp [*]; done), by first | (with_reducible assumption) | (go_simp; done) | (simp [*]; done), by first | (with_reducible assumption) | (go_simp; done) | (simp [*]; done), by first | (with_reducible assumption) | (go_simp; done) | (simp [*]; done)⟩⟩
            have hS : oneTo s wd (acceptB k O G) 4 = U := by unfold oneTo; rw [HT.out, show hasb wd (bitOf 3) = true from HH.out, ← HU.out]; rfl
            rw [hS]
            exact ⟨⟨by go_cell, by go_cell, by go_cell, by go_cell⟩, by first | (with_reducible assumption) | (go_simp; done) | (simp [*]; done), by first | (with_reducible assumption) | (go_simp; done) | (simp [*]; done), by first | (with_reducible assumption) | (go_simp; done) | (simp [*]; done), by first | (with_reducible assumption) | (go_simp; done) | (simp [*]; done)⟩
          case measure => simp [intOf]
      | 4, _, HM2 =>
        have o3 := HM2.out
        clear HM HM2
        generalize hT : oneTo s wd (acceptB k O G) 4 = T at o3
        have HT := Lib.hid hT
        clear hT
        have e := y_and wd 128#8
        have c2 : (nb (wd &&& 128#8) != 0) = hasb wd 128#8 := by rw [bne, nb_beq0]; rfl
        cases hh : hasb wd 128#8 with
        | false =>
          have HH := Lib.hid hh
          rw [hh] at c2
          clear hh
          go_wp2_with fail
          go_roundw
          case rel =>
            refine ⟨5, by omega, by go_num, by go_grown, by go_size, ⟨⟨m0, m1, m2, m3⟩, n0, n1, n2, n3⟩, ?_, ⟨⟨q0, q1, q2, q3, q4⟩, r0, r1, r2, r3, r4⟩⟩
            have hS : oneTo s wd (acceptB k O G) 5 = T := by unfold oneTo; rw [HT.out, show hasb wd (bitOf 4) = false from HH.out]; rfl
            rw [hS]
            exact ⟨⟨o0, o1, o2, o3⟩, p0, p1, p2, p3⟩
          case measure => simp [intOf]
        | true =>
          have HH := Lib.hid hh
          rw [hh] at c2
          clear hh
          generalize hU : setTo T 128#8 (acceptB k O G) 5 = U
          have HU := Lib.hid hU
          clear hU
          have HN := Lib.hid (show validB k O G T = true from HT.out ▸ HOne.out 4 (by decide))
          go_wp2_with fail
          refine (write_to k O G T 128#8 U HN.out rfl HU.out ad cap _ (HR.out.below (by go_grown))).mono ?_
          rintro eE W3 ⟨rfl, hg3⟩
          have hb3 : Below w.heap.size w W3 := (show Below w.heap.size w _ by go_grown).trans (hg3.mono (by first | omega | go_size))
          obtain ⟨hc3, hf3⟩ := bcell hg3
          have hs3 := hg3.size
          try simp only [World.size_alloc, World.size_setCell, World.size_drew] at hs3
          have hl3_0_0 : W3.cell? ⟨w.heap.size, 0, none⟩ = some (num k) := (hc3 _ _ (by first | omega | go_size)).trans (by first | (with_reducible assumption) | go_cell)
          have hz3_0_0 : W3.frozen? ⟨w.heap.size, 0, none⟩ = false := (hf3 _ _ (by first | omega | go_size)).trans (by first | (with_reducible assumption) | (go_simp; done) | (simp [*]; done))
          have hl3_0_1 : W3.cell? ⟨w.heap.size, 1, none⟩ = some (st O) := (hc3 _ _ (by first | omega | go_size)).trans (by first | (with_reducible assumption) | go_cell)
          have hz3_0_1 : W3.frozen? ⟨w.heap.size, 1, none⟩ = false := (hf3 _ _ (by first | omega | go_size)).trans (by first | (with_reducible assumption) | (go_simp; done) | (simp [*]; done))
          have hl3_0_2 : W3.cell? ⟨w.heap.size, 2, none⟩ = some (st G) := (hc3 _ _ (by first | omega | go_size)).trans (by first | (with_reducible assumption) | go_cell)
          have hz3_0_2 : W3.frozen? ⟨w.heap.size, 2, none⟩ = false := (hf3 _ _ (by first | omega | go_size)).trans (by first | (with_reducible assumption) | (go_simp; done) | (simp [*]; done))
          have hl3_0_3 : W3.cell? ⟨w.heap.size, 3, none⟩ = some (by8 s) := (hc3 _ _ (by first | omega | go_size)).trans (by first | (with_reducible assumption) | go_cell)
          have hz3_0_3 : W3.frozen? ⟨w.heap.size, 3, none⟩ = false := (hf3 _ _ (by first | omega | go_size)).trans (by first | (with_reducible assumption) | (go_simp; done) | (simp [*]; done))
          have hk3_0 : w.heap.size < W3.heap.size := by omega
          have hl3_1_0 : W3.cell? ⟨W2.heap.size + 1, 0, none⟩ = some (by8 1#8) := (hc3 _ _ (by first | omega | go_size)).trans (by first | (with_reducible assumption) | go_cell)
          have hz3_1_0 : W3.frozen? ⟨W2.heap.size + 1, 0, none⟩ = false := (hf3 _ _ (by first | omega | go_size)).trans (by first | (with_reducible assumption) | (go_simp; done) | (simp [*]; done))
          have hl3_1_1 : W3.cell? ⟨W2.heap.size + 1, 1, none⟩ = some (by8 2#8) := (hc3 _ _ (by first | omega | go_size)).trans (by first | (with_reducible assumption) | go_cell)
          have hz3_1_1 : W3.frozen? ⟨W2.heap.size + 1, 1, none⟩ = false := (hf3 _ _ (by first | omega | go_size)).trans (by first | (with_reducible assumption) | (go_simp; done) | (simp [*]; done))
          have hl3_1_2 : W3.cell? ⟨W2.heap.size + 1, 2, none⟩ = some (by8 8#8) := (hc3 _ _ (by first | omega | go_size)).trans (by first | (with_reducible assumption) | go_cell)
          have hz3_1_2 : W3.frozen? ⟨W2.heap.size + 1, 2, none⟩ = false := (hf3 _ _ (by first | omega | go_size)).trans (by first | (with_reducible assumption) | (go_simp; done) | (simp [*]; done))
          have hl3_1_3 : W3.cell? ⟨W2.heap.size + 1, 3, none⟩ = some (by8 4#8) := (hc3 _ _ (by first | omega | go_size)).trans (by first | (with_reducible assumption) | go_cell)
          have hz3_1_3 : W3.frozen? ⟨W2.heap.size + 1, 3, none⟩ = false := (hf3 _ _ (by first | omega | go_size)).trans (by first | (with_reducible assumption) | (go_simp; done) | (simp [*]; done))
          have hl3_1_4 : W3.cell? ⟨W2.heap.size + 1, 4, none⟩ = some (by8 128#8) := (hc3 _ _ (by first | omega | go_size)).trans (by first | (with_reducible assumption) | go_cell)
          have hz3_1_4 : W3.frozen? ⟨W2.heap.size + 1, 4, none⟩ = false := (hf3 _ _ (by first | omega | go_size)).trans (by first | (with_reducible assumption) | (go_simp; done) | (simp [*]; done))
          have hk3_1 : W2.heap.size + 1 < W3.heap.size := by omega
          have hl3_2_0 : W3.cell? ⟨W2.heap.size, 0, none⟩ = some (num k) := (hc3 _ _ (by first | omega | go_size)).trans (by first | (with_reducible assumption) | go_cell)
          have hz3_2_0 : W3.frozen? ⟨W2.heap.size, 0, none⟩ = false := (hf3 _ _ (by first | omega | go_size)).trans (by first | (with_reducible assumption) | (go_simp; done) | (simp [*]; done))
          have hl3_2_1 : W3.cell? ⟨W2.heap.size, 1, none⟩ = some (st O) := (hc3 _ _ (by first | omega | go_size)).trans (by first | (with_reducible assumption) | go_cell)
          have hz3_2_1 : W3.frozen? ⟨W2.heap.size, 1, none⟩ = false := (hf3 _ _ (by first | omega | go_size)).trans (by first | (with_reducible assumption) | (go_simp; done) | (simp [*]; done))
          have hl3_2_2 : W3.cell? ⟨W2.heap.size, 2, none⟩ = some (st G) := (hc3 _ _ (by first | omega | go_size)).trans (by first | (with_reducible assumption) | go_cell)
          have hz3_2_2 : W3.frozen? ⟨W2.heap.size, 2, none⟩ = false := (hf3 _ _ (by first | omega | go_size)).trans (by first | (with_reducible assumption) | (go_simp; done) | (simp [*]; done))
          have hl3_2_3 : W3.cell? ⟨W2.heap.size, 3, none⟩ = some (by8 T) := (hc3 _ _ (by first | omega | go_size)).trans (by first | (with_reducible assumption) | go_cell)
          have hz3_2_3 : W3.frozen? ⟨W2.heap.size, 3, none⟩ = false := (hf3 _ _ (by first | omega | go_size)).trans (by first | (with_reducible assumption) | (go_simp; done) | (simp [*]; done))
          have hk3_2 : W2.heap.size < W3.heap.size := by omega
          clear hg3 hc3 hf3
          go_wp2_with fail
          go_roundw
          case rel =>
            refine ⟨5, by omega, by go_num, by go_grown, by go_size, ⟨⟨by go_cell, by go_cell, by go_cell, by go_cell⟩, by first | (with_reducible assumption) | (go_simp; done) | (simp [*]; done), by first | (with_reducible assumption) | (go_simp; done) | (simp [*]; done), by first | (with_reducible assumption) | (go_simp; done) | (simp [*]; done), by first | (with_reducible assumption) | (go_simp; done) | (simp [*]; done)⟩, ?_, ⟨⟨by go_cell, by go_cell, by go_cell, by go_cell, by go_cell⟩, by first | (with_reducible assumption) | (go_simp; done) | (simp [*]; done), by first | (with_reducible assumption) | (go_simp; done) | (simp [*]; done), by first | (with_reducible assumption) | (go_simp; done) | (simp [*]; done), by first | (with_reducible assumption) | (go_simp; done) | (simp [*]; done), by first | (with_reducible assumption) | (go_simp; done) | (simp [*]; done)⟩⟩
            have hS : oneTo s wd (acceptB k O G) 5 = U := by unfold oneTo; rw [HT.out, show hasb wd (bitOf 4) = true from HH.out, ← HU.out]; rfl
            rw [hS]
            exact ⟨⟨by go_cell, by go_cell, by go_cell, by go_cell⟩, by first | (with_reducible assumption) | (go_simp; done) | (simp [*]; done), by first | (with_reducible assumption) | (go_simp; done) | (simp [*]; done), by first | (with_reducible assumption) | (go_simp; done) | (simp [*]; done), by first | (with_reducible assumption) | (go_simp; done) | (simp [*]; done)⟩
          case measure => simp [intOf]
    · obtain rfl : j = 5 := by omega
      rw [one_set wd HO.out] at o3
      clear HOne
      generalize hX : setTo s wd (acceptB k O G) 5 = X at o3 HX
      have HXX := Lib.hid (show setTo X wd (acceptB k O G) 5 = X by rw [← hX]; exact set_set wd HO.out)
      have HS := Lib.hid hX
      have HC2 := Lib.hid (show (if validB k O G X then (0 : Int) else 2) = 0 by rw [HX.out]; rfl)
      clear hX
      have ek := beq_self_eq_true k
      have eO := beq_self_eq_true (nu O)
      have eG := beq_self_eq_true (nu G)
      have eX := beq_self_eq_true (nb X)
      clear q0 q1 q2 q3 q4 r0 r1 r2 r3 r4
      go_wp2_with fail
      refine (write_to k O G s wd X HV.out HZ.out HS.out ad cap _ (HR.out.below (by go_grown))).mono ?_
      rintro eE W3 ⟨rfl, hg3⟩
      have hb3 : Below w.heap.size w W3 := (show Below w.heap.size w _ by go_grown).trans (hg3.mono (by first | omega | go_size))
      obtain ⟨hc3, hf3⟩ := bcell hg3
      have hs3 := hg3.size
      try simp only [World.size_alloc, World.size_setCell, World.size_drew] at hs3
      have hl3_0_0 : W3.cell? ⟨w.heap.size, 0, none⟩ = some (num k) := (hc3 _ _ (by first | omega | go_size)).trans (by first | (with_reducible assumption) | go_cell)
      have hz3_0_0 : W3.frozen? ⟨w.heap.size, 0, none⟩ = false := (hf3 _ _ (by first | omega | go_size)).trans (by first | (with_reducible assumption) | (go_simp; done) | (simp [*]; done))
      have hl3_0_1 : W3.cell? ⟨w.heap.size, 1, none⟩ = some (st O) := (hc3 _ _ (by first | omega | go_size)).trans (by first | (with_reducible assumption) | go_cell)
      have hz3_0_1 : W3.frozen? ⟨w.heap.size, 1, none⟩ = false := (hf3 _ _ (by first | omega | go_size)).trans (by first | (with_reducible assumption) | (go_simp; done) | (simp [*]; done))
      have hl3_0_2 : W3.cell? ⟨w.heap.size, 2, none⟩ = some (st G) := (hc3 _ _ (by first | omega | go_size)).trans (by first | (with_reducible assumption) | go_cell)
      have hz3_0_2 : W3.frozen? ⟨w.heap.size, 2, none⟩ = false := (hf3 _ _ (by first | omega | go_size)).trans (by first | (with_reducible assumption) | (go_simp; done) | (simp [*]; done))
      have hl3_0_3 : W3.cell? ⟨w.heap.size, 3, none⟩ = some (by8 s) := (hc3 _ _ (by first | omega | go_size)).trans (by first | (with_reducible assumption) | go_cell)
      have hz3_0_3 : W3.frozen? ⟨w.heap.size, 3, none⟩ = false := (hf3 _ _ (by first | omega | go_size)).trans (by first | (with_reducible assumption) | (go_simp; done) | (simp [*]; done))
      have hk3_0 : w.heap.size < W3.heap.size := by omega
      have hl3_1_0 : W3.cell? ⟨W2.heap.size, 0, none⟩ = some (num k) := (hc3 _ _ (by first | omega | go_size)).trans (by first | (with_reducible assumption) | go_cell)
      have hz3_1_0 : W3.frozen? ⟨W2.heap.size, 0, none⟩ = false := (hf3 _ _ (by first | omega | go_size)).trans (by first | (with_reducible assumption) | (go_simp; done) | (simp [*]; done))
      have hl3_1_1 : W3.cell? ⟨W2.heap.size, 1, none⟩ = some (st O) := (hc3 _ _ (by first | omega | go_size)).trans (by first | (with_reducible assumption) | go_cell)
      have hz3_1_1 : W3.frozen? ⟨W2.heap.size, 1, none⟩ = false := (hf3 _ _ (by first | omega | go_size)).trans (by first | (with_reducible assumption) | (go_simp; done) | (simp [*]; done))
      have hl3_1_2 : W3.cell? ⟨W2.heap.size, 2, none⟩ = some (st G) := (hc3 _ _ (by first | omega | go_size)).trans (by first | (with_reducible assumption) | go_cell)
      have hz3_1_2 : W3.frozen? ⟨W2.heap.size, 2, none⟩ = false := (hf3 _ _ (by first | omega | go_size)).trans (by first | (with_reducible assumption) | (go_simp; done) | (simp [*]; done))
      have hl3_1_3 : W3.cell? ⟨W2.heap.size, 3, none⟩ = some (by8 X) := (hc3 _ _ (by first | omega | go_size)).trans (by first | (with_reducible assumption) | go_cell)
      have hz3_1_3 : W3.frozen? ⟨W2.heap.size, 3, none⟩ = false := (hf3 _ _ (by first | omega | go_size)).trans (by first | (with_reducible assumption) | (go_simp; done) | (simp [*]; done))
      have hk3_1 : W2.heap.size < W3.heap.size := by omega
      clear hg3 hc3 hf3
      go_wp2_with fail
      refine Lib.wp_region_class (Lib.Held w _ [(w.heap.size, 0, (num k : Value)), (w.heap.size, 1, (st O : Value)), (w.heap.size, 2, (st G : Value)), (w.heap.size, 3, (by8 s : Value)), (W2.heap.size, 0, (num k : Value)), (W2.heap.size, 1, (st O : Value)), (W2.heap.size, 2, (st G : Value)), (W2.heap.size, 3, (by8 X : Value)), (W3.heap.size, 0, (num k : Value)), (W3.heap.size, 1, (st O : Value)), (W3.heap.size, 2, (st G : Value)), (W3.heap.size, 3, (by8 X : Value))]) (by kernel_rfl) (by kernel_rfl) ⟨by go_grown, Below.refl _ _, ⟨by first | omega | go_size, by first | go_cell | (simp [*]; done), by first | (with_reducible assumption) | (go_simp; done) | (simp [*]; done)⟩, ⟨by first | omega | go_size, by first | go_cell | (simp [*]; done), by first | (with_reducible assumption) | (go_simp; done) | (simp [*]; done)⟩, ⟨by first | omega | go_size, by first | go_cell | (simp [*]; done), by first | (with_reducible assumption) | (go_simp; done) | (simp [*]; done)⟩, ⟨by first | omega | go_size, by first | go_cell | (simp [*]; done), by first | (with_reducible assumption) | (go_simp; done) | (simp [*]; done)⟩, ⟨by first | omega | go_size, by first | go_cell | (simp [*]; done), by first | (with_reducible assumption) | (go_simp; done) | (simp [*]; done)⟩, ⟨by first | omega | go_size, by first | go_cell | (simp [*]; done), by first | (with_reducible assumption) | (go_simp; done) | (simp [*]; done)⟩, ⟨by first | omega | go_size, by first | go_cell | (simp [*]; done), by first | (with_reducible assumption) | (go_simp; done) | (simp [*]; done)⟩, ⟨by first | omega | go_size, by first | go_cell | (simp [*]; done), by first | (with_reducible assumption) | (go_simp; done) | (simp [*]; done)⟩, ⟨by first | omega | go_size, by first | go_cell | (simp [*]; done), by first | (with_reducible assumption) | (go_simp; done) | (simp [*]; done)⟩, ⟨by first | omega | go_size, by first | go_cell | (simp [*]; done), by first | (with_reducible assumption) | (go_simp; done) | (simp [*]; done)⟩, ⟨by first | omega | go_size, by first | go_cell | (simp [*]; done), by first | (with_reducible assumption) | (go_simp; done) | (simp [*]; done)⟩, ⟨by first | omega | go_size, by first | go_cell | (simp [*]; done), by first | (with_reducible assumption) | (go_simp; done) | (simp [*]; done)⟩, trivial⟩ ?_
      repeat (first | go_big_quiet_step ((intro hq; first | rfl | (go_at_call 13; exact Lib.Held.callEq hq (write_to k O G X wd X HX.out HZ.out HXX.out ad cap _ (HR.out.below hq.1)) rfl) | (go_at_call 13; exact Lib.Held.callEq hq (write_zero k O G X HX.out ad cap _ (HR.out.below hq.1)) rfl) | (go_at_call 13; exact Lib.Held.callEq hq (write_zero k O G s HV.out ad cap _ (HR.out.below hq.1)) rfl) | (go_at_call 15; exact Lib.Held.call hq (check_is k O G X 0 HC2.out ad cap _ (HR.out.below hq.1))) | (have hq' := hq; obtain ⟨hbq, heq, ⟨hkq_0, hlq_0, hzq_0⟩, ⟨hkq_1, hlq_1, hzq_1⟩, ⟨hkq_2, hlq_2, hzq_2⟩, ⟨hkq_3, hlq_3, hzq_3⟩, ⟨hkq_4, hlq_4, hzq_4⟩, ⟨hkq_5, hlq_5, hzq_5⟩, ⟨hkq_6, hlq_6, hzq_6⟩, ⟨hkq_7, hlq_7, hzq_7⟩, ⟨hkq_8, hlq_8, hzq_8⟩, ⟨hkq_9, hlq_9, hzq_9⟩, ⟨hkq_10, hlq_10, hzq_10⟩, ⟨hkq_11, hlq_11, hzq_11⟩, _⟩ := hq'; go_simp; rfl))) | quiet_step ((intro hq; first | rfl | (go_at_call 13; exact Lib.Held.callEq hq (write_to k O G X wd X HX.out HZ.out HXX.out ad cap _ (HR.out.below hq.1)) rfl) | (go_at_call 13; exact Lib.Held.callEq hq (write_zero k O G X HX.out ad cap _ (HR.out.below hq.1)) rfl) | (go_at_call 13; exact Lib.Held.callEq hq (write_zero k O G s HV.out ad cap _ (HR.out.below hq.1)) rfl) | (go_at_call 15; exact Lib.Held.call hq (check_is k O G X 0 HC2.out ad cap _ (HR.out.below hq.1))) | (have hq' := hq; obtain ⟨hbq, heq, ⟨hkq_0, hlq_0, hzq_0⟩, ⟨hkq_1, hlq_1, hzq_1⟩, ⟨hkq_2, hlq_2, hzq_2⟩, ⟨hkq_3, hlq_3, hzq_3⟩, ⟨hkq_4, hlq_4, hzq_4⟩, ⟨hkq_5, hlq_5, hzq_5⟩, ⟨hkq_6, hlq_6, hzq_6⟩, ⟨hkq_7, hlq_7, hzq_7⟩, ⟨hkq_8, hlq_8, hzq_8⟩, ⟨hkq_9, hlq_9, hzq_9⟩, ⟨hkq_10, hlq_10, hzq_10⟩, ⟨hkq_11, hlq_11, hzq_11⟩, _⟩ := hq'; go_simp; rfl))))
      refine wpQuiet_nil ?_
      intro W4 hq4
      obtain ⟨hb4, he4, ⟨hk4_0, hl4_0, hz4_0⟩, ⟨hk4_1, hl4_1, hz4_1⟩, ⟨hk4_2, hl4_2, hz4_2⟩, ⟨hk4_3, hl4_3, hz4_3⟩, ⟨hk4_4, hl4_4, hz4_4⟩, ⟨hk4_5, hl4_5, hz4_5⟩, ⟨hk4_6, hl4_6, hz4_6⟩, ⟨hk4_7, hl4_7, hz4_7⟩, ⟨hk4_8, hl4_8, hz4_8⟩, ⟨hk4_9, hl4_9, hz4_9⟩, ⟨hk4_10, hl4_10, hz4_10⟩, ⟨hk4_11, hl4_11, hz4_11⟩, _⟩ := hq4
      have hs4 := he4.size
      try simp only [World.size_alloc, World.size_setCell, World.size_drew] at hs4
      go_wp2_with fail
      go_ret
      exact ⟨rfl, by go_grown⟩

theorem walk (k : Int) (O G : Set64) (s : Byte) (x : Int) (hk : (Lit.int .i64 k).wf = true) (hx : (Lit.int .u8 x).wf = true) (w : World) (hG : Door.Given w) : Calls Tryd.prog 5 #[dev k O G s, .int .u8 x] w (Lib.True1 w.heap.size w) := by
  obtain ⟨wd, rfl⟩ := nb_of (StArgs.in8 hx)
  by_cases h : validB k O G s = true ∧ (wd == 0#8) = false
  · exact walk_on k O G s wd w hG h.1 h.2
  · refine walk_off k O G s wd w hG ?_
    cases h1 : validB k O G s <;> cases h2 : (wd == 0#8) <;> simp_all

set_option maxRecDepth 100000 in
theorem lifted (os : Os) (started : os.Started) (H : Type) (enc : TypeId × Value → H) :
    ReturnsInHanded {} Tryd.checked os 5 .any (fun w args => (Rows.statusStepsSpec.pre enc Tryd.prog Tryd.f5 [] false w args ∧ laidMetH Tryd.prog Door.laidL w) ∧ sizedMet enc Tryd.prog Tryd.f5 (OpenSpec.ofChange Rows.statusStepsSpec) false w args) (Rows.statusStepsSpec.post enc Tryd.prog Tryd.f5 false true false false) := by
  refine LibD.lifted (C := Tryd.checked) (tb := 4) (laid := Door.laidL) H enc Lib.own started (by kernel_rfl) Tryd.func5
    (ChangeSpec.witness_shaped (enc := enc) (C := Tryd.checked) (os := os) (X := fun w _ => laidMetH Tryd.prog Door.laidL w) false (World.doorLaid Tryd.prog 400 os) #[.agg #[.int .i64 0, .int .u64 0, .int .u64 0, .int .u8 0], .int .u8 0] 8 rfl (World.shaped_of_RefB (by kernel_rfl) (by kernel_rfl)) (by kernel_rfl) (by kernel_rfl) (by kernel_rfl) (Door.met os _))
    Lib.laidOut (Lib.readable_of (by kernel_rfl)) rfl Tryd.underlying4 rfl ?_ ?_
  · intro ds h
    match ds, h with
    | [_, _], _ => exact ⟨rfl, rfl, rfl⟩
  · intro W base args ds p hval hA hfz hlt hL
    rw [Tryd.params5] at hval
    have hA' : DataW.TrodAll enc Tryd.prog W 0 (fun _ => true) true Tryd.f5.params.toList args.toList ds p := hA
    rw [Tryd.params5] at hA'
    obtain ⟨v0, vs0, d0, ds0, p0, q0, hargs, rfl, rfl, h0, r0⟩ := trodAll_cons hA'
    obtain ⟨v1, vs1, d1, ds1, p1, q1, rfl, rfl, rfl, h1, r1⟩ := trodAll_cons r0
    obtain ⟨rfl, rfl, rfl⟩ := trodAll_nil r1
    obtain rfl : args = #[v0, v1] := by cases args; simp_all
    obtain ⟨a0_0, a0_1, a0_2, a0_3, rfl, w0⟩ := StArgs.open_dev (hval 0 24 v0 rfl rfl) h0
    obtain ⟨a1, rfl, rfl, rfl, w1⟩ := open_int Tryd.underlying5 (hval 1 5 v1 rfl rfl) h1
    exact walk a0_0 a0_1 a0_2 a0_3 a1 w0 w1 W (Door.given hL)

theorem over : Rows.statusStepsRow.holds Tryd.pinned (OpenSpec.ofChange Rows.statusStepsSpec) :=
  OpenClaim.holds_of_wide 5 Tryd.f5 rfl rfl rfl rfl rfl rfl rfl ⟨rfl, rfl, rfl, rfl, rfl⟩ rfl rfl rfl rfl rfl (by kernel_rfl) Tryd.func5 (by kernel_rfl)
    (of_decide_eq_true (by kernel_rfl)) (by unfold Func.isWrapper; first | (rw [if_pos (by decide +kernel)]; kernel_rfl) | (rw [if_neg (by decide +kernel)]; exact ⟨rfl, rfl⟩))
    (fun os started H enc _ => lifted os started H enc)

/-- The statement. -/
theorem proved : Rows.StatusStepsCardSaid :=
  Claim7.holds_tied_plain_at .later [] Rows.statusStepsCard.laidKinds true Rows.statusStepsCard.stood.harness false
    over (fun _ h => by cases h) (by kernel_rfl) (fun _ h => by cases h) statusSteps_row_tie rfl ⟨rfl, rfl⟩ (by kernel_rfl) rfl
    (fun f fn hf hfn => by
      obtain rfl : f = 5 := Option.some.inj ((show Tryd.prog.funcNamed "dumbwaiter/dumbwaiterlaw07.StatusSteps" = some 5 by kernel_rfl).symm.trans hf) |>.symm
      obtain rfl : fn = Tryd.f5 := (Option.some.inj (Tryd.func5.symm.trans hfn)).symm
      exact ⟨by kernel_rfl, LibD.no_stand (by kernel_rfl)⟩)
    (by kernel_rfl)

end Go.Proofs.YtmmgcmbniidieaaDoor.StatusSteps
