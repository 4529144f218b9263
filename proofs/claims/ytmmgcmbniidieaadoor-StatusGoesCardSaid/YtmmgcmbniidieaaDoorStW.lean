/- Package status: valid, and what a word that is written sets. -/
import Derived.Test.YtmmgcmbniidieaaDoorStV
namespace Go.Proofs.YtmmgcmbniidieaaDoor.St
open Go.RowKit Rw Fe
set_option linter.unusedSimpArgs false
set_option linter.unusedVariables false

set_option maxRecDepth 100000 in
set_option maxHeartbeats 2000000 in
theorem valid_is (k : Int) (O G : Set64) (s : Byte) (v : Bool) (h : validB k O G s = v) (ad : Addr) (cap : Nat) (w : World) (hR : Rules w ad cap) : Calls Tryd.prog 20 #[dev k O G s] w (Gives w.heap.size w (.bool v)) := by
  unfold Gives
  have hb0 : Below w.heap.size w w := Below.refl _ _
  have HR := Lib.hid hR
  clear hR
  cases hz : offersB k O with
  | false =>
    obtain rfl : v = false := by rw [← h]; unfold validB; rw [hz]; rfl
    have HZ := Lib.hid hz
    clear h hz
    go_enter Tryd.func20, Tryd.ntmps20
    go_wp2_with fail
    refine (offers_is k O G s false HZ.out _).mono ?_
    rintro eE W1 ⟨rfl, hg1⟩
    have hb1 : Below w.heap.size w W1 := (show Below w.heap.size w _ by go_grown).trans (hg1.mono (by first | omega | go_size))
    obtain ⟨hc1, hf1⟩ := bcell hg1
    have hs1 := hg1.size
    try simp only [World.size_alloc, World.size_setCell, World.size_drew] at hs1
    have hl1_0_0 : W1.cell? ⟨w.heap.size, 0, none⟩ = some (num k) := (hc1 _ _ (by first | omega | go_size)).trans (by first | (with_reducible assumption) | go_cell)
    have hz1_0_0 : W1.frozen? ⟨w.heap.size, 0, none⟩ = false := (hf1 _ _ (by first | omega | go_size)).trans (by first | (with_reducible assumption) | (go_simp; done) | (simp [*]; done))
    have hl1_0_1 : W1.cell? ⟨w.heap.size, 1, none⟩ = some (st O) := (hc1 _ _ (by first | omega | go_size)).trans (by first | (with_reducible assumption) | go_cell)
    have hz1_0_1 : W1.frozen? ⟨w.heap.size, 1, none⟩ = false := (hf1 _ _ (by first | omega | go_size)).trans (by first | (with_reducible assumption) | (go_simp; done) | (simp [*]; done))
    have hl1_0_2 : W1.cell? ⟨w.heap.size, 2, none⟩ = some (st G) := (hc1 _ _ (by first | omega | go_size)).trans (by first | (with_reducible assumption) | go_cell)
    have hz1_0_2 : W1.frozen? ⟨w.heap.size, 2, none⟩ = false := (hf1 _ _ (by first | omega | go_size)).trans (by first | (with_reducible assumption) | (go_simp; done) | (simp [*]; done))
    have hl1_0_3 : W1.cell? ⟨w.heap.size, 3, none⟩ = some (by8 s) := (hc1 _ _ (by first | omega | go_size)).trans (by first | (with_reducible assumption) | go_cell)
    have hz1_0_3 : W1.frozen? ⟨w.heap.size, 3, none⟩ = false := (hf1 _ _ (by first | omega | go_size)).trans (by first | (with_reducible assumption) | (go_simp; done) | (simp [*]; done))
    have hk1_0 : w.heap.size < W1.heap.size := by omega
    clear hg1 hc1 hf1
    go_wp2_with fail
    go_ret
    exact ⟨rfl, by go_grown⟩
  | true =>
    have e : bits .andNot .u8 (nb s) 207 = nb (s &&& 48#8) := y_andNot s 207#8
    cases hm : maskB s with
    | false =>
      obtain rfl : v = false := by rw [← h]; unfold validB; rw [hz, hm]; rfl
      have HZ := Lib.hid hz
      have c : (nb (s &&& 48#8) == 0) = false := by rw [nb_beq0]; exact hm
      clear h hz hm
      go_enter Tryd.func20, Tryd.ntmps20
      go_wp2_with fail
      refine (offers_is k O G s true HZ.out _).mono ?_
      rintro eE W1 ⟨rfl, hg1⟩
      have hb1 : Below w.heap.size w W1 := (show Below w.heap.size w _ by go_grown).trans (hg1.mono (by first | omega | go_size))
      obtain ⟨hc1, hf1⟩ := bcell hg1
      have hs1 := hg1.size
      try simp only [World.size_alloc, World.size_setCell, World.size_drew] at hs1
      have hl1_0_0 : W1.cell? ⟨w.heap.size, 0, none⟩ = some (num k) := (hc1 _ _ (by first | omega | go_size)).trans (by first | (with_reducible assumption) | go_cell)
      have hz1_0_0 : W1.frozen? ⟨w.heap.size, 0, none⟩ = false := (hf1 _ _ (by first | omega | go_size)).trans (by first | (with_reducible assumption) | (go_simp; done) | (simp [*]; done))
      have hl1_0_1 : W1.cell? ⟨w.heap.size, 1, none⟩ = some (st O) := (hc1 _ _ (by first | omega | go_size)).trans (by first | (with_reducible assumption) | go_cell)
      have hz1_0_1 : W1.frozen? ⟨w.heap.size, 1, none⟩ = false := (hf1 _ _ (by first | omega | go_size)).trans (by first | (with_reducible assumption) | (go_simp; done) | (simp [*]; done))
      have hl1_0_2 : W1.cell? ⟨w.heap.size, 2, none⟩ = some (st G) := (hc1 _ _ (by first | omega | go_size)).trans (by first | (with_reducible assumption) | go_cell)
      have hz1_0_2 : W1.frozen? ⟨w.heap.size, 2, none⟩ = false := (hf1 _ _ (by first | omega | go_size)).trans (by first | (with_reducible assumption) | (go_simp; done) | (simp [*]; done))
      have hl1_0_3 : W1.cell? ⟨w.heap.size, 3, none⟩ = some (by8 s) := (hc1 _ _ (by first | omega | go_size)).trans (by first | (with_reducible assumption) | go_cell)
      have hz1_0_3 : W1.frozen? ⟨w.heap.size, 3, none⟩ = false := (hf1 _ _ (by first | omega | go_size)).trans (by first | (with_reducible assumption) | (go_simp; done) | (simp [*]; done))
      have hk1_0 : w.heap.size < W1.heap.size := by omega
      clear hg1 hc1 hf1
      go_wp2_with fail
      go_ret
      exact ⟨rfl, by go_grown⟩
    | true =>
      obtain rfl : v = allowedB s (acceptB k O G) (G == 0#64) := by rw [← h]; unfold validB; rw [hz, hm]; rfl
      have HZ := Lib.hid hz
      have c : (nb (s &&& 48#8) == 0) = true := by rw [nb_beq0]; exact hm
      clear h hz hm
      go_enter Tryd.func20, Tryd.ntmps20
      go_wp2_with fail
      refine (offers_is k O G s true HZ.out _).mono ?_
      rintro eE W1 ⟨rfl, hg1⟩
      have hb1 : Below w.heap.size w W1 := (show Below w.heap.size w _ by go_grown).trans (hg1.mono (by first | omega | go_size))
      obtain ⟨hc1, hf1⟩ := bcell hg1
      have hs1 := hg1.size
      try simp only [World.size_alloc, World.size_setCell, World.size_drew] at hs1
      have hl1_0_0 : W1.cell? ⟨w.heap.size, 0, none⟩ = some (num k) := (hc1 _ _ (by first | omega | go_size)).trans (by first | (with_reducible assumption) | go_cell)
      have hz1_0_0 : W1.frozen? ⟨w.heap.size, 0, none⟩ = false := (hf1 _ _ (by first | omega | go_size)).trans (by first | (with_reducible assumption) | (go_simp; done) | (simp [*]; done))
      have hl1_0_1 : W1.cell? ⟨w.heap.size, 1, none⟩ = some (st O) := (hc1 _ _ (by first | omega | go_size)).trans (by first | (with_reducible assumption) | go_cell)
      have hz1_0_1 : W1.frozen? ⟨w.heap.size, 1, none⟩ = false := (hf1 _ _ (by first | omega | go_size)).trans (by first | (with_reducible assumption) | (go_simp; done) | (simp [*]; done))
      have hl1_0_2 : W1.cell? ⟨w.heap.size, 2, none⟩ = some (st G) := (hc1 _ _ (by first | omega | go_size)).trans (by first | (with_reducible assumption) | go_cell)
      have hz1_0_2 : W1.frozen? ⟨w.heap.size, 2, none⟩ = false := (hf1 _ _ (by first | omega | go_size)).trans (by first | (with_reducible assumption) | (go_simp; done) | (simp [*]; done))
      have hl1_0_3 : W1.cell? ⟨w.heap.size, 3, none⟩ = some (by8 s) := (hc1 _ _ (by first | omega | go_size)).trans (by first | (with_reducible assumption) | go_cell)
      have hz1_0_3 : W1.frozen? ⟨w.heap.size, 3, none⟩ = false := (hf1 _ _ (by first | omega | go_size)).trans (by first | (with_reducible assumption) | (go_simp; done) | (simp [*]; done))
      have hk1_0 : w.heap.size < W1.heap.size := by omega
      clear hg1 hc1 hf1
      go_wp2_with fail
      refine (allowed_is k O G s _ rfl ad cap _ (HR.out.below (by go_grown))).mono ?_
      rintro eE W2 ⟨rfl, hg2⟩
      have hb2 : Below w.heap.size w W2 := (show Below w.heap.size w _ by go_grown).trans (hg2.mono (by first | omega | go_size))
      obtain ⟨hc2, hf2⟩ := bcell hg2
      have hs2 := hg2.size
      try simp only [World.size_alloc, World.size_setCell, World.size_drew] at hs2
      have hl2_0_0 : W2.cell? ⟨w.heap.size, 0, none⟩ = some (num k) := (hc2 _ _ (by first | omega | go_size)).trans (by first | (with_reducible assumption) | go_cell)
      have hz2_0_0 : W2.frozen? ⟨w.heap.size, 0, none⟩ = false := (hf2 _ _ (by first | omega | go_size)).trans (by first | (with_reducible assumption) | (go_simp; done) | (simp [*]; done))
      have hl2_0_1 : W2.cell? ⟨w.heap.size, 1, none⟩ = some (st O) := (hc2 _ _ (by first | omega | go_size)).trans (by first | (with_reducible assumption) | go_cell)
      have hz2_0_1 : W2.frozen? ⟨w.heap.size, 1, none⟩ = false := (hf2 _ _ (by first | omega | go_size)).trans (by first | (with_reducible assumption) | (go_simp; done) | (simp [*]; done))
      have hl2_0_2 : W2.cell? ⟨w.heap.size, 2, none⟩ = some (st G) := (hc2 _ _ (by first | omega | go_size)).trans (by first | (with_reducible assumption) | go_cell)
      have hz2_0_2 : W2.frozen? ⟨w.heap.size, 2, none⟩ = false := (hf2 _ _ (by first | omega | go_size)).trans (by first | (with_reducible assumption) | (go_simp; done) | (simp [*]; done))
      have hl2_0_3 : W2.cell? ⟨w.heap.size, 3, none⟩ = some (by8 s) := (hc2 _ _ (by first | omega | go_size)).trans (by first | (with_reducible assumption) | go_cell)
      have hz2_0_3 : W2.frozen? ⟨w.heap.size, 3, none⟩ = false := (hf2 _ _ (by first | omega | go_size)).trans (by first | (with_reducible assumption) | (go_simp; done) | (simp [*]; done))
      have hk2_0 : w.heap.size < W2.heap.size := by omega
      clear hg2 hc2 hf2
      go_wp2_with fail
      go_ret
      exact ⟨rfl, by go_grown⟩

set_option maxRecDepth 100000 in
set_option maxHeartbeats 2000000 in
theorem write_no (k : Int) (O G : Set64) (s wd : Byte) (h : validB k O G s = false) (ad : Addr) (cap : Nat) (w : World) (hR : Rules w ad cap) : Calls Tryd.prog 13 #[dev k O G s, by8 wd] w (Gives w.heap.size w (dev k O G s)) := by
  unfold Gives
  have hb0 : Below w.heap.size w w := Below.refl _ _
  have HR := Lib.hid hR
  have HV := Lib.hid h
  clear hR h
  go_enter Tryd.func13, Tryd.ntmps13
  go_wp2_with fail
  refine (valid_is k O G s false HV.out ad cap _ (HR.out.below (by go_grown))).mono ?_
  rintro eE W1 ⟨rfl, hg1⟩
  have hb1 : Below w.heap.size w W1 := (show Below w.heap.size w _ by go_grown).trans (hg1.mono (by first | omega | go_size))
  obtain ⟨hc1, hf1⟩ := bcell hg1
  have hs1 := hg1.size
  try simp only [World.size_alloc, World.size_setCell, World.size_drew] at hs1
  have hl1_0_0 : W1.cell? ⟨w.heap.size, 0, none⟩ = some (num k) := (hc1 _ _ (by first | omega | go_size)).trans (by first | (with_reducible assumption) | go_cell)
  have hz1_0_0 : W1.frozen? ⟨w.heap.size, 0, none⟩ = false := (hf1 _ _ (by first | omega | go_size)).trans (by first | (with_reducible assumption) | (go_simp; done) | (simp [*]; done))
  have hl1_0_1 : W1.cell? ⟨w.heap.size, 1, none⟩ = some (st O) := (hc1 _ _ (by first | omega | go_size)).trans (by first | (with_reducible assumption) | go_cell)
  have hz1_0_1 : W1.frozen? ⟨w.heap.size, 1, none⟩ = false := (hf1 _ _ (by first | omega | go_size)).trans (by first | (with_reducible assumption) | (go_simp; done) | (simp [*]; done))
  have hl1_0_2 : W1.cell? ⟨w.heap.size, 2, none⟩ = some (st G) := (hc1 _ _ (by first | omega | go_size)).trans (by first | (with_reducible assumption) | go_cell)
  have hz1_0_2 : W1.frozen? ⟨w.heap.size, 2, none⟩ = false := (hf1 _ _ (by first | omega | go_size)).trans (by first | (with_reducible assumption) | (go_simp; done) | (simp [*]; done))
  have hl1_0_3 : W1.cell? ⟨w.heap.size, 3, none⟩ = some (by8 s) := (hc1 _ _ (by first | omega | go_size)).trans (by first | (with_reducible assumption) | go_cell)
  have hz1_0_3 : W1.frozen? ⟨w.heap.size, 3, none⟩ = false := (hf1 _ _ (by first | omega | go_size)).trans (by first | (with_reducible assumption) | (go_simp; done) | (simp [*]; done))
  have hk1_0 : w.heap.size < W1.heap.size := by omega
  have hl1_1_0 : W1.cell? ⟨w.heap.size + 1, 0, none⟩ = some (.int .i64 0) := (hc1 _ _ (by first | omega | go_size)).trans (by first | (with_reducible assumption) | go_cell)
  have hz1_1_0 : W1.frozen? ⟨w.heap.size + 1, 0, none⟩ = false := (hf1 _ _ (by first | omega | go_size)).trans (by first | (with_reducible assumption) | (go_simp; done) | (simp [*]; done))
  have hl1_1_1 : W1.cell? ⟨w.heap.size + 1, 1, none⟩ = some (.int .u64 0) := (hc1 _ _ (by first | omega | go_size)).trans (by first | (with_reducible assumption) | go_cell)
  have hz1_1_1 : W1.frozen? ⟨w.heap.size + 1, 1, none⟩ = false := (hf1 _ _ (by first | omega | go_size)).trans (by first | (with_reducible assumption) | (go_simp; done) | (simp [*]; done))
  have hl1_1_2 : W1.cell? ⟨w.heap.size + 1, 2, none⟩ = some (.int .u64 0) := (hc1 _ _ (by first | omega | go_size)).trans (by first | (with_reducible assumption) | go_cell)
  have hz1_1_2 : W1.frozen? ⟨w.heap.size + 1, 2, none⟩ = false := (hf1 _ _ (by first | omega | go_size)).trans (by first | (with_reducible assumption) | (go_simp; done) | (simp [*]; done))
  have hl1_1_3 : W1.cell? ⟨w.heap.size + 1, 3, none⟩ = some (.int .u8 0) := (hc1 _ _ (by first | omega | go_size)).trans (by first | (with_reducible assumption) | go_cell)
  have hz1_1_3 : W1.frozen? ⟨w.heap.size + 1, 3, none⟩ = false := (hf1 _ _ (by first | omega | go_size)).trans (by first | (with_reducible assumption) | (go_simp; done) | (simp [*]; done))
  have hk1_1 : w.heap.size + 1 < W1.heap.size := by omega
  clear hg1 hc1 hf1
  go_wp2_with fail
  have hB2 : Below w.heap.size w (((((W1).setCell ⟨w.heap.size + 1, 0, none⟩ (num k)).setCell ⟨w.heap.size + 1, 1, none⟩ (st O)).setCell ⟨w.heap.size + 1, 2, none⟩ (st G)).setCell ⟨w.heap.size + 1, 3, none⟩ (by8 s)) := by go_grown
  generalize hG2 : ((((W1).setCell ⟨w.heap.size + 1, 0, none⟩ (num k)).setCell ⟨w.heap.size + 1, 1, none⟩ (st O)).setCell ⟨w.heap.size + 1, 2, none⟩ (st G)).setCell ⟨w.heap.size + 1, 3, none⟩ (by8 s) = WG2 at hB2 ⊢
  have hR2 := Lib.set_row (W := W1) (b := w.heap.size + 1) [num k, st O, st G, by8 s] (by simp only [Lib.HasRow, Nat.zero_add, Nat.reduceAdd, and_true]; exact ⟨⟨_, by first | (with_reducible assumption) | go_cell | (simp [*]; done)⟩, ⟨_, by first | (with_reducible assumption) | go_cell | (simp [*]; done)⟩, ⟨_, by first | (with_reducible assumption) | go_cell | (simp [*]; done)⟩, ⟨_, by first | (with_reducible assumption) | go_cell | (simp [*]; done)⟩⟩) hG2
  clear hG2
  simp only [Lib.RowAt, Nat.zero_add, Nat.reduceAdd, and_true] at hR2
  obtain ⟨qr0, qr1, qr2, qr3⟩ := hR2
  exact bodyPost_ret (v := dev k O G s) (by simp [results, Tryd.results13, go_sem, qr0, qr1, qr2, qr3]) rfl ⟨rfl, hB2⟩
set_option maxRecDepth 100000 in
set_option maxHeartbeats 2000000 in
theorem write_zero (k : Int) (O G : Set64) (s : Byte) (h : validB k O G s = true) (ad : Addr) (cap : Nat) (w : World) (hR : Rules w ad cap) : Calls Tryd.prog 13 #[dev k O G s, by8 0#8] w (Gives w.heap.size w (dev k O 0#64 0#8)) := by
  unfold Gives
  have hb0 : Below w.heap.size w w := Below.refl _ _
  have HR := Lib.hid hR
  have HV := Lib.hid h
  have c : (nb 0#8 == 0) = true := rfl
  clear hR h
  go_enter Tryd.func13, Tryd.ntmps13
  go_wp2_with fail
  refine (valid_is k O G s true HV.out ad cap _ (HR.out.below (by go_grown))).mono ?_
  rintro eE W1 ⟨rfl, hg1⟩
  have hb1 : Below w.heap.size w W1 := (show Below w.heap.size w _ by go_grown).trans (hg1.mono (by first | omega | go_size))
  obtain ⟨hc1, hf1⟩ := bcell hg1
  have hs1 := hg1.size
  try simp only [World.size_alloc, World.size_setCell, World.size_drew] at hs1
  have hl1_0_0 : W1.cell? ⟨w.heap.size, 0, none⟩ = some (num k) := (hc1 _ _ (by first | omega | go_size)).trans (by first | (with_reducible assumption) | go_cell)
  have hz1_0_0 : W1.frozen? ⟨w.heap.size, 0, none⟩ = false := (hf1 _ _ (by first | omega | go_size)).trans (by first | (with_reducible assumption) | (go_simp; done) | (simp [*]; done))
  have hl1_0_1 : W1.cell? ⟨w.heap.size, 1, none⟩ = some (st O) := (hc1 _ _ (by first | omega | go_size)).trans (by first | (with_reducible assumption) | go_cell)
  have hz1_0_1 : W1.frozen? ⟨w.heap.size, 1, none⟩ = false := (hf1 _ _ (by first | omega | go_size)).trans (by first | (with_reducible assumption) | (go_simp; done) | (simp [*]; done))
  have hl1_0_2 : W1.cell? ⟨w.heap.size, 2, none⟩ = some (st G) := (hc1 _ _ (by first | omega | go_size)).trans (by first | (with_reducible assumption) | go_cell)
  have hz1_0_2 : W1.frozen? ⟨w.heap.size, 2, none⟩ = false := (hf1 _ _ (by first | omega | go_size)).trans (by first | (with_reducible assumption) | (go_simp; done) | (simp [*]; done))
  have hl1_0_3 : W1.cell? ⟨w.heap.size, 3, none⟩ = some (by8 s) := (hc1 _ _ (by first | omega | go_size)).trans (by first | (with_reducible assumption) | go_cell)
  have hz1_0_3 : W1.frozen? ⟨w.heap.size, 3, none⟩ = false := (hf1 _ _ (by first | omega | go_size)).trans (by first | (with_reducible assumption) | (go_simp; done) | (simp [*]; done))
  have hk1_0 : w.heap.size < W1.heap.size := by omega
  have hl1_1_0 : W1.cell? ⟨w.heap.size + 1, 0, none⟩ = some (.int .i64 0) := (hc1 _ _ (by first | omega | go_size)).trans (by first | (with_reducible assumption) | go_cell)
  have hz1_1_0 : W1.frozen? ⟨w.heap.size + 1, 0, none⟩ = false := (hf1 _ _ (by first | omega | go_size)).trans (by first | (with_reducible assumption) | (go_simp; done) | (simp [*]; done))
  have hl1_1_1 : W1.cell? ⟨w.heap.size + 1, 1, none⟩ = some (.int .u64 0) := (hc1 _ _ (by first | omega | go_size)).trans (by first | (with_reducible assumption) | go_cell)
  have hz1_1_1 : W1.frozen? ⟨w.heap.size + 1, 1, none⟩ = false := (hf1 _ _ (by first | omega | go_size)).trans (by first | (with_reducible assumption) | (go_simp; done) | (simp [*]; done))
  have hl1_1_2 : W1.cell? ⟨w.heap.size + 1, 2, none⟩ = some (.int .u64 0) := (hc1 _ _ (by first | omega | go_size)).trans (by first | (with_reducible assumption) | go_cell)
  have hz1_1_2 : W1.frozen? ⟨w.heap.size + 1, 2, none⟩ = false := (hf1 _ _ (by first | omega | go_size)).trans (by first | (with_reducible assumption) | (go_simp; done) | (simp [*]; done))
  have hl1_1_3 : W1.cell? ⟨w.heap.size + 1, 3, none⟩ = some (.int .u8 0) := (hc1 _ _ (by first | omega | go_size)).trans (by first | (with_reducible assumption) | go_cell)
  have hz1_1_3 : W1.frozen? ⟨w.heap.size + 1, 3, none⟩ = false := (hf1 _ _ (by first | omega | go_size)).trans (by first | (with_reducible assumption) | (go_simp; done) | (simp [*]; done))
  have hk1_1 : w.heap.size + 1 < W1.heap.size := by omega
  clear hg1 hc1 hf1
  go_wp2_with fail
  have hB2 : Below w.heap.size w (((((W1).setCell ⟨w.heap.size + 1, 0, none⟩ (num k)).setCell ⟨w.heap.size + 1, 1, none⟩ (st O)).setCell ⟨w.heap.size + 1, 2, none⟩ (.int .u64 0)).setCell ⟨w.heap.size + 1, 3, none⟩ (.int .u8 0)) := by go_grown
  generalize hG2 : ((((W1).setCell ⟨w.heap.size + 1, 0, none⟩ (num k)).setCell ⟨w.heap.size + 1, 1, none⟩ (st O)).setCell ⟨w.heap.size + 1, 2, none⟩ (.int .u64 0)).setCell ⟨w.heap.size + 1, 3, none⟩ (.int .u8 0) = WG2 at hB2 ⊢
  have hR2 := Lib.set_row (W := W1) (b := w.heap.size + 1) [num k, st O, .int .u64 0, .int .u8 0] (by simp only [Lib.HasRow, Nat.zero_add, Nat.reduceAdd, and_true]; exact ⟨⟨_, by first | (with_reducible assumption) | go_cell | (simp [*]; done)⟩, ⟨_, by first | (with_reducible assumption) | go_cell | (simp [*]; done)⟩, ⟨_, by first | (with_reducible assumption) | go_cell | (simp [*]; done)⟩, ⟨_, by first | (with_reducible assumption) | go_cell | (simp [*]; done)⟩⟩) hG2
  clear hG2
  simp only [Lib.RowAt, Nat.zero_add, Nat.reduceAdd, and_true] at hR2
  obtain ⟨qr0, qr1, qr2, qr3⟩ := hR2
  exact bodyPost_ret (v := .agg #[num k, st O, .int .u64 0, .int .u8 0]) (by simp [results, Tryd.results13, go_sem, qr0, qr1, qr2, qr3]) rfl ⟨rfl, hB2⟩

theorem kept_dev {W W1 wr : World} {b b0 : Nat} {k : Int} {O G : Set64} {s : Byte} (h : DevAt W1 b k O G s) (hg : W1.grownBy wr (some b0)) (hb : b < W1.heap.size) (hne : b ≠ b0) : DevAt wr b k O G s := by
  obtain ⟨⟨c0, c1, c2, c3⟩, f0, f1, f2, f3⟩ := h
  have q : wr.heap[b]? = W1.heap[b]? := hg.block b hb (fun e => hne (by injection e))
  exact ⟨⟨(World.cell?_of_block (a := ⟨b, 0, none⟩) q).trans c0, (World.cell?_of_block (a := ⟨b, 1, none⟩) q).trans c1, (World.cell?_of_block (a := ⟨b, 2, none⟩) q).trans c2, (World.cell?_of_block (a := ⟨b, 3, none⟩) q).trans c3⟩,
    (World.frozen?_of_block (a := ⟨b, 0, none⟩) q).trans f0, (World.frozen?_of_block (a := ⟨b, 1, none⟩) q).trans f1, (World.frozen?_of_block (a := ⟨b, 2, none⟩) q).trans f2, (World.frozen?_of_block (a := ⟨b, 3, none⟩) q).trans f3⟩
theorem kept_wr {W1 wr : World} {b b0 : Nat} (h : WrAt W1 b) (hg : W1.grownBy wr (some b0)) (hne : b ≠ b0) : WrAt wr b :=
  ⟨Nat.lt_of_lt_of_le h.lt hg.size, fun j hj => (World.cell?_of_block (a := ⟨b, j, none⟩) (hg.block b h.lt (fun e => hne (by injection e)))).trans (h.cell j hj)⟩

end Go.Proofs.YtmmgcmbniidieaaDoor.St
