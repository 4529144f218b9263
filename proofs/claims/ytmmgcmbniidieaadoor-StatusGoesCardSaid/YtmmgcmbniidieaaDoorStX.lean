/- Package status: what a word that is written sets. -/
import Derived.Test.YtmmgcmbniidieaaDoorStW
namespace Go.Proofs.YtmmgcmbniidieaaDoor.St
open Go.RowKit Rw Fe
set_option linter.unusedSimpArgs false
set_option linter.unusedVariables false

set_option maxRecDepth 100000 in
set_option maxHeartbeats 4000000 in
theorem write_set (k : Int) (O G : Set64) (s wd : Byte) (h : validB k O G s = true) (hw : (wd == 0#8) = false) (ad : Addr) (cap : Nat) (w : World) (hR : Rules w ad cap) : Calls Tryd.prog 13 #[dev k O G s, by8 wd] w (Gives w.heap.size w (dev k O G (setTo s wd (acceptB k O G) 5))) := by
  unfold Gives
  have hb0 : Below w.heap.size w w := Below.refl _ _
  have HR := Lib.hid hR
  have HV := Lib.hid h
  have c : (nb wd == 0) = false := by rw [nb_beq0]; exact hw
  clear hR h hw
  generalize ha : acceptB k O G = a
  have HA := Lib.hid ha
  clear ha
  go_enter Tryd.func13, Tryd.ntmps13
  go_wp2_with fail
  refine (valid_is k O G s true HV.out ad cap _ (HR.out.below (by go_grown))).mono ?_
  rintro eE W0 ⟨rfl, hg0⟩
  have hb0 : Below w.heap.size w W0 := (show Below w.heap.size w _ by go_grown).trans (hg0.mono (by first | omega | go_size))
  obtain ⟨hc0, hf0⟩ := bcell hg0
  have hs0 := hg0.size
  try simp only [World.size_alloc, World.size_setCell, World.size_drew] at hs0
  have hl0_0_0 : W0.cell? ⟨w.heap.size, 0, none⟩ = some (num k) := (hc0 _ _ (by first | omega | go_size)).trans (by first | (with_reducible assumption) | go_cell)
  have hz0_0_0 : W0.frozen? ⟨w.heap.size, 0, none⟩ = false := (hf0 _ _ (by first | omega | go_size)).trans (by first | (with_reducible assumption) | (go_simp; done) | (simp [*]; done))
  have hl0_0_1 : W0.cell? ⟨w.heap.size, 1, none⟩ = some (st O) := (hc0 _ _ (by first | omega | go_size)).trans (by first | (with_reducible assumption) | go_cell)
  have hz0_0_1 : W0.frozen? ⟨w.heap.size, 1, none⟩ = false := (hf0 _ _ (by first | omega | go_size)).trans (by first | (with_reducible assumption) | (go_simp; done) | (simp [*]; done))
  have hl0_0_2 : W0.cell? ⟨w.heap.size, 2, none⟩ = some (st G) := (hc0 _ _ (by first | omega | go_size)).trans (by first | (with_reducible assumption) | go_cell)
  have hz0_0_2 : W0.frozen? ⟨w.heap.size, 2, none⟩ = false := (hf0 _ _ (by first | omega | go_size)).trans (by first | (with_reducible assumption) | (go_simp; done) | (simp [*]; done))
  have hl0_0_3 : W0.cell? ⟨w.heap.size, 3, none⟩ = some (by8 s) := (hc0 _ _ (by first | omega | go_size)).trans (by first | (with_reducible assumption) | go_cell)
  have hz0_0_3 : W0.frozen? ⟨w.heap.size, 3, none⟩ = false := (hf0 _ _ (by first | omega | go_size)).trans (by first | (with_reducible assumption) | (go_simp; done) | (simp [*]; done))
  have hk0_0 : w.heap.size < W0.heap.size := by omega
  have hl0_1_0 : W0.cell? ⟨w.heap.size + 1, 0, none⟩ = some (.int .i64 0) := (hc0 _ _ (by first | omega | go_size)).trans (by first | (with_reducible assumption) | go_cell)
  have hz0_1_0 : W0.frozen? ⟨w.heap.size + 1, 0, none⟩ = false := (hf0 _ _ (by first | omega | go_size)).trans (by first | (with_reducible assumption) | (go_simp; done) | (simp [*]; done))
  have hl0_1_1 : W0.cell? ⟨w.heap.size + 1, 1, none⟩ = some (.int .u64 0) := (hc0 _ _ (by first | omega | go_size)).trans (by first | (with_reducible assumption) | go_cell)
  have hz0_1_1 : W0.frozen? ⟨w.heap.size + 1, 1, none⟩ = false := (hf0 _ _ (by first | omega | go_size)).trans (by first | (with_reducible assumption) | (go_simp; done) | (simp [*]; done))
  have hl0_1_2 : W0.cell? ⟨w.heap.size + 1, 2, none⟩ = some (.int .u64 0) := (hc0 _ _ (by first | omega | go_size)).trans (by first | (with_reducible assumption) | go_cell)
  have hz0_1_2 : W0.frozen? ⟨w.heap.size + 1, 2, none⟩ = false := (hf0 _ _ (by first | omega | go_size)).trans (by first | (with_reducible assumption) | (go_simp; done) | (simp [*]; done))
  have hl0_1_3 : W0.cell? ⟨w.heap.size + 1, 3, none⟩ = some (.int .u8 0) := (hc0 _ _ (by first | omega | go_size)).trans (by first | (with_reducible assumption) | go_cell)
  have hz0_1_3 : W0.frozen? ⟨w.heap.size + 1, 3, none⟩ = false := (hf0 _ _ (by first | omega | go_size)).trans (by first | (with_reducible assumption) | (go_simp; done) | (simp [*]; done))
  have hk0_1 : w.heap.size + 1 < W0.heap.size := by omega
  clear hg0 hc0 hf0
  go_wp2_with fail
  clear c
  refine (written_is _).mono ?_
  rintro e W1 ⟨b, rfl, hbl, hW, hg1⟩
  have HW := Lib.hid hW
  try simp only [World.size_alloc, World.size_setCell, World.size_drew] at hbl
  clear hW
  have hb1 : Below w.heap.size w W1 := (show Below w.heap.size w _ by go_grown).trans (hg1.mono (by first | omega | go_size))
  obtain ⟨hc1, hf1⟩ := bcell hg1
  have hs1 := hg1.size
  try simp only [World.size_alloc, World.size_setCell, World.size_drew] at hs1
  have hl1_0_0 : W1.cell? ⟨w.heap.size, 0, none⟩ = some (num k) := (hc1 _ _ (by first | omega | go_size)).trans (by first | (with_reducible assumption) | go_cell)
  have hz1_0_0 : W1.frozen? ⟨w.heap.size, 0, none⟩ = false := (hf1 _ _ (by first | omega | go_size)).trans (by first | (with_reducible assumption) | (go_simp; done) | (simp [*]; done))
  have hl1_0_1 : W1.cell? ⟨w.heap.size, 1, none⟩ = some (st O) := (hc1 _ _ (by first | omega | go_size)).trans (by first | (with_reducible assumption) | go_cell)
  have hz1_0_1 : W1.frozen? ⟨w.heap.size, 1, none⟩ = false := (hf1 _ _ (by first | omega | go_size)).trans (by first | (with_reducible assumption) | (go_simp; done) | (simp [*]; done))
  have hl1_0_2 : W1.cell? ⟨w.heap.size, 2, none⟩ = some (st G) := (hc1 _ _ (by first | omega | go_size)).trans (by first | (with_reducible assumption) | go_cell)
  have hz1_0_2 : W1.frozen? ⟨w.heap.size, 2, none⟩ = false := (hf1 _ _ (by first | omega | go_size)).trans (by first | (with_reducible assumption) | (go_simp; done) | (simp [*]; done))
  have hl1_0_3 : W1.cell? ⟨w.heap.size, 3, none⟩ = some (by8 s) := (hc1 _ _ (by first | omega | go_size)).trans (by first | (with_reducible assumption) | go_cell)
  have hz1_0_3 : W1.frozen? ⟨w.heap.size, 3, none⟩ = false := (hf1 _ _ (by first | omega | go_size)).trans (by first | (with_reducible assumption) | (go_simp; done) | (simp [*]; done))
  have hk1_0 : w.heap.size < W1.heap.size := by omega
  have hl1_1_0 : W1.cell? ⟨w.heap.size + 1, 0, none⟩ = some (.int .i64 0) := (hc1 _ _ (by first | omega | go_size)).trans (by first | (with_reducible assumption) | go_cell)
  have hz1_1_0 : W1.frozen? ⟨w.heap.size + 1, 0, none⟩ = false := (hf1 _ _ (by first | omega | go_size)).trans (by first | (with_reducible assumption) | (go_simp; done) | (simp [*]; done))
  have hl1_1_1 : W1.cell? ⟨w.heap.size + 1, 1, none⟩ = some (.int .u64 0) := (hc1 _ _ (by first | omega | go_size)).trans (by first | (with_reducible assumption) | go_cell)
  have hz1_1_1 : W1.frozen? ⟨w.heap.size + 1, 1, none⟩ = false := (hf1 _ _ (by first | omega | go_size)).trans (by first | (with_reducible assumption) | (go_simp; done) | (simp [*]; done))
  have hl1_1_2 : W1.cell? ⟨w.heap.size + 1, 2, none⟩ = some (.int .u64 0) := (hc1 _ _ (by first | omega | go_size)).trans (by first | (with_reducible assumption) | go_cell)
  have hz1_1_2 : W1.frozen? ⟨w.heap.size + 1, 2, none⟩ = false := (hf1 _ _ (by first | omega | go_size)).trans (by first | (with_reducible assumption) | (go_simp; done) | (simp [*]; done))
  have hl1_1_3 : W1.cell? ⟨w.heap.size + 1, 3, none⟩ = some (.int .u8 0) := (hc1 _ _ (by first | omega | go_size)).trans (by first | (with_reducible assumption) | go_cell)
  have hz1_1_3 : W1.frozen? ⟨w.heap.size + 1, 3, none⟩ = false := (hf1 _ _ (by first | omega | go_size)).trans (by first | (with_reducible assumption) | (go_simp; done) | (simp [*]; done))
  have hk1_1 : w.heap.size + 1 < W1.heap.size := by omega
  clear hg1 hc1 hf1
  go_wp2_with fail
  have HR1 := Lib.hid (HR.out.below hb1)
  have HD1 := Lib.hid (show DevAt W1 (w.heap.size + 1) 0 0#64 0#64 0#8 from ⟨⟨hl1_1_0, hl1_1_1, hl1_1_2, hl1_1_3⟩, hz1_1_0, hz1_1_1, hz1_1_2, hz1_1_3⟩)
  go_loopw [20] (fun i wr => ∃ j : Nat, j ≤ 5 ∧ i = num j ∧ W1.grownBy wr (some w.heap.size) ∧ DevAt wr w.heap.size k O G (setTo s wd a j)) (fun i wr => 5 - (intOf i).toNat)
  case atStart => exact ⟨0, by omega, rfl, World.grownBy.refl _ _, ⟨⟨hl1_0_0, hl1_0_1, hl1_0_2, hl1_0_3⟩, hz1_0_0, hz1_0_1, hz1_0_2, hz1_0_3⟩⟩
  case round =>
    obtain ⟨j, hj, rfl, hgr, hdev⟩ := hrel
    have hsz := hgr.size
    have hbw : Below w.heap.size w wr := below_only hb1 hgr (by omega) (by omega)
    have hww := Lib.hid (kept_wr HW.out hgr (by omega))
    obtain ⟨⟨m0, m1, m2, m3⟩, n0, n1, n2, n3⟩ := hdev
    have hk0 : w.heap.size < wr.heap.size := by omega
    have HG := Lib.hid hgr
    clear hl0_0_0 hl0_0_1 hl0_0_2 hl0_0_3 hz0_0_0 hz0_0_1 hz0_0_2 hz0_0_3 hl0_1_0 hl0_1_1 hl0_1_2 hl0_1_3 hz0_1_0 hz0_1_1 hz0_1_2 hz0_1_3
    clear hl1_0_0 hl1_0_1 hl1_0_2 hl1_0_3 hz1_0_0 hz1_0_1 hz1_0_2 hz1_0_3 hl1_1_0 hl1_1_1 hl1_1_2 hl1_1_3 hz1_1_0 hz1_1_1 hz1_1_2 hz1_1_3
    by_cases h5 : j < 5
    · clear hj
      clear hgr
      have HR2 := Lib.hid (HR.out.below hbw)
      clear HR1
      have HR1 := HR2
      clear HR2
      have HM3 := Lib.hid m3
      clear m3
      match j, h5, HM3 with
      | 0, _, HM4 =>
        have m3 := HM4.out
        clear HM4 HM3
        generalize hT : setTo s wd a 0 = T at m3
        have c0 : wr.cell? ⟨b, 0, none⟩ = some (by8 1#8) := hww.out.cell 0 (by decide)
        have c1 : wr.cell? ⟨b, 1, none⟩ = some (.func (.func 35) #[] #[]) := hww.out.cell 1 (by decide)
        have e := y_and wd 1#8
        have c2 : (nb (wd &&& 1#8) != 0) = hasb wd 1#8 := by rw [bne, nb_beq0]; rfl
        cases hh : hasb wd 1#8 with
        | false =>
          have HH := Lib.hid hh
          rw [hh] at c2
          clear hh
          go_wp2_with fail
          go_roundw
          case rel =>
            refine ⟨1, by omega, by go_num, only_trans HG.out (only_of_below (show Below wr.heap.size wr _ by go_grown) _), ?_⟩
            have hS : setTo s wd a 1 = T := by unfold setTo; rw [hT, show hasb wd (bitOf 0) = false from HH.out]; rfl
            rw [hS]
            exact ⟨⟨by go_cell, by go_cell, by go_cell, by go_cell⟩, by first | (go_simp; done) | (simp [*]; done), by first | (go_simp; done) | (simp [*]; done), by first | (go_simp; done) | (simp [*]; done), by first | (go_simp; done) | (simp [*]; done)⟩
          case measure => simp [intOf]
        | true =>
          have HH := Lib.hid hh
          rw [hh] at c2
          clear hh
          go_wp2_with fail
          refine (may0 k O G T _).mono ?_
          rintro eE W2 ⟨rfl, hg2⟩
          have hb2 : Below wr.heap.size wr W2 := (show Below wr.heap.size wr _ by go_grown).trans (hg2.mono (by first | omega | go_size))
          obtain ⟨hc2, hf2⟩ := bcell hg2
          have hs2 := hg2.size
          try simp only [World.size_alloc, World.size_setCell, World.size_drew] at hs2
          have hl2_0_0 : W2.cell? ⟨w.heap.size, 0, none⟩ = some (num k) := (hc2 _ _ (by first | omega | go_size)).trans (by first | (with_reducible assumption) | go_cell)
          have hz2_0_0 : W2.frozen? ⟨w.heap.size, 0, none⟩ = false := (hf2 _ _ (by first | omega | go_size)).trans (by first | (with_reducible assumption) | (go_simp; done) | (simp [*]; done))
          have hl2_0_1 : W2.cell? ⟨w.heap.size, 1, none⟩ = some (st O) := (hc2 _ _ (by first | omega | go_size)).trans (by first | (with_reducible assumption) | go_cell)
          have hz2_0_1 : W2.frozen? ⟨w.heap.size, 1, none⟩ = false := (hf2 _ _ (by first | omega | go_size)).trans (by first | (with_reducible assumption) | (go_simp; done) | (simp [*]; done))
          have hl2_0_2 : W2.cell? ⟨w.heap.size, 2, none⟩ = some (st G) := (hc2 _ _ (by first | omega | go_size)).trans (by first | (with_reducible assumption) | go_cell)
          have hz2_0_2 : W2.frozen? ⟨w.heap.size, 2, none⟩ = false := (hf2 _ _ (by first | omega | go_size)).trans (by first | (with_reducible assumption) | (go_simp; done) | (simp [*]; done))
          have hl2_0_3 : W2.cell? ⟨w.heap.size, 3, none⟩ = some (by8 T) := (hc2 _ _ (by first | omega | go_size)).trans (by first | (with_reducible assumption) | go_cell)
          have hz2_0_3 : W2.frozen? ⟨w.heap.size, 3, none⟩ = false := (hf2 _ _ (by first | omega | go_size)).trans (by first | (with_reducible assumption) | (go_simp; done) | (simp [*]; done))
          have hk2_0 : w.heap.size < W2.heap.size := by omega
          have hl2_1_0 : W2.cell? ⟨wr.heap.size, 0, none⟩ = some (by8 1#8) := (hc2 _ _ (by first | omega | go_size)).trans (by first | (with_reducible assumption) | go_cell)
          have hz2_1_0 : W2.frozen? ⟨wr.heap.size, 0, none⟩ = false := (hf2 _ _ (by first | omega | go_size)).trans (by first | (with_reducible assumption) | (go_simp; done) | (simp [*]; done))
          have hl2_1_1 : W2.cell? ⟨wr.heap.size, 1, none⟩ = some (.func (.func 35) #[] #[]) := (hc2 _ _ (by first | omega | go_size)).trans (by first | (with_reducible assumption) | go_cell)
          have hz2_1_1 : W2.frozen? ⟨wr.heap.size, 1, none⟩ = false := (hf2 _ _ (by first | omega | go_size)).trans (by first | (with_reducible assumption) | (go_simp; done) | (simp [*]; done))
          have hk2_1 : wr.heap.size < W2.heap.size := by omega
          clear hg2 hc2 hf2
          go_wp2_with fail
          refine (with_is k O G T 1#8 _).mono ?_
          rintro eE W3 ⟨rfl, hg3⟩
          have hb3 : Below wr.heap.size wr W3 := (show Below wr.heap.size wr _ by go_grown).trans (hg3.mono (by first | omega | go_size))
          obtain ⟨hc3, hf3⟩ := bcell hg3
          have hs3 := hg3.size
          try simp only [World.size_alloc, World.size_setCell, World.size_drew] at hs3
          have hl3_0_0 : W3.cell? ⟨w.heap.size, 0, none⟩ = some (num k) := (hc3 _ _ (by first | omega | go_size)).trans (by first | (with_reducible assumption) | go_cell)
          have hz3_0_0 : W3.frozen? ⟨w.heap.size, 0, none⟩ = false := (hf3 _ _ (by first | omega | go_size)).trans (by first | (with_reducible assumption) | (go_simp; done) | (simp [*]; done))
          have hl3_0_1 : W3.cell? ⟨w.heap.size, 1, none⟩ = some (st O) := (hc3 _ _ (by first | omega | go_size)).trans (by first | (with_reducible assumption) | go_cell)
          have hz3_0_1 : W3.frozen? ⟨w.heap.size, 1, none⟩ = false := (hf3 _ _ (by first | omega | go_size)).trans (by first | (with_reducible assumption) | (go_simp; done) | (simp [*]; done))
          have hl3_0_2 : W3.cell? ⟨w.heap.size, 2, none⟩ = some (st G) := (hc3 _ _ (by first | omega | go_size)).trans (by first | (with_reducible assumption) | go_cell)
          have hz3_0_2 : W3.frozen? ⟨w.heap.size, 2, none⟩ = false := (hf3 _ _ (by first | omega | go_size)).trans (by first | (with_reducible assumption) | (go_simp; done) | (simp [*]; done))
          have hl3_0_3 : W3.cell? ⟨w.heap.size, 3, none⟩ = some (by8 T) := (hc3 _ _ (by first | omega | go_size)).trans (by first | (with_reducible assumption) | go_cell)
          have hz3_0_3 : W3.frozen? ⟨w.heap.size, 3, none⟩ = false := (hf3 _ _ (by first | omega | go_size)).trans (by first | (with_reducible assumption) | (go_simp; done) | (simp [*]; done))
          have hk3_0 : w.heap.size < W3.heap.size := by omega
          have hl3_1_0 : W3.cell? ⟨wr.heap.size, 0, none⟩ = some (by8 1#8) := (hc3 _ _ (by first | omega | go_size)).trans (by first | (with_reducible assumption) | go_cell)
          have hz3_1_0 : W3.frozen? ⟨wr.heap.size, 0, none⟩ = false := (hf3 _ _ (by first | omega | go_size)).trans (by first | (with_reducible assumption) | (go_simp; done) | (simp [*]; done))
          have hl3_1_1 : W3.cell? ⟨wr.heap.size, 1, none⟩ = some (.func (.func 35) #[] #[]) := (hc3 _ _ (by first | omega | go_size)).trans (by first | (with_reducible assumption) | go_cell)
          have hz3_1_1 : W3.frozen? ⟨wr.heap.size, 1, none⟩ = false := (hf3 _ _ (by first | omega | go_size)).trans (by first | (with_reducible assumption) | (go_simp; done) | (simp [*]; done))
          have hk3_1 : wr.heap.size < W3.heap.size := by omega
          clear hg3 hc3 hf3
          go_wp2_with fail
          go_roundw
          case rel =>
            refine ⟨1, by omega, by go_num, only_setCell (only_setCell (only_setCell (only_setCell (only_trans HG.out (only_of_below hb3 _)) (.inl rfl) _) (.inl rfl) _) (.inl rfl) _) (.inl rfl) _, ?_⟩
            have hS : setTo s wd a 1 = T ||| 1#8 := by unfold setTo; rw [hT, show hasb wd (bitOf 0) = true from HH.out, show mayB 0 T a = true from rfl]; rfl
            rw [hS]
            exact ⟨⟨by go_cell, by go_cell, by go_cell, by go_cell⟩, by first | (go_simp; done) | (simp [*]; done), by first | (go_simp; done) | (simp [*]; done), by first | (go_simp; done) | (simp [*]; done), by first | (go_simp; done) | (simp [*]; done)⟩
          case measure => simp [intOf]
      | 1, _, HM4 =>
        have m3 := HM4.out
        clear HM4 HM3
        generalize hT : setTo s wd a 1 = T at m3
        have c0 : wr.cell? ⟨b, 2, none⟩ = some (by8 2#8) := hww.out.cell 2 (by decide)
        have c1 : wr.cell? ⟨b, 3, none⟩ = some (.func (.func 36) #[] #[]) := hww.out.cell 3 (by decide)
        have e := y_and wd 2#8
        have c2 : (nb (wd &&& 2#8) != 0) = hasb wd 2#8 := by rw [bne, nb_beq0]; rfl
        cases hh : hasb wd 2#8 with
        | false =>
          have HH := Lib.hid hh
          rw [hh] at c2
          clear hh
          go_wp2_with fail
          go_roundw
          case rel =>
            refine ⟨2, by omega, by go_num, only_trans HG.out (only_of_below (show Below wr.heap.size wr _ by go_grown) _), ?_⟩
            have hS : setTo s wd a 2 = T := by unfold setTo; rw [hT, show hasb wd (bitOf 1) = false from HH.out]; rfl
            rw [hS]
            exact ⟨⟨by go_cell, by go_cell, by go_cell, by go_cell⟩, by first | (go_simp; done) | (simp [*]; done), by first | (go_simp; done) | (simp [*]; done), by first | (go_simp; done) | (simp [*]; done), by first | (go_simp; done) | (simp [*]; done)⟩
          case measure => simp [intOf]
        | true =>
          have HH := Lib.hid hh
          rw [hh] at c2
          clear hh
          cases hm : mayB 1 T a with
          | false =>
            have HM := Lib.hid hm
            clear hm
            go_wp2_with fail
            refine (may1 k O G T false HM.out _).mono ?_
            rintro eE W2 ⟨rfl, hg2⟩
            have hb2 : Below wr.heap.size wr W2 := (show Below wr.heap.size wr _ by go_grown).trans (hg2.mono (by first | omega | go_size))
            obtain ⟨hc2, hf2⟩ := bcell hg2
            have hs2 := hg2.size
            try simp only [World.size_alloc, World.size_setCell, World.size_drew] at hs2
            have hl2_0_0 : W2.cell? ⟨w.heap.size, 0, none⟩ = some (num k) := (hc2 _ _ (by first | omega | go_size)).trans (by first | (with_reducible assumption) | go_cell)
            have hz2_0_0 : W2.frozen? ⟨w.heap.size, 0, none⟩ = false := (hf2 _ _ (by first | omega | go_size)).trans (by first | (with_reducible assumption) | (go_simp; done) | (simp [*]; done))
            have hl2_0_1 : W2.cell? ⟨w.heap.size, 1, none⟩ = some (st O) := (hc2 _ _ (by first | omega | go_size)).trans (by first | (with_reducible assumption) | go_cell)
            have hz2_0_1 : W2.frozen? ⟨w.heap.size, 1, none⟩ = false := (hf2 _ _ (by first | omega | go_size)).trans (by first | (with_reducible assumption) | (go_simp; done) | (simp [*]; done))
            have hl2_0_2 : W2.cell? ⟨w.heap.size, 2, none⟩ = some (st G) := (hc2 _ _ (by first | omega | go_size)).trans (by first | (with_reducible assumption) | go_cell)
            have hz2_0_2 : W2.frozen? ⟨w.heap.size, 2, none⟩ = false := (hf2 _ _ (by first | omega | go_size)).trans (by first | (with_reducible assumption) | (go_simp; done) | (simp [*]; done))
            have hl2_0_3 : W2.cell? ⟨w.heap.size, 3, none⟩ = some (by8 T) := (hc2 _ _ (by first | omega | go_size)).trans (by first | (with_reducible assumption) | go_cell)
            have hz2_0_3 : W2.frozen? ⟨w.heap.size, 3, none⟩ = false := (hf2 _ _ (by first | omega | go_size)).trans (by first | (with_reducible assumption) | (go_simp; done) | (simp [*]; done))
            have hk2_0 : w.heap.size < W2.heap.size := by omega
            have hl2_1_0 : W2.cell? ⟨wr.heap.size, 0, none⟩ = some (by8 2#8) := (hc2 _ _ (by first | omega | go_size)).trans (by first | (with_reducible assumption) | go_cell)
            have hz2_1_0 : W2.frozen? ⟨wr.heap.size, 0, none⟩ = false := (hf2 _ _ (by first | omega | go_size)).trans (by first | (with_reducible assumption) | (go_simp; done) | (simp [*]; done))
            have hl2_1_1 : W2.cell? ⟨wr.heap.size, 1, none⟩ = some (.func (.func 36) #[] #[]) := (hc2 _ _ (by first | omega | go_size)).trans (by first | (with_reducible assumption) | go_cell)
            have hz2_1_1 : W2.frozen? ⟨wr.heap.size, 1, none⟩ = false := (hf2 _ _ (by first | omega | go_size)).trans (by first | (with_reducible assumption) | (go_simp; done) | (simp [*]; done))
            have hk2_1 : wr.heap.size < W2.heap.size := by omega
            clear hg2 hc2 hf2
            go_wp2_with fail
            go_roundw
            case rel =>
              refine ⟨2, by omega, by go_num, only_trans HG.out (only_of_below (show Below wr.heap.size wr _ by go_grown) _), ?_⟩
              have hS : setTo s wd a 2 = T := by unfold setTo; rw [hT, show hasb wd (bitOf 1) = true from HH.out, HM.out]; rfl
              rw [hS]
              exact ⟨⟨hl2_0_0, hl2_0_1, hl2_0_2, hl2_0_3⟩, hz2_0_0, hz2_0_1, hz2_0_2, hz2_0_3⟩
            case measure => simp [intOf]
          | true =>
            have HM := Lib.hid hm
            clear hm
            go_wp2_with fail
            refine (may1 k O G T true HM.out _).mono ?_
            rintro eE W2 ⟨rfl, hg2⟩
            have hb2 : Below wr.heap.size wr W2 := (show Below wr.heap.size wr _ by go_grown).trans (hg2.mono (by first | omega | go_size))
            obtain ⟨hc2, hf2⟩ := bcell hg2
            have hs2 := hg2.size
            try simp only [World.size_alloc, World.size_setCell, World.size_drew] at hs2
            have hl2_0_0 : W2.cell? ⟨w.heap.size, 0, none⟩ = some (num k) := (hc2 _ _ (by first | omega | go_size)).trans (by first | (with_reducible assumption) | go_cell)
            have hz2_0_0 : W2.frozen? ⟨w.heap.size, 0, none⟩ = false := (hf2 _ _ (by first | omega | go_size)).trans (by first | (with_reducible assumption) | (go_simp; done) | (simp [*]; done))
            have hl2_0_1 : W2.cell? ⟨w.heap.size, 1, none⟩ = some (st O) := (hc2 _ _ (by first | omega | go_size)).trans (by first | (with_reducible assumption) | go_cell)
            have hz2_0_1 : W2.frozen? ⟨w.heap.size, 1, none⟩ = false := (hf2 _ _ (by first | omega | go_size)).trans (by first | (with_reducible assumption) | (go_simp; done) | (simp [*]; done))
            have hl2_0_2 : W2.cell? ⟨w.heap.size, 2, none⟩ = some (st G) := (hc2 _ _ (by first | omega | go_size)).trans (by first | (with_reducible assumption) | go_cell)
            have hz2_0_2 : W2.frozen? ⟨w.heap.size, 2, none⟩ = false := (hf2 _ _ (by first | omega | go_size)).trans (by first | (with_reducible assumption) | (go_simp; done) | (simp [*]; done))
            have hl2_0_3 : W2.cell? ⟨w.heap.size, 3, none⟩ = some (by8 T) := (hc2 _ _ (by first | omega | go_size)).trans (by first | (with_reducible assumption) | go_cell)
            have hz2_0_3 : W2.frozen? ⟨w.heap.size, 3, none⟩ = false := (hf2 _ _ (by first | omega | go_size)).trans (by first | (with_reducible assumption) | (go_simp; done) | (simp [*]; done))
            have hk2_0 : w.heap.size < W2.heap.size := by omega
            have hl2_1_0 : W2.cell? ⟨wr.heap.size, 0, none⟩ = some (by8 2#8) := (hc2 _ _ (by first | omega | go_size)).trans (by first | (with_reducible assumption) | go_cell)
            have hz2_1_0 : W2.frozen? ⟨wr.heap.size, 0, none⟩ = false := (hf2 _ _ (by first | omega | go_size)).trans (by first | (with_reducible assumption) | (go_simp; done) | (simp [*]; done))
            have hl2_1_1 : W2.cell? ⟨wr.heap.size, 1, none⟩ = some (.func (.func 36) #[] #[]) := (hc2 _ _ (by first | omega | go_size)).trans (by first | (with_reducible assumption) | go_cell)
            have hz2_1_1 : W2.frozen? ⟨wr.heap.size, 1, none⟩ = false := (hf2 _ _ (by first | omega | go_size)).trans (by first | (with_reducible assumption) | (go_simp; done) | (simp [*]; done))
            have hk2_1 : wr.heap.size < W2.heap.size := by omega
            clear hg2 hc2 hf2
            go_wp2_with fail
            refine (with_is k O G T 2#8 _).mono ?_
            rintro eE W3 ⟨rfl, hg3⟩
            have hb3 : Below wr.heap.size wr W3 := (show Below wr.heap.size wr _ by go_grown).trans (hg3.mono (by first | omega | go_size))
            obtain ⟨hc3, hf3⟩ := bcell hg3
            have hs3 := hg3.size
            try simp only [World.size_alloc, World.size_setCell, World.size_drew] at hs3
            have hl3_0_0 : W3.cell? ⟨w.heap.size, 0, none⟩ = some (num k) := (hc3 _ _ (by first | omega | go_size)).trans (by first | (with_reducible assumption) | go_cell)
            have hz3_0_0 : W3.frozen? ⟨w.heap.size, 0, none⟩ = false := (hf3 _ _ (by first | omega | go_size)).trans (by first | (with_reducible assumption) | (go_simp; done) | (simp [*]; done))
            have hl3_0_1 : W3.cell? ⟨w.heap.size, 1, none⟩ = some (st O) := (hc3 _ _ (by first | omega | go_size)).trans (by first | (with_reducible assumption) | go_cell)
            have hz3_0_1 : W3.frozen? ⟨w.heap.size, 1, none⟩ = false := (hf3 _ _ (by first | omega | go_size)).trans (by first | (with_reducible assumption) | (go_simp; done) | (simp [*]; done))
            have hl3_0_2 : W3.cell? ⟨w.heap.size, 2, none⟩ = some (st G) := (hc3 _ _ (by first | omega | go_size)).trans (by first | (with_reducible assumption) | go_cell)
            have hz3_0_2 : W3.frozen? ⟨w.heap.size, 2, none⟩ = false := (hf3 _ _ (by first | omega | go_size)).trans (by first | (with_reducible assumption) | (go_simp; done) | (simp [*]; done))
            have hl3_0_3 : W3.cell? ⟨w.heap.size, 3, none⟩ = some (by8 T) := (hc3 _ _ (by first | omega | go_size)).trans (by first | (with_reducible assumption) | go_cell)
            have hz3_0_3 : W3.frozen? ⟨w.heap.size, 3, none⟩ = false := (hf3 _ _ (by first | omega | go_size)).trans (by first | (with_reducible assumption) | (go_simp; done) | (simp [*]; done))
            have hk3_0 : w.heap.size < W3.heap.size := by omega
            have hl3_1_0 : W3.cell? ⟨wr.heap.size, 0, none⟩ = some (by8 2#8) := (hc3 _ _ (by first | omega | go_size)).trans (by first | (with_reducible assumption) | go_cell)
            have hz3_1_0 : W3.frozen? ⟨wr.heap.size, 0, none⟩ = false := (hf3 _ _ (by first | omega | go_size)).trans (by first | (with_reducible assumption) | (go_simp; done) | (simp [*]; done))
            have hl3_1_1 : W3.cell? ⟨wr.heap.size, 1, none⟩ = some (.func (.func 36) #[] #[]) := (hc3 _ _ (by first | omega | go_size)).trans (by first | (with_reducible assumption) | go_cell)
            have hz3_1_1 : W3.frozen? ⟨wr.heap.size, 1, none⟩ = false := (hf3 _ _ (by first | omega | go_size)).trans (by first | (with_reducible assumption) | (go_simp; done) | (simp [*]; done))
            have hk3_1 : wr.heap.size < W3.heap.size := by omega
            clear hg3 hc3 hf3
            go_wp2_with fail
            go_roundw
            case rel =>
              refine ⟨2, by omega, by go_num, only_setCell (only_setCell (only_setCell (only_setCell (only_trans HG.out (only_of_below hb3 _)) (.inl rfl) _) (.inl rfl) _) (.inl rfl) _) (.inl rfl) _, ?_⟩
              have hS : setTo s wd a 2 = T ||| 2#8 := by unfold setTo; rw [hT, show hasb wd (bitOf 1) = true from HH.out, HM.out]; rfl
              rw [hS]
              exact ⟨⟨by go_cell, by go_cell, by go_cell, by go_cell⟩, by first | (go_simp; done) | (simp [*]; done), by first | (go_simp; done) | (simp [*]; done), by first | (go_simp; done) | (simp [*]; done), by first | (go_simp; done) | (simp [*]; done)⟩
            case measure => simp [intOf]
      | 2, _, HM4 =>
        have m3 := HM4.out
        clear HM4 HM3
        generalize hT : setTo s wd a 2 = T at m3
        have c0 : wr.cell? ⟨b, 4, none⟩ = some (by8 8#8) := hww.out.cell 4 (by decide)
        have c1 : wr.cell? ⟨b, 5, none⟩ = some (.func (.func 37) #[] #[]) := hww.out.cell 5 (by decide)
        have e := y_and wd 8#8
        have c2 : (nb (wd &&& 8#8) != 0) = hasb wd 8#8 := by rw [bne, nb_beq0]; rfl
        cases hh : hasb wd 8#8 with
        | false =>
          have HH := Lib.hid hh
          rw [hh] at c2
          clear hh
          go_wp2_with fail
          go_roundw
          case rel =>
            refine ⟨3, by omega, by go_num, only_trans HG.out (only_of_below (show Below wr.heap.size wr _ by go_grown) _), ?_⟩
            have hS : setTo s wd a 3 = T := by unfold setTo; rw [hT, show hasb wd (bitOf 2) = false from HH.out]; rfl
            rw [hS]
            exact ⟨⟨by go_cell, by go_cell, by go_cell, by go_cell⟩, by first | (go_simp; done) | (simp [*]; done), by first | (go_simp; done) | (simp [*]; done), by first | (go_simp; done) | (simp [*]; done), by first | (go_simp; done) | (simp [*]; done)⟩
          case measure => simp [intOf]
        | true =>
          have HH := Lib.hid hh
          rw [hh] at c2
          clear hh
          cases hm : mayB 2 T a with
          | false =>
            have HM := Lib.hid hm
            clear hm
            go_wp2_with fail
            refine (may2 k O G T false (by rw [HA.out]; exact HM.out) ad cap _ (HR1.out.below (by go_grown))).mono ?_
            rintro eE W2 ⟨rfl, hg2⟩
            have hb2 : Below wr.heap.size wr W2 := (show Below wr.heap.size wr _ by go_grown).trans (hg2.mono (by first | omega | go_size))
            obtain ⟨hc2, hf2⟩ := bcell hg2
            have hs2 := hg2.size
            try simp only [World.size_alloc, World.size_setCell, World.size_drew] at hs2
            have hl2_0_0 : W2.cell? ⟨w.heap.size, 0, none⟩ = some (num k) := (hc2 _ _ (by first | omega | go_size)).trans (by first | (with_reducible assumption) | go_cell)
            have hz2_0_0 : W2.frozen? ⟨w.heap.size, 0, none⟩ = false := (hf2 _ _ (by first | omega | go_size)).trans (by first | (with_reducible assumption) | (go_simp; done) | (simp [*]; done))
            have hl2_0_1 : W2.cell? ⟨w.heap.size, 1, none⟩ = some (st O) := (hc2 _ _ (by first | omega | go_size)).trans (by first | (with_reducible assumption) | go_cell)
            have hz2_0_1 : W2.frozen? ⟨w.heap.size, 1, none⟩ = false := (hf2 _ _ (by first | omega | go_size)).trans (by first | (with_reducible assumption) | (go_simp; done) | (simp [*]; done))
            have hl2_0_2 : W2.cell? ⟨w.heap.size, 2, none⟩ = some (st G) := (hc2 _ _ (by first | omega | go_size)).trans (by first | (with_reducible assumption) | go_cell)
            have hz2_0_2 : W2.frozen? ⟨w.heap.size, 2, none⟩ = false := (hf2 _ _ (by first | omega | go_size)).trans (by first | (with_reducible assumption) | (go_simp; done) | (simp [*]; done))
            have hl2_0_3 : W2.cell? ⟨w.heap.size, 3, none⟩ = some (by8 T) := (hc2 _ _ (by first | omega | go_size)).trans (by first | (with_reducible assumption) | go_cell)
            have hz2_0_3 : W2.frozen? ⟨w.heap.size, 3, none⟩ = false := (hf2 _ _ (by first | omega | go_size)).trans (by first | (with_reducible assumption) | (go_simp; done) | (simp [*]; done))
            have hk2_0 : w.heap.size < W2.heap.size := by omega
            have hl2_1_0 : W2.cell? ⟨wr.heap.size, 0, none⟩ = some (by8 8#8) := (hc2 _ _ (by first | omega | go_size)).trans (by first | (with_reducible assumption) | go_cell)
            have hz2_1_0 : W2.frozen? ⟨wr.heap.size, 0, none⟩ = false := (hf2 _ _ (by first | omega | go_size)).trans (by first | (with_reducible assumption) | (go_simp; done) | (simp [*]; done))
            have hl2_1_1 : W2.cell? ⟨wr.heap.size, 1, none⟩ = some (.func (.func 37) #[] #[]) := (hc2 _ _ (by first | omega | go_size)).trans (by first | (with_reducible assumption) | go_cell)
            have hz2_1_1 : W2.frozen? ⟨wr.heap.size, 1, none⟩ = false := (hf2 _ _ (by first | omega | go_size)).trans (by first | (with_reducible assumption) | (go_simp; done) | (simp [*]; done))
            have hk2_1 : wr.heap.size < W2.heap.size := by omega
            clear hg2 hc2 hf2
            go_wp2_with fail
            go_roundw
            case rel =>
              refine ⟨3, by omega, by go_num, only_trans HG.out (only_of_below (show Below wr.heap.size wr _ by go_grown) _), ?_⟩
              have hS : setTo s wd a 3 = T := by unfold setTo; rw [hT, show hasb wd (bitOf 2) = true from HH.out, HM.out]; rfl
              rw [hS]
              exact ⟨⟨hl2_0_0, hl2_0_1, hl2_0_2, hl2_0_3⟩, hz2_0_0, hz2_0_1, hz2_0_2, hz2_0_3⟩
            case measure => simp [intOf]
          | true =>
            have HM := Lib.hid hm
            clear hm
            go_wp2_with fail
            refine (may2 k O G T true (by rw [HA.out]; exact HM.out) ad cap _ (HR1.out.below (by go_grown))).mono ?_
            rintro eE W2 ⟨rfl, hg2⟩
            have hb2 : Below wr.heap.size wr W2 := (show Below wr.heap.size wr _ by go_grown).trans (hg2.mono (by first | omega | go_size))
            obtain ⟨hc2, hf2⟩ := bcell hg2
            have hs2 := hg2.size
            try simp only [World.size_alloc, World.size_setCell, World.size_drew] at hs2
            have hl2_0_0 : W2.cell? ⟨w.heap.size, 0, none⟩ = some (num k) := (hc2 _ _ (by first | omega | go_size)).trans (by first | (with_reducible assumption) | go_cell)
            have hz2_0_0 : W2.frozen? ⟨w.heap.size, 0, none⟩ = false := (hf2 _ _ (by first | omega | go_size)).trans (by first | (with_reducible assumption) | (go_simp; done) | (simp [*]; done))
            have hl2_0_1 : W2.cell? ⟨w.heap.size, 1, none⟩ = some (st O) := (hc2 _ _ (by first | omega | go_size)).trans (by first | (with_reducible assumption) | go_cell)
            have hz2_0_1 : W2.frozen? ⟨w.heap.size, 1, none⟩ = false := (hf2 _ _ (by first | omega | go_size)).trans (by first | (with_reducible assumption) | (go_simp; done) | (simp [*]; done))
            have hl2_0_2 : W2.cell? ⟨w.heap.size, 2, none⟩ = some (st G) := (hc2 _ _ (by first | omega | go_size)).trans (by first | (with_reducible assumption) | go_cell)
            have hz2_0_2 : W2.frozen? ⟨w.heap.size, 2, none⟩ = false := (hf2 _ _ (by first | omega | go_size)).trans (by first | (with_reducible assumption) | (go_simp; done) | (simp [*]; done))
            have hl2_0_3 : W2.cell? ⟨w.heap.size, 3, none⟩ = some (by8 T) := (hc2 _ _ (by first | omega | go_size)).trans (by first | (with_reducible assumption) | go_cell)
            have hz2_0_3 : W2.frozen? ⟨w.heap.size, 3, none⟩ = false := (hf2 _ _ (by first | omega | go_size)).trans (by first | (with_reducible assumption) | (go_simp; done) | (simp [*]; done))
            have hk2_0 : w.heap.size < W2.heap.size := by omega
            have hl2_1_0 : W2.cell? ⟨wr.heap.size, 0, none⟩ = some (by8 8#8) := (hc2 _ _ (by first | omega | go_size)).trans (by first | (with_reducible assumption) | go_cell)
            have hz2_1_0 : W2.frozen? ⟨wr.heap.size, 0, none⟩ = false := (hf2 _ _ (by first | omega | go_size)).trans (by first | (with_reducible assumption) | (go_simp; done) | (simp [*]; done))
            have hl2_1_1 : W2.cell? ⟨wr.heap.size, 1, none⟩ = some (.func (.func 37) #[] #[]) := (hc2 _ _ (by first | omega | go_size)).trans (by first | (with_reducible assumption) | go_cell)
            have hz2_1_1 : W2.frozen? ⟨wr.heap.size, 1, none⟩ = false := (hf2 _ _ (by first | omega | go_size)).trans (by first | (with_reducible assumption) | (go_simp; done) | (simp [*]; done))
            have hk2_1 : wr.heap.size < W2.heap.size := by omega
            clear hg2 hc2 hf2
            go_wp2_with fail
            refine (with_is k O G T 8#8 _).mono ?_
            rintro eE W3 ⟨rfl, hg3⟩
            have hb3 : Below wr.heap.size wr W3 := (show Below wr.heap.size wr _ by go_grown).trans (hg3.mono (by first | omega | go_size))
            obtain ⟨hc3, hf3⟩ := bcell hg3
            have hs3 := hg3.size
            try simp only [World.size_alloc, World.size_setCell, World.size_drew] at hs3
            have hl3_0_0 : W3.cell? ⟨w.heap.size, 0, none⟩ = some (num k) := (hc3 _ _ (by first | omega | go_size)).trans (by first | (with_reducible assumption) | go_cell)
            have hz3_0_0 : W3.frozen? ⟨w.heap.size, 0, none⟩ = false := (hf3 _ _ (by first | omega | go_size)).trans (by first | (with_reducible assumption) | (go_simp; done) | (simp [*]; done))
            have hl3_0_1 : W3.cell? ⟨w.heap.size, 1, none⟩ = some (st O) := (hc3 _ _ (by first | omega | go_size)).trans (by first | (with_reducible assumption) | go_cell)
            have hz3_0_1 : W3.frozen? ⟨w.heap.size, 1, none⟩ = false := (hf3 _ _ (by first | omega | go_size)).trans (by first | (with_reducible assumption) | (go_simp; done) | (simp [*]; done))
            have hl3_0_2 : W3.cell? ⟨w.heap.size, 2, none⟩ = some (st G) := (hc3 _ _ (by first | omega | go_size)).trans (by first | (with_reducible assumption) | go_cell)
            have hz3_0_2 : W3.frozen? ⟨w.heap.size, 2, none⟩ = false := (hf3 _ _ (by first | omega | go_size)).trans (by first | (with_reducible assumption) | (go_simp; done) | (simp [*]; done))
            have hl3_0_3 : W3.cell? ⟨w.heap.size, 3, none⟩ = some (by8 T) := (hc3 _ _ (by first | omega | go_size)).trans (by first | (with_reducible assumption) | go_cell)
            have hz3_0_3 : W3.frozen? ⟨w.heap.size, 3, none⟩ = false := (hf3 _ _ (by first | omega | go_size)).trans (by first | (with_reducible assumption) | (go_simp; done) | (simp [*]; done))
            have hk3_0 : w.heap.size < W3.heap.size := by omega
            have hl3_1_0 : W3.cell? ⟨wr.heap.size, 0, none⟩ = some (by8 8#8) := (hc3 _ _ (by first | omega | go_size)).trans (by first | (with_reducible assumption) | go_cell)
            have hz3_1_0 : W3.frozen? ⟨wr.heap.size, 0, none⟩ = false := (hf3 _ _ (by first | omega | go_size)).trans (by first | (with_reducible assumption) | (go_simp; done) | (simp [*]; done))
            have hl3_1_1 : W3.cell? ⟨wr.heap.size, 1, none⟩ = some (.func (.func 37) #[] #[]) := (hc3 _ _ (by first | omega | go_size)).trans (by first | (with_reducible assumption) | go_cell)
            have hz3_1_1 : W3.frozen? ⟨wr.heap.size, 1, none⟩ = false := (hf3 _ _ (by first | omega | go_size)).trans (by first | (with_reducible assumption) | (go_simp; done) | (simp [*]; done))
            have hk3_1 : wr.heap.size < W3.heap.size := by omega
            clear hg3 hc3 hf3
            go_wp2_with fail
            go_roundw
            case rel =>
              refine ⟨3, by omega, by go_num, only_setCell (only_setCell (only_setCell (only_setCell (only_trans HG.out (only_of_below hb3 _)) (.inl rfl) _) (.inl rfl) _) (.inl rfl) _) (.inl rfl) _, ?_⟩
              have hS : setTo s wd a 3 = T ||| 8#8 := by unfold setTo; rw [hT, show hasb wd (bitOf 2) = true from HH.out, HM.out]; rfl
              rw [hS]
              exact ⟨⟨by go_cell, by go_cell, by go_cell, by go_cell⟩, by first | (go_simp; done) | (simp [*]; done), by first | (go_simp; done) | (simp [*]; done), by first | (go_simp; done) | (simp [*]; done), by first | (go_simp; done) | (simp [*]; done)⟩
            case measure => simp [intOf]
      | 3, _, HM4 =>
        have m3 := HM4.out
        clear HM4 HM3
        generalize hT : setTo s wd a 3 = T at m3
        have c0 : wr.cell? ⟨b, 6, none⟩ = some (by8 4#8) := hww.out.cell 6 (by decide)
        have c1 : wr.cell? ⟨b, 7, none⟩ = some (.func (.func 39) #[] #[]) := hww.out.cell 7 (by decide)
        have e := y_and wd 4#8
        have c2 : (nb (wd &&& 4#8) != 0) = hasb wd 4#8 := by rw [bne, nb_beq0]; rfl
        cases hh : hasb wd 4#8 with
        | false =>
          have HH := Lib.hid hh
          rw [hh] at c2
          clear hh
          go_wp2_with fail
          go_roundw
          case rel =>
            refine ⟨4, by omega, by go_num, only_trans HG.out (only_of_below (show Below wr.heap.size wr _ by go_grown) _), ?_⟩
            have hS : setTo s wd a 4 = T := by unfold setTo; rw [hT, show hasb wd (bitOf 3) = false from HH.out]; rfl
            rw [hS]
            exact ⟨⟨by go_cell, by go_cell, by go_cell, by go_cell⟩, by first | (go_simp; done) | (simp [*]; done), by first | (go_simp; done) | (simp [*]; done), by first | (go_simp; done) | (simp [*]; done), by first | (go_simp; done) | (simp [*]; done)⟩
          case measure => simp [intOf]
        | true =>
          have HH := Lib.hid hh
          rw [hh] at c2
          clear hh
          cases hm : mayB 3 T a with
          | false =>
            have HM := Lib.hid hm
            clear hm
            go_wp2_with fail
            refine (may3 k O G T false HM.out _).mono ?_
            rintro eE W2 ⟨rfl, hg2⟩
            have hb2 : Below wr.heap.size wr W2 := (show Below wr.heap.size wr _ by go_grown).trans (hg2.mono (by first | omega | go_size))
            obtain ⟨hc2, hf2⟩ := bcell hg2
            have hs2 := hg2.size
            try simp only [World.size_alloc, World.size_setCell, World.size_drew] at hs2
            have hl2_0_0 : W2.cell? ⟨w.heap.size, 0, none⟩ = some (num k) := (hc2 _ _ (by first | omega | go_size)).trans (by first | (with_reducible assumption) | go_cell)
            have hz2_0_0 : W2.frozen? ⟨w.heap.size, 0, none⟩ = false := (hf2 _ _ (by first | omega | go_size)).trans (by first | (with_reducible assumption) | (go_simp; done) | (simp [*]; done))
            have hl2_0_1 : W2.cell? ⟨w.heap.size, 1, none⟩ = some (st O) := (hc2 _ _ (by first | omega | go_size)).trans (by first | (with_reducible assumption) | go_cell)
            have hz2_0_1 : W2.frozen? ⟨w.heap.size, 1, none⟩ = false := (hf2 _ _ (by first | omega | go_size)).trans (by first | (with_reducible assumption) | (go_simp; done) | (simp [*]; done))
            have hl2_0_2 : W2.cell? ⟨w.heap.size, 2, none⟩ = some (st G) := (hc2 _ _ (by first | omega | go_size)).trans (by first | (with_reducible assumption) | go_cell)
            have hz2_0_2 : W2.frozen? ⟨w.heap.size, 2, none⟩ = false := (hf2 _ _ (by first | omega | go_size)).trans (by first | (with_reducible assumption) | (go_simp; done) | (simp [*]; done))
            have hl2_0_3 : W2.cell? ⟨w.heap.size, 3, none⟩ = some (by8 T) := (hc2 _ _ (by first | omega | go_size)).trans (by first | (with_reducible assumption) | go_cell)
            have hz2_0_3 : W2.frozen? ⟨w.heap.size, 3, none⟩ = false := (hf2 _ _ (by first | omega | go_size)).trans (by first | (with_reducible assumption) | (go_simp; done) | (simp [*]; done))
            have hk2_0 : w.heap.size < W2.heap.size := by omega
            have hl2_1_0 : W2.cell? ⟨wr.heap.size, 0, none⟩ = some (by8 4#8) := (hc2 _ _ (by first | omega | go_size)).trans (by first | (with_reducible assumption) | go_cell)
            have hz2_1_0 : W2.frozen? ⟨wr.heap.size, 0, none⟩ = false := (hf2 _ _ (by first | omega | go_size)).trans (by first | (with_reducible assumption) | (go_simp; done) | (simp [*]; done))
            have hl2_1_1 : W2.cell? ⟨wr.heap.size, 1, none⟩ = some (.func (.func 39) #[] #[]) := (hc2 _ _ (by first | omega | go_size)).trans (by first | (with_reducible assumption) | go_cell)
            have hz2_1_1 : W2.frozen? ⟨wr.heap.size, 1, none⟩ = false := (hf2 _ _ (by first | omega | go_size)).trans (by first | (with_reducible assumption) | (go_simp; done) | (simp [*]; done))
            have hk2_1 : wr.heap.size < W2.heap.size := by omega
            clear hg2 hc2 hf2
            go_wp2_with fail
            go_roundw
            case rel =>
              refine ⟨4, by omega, by go_num, only_trans HG.out (only_of_below (show Below wr.heap.size wr _ by go_grown) _), ?_⟩
              have hS : setTo s wd a 4 = T := by unfold setTo; rw [hT, show hasb wd (bitOf 3) = true from HH.out, HM.out]; rfl
              rw [hS]
              exact ⟨⟨hl2_0_0, hl2_0_1, hl2_0_2, hl2_0_3⟩, hz2_0_0, hz2_0_1, hz2_0_2, hz2_0_3⟩
            case measure => simp [intOf]
          | true =>
            have HM := Lib.hid hm
            clear hm
            go_wp2_with fail
            refine (may3 k O G T true HM.out _).mono ?_
            rintro eE W2 ⟨rfl, hg2⟩
            have hb2 : Below wr.heap.size wr W2 := (show Below wr.heap.size wr _ by go_grown).trans (hg2.mono (by first | omega | go_size))
            obtain ⟨hc2, hf2⟩ := bcell hg2
            have hs2 := hg2.size
            try simp only [World.size_alloc, World.size_setCell, World.size_drew] at hs2
            have hl2_0_0 : W2.cell? ⟨w.heap.size, 0, none⟩ = some (num k) := (hc2 _ _ (by first | omega | go_size)).trans (by first | (with_reducible assumption) | go_cell)
            have hz2_0_0 : W2.frozen? ⟨w.heap.size, 0, none⟩ = false := (hf2 _ _ (by first | omega | go_size)).trans (by first | (with_reducible assumption) | (go_simp; done) | (simp [*]; done))
            have hl2_0_1 : W2.cell? ⟨w.heap.size, 1, none⟩ = some (st O) := (hc2 _ _ (by first | omega | go_size)).trans (by first | (with_reducible assumption) | go_cell)
            have hz2_0_1 : W2.frozen? ⟨w.heap.size, 1, none⟩ = false := (hf2 _ _ (by first | omega | go_size)).trans (by first | (with_reducible assumption) | (go_simp; done) | (simp [*]; done))
            have hl2_0_2 : W2.cell? ⟨w.heap.size, 2, none⟩ = some (st G) := (hc2 _ _ (by first | omega | go_size)).trans (by first | (with_reducible assumption) | go_cell)
            have hz2_0_2 : W2.frozen? ⟨w.heap.size, 2, none⟩ = false := (hf2 _ _ (by first | omega | go_size)).trans (by first | (with_reducible assumption) | (go_simp; done) | (simp [*]; done))
            have hl2_0_3 : W2.cell? ⟨w.heap.size, 3, none⟩ = some (by8 T) := (hc2 _ _ (by first | omega | go_size)).trans (by first | (with_reducible assumption) | go_cell)
            have hz2_0_3 : W2.frozen? ⟨w.heap.size, 3, none⟩ = false := (hf2 _ _ (by first | omega | go_size)).trans (by first | (with_reducible assumption) | (go_simp; done) | (simp [*]; done))
            have hk2_0 : w.heap.size < W2.heap.size := by omega
            have hl2_1_0 : W2.cell? ⟨wr.heap.size, 0, none⟩ = some (by8 4#8) := (hc2 _ _ (by first | omega | go_size)).trans (by first | (with_reducible assumption) | go_cell)
            have hz2_1_0 : W2.frozen? ⟨wr.heap.size, 0, none⟩ = false := (hf2 _ _ (by first | omega | go_size)).trans (by first | (with_reducible assumption) | (go_simp; done) | (simp [*]; done))
            have hl2_1_1 : W2.cell? ⟨wr.heap.size, 1, none⟩ = some (.func (.func 39) #[] #[]) := (hc2 _ _ (by first | omega | go_size)).trans (by first | (with_reducible assumption) | go_cell)
            have hz2_1_1 : W2.frozen? ⟨wr.heap.size, 1, none⟩ = false := (hf2 _ _ (by first | omega | go_size)).trans (by first | (with_reducible assumption) | (go_simp; done) | (simp [*]; done))
            have hk2_1 : wr.heap.size < W2.heap.size := by omega
            clear hg2 hc2 hf2
            go_wp2_with fail
            refine (with_is k O G T 4#8 _).mono ?_
            rintro eE W3 ⟨rfl, hg3⟩
            have hb3 : Below wr.heap.size wr W3 := (show Below wr.heap.size wr _ by go_grown).trans (hg3.mono (by first | omega | go_size))
            obtain ⟨hc3, hf3⟩ := bcell hg3
            have hs3 := hg3.size
            try simp only [World.size_alloc, World.size_setCell, World.size_drew] at hs3
            have hl3_0_0 : W3.cell? ⟨w.heap.size, 0, none⟩ = some (num k) := (hc3 _ _ (by first | omega | go_size)).trans (by first | (with_reducible assumption) | go_cell)
            have hz3_0_0 : W3.frozen? ⟨w.heap.size, 0, none⟩ = false := (hf3 _ _ (by first | omega | go_size)).trans (by first | (with_reducible assumption) | (go_simp; done) | (simp [*]; done))
            have hl3_0_1 : W3.cell? ⟨w.heap.size, 1, none⟩ = some (st O) := (hc3 _ _ (by first | omega | go_size)).trans (by first | (with_reducible assumption) | go_cell)
            have hz3_0_1 : W3.frozen? ⟨w.heap.size, 1, none⟩ = false := (hf3 _ _ (by first | omega | go_size)).trans (by first | (with_reducible assumption) | (go_simp; done) | (simp [*]; done))
            have hl3_0_2 : W3.cell? ⟨w.heap.size, 2, none⟩ = some (st G) := (hc3 _ _ (by first | omega | go_size)).trans (by first | (with_reducible assumption) | go_cell)
            have hz3_0_2 : W3.frozen? ⟨w.heap.size, 2, none⟩ = false := (hf3 _ _ (by first | omega | go_size)).trans (by first | (with_reducible assumption) | (go_simp; done) | (simp [*]; done))
            have hl3_0_3 : W3.cell? ⟨w.heap.size, 3, none⟩ = some (by8 T) := (hc3 _ _ (by first | omega | go_size)).trans (by first | (with_reducible assumption) | go_cell)
            have hz3_0_3 : W3.frozen? ⟨w.heap.size, 3, none⟩ = false := (hf3 _ _ (by first | omega | go_size)).trans (by first | (with_reducible assumption) | (go_simp; done) | (simp [*]; done))
            have hk3_0 : w.heap.size < W3.heap.size := by omega
            have hl3_1_0 : W3.cell? ⟨wr.heap.size, 0, none⟩ = some (by8 4#8) := (hc3 _ _ (by first | omega | go_size)).trans (by first | (with_reducible assumption) | go_cell)
            have hz3_1_0 : W3.frozen? ⟨wr.heap.size, 0, none⟩ = false := (hf3 _ _ (by first | omega | go_size)).trans (by first | (with_reducible assumption) | (go_simp; done) | (simp [*]; done))
            have hl3_1_1 : W3.cell? ⟨wr.heap.size, 1, none⟩ = some (.func (.func 39) #[] #[]) := (hc3 _ _ (by first | omega | go_size)).trans (by first | (with_reducible assumption) | go_cell)
            have hz3_1_1 : W3.frozen? ⟨wr.heap.size, 1, none⟩ = false := (hf3 _ _ (by first | omega | go_size)).trans (by first | (with_reducible assumption) | (go_simp; done) | (simp [*]; done))
            have hk3_1 : wr.heap.size < W3.heap.size := by omega
            clear hg3 hc3 hf3
            go_wp2_with fail
            go_roundw
            case rel =>
              refine ⟨4, by omega, by go_num, only_setCell (only_setCell (only_setCell (only_setCell (only_trans HG.out (only_of_below hb3 _)) (.inl rfl) _) (.inl rfl) _) (.inl rfl) _) (.inl rfl) _, ?_⟩
              have hS : setTo s wd a 4 = T ||| 4#8 := by unfold setTo; rw [hT, show hasb wd (bitOf 3) = true from HH.out, HM.out]; rfl
              rw [hS]
              exact ⟨⟨by go_cell, by go_cell, by go_cell, by go_cell⟩, by first | (go_simp; done) | (simp [*]; done), by first | (go_simp; done) | (simp [*]; done), by first | (go_simp; done) | (simp [*]; done), by first | (go_simp; done) | (simp [*]; done)⟩
            case measure => simp [intOf]
      | 4, _, HM4 =>
        have m3 := HM4.out
        clear HM4 HM3
        generalize hT : setTo s wd a 4 = T at m3
        have c0 : wr.cell? ⟨b, 8, none⟩ = some (by8 128#8) := hww.out.cell 8 (by decide)
        have c1 : wr.cell? ⟨b, 9, none⟩ = some (.func (.func 35) #[] #[]) := hww.out.cell 9 (by decide)
        have e := y_and wd 128#8
        have c2 : (nb (wd &&& 128#8) != 0) = hasb wd 128#8 := by rw [bne, nb_beq0]; rfl
        cases hh : hasb wd 128#8 with
        | false =>
          have HH := Lib.hid hh
          rw [hh] at c2
          clear hh
          go_wp2_with fail
          go_roundw
          case rel =>
            refine ⟨5, by omega, by go_num, only_trans HG.out (only_of_below (show Below wr.heap.size wr _ by go_grown) _), ?_⟩
            have hS : setTo s wd a 5 = T := by unfold setTo; rw [hT, show hasb wd (bitOf 4) = false from HH.out]; rfl
            rw [hS]
            exact ⟨⟨by go_cell, by go_cell, by go_cell, by go_cell⟩, by first | (go_simp; done) | (simp [*]; done), by first | (go_simp; done) | (simp [*]; done), by first | (go_simp; done) | (simp [*]; done), by first | (go_simp; done) | (simp [*]; done)⟩
          case measure => simp [intOf]
        | true =>
          have HH := Lib.hid hh
          rw [hh] at c2
          clear hh
          go_wp2_with fail
          refine (may0 k O G T _).mono ?_
          rintro eE W2 ⟨rfl, hg2⟩
          have hb2 : Below wr.heap.size wr W2 := (show Below wr.heap.size wr _ by go_grown).trans (hg2.mono (by first | omega | go_size))
          obtain ⟨hc2, hf2⟩ := bcell hg2
          have hs2 := hg2.size
          try simp only [World.size_alloc, World.size_setCell, World.size_drew] at hs2
          have hl2_0_0 : W2.cell? ⟨w.heap.size, 0, none⟩ = some (num k) := (hc2 _ _ (by first | omega | go_size)).trans (by first | (with_reducible assumption) | go_cell)
          have hz2_0_0 : W2.frozen? ⟨w.heap.size, 0, none⟩ = false := (hf2 _ _ (by first | omega | go_size)).trans (by first | (with_reducible assumption) | (go_simp; done) | (simp [*]; done))
          have hl2_0_1 : W2.cell? ⟨w.heap.size, 1, none⟩ = some (st O) := (hc2 _ _ (by first | omega | go_size)).trans (by first | (with_reducible assumption) | go_cell)
          have hz2_0_1 : W2.frozen? ⟨w.heap.size, 1, none⟩ = false := (hf2 _ _ (by first | omega | go_size)).trans (by first | (with_reducible assumption) | (go_simp; done) | (simp [*]; done))
          have hl2_0_2 : W2.cell? ⟨w.heap.size, 2, none⟩ = some (st G) := (hc2 _ _ (by first | omega | go_size)).trans (by first | (with_reducible assumption) | go_cell)
          have hz2_0_2 : W2.frozen? ⟨w.heap.size, 2, none⟩ = false := (hf2 _ _ (by first | omega | go_size)).trans (by first | (with_reducible assumption) | (go_simp; done) | (simp [*]; done))
          have hl2_0_3 : W2.cell? ⟨w.heap.size, 3, none⟩ = some (by8 T) := (hc2 _ _ (by first | omega | go_size)).trans (by first | (with_reducible assumption) | go_cell)
          have hz2_0_3 : W2.frozen? ⟨w.heap.size, 3, none⟩ = false := (hf2 _ _ (by first | omega | go_size)).trans (by first | (with_reducible assumption) | (go_simp; done) | (simp [*]; done))
          have hk2_0 : w.heap.size < W2.heap.size := by omega
          have hl2_1_0 : W2.cell? ⟨wr.heap.size, 0, none⟩ = some (by8 128#8) := (hc2 _ _ (by first | omega | go_size)).trans (by first | (with_reducible assumption) | go_cell)
          have hz2_1_0 : W2.frozen? ⟨wr.heap.size, 0, none⟩ = false := (hf2 _ _ (by first | omega | go_size)).trans (by first | (with_reducible assumption) | (go_simp; done) | (simp [*]; done))
          have hl2_1_1 : W2.cell? ⟨wr.heap.size, 1, none⟩ = some (.func (.func 35) #[] #[]) := (hc2 _ _ (by first | omega | go_size)).trans (by first | (with_reducible assumption) | go_cell)
          have hz2_1_1 : W2.frozen? ⟨wr.heap.size, 1, none⟩ = false := (hf2 _ _ (by first | omega | go_size)).trans (by first | (with_reducible assumption) | (go_simp; done) | (simp [*]; done))
          have hk2_1 : wr.heap.size < W2.heap.size := by omega
          clear hg2 hc2 hf2
          go_wp2_with fail
          refine (with_is k O G T 128#8 _).mono ?_
          rintro eE W3 ⟨rfl, hg3⟩
          have hb3 : Below wr.heap.size wr W3 := (show Below wr.heap.size wr _ by go_grown).trans (hg3.mono (by first | omega | go_size))
          obtain ⟨hc3, hf3⟩ := bcell hg3
          have hs3 := hg3.size
          try simp only [World.size_alloc, World.size_setCell, World.size_drew] at hs3
          have hl3_0_0 : W3.cell? ⟨w.heap.size, 0, none⟩ = some (num k) := (hc3 _ _ (by first | omega | go_size)).trans (by first | (with_reducible assumption) | go_cell)
          have hz3_0_0 : W3.frozen? ⟨w.heap.size, 0, none⟩ = false := (hf3 _ _ (by first | omega | go_size)).trans (by first | (with_reducible assumption) | (go_simp; done) | (simp [*]; done))
          have hl3_0_1 : W3.cell? ⟨w.heap.size, 1, none⟩ = some (st O) := (hc3 _ _ (by first | omega | go_size)).trans (by first | (with_reducible assumption) | go_cell)
          have hz3_0_1 : W3.frozen? ⟨w.heap.size, 1, none⟩ = false := (hf3 _ _ (by first | omega | go_size)).trans (by first | (with_reducible assumption) | (go_simp; done) | (simp [*]; done))
          have hl3_0_2 : W3.cell? ⟨w.heap.size, 2, none⟩ = some (st G) := (hc3 _ _ (by first | omega | go_size)).trans (by first | (with_reducible assumption) | go_cell)
          have hz3_0_2 : W3.frozen? ⟨w.heap.size, 2, none⟩ = false := (hf3 _ _ (by first | omega | go_size)).trans (by first | (with_reducible assumption) | (go_simp; done) | (simp [*]; done))
          have hl3_0_3 : W3.cell? ⟨w.heap.size, 3, none⟩ = some (by8 T) := (hc3 _ _ (by first | omega | go_size)).trans (by first | (with_reducible assumption) | go_cell)
          have hz3_0_3 : W3.frozen? ⟨w.heap.size, 3, none⟩ = false := (hf3 _ _ (by first | omega | go_size)).trans (by first | (with_reducible assumption) | (go_simp; done) | (simp [*]; done))
          have hk3_0 : w.heap.size < W3.heap.size := by omega
          have hl3_1_0 : W3.cell? ⟨wr.heap.size, 0, none⟩ = some (by8 128#8) := (hc3 _ _ (by first | omega | go_size)).trans (by first | (with_reducible assumption) | go_cell)
          have hz3_1_0 : W3.frozen? ⟨wr.heap.size, 0, none⟩ = false := (hf3 _ _ (by first | omega | go_size)).trans (by first | (with_reducible assumption) | (go_simp; done) | (simp [*]; done))
          have hl3_1_1 : W3.cell? ⟨wr.heap.size, 1, none⟩ = some (.func (.func 35) #[] #[]) := (hc3 _ _ (by first | omega | go_size)).trans (by first | (with_reducible assumption) | go_cell)
          have hz3_1_1 : W3.frozen? ⟨wr.heap.size, 1, none⟩ = false := (hf3 _ _ (by first | omega | go_size)).trans (by first | (with_reducible assumption) | (go_simp; done) | (simp [*]; done))
          have hk3_1 : wr.heap.size < W3.heap.size := by omega
          clear hg3 hc3 hf3
          go_wp2_with fail
          go_roundw
          case rel =>
            refine ⟨5, by omega, by go_num, only_setCell (only_setCell (only_setCell (only_setCell (only_trans HG.out (only_of_below hb3 _)) (.inl rfl) _) (.inl rfl) _) (.inl rfl) _) (.inl rfl) _, ?_⟩
            have hS : setTo s wd a 5 = T ||| 128#8 := by unfold setTo; rw [hT, show hasb wd (bitOf 4) = true from HH.out, show mayB 4 T a = true from rfl]; rfl
            rw [hS]
            exact ⟨⟨by go_cell, by go_cell, by go_cell, by go_cell⟩, by first | (go_simp; done) | (simp [*]; done), by first | (go_simp; done) | (simp [*]; done), by first | (go_simp; done) | (simp [*]; done), by first | (go_simp; done) | (simp [*]; done)⟩
          case measure => simp [intOf]
    · obtain rfl : j = 5 := by omega
      have hD := kept_dev (W := w) HD1.out hgr (by omega) (by omega)
      obtain ⟨⟨d0, d1, d2, d3⟩, g0, g1, g2, g3⟩ := hD
      go_wp2_with fail
      have hB2 : Below w.heap.size w (((((wr).setCell ⟨w.heap.size + 1, 0, none⟩ (num k)).setCell ⟨w.heap.size + 1, 1, none⟩ (st O)).setCell ⟨w.heap.size + 1, 2, none⟩ (st G)).setCell ⟨w.heap.size + 1, 3, none⟩ (by8 (setTo s wd a 5))) := by go_grown
      generalize hG2 : ((((wr).setCell ⟨w.heap.size + 1, 0, none⟩ (num k)).setCell ⟨w.heap.size + 1, 1, none⟩ (st O)).setCell ⟨w.heap.size + 1, 2, none⟩ (st G)).setCell ⟨w.heap.size + 1, 3, none⟩ (by8 (setTo s wd a 5)) = WG2 at hB2 ⊢
      have hR2 := Lib.set_row (W := wr) (b := w.heap.size + 1) [num k, st O, st G, by8 (setTo s wd a 5)] (by simp only [Lib.HasRow, Nat.zero_add, Nat.reduceAdd, and_true]; exact ⟨⟨_, by first | (with_reducible assumption) | go_cell | (simp [*]; done)⟩, ⟨_, by first | (with_reducible assumption) | go_cell | (simp [*]; done)⟩, ⟨_, by first | (with_reducible assumption) | go_cell | (simp [*]; done)⟩, ⟨_, by first | (with_reducible assumption) | go_cell | (simp [*]; done)⟩⟩) hG2
      clear hG2
      simp only [Lib.RowAt, Nat.zero_add, Nat.reduceAdd, and_true] at hR2
      obtain ⟨qr0, qr1, qr2, qr3⟩ := hR2
      exact bodyPost_ret (v := dev k O G (setTo s wd a 5)) (by simp [results, Tryd.results13, go_sem, qr0, qr1, qr2, qr3]) rfl ⟨rfl, hB2⟩

end Go.Proofs.YtmmgcmbniidieaaDoor.St
