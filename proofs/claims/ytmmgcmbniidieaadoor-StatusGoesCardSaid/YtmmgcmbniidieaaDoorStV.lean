/- Package status: what is valid. -/
import Derived.Test.YtmmgcmbniidieaaDoorSt
import Derived.Laws.EntriesVeiled
namespace Go.Proofs.YtmmgcmbniidieaaDoor.St
open Go.RowKit Rw Fe
set_option linter.unusedSimpArgs false
set_option linter.unusedVariables false

/-- The four cells of a device. -/
def DevAt (W : World) (b : Nat) (k : Int) (O G : Set64) (s : Byte) : Prop :=
  (W.cell? ⟨b, 0, none⟩ = some (num k) ∧ W.cell? ⟨b, 1, none⟩ = some (st O) ∧ W.cell? ⟨b, 2, none⟩ = some (st G) ∧ W.cell? ⟨b, 3, none⟩ = some (by8 s)) ∧
  (W.frozen? ⟨b, 0, none⟩ = false ∧ W.frozen? ⟨b, 1, none⟩ = false ∧ W.frozen? ⟨b, 2, none⟩ = false ∧ W.frozen? ⟨b, 3, none⟩ = false)

set_option maxRecDepth 100000 in
set_option maxHeartbeats 4000000 in
theorem allowed_is (k : Int) (O G : Set64) (s : Byte) (v : Bool) (h : allowedB s (acceptB k O G) (G == 0#64) = v) (ad : Addr) (cap : Nat) (w : World) (hR : Rules w ad cap) : Calls Tryd.prog 30 #[dev k O G s] w (Gives w.heap.size w (.bool v)) := by
  unfold Gives
  have hb0 : Below w.heap.size w w := Below.refl _ _
  have HR := Lib.hid hR
  have HV := Lib.hid h
  clear hR h
  generalize ha : acceptB k O G = a at HV
  have HA := Lib.hid ha
  clear ha
  go_enter Tryd.func30, Tryd.ntmps30
  go_wp2_with fail
  refine (written_is _).mono ?_
  rintro e W1 ⟨b, rfl, hbl, hW, hg1⟩
  have HW := Lib.hid hW
  simp only [World.size_alloc, World.size_setCell, World.size_drew] at hbl
  clear hW
  have hb1 : Below w.heap.size w W1 := (show Below w.heap.size w _ by go_grown).trans (hg1.mono (by first | omega | go_size))
  obtain ⟨hc1, hf1⟩ := bcell hg1
  have hs1 := hg1.size
  try simp only [World.size_alloc, World.size_setCell, World.size_drew] at hs1
  have hl1_0_0 : W1.cell? ⟨w.heap.size, 0, none⟩ = some (num k) := (hc1 _ _ (by first | omega | go_size)).trans (by first | (with_reducible assumption) | go_cell)
  have hz1_0_0 : W1.frozen? ⟨w.heap.size, 0, none⟩ = false := (hf1 _ _ (by first | omega | go_size)).trans (by first | (with_reducible assumption) | (go_simp; done) | (simp [*]; done))
  have hl1_0_1 : W1.cell? ⟨w.heap.size, 1, none⟩ = some (st O) := (hc1 _ _ (by first | omega | go_size)).trans (by first | (with_reducible assumption) | go_cell)
  have hz1_0_1 : W1.frozen? ⟨w.heap.size, 1, none⟩ = false := (hf1 _ _ (by first | omega | go_size)).trans (by first | (with_reducible assumption) | (go_simp; done) | (simp [*]; done))
  have hl1_0_2 : W1.cell? ⟨w.heap.size, 2, none⟩ = some (st G) := (hc1 _ _ (by first | omega | go_size)).trans (by first | (with_reducible assumption) | go_cell)
  have hz1_0_2 : W1.frozen? ⟨w.heap.size, 2, none⟩ = false := (hf1 _ _ (by first | omega | go_size)).trans (by first | (with_reducible assumption) | (go_simp; done) | (simp [*]; done))
  have hl1_0_3 : W1.cell? ⟨w.heap.size, 3, none⟩ = some (by8 s) := (hc1 _ _ (by first | omega | go_size)).trans (by first | (with_reducible assumption) | go_cell)
  have hz1_0_3 : W1.frozen? ⟨w.heap.size, 3, none⟩ = false := (hf1 _ _ (by first | omega | go_size)).trans (by first | (with_reducible assumption) | (go_simp; done) | (simp [*]; done))
  have hk1_0 : w.heap.size < W1.heap.size := by omega
  clear hg1 hc1 hf1
  go_wp2_with fail
  go_loopw [7] (fun i wr => ∃ j : Nat, j ≤ 5 ∧ i = num j ∧ okTo s a j = true ∧ Below W1.heap.size W1 wr) (fun i wr => 5 - (intOf i).toNat)
  case atStart => exact ⟨0, by omega, rfl, rfl, Below.refl _ _⟩
  case round =>
    obtain ⟨j, hj, rfl, hok, hb⟩ := hrel
    have hsz := hb.size
    have hbw : Below w.heap.size w wr := hb1.trans (hb.mono (by omega))
    have hcl : ∀ o, wr.cell? ⟨w.heap.size, o, none⟩ = W1.cell? ⟨w.heap.size, o, none⟩ := fun o => hb.cell (p := ⟨w.heap.size, o, none⟩) (by omega)
    have hk0 : w.heap.size < wr.heap.size := by omega
    have m0 : wr.cell? ⟨w.heap.size, 0, none⟩ = some (num k) := (hcl 0).trans hl1_0_0
    have m1 : wr.cell? ⟨w.heap.size, 1, none⟩ = some (st O) := (hcl 1).trans hl1_0_1
    have m2 : wr.cell? ⟨w.heap.size, 2, none⟩ = some (st G) := (hcl 2).trans hl1_0_2
    have m3 : wr.cell? ⟨w.heap.size, 3, none⟩ = some (by8 s) := (hcl 3).trans hl1_0_3
    have hww := HW.out.below hb HW.out.lt
    obtain ⟨hcb, hfb⟩ := bcell hb
    have n0 : wr.frozen? ⟨w.heap.size, 0, none⟩ = false := (hfb _ _ (by omega)).trans hz1_0_0
    have n1 : wr.frozen? ⟨w.heap.size, 1, none⟩ = false := (hfb _ _ (by omega)).trans hz1_0_1
    have n2 : wr.frozen? ⟨w.heap.size, 2, none⟩ = false := (hfb _ _ (by omega)).trans hz1_0_2
    have n3 : wr.frozen? ⟨w.heap.size, 3, none⟩ = false := (hfb _ _ (by omega)).trans hz1_0_3
    clear hcb hfb hcl hl1_0_0 hl1_0_1 hl1_0_2 hl1_0_3 hz1_0_0 hz1_0_1 hz1_0_2 hz1_0_3
    have hok' := Lib.hid hok
    have HR1 := Lib.hid (HR.out.below hb1)
    clear hok
    by_cases h5 : j < 5
    · clear hj
      match j, h5, hok' with
      | 0, _, hok' =>
        have c0 : wr.cell? ⟨b, 0, none⟩ = some (by8 1#8) := hww.cell 0 (by decide)
        have c1 : wr.cell? ⟨b, 1, none⟩ = some (.func (.func 35) #[] #[]) := hww.cell 1 (by decide)
        cases hh : hasb s 1#8 with
        | false =>
          have HH := Lib.hid hh
          clear hh
          go_wp2_with fail
          refine (has_is k O G s 1#8 false HH.out _).mono ?_
          rintro eE W2 ⟨rfl, hg2⟩
          have hb2 : Below W1.heap.size W1 W2 := (show Below W1.heap.size W1 _ by go_grown).trans (hg2.mono (by first | omega | go_size))
          obtain ⟨hc2, hf2⟩ := bcell hg2
          have hs2 := hg2.size
          try simp only [World.size_alloc, World.size_setCell, World.size_drew] at hs2
          have hl2_0_0 : W2.cell? ⟨w.heap.size, 0, none⟩ = some (num k) := (hc2 _ _ (by first | omega | go_size)).trans (by first | (with_reducible assumption) | go_cell)
          have hz2_0_0 : W2.frozen? ⟨w.heap.size, 0, none⟩ = false := (hf2 _ _ (by first | omega | go_size)).trans (by first | (with_reducible assumption) | (go_simp; done) | (simp [*]; done))
          have hl2_0_1 : W2.cell? ⟨w.heap.size, 1, none⟩ = some (st O) := (hc2 _ _ (by first | omega | go_size)).trans (by first | (with_reducible assumption) | go_cell)
          have hz2_0_1 : W2.frozen? ⟨w.heap.size, 1, none⟩ = false := (hf2 _ _ (by first | omega | go_size)).trans (by first | (with_reducible assumption) | (go_simp; done) | (simp [*]; done))
          have hl2_0_2 : W2.cell? ⟨w.heap.size, 2, none⟩ = some (st G) := (hc2 _ _ (by first | omega | go_size)).trans (by first | (with_reducible assumption) | go_cell)
          have hz2_0_2 : W2.frozen? ⟨w.heap.size, 2, none⟩ = false := (hf2 _ _ (by first | omega | go_size)).trans (by first | (with_reducible assumption) | (go_simp; done) | (simp [*]; done))
          have hl2_0_3 : W2.cell? ⟨w.heap.size, 3, none⟩ = some (by8 s) := (hc2 _ _ (by first | omega | go_size)).trans (by first | (with_reducible assumption) | go_cell)
          have hz2_0_3 : W2.frozen? ⟨w.heap.size, 3, none⟩ = false := (hf2 _ _ (by first | omega | go_size)).trans (by first | (with_reducible assumption) | (go_simp; done) | (simp [*]; done))
          have hk2_0 : w.heap.size < W2.heap.size := by omega
          have hl2_1_0 : W2.cell? ⟨wr.heap.size, 0, none⟩ = some (by8 1#8) := (hc2 _ _ (by first | omega | go_size)).trans (by first | (with_reducible assumption) | go_cell)
          have hz2_1_0 : W2.frozen? ⟨wr.heap.size, 0, none⟩ = false := (hf2 _ _ (by first | omega | go_size)).trans (by first | (with_reducible assumption) | (go_simp; done) | (simp [*]; done))
          have hl2_1_1 : W2.cell? ⟨wr.heap.size, 1, none⟩ = some (.func (.func 35) #[] #[]) := (hc2 _ _ (by first | omega | go_size)).trans (by first | (with_reducible assumption) | go_cell)
          have hz2_1_1 : W2.frozen? ⟨wr.heap.size, 1, none⟩ = false := (hf2 _ _ (by first | omega | go_size)).trans (by first | (with_reducible assumption) | (go_simp; done) | (simp [*]; done))
          have hk2_1 : wr.heap.size < W2.heap.size := by omega
          clear hg2 hc2 hf2
          go_wp2_with fail
          go_roundw
          case rel => exact ⟨1, by omega, by go_num, by unfold okTo; rw [hok'.out, show hasb s (bitOf 0) = false from HH.out]; rfl, by go_grown⟩
          case measure => simp [intOf]
        | true =>
          have HH := Lib.hid hh
          clear hh
          go_wp2_with fail
          refine (has_is k O G s 1#8 true HH.out _).mono ?_
          rintro eE W2 ⟨rfl, hg2⟩
          have hb2 : Below W1.heap.size W1 W2 := (show Below W1.heap.size W1 _ by go_grown).trans (hg2.mono (by first | omega | go_size))
          obtain ⟨hc2, hf2⟩ := bcell hg2
          have hs2 := hg2.size
          try simp only [World.size_alloc, World.size_setCell, World.size_drew] at hs2
          have hl2_0_0 : W2.cell? ⟨w.heap.size, 0, none⟩ = some (num k) := (hc2 _ _ (by first | omega | go_size)).trans (by first | (with_reducible assumption) | go_cell)
          have hz2_0_0 : W2.frozen? ⟨w.heap.size, 0, none⟩ = false := (hf2 _ _ (by first | omega | go_size)).trans (by first | (with_reducible assumption) | (go_simp; done) | (simp [*]; done))
          have hl2_0_1 : W2.cell? ⟨w.heap.size, 1, none⟩ = some (st O) := (hc2 _ _ (by first | omega | go_size)).trans (by first | (with_reducible assumption) | go_cell)
          have hz2_0_1 : W2.frozen? ⟨w.heap.size, 1, none⟩ = false := (hf2 _ _ (by first | omega | go_size)).trans (by first | (with_reducible assumption) | (go_simp; done) | (simp [*]; done))
          have hl2_0_2 : W2.cell? ⟨w.heap.size, 2, none⟩ = some (st G) := (hc2 _ _ (by first | omega | go_size)).trans (by first | (with_reducible assumption) | go_cell)
          have hz2_0_2 : W2.frozen? ⟨w.heap.size, 2, none⟩ = false := (hf2 _ _ (by first | omega | go_size)).trans (by first | (with_reducible assumption) | (go_simp; done) | (simp [*]; done))
          have hl2_0_3 : W2.cell? ⟨w.heap.size, 3, none⟩ = some (by8 s) := (hc2 _ _ (by first | omega | go_size)).trans (by first | (with_reducible assumption) | go_cell)
          have hz2_0_3 : W2.frozen? ⟨w.heap.size, 3, none⟩ = false := (hf2 _ _ (by first | omega | go_size)).trans (by first | (with_reducible assumption) | (go_simp; done) | (simp [*]; done))
          have hk2_0 : w.heap.size < W2.heap.size := by omega
          have hl2_1_0 : W2.cell? ⟨wr.heap.size, 0, none⟩ = some (by8 1#8) := (hc2 _ _ (by first | omega | go_size)).trans (by first | (with_reducible assumption) | go_cell)
          have hz2_1_0 : W2.frozen? ⟨wr.heap.size, 0, none⟩ = false := (hf2 _ _ (by first | omega | go_size)).trans (by first | (with_reducible assumption) | (go_simp; done) | (simp [*]; done))
          have hl2_1_1 : W2.cell? ⟨wr.heap.size, 1, none⟩ = some (.func (.func 35) #[] #[]) := (hc2 _ _ (by first | omega | go_size)).trans (by first | (with_reducible assumption) | go_cell)
          have hz2_1_1 : W2.frozen? ⟨wr.heap.size, 1, none⟩ = false := (hf2 _ _ (by first | omega | go_size)).trans (by first | (with_reducible assumption) | (go_simp; done) | (simp [*]; done))
          have hk2_1 : wr.heap.size < W2.heap.size := by omega
          clear hg2 hc2 hf2
          go_wp2_with fail
          refine (may0 k O G s _).mono ?_
          rintro eE W3 ⟨rfl, hg3⟩
          have hb3 : Below W1.heap.size W1 W3 := (show Below W1.heap.size W1 _ by go_grown).trans (hg3.mono (by first | omega | go_size))
          obtain ⟨hc3, hf3⟩ := bcell hg3
          have hs3 := hg3.size
          try simp only [World.size_alloc, World.size_setCell, World.size_drew] at hs3
          have hl3_0_0 : W3.cell? ⟨w.heap.size, 0, none⟩ = some (num k) := (hc3 _ _ (by first | omega | go_size)).trans (by first | (with_reducible assumption) | go_cell)
          have hz3_0_0 : W3.frozen? ⟨w.heap.size, 0, none⟩ = false := (hf3 _ _ (by first | omega | go_size)).trans (by first | (with_reducible assumption) | (go_simp; done) | (simp [*]; done))
          have hl3_0_1 : W3.cell? ⟨w.heap.size, 1, none⟩ = some (st O) := (hc3 _ _ (by first | omega | go_size)).trans (by first | (with_reducible assumption) | go_cell)
          have hz3_0_1 : W3.frozen? ⟨w.heap.size, 1, none⟩ = false := (hf3 _ _ (by first | omega | go_size)).trans (by first | (with_reducible assumption) | (go_simp; done) | (simp [*]; done))
          have hl3_0_2 : W3.cell? ⟨w.heap.size, 2, none⟩ = some (st G) := (hc3 _ _ (by first | omega | go_size)).trans (by first | (with_reducible assumption) | go_cell)
          have hz3_0_2 : W3.frozen? ⟨w.heap.size, 2, none⟩ = false := (hf3 _ _ (by first | omega | go_size)).trans (by first | (with_reducible assumption) | (go_simp; done) | (simp [*]; done))
          have hl3_0_3 : W3.cell? ⟨w.heap.size, 3, none⟩ = some (by8 s) := (hc3 _ _ (by first | omega | go_size)).trans (by first | (with_reducible assumption) | go_cell)
          have hz3_0_3 : W3.frozen? ⟨w.heap.size, 3, none⟩ = false := (hf3 _ _ (by first | omega | go_size)).trans (by first | (with_reducible assumption) | (go_simp; done) | (simp [*]; done))
          have hk3_0 : w.heap.size < W3.heap.size := by omega
          have hl3_1_0 : W3.cell? ⟨wr.heap.size, 0, none⟩ = some (by8 1#8) := (hc3 _ _ (by first | omega | go_size)).trans (by first | (with_reducible assumption) | go_cell)
          have hz3_1_0 : W3.frozen? ⟨wr.heap.size, 0, none⟩ = false := (hf3 _ _ (by first | omega | go_size)).trans (by first | (with_reducible assumption) | (go_simp; done) | (simp [*]; done))
          have hl3_1_1 : W3.cell? ⟨wr.heap.size, 1, none⟩ = some (.func (.func 35) #[] #[]) := (hc3 _ _ (by first | omega | go_size)).trans (by first | (with_reducible assumption) | go_cell)
          have hz3_1_1 : W3.frozen? ⟨wr.heap.size, 1, none⟩ = false := (hf3 _ _ (by first | omega | go_size)).trans (by first | (with_reducible assumption) | (go_simp; done) | (simp [*]; done))
          have hk3_1 : wr.heap.size < W3.heap.size := by omega
          clear hg3 hc3 hf3
          go_wp2_with fail
          go_roundw
          case rel => exact ⟨1, by omega, by go_num, by unfold okTo; rw [hok'.out, show mayB 0 s a = true from rfl, Bool.or_true]; rfl, by go_grown⟩
          case measure => simp [intOf]
      | 1, _, hok' =>
        have c0 : wr.cell? ⟨b, 2, none⟩ = some (by8 2#8) := hww.cell 2 (by decide)
        have c1 : wr.cell? ⟨b, 3, none⟩ = some (.func (.func 36) #[] #[]) := hww.cell 3 (by decide)
        cases hh : hasb s 2#8 with
        | false =>
          have HH := Lib.hid hh
          clear hh
          go_wp2_with fail
          refine (has_is k O G s 2#8 false HH.out _).mono ?_
          rintro eE W2 ⟨rfl, hg2⟩
          have hb2 : Below W1.heap.size W1 W2 := (show Below W1.heap.size W1 _ by go_grown).trans (hg2.mono (by first | omega | go_size))
          obtain ⟨hc2, hf2⟩ := bcell hg2
          have hs2 := hg2.size
          try simp only [World.size_alloc, World.size_setCell, World.size_drew] at hs2
          have hl2_0_0 : W2.cell? ⟨w.heap.size, 0, none⟩ = some (num k) := (hc2 _ _ (by first | omega | go_size)).trans (by first | (with_reducible assumption) | go_cell)
          have hz2_0_0 : W2.frozen? ⟨w.heap.size, 0, none⟩ = false := (hf2 _ _ (by first | omega | go_size)).trans (by first | (with_reducible assumption) | (go_simp; done) | (simp [*]; done))
          have hl2_0_1 : W2.cell? ⟨w.heap.size, 1, none⟩ = some (st O) := (hc2 _ _ (by first | omega | go_size)).trans (by first | (with_reducible assumption) | go_cell)
          have hz2_0_1 : W2.frozen? ⟨w.heap.size, 1, none⟩ = false := (hf2 _ _ (by first | omega | go_size)).trans (by first | (with_reducible assumption) | (go_simp; done) | (simp [*]; done))
          have hl2_0_2 : W2.cell? ⟨w.heap.size, 2, none⟩ = some (st G) := (hc2 _ _ (by first | omega | go_size)).trans (by first | (with_reducible assumption) | go_cell)
          have hz2_0_2 : W2.frozen? ⟨w.heap.size, 2, none⟩ = false := (hf2 _ _ (by first | omega | go_size)).trans (by first | (with_reducible assumption) | (go_simp; done) | (simp [*]; done))
          have hl2_0_3 : W2.cell? ⟨w.heap.size, 3, none⟩ = some (by8 s) := (hc2 _ _ (by first | omega | go_size)).trans (by first | (with_reducible assumption) | go_cell)
          have hz2_0_3 : W2.frozen? ⟨w.heap.size, 3, none⟩ = false := (hf2 _ _ (by first | omega | go_size)).trans (by first | (with_reducible assumption) | (go_simp; done) | (simp [*]; done))
          have hk2_0 : w.heap.size < W2.heap.size := by omega
          have hl2_1_0 : W2.cell? ⟨wr.heap.size, 0, none⟩ = some (by8 2#8) := (hc2 _ _ (by first | omega | go_size)).trans (by first | (with_reducible assumption) | go_cell)
          have hz2_1_0 : W2.frozen? ⟨wr.heap.size, 0, none⟩ = false := (hf2 _ _ (by first | omega | go_size)).trans (by first | (with_reducible assumption) | (go_simp; done) | (simp [*]; done))
          have hl2_1_1 : W2.cell? ⟨wr.heap.size, 1, none⟩ = some (.func (.func 36) #[] #[]) := (hc2 _ _ (by first | omega | go_size)).trans (by first | (with_reducible assumption) | go_cell)
          have hz2_1_1 : W2.frozen? ⟨wr.heap.size, 1, none⟩ = false := (hf2 _ _ (by first | omega | go_size)).trans (by first | (with_reducible assumption) | (go_simp; done) | (simp [*]; done))
          have hk2_1 : wr.heap.size < W2.heap.size := by omega
          clear hg2 hc2 hf2
          go_wp2_with fail
          go_roundw
          case rel => exact ⟨2, by omega, by go_num, by unfold okTo; rw [hok'.out, show hasb s (bitOf 1) = false from HH.out]; rfl, by go_grown⟩
          case measure => simp [intOf]
        | true =>
          have HH := Lib.hid hh
          clear hh
          cases hm : mayB 1 s a with
          | false =>
            have HM := Lib.hid hm
            clear hm
            go_wp2_with fail
            refine (has_is k O G s 2#8 true HH.out _).mono ?_
            rintro eE W2 ⟨rfl, hg2⟩
            have hb2 : Below W1.heap.size W1 W2 := (show Below W1.heap.size W1 _ by go_grown).trans (hg2.mono (by first | omega | go_size))
            obtain ⟨hc2, hf2⟩ := bcell hg2
            have hs2 := hg2.size
            try simp only [World.size_alloc, World.size_setCell, World.size_drew] at hs2
            have hl2_0_0 : W2.cell? ⟨w.heap.size, 0, none⟩ = some (num k) := (hc2 _ _ (by first | omega | go_size)).trans (by first | (with_reducible assumption) | go_cell)
            have hz2_0_0 : W2.frozen? ⟨w.heap.size, 0, none⟩ = false := (hf2 _ _ (by first | omega | go_size)).trans (by first | (with_reducible assumption) | (go_simp; done) | (simp [*]; done))
            have hl2_0_1 : W2.cell? ⟨w.heap.size, 1, none⟩ = some (st O) := (hc2 _ _ (by first | omega | go_size)).trans (by first | (with_reducible assumption) | go_cell)
            have hz2_0_1 : W2.frozen? ⟨w.heap.size, 1, none⟩ = false := (hf2 _ _ (by first | omega | go_size)).trans (by first | (with_reducible assumption) | (go_simp; done) | (simp [*]; done))
            have hl2_0_2 : W2.cell? ⟨w.heap.size, 2, none⟩ = some (st G) := (hc2 _ _ (by first | omega | go_size)).trans (by first | (with_reducible assumption) | go_cell)
            have hz2_0_2 : W2.frozen? ⟨w.heap.size, 2, none⟩ = false := (hf2 _ _ (by first | omega | go_size)).trans (by first | (with_reducible assumption) | (go_simp; done) | (simp [*]; done))
            have hl2_0_3 : W2.cell? ⟨w.heap.size, 3, none⟩ = some (by8 s) := (hc2 _ _ (by first | omega | go_size)).trans (by first | (with_reducible assumption) | go_cell)
            have hz2_0_3 : W2.frozen? ⟨w.heap.size, 3, none⟩ = false := (hf2 _ _ (by first | omega | go_size)).trans (by first | (with_reducible assumption) | (go_simp; done) | (simp [*]; done))
            have hk2_0 : w.heap.size < W2.heap.size := by omega
            have hl2_1_0 : W2.cell? ⟨wr.heap.size, 0, none⟩ = some (by8 2#8) := (hc2 _ _ (by first | omega | go_size)).trans (by first | (with_reducible assumption) | go_cell)
            have hz2_1_0 : W2.frozen? ⟨wr.heap.size, 0, none⟩ = false := (hf2 _ _ (by first | omega | go_size)).trans (by first | (with_reducible assumption) | (go_simp; done) | (simp [*]; done))
            have hl2_1_1 : W2.cell? ⟨wr.heap.size, 1, none⟩ = some (.func (.func 36) #[] #[]) := (hc2 _ _ (by first | omega | go_size)).trans (by first | (with_reducible assumption) | go_cell)
            have hz2_1_1 : W2.frozen? ⟨wr.heap.size, 1, none⟩ = false := (hf2 _ _ (by first | omega | go_size)).trans (by first | (with_reducible assumption) | (go_simp; done) | (simp [*]; done))
            have hk2_1 : wr.heap.size < W2.heap.size := by omega
            clear hg2 hc2 hf2
            go_wp2_with fail
            refine (may1 k O G s false HM.out _).mono ?_
            rintro eE W3 ⟨rfl, hg3⟩
            have hb3 : Below W1.heap.size W1 W3 := (show Below W1.heap.size W1 _ by go_grown).trans (hg3.mono (by first | omega | go_size))
            obtain ⟨hc3, hf3⟩ := bcell hg3
            have hs3 := hg3.size
            try simp only [World.size_alloc, World.size_setCell, World.size_drew] at hs3
            have hl3_0_0 : W3.cell? ⟨w.heap.size, 0, none⟩ = some (num k) := (hc3 _ _ (by first | omega | go_size)).trans (by first | (with_reducible assumption) | go_cell)
            have hz3_0_0 : W3.frozen? ⟨w.heap.size, 0, none⟩ = false := (hf3 _ _ (by first | omega | go_size)).trans (by first | (with_reducible assumption) | (go_simp; done) | (simp [*]; done))
            have hl3_0_1 : W3.cell? ⟨w.heap.size, 1, none⟩ = some (st O) := (hc3 _ _ (by first | omega | go_size)).trans (by first | (with_reducible assumption) | go_cell)
            have hz3_0_1 : W3.frozen? ⟨w.heap.size, 1, none⟩ = false := (hf3 _ _ (by first | omega | go_size)).trans (by first | (with_reducible assumption) | (go_simp; done) | (simp [*]; done))
            have hl3_0_2 : W3.cell? ⟨w.heap.size, 2, none⟩ = some (st G) := (hc3 _ _ (by first | omega | go_size)).trans (by first | (with_reducible assumption) | go_cell)
            have hz3_0_2 : W3.frozen? ⟨w.heap.size, 2, none⟩ = false := (hf3 _ _ (by first | omega | go_size)).trans (by first | (with_reducible assumption) | (go_simp; done) | (simp [*]; done))
            have hl3_0_3 : W3.cell? ⟨w.heap.size, 3, none⟩ = some (by8 s) := (hc3 _ _ (by first | omega | go_size)).trans (by first | (with_reducible assumption) | go_cell)
            have hz3_0_3 : W3.frozen? ⟨w.heap.size, 3, none⟩ = false := (hf3 _ _ (by first | omega | go_size)).trans (by first | (with_reducible assumption) | (go_simp; done) | (simp [*]; done))
            have hk3_0 : w.heap.size < W3.heap.size := by omega
            have hl3_1_0 : W3.cell? ⟨wr.heap.size, 0, none⟩ = some (by8 2#8) := (hc3 _ _ (by first | omega | go_size)).trans (by first | (with_reducible assumption) | go_cell)
            have hz3_1_0 : W3.frozen? ⟨wr.heap.size, 0, none⟩ = false := (hf3 _ _ (by first | omega | go_size)).trans (by first | (with_reducible assumption) | (go_simp; done) | (simp [*]; done))
            have hl3_1_1 : W3.cell? ⟨wr.heap.size, 1, none⟩ = some (.func (.func 36) #[] #[]) := (hc3 _ _ (by first | omega | go_size)).trans (by first | (with_reducible assumption) | go_cell)
            have hz3_1_1 : W3.frozen? ⟨wr.heap.size, 1, none⟩ = false := (hf3 _ _ (by first | omega | go_size)).trans (by first | (with_reducible assumption) | (go_simp; done) | (simp [*]; done))
            have hk3_1 : wr.heap.size < W3.heap.size := by omega
            clear hg3 hc3 hf3
            go_wp2_with fail
            go_ret
            have hv : v = false := by rw [← HV.out]; unfold allowedB; rw [okTo_less (i := 2) (j := 5) (by decide) (by unfold okTo; rw [show hasb s (bitOf 1) = true from HH.out, HM.out]; exact Bool.and_false _)]; rfl
            subst hv
            exact ⟨rfl, hb1.trans (Below.mono (show Below W1.heap.size W1 _ by go_grown) (by omega))⟩
          | true =>
            have HM := Lib.hid hm
            clear hm
            go_wp2_with fail
            refine (has_is k O G s 2#8 true HH.out _).mono ?_
            rintro eE W2 ⟨rfl, hg2⟩
            have hb2 : Below W1.heap.size W1 W2 := (show Below W1.heap.size W1 _ by go_grown).trans (hg2.mono (by first | omega | go_size))
            obtain ⟨hc2, hf2⟩ := bcell hg2
            have hs2 := hg2.size
            try simp only [World.size_alloc, World.size_setCell, World.size_drew] at hs2
            have hl2_0_0 : W2.cell? ⟨w.heap.size, 0, none⟩ = some (num k) := (hc2 _ _ (by first | omega | go_size)).trans (by first | (with_reducible assumption) | go_cell)
            have hz2_0_0 : W2.frozen? ⟨w.heap.size, 0, none⟩ = false := (hf2 _ _ (by first | omega | go_size)).trans (by first | (with_reducible assumption) | (go_simp; done) | (simp [*]; done))
            have hl2_0_1 : W2.cell? ⟨w.heap.size, 1, none⟩ = some (st O) := (hc2 _ _ (by first | omega | go_size)).trans (by first | (with_reducible assumption) | go_cell)
            have hz2_0_1 : W2.frozen? ⟨w.heap.size, 1, none⟩ = false := (hf2 _ _ (by first | omega | go_size)).trans (by first | (with_reducible assumption) | (go_simp; done) | (simp [*]; done))
            have hl2_0_2 : W2.cell? ⟨w.heap.size, 2, none⟩ = some (st G) := (hc2 _ _ (by first | omega | go_size)).trans (by first | (with_reducible assumption) | go_cell)
            have hz2_0_2 : W2.frozen? ⟨w.heap.size, 2, none⟩ = false := (hf2 _ _ (by first | omega | go_size)).trans (by first | (with_reducible assumption) | (go_simp; done) | (simp [*]; done))
            have hl2_0_3 : W2.cell? ⟨w.heap.size, 3, none⟩ = some (by8 s) := (hc2 _ _ (by first | omega | go_size)).trans (by first | (with_reducible assumption) | go_cell)
            have hz2_0_3 : W2.frozen? ⟨w.heap.size, 3, none⟩ = false := (hf2 _ _ (by first | omega | go_size)).trans (by first | (with_reducible assumption) | (go_simp; done) | (simp [*]; done))
            have hk2_0 : w.heap.size < W2.heap.size := by omega
            have hl2_1_0 : W2.cell? ⟨wr.heap.size, 0, none⟩ = some (by8 2#8) := (hc2 _ _ (by first | omega | go_size)).trans (by first | (with_reducible assumption) | go_cell)
            have hz2_1_0 : W2.frozen? ⟨wr.heap.size, 0, none⟩ = false := (hf2 _ _ (by first | omega | go_size)).trans (by first | (with_reducible assumption) | (go_simp; done) | (simp [*]; done))
            have hl2_1_1 : W2.cell? ⟨wr.heap.size, 1, none⟩ = some (.func (.func 36) #[] #[]) := (hc2 _ _ (by first | omega | go_size)).trans (by first | (with_reducible assumption) | go_cell)
            have hz2_1_1 : W2.frozen? ⟨wr.heap.size, 1, none⟩ = false := (hf2 _ _ (by first | omega | go_size)).trans (by first | (with_reducible assumption) | (go_simp; done) | (simp [*]; done))
            have hk2_1 : wr.heap.size < W2.heap.size := by omega
            clear hg2 hc2 hf2
            go_wp2_with fail
            refine (may1 k O G s true HM.out _).mono ?_
            rintro eE W3 ⟨rfl, hg3⟩
            have hb3 : Below W1.heap.size W1 W3 := (show Below W1.heap.size W1 _ by go_grown).trans (hg3.mono (by first | omega | go_size))
            obtain ⟨hc3, hf3⟩ := bcell hg3
            have hs3 := hg3.size
            try simp only [World.size_alloc, World.size_setCell, World.size_drew] at hs3
            have hl3_0_0 : W3.cell? ⟨w.heap.size, 0, none⟩ = some (num k) := (hc3 _ _ (by first | omega | go_size)).trans (by first | (with_reducible assumption) | go_cell)
            have hz3_0_0 : W3.frozen? ⟨w.heap.size, 0, none⟩ = false := (hf3 _ _ (by first | omega | go_size)).trans (by first | (with_reducible assumption) | (go_simp; done) | (simp [*]; done))
            have hl3_0_1 : W3.cell? ⟨w.heap.size, 1, none⟩ = some (st O) := (hc3 _ _ (by first | omega | go_size)).trans (by first | (with_reducible assumption) | go_cell)
            have hz3_0_1 : W3.frozen? ⟨w.heap.size, 1, none⟩ = false := (hf3 _ _ (by first | omega | go_size)).trans (by first | (with_reducible assumption) | (go_simp; done) | (simp [*]; done))
            have hl3_0_2 : W3.cell? ⟨w.heap.size, 2, none⟩ = some (st G) := (hc3 _ _ (by first | omega | go_size)).trans (by first | (with_reducible assumption) | go_cell)
            have hz3_0_2 : W3.frozen? ⟨w.heap.size, 2, none⟩ = false := (hf3 _ _ (by first | omega | go_size)).trans (by first | (with_reducible assumption) | (go_simp; done) | (simp [*]; done))
            have hl3_0_3 : W3.cell? ⟨w.heap.size, 3, none⟩ = some (by8 s) := (hc3 _ _ (by first | omega | go_size)).trans (by first | (with_reducible assumption) | go_cell)
            have hz3_0_3 : W3.frozen? ⟨w.heap.size, 3, none⟩ = false := (hf3 _ _ (by first | omega | go_size)).trans (by first | (with_reducible assumption) | (go_simp; done) | (simp [*]; done))
            have hk3_0 : w.heap.size < W3.heap.size := by omega
            have hl3_1_0 : W3.cell? ⟨wr.heap.size, 0, none⟩ = some (by8 2#8) := (hc3 _ _ (by first | omega | go_size)).trans (by first | (with_reducible assumption) | go_cell)
            have hz3_1_0 : W3.frozen? ⟨wr.heap.size, 0, none⟩ = false := (hf3 _ _ (by first | omega | go_size)).trans (by first | (with_reducible assumption) | (go_simp; done) | (simp [*]; done))
            have hl3_1_1 : W3.cell? ⟨wr.heap.size, 1, none⟩ = some (.func (.func 36) #[] #[]) := (hc3 _ _ (by first | omega | go_size)).trans (by first | (with_reducible assumption) | go_cell)
            have hz3_1_1 : W3.frozen? ⟨wr.heap.size, 1, none⟩ = false := (hf3 _ _ (by first | omega | go_size)).trans (by first | (with_reducible assumption) | (go_simp; done) | (simp [*]; done))
            have hk3_1 : wr.heap.size < W3.heap.size := by omega
            clear hg3 hc3 hf3
            go_wp2_with fail
            go_roundw
            case rel => exact ⟨2, by omega, by go_num, by unfold okTo; rw [hok'.out, HM.out, Bool.or_true]; rfl, by go_grown⟩
            case measure => simp [intOf]
      | 2, _, hok' =>
        have c0 : wr.cell? ⟨b, 4, none⟩ = some (by8 8#8) := hww.cell 4 (by decide)
        have c1 : wr.cell? ⟨b, 5, none⟩ = some (.func (.func 37) #[] #[]) := hww.cell 5 (by decide)
        cases hh : hasb s 8#8 with
        | false =>
          have HH := Lib.hid hh
          clear hh
          go_wp2_with fail
          refine (has_is k O G s 8#8 false HH.out _).mono ?_
          rintro eE W2 ⟨rfl, hg2⟩
          have hb2 : Below W1.heap.size W1 W2 := (show Below W1.heap.size W1 _ by go_grown).trans (hg2.mono (by first | omega | go_size))
          obtain ⟨hc2, hf2⟩ := bcell hg2
          have hs2 := hg2.size
          try simp only [World.size_alloc, World.size_setCell, World.size_drew] at hs2
          have hl2_0_0 : W2.cell? ⟨w.heap.size, 0, none⟩ = some (num k) := (hc2 _ _ (by first | omega | go_size)).trans (by first | (with_reducible assumption) | go_cell)
          have hz2_0_0 : W2.frozen? ⟨w.heap.size, 0, none⟩ = false := (hf2 _ _ (by first | omega | go_size)).trans (by first | (with_reducible assumption) | (go_simp; done) | (simp [*]; done))
          have hl2_0_1 : W2.cell? ⟨w.heap.size, 1, none⟩ = some (st O) := (hc2 _ _ (by first | omega | go_size)).trans (by first | (with_reducible assumption) | go_cell)
          have hz2_0_1 : W2.frozen? ⟨w.heap.size, 1, none⟩ = false := (hf2 _ _ (by first | omega | go_size)).trans (by first | (with_reducible assumption) | (go_simp; done) | (simp [*]; done))
          have hl2_0_2 : W2.cell? ⟨w.heap.size, 2, none⟩ = some (st G) := (hc2 _ _ (by first | omega | go_size)).trans (by first | (with_reducible assumption) | go_cell)
          have hz2_0_2 : W2.frozen? ⟨w.heap.size, 2, none⟩ = false := (hf2 _ _ (by first | omega | go_size)).trans (by first | (with_reducible assumption) | (go_simp; done) | (simp [*]; done))
          have hl2_0_3 : W2.cell? ⟨w.heap.size, 3, none⟩ = some (by8 s) := (hc2 _ _ (by first | omega | go_size)).trans (by first | (with_reducible assumption) | go_cell)
          have hz2_0_3 : W2.frozen? ⟨w.heap.size, 3, none⟩ = false := (hf2 _ _ (by first | omega | go_size)).trans (by first | (with_reducible assumption) | (go_simp; done) | (simp [*]; done))
          have hk2_0 : w.heap.size < W2.heap.size := by omega
          have hl2_1_0 : W2.cell? ⟨wr.heap.size, 0, none⟩ = some (by8 8#8) := (hc2 _ _ (by first | omega | go_size)).trans (by first | (with_reducible assumption) | go_cell)
          have hz2_1_0 : W2.frozen? ⟨wr.heap.size, 0, none⟩ = false := (hf2 _ _ (by first | omega | go_size)).trans (by first | (with_reducible assumption) | (go_simp; done) | (simp [*]; done))
          have hl2_1_1 : W2.cell? ⟨wr.heap.size, 1, none⟩ = some (.func (.func 37) #[] #[]) := (hc2 _ _ (by first | omega | go_size)).trans (by first | (with_reducible assumption) | go_cell)
          have hz2_1_1 : W2.frozen? ⟨wr.heap.size, 1, none⟩ = false := (hf2 _ _ (by first | omega | go_size)).trans (by first | (with_reducible assumption) | (go_simp; done) | (simp [*]; done))
          have hk2_1 : wr.heap.size < W2.heap.size := by omega
          clear hg2 hc2 hf2
          go_wp2_with fail
          go_roundw
          case rel => exact ⟨3, by omega, by go_num, by unfold okTo; rw [hok'.out, show hasb s (bitOf 2) = false from HH.out]; rfl, by go_grown⟩
          case measure => simp [intOf]
        | true =>
          have HH := Lib.hid hh
          clear hh
          cases hm : mayB 2 s a with
          | false =>
            have HM := Lib.hid hm
            clear hm
            go_wp2_with fail
            refine (has_is k O G s 8#8 true HH.out _).mono ?_
            rintro eE W2 ⟨rfl, hg2⟩
            have hb2 : Below W1.heap.size W1 W2 := (show Below W1.heap.size W1 _ by go_grown).trans (hg2.mono (by first | omega | go_size))
            obtain ⟨hc2, hf2⟩ := bcell hg2
            have hs2 := hg2.size
            try simp only [World.size_alloc, World.size_setCell, World.size_drew] at hs2
            have hl2_0_0 : W2.cell? ⟨w.heap.size, 0, none⟩ = some (num k) := (hc2 _ _ (by first | omega | go_size)).trans (by first | (with_reducible assumption) | go_cell)
            have hz2_0_0 : W2.frozen? ⟨w.heap.size, 0, none⟩ = false := (hf2 _ _ (by first | omega | go_size)).trans (by first | (with_reducible assumption) | (go_simp; done) | (simp [*]; done))
            have hl2_0_1 : W2.cell? ⟨w.heap.size, 1, none⟩ = some (st O) := (hc2 _ _ (by first | omega | go_size)).trans (by first | (with_reducible assumption) | go_cell)
            have hz2_0_1 : W2.frozen? ⟨w.heap.size, 1, none⟩ = false := (hf2 _ _ (by first | omega | go_size)).trans (by first | (with_reducible assumption) | (go_simp; done) | (simp [*]; done))
            have hl2_0_2 : W2.cell? ⟨w.heap.size, 2, none⟩ = some (st G) := (hc2 _ _ (by first | omega | go_size)).trans (by first | (with_reducible assumption) | go_cell)
            have hz2_0_2 : W2.frozen? ⟨w.heap.size, 2, none⟩ = false := (hf2 _ _ (by first | omega | go_size)).trans (by first | (with_reducible assumption) | (go_simp; done) | (simp [*]; done))
            have hl2_0_3 : W2.cell? ⟨w.heap.size, 3, none⟩ = some (by8 s) := (hc2 _ _ (by first | omega | go_size)).trans (by first | (with_reducible assumption) | go_cell)
            have hz2_0_3 : W2.frozen? ⟨w.heap.size, 3, none⟩ = false := (hf2 _ _ (by first | omega | go_size)).trans (by first | (with_reducible assumption) | (go_simp; done) | (simp [*]; done))
            have hk2_0 : w.heap.size < W2.heap.size := by omega
            have hl2_1_0 : W2.cell? ⟨wr.heap.size, 0, none⟩ = some (by8 8#8) := (hc2 _ _ (by first | omega | go_size)).trans (by first | (with_reducible assumption) | go_cell)
            have hz2_1_0 : W2.frozen? ⟨wr.heap.size, 0, none⟩ = false := (hf2 _ _ (by first | omega | go_size)).trans (by first | (with_reducible assumption) | (go_simp; done) | (simp [*]; done))
            have hl2_1_1 : W2.cell? ⟨wr.heap.size, 1, none⟩ = some (.func (.func 37) #[] #[]) := (hc2 _ _ (by first | omega | go_size)).trans (by first | (with_reducible assumption) | go_cell)
            have hz2_1_1 : W2.frozen? ⟨wr.heap.size, 1, none⟩ = false := (hf2 _ _ (by first | omega | go_size)).trans (by first | (with_reducible assumption) | (go_simp; done) | (simp [*]; done))
            have hk2_1 : wr.heap.size < W2.heap.size := by omega
            clear hg2 hc2 hf2
            go_wp2_with fail
            refine (may2 k O G s false (by rw [HA.out]; exact HM.out) ad cap _ (HR1.out.below (by go_grown))).mono ?_
            rintro eE W3 ⟨rfl, hg3⟩
            have hb3 : Below W1.heap.size W1 W3 := (show Below W1.heap.size W1 _ by go_grown).trans (hg3.mono (by first | omega | go_size))
            obtain ⟨hc3, hf3⟩ := bcell hg3
            have hs3 := hg3.size
            try simp only [World.size_alloc, World.size_setCell, World.size_drew] at hs3
            have hl3_0_0 : W3.cell? ⟨w.heap.size, 0, none⟩ = some (num k) := (hc3 _ _ (by first | omega | go_size)).trans (by first | (with_reducible assumption) | go_cell)
            have hz3_0_0 : W3.frozen? ⟨w.heap.size, 0, none⟩ = false := (hf3 _ _ (by first | omega | go_size)).trans (by first | (with_reducible assumption) | (go_simp; done) | (simp [*]; done))
            have hl3_0_1 : W3.cell? ⟨w.heap.size, 1, none⟩ = some (st O) := (hc3 _ _ (by first | omega | go_size)).trans (by first | (with_reducible assumption) | go_cell)
            have hz3_0_1 : W3.frozen? ⟨w.heap.size, 1, none⟩ = false := (hf3 _ _ (by first | omega | go_size)).trans (by first | (with_reducible assumption) | (go_simp; done) | (simp [*]; done))
            have hl3_0_2 : W3.cell? ⟨w.heap.size, 2, none⟩ = some (st G) := (hc3 _ _ (by first | omega | go_size)).trans (by first | (with_reducible assumption) | go_cell)
            have hz3_0_2 : W3.frozen? ⟨w.heap.size, 2, none⟩ = false := (hf3 _ _ (by first | omega | go_size)).trans (by first | (with_reducible assumption) | (go_simp; done) | (simp [*]; done))
            have hl3_0_3 : W3.cell? ⟨w.heap.size, 3, none⟩ = some (by8 s) := (hc3 _ _ (by first | omega | go_size)).trans (by first | (with_reducible assumption) | go_cell)
            have hz3_0_3 : W3.frozen? ⟨w.heap.size, 3, none⟩ = false := (hf3 _ _ (by first | omega | go_size)).trans (by first | (with_reducible assumption) | (go_simp; done) | (simp [*]; done))
            have hk3_0 : w.heap.size < W3.heap.size := by omega
            have hl3_1_0 : W3.cell? ⟨wr.heap.size, 0, none⟩ = some (by8 8#8) := (hc3 _ _ (by first | omega | go_size)).trans (by first | (with_reducible assumption) | go_cell)
            have hz3_1_0 : W3.frozen? ⟨wr.heap.size, 0, none⟩ = false := (hf3 _ _ (by first | omega | go_size)).trans (by first | (with_reducible assumption) | (go_simp; done) | (simp [*]; done))
            have hl3_1_1 : W3.cell? ⟨wr.heap.size, 1, none⟩ = some (.func (.func 37) #[] #[]) := (hc3 _ _ (by first | omega | go_size)).trans (by first | (with_reducible assumption) | go_cell)
            have hz3_1_1 : W3.frozen? ⟨wr.heap.size, 1, none⟩ = false := (hf3 _ _ (by first | omega | go_size)).trans (by first | (with_reducible assumption) | (go_simp; done) | (simp [*]; done))
            have hk3_1 : wr.heap.size < W3.heap.size := by omega
            clear hg3 hc3 hf3
            go_wp2_with fail
            go_ret
            have hv : v = false := by rw [← HV.out]; unfold allowedB; rw [okTo_less (i := 3) (j := 5) (by decide) (by unfold okTo; rw [show hasb s (bitOf 2) = true from HH.out, HM.out]; exact Bool.and_false _)]; rfl
            subst hv
            exact ⟨rfl, hb1.trans (Below.mono (show Below W1.heap.size W1 _ by go_grown) (by omega))⟩
          | true =>
            have HM := Lib.hid hm
            clear hm
            go_wp2_with fail
            refine (has_is k O G s 8#8 true HH.out _).mono ?_
            rintro eE W2 ⟨rfl, hg2⟩
            have hb2 : Below W1.heap.size W1 W2 := (show Below W1.heap.size W1 _ by go_grown).trans (hg2.mono (by first | omega | go_size))
            obtain ⟨hc2, hf2⟩ := bcell hg2
            have hs2 := hg2.size
            try simp only [World.size_alloc, World.size_setCell, World.size_drew] at hs2
            have hl2_0_0 : W2.cell? ⟨w.heap.size, 0, none⟩ = some (num k) := (hc2 _ _ (by first | omega | go_size)).trans (by first | (with_reducible assumption) | go_cell)
            have hz2_0_0 : W2.frozen? ⟨w.heap.size, 0, none⟩ = false := (hf2 _ _ (by first | omega | go_size)).trans (by first | (with_reducible assumption) | (go_simp; done) | (simp [*]; done))
            have hl2_0_1 : W2.cell? ⟨w.heap.size, 1, none⟩ = some (st O) := (hc2 _ _ (by first | omega | go_size)).trans (by first | (with_reducible assumption) | go_cell)
            have hz2_0_1 : W2.frozen? ⟨w.heap.size, 1, none⟩ = false := (hf2 _ _ (by first | omega | go_size)).trans (by first | (with_reducible assumption) | (go_simp; done) | (simp [*]; done))
            have hl2_0_2 : W2.cell? ⟨w.heap.size, 2, none⟩ = some (st G) := (hc2 _ _ (by first | omega | go_size)).trans (by first | (with_reducible assumption) | go_cell)
            have hz2_0_2 : W2.frozen? ⟨w.heap.size, 2, none⟩ = false := (hf2 _ _ (by first | omega | go_size)).trans (by first | (with_reducible assumption) | (go_simp; done) | (simp [*]; done))
            have hl2_0_3 : W2.cell? ⟨w.heap.size, 3, none⟩ = some (by8 s) := (hc2 _ _ (by first | omega | go_size)).trans (by first | (with_reducible assumption) | go_cell)
            have hz2_0_3 : W2.frozen? ⟨w.heap.size, 3, none⟩ = false := (hf2 _ _ (by first | omega | go_size)).trans (by first | (with_reducible assumption) | (go_simp; done) | (simp [*]; done))
            have hk2_0 : w.heap.size < W2.heap.size := by omega
            have hl2_1_0 : W2.cell? ⟨wr.heap.size, 0, none⟩ = some (by8 8#8) := (hc2 _ _ (by first | omega | go_size)).trans (by first | (with_reducible assumption) | go_cell)
            have hz2_1_0 : W2.frozen? ⟨wr.heap.size, 0, none⟩ = false := (hf2 _ _ (by first | omega | go_size)).trans (by first | (with_reducible assumption) | (go_simp; done) | (simp [*]; done))
            have hl2_1_1 : W2.cell? ⟨wr.heap.size, 1, none⟩ = some (.func (.func 37) #[] #[]) := (hc2 _ _ (by first | omega | go_size)).trans (by first | (with_reducible assumption) | go_cell)
            have hz2_1_1 : W2.frozen? ⟨wr.heap.size, 1, none⟩ = false := (hf2 _ _ (by first | omega | go_size)).trans (by first | (with_reducible assumption) | (go_simp; done) | (simp [*]; done))
            have hk2_1 : wr.heap.size < W2.heap.size := by omega
            clear hg2 hc2 hf2
            go_wp2_with fail
            refine (may2 k O G s true (by rw [HA.out]; exact HM.out) ad cap _ (HR1.out.below (by go_grown))).mono ?_
            rintro eE W3 ⟨rfl, hg3⟩
            have hb3 : Below W1.heap.size W1 W3 := (show Below W1.heap.size W1 _ by go_grown).trans (hg3.mono (by first | omega | go_size))
            obtain ⟨hc3, hf3⟩ := bcell hg3
            have hs3 := hg3.size
            try simp only [World.size_alloc, World.size_setCell, World.size_drew] at hs3
            have hl3_0_0 : W3.cell? ⟨w.heap.size, 0, none⟩ = some (num k) := (hc3 _ _ (by first | omega | go_size)).trans (by first | (with_reducible assumption) | go_cell)
            have hz3_0_0 : W3.frozen? ⟨w.heap.size, 0, none⟩ = false := (hf3 _ _ (by first | omega | go_size)).trans (by first | (with_reducible assumption) | (go_simp; done) | (simp [*]; done))
            have hl3_0_1 : W3.cell? ⟨w.heap.size, 1, none⟩ = some (st O) := (hc3 _ _ (by first | omega | go_size)).trans (by first | (with_reducible assumption) | go_cell)
            have hz3_0_1 : W3.frozen? ⟨w.heap.size, 1, none⟩ = false := (hf3 _ _ (by first | omega | go_size)).trans (by first | (with_reducible assumption) | (go_simp; done) | (simp [*]; done))
            have hl3_0_2 : W3.cell? ⟨w.heap.size, 2, none⟩ = some (st G) := (hc3 _ _ (by first | omega | go_size)).trans (by first | (with_reducible assumption) | go_cell)
            have hz3_0_2 : W3.frozen? ⟨w.heap.size, 2, none⟩ = false := (hf3 _ _ (by first | omega | go_size)).trans (by first | (with_reducible assumption) | (go_simp; done) | (simp [*]; done))
            have hl3_0_3 : W3.cell? ⟨w.heap.size, 3, none⟩ = some (by8 s) := (hc3 _ _ (by first | omega | go_size)).trans (by first | (with_reducible assumption) | go_cell)
            have hz3_0_3 : W3.frozen? ⟨w.heap.size, 3, none⟩ = false := (hf3 _ _ (by first | omega | go_size)).trans (by first | (with_reducible assumption) | (go_simp; done) | (simp [*]; done))
            have hk3_0 : w.heap.size < W3.heap.size := by omega
            have hl3_1_0 : W3.cell? ⟨wr.heap.size, 0, none⟩ = some (by8 8#8) := (hc3 _ _ (by first | omega | go_size)).trans (by first | (with_reducible assumption) | go_cell)
            have hz3_1_0 : W3.frozen? ⟨wr.heap.size, 0, none⟩ = false := (hf3 _ _ (by first | omega | go_size)).trans (by first | (with_reducible assumption) | (go_simp; done) | (simp [*]; done))
            have hl3_1_1 : W3.cell? ⟨wr.heap.size, 1, none⟩ = some (.func (.func 37) #[] #[]) := (hc3 _ _ (by first | omega | go_size)).trans (by first | (with_reducible assumption) | go_cell)
            have hz3_1_1 : W3.frozen? ⟨wr.heap.size, 1, none⟩ = false := (hf3 _ _ (by first | omega | go_size)).trans (by first | (with_reducible assumption) | (go_simp; done) | (simp [*]; done))
            have hk3_1 : wr.heap.size < W3.heap.size := by omega
            clear hg3 hc3 hf3
            go_wp2_with fail
            go_roundw
            case rel => exact ⟨3, by omega, by go_num, by unfold okTo; rw [hok'.out, HM.out, Bool.or_true]; rfl, by go_grown⟩
            case measure => simp [intOf]
      | 3, _, hok' =>
        have c0 : wr.cell? ⟨b, 6, none⟩ = some (by8 4#8) := hww.cell 6 (by decide)
        have c1 : wr.cell? ⟨b, 7, none⟩ = some (.func (.func 39) #[] #[]) := hww.cell 7 (by decide)
        cases hh : hasb s 4#8 with
        | false =>
          have HH := Lib.hid hh
          clear hh
          go_wp2_with fail
          refine (has_is k O G s 4#8 false HH.out _).mono ?_
          rintro eE W2 ⟨rfl, hg2⟩
          have hb2 : Below W1.heap.size W1 W2 := (show Below W1.heap.size W1 _ by go_grown).trans (hg2.mono (by first | omega | go_size))
          obtain ⟨hc2, hf2⟩ := bcell hg2
          have hs2 := hg2.size
          try simp only [World.size_alloc, World.size_setCell, World.size_drew] at hs2
          have hl2_0_0 : W2.cell? ⟨w.heap.size, 0, none⟩ = some (num k) := (hc2 _ _ (by first | omega | go_size)).trans (by first | (with_reducible assumption) | go_cell)
          have hz2_0_0 : W2.frozen? ⟨w.heap.size, 0, none⟩ = false := (hf2 _ _ (by first | omega | go_size)).trans (by first | (with_reducible assumption) | (go_simp; done) | (simp [*]; done))
          have hl2_0_1 : W2.cell? ⟨w.heap.size, 1, none⟩ = some (st O) := (hc2 _ _ (by first | omega | go_size)).trans (by first | (with_reducible assumption) | go_cell)
          have hz2_0_1 : W2.frozen? ⟨w.heap.size, 1, none⟩ = false := (hf2 _ _ (by first | omega | go_size)).trans (by first | (with_reducible assumption) | (go_simp; done) | (simp [*]; done))
          have hl2_0_2 : W2.cell? ⟨w.heap.size, 2, none⟩ = some (st G) := (hc2 _ _ (by first | omega | go_size)).trans (by first | (with_reducible assumption) | go_cell)
          have hz2_0_2 : W2.frozen? ⟨w.heap.size, 2, none⟩ = false := (hf2 _ _ (by first | omega | go_size)).trans (by first | (with_reducible assumption) | (go_simp; done) | (simp [*]; done))
          have hl2_0_3 : W2.cell? ⟨w.heap.size, 3, none⟩ = some (by8 s) := (hc2 _ _ (by first | omega | go_size)).trans (by first | (with_reducible assumption) | go_cell)
          have hz2_0_3 : W2.frozen? ⟨w.heap.size, 3, none⟩ = false := (hf2 _ _ (by first | omega | go_size)).trans (by first | (with_reducible assumption) | (go_simp; done) | (simp [*]; done))
          have hk2_0 : w.heap.size < W2.heap.size := by omega
          have hl2_1_0 : W2.cell? ⟨wr.heap.size, 0, none⟩ = some (by8 4#8) := (hc2 _ _ (by first | omega | go_size)).trans (by first | (with_reducible assumption) | go_cell)
          have hz2_1_0 : W2.frozen? ⟨wr.heap.size, 0, none⟩ = false := (hf2 _ _ (by first | omega | go_size)).trans (by first | (with_reducible assumption) | (go_simp; done) | (simp [*]; done))
          have hl2_1_1 : W2.cell? ⟨wr.heap.size, 1, none⟩ = some (.func (.func 39) #[] #[]) := (hc2 _ _ (by first | omega | go_size)).trans (by first | (with_reducible assumption) | go_cell)
          have hz2_1_1 : W2.frozen? ⟨wr.heap.size, 1, none⟩ = false := (hf2 _ _ (by first | omega | go_size)).trans (by first | (with_reducible assumption) | (go_simp; done) | (simp [*]; done))
          have hk2_1 : wr.heap.size < W2.heap.size := by omega
          clear hg2 hc2 hf2
          go_wp2_with fail
          go_roundw
          case rel => exact ⟨4, by omega, by go_num, by unfold okTo; rw [hok'.out, show hasb s (bitOf 3) = false from HH.out]; rfl, by go_grown⟩
          case measure => simp [intOf]
        | true =>
          have HH := Lib.hid hh
          clear hh
          cases hm : mayB 3 s a with
          | false =>
            have HM := Lib.hid hm
            clear hm
            go_wp2_with fail
            refine (has_is k O G s 4#8 true HH.out _).mono ?_
            rintro eE W2 ⟨rfl, hg2⟩
            have hb2 : Below W1.heap.size W1 W2 := (show Below W1.heap.size W1 _ by go_grown).trans (hg2.mono (by first | omega | go_size))
            obtain ⟨hc2, hf2⟩ := bcell hg2
            have hs2 := hg2.size
            try simp only [World.size_alloc, World.size_setCell, World.size_drew] at hs2
            have hl2_0_0 : W2.cell? ⟨w.heap.size, 0, none⟩ = some (num k) := (hc2 _ _ (by first | omega | go_size)).trans (by first | (with_reducible assumption) | go_cell)
            have hz2_0_0 : W2.frozen? ⟨w.heap.size, 0, none⟩ = false := (hf2 _ _ (by first | omega | go_size)).trans (by first | (with_reducible assumption) | (go_simp; done) | (simp [*]; done))
            have hl2_0_1 : W2.cell? ⟨w.heap.size, 1, none⟩ = some (st O) := (hc2 _ _ (by first | omega | go_size)).trans (by first | (with_reducible assumption) | go_cell)
            have hz2_0_1 : W2.frozen? ⟨w.heap.size, 1, none⟩ = false := (hf2 _ _ (by first | omega | go_size)).trans (by first | (with_reducible assumption) | (go_simp; done) | (simp [*]; done))
            have hl2_0_2 : W2.cell? ⟨w.heap.size, 2, none⟩ = some (st G) := (hc2 _ _ (by first | omega | go_size)).trans (by first | (with_reducible assumption) | go_cell)
            have hz2_0_2 : W2.frozen? ⟨w.heap.size, 2, none⟩ = false := (hf2 _ _ (by first | omega | go_size)).trans (by first | (with_reducible assumption) | (go_simp; done) | (simp [*]; done))
            have hl2_0_3 : W2.cell? ⟨w.heap.size, 3, none⟩ = some (by8 s) := (hc2 _ _ (by first | omega | go_size)).trans (by first | (with_reducible assumption) | go_cell)
            have hz2_0_3 : W2.frozen? ⟨w.heap.size, 3, none⟩ = false := (hf2 _ _ (by first | omega | go_size)).trans (by first | (with_reducible assumption) | (go_simp; done) | (simp [*]; done))
            have hk2_0 : w.heap.size < W2.heap.size := by omega
            have hl2_1_0 : W2.cell? ⟨wr.heap.size, 0, none⟩ = some (by8 4#8) := (hc2 _ _ (by first | omega | go_size)).trans (by first | (with_reducible assumption) | go_cell)
            have hz2_1_0 : W2.frozen? ⟨wr.heap.size, 0, none⟩ = false := (hf2 _ _ (by first | omega | go_size)).trans (by first | (with_reducible assumption) | (go_simp; done) | (simp [*]; done))
            have hl2_1_1 : W2.cell? ⟨wr.heap.size, 1, none⟩ = some (.func (.func 39) #[] #[]) := (hc2 _ _ (by first | omega | go_size)).trans (by first | (with_reducible assumption) | go_cell)
            have hz2_1_1 : W2.frozen? ⟨wr.heap.size, 1, none⟩ = false := (hf2 _ _ (by first | omega | go_size)).trans (by first | (with_reducible assumption) | (go_simp; done) | (simp [*]; done))
            have hk2_1 : wr.heap.size < W2.heap.size := by omega
            clear hg2 hc2 hf2
            go_wp2_with fail
            refine (may3 k O G s false HM.out _).mono ?_
            rintro eE W3 ⟨rfl, hg3⟩
            have hb3 : Below W1.heap.size W1 W3 := (show Below W1.heap.size W1 _ by go_grown).trans (hg3.mono (by first | omega | go_size))
            obtain ⟨hc3, hf3⟩ := bcell hg3
            have hs3 := hg3.size
            try simp only [World.size_alloc, World.size_setCell, World.size_drew] at hs3
            have hl3_0_0 : W3.cell? ⟨w.heap.size, 0, none⟩ = some (num k) := (hc3 _ _ (by first | omega | go_size)).trans (by first | (with_reducible assumption) | go_cell)
            have hz3_0_0 : W3.frozen? ⟨w.heap.size, 0, none⟩ = false := (hf3 _ _ (by first | omega | go_size)).trans (by first | (with_reducible assumption) | (go_simp; done) | (simp [*]; done))
            have hl3_0_1 : W3.cell? ⟨w.heap.size, 1, none⟩ = some (st O) := (hc3 _ _ (by first | omega | go_size)).trans (by first | (with_reducible assumption) | go_cell)
            have hz3_0_1 : W3.frozen? ⟨w.heap.size, 1, none⟩ = false := (hf3 _ _ (by first | omega | go_size)).trans (by first | (with_reducible assumption) | (go_simp; done) | (simp [*]; done))
            have hl3_0_2 : W3.cell? ⟨w.heap.size, 2, none⟩ = some (st G) := (hc3 _ _ (by first | omega | go_size)).trans (by first | (with_reducible assumption) | go_cell)
            have hz3_0_2 : W3.frozen? ⟨w.heap.size, 2, none⟩ = false := (hf3 _ _ (by first | omega | go_size)).trans (by first | (with_reducible assumption) | (go_simp; done) | (simp [*]; done))
            have hl3_0_3 : W3.cell? ⟨w.heap.size, 3, none⟩ = some (by8 s) := (hc3 _ _ (by first | omega | go_size)).trans (by first | (with_reducible assumption) | go_cell)
            have hz3_0_3 : W3.frozen? ⟨w.heap.size, 3, none⟩ = false := (hf3 _ _ (by first | omega | go_size)).trans (by first | (with_reducible assumption) | (go_simp; done) | (simp [*]; done))
            have hk3_0 : w.heap.size < W3.heap.size := by omega
            have hl3_1_0 : W3.cell? ⟨wr.heap.size, 0, none⟩ = some (by8 4#8) := (hc3 _ _ (by first | omega | go_size)).trans (by first | (with_reducible assumption) | go_cell)
            have hz3_1_0 : W3.frozen? ⟨wr.heap.size, 0, none⟩ = false := (hf3 _ _ (by first | omega | go_size)).trans (by first | (with_reducible assumption) | (go_simp; done) | (simp [*]; done))
            have hl3_1_1 : W3.cell? ⟨wr.heap.size, 1, none⟩ = some (.func (.func 39) #[] #[]) := (hc3 _ _ (by first | omega | go_size)).trans (by first | (with_reducible assumption) | go_cell)
            have hz3_1_1 : W3.frozen? ⟨wr.heap.size, 1, none⟩ = false := (hf3 _ _ (by first | omega | go_size)).trans (by first | (with_reducible assumption) | (go_simp; done) | (simp [*]; done))
            have hk3_1 : wr.heap.size < W3.heap.size := by omega
            clear hg3 hc3 hf3
            go_wp2_with fail
            go_ret
            have hv : v = false := by rw [← HV.out]; unfold allowedB; rw [okTo_less (i := 4) (j := 5) (by decide) (by unfold okTo; rw [show hasb s (bitOf 3) = true from HH.out, HM.out]; exact Bool.and_false _)]; rfl
            subst hv
            exact ⟨rfl, hb1.trans (Below.mono (show Below W1.heap.size W1 _ by go_grown) (by omega))⟩
          | true =>
            have HM := Lib.hid hm
            clear hm
            go_wp2_with fail
            refine (has_is k O G s 4#8 true HH.out _).mono ?_
            rintro eE W2 ⟨rfl, hg2⟩
            have hb2 : Below W1.heap.size W1 W2 := (show Below W1.heap.size W1 _ by go_grown).trans (hg2.mono (by first | omega | go_size))
            obtain ⟨hc2, hf2⟩ := bcell hg2
            have hs2 := hg2.size
            try simp only [World.size_alloc, World.size_setCell, World.size_drew] at hs2
            have hl2_0_0 : W2.cell? ⟨w.heap.size, 0, none⟩ = some (num k) := (hc2 _ _ (by first | omega | go_size)).trans (by first | (with_reducible assumption) | go_cell)
            have hz2_0_0 : W2.frozen? ⟨w.heap.size, 0, none⟩ = false := (hf2 _ _ (by first | omega | go_size)).trans (by first | (with_reducible assumption) | (go_simp; done) | (simp [*]; done))
            have hl2_0_1 : W2.cell? ⟨w.heap.size, 1, none⟩ = some (st O) := (hc2 _ _ (by first | omega | go_size)).trans (by first | (with_reducible assumption) | go_cell)
            have hz2_0_1 : W2.frozen? ⟨w.heap.size, 1, none⟩ = false := (hf2 _ _ (by first | omega | go_size)).trans (by first | (with_reducible assumption) | (go_simp; done) | (simp [*]; done))
            have hl2_0_2 : W2.cell? ⟨w.heap.size, 2, none⟩ = some (st G) := (hc2 _ _ (by first | omega | go_size)).trans (by first | (with_reducible assumption) | go_cell)
            have hz2_0_2 : W2.frozen? ⟨w.heap.size, 2, none⟩ = false := (hf2 _ _ (by first | omega | go_size)).trans (by first | (with_reducible assumption) | (go_simp; done) | (simp [*]; done))
            have hl2_0_3 : W2.cell? ⟨w.heap.size, 3, none⟩ = some (by8 s) := (hc2 _ _ (by first | omega | go_size)).trans (by first | (with_reducible assumption) | go_cell)
            have hz2_0_3 : W2.frozen? ⟨w.heap.size, 3, none⟩ = false := (hf2 _ _ (by first | omega | go_size)).trans (by first | (with_reducible assumption) | (go_simp; done) | (simp [*]; done))
            have hk2_0 : w.heap.size < W2.heap.size := by omega
            have hl2_1_0 : W2.cell? ⟨wr.heap.size, 0, none⟩ = some (by8 4#8) := (hc2 _ _ (by first | omega | go_size)).trans (by first | (with_reducible assumption) | go_cell)
            have hz2_1_0 : W2.frozen? ⟨wr.heap.size, 0, none⟩ = false := (hf2 _ _ (by first | omega | go_size)).trans (by first | (with_reducible assumption) | (go_simp; done) | (simp [*]; done))
            have hl2_1_1 : W2.cell? ⟨wr.heap.size, 1, none⟩ = some (.func (.func 39) #[] #[]) := (hc2 _ _ (by first | omega | go_size)).trans (by first | (with_reducible assumption) | go_cell)
            have hz2_1_1 : W2.frozen? ⟨wr.heap.size, 1, none⟩ = false := (hf2 _ _ (by first | omega | go_size)).trans (by first | (with_reducible assumption) | (go_simp; done) | (simp [*]; done))
            have hk2_1 : wr.heap.size < W2.heap.size := by omega
            clear hg2 hc2 hf2
            go_wp2_with fail
            refine (may3 k O G s true HM.out _).mono ?_
            rintro eE W3 ⟨rfl, hg3⟩
            have hb3 : Below W1.heap.size W1 W3 := (show Below W1.heap.size W1 _ by go_grown).trans (hg3.mono (by first | omega | go_size))
            obtain ⟨hc3, hf3⟩ := bcell hg3
            have hs3 := hg3.size
            try simp only [World.size_alloc, World.size_setCell, World.size_drew] at hs3
            have hl3_0_0 : W3.cell? ⟨w.heap.size, 0, none⟩ = some (num k) := (hc3 _ _ (by first | omega | go_size)).trans (by first | (with_reducible assumption) | go_cell)
            have hz3_0_0 : W3.frozen? ⟨w.heap.size, 0, none⟩ = false := (hf3 _ _ (by first | omega | go_size)).trans (by first | (with_reducible assumption) | (go_simp; done) | (simp [*]; done))
            have hl3_0_1 : W3.cell? ⟨w.heap.size, 1, none⟩ = some (st O) := (hc3 _ _ (by first | omega | go_size)).trans (by first | (with_reducible assumption) | go_cell)
            have hz3_0_1 : W3.frozen? ⟨w.heap.size, 1, none⟩ = false := (hf3 _ _ (by first | omega | go_size)).trans (by first | (with_reducible assumption) | (go_simp; done) | (simp [*]; done))
            have hl3_0_2 : W3.cell? ⟨w.heap.size, 2, none⟩ = some (st G) := (hc3 _ _ (by first | omega | go_size)).trans (by first | (with_reducible assumption) | go_cell)
            have hz3_0_2 : W3.frozen? ⟨w.heap.size, 2, none⟩ = false := (hf3 _ _ (by first | omega | go_size)).trans (by first | (with_reducible assumption) | (go_simp; done) | (simp [*]; done))
            have hl3_0_3 : W3.cell? ⟨w.heap.size, 3, none⟩ = some (by8 s) := (hc3 _ _ (by first | omega | go_size)).trans (by first | (with_reducible assumption) | go_cell)
            have hz3_0_3 : W3.frozen? ⟨w.heap.size, 3, none⟩ = false := (hf3 _ _ (by first | omega | go_size)).trans (by first | (with_reducible assumption) | (go_simp; done) | (simp [*]; done))
            have hk3_0 : w.heap.size < W3.heap.size := by omega
            have hl3_1_0 : W3.cell? ⟨wr.heap.size, 0, none⟩ = some (by8 4#8) := (hc3 _ _ (by first | omega | go_size)).trans (by first | (with_reducible assumption) | go_cell)
            have hz3_1_0 : W3.frozen? ⟨wr.heap.size, 0, none⟩ = false := (hf3 _ _ (by first | omega | go_size)).trans (by first | (with_reducible assumption) | (go_simp; done) | (simp [*]; done))
            have hl3_1_1 : W3.cell? ⟨wr.heap.size, 1, none⟩ = some (.func (.func 39) #[] #[]) := (hc3 _ _ (by first | omega | go_size)).trans (by first | (with_reducible assumption) | go_cell)
            have hz3_1_1 : W3.frozen? ⟨wr.heap.size, 1, none⟩ = false := (hf3 _ _ (by first | omega | go_size)).trans (by first | (with_reducible assumption) | (go_simp; done) | (simp [*]; done))
            have hk3_1 : wr.heap.size < W3.heap.size := by omega
            clear hg3 hc3 hf3
            go_wp2_with fail
            go_roundw
            case rel => exact ⟨4, by omega, by go_num, by unfold okTo; rw [hok'.out, HM.out, Bool.or_true]; rfl, by go_grown⟩
            case measure => simp [intOf]
      | 4, _, hok' =>
        have c0 : wr.cell? ⟨b, 8, none⟩ = some (by8 128#8) := hww.cell 8 (by decide)
        have c1 : wr.cell? ⟨b, 9, none⟩ = some (.func (.func 35) #[] #[]) := hww.cell 9 (by decide)
        cases hh : hasb s 128#8 with
        | false =>
          have HH := Lib.hid hh
          clear hh
          go_wp2_with fail
          refine (has_is k O G s 128#8 false HH.out _).mono ?_
          rintro eE W2 ⟨rfl, hg2⟩
          have hb2 : Below W1.heap.size W1 W2 := (show Below W1.heap.size W1 _ by go_grown).trans (hg2.mono (by first | omega | go_size))
          obtain ⟨hc2, hf2⟩ := bcell hg2
          have hs2 := hg2.size
          try simp only [World.size_alloc, World.size_setCell, World.size_drew] at hs2
          have hl2_0_0 : W2.cell? ⟨w.heap.size, 0, none⟩ = some (num k) := (hc2 _ _ (by first | omega | go_size)).trans (by first | (with_reducible assumption) | go_cell)
          have hz2_0_0 : W2.frozen? ⟨w.heap.size, 0, none⟩ = false := (hf2 _ _ (by first | omega | go_size)).trans (by first | (with_reducible assumption) | (go_simp; done) | (simp [*]; done))
          have hl2_0_1 : W2.cell? ⟨w.heap.size, 1, none⟩ = some (st O) := (hc2 _ _ (by first | omega | go_size)).trans (by first | (with_reducible assumption) | go_cell)
          have hz2_0_1 : W2.frozen? ⟨w.heap.size, 1, none⟩ = false := (hf2 _ _ (by first | omega | go_size)).trans (by first | (with_reducible assumption) | (go_simp; done) | (simp [*]; done))
          have hl2_0_2 : W2.cell? ⟨w.heap.size, 2, none⟩ = some (st G) := (hc2 _ _ (by first | omega | go_size)).trans (by first | (with_reducible assumption) | go_cell)
          have hz2_0_2 : W2.frozen? ⟨w.heap.size, 2, none⟩ = false := (hf2 _ _ (by first | omega | go_size)).trans (by first | (with_reducible assumption) | (go_simp; done) | (simp [*]; done))
          have hl2_0_3 : W2.cell? ⟨w.heap.size, 3, none⟩ = some (by8 s) := (hc2 _ _ (by first | omega | go_size)).trans (by first | (with_reducible assumption) | go_cell)
          have hz2_0_3 : W2.frozen? ⟨w.heap.size, 3, none⟩ = false := (hf2 _ _ (by first | omega | go_size)).trans (by first | (with_reducible assumption) | (go_simp; done) | (simp [*]; done))
          have hk2_0 : w.heap.size < W2.heap.size := by omega
          have hl2_1_0 : W2.cell? ⟨wr.heap.size, 0, none⟩ = some (by8 128#8) := (hc2 _ _ (by first | omega | go_size)).trans (by first | (with_reducible assumption) | go_cell)
          have hz2_1_0 : W2.frozen? ⟨wr.heap.size, 0, none⟩ = false := (hf2 _ _ (by first | omega | go_size)).trans (by first | (with_reducible assumption) | (go_simp; done) | (simp [*]; done))
          have hl2_1_1 : W2.cell? ⟨wr.heap.size, 1, none⟩ = some (.func (.func 35) #[] #[]) := (hc2 _ _ (by first | omega | go_size)).trans (by first | (with_reducible assumption) | go_cell)
          have hz2_1_1 : W2.frozen? ⟨wr.heap.size, 1, none⟩ = false := (hf2 _ _ (by first | omega | go_size)).trans (by first | (with_reducible assumption) | (go_simp; done) | (simp [*]; done))
          have hk2_1 : wr.heap.size < W2.heap.size := by omega
          clear hg2 hc2 hf2
          go_wp2_with fail
          go_roundw
          case rel => exact ⟨5, by omega, by go_num, by unfold okTo; rw [hok'.out, show hasb s (bitOf 4) = false from HH.out]; rfl, by go_grown⟩
          case measure => simp [intOf]
        | true =>
          have HH := Lib.hid hh
          clear hh
          go_wp2_with fail
          refine (has_is k O G s 128#8 true HH.out _).mono ?_
          rintro eE W2 ⟨rfl, hg2⟩
          have hb2 : Below W1.heap.size W1 W2 := (show Below W1.heap.size W1 _ by go_grown).trans (hg2.mono (by first | omega | go_size))
          obtain ⟨hc2, hf2⟩ := bcell hg2
          have hs2 := hg2.size
          try simp only [World.size_alloc, World.size_setCell, World.size_drew] at hs2
          have hl2_0_0 : W2.cell? ⟨w.heap.size, 0, none⟩ = some (num k) := (hc2 _ _ (by first | omega | go_size)).trans (by first | (with_reducible assumption) | go_cell)
          have hz2_0_0 : W2.frozen? ⟨w.heap.size, 0, none⟩ = false := (hf2 _ _ (by first | omega | go_size)).trans (by first | (with_reducible assumption) | (go_simp; done) | (simp [*]; done))
          have hl2_0_1 : W2.cell? ⟨w.heap.size, 1, none⟩ = some (st O) := (hc2 _ _ (by first | omega | go_size)).trans (by first | (with_reducible assumption) | go_cell)
          have hz2_0_1 : W2.frozen? ⟨w.heap.size, 1, none⟩ = false := (hf2 _ _ (by first | omega | go_size)).trans (by first | (with_reducible assumption) | (go_simp; done) | (simp [*]; done))
          have hl2_0_2 : W2.cell? ⟨w.heap.size, 2, none⟩ = some (st G) := (hc2 _ _ (by first | omega | go_size)).trans (by first | (with_reducible assumption) | go_cell)
          have hz2_0_2 : W2.frozen? ⟨w.heap.size, 2, none⟩ = false := (hf2 _ _ (by first | omega | go_size)).trans (by first | (with_reducible assumption) | (go_simp; done) | (simp [*]; done))
          have hl2_0_3 : W2.cell? ⟨w.heap.size, 3, none⟩ = some (by8 s) := (hc2 _ _ (by first | omega | go_size)).trans (by first | (with_reducible assumption) | go_cell)
          have hz2_0_3 : W2.frozen? ⟨w.heap.size, 3, none⟩ = false := (hf2 _ _ (by first | omega | go_size)).trans (by first | (with_reducible assumption) | (go_simp; done) | (simp [*]; done))
          have hk2_0 : w.heap.size < W2.heap.size := by omega
          have hl2_1_0 : W2.cell? ⟨wr.heap.size, 0, none⟩ = some (by8 128#8) := (hc2 _ _ (by first | omega | go_size)).trans (by first | (with_reducible assumption) | go_cell)
          have hz2_1_0 : W2.frozen? ⟨wr.heap.size, 0, none⟩ = false := (hf2 _ _ (by first | omega | go_size)).trans (by first | (with_reducible assumption) | (go_simp; done) | (simp [*]; done))
          have hl2_1_1 : W2.cell? ⟨wr.heap.size, 1, none⟩ = some (.func (.func 35) #[] #[]) := (hc2 _ _ (by first | omega | go_size)).trans (by first | (with_reducible assumption) | go_cell)
          have hz2_1_1 : W2.frozen? ⟨wr.heap.size, 1, none⟩ = false := (hf2 _ _ (by first | omega | go_size)).trans (by first | (with_reducible assumption) | (go_simp; done) | (simp [*]; done))
          have hk2_1 : wr.heap.size < W2.heap.size := by omega
          clear hg2 hc2 hf2
          go_wp2_with fail
          refine (may0 k O G s _).mono ?_
          rintro eE W3 ⟨rfl, hg3⟩
          have hb3 : Below W1.heap.size W1 W3 := (show Below W1.heap.size W1 _ by go_grown).trans (hg3.mono (by first | omega | go_size))
          obtain ⟨hc3, hf3⟩ := bcell hg3
          have hs3 := hg3.size
          try simp only [World.size_alloc, World.size_setCell, World.size_drew] at hs3
          have hl3_0_0 : W3.cell? ⟨w.heap.size, 0, none⟩ = some (num k) := (hc3 _ _ (by first | omega | go_size)).trans (by first | (with_reducible assumption) | go_cell)
          have hz3_0_0 : W3.frozen? ⟨w.heap.size, 0, none⟩ = false := (hf3 _ _ (by first | omega | go_size)).trans (by first | (with_reducible assumption) | (go_simp; done) | (simp [*]; done))
          have hl3_0_1 : W3.cell? ⟨w.heap.size, 1, none⟩ = some (st O) := (hc3 _ _ (by first | omega | go_size)).trans (by first | (with_reducible assumption) | go_cell)
          have hz3_0_1 : W3.frozen? ⟨w.heap.size, 1, none⟩ = false := (hf3 _ _ (by first | omega | go_size)).trans (by first | (with_reducible assumption) | (go_simp; done) | (simp [*]; done))
          have hl3_0_2 : W3.cell? ⟨w.heap.size, 2, none⟩ = some (st G) := (hc3 _ _ (by first | omega | go_size)).trans (by first | (with_reducible assumption) | go_cell)
          have hz3_0_2 : W3.frozen? ⟨w.heap.size, 2, none⟩ = false := (hf3 _ _ (by first | omega | go_size)).trans (by first | (with_reducible assumption) | (go_simp; done) | (simp [*]; done))
          have hl3_0_3 : W3.cell? ⟨w.heap.size, 3, none⟩ = some (by8 s) := (hc3 _ _ (by first | omega | go_size)).trans (by first | (with_reducible assumption) | go_cell)
          have hz3_0_3 : W3.frozen? ⟨w.heap.size, 3, none⟩ = false := (hf3 _ _ (by first | omega | go_size)).trans (by first | (with_reducible assumption) | (go_simp; done) | (simp [*]; done))
          have hk3_0 : w.heap.size < W3.heap.size := by omega
          have hl3_1_0 : W3.cell? ⟨wr.heap.size, 0, none⟩ = some (by8 128#8) := (hc3 _ _ (by first | omega | go_size)).trans (by first | (with_reducible assumption) | go_cell)
          have hz3_1_0 : W3.frozen? ⟨wr.heap.size, 0, none⟩ = false := (hf3 _ _ (by first | omega | go_size)).trans (by first | (with_reducible assumption) | (go_simp; done) | (simp [*]; done))
          have hl3_1_1 : W3.cell? ⟨wr.heap.size, 1, none⟩ = some (.func (.func 35) #[] #[]) := (hc3 _ _ (by first | omega | go_size)).trans (by first | (with_reducible assumption) | go_cell)
          have hz3_1_1 : W3.frozen? ⟨wr.heap.size, 1, none⟩ = false := (hf3 _ _ (by first | omega | go_size)).trans (by first | (with_reducible assumption) | (go_simp; done) | (simp [*]; done))
          have hk3_1 : wr.heap.size < W3.heap.size := by omega
          clear hg3 hc3 hf3
          go_wp2_with fail
          go_roundw
          case rel => exact ⟨5, by omega, by go_num, by unfold okTo; rw [hok'.out, show mayB 4 s a = true from rfl, Bool.or_true]; rfl, by go_grown⟩
          case measure => simp [intOf]
    · obtain rfl : j = 5 := by omega
      have hbw' := hbw
      have e5 : (nu G == 0) = (G == 0#64) := nu_beq0 G
      have hv : v = ((hasb s 4#8 || !hasb s 64#8) && (hasb s 2#8 || G == 0#64)) := by rw [← HV.out]; unfold allowedB; rw [hok'.out]; rfl
      clear hok'
      cases hp : hasb s 4#8 with
      | true =>
        cases hr : hasb s 2#8 with
        | false =>
          obtain rfl : v = (G == 0#64) := by rw [hv, hp, hr]; rfl
          have HP := Lib.hid hp
          have HS := Lib.hid hr
          clear hp  hr hv
          go_wp2_with fail
          refine (has_is k O G s 4#8 true HP.out _).mono ?_
          rintro eE W2 ⟨rfl, hg2⟩
          have hb2 : Below W1.heap.size W1 W2 := (show Below W1.heap.size W1 _ by go_grown).trans (hg2.mono (by first | omega | go_size))
          obtain ⟨hc2, hf2⟩ := bcell hg2
          have hs2 := hg2.size
          try simp only [World.size_alloc, World.size_setCell, World.size_drew] at hs2
          have hl2_0_0 : W2.cell? ⟨w.heap.size, 0, none⟩ = some (num k) := (hc2 _ _ (by first | omega | go_size)).trans (by first | (with_reducible assumption) | go_cell)
          have hz2_0_0 : W2.frozen? ⟨w.heap.size, 0, none⟩ = false := (hf2 _ _ (by first | omega | go_size)).trans (by first | (with_reducible assumption) | (go_simp; done) | (simp [*]; done))
          have hl2_0_1 : W2.cell? ⟨w.heap.size, 1, none⟩ = some (st O) := (hc2 _ _ (by first | omega | go_size)).trans (by first | (with_reducible assumption) | go_cell)
          have hz2_0_1 : W2.frozen? ⟨w.heap.size, 1, none⟩ = false := (hf2 _ _ (by first | omega | go_size)).trans (by first | (with_reducible assumption) | (go_simp; done) | (simp [*]; done))
          have hl2_0_2 : W2.cell? ⟨w.heap.size, 2, none⟩ = some (st G) := (hc2 _ _ (by first | omega | go_size)).trans (by first | (with_reducible assumption) | go_cell)
          have hz2_0_2 : W2.frozen? ⟨w.heap.size, 2, none⟩ = false := (hf2 _ _ (by first | omega | go_size)).trans (by first | (with_reducible assumption) | (go_simp; done) | (simp [*]; done))
          have hl2_0_3 : W2.cell? ⟨w.heap.size, 3, none⟩ = some (by8 s) := (hc2 _ _ (by first | omega | go_size)).trans (by first | (with_reducible assumption) | go_cell)
          have hz2_0_3 : W2.frozen? ⟨w.heap.size, 3, none⟩ = false := (hf2 _ _ (by first | omega | go_size)).trans (by first | (with_reducible assumption) | (go_simp; done) | (simp [*]; done))
          have hk2_0 : w.heap.size < W2.heap.size := by omega
          clear hg2 hc2 hf2
          go_wp2_with fail
          refine (has_is k O G s 2#8 false HS.out _).mono ?_
          rintro eE W3 ⟨rfl, hg3⟩
          have hb3 : Below W1.heap.size W1 W3 := (show Below W1.heap.size W1 _ by go_grown).trans (hg3.mono (by first | omega | go_size))
          obtain ⟨hc3, hf3⟩ := bcell hg3
          have hs3 := hg3.size
          try simp only [World.size_alloc, World.size_setCell, World.size_drew] at hs3
          have hl3_0_0 : W3.cell? ⟨w.heap.size, 0, none⟩ = some (num k) := (hc3 _ _ (by first | omega | go_size)).trans (by first | (with_reducible assumption) | go_cell)
          have hz3_0_0 : W3.frozen? ⟨w.heap.size, 0, none⟩ = false := (hf3 _ _ (by first | omega | go_size)).trans (by first | (with_reducible assumption) | (go_simp; done) | (simp [*]; done))
          have hl3_0_1 : W3.cell? ⟨w.heap.size, 1, none⟩ = some (st O) := (hc3 _ _ (by first | omega | go_size)).trans (by first | (with_reducible assumption) | go_cell)
          have hz3_0_1 : W3.frozen? ⟨w.heap.size, 1, none⟩ = false := (hf3 _ _ (by first | omega | go_size)).trans (by first | (with_reducible assumption) | (go_simp; done) | (simp [*]; done))
          have hl3_0_2 : W3.cell? ⟨w.heap.size, 2, none⟩ = some (st G) := (hc3 _ _ (by first | omega | go_size)).trans (by first | (with_reducible assumption) | go_cell)
          have hz3_0_2 : W3.frozen? ⟨w.heap.size, 2, none⟩ = false := (hf3 _ _ (by first | omega | go_size)).trans (by first | (with_reducible assumption) | (go_simp; done) | (simp [*]; done))
          have hl3_0_3 : W3.cell? ⟨w.heap.size, 3, none⟩ = some (by8 s) := (hc3 _ _ (by first | omega | go_size)).trans (by first | (with_reducible assumption) | go_cell)
          have hz3_0_3 : W3.frozen? ⟨w.heap.size, 3, none⟩ = false := (hf3 _ _ (by first | omega | go_size)).trans (by first | (with_reducible assumption) | (go_simp; done) | (simp [*]; done))
          have hk3_0 : w.heap.size < W3.heap.size := by omega
          clear hg3 hc3 hf3
          go_wp2_with fail
          go_ret
          exact ⟨rfl, hb1.trans (Below.mono (show Below W1.heap.size W1 _ by go_grown) (by omega))⟩
        | true =>
          obtain rfl : v = true := by rw [hv, hp, hr]; rfl
          have HP := Lib.hid hp
          have HS := Lib.hid hr
          clear hp  hr hv
          go_wp2_with fail
          refine (has_is k O G s 4#8 true HP.out _).mono ?_
          rintro eE W2 ⟨rfl, hg2⟩
          have hb2 : Below W1.heap.size W1 W2 := (show Below W1.heap.size W1 _ by go_grown).trans (hg2.mono (by first | omega | go_size))
          obtain ⟨hc2, hf2⟩ := bcell hg2
          have hs2 := hg2.size
          try simp only [World.size_alloc, World.size_setCell, World.size_drew] at hs2
          have hl2_0_0 : W2.cell? ⟨w.heap.size, 0, none⟩ = some (num k) := (hc2 _ _ (by first | omega | go_size)).trans (by first | (with_reducible assumption) | go_cell)
          have hz2_0_0 : W2.frozen? ⟨w.heap.size, 0, none⟩ = false := (hf2 _ _ (by first | omega | go_size)).trans (by first | (with_reducible assumption) | (go_simp; done) | (simp [*]; done))
          have hl2_0_1 : W2.cell? ⟨w.heap.size, 1, none⟩ = some (st O) := (hc2 _ _ (by first | omega | go_size)).trans (by first | (with_reducible assumption) | go_cell)
          have hz2_0_1 : W2.frozen? ⟨w.heap.size, 1, none⟩ = false := (hf2 _ _ (by first | omega | go_size)).trans (by first | (with_reducible assumption) | (go_simp; done) | (simp [*]; done))
          have hl2_0_2 : W2.cell? ⟨w.heap.size, 2, none⟩ = some (st G) := (hc2 _ _ (by first | omega | go_size)).trans (by first | (with_reducible assumption) | go_cell)
          have hz2_0_2 : W2.frozen? ⟨w.heap.size, 2, none⟩ = false := (hf2 _ _ (by first | omega | go_size)).trans (by first | (with_reducible assumption) | (go_simp; done) | (simp [*]; done))
          have hl2_0_3 : W2.cell? ⟨w.heap.size, 3, none⟩ = some (by8 s) := (hc2 _ _ (by first | omega | go_size)).trans (by first | (with_reducible assumption) | go_cell)
          have hz2_0_3 : W2.frozen? ⟨w.heap.size, 3, none⟩ = false := (hf2 _ _ (by first | omega | go_size)).trans (by first | (with_reducible assumption) | (go_simp; done) | (simp [*]; done))
          have hk2_0 : w.heap.size < W2.heap.size := by omega
          clear hg2 hc2 hf2
          go_wp2_with fail
          refine (has_is k O G s 2#8 true HS.out _).mono ?_
          rintro eE W3 ⟨rfl, hg3⟩
          have hb3 : Below W1.heap.size W1 W3 := (show Below W1.heap.size W1 _ by go_grown).trans (hg3.mono (by first | omega | go_size))
          obtain ⟨hc3, hf3⟩ := bcell hg3
          have hs3 := hg3.size
          try simp only [World.size_alloc, World.size_setCell, World.size_drew] at hs3
          have hl3_0_0 : W3.cell? ⟨w.heap.size, 0, none⟩ = some (num k) := (hc3 _ _ (by first | omega | go_size)).trans (by first | (with_reducible assumption) | go_cell)
          have hz3_0_0 : W3.frozen? ⟨w.heap.size, 0, none⟩ = false := (hf3 _ _ (by first | omega | go_size)).trans (by first | (with_reducible assumption) | (go_simp; done) | (simp [*]; done))
          have hl3_0_1 : W3.cell? ⟨w.heap.size, 1, none⟩ = some (st O) := (hc3 _ _ (by first | omega | go_size)).trans (by first | (with_reducible assumption) | go_cell)
          have hz3_0_1 : W3.frozen? ⟨w.heap.size, 1, none⟩ = false := (hf3 _ _ (by first | omega | go_size)).trans (by first | (with_reducible assumption) | (go_simp; done) | (simp [*]; done))
          have hl3_0_2 : W3.cell? ⟨w.heap.size, 2, none⟩ = some (st G) := (hc3 _ _ (by first | omega | go_size)).trans (by first | (with_reducible assumption) | go_cell)
          have hz3_0_2 : W3.frozen? ⟨w.heap.size, 2, none⟩ = false := (hf3 _ _ (by first | omega | go_size)).trans (by first | (with_reducible assumption) | (go_simp; done) | (simp [*]; done))
          have hl3_0_3 : W3.cell? ⟨w.heap.size, 3, none⟩ = some (by8 s) := (hc3 _ _ (by first | omega | go_size)).trans (by first | (with_reducible assumption) | go_cell)
          have hz3_0_3 : W3.frozen? ⟨w.heap.size, 3, none⟩ = false := (hf3 _ _ (by first | omega | go_size)).trans (by first | (with_reducible assumption) | (go_simp; done) | (simp [*]; done))
          have hk3_0 : w.heap.size < W3.heap.size := by omega
          clear hg3 hc3 hf3
          go_wp2_with fail
          go_ret
          exact ⟨rfl, hb1.trans (Below.mono (show Below W1.heap.size W1 _ by go_grown) (by omega))⟩
      | false =>
        cases hq : hasb s 64#8 with
        | true =>
          obtain rfl : v = false := by rw [hv, hp, hq]; rfl
          have HP := Lib.hid hp
          have HQ := Lib.hid hq
          clear hp hq hv
          go_wp2_with fail
          refine (has_is k O G s 4#8 false HP.out _).mono ?_
          rintro eE W2 ⟨rfl, hg2⟩
          have hb2 : Below W1.heap.size W1 W2 := (show Below W1.heap.size W1 _ by go_grown).trans (hg2.mono (by first | omega | go_size))
          obtain ⟨hc2, hf2⟩ := bcell hg2
          have hs2 := hg2.size
          try simp only [World.size_alloc, World.size_setCell, World.size_drew] at hs2
          have hl2_0_0 : W2.cell? ⟨w.heap.size, 0, none⟩ = some (num k) := (hc2 _ _ (by first | omega | go_size)).trans (by first | (with_reducible assumption) | go_cell)
          have hz2_0_0 : W2.frozen? ⟨w.heap.size, 0, none⟩ = false := (hf2 _ _ (by first | omega | go_size)).trans (by first | (with_reducible assumption) | (go_simp; done) | (simp [*]; done))
          have hl2_0_1 : W2.cell? ⟨w.heap.size, 1, none⟩ = some (st O) := (hc2 _ _ (by first | omega | go_size)).trans (by first | (with_reducible assumption) | go_cell)
          have hz2_0_1 : W2.frozen? ⟨w.heap.size, 1, none⟩ = false := (hf2 _ _ (by first | omega | go_size)).trans (by first | (with_reducible assumption) | (go_simp; done) | (simp [*]; done))
          have hl2_0_2 : W2.cell? ⟨w.heap.size, 2, none⟩ = some (st G) := (hc2 _ _ (by first | omega | go_size)).trans (by first | (with_reducible assumption) | go_cell)
          have hz2_0_2 : W2.frozen? ⟨w.heap.size, 2, none⟩ = false := (hf2 _ _ (by first | omega | go_size)).trans (by first | (with_reducible assumption) | (go_simp; done) | (simp [*]; done))
          have hl2_0_3 : W2.cell? ⟨w.heap.size, 3, none⟩ = some (by8 s) := (hc2 _ _ (by first | omega | go_size)).trans (by first | (with_reducible assumption) | go_cell)
          have hz2_0_3 : W2.frozen? ⟨w.heap.size, 3, none⟩ = false := (hf2 _ _ (by first | omega | go_size)).trans (by first | (with_reducible assumption) | (go_simp; done) | (simp [*]; done))
          have hk2_0 : w.heap.size < W2.heap.size := by omega
          clear hg2 hc2 hf2
          go_wp2_with fail
          refine (has_is k O G s 64#8 true HQ.out _).mono ?_
          rintro eE W3 ⟨rfl, hg3⟩
          have hb3 : Below W1.heap.size W1 W3 := (show Below W1.heap.size W1 _ by go_grown).trans (hg3.mono (by first | omega | go_size))
          obtain ⟨hc3, hf3⟩ := bcell hg3
          have hs3 := hg3.size
          try simp only [World.size_alloc, World.size_setCell, World.size_drew] at hs3
          have hl3_0_0 : W3.cell? ⟨w.heap.size, 0, none⟩ = some (num k) := (hc3 _ _ (by first | omega | go_size)).trans (by first | (with_reducible assumption) | go_cell)
          have hz3_0_0 : W3.frozen? ⟨w.heap.size, 0, none⟩ = false := (hf3 _ _ (by first | omega | go_size)).trans (by first | (with_reducible assumption) | (go_simp; done) | (simp [*]; done))
          have hl3_0_1 : W3.cell? ⟨w.heap.size, 1, none⟩ = some (st O) := (hc3 _ _ (by first | omega | go_size)).trans (by first | (with_reducible assumption) | go_cell)
          have hz3_0_1 : W3.frozen? ⟨w.heap.size, 1, none⟩ = false := (hf3 _ _ (by first | omega | go_size)).trans (by first | (with_reducible assumption) | (go_simp; done) | (simp [*]; done))
          have hl3_0_2 : W3.cell? ⟨w.heap.size, 2, none⟩ = some (st G) := (hc3 _ _ (by first | omega | go_size)).trans (by first | (with_reducible assumption) | go_cell)
          have hz3_0_2 : W3.frozen? ⟨w.heap.size, 2, none⟩ = false := (hf3 _ _ (by first | omega | go_size)).trans (by first | (with_reducible assumption) | (go_simp; done) | (simp [*]; done))
          have hl3_0_3 : W3.cell? ⟨w.heap.size, 3, none⟩ = some (by8 s) := (hc3 _ _ (by first | omega | go_size)).trans (by first | (with_reducible assumption) | go_cell)
          have hz3_0_3 : W3.frozen? ⟨w.heap.size, 3, none⟩ = false := (hf3 _ _ (by first | omega | go_size)).trans (by first | (with_reducible assumption) | (go_simp; done) | (simp [*]; done))
          have hk3_0 : w.heap.size < W3.heap.size := by omega
          clear hg3 hc3 hf3
          go_wp2_with fail
          go_ret
          exact ⟨rfl, hb1.trans (Below.mono (show Below W1.heap.size W1 _ by go_grown) (by omega))⟩
        | false =>
          cases hr : hasb s 2#8 with
          | false =>
            obtain rfl : v = (G == 0#64) := by rw [hv, hp, hq, hr]; rfl
            have HP := Lib.hid hp
            have HQ := Lib.hid hq
            have HS := Lib.hid hr
            clear hp hq hr hv
            go_wp2_with fail
            refine (has_is k O G s 4#8 false HP.out _).mono ?_
            rintro eE W2 ⟨rfl, hg2⟩
            have hb2 : Below W1.heap.size W1 W2 := (show Below W1.heap.size W1 _ by go_grown).trans (hg2.mono (by first | omega | go_size))
            obtain ⟨hc2, hf2⟩ := bcell hg2
            have hs2 := hg2.size
            try simp only [World.size_alloc, World.size_setCell, World.size_drew] at hs2
            have hl2_0_0 : W2.cell? ⟨w.heap.size, 0, none⟩ = some (num k) := (hc2 _ _ (by first | omega | go_size)).trans (by first | (with_reducible assumption) | go_cell)
            have hz2_0_0 : W2.frozen? ⟨w.heap.size, 0, none⟩ = false := (hf2 _ _ (by first | omega | go_size)).trans (by first | (with_reducible assumption) | (go_simp; done) | (simp [*]; done))
            have hl2_0_1 : W2.cell? ⟨w.heap.size, 1, none⟩ = some (st O) := (hc2 _ _ (by first | omega | go_size)).trans (by first | (with_reducible assumption) | go_cell)
            have hz2_0_1 : W2.frozen? ⟨w.heap.size, 1, none⟩ = false := (hf2 _ _ (by first | omega | go_size)).trans (by first | (with_reducible assumption) | (go_simp; done) | (simp [*]; done))
            have hl2_0_2 : W2.cell? ⟨w.heap.size, 2, none⟩ = some (st G) := (hc2 _ _ (by first | omega | go_size)).trans (by first | (with_reducible assumption) | go_cell)
            have hz2_0_2 : W2.frozen? ⟨w.heap.size, 2, none⟩ = false := (hf2 _ _ (by first | omega | go_size)).trans (by first | (with_reducible assumption) | (go_simp; done) | (simp [*]; done))
            have hl2_0_3 : W2.cell? ⟨w.heap.size, 3, none⟩ = some (by8 s) := (hc2 _ _ (by first | omega | go_size)).trans (by first | (with_reducible assumption) | go_cell)
            have hz2_0_3 : W2.frozen? ⟨w.heap.size, 3, none⟩ = false := (hf2 _ _ (by first | omega | go_size)).trans (by first | (with_reducible assumption) | (go_simp; done) | (simp [*]; done))
            have hk2_0 : w.heap.size < W2.heap.size := by omega
            clear hg2 hc2 hf2
            go_wp2_with fail
            refine (has_is k O G s 64#8 false HQ.out _).mono ?_
            rintro eE W3 ⟨rfl, hg3⟩
            have hb3 : Below W1.heap.size W1 W3 := (show Below W1.heap.size W1 _ by go_grown).trans (hg3.mono (by first | omega | go_size))
            obtain ⟨hc3, hf3⟩ := bcell hg3
            have hs3 := hg3.size
            try simp only [World.size_alloc, World.size_setCell, World.size_drew] at hs3
            have hl3_0_0 : W3.cell? ⟨w.heap.size, 0, none⟩ = some (num k) := (hc3 _ _ (by first | omega | go_size)).trans (by first | (with_reducible assumption) | go_cell)
            have hz3_0_0 : W3.frozen? ⟨w.heap.size, 0, none⟩ = false := (hf3 _ _ (by first | omega | go_size)).trans (by first | (with_reducible assumption) | (go_simp; done) | (simp [*]; done))
            have hl3_0_1 : W3.cell? ⟨w.heap.size, 1, none⟩ = some (st O) := (hc3 _ _ (by first | omega | go_size)).trans (by first | (with_reducible assumption) | go_cell)
            have hz3_0_1 : W3.frozen? ⟨w.heap.size, 1, none⟩ = false := (hf3 _ _ (by first | omega | go_size)).trans (by first | (with_reducible assumption) | (go_simp; done) | (simp [*]; done))
            have hl3_0_2 : W3.cell? ⟨w.heap.size, 2, none⟩ = some (st G) := (hc3 _ _ (by first | omega | go_size)).trans (by first | (with_reducible assumption) | go_cell)
            have hz3_0_2 : W3.frozen? ⟨w.heap.size, 2, none⟩ = false := (hf3 _ _ (by first | omega | go_size)).trans (by first | (with_reducible assumption) | (go_simp; done) | (simp [*]; done))
            have hl3_0_3 : W3.cell? ⟨w.heap.size, 3, none⟩ = some (by8 s) := (hc3 _ _ (by first | omega | go_size)).trans (by first | (with_reducible assumption) | go_cell)
            have hz3_0_3 : W3.frozen? ⟨w.heap.size, 3, none⟩ = false := (hf3 _ _ (by first | omega | go_size)).trans (by first | (with_reducible assumption) | (go_simp; done) | (simp [*]; done))
            have hk3_0 : w.heap.size < W3.heap.size := by omega
            clear hg3 hc3 hf3
            go_wp2_with fail
            refine (has_is k O G s 2#8 false HS.out _).mono ?_
            rintro eE W4 ⟨rfl, hg4⟩
            have hb4 : Below W1.heap.size W1 W4 := (show Below W1.heap.size W1 _ by go_grown).trans (hg4.mono (by first | omega | go_size))
            obtain ⟨hc4, hf4⟩ := bcell hg4
            have hs4 := hg4.size
            try simp only [World.size_alloc, World.size_setCell, World.size_drew] at hs4
            have hl4_0_0 : W4.cell? ⟨w.heap.size, 0, none⟩ = some (num k) := (hc4 _ _ (by first | omega | go_size)).trans (by first | (with_reducible assumption) | go_cell)
            have hz4_0_0 : W4.frozen? ⟨w.heap.size, 0, none⟩ = false := (hf4 _ _ (by first | omega | go_size)).trans (by first | (with_reducible assumption) | (go_simp; done) | (simp [*]; done))
            have hl4_0_1 : W4.cell? ⟨w.heap.size, 1, none⟩ = some (st O) := (hc4 _ _ (by first | omega | go_size)).trans (by first | (with_reducible assumption) | go_cell)
            have hz4_0_1 : W4.frozen? ⟨w.heap.size, 1, none⟩ = false := (hf4 _ _ (by first | omega | go_size)).trans (by first | (with_reducible assumption) | (go_simp; done) | (simp [*]; done))
            have hl4_0_2 : W4.cell? ⟨w.heap.size, 2, none⟩ = some (st G) := (hc4 _ _ (by first | omega | go_size)).trans (by first | (with_reducible assumption) | go_cell)
            have hz4_0_2 : W4.frozen? ⟨w.heap.size, 2, none⟩ = false := (hf4 _ _ (by first | omega | go_size)).trans (by first | (with_reducible assumption) | (go_simp; done) | (simp [*]; done))
            have hl4_0_3 : W4.cell? ⟨w.heap.size, 3, none⟩ = some (by8 s) := (hc4 _ _ (by first | omega | go_size)).trans (by first | (with_reducible assumption) | go_cell)
            have hz4_0_3 : W4.frozen? ⟨w.heap.size, 3, none⟩ = false := (hf4 _ _ (by first | omega | go_size)).trans (by first | (with_reducible assumption) | (go_simp; done) | (simp [*]; done))
            have hk4_0 : w.heap.size < W4.heap.size := by omega
            clear hg4 hc4 hf4
            go_wp2_with fail
            go_ret
            exact ⟨rfl, hb1.trans (Below.mono (show Below W1.heap.size W1 _ by go_grown) (by omega))⟩
          | true =>
            obtain rfl : v = true := by rw [hv, hp, hq, hr]; rfl
            have HP := Lib.hid hp
            have HQ := Lib.hid hq
            have HS := Lib.hid hr
            clear hp hq hr hv
            go_wp2_with fail
            refine (has_is k O G s 4#8 false HP.out _).mono ?_
            rintro eE W2 ⟨rfl, hg2⟩
            have hb2 : Below W1.heap.size W1 W2 := (show Below W1.heap.size W1 _ by go_grown).trans (hg2.mono (by first | omega | go_size))
            obtain ⟨hc2, hf2⟩ := bcell hg2
            have hs2 := hg2.size
            try simp only [World.size_alloc, World.size_setCell, World.size_drew] at hs2
            have hl2_0_0 : W2.cell? ⟨w.heap.size, 0, none⟩ = some (num k) := (hc2 _ _ (by first | omega | go_size)).trans (by first | (with_reducible assumption) | go_cell)
            have hz2_0_0 : W2.frozen? ⟨w.heap.size, 0, none⟩ = false := (hf2 _ _ (by first | omega | go_size)).trans (by first | (with_reducible assumption) | (go_simp; done) | (simp [*]; done))
            have hl2_0_1 : W2.cell? ⟨w.heap.size, 1, none⟩ = some (st O) := (hc2 _ _ (by first | omega | go_size)).trans (by first | (with_reducible assumption) | go_cell)
            have hz2_0_1 : W2.frozen? ⟨w.heap.size, 1, none⟩ = false := (hf2 _ _ (by first | omega | go_size)).trans (by first | (with_reducible assumption) | (go_simp; done) | (simp [*]; done))
            have hl2_0_2 : W2.cell? ⟨w.heap.size, 2, none⟩ = some (st G) := (hc2 _ _ (by first | omega | go_size)).trans (by first | (with_reducible assumption) | go_cell)
            have hz2_0_2 : W2.frozen? ⟨w.heap.size, 2, none⟩ = false := (hf2 _ _ (by first | omega | go_size)).trans (by first | (with_reducible assumption) | (go_simp; done) | (simp [*]; done))
            have hl2_0_3 : W2.cell? ⟨w.heap.size, 3, none⟩ = some (by8 s) := (hc2 _ _ (by first | omega | go_size)).trans (by first | (with_reducible assumption) | go_cell)
            have hz2_0_3 : W2.frozen? ⟨w.heap.size, 3, none⟩ = false := (hf2 _ _ (by first | omega | go_size)).trans (by first | (with_reducible assumption) | (go_simp; done) | (simp [*]; done))
            have hk2_0 : w.heap.size < W2.heap.size := by omega
            clear hg2 hc2 hf2
            go_wp2_with fail
            refine (has_is k O G s 64#8 false HQ.out _).mono ?_
            rintro eE W3 ⟨rfl, hg3⟩
            have hb3 : Below W1.heap.size W1 W3 := (show Below W1.heap.size W1 _ by go_grown).trans (hg3.mono (by first | omega | go_size))
            obtain ⟨hc3, hf3⟩ := bcell hg3
            have hs3 := hg3.size
            try simp only [World.size_alloc, World.size_setCell, World.size_drew] at hs3
            have hl3_0_0 : W3.cell? ⟨w.heap.size, 0, none⟩ = some (num k) := (hc3 _ _ (by first | omega | go_size)).trans (by first | (with_reducible assumption) | go_cell)
            have hz3_0_0 : W3.frozen? ⟨w.heap.size, 0, none⟩ = false := (hf3 _ _ (by first | omega | go_size)).trans (by first | (with_reducible assumption) | (go_simp; done) | (simp [*]; done))
            have hl3_0_1 : W3.cell? ⟨w.heap.size, 1, none⟩ = some (st O) := (hc3 _ _ (by first | omega | go_size)).trans (by first | (with_reducible assumption) | go_cell)
            have hz3_0_1 : W3.frozen? ⟨w.heap.size, 1, none⟩ = false := (hf3 _ _ (by first | omega | go_size)).trans (by first | (with_reducible assumption) | (go_simp; done) | (simp [*]; done))
            have hl3_0_2 : W3.cell? ⟨w.heap.size, 2, none⟩ = some (st G) := (hc3 _ _ (by first | omega | go_size)).trans (by first | (with_reducible assumption) | go_cell)
            have hz3_0_2 : W3.frozen? ⟨w.heap.size, 2, none⟩ = false := (hf3 _ _ (by first | omega | go_size)).trans (by first | (with_reducible assumption) | (go_simp; done) | (simp [*]; done))
            have hl3_0_3 : W3.cell? ⟨w.heap.size, 3, none⟩ = some (by8 s) := (hc3 _ _ (by first | omega | go_size)).trans (by first | (with_reducible assumption) | go_cell)
            have hz3_0_3 : W3.frozen? ⟨w.heap.size, 3, none⟩ = false := (hf3 _ _ (by first | omega | go_size)).trans (by first | (with_reducible assumption) | (go_simp; done) | (simp [*]; done))
            have hk3_0 : w.heap.size < W3.heap.size := by omega
            clear hg3 hc3 hf3
            go_wp2_with fail
            refine (has_is k O G s 2#8 true HS.out _).mono ?_
            rintro eE W4 ⟨rfl, hg4⟩
            have hb4 : Below W1.heap.size W1 W4 := (show Below W1.heap.size W1 _ by go_grown).trans (hg4.mono (by first | omega | go_size))
            obtain ⟨hc4, hf4⟩ := bcell hg4
            have hs4 := hg4.size
            try simp only [World.size_alloc, World.size_setCell, World.size_drew] at hs4
            have hl4_0_0 : W4.cell? ⟨w.heap.size, 0, none⟩ = some (num k) := (hc4 _ _ (by first | omega | go_size)).trans (by first | (with_reducible assumption) | go_cell)
            have hz4_0_0 : W4.frozen? ⟨w.heap.size, 0, none⟩ = false := (hf4 _ _ (by first | omega | go_size)).trans (by first | (with_reducible assumption) | (go_simp; done) | (simp [*]; done))
            have hl4_0_1 : W4.cell? ⟨w.heap.size, 1, none⟩ = some (st O) := (hc4 _ _ (by first | omega | go_size)).trans (by first | (with_reducible assumption) | go_cell)
            have hz4_0_1 : W4.frozen? ⟨w.heap.size, 1, none⟩ = false := (hf4 _ _ (by first | omega | go_size)).trans (by first | (with_reducible assumption) | (go_simp; done) | (simp [*]; done))
            have hl4_0_2 : W4.cell? ⟨w.heap.size, 2, none⟩ = some (st G) := (hc4 _ _ (by first | omega | go_size)).trans (by first | (with_reducible assumption) | go_cell)
            have hz4_0_2 : W4.frozen? ⟨w.heap.size, 2, none⟩ = false := (hf4 _ _ (by first | omega | go_size)).trans (by first | (with_reducible assumption) | (go_simp; done) | (simp [*]; done))
            have hl4_0_3 : W4.cell? ⟨w.heap.size, 3, none⟩ = some (by8 s) := (hc4 _ _ (by first | omega | go_size)).trans (by first | (with_reducible assumption) | go_cell)
            have hz4_0_3 : W4.frozen? ⟨w.heap.size, 3, none⟩ = false := (hf4 _ _ (by first | omega | go_size)).trans (by first | (with_reducible assumption) | (go_simp; done) | (simp [*]; done))
            have hk4_0 : w.heap.size < W4.heap.size := by omega
            clear hg4 hc4 hf4
            go_wp2_with fail
            go_ret
            exact ⟨rfl, hb1.trans (Below.mono (show Below W1.heap.size W1 _ by go_grown) (by omega))⟩

end Go.Proofs.YtmmgcmbniidieaaDoor.St
