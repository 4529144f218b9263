/- The document's features: Needs, Closed, Accept. -/
import Derived.Test.YtmmgcmbniidieaaDoorStR2
namespace Go.Proofs.YtmmgcmbniidieaaDoor.StR
open Go.RowKit Rw Fe
set_option linter.unusedSimpArgs false
set_option linter.unusedVariables false

set_option maxRecDepth 100000 in
set_option maxHeartbeats 4000000 in
theorem needs_is (k : Int) (X : Set64) (h : knownB k X = true) (w : World) : Calls Tryd.prog 41 #[num k, st X] w (Gives w.heap.size w (st (needsF k X))) := by
  unfold Gives
  have hb0 : Below w.heap.size w w := Below.refl _ _
  have HS := Lib.hid (needs_same h)
  have HK := Lib.hid h
  clear h
  generalize needsF k X = R at HS
  go_enter Tryd.func41, Tryd.ntmps41
  go_wp2_with fail
  refine (StR.known_is k X true HK.out _).mono ?_
  rintro eE W1 ⟨rfl, hg1⟩
  have hb1 : Below w.heap.size w W1 := (show Below w.heap.size w _ by go_grown).trans (hg1.mono (by first | omega | go_size))
  obtain ⟨hc1, hf1⟩ := bcell hg1
  have hs1 := hg1.size
  try simp only [World.size_alloc, World.size_setCell, World.size_drew] at hs1
  clear hg1 hc1 hf1
  go_wp2_with fail
  refine (bits_is _ 1 1 (fun j => [32].getD j 0) v1 _ (by decide) (by decide) (row_of [32] ⟨by go_cell, trivial⟩ (by go_size)) (by decide +kernel)).mono ?_
  rintro eE W2 ⟨rfl, hg2⟩
  have hb2 : Below w.heap.size w W2 := (show Below w.heap.size w _ by go_grown).trans (hg2.mono (by first | omega | go_size))
  obtain ⟨hc2, hf2⟩ := bcell hg2
  have hs2 := hg2.size
  try simp only [World.size_alloc, World.size_setCell, World.size_drew] at hs2
  clear hg2 hc2 hf2
  go_wp2_with fail
  go_loopw [5, 6] (fun s q wr => ∃ n : Nat, n ≤ 64 ∧ q = num ((n : Nat) : Int) ∧ s = st (needAcc k X n) ∧ Below w.heap.size w wr) (fun s q wr => 64 - (intOf q).toNat)
  case atStart => exact ⟨0, by omega, rfl, rfl, hb2⟩
  case round =>
    obtain ⟨n, hn, rfl, rfl, hb⟩ := hrel
    have hsz := hb.size
    by_cases hlt : n < 64
    · generalize hY : needAcc k X n = Y
      have HY := Lib.hid hY
      clear hY hn
      have dn : decide (((n : Nat) : Int) < 64) = true := decide_eq_true (by omega)
      cases hx : X.getLsbD n with
      | false =>
        have HX := Lib.hid hx
        clear hx
        go_wp2_with fail
        refine (StR.has_is X n hlt false HX.out _).mono ?_
        rintro eE W3 ⟨rfl, hg3⟩
        have hb3 : Below w.heap.size w W3 := (show Below w.heap.size w _ by go_grown).trans (hg3.mono (by first | omega | go_size))
        obtain ⟨hc3, hf3⟩ := bcell hg3
        have hs3 := hg3.size
        try simp only [World.size_alloc, World.size_setCell, World.size_drew] at hs3
        clear hg3 hc3 hf3
        go_wp2_with fail
        go_roundw
        case rel => exact ⟨n + 1, by omega, by go_num, by unfold needAcc; rw [HX.out, HY.out]; rfl, by go_grown⟩
        case measure => simp [intOf]; omega
      | true =>
        have HX := Lib.hid hx
        have e1 := b_or Y (needF k n)
        clear hx
        go_wp2_with fail
        refine (StR.has_is X n hlt true HX.out _).mono ?_
        rintro eE W3 ⟨rfl, hg3⟩
        have hb3 : Below w.heap.size w W3 := (show Below w.heap.size w _ by go_grown).trans (hg3.mono (by first | omega | go_size))
        obtain ⟨hc3, hf3⟩ := bcell hg3
        have hs3 := hg3.size
        try simp only [World.size_alloc, World.size_setCell, World.size_drew] at hs3
        clear hg3 hc3 hf3
        go_wp2_with fail
        refine (needs_any k n hlt _).mono ?_
        rintro eE W4 ⟨rfl, hg4⟩
        have hb4 : Below w.heap.size w W4 := (show Below w.heap.size w _ by go_grown).trans (hg4.mono (by first | omega | go_size))
        obtain ⟨hc4, hf4⟩ := bcell hg4
        have hs4 := hg4.size
        try simp only [World.size_alloc, World.size_setCell, World.size_drew] at hs4
        clear hg4 hc4 hf4
        go_wp2_with fail
        go_roundw
        case rel => exact ⟨n + 1, by omega, by go_num, by unfold needAcc; rw [HX.out, HY.out]; rfl, by go_grown⟩
        case measure => simp [intOf]; omega
    · obtain rfl : n = 64 := by omega
      generalize hY : needAcc k X 64 = Y at HS
      have e1 := b_andNot Y X
      rw [HS.out] at e1
      go_wp2_with fail
      go_ret
      exact ⟨rfl, hb⟩
theorem closed_is (k : Int) (X : Set64) (b : Bool) (h : closedB k X = b) (w : World) : Calls Tryd.prog 26 #[num k, st X] w (Gives w.heap.size w (.bool b)) := by
  unfold Gives
  have hb0 : Below w.heap.size w w := Below.refl _ _
  cases hz : knownB k X with
  | false =>
    obtain rfl : b = false := by rw [← h]; unfold closedB; rw [hz]; rfl
    have HZ := Lib.hid hz
    clear h hz
    go_enter Tryd.func26, Tryd.ntmps26
    go_wp2_with fail
    refine (StR.known_is k X false HZ.out _).mono ?_
    rintro eE W1 ⟨rfl, hg1⟩
    have hb1 : Below w.heap.size w W1 := (show Below w.heap.size w _ by go_grown).trans (hg1.mono (by first | omega | go_size))
    obtain ⟨hc1, hf1⟩ := bcell hg1
    have hs1 := hg1.size
    try simp only [World.size_alloc, World.size_setCell, World.size_drew] at hs1
    clear hg1 hc1 hf1
    go_wp2_with fail
    go_ret
    exact ⟨rfl, by go_grown⟩
  | true =>
    obtain rfl : b = (needsF k X == 0#64) := by rw [← h]; unfold closedB; rw [hz]; rfl
    have HZ := Lib.hid hz
    have c := nu_beq0 (needsF k X)
    clear h hz
    go_enter Tryd.func26, Tryd.ntmps26
    go_wp2_with fail
    refine (StR.known_is k X true HZ.out _).mono ?_
    rintro eE W1 ⟨rfl, hg1⟩
    have hb1 : Below w.heap.size w W1 := (show Below w.heap.size w _ by go_grown).trans (hg1.mono (by first | omega | go_size))
    obtain ⟨hc1, hf1⟩ := bcell hg1
    have hs1 := hg1.size
    try simp only [World.size_alloc, World.size_setCell, World.size_drew] at hs1
    clear hg1 hc1 hf1
    go_wp2_with fail
    refine (needs_is k X HZ.out _).mono ?_
    rintro eE W2 ⟨rfl, hg2⟩
    have hb2 : Below w.heap.size w W2 := (show Below w.heap.size w _ by go_grown).trans (hg2.mono (by first | omega | go_size))
    obtain ⟨hc2, hf2⟩ := bcell hg2
    have hs2 := hg2.size
    try simp only [World.size_alloc, World.size_setCell, World.size_drew] at hs2
    clear hg2 hc2 hf2
    go_wp2_with fail
    go_ret
    exact ⟨rfl, by go_grown⟩
theorem accept_is (k : Int) (O X : Set64) (b : Bool) (h : acceptB k O X = b) (w : World) : Calls Tryd.prog 18 #[num k, st O, st X] w (Gives w.heap.size w (.bool b)) := by
  unfold Gives
  have hb0 : Below w.heap.size w w := Below.refl _ _
  cases hz : closedB k X with
  | false =>
    obtain rfl : b = false := by rw [← h]; unfold acceptB; rw [hz]; rfl
    have HZ := Lib.hid hz
    clear h hz
    go_enter Tryd.func18, Tryd.ntmps18
    go_wp2_with fail
    refine (StR.closed_is k X false HZ.out _).mono ?_
    rintro eE W1 ⟨rfl, hg1⟩
    have hb1 : Below w.heap.size w W1 := (show Below w.heap.size w _ by go_grown).trans (hg1.mono (by first | omega | go_size))
    obtain ⟨hc1, hf1⟩ := bcell hg1
    have hs1 := hg1.size
    try simp only [World.size_alloc, World.size_setCell, World.size_drew] at hs1
    clear hg1 hc1 hf1
    go_wp2_with fail
    go_ret
    exact ⟨rfl, by go_grown⟩
  | true =>
    obtain rfl : b = within X O := by rw [← h]; unfold acceptB; rw [hz]; rfl
    have HZ := Lib.hid hz
    have e1 := b_andNot X O
    have c := nu_beq0 (X &&& ~~~O)
    clear h hz
    go_enter Tryd.func18, Tryd.ntmps18
    go_wp2_with fail
    refine (StR.closed_is k X true HZ.out _).mono ?_
    rintro eE W1 ⟨rfl, hg1⟩
    have hb1 : Below w.heap.size w W1 := (show Below w.heap.size w _ by go_grown).trans (hg1.mono (by first | omega | go_size))
    obtain ⟨hc1, hf1⟩ := bcell hg1
    have hs1 := hg1.size
    try simp only [World.size_alloc, World.size_setCell, World.size_drew] at hs1
    clear hg1 hc1 hf1
    go_wp2_with fail
    go_ret
    exact ⟨rfl, by go_grown⟩

end Go.Proofs.YtmmgcmbniidieaaDoor.StR
