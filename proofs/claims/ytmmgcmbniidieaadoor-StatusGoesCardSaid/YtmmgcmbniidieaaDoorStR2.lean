/- The document's features: Best. -/
import Derived.Test.YtmmgcmbniidieaaDoorStRM
namespace Go.Proofs.YtmmgcmbniidieaaDoor.StR
open Go.RowKit Rw Fe
set_option linter.unusedSimpArgs false
set_option linter.unusedVariables false

set_option maxRecDepth 100000 in
set_option maxHeartbeats 2000000 in
theorem best_no (k : Int) (O W : Set64) (h : bestOk k O = false) (w : World) : Calls Tryd.prog 19 #[num k, st O, st W] w (Gives w.heap.size w (.tuple #[st 0#64, num 2])) := by
  unfold Gives
  have hb0 : Below w.heap.size w w := Below.refl _ _
  cases hz : (allF k == 0#64) with
  | true =>
    have c : (nu (allF k) == 0) = true := by rw [nu_beq0, hz]
    clear h hz
    go_enter Tryd.func19, Tryd.ntmps19
    go_wp2_with fail
    refine (all_any k _).mono ?_
    rintro eE W1 ⟨rfl, hg1⟩
    have hb1 : Below w.heap.size w W1 := (show Below w.heap.size w _ by go_grown).trans (hg1.mono (by first | omega | go_size))
    obtain ⟨hc1, hf1⟩ := bcell hg1
    have hs1 := hg1.size
    try simp only [World.size_alloc, World.size_setCell, World.size_drew] at hs1
    clear hg1 hc1 hf1
    go_wp2_with fail
    go_returns
    exact ⟨rfl, by go_grown⟩
  | false =>
    have c : (nu (allF k) == 0) = false := by rw [nu_beq0, hz]
    have HH := Lib.hid (show O.getLsbD 32 = false by unfold bestOk hasB at h; rw [hz] at h; exact h)
    clear h hz
    go_enter Tryd.func19, Tryd.ntmps19
    go_wp2_with fail
    refine (all_any k _).mono ?_
    rintro eE W1 ⟨rfl, hg1⟩
    have hb1 : Below w.heap.size w W1 := (show Below w.heap.size w _ by go_grown).trans (hg1.mono (by first | omega | go_size))
    obtain ⟨hc1, hf1⟩ := bcell hg1
    have hs1 := hg1.size
    try simp only [World.size_alloc, World.size_setCell, World.size_drew] at hs1
    clear hg1 hc1 hf1
    go_wp2_with fail
    refine (StR.has_is O 32 (by decide) false HH.out _).mono ?_
    rintro eE W2 ⟨rfl, hg2⟩
    have hb2 : Below w.heap.size w W2 := (show Below w.heap.size w _ by go_grown).trans (hg2.mono (by first | omega | go_size))
    obtain ⟨hc2, hf2⟩ := bcell hg2
    have hs2 := hg2.size
    try simp only [World.size_alloc, World.size_setCell, World.size_drew] at hs2
    clear hg2 hc2 hf2
    go_wp2_with fail
    go_returns
    exact ⟨rfl, by go_grown⟩

set_option maxRecDepth 100000 in
set_option maxHeartbeats 4000000 in
theorem best_is (k : Int) (O W B : Set64) (hB : bestF k O W = B) (h : bestOk k O = true) (w : World) : Calls Tryd.prog 19 #[num k, st O, st W] w (Gives w.heap.size w (.tuple #[st B, num 0])) := by
  subst hB
  unfold Gives
  have hb0 : Below w.heap.size w w := Below.refl _ _
  have hz : (allF k == 0#64) = false := by
    unfold bestOk at h
    cases e : (allF k == 0#64)
    · rfl
    · rw [e] at h; cases h
  have hk : k = 1 ∨ k = 2 ∨ k = 3 := by
    by_cases h1 : k = 1
    · exact .inl h1
    · by_cases h2 : k = 2
      · exact .inr (.inl h2)
      · by_cases h3 : k = 3
        · exact .inr (.inr h3)
        · exact absurd hz (by unfold allF; rw [if_neg h1, if_neg h2, if_neg h3]; decide)
  have c : (nu (allF k) == 0) = false := by rw [nu_beq0, hz]
  have HH := Lib.hid (show O.getLsbD 32 = true by unfold bestOk hasB at h; rw [hz] at h; exact h)
  have e1 : bits .or .u64 (nu W) (nu v1) = nu (W ||| v1) := b_or W v1
  have e2 := b_and O (W ||| v1)
  have e3 := b_and (O &&& (W ||| v1)) (allF k)
  have HS := Lib.hid (best_same hk O W)
  clear h hz hk
  generalize bestF k O W = B at HS
  go_enter Tryd.func19, Tryd.ntmps19
  go_wp2_with fail
  refine (all_any k _).mono ?_
  rintro eE W1 ⟨rfl, hg1⟩
  have hb1 : Below w.heap.size w W1 := (show Below w.heap.size w _ by go_grown).trans (hg1.mono (by first | omega | go_size))
  obtain ⟨hc1, hf1⟩ := bcell hg1
  have hs1 := hg1.size
  try simp only [World.size_alloc, World.size_setCell, World.size_drew] at hs1
  clear hg1 hc1 hf1
  go_wp2_with fail
  refine (StR.has_is O 32 (by decide) true HH.out _).mono ?_
  rintro eE W2 ⟨rfl, hg2⟩
  have hb2 : Below w.heap.size w W2 := (show Below w.heap.size w _ by go_grown).trans (hg2.mono (by first | omega | go_size))
  obtain ⟨hc2, hf2⟩ := bcell hg2
  have hs2 := hg2.size
  try simp only [World.size_alloc, World.size_setCell, World.size_drew] at hs2
  clear hg2 hc2 hf2
  go_wp2_with fail
  refine (bits_is _ 1 1 (fun j => [32].getD j 0) v1 _ (by decide) (by decide) (row_of [32] ⟨by go_cell, trivial⟩ (by go_size)) (by decide +kernel)).mono ?_
  rintro eE W3 ⟨rfl, hg3⟩
  have hb3 : Below w.heap.size w W3 := (show Below w.heap.size w _ by go_grown).trans (hg3.mono (by first | omega | go_size))
  obtain ⟨hc3, hf3⟩ := bcell hg3
  have hs3 := hg3.size
  try simp only [World.size_alloc, World.size_setCell, World.size_drew] at hs3
  clear hg3 hc3 hf3
  go_wp2_with fail
  refine (all_any k _).mono ?_
  rintro eE W4 ⟨rfl, hg4⟩
  have hb4 : Below w.heap.size w W4 := (show Below w.heap.size w _ by go_grown).trans (hg4.mono (by first | omega | go_size))
  obtain ⟨hc4, hf4⟩ := bcell hg4
  have hs4 := hg4.size
  try simp only [World.size_alloc, World.size_setCell, World.size_drew] at hs4
  clear hg4 hc4 hf4
  go_wp2_with fail
  clear e1 e2 e3 c
  generalize hX : O &&& (W ||| v1) &&& allF k = X at HS
  clear hX
  go_loopw [8, 9] (fun s q wr => ∃ n : Nat, n ≤ 3 ∧ q = num ((n : Nat) : Int) ∧ s = st (rounds3 k X n) ∧ Below w.heap.size w wr) (fun s q wr => 3 - (intOf q).toNat)
  case atStart => exact ⟨0, by omega, rfl, rfl, by go_grown⟩
  case round =>
    obtain ⟨n, hn, rfl, rfl, hb⟩ := hrel
    by_cases hlt : n < 3
    · generalize hY : rounds3 k X n = Y
      have HY := Lib.hid hY
      clear hY
      have dn : decide (((n : Nat) : Int) < 3) = true := decide_eq_true (by omega)
      go_wp2_with fail
      go_loopw [8, 10] (fun s q w2 => ∃ b : Nat, b ≤ 64 ∧ q = num ((b : Nat) : Int) ∧ s = st (rpass k Y b) ∧ Below w.heap.size w w2) (fun s q w2 => 64 - (intOf q).toNat)
      case atStart => exact ⟨0, by omega, rfl, rfl, hb⟩
      case round =>
        obtain ⟨b, hb64, rfl, rfl, hbw⟩ := hrel
        have hsz := hbw.size
        by_cases hl : b < 64
        · generalize hZ : rpass k Y b = Z
          have HZ := Lib.hid hZ
          have db : decide (((b : Nat) : Int) < 64) = true := decide_eq_true (by omega)
          clear hZ hb64
          cases hx : Z.getLsbD b with
          | false =>
            have HX := Lib.hid hx
            clear hx
            go_wp2_with fail
            refine (StR.has_is Z b hl false HX.out _).mono ?_
            rintro eE W5 ⟨rfl, hg5⟩
            have hb5 : Below w.heap.size w W5 := (show Below w.heap.size w _ by go_grown).trans (hg5.mono (by first | omega | go_size))
            obtain ⟨hc5, hf5⟩ := bcell hg5
            have hs5 := hg5.size
            try simp only [World.size_alloc, World.size_setCell, World.size_drew] at hs5
            clear hg5 hc5 hf5
            go_wp2_with fail
            go_roundw
            case rel => exact ⟨b + 1, by omega, by go_num, by unfold rpass; rw [HZ.out]; unfold rstep; rw [HX.out]; rfl, by go_grown⟩
            case measure => simp [intOf]; omega
          | true =>
            have HX := Lib.hid hx
            clear hx
            have e1 := b_andNot (needF k b) Z
            have c0 : (nu (needF k b &&& ~~~Z) != 0) = !(needF k b &&& ~~~Z == 0#64) := by rw [bne, nu_beq0]
            cases hd : (needF k b &&& ~~~Z == 0#64) with
            | true =>
              have HD := Lib.hid hd
              rw [hd] at c0
              clear hd
              go_wp2_with fail
              refine (StR.has_is Z b hl true HX.out _).mono ?_
              rintro eE W5 ⟨rfl, hg5⟩
              have hb5 : Below w.heap.size w W5 := (show Below w.heap.size w _ by go_grown).trans (hg5.mono (by first | omega | go_size))
              obtain ⟨hc5, hf5⟩ := bcell hg5
              have hs5 := hg5.size
              try simp only [World.size_alloc, World.size_setCell, World.size_drew] at hs5
              clear hg5 hc5 hf5
              go_wp2_with fail
              refine (needs_any k b hl _).mono ?_
              rintro eE W6 ⟨rfl, hg6⟩
              have hb6 : Below w.heap.size w W6 := (show Below w.heap.size w _ by go_grown).trans (hg6.mono (by first | omega | go_size))
              obtain ⟨hc6, hf6⟩ := bcell hg6
              have hs6 := hg6.size
              try simp only [World.size_alloc, World.size_setCell, World.size_drew] at hs6
              clear hg6 hc6 hf6
              go_wp2_with fail
              go_roundw
              case rel => exact ⟨b + 1, by omega, by go_num, by unfold rpass; rw [HZ.out]; unfold rstep; rw [HX.out, HD.out]; rfl, by go_grown⟩
              case measure => simp [intOf]; omega
            | false =>
              have HD := Lib.hid hd
              rw [hd] at c0
              clear hd
              have e := shl_one (n := (b : Int)) (by omega) (by omega)
              have e2 : ((b : Nat) : Int).toNat = b := rfl
              rw [e2] at e
              have e4 := b_andNot Z (one b)
              have e5 : IntKind.u64.wrap ((b : Nat) : Int) = ((b : Nat) : Int) := by rw [IntKind.wrap_u64]; omega
              clear e2
              go_wp2_with fail
              refine (StR.has_is Z b hl true HX.out _).mono ?_
              rintro eE W5 ⟨rfl, hg5⟩
              have hb5 : Below w.heap.size w W5 := (show Below w.heap.size w _ by go_grown).trans (hg5.mono (by first | omega | go_size))
              obtain ⟨hc5, hf5⟩ := bcell hg5
              have hs5 := hg5.size
              try simp only [World.size_alloc, World.size_setCell, World.size_drew] at hs5
              clear hg5 hc5 hf5
              go_wp2_with fail
              refine (needs_any k b hl _).mono ?_
              rintro eE W6 ⟨rfl, hg6⟩
              have hb6 : Below w.heap.size w W6 := (show Below w.heap.size w _ by go_grown).trans (hg6.mono (by first | omega | go_size))
              obtain ⟨hc6, hf6⟩ := bcell hg6
              have hs6 := hg6.size
              try simp only [World.size_alloc, World.size_setCell, World.size_drew] at hs6
              clear hg6 hc6 hf6
              go_wp2_with fail
              go_roundw
              case rel => exact ⟨b + 1, by omega, by go_num, by unfold rpass; rw [HZ.out]; unfold rstep; rw [HX.out, HD.out]; rfl, by go_grown⟩
              case measure => simp [intOf]; omega
        · obtain rfl : b = 64 := by omega
          go_wp2_with fail
          go_roundw
          case rel => exact ⟨n + 1, by omega, by go_num, by unfold rounds3; rw [HY.out], by go_grown⟩
          case measure => simp [intOf]; omega
    · obtain rfl : n = 3 := by omega
      rw [HS.out]
      go_wp2_with fail
      go_returns
      exact ⟨rfl, hb⟩

end Go.Proofs.YtmmgcmbniidieaaDoor.StR
