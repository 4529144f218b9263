/- The law GmemScript: whatever is called, a memory does what the document says. For every list of regions and of calls; no condition. -/
import Derived.Test.YtmmgcmbniidieaaGmScriptR30
import Derived.Test.YtmmgcmbniidieaaPick
import Derived.Deep.RegionHeld3
namespace Go.Proofs.Ytmmgcmbniidieaa.GmemScript
open Go.ChangeShapes Go.WideShapes Go.ChangeAt Go.RowKit Rw Le GmFind GmWord GmCheck GmNew GmTwo GmPair GmZero GmOwn GmArgs GmActs GmSmall GmScriptA
set_option linter.unusedVariables false
set_option linter.unusedSimpArgs false

theorem byte_any {P : Nums} {g G : Nat → Int} {a n e : Int} {N : Nat} (hg : ∀ j, 0 ≤ g j ∧ g j ≤ 255) (h : ReadIs P g a n N G e) : Bytes8 G N := by
  rcases h with ⟨_, rfl, _⟩ | ⟨_, rfl, _⟩ | ⟨_, _, rfl, _⟩ | ⟨_, o, _, _, rfl, _⟩
  · exact fun j hj => absurd hj (by omega)
  · exact fun j hj => absurd hj (by omega)
  · exact fun j hj => absurd hj (by omega)
  · exact fun j _ => hg _

set_option maxRecDepth 100000 in
set_option maxHeartbeats 4000000 in
theorem walk_off (A1 A2 : Option Addr) (k1 c1 k2 c2 : Nat) (r : Rg) (f : Nat → Ac) (w : World) (hR : IsRegs w (.slice A1 k1 c1) A1 k1 c1 r) (hC : IsActs w (.slice A2 k2 c2) A2 k2 c2 f) (h : ¬ GmTwin.Good k1 r) : Calls Try.prog 3 #[.slice A1 k1 c1, .slice A2 k2 c2] w (Lib.True1 w.heap.size w) := by
  unfold Lib.True1
  have hb0 : Below w.heap.size w w := Below.refl _ _
  have HR := Lib.hid hR
  have HC := Lib.hid hC
  have HG := Lib.hid h
  have hm := hC.max
  have hle := hC.le
  unfold maxLen at hm
  clear hR hC h
  go_enter Try.func3, Try.ntmps3
  go_wp2_with fail
  refine (lives_any _).mono ?_
  rintro eE W1 ⟨rfl, hg1⟩
  have hb1 : Below w.heap.size w W1 := (show Below w.heap.size w _ by go_grown).trans (hg1.mono (by first | omega | go_size))
  obtain ⟨hc1, hf1⟩ := bcell hg1
  have hs1 := hg1.size
  try simp only [World.size_alloc, World.size_setCell, World.size_drew] at hs1
  clear hg1 hc1 hf1
  go_wp2_with fail
  refine (GmKit.light_any A1 k1 c1 20000 r _ HR.out.raw (GmScriptA.rowAt HR.out.lst (by go_grown))).mono ?_
  rintro e w' ⟨b1, rfl, h40, rfl⟩
  cases b1 with
  | false =>
    go_wp2_with fail
    go_ret
    exact ⟨rfl, by go_grown⟩
  | true =>
    have hk40 := h40 rfl
    clear h40
    go_wp2_with fail
    refine (small_any A2 k2 c2 f _ (by omega) (GmScriptA.rowAt HC.out.row (by go_grown)) (fun i hi => isB_at (HC.out.wb i hi) hb1)).mono ?_
    rintro e w' ⟨b2, rfl, hfew, rfl⟩
    cases b2 with
    | false =>
      go_wp2_with fail
      go_ret
      exact ⟨rfl, by go_grown⟩
    | true =>
      clear hfew
      go_wp2_with fail
      refine (GmTwin.regions_any A1 k1 c1 r _ (by omega) (fun e => (HR.out.none_ e).2) (GmScriptA.rowAt HR.out.lst (by go_grown))).mono ?_
      rintro e W2 ⟨A', c', rfl, hL, hg2⟩
      have HL := Lib.hid hL
      clear hL
      have hb2 : Below w.heap.size w W2 := (show Below w.heap.size w _ by go_grown).trans (hg2.mono (by first | omega | go_size))
      obtain ⟨hc2, hf2⟩ := bcell hg2
      have hs2 := hg2.size
      try simp only [World.size_alloc, World.size_setCell, World.size_drew] at hs2
      clear hg2 hc2 hf2
      go_wp2_with fail
      refine (GmTwin.new_bad A' k1 c' r _ HR.out.raw HG.out HL.out).mono ?_
      rintro eE W3 ⟨rfl, hg3⟩
      have hb3 : Below w.heap.size w W3 := (show Below w.heap.size w _ by go_grown).trans (hg3.mono (by first | omega | go_size))
      obtain ⟨hc3, hf3⟩ := bcell hg3
      have hs3 := hg3.size
      try simp only [World.size_alloc, World.size_setCell, World.size_drew] at hs3
      clear hg3 hc3 hf3
      go_wp2_with fail
      refine (GmTwin.r_new_bad A1 k1 c1 r _ HR.out.raw HG.out (GmScriptA.rowAt HR.out.lst (by go_grown))).mono ?_
      rintro eE W4 ⟨rfl, hg4⟩
      have hb4 : Below w.heap.size w W4 := (show Below w.heap.size w _ by go_grown).trans (hg4.mono (by first | omega | go_size))
      obtain ⟨hc4, hf4⟩ := bcell hg4
      have hs4 := hg4.size
      try simp only [World.size_alloc, World.size_setCell, World.size_drew] at hs4
      clear hg4 hc4 hf4
      go_wp2_with fail
      refine (GmTwin.check_no A1 k1 c1 r _ HR.out.raw HG.out (GmScriptA.rowAt HR.out.lst (by go_grown))).mono ?_
      rintro eE W5 ⟨rfl, hg5⟩
      have hb5 : Below w.heap.size w W5 := (show Below w.heap.size w _ by go_grown).trans (hg5.mono (by first | omega | go_size))
      obtain ⟨hc5, hf5⟩ := bcell hg5
      have hs5 := hg5.size
      try simp only [World.size_alloc, World.size_setCell, World.size_drew] at hs5
      clear hg5 hc5 hf5
      go_wp2_with fail
      refine (GmTwin.check_no A1 k1 c1 r _ HR.out.raw HG.out (GmScriptA.rowAt HR.out.lst (by go_grown))).mono ?_
      rintro eE W6 ⟨rfl, hg6⟩
      have hb6 : Below w.heap.size w W6 := (show Below w.heap.size w _ by go_grown).trans (hg6.mono (by first | omega | go_size))
      obtain ⟨hc6, hf6⟩ := bcell hg6
      have hs6 := hg6.size
      try simp only [World.size_alloc, World.size_setCell, World.size_drew] at hs6
      clear hg6 hc6 hf6
      go_wp2_with fail
      go_ret
      exact ⟨rfl, by go_grown⟩

set_option maxRecDepth 100000 in
set_option maxHeartbeats 16000000 in
theorem walk_on (A1 A2 : Option Addr) (k1 c1 k2 c2 : Nat) (r : Rg) (f : Nat → Ac) (w : World) (hR : IsRegs w (.slice A1 k1 c1) A1 k1 c1 r) (hC : IsActs w (.slice A2 k2 c2) A2 k2 c2 f) (h : GmTwin.Good k1 r) : Calls Try.prog 3 #[.slice A1 k1 c1, .slice A2 k2 c2] w (Lib.True1 w.heap.size w) := by
  unfold Lib.True1
  have hb0 : Below w.heap.size w w := Below.refl _ _
  have HR := Lib.hid hR
  have HC := Lib.hid hC
  have HG := Lib.hid h
  have hm := hC.max
  have hle := hC.le
  unfold maxLen at hm
  clear hR hC h
  go_enter Try.func3, Try.ntmps3
  go_wp2_with fail
  refine (lives_any _).mono ?_
  rintro eE W1 ⟨rfl, hg1⟩
  have hb1 : Below w.heap.size w W1 := (show Below w.heap.size w _ by go_grown).trans (hg1.mono (by first | omega | go_size))
  obtain ⟨hc1, hf1⟩ := bcell hg1
  have hs1 := hg1.size
  try simp only [World.size_alloc, World.size_setCell, World.size_drew] at hs1
  clear hg1 hc1 hf1
  go_wp2_with fail
  refine (GmKit.light_any A1 k1 c1 20000 r _ HR.out.raw (GmScriptA.rowAt HR.out.lst (by go_grown))).mono ?_
  rintro e w' ⟨b1, rfl, h40, rfl⟩
  cases b1 with
  | false =>
    go_wp2_with fail
    go_ret
    exact ⟨rfl, by go_grown⟩
  | true =>
    have hk40 := h40 rfl
    clear h40
    go_wp2_with fail
    refine (small_any A2 k2 c2 f _ (by omega) (GmScriptA.rowAt HC.out.row (by go_grown)) (fun i hi => isB_at (HC.out.wb i hi) hb1)).mono ?_
    rintro e w' ⟨b2, rfl, hfew, rfl⟩
    cases b2 with
    | false =>
      go_wp2_with fail
      go_ret
      exact ⟨rfl, by go_grown⟩
    | true =>
      have HF := Lib.hid (hfew rfl).2
      clear hfew
      go_wp2_with fail
      refine (GmTwin.regions_any A1 k1 c1 r _ (by omega) (fun e => (HR.out.none_ e).2) (GmScriptA.rowAt HR.out.lst (by go_grown))).mono ?_
      rintro e W2 ⟨A', c', rfl, hL, hg2⟩
      have HL := Lib.hid hL
      clear hL
      have hb2 : Below w.heap.size w W2 := (show Below w.heap.size w _ by go_grown).trans (hg2.mono (by first | omega | go_size))
      obtain ⟨hc2, hf2⟩ := bcell hg2
      have hs2 := hg2.size
      try simp only [World.size_alloc, World.size_setCell, World.size_drew] at hs2
      clear hg2 hc2 hf2
      go_wp2_with fail
      refine (p_new A' k1 c' r _ HR.out.raw HG.out HL.out).mono ?_
      rintro e W3 ⟨m, rfl, hP, hm3, hg3⟩
      have HPN := Lib.hid hP
      clear hP
      have hb3 : Below w.heap.size w W3 := (show Below w.heap.size w _ by go_grown).trans (hg3.mono (by first | omega | go_size))
      obtain ⟨hc3, hf3⟩ := bcell hg3
      have hs3 := hg3.size
      try simp only [World.size_alloc, World.size_setCell, World.size_drew] at hs3
      clear hg3 hc3 hf3
      go_wp2_with fail
      refine (q_new A1 k1 c1 r _ HR.out.raw HG.out (fun e => (HR.out.none_ e).2) (GmScriptA.rowAt HR.out.lst (by go_grown))).mono ?_
      rintro e W4 ⟨mm, rfl, hQ⟩
      obtain ⟨P, S, M, HP, hB, rfl, rfl, hk, hrr, hS, hM⟩ := pair_new (B := w.heap.size) HR.out.raw HG.out HPN.out (by omega) (Below.refl _ _) hQ
      have hg4 : Below W3.heap.size W3 W4 := by obtain ⟨_, _, _, _, _, _, _, _, _, _, h⟩ := hQ; exact h
      clear hQ HPN
      have HP := Lib.hid HP
      have HM := Lib.hid hM
      have HK := Lib.hid hk
      have HRR := Lib.hid hrr
      have HB := Lib.hid hB
      clear hM hk hrr hB
      have hb4 : Below w.heap.size w W4 := (show Below w.heap.size w _ by go_grown).trans (hg4.mono (by first | omega | go_size))
      obtain ⟨hc4, hf4⟩ := bcell hg4
      have hs4 := hg4.size
      try simp only [World.size_alloc, World.size_setCell, World.size_drew] at hs4
      clear hg4 hc4 hf4
      go_wp2_with fail
      refine (check_ok A1 k1 c1 r _ HG.out.1 HR.out.raw HG.out.2 (GmScriptA.rowAt HR.out.lst (by go_grown))).mono ?_
      rintro eE W5 ⟨rfl, hg5⟩
      have hb5 : Below W4.heap.size W4 W5 := (show Below W4.heap.size W4 _ by go_grown).trans (hg5.mono (by first | omega | go_size))
      obtain ⟨hc5, hf5⟩ := bcell hg5
      have hs5 := hg5.size
      try simp only [World.size_alloc, World.size_setCell, World.size_drew] at hs5
      clear hg5 hc5 hf5
      go_wp2_with fail
      have HM5 := Lib.hid (HP.out.below HM.out hb5)
      have hbw5 : Below w.heap.size w W5 := hb4.trans (hb5.mono (by omega))
      clear HM
      go_loopw [6, 8, 9] (fun e1 e2 i wr => ∃ (j : Nat) (e : Int) (g : Nat → Int), j ≤ k2 ∧ i = .int .i64 ((j : Nat) : Int) ∧ e1 = .int .i64 e ∧ e2 = .int .i64 e ∧ M wr g g ∧ Below w.heap.size w wr ∧ W4.heap.size ≤ wr.heap.size) (fun e1 e2 i wr => k2 - (intOf i).toNat)
      case atStart => exact ⟨0, 0, _, by omega, rfl, rfl, rfl, HM5.out, hbw5, hs5⟩
      case round =>
        obtain ⟨j, ev, g, hj, rfl, rfl, rfl, hM, hbw, hsz⟩ := hrel
        have hsw := hbw.size
        have HM := Lib.hid hM
        clear hM HM5
        by_cases hlt : j < k2
        · clear hj
          obtain ⟨ad, rfl, hbl, hcell⟩ := HC.out.row (by omega)
          have hcw : ∀ i, i < k2 * 5 → wr.cell? (ad.add i) = some (cellA f i) := fun i hi => (hbw.cell (p := ad.add i) (by rw [block_of_add]; exact hbl)).trans (hcell i hi)
          have c0 := (el0 hcw hlt (by omega)).trans (by rw [cellA0])
          have c1' := (elj hcw hlt 1 (by omega) (by omega)).trans (by rw [cellA1])
          have c2' := (elj hcw hlt 2 (by omega) (by omega)).trans (by rw [cellA2])
          have c3 := (elj hcw hlt 3 (by omega) (by omega)).trans (by rw [cellA3])
          have c4 := (elj hcw hlt 4 (by omega) (by omega)).trans (by rw [cellA4])
          clear hcw hcell
          have HKD := Lib.hid (HC.out.wk j hlt)
          have HAT := Lib.hid (show u64in (f j).at_ from HC.out.wa j hlt)
          have HNB := Lib.hid (show -9223372036854775808 ≤ (f j).nb ∧ (f j).nb ≤ 9223372036854775807 from bounds_i64 (HC.out.wn j hlt))
          have HV := Lib.hid (show u64in (f j).vv from HC.out.wv j hlt)
          obtain ⟨Ab, N, cb, gb, hbv, hNc, hcm, hAb, hrb, hgb⟩ := HC.out.wb j hlt
          have hN : N ≤ 2000 := by
            obtain ⟨_, _, _, e, h⟩ := HF.out j hlt
            rw [hbv] at e
            injection e with _ e _
            omega
          rw [hbv] at c4
          have HRB := Lib.hid hrb
          have HGB := Lib.hid hgb
          have HAB := Lib.hid hAb
          clear hbv hrb hgb hAb
          generalize (f j).kd = kd at c0 HKD
          generalize (f j).at_ = at_ at c1' HAT
          generalize (f j).nb = nb at c2' HNB
          generalize (f j).vv = vv at c3 HV
          have dj : decide (((j : Nat) : Int) < ((k2 : Nat) : Int)) = true := decide_eq_true (by omega)
          have ev0 := bne_self_eq_false ev
          go_wp2_with fail
          clear c0 c1' c2' c3 c4
          refine (Pick.pick_some kd 5 (by omega) HKD.out _).mono ?_
          rintro e w' ⟨q, q0, q5, rfl, rfl⟩
          have hs0 : ∀ W, (convert 37 9 (.slice none 0 0)).run Try.prog W = .ok (.string (strOf (fun _ => 0) 0)) W := fun W => run_str (P := Try.prog) 37 9 5 Try.underlying37 Try.underlying5 Try.underlying9 none 0 0 0 (fun _ => 0) W (fun j hj => absurd hj (by omega)) (fun h => absurd h (by omega))
          have hba : W4.heap.size ≤ wr.heap.size := hsz
          rcases (show q = 0 ∨ q = 1 ∨ q = 2 ∨ q = 3 ∨ q = 4 by omega) with rfl | rfl | rfl | rfl | rfl
          · as_aux_lemma =>
              obtain ⟨v, e', hl⟩ := load_some P g at_ nb
              have HLd := Lib.hid hl
              clear hl
              have e1 := bne_self_eq_false v
              have e2 := bne_self_eq_false e'
              have e3 := bne_self_eq_false (strOf (fun _ => 0) 0).toList
              go_wp2_with fail
              refine (HP.out.pload at_ nb v e' _ g g (HP.out.below HM.out (show Below wr.heap.size wr _ by go_grown)) HAT.out HLd.out).mono ?_
              rintro eE W6 ⟨rfl, hg6⟩
              have hb6 : Below wr.heap.size wr W6 := (show Below wr.heap.size wr _ by go_grown).trans (hg6.mono (by first | omega | go_size))
              obtain ⟨hc6, hf6⟩ := bcell hg6
              have hs6 := hg6.size
              try simp only [World.size_alloc, World.size_setCell, World.size_drew] at hs6
              have hl6_0_0 : W6.cell? ⟨wr.heap.size, 0, none⟩ = some (.int .i64 kd) := (hc6 _ _ (by first | omega | go_size)).trans (by first | (with_reducible assumption) | go_cell)
              have hz6_0_0 : W6.frozen? ⟨wr.heap.size, 0, none⟩ = false := (hf6 _ _ (by first | omega | go_size)).trans (by first | (with_reducible assumption) | (go_simp; done) | (simp [*]; done))
              have hl6_0_1 : W6.cell? ⟨wr.heap.size, 1, none⟩ = some (.int .u64 at_) := (hc6 _ _ (by first | omega | go_size)).trans (by first | (with_reducible assumption) | go_cell)
              have hz6_0_1 : W6.frozen? ⟨wr.heap.size, 1, none⟩ = false := (hf6 _ _ (by first | omega | go_size)).trans (by first | (with_reducible assumption) | (go_simp; done) | (simp [*]; done))
              have hl6_0_2 : W6.cell? ⟨wr.heap.size, 2, none⟩ = some (.int .i64 nb) := (hc6 _ _ (by first | omega | go_size)).trans (by first | (with_reducible assumption) | go_cell)
              have hz6_0_2 : W6.frozen? ⟨wr.heap.size, 2, none⟩ = false := (hf6 _ _ (by first | omega | go_size)).trans (by first | (with_reducible assumption) | (go_simp; done) | (simp [*]; done))
              have hl6_0_3 : W6.cell? ⟨wr.heap.size, 3, none⟩ = some (.int .u64 vv) := (hc6 _ _ (by first | omega | go_size)).trans (by first | (with_reducible assumption) | go_cell)
              have hz6_0_3 : W6.frozen? ⟨wr.heap.size, 3, none⟩ = false := (hf6 _ _ (by first | omega | go_size)).trans (by first | (with_reducible assumption) | (go_simp; done) | (simp [*]; done))
              have hl6_0_4 : W6.cell? ⟨wr.heap.size, 4, none⟩ = some (.slice Ab N cb) := (hc6 _ _ (by first | omega | go_size)).trans (by first | (with_reducible assumption) | go_cell)
              have hz6_0_4 : W6.frozen? ⟨wr.heap.size, 4, none⟩ = false := (hf6 _ _ (by first | omega | go_size)).trans (by first | (with_reducible assumption) | (go_simp; done) | (simp [*]; done))
              have hk6_0 : wr.heap.size < W6.heap.size := by omega
              clear hg6 hc6 hf6
              go_wp2_with fail
              refine (HP.out.dload at_ nb v e' _ g g (HP.out.below HM.out (show Below wr.heap.size wr _ by go_grown)) HAT.out HLd.out).mono ?_
              rintro eE W7 ⟨rfl, hg7⟩
              have hb7 : Below wr.heap.size wr W7 := (show Below wr.heap.size wr _ by go_grown).trans (hg7.mono (by first | omega | go_size))
              obtain ⟨hc7, hf7⟩ := bcell hg7
              have hs7 := hg7.size
              try simp only [World.size_alloc, World.size_setCell, World.size_drew] at hs7
              have hl7_0_0 : W7.cell? ⟨wr.heap.size, 0, none⟩ = some (.int .i64 kd) := (hc7 _ _ (by first | omega | go_size)).trans (by first | (with_reducible assumption) | go_cell)
              have hz7_0_0 : W7.frozen? ⟨wr.heap.size, 0, none⟩ = false := (hf7 _ _ (by first | omega | go_size)).trans (by first | (with_reducible assumption) | (go_simp; done) | (simp [*]; done))
              have hl7_0_1 : W7.cell? ⟨wr.heap.size, 1, none⟩ = some (.int .u64 at_) := (hc7 _ _ (by first | omega | go_size)).trans (by first | (with_reducible assumption) | go_cell)
              have hz7_0_1 : W7.frozen? ⟨wr.heap.size, 1, none⟩ = false := (hf7 _ _ (by first | omega | go_size)).trans (by first | (with_reducible assumption) | (go_simp; done) | (simp [*]; done))
              have hl7_0_2 : W7.cell? ⟨wr.heap.size, 2, none⟩ = some (.int .i64 nb) := (hc7 _ _ (by first | omega | go_size)).trans (by first | (with_reducible assumption) | go_cell)
              have hz7_0_2 : W7.frozen? ⟨wr.heap.size, 2, none⟩ = false := (hf7 _ _ (by first | omega | go_size)).trans (by first | (with_reducible assumption) | (go_simp; done) | (simp [*]; done))
              have hl7_0_3 : W7.cell? ⟨wr.heap.size, 3, none⟩ = some (.int .u64 vv) := (hc7 _ _ (by first | omega | go_size)).trans (by first | (with_reducible assumption) | go_cell)
              have hz7_0_3 : W7.frozen? ⟨wr.heap.size, 3, none⟩ = false := (hf7 _ _ (by first | omega | go_size)).trans (by first | (with_reducible assumption) | (go_simp; done) | (simp [*]; done))
              have hl7_0_4 : W7.cell? ⟨wr.heap.size, 4, none⟩ = some (.slice Ab N cb) := (hc7 _ _ (by first | omega | go_size)).trans (by first | (with_reducible assumption) | go_cell)
              have hz7_0_4 : W7.frozen? ⟨wr.heap.size, 4, none⟩ = false := (hf7 _ _ (by first | omega | go_size)).trans (by first | (with_reducible assumption) | (go_simp; done) | (simp [*]; done))
              have hk7_0 : wr.heap.size < W7.heap.size := by omega
              clear hg7 hc7 hf7
              go_wp2_with fail
              go_roundw
              case rel => exact ⟨j + 1, e', g, by omega, by go_num, rfl, rfl, HP.out.below HM.out (show Below wr.heap.size wr _ by go_grown), hbw.trans (Below.mono (show Below wr.heap.size wr _ by go_grown) hsw), by go_size⟩
              case measure => simp [intOf]; omega
          · as_aux_lemma =>
              obtain ⟨g', e', hl⟩ := store_some P g at_ nb vv
              have HLd := Lib.hid hl
              clear hl
              have e1 := bne_self_eq_false (0 : Int)
              have e2 := bne_self_eq_false e'
              have e3 := bne_self_eq_false (strOf (fun _ => 0) 0).toList
              have hPB : P.B = w.heap.size := HB.out
              go_wp2_with fail
              go_region_held3 (fun w' => w'.cell? ⟨wr.heap.size, 1, none⟩ = some (.int .u64 at_) ∧ w'.cell? ⟨wr.heap.size, 2, none⟩ = some (.int .i64 nb) ∧ w'.cell? ⟨wr.heap.size, 3, none⟩ = some (.int .u64 vv))
                (first
                  | exact ⟨k20, k21, k22⟩
                  | exact ⟨k10, k11, k12⟩
                  | go_keep)
                (first
                  | (go_at_call 16; refine (HP.out.pstore at_ nb vv e' g' _ g g' hTd HAT.out HV.out HLd.out).mono ?_; rintro e W2 ⟨rfl, hT2, hW2⟩; have k20 : W2.cell? ⟨wr.heap.size, 1, none⟩ = some (.int .u64 at_) := (hW2.cell hba (by first | omega | go_size)).trans (k10); have k21 : W2.cell? ⟨wr.heap.size, 2, none⟩ = some (.int .i64 nb) := (hW2.cell hba (by first | omega | go_size)).trans (k11); have k22 : W2.cell? ⟨wr.heap.size, 3, none⟩ = some (.int .u64 vv) := (hW2.cell hba (by first | omega | go_size)).trans (k12); have z2 : wr.heap.size + 1 ≤ W2.heap.size := Nat.le_trans (show wr.heap.size + 1 ≤ _ by first | omega | go_size) hW2.size; have hB2 : Below w.heap.size w W2 := hB1.trans (turn_below HB.out hW2 (by omega)))
                  | (go_at_call 17; refine (HP.out.dstore at_ nb vv e' g' _ g' g hTp HAT.out HV.out HLd.out).mono ?_; rintro e W2 ⟨rfl, hT2, hW2⟩; have k20 : W2.cell? ⟨wr.heap.size, 1, none⟩ = some (.int .u64 at_) := (hW2.cell hba (by first | omega | go_size)).trans (k10); have k21 : W2.cell? ⟨wr.heap.size, 2, none⟩ = some (.int .i64 nb) := (hW2.cell hba (by first | omega | go_size)).trans (k11); have k22 : W2.cell? ⟨wr.heap.size, 3, none⟩ = some (.int .u64 vv) := (hW2.cell hba (by first | omega | go_size)).trans (k12); have z2 : wr.heap.size + 1 ≤ W2.heap.size := Nat.le_trans (show wr.heap.size + 1 ≤ _ by first | omega | go_size) hW2.size; have hB2 : Below w.heap.size w W2 := hB1.trans (turn_below HB.out hW2 (by omega)))
                  | (go_at_call 16; refine (HP.out.pstore at_ nb vv e' g' _ g g (HP.out.below HM.out (show Below wr.heap.size wr _ by go_grown)) HAT.out HV.out HLd.out).mono ?_; rintro e W1' ⟨rfl, hTp, hW1⟩; have k10 : W1'.cell? ⟨wr.heap.size, 1, none⟩ = some (.int .u64 at_) := (hW1.cell hba (by first | omega | go_size)).trans (by go_cell); have k11 : W1'.cell? ⟨wr.heap.size, 2, none⟩ = some (.int .i64 nb) := (hW1.cell hba (by first | omega | go_size)).trans (by go_cell); have k12 : W1'.cell? ⟨wr.heap.size, 3, none⟩ = some (.int .u64 vv) := (hW1.cell hba (by first | omega | go_size)).trans (by go_cell); have z1 : wr.heap.size + 1 ≤ W1'.heap.size := Nat.le_trans (show wr.heap.size + 1 ≤ _ by first | omega | go_size) hW1.size; have hB1 : Below w.heap.size w W1' := (show Below w.heap.size w _ by go_grown).trans (turn_below HB.out hW1 (Nat.le_trans hsw (show wr.heap.size ≤ _ by first | omega | go_size))))
                  | (go_at_call 17; refine (HP.out.dstore at_ nb vv e' g' _ g g (HP.out.below HM.out (show Below wr.heap.size wr _ by go_grown)) HAT.out HV.out HLd.out).mono ?_; rintro e W1' ⟨rfl, hTd, hW1⟩; have k10 : W1'.cell? ⟨wr.heap.size, 1, none⟩ = some (.int .u64 at_) := (hW1.cell hba (by first | omega | go_size)).trans (by go_cell); have k11 : W1'.cell? ⟨wr.heap.size, 2, none⟩ = some (.int .i64 nb) := (hW1.cell hba (by first | omega | go_size)).trans (by go_cell); have k12 : W1'.cell? ⟨wr.heap.size, 3, none⟩ = some (.int .u64 vv) := (hW1.cell hba (by first | omega | go_size)).trans (by go_cell); have z1 : wr.heap.size + 1 ≤ W1'.heap.size := Nat.le_trans (show wr.heap.size + 1 ≤ _ by first | omega | go_size) hW1.size; have hB1 : Below w.heap.size w W1' := (show Below w.heap.size w _ by go_grown).trans (turn_below HB.out hW1 (Nat.le_trans hsw (show wr.heap.size ≤ _ by first | omega | go_size)))))
              all_goals (go_wp2_with fail)
              all_goals go_roundw
              all_goals first
                | exact ⟨j + 1, e', g', by omega, by go_num, rfl, rfl, hT2, hB2, by omega⟩
                | (simp [intOf]; omega)
          · as_aux_lemma =>
              by_cases h5 : nb ≤ 5000
              · obtain ⟨N', G, e', hl⟩ := read_some P g at_ nb
                have HLd := Lib.hid hl
                have hG := Lib.hid (byte_any (HP.out.lo HM.out) hl)
                clear hl
                have e1 := bne_self_eq_false (0 : Int)
                have e2 := bne_self_eq_false e'
                have e3 := bne_self_eq_false (strOf G N').toList
                go_wp2_with fail
                refine (HP.out.pread at_ nb N' G e' _ g g (HP.out.below HM.out (show Below wr.heap.size wr _ by go_grown)) HAT.out (by omega) HLd.out).mono ?_
                rintro e W6 ⟨A6, c6, rfl, hr6, hg6⟩
                have HR6 := Lib.hid hr6
                clear hr6
                have hb6 : Below wr.heap.size wr W6 := (show Below wr.heap.size wr _ by go_grown).trans (hg6.mono (by first | omega | go_size))
                obtain ⟨hc6, hf6⟩ := bcell hg6
                have hs6 := hg6.size
                try simp only [World.size_alloc, World.size_setCell, World.size_drew] at hs6
                have hl6_0_0 : W6.cell? ⟨wr.heap.size, 0, none⟩ = some (.int .i64 kd) := (hc6 _ _ (by first | omega | go_size)).trans (by first | (with_reducible assumption) | go_cell)
                have hz6_0_0 : W6.frozen? ⟨wr.heap.size, 0, none⟩ = false := (hf6 _ _ (by first | omega | go_size)).trans (by first | (with_reducible assumption) | (go_simp; done) | (simp [*]; done))
                have hl6_0_1 : W6.cell? ⟨wr.heap.size, 1, none⟩ = some (.int .u64 at_) := (hc6 _ _ (by first | omega | go_size)).trans (by first | (with_reducible assumption) | go_cell)
                have hz6_0_1 : W6.frozen? ⟨wr.heap.size, 1, none⟩ = false := (hf6 _ _ (by first | omega | go_size)).trans (by first | (with_reducible assumption) | (go_simp; done) | (simp [*]; done))
                have hl6_0_2 : W6.cell? ⟨wr.heap.size, 2, none⟩ = some (.int .i64 nb) := (hc6 _ _ (by first | omega | go_size)).trans (by first | (with_reducible assumption) | go_cell)
                have hz6_0_2 : W6.frozen? ⟨wr.heap.size, 2, none⟩ = false := (hf6 _ _ (by first | omega | go_size)).trans (by first | (with_reducible assumption) | (go_simp; done) | (simp [*]; done))
                have hl6_0_3 : W6.cell? ⟨wr.heap.size, 3, none⟩ = some (.int .u64 vv) := (hc6 _ _ (by first | omega | go_size)).trans (by first | (with_reducible assumption) | go_cell)
                have hz6_0_3 : W6.frozen? ⟨wr.heap.size, 3, none⟩ = false := (hf6 _ _ (by first | omega | go_size)).trans (by first | (with_reducible assumption) | (go_simp; done) | (simp [*]; done))
                have hl6_0_4 : W6.cell? ⟨wr.heap.size, 4, none⟩ = some (.slice Ab N cb) := (hc6 _ _ (by first | omega | go_size)).trans (by first | (with_reducible assumption) | go_cell)
                have hz6_0_4 : W6.frozen? ⟨wr.heap.size, 4, none⟩ = false := (hf6 _ _ (by first | omega | go_size)).trans (by first | (with_reducible assumption) | (go_simp; done) | (simp [*]; done))
                have hk6_0 : wr.heap.size < W6.heap.size := by omega
                clear hg6 hc6 hf6
                go_wp2_with fail
                refine (HP.out.dread at_ nb N' G e' _ g g (HP.out.below HM.out (show Below wr.heap.size wr _ by go_grown)) HAT.out (by omega) HLd.out).mono ?_
                rintro e W7 ⟨A7, c7, rfl, hr7, hg7⟩
                have HS6 := run_str (P := Try.prog) 37 9 5 Try.underlying37 Try.underlying5 Try.underlying9 A6 N' c6 W7.heap.size G W7 hG.out (GmScriptA.rowAt HR6.out hg7)
                have HS7 := run_str (P := Try.prog) 37 9 5 Try.underlying37 Try.underlying5 Try.underlying9 A7 N' c7 W7.heap.size G W7 hG.out hr7
                clear hr7
                have hb7 : Below wr.heap.size wr W7 := (show Below wr.heap.size wr _ by go_grown).trans (hg7.mono (by first | omega | go_size))
                obtain ⟨hc7, hf7⟩ := bcell hg7
                have hs7 := hg7.size
                try simp only [World.size_alloc, World.size_setCell, World.size_drew] at hs7
                have hl7_0_0 : W7.cell? ⟨wr.heap.size, 0, none⟩ = some (.int .i64 kd) := (hc7 _ _ (by first | omega | go_size)).trans (by first | (with_reducible assumption) | go_cell)
                have hz7_0_0 : W7.frozen? ⟨wr.heap.size, 0, none⟩ = false := (hf7 _ _ (by first | omega | go_size)).trans (by first | (with_reducible assumption) | (go_simp; done) | (simp [*]; done))
                have hl7_0_1 : W7.cell? ⟨wr.heap.size, 1, none⟩ = some (.int .u64 at_) := (hc7 _ _ (by first | omega | go_size)).trans (by first | (with_reducible assumption) | go_cell)
                have hz7_0_1 : W7.frozen? ⟨wr.heap.size, 1, none⟩ = false := (hf7 _ _ (by first | omega | go_size)).trans (by first | (with_reducible assumption) | (go_simp; done) | (simp [*]; done))
                have hl7_0_2 : W7.cell? ⟨wr.heap.size, 2, none⟩ = some (.int .i64 nb) := (hc7 _ _ (by first | omega | go_size)).trans (by first | (with_reducible assumption) | go_cell)
                have hz7_0_2 : W7.frozen? ⟨wr.heap.size, 2, none⟩ = false := (hf7 _ _ (by first | omega | go_size)).trans (by first | (with_reducible assumption) | (go_simp; done) | (simp [*]; done))
                have hl7_0_3 : W7.cell? ⟨wr.heap.size, 3, none⟩ = some (.int .u64 vv) := (hc7 _ _ (by first | omega | go_size)).trans (by first | (with_reducible assumption) | go_cell)
                have hz7_0_3 : W7.frozen? ⟨wr.heap.size, 3, none⟩ = false := (hf7 _ _ (by first | omega | go_size)).trans (by first | (with_reducible assumption) | (go_simp; done) | (simp [*]; done))
                have hl7_0_4 : W7.cell? ⟨wr.heap.size, 4, none⟩ = some (.slice Ab N cb) := (hc7 _ _ (by first | omega | go_size)).trans (by first | (with_reducible assumption) | go_cell)
                have hz7_0_4 : W7.frozen? ⟨wr.heap.size, 4, none⟩ = false := (hf7 _ _ (by first | omega | go_size)).trans (by first | (with_reducible assumption) | (go_simp; done) | (simp [*]; done))
                have hk7_0 : wr.heap.size < W7.heap.size := by omega
                clear hg7 hc7 hf7
                go_wp2_with fail
                go_roundw
                case rel => exact ⟨j + 1, e', g, by omega, by go_num, rfl, rfl, HP.out.below HM.out (show Below wr.heap.size wr _ by go_grown), hbw.trans (Below.mono (show Below wr.heap.size wr _ by go_grown) hsw), by go_size⟩
                case measure => simp [intOf]; omega
              · obtain ⟨N', G, e', hl⟩ := read_some P g at_ 5000
                have HLd := Lib.hid hl
                have hG := Lib.hid (byte_any (HP.out.lo HM.out) hl)
                clear hl
                have e1 := bne_self_eq_false (0 : Int)
                have e2 := bne_self_eq_false e'
                have e3 := bne_self_eq_false (strOf G N').toList
                go_wp2_with fail
                refine (HP.out.pread at_ 5000 N' G e' _ g g (HP.out.below HM.out (show Below wr.heap.size wr _ by go_grown)) HAT.out (by omega) HLd.out).mono ?_
                rintro e W6 ⟨A6, c6, rfl, hr6, hg6⟩
                have HR6 := Lib.hid hr6
                clear hr6
                have hb6 : Below wr.heap.size wr W6 := (show Below wr.heap.size wr _ by go_grown).trans (hg6.mono (by first | omega | go_size))
                obtain ⟨hc6, hf6⟩ := bcell hg6
                have hs6 := hg6.size
                try simp only [World.size_alloc, World.size_setCell, World.size_drew] at hs6
                have hl6_0_0 : W6.cell? ⟨wr.heap.size, 0, none⟩ = some (.int .i64 kd) := (hc6 _ _ (by first | omega | go_size)).trans (by first | (with_reducible assumption) | go_cell)
                have hz6_0_0 : W6.frozen? ⟨wr.heap.size, 0, none⟩ = false := (hf6 _ _ (by first | omega | go_size)).trans (by first | (with_reducible assumption) | (go_simp; done) | (simp [*]; done))
                have hl6_0_1 : W6.cell? ⟨wr.heap.size, 1, none⟩ = some (.int .u64 at_) := (hc6 _ _ (by first | omega | go_size)).trans (by first | (with_reducible assumption) | go_cell)
                have hz6_0_1 : W6.frozen? ⟨wr.heap.size, 1, none⟩ = false := (hf6 _ _ (by first | omega | go_size)).trans (by first | (with_reducible assumption) | (go_simp; done) | (simp [*]; done))
                have hl6_0_2 : W6.cell? ⟨wr.heap.size, 2, none⟩ = some (.int .i64 nb) := (hc6 _ _ (by first | omega | go_size)).trans (by first | (with_reducible assumption) | go_cell)
                have hz6_0_2 : W6.frozen? ⟨wr.heap.size, 2, none⟩ = false := (hf6 _ _ (by first | omega | go_size)).trans (by first | (with_reducible assumption) | (go_simp; done) | (simp [*]; done))
                have hl6_0_3 : W6.cell? ⟨wr.heap.size, 3, none⟩ = some (.int .u64 vv) := (hc6 _ _ (by first | omega | go_size)).trans (by first | (with_reducible assumption) | go_cell)
                have hz6_0_3 : W6.frozen? ⟨wr.heap.size, 3, none⟩ = false := (hf6 _ _ (by first | omega | go_size)).trans (by first | (with_reducible assumption) | (go_simp; done) | (simp [*]; done))
                have hl6_0_4 : W6.cell? ⟨wr.heap.size, 4, none⟩ = some (.slice Ab N cb) := (hc6 _ _ (by first | omega | go_size)).trans (by first | (with_reducible assumption) | go_cell)
                have hz6_0_4 : W6.frozen? ⟨wr.heap.size, 4, none⟩ = false := (hf6 _ _ (by first | omega | go_size)).trans (by first | (with_reducible assumption) | (go_simp; done) | (simp [*]; done))
                have hk6_0 : wr.heap.size < W6.heap.size := by omega
                clear hg6 hc6 hf6
                go_wp2_with fail
                refine (HP.out.dread at_ 5000 N' G e' _ g g (HP.out.below HM.out (show Below wr.heap.size wr _ by go_grown)) HAT.out (by omega) HLd.out).mono ?_
                rintro e W7 ⟨A7, c7, rfl, hr7, hg7⟩
                have HS6 := run_str (P := Try.prog) 37 9 5 Try.underlying37 Try.underlying5 Try.underlying9 A6 N' c6 W7.heap.size G W7 hG.out (GmScriptA.rowAt HR6.out hg7)
                have HS7 := run_str (P := Try.prog) 37 9 5 Try.underlying37 Try.underlying5 Try.underlying9 A7 N' c7 W7.heap.size G W7 hG.out hr7
                clear hr7
                have hb7 : Below wr.heap.size wr W7 := (show Below wr.heap.size wr _ by go_grown).trans (hg7.mono (by first | omega | go_size))
                obtain ⟨hc7, hf7⟩ := bcell hg7
                have hs7 := hg7.size
                try simp only [World.size_alloc, World.size_setCell, World.size_drew] at hs7
                have hl7_0_0 : W7.cell? ⟨wr.heap.size, 0, none⟩ = some (.int .i64 kd) := (hc7 _ _ (by first | omega | go_size)).trans (by first | (with_reducible assumption) | go_cell)
                have hz7_0_0 : W7.frozen? ⟨wr.heap.size, 0, none⟩ = false := (hf7 _ _ (by first | omega | go_size)).trans (by first | (with_reducible assumption) | (go_simp; done) | (simp [*]; done))
                have hl7_0_1 : W7.cell? ⟨wr.heap.size, 1, none⟩ = some (.int .u64 at_) := (hc7 _ _ (by first | omega | go_size)).trans (by first | (with_reducible assumption) | go_cell)
                have hz7_0_1 : W7.frozen? ⟨wr.heap.size, 1, none⟩ = false := (hf7 _ _ (by first | omega | go_size)).trans (by first | (with_reducible assumption) | (go_simp; done) | (simp [*]; done))
                have hl7_0_2 : W7.cell? ⟨wr.heap.size, 2, none⟩ = some (.int .i64 nb) := (hc7 _ _ (by first | omega | go_size)).trans (by first | (with_reducible assumption) | go_cell)
                have hz7_0_2 : W7.frozen? ⟨wr.heap.size, 2, none⟩ = false := (hf7 _ _ (by first | omega | go_size)).trans (by first | (with_reducible assumption) | (go_simp; done) | (simp [*]; done))
                have hl7_0_3 : W7.cell? ⟨wr.heap.size, 3, none⟩ = some (.int .u64 vv) := (hc7 _ _ (by first | omega | go_size)).trans (by first | (with_reducible assumption) | go_cell)
                have hz7_0_3 : W7.frozen? ⟨wr.heap.size, 3, none⟩ = false := (hf7 _ _ (by first | omega | go_size)).trans (by first | (with_reducible assumption) | (go_simp; done) | (simp [*]; done))
                have hl7_0_4 : W7.cell? ⟨wr.heap.size, 4, none⟩ = some (.slice Ab N cb) := (hc7 _ _ (by first | omega | go_size)).trans (by first | (with_reducible assumption) | go_cell)
                have hz7_0_4 : W7.frozen? ⟨wr.heap.size, 4, none⟩ = false := (hf7 _ _ (by first | omega | go_size)).trans (by first | (with_reducible assumption) | (go_simp; done) | (simp [*]; done))
                have hk7_0 : wr.heap.size < W7.heap.size := by omega
                clear hg7 hc7 hf7
                go_wp2_with fail
                go_roundw
                case rel => exact ⟨j + 1, e', g, by omega, by go_num, rfl, rfl, HP.out.below HM.out (show Below wr.heap.size wr _ by go_grown), hbw.trans (Below.mono (show Below wr.heap.size wr _ by go_grown) hsw), by go_size⟩
                case measure => simp [intOf]; omega
          · as_aux_lemma =>
              obtain ⟨g', e', hl⟩ := write_some P g at_ N gb
              have HLd := Lib.hid hl
              clear hl
              have e1 := bne_self_eq_false (0 : Int)
              have e2 := bne_self_eq_false e'
              have e3 := bne_self_eq_false (strOf (fun _ => 0) 0).toList
              have hPB : P.B = w.heap.size := HB.out
              go_wp2_with fail
              go_region_held3 (fun w' => w'.cell? ⟨wr.heap.size, 1, none⟩ = some (.int .u64 at_) ∧ w'.cell? ⟨wr.heap.size, 4, none⟩ = some (.slice Ab N cb))
                (first
                  | exact ⟨kF0, kF1⟩
                  | exact ⟨kdx0, kdx1⟩
                  | exact ⟨kxd0, kxd1⟩
                  | exact ⟨kxp0, kxp1⟩
                  | exact ⟨kx0, kx1⟩
                  | exact ⟨kd0, kd1⟩
                  | go_keep)
                (first
                  | (go_at_call 20; refine (HP.out.pwrite at_ Ao N co gb g' e' _ g g' hTdx HAT.out hN HGB.out hOdx HLd.out).mono ?_; rintro e WF ⟨rfl, hTF, hWF⟩; have kF0 : WF.cell? ⟨wr.heap.size, 1, none⟩ = some (.int .u64 at_) := (hWF.cell hba (by first | omega | go_size)).trans (kdx0); have kF1 : WF.cell? ⟨wr.heap.size, 4, none⟩ = some (.slice Ab N cb) := (hWF.cell hba (by first | omega | go_size)).trans (kdx1); have zF : wr.heap.size + 1 ≤ WF.heap.size := Nat.le_trans (show wr.heap.size + 1 ≤ _ by first | omega | go_size) hWF.size; have hBF : Below w.heap.size w WF := hBdx.trans (turn_below HB.out hWF (by omega)))
                  | (go_at_call 20; refine (HP.out.pwrite at_ Ao N co gb g' e' _ g g' hTxd HAT.out hN HGB.out hOxd HLd.out).mono ?_; rintro e WF ⟨rfl, hTF, hWF⟩; have kF0 : WF.cell? ⟨wr.heap.size, 1, none⟩ = some (.int .u64 at_) := (hWF.cell hba (by first | omega | go_size)).trans (kxd0); have kF1 : WF.cell? ⟨wr.heap.size, 4, none⟩ = some (.slice Ab N cb) := (hWF.cell hba (by first | omega | go_size)).trans (kxd1); have zF : wr.heap.size + 1 ≤ WF.heap.size := Nat.le_trans (show wr.heap.size + 1 ≤ _ by first | omega | go_size) hWF.size; have hBF : Below w.heap.size w WF := hBxd.trans (turn_below HB.out hWF (by omega)))
                  | (go_at_call 22; refine (HP.out.dwrite at_ Ab N cb gb g' e' _ g' g hTxp HAT.out hN HGB.out (GmScriptA.rowAt HRB.out hBxp) HLd.out).mono ?_; rintro e WF ⟨rfl, hTF, hWF⟩; have kF0 : WF.cell? ⟨wr.heap.size, 1, none⟩ = some (.int .u64 at_) := (hWF.cell hba (by first | omega | go_size)).trans (kxp0); have kF1 : WF.cell? ⟨wr.heap.size, 4, none⟩ = some (.slice Ab N cb) := (hWF.cell hba (by first | omega | go_size)).trans (kxp1); have zF : wr.heap.size + 1 ≤ WF.heap.size := Nat.le_trans (show wr.heap.size + 1 ≤ _ by first | omega | go_size) hWF.size; have hBF : Below w.heap.size w WF := hBxp.trans (turn_below HB.out hWF (by omega)))
                  | (go_at_call 20; refine (HP.out.pwrite at_ Ao N co gb g' e' _ g g hTx HAT.out hN HGB.out hOx HLd.out).mono ?_; rintro e Wxp ⟨rfl, hTxp, hWxp⟩; have kxp0 : Wxp.cell? ⟨wr.heap.size, 1, none⟩ = some (.int .u64 at_) := (hWxp.cell hba (by first | omega | go_size)).trans (kx0); have kxp1 : Wxp.cell? ⟨wr.heap.size, 4, none⟩ = some (.slice Ab N cb) := (hWxp.cell hba (by first | omega | go_size)).trans (kx1); have zxp : wr.heap.size + 1 ≤ Wxp.heap.size := Nat.le_trans (show wr.heap.size + 1 ≤ _ by first | omega | go_size) hWxp.size; have hBxp : Below w.heap.size w Wxp := hBx.trans (turn_below HB.out hWxp (by omega)))
                  | (go_at_call 22; refine (HP.out.dwrite at_ Ab N cb gb g' e' _ g g hTx HAT.out hN HGB.out (GmScriptA.rowAt HRB.out hBx) HLd.out).mono ?_; rintro e Wxd ⟨rfl, hTxd, hWxd⟩; have kxd0 : Wxd.cell? ⟨wr.heap.size, 1, none⟩ = some (.int .u64 at_) := (hWxd.cell hba (by first | omega | go_size)).trans (kx0); have kxd1 : Wxd.cell? ⟨wr.heap.size, 4, none⟩ = some (.slice Ab N cb) := (hWxd.cell hba (by first | omega | go_size)).trans (kx1); have zxd : wr.heap.size + 1 ≤ Wxd.heap.size := Nat.le_trans (show wr.heap.size + 1 ≤ _ by first | omega | go_size) hWxd.size; have hBxd : Below w.heap.size w Wxd := hBx.trans (turn_below HB.out hWxd (by omega)); have hOxd : IsRow Wxd Wxd.heap.size 1 Ao N (u8F gb) := hWxd.row hOx hBo)
                  | (go_at_call 21; refine (own_any Ab N cb gb _ (by omega) (GmScriptA.rowAt HRB.out hBd) HAB.out).mono ?_; rintro e Wdx ⟨Ao, co, rfl, hco, hro, hbo, hgo⟩; have hTdx : M Wdx g g' := HP.out.below hTd hgo; have hOdx : IsRow Wdx Wdx.heap.size 1 Ao N (u8F gb) := hro; have hBo : ∀ ad', Ao = some ad' → W4.heap.size ≤ ad'.block := fun ad' e => Nat.le_trans (by first | omega | (exact Nat.le_trans hba (show wr.heap.size ≤ _ by first | omega | go_size))) (hbo ad' e); have kdx0 : Wdx.cell? ⟨wr.heap.size, 1, none⟩ = some (.int .u64 at_) := (hgo.cell (p := ⟨wr.heap.size, 1, none⟩) (by first | omega | go_size)).trans (kd0); have kdx1 : Wdx.cell? ⟨wr.heap.size, 4, none⟩ = some (.slice Ab N cb) := (hgo.cell (p := ⟨wr.heap.size, 4, none⟩) (by first | omega | go_size)).trans (kd1); have zdx : wr.heap.size + 1 ≤ Wdx.heap.size := Nat.le_trans (show wr.heap.size + 1 ≤ _ by first | omega | go_size) hgo.size; have hBdx : Below w.heap.size w Wdx := hBd.trans (hgo.mono (by first | omega | (exact Nat.le_trans hsw (show wr.heap.size ≤ _ by first | omega | go_size)))))
                  | (go_at_call 21; refine (own_any Ab N cb gb _ (by omega) (GmScriptA.rowAt HRB.out (show Below w.heap.size w _ by go_grown)) HAB.out).mono ?_; rintro e Wx ⟨Ao, co, rfl, hco, hro, hbo, hgo⟩; have hTx : M Wx g g := HP.out.below (HP.out.below HM.out (show Below wr.heap.size wr _ by go_grown)) hgo; have hOx : IsRow Wx Wx.heap.size 1 Ao N (u8F gb) := hro; have hBo : ∀ ad', Ao = some ad' → W4.heap.size ≤ ad'.block := fun ad' e => Nat.le_trans (by first | omega | (exact Nat.le_trans hba (show wr.heap.size ≤ _ by first | omega | go_size))) (hbo ad' e); have kx0 : Wx.cell? ⟨wr.heap.size, 1, none⟩ = some (.int .u64 at_) := (hgo.cell (p := ⟨wr.heap.size, 1, none⟩) (by first | omega | go_size)).trans (by go_cell); have kx1 : Wx.cell? ⟨wr.heap.size, 4, none⟩ = some (.slice Ab N cb) := (hgo.cell (p := ⟨wr.heap.size, 4, none⟩) (by first | omega | go_size)).trans (by go_cell); have zx : wr.heap.size + 1 ≤ Wx.heap.size := Nat.le_trans (show wr.heap.size + 1 ≤ _ by first | omega | go_size) hgo.size; have hBx : Below w.heap.size w Wx := (show Below w.heap.size w _ by go_grown).trans (hgo.mono (by first | omega | (exact Nat.le_trans hsw (show wr.heap.size ≤ _ by first | omega | go_size)))))
                  | (go_at_call 22; refine (HP.out.dwrite at_ Ab N cb gb g' e' _ g g (HP.out.below HM.out (show Below wr.heap.size wr _ by go_grown)) HAT.out hN HGB.out (GmScriptA.rowAt HRB.out (show Below w.heap.size w _ by go_grown)) HLd.out).mono ?_; rintro e Wd ⟨rfl, hTd, hWd⟩; have kd0 : Wd.cell? ⟨wr.heap.size, 1, none⟩ = some (.int .u64 at_) := (hWd.cell hba (by first | omega | go_size)).trans (by go_cell); have kd1 : Wd.cell? ⟨wr.heap.size, 4, none⟩ = some (.slice Ab N cb) := (hWd.cell hba (by first | omega | go_size)).trans (by go_cell); have zd : wr.heap.size + 1 ≤ Wd.heap.size := Nat.le_trans (show wr.heap.size + 1 ≤ _ by first | omega | go_size) hWd.size; have hBd : Below w.heap.size w Wd := (show Below w.heap.size w _ by go_grown).trans (turn_below HB.out hWd (Nat.le_trans hsw (show wr.heap.size ≤ _ by first | omega | go_size)))))
              all_goals (go_wp2_with fail)
              all_goals go_roundw
              all_goals first
                | exact ⟨j + 1, e', g', by omega, by go_num, rfl, rfl, hTF, hBF, by omega⟩
                | (simp [intOf]; omega)
          · as_aux_lemma =>
              have e3 := bne_self_eq_false (strOf (fun _ => 0) 0).toList
              have hPB : P.B = w.heap.size := HB.out
              go_wp2_with fail
              refine Lib.wp_region_class (Lib.Held wr _ [(wr.heap.size, 0, (.int .i64 kd : Value)), (wr.heap.size, 1, (.int .u64 at_ : Value)), (wr.heap.size, 2, (.int .i64 nb : Value)), (wr.heap.size, 3, (.int .u64 vv : Value)), (wr.heap.size, 4, (.slice Ab N cb : Value))]) (by kernel_rfl) (by kernel_rfl) ⟨by go_grown, Below.refl _ _, ⟨by first | omega | go_size, by first | go_cell | (simp [*]; done), by first | (with_reducible assumption) | (go_simp; done) | (simp [*]; done)⟩, ⟨by first | omega | go_size, by first | go_cell | (simp [*]; done), by first | (with_reducible assumption) | (go_simp; done) | (simp [*]; done)⟩, ⟨by first | omega | go_size, by first | go_cell | (simp [*]; done), by first | (with_reducible assumption) | (go_simp; done) | (simp [*]; done)⟩, ⟨by first | omega | go_size, by first | go_cell | (simp [*]; done), by first | (with_reducible assumption) | (go_simp; done) | (simp [*]; done)⟩, ⟨by first | omega | go_size, by first | go_cell | (simp [*]; done), by first | (with_reducible assumption) | (go_simp; done) | (simp [*]; done)⟩, trivial⟩ ?_
              repeat (first | go_big_quiet_step ((intro hq; first | rfl | (go_at_call 23; exact Lib.Held.call hq (HP.out.phas at_ vv _ g g (HP.out.below (HP.out.below HM.out (show Below wr.heap.size wr _ by go_grown)) hq.2.1) HAT.out HV.out)) | (go_at_call 24; exact Lib.Held.call hq (HP.out.dhas at_ vv _ g g (HP.out.below (HP.out.below HM.out (show Below wr.heap.size wr _ by go_grown)) hq.2.1) HAT.out HV.out)) | (have hq' := hq; obtain ⟨hbq, heq, ⟨hkq_0, hlq_0, hzq_0⟩, ⟨hkq_1, hlq_1, hzq_1⟩, ⟨hkq_2, hlq_2, hzq_2⟩, ⟨hkq_3, hlq_3, hzq_3⟩, ⟨hkq_4, hlq_4, hzq_4⟩, _⟩ := hq'; go_simp; rfl))) | quiet_step ((intro hq; first | rfl | (go_at_call 23; exact Lib.Held.call hq (HP.out.phas at_ vv _ g g (HP.out.below (HP.out.below HM.out (show Below wr.heap.size wr _ by go_grown)) hq.2.1) HAT.out HV.out)) | (go_at_call 24; exact Lib.Held.call hq (HP.out.dhas at_ vv _ g g (HP.out.below (HP.out.below HM.out (show Below wr.heap.size wr _ by go_grown)) hq.2.1) HAT.out HV.out)) | (have hq' := hq; obtain ⟨hbq, heq, ⟨hkq_0, hlq_0, hzq_0⟩, ⟨hkq_1, hlq_1, hzq_1⟩, ⟨hkq_2, hlq_2, hzq_2⟩, ⟨hkq_3, hlq_3, hzq_3⟩, ⟨hkq_4, hlq_4, hzq_4⟩, _⟩ := hq'; go_simp; rfl))))
              refine wpQuiet_nil ?_
              intro W6 hq6
              obtain ⟨hb6, he6, ⟨hk6_0, hl6_0, hz6_0⟩, ⟨hk6_1, hl6_1, hz6_1⟩, ⟨hk6_2, hl6_2, hz6_2⟩, ⟨hk6_3, hl6_3, hz6_3⟩, ⟨hk6_4, hl6_4, hz6_4⟩, _⟩ := hq6
              have hs6 := he6.size
              try simp only [World.size_alloc, World.size_setCell, World.size_drew] at hs6
              go_wp2_with fail
              go_roundw
              case rel => exact ⟨j + 1, ev, g, by omega, by go_num, rfl, rfl, HP.out.below HM.out (show Below wr.heap.size wr _ by go_grown), hbw.trans (Below.mono (show Below wr.heap.size wr _ by go_grown) hsw), by go_size⟩
              case measure => simp [intOf]; omega
        · as_aux_lemma =>
            obtain rfl : j = k2 := by omega
            have dj : decide (((j : Nat) : Int) < ((j : Nat) : Int)) = false := decide_eq_false (by omega)
            go_wp2_with fail
            have hlw := HR.out.lst
            have hLs : Lst wr wr.heap.size A1 k1 r := GmScriptA.rowAt hlw hbw
            have hk1 : k1 ≤ 1000000 := by omega
            refine Asrt.to_ops (id := 30) (ops := GmScriptR30.OPS) (by kernel_rfl) ?_
            refine Asrt.wp_region_assert (by kernel_rfl) (by kernel_rfl) (Lib.Held w wr []) [(180, .is (.pointer (some ⟨P.m, 0, none⟩))), (181, .cut 1 S (u8F g)), (182, .is (.string (strOf g S))), (183, .is (.pointer (some ⟨P.mm, 0, none⟩))), (184, .cut 1 S (u8F g)), (185, .is (.string (strOf g S))), (186, .is (.bool true)), (187, .is (.bool true)), (188, .is (.pointer (some ⟨P.m, 0, none⟩))), (189, .cut 2 k1 r.cell), (190, .is (.slice A1 k1 c1)), (191, .is (.bool true)), (192, .is (.bool true)), (4, .is (.bool true))] ⟨hbw.drew, (Below.refl _ _).drew, trivial⟩ (by kernel_rfl) (by kernel_rfl) (GmScriptR30.obs w wr P S W4.heap.size M g A1 k1 c1 r HP.out HM.out HK.out HRR.out hk1 hLs _ (fun _ _ => rfl) (fun _ _ => rfl) (fun _ _ => rfl) (fun _ _ => rfl) (fun _ _ => rfl) (fun _ _ => rfl) (fun _ _ => rfl) (fun _ _ => rfl) (fun _ _ => rfl) (fun _ _ => rfl) (fun _ _ => rfl) (fun _ _ => rfl) (fun _ _ => rfl) (fun _ _ => rfl) (fun _ _ => rfl) (fun _ _ => rfl) (fun _ _ => rfl)) ?_
            intro a30 w30 hC30 hB30 hs30 hd30 hT30 hU30
            have e4 : a30.tmps.getD 4 undef = .bool true := hT30 4 _ rfl
            rename_i K hK
            refine hK _ _ (wp_ret ?_)
            refine bodyPost_ret (results_tmp rfl _ _ _) hd30 ?_
            rw [e4]
            exact ⟨rfl, hC30.1⟩

theorem walk (v1 : Value) (A1 : Option Addr) (k1 c1 : Nat) (r : Rg) (v2 : Value) (A2 : Option Addr) (k2 c2 : Nat) (f : Nat → Ac) (w : World) (hR : IsRegs w v1 A1 k1 c1 r) (hC : IsActs w v2 A2 k2 c2 f) : Calls Try.prog 3 #[v1, v2] w (Lib.True1 w.heap.size w) := by
  obtain rfl := hR.val
  obtain rfl := hC.val
  by_cases h : GmTwin.Good k1 r
  · exact walk_on A1 A2 k1 c1 k2 c2 r f w hR hC h
  · exact walk_off A1 A2 k1 c1 k2 c2 r f w hR hC h

set_option maxRecDepth 100000 in
theorem lifted (os : Os) (started : os.Started) (H : Type) (enc : TypeId × Value → H) :
    ReturnsInHanded {} Try.checked os 3 .any (Rows.gmemScriptSpec.pre6 enc Try.prog Try.f3 Rows.gmemScriptRow.domain false) (Rows.gmemScriptSpec.post enc Try.prog Try.f3 false true false false) := by
  refine Lib.lifted (C := Try.checked) (tb := 4) H enc Lib.own started (by kernel_rfl) Try.func3
    (ChangeSpec.witness6 (enc := enc) (C := Try.checked) false ⟨#[], #[.slice none 0 0, .slice none 0 0], []⟩ 8 (by kernel_rfl) (by kernel_rfl) (by kernel_rfl) (by kernel_rfl))
    Lib.laidOut (Lib.readable_of (by kernel_rfl)) rfl Try.underlying4 rfl ?_ ?_
  · intro ds h
    match ds, h with
    | [_, _], _ => exact ⟨rfl, rfl, rfl⟩
  · intro W base args ds p hval hA hfz hlt
    rw [Try.params3] at hval
    have hA' : DataW.TrodAll enc Try.prog W 0 (fun _ => true) true Try.f3.params.toList args.toList ds p := hA
    rw [Try.params3] at hA'
    obtain ⟨v0, vs0, d0, ds0, p0, q0, hargs, rfl, rfl, h0, r0⟩ := trodAll_cons hA'
    obtain ⟨v1, vs1, d1, ds1, p1, q1, rfl, rfl, rfl, h1, r1⟩ := trodAll_cons r0
    obtain ⟨rfl, rfl, rfl⟩ := trodAll_nil r1
    obtain rfl : args = #[v0, v1] := by cases args; simp_all
    obtain ⟨a0_0, a0_1, a0_2, a0_3, w0⟩ := GmArgs.open_regions (hval 0 22 v0 rfl rfl) h0
    obtain ⟨a1_0, a1_1, a1_2, a1_3, w1⟩ := GmActs.open_acts (hval 1 23 v1 rfl rfl) h1
    exact walk v0 a0_0 a0_1 a0_2 a0_3 v1 a1_0 a1_1 a1_2 a1_3 W w0 w1

theorem over : Rows.gmemScriptRow.holds Try.pinned (OpenSpec.ofChange Rows.gmemScriptSpec) :=
  OpenClaim.holds_of_wide 3 Try.f3 rfl rfl rfl rfl rfl rfl rfl ⟨rfl, rfl, rfl, rfl, rfl⟩ rfl rfl rfl rfl rfl (by kernel_rfl) Try.func3 (by kernel_rfl)
    (of_decide_eq_true (by kernel_rfl)) (by unfold Func.isWrapper; first | (rw [if_pos (by decide +kernel)]; kernel_rfl) | (rw [if_neg (by decide +kernel)]; exact ⟨rfl, rfl⟩))
    (fun os started H enc _ => lifted os started H enc)

/-- The statement. -/
theorem proved : Rows.GmemScriptSaid :=
  over

end Go.Proofs.Ytmmgcmbniidieaa.GmemScript
