/- The law GmemHolds: what was stored last is loaded, byte by byte; nothing exists outside the regions. For every list of regions and of calls; no condition. -/
import Derived.Test.YtmmgcmbniidieaaGmHoldM
import Derived.Test.YtmmgcmbniidieaaGmScriptA
import Derived.Test.YtmmgcmbniidieaaPick
import Derived.Deep.RegionHeld3
import Derived.Deep.DeepCutAuto
namespace Go.Proofs.Ytmmgcmbniidieaa.GmemHolds
open Go.ChangeShapes Go.WideShapes Go.ChangeAt Go.RowKit Rw Le GmFind GmWord GmCheck GmNew GmTwo GmPair GmZero GmOwn GmArgs GmActs GmSmall GmScriptA GmSolo GmHoldM
open Go.Proofs.Ytmmgcmbniidieaa.GmRefP (putG)
set_option linter.unusedVariables false
set_option linter.unusedSimpArgs false

theorem new_lt {W : World} {m k : Nat} {r : Rg} (h : PNew W m k r) : m < W.heap.size := by
  rcases h with ⟨_, _, _, _, _, _, _, hM, _⟩ | ⟨_, _, hM⟩
  · exact hM.lt
  · exact hM.lt
/-- What the loop over the calls keeps. -/
structure Keeps (w0 : World) (P : Nums) (M : World → (Nat → Int) → Prop) (mb : Nat) (wr : World) (n : Nat) (g : Nat → Int) (H : Int → Int) : Prop where
  mem : M wr g
  map : BMap wr mb n H
  same : Same P.r P.k H g
  bel : Below w0.heap.size w0 wr

set_option maxRecDepth 100000 in
set_option maxHeartbeats 16000000 in
theorem walk_on (A1 A2 : Option Addr) (k1 c1 k2 c2 : Nat) (r : Rg) (f : Nat → Ac) (w : World) (hR : IsRegs w (.slice A1 k1 c1) A1 k1 c1 r) (hC : IsActs w (.slice A2 k2 c2) A2 k2 c2 f) : Calls Try.prog 4 #[.slice A1 k1 c1, .slice A2 k2 c2] w (Lib.True1 w.heap.size w) := by
  unfold Lib.True1
  have HR := Lib.hid hR
  have HC := Lib.hid hC
  have hm := hC.max
  have hle := hC.le
  unfold maxLen at hm
  clear hR hC
  go_enter Try.func4, Try.ntmps4
  go_wp2_with fail
  have hb00 : Below w.heap.size w (w.alloc (.cells #[.slice A1 k1 c1] 22)) := (Below.refl _ _).alloc (Nat.le_refl _) _
  have hs00 : (w.alloc (.cells #[.slice A1 k1 c1] 22)).heap.size = w.heap.size + 1 := World.size_alloc _ _
  have hbx : (w.alloc (.cells #[.slice A1 k1 c1] 22)).cell? ⟨w.heap.size, 0, none⟩ = some (.slice A1 k1 c1) := by go_cell
  have hfx : (w.alloc (.cells #[.slice A1 k1 c1] 22)).frozen? ⟨w.heap.size, 0, none⟩ = false := by first | (go_simp; done) | (simp; done)
  generalize w.alloc (.cells #[.slice A1 k1 c1] 22) = w0 at hb00 hs00 hbx hfx ⊢
  have hkx : w.heap.size < w0.heap.size := by omega
  have HL := Lib.hid (show Lst w0 w0.heap.size A1 k1 r from GmScriptA.rowAt HR.out.lst hb00)
  have HAc := Lib.hid (show IsRow w0 w0.heap.size 5 A2 k2 (cellA f) from GmScriptA.rowAt HC.out.row hb00)
  have HBy := Lib.hid (fun i (hi : i < k2) => isB_at (HC.out.wb i hi) hb00)
  have hb0 : Below w0.heap.size w0 w0 := Below.refl _ _
  refine (lives_any _).mono ?_
  rintro eE W1 ⟨rfl, hg1⟩
  have hb1 : Below w0.heap.size w0 W1 := (show Below w0.heap.size w0 _ by go_grown).trans (hg1.mono (by first | omega | go_size))
  obtain ⟨hc1, hf1⟩ := bcell hg1
  have hs1 := hg1.size
  try simp only [World.size_alloc, World.size_setCell, World.size_drew] at hs1
  have hl1_0_0 : W1.cell? ⟨w.heap.size, 0, none⟩ = some (.slice A1 k1 c1) := (hc1 _ _ (by first | omega | go_size)).trans (by first | (with_reducible assumption) | go_cell)
  have hz1_0_0 : W1.frozen? ⟨w.heap.size, 0, none⟩ = false := (hf1 _ _ (by first | omega | go_size)).trans (by first | (with_reducible assumption) | (go_simp; done) | (simp [*]; done))
  have hk1_0 : w.heap.size < W1.heap.size := by omega
  clear hg1 hc1 hf1
  go_wp2_with fail
  refine (GmKit.light_any A1 k1 c1 20000 r _ HR.out.raw (GmScriptA.rowAt HL.out hb1)).mono ?_
  rintro e w' ⟨b1, rfl, h40, rfl⟩
  cases b1 with
  | false =>
    go_wp2_with fail
    go_ret
    exact ⟨rfl, hb00.trans (Below.mono (show Below w0.heap.size w0 _ by go_grown) (by omega))⟩
  | true =>
    have hk40 := h40 rfl
    clear h40
    go_wp2_with fail
    refine (small_any A2 k2 c2 f _ (by omega) (GmScriptA.rowAt HAc.out hb1) (fun i hi => isB_at (HBy.out i hi) hb1)).mono ?_
    rintro e w' ⟨b2, rfl, hfew, rfl⟩
    cases b2 with
    | false =>
      go_wp2_with fail
      go_ret
      exact ⟨rfl, hb00.trans (Below.mono (show Below w0.heap.size w0 _ by go_grown) (by omega))⟩
    | true =>
      have h80 := (hfew rfl).1
      have HF := Lib.hid (hfew rfl).2
      clear hfew
      go_wp2_with fail
      by_cases hg : GmTwin.Good k1 r
      case neg =>
        refine (GmTwin.check_no A1 k1 c1 r _ HR.out.raw hg (GmScriptA.rowAt HL.out hb1)).mono ?_
        rintro eE W2 ⟨rfl, hg2⟩
        have hb2 : Below w0.heap.size w0 W2 := (show Below w0.heap.size w0 _ by go_grown).trans (hg2.mono (by first | omega | go_size))
        obtain ⟨hc2, hf2⟩ := bcell hg2
        have hs2 := hg2.size
        try simp only [World.size_alloc, World.size_setCell, World.size_drew] at hs2
        have hl2_0_0 : W2.cell? ⟨w.heap.size, 0, none⟩ = some (.slice A1 k1 c1) := (hc2 _ _ (by first | omega | go_size)).trans (by first | (with_reducible assumption) | go_cell)
        have hz2_0_0 : W2.frozen? ⟨w.heap.size, 0, none⟩ = false := (hf2 _ _ (by first | omega | go_size)).trans (by first | (with_reducible assumption) | (go_simp; done) | (simp [*]; done))
        have hk2_0 : w.heap.size < W2.heap.size := by omega
        clear hg2 hc2 hf2
        go_wp2_with fail
        go_ret
        exact ⟨rfl, hb00.trans (Below.mono (show Below w0.heap.size w0 _ by go_grown) (by omega))⟩
      case pos =>
        have HG := Lib.hid hg
        clear hg
        refine (check_ok A1 k1 c1 r _ HG.out.1 HR.out.raw HG.out.2 (GmScriptA.rowAt HL.out hb1)).mono ?_
        rintro eE W2 ⟨rfl, hg2⟩
        have hb2 : Below w0.heap.size w0 W2 := (show Below w0.heap.size w0 _ by go_grown).trans (hg2.mono (by first | omega | go_size))
        obtain ⟨hc2, hf2⟩ := bcell hg2
        have hs2 := hg2.size
        try simp only [World.size_alloc, World.size_setCell, World.size_drew] at hs2
        have hl2_0_0 : W2.cell? ⟨w.heap.size, 0, none⟩ = some (.slice A1 k1 c1) := (hc2 _ _ (by first | omega | go_size)).trans (by first | (with_reducible assumption) | go_cell)
        have hz2_0_0 : W2.frozen? ⟨w.heap.size, 0, none⟩ = false := (hf2 _ _ (by first | omega | go_size)).trans (by first | (with_reducible assumption) | (go_simp; done) | (simp [*]; done))
        have hk2_0 : w.heap.size < W2.heap.size := by omega
        clear hg2 hc2 hf2
        go_wp2_with fail
        refine (GmTwin.regions_any A1 k1 c1 r _ (by omega) (fun e => (HR.out.none_ e).2) (GmScriptA.rowAt HL.out hb2)).mono ?_
        rintro e W3 ⟨A', c', rfl, hL, hg3⟩
        have HL3 := Lib.hid hL
        clear hL
        have hb3 : Below w0.heap.size w0 W3 := (show Below w0.heap.size w0 _ by go_grown).trans (hg3.mono (by first | omega | go_size))
        obtain ⟨hc3, hf3⟩ := bcell hg3
        have hs3 := hg3.size
        try simp only [World.size_alloc, World.size_setCell, World.size_drew] at hs3
        have hl3_0_0 : W3.cell? ⟨w.heap.size, 0, none⟩ = some (.slice A1 k1 c1) := (hc3 _ _ (by first | omega | go_size)).trans (by first | (with_reducible assumption) | go_cell)
        have hz3_0_0 : W3.frozen? ⟨w.heap.size, 0, none⟩ = false := (hf3 _ _ (by first | omega | go_size)).trans (by first | (with_reducible assumption) | (go_simp; done) | (simp [*]; done))
        have hk3_0 : w.heap.size < W3.heap.size := by omega
        clear hg3 hc3 hf3
        go_wp2_with fail
        refine (p_new A' k1 c' r _ HR.out.raw HG.out HL3.out).mono ?_
        rintro e W4 ⟨m, rfl, hP, hm3, hg4⟩
        obtain ⟨P, S, M, HP, hB, rfl, hk, hrr, hS, hS2, hM⟩ := solo_new (B := w0.heap.size) HR.out.raw HG.out hP (by omega) (new_lt hP)
        clear hP
        have HP := Lib.hid HP
        have HM := Lib.hid hM
        have HK := Lib.hid hk
        have HRR := Lib.hid hrr
        have HB := Lib.hid hB
        have HS := Lib.hid hS
        have HW := Lib.hid (show Well P.r P.k by rw [hk, hrr]; exact well_of HR.out.raw HG.out.2)
        clear hM hk hrr hB hS
        have hmm := @run_makeMap Try.prog
        have hb4 : Below w0.heap.size w0 W4 := (show Below w0.heap.size w0 _ by go_grown).trans (hg4.mono (by first | omega | go_size))
        obtain ⟨hc4, hf4⟩ := bcell hg4
        have hs4 := hg4.size
        try simp only [World.size_alloc, World.size_setCell, World.size_drew] at hs4
        have hl4_0_0 : W4.cell? ⟨w.heap.size, 0, none⟩ = some (.slice A1 k1 c1) := (hc4 _ _ (by first | omega | go_size)).trans (by first | (with_reducible assumption) | go_cell)
        have hz4_0_0 : W4.frozen? ⟨w.heap.size, 0, none⟩ = false := (hf4 _ _ (by first | omega | go_size)).trans (by first | (with_reducible assumption) | (go_simp; done) | (simp [*]; done))
        have hk4_0 : w.heap.size < W4.heap.size := by omega
        clear hg4 hc4 hf4
        go_wp2_with fail
        have hw04 : w0.heap.size ≤ W4.heap.size := by omega
        have hkeep : Keeps w0 P M W4.heap.size (W4.alloc (.map #[] 0)) 0 (fun _ => 0) (fun _ => 0) :=
          ⟨HP.out.below HM.out ((Below.refl _ _).alloc (Nat.le_refl _) _), BMap.made W4, fun i hi d hd => rfl, hb4.trans (((Below.refl W4.heap.size W4).alloc (Nat.le_refl _) _).mono hw04)⟩
        have hszs : (W4.alloc (.map #[] 0)).heap.size = W4.heap.size + 1 := World.size_alloc _ _
        generalize W4.alloc (.map #[] 0) = W5 at hkeep hszs ⊢
        have HKp := Lib.hid hkeep
        clear hkeep hmm
        obtain ⟨mb, hmb⟩ : ∃ mb, W4.heap.size = mb := ⟨_, rfl⟩
        rw [hmb] at HKp HP hszs hw04 ⊢
        go_loopw [9] (fun i wr => ∃ (j n : Nat) (g : Nat → Int) (H : Int → Int), j ≤ k2 ∧ i = .int .i64 ((j : Nat) : Int) ∧ n ≤ 2000 * j ∧ mb < wr.heap.size ∧ Keeps w0 P M mb wr n g H) (fun i wr => k2 - (intOf i).toNat)
        case atStart => exact ⟨0, 0, _, _, by omega, rfl, by omega, by omega, HKp.out⟩
        case round =>
          obtain ⟨j, n, g, H, hj, rfl, hnj, hmw, hkp⟩ := hrel
          have HKr := Lib.hid hkp
          have hsw := hkp.bel.size
          have mbx : wr.cell? ⟨w.heap.size, 0, none⟩ = some (.slice A1 k1 c1) := (hkp.bel.cell (p := ⟨w.heap.size, 0, none⟩) hkx).trans hbx
          have mfx : wr.frozen? ⟨w.heap.size, 0, none⟩ = false := (hkp.bel.frozen (p := ⟨w.heap.size, 0, none⟩) hkx).trans hfx
          have hbw := hkp.bel
          clear hkp HKp
          by_cases hlt : j < k2
          · clear hj
            obtain ⟨ad, rfl, hbl, hcell⟩ := HAc.out (by omega)
            have hcw : ∀ i, i < k2 * 5 → wr.cell? (ad.add i) = some (cellA f i) := fun i hi => (hbw.cell (p := ad.add i) (by rw [block_of_add]; exact hbl)).trans (hcell i hi)
            have c0 := (el0 hcw hlt (by omega)).trans (by rw [cellA0])
            have c1' := (elj hcw hlt 1 (by omega) (by omega)).trans (by rw [cellA1])
            have c2' := (elj hcw hlt 2 (by omega) (by omega)).trans (by rw [cellA2])
            have c3 := (elj hcw hlt 3 (by omega) (by omega)).trans (by rw [cellA3])
            have c4 := (elj hcw hlt 4 (by omega) (by omega)).trans (by rw [cellA4])
            clear hcw hcell
            have HKD := Lib.hid (HC.out.wk j hlt)
            have HAT := Lib.hid (show u64in (f j).at_ from HC.out.wa j hlt)
            have HNB := Lib.hid (HC.out.wn j hlt)
            have HV := Lib.hid (show u64in (f j).vv from HC.out.wv j hlt)
            obtain ⟨Ab, N, cb, gb, hbv, hNc, hcm, hAb, hrb, hgb⟩ := HBy.out j hlt
            have hN : N ≤ 2000 := by
              obtain ⟨_, _, _, e, h⟩ := HF.out j hlt
              rw [hbv] at e
              injection e with _ e _
              omega
            rw [hbv] at c4
            have HRB := Lib.hid hrb
            have HGB := Lib.hid hgb
            have HAB := Lib.hid hAb
            clear hbv hrb hgb hAb
            generalize (f j).kd = kd at c0 HKD
            generalize (f j).at_ = at_ at c1' HAT
            generalize (f j).nb = nb at c2' HNB
            generalize (f j).vv = vv at c3 HV
            have dj : decide (((j : Nat) : Int) < ((k2 : Nat) : Int)) = true := decide_eq_true (by omega)
            go_upto_region 14 with fail
            clear c0 c1' c2' c3 c4
            go_cut [11] (fun s wx => ∃ sz : Nat, s = .int .i64 ((sz : Nat) : Int) ∧ (sz = 1 ∨ sz = 2 ∨ sz = 4 ∨ sz = 8) ∧ Below wr.heap.size wr wx ∧ wr.heap.size < wx.heap.size ∧ (wx.cell? ⟨wr.heap.size, 0, none⟩ = some (.int .i64 kd) ∧ wx.cell? ⟨wr.heap.size, 1, none⟩ = some (.int .u64 at_) ∧ wx.cell? ⟨wr.heap.size, 3, none⟩ = some (.int .u64 vv) ∧ wx.cell? ⟨wr.heap.size, 4, none⟩ = some (.slice Ab N cb)) ∧ (wx.frozen? ⟨wr.heap.size, 0, none⟩ = false ∧ wx.frozen? ⟨wr.heap.size, 1, none⟩ = false ∧ wx.frozen? ⟨wr.heap.size, 3, none⟩ = false ∧ wx.frozen? ⟨wr.heap.size, 4, none⟩ = false))
            case first =>
              as_aux_lemma =>
                go_wp2_with fail
                refine (Pick.pick_some nb 4 (by omega) HNB.out _).mono ?_
                rintro e w' ⟨q, q0, q5, rfl, rfl⟩
                rcases (show q = 0 ∨ q = 1 ∨ q = 2 ∨ q = 3 by omega) with rfl | rfl | rfl | rfl
                all_goals (go_wp2_with fail)
                all_goals go_meet
                · exact ⟨1, rfl, by decide, by go_grown, by go_size, ⟨by go_cell, by go_cell, by go_cell, by go_cell⟩, by first | (with_reducible assumption) | (go_simp; done) | (simp [*]; done), by first | (with_reducible assumption) | (go_simp; done) | (simp [*]; done), by first | (with_reducible assumption) | (go_simp; done) | (simp [*]; done), by first | (with_reducible assumption) | (go_simp; done) | (simp [*]; done)⟩
                · exact ⟨2, rfl, by decide, by go_grown, by go_size, ⟨by go_cell, by go_cell, by go_cell, by go_cell⟩, by first | (with_reducible assumption) | (go_simp; done) | (simp [*]; done), by first | (with_reducible assumption) | (go_simp; done) | (simp [*]; done), by first | (with_reducible assumption) | (go_simp; done) | (simp [*]; done), by first | (with_reducible assumption) | (go_simp; done) | (simp [*]; done)⟩
                · exact ⟨4, rfl, by decide, by go_grown, by go_size, ⟨by go_cell, by go_cell, by go_cell, by go_cell⟩, by first | (with_reducible assumption) | (go_simp; done) | (simp [*]; done), by first | (with_reducible assumption) | (go_simp; done) | (simp [*]; done), by first | (with_reducible assumption) | (go_simp; done) | (simp [*]; done), by first | (with_reducible assumption) | (go_simp; done) | (simp [*]; done)⟩
                · exact ⟨8, rfl, by decide, by go_grown, by go_size, ⟨by go_cell, by go_cell, by go_cell, by go_cell⟩, by first | (with_reducible assumption) | (go_simp; done) | (simp [*]; done), by first | (with_reducible assumption) | (go_simp; done) | (simp [*]; done), by first | (with_reducible assumption) | (go_simp; done) | (simp [*]; done), by first | (with_reducible assumption) | (go_simp; done) | (simp [*]; done)⟩
            case rest =>
              obtain ⟨sz, rfl, hsz, hbx2, hsx, ⟨x0, x1, x3, x4⟩, y0, y1, y3, y4⟩ := hcut
              have HSz := Lib.hid hsz
              have hsz8 : sz ≤ 8 := by omega
              have hsz1 : 1 ≤ sz := by omega
              clear hsz
              have hk0 : wr.heap.size < wc.heap.size := hsx
              have hk1 : w.heap.size < wc.heap.size := by omega
              have hbwc : Below w0.heap.size w0 wc := hbw.trans (hbx2.mono hsw)
              have HM := Lib.hid (HP.out.below HKr.out.mem hbx2)
              have HBM := Lib.hid (HKr.out.map.below hbx2)
              have HSame := Lib.hid HKr.out.same
              have mbc : wc.cell? ⟨w.heap.size, 0, none⟩ = some (.slice A1 k1 c1) := (hbx2.cell (p := ⟨w.heap.size, 0, none⟩) (show w.heap.size < wr.heap.size by omega)).trans mbx
              have mfc : wc.frozen? ⟨w.heap.size, 0, none⟩ = false := (hbx2.frozen (p := ⟨w.heap.size, 0, none⟩) (show w.heap.size < wr.heap.size by omega)).trans mfx
              clear mbx mfx HKr
              have HIn := Lib.hid (fun (W : World) (hW : Below w0.heap.size w0 W) (q : Int) (hq : u64in q) (v : Bool) (hv : (place P.r P.k at_ q).isSome = v) => (show Calls Try.prog 29 #[.int .u64 at_, .int .u64 q, .pointer (some ⟨w.heap.size, 0, none⟩)] W (GmWord.Gives W.heap.size W (.bool v)) from
                GmHoldIn.in_loop w.heap.size k1 c1 A1 P.r at_ q v W (by omega) (by have := HW.out.inr; rwa [HK.out] at this) HAT.out hq ((hW.cell (p := ⟨w.heap.size, 0, none⟩) hkx).trans hbx) (by have := hW.size; omega) (by rw [HRR.out]; exact GmScriptA.rowAt HL.out hW) (by rw [← HK.out]; exact hv)))
              go_wp2_with fail
              refine (Pick.pick_some kd 5 (by omega) HKD.out _).mono ?_
              rintro e w' ⟨q, q0, q5, rfl, rfl⟩
              rcases (show q = 0 ∨ q = 1 ∨ q = 3 ∨ (q = 2 ∨ q = 4) by omega) with rfl | rfl | rfl | hq
              · as_aux_lemma =>
                  obtain ⟨v, e', hl⟩ := load_some P g at_ sz
                  have HLd := Lib.hid hl
                  have gsz : IntKind.u64.wrap ((sz : Nat) : Int) = ((sz : Nat) : Int) := by rw [IntKind.wrap_u64]; omega
                  have gs1 : IntKind.i64.wrap (((sz : Nat) : Int) - 1) = ((sz : Nat) : Int) - 1 := by rw [IntKind.wrap_i64]; omega
                  clear hl q0 q5
                  go_wp2_with fail
                  refine (HP.out.load at_ sz v e' _ g (HP.out.below HM.out (show Below wc.heap.size wc _ by go_grown)) HAT.out HLd.out).mono ?_
                  rintro eE W6 ⟨rfl, hg6⟩
                  have hb6 : Below wc.heap.size wc W6 := (show Below wc.heap.size wc _ by go_grown).trans (hg6.mono (by first | omega | go_size))
                  obtain ⟨hc6, hf6⟩ := bcell hg6
                  have hs6 := hg6.size
                  try simp only [World.size_alloc, World.size_setCell, World.size_drew] at hs6
                  have hl6_0_0 : W6.cell? ⟨wr.heap.size, 0, none⟩ = some (.int .i64 kd) := (hc6 _ _ (by first | omega | go_size)).trans (by first | (with_reducible assumption) | go_cell)
                  have hz6_0_0 : W6.frozen? ⟨wr.heap.size, 0, none⟩ = false := (hf6 _ _ (by first | omega | go_size)).trans (by first | (with_reducible assumption) | (go_simp; done) | (simp [*]; done))
                  have hl6_0_1 : W6.cell? ⟨wr.heap.size, 0 + 1, none⟩ = some (.int .u64 at_) := (hc6 _ _ (by first | omega | go_size)).trans (by first | (with_reducible assumption) | go_cell)
                  have hz6_0_1 : W6.frozen? ⟨wr.heap.size, 0 + 1, none⟩ = false := (hf6 _ _ (by first | omega | go_size)).trans (by first | (with_reducible assumption) | (go_simp; done) | (simp [*]; done))
                  have hk6_0 : wr.heap.size < W6.heap.size := by omega
                  have hl6_1_0 : W6.cell? ⟨wr.heap.size, 3, none⟩ = some (.int .u64 vv) := (hc6 _ _ (by first | omega | go_size)).trans (by first | (with_reducible assumption) | go_cell)
                  have hz6_1_0 : W6.frozen? ⟨wr.heap.size, 3, none⟩ = false := (hf6 _ _ (by first | omega | go_size)).trans (by first | (with_reducible assumption) | (go_simp; done) | (simp [*]; done))
                  have hl6_1_1 : W6.cell? ⟨wr.heap.size, 3 + 1, none⟩ = some (.slice Ab N cb) := (hc6 _ _ (by first | omega | go_size)).trans (by first | (with_reducible assumption) | go_cell)
                  have hz6_1_1 : W6.frozen? ⟨wr.heap.size, 3 + 1, none⟩ = false := (hf6 _ _ (by first | omega | go_size)).trans (by first | (with_reducible assumption) | (go_simp; done) | (simp [*]; done))
                  have hk6_1 : wr.heap.size < W6.heap.size := by omega
                  clear hg6 hc6 hf6
                  go_wp2_with fail
                  go_loop [14, 15] (fun wv kv => ∃ (t : Int) (q : Nat), t + 1 = q ∧ q ≤ sz ∧ kv = .int .i64 t ∧ wv = .int .u64 (wantH H at_ q (sz - q))) (fun wv kv => (intOf kv + 1).toNat)
                  case atStart => exact ⟨((sz : Nat) : Int) - 1, sz, by omega, by omega, rfl, by rw [Nat.sub_self]; rfl⟩
                  case round =>
                    obtain ⟨t, q, htq, hq, rfl, rfl⟩ := hrel
                    by_cases hq1 : 1 ≤ q
                    · have dt : decide (0 ≤ t) = true := decide_eq_true (by omega)
                      have g1 : IntKind.u64.wrap t = t := by rw [IntKind.wrap_u64]; omega
                      have hlo := (HBM.out).2
                      obtain ⟨x, hx⟩ : ∃ x, IntKind.u64.wrap (at_ + t) = x := ⟨_, rfl⟩
                      have hxb : 0 ≤ x ∧ x ≤ 18446744073709551615 := by rw [← hx, IntKind.wrap_u64]; omega
                      have hlook := (HBM.out.below (show Below wc.heap.size wc W6 from hb6)).look hxb
                      have hHx := hlo x
                      have hwl := word_lo (g := fun j => H (a64 (at_ + (q + j : Nat)))) (n := sz - q) (fun j _ => hlo _)
                      have hpw := pow_le8 (show sz - q ≤ 7 by omega)
                      have hst := want_step H at_ (q - 1) (sz - q)
                      rw [show q - 1 + 1 = q by omega, show sz - q + 1 = sz - (q - 1) by omega, show a64 (at_ + ((q - 1 : Nat) : Int)) = x by rw [← hx, show ((q - 1 : Nat) : Int) = t by omega]; rfl] at hst
                      have HSt := Lib.hid hst
                      obtain ⟨wv, hwv⟩ : ∃ wv, wantH H at_ q (sz - q) = wv := ⟨_, rfl⟩
                      have hw0 : 0 ≤ wv ∧ wv < 72057594037927936 := by rw [← hwv]; exact ⟨hwl.1, Int.lt_of_lt_of_le hwl.2 hpw⟩
                      rw [hwv] at HSt
                      rw [hwv]
                      obtain ⟨hv, hhv⟩ : ∃ hv, H x = hv := ⟨_, rfl⟩
                      rw [hhv] at hlook hHx HSt
                      have g3 : IntKind.u64.wrap (256 * wv) = 256 * wv := by rw [IntKind.wrap_u64]; omega
                      have g4 : IntKind.u64.wrap hv = hv := by rw [IntKind.wrap_u64]; omega
                      have g5 : IntKind.u64.wrap (256 * wv + hv) = 256 * wv + hv := by rw [IntKind.wrap_u64]; omega
                      have g6 : IntKind.i64.wrap (t - 1) = t - 1 := by rw [IntKind.wrap_i64]; omega
                      clear hwl hpw hst hlo hwv hhv
                      go_wp2_with fail
                      go_round
                      case rel => exact ⟨t - 1, q - 1, by omega, by omega, rfl, by rw [HSt.out]⟩
                      case measure => simp [intOf]; omega
                    · obtain rfl : q = 0 := by omega
                      obtain rfl : t = -1 := by omega
                      obtain ⟨wv, hwv⟩ : ∃ wv, wantH H at_ 0 (sz - 0) = wv := ⟨_, rfl⟩
                      rw [hwv]
                      have hres : (e' = 5 ∧ (place P.r P.k at_ sz).isSome = false) ∨ (e' = 0 ∧ (place P.r P.k at_ sz).isSome = true ∧ v = wv) := by
                        rcases HLd.out with ⟨hno, _, _⟩ | ⟨_, hp, _, rfl⟩ | ⟨_, o, hp, rfl, rfl⟩
                        · exact absurd (by have := HSz.out; unfold Ok8; omega) hno
                        · exact .inl ⟨rfl, by rw [hp]; rfl⟩
                        · exact .inr ⟨rfl, by rw [hp]; rfl, by rw [← hwv, Nat.sub_zero, want_is HW.out hp HSame.out, Int.toNat_natCast]⟩
                      clear hwv HLd
                      rcases hres with ⟨rfl, hpl⟩ | ⟨rfl, hpl, rfl⟩
                      · have HPl := Lib.hid hpl
                        clear hpl
                        go_wp2_with fail
                        refine (HIn.out _ (hbwc.trans (Below.mono (show Below wc.heap.size wc _ by go_grown) (by omega))) sz (by unfold u64in; omega) false HPl.out).mono ?_
                        rintro eE W7 ⟨rfl, hg7⟩
                        have hb7 : Below wc.heap.size wc W7 := (show Below wc.heap.size wc _ by go_grown).trans (hg7.mono (by first | omega | go_size))
                        obtain ⟨hc7, hf7⟩ := bcell hg7
                        have hs7 := hg7.size
                        try simp only [World.size_alloc, World.size_setCell, World.size_drew] at hs7
                        have hl7_0_0 : W7.cell? ⟨wr.heap.size, 0, none⟩ = some (.int .i64 kd) := (hc7 _ _ (by first | omega | go_size)).trans (by first | (with_reducible assumption) | go_cell)
                        have hz7_0_0 : W7.frozen? ⟨wr.heap.size, 0, none⟩ = false := (hf7 _ _ (by first | omega | go_size)).trans (by first | (with_reducible assumption) | (go_simp; done) | (simp [*]; done))
                        have hl7_0_1 : W7.cell? ⟨wr.heap.size, 0 + 1, none⟩ = some (.int .u64 at_) := (hc7 _ _ (by first | omega | go_size)).trans (by first | (with_reducible assumption) | go_cell)
                        have hz7_0_1 : W7.frozen? ⟨wr.heap.size, 0 + 1, none⟩ = false := (hf7 _ _ (by first | omega | go_size)).trans (by first | (with_reducible assumption) | (go_simp; done) | (simp [*]; done))
                        have hk7_0 : wr.heap.size < W7.heap.size := by omega
                        have hl7_1_0 : W7.cell? ⟨wr.heap.size, 3, none⟩ = some (.int .u64 vv) := (hc7 _ _ (by first | omega | go_size)).trans (by first | (with_reducible assumption) | go_cell)
                        have hz7_1_0 : W7.frozen? ⟨wr.heap.size, 3, none⟩ = false := (hf7 _ _ (by first | omega | go_size)).trans (by first | (with_reducible assumption) | (go_simp; done) | (simp [*]; done))
                        have hl7_1_1 : W7.cell? ⟨wr.heap.size, 3 + 1, none⟩ = some (.slice Ab N cb) := (hc7 _ _ (by first | omega | go_size)).trans (by first | (with_reducible assumption) | go_cell)
                        have hz7_1_1 : W7.frozen? ⟨wr.heap.size, 3 + 1, none⟩ = false := (hf7 _ _ (by first | omega | go_size)).trans (by first | (with_reducible assumption) | (go_simp; done) | (simp [*]; done))
                        have hk7_1 : wr.heap.size < W7.heap.size := by omega
                        clear hg7 hc7 hf7
                        go_wp2_with fail
                        go_roundw
                        case rel => exact ⟨j + 1, n, g, H, by omega, by go_num, by omega, Nat.lt_of_lt_of_le (show mb < wc.heap.size by omega) (show wc.heap.size ≤ _ by go_size), ⟨HP.out.below HM.out (show Below wc.heap.size wc _ by go_grown), HBM.out.below (show Below wc.heap.size wc _ by go_grown), HSame.out, hbwc.trans (Below.mono (show Below wc.heap.size wc _ by go_grown) (by omega))⟩⟩
                        case measure => simp [intOf]; omega
                      · have HPl := Lib.hid hpl
                        have evv := bne_self_eq_false v
                        clear hpl
                        go_wp2_with fail
                        refine (HIn.out _ (hbwc.trans (Below.mono (show Below wc.heap.size wc _ by go_grown) (by omega))) sz (by unfold u64in; omega) true HPl.out).mono ?_
                        rintro eE W7 ⟨rfl, hg7⟩
                        have hb7 : Below wc.heap.size wc W7 := (show Below wc.heap.size wc _ by go_grown).trans (hg7.mono (by first | omega | go_size))
                        obtain ⟨hc7, hf7⟩ := bcell hg7
                        have hs7 := hg7.size
                        try simp only [World.size_alloc, World.size_setCell, World.size_drew] at hs7
                        have hl7_0_0 : W7.cell? ⟨wr.heap.size, 0, none⟩ = some (.int .i64 kd) := (hc7 _ _ (by first | omega | go_size)).trans (by first | (with_reducible assumption) | go_cell)
                        have hz7_0_0 : W7.frozen? ⟨wr.heap.size, 0, none⟩ = false := (hf7 _ _ (by first | omega | go_size)).trans (by first | (with_reducible assumption) | (go_simp; done) | (simp [*]; done))
                        have hl7_0_1 : W7.cell? ⟨wr.heap.size, 0 + 1, none⟩ = some (.int .u64 at_) := (hc7 _ _ (by first | omega | go_size)).trans (by first | (with_reducible assumption) | go_cell)
                        have hz7_0_1 : W7.frozen? ⟨wr.heap.size, 0 + 1, none⟩ = false := (hf7 _ _ (by first | omega | go_size)).trans (by first | (with_reducible assumption) | (go_simp; done) | (simp [*]; done))
                        have hk7_0 : wr.heap.size < W7.heap.size := by omega
                        have hl7_1_0 : W7.cell? ⟨wr.heap.size, 3, none⟩ = some (.int .u64 vv) := (hc7 _ _ (by first | omega | go_size)).trans (by first | (with_reducible assumption) | go_cell)
                        have hz7_1_0 : W7.frozen? ⟨wr.heap.size, 3, none⟩ = false := (hf7 _ _ (by first | omega | go_size)).trans (by first | (with_reducible assumption) | (go_simp; done) | (simp [*]; done))
                        have hl7_1_1 : W7.cell? ⟨wr.heap.size, 3 + 1, none⟩ = some (.slice Ab N cb) := (hc7 _ _ (by first | omega | go_size)).trans (by first | (with_reducible assumption) | go_cell)
                        have hz7_1_1 : W7.frozen? ⟨wr.heap.size, 3 + 1, none⟩ = false := (hf7 _ _ (by first | omega | go_size)).trans (by first | (with_reducible assumption) | (go_simp; done) | (simp [*]; done))
                        have hk7_1 : wr.heap.size < W7.heap.size := by omega
                        clear hg7 hc7 hf7
                        go_wp2_with fail
                        go_roundw
                        case rel => exact ⟨j + 1, n, g, H, by omega, by go_num, by omega, Nat.lt_of_lt_of_le (show mb < wc.heap.size by omega) (show wc.heap.size ≤ _ by go_size), ⟨HP.out.below HM.out (show Below wc.heap.size wc _ by go_grown), HBM.out.below (show Below wc.heap.size wc _ by go_grown), HSame.out, hbwc.trans (Below.mono (show Below wc.heap.size wc _ by go_grown) (by omega))⟩⟩
                        case measure => simp [intOf]; omega
              · as_aux_lemma =>
                  obtain ⟨ba, hba⟩ : ∃ ba, wr.heap.size = ba := ⟨_, rfl⟩
                  obtain ⟨g', e', hl⟩ := store_some P g at_ sz vv
                  have HLd := Lib.hid hl
                  have gsz : IntKind.u64.wrap ((sz : Nat) : Int) = ((sz : Nat) : Int) := by rw [IntKind.wrap_u64]; omega
                  rw [hba] at x1 x3 hk0 ⊢
                  clear hl q0 q5 x0 x4 y0 y1 y3 y4 hsx hbx2
                  go_wp2_with fail
                  refine (HP.out.store at_ sz vv e' g' _ g HM.out HAT.out HV.out HLd.out).mono ?_
                  rintro e W6 ⟨rfl, hM6, hT6⟩
                  have hs6 := hT6.size
                  have hb6 : Below w0.heap.size w0 W6 := hbwc.trans (turn_below HB.out hT6 (by omega))
                  have v1 : W6.cell? ⟨ba, 1, none⟩ = some (.int .u64 at_) := (hT6.cell (show mb ≤ ba by omega) hk0).trans x1
                  have v3 : W6.cell? ⟨ba, 3, none⟩ = some (.int .u64 vv) := (hT6.cell (show mb ≤ ba by omega) hk0).trans x3
                  have hBM6 := Lib.hid (show BMap W6 mb n H from by
                    obtain ⟨b, _, hb, hg⟩ := hT6
                    exact HBM.out.kept hg (fun e => by injection e with e; omega))
                  have HM6 := Lib.hid hM6
                  have hres : (e' = 5 ∧ g' = g ∧ (place P.r P.k at_ sz).isSome = false) ∨ (e' = 0 ∧ ∃ o, place P.r P.k at_ sz = some o ∧ g' = putG g o sz (byteI vv)) := by
                    rcases HLd.out with ⟨hno, _, _⟩ | ⟨_, hp, rfl, rfl⟩ | ⟨_, o, hp, rfl, rfl⟩
                    · exact absurd (by have := HSz.out; unfold Ok8; omega) hno
                    · exact .inl ⟨rfl, rfl, by rw [hp]; rfl⟩
                    · exact .inr ⟨rfl, o, hp, by rw [Int.toNat_natCast]⟩
                  clear hT6 hM6 x1 x3 HLd
                  rcases hres with ⟨rfl, rfl, hpl⟩ | ⟨rfl, o, hpl, rfl⟩
                  · have HPl := Lib.hid hpl
                    clear hpl
                    go_wp2_with fail
                    refine (HIn.out _ hb6 sz (by unfold u64in; omega) false HPl.out).mono ?_
                    rintro e W7 ⟨rfl, hg7⟩
                    have hs7 := hg7.size
                    clear v1 v3
                    go_wp2_with fail
                    refine wp_loop_rounds 1 ?_
                    rw [rounds_succ]
                    go_wp2_with fail
                    go_roundw
                    case rel => exact ⟨j + 1, n, g', H, by omega, by go_num, by omega, by omega, ⟨HP.out.below HM6.out hg7, hBM6.out.below hg7, HSame.out, hb6.trans (hg7.mono (by omega))⟩⟩
                    case measure => simp [intOf]; omega
                  · have HPl := Lib.hid hpl
                    obtain ⟨ii, _, _, hl1, hl2, _, hl3, hl4⟩ := lies HW.out hpl
                    have hover : at_ + ((sz : Nat) : Int) ≤ 18446744073709551616 := by omega
                    have hat := HAT.out
                    unfold u64in at hat
                    clear hpl hl1 hl2 hl3 hl4
                    go_wp2_with fail
                    refine (HIn.out _ hb6 sz (by unfold u64in; omega) true (by rw [HPl.out]; rfl)).mono ?_
                    rintro e W7 ⟨rfl, hg7⟩
                    have hs7 := hg7.size
                    have v1' : W7.cell? ⟨ba, 1, none⟩ = some (.int .u64 at_) := (hg7.cell (p := ⟨ba, 1, none⟩) (show ba < W6.heap.size by omega)).trans v1
                    have v3' : W7.cell? ⟨ba, 3, none⟩ = some (.int .u64 vv) := (hg7.cell (p := ⟨ba, 3, none⟩) (show ba < W6.heap.size by omega)).trans v3
                    have hBM7 := Lib.hid (hBM6.out.below hg7)
                    have HM7 := Lib.hid (HP.out.below HM6.out hg7)
                    have hb7 : Below w0.heap.size w0 W7 := hb6.trans (hg7.mono (by omega))
                    clear v1 v3 hg7
                    go_wp2_with fail
                    go_loopw [17] (fun kv w2 => ∃ q : Nat, q ≤ sz ∧ kv = .int .i64 ((q : Nat) : Int) ∧ BMap w2 mb (n + q) (putH H at_ (byteI vv) q) ∧ W7.grownBy w2 (some mb)) (fun kv w2 => sz - (intOf kv).toNat)
                    case atStart => exact ⟨0, by omega, rfl, by rw [putH_zero]; exact hBM7.out, World.grownBy.refl _ _⟩
                    case round =>
                      obtain ⟨q, hq, rfl, hBq, hgq⟩ := hrel
                      have hsq := hgq.size
                      by_cases hlq : q < sz
                      · have dq : decide (((q : Nat) : Int) < ((sz : Nat) : Int)) = true := decide_eq_true (by omega)
                        have u1 : wr.cell? ⟨ba, 1, none⟩ = some (.int .u64 at_) := (cell_kept hgq (show ba < W7.heap.size by omega) (by omega)).trans v1'
                        have u3 : wr.cell? ⟨ba, 3, none⟩ = some (.int .u64 vv) := (cell_kept hgq (show ba < W7.heap.size by omega) (by omega)).trans v3'
                        have g1 : IntKind.u64.wrap ((q : Nat) : Int) = ((q : Nat) : Int) := by rw [IntKind.wrap_u64]; omega
                        have g2 : IntKind.u64.wrap (at_ + ((q : Nat) : Int)) = at_ + ((q : Nat) : Int) := by rw [IntKind.wrap_u64]; omega
                        have g3 : IntKind.i64.wrap (8 * ((q : Nat) : Int)) = 8 * ((q : Nat) : Int) := by rw [IntKind.wrap_i64]; omega
                        have g4 : IntKind.u64.wrap (8 * ((q : Nat) : Int)) = 8 * ((q : Nat) : Int) := by rw [IntKind.wrap_u64]; omega
                        have g5 : (8 * ((q : Nat) : Int)).toNat = 8 * q := by omega
                        have g6 : IntKind.u8.wrap (vv / 2 ^ (8 * q)) = byteI vv q := by unfold byteI; rw [IntKind.wrap_u8]
                        have hby := byte_lo vv q
                        obtain ⟨⟨D, hD⟩, hlo⟩ := hBq
                        have HD := Lib.hid hD
                        have HLo := Lib.hid hlo
                        have hnm : n + q < maxLen := by unfold maxLen; omega
                        have hx0 : 0 ≤ at_ + ((q : Nat) : Int) ∧ at_ + ((q : Nat) : Int) ≤ 18446744073709551615 := by omega
                        have hwf : (Lit.int .u8 (byteI vv q)).wf = true := WalkArith.wf_u8 hby
                        obtain ⟨bv, hbv⟩ : ∃ bv, byteI vv q = bv := ⟨_, rfl⟩
                        rw [hbv] at g6 hby hwf
                        have HBV := Lib.hid hbv
                        clear hD hlo hbv
                        go_wp2_with (at_mapUpdate; refine wpList_mapUpdate_own _ rfl _ _ _ 53 rfl 26 5 law Try.underlying53 _ mb (n + q) D rfl HD.out.own hnm _ _ _ rfl rfl (Maps.keyOf_int_mk Try.underlying26 (WalkArith.wf_u64 hx0)) _ [] (plainElem_int Try.underlying5 hwf) ?_)
                        intro W9 hown9 hg9
                        have hB9 := HD.out.put HLo.out hby hown9
                        rw [← HBV.out, putH_succ] at hB9
                        have HB9 := Lib.hid hB9
                        have hs9 := hg9.size
                        have hg79 := only_trans hgq hg9
                        clear hown9 hB9
                        go_wp2_with fail
                        go_roundw
                        case rel => exact ⟨q + 1, by omega, by go_num, HB9.out, hg79⟩
                        case measure => simp [intOf]; omega
                      · obtain rfl : q = sz := by omega
                        have dq : decide (((q : Nat) : Int) < ((q : Nat) : Int)) = false := decide_eq_false (by omega)
                        go_wp2_with fail
                        go_roundw
                        case rel => exact ⟨j + 1, n + q, putG g o q (byteI vv), putH H at_ (byteI vv) q, by omega, by go_num, by omega, by omega, ⟨HP.out.kept HM7.out hgq (by omega), hBq, same_put HW.out HPl.out HSame.out, hb7.trans ((Below.refl w0.heap.size W7).grown hgq (by omega) (fun b e => by cases e; omega))⟩⟩
                        case measure => simp [intOf]; omega
              · as_aux_lemma =>
                  obtain ⟨ba, hba⟩ : ∃ ba, wr.heap.size = ba := ⟨_, rfl⟩
                  obtain ⟨g', e', hl⟩ := write_some P g at_ N gb
                  have HLd := Lib.hid hl
                  rw [hba] at x1 x4 hk0 ⊢
                  clear hl q0 q5 x0 x3 y0 y1 y3 y4 hsx hbx2
                  have hmba : mb ≤ ba := by omega
                  go_wp2_with fail
                  go_region_held3 (fun w' => w'.cell? ⟨ba, 1, none⟩ = some (.int .u64 at_) ∧ w'.cell? ⟨ba, 4, none⟩ = some (.slice Ab N cb))
                    (first
                      | exact ⟨kf0, kf1⟩
                      | exact ⟨ko0, ko1⟩
                      | go_keep)
                    (first
                      | (go_at_call 20; refine (HP.out.write at_ Ao N co gb g' e' _ g hMo HAT.out hN HGB.out hro HLd.out).mono ?_; rintro e W6 ⟨rfl, hM6, hT6⟩; have kf0 : W6.cell? ⟨ba, 1, none⟩ = some (.int .u64 at_) := (hT6.cell hmba (by omega)).trans ko0; have kf1 : W6.cell? ⟨ba, 4, none⟩ = some (.slice Ab N cb) := (hT6.cell hmba (by omega)).trans ko1; have hs6 := hT6.size)
                      | (go_at_call 21; refine (own_any Ab N cb gb _ (by omega) (GmScriptA.rowAt HRB.out (hbwc.trans (Below.mono (show Below wc.heap.size wc _ by go_grown) (by omega)))) HAB.out).mono ?_; rintro e Wo ⟨Ao, co, rfl, hco, hro, hbo, hgo⟩; have hwo : Below wc.heap.size wc Wo := (show Below wc.heap.size wc _ by go_grown).trans (hgo.mono (by first | exact Nat.le_refl _ | omega | go_size)); have hso := hwo.size; have ko0 : Wo.cell? ⟨ba, 1, none⟩ = some (.int .u64 at_) := (hwo.cell (p := ⟨ba, 1, none⟩) hk0).trans x1; have ko1 : Wo.cell? ⟨ba, 4, none⟩ = some (.slice Ab N cb) := (hwo.cell (p := ⟨ba, 4, none⟩) hk0).trans x4; have hMo := HP.out.below HM.out hwo))
                  have hb6 : Below w0.heap.size w0 W6 := (hbwc.trans (hwo.mono (by omega))).trans (turn_below HB.out hT6 (by omega))
                  have hBM6 := Lib.hid (show BMap W6 mb n H from by
                    obtain ⟨b, _, hb, hg⟩ := hT6
                    exact (HBM.out.below hwo).kept hg (fun e => by injection e with e; omega))
                  have HM6 := Lib.hid hM6
                  have hres : (N = 0 ∧ g' = g ∧ e' = 0) ∨ (1 ≤ N ∧ e' = 5 ∧ g' = g ∧ (place P.r P.k at_ N).isSome = false) ∨ (1 ≤ N ∧ e' = 0 ∧ ∃ o, place P.r P.k at_ N = some o ∧ g' = putG g o N gb) := by
                    rcases HLd.out with ⟨h1, h2, h3⟩ | ⟨h1, hp, rfl, rfl⟩ | ⟨h1, o, hp, rfl, rfl⟩
                    · exact .inl ⟨h1, h2, h3⟩
                    · exact .inr (.inl ⟨h1, rfl, rfl, by rw [hp]; rfl⟩)
                    · exact .inr (.inr ⟨h1, rfl, o, hp, rfl⟩)
                  have gN : IntKind.u64.wrap ((N : Nat) : Int) = ((N : Nat) : Int) := by rw [IntKind.wrap_u64]; omega
                  clear hT6 hM6 x1 x4 ko0 ko1 hro hMo hbo hgo hco HLd
                  rcases hres with ⟨rfl, rfl, rfl⟩ | ⟨hN1, rfl, rfl, hpl⟩ | ⟨hN1, rfl, o, hpl, rfl⟩
                  · go_wp2_with fail
                    refine wp_loop_rounds 1 ?_
                    rw [rounds_succ]
                    go_wp2_with fail
                    go_roundw
                    case rel => exact ⟨j + 1, n, g', H, by omega, by go_num, by omega, by omega, ⟨HM6.out, hBM6.out, HSame.out, hb6⟩⟩
                    case measure => simp [intOf]; omega
                  · have HPl := Lib.hid hpl
                    have dN : (((N : Nat) : Int) == 0) = false := by rw [beq_eq_false_iff_ne]; omega
                    clear hpl
                    go_wp2_with fail
                    refine (HIn.out _ hb6 N (by unfold u64in; omega) false HPl.out).mono ?_
                    rintro e W7 ⟨rfl, hg7⟩
                    have hs7 := hg7.size
                    have kg1 : W7.cell? ⟨ba, 4, none⟩ = some (.slice Ab N cb) := (hg7.cell (p := ⟨ba, 4, none⟩) (show ba < W6.heap.size by omega)).trans kf1
                    clear kf0 kf1
                    go_wp2_with fail
                    refine wp_loop_rounds 1 ?_
                    rw [rounds_succ]
                    have dN2 : decide ((0 : Int) < ((N : Nat) : Int)) = true := decide_eq_true (by omega)
                    go_wp2_with fail
                    go_roundw
                    case rel => exact ⟨j + 1, n, g', H, by omega, by go_num, by omega, by omega, ⟨HP.out.below HM6.out hg7, hBM6.out.below hg7, HSame.out, hb6.trans (hg7.mono (by omega))⟩⟩
                    case measure => simp [intOf]; omega
                  · have HPl := Lib.hid hpl
                    have dN : (((N : Nat) : Int) == 0) = false := by rw [beq_eq_false_iff_ne]; omega
                    obtain ⟨ii, _, _, hl1, hl2, _, hl3, hl4⟩ := lies HW.out hpl
                    have hover : at_ + ((N : Nat) : Int) ≤ 18446744073709551616 := by omega
                    have hat := HAT.out
                    unfold u64in at hat
                    clear hpl hl1 hl2 hl3 hl4
                    go_wp2_with fail
                    refine (HIn.out _ hb6 N (by unfold u64in; omega) true (by rw [HPl.out]; rfl)).mono ?_
                    rintro e W7 ⟨rfl, hg7⟩
                    have hs7 := hg7.size
                    have kg0 : W7.cell? ⟨ba, 1, none⟩ = some (.int .u64 at_) := (hg7.cell (p := ⟨ba, 1, none⟩) (show ba < W6.heap.size by omega)).trans kf0
                    have kg1 : W7.cell? ⟨ba, 4, none⟩ = some (.slice Ab N cb) := (hg7.cell (p := ⟨ba, 4, none⟩) (show ba < W6.heap.size by omega)).trans kf1
                    have hBM7 := Lib.hid (hBM6.out.below hg7)
                    have HM7 := Lib.hid (HP.out.below HM6.out hg7)
                    have hb7 : Below w0.heap.size w0 W7 := hb6.trans (hg7.mono (by omega))
                    clear kf0 kf1 hg7
                    go_wp2_with fail
                    go_loopw [19] (fun kv w2 => ∃ q : Nat, q ≤ N ∧ kv = .int .i64 ((q : Nat) : Int) ∧ BMap w2 mb (n + q) (putH H at_ gb q) ∧ W7.grownBy w2 (some mb)) (fun kv w2 => N - (intOf kv).toNat)
                    case atStart => exact ⟨0, by omega, rfl, by rw [putH_zero]; exact hBM7.out, World.grownBy.refl _ _⟩
                    case round =>
                      obtain ⟨q, hq, rfl, hBq, hgq⟩ := hrel
                      have hsq := hgq.size
                      have u4 : wr.cell? ⟨ba, 4, none⟩ = some (.slice Ab N cb) := (cell_kept hgq (show ba < W7.heap.size by omega) (by omega)).trans kg1
                      by_cases hlq : q < N
                      · have dq : decide (((q : Nat) : Int) < ((N : Nat) : Int)) = true := decide_eq_true (by omega)
                        have u1 : wr.cell? ⟨ba, 1, none⟩ = some (.int .u64 at_) := (cell_kept hgq (show ba < W7.heap.size by omega) (by omega)).trans kg0
                        have hbq : Below w0.heap.size w0 wr := hb7.trans ((Below.refl w0.heap.size W7).grown hgq (by omega) (fun b e => by cases e; omega))
                        obtain ⟨adb, rfl, hbb, hcb⟩ := GmScriptA.rowAt HRB.out hbq (by omega)
                        have ub := hcb q (by omega)
                        clear hcb
                        have g1 : IntKind.u64.wrap ((q : Nat) : Int) = ((q : Nat) : Int) := by rw [IntKind.wrap_u64]; omega
                        have g2 : IntKind.u64.wrap (at_ + ((q : Nat) : Int)) = at_ + ((q : Nat) : Int) := by rw [IntKind.wrap_u64]; omega
                        have hby := HGB.out q
                        obtain ⟨⟨D, hD⟩, hlo⟩ := BMap.below hBq (Below.refl _ _).drew
                        have hnm : n + q < maxLen := by unfold maxLen; omega
                        have hx0 : 0 ≤ at_ + ((q : Nat) : Int) ∧ at_ + ((q : Nat) : Int) ≤ 18446744073709551615 := by omega
                        have hwf : (Lit.int .u8 (gb q)).wf = true := WalkArith.wf_u8 hby
                        obtain ⟨W9, hrun, hown9, hg9⟩ := hD.own.update law Try.underlying53 hnm (Maps.keyOf_int_mk Try.underlying26 (WalkArith.wf_u64 hx0)) (plainElem_int Try.underlying5 hwf)
                        have hB9 := hD.put hlo hby hown9
                        rw [putH_succ] at hB9
                        have HB9 := Lib.hid hB9
                        have hs9 := hg9.size
                        have hg79 := only_trans (only_drew hgq) hg9
                        clear hown9 hB9 hD hlo
                        go_wp2_with fail
                        go_region
                        go_wp2_with fail
                        go_roundw
                        case rel => exact ⟨q + 1, by omega, by go_num, HB9.out, hg79⟩
                        case measure => simp [intOf]; omega
                      · obtain rfl : q = N := by omega
                        have dq : decide (((q : Nat) : Int) < ((q : Nat) : Int)) = false := decide_eq_false (by omega)
                        go_wp2_with fail
                        go_roundw
                        case rel => exact ⟨j + 1, n + q, putG g o q gb, putH H at_ gb q, by omega, by go_num, by omega, by omega, ⟨HP.out.kept HM7.out hgq (by omega), hBq, same_put HW.out HPl.out HSame.out, hb7.trans ((Below.refl w0.heap.size W7).grown hgq (by omega) (fun b e => by cases e; omega))⟩⟩
                        case measure => simp [intOf]; omega
              · as_aux_lemma =>
                  have d0 : (q == 0) = false := by rw [beq_eq_false_iff_ne]; omega
                  have d1 : (q == 1) = false := by rw [beq_eq_false_iff_ne]; omega
                  have d3 : (q == 3) = false := by rw [beq_eq_false_iff_ne]; omega
                  clear hq q0 q5
                  go_wp2_with fail
                  refine Lib.wp_region_class (Lib.Held wc _ [(wr.heap.size, 0, (.int .i64 kd : Value)), (wr.heap.size, 0 + 1, (.int .u64 at_ : Value)), (wr.heap.size, 3, (.int .u64 vv : Value)), (wr.heap.size, 3 + 1, (.slice Ab N cb : Value))]) (by kernel_rfl) (by kernel_rfl) ⟨by go_grown, Below.refl _ _, ⟨by first | omega | go_size, by first | go_cell | (simp [*]; done), by first | (with_reducible assumption) | (go_simp; done) | (simp [*]; done)⟩, ⟨by first | omega | go_size, by first | go_cell | (simp [*]; done), by first | (with_reducible assumption) | (go_simp; done) | (simp [*]; done)⟩, ⟨by first | omega | go_size, by first | go_cell | (simp [*]; done), by first | (with_reducible assumption) | (go_simp; done) | (simp [*]; done)⟩, ⟨by first | omega | go_size, by first | go_cell | (simp [*]; done), by first | (with_reducible assumption) | (go_simp; done) | (simp [*]; done)⟩, trivial⟩ ?_
                  repeat (first | go_big_quiet_step ((intro hq; first | rfl | (go_at_call 23; exact Lib.Held.call hq (HP.out.has at_ vv _ g (HP.out.below HM.out hq.1) HAT.out HV.out)) | (go_at_call 29; exact Lib.Held.call hq (HIn.out _ (hbwc.trans (hq.1.mono (by omega))) vv HV.out _ rfl)) | (have hq' := hq; obtain ⟨hbq, heq, ⟨hkq_0, hlq_0, hzq_0⟩, ⟨hkq_1, hlq_1, hzq_1⟩, ⟨hkq_2, hlq_2, hzq_2⟩, ⟨hkq_3, hlq_3, hzq_3⟩, _⟩ := hq'; go_simp; rfl))) | quiet_step ((intro hq; first | rfl | (go_at_call 23; exact Lib.Held.call hq (HP.out.has at_ vv _ g (HP.out.below HM.out hq.1) HAT.out HV.out)) | (go_at_call 29; exact Lib.Held.call hq (HIn.out _ (hbwc.trans (hq.1.mono (by omega))) vv HV.out _ rfl)) | (have hq' := hq; obtain ⟨hbq, heq, ⟨hkq_0, hlq_0, hzq_0⟩, ⟨hkq_1, hlq_1, hzq_1⟩, ⟨hkq_2, hlq_2, hzq_2⟩, ⟨hkq_3, hlq_3, hzq_3⟩, _⟩ := hq'; go_simp; rfl))))
                  refine wpQuiet_nil ?_
                  intro W6 hq6
                  obtain ⟨hb6, he6, ⟨hk6_0, hl6_0, hz6_0⟩, ⟨hk6_1, hl6_1, hz6_1⟩, ⟨hk6_2, hl6_2, hz6_2⟩, ⟨hk6_3, hl6_3, hz6_3⟩, _⟩ := hq6
                  have hs6 := he6.size
                  try simp only [World.size_alloc, World.size_setCell, World.size_drew] at hs6
                  go_wp2_with fail
                  go_roundw
                  case rel => exact ⟨j + 1, n, g, H, by omega, by go_num, by omega, Nat.lt_of_lt_of_le (show mb < wc.heap.size by omega) (show wc.heap.size ≤ _ by go_size), ⟨HP.out.below HM.out (show Below wc.heap.size wc _ by go_grown), HBM.out.below (show Below wc.heap.size wc _ by go_grown), HSame.out, hbwc.trans (Below.mono (show Below wc.heap.size wc _ by go_grown) (by omega))⟩⟩
                  case measure => simp [intOf]; omega
          · as_aux_lemma =>
              obtain rfl : j = k2 := by omega
              have dj : decide (((j : Nat) : Int) < ((j : Nat) : Int)) = false := decide_eq_false (by omega)
              clear mbx mfx
              go_wp2_with fail
              refine (HP.out.image wr g HKr.out.mem).mono ?_
              rintro e W6 ⟨AI, cI, rfl, hrow, hg6⟩
              have HI := Lib.hid hrow
              have hs6 := hg6.size
              have hb6 : Below w0.heap.size w0 W6 := hbw.trans (hg6.mono hsw)
              have HBM := Lib.hid (HKr.out.map.below hg6)
              have HSm := Lib.hid (show Same (stR r) k1 H g from by have := HKr.out.same; rwa [HK.out, HRR.out] at this)
              have mb6 : W6.cell? ⟨w.heap.size, 0, none⟩ = some (.slice A1 k1 c1) := (hb6.cell (p := ⟨w.heap.size, 0, none⟩) hkx).trans hbx
              clear hrow HKr hg6
              go_wp2_with fail
              go_loopw [21, 22] (fun nv iv w2 => ∃ (i s : Nat), i ≤ k1 ∧ iv = .int .i64 ((i : Nat) : Int) ∧ nv = .int .i64 ((s : Nat) : Int) ∧ (s : Int) = GmCheck.sum r i ∧ Below W6.heap.size W6 w2) (fun nv iv w2 => k1 - (intOf iv).toNat)
              case atStart => exact ⟨0, 0, by omega, rfl, rfl, rfl, Below.refl _ _⟩
              case round =>
                obtain ⟨i, s, hi, rfl, rfl, hs, hb2⟩ := hrel
                have mbi : wr.cell? ⟨w.heap.size, 0, none⟩ = some (.slice A1 k1 c1) := (hb2.cell (p := ⟨w.heap.size, 0, none⟩) (show w.heap.size < W6.heap.size by omega)).trans mb6
                by_cases hli : i < k1
                · have di : decide (((i : Nat) : Int) < ((k1 : Nat) : Int)) = true := decide_eq_true (by omega)
                  have HSI := Lib.hid hs
                  clear hi hs
                  go_wp2_with fail
                  clear mbi
                  go_loopw [21, 23] (fun nv kv w2 => ∃ (q t : Nat), ((q : Nat) : Int) ≤ r.len i ∧ kv = .int .u64 ((q : Nat) : Int) ∧ nv = .int .i64 ((t : Nat) : Int) ∧ (t : Int) = GmCheck.sum r i + ((q : Nat) : Int) ∧ Below W6.heap.size W6 w2) (fun nv kv w2 => (r.len i).toNat - (intOf kv).toNat)
                  case atStart => exact ⟨0, s, (HR.out.raw i hli).2.2.1, rfl, rfl, by have := HSI.out; omega, hb2⟩
                  case round =>
                    obtain ⟨q, t, hq, rfl, rfl, ht, hb3⟩ := hrel
                    have mbi : wr.cell? ⟨w.heap.size, 0, none⟩ = some (.slice A1 k1 c1) := (hb3.cell (p := ⟨w.heap.size, 0, none⟩) (show w.heap.size < W6.heap.size by omega)).trans mb6
                    obtain ⟨ad, rfl, hbl, hcell⟩ := GmScriptA.rowAt HL.out (hb6.trans (hb3.mono (by omega))) (by omega)
                    have c0 : wr.cell? (ad.add (i * 2)) = some (.int .u64 (r.at_ i)) := (el0 hcell hli (by omega)).trans (by rw [Rg.cell0])
                    have c1' : wr.cell? ⟨(ad.add (i * 2)).block, (ad.add (i * 2)).off + 1, none⟩ = some (.int .u64 (r.len i)) := (elj hcell hli 1 (by omega) (by omega)).trans (by rw [Rg.cell1])
                    have hr1 := (HR.out.raw i hli)
                    have hst := HG.out.2 i hli
                    unfold Step at hst
                    have hup := GmRefP.sum_up HR.out.raw (Nat.le_refl k1) hli
                    have hSS := HS.out
                    clear hcell
                    by_cases hlq : ((q : Nat) : Int) < r.len i
                    · have dq : decide (((q : Nat) : Int) < r.len i) = true := decide_eq_true hlq
                      have hsame := HSm.out i hli q hlq
                      have hsl := sum_lo HR.out.raw i (by omega)
                      have htt : (((stR r).st i).toNat + q) = t := by show (GmCheck.sum r i).toNat + q = t; omega
                      rw [htt] at hsame
                      have hsame : H (r.at_ i + ((q : Nat) : Int)) = g t := hsame
                      have dS : decide (((S : Nat) : Int) ≤ ((t : Nat) : Int)) = false := decide_eq_false (by omega)
                      obtain ⟨adI, rfl, hbI, hcI⟩ := GmScriptA.rowAt HI.out hb3 (by omega)
                      have ci := hcI t (by omega)
                      clear hcI
                      have gw : IntKind.u64.wrap (r.at_ i + ((q : Nat) : Int)) = r.at_ i + ((q : Nat) : Int) := by rw [IntKind.wrap_u64]; omega
                      have gq : IntKind.u64.wrap (((q : Nat) : Int) + 1) = ((q : Nat) : Int) + 1 := by rw [IntKind.wrap_u64]; omega
                      have hxb : 0 ≤ r.at_ i + ((q : Nat) : Int) ∧ r.at_ i + ((q : Nat) : Int) ≤ 18446744073709551615 := by omega
                      have HLK := Lib.hid (fun (W : World) (hq : Below wr.heap.size wr W) => (by have := ((HBM.out.below hb3).below hq).look hxb; rwa [hsame] at this : (Instr.lookup 53 (.map (some mb)) (.int .u64 (r.at_ i + ((q : Nat) : Int))) false).run Try.prog W = .ok (.int .u8 (g t)) W))
                      have ev := bne_self_eq_false (g t)
                      have HT := Lib.hid ht
                      have hkw : w.heap.size < wr.heap.size := by have := hb3.size; omega
                      have had : (ad.add (i * 2)).block < wr.heap.size := by rw [block_of_add]; exact hbl
                      have hadI : (adI.add t).block < wr.heap.size := by rw [block_of_add]; exact hbI
                      have hti : ((t : Nat) : Int) < ((S : Nat) : Int) := by omega
                      have htn : t < S := by omega
                      have htm : ¬ S ≤ t := by omega
                      have dSn : decide (S ≤ t) = false := decide_eq_false htm
                      have dSm : decide (t < S) = true := decide_eq_true htn
                      clear hsame htt ht hSS hst hup hr1 hsl
                      go_wp2_with fail
                      refine Lib.wp_region_class (fun W => Below wr.heap.size wr W) (by kernel_rfl) (by kernel_rfl) (Below.refl _ _).drew ?_
                      repeat (first | go_big_quiet_step ((intro hq; have zb := (hq.cell (p := ⟨w.heap.size, 0, none⟩) hkw).trans mbi; have z0 := (hq.cell (p := ad.add (i * 2)) had).trans c0; have zi := (hq.cell (p := adI.add t) hadI).trans ci; have zl := HLK.out _ hq; first | (go_simp; rfl) | rfl)) | quiet_step ((intro hq; have zb := (hq.cell (p := ⟨w.heap.size, 0, none⟩) hkw).trans mbi; have z0 := (hq.cell (p := ad.add (i * 2)) had).trans c0; have zi := (hq.cell (p := adI.add t) hadI).trans ci; have zl := HLK.out _ hq; first | (go_simp; rfl) | rfl)))
                      refine wpQuiet_nil ?_
                      intro W1 hq1
                      go_wp2_with fail
                      go_roundw
                      case rel => exact ⟨q + 1, t + 1, by omega, by go_num, by go_num, by have := HT.out; omega, hb3.trans (hq1.mono hb3.size)⟩
                      case measure => simp [intOf]; omega
                    · have dq : decide (((q : Nat) : Int) < r.len i) = false := decide_eq_false hlq
                      have HT := Lib.hid (show (t : Int) = GmCheck.sum r i + r.len i by omega)
                      clear ht hSS hst hup
                      go_wp2_with fail
                      go_roundw
                      case rel => exact ⟨i + 1, t, by omega, by go_num, rfl, HT.out, hb3⟩
                      case measure => simp [intOf]; omega
                · obtain rfl : i = k1 := by omega
                  have di : decide (((i : Nat) : Int) < ((i : Nat) : Int)) = false := decide_eq_false (by omega)
                  obtain rfl : s = S := by have := HS.out; omega
                  have es := beq_self_eq_true ((s : Nat) : Int)
                  go_wp2_with fail
                  go_ret
                  exact ⟨rfl, hb00.trans ((hb6.trans (hb2.mono (by omega))).mono (by omega))⟩

theorem walk (v1 : Value) (A1 : Option Addr) (k1 c1 : Nat) (r : Rg) (v2 : Value) (A2 : Option Addr) (k2 c2 : Nat) (f : Nat → Ac) (w : World) (hR : IsRegs w v1 A1 k1 c1 r) (hC : IsActs w v2 A2 k2 c2 f) : Calls Try.prog 4 #[v1, v2] w (Lib.True1 w.heap.size w) := by
  obtain rfl := hR.val
  obtain rfl := hC.val
  exact walk_on A1 A2 k1 c1 k2 c2 r f w hR hC

set_option maxRecDepth 100000 in
theorem lifted (os : Os) (started : os.Started) (H : Type) (enc : TypeId × Value → H) :
    ReturnsInHanded {} Try.checked os 4 .any (Rows.gmemHoldsSpec.pre6 enc Try.prog Try.f4 Rows.gmemHoldsRow.domain false) (Rows.gmemHoldsSpec.post enc Try.prog Try.f4 false true false false) := by
  refine Lib.lifted (C := Try.checked) (tb := 4) H enc Lib.own started (by kernel_rfl) Try.func4
    (ChangeSpec.witness6 (enc := enc) (C := Try.checked) false ⟨#[], #[.slice none 0 0, .slice none 0 0], []⟩ 8 (by kernel_rfl) (by kernel_rfl) (by kernel_rfl) (by kernel_rfl))
    Lib.laidOut (Lib.readable_of (by kernel_rfl)) rfl Try.underlying4 rfl ?_ ?_
  · intro ds h
    match ds, h with
    | [_, _], _ => exact ⟨rfl, rfl, rfl⟩
  · intro W base args ds p hval hA hfz hlt
    rw [Try.params4] at hval
    have hA' : DataW.TrodAll enc Try.prog W 0 (fun _ => true) true Try.f4.params.toList args.toList ds p := hA
    rw [Try.params4] at hA'
    obtain ⟨v0, vs0, d0, ds0, p0, q0, hargs, rfl, rfl, h0, r0⟩ := trodAll_cons hA'
    obtain ⟨v1, vs1, d1, ds1, p1, q1, rfl, rfl, rfl, h1, r1⟩ := trodAll_cons r0
    obtain ⟨rfl, rfl, rfl⟩ := trodAll_nil r1
    obtain rfl : args = #[v0, v1] := by cases args; simp_all
    obtain ⟨a0_0, a0_1, a0_2, a0_3, w0⟩ := GmArgs.open_regions (hval 0 22 v0 rfl rfl) h0
    obtain ⟨a1_0, a1_1, a1_2, a1_3, w1⟩ := GmActs.open_acts (hval 1 23 v1 rfl rfl) h1
    exact walk v0 a0_0 a0_1 a0_2 a0_3 v1 a1_0 a1_1 a1_2 a1_3 W w0 w1

theorem over : Rows.gmemHoldsRow.holds Try.pinned (OpenSpec.ofChange Rows.gmemHoldsSpec) :=
  OpenClaim.holds_of_wide 4 Try.f4 rfl rfl rfl rfl rfl rfl rfl ⟨rfl, rfl, rfl, rfl, rfl⟩ rfl rfl rfl rfl rfl (by kernel_rfl) Try.func4 (by kernel_rfl)
    (of_decide_eq_true (by kernel_rfl)) (by unfold Func.isWrapper; first | (rw [if_pos (by decide +kernel)]; kernel_rfl) | (rw [if_neg (by decide +kernel)]; exact ⟨rfl, rfl⟩))
    (fun os started H enc _ => lifted os started H enc)

/-- The statement. -/
theorem proved : Rows.GmemHoldsSaid :=
  over

end Go.Proofs.Ytmmgcmbniidieaa.GmemHolds
