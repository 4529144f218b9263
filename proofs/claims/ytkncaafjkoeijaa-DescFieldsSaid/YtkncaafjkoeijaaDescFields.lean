/- The law DescFields: each field has its own bytes, little-endian; a table consists of its descriptors, one after the other. For every input; no condition. -/
import Derived.Test.YtkncaafjkoeijaaDes
import Derived.Test.YtkncaafjkoeijaaDesXor
import Derived.Test.YtkncaafjkoeijaaDesArgs
import Derived.Test.YtkncaafjkoeijaaDesRead
import Derived.Test.YtkncaafjkoeijaaDesTab
import Derived.Test.YtkncaafjkoeijaaPick
import Derived.Test.YtkncaafjkoeijaaDescFieldsR22
import Derived.Deep.DeepCutAuto
import Derived.Deep.CutBlock
import Derived.Deep.RegionWith
import Derived.RegionTactic
namespace Go.Proofs.Ytkncaafjkoeijaa.DescFields
open Go.ChangeShapes Go.WideShapes Go.ChangeAt Go.RowKit Le Rw DesPut DesRead DesTab DesArgs DesXor DescFieldsA
set_option linter.unusedVariables false
set_option linter.unusedSimpArgs false

theorem two_turned {W : World} {b1 b2 k : Nat} {g1 g2 : Nat → Int} {y : Int} (h1 : W.rowIs b1 128 16 (u8F g1)) (h2 : W.rowIs b2 128 16 (u8F g2)) (hne : b1 ≠ b2) :
    ((W.setCell ⟨b1, k, none⟩ (.int .u8 (bits .xor .u8 (g1 k) y))).setCell ⟨b2, k, none⟩ (.int .u8 (bits .xor .u8 (g2 k) y))).drew.rowIs b1 128 16 (u8F (turnG g1 k y)) ∧
    ((W.setCell ⟨b1, k, none⟩ (.int .u8 (bits .xor .u8 (g1 k) y))).setCell ⟨b2, k, none⟩ (.int .u8 (bits .xor .u8 (g2 k) y))).drew.rowIs b2 128 16 (u8F (turnG g2 k y)) := by
  have e : ∀ (g : Nat → Int) (j : Nat), (if j = k then Value.int .u8 (bits .xor .u8 (g k) y) else u8F g j) = u8F (turnG g k y) j := fun g j => by
    unfold u8F turnG
    by_cases h : j = k
    · subst h; simp
    · simp [h]
  have r1 := World.rowIs.set h1 k (.int .u8 (bits .xor .u8 (g1 k) y))
  have r2 : (W.setCell ⟨b1, k, none⟩ (.int .u8 (bits .xor .u8 (g1 k) y))).rowIs b2 128 16 (u8F g2) := h2.of_block (Go.Deep.blk_setCell_other _ _ _ _ (fun e => hne e.symm))
  have r3 := World.rowIs.set r2 k (.int .u8 (bits .xor .u8 (g2 k) y))
  have r4 : ((W.setCell ⟨b1, k, none⟩ (.int .u8 (bits .xor .u8 (g1 k) y))).setCell ⟨b2, k, none⟩ (.int .u8 (bits .xor .u8 (g2 k) y))).rowIs b1 128 16 _ := r1.of_block (Go.Deep.blk_setCell_other _ _ _ _ hne)
  exact ⟨(r4.of_block rfl).congr fun j _ => e g1 j, (r3.of_block rfl).congr fun j _ => e g2 j⟩

set_option maxRecDepth 100000 in
set_option maxHeartbeats 60000000 in
theorem walk_ok (a l f x pa pl pf px at_ y cut : Int) (A : Option Addr) (n c : Nat) (d : D4) (w : World) (hA : DescIn a l f x) (hP : DescIn pa pl pf px) (hat : (Lit.int .i64 at_).wf = true) (hy : 0 < y ∧ y ≤ 255) (hct : (Lit.int .i64 cut).wf = true)
    (hn : n ≤ 300) (hc : n ≤ c) (hc2 : c ≤ maxLen) (hd : d.In n) (hr : IsRow w w.heap.size 4 A n d.cell) :
    Calls Try.prog 7 #[descV a l f x, descV pa pl pf px, .int .i64 at_, .int .u8 y, .slice A n c, .int .i64 cut] w (Lib.True1 w.heap.size w) := by
  unfold Lib.True1
  have hb0 : Below w.heap.size w w := Below.refl _ _
  have HA := Lib.hid hA
  have HP := Lib.hid hP
  have HAT := Lib.hid hat
  have HCT := Lib.hid hct
  have HD := Lib.hid hd
  have HR := Lib.hid hr
  have HY := Lib.hid hy
  have h1 : decide ((300 : Int) < (n : Int)) = false := decide_eq_false (by omega)
  have h2 : (y == 0) = false := by simpa using (show ¬ y = 0 by omega)
  clear hA hP hat hct hd hr hy
  go_enter Try.func7, Try.ntmps7
  go_wp2_with fail
  refine (Des.lives_any _).mono ?_
  rintro eE W1 ⟨rfl, hg1⟩
  have hb1 : Below w.heap.size w W1 := (show Below w.heap.size w _ by go_grown).trans (hg1.mono (by first | omega | go_size))
  obtain ⟨hc1, hf1⟩ := bcell hg1
  have hs1 := hg1.size
  try simp only [World.size_alloc, World.size_setCell, World.size_drew] at hs1
  have hl1_0_0 : W1.cell? ⟨w.heap.size, 0, none⟩ = some (.int .u64 a) := (hc1 _ _ (by first | omega | go_size)).trans (by first | (with_reducible assumption) | go_cell)
  have hz1_0_0 : W1.frozen? ⟨w.heap.size, 0, none⟩ = false := (hf1 _ _ (by first | omega | go_size)).trans (by first | (with_reducible assumption) | (go_simp; done) | (simp [*]; done))
  have hl1_0_1 : W1.cell? ⟨w.heap.size, 1, none⟩ = some (.int .u32 l) := (hc1 _ _ (by first | omega | go_size)).trans (by first | (with_reducible assumption) | go_cell)
  have hz1_0_1 : W1.frozen? ⟨w.heap.size, 1, none⟩ = false := (hf1 _ _ (by first | omega | go_size)).trans (by first | (with_reducible assumption) | (go_simp; done) | (simp [*]; done))
  have hl1_0_2 : W1.cell? ⟨w.heap.size, 2, none⟩ = some (.int .u16 f) := (hc1 _ _ (by first | omega | go_size)).trans (by first | (with_reducible assumption) | go_cell)
  have hz1_0_2 : W1.frozen? ⟨w.heap.size, 2, none⟩ = false := (hf1 _ _ (by first | omega | go_size)).trans (by first | (with_reducible assumption) | (go_simp; done) | (simp [*]; done))
  have hl1_0_3 : W1.cell? ⟨w.heap.size, 3, none⟩ = some (.int .u16 x) := (hc1 _ _ (by first | omega | go_size)).trans (by first | (with_reducible assumption) | go_cell)
  have hz1_0_3 : W1.frozen? ⟨w.heap.size, 3, none⟩ = false := (hf1 _ _ (by first | omega | go_size)).trans (by first | (with_reducible assumption) | (go_simp; done) | (simp [*]; done))
  have hk1_0 : w.heap.size < W1.heap.size := by omega
  have hl1_1_0 : W1.cell? ⟨w.heap.size + 1, 0, none⟩ = some (.int .u64 pa) := (hc1 _ _ (by first | omega | go_size)).trans (by first | (with_reducible assumption) | go_cell)
  have hz1_1_0 : W1.frozen? ⟨w.heap.size + 1, 0, none⟩ = false := (hf1 _ _ (by first | omega | go_size)).trans (by first | (with_reducible assumption) | (go_simp; done) | (simp [*]; done))
  have hl1_1_1 : W1.cell? ⟨w.heap.size + 1, 1, none⟩ = some (.int .u32 pl) := (hc1 _ _ (by first | omega | go_size)).trans (by first | (with_reducible assumption) | go_cell)
  have hz1_1_1 : W1.frozen? ⟨w.heap.size + 1, 1, none⟩ = false := (hf1 _ _ (by first | omega | go_size)).trans (by first | (with_reducible assumption) | (go_simp; done) | (simp [*]; done))
  have hl1_1_2 : W1.cell? ⟨w.heap.size + 1, 2, none⟩ = some (.int .u16 pf) := (hc1 _ _ (by first | omega | go_size)).trans (by first | (with_reducible assumption) | go_cell)
  have hz1_1_2 : W1.frozen? ⟨w.heap.size + 1, 2, none⟩ = false := (hf1 _ _ (by first | omega | go_size)).trans (by first | (with_reducible assumption) | (go_simp; done) | (simp [*]; done))
  have hl1_1_3 : W1.cell? ⟨w.heap.size + 1, 3, none⟩ = some (.int .u16 px) := (hc1 _ _ (by first | omega | go_size)).trans (by first | (with_reducible assumption) | go_cell)
  have hz1_1_3 : W1.frozen? ⟨w.heap.size + 1, 3, none⟩ = false := (hf1 _ _ (by first | omega | go_size)).trans (by first | (with_reducible assumption) | (go_simp; done) | (simp [*]; done))
  have hk1_1 : w.heap.size + 1 < W1.heap.size := by omega
  clear hg1 hc1 hf1
  go_wp2_with fail
  refine (Pick.pick_some at_ 16 (by decide) HAT.out _).mono ?_
  rintro e W2 ⟨kk, k0, k16, rfl, rfl⟩
  obtain ⟨k, rfl⟩ := Int.eq_ofNat_of_zero_le k0
  have hk : k < 16 := by omega
  clear k0 k16
  go_upto_region 6 with fail
  go_cut [13, 14] (fun s t wx => ∃ b1 b2 : Nat, s = .slice (some ⟨b1, 0, none⟩) 16 16 ∧ t = .slice (some ⟨b2, 0, none⟩) 16 16 ∧ b1 ≠ b2 ∧ W1.heap.size ≤ b1 ∧ W1.heap.size ≤ b2 ∧ wx.rowIs b1 128 16 (u8F (descG a l f x)) ∧ wx.rowIs b2 128 16 (u8F (descG pa pl pf px)) ∧ Below W1.heap.size W1 wx)
  case first =>
    as_aux_lemma =>
      have HC := Lib.hid (show ∀ W, Below W1.heap.size W1 W → (W.cell? ⟨w.heap.size, 0, none⟩ = some (.int .u64 a) ∧ W.cell? ⟨w.heap.size, 1, none⟩ = some (.int .u32 l) ∧ W.cell? ⟨w.heap.size, 2, none⟩ = some (.int .u16 f) ∧ W.cell? ⟨w.heap.size, 3, none⟩ = some (.int .u16 x)) ∧
        (W.cell? ⟨w.heap.size + 1, 0, none⟩ = some (.int .u64 pa) ∧ W.cell? ⟨w.heap.size + 1, 1, none⟩ = some (.int .u32 pl) ∧ W.cell? ⟨w.heap.size + 1, 2, none⟩ = some (.int .u16 pf) ∧ W.cell? ⟨w.heap.size + 1, 3, none⟩ = some (.int .u16 px)) from fun W hW =>
        ⟨⟨(hW.cell (p := ⟨w.heap.size, 0, none⟩) hk1_0).trans hl1_0_0, (hW.cell (p := ⟨w.heap.size, 1, none⟩) hk1_0).trans hl1_0_1, (hW.cell (p := ⟨w.heap.size, 2, none⟩) hk1_0).trans hl1_0_2, (hW.cell (p := ⟨w.heap.size, 3, none⟩) hk1_0).trans hl1_0_3⟩,
         (hW.cell (p := ⟨w.heap.size + 1, 0, none⟩) hk1_1).trans hl1_1_0, (hW.cell (p := ⟨w.heap.size + 1, 1, none⟩) hk1_1).trans hl1_1_1, (hW.cell (p := ⟨w.heap.size + 1, 2, none⟩) hk1_1).trans hl1_1_2, (hW.cell (p := ⟨w.heap.size + 1, 3, none⟩) hk1_1).trans hl1_1_3⟩)
      go_region_with (first
        | (go_at_call 44; refine (bytes_any a l f x HA.out _).mono ?_; rintro e V1 ⟨b1, rfl, hr1, hl1, hg1⟩; have hB1 : Below W1.heap.size W1 V1 := (show Below W1.heap.size W1 _ by go_grown).trans (hg1.mono (by simp; try omega)); have hZ1 := hB1.size; have hX1 : W1.heap.size ≤ b1 := (by simp at hl1; omega); have HR1 := Lib.hid hr1; obtain ⟨⟨ca0, ca1, ca2, ca3⟩, cp0, cp1, cp2, cp3⟩ := HC.out V1 hB1; clear hr1 hl1)
        | (go_at_call 46; refine (pbytes_any pa pl pf px HP.out _).mono ?_; rintro e V2 ⟨b2, rfl, hr2, hl2, hg2⟩; have hZ2 := hg2.size; have HR2 := Lib.hid hr2))
      all_goals (go_wp2_with fail)
      all_goals go_meet
      all_goals exact ⟨b1, b2, rfl, rfl, by have := HR1.out.lt; omega, hX1, by omega, HR1.out.of_block (hg2.block b1 HR1.out.lt), HR2.out, hB1.trans (hg2.mono hZ1)⟩
  case rest =>
  obtain ⟨b1, b2, rfl, rfl, hne, hX1, hX2, hr1, hr2, hbc⟩ := hcut
  have hg1b := descG_lo a l f x
  have hg2b := descG_lo pa pl pf px
  obtain ⟨g1, hg1⟩ : ∃ g, descG a l f x = g := ⟨_, rfl⟩
  obtain ⟨g2, hg2⟩ : ∃ g, descG pa pl pf px = g := ⟨_, rfl⟩
  rw [hg1] at hg1b hr1
  rw [hg2] at hg2b hr2
  have G1 := Lib.hid hg1
  have G2 := Lib.hid hg2
  have B1 := Lib.hid hg1b
  have B2 := Lib.hid hg2b
  have R1 := Lib.hid hr1
  have R2 := Lib.hid hr2
  have hlt1 := hr1.lt
  have hlt2 := hr2.lt
  have d1 : wc.cell? ⟨b1, k, none⟩ = some (.int .u8 (g1 k)) := hr1.cell hk
  have d2 : wc.cell? ⟨b2, k, none⟩ = some (.int .u8 (g2 k)) := hr2.cell hk
  have z1 : wc.frozen? ⟨b1, k, none⟩ = false := hr1.frozen k
  have z2 : wc.frozen? ⟨b2, k, none⟩ = false := hr2.frozen k
  clear hg1 hg2 hg1b hg2b hr1 hr2
  go_upto_region 9 with fail
  go_cut [61] (fun s wx => wx.rowIs b1 128 16 (u8F (turnG g1 k y)) ∧ wx.rowIs b2 128 16 (u8F (turnG g2 k y)) ∧ Below W1.heap.size W1 wx)
  case first =>
    as_aux_lemma =>
      go_region
      all_goals (go_wp2_with fail)
      all_goals go_meet
      all_goals exact ⟨(two_turned R1.out R2.out hne).1, (two_turned R1.out R2.out hne).2, ((hbc.setCell (p := ⟨b1, k, none⟩) hX1 _).setCell (p := ⟨b2, k, none⟩) hX2 _).drew⟩
  case rest =>
  obtain ⟨hr1, hr2, hbd⟩ := hcut
  have hy0 := HY.out.1
  have hy1 := HY.out.2
  have T1 := Lib.hid (turnG_lo (k := k) B1.out ⟨Int.le_of_lt hy0, hy1⟩)
  have T2 := Lib.hid (turnG_lo (k := k) B2.out ⟨Int.le_of_lt hy0, hy1⟩)
  have R1 := Lib.hid hr1
  have R2 := Lib.hid hr2
  have hbw : Below w.heap.size w wc := hb1.trans (hbd.mono (by omega))
  have hsw := hbd.size
  have c1 := bcell hbd
  have q0 : wc.cell? ⟨w.heap.size, 0, none⟩ = some (.int .u64 a) := (c1.1 _ _ hk1_0).trans hl1_0_0
  have q1 : wc.cell? ⟨w.heap.size, 1, none⟩ = some (.int .u32 l) := (c1.1 _ _ hk1_0).trans hl1_0_1
  have q2 : wc.cell? ⟨w.heap.size, 2, none⟩ = some (.int .u16 f) := (c1.1 _ _ hk1_0).trans hl1_0_2
  have q3 : wc.cell? ⟨w.heap.size, 3, none⟩ = some (.int .u16 x) := (c1.1 _ _ hk1_0).trans hl1_0_3
  have q4 : wc.cell? ⟨w.heap.size + 1, 0, none⟩ = some (.int .u64 pa) := (c1.1 _ _ hk1_1).trans hl1_1_0
  have q5 : wc.cell? ⟨w.heap.size + 1, 1, none⟩ = some (.int .u32 pl) := (c1.1 _ _ hk1_1).trans hl1_1_1
  have q6 : wc.cell? ⟨w.heap.size + 1, 2, none⟩ = some (.int .u16 pf) := (c1.1 _ _ hk1_1).trans hl1_1_2
  have q7 : wc.cell? ⟨w.heap.size + 1, 3, none⟩ = some (.int .u16 px) := (c1.1 _ _ hk1_1).trans hl1_1_3
  have y0 : wc.frozen? ⟨w.heap.size, 0, none⟩ = false := (c1.2 _ _ hk1_0).trans hz1_0_0
  have y1 : wc.frozen? ⟨w.heap.size, 1, none⟩ = false := (c1.2 _ _ hk1_0).trans hz1_0_1
  have y2 : wc.frozen? ⟨w.heap.size, 2, none⟩ = false := (c1.2 _ _ hk1_0).trans hz1_0_2
  have y3 : wc.frozen? ⟨w.heap.size, 3, none⟩ = false := (c1.2 _ _ hk1_0).trans hz1_0_3
  have y4 : wc.frozen? ⟨w.heap.size + 1, 0, none⟩ = false := (c1.2 _ _ hk1_1).trans hz1_1_0
  have y5 : wc.frozen? ⟨w.heap.size + 1, 1, none⟩ = false := (c1.2 _ _ hk1_1).trans hz1_1_1
  have y6 : wc.frozen? ⟨w.heap.size + 1, 2, none⟩ = false := (c1.2 _ _ hk1_1).trans hz1_1_2
  have y7 : wc.frozen? ⟨w.heap.size + 1, 3, none⟩ = false := (c1.2 _ _ hk1_1).trans hz1_1_3
  have hb0k : w.heap.size < wc.heap.size := by omega
  have hb1k : w.heap.size + 1 < wc.heap.size := by omega
  clear c1 hl1_0_0 hl1_0_1 hl1_0_2 hl1_0_3 hl1_1_0 hl1_1_1 hl1_1_2 hl1_1_3 hz1_0_0 hz1_0_1 hz1_0_2 hz1_0_3 hz1_1_0 hz1_1_1 hz1_1_2 hz1_1_3 hr1 hr2 d1 d2 z1 z2 hlt1 hlt2
  obtain ⟨a1, ha1⟩ : ∃ v, fA (turnG g1 k y) = v := ⟨_, rfl⟩
  obtain ⟨l1, hl1⟩ : ∃ v, fL (turnG g1 k y) = v := ⟨_, rfl⟩
  obtain ⟨f1, hf1⟩ : ∃ v, fF (turnG g1 k y) = v := ⟨_, rfl⟩
  obtain ⟨x1, hx1⟩ : ∃ v, fX (turnG g1 k y) = v := ⟨_, rfl⟩
  obtain ⟨a2, ha2⟩ : ∃ v, fA (turnG g2 k y) = v := ⟨_, rfl⟩
  obtain ⟨l2, hl2⟩ : ∃ v, fL (turnG g2 k y) = v := ⟨_, rfl⟩
  obtain ⟨f2, hf2⟩ : ∃ v, fF (turnG g2 k y) = v := ⟨_, rfl⟩
  obtain ⟨x2, hx2⟩ : ∃ v, fX (turnG g2 k y) = v := ⟨_, rfl⟩
  have RD1 := Lib.hid (show ∀ W, Below wc.heap.size wc W → Calls Try.prog 35 #[.slice (some ⟨b1, 0, none⟩) 16 16] W (Gives W.heap.size W (.tuple #[descV a1 l1 f1 x1, .int .i64 0])) from fun W hW => by
    rw [← ha1, ← hl1, ← hf1, ← hx1]
    exact read_is ⟨b1, 0, none⟩ 16 _ W (by omega) T1.out (IsRow.of_rowIs (c := 16) (R1.out.of_block (hW.block b1 R1.out.lt)) (by omega)))
  have RD2 := Lib.hid (show ∀ W, Below wc.heap.size wc W → Calls Try.prog 37 #[.slice (some ⟨b2, 0, none⟩) 16 16] W (Gives W.heap.size W (.tuple #[descV a2 l2 f2 x2, .int .i64 0])) from fun W hW => by
    rw [← ha2, ← hl2, ← hf2, ← hx2]
    exact pread_is ⟨b2, 0, none⟩ 16 _ W (by omega) T2.out (IsRow.of_rowIs (c := 16) (R2.out.of_block (hW.block b2 R2.out.lt)) (by omega)))
  have F1 := Lib.hid (show (k < 8 → a1 = bits .xor .u64 a (IntKind.u64.wrap (y * 2 ^ (8 * k))) ∧ l1 = l ∧ f1 = f ∧ x1 = x) ∧ _ from ha1 ▸ hl1 ▸ hf1 ▸ hx1 ▸ G1.out ▸ fields a l f x y k HA.out ⟨Int.le_of_lt hy0, hy1⟩ hk)
  have F2 := Lib.hid (show (k < 8 → a2 = bits .xor .u64 pa (IntKind.u64.wrap (y * 2 ^ (8 * k))) ∧ l2 = pl ∧ f2 = pf ∧ x2 = px) ∧ _ from ha2 ▸ hl2 ▸ hf2 ▸ hx2 ▸ G2.out ▸ fields pa pl pf px y k HP.out ⟨Int.le_of_lt hy0, hy1⟩ hk)
  clear ha1 hl1 hf1 hx1 ha2 hl2 hf2 hx2
  have hb0z : Below wc.heap.size wc wc := Below.refl _ _
  go_wp2_with fail
  refine (RD1.out _ (by go_grown)).mono ?_
  rintro eE W3 ⟨rfl, hg3⟩
  have hb3 : Below wc.heap.size wc W3 := (show Below wc.heap.size wc _ by go_grown).trans (hg3.mono (by first | omega | go_size))
  obtain ⟨hc3, hf3⟩ := bcell hg3
  have hs3 := hg3.size
  try simp only [World.size_alloc, World.size_setCell, World.size_drew] at hs3
  have hl3_0_0 : W3.cell? ⟨w.heap.size, 0, none⟩ = some (.int .u64 a) := (hc3 _ _ (by first | omega | go_size)).trans (by first | (with_reducible assumption) | go_cell)
  have hz3_0_0 : W3.frozen? ⟨w.heap.size, 0, none⟩ = false := (hf3 _ _ (by first | omega | go_size)).trans (by first | (with_reducible assumption) | (go_simp; done) | (simp [*]; done))
  have hl3_0_1 : W3.cell? ⟨w.heap.size, 1, none⟩ = some (.int .u32 l) := (hc3 _ _ (by first | omega | go_size)).trans (by first | (with_reducible assumption) | go_cell)
  have hz3_0_1 : W3.frozen? ⟨w.heap.size, 1, none⟩ = false := (hf3 _ _ (by first | omega | go_size)).trans (by first | (with_reducible assumption) | (go_simp; done) | (simp [*]; done))
  have hl3_0_2 : W3.cell? ⟨w.heap.size, 2, none⟩ = some (.int .u16 f) := (hc3 _ _ (by first | omega | go_size)).trans (by first | (with_reducible assumption) | go_cell)
  have hz3_0_2 : W3.frozen? ⟨w.heap.size, 2, none⟩ = false := (hf3 _ _ (by first | omega | go_size)).trans (by first | (with_reducible assumption) | (go_simp; done) | (simp [*]; done))
  have hl3_0_3 : W3.cell? ⟨w.heap.size, 3, none⟩ = some (.int .u16 x) := (hc3 _ _ (by first | omega | go_size)).trans (by first | (with_reducible assumption) | go_cell)
  have hz3_0_3 : W3.frozen? ⟨w.heap.size, 3, none⟩ = false := (hf3 _ _ (by first | omega | go_size)).trans (by first | (with_reducible assumption) | (go_simp; done) | (simp [*]; done))
  have hk3_0 : w.heap.size < W3.heap.size := by omega
  have hl3_1_0 : W3.cell? ⟨w.heap.size + 1, 0, none⟩ = some (.int .u64 pa) := (hc3 _ _ (by first | omega | go_size)).trans (by first | (with_reducible assumption) | go_cell)
  have hz3_1_0 : W3.frozen? ⟨w.heap.size + 1, 0, none⟩ = false := (hf3 _ _ (by first | omega | go_size)).trans (by first | (with_reducible assumption) | (go_simp; done) | (simp [*]; done))
  have hl3_1_1 : W3.cell? ⟨w.heap.size + 1, 1, none⟩ = some (.int .u32 pl) := (hc3 _ _ (by first | omega | go_size)).trans (by first | (with_reducible assumption) | go_cell)
  have hz3_1_1 : W3.frozen? ⟨w.heap.size + 1, 1, none⟩ = false := (hf3 _ _ (by first | omega | go_size)).trans (by first | (with_reducible assumption) | (go_simp; done) | (simp [*]; done))
  have hl3_1_2 : W3.cell? ⟨w.heap.size + 1, 2, none⟩ = some (.int .u16 pf) := (hc3 _ _ (by first | omega | go_size)).trans (by first | (with_reducible assumption) | go_cell)
  have hz3_1_2 : W3.frozen? ⟨w.heap.size + 1, 2, none⟩ = false := (hf3 _ _ (by first | omega | go_size)).trans (by first | (with_reducible assumption) | (go_simp; done) | (simp [*]; done))
  have hl3_1_3 : W3.cell? ⟨w.heap.size + 1, 3, none⟩ = some (.int .u16 px) := (hc3 _ _ (by first | omega | go_size)).trans (by first | (with_reducible assumption) | go_cell)
  have hz3_1_3 : W3.frozen? ⟨w.heap.size + 1, 3, none⟩ = false := (hf3 _ _ (by first | omega | go_size)).trans (by first | (with_reducible assumption) | (go_simp; done) | (simp [*]; done))
  have hk3_1 : w.heap.size + 1 < W3.heap.size := by omega
  clear hg3 hc3 hf3
  go_wp2_with fail
  refine (RD2.out _ (by go_grown)).mono ?_
  rintro eE W4 ⟨rfl, hg4⟩
  have hb4 : Below wc.heap.size wc W4 := (show Below wc.heap.size wc _ by go_grown).trans (hg4.mono (by first | omega | go_size))
  obtain ⟨hc4, hf4⟩ := bcell hg4
  have hs4 := hg4.size
  try simp only [World.size_alloc, World.size_setCell, World.size_drew] at hs4
  have hl4_0_0 : W4.cell? ⟨w.heap.size, 0, none⟩ = some (.int .u64 a) := (hc4 _ _ (by first | omega | go_size)).trans (by first | (with_reducible assumption) | go_cell)
  have hz4_0_0 : W4.frozen? ⟨w.heap.size, 0, none⟩ = false := (hf4 _ _ (by first | omega | go_size)).trans (by first | (with_reducible assumption) | (go_simp; done) | (simp [*]; done))
  have hl4_0_1 : W4.cell? ⟨w.heap.size, 1, none⟩ = some (.int .u32 l) := (hc4 _ _ (by first | omega | go_size)).trans (by first | (with_reducible assumption) | go_cell)
  have hz4_0_1 : W4.frozen? ⟨w.heap.size, 1, none⟩ = false := (hf4 _ _ (by first | omega | go_size)).trans (by first | (with_reducible assumption) | (go_simp; done) | (simp [*]; done))
  have hl4_0_2 : W4.cell? ⟨w.heap.size, 2, none⟩ = some (.int .u16 f) := (hc4 _ _ (by first | omega | go_size)).trans (by first | (with_reducible assumption) | go_cell)
  have hz4_0_2 : W4.frozen? ⟨w.heap.size, 2, none⟩ = false := (hf4 _ _ (by first | omega | go_size)).trans (by first | (with_reducible assumption) | (go_simp; done) | (simp [*]; done))
  have hl4_0_3 : W4.cell? ⟨w.heap.size, 3, none⟩ = some (.int .u16 x) := (hc4 _ _ (by first | omega | go_size)).trans (by first | (with_reducible assumption) | go_cell)
  have hz4_0_3 : W4.frozen? ⟨w.heap.size, 3, none⟩ = false := (hf4 _ _ (by first | omega | go_size)).trans (by first | (with_reducible assumption) | (go_simp; done) | (simp [*]; done))
  have hk4_0 : w.heap.size < W4.heap.size := by omega
  have hl4_1_0 : W4.cell? ⟨w.heap.size + 1, 0, none⟩ = some (.int .u64 pa) := (hc4 _ _ (by first | omega | go_size)).trans (by first | (with_reducible assumption) | go_cell)
  have hz4_1_0 : W4.frozen? ⟨w.heap.size + 1, 0, none⟩ = false := (hf4 _ _ (by first | omega | go_size)).trans (by first | (with_reducible assumption) | (go_simp; done) | (simp [*]; done))
  have hl4_1_1 : W4.cell? ⟨w.heap.size + 1, 1, none⟩ = some (.int .u32 pl) := (hc4 _ _ (by first | omega | go_size)).trans (by first | (with_reducible assumption) | go_cell)
  have hz4_1_1 : W4.frozen? ⟨w.heap.size + 1, 1, none⟩ = false := (hf4 _ _ (by first | omega | go_size)).trans (by first | (with_reducible assumption) | (go_simp; done) | (simp [*]; done))
  have hl4_1_2 : W4.cell? ⟨w.heap.size + 1, 2, none⟩ = some (.int .u16 pf) := (hc4 _ _ (by first | omega | go_size)).trans (by first | (with_reducible assumption) | go_cell)
  have hz4_1_2 : W4.frozen? ⟨w.heap.size + 1, 2, none⟩ = false := (hf4 _ _ (by first | omega | go_size)).trans (by first | (with_reducible assumption) | (go_simp; done) | (simp [*]; done))
  have hl4_1_3 : W4.cell? ⟨w.heap.size + 1, 3, none⟩ = some (.int .u16 px) := (hc4 _ _ (by first | omega | go_size)).trans (by first | (with_reducible assumption) | go_cell)
  have hz4_1_3 : W4.frozen? ⟨w.heap.size + 1, 3, none⟩ = false := (hf4 _ _ (by first | omega | go_size)).trans (by first | (with_reducible assumption) | (go_simp; done) | (simp [*]; done))
  have hk4_1 : w.heap.size + 1 < W4.heap.size := by omega
  have hl4_2_0 : W4.cell? ⟨W3.heap.size, 0, none⟩ = some (.int .u64 a1) := (hc4 _ _ (by first | omega | go_size)).trans (by first | (with_reducible assumption) | go_cell)
  have hz4_2_0 : W4.frozen? ⟨W3.heap.size, 0, none⟩ = false := (hf4 _ _ (by first | omega | go_size)).trans (by first | (with_reducible assumption) | (go_simp; done) | (simp [*]; done))
  have hl4_2_1 : W4.cell? ⟨W3.heap.size, 1, none⟩ = some (.int .u32 l1) := (hc4 _ _ (by first | omega | go_size)).trans (by first | (with_reducible assumption) | go_cell)
  have hz4_2_1 : W4.frozen? ⟨W3.heap.size, 1, none⟩ = false := (hf4 _ _ (by first | omega | go_size)).trans (by first | (with_reducible assumption) | (go_simp; done) | (simp [*]; done))
  have hl4_2_2 : W4.cell? ⟨W3.heap.size, 2, none⟩ = some (.int .u16 f1) := (hc4 _ _ (by first | omega | go_size)).trans (by first | (with_reducible assumption) | go_cell)
  have hz4_2_2 : W4.frozen? ⟨W3.heap.size, 2, none⟩ = false := (hf4 _ _ (by first | omega | go_size)).trans (by first | (with_reducible assumption) | (go_simp; done) | (simp [*]; done))
  have hl4_2_3 : W4.cell? ⟨W3.heap.size, 3, none⟩ = some (.int .u16 x1) := (hc4 _ _ (by first | omega | go_size)).trans (by first | (with_reducible assumption) | go_cell)
  have hz4_2_3 : W4.frozen? ⟨W3.heap.size, 3, none⟩ = false := (hf4 _ _ (by first | omega | go_size)).trans (by first | (with_reducible assumption) | (go_simp; done) | (simp [*]; done))
  have hk4_2 : W3.heap.size < W4.heap.size := by omega
  clear hg4 hc4 hf4
  go_wp2_with fail
  have m00 : (W4.alloc (.cells #[.int .u64 a2, .int .u32 l2, .int .u16 f2, .int .u16 x2] 64)).cell? ⟨w.heap.size, 0, none⟩ = some (.int .u64 a) := by go_cell
  have n00 : (W4.alloc (.cells #[.int .u64 a2, .int .u32 l2, .int .u16 f2, .int .u16 x2] 64)).frozen? ⟨w.heap.size, 0, none⟩ = false := by first | (go_simp; done) | (simp [*]; done)
  have m01 : (W4.alloc (.cells #[.int .u64 a2, .int .u32 l2, .int .u16 f2, .int .u16 x2] 64)).cell? ⟨w.heap.size, 1, none⟩ = some (.int .u32 l) := by go_cell
  have n01 : (W4.alloc (.cells #[.int .u64 a2, .int .u32 l2, .int .u16 f2, .int .u16 x2] 64)).frozen? ⟨w.heap.size, 1, none⟩ = false := by first | (go_simp; done) | (simp [*]; done)
  have m02 : (W4.alloc (.cells #[.int .u64 a2, .int .u32 l2, .int .u16 f2, .int .u16 x2] 64)).cell? ⟨w.heap.size, 2, none⟩ = some (.int .u16 f) := by go_cell
  have n02 : (W4.alloc (.cells #[.int .u64 a2, .int .u32 l2, .int .u16 f2, .int .u16 x2] 64)).frozen? ⟨w.heap.size, 2, none⟩ = false := by first | (go_simp; done) | (simp [*]; done)
  have m03 : (W4.alloc (.cells #[.int .u64 a2, .int .u32 l2, .int .u16 f2, .int .u16 x2] 64)).cell? ⟨w.heap.size, 3, none⟩ = some (.int .u16 x) := by go_cell
  have n03 : (W4.alloc (.cells #[.int .u64 a2, .int .u32 l2, .int .u16 f2, .int .u16 x2] 64)).frozen? ⟨w.heap.size, 3, none⟩ = false := by first | (go_simp; done) | (simp [*]; done)
  have o0 : w.heap.size < (W4.alloc (.cells #[.int .u64 a2, .int .u32 l2, .int .u16 f2, .int .u16 x2] 64)).heap.size := by first | (simp; done) | (simp; omega)
  have m10 : (W4.alloc (.cells #[.int .u64 a2, .int .u32 l2, .int .u16 f2, .int .u16 x2] 64)).cell? ⟨w.heap.size + 1, 0, none⟩ = some (.int .u64 pa) := by go_cell
  have n10 : (W4.alloc (.cells #[.int .u64 a2, .int .u32 l2, .int .u16 f2, .int .u16 x2] 64)).frozen? ⟨w.heap.size + 1, 0, none⟩ = false := by first | (go_simp; done) | (simp [*]; done)
  have m11 : (W4.alloc (.cells #[.int .u64 a2, .int .u32 l2, .int .u16 f2, .int .u16 x2] 64)).cell? ⟨w.heap.size + 1, 1, none⟩ = some (.int .u32 pl) := by go_cell
  have n11 : (W4.alloc (.cells #[.int .u64 a2, .int .u32 l2, .int .u16 f2, .int .u16 x2] 64)).frozen? ⟨w.heap.size + 1, 1, none⟩ = false := by first | (go_simp; done) | (simp [*]; done)
  have m12 : (W4.alloc (.cells #[.int .u64 a2, .int .u32 l2, .int .u16 f2, .int .u16 x2] 64)).cell? ⟨w.heap.size + 1, 2, none⟩ = some (.int .u16 pf) := by go_cell
  have n12 : (W4.alloc (.cells #[.int .u64 a2, .int .u32 l2, .int .u16 f2, .int .u16 x2] 64)).frozen? ⟨w.heap.size + 1, 2, none⟩ = false := by first | (go_simp; done) | (simp [*]; done)
  have m13 : (W4.alloc (.cells #[.int .u64 a2, .int .u32 l2, .int .u16 f2, .int .u16 x2] 64)).cell? ⟨w.heap.size + 1, 3, none⟩ = some (.int .u16 px) := by go_cell
  have n13 : (W4.alloc (.cells #[.int .u64 a2, .int .u32 l2, .int .u16 f2, .int .u16 x2] 64)).frozen? ⟨w.heap.size + 1, 3, none⟩ = false := by first | (go_simp; done) | (simp [*]; done)
  have o1 : w.heap.size + 1 < (W4.alloc (.cells #[.int .u64 a2, .int .u32 l2, .int .u16 f2, .int .u16 x2] 64)).heap.size := by first | (simp; done) | (simp; omega)
  have m20 : (W4.alloc (.cells #[.int .u64 a2, .int .u32 l2, .int .u16 f2, .int .u16 x2] 64)).cell? ⟨W3.heap.size, 0, none⟩ = some (.int .u64 a1) := by go_cell
  have n20 : (W4.alloc (.cells #[.int .u64 a2, .int .u32 l2, .int .u16 f2, .int .u16 x2] 64)).frozen? ⟨W3.heap.size, 0, none⟩ = false := by first | (go_simp; done) | (simp [*]; done)
  have m21 : (W4.alloc (.cells #[.int .u64 a2, .int .u32 l2, .int .u16 f2, .int .u16 x2] 64)).cell? ⟨W3.heap.size, 1, none⟩ = some (.int .u32 l1) := by go_cell
  have n21 : (W4.alloc (.cells #[.int .u64 a2, .int .u32 l2, .int .u16 f2, .int .u16 x2] 64)).frozen? ⟨W3.heap.size, 1, none⟩ = false := by first | (go_simp; done) | (simp [*]; done)
  have m22 : (W4.alloc (.cells #[.int .u64 a2, .int .u32 l2, .int .u16 f2, .int .u16 x2] 64)).cell? ⟨W3.heap.size, 2, none⟩ = some (.int .u16 f1) := by go_cell
  have n22 : (W4.alloc (.cells #[.int .u64 a2, .int .u32 l2, .int .u16 f2, .int .u16 x2] 64)).frozen? ⟨W3.heap.size, 2, none⟩ = false := by first | (go_simp; done) | (simp [*]; done)
  have m23 : (W4.alloc (.cells #[.int .u64 a2, .int .u32 l2, .int .u16 f2, .int .u16 x2] 64)).cell? ⟨W3.heap.size, 3, none⟩ = some (.int .u16 x1) := by go_cell
  have n23 : (W4.alloc (.cells #[.int .u64 a2, .int .u32 l2, .int .u16 f2, .int .u16 x2] 64)).frozen? ⟨W3.heap.size, 3, none⟩ = false := by first | (go_simp; done) | (simp [*]; done)
  have o2 : W3.heap.size < (W4.alloc (.cells #[.int .u64 a2, .int .u32 l2, .int .u16 f2, .int .u16 x2] 64)).heap.size := by first | (simp; done) | (simp; omega)
  have m30 : (W4.alloc (.cells #[.int .u64 a2, .int .u32 l2, .int .u16 f2, .int .u16 x2] 64)).cell? ⟨W4.heap.size, 0, none⟩ = some (.int .u64 a2) := by go_cell
  have n30 : (W4.alloc (.cells #[.int .u64 a2, .int .u32 l2, .int .u16 f2, .int .u16 x2] 64)).frozen? ⟨W4.heap.size, 0, none⟩ = false := by first | (go_simp; done) | (simp [*]; done)
  have m31 : (W4.alloc (.cells #[.int .u64 a2, .int .u32 l2, .int .u16 f2, .int .u16 x2] 64)).cell? ⟨W4.heap.size, 1, none⟩ = some (.int .u32 l2) := by go_cell
  have n31 : (W4.alloc (.cells #[.int .u64 a2, .int .u32 l2, .int .u16 f2, .int .u16 x2] 64)).frozen? ⟨W4.heap.size, 1, none⟩ = false := by first | (go_simp; done) | (simp [*]; done)
  have m32 : (W4.alloc (.cells #[.int .u64 a2, .int .u32 l2, .int .u16 f2, .int .u16 x2] 64)).cell? ⟨W4.heap.size, 2, none⟩ = some (.int .u16 f2) := by go_cell
  have n32 : (W4.alloc (.cells #[.int .u64 a2, .int .u32 l2, .int .u16 f2, .int .u16 x2] 64)).frozen? ⟨W4.heap.size, 2, none⟩ = false := by first | (go_simp; done) | (simp [*]; done)
  have m33 : (W4.alloc (.cells #[.int .u64 a2, .int .u32 l2, .int .u16 f2, .int .u16 x2] 64)).cell? ⟨W4.heap.size, 3, none⟩ = some (.int .u16 x2) := by go_cell
  have n33 : (W4.alloc (.cells #[.int .u64 a2, .int .u32 l2, .int .u16 f2, .int .u16 x2] 64)).frozen? ⟨W4.heap.size, 3, none⟩ = false := by first | (go_simp; done) | (simp [*]; done)
  have o3 : W4.heap.size < (W4.alloc (.cells #[.int .u64 a2, .int .u32 l2, .int .u16 f2, .int .u16 x2] 64)).heap.size := by first | (simp; done) | (simp; omega)
  have hb5 : Below wc.heap.size wc (W4.alloc (.cells #[.int .u64 a2, .int .u32 l2, .int .u16 f2, .int .u16 x2] 64)) := by go_grown
  have hs5 : wc.heap.size ≤ (W4.alloc (.cells #[.int .u64 a2, .int .u32 l2, .int .u16 f2, .int .u16 x2] 64)).heap.size := hb5.size
  obtain ⟨c1, hc1⟩ : ∃ c, W3.heap.size = c := ⟨_, rfl⟩
  obtain ⟨c2, hc2'⟩ : ∃ c, W4.heap.size = c := ⟨_, rfl⟩
  have h12 : c1 < c2 := by omega
  have h1c : wc.heap.size ≤ c1 := by omega
  generalize (W4.alloc (.cells #[.int .u64 a2, .int .u32 l2, .int .u16 f2, .int .u16 x2] 64)) = W5 at m00 n00 m01 n01 m02 n02 m03 n03 o0 m10 n10 m11 n11 m12 n12 m13 n13 o1 m20 n20 m21 n21 m22 n22 m23 n23 o2 m30 n30 m31 n31 m32 n32 m33 n33 o3 hb5 hs5 ⊢
  rw [hc1] at m20 m21 m22 m23 n20 n21 n22 n23 o2 ⊢
  rw [hc2'] at m30 m31 m32 m33 n30 n31 n32 n33 o3 ⊢
  clear hl4_0_0 hl4_0_1 hl4_0_2 hl4_0_3 hl4_1_0 hl4_1_1 hl4_1_2 hl4_1_3 hz4_0_0 hz4_0_1 hz4_0_2 hz4_0_3 hz4_1_0 hz4_1_1 hz4_1_2 hz4_1_3 hl4_2_0 hl4_2_1 hl4_2_2 hl4_2_3 hz4_2_0 hz4_2_1 hz4_2_2 hz4_2_3
  clear hl3_0_0 hl3_0_1 hl3_0_2 hl3_0_3 hl3_1_0 hl3_1_1 hl3_1_2 hl3_1_3 hz3_0_0 hz3_0_1 hz3_0_2 hz3_0_3 hz3_1_0 hz3_1_1 hz3_1_2 hz3_1_3 q0 q1 q2 q3 q4 q5 q6 q7 y0 y1 y2 y3 y4 y5 y6 y7
  go_upto_region 12 with fail
  go_cut [19, 20] (fun s t wx => ∃ c3 c4 : Nat, s = .pointer (some ⟨c3, 0, none⟩) ∧ t = .pointer (some ⟨c4, 0, none⟩) ∧ c3 ≠ c4 ∧ W5.heap.size ≤ c3 ∧ W5.heap.size ≤ c4 ∧ c3 < wx.heap.size ∧ c4 < wx.heap.size ∧ (wx.cell? ⟨c3, 0, none⟩ = some (.int .u64 a) ∧ wx.cell? ⟨c3, 1, none⟩ = some (.int .u32 l) ∧ wx.cell? ⟨c3, 2, none⟩ = some (.int .u16 f) ∧ wx.cell? ⟨c3, 3, none⟩ = some (.int .u16 x)) ∧ (wx.cell? ⟨c4, 0, none⟩ = some (.int .u64 pa) ∧ wx.cell? ⟨c4, 1, none⟩ = some (.int .u32 pl) ∧ wx.cell? ⟨c4, 2, none⟩ = some (.int .u16 pf) ∧ wx.cell? ⟨c4, 3, none⟩ = some (.int .u16 px)) ∧ (wx.frozen? ⟨c3, 0, none⟩ = false ∧ wx.frozen? ⟨c3, 1, none⟩ = false ∧ wx.frozen? ⟨c3, 2, none⟩ = false ∧ wx.frozen? ⟨c3, 3, none⟩ = false) ∧ (wx.frozen? ⟨c4, 0, none⟩ = false ∧ wx.frozen? ⟨c4, 1, none⟩ = false ∧ wx.frozen? ⟨c4, 2, none⟩ = false ∧ wx.frozen? ⟨c4, 3, none⟩ = false) ∧ Below W5.heap.size W5 wx)
  case first =>
    as_aux_lemma =>
      go_region
      all_goals (go_wp2_with fail)
      all_goals go_meet
      · exact ⟨W5.heap.size, W5.heap.size + 1, rfl, rfl, by omega, by omega, by omega, by simp; omega, by simp, ⟨by go_cell, by go_cell, by go_cell, by go_cell⟩, ⟨by go_cell, by go_cell, by go_cell, by go_cell⟩, ⟨by simp, by simp, by simp, by simp⟩, ⟨by simp, by simp, by simp, by simp⟩, by go_grown⟩
      · exact ⟨W5.heap.size + 1, W5.heap.size, rfl, rfl, by omega, by omega, by omega, by simp, by simp; omega, ⟨by go_cell, by go_cell, by go_cell, by go_cell⟩, ⟨by go_cell, by go_cell, by go_cell, by go_cell⟩, ⟨by simp, by simp, by simp, by simp⟩, ⟨by simp, by simp, by simp, by simp⟩, by go_grown⟩
  case rest =>
  obtain ⟨c3, c4, rfl, rfl, h34, hc3, hc4, hl3, hl4, ⟨r0, r1, r2, r3⟩, ⟨s0, s1, s2, s3⟩, ⟨t0, t1, t2, t3⟩, ⟨v0, v1, v2, v3⟩, hb6⟩ := hcut
  have hs6 := hb6.size
  have e6 := bcell hb6
  have p00 : wc.cell? ⟨w.heap.size, 0, none⟩ = some (.int .u64 a) := (e6.1 _ _ o0).trans m00
  have j00 : wc.frozen? ⟨w.heap.size, 0, none⟩ = false := (e6.2 _ _ o0).trans n00
  have p01 : wc.cell? ⟨w.heap.size, 1, none⟩ = some (.int .u32 l) := (e6.1 _ _ o0).trans m01
  have j01 : wc.frozen? ⟨w.heap.size, 1, none⟩ = false := (e6.2 _ _ o0).trans n01
  have p02 : wc.cell? ⟨w.heap.size, 2, none⟩ = some (.int .u16 f) := (e6.1 _ _ o0).trans m02
  have j02 : wc.frozen? ⟨w.heap.size, 2, none⟩ = false := (e6.2 _ _ o0).trans n02
  have p03 : wc.cell? ⟨w.heap.size, 3, none⟩ = some (.int .u16 x) := (e6.1 _ _ o0).trans m03
  have j03 : wc.frozen? ⟨w.heap.size, 3, none⟩ = false := (e6.2 _ _ o0).trans n03
  have p10 : wc.cell? ⟨w.heap.size + 1, 0, none⟩ = some (.int .u64 pa) := (e6.1 _ _ o1).trans m10
  have j10 : wc.frozen? ⟨w.heap.size + 1, 0, none⟩ = false := (e6.2 _ _ o1).trans n10
  have p11 : wc.cell? ⟨w.heap.size + 1, 1, none⟩ = some (.int .u32 pl) := (e6.1 _ _ o1).trans m11
  have j11 : wc.frozen? ⟨w.heap.size + 1, 1, none⟩ = false := (e6.2 _ _ o1).trans n11
  have p12 : wc.cell? ⟨w.heap.size + 1, 2, none⟩ = some (.int .u16 pf) := (e6.1 _ _ o1).trans m12
  have j12 : wc.frozen? ⟨w.heap.size + 1, 2, none⟩ = false := (e6.2 _ _ o1).trans n12
  have p13 : wc.cell? ⟨w.heap.size + 1, 3, none⟩ = some (.int .u16 px) := (e6.1 _ _ o1).trans m13
  have j13 : wc.frozen? ⟨w.heap.size + 1, 3, none⟩ = false := (e6.2 _ _ o1).trans n13
  have o0' : w.heap.size < wc.heap.size := by omega
  have o1' : w.heap.size + 1 < wc.heap.size := by omega
  have u1 : w.heap.size ≠ c3 := by omega
  have u2 : w.heap.size ≠ c4 := by omega
  have u3 : w.heap.size + 1 ≠ c3 := by omega
  have u4 : w.heap.size + 1 ≠ c4 := by omega
  go_upto_block 0 with fail
  go_cut [98] (fun s wx => (wx.cell? ⟨c3, 0, none⟩ = some (.int .u64 a1) ∧ wx.cell? ⟨c3, 1, none⟩ = some (.int .u32 l1) ∧ wx.cell? ⟨c3, 2, none⟩ = some (.int .u16 f1) ∧ wx.cell? ⟨c3, 3, none⟩ = some (.int .u16 x1)) ∧ (wx.cell? ⟨c4, 0, none⟩ = some (.int .u64 a2) ∧ wx.cell? ⟨c4, 1, none⟩ = some (.int .u32 l2) ∧ wx.cell? ⟨c4, 2, none⟩ = some (.int .u16 f2) ∧ wx.cell? ⟨c4, 3, none⟩ = some (.int .u16 x2)) ∧ Below W5.heap.size W5 wx ∧ c3 < wx.heap.size ∧ c4 < wx.heap.size ∧ (wx.frozen? ⟨c3, 0, none⟩ = false ∧ wx.frozen? ⟨c3, 1, none⟩ = false ∧ wx.frozen? ⟨c3, 2, none⟩ = false ∧ wx.frozen? ⟨c3, 3, none⟩ = false) ∧ (wx.frozen? ⟨c4, 0, none⟩ = false ∧ wx.frozen? ⟨c4, 1, none⟩ = false ∧ wx.frozen? ⟨c4, 2, none⟩ = false ∧ wx.frozen? ⟨c4, 3, none⟩ = false))
  case first =>
    as_aux_lemma =>
      have i5 : IntKind.i64.wrap (8 * (k : Int)) = ((8 * k : Nat) : Int) := by rw [IntKind.wrap_i64]; omega
      have i6 : IntKind.u64.wrap ((8 * k : Nat) : Int) = ((8 * k : Nat) : Int) := by rw [IntKind.wrap_u64]; omega
      have i7 : (((8 * k : Nat) : Int)).toNat = 8 * k := Int.toNat_natCast _
      have i8 : IntKind.u64.wrap y = y := by rw [IntKind.wrap_u64]; omega
      rcases (show k < 8 ∨ (8 ≤ k ∧ k < 12) ∨ (12 ≤ k ∧ k < 14) ∨ 14 ≤ k from by omega) with h8 | ⟨h8, h12⟩ | ⟨h12, h14⟩ | h14
      · obtain ⟨e1, e2, e3, e4⟩ := F1.out.1 h8
        obtain ⟨g1', g2', g3', g4'⟩ := F2.out.1 h8
        have dd8 : decide ((k : Int) < 8) = true := decide_eq_true (by omega)
        go_wp2_with fail
        go_region
        all_goals (go_wp2_with fail)
        all_goals go_meet
        all_goals (rw [e1, e2, e3, e4, g1', g2', g3', g4'])
        all_goals exact ⟨⟨by go_cell, by go_cell, by go_cell, by go_cell⟩, ⟨by go_cell, by go_cell, by go_cell, by go_cell⟩, ((hb6.setCell (p := ⟨c3, 0, none⟩) hc3 _).setCell (p := ⟨c4, 0, none⟩) hc4 _).drew, by simp; omega, by simp; omega, ⟨by first | (go_simp; done) | (simp [*]; done), by first | (go_simp; done) | (simp [*]; done), by first | (go_simp; done) | (simp [*]; done), by first | (go_simp; done) | (simp [*]; done)⟩, ⟨by first | (go_simp; done) | (simp [*]; done), by first | (go_simp; done) | (simp [*]; done), by first | (go_simp; done) | (simp [*]; done), by first | (go_simp; done) | (simp [*]; done)⟩⟩
      · obtain ⟨e1, e2, e3, e4⟩ := F1.out.2.1 h8 h12
        obtain ⟨g1', g2', g3', g4'⟩ := F2.out.2.1 h8 h12
        rw [show 8 * (k - 8) = 8 * k - 64 from by omega, IntKind.wrap_u32'] at e2 g2'
        have dd8 : decide ((k : Int) < 8) = false := decide_eq_false (by omega)
        have dd12 : decide ((k : Int) < 12) = true := decide_eq_true (by omega)
        have s5 : IntKind.i64.wrap (((8 * k : Nat) : Int) - 64) = ((8 * (k - 8) : Nat) : Int) := by rw [IntKind.wrap_i64]; omega
        have s6 : IntKind.u64.wrap ((8 * (k - 8) : Nat) : Int) = ((8 * (k - 8) : Nat) : Int) := by rw [IntKind.wrap_u64]; omega
        have s7 : (((8 * (k - 8) : Nat) : Int)).toNat = 8 * (k - 8) := Int.toNat_natCast _
        have s8 : IntKind.u32.wrap y = y := by rw [IntKind.wrap_u32']; omega
        go_wp2_with fail
        go_region
        all_goals (go_wp2_with fail)
        all_goals go_meet
        all_goals (rw [e1, e2, e3, e4, g1', g2', g3', g4'])
        all_goals exact ⟨⟨by go_cell, by go_cell, by go_cell, by go_cell⟩, ⟨by go_cell, by go_cell, by go_cell, by go_cell⟩, ((hb6.setCell (p := ⟨c3, 1, none⟩) hc3 _).setCell (p := ⟨c4, 1, none⟩) hc4 _).drew, by simp; omega, by simp; omega, ⟨by first | (go_simp; done) | (simp [*]; done), by first | (go_simp; done) | (simp [*]; done), by first | (go_simp; done) | (simp [*]; done), by first | (go_simp; done) | (simp [*]; done)⟩, ⟨by first | (go_simp; done) | (simp [*]; done), by first | (go_simp; done) | (simp [*]; done), by first | (go_simp; done) | (simp [*]; done), by first | (go_simp; done) | (simp [*]; done)⟩⟩
      · obtain ⟨e1, e2, e3, e4⟩ := F1.out.2.2.1 h12 h14
        obtain ⟨g1', g2', g3', g4'⟩ := F2.out.2.2.1 h12 h14
        rw [show 8 * (k - 12) = 8 * k - 96 from by omega] at e3 g3'
        have dd8 : decide ((k : Int) < 8) = false := decide_eq_false (by omega)
        have dd12 : decide ((k : Int) < 12) = false := decide_eq_false (by omega)
        have dd14 : decide ((k : Int) < 14) = true := decide_eq_true (by omega)
        have s5 : IntKind.i64.wrap (((8 * k : Nat) : Int) - 96) = ((8 * (k - 12) : Nat) : Int) := by rw [IntKind.wrap_i64]; omega
        have s6 : IntKind.u64.wrap ((8 * (k - 12) : Nat) : Int) = ((8 * (k - 12) : Nat) : Int) := by rw [IntKind.wrap_u64]; omega
        have s7 : (((8 * (k - 12) : Nat) : Int)).toNat = 8 * (k - 12) := Int.toNat_natCast _
        have s8 : IntKind.u16.wrap y = y := by rw [IntKind.wrap_u16]; omega
        go_wp2_with fail
        go_region
        all_goals (go_wp2_with fail)
        all_goals go_meet
        all_goals (rw [e1, e2, e3, e4, g1', g2', g3', g4'])
        all_goals exact ⟨⟨by go_cell, by go_cell, by go_cell, by go_cell⟩, ⟨by go_cell, by go_cell, by go_cell, by go_cell⟩, ((hb6.setCell (p := ⟨c3, 2, none⟩) hc3 _).setCell (p := ⟨c4, 2, none⟩) hc4 _).drew, by simp; omega, by simp; omega, ⟨by first | (go_simp; done) | (simp [*]; done), by first | (go_simp; done) | (simp [*]; done), by first | (go_simp; done) | (simp [*]; done), by first | (go_simp; done) | (simp [*]; done)⟩, ⟨by first | (go_simp; done) | (simp [*]; done), by first | (go_simp; done) | (simp [*]; done), by first | (go_simp; done) | (simp [*]; done), by first | (go_simp; done) | (simp [*]; done)⟩⟩
      · obtain ⟨e1, e2, e3, e4⟩ := F1.out.2.2.2 h14
        obtain ⟨g1', g2', g3', g4'⟩ := F2.out.2.2.2 h14
        rw [show 8 * (k - 14) = 8 * k - 112 from by omega] at e4 g4'
        have dd8 : decide ((k : Int) < 8) = false := decide_eq_false (by omega)
        have dd12 : decide ((k : Int) < 12) = false := decide_eq_false (by omega)
        have dd14 : decide ((k : Int) < 14) = false := decide_eq_false (by omega)
        have s5 : IntKind.i64.wrap (((8 * k : Nat) : Int) - 112) = ((8 * (k - 14) : Nat) : Int) := by rw [IntKind.wrap_i64]; omega
        have s6 : IntKind.u64.wrap ((8 * (k - 14) : Nat) : Int) = ((8 * (k - 14) : Nat) : Int) := by rw [IntKind.wrap_u64]; omega
        have s7 : (((8 * (k - 14) : Nat) : Int)).toNat = 8 * (k - 14) := Int.toNat_natCast _
        have s8 : IntKind.u16.wrap y = y := by rw [IntKind.wrap_u16]; omega
        go_wp2_with fail
        go_region
        all_goals (go_wp2_with fail)
        all_goals go_meet
        all_goals (rw [e1, e2, e3, e4, g1', g2', g3', g4'])
        all_goals exact ⟨⟨by go_cell, by go_cell, by go_cell, by go_cell⟩, ⟨by go_cell, by go_cell, by go_cell, by go_cell⟩, ((hb6.setCell (p := ⟨c3, 3, none⟩) hc3 _).setCell (p := ⟨c4, 3, none⟩) hc4 _).drew, by simp; omega, by simp; omega, ⟨by first | (go_simp; done) | (simp [*]; done), by first | (go_simp; done) | (simp [*]; done), by first | (go_simp; done) | (simp [*]; done), by first | (go_simp; done) | (simp [*]; done)⟩, ⟨by first | (go_simp; done) | (simp [*]; done), by first | (go_simp; done) | (simp [*]; done), by first | (go_simp; done) | (simp [*]; done), by first | (go_simp; done) | (simp [*]; done)⟩⟩
  case rest =>
  as_aux_lemma =>
    obtain ⟨⟨r0, r1, r2, r3⟩, ⟨s0, s1, s2, s3⟩, hb7, hl3, hl4, ⟨t0, t1, t2, t3⟩, ⟨v0, v1, v2, v3⟩⟩ := hcut
    have e7 := bcell hb7
    have hs7 := hb7.size
    have P00 : wc.cell? ⟨c1, 0, none⟩ = some (.int .u64 a1) := (e7.1 _ _ o2).trans m20
    have J00 : wc.frozen? ⟨c1, 0, none⟩ = false := (e7.2 _ _ o2).trans n20
    have P01 : wc.cell? ⟨c1, 1, none⟩ = some (.int .u32 l1) := (e7.1 _ _ o2).trans m21
    have J01 : wc.frozen? ⟨c1, 1, none⟩ = false := (e7.2 _ _ o2).trans n21
    have P02 : wc.cell? ⟨c1, 2, none⟩ = some (.int .u16 f1) := (e7.1 _ _ o2).trans m22
    have J02 : wc.frozen? ⟨c1, 2, none⟩ = false := (e7.2 _ _ o2).trans n22
    have P03 : wc.cell? ⟨c1, 3, none⟩ = some (.int .u16 x1) := (e7.1 _ _ o2).trans m23
    have J03 : wc.frozen? ⟨c1, 3, none⟩ = false := (e7.2 _ _ o2).trans n23
    have P10 : wc.cell? ⟨c2, 0, none⟩ = some (.int .u64 a2) := (e7.1 _ _ o3).trans m30
    have J10 : wc.frozen? ⟨c2, 0, none⟩ = false := (e7.2 _ _ o3).trans n30
    have P11 : wc.cell? ⟨c2, 1, none⟩ = some (.int .u32 l2) := (e7.1 _ _ o3).trans m31
    have J11 : wc.frozen? ⟨c2, 1, none⟩ = false := (e7.2 _ _ o3).trans n31
    have P12 : wc.cell? ⟨c2, 2, none⟩ = some (.int .u16 f2) := (e7.1 _ _ o3).trans m32
    have J12 : wc.frozen? ⟨c2, 2, none⟩ = false := (e7.2 _ _ o3).trans n32
    have P13 : wc.cell? ⟨c2, 3, none⟩ = some (.int .u16 x2) := (e7.1 _ _ o3).trans m33
    have J13 : wc.frozen? ⟨c2, 3, none⟩ = false := (e7.2 _ _ o3).trans n33
    have O1 : c1 < wc.heap.size := by omega
    have O2 : c2 < wc.heap.size := by omega
    have hbW : Below w.heap.size w wc := hbw.trans ((hb5.trans (hb7.mono hs5)).mono (by have := hbw.size; omega))
    have hsW := hbW.size
    go_wp2_with fail
    refine (Pick.pick_some cut ((n : Int) + 1) (by omega) HCT.out _).mono ?_
    rintro e W9 ⟨kc', k0, k1, rfl, rfl⟩
    obtain ⟨kc, rfl⟩ := Int.eq_ofNat_of_zero_le k0
    have hkc : kc ≤ n := by omega
    clear k0 k1
    go_wp2_with fail
    refine (table_any A n c d _ (by omega) HD.out ((IsRow.below HR.out hbW).more hsW)).mono ?_
    rintro e V ⟨g22, c22, rfl, ho22, hg10⟩
    have e10 := bcell hg10
    have hs10 := hg10.size
    have hb10 : Below w.heap.size w V := hbW.trans (hg10.mono hsW)
    have HRow := Lib.hid (show IsRow V V.heap.size 1 (some ⟨g22, 0, none⟩) (16 * n) (u8F d.byte) from (IsRow.of_own ho22).congr fun j hj => by
      unfold D4.row
      have hj' : j < 16 * n := by omega
      simp [List.getD_eq_getElem?_getD, hj'])
    have HR10 := Lib.hid (show IsRow V V.heap.size 4 A n d.cell from (IsRow.below HR.out hb10).more hb10.size)
    clear ho22
    go_wp2_with fail
    refine Asrt.to_ops (id := 22) (ops := DescFieldsR22.OPS) (by kernel_rfl) ?_
    refine Asrt.wp_region_assert (by kernel_rfl) (by kernel_rfl) (Lib.Held w V [(c1, 0, (.int .u64 a1 : Value)), (c1, 1, (.int .u32 l1 : Value)), (c1, 2, (.int .u16 f1 : Value)), (c1, 3, (.int .u16 x1 : Value)), (c2, 0, (.int .u64 a2 : Value)), (c2, 1, (.int .u32 l2 : Value)), (c2, 2, (.int .u16 f2 : Value)), (c2, 3, (.int .u16 x2 : Value)), (c3, 0, (.int .u64 a1 : Value)), (c3, 1, (.int .u32 l1 : Value)), (c3, 2, (.int .u16 f1 : Value)), (c3, 3, (.int .u16 x1 : Value)), (c4, 0, (.int .u64 a2 : Value)), (c4, 1, (.int .u32 l2 : Value)), (c4, 2, (.int .u16 f2 : Value)), (c4, 3, (.int .u16 x2 : Value))]) [(178, .is (.int .i64 0)), (179, .is (.bool true)), (180, .is (.bool true)), (181, .is (.int .i64 0)), (182, .is (.bool true)), (183, .is (.bool true)), (184, .is (.bool true)), (185, .is (descV a1 l1 f1 x1)), (186, .is (descV a1 l1 f1 x1)), (187, .is (.bool true)), (188, .is (.bool true)), (189, .is (.bool true)), (190, .is (descV a2 l2 f2 x2)), (191, .is (descV a2 l2 f2 x2)), (192, .is (.bool true)), (193, .is (.bool true)), (194, .is (.bool true)), (195, .is (.slice (some ⟨g22, 0, none⟩) (16 * n) c22)), (196, .is (.string (DesArgs.strOf d.byte (16 * n)))), (197, .is (.slice A n c)), (198, .is (.int .i64 kc)), (199, .is (.slice A kc c)), (200, .cut 1 (16 * kc) (u8F d.byte)), (201, .is (.string (DesArgs.strOf d.byte (16 * kc)))), (202, .is (.slice A n c)), (203, .is (.int .i64 kc)), (204, .cut 4 (n - kc) (dropD d kc).cell), (205, .cut 1 (16 * (n - kc)) (u8F (dropD d kc).byte)), (206, .is (.string (DesArgs.strOf (fun j => d.byte (16 * kc + j)) (16 * (n - kc))))), (207, .is (.string (DesArgs.strOf d.byte (16 * kc + 16 * (n - kc))))), (208, .is (.bool true)), (209, .is (.bool true)), (12, .is (.bool true))] ⟨hb10.drew, (Below.refl _ _).drew, ⟨Nat.lt_of_lt_of_le O1 hs10, (e10.1 _ _ O1).trans P00, (e10.2 _ _ O1).trans J00⟩, ⟨Nat.lt_of_lt_of_le O1 hs10, (e10.1 _ _ O1).trans P01, (e10.2 _ _ O1).trans J01⟩, ⟨Nat.lt_of_lt_of_le O1 hs10, (e10.1 _ _ O1).trans P02, (e10.2 _ _ O1).trans J02⟩, ⟨Nat.lt_of_lt_of_le O1 hs10, (e10.1 _ _ O1).trans P03, (e10.2 _ _ O1).trans J03⟩, ⟨Nat.lt_of_lt_of_le O2 hs10, (e10.1 _ _ O2).trans P10, (e10.2 _ _ O2).trans J10⟩, ⟨Nat.lt_of_lt_of_le O2 hs10, (e10.1 _ _ O2).trans P11, (e10.2 _ _ O2).trans J11⟩, ⟨Nat.lt_of_lt_of_le O2 hs10, (e10.1 _ _ O2).trans P12, (e10.2 _ _ O2).trans J12⟩, ⟨Nat.lt_of_lt_of_le O2 hs10, (e10.1 _ _ O2).trans P13, (e10.2 _ _ O2).trans J13⟩, ⟨Nat.lt_of_lt_of_le hl3 hs10, (e10.1 _ _ hl3).trans r0, (e10.2 _ _ hl3).trans t0⟩, ⟨Nat.lt_of_lt_of_le hl3 hs10, (e10.1 _ _ hl3).trans r1, (e10.2 _ _ hl3).trans t1⟩, ⟨Nat.lt_of_lt_of_le hl3 hs10, (e10.1 _ _ hl3).trans r2, (e10.2 _ _ hl3).trans t2⟩, ⟨Nat.lt_of_lt_of_le hl3 hs10, (e10.1 _ _ hl3).trans r3, (e10.2 _ _ hl3).trans t3⟩, ⟨Nat.lt_of_lt_of_le hl4 hs10, (e10.1 _ _ hl4).trans s0, (e10.2 _ _ hl4).trans v0⟩, ⟨Nat.lt_of_lt_of_le hl4 hs10, (e10.1 _ _ hl4).trans s1, (e10.2 _ _ hl4).trans v1⟩, ⟨Nat.lt_of_lt_of_le hl4 hs10, (e10.1 _ _ hl4).trans s2, (e10.2 _ _ hl4).trans v2⟩, ⟨Nat.lt_of_lt_of_le hl4 hs10, (e10.1 _ _ hl4).trans s3, (e10.2 _ _ hl4).trans v3⟩, trivial⟩ (by kernel_rfl) (by kernel_rfl) (DescFieldsR22.obs w V a1 l1 f1 x1 a2 l2 f2 x2 A n c g22 c22 kc c1 c2 c3 c4 d hn hc hkc HD.out HR10.out HRow.out _ (fun _ _ => rfl) (fun _ _ => rfl) (fun _ _ => rfl) (fun _ _ => rfl) (fun _ _ => rfl) (fun _ _ => rfl) (fun _ _ => rfl) (fun _ _ => rfl) (fun _ _ => rfl) (fun _ _ => rfl) (fun _ _ => rfl) (fun _ _ => rfl) (fun _ _ => rfl) (fun _ _ => rfl) (fun _ _ => rfl) (fun _ _ => rfl) (fun _ _ => rfl) (fun _ _ => rfl) (fun _ _ => rfl) (fun _ _ => rfl) (fun _ _ => rfl) (fun _ _ => rfl) (fun _ _ => rfl) (fun _ _ => rfl) (fun _ _ => rfl) (fun _ _ => rfl) (fun _ _ => rfl) (fun _ _ => rfl) (fun _ _ => rfl) (fun _ _ => rfl) (fun _ _ => rfl) (fun _ _ => rfl) (fun _ _ => rfl) (fun _ _ => rfl) (fun _ _ => rfl) (fun _ _ => rfl) (fun _ _ => rfl) (fun _ _ => rfl) (fun _ _ => rfl) (fun _ _ => rfl) (fun _ _ => rfl) (fun _ _ => rfl)) ?_
    intro a22 w22 hC22 hB22 hs22 hd22 hT22 hU22
    have e12 : a22.tmps.getD 12 undef = .bool true := hT22 12 _ rfl
    rename_i K hK
    refine hK _ _ (wp_ret ?_)
    refine bodyPost_ret (results_tmp rfl _ _ _) hd22 ?_
    rw [e12]
    exact ⟨rfl, hC22.1⟩

set_option maxRecDepth 100000 in
set_option maxHeartbeats 4000000 in
theorem walk_much (a l f x pa pl pf px at_ y cut : Int) (A : Option Addr) (n c : Nat) (w : World) (h : 300 < n) (h2 : n ≤ 9223372036854775807) :
    Calls Try.prog 7 #[descV a l f x, descV pa pl pf px, .int .i64 at_, .int .u8 y, .slice A n c, .int .i64 cut] w (Lib.True1 w.heap.size w) := by
  unfold Lib.True1
  have hb0 : Below w.heap.size w w := Below.refl _ _
  have h1 : decide ((300 : Int) < (n : Int)) = true := decide_eq_true (by omega)
  clear h
  go_enter Try.func7, Try.ntmps7
  go_wp2_with fail
  refine (Des.lives_any _).mono ?_
  rintro eE W1 ⟨rfl, hg1⟩
  have hb1 : Below w.heap.size w W1 := (show Below w.heap.size w _ by go_grown).trans (hg1.mono (by first | omega | go_size))
  obtain ⟨hc1, hf1⟩ := bcell hg1
  have hs1 := hg1.size
  try simp only [World.size_alloc, World.size_setCell, World.size_drew] at hs1
  clear hg1 hc1 hf1
  go_wp2_with fail
  go_ret
  exact ⟨rfl, by go_grown⟩
set_option maxRecDepth 100000 in
set_option maxHeartbeats 4000000 in
theorem walk_zero (a l f x pa pl pf px at_ cut : Int) (A : Option Addr) (n c : Nat) (w : World) (h : n ≤ 300) :
    Calls Try.prog 7 #[descV a l f x, descV pa pl pf px, .int .i64 at_, .int .u8 0, .slice A n c, .int .i64 cut] w (Lib.True1 w.heap.size w) := by
  unfold Lib.True1
  have hb0 : Below w.heap.size w w := Below.refl _ _
  have h1 : decide ((300 : Int) < (n : Int)) = false := decide_eq_false (by omega)
  go_enter Try.func7, Try.ntmps7
  go_wp2_with fail
  refine (Des.lives_any _).mono ?_
  rintro eE W1 ⟨rfl, hg1⟩
  have hb1 : Below w.heap.size w W1 := (show Below w.heap.size w _ by go_grown).trans (hg1.mono (by first | omega | go_size))
  obtain ⟨hc1, hf1⟩ := bcell hg1
  have hs1 := hg1.size
  try simp only [World.size_alloc, World.size_setCell, World.size_drew] at hs1
  clear hg1 hc1 hf1
  go_wp2_with fail
  go_ret
  exact ⟨rfl, by go_grown⟩

theorem walk (a l f x pa pl pf px at_ y : Int) (v : Value) (A : Option Addr) (n c : Nat) (d : D4) (cut : Int) (w : World) (hA : DescIn a l f x) (hP : DescIn pa pl pf px) (hat : (Lit.int .i64 at_).wf = true) (hy : (Lit.int .u8 y).wf = true) (hL : IsDescs w v A n c d) (hct : (Lit.int .i64 cut).wf = true) :
    Calls Try.prog 7 #[descV a l f x, descV pa pl pf px, .int .i64 at_, .int .u8 y, v, .int .i64 cut] w (Lib.True1 w.heap.size w) := by
  obtain ⟨rfl, h1, h2, h3, h4⟩ := hL
  have hb := bounds_u8 hy
  by_cases hn : n ≤ 300
  · by_cases hz : y = 0
    · subst hz
      exact walk_zero a l f x pa pl pf px at_ cut A n c w hn
    · exact walk_ok a l f x pa pl pf px at_ y cut A n c d w hA hP hat (by omega) hct hn h1 h2 h3 h4
  · exact walk_much a l f x pa pl pf px at_ y cut A n c w (by omega) (by unfold maxLen at h2; omega)

set_option maxRecDepth 100000 in
theorem lifted (os : Os) (started : os.Started) (H : Type) (enc : TypeId × Value → H) :
    ReturnsInHanded {} Try.checked os 7 .any (Rows.descFieldsSpec.pre6 enc Try.prog Try.f7 Rows.descFieldsRow.domain false) (Rows.descFieldsSpec.post enc Try.prog Try.f7 false true false false) := by
  refine Lib.lifted (C := Try.checked) (tb := 4) H enc Lib.own started (by kernel_rfl) Try.func7
    (ChangeSpec.witness6 (enc := enc) (C := Try.checked) false ⟨#[], #[.agg #[.int .u64 0, .int .u32 0, .int .u16 0, .int .u16 0], .agg #[.int .u64 0, .int .u32 0, .int .u16 0, .int .u16 0], .int .i64 0, .int .u8 0, .slice none 0 0, .int .i64 0], []⟩ 8 (by kernel_rfl) (by kernel_rfl) (by kernel_rfl) (by kernel_rfl))
    Lib.laidOut (Lib.readable_of (by kernel_rfl)) rfl Try.underlying4 rfl ?_ ?_
  · intro ds h
    match ds, h with
    | [_, _, _, _, _, _], _ => exact ⟨rfl, rfl, rfl⟩
  · intro W base args ds p hval hA hfz hlt
    rw [Try.params7] at hval
    have hA' : DataW.TrodAll enc Try.prog W 0 (fun _ => true) true Try.f7.params.toList args.toList ds p := hA
    rw [Try.params7] at hA'
    obtain ⟨v0, vs0, d0, ds0, p0, q0, hargs, rfl, rfl, h0, r0⟩ := trodAll_cons hA'
    obtain ⟨v1, vs1, d1, ds1, p1, q1, rfl, rfl, rfl, h1, r1⟩ := trodAll_cons r0
    obtain ⟨v2, vs2, d2, ds2, p2, q2, rfl, rfl, rfl, h2, r2⟩ := trodAll_cons r1
    obtain ⟨v3, vs3, d3, ds3, p3, q3, rfl, rfl, rfl, h3, r3⟩ := trodAll_cons r2
    obtain ⟨v4, vs4, d4, ds4, p4, q4, rfl, rfl, rfl, h4, r4⟩ := trodAll_cons r3
    obtain ⟨v5, vs5, d5, ds5, p5, q5, rfl, rfl, rfl, h5, r5⟩ := trodAll_cons r4
    obtain ⟨rfl, rfl, rfl⟩ := trodAll_nil r5
    obtain rfl : args = #[v0, v1, v2, v3, v4, v5] := by cases args; simp_all
    obtain ⟨a0_0, a0_1, a0_2, a0_3, rfl, w0⟩ := DesArgs.open_desc (hval 0 62 v0 rfl rfl) h0
    obtain ⟨a1_0, a1_1, a1_2, a1_3, rfl, w1⟩ := DesArgs.open_packed (hval 1 64 v1 rfl rfl) h1
    obtain ⟨a2, rfl, rfl, rfl, w2⟩ := open_int Try.underlying3 (hval 2 3 v2 rfl rfl) h2
    obtain ⟨a3, rfl, rfl, rfl, w3⟩ := open_int Try.underlying5 (hval 3 5 v3 rfl rfl) h3
    obtain ⟨a4_0, a4_1, a4_2, a4_3, w4⟩ := DesArgs.open_descs (hval 4 65 v4 rfl rfl) h4
    obtain ⟨a5, rfl, rfl, rfl, w5⟩ := open_int Try.underlying3 (hval 5 3 v5 rfl rfl) h5
    exact walk a0_0 a0_1 a0_2 a0_3 a1_0 a1_1 a1_2 a1_3 a2 a3 v4 a4_0 a4_1 a4_2 a4_3 a5 W w0 w1 w2 w3 w4 w5

theorem over : Rows.descFieldsRow.holds Try.pinned (OpenSpec.ofChange Rows.descFieldsSpec) :=
  OpenClaim.holds_of_wide 7 Try.f7 rfl rfl rfl rfl rfl rfl rfl ⟨rfl, rfl, rfl, rfl, rfl⟩ rfl rfl rfl rfl rfl (by kernel_rfl) Try.func7 (by kernel_rfl)
    (of_decide_eq_true (by kernel_rfl)) (by unfold Func.isWrapper; first | (rw [if_pos (by decide +kernel)]; kernel_rfl) | (rw [if_neg (by decide +kernel)]; exact ⟨rfl, rfl⟩))
    (fun os started H enc _ => lifted os started H enc)

/-- The statement. -/
theorem proved : Rows.DescFieldsSaid :=
  over

end Go.Proofs.Ytkncaafjkoeijaa.DescFields
