/- The law DescBack: what was encoded as bytes is read back; different ones have different bytes. For every input; no condition. -/
import Derived.Test.YtcenfjfdddponaaDes
import Derived.Test.YtcenfjfdddponaaDescBackR
namespace Go.Proofs.Ytcenfjfdddponaa.DescBack
open Go.ChangeShapes Go.WideShapes Go.ChangeAt Go.RowKit Le Rw DesPut DesRead DesTab DesRT DesWord DesArgs DescBackA
set_option linter.unusedVariables false
set_option linter.unusedSimpArgs false

set_option maxRecDepth 100000 in
set_option maxHeartbeats 4000000 in
theorem walk_much (a l f x a' l' f' x' pa pl pf px qa ql qf qx ui un ei en : Int) (A : Option Addr) (n c : Nat) (w : World) (h : 300 < n) (h2 : n ≤ 9223372036854775807) : Calls Try.prog 10 #[descV a l f x, descV a' l' f' x', descV pa pl pf px, descV qa ql qf qx, .agg #[.int .u32 ui, .int .u32 un], .agg #[.int .u16 ei, .int .u16 en], .slice A n c] w (Lib.True1 w.heap.size w) := by
  unfold Lib.True1
  have hb0 : Below w.heap.size w w := Below.refl _ _
  go_enter Try.func10, Try.ntmps10
  go_wp2_with fail
  refine (Des.lives_any _).mono ?_
  rintro e W1 ⟨rfl, hg1⟩
  have hb1 : Below w.heap.size w W1 := (show Below w.heap.size w _ by go_grown).trans (hg1.mono (by first | omega | go_size))
  obtain ⟨hc1, hf1⟩ := bcell hg1
  have hs1 := hg1.size
  try simp only [World.size_alloc, World.size_setCell, World.size_drew] at hs1
  clear hg1 hc1 hf1
  go_wp2_with fail
  go_ret
  exact ⟨rfl, by go_grown⟩

set_option maxRecDepth 100000 in
set_option maxHeartbeats 8000000 in
theorem walk_few (a l f x a' l' f' x' pa pl pf px qa ql qf qx ui un ei en : Int) (A : Option Addr) (n c : Nat) (d : D4) (w : World) (hA : DescIn a l f x) (hB : DescIn a' l' f' x') (hP : DescIn pa pl pf px) (hQ : DescIn qa ql qf qx)
    (hu : (0 ≤ ui ∧ ui ≤ 4294967295) ∧ 0 ≤ un ∧ un ≤ 4294967295) (he : (0 ≤ ei ∧ ei ≤ 65535) ∧ 0 ≤ en ∧ en ≤ 65535) (hn : n ≤ 300) (hc : n ≤ c) (hd : d.In n) (hr : IsRow w w.heap.size 4 A n d.cell) :
    Calls Try.prog 10 #[descV a l f x, descV a' l' f' x', descV pa pl pf px, descV qa ql qf qx, .agg #[.int .u32 ui, .int .u32 un], .agg #[.int .u16 ei, .int .u16 en], .slice A n c] w (Lib.True1 w.heap.size w) := by
  unfold Lib.True1
  have hb0 : Below w.heap.size w w := Below.refl _ _
  go_enter Try.func10, Try.ntmps10
  go_wp2_with fail
  refine (Des.lives_any _).mono ?_
  rintro e W1 ⟨rfl, hg1⟩
  have hb1 : Below w.heap.size w W1 := (show Below w.heap.size w _ by go_grown).trans (hg1.mono (by first | omega | go_size))
  obtain ⟨hc1, hf1⟩ := bcell hg1
  have hs1 := hg1.size
  try simp only [World.size_alloc, World.size_setCell, World.size_drew] at hs1
  have hl1_0_0 : W1.cell? ⟨w.heap.size, 0, none⟩ = some (.int .u64 a) := (hc1 _ _ (by first | omega | go_size)).trans (by go_cell)
  have hz1_0_0 : W1.frozen? ⟨w.heap.size, 0, none⟩ = false := (hf1 _ _ (by first | omega | go_size)).trans (by first | (with_reducible assumption) | (go_simp; done) | (simp [*]; done))
  have hl1_0_1 : W1.cell? ⟨w.heap.size, 1, none⟩ = some (.int .u32 l) := (hc1 _ _ (by first | omega | go_size)).trans (by go_cell)
  have hz1_0_1 : W1.frozen? ⟨w.heap.size, 1, none⟩ = false := (hf1 _ _ (by first | omega | go_size)).trans (by first | (with_reducible assumption) | (go_simp; done) | (simp [*]; done))
  have hl1_0_2 : W1.cell? ⟨w.heap.size, 2, none⟩ = some (.int .u16 f) := (hc1 _ _ (by first | omega | go_size)).trans (by go_cell)
  have hz1_0_2 : W1.frozen? ⟨w.heap.size, 2, none⟩ = false := (hf1 _ _ (by first | omega | go_size)).trans (by first | (with_reducible assumption) | (go_simp; done) | (simp [*]; done))
  have hl1_0_3 : W1.cell? ⟨w.heap.size, 3, none⟩ = some (.int .u16 x) := (hc1 _ _ (by first | omega | go_size)).trans (by go_cell)
  have hz1_0_3 : W1.frozen? ⟨w.heap.size, 3, none⟩ = false := (hf1 _ _ (by first | omega | go_size)).trans (by first | (with_reducible assumption) | (go_simp; done) | (simp [*]; done))
  have hk1_0 : w.heap.size < W1.heap.size := by omega
  have hl1_1_0 : W1.cell? ⟨w.heap.size + 1, 0, none⟩ = some (.int .u64 a') := (hc1 _ _ (by first | omega | go_size)).trans (by go_cell)
  have hz1_1_0 : W1.frozen? ⟨w.heap.size + 1, 0, none⟩ = false := (hf1 _ _ (by first | omega | go_size)).trans (by first | (with_reducible assumption) | (go_simp; done) | (simp [*]; done))
  have hl1_1_1 : W1.cell? ⟨w.heap.size + 1, 1, none⟩ = some (.int .u32 l') := (hc1 _ _ (by first | omega | go_size)).trans (by go_cell)
  have hz1_1_1 : W1.frozen? ⟨w.heap.size + 1, 1, none⟩ = false := (hf1 _ _ (by first | omega | go_size)).trans (by first | (with_reducible assumption) | (go_simp; done) | (simp [*]; done))
  have hl1_1_2 : W1.cell? ⟨w.heap.size + 1, 2, none⟩ = some (.int .u16 f') := (hc1 _ _ (by first | omega | go_size)).trans (by go_cell)
  have hz1_1_2 : W1.frozen? ⟨w.heap.size + 1, 2, none⟩ = false := (hf1 _ _ (by first | omega | go_size)).trans (by first | (with_reducible assumption) | (go_simp; done) | (simp [*]; done))
  have hl1_1_3 : W1.cell? ⟨w.heap.size + 1, 3, none⟩ = some (.int .u16 x') := (hc1 _ _ (by first | omega | go_size)).trans (by go_cell)
  have hz1_1_3 : W1.frozen? ⟨w.heap.size + 1, 3, none⟩ = false := (hf1 _ _ (by first | omega | go_size)).trans (by first | (with_reducible assumption) | (go_simp; done) | (simp [*]; done))
  have hk1_1 : w.heap.size + 1 < W1.heap.size := by omega
  have hl1_2_0 : W1.cell? ⟨w.heap.size + 2, 0, none⟩ = some (.int .u64 pa) := (hc1 _ _ (by first | omega | go_size)).trans (by go_cell)
  have hz1_2_0 : W1.frozen? ⟨w.heap.size + 2, 0, none⟩ = false := (hf1 _ _ (by first | omega | go_size)).trans (by first | (with_reducible assumption) | (go_simp; done) | (simp [*]; done))
  have hl1_2_1 : W1.cell? ⟨w.heap.size + 2, 1, none⟩ = some (.int .u32 pl) := (hc1 _ _ (by first | omega | go_size)).trans (by go_cell)
  have hz1_2_1 : W1.frozen? ⟨w.heap.size + 2, 1, none⟩ = false := (hf1 _ _ (by first | omega | go_size)).trans (by first | (with_reducible assumption) | (go_simp; done) | (simp [*]; done))
  have hl1_2_2 : W1.cell? ⟨w.heap.size + 2, 2, none⟩ = some (.int .u16 pf) := (hc1 _ _ (by first | omega | go_size)).trans (by go_cell)
  have hz1_2_2 : W1.frozen? ⟨w.heap.size + 2, 2, none⟩ = false := (hf1 _ _ (by first | omega | go_size)).trans (by first | (with_reducible assumption) | (go_simp; done) | (simp [*]; done))
  have hl1_2_3 : W1.cell? ⟨w.heap.size + 2, 3, none⟩ = some (.int .u16 px) := (hc1 _ _ (by first | omega | go_size)).trans (by go_cell)
  have hz1_2_3 : W1.frozen? ⟨w.heap.size + 2, 3, none⟩ = false := (hf1 _ _ (by first | omega | go_size)).trans (by first | (with_reducible assumption) | (go_simp; done) | (simp [*]; done))
  have hk1_2 : w.heap.size + 2 < W1.heap.size := by omega
  have hl1_3_0 : W1.cell? ⟨w.heap.size + 3, 0, none⟩ = some (.int .u64 qa) := (hc1 _ _ (by first | omega | go_size)).trans (by go_cell)
  have hz1_3_0 : W1.frozen? ⟨w.heap.size + 3, 0, none⟩ = false := (hf1 _ _ (by first | omega | go_size)).trans (by first | (with_reducible assumption) | (go_simp; done) | (simp [*]; done))
  have hl1_3_1 : W1.cell? ⟨w.heap.size + 3, 1, none⟩ = some (.int .u32 ql) := (hc1 _ _ (by first | omega | go_size)).trans (by go_cell)
  have hz1_3_1 : W1.frozen? ⟨w.heap.size + 3, 1, none⟩ = false := (hf1 _ _ (by first | omega | go_size)).trans (by first | (with_reducible assumption) | (go_simp; done) | (simp [*]; done))
  have hl1_3_2 : W1.cell? ⟨w.heap.size + 3, 2, none⟩ = some (.int .u16 qf) := (hc1 _ _ (by first | omega | go_size)).trans (by go_cell)
  have hz1_3_2 : W1.frozen? ⟨w.heap.size + 3, 2, none⟩ = false := (hf1 _ _ (by first | omega | go_size)).trans (by first | (with_reducible assumption) | (go_simp; done) | (simp [*]; done))
  have hl1_3_3 : W1.cell? ⟨w.heap.size + 3, 3, none⟩ = some (.int .u16 qx) := (hc1 _ _ (by first | omega | go_size)).trans (by go_cell)
  have hz1_3_3 : W1.frozen? ⟨w.heap.size + 3, 3, none⟩ = false := (hf1 _ _ (by first | omega | go_size)).trans (by first | (with_reducible assumption) | (go_simp; done) | (simp [*]; done))
  have hk1_3 : w.heap.size + 3 < W1.heap.size := by omega
  have hl1_4_0 : W1.cell? ⟨w.heap.size + 4, 0, none⟩ = some (.int .u32 ui) := (hc1 _ _ (by first | omega | go_size)).trans (by go_cell)
  have hz1_4_0 : W1.frozen? ⟨w.heap.size + 4, 0, none⟩ = false := (hf1 _ _ (by first | omega | go_size)).trans (by first | (with_reducible assumption) | (go_simp; done) | (simp [*]; done))
  have hl1_4_1 : W1.cell? ⟨w.heap.size + 4, 1, none⟩ = some (.int .u32 un) := (hc1 _ _ (by first | omega | go_size)).trans (by go_cell)
  have hz1_4_1 : W1.frozen? ⟨w.heap.size + 4, 1, none⟩ = false := (hf1 _ _ (by first | omega | go_size)).trans (by first | (with_reducible assumption) | (go_simp; done) | (simp [*]; done))
  have hk1_4 : w.heap.size + 4 < W1.heap.size := by omega
  have hl1_5_0 : W1.cell? ⟨w.heap.size + 5, 0, none⟩ = some (.int .u16 ei) := (hc1 _ _ (by first | omega | go_size)).trans (by go_cell)
  have hz1_5_0 : W1.frozen? ⟨w.heap.size + 5, 0, none⟩ = false := (hf1 _ _ (by first | omega | go_size)).trans (by first | (with_reducible assumption) | (go_simp; done) | (simp [*]; done))
  have hl1_5_1 : W1.cell? ⟨w.heap.size + 5, 1, none⟩ = some (.int .u16 en) := (hc1 _ _ (by first | omega | go_size)).trans (by go_cell)
  have hz1_5_1 : W1.frozen? ⟨w.heap.size + 5, 1, none⟩ = false := (hf1 _ _ (by first | omega | go_size)).trans (by first | (with_reducible assumption) | (go_simp; done) | (simp [*]; done))
  have hk1_5 : w.heap.size + 5 < W1.heap.size := by omega
  clear hg1 hc1 hf1
  go_wp2_with fail
  refine (bytes_any a l f x hA _).mono ?_
  rintro e W2 ⟨b2, rfl, r2, _, hg2⟩
  have hb2 : Below w.heap.size w W2 := (show Below w.heap.size w _ by go_grown).trans (hg2.mono (by first | omega | go_size))
  obtain ⟨hc2, hf2⟩ := bcell hg2
  have hs2 := hg2.size
  try simp only [World.size_alloc, World.size_setCell, World.size_drew] at hs2
  have hl2_0_0 : W2.cell? ⟨w.heap.size, 0, none⟩ = some (.int .u64 a) := (hc2 _ _ (by first | omega | go_size)).trans (by go_cell)
  have hz2_0_0 : W2.frozen? ⟨w.heap.size, 0, none⟩ = false := (hf2 _ _ (by first | omega | go_size)).trans (by first | (with_reducible assumption) | (go_simp; done) | (simp [*]; done))
  have hl2_0_1 : W2.cell? ⟨w.heap.size, 1, none⟩ = some (.int .u32 l) := (hc2 _ _ (by first | omega | go_size)).trans (by go_cell)
  have hz2_0_1 : W2.frozen? ⟨w.heap.size, 1, none⟩ = false := (hf2 _ _ (by first | omega | go_size)).trans (by first | (with_reducible assumption) | (go_simp; done) | (simp [*]; done))
  have hl2_0_2 : W2.cell? ⟨w.heap.size, 2, none⟩ = some (.int .u16 f) := (hc2 _ _ (by first | omega | go_size)).trans (by go_cell)
  have hz2_0_2 : W2.frozen? ⟨w.heap.size, 2, none⟩ = false := (hf2 _ _ (by first | omega | go_size)).trans (by first | (with_reducible assumption) | (go_simp; done) | (simp [*]; done))
  have hl2_0_3 : W2.cell? ⟨w.heap.size, 3, none⟩ = some (.int .u16 x) := (hc2 _ _ (by first | omega | go_size)).trans (by go_cell)
  have hz2_0_3 : W2.frozen? ⟨w.heap.size, 3, none⟩ = false := (hf2 _ _ (by first | omega | go_size)).trans (by first | (with_reducible assumption) | (go_simp; done) | (simp [*]; done))
  have hk2_0 : w.heap.size < W2.heap.size := by omega
  have hl2_1_0 : W2.cell? ⟨w.heap.size + 1, 0, none⟩ = some (.int .u64 a') := (hc2 _ _ (by first | omega | go_size)).trans (by go_cell)
  have hz2_1_0 : W2.frozen? ⟨w.heap.size + 1, 0, none⟩ = false := (hf2 _ _ (by first | omega | go_size)).trans (by first | (with_reducible assumption) | (go_simp; done) | (simp [*]; done))
  have hl2_1_1 : W2.cell? ⟨w.heap.size + 1, 1, none⟩ = some (.int .u32 l') := (hc2 _ _ (by first | omega | go_size)).trans (by go_cell)
  have hz2_1_1 : W2.frozen? ⟨w.heap.size + 1, 1, none⟩ = false := (hf2 _ _ (by first | omega | go_size)).trans (by first | (with_reducible assumption) | (go_simp; done) | (simp [*]; done))
  have hl2_1_2 : W2.cell? ⟨w.heap.size + 1, 2, none⟩ = some (.int .u16 f') := (hc2 _ _ (by first | omega | go_size)).trans (by go_cell)
  have hz2_1_2 : W2.frozen? ⟨w.heap.size + 1, 2, none⟩ = false := (hf2 _ _ (by first | omega | go_size)).trans (by first | (with_reducible assumption) | (go_simp; done) | (simp [*]; done))
  have hl2_1_3 : W2.cell? ⟨w.heap.size + 1, 3, none⟩ = some (.int .u16 x') := (hc2 _ _ (by first | omega | go_size)).trans (by go_cell)
  have hz2_1_3 : W2.frozen? ⟨w.heap.size + 1, 3, none⟩ = false := (hf2 _ _ (by first | omega | go_size)).trans (by first | (with_reducible assumption) | (go_simp; done) | (simp [*]; done))
  have hk2_1 : w.heap.size + 1 < W2.heap.size := by omega
  have hl2_2_0 : W2.cell? ⟨w.heap.size + 2, 0, none⟩ = some (.int .u64 pa) := (hc2 _ _ (by first | omega | go_size)).trans (by go_cell)
  have hz2_2_0 : W2.frozen? ⟨w.heap.size + 2, 0, none⟩ = false := (hf2 _ _ (by first | omega | go_size)).trans (by first | (with_reducible assumption) | (go_simp; done) | (simp [*]; done))
  have hl2_2_1 : W2.cell? ⟨w.heap.size + 2, 1, none⟩ = some (.int .u32 pl) := (hc2 _ _ (by first | omega | go_size)).trans (by go_cell)
  have hz2_2_1 : W2.frozen? ⟨w.heap.size + 2, 1, none⟩ = false := (hf2 _ _ (by first | omega | go_size)).trans (by first | (with_reducible assumption) | (go_simp; done) | (simp [*]; done))
  have hl2_2_2 : W2.cell? ⟨w.heap.size + 2, 2, none⟩ = some (.int .u16 pf) := (hc2 _ _ (by first | omega | go_size)).trans (by go_cell)
  have hz2_2_2 : W2.frozen? ⟨w.heap.size + 2, 2, none⟩ = false := (hf2 _ _ (by first | omega | go_size)).trans (by first | (with_reducible assumption) | (go_simp; done) | (simp [*]; done))
  have hl2_2_3 : W2.cell? ⟨w.heap.size + 2, 3, none⟩ = some (.int .u16 px) := (hc2 _ _ (by first | omega | go_size)).trans (by go_cell)
  have hz2_2_3 : W2.frozen? ⟨w.heap.size + 2, 3, none⟩ = false := (hf2 _ _ (by first | omega | go_size)).trans (by first | (with_reducible assumption) | (go_simp; done) | (simp [*]; done))
  have hk2_2 : w.heap.size + 2 < W2.heap.size := by omega
  have hl2_3_0 : W2.cell? ⟨w.heap.size + 3, 0, none⟩ = some (.int .u64 qa) := (hc2 _ _ (by first | omega | go_size)).trans (by go_cell)
  have hz2_3_0 : W2.frozen? ⟨w.heap.size + 3, 0, none⟩ = false := (hf2 _ _ (by first | omega | go_size)).trans (by first | (with_reducible assumption) | (go_simp; done) | (simp [*]; done))
  have hl2_3_1 : W2.cell? ⟨w.heap.size + 3, 1, none⟩ = some (.int .u32 ql) := (hc2 _ _ (by first | omega | go_size)).trans (by go_cell)
  have hz2_3_1 : W2.frozen? ⟨w.heap.size + 3, 1, none⟩ = false := (hf2 _ _ (by first | omega | go_size)).trans (by first | (with_reducible assumption) | (go_simp; done) | (simp [*]; done))
  have hl2_3_2 : W2.cell? ⟨w.heap.size + 3, 2, none⟩ = some (.int .u16 qf) := (hc2 _ _ (by first | omega | go_size)).trans (by go_cell)
  have hz2_3_2 : W2.frozen? ⟨w.heap.size + 3, 2, none⟩ = false := (hf2 _ _ (by first | omega | go_size)).trans (by first | (with_reducible assumption) | (go_simp; done) | (simp [*]; done))
  have hl2_3_3 : W2.cell? ⟨w.heap.size + 3, 3, none⟩ = some (.int .u16 qx) := (hc2 _ _ (by first | omega | go_size)).trans (by go_cell)
  have hz2_3_3 : W2.frozen? ⟨w.heap.size + 3, 3, none⟩ = false := (hf2 _ _ (by first | omega | go_size)).trans (by first | (with_reducible assumption) | (go_simp; done) | (simp [*]; done))
  have hk2_3 : w.heap.size + 3 < W2.heap.size := by omega
  have hl2_4_0 : W2.cell? ⟨w.heap.size + 4, 0, none⟩ = some (.int .u32 ui) := (hc2 _ _ (by first | omega | go_size)).trans (by go_cell)
  have hz2_4_0 : W2.frozen? ⟨w.heap.size + 4, 0, none⟩ = false := (hf2 _ _ (by first | omega | go_size)).trans (by first | (with_reducible assumption) | (go_simp; done) | (simp [*]; done))
  have hl2_4_1 : W2.cell? ⟨w.heap.size + 4, 1, none⟩ = some (.int .u32 un) := (hc2 _ _ (by first | omega | go_size)).trans (by go_cell)
  have hz2_4_1 : W2.frozen? ⟨w.heap.size + 4, 1, none⟩ = false := (hf2 _ _ (by first | omega | go_size)).trans (by first | (with_reducible assumption) | (go_simp; done) | (simp [*]; done))
  have hk2_4 : w.heap.size + 4 < W2.heap.size := by omega
  have hl2_5_0 : W2.cell? ⟨w.heap.size + 5, 0, none⟩ = some (.int .u16 ei) := (hc2 _ _ (by first | omega | go_size)).trans (by go_cell)
  have hz2_5_0 : W2.frozen? ⟨w.heap.size + 5, 0, none⟩ = false := (hf2 _ _ (by first | omega | go_size)).trans (by first | (with_reducible assumption) | (go_simp; done) | (simp [*]; done))
  have hl2_5_1 : W2.cell? ⟨w.heap.size + 5, 1, none⟩ = some (.int .u16 en) := (hc2 _ _ (by first | omega | go_size)).trans (by go_cell)
  have hz2_5_1 : W2.frozen? ⟨w.heap.size + 5, 1, none⟩ = false := (hf2 _ _ (by first | omega | go_size)).trans (by first | (with_reducible assumption) | (go_simp; done) | (simp [*]; done))
  have hk2_5 : w.heap.size + 5 < W2.heap.size := by omega
  clear hg2 hc2 hf2
  go_wp2_with fail
  refine (back_read b2 a l f x _ hA r2).mono ?_
  rintro e W3 ⟨rfl, hg3⟩
  have hb3 : Below w.heap.size w W3 := (show Below w.heap.size w _ by go_grown).trans (hg3.mono (by first | omega | go_size))
  obtain ⟨hc3, hf3⟩ := bcell hg3
  have hs3 := hg3.size
  try simp only [World.size_alloc, World.size_setCell, World.size_drew] at hs3
  have hl3_0_0 : W3.cell? ⟨w.heap.size, 0, none⟩ = some (.int .u64 a) := (hc3 _ _ (by first | omega | go_size)).trans (by go_cell)
  have hz3_0_0 : W3.frozen? ⟨w.heap.size, 0, none⟩ = false := (hf3 _ _ (by first | omega | go_size)).trans (by first | (with_reducible assumption) | (go_simp; done) | (simp [*]; done))
  have hl3_0_1 : W3.cell? ⟨w.heap.size, 1, none⟩ = some (.int .u32 l) := (hc3 _ _ (by first | omega | go_size)).trans (by go_cell)
  have hz3_0_1 : W3.frozen? ⟨w.heap.size, 1, none⟩ = false := (hf3 _ _ (by first | omega | go_size)).trans (by first | (with_reducible assumption) | (go_simp; done) | (simp [*]; done))
  have hl3_0_2 : W3.cell? ⟨w.heap.size, 2, none⟩ = some (.int .u16 f) := (hc3 _ _ (by first | omega | go_size)).trans (by go_cell)
  have hz3_0_2 : W3.frozen? ⟨w.heap.size, 2, none⟩ = false := (hf3 _ _ (by first | omega | go_size)).trans (by first | (with_reducible assumption) | (go_simp; done) | (simp [*]; done))
  have hl3_0_3 : W3.cell? ⟨w.heap.size, 3, none⟩ = some (.int .u16 x) := (hc3 _ _ (by first | omega | go_size)).trans (by go_cell)
  have hz3_0_3 : W3.frozen? ⟨w.heap.size, 3, none⟩ = false := (hf3 _ _ (by first | omega | go_size)).trans (by first | (with_reducible assumption) | (go_simp; done) | (simp [*]; done))
  have hk3_0 : w.heap.size < W3.heap.size := by omega
  have hl3_1_0 : W3.cell? ⟨w.heap.size + 1, 0, none⟩ = some (.int .u64 a') := (hc3 _ _ (by first | omega | go_size)).trans (by go_cell)
  have hz3_1_0 : W3.frozen? ⟨w.heap.size + 1, 0, none⟩ = false := (hf3 _ _ (by first | omega | go_size)).trans (by first | (with_reducible assumption) | (go_simp; done) | (simp [*]; done))
  have hl3_1_1 : W3.cell? ⟨w.heap.size + 1, 1, none⟩ = some (.int .u32 l') := (hc3 _ _ (by first | omega | go_size)).trans (by go_cell)
  have hz3_1_1 : W3.frozen? ⟨w.heap.size + 1, 1, none⟩ = false := (hf3 _ _ (by first | omega | go_size)).trans (by first | (with_reducible assumption) | (go_simp; done) | (simp [*]; done))
  have hl3_1_2 : W3.cell? ⟨w.heap.size + 1, 2, none⟩ = some (.int .u16 f') := (hc3 _ _ (by first | omega | go_size)).trans (by go_cell)
  have hz3_1_2 : W3.frozen? ⟨w.heap.size + 1, 2, none⟩ = false := (hf3 _ _ (by first | omega | go_size)).trans (by first | (with_reducible assumption) | (go_simp; done) | (simp [*]; done))
  have hl3_1_3 : W3.cell? ⟨w.heap.size + 1, 3, none⟩ = some (.int .u16 x') := (hc3 _ _ (by first | omega | go_size)).trans (by go_cell)
  have hz3_1_3 : W3.frozen? ⟨w.heap.size + 1, 3, none⟩ = false := (hf3 _ _ (by first | omega | go_size)).trans (by first | (with_reducible assumption) | (go_simp; done) | (simp [*]; done))
  have hk3_1 : w.heap.size + 1 < W3.heap.size := by omega
  have hl3_2_0 : W3.cell? ⟨w.heap.size + 2, 0, none⟩ = some (.int .u64 pa) := (hc3 _ _ (by first | omega | go_size)).trans (by go_cell)
  have hz3_2_0 : W3.frozen? ⟨w.heap.size + 2, 0, none⟩ = false := (hf3 _ _ (by first | omega | go_size)).trans (by first | (with_reducible assumption) | (go_simp; done) | (simp [*]; done))
  have hl3_2_1 : W3.cell? ⟨w.heap.size + 2, 1, none⟩ = some (.int .u32 pl) := (hc3 _ _ (by first | omega | go_size)).trans (by go_cell)
  have hz3_2_1 : W3.frozen? ⟨w.heap.size + 2, 1, none⟩ = false := (hf3 _ _ (by first | omega | go_size)).trans (by first | (with_reducible assumption) | (go_simp; done) | (simp [*]; done))
  have hl3_2_2 : W3.cell? ⟨w.heap.size + 2, 2, none⟩ = some (.int .u16 pf) := (hc3 _ _ (by first | omega | go_size)).trans (by go_cell)
  have hz3_2_2 : W3.frozen? ⟨w.heap.size + 2, 2, none⟩ = false := (hf3 _ _ (by first | omega | go_size)).trans (by first | (with_reducible assumption) | (go_simp; done) | (simp [*]; done))
  have hl3_2_3 : W3.cell? ⟨w.heap.size + 2, 3, none⟩ = some (.int .u16 px) := (hc3 _ _ (by first | omega | go_size)).trans (by go_cell)
  have hz3_2_3 : W3.frozen? ⟨w.heap.size + 2, 3, none⟩ = false := (hf3 _ _ (by first | omega | go_size)).trans (by first | (with_reducible assumption) | (go_simp; done) | (simp [*]; done))
  have hk3_2 : w.heap.size + 2 < W3.heap.size := by omega
  have hl3_3_0 : W3.cell? ⟨w.heap.size + 3, 0, none⟩ = some (.int .u64 qa) := (hc3 _ _ (by first | omega | go_size)).trans (by go_cell)
  have hz3_3_0 : W3.frozen? ⟨w.heap.size + 3, 0, none⟩ = false := (hf3 _ _ (by first | omega | go_size)).trans (by first | (with_reducible assumption) | (go_simp; done) | (simp [*]; done))
  have hl3_3_1 : W3.cell? ⟨w.heap.size + 3, 1, none⟩ = some (.int .u32 ql) := (hc3 _ _ (by first | omega | go_size)).trans (by go_cell)
  have hz3_3_1 : W3.frozen? ⟨w.heap.size + 3, 1, none⟩ = false := (hf3 _ _ (by first | omega | go_size)).trans (by first | (with_reducible assumption) | (go_simp; done) | (simp [*]; done))
  have hl3_3_2 : W3.cell? ⟨w.heap.size + 3, 2, none⟩ = some (.int .u16 qf) := (hc3 _ _ (by first | omega | go_size)).trans (by go_cell)
  have hz3_3_2 : W3.frozen? ⟨w.heap.size + 3, 2, none⟩ = false := (hf3 _ _ (by first | omega | go_size)).trans (by first | (with_reducible assumption) | (go_simp; done) | (simp [*]; done))
  have hl3_3_3 : W3.cell? ⟨w.heap.size + 3, 3, none⟩ = some (.int .u16 qx) := (hc3 _ _ (by first | omega | go_size)).trans (by go_cell)
  have hz3_3_3 : W3.frozen? ⟨w.heap.size + 3, 3, none⟩ = false := (hf3 _ _ (by first | omega | go_size)).trans (by first | (with_reducible assumption) | (go_simp; done) | (simp [*]; done))
  have hk3_3 : w.heap.size + 3 < W3.heap.size := by omega
  have hl3_4_0 : W3.cell? ⟨w.heap.size + 4, 0, none⟩ = some (.int .u32 ui) := (hc3 _ _ (by first | omega | go_size)).trans (by go_cell)
  have hz3_4_0 : W3.frozen? ⟨w.heap.size + 4, 0, none⟩ = false := (hf3 _ _ (by first | omega | go_size)).trans (by first | (with_reducible assumption) | (go_simp; done) | (simp [*]; done))
  have hl3_4_1 : W3.cell? ⟨w.heap.size + 4, 1, none⟩ = some (.int .u32 un) := (hc3 _ _ (by first | omega | go_size)).trans (by go_cell)
  have hz3_4_1 : W3.frozen? ⟨w.heap.size + 4, 1, none⟩ = false := (hf3 _ _ (by first | omega | go_size)).trans (by first | (with_reducible assumption) | (go_simp; done) | (simp [*]; done))
  have hk3_4 : w.heap.size + 4 < W3.heap.size := by omega
  have hl3_5_0 : W3.cell? ⟨w.heap.size + 5, 0, none⟩ = some (.int .u16 ei) := (hc3 _ _ (by first | omega | go_size)).trans (by go_cell)
  have hz3_5_0 : W3.frozen? ⟨w.heap.size + 5, 0, none⟩ = false := (hf3 _ _ (by first | omega | go_size)).trans (by first | (with_reducible assumption) | (go_simp; done) | (simp [*]; done))
  have hl3_5_1 : W3.cell? ⟨w.heap.size + 5, 1, none⟩ = some (.int .u16 en) := (hc3 _ _ (by first | omega | go_size)).trans (by go_cell)
  have hz3_5_1 : W3.frozen? ⟨w.heap.size + 5, 1, none⟩ = false := (hf3 _ _ (by first | omega | go_size)).trans (by first | (with_reducible assumption) | (go_simp; done) | (simp [*]; done))
  have hk3_5 : w.heap.size + 5 < W3.heap.size := by omega
  clear hg3 hc3 hf3
  go_wp2_with fail
  clear r2
  refine (pbytes_any pa pl pf px hP _).mono ?_
  rintro e W4 ⟨b4, rfl, r4, _, hg4⟩
  have hb4 : Below w.heap.size w W4 := (show Below w.heap.size w _ by go_grown).trans (hg4.mono (by first | omega | go_size))
  obtain ⟨hc4, hf4⟩ := bcell hg4
  have hs4 := hg4.size
  try simp only [World.size_alloc, World.size_setCell, World.size_drew] at hs4
  have hl4_0_0 : W4.cell? ⟨w.heap.size, 0, none⟩ = some (.int .u64 a) := (hc4 _ _ (by first | omega | go_size)).trans (by go_cell)
  have hz4_0_0 : W4.frozen? ⟨w.heap.size, 0, none⟩ = false := (hf4 _ _ (by first | omega | go_size)).trans (by first | (with_reducible assumption) | (go_simp; done) | (simp [*]; done))
  have hl4_0_1 : W4.cell? ⟨w.heap.size, 1, none⟩ = some (.int .u32 l) := (hc4 _ _ (by first | omega | go_size)).trans (by go_cell)
  have hz4_0_1 : W4.frozen? ⟨w.heap.size, 1, none⟩ = false := (hf4 _ _ (by first | omega | go_size)).trans (by first | (with_reducible assumption) | (go_simp; done) | (simp [*]; done))
  have hl4_0_2 : W4.cell? ⟨w.heap.size, 2, none⟩ = some (.int .u16 f) := (hc4 _ _ (by first | omega | go_size)).trans (by go_cell)
  have hz4_0_2 : W4.frozen? ⟨w.heap.size, 2, none⟩ = false := (hf4 _ _ (by first | omega | go_size)).trans (by first | (with_reducible assumption) | (go_simp; done) | (simp [*]; done))
  have hl4_0_3 : W4.cell? ⟨w.heap.size, 3, none⟩ = some (.int .u16 x) := (hc4 _ _ (by first | omega | go_size)).trans (by go_cell)
  have hz4_0_3 : W4.frozen? ⟨w.heap.size, 3, none⟩ = false := (hf4 _ _ (by first | omega | go_size)).trans (by first | (with_reducible assumption) | (go_simp; done) | (simp [*]; done))
  have hk4_0 : w.heap.size < W4.heap.size := by omega
  have hl4_1_0 : W4.cell? ⟨w.heap.size + 1, 0, none⟩ = some (.int .u64 a') := (hc4 _ _ (by first | omega | go_size)).trans (by go_cell)
  have hz4_1_0 : W4.frozen? ⟨w.heap.size + 1, 0, none⟩ = false := (hf4 _ _ (by first | omega | go_size)).trans (by first | (with_reducible assumption) | (go_simp; done) | (simp [*]; done))
  have hl4_1_1 : W4.cell? ⟨w.heap.size + 1, 1, none⟩ = some (.int .u32 l') := (hc4 _ _ (by first | omega | go_size)).trans (by go_cell)
  have hz4_1_1 : W4.frozen? ⟨w.heap.size + 1, 1, none⟩ = false := (hf4 _ _ (by first | omega | go_size)).trans (by first | (with_reducible assumption) | (go_simp; done) | (simp [*]; done))
  have hl4_1_2 : W4.cell? ⟨w.heap.size + 1, 2, none⟩ = some (.int .u16 f') := (hc4 _ _ (by first | omega | go_size)).trans (by go_cell)
  have hz4_1_2 : W4.frozen? ⟨w.heap.size + 1, 2, none⟩ = false := (hf4 _ _ (by first | omega | go_size)).trans (by first | (with_reducible assumption) | (go_simp; done) | (simp [*]; done))
  have hl4_1_3 : W4.cell? ⟨w.heap.size + 1, 3, none⟩ = some (.int .u16 x') := (hc4 _ _ (by first | omega | go_size)).trans (by go_cell)
  have hz4_1_3 : W4.frozen? ⟨w.heap.size + 1, 3, none⟩ = false := (hf4 _ _ (by first | omega | go_size)).trans (by first | (with_reducible assumption) | (go_simp; done) | (simp [*]; done))
  have hk4_1 : w.heap.size + 1 < W4.heap.size := by omega
  have hl4_2_0 : W4.cell? ⟨w.heap.size + 2, 0, none⟩ = some (.int .u64 pa) := (hc4 _ _ (by first | omega | go_size)).trans (by go_cell)
  have hz4_2_0 : W4.frozen? ⟨w.heap.size + 2, 0, none⟩ = false := (hf4 _ _ (by first | omega | go_size)).trans (by first | (with_reducible assumption) | (go_simp; done) | (simp [*]; done))
  have hl4_2_1 : W4.cell? ⟨w.heap.size + 2, 1, none⟩ = some (.int .u32 pl) := (hc4 _ _ (by first | omega | go_size)).trans (by go_cell)
  have hz4_2_1 : W4.frozen? ⟨w.heap.size + 2, 1, none⟩ = false := (hf4 _ _ (by first | omega | go_size)).trans (by first | (with_reducible assumption) | (go_simp; done) | (simp [*]; done))
  have hl4_2_2 : W4.cell? ⟨w.heap.size + 2, 2, none⟩ = some (.int .u16 pf) := (hc4 _ _ (by first | omega | go_size)).trans (by go_cell)
  have hz4_2_2 : W4.frozen? ⟨w.heap.size + 2, 2, none⟩ = false := (hf4 _ _ (by first | omega | go_size)).trans (by first | (with_reducible assumption) | (go_simp; done) | (simp [*]; done))
  have hl4_2_3 : W4.cell? ⟨w.heap.size + 2, 3, none⟩ = some (.int .u16 px) := (hc4 _ _ (by first | omega | go_size)).trans (by go_cell)
  have hz4_2_3 : W4.frozen? ⟨w.heap.size + 2, 3, none⟩ = false := (hf4 _ _ (by first | omega | go_size)).trans (by first | (with_reducible assumption) | (go_simp; done) | (simp [*]; done))
  have hk4_2 : w.heap.size + 2 < W4.heap.size := by omega
  have hl4_3_0 : W4.cell? ⟨w.heap.size + 3, 0, none⟩ = some (.int .u64 qa) := (hc4 _ _ (by first | omega | go_size)).trans (by go_cell)
  have hz4_3_0 : W4.frozen? ⟨w.heap.size + 3, 0, none⟩ = false := (hf4 _ _ (by first | omega | go_size)).trans (by first | (with_reducible assumption) | (go_simp; done) | (simp [*]; done))
  have hl4_3_1 : W4.cell? ⟨w.heap.size + 3, 1, none⟩ = some (.int .u32 ql) := (hc4 _ _ (by first | omega | go_size)).trans (by go_cell)
  have hz4_3_1 : W4.frozen? ⟨w.heap.size + 3, 1, none⟩ = false := (hf4 _ _ (by first | omega | go_size)).trans (by first | (with_reducible assumption) | (go_simp; done) | (simp [*]; done))
  have hl4_3_2 : W4.cell? ⟨w.heap.size + 3, 2, none⟩ = some (.int .u16 qf) := (hc4 _ _ (by first | omega | go_size)).trans (by go_cell)
  have hz4_3_2 : W4.frozen? ⟨w.heap.size + 3, 2, none⟩ = false := (hf4 _ _ (by first | omega | go_size)).trans (by first | (with_reducible assumption) | (go_simp; done) | (simp [*]; done))
  have hl4_3_3 : W4.cell? ⟨w.heap.size + 3, 3, none⟩ = some (.int .u16 qx) := (hc4 _ _ (by first | omega | go_size)).trans (by go_cell)
  have hz4_3_3 : W4.frozen? ⟨w.heap.size + 3, 3, none⟩ = false := (hf4 _ _ (by first | omega | go_size)).trans (by first | (with_reducible assumption) | (go_simp; done) | (simp [*]; done))
  have hk4_3 : w.heap.size + 3 < W4.heap.size := by omega
  have hl4_4_0 : W4.cell? ⟨w.heap.size + 4, 0, none⟩ = some (.int .u32 ui) := (hc4 _ _ (by first | omega | go_size)).trans (by go_cell)
  have hz4_4_0 : W4.frozen? ⟨w.heap.size + 4, 0, none⟩ = false := (hf4 _ _ (by first | omega | go_size)).trans (by first | (with_reducible assumption) | (go_simp; done) | (simp [*]; done))
  have hl4_4_1 : W4.cell? ⟨w.heap.size + 4, 1, none⟩ = some (.int .u32 un) := (hc4 _ _ (by first | omega | go_size)).trans (by go_cell)
  have hz4_4_1 : W4.frozen? ⟨w.heap.size + 4, 1, none⟩ = false := (hf4 _ _ (by first | omega | go_size)).trans (by first | (with_reducible assumption) | (go_simp; done) | (simp [*]; done))
  have hk4_4 : w.heap.size + 4 < W4.heap.size := by omega
  have hl4_5_0 : W4.cell? ⟨w.heap.size + 5, 0, none⟩ = some (.int .u16 ei) := (hc4 _ _ (by first | omega | go_size)).trans (by go_cell)
  have hz4_5_0 : W4.frozen? ⟨w.heap.size + 5, 0, none⟩ = false := (hf4 _ _ (by first | omega | go_size)).trans (by first | (with_reducible assumption) | (go_simp; done) | (simp [*]; done))
  have hl4_5_1 : W4.cell? ⟨w.heap.size + 5, 1, none⟩ = some (.int .u16 en) := (hc4 _ _ (by first | omega | go_size)).trans (by go_cell)
  have hz4_5_1 : W4.frozen? ⟨w.heap.size + 5, 1, none⟩ = false := (hf4 _ _ (by first | omega | go_size)).trans (by first | (with_reducible assumption) | (go_simp; done) | (simp [*]; done))
  have hk4_5 : w.heap.size + 5 < W4.heap.size := by omega
  have hl4_6_0 : W4.cell? ⟨W3.heap.size, 0, none⟩ = some (.int .u64 a) := (hc4 _ _ (by first | omega | go_size)).trans (by go_cell)
  have hz4_6_0 : W4.frozen? ⟨W3.heap.size, 0, none⟩ = false := (hf4 _ _ (by first | omega | go_size)).trans (by first | (with_reducible assumption) | (go_simp; done) | (simp [*]; done))
  have hl4_6_1 : W4.cell? ⟨W3.heap.size, 1, none⟩ = some (.int .u32 l) := (hc4 _ _ (by first | omega | go_size)).trans (by go_cell)
  have hz4_6_1 : W4.frozen? ⟨W3.heap.size, 1, none⟩ = false := (hf4 _ _ (by first | omega | go_size)).trans (by first | (with_reducible assumption) | (go_simp; done) | (simp [*]; done))
  have hl4_6_2 : W4.cell? ⟨W3.heap.size, 2, none⟩ = some (.int .u16 f) := (hc4 _ _ (by first | omega | go_size)).trans (by go_cell)
  have hz4_6_2 : W4.frozen? ⟨W3.heap.size, 2, none⟩ = false := (hf4 _ _ (by first | omega | go_size)).trans (by first | (with_reducible assumption) | (go_simp; done) | (simp [*]; done))
  have hl4_6_3 : W4.cell? ⟨W3.heap.size, 3, none⟩ = some (.int .u16 x) := (hc4 _ _ (by first | omega | go_size)).trans (by go_cell)
  have hz4_6_3 : W4.frozen? ⟨W3.heap.size, 3, none⟩ = false := (hf4 _ _ (by first | omega | go_size)).trans (by first | (with_reducible assumption) | (go_simp; done) | (simp [*]; done))
  have hk4_6 : W3.heap.size < W4.heap.size := by omega
  clear hg4 hc4 hf4
  go_wp2_with fail
  refine (pback_read b4 pa pl pf px _ hP r4).mono ?_
  rintro e W5 ⟨rfl, hg5⟩
  have hb5 : Below w.heap.size w W5 := (show Below w.heap.size w _ by go_grown).trans (hg5.mono (by first | omega | go_size))
  obtain ⟨hc5, hf5⟩ := bcell hg5
  have hs5 := hg5.size
  try simp only [World.size_alloc, World.size_setCell, World.size_drew] at hs5
  have hl5_0_0 : W5.cell? ⟨w.heap.size, 0, none⟩ = some (.int .u64 a) := (hc5 _ _ (by first | omega | go_size)).trans (by go_cell)
  have hz5_0_0 : W5.frozen? ⟨w.heap.size, 0, none⟩ = false := (hf5 _ _ (by first | omega | go_size)).trans (by first | (with_reducible assumption) | (go_simp; done) | (simp [*]; done))
  have hl5_0_1 : W5.cell? ⟨w.heap.size, 1, none⟩ = some (.int .u32 l) := (hc5 _ _ (by first | omega | go_size)).trans (by go_cell)
  have hz5_0_1 : W5.frozen? ⟨w.heap.size, 1, none⟩ = false := (hf5 _ _ (by first | omega | go_size)).trans (by first | (with_reducible assumption) | (go_simp; done) | (simp [*]; done))
  have hl5_0_2 : W5.cell? ⟨w.heap.size, 2, none⟩ = some (.int .u16 f) := (hc5 _ _ (by first | omega | go_size)).trans (by go_cell)
  have hz5_0_2 : W5.frozen? ⟨w.heap.size, 2, none⟩ = false := (hf5 _ _ (by first | omega | go_size)).trans (by first | (with_reducible assumption) | (go_simp; done) | (simp [*]; done))
  have hl5_0_3 : W5.cell? ⟨w.heap.size, 3, none⟩ = some (.int .u16 x) := (hc5 _ _ (by first | omega | go_size)).trans (by go_cell)
  have hz5_0_3 : W5.frozen? ⟨w.heap.size, 3, none⟩ = false := (hf5 _ _ (by first | omega | go_size)).trans (by first | (with_reducible assumption) | (go_simp; done) | (simp [*]; done))
  have hk5_0 : w.heap.size < W5.heap.size := by omega
  have hl5_1_0 : W5.cell? ⟨w.heap.size + 1, 0, none⟩ = some (.int .u64 a') := (hc5 _ _ (by first | omega | go_size)).trans (by go_cell)
  have hz5_1_0 : W5.frozen? ⟨w.heap.size + 1, 0, none⟩ = false := (hf5 _ _ (by first | omega | go_size)).trans (by first | (with_reducible assumption) | (go_simp; done) | (simp [*]; done))
  have hl5_1_1 : W5.cell? ⟨w.heap.size + 1, 1, none⟩ = some (.int .u32 l') := (hc5 _ _ (by first | omega | go_size)).trans (by go_cell)
  have hz5_1_1 : W5.frozen? ⟨w.heap.size + 1, 1, none⟩ = false := (hf5 _ _ (by first | omega | go_size)).trans (by first | (with_reducible assumption) | (go_simp; done) | (simp [*]; done))
  have hl5_1_2 : W5.cell? ⟨w.heap.size + 1, 2, none⟩ = some (.int .u16 f') := (hc5 _ _ (by first | omega | go_size)).trans (by go_cell)
  have hz5_1_2 : W5.frozen? ⟨w.heap.size + 1, 2, none⟩ = false := (hf5 _ _ (by first | omega | go_size)).trans (by first | (with_reducible assumption) | (go_simp; done) | (simp [*]; done))
  have hl5_1_3 : W5.cell? ⟨w.heap.size + 1, 3, none⟩ = some (.int .u16 x') := (hc5 _ _ (by first | omega | go_size)).trans (by go_cell)
  have hz5_1_3 : W5.frozen? ⟨w.heap.size + 1, 3, none⟩ = false := (hf5 _ _ (by first | omega | go_size)).trans (by first | (with_reducible assumption) | (go_simp; done) | (simp [*]; done))
  have hk5_1 : w.heap.size + 1 < W5.heap.size := by omega
  have hl5_2_0 : W5.cell? ⟨w.heap.size + 2, 0, none⟩ = some (.int .u64 pa) := (hc5 _ _ (by first | omega | go_size)).trans (by go_cell)
  have hz5_2_0 : W5.frozen? ⟨w.heap.size + 2, 0, none⟩ = false := (hf5 _ _ (by first | omega | go_size)).trans (by first | (with_reducible assumption) | (go_simp; done) | (simp [*]; done))
  have hl5_2_1 : W5.cell? ⟨w.heap.size + 2, 1, none⟩ = some (.int .u32 pl) := (hc5 _ _ (by first | omega | go_size)).trans (by go_cell)
  have hz5_2_1 : W5.frozen? ⟨w.heap.size + 2, 1, none⟩ = false := (hf5 _ _ (by first | omega | go_size)).trans (by first | (with_reducible assumption) | (go_simp; done) | (simp [*]; done))
  have hl5_2_2 : W5.cell? ⟨w.heap.size + 2, 2, none⟩ = some (.int .u16 pf) := (hc5 _ _ (by first | omega | go_size)).trans (by go_cell)
  have hz5_2_2 : W5.frozen? ⟨w.heap.size + 2, 2, none⟩ = false := (hf5 _ _ (by first | omega | go_size)).trans (by first | (with_reducible assumption) | (go_simp; done) | (simp [*]; done))
  have hl5_2_3 : W5.cell? ⟨w.heap.size + 2, 3, none⟩ = some (.int .u16 px) := (hc5 _ _ (by first | omega | go_size)).trans (by go_cell)
  have hz5_2_3 : W5.frozen? ⟨w.heap.size + 2, 3, none⟩ = false := (hf5 _ _ (by first | omega | go_size)).trans (by first | (with_reducible assumption) | (go_simp; done) | (simp [*]; done))
  have hk5_2 : w.heap.size + 2 < W5.heap.size := by omega
  have hl5_3_0 : W5.cell? ⟨w.heap.size + 3, 0, none⟩ = some (.int .u64 qa) := (hc5 _ _ (by first | omega | go_size)).trans (by go_cell)
  have hz5_3_0 : W5.frozen? ⟨w.heap.size + 3, 0, none⟩ = false := (hf5 _ _ (by first | omega | go_size)).trans (by first | (with_reducible assumption) | (go_simp; done) | (simp [*]; done))
  have hl5_3_1 : W5.cell? ⟨w.heap.size + 3, 1, none⟩ = some (.int .u32 ql) := (hc5 _ _ (by first | omega | go_size)).trans (by go_cell)
  have hz5_3_1 : W5.frozen? ⟨w.heap.size + 3, 1, none⟩ = false := (hf5 _ _ (by first | omega | go_size)).trans (by first | (with_reducible assumption) | (go_simp; done) | (simp [*]; done))
  have hl5_3_2 : W5.cell? ⟨w.heap.size + 3, 2, none⟩ = some (.int .u16 qf) := (hc5 _ _ (by first | omega | go_size)).trans (by go_cell)
  have hz5_3_2 : W5.frozen? ⟨w.heap.size + 3, 2, none⟩ = false := (hf5 _ _ (by first | omega | go_size)).trans (by first | (with_reducible assumption) | (go_simp; done) | (simp [*]; done))
  have hl5_3_3 : W5.cell? ⟨w.heap.size + 3, 3, none⟩ = some (.int .u16 qx) := (hc5 _ _ (by first | omega | go_size)).trans (by go_cell)
  have hz5_3_3 : W5.frozen? ⟨w.heap.size + 3, 3, none⟩ = false := (hf5 _ _ (by first | omega | go_size)).trans (by first | (with_reducible assumption) | (go_simp; done) | (simp [*]; done))
  have hk5_3 : w.heap.size + 3 < W5.heap.size := by omega
  have hl5_4_0 : W5.cell? ⟨w.heap.size + 4, 0, none⟩ = some (.int .u32 ui) := (hc5 _ _ (by first | omega | go_size)).trans (by go_cell)
  have hz5_4_0 : W5.frozen? ⟨w.heap.size + 4, 0, none⟩ = false := (hf5 _ _ (by first | omega | go_size)).trans (by first | (with_reducible assumption) | (go_simp; done) | (simp [*]; done))
  have hl5_4_1 : W5.cell? ⟨w.heap.size + 4, 1, none⟩ = some (.int .u32 un) := (hc5 _ _ (by first | omega | go_size)).trans (by go_cell)
  have hz5_4_1 : W5.frozen? ⟨w.heap.size + 4, 1, none⟩ = false := (hf5 _ _ (by first | omega | go_size)).trans (by first | (with_reducible assumption) | (go_simp; done) | (simp [*]; done))
  have hk5_4 : w.heap.size + 4 < W5.heap.size := by omega
  have hl5_5_0 : W5.cell? ⟨w.heap.size + 5, 0, none⟩ = some (.int .u16 ei) := (hc5 _ _ (by first | omega | go_size)).trans (by go_cell)
  have hz5_5_0 : W5.frozen? ⟨w.heap.size + 5, 0, none⟩ = false := (hf5 _ _ (by first | omega | go_size)).trans (by first | (with_reducible assumption) | (go_simp; done) | (simp [*]; done))
  have hl5_5_1 : W5.cell? ⟨w.heap.size + 5, 1, none⟩ = some (.int .u16 en) := (hc5 _ _ (by first | omega | go_size)).trans (by go_cell)
  have hz5_5_1 : W5.frozen? ⟨w.heap.size + 5, 1, none⟩ = false := (hf5 _ _ (by first | omega | go_size)).trans (by first | (with_reducible assumption) | (go_simp; done) | (simp [*]; done))
  have hk5_5 : w.heap.size + 5 < W5.heap.size := by omega
  have hl5_6_0 : W5.cell? ⟨W3.heap.size, 0, none⟩ = some (.int .u64 a) := (hc5 _ _ (by first | omega | go_size)).trans (by go_cell)
  have hz5_6_0 : W5.frozen? ⟨W3.heap.size, 0, none⟩ = false := (hf5 _ _ (by first | omega | go_size)).trans (by first | (with_reducible assumption) | (go_simp; done) | (simp [*]; done))
  have hl5_6_1 : W5.cell? ⟨W3.heap.size, 1, none⟩ = some (.int .u32 l) := (hc5 _ _ (by first | omega | go_size)).trans (by go_cell)
  have hz5_6_1 : W5.frozen? ⟨W3.heap.size, 1, none⟩ = false := (hf5 _ _ (by first | omega | go_size)).trans (by first | (with_reducible assumption) | (go_simp; done) | (simp [*]; done))
  have hl5_6_2 : W5.cell? ⟨W3.heap.size, 2, none⟩ = some (.int .u16 f) := (hc5 _ _ (by first | omega | go_size)).trans (by go_cell)
  have hz5_6_2 : W5.frozen? ⟨W3.heap.size, 2, none⟩ = false := (hf5 _ _ (by first | omega | go_size)).trans (by first | (with_reducible assumption) | (go_simp; done) | (simp [*]; done))
  have hl5_6_3 : W5.cell? ⟨W3.heap.size, 3, none⟩ = some (.int .u16 x) := (hc5 _ _ (by first | omega | go_size)).trans (by go_cell)
  have hz5_6_3 : W5.frozen? ⟨W3.heap.size, 3, none⟩ = false := (hf5 _ _ (by first | omega | go_size)).trans (by first | (with_reducible assumption) | (go_simp; done) | (simp [*]; done))
  have hk5_6 : W3.heap.size < W5.heap.size := by omega
  clear hg5 hc5 hf5
  go_wp2_with fail
  clear r4
  have hrx := ((hr.below hb5).more (by omega)).alloc (Nat.le_refl _) (.cells #[.int .u64 pa, .int .u32 pl, .int .u16 pf, .int .u16 px] 67)
  refine (table_any A n c d _ (by omega) hd (hrx.more (by simp))).mono ?_
  rintro e W6 ⟨g6, c6, rfl, ho6, hg6⟩
  clear hrx
  have hb6 : Below w.heap.size w W6 := (show Below w.heap.size w _ by go_grown).trans (hg6.mono (by first | omega | go_size))
  obtain ⟨hc6, hf6⟩ := bcell hg6
  have hs6 := hg6.size
  try simp only [World.size_alloc, World.size_setCell, World.size_drew] at hs6
  have hl6_0_0 : W6.cell? ⟨w.heap.size, 0, none⟩ = some (.int .u64 a) := (hc6 _ _ (by first | omega | go_size)).trans (by go_cell)
  have hz6_0_0 : W6.frozen? ⟨w.heap.size, 0, none⟩ = false := (hf6 _ _ (by first | omega | go_size)).trans (by first | (with_reducible assumption) | (go_simp; done) | (simp [*]; done))
  have hl6_0_1 : W6.cell? ⟨w.heap.size, 1, none⟩ = some (.int .u32 l) := (hc6 _ _ (by first | omega | go_size)).trans (by go_cell)
  have hz6_0_1 : W6.frozen? ⟨w.heap.size, 1, none⟩ = false := (hf6 _ _ (by first | omega | go_size)).trans (by first | (with_reducible assumption) | (go_simp; done) | (simp [*]; done))
  have hl6_0_2 : W6.cell? ⟨w.heap.size, 2, none⟩ = some (.int .u16 f) := (hc6 _ _ (by first | omega | go_size)).trans (by go_cell)
  have hz6_0_2 : W6.frozen? ⟨w.heap.size, 2, none⟩ = false := (hf6 _ _ (by first | omega | go_size)).trans (by first | (with_reducible assumption) | (go_simp; done) | (simp [*]; done))
  have hl6_0_3 : W6.cell? ⟨w.heap.size, 3, none⟩ = some (.int .u16 x) := (hc6 _ _ (by first | omega | go_size)).trans (by go_cell)
  have hz6_0_3 : W6.frozen? ⟨w.heap.size, 3, none⟩ = false := (hf6 _ _ (by first | omega | go_size)).trans (by first | (with_reducible assumption) | (go_simp; done) | (simp [*]; done))
  have hk6_0 : w.heap.size < W6.heap.size := by omega
  have hl6_1_0 : W6.cell? ⟨w.heap.size + 1, 0, none⟩ = some (.int .u64 a') := (hc6 _ _ (by first | omega | go_size)).trans (by go_cell)
  have hz6_1_0 : W6.frozen? ⟨w.heap.size + 1, 0, none⟩ = false := (hf6 _ _ (by first | omega | go_size)).trans (by first | (with_reducible assumption) | (go_simp; done) | (simp [*]; done))
  have hl6_1_1 : W6.cell? ⟨w.heap.size + 1, 1, none⟩ = some (.int .u32 l') := (hc6 _ _ (by first | omega | go_size)).trans (by go_cell)
  have hz6_1_1 : W6.frozen? ⟨w.heap.size + 1, 1, none⟩ = false := (hf6 _ _ (by first | omega | go_size)).trans (by first | (with_reducible assumption) | (go_simp; done) | (simp [*]; done))
  have hl6_1_2 : W6.cell? ⟨w.heap.size + 1, 2, none⟩ = some (.int .u16 f') := (hc6 _ _ (by first | omega | go_size)).trans (by go_cell)
  have hz6_1_2 : W6.frozen? ⟨w.heap.size + 1, 2, none⟩ = false := (hf6 _ _ (by first | omega | go_size)).trans (by first | (with_reducible assumption) | (go_simp; done) | (simp [*]; done))
  have hl6_1_3 : W6.cell? ⟨w.heap.size + 1, 3, none⟩ = some (.int .u16 x') := (hc6 _ _ (by first | omega | go_size)).trans (by go_cell)
  have hz6_1_3 : W6.frozen? ⟨w.heap.size + 1, 3, none⟩ = false := (hf6 _ _ (by first | omega | go_size)).trans (by first | (with_reducible assumption) | (go_simp; done) | (simp [*]; done))
  have hk6_1 : w.heap.size + 1 < W6.heap.size := by omega
  have hl6_2_0 : W6.cell? ⟨w.heap.size + 2, 0, none⟩ = some (.int .u64 pa) := (hc6 _ _ (by first | omega | go_size)).trans (by go_cell)
  have hz6_2_0 : W6.frozen? ⟨w.heap.size + 2, 0, none⟩ = false := (hf6 _ _ (by first | omega | go_size)).trans (by first | (with_reducible assumption) | (go_simp; done) | (simp [*]; done))
  have hl6_2_1 : W6.cell? ⟨w.heap.size + 2, 1, none⟩ = some (.int .u32 pl) := (hc6 _ _ (by first | omega | go_size)).trans (by go_cell)
  have hz6_2_1 : W6.frozen? ⟨w.heap.size + 2, 1, none⟩ = false := (hf6 _ _ (by first | omega | go_size)).trans (by first | (with_reducible assumption) | (go_simp; done) | (simp [*]; done))
  have hl6_2_2 : W6.cell? ⟨w.heap.size + 2, 2, none⟩ = some (.int .u16 pf) := (hc6 _ _ (by first | omega | go_size)).trans (by go_cell)
  have hz6_2_2 : W6.frozen? ⟨w.heap.size + 2, 2, none⟩ = false := (hf6 _ _ (by first | omega | go_size)).trans (by first | (with_reducible assumption) | (go_simp; done) | (simp [*]; done))
  have hl6_2_3 : W6.cell? ⟨w.heap.size + 2, 3, none⟩ = some (.int .u16 px) := (hc6 _ _ (by first | omega | go_size)).trans (by go_cell)
  have hz6_2_3 : W6.frozen? ⟨w.heap.size + 2, 3, none⟩ = false := (hf6 _ _ (by first | omega | go_size)).trans (by first | (with_reducible assumption) | (go_simp; done) | (simp [*]; done))
  have hk6_2 : w.heap.size + 2 < W6.heap.size := by omega
  have hl6_3_0 : W6.cell? ⟨w.heap.size + 3, 0, none⟩ = some (.int .u64 qa) := (hc6 _ _ (by first | omega | go_size)).trans (by go_cell)
  have hz6_3_0 : W6.frozen? ⟨w.heap.size + 3, 0, none⟩ = false := (hf6 _ _ (by first | omega | go_size)).trans (by first | (with_reducible assumption) | (go_simp; done) | (simp [*]; done))
  have hl6_3_1 : W6.cell? ⟨w.heap.size + 3, 1, none⟩ = some (.int .u32 ql) := (hc6 _ _ (by first | omega | go_size)).trans (by go_cell)
  have hz6_3_1 : W6.frozen? ⟨w.heap.size + 3, 1, none⟩ = false := (hf6 _ _ (by first | omega | go_size)).trans (by first | (with_reducible assumption) | (go_simp; done) | (simp [*]; done))
  have hl6_3_2 : W6.cell? ⟨w.heap.size + 3, 2, none⟩ = some (.int .u16 qf) := (hc6 _ _ (by first | omega | go_size)).trans (by go_cell)
  have hz6_3_2 : W6.frozen? ⟨w.heap.size + 3, 2, none⟩ = false := (hf6 _ _ (by first | omega | go_size)).trans (by first | (with_reducible assumption) | (go_simp; done) | (simp [*]; done))
  have hl6_3_3 : W6.cell? ⟨w.heap.size + 3, 3, none⟩ = some (.int .u16 qx) := (hc6 _ _ (by first | omega | go_size)).trans (by go_cell)
  have hz6_3_3 : W6.frozen? ⟨w.heap.size + 3, 3, none⟩ = false := (hf6 _ _ (by first | omega | go_size)).trans (by first | (with_reducible assumption) | (go_simp; done) | (simp [*]; done))
  have hk6_3 : w.heap.size + 3 < W6.heap.size := by omega
  have hl6_4_0 : W6.cell? ⟨w.heap.size + 4, 0, none⟩ = some (.int .u32 ui) := (hc6 _ _ (by first | omega | go_size)).trans (by go_cell)
  have hz6_4_0 : W6.frozen? ⟨w.heap.size + 4, 0, none⟩ = false := (hf6 _ _ (by first | omega | go_size)).trans (by first | (with_reducible assumption) | (go_simp; done) | (simp [*]; done))
  have hl6_4_1 : W6.cell? ⟨w.heap.size + 4, 1, none⟩ = some (.int .u32 un) := (hc6 _ _ (by first | omega | go_size)).trans (by go_cell)
  have hz6_4_1 : W6.frozen? ⟨w.heap.size + 4, 1, none⟩ = false := (hf6 _ _ (by first | omega | go_size)).trans (by first | (with_reducible assumption) | (go_simp; done) | (simp [*]; done))
  have hk6_4 : w.heap.size + 4 < W6.heap.size := by omega
  have hl6_5_0 : W6.cell? ⟨w.heap.size + 5, 0, none⟩ = some (.int .u16 ei) := (hc6 _ _ (by first | omega | go_size)).trans (by go_cell)
  have hz6_5_0 : W6.frozen? ⟨w.heap.size + 5, 0, none⟩ = false := (hf6 _ _ (by first | omega | go_size)).trans (by first | (with_reducible assumption) | (go_simp; done) | (simp [*]; done))
  have hl6_5_1 : W6.cell? ⟨w.heap.size + 5, 1, none⟩ = some (.int .u16 en) := (hc6 _ _ (by first | omega | go_size)).trans (by go_cell)
  have hz6_5_1 : W6.frozen? ⟨w.heap.size + 5, 1, none⟩ = false := (hf6 _ _ (by first | omega | go_size)).trans (by first | (with_reducible assumption) | (go_simp; done) | (simp [*]; done))
  have hk6_5 : w.heap.size + 5 < W6.heap.size := by omega
  have hl6_6_0 : W6.cell? ⟨W3.heap.size, 0, none⟩ = some (.int .u64 a) := (hc6 _ _ (by first | omega | go_size)).trans (by go_cell)
  have hz6_6_0 : W6.frozen? ⟨W3.heap.size, 0, none⟩ = false := (hf6 _ _ (by first | omega | go_size)).trans (by first | (with_reducible assumption) | (go_simp; done) | (simp [*]; done))
  have hl6_6_1 : W6.cell? ⟨W3.heap.size, 1, none⟩ = some (.int .u32 l) := (hc6 _ _ (by first | omega | go_size)).trans (by go_cell)
  have hz6_6_1 : W6.frozen? ⟨W3.heap.size, 1, none⟩ = false := (hf6 _ _ (by first | omega | go_size)).trans (by first | (with_reducible assumption) | (go_simp; done) | (simp [*]; done))
  have hl6_6_2 : W6.cell? ⟨W3.heap.size, 2, none⟩ = some (.int .u16 f) := (hc6 _ _ (by first | omega | go_size)).trans (by go_cell)
  have hz6_6_2 : W6.frozen? ⟨W3.heap.size, 2, none⟩ = false := (hf6 _ _ (by first | omega | go_size)).trans (by first | (with_reducible assumption) | (go_simp; done) | (simp [*]; done))
  have hl6_6_3 : W6.cell? ⟨W3.heap.size, 3, none⟩ = some (.int .u16 x) := (hc6 _ _ (by first | omega | go_size)).trans (by go_cell)
  have hz6_6_3 : W6.frozen? ⟨W3.heap.size, 3, none⟩ = false := (hf6 _ _ (by first | omega | go_size)).trans (by first | (with_reducible assumption) | (go_simp; done) | (simp [*]; done))
  have hk6_6 : W3.heap.size < W6.heap.size := by omega
  have hl6_7_0 : W6.cell? ⟨W5.heap.size, 0, none⟩ = some (.int .u64 pa) := (hc6 _ _ (by first | omega | go_size)).trans (by go_cell)
  have hz6_7_0 : W6.frozen? ⟨W5.heap.size, 0, none⟩ = false := (hf6 _ _ (by first | omega | go_size)).trans (by first | (with_reducible assumption) | (go_simp; done) | (simp [*]; done))
  have hl6_7_1 : W6.cell? ⟨W5.heap.size, 1, none⟩ = some (.int .u32 pl) := (hc6 _ _ (by first | omega | go_size)).trans (by go_cell)
  have hz6_7_1 : W6.frozen? ⟨W5.heap.size, 1, none⟩ = false := (hf6 _ _ (by first | omega | go_size)).trans (by first | (with_reducible assumption) | (go_simp; done) | (simp [*]; done))
  have hl6_7_2 : W6.cell? ⟨W5.heap.size, 2, none⟩ = some (.int .u16 pf) := (hc6 _ _ (by first | omega | go_size)).trans (by go_cell)
  have hz6_7_2 : W6.frozen? ⟨W5.heap.size, 2, none⟩ = false := (hf6 _ _ (by first | omega | go_size)).trans (by first | (with_reducible assumption) | (go_simp; done) | (simp [*]; done))
  have hl6_7_3 : W6.cell? ⟨W5.heap.size, 3, none⟩ = some (.int .u16 px) := (hc6 _ _ (by first | omega | go_size)).trans (by go_cell)
  have hz6_7_3 : W6.frozen? ⟨W5.heap.size, 3, none⟩ = false := (hf6 _ _ (by first | omega | go_size)).trans (by first | (with_reducible assumption) | (go_simp; done) | (simp [*]; done))
  have hk6_7 : W5.heap.size < W6.heap.size := by omega
  clear hg6 hc6 hf6
  go_wp2_with fail
  refine (rtable_any (some ⟨g6, 0, none⟩) n c6 d.byte _ (by omega) (own_cap ho6) (byte_lo d _) (row_bytes ho6)).mono ?_
  rintro e W7 ⟨v7, rfl, ho7, hg7⟩
  rw [tab_back d n hd] at ho7
  obtain ⟨A7, c7, rfl⟩ := own_slice ho7
  clear ho6
  have hb7 : Below w.heap.size w W7 := (show Below w.heap.size w _ by go_grown).trans (hg7.mono (by first | omega | go_size))
  obtain ⟨hc7, hf7⟩ := bcell hg7
  have hs7 := hg7.size
  try simp only [World.size_alloc, World.size_setCell, World.size_drew] at hs7
  have hl7_0_0 : W7.cell? ⟨w.heap.size, 0, none⟩ = some (.int .u64 a) := (hc7 _ _ (by first | omega | go_size)).trans (by go_cell)
  have hz7_0_0 : W7.frozen? ⟨w.heap.size, 0, none⟩ = false := (hf7 _ _ (by first | omega | go_size)).trans (by first | (with_reducible assumption) | (go_simp; done) | (simp [*]; done))
  have hl7_0_1 : W7.cell? ⟨w.heap.size, 1, none⟩ = some (.int .u32 l) := (hc7 _ _ (by first | omega | go_size)).trans (by go_cell)
  have hz7_0_1 : W7.frozen? ⟨w.heap.size, 1, none⟩ = false := (hf7 _ _ (by first | omega | go_size)).trans (by first | (with_reducible assumption) | (go_simp; done) | (simp [*]; done))
  have hl7_0_2 : W7.cell? ⟨w.heap.size, 2, none⟩ = some (.int .u16 f) := (hc7 _ _ (by first | omega | go_size)).trans (by go_cell)
  have hz7_0_2 : W7.frozen? ⟨w.heap.size, 2, none⟩ = false := (hf7 _ _ (by first | omega | go_size)).trans (by first | (with_reducible assumption) | (go_simp; done) | (simp [*]; done))
  have hl7_0_3 : W7.cell? ⟨w.heap.size, 3, none⟩ = some (.int .u16 x) := (hc7 _ _ (by first | omega | go_size)).trans (by go_cell)
  have hz7_0_3 : W7.frozen? ⟨w.heap.size, 3, none⟩ = false := (hf7 _ _ (by first | omega | go_size)).trans (by first | (with_reducible assumption) | (go_simp; done) | (simp [*]; done))
  have hk7_0 : w.heap.size < W7.heap.size := by omega
  have hl7_1_0 : W7.cell? ⟨w.heap.size + 1, 0, none⟩ = some (.int .u64 a') := (hc7 _ _ (by first | omega | go_size)).trans (by go_cell)
  have hz7_1_0 : W7.frozen? ⟨w.heap.size + 1, 0, none⟩ = false := (hf7 _ _ (by first | omega | go_size)).trans (by first | (with_reducible assumption) | (go_simp; done) | (simp [*]; done))
  have hl7_1_1 : W7.cell? ⟨w.heap.size + 1, 1, none⟩ = some (.int .u32 l') := (hc7 _ _ (by first | omega | go_size)).trans (by go_cell)
  have hz7_1_1 : W7.frozen? ⟨w.heap.size + 1, 1, none⟩ = false := (hf7 _ _ (by first | omega | go_size)).trans (by first | (with_reducible assumption) | (go_simp; done) | (simp [*]; done))
  have hl7_1_2 : W7.cell? ⟨w.heap.size + 1, 2, none⟩ = some (.int .u16 f') := (hc7 _ _ (by first | omega | go_size)).trans (by go_cell)
  have hz7_1_2 : W7.frozen? ⟨w.heap.size + 1, 2, none⟩ = false := (hf7 _ _ (by first | omega | go_size)).trans (by first | (with_reducible assumption) | (go_simp; done) | (simp [*]; done))
  have hl7_1_3 : W7.cell? ⟨w.heap.size + 1, 3, none⟩ = some (.int .u16 x') := (hc7 _ _ (by first | omega | go_size)).trans (by go_cell)
  have hz7_1_3 : W7.frozen? ⟨w.heap.size + 1, 3, none⟩ = false := (hf7 _ _ (by first | omega | go_size)).trans (by first | (with_reducible assumption) | (go_simp; done) | (simp [*]; done))
  have hk7_1 : w.heap.size + 1 < W7.heap.size := by omega
  have hl7_2_0 : W7.cell? ⟨w.heap.size + 2, 0, none⟩ = some (.int .u64 pa) := (hc7 _ _ (by first | omega | go_size)).trans (by go_cell)
  have hz7_2_0 : W7.frozen? ⟨w.heap.size + 2, 0, none⟩ = false := (hf7 _ _ (by first | omega | go_size)).trans (by first | (with_reducible assumption) | (go_simp; done) | (simp [*]; done))
  have hl7_2_1 : W7.cell? ⟨w.heap.size + 2, 1, none⟩ = some (.int .u32 pl) := (hc7 _ _ (by first | omega | go_size)).trans (by go_cell)
  have hz7_2_1 : W7.frozen? ⟨w.heap.size + 2, 1, none⟩ = false := (hf7 _ _ (by first | omega | go_size)).trans (by first | (with_reducible assumption) | (go_simp; done) | (simp [*]; done))
  have hl7_2_2 : W7.cell? ⟨w.heap.size + 2, 2, none⟩ = some (.int .u16 pf) := (hc7 _ _ (by first | omega | go_size)).trans (by go_cell)
  have hz7_2_2 : W7.frozen? ⟨w.heap.size + 2, 2, none⟩ = false := (hf7 _ _ (by first | omega | go_size)).trans (by first | (with_reducible assumption) | (go_simp; done) | (simp [*]; done))
  have hl7_2_3 : W7.cell? ⟨w.heap.size + 2, 3, none⟩ = some (.int .u16 px) := (hc7 _ _ (by first | omega | go_size)).trans (by go_cell)
  have hz7_2_3 : W7.frozen? ⟨w.heap.size + 2, 3, none⟩ = false := (hf7 _ _ (by first | omega | go_size)).trans (by first | (with_reducible assumption) | (go_simp; done) | (simp [*]; done))
  have hk7_2 : w.heap.size + 2 < W7.heap.size := by omega
  have hl7_3_0 : W7.cell? ⟨w.heap.size + 3, 0, none⟩ = some (.int .u64 qa) := (hc7 _ _ (by first | omega | go_size)).trans (by go_cell)
  have hz7_3_0 : W7.frozen? ⟨w.heap.size + 3, 0, none⟩ = false := (hf7 _ _ (by first | omega | go_size)).trans (by first | (with_reducible assumption) | (go_simp; done) | (simp [*]; done))
  have hl7_3_1 : W7.cell? ⟨w.heap.size + 3, 1, none⟩ = some (.int .u32 ql) := (hc7 _ _ (by first | omega | go_size)).trans (by go_cell)
  have hz7_3_1 : W7.frozen? ⟨w.heap.size + 3, 1, none⟩ = false := (hf7 _ _ (by first | omega | go_size)).trans (by first | (with_reducible assumption) | (go_simp; done) | (simp [*]; done))
  have hl7_3_2 : W7.cell? ⟨w.heap.size + 3, 2, none⟩ = some (.int .u16 qf) := (hc7 _ _ (by first | omega | go_size)).trans (by go_cell)
  have hz7_3_2 : W7.frozen? ⟨w.heap.size + 3, 2, none⟩ = false := (hf7 _ _ (by first | omega | go_size)).trans (by first | (with_reducible assumption) | (go_simp; done) | (simp [*]; done))
  have hl7_3_3 : W7.cell? ⟨w.heap.size + 3, 3, none⟩ = some (.int .u16 qx) := (hc7 _ _ (by first | omega | go_size)).trans (by go_cell)
  have hz7_3_3 : W7.frozen? ⟨w.heap.size + 3, 3, none⟩ = false := (hf7 _ _ (by first | omega | go_size)).trans (by first | (with_reducible assumption) | (go_simp; done) | (simp [*]; done))
  have hk7_3 : w.heap.size + 3 < W7.heap.size := by omega
  have hl7_4_0 : W7.cell? ⟨w.heap.size + 4, 0, none⟩ = some (.int .u32 ui) := (hc7 _ _ (by first | omega | go_size)).trans (by go_cell)
  have hz7_4_0 : W7.frozen? ⟨w.heap.size + 4, 0, none⟩ = false := (hf7 _ _ (by first | omega | go_size)).trans (by first | (with_reducible assumption) | (go_simp; done) | (simp [*]; done))
  have hl7_4_1 : W7.cell? ⟨w.heap.size + 4, 1, none⟩ = some (.int .u32 un) := (hc7 _ _ (by first | omega | go_size)).trans (by go_cell)
  have hz7_4_1 : W7.frozen? ⟨w.heap.size + 4, 1, none⟩ = false := (hf7 _ _ (by first | omega | go_size)).trans (by first | (with_reducible assumption) | (go_simp; done) | (simp [*]; done))
  have hk7_4 : w.heap.size + 4 < W7.heap.size := by omega
  have hl7_5_0 : W7.cell? ⟨w.heap.size + 5, 0, none⟩ = some (.int .u16 ei) := (hc7 _ _ (by first | omega | go_size)).trans (by go_cell)
  have hz7_5_0 : W7.frozen? ⟨w.heap.size + 5, 0, none⟩ = false := (hf7 _ _ (by first | omega | go_size)).trans (by first | (with_reducible assumption) | (go_simp; done) | (simp [*]; done))
  have hl7_5_1 : W7.cell? ⟨w.heap.size + 5, 1, none⟩ = some (.int .u16 en) := (hc7 _ _ (by first | omega | go_size)).trans (by go_cell)
  have hz7_5_1 : W7.frozen? ⟨w.heap.size + 5, 1, none⟩ = false := (hf7 _ _ (by first | omega | go_size)).trans (by first | (with_reducible assumption) | (go_simp; done) | (simp [*]; done))
  have hk7_5 : w.heap.size + 5 < W7.heap.size := by omega
  have hl7_6_0 : W7.cell? ⟨W3.heap.size, 0, none⟩ = some (.int .u64 a) := (hc7 _ _ (by first | omega | go_size)).trans (by go_cell)
  have hz7_6_0 : W7.frozen? ⟨W3.heap.size, 0, none⟩ = false := (hf7 _ _ (by first | omega | go_size)).trans (by first | (with_reducible assumption) | (go_simp; done) | (simp [*]; done))
  have hl7_6_1 : W7.cell? ⟨W3.heap.size, 1, none⟩ = some (.int .u32 l) := (hc7 _ _ (by first | omega | go_size)).trans (by go_cell)
  have hz7_6_1 : W7.frozen? ⟨W3.heap.size, 1, none⟩ = false := (hf7 _ _ (by first | omega | go_size)).trans (by first | (with_reducible assumption) | (go_simp; done) | (simp [*]; done))
  have hl7_6_2 : W7.cell? ⟨W3.heap.size, 2, none⟩ = some (.int .u16 f) := (hc7 _ _ (by first | omega | go_size)).trans (by go_cell)
  have hz7_6_2 : W7.frozen? ⟨W3.heap.size, 2, none⟩ = false := (hf7 _ _ (by first | omega | go_size)).trans (by first | (with_reducible assumption) | (go_simp; done) | (simp [*]; done))
  have hl7_6_3 : W7.cell? ⟨W3.heap.size, 3, none⟩ = some (.int .u16 x) := (hc7 _ _ (by first | omega | go_size)).trans (by go_cell)
  have hz7_6_3 : W7.frozen? ⟨W3.heap.size, 3, none⟩ = false := (hf7 _ _ (by first | omega | go_size)).trans (by first | (with_reducible assumption) | (go_simp; done) | (simp [*]; done))
  have hk7_6 : W3.heap.size < W7.heap.size := by omega
  have hl7_7_0 : W7.cell? ⟨W5.heap.size, 0, none⟩ = some (.int .u64 pa) := (hc7 _ _ (by first | omega | go_size)).trans (by go_cell)
  have hz7_7_0 : W7.frozen? ⟨W5.heap.size, 0, none⟩ = false := (hf7 _ _ (by first | omega | go_size)).trans (by first | (with_reducible assumption) | (go_simp; done) | (simp [*]; done))
  have hl7_7_1 : W7.cell? ⟨W5.heap.size, 1, none⟩ = some (.int .u32 pl) := (hc7 _ _ (by first | omega | go_size)).trans (by go_cell)
  have hz7_7_1 : W7.frozen? ⟨W5.heap.size, 1, none⟩ = false := (hf7 _ _ (by first | omega | go_size)).trans (by first | (with_reducible assumption) | (go_simp; done) | (simp [*]; done))
  have hl7_7_2 : W7.cell? ⟨W5.heap.size, 2, none⟩ = some (.int .u16 pf) := (hc7 _ _ (by first | omega | go_size)).trans (by go_cell)
  have hz7_7_2 : W7.frozen? ⟨W5.heap.size, 2, none⟩ = false := (hf7 _ _ (by first | omega | go_size)).trans (by first | (with_reducible assumption) | (go_simp; done) | (simp [*]; done))
  have hl7_7_3 : W7.cell? ⟨W5.heap.size, 3, none⟩ = some (.int .u16 px) := (hc7 _ _ (by first | omega | go_size)).trans (by go_cell)
  have hz7_7_3 : W7.frozen? ⟨W5.heap.size, 3, none⟩ = false := (hf7 _ _ (by first | omega | go_size)).trans (by first | (with_reducible assumption) | (go_simp; done) | (simp [*]; done))
  have hk7_7 : W5.heap.size < W7.heap.size := by omega
  clear hg7 hc7 hf7
  go_wp2_with fail
  refine Asrt.to_ops (id := 8) (ops := DescBackR.OPS) (by kernel_rfl) ?_
  refine Asrt.wp_region_assert (by kernel_rfl) (by kernel_rfl) (Lib.Held w W7 [(w.heap.size, 0, (.int .u64 a : Value)), (w.heap.size, 1, (.int .u32 l : Value)), (w.heap.size, 2, (.int .u16 f : Value)), (w.heap.size, 3, (.int .u16 x : Value)), (w.heap.size + 1, 0, (.int .u64 a' : Value)), (w.heap.size + 1, 1, (.int .u32 l' : Value)), (w.heap.size + 1, 2, (.int .u16 f' : Value)), (w.heap.size + 1, 3, (.int .u16 x' : Value)), (w.heap.size + 1 + 1, 0, (.int .u64 pa : Value)), (w.heap.size + 1 + 1, 1, (.int .u32 pl : Value)), (w.heap.size + 1 + 1, 2, (.int .u16 pf : Value)), (w.heap.size + 1 + 1, 3, (.int .u16 px : Value)), (w.heap.size + 1 + 1 + 1, 0, (.int .u64 qa : Value)), (w.heap.size + 1 + 1 + 1, 1, (.int .u32 ql : Value)), (w.heap.size + 1 + 1 + 1, 2, (.int .u16 qf : Value)), (w.heap.size + 1 + 1 + 1, 3, (.int .u16 qx : Value)), (w.heap.size + 1 + 1 + 1 + 1, 0, (.int .u32 ui : Value)), (w.heap.size + 1 + 1 + 1 + 1, 1, (.int .u32 un : Value)), (w.heap.size + 1 + 1 + 1 + 1 + 1, 0, (.int .u16 ei : Value)), (w.heap.size + 1 + 1 + 1 + 1 + 1, 1, (.int .u16 en : Value)), (W3.heap.size, 0, (.int .u64 a : Value)), (W3.heap.size, 1, (.int .u32 l : Value)), (W3.heap.size, 2, (.int .u16 f : Value)), (W3.heap.size, 3, (.int .u16 x : Value)), (W5.heap.size, 0, (.int .u64 pa : Value)), (W5.heap.size, 1, (.int .u32 pl : Value)), (W5.heap.size, 2, (.int .u16 pf : Value)), (W5.heap.size, 3, (.int .u16 px : Value))])
    [(44, .is (.int .i64 0)), (45, .is (.bool true)), (46, .is (.bool true)), (47, .is (descV a l f x)), (48, .is (descV a l f x)), (49, .is (.bool true)), (50, .is (.bool true)), (51, .is (.bool true)), (52, .is (.int .i64 0)), (53, .is (.bool true)), (54, .is (.bool true)), (55, .is (.bool true)), (56, .is (descV pa pl pf px)), (57, .is (descV pa pl pf px)), (58, .is (.bool true)), (59, .is (.bool true)), (60, .is (.bool true)), (61, .is (descV a l f x)), (62, .row 101 16 (u8F (descG a l f x))), (63, .is (.string (strOf (descG a l f x) 16))), (64, .is (descV a' l' f' x')), (65, .row 101 16 (u8F (descG a' l' f' x'))), (66, .is (.string (strOf (descG a' l' f' x') 16))), (67, .is (.bool (sameD a l f x a' l' f' x'))), (68, .is (descV a l f x)), (69, .is (descV a' l' f' x')), (70, .is (.bool (sameD a l f x a' l' f' x'))), (71, .is (.bool true)), (72, .is (.bool true)), (73, .is (.bool true)), (74, .is (descV pa pl pf px)), (75, .row 101 16 (u8F (descG pa pl pf px))), (76, .is (.string (strOf (descG pa pl pf px) 16))), (77, .is (descV qa ql qf qx)), (78, .row 101 16 (u8F (descG qa ql qf qx))), (79, .is (.string (strOf (descG qa ql qf qx) 16))), (80, .is (.bool (sameD pa pl pf px qa ql qf qx))), (81, .is (descV pa pl pf px)), (82, .is (descV qa ql qf qx)), (83, .is (.bool (sameD pa pl pf px qa ql qf qx))), (84, .is (.bool true)), (85, .is (.bool true)), (86, .is (.bool true)), (87, .is (.agg #[.int .u32 ui, .int .u32 un])), (88, .is (.int .u64 (ui + un * 4294967296))), (89, .is (.agg #[.int .u32 ui, .int .u32 un])), (90, .is (.agg #[.int .u32 ui, .int .u32 un])), (91, .is (.bool true)), (92, .is (.bool true)), (93, .is (.bool true)), (94, .is (.agg #[.int .u16 ei, .int .u16 en])), (95, .is (.int .u64 (ei + en * 65536))), (96, .is (.agg #[.int .u16 ei, .int .u16 en])), (97, .is (.agg #[.int .u16 ei, .int .u16 en])), (98, .is (.bool true)), (99, .is (.bool true)), (100, .is (.bool true)), (101, .is (.agg #[.int .u16 ei, .int .u16 en])), (102, .is (.int .u64 (ei + en * 65536))), (103, .is (.bool true)), (104, .is (.bool true)), (105, .is (.bool true)), (106, .is (.int .i64 0)), (107, .is (.bool true)), (108, .is (.bool true)), (109, .is (.bool true)), (110, .is (.slice A7 n c7)), (111, .is (.slice A n c)), (112, .is (.bool true)), (113, .is (.bool true)), (114, .is (.bool true)), (115, .is (.slice A n c)), (116, .len (16 * n)), (117, .is (.int .i64 (16 * (n : Int)))), (118, .is (.slice A n c)), (119, .is (.int .i64 n)), (120, .is (.int .i64 (16 * (n : Int)))), (121, .is (.bool true)), (122, .is (.bool true)), (14, .is (.bool true))]
    ⟨hb7.drew, (Below.refl _ _).drew, ⟨hk7_0, hl7_0_0, hz7_0_0⟩, ⟨hk7_0, hl7_0_1, hz7_0_1⟩, ⟨hk7_0, hl7_0_2, hz7_0_2⟩, ⟨hk7_0, hl7_0_3, hz7_0_3⟩, ⟨hk7_1, hl7_1_0, hz7_1_0⟩, ⟨hk7_1, hl7_1_1, hz7_1_1⟩, ⟨hk7_1, hl7_1_2, hz7_1_2⟩, ⟨hk7_1, hl7_1_3, hz7_1_3⟩, ⟨hk7_2, hl7_2_0, hz7_2_0⟩, ⟨hk7_2, hl7_2_1, hz7_2_1⟩, ⟨hk7_2, hl7_2_2, hz7_2_2⟩, ⟨hk7_2, hl7_2_3, hz7_2_3⟩, ⟨hk7_3, hl7_3_0, hz7_3_0⟩, ⟨hk7_3, hl7_3_1, hz7_3_1⟩, ⟨hk7_3, hl7_3_2, hz7_3_2⟩, ⟨hk7_3, hl7_3_3, hz7_3_3⟩, ⟨hk7_4, hl7_4_0, hz7_4_0⟩, ⟨hk7_4, hl7_4_1, hz7_4_1⟩, ⟨hk7_5, hl7_5_0, hz7_5_0⟩, ⟨hk7_5, hl7_5_1, hz7_5_1⟩, ⟨hk7_6, hl7_6_0, hz7_6_0⟩, ⟨hk7_6, hl7_6_1, hz7_6_1⟩, ⟨hk7_6, hl7_6_2, hz7_6_2⟩, ⟨hk7_6, hl7_6_3, hz7_6_3⟩, ⟨hk7_7, hl7_7_0, hz7_7_0⟩, ⟨hk7_7, hl7_7_1, hz7_7_1⟩, ⟨hk7_7, hl7_7_2, hz7_7_2⟩, ⟨hk7_7, hl7_7_3, hz7_7_3⟩, trivial⟩ (by kernel_rfl) (by kernel_rfl)
    (DescBackR.obs a l f x a' l' f' x' pa pl pf px qa ql qf qx ui un ei en A A7 n c c7 d w W7 W3 W5 hA hB hP hQ hu he hn hc hd hr ho7 _
      (fun _ _ => rfl) (fun _ _ => rfl) (fun _ _ => rfl) (fun _ _ => rfl) (fun _ _ => rfl) (fun _ _ => rfl) (fun _ _ => rfl) (fun _ _ => rfl) (fun _ _ => rfl) (fun _ _ => rfl) (fun _ _ => rfl) (fun _ _ => rfl) (fun _ _ => rfl) (fun _ _ => rfl) (fun _ _ => rfl) (fun _ _ => rfl) (fun _ _ => rfl) (fun _ _ => rfl) (fun _ _ => rfl) (fun _ _ => rfl) (fun _ _ => rfl) (fun _ _ => rfl) (fun _ _ => rfl) (fun _ _ => rfl) (fun _ _ => rfl) (fun _ _ => rfl) (fun _ _ => rfl) (fun _ _ => rfl) (fun _ _ => rfl) (fun _ _ => rfl) (fun _ _ => rfl) (fun _ _ => rfl) (fun _ _ => rfl) (fun _ _ => rfl) (fun _ _ => rfl) (fun _ _ => rfl) (fun _ _ => rfl) (fun _ _ => rfl) (fun _ _ => rfl) (fun _ _ => rfl) (fun _ _ => rfl) (fun _ _ => rfl) (fun _ _ => rfl) (fun _ _ => rfl) (fun _ _ => rfl) (fun _ _ => rfl) (fun _ _ => rfl) (fun _ _ => rfl) (fun _ _ => rfl) (fun _ _ => rfl) (fun _ _ => rfl) (fun _ _ => rfl) (fun _ _ => rfl) (fun _ _ => rfl) (fun _ _ => rfl) (fun _ _ => rfl) (fun _ _ => rfl) (fun _ _ => rfl) (fun _ _ => rfl) (fun _ _ => rfl) (fun _ _ => rfl) (fun _ _ => rfl) (fun _ _ => rfl) (fun _ _ => rfl) (fun _ _ => rfl) (fun _ _ => rfl) (fun _ _ => rfl) (fun _ _ => rfl) (fun _ _ => rfl) (fun _ _ => rfl) (fun _ _ => rfl) (fun _ _ => rfl) (fun _ _ => rfl) (fun _ _ => rfl) (fun _ _ => rfl) (fun _ _ => rfl) (fun _ _ => rfl) (fun _ _ => rfl) (fun _ _ => rfl) (fun _ _ => rfl) (fun _ _ => rfl) (fun _ _ => rfl) (fun _ _ => rfl) (fun _ _ => rfl) (fun _ _ => rfl) (fun _ _ => rfl) (fun _ _ => rfl) (fun _ _ => rfl) (fun _ _ => rfl) (fun _ _ => rfl) (fun _ _ => rfl) (fun _ _ => rfl) (fun _ _ => rfl))
    ?_
  intro a9 w9 hC9 hB9 hs9 hd9 hT9 hU9
  have e14 : a9.tmps.getD 14 undef = .bool true := hT9 14 _ rfl
  rename_i K hK
  refine hK _ _ (wp_ret ?_)
  refine bodyPost_ret (results_tmp rfl _ _ _) hd9 ?_
  rw [e14]
  exact ⟨rfl, hC9.1⟩

theorem walk (a l f x a' l' f' x' pa pl pf px qa ql qf qx ui un ei en : Int) (v : Value) (A : Option Addr) (n c : Nat) (d : D4) (w : World) (hA : DescIn a l f x) (hB : DescIn a' l' f' x') (hP : DescIn pa pl pf px) (hQ : DescIn qa ql qf qx)
    (hu : (0 ≤ ui ∧ ui ≤ 4294967295) ∧ 0 ≤ un ∧ un ≤ 4294967295) (he : (0 ≤ ei ∧ ei ≤ 65535) ∧ 0 ≤ en ∧ en ≤ 65535) (hL : IsDescs w v A n c d) :
    Calls Try.prog 10 #[descV a l f x, descV a' l' f' x', descV pa pl pf px, descV qa ql qf qx, .agg #[.int .u32 ui, .int .u32 un], .agg #[.int .u16 ei, .int .u16 en], v] w (Lib.True1 w.heap.size w) := by
  obtain ⟨rfl, h1, h2, h3, h4⟩ := hL
  by_cases hn : n ≤ 300
  · exact walk_few a l f x a' l' f' x' pa pl pf px qa ql qf qx ui un ei en A n c d w hA hB hP hQ hu he hn h1 h3 h4
  · exact walk_much a l f x a' l' f' x' pa pl pf px qa ql qf qx ui un ei en A n c w (by omega) (by unfold maxLen at h2; omega)

set_option maxRecDepth 100000 in
theorem lifted (os : Os) (started : os.Started) (H : Type) (enc : TypeId × Value → H) :
    ReturnsInHanded {} Try.checked os 10 .any (Rows.descBackSpec.pre6 enc Try.prog Try.f10 Rows.descBackRow.domain false) (Rows.descBackSpec.post enc Try.prog Try.f10 false true false false) := by
  refine Lib.lifted (C := Try.checked) (tb := 4) H enc Lib.own started (by kernel_rfl) Try.func10
    (ChangeSpec.witness6 (enc := enc) (C := Try.checked) false ⟨#[], #[.agg #[.int .u64 0, .int .u32 0, .int .u16 0, .int .u16 0], .agg #[.int .u64 0, .int .u32 0, .int .u16 0, .int .u16 0], .agg #[.int .u64 0, .int .u32 0, .int .u16 0, .int .u16 0], .agg #[.int .u64 0, .int .u32 0, .int .u16 0, .int .u16 0], .agg #[.int .u32 0, .int .u32 0], .agg #[.int .u16 0, .int .u16 0], .slice none 0 0], []⟩ 8 (by kernel_rfl) (by kernel_rfl) (by kernel_rfl) (by kernel_rfl))
    Lib.laidOut (Lib.readable_of (by kernel_rfl)) rfl Try.underlying4 rfl ?_ ?_
  · intro ds h
    match ds, h with
    | [_, _, _, _, _, _, _], _ => exact ⟨rfl, rfl, rfl⟩
  · intro W base args ds p hval hA hfz hlt
    rw [Try.params10] at hval
    have hA' : DataW.TrodAll enc Try.prog W 0 (fun _ => true) true Try.f10.params.toList args.toList ds p := hA
    rw [Try.params10] at hA'
    obtain ⟨v0, vs0, d0, ds0, p0, q0, hargs, rfl, rfl, h0, r0⟩ := trodAll_cons hA'
    obtain ⟨v1, vs1, d1, ds1, p1, q1, rfl, rfl, rfl, h1, r1⟩ := trodAll_cons r0
    obtain ⟨v2, vs2, d2, ds2, p2, q2, rfl, rfl, rfl, h2, r2⟩ := trodAll_cons r1
    obtain ⟨v3, vs3, d3, ds3, p3, q3, rfl, rfl, rfl, h3, r3⟩ := trodAll_cons r2
    obtain ⟨v4, vs4, d4, ds4, p4, q4, rfl, rfl, rfl, h4, r4⟩ := trodAll_cons r3
    obtain ⟨v5, vs5, d5, ds5, p5, q5, rfl, rfl, rfl, h5, r5⟩ := trodAll_cons r4
    obtain ⟨v6, vs6, d6, ds6, p6, q6, rfl, rfl, rfl, h6, r6⟩ := trodAll_cons r5
    obtain ⟨rfl, rfl, rfl⟩ := trodAll_nil r6
    obtain rfl : args = #[v0, v1, v2, v3, v4, v5, v6] := by cases args; simp_all
    obtain ⟨a0_0, a0_1, a0_2, a0_3, rfl, w0⟩ := DesArgs.open_desc (hval 0 63 v0 rfl rfl) h0
    obtain ⟨a1_0, a1_1, a1_2, a1_3, rfl, w1⟩ := DesArgs.open_desc (hval 1 63 v1 rfl rfl) h1
    obtain ⟨a2_0, a2_1, a2_2, a2_3, rfl, w2⟩ := DesArgs.open_packed (hval 2 67 v2 rfl rfl) h2
    obtain ⟨a3_0, a3_1, a3_2, a3_3, rfl, w3⟩ := DesArgs.open_packed (hval 3 67 v3 rfl rfl) h3
    obtain ⟨a4_0, a4_1, rfl, w4⟩ := DesArgs.open_used (hval 4 75 v4 rfl rfl) h4
    obtain ⟨a5_0, a5_1, rfl, w5⟩ := DesArgs.open_event (hval 5 78 v5 rfl rfl) h5
    obtain ⟨a6_0, a6_1, a6_2, a6_3, w6⟩ := DesArgs.open_descs (hval 6 70 v6 rfl rfl) h6
    exact walk a0_0 a0_1 a0_2 a0_3 a1_0 a1_1 a1_2 a1_3 a2_0 a2_1 a2_2 a2_3 a3_0 a3_1 a3_2 a3_3 a4_0 a4_1 a5_0 a5_1 v6 a6_0 a6_1 a6_2 a6_3 W w0 w1 w2 w3 w4 w5 w6

theorem over : Rows.descBackRow.holds Try.pinned (OpenSpec.ofChange Rows.descBackSpec) :=
  OpenClaim.holds_of_wide 10 Try.f10 rfl rfl rfl rfl rfl rfl rfl ⟨rfl, rfl, rfl, rfl, rfl⟩ rfl rfl rfl rfl rfl (by kernel_rfl) Try.func10 (by kernel_rfl)
    (of_decide_eq_true (by kernel_rfl)) (by unfold Func.isWrapper; first | (rw [if_pos (by decide +kernel)]; kernel_rfl) | (rw [if_neg (by decide +kernel)]; exact ⟨rfl, rfl⟩))
    (fun os started H enc _ => lifted os started H enc)

/-- The statement. -/
theorem proved : Rows.DescBackSaid :=
  over

end Go.Proofs.Ytcenfjfdddponaa.DescBack
