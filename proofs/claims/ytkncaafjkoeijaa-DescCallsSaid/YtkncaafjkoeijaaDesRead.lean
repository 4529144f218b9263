
/- Reading descriptors: contracts of Read and ReadPacked. -/
import Derived.Test.YtkncaafjkoeijaaDesPut
import Derived.Laws.Cover3
import Derived.Laws.Cells
namespace Go.Proofs.Ytkncaafjkoeijaa.DesRead
open Go.RowKit Le Rw DesPut
set_option linter.unusedVariables false
set_option linter.unusedSimpArgs false

set_option maxRecDepth 100000 in
theorem read_no (A : Option Addr) (n c : Nat) (w : World) (hn : n ≠ 16) : Calls Try.prog 35 #[.slice A n c] w (Gives w.heap.size w (.tuple #[descV 0 0 0 0, .int .i64 4])) := by
  unfold Gives
  have hn' : ((n : Int) != 16) = true := by simp; omega
  go_enter Try.func35, Try.ntmps35
  go_wp2
  go_returns
  exact ⟨rfl, by go_grown⟩

/-- Four cells of a block, stored one after the other. -/
theorem set4 {W W' : World} {b : Nat} {u0 u1 u2 u3 v0 v1 v2 v3 : Value} (h0 : W.cell? ⟨b, 0, none⟩ = some u0) (h1 : W.cell? ⟨b, 1, none⟩ = some u1) (h2 : W.cell? ⟨b, 2, none⟩ = some u2) (h3 : W.cell? ⟨b, 3, none⟩ = some u3)
    (e : (((W.setCell ⟨b, 0, none⟩ v0).setCell ⟨b, 1, none⟩ v1).setCell ⟨b, 2, none⟩ v2).setCell ⟨b, 3, none⟩ v3 = W') :
    W'.cell? ⟨b, 0, none⟩ = some v0 ∧ W'.cell? ⟨b, 1, none⟩ = some v1 ∧ W'.cell? ⟨b, 2, none⟩ = some v2 ∧ W'.cell? ⟨b, 3, none⟩ = some v3 := by
  subst e
  have o : ∀ (X : World) (i j : Nat) (v : Value), i ≠ j → (X.setCell ⟨b, j, none⟩ v).cell? ⟨b, i, none⟩ = X.cell? ⟨b, i, none⟩ := fun X i j v h => World.cell?_setCell_other _ _ _ _ (by simp [h])
  have s : ∀ (X : World) (i : Nat) (v u : Value), X.cell? ⟨b, i, none⟩ = some u → (X.setCell ⟨b, i, none⟩ v).cell? ⟨b, i, none⟩ = some v := fun X i v u h => World.cell?_setCell_same' _ _ _ (by rw [h]; rfl)
  refine ⟨?_, ?_, ?_, ?_⟩
  · rw [o _ 0 3 _ (by decide), o _ 0 2 _ (by decide), o _ 0 1 _ (by decide)]; exact s _ _ _ _ h0
  · rw [o _ 1 3 _ (by decide), o _ 1 2 _ (by decide)]; exact s _ _ _ u1 ((o _ 1 0 _ (by decide)).trans h1)
  · rw [o _ 2 3 _ (by decide)]; exact s _ _ _ u2 ((o _ 2 1 _ (by decide)).trans ((o _ 2 0 _ (by decide)).trans h2))
  · exact s _ _ _ u3 ((o _ 3 2 _ (by decide)).trans ((o _ 3 1 _ (by decide)).trans ((o _ 3 0 _ (by decide)).trans h3)))
theorem row16 (g : Nat → Int) (w : World) : (w.alloc (.cells #[.int .u8 (g 0), .int .u8 (g 1), .int .u8 (g 2), .int .u8 (g 3), .int .u8 (g 4), .int .u8 (g 5), .int .u8 (g 6), .int .u8 (g 7), .int .u8 (g 8), .int .u8 (g 9), .int .u8 (g 10), .int .u8 (g 11), .int .u8 (g 12), .int .u8 (g 13), .int .u8 (g 14), .int .u8 (g 15)] 128)).rowIs w.heap.size 128 16 (u8F g) :=
  World.rowIs_alloc w ((List.range 16).map (u8F g)).toArray 128 (u8F g) (fun i hi => by simp at hi; simp [hi])
set_option maxRecDepth 100000 in
theorem read_is (ad : Addr) (c : Nat) (g : Nat → Int) (w : World) (hc : 16 ≤ c) (hg : Bytes g 16) (hr : IsRow w w.heap.size 1 (some ad) 16 (u8F g)) :
    Calls Try.prog 35 #[.slice (some ad) 16 c] w (Gives w.heap.size w (.tuple #[descV (fA g) (fL g) (fF g) (fX g), .int .i64 0])) := by
  unfold Gives
  obtain ⟨ad', e, hb, hcell⟩ := hr (by omega)
  cases e
  have ha := fun W => run_arrayAt (P := Try.prog) W 128 5 16 (some ad) 16 c Try.underlying128 (by omega)
  have h0 : w.cell? ad = some (.int .u8 (g 0)) := hcell 0 (by omega)
  have h1 : w.cell? ⟨ad.block, ad.off + 1, none⟩ = some (.int .u8 (g 1)) := hcell 1 (by omega)
  have h2 : w.cell? ⟨ad.block, ad.off + 2, none⟩ = some (.int .u8 (g 2)) := hcell 2 (by omega)
  have h3 : w.cell? ⟨ad.block, ad.off + 3, none⟩ = some (.int .u8 (g 3)) := hcell 3 (by omega)
  have h4 : w.cell? ⟨ad.block, ad.off + 4, none⟩ = some (.int .u8 (g 4)) := hcell 4 (by omega)
  have h5 : w.cell? ⟨ad.block, ad.off + 5, none⟩ = some (.int .u8 (g 5)) := hcell 5 (by omega)
  have h6 : w.cell? ⟨ad.block, ad.off + 6, none⟩ = some (.int .u8 (g 6)) := hcell 6 (by omega)
  have h7 : w.cell? ⟨ad.block, ad.off + 7, none⟩ = some (.int .u8 (g 7)) := hcell 7 (by omega)
  have h8 : w.cell? ⟨ad.block, ad.off + 8, none⟩ = some (.int .u8 (g 8)) := hcell 8 (by omega)
  have h9 : w.cell? ⟨ad.block, ad.off + 9, none⟩ = some (.int .u8 (g 9)) := hcell 9 (by omega)
  have h10 : w.cell? ⟨ad.block, ad.off + 10, none⟩ = some (.int .u8 (g 10)) := hcell 10 (by omega)
  have h11 : w.cell? ⟨ad.block, ad.off + 11, none⟩ = some (.int .u8 (g 11)) := hcell 11 (by omega)
  have h12 : w.cell? ⟨ad.block, ad.off + 12, none⟩ = some (.int .u8 (g 12)) := hcell 12 (by omega)
  have h13 : w.cell? ⟨ad.block, ad.off + 13, none⟩ = some (.int .u8 (g 13)) := hcell 13 (by omega)
  have h14 : w.cell? ⟨ad.block, ad.off + 14, none⟩ = some (.int .u8 (g 14)) := hcell 14 (by omega)
  have h15 : w.cell? ⟨ad.block, ad.off + 15, none⟩ = some (.int .u8 (g 15)) := hcell 15 (by omega)
  have hb0 : Below w.heap.size w w := Below.refl _ _
  have r0 := row16 g (w.alloc (.cells #[.int .u64 0, .int .u32 0, .int .u16 0, .int .u16 0] 62))
  rw [World.size_alloc] at r0
  go_enter Try.func35, Try.ntmps35
  go_wp2_with fail
  clear h0 h1 h2 h3 h4 h5 h6 h7 h8 h9 h10 h11 h12 h13 h14 h15 ha
  refine (desc_any _ g _ hg r0).mono ?_
  rintro eE W1 ⟨rfl, hg1⟩
  have hb1 : Below w.heap.size w W1 := (show Below w.heap.size w _ by go_grown).trans (hg1.mono (by first | omega | go_size))
  obtain ⟨hc1, hf1⟩ := bcell hg1
  have hs1 := hg1.size
  try simp only [World.size_alloc, World.size_setCell, World.size_drew] at hs1
  have hl1_0_0 : W1.cell? ⟨w.heap.size, 0, none⟩ = some (.int .u64 0) := (hc1 _ _ (by first | omega | go_size)).trans (by first | (with_reducible assumption) | go_cell)
  have hz1_0_0 : W1.frozen? ⟨w.heap.size, 0, none⟩ = false := (hf1 _ _ (by first | omega | go_size)).trans (by first | (with_reducible assumption) | (go_simp; done) | (simp [*]; done))
  have hl1_0_1 : W1.cell? ⟨w.heap.size, 1, none⟩ = some (.int .u32 0) := (hc1 _ _ (by first | omega | go_size)).trans (by first | (with_reducible assumption) | go_cell)
  have hz1_0_1 : W1.frozen? ⟨w.heap.size, 1, none⟩ = false := (hf1 _ _ (by first | omega | go_size)).trans (by first | (with_reducible assumption) | (go_simp; done) | (simp [*]; done))
  have hl1_0_2 : W1.cell? ⟨w.heap.size, 2, none⟩ = some (.int .u16 0) := (hc1 _ _ (by first | omega | go_size)).trans (by first | (with_reducible assumption) | go_cell)
  have hz1_0_2 : W1.frozen? ⟨w.heap.size, 2, none⟩ = false := (hf1 _ _ (by first | omega | go_size)).trans (by first | (with_reducible assumption) | (go_simp; done) | (simp [*]; done))
  have hl1_0_3 : W1.cell? ⟨w.heap.size, 3, none⟩ = some (.int .u16 0) := (hc1 _ _ (by first | omega | go_size)).trans (by first | (with_reducible assumption) | go_cell)
  have hz1_0_3 : W1.frozen? ⟨w.heap.size, 3, none⟩ = false := (hf1 _ _ (by first | omega | go_size)).trans (by first | (with_reducible assumption) | (go_simp; done) | (simp [*]; done))
  have hk1_0 : w.heap.size < W1.heap.size := by omega
  clear hg1 hc1 hf1
  go_wp2_with fail
  have hB : Below w.heap.size w ((((W1.setCell ⟨w.heap.size, 0, none⟩ (.int .u64 (fA g))).setCell ⟨w.heap.size, 1, none⟩ (.int .u32 (fL g))).setCell ⟨w.heap.size, 2, none⟩ (.int .u16 (fF g))).setCell ⟨w.heap.size, 3, none⟩ (.int .u16 (fX g))) := by go_grown
  generalize hW2 : (((W1.setCell ⟨w.heap.size, 0, none⟩ (.int .u64 (fA g))).setCell ⟨w.heap.size, 1, none⟩ (.int .u32 (fL g))).setCell ⟨w.heap.size, 2, none⟩ (.int .u16 (fF g))).setCell ⟨w.heap.size, 3, none⟩ (.int .u16 (fX g)) = W2 at hB ⊢
  obtain ⟨q0, q1, q2, q3⟩ := set4 hl1_0_0 hl1_0_1 hl1_0_2 hl1_0_3 hW2
  clear hW2
  exact bodyPost_ret (v := .tuple #[descV (fA g) (fL g) (fF g) (fX g), .int .i64 0]) (by simp [results, Try.results35, go_sem, q0, q1, q2, q3]) rfl ⟨rfl, hB⟩

set_option maxRecDepth 100000 in
theorem pread_no (A : Option Addr) (n c : Nat) (w : World) (hn : n ≠ 16) : Calls Try.prog 37 #[.slice A n c] w (Gives w.heap.size w (.tuple #[descV 0 0 0 0, .int .i64 4])) := by
  unfold Gives
  have hn' : ((n : Int) != 16) = true := by simp; omega
  go_enter Try.func37, Try.ntmps37
  go_wp2
  go_returns
  exact ⟨rfl, by go_grown⟩

set_option maxRecDepth 100000 in
theorem pread_is (ad : Addr) (c : Nat) (g : Nat → Int) (w : World) (hc : 16 ≤ c) (hg : Bytes g 16) (hr : IsRow w w.heap.size 1 (some ad) 16 (u8F g)) :
    Calls Try.prog 37 #[.slice (some ad) 16 c] w (Gives w.heap.size w (.tuple #[descV (fA g) (fL g) (fF g) (fX g), .int .i64 0])) := by
  unfold Gives
  obtain ⟨ad', e, hb, hcell⟩ := hr (by omega)
  cases e
  have ha := fun W => run_arrayAt (P := Try.prog) W 128 5 16 (some ad) 16 c Try.underlying128 (by omega)
  have h0 : w.cell? ad = some (.int .u8 (g 0)) := hcell 0 (by omega)
  have h1 : w.cell? ⟨ad.block, ad.off + 1, none⟩ = some (.int .u8 (g 1)) := hcell 1 (by omega)
  have h2 : w.cell? ⟨ad.block, ad.off + 2, none⟩ = some (.int .u8 (g 2)) := hcell 2 (by omega)
  have h3 : w.cell? ⟨ad.block, ad.off + 3, none⟩ = some (.int .u8 (g 3)) := hcell 3 (by omega)
  have h4 : w.cell? ⟨ad.block, ad.off + 4, none⟩ = some (.int .u8 (g 4)) := hcell 4 (by omega)
  have h5 : w.cell? ⟨ad.block, ad.off + 5, none⟩ = some (.int .u8 (g 5)) := hcell 5 (by omega)
  have h6 : w.cell? ⟨ad.block, ad.off + 6, none⟩ = some (.int .u8 (g 6)) := hcell 6 (by omega)
  have h7 : w.cell? ⟨ad.block, ad.off + 7, none⟩ = some (.int .u8 (g 7)) := hcell 7 (by omega)
  have h8 : w.cell? ⟨ad.block, ad.off + 8, none⟩ = some (.int .u8 (g 8)) := hcell 8 (by omega)
  have h9 : w.cell? ⟨ad.block, ad.off + 9, none⟩ = some (.int .u8 (g 9)) := hcell 9 (by omega)
  have h10 : w.cell? ⟨ad.block, ad.off + 10, none⟩ = some (.int .u8 (g 10)) := hcell 10 (by omega)
  have h11 : w.cell? ⟨ad.block, ad.off + 11, none⟩ = some (.int .u8 (g 11)) := hcell 11 (by omega)
  have h12 : w.cell? ⟨ad.block, ad.off + 12, none⟩ = some (.int .u8 (g 12)) := hcell 12 (by omega)
  have h13 : w.cell? ⟨ad.block, ad.off + 13, none⟩ = some (.int .u8 (g 13)) := hcell 13 (by omega)
  have h14 : w.cell? ⟨ad.block, ad.off + 14, none⟩ = some (.int .u8 (g 14)) := hcell 14 (by omega)
  have h15 : w.cell? ⟨ad.block, ad.off + 15, none⟩ = some (.int .u8 (g 15)) := hcell 15 (by omega)
  have hb0 : Below w.heap.size w w := Below.refl _ _
  have r0 := row16 g (w.alloc (.cells #[.int .u64 0, .int .u32 0, .int .u16 0, .int .u16 0] 64))
  rw [World.size_alloc] at r0
  go_enter Try.func37, Try.ntmps37
  go_wp2_with fail
  clear h0 h1 h2 h3 h4 h5 h6 h7 h8 h9 h10 h11 h12 h13 h14 h15 ha
  refine (packed_any _ g _ hg r0).mono ?_
  rintro eE W1 ⟨rfl, hg1⟩
  have hb1 : Below w.heap.size w W1 := (show Below w.heap.size w _ by go_grown).trans (hg1.mono (by first | omega | go_size))
  obtain ⟨hc1, hf1⟩ := bcell hg1
  have hs1 := hg1.size
  try simp only [World.size_alloc, World.size_setCell, World.size_drew] at hs1
  have hl1_0_0 : W1.cell? ⟨w.heap.size, 0, none⟩ = some (.int .u64 0) := (hc1 _ _ (by first | omega | go_size)).trans (by first | (with_reducible assumption) | go_cell)
  have hz1_0_0 : W1.frozen? ⟨w.heap.size, 0, none⟩ = false := (hf1 _ _ (by first | omega | go_size)).trans (by first | (with_reducible assumption) | (go_simp; done) | (simp [*]; done))
  have hl1_0_1 : W1.cell? ⟨w.heap.size, 1, none⟩ = some (.int .u32 0) := (hc1 _ _ (by first | omega | go_size)).trans (by first | (with_reducible assumption) | go_cell)
  have hz1_0_1 : W1.frozen? ⟨w.heap.size, 1, none⟩ = false := (hf1 _ _ (by first | omega | go_size)).trans (by first | (with_reducible assumption) | (go_simp; done) | (simp [*]; done))
  have hl1_0_2 : W1.cell? ⟨w.heap.size, 2, none⟩ = some (.int .u16 0) := (hc1 _ _ (by first | omega | go_size)).trans (by first | (with_reducible assumption) | go_cell)
  have hz1_0_2 : W1.frozen? ⟨w.heap.size, 2, none⟩ = false := (hf1 _ _ (by first | omega | go_size)).trans (by first | (with_reducible assumption) | (go_simp; done) | (simp [*]; done))
  have hl1_0_3 : W1.cell? ⟨w.heap.size, 3, none⟩ = some (.int .u16 0) := (hc1 _ _ (by first | omega | go_size)).trans (by first | (with_reducible assumption) | go_cell)
  have hz1_0_3 : W1.frozen? ⟨w.heap.size, 3, none⟩ = false := (hf1 _ _ (by first | omega | go_size)).trans (by first | (with_reducible assumption) | (go_simp; done) | (simp [*]; done))
  have hk1_0 : w.heap.size < W1.heap.size := by omega
  clear hg1 hc1 hf1
  go_wp2_with fail
  have hB : Below w.heap.size w ((((W1.setCell ⟨w.heap.size, 0, none⟩ (.int .u64 (fA g))).setCell ⟨w.heap.size, 1, none⟩ (.int .u32 (fL g))).setCell ⟨w.heap.size, 2, none⟩ (.int .u16 (fF g))).setCell ⟨w.heap.size, 3, none⟩ (.int .u16 (fX g))) := by go_grown
  generalize hW2 : (((W1.setCell ⟨w.heap.size, 0, none⟩ (.int .u64 (fA g))).setCell ⟨w.heap.size, 1, none⟩ (.int .u32 (fL g))).setCell ⟨w.heap.size, 2, none⟩ (.int .u16 (fF g))).setCell ⟨w.heap.size, 3, none⟩ (.int .u16 (fX g)) = W2 at hB ⊢
  obtain ⟨q0, q1, q2, q3⟩ := set4 hl1_0_0 hl1_0_1 hl1_0_2 hl1_0_3 hW2
  clear hW2
  exact bodyPost_ret (v := .tuple #[descV (fA g) (fL g) (fF g) (fX g), .int .i64 0]) (by simp [results, Try.results37, go_sem, q0, q1, q2, q3]) rfl ⟨rfl, hB⟩

end Go.Proofs.Ytkncaafjkoeijaa.DesRead
