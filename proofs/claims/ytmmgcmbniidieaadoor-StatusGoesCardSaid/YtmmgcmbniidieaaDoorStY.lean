/- Package status: its functions. -/
import Derived.Test.YtmmgcmbniidieaaDoorStX
namespace Go.Proofs.YtmmgcmbniidieaaDoor.St
open Go.RowKit Rw Fe
set_option linter.unusedSimpArgs false
set_option linter.unusedVariables false

def wrG (k : Int) (O G : Set64) (s wd : Byte) : Set64 := if validB k O G s && wd == 0#8 then 0#64 else G
def wrS (k : Int) (O G : Set64) (s wd : Byte) : Byte := if validB k O G s then (if wd == 0#8 then 0#8 else setTo s wd (acceptB k O G) 5) else s
theorem write_is (k : Int) (O G : Set64) (s wd : Byte) (G' : Set64) (s' : Byte) (hG : wrG k O G s wd = G') (hS : wrS k O G s wd = s') (ad : Addr) (cap : Nat) (w : World) (hR : Rules w ad cap) : Calls Tryd.prog 13 #[dev k O G s, by8 wd] w (Gives w.heap.size w (dev k O G' s')) := by
  subst hG hS
  unfold wrG wrS
  cases hv : validB k O G s with
  | false => exact write_no k O G s wd hv ad cap w hR
  | true =>
    cases hz : (wd == 0#8) with
    | false => exact write_set k O G s wd hv hz ad cap w hR
    | true =>
      obtain rfl := eq_of_beq hz
      exact write_zero k O G s hv ad cap w hR
def askB (k : Int) (O G : Set64) (s : Byte) : Bool := validB k O G s && hasb s 2#8 && !hasb s 8#8
def askG (k : Int) (O G : Set64) (s : Byte) (X : Set64) : Set64 := if askB k O G s then X else G
def runsB (k : Int) (O G : Set64) (s : Byte) : Bool := validB k O G s && hasb s 4#8 && !hasb s 64#8 && !hasb s 128#8

theorem check_is (k : Int) (O G : Set64) (s : Byte) (v : Int) (h : (if validB k O G s then 0 else 2) = v) (ad : Addr) (cap : Nat) (w : World) (hR : Rules w ad cap) : Calls Tryd.prog 15 #[dev k O G s] w (Gives w.heap.size w (num v)) := by
  unfold Gives
  subst h
  have hb0 : Below w.heap.size w w := Below.refl _ _
  have HR := Lib.hid hR
  clear hR
  cases hv : validB k O G s with
  | false =>
    have HV := Lib.hid hv
    clear hv
    go_enter Tryd.func15, Tryd.ntmps15
    go_wp2_with fail
    refine (valid_is k O G s false HV.out ad cap _ (HR.out.below (by go_grown))).mono ?_
    rintro eE W1 ⟨rfl, hg1⟩
    have hb1 : Below w.heap.size w W1 := (show Below w.heap.size w _ by go_grown).trans (hg1.mono (by first | omega | go_size))
    obtain ⟨hc1, hf1⟩ := bcell hg1
    have hs1 := hg1.size
    try simp only [World.size_alloc, World.size_setCell, World.size_drew] at hs1
    have hl1_0_0 : W1.cell? ⟨w.heap.size, 0, none⟩ = some (num k) := (hc1 _ _ (by first | omega | go_size)).trans (by first | (with_reducible assumption) | go_cell)
    have hz1_0_0 : W1.frozen? ⟨w.heap.size, 0, none⟩ = false := (hf1 _ _ (by first | omega | go_size)).trans (by first | (with_reducible assumption) | (go_simp; done) | (simp [*]; done))
    have hl1_0_1 : W1.cell? ⟨w.heap.size, 1, none⟩ = some (st O) := (hc1 _ _ (by first | omega | go_size)).trans (by first | (with_reducible assumption) | go_cell)
    have hz1_0_1 : W1.frozen? ⟨w.heap.size, 1, none⟩ = false := (hf1 _ _ (by first | omega | go_size)).trans (by first | (with_reducible assumption) | (go_simp; done) | (simp [*]; done))
    have hl1_0_2 : W1.cell? ⟨w.heap.size, 2, none⟩ = some (st G) := (hc1 _ _ (by first | omega | go_size)).trans (by first | (with_reducible assumption) | go_cell)
    have hz1_0_2 : W1.frozen? ⟨w.heap.size, 2, none⟩ = false := (hf1 _ _ (by first | omega | go_size)).trans (by first | (with_reducible assumption) | (go_simp; done) | (simp [*]; done))
    have hl1_0_3 : W1.cell? ⟨w.heap.size, 3, none⟩ = some (by8 s) := (hc1 _ _ (by first | omega | go_size)).trans (by first | (with_reducible assumption) | go_cell)
    have hz1_0_3 : W1.frozen? ⟨w.heap.size, 3, none⟩ = false := (hf1 _ _ (by first | omega | go_size)).trans (by first | (with_reducible assumption) | (go_simp; done) | (simp [*]; done))
    have hk1_0 : w.heap.size < W1.heap.size := by omega
    clear hg1 hc1 hf1
    go_wp2_with fail
    go_ret
    exact ⟨rfl, by go_grown⟩
  | true =>
    have HV := Lib.hid hv
    clear hv
    go_enter Tryd.func15, Tryd.ntmps15
    go_wp2_with fail
    refine (valid_is k O G s true HV.out ad cap _ (HR.out.below (by go_grown))).mono ?_
    rintro eE W1 ⟨rfl, hg1⟩
    have hb1 : Below w.heap.size w W1 := (show Below w.heap.size w _ by go_grown).trans (hg1.mono (by first | omega | go_size))
    obtain ⟨hc1, hf1⟩ := bcell hg1
    have hs1 := hg1.size
    try simp only [World.size_alloc, World.size_setCell, World.size_drew] at hs1
    have hl1_0_0 : W1.cell? ⟨w.heap.size, 0, none⟩ = some (num k) := (hc1 _ _ (by first | omega | go_size)).trans (by first | (with_reducible assumption) | go_cell)
    have hz1_0_0 : W1.frozen? ⟨w.heap.size, 0, none⟩ = false := (hf1 _ _ (by first | omega | go_size)).trans (by first | (with_reducible assumption) | (go_simp; done) | (simp [*]; done))
    have hl1_0_1 : W1.cell? ⟨w.heap.size, 1, none⟩ = some (st O) := (hc1 _ _ (by first | omega | go_size)).trans (by first | (with_reducible assumption) | go_cell)
    have hz1_0_1 : W1.frozen? ⟨w.heap.size, 1, none⟩ = false := (hf1 _ _ (by first | omega | go_size)).trans (by first | (with_reducible assumption) | (go_simp; done) | (simp [*]; done))
    have hl1_0_2 : W1.cell? ⟨w.heap.size, 2, none⟩ = some (st G) := (hc1 _ _ (by first | omega | go_size)).trans (by first | (with_reducible assumption) | go_cell)
    have hz1_0_2 : W1.frozen? ⟨w.heap.size, 2, none⟩ = false := (hf1 _ _ (by first | omega | go_size)).trans (by first | (with_reducible assumption) | (go_simp; done) | (simp [*]; done))
    have hl1_0_3 : W1.cell? ⟨w.heap.size, 3, none⟩ = some (by8 s) := (hc1 _ _ (by first | omega | go_size)).trans (by first | (with_reducible assumption) | go_cell)
    have hz1_0_3 : W1.frozen? ⟨w.heap.size, 3, none⟩ = false := (hf1 _ _ (by first | omega | go_size)).trans (by first | (with_reducible assumption) | (go_simp; done) | (simp [*]; done))
    have hk1_0 : w.heap.size < W1.heap.size := by omega
    clear hg1 hc1 hf1
    go_wp2_with fail
    go_ret
    exact ⟨rfl, by go_grown⟩

set_option maxRecDepth 100000 in
set_option maxHeartbeats 2000000 in
theorem new_no (k : Int) (O : Set64) (h : validB k O 0#64 0#8 = false) (ad : Addr) (cap : Nat) (w : World) (hR : Rules w ad cap) : Calls Tryd.prog 7 #[num k, st O] w (Gives w.heap.size w (.tuple #[dev 0 0#64 0#64 0#8, num 2])) := by
  unfold Gives
  have hb0 : Below w.heap.size w w := Below.refl _ _
  have HR := Lib.hid hR
  have HV := Lib.hid h
  clear hR h
  go_enter Tryd.func7, Tryd.ntmps7
  go_wp2_with fail
  refine (valid_is k O 0#64 0#8 false HV.out ad cap _ (HR.out.below (by go_grown))).mono ?_
  rintro eE W1 ⟨rfl, hg1⟩
  have hb1 : Below w.heap.size w W1 := (show Below w.heap.size w _ by go_grown).trans (hg1.mono (by first | omega | go_size))
  obtain ⟨hc1, hf1⟩ := bcell hg1
  have hs1 := hg1.size
  try simp only [World.size_alloc, World.size_setCell, World.size_drew] at hs1
  have hl1_0_0 : W1.cell? ⟨w.heap.size, 0, none⟩ = some (.int .i64 0) := (hc1 _ _ (by first | omega | go_size)).trans (by first | (with_reducible assumption) | go_cell)
  have hz1_0_0 : W1.frozen? ⟨w.heap.size, 0, none⟩ = false := (hf1 _ _ (by first | omega | go_size)).trans (by first | (with_reducible assumption) | (go_simp; done) | (simp [*]; done))
  have hl1_0_1 : W1.cell? ⟨w.heap.size, 1, none⟩ = some (.int .u64 0) := (hc1 _ _ (by first | omega | go_size)).trans (by first | (with_reducible assumption) | go_cell)
  have hz1_0_1 : W1.frozen? ⟨w.heap.size, 1, none⟩ = false := (hf1 _ _ (by first | omega | go_size)).trans (by first | (with_reducible assumption) | (go_simp; done) | (simp [*]; done))
  have hl1_0_2 : W1.cell? ⟨w.heap.size, 2, none⟩ = some (.int .u64 0) := (hc1 _ _ (by first | omega | go_size)).trans (by first | (with_reducible assumption) | go_cell)
  have hz1_0_2 : W1.frozen? ⟨w.heap.size, 2, none⟩ = false := (hf1 _ _ (by first | omega | go_size)).trans (by first | (with_reducible assumption) | (go_simp; done) | (simp [*]; done))
  have hl1_0_3 : W1.cell? ⟨w.heap.size, 3, none⟩ = some (.int .u8 0) := (hc1 _ _ (by first | omega | go_size)).trans (by first | (with_reducible assumption) | go_cell)
  have hz1_0_3 : W1.frozen? ⟨w.heap.size, 3, none⟩ = false := (hf1 _ _ (by first | omega | go_size)).trans (by first | (with_reducible assumption) | (go_simp; done) | (simp [*]; done))
  have hk1_0 : w.heap.size < W1.heap.size := by omega
  have hl1_1_0 : W1.cell? ⟨w.heap.size + 1, 0, none⟩ = some (num k) := (hc1 _ _ (by first | omega | go_size)).trans (by first | (with_reducible assumption) | go_cell)
  have hz1_1_0 : W1.frozen? ⟨w.heap.size + 1, 0, none⟩ = false := (hf1 _ _ (by first | omega | go_size)).trans (by first | (with_reducible assumption) | (go_simp; done) | (simp [*]; done))
  have hl1_1_1 : W1.cell? ⟨w.heap.size + 1, 1, none⟩ = some (st O) := (hc1 _ _ (by first | omega | go_size)).trans (by first | (with_reducible assumption) | go_cell)
  have hz1_1_1 : W1.frozen? ⟨w.heap.size + 1, 1, none⟩ = false := (hf1 _ _ (by first | omega | go_size)).trans (by first | (with_reducible assumption) | (go_simp; done) | (simp [*]; done))
  have hl1_1_2 : W1.cell? ⟨w.heap.size + 1, 2, none⟩ = some (.int .u64 0) := (hc1 _ _ (by first | omega | go_size)).trans (by first | (with_reducible assumption) | go_cell)
  have hz1_1_2 : W1.frozen? ⟨w.heap.size + 1, 2, none⟩ = false := (hf1 _ _ (by first | omega | go_size)).trans (by first | (with_reducible assumption) | (go_simp; done) | (simp [*]; done))
  have hl1_1_3 : W1.cell? ⟨w.heap.size + 1, 3, none⟩ = some (.int .u8 0) := (hc1 _ _ (by first | omega | go_size)).trans (by first | (with_reducible assumption) | go_cell)
  have hz1_1_3 : W1.frozen? ⟨w.heap.size + 1, 3, none⟩ = false := (hf1 _ _ (by first | omega | go_size)).trans (by first | (with_reducible assumption) | (go_simp; done) | (simp [*]; done))
  have hk1_1 : w.heap.size + 1 < W1.heap.size := by omega
  clear hg1 hc1 hf1
  go_wp2_with fail
  have hB2 : Below w.heap.size w (((((W1).setCell ⟨w.heap.size, 0, none⟩ (.int .i64 0)).setCell ⟨w.heap.size, 1, none⟩ (.int .u64 0)).setCell ⟨w.heap.size, 2, none⟩ (.int .u64 0)).setCell ⟨w.heap.size, 3, none⟩ (.int .u8 0)) := by go_grown
  generalize hG2 : ((((W1).setCell ⟨w.heap.size, 0, none⟩ (.int .i64 0)).setCell ⟨w.heap.size, 1, none⟩ (.int .u64 0)).setCell ⟨w.heap.size, 2, none⟩ (.int .u64 0)).setCell ⟨w.heap.size, 3, none⟩ (.int .u8 0) = WG2 at hB2 ⊢
  have hR2 := Lib.set_row (W := W1) (b := w.heap.size) [.int .i64 0, .int .u64 0, .int .u64 0, .int .u8 0] (by simp only [Lib.HasRow, Nat.zero_add, Nat.reduceAdd, and_true]; exact ⟨⟨_, by first | (with_reducible assumption) | go_cell | (simp [*]; done)⟩, ⟨_, by first | (with_reducible assumption) | go_cell | (simp [*]; done)⟩, ⟨_, by first | (with_reducible assumption) | go_cell | (simp [*]; done)⟩, ⟨_, by first | (with_reducible assumption) | go_cell | (simp [*]; done)⟩⟩) hG2
  clear hG2
  simp only [Lib.RowAt, Nat.zero_add, Nat.reduceAdd, and_true] at hR2
  obtain ⟨qr0, qr1, qr2, qr3⟩ := hR2
  exact bodyPost_ret (v := .tuple #[.agg #[.int .i64 0, .int .u64 0, .int .u64 0, .int .u8 0], num 2]) (by simp [results, Tryd.results7, go_sem, qr0, qr1, qr2, qr3]) rfl ⟨rfl, hB2⟩
set_option maxRecDepth 100000 in
set_option maxHeartbeats 2000000 in
theorem new_ok (k : Int) (O : Set64) (h : validB k O 0#64 0#8 = true) (ad : Addr) (cap : Nat) (w : World) (hR : Rules w ad cap) : Calls Tryd.prog 7 #[num k, st O] w (Gives w.heap.size w (.tuple #[dev k O 0#64 0#8, num 0])) := by
  unfold Gives
  have hb0 : Below w.heap.size w w := Below.refl _ _
  have HR := Lib.hid hR
  have HV := Lib.hid h
  clear hR h
  go_enter Tryd.func7, Tryd.ntmps7
  go_wp2_with fail
  refine (valid_is k O 0#64 0#8 true HV.out ad cap _ (HR.out.below (by go_grown))).mono ?_
  rintro eE W1 ⟨rfl, hg1⟩
  have hb1 : Below w.heap.size w W1 := (show Below w.heap.size w _ by go_grown).trans (hg1.mono (by first | omega | go_size))
  obtain ⟨hc1, hf1⟩ := bcell hg1
  have hs1 := hg1.size
  try simp only [World.size_alloc, World.size_setCell, World.size_drew] at hs1
  have hl1_0_0 : W1.cell? ⟨w.heap.size, 0, none⟩ = some (.int .i64 0) := (hc1 _ _ (by first | omega | go_size)).trans (by first | (with_reducible assumption) | go_cell)
  have hz1_0_0 : W1.frozen? ⟨w.heap.size, 0, none⟩ = false := (hf1 _ _ (by first | omega | go_size)).trans (by first | (with_reducible assumption) | (go_simp; done) | (simp [*]; done))
  have hl1_0_1 : W1.cell? ⟨w.heap.size, 1, none⟩ = some (.int .u64 0) := (hc1 _ _ (by first | omega | go_size)).trans (by first | (with_reducible assumption) | go_cell)
  have hz1_0_1 : W1.frozen? ⟨w.heap.size, 1, none⟩ = false := (hf1 _ _ (by first | omega | go_size)).trans (by first | (with_reducible assumption) | (go_simp; done) | (simp [*]; done))
  have hl1_0_2 : W1.cell? ⟨w.heap.size, 2, none⟩ = some (.int .u64 0) := (hc1 _ _ (by first | omega | go_size)).trans (by first | (with_reducible assumption) | go_cell)
  have hz1_0_2 : W1.frozen? ⟨w.heap.size, 2, none⟩ = false := (hf1 _ _ (by first | omega | go_size)).trans (by first | (with_reducible assumption) | (go_simp; done) | (simp [*]; done))
  have hl1_0_3 : W1.cell? ⟨w.heap.size, 3, none⟩ = some (.int .u8 0) := (hc1 _ _ (by first | omega | go_size)).trans (by first | (with_reducible assumption) | go_cell)
  have hz1_0_3 : W1.frozen? ⟨w.heap.size, 3, none⟩ = false := (hf1 _ _ (by first | omega | go_size)).trans (by first | (with_reducible assumption) | (go_simp; done) | (simp [*]; done))
  have hk1_0 : w.heap.size < W1.heap.size := by omega
  have hl1_1_0 : W1.cell? ⟨w.heap.size + 1, 0, none⟩ = some (num k) := (hc1 _ _ (by first | omega | go_size)).trans (by first | (with_reducible assumption) | go_cell)
  have hz1_1_0 : W1.frozen? ⟨w.heap.size + 1, 0, none⟩ = false := (hf1 _ _ (by first | omega | go_size)).trans (by first | (with_reducible assumption) | (go_simp; done) | (simp [*]; done))
  have hl1_1_1 : W1.cell? ⟨w.heap.size + 1, 1, none⟩ = some (st O) := (hc1 _ _ (by first | omega | go_size)).trans (by first | (with_reducible assumption) | go_cell)
  have hz1_1_1 : W1.frozen? ⟨w.heap.size + 1, 1, none⟩ = false := (hf1 _ _ (by first | omega | go_size)).trans (by first | (with_reducible assumption) | (go_simp; done) | (simp [*]; done))
  have hl1_1_2 : W1.cell? ⟨w.heap.size + 1, 2, none⟩ = some (.int .u64 0) := (hc1 _ _ (by first | omega | go_size)).trans (by first | (with_reducible assumption) | go_cell)
  have hz1_1_2 : W1.frozen? ⟨w.heap.size + 1, 2, none⟩ = false := (hf1 _ _ (by first | omega | go_size)).trans (by first | (with_reducible assumption) | (go_simp; done) | (simp [*]; done))
  have hl1_1_3 : W1.cell? ⟨w.heap.size + 1, 3, none⟩ = some (.int .u8 0) := (hc1 _ _ (by first | omega | go_size)).trans (by first | (with_reducible assumption) | go_cell)
  have hz1_1_3 : W1.frozen? ⟨w.heap.size + 1, 3, none⟩ = false := (hf1 _ _ (by first | omega | go_size)).trans (by first | (with_reducible assumption) | (go_simp; done) | (simp [*]; done))
  have hk1_1 : w.heap.size + 1 < W1.heap.size := by omega
  clear hg1 hc1 hf1
  go_wp2_with fail
  have hB2 : Below w.heap.size w (((((W1).setCell ⟨w.heap.size, 0, none⟩ (num k)).setCell ⟨w.heap.size, 1, none⟩ (st O)).setCell ⟨w.heap.size, 2, none⟩ (.int .u64 0)).setCell ⟨w.heap.size, 3, none⟩ (.int .u8 0)) := by go_grown
  generalize hG2 : ((((W1).setCell ⟨w.heap.size, 0, none⟩ (num k)).setCell ⟨w.heap.size, 1, none⟩ (st O)).setCell ⟨w.heap.size, 2, none⟩ (.int .u64 0)).setCell ⟨w.heap.size, 3, none⟩ (.int .u8 0) = WG2 at hB2 ⊢
  have hR2 := Lib.set_row (W := W1) (b := w.heap.size) [num k, st O, .int .u64 0, .int .u8 0] (by simp only [Lib.HasRow, Nat.zero_add, Nat.reduceAdd, and_true]; exact ⟨⟨_, by first | (with_reducible assumption) | go_cell | (simp [*]; done)⟩, ⟨_, by first | (with_reducible assumption) | go_cell | (simp [*]; done)⟩, ⟨_, by first | (with_reducible assumption) | go_cell | (simp [*]; done)⟩, ⟨_, by first | (with_reducible assumption) | go_cell | (simp [*]; done)⟩⟩) hG2
  clear hG2
  simp only [Lib.RowAt, Nat.zero_add, Nat.reduceAdd, and_true] at hR2
  obtain ⟨qr0, qr1, qr2, qr3⟩ := hR2
  exact bodyPost_ret (v := .tuple #[.agg #[num k, st O, .int .u64 0, .int .u8 0], num 0]) (by simp [results, Tryd.results7, go_sem, qr0, qr1, qr2, qr3]) rfl ⟨rfl, hB2⟩

set_option maxRecDepth 100000 in
set_option maxHeartbeats 2000000 in
theorem break_no (k : Int) (O G : Set64) (s : Byte) (h : validB k O G s = false) (ad : Addr) (cap : Nat) (w : World) (hR : Rules w ad cap) : Calls Tryd.prog 8 #[dev k O G s] w (Gives w.heap.size w (.tuple #[dev 0 0#64 0#64 0#8, num 2])) := by
  unfold Gives
  have hb0 : Below w.heap.size w w := Below.refl _ _
  have HR := Lib.hid hR
  have HV := Lib.hid h
  clear hR h
  go_enter Tryd.func8, Tryd.ntmps8
  go_wp2_with fail
  refine (valid_is k O G s false HV.out ad cap _ (HR.out.below (by go_grown))).mono ?_
  rintro eE W1 ⟨rfl, hg1⟩
  have hb1 : Below w.heap.size w W1 := (show Below w.heap.size w _ by go_grown).trans (hg1.mono (by first | omega | go_size))
  obtain ⟨hc1, hf1⟩ := bcell hg1
  have hs1 := hg1.size
  try simp only [World.size_alloc, World.size_setCell, World.size_drew] at hs1
  have hl1_0_0 : W1.cell? ⟨w.heap.size, 0, none⟩ = some (num k) := (hc1 _ _ (by first | omega | go_size)).trans (by first | (with_reducible assumption) | go_cell)
  have hz1_0_0 : W1.frozen? ⟨w.heap.size, 0, none⟩ = false := (hf1 _ _ (by first | omega | go_size)).trans (by first | (with_reducible assumption) | (go_simp; done) | (simp [*]; done))
  have hl1_0_1 : W1.cell? ⟨w.heap.size, 1, none⟩ = some (st O) := (hc1 _ _ (by first | omega | go_size)).trans (by first | (with_reducible assumption) | go_cell)
  have hz1_0_1 : W1.frozen? ⟨w.heap.size, 1, none⟩ = false := (hf1 _ _ (by first | omega | go_size)).trans (by first | (with_reducible assumption) | (go_simp; done) | (simp [*]; done))
  have hl1_0_2 : W1.cell? ⟨w.heap.size, 2, none⟩ = some (st G) := (hc1 _ _ (by first | omega | go_size)).trans (by first | (with_reducible assumption) | go_cell)
  have hz1_0_2 : W1.frozen? ⟨w.heap.size, 2, none⟩ = false := (hf1 _ _ (by first | omega | go_size)).trans (by first | (with_reducible assumption) | (go_simp; done) | (simp [*]; done))
  have hl1_0_3 : W1.cell? ⟨w.heap.size, 3, none⟩ = some (by8 s) := (hc1 _ _ (by first | omega | go_size)).trans (by first | (with_reducible assumption) | go_cell)
  have hz1_0_3 : W1.frozen? ⟨w.heap.size, 3, none⟩ = false := (hf1 _ _ (by first | omega | go_size)).trans (by first | (with_reducible assumption) | (go_simp; done) | (simp [*]; done))
  have hk1_0 : w.heap.size < W1.heap.size := by omega
  have hl1_1_0 : W1.cell? ⟨w.heap.size + 1, 0, none⟩ = some (.int .i64 0) := (hc1 _ _ (by first | omega | go_size)).trans (by first | (with_reducible assumption) | go_cell)
  have hz1_1_0 : W1.frozen? ⟨w.heap.size + 1, 0, none⟩ = false := (hf1 _ _ (by first | omega | go_size)).trans (by first | (with_reducible assumption) | (go_simp; done) | (simp [*]; done))
  have hl1_1_1 : W1.cell? ⟨w.heap.size + 1, 1, none⟩ = some (.int .u64 0) := (hc1 _ _ (by first | omega | go_size)).trans (by first | (with_reducible assumption) | go_cell)
  have hz1_1_1 : W1.frozen? ⟨w.heap.size + 1, 1, none⟩ = false := (hf1 _ _ (by first | omega | go_size)).trans (by first | (with_reducible assumption) | (go_simp; done) | (simp [*]; done))
  have hl1_1_2 : W1.cell? ⟨w.heap.size + 1, 2, none⟩ = some (.int .u64 0) := (hc1 _ _ (by first | omega | go_size)).trans (by first | (with_reducible assumption) | go_cell)
  have hz1_1_2 : W1.frozen? ⟨w.heap.size + 1, 2, none⟩ = false := (hf1 _ _ (by first | omega | go_size)).trans (by first | (with_reducible assumption) | (go_simp; done) | (simp [*]; done))
  have hl1_1_3 : W1.cell? ⟨w.heap.size + 1, 3, none⟩ = some (.int .u8 0) := (hc1 _ _ (by first | omega | go_size)).trans (by first | (with_reducible assumption) | go_cell)
  have hz1_1_3 : W1.frozen? ⟨w.heap.size + 1, 3, none⟩ = false := (hf1 _ _ (by first | omega | go_size)).trans (by first | (with_reducible assumption) | (go_simp; done) | (simp [*]; done))
  have hk1_1 : w.heap.size + 1 < W1.heap.size := by omega
  clear hg1 hc1 hf1
  go_wp2_with fail
  have hB2 : Below w.heap.size w (((((W1).setCell ⟨w.heap.size + 1, 0, none⟩ (.int .i64 0)).setCell ⟨w.heap.size + 1, 1, none⟩ (.int .u64 0)).setCell ⟨w.heap.size + 1, 2, none⟩ (.int .u64 0)).setCell ⟨w.heap.size + 1, 3, none⟩ (.int .u8 0)) := by go_grown
  generalize hG2 : ((((W1).setCell ⟨w.heap.size + 1, 0, none⟩ (.int .i64 0)).setCell ⟨w.heap.size + 1, 1, none⟩ (.int .u64 0)).setCell ⟨w.heap.size + 1, 2, none⟩ (.int .u64 0)).setCell ⟨w.heap.size + 1, 3, none⟩ (.int .u8 0) = WG2 at hB2 ⊢
  have hR2 := Lib.set_row (W := W1) (b := w.heap.size + 1) [.int .i64 0, .int .u64 0, .int .u64 0, .int .u8 0] (by simp only [Lib.HasRow, Nat.zero_add, Nat.reduceAdd, and_true]; exact ⟨⟨_, by first | (with_reducible assumption) | go_cell | (simp [*]; done)⟩, ⟨_, by first | (with_reducible assumption) | go_cell | (simp [*]; done)⟩, ⟨_, by first | (with_reducible assumption) | go_cell | (simp [*]; done)⟩, ⟨_, by first | (with_reducible assumption) | go_cell | (simp [*]; done)⟩⟩) hG2
  clear hG2
  simp only [Lib.RowAt, Nat.zero_add, Nat.reduceAdd, and_true] at hR2
  obtain ⟨qr0, qr1, qr2, qr3⟩ := hR2
  exact bodyPost_ret (v := .tuple #[.agg #[.int .i64 0, .int .u64 0, .int .u64 0, .int .u8 0], num 2]) (by simp [results, Tryd.results8, go_sem, qr0, qr1, qr2, qr3]) rfl ⟨rfl, hB2⟩
set_option maxRecDepth 100000 in
set_option maxHeartbeats 2000000 in
theorem break_dead (k : Int) (O G : Set64) (s : Byte) (h : validB k O G s = true) (hl : hasb s 4#8 = false) (ad : Addr) (cap : Nat) (w : World) (hR : Rules w ad cap) : Calls Tryd.prog 8 #[dev k O G s] w (Gives w.heap.size w (.tuple #[dev 0 0#64 0#64 0#8, num 8])) := by
  unfold Gives
  have hb0 : Below w.heap.size w w := Below.refl _ _
  have HR := Lib.hid hR
  have HV := Lib.hid h
  have HL := Lib.hid hl
  clear hR h hl
  go_enter Tryd.func8, Tryd.ntmps8
  go_wp2_with fail
  refine (valid_is k O G s true HV.out ad cap _ (HR.out.below (by go_grown))).mono ?_
  rintro eE W1 ⟨rfl, hg1⟩
  have hb1 : Below w.heap.size w W1 := (show Below w.heap.size w _ by go_grown).trans (hg1.mono (by first | omega | go_size))
  obtain ⟨hc1, hf1⟩ := bcell hg1
  have hs1 := hg1.size
  try simp only [World.size_alloc, World.size_setCell, World.size_drew] at hs1
  have hl1_0_0 : W1.cell? ⟨w.heap.size, 0, none⟩ = some (num k) := (hc1 _ _ (by first | omega | go_size)).trans (by first | (with_reducible assumption) | go_cell)
  have hz1_0_0 : W1.frozen? ⟨w.heap.size, 0, none⟩ = false := (hf1 _ _ (by first | omega | go_size)).trans (by first | (with_reducible assumption) | (go_simp; done) | (simp [*]; done))
  have hl1_0_1 : W1.cell? ⟨w.heap.size, 1, none⟩ = some (st O) := (hc1 _ _ (by first | omega | go_size)).trans (by first | (with_reducible assumption) | go_cell)
  have hz1_0_1 : W1.frozen? ⟨w.heap.size, 1, none⟩ = false := (hf1 _ _ (by first | omega | go_size)).trans (by first | (with_reducible assumption) | (go_simp; done) | (simp [*]; done))
  have hl1_0_2 : W1.cell? ⟨w.heap.size, 2, none⟩ = some (st G) := (hc1 _ _ (by first | omega | go_size)).trans (by first | (with_reducible assumption) | go_cell)
  have hz1_0_2 : W1.frozen? ⟨w.heap.size, 2, none⟩ = false := (hf1 _ _ (by first | omega | go_size)).trans (by first | (with_reducible assumption) | (go_simp; done) | (simp [*]; done))
  have hl1_0_3 : W1.cell? ⟨w.heap.size, 3, none⟩ = some (by8 s) := (hc1 _ _ (by first | omega | go_size)).trans (by first | (with_reducible assumption) | go_cell)
  have hz1_0_3 : W1.frozen? ⟨w.heap.size, 3, none⟩ = false := (hf1 _ _ (by first | omega | go_size)).trans (by first | (with_reducible assumption) | (go_simp; done) | (simp [*]; done))
  have hk1_0 : w.heap.size < W1.heap.size := by omega
  have hl1_1_0 : W1.cell? ⟨w.heap.size + 1, 0, none⟩ = some (.int .i64 0) := (hc1 _ _ (by first | omega | go_size)).trans (by first | (with_reducible assumption) | go_cell)
  have hz1_1_0 : W1.frozen? ⟨w.heap.size + 1, 0, none⟩ = false := (hf1 _ _ (by first | omega | go_size)).trans (by first | (with_reducible assumption) | (go_simp; done) | (simp [*]; done))
  have hl1_1_1 : W1.cell? ⟨w.heap.size + 1, 1, none⟩ = some (.int .u64 0) := (hc1 _ _ (by first | omega | go_size)).trans (by first | (with_reducible assumption) | go_cell)
  have hz1_1_1 : W1.frozen? ⟨w.heap.size + 1, 1, none⟩ = false := (hf1 _ _ (by first | omega | go_size)).trans (by first | (with_reducible assumption) | (go_simp; done) | (simp [*]; done))
  have hl1_1_2 : W1.cell? ⟨w.heap.size + 1, 2, none⟩ = some (.int .u64 0) := (hc1 _ _ (by first | omega | go_size)).trans (by first | (with_reducible assumption) | go_cell)
  have hz1_1_2 : W1.frozen? ⟨w.heap.size + 1, 2, none⟩ = false := (hf1 _ _ (by first | omega | go_size)).trans (by first | (with_reducible assumption) | (go_simp; done) | (simp [*]; done))
  have hl1_1_3 : W1.cell? ⟨w.heap.size + 1, 3, none⟩ = some (.int .u8 0) := (hc1 _ _ (by first | omega | go_size)).trans (by first | (with_reducible assumption) | go_cell)
  have hz1_1_3 : W1.frozen? ⟨w.heap.size + 1, 3, none⟩ = false := (hf1 _ _ (by first | omega | go_size)).trans (by first | (with_reducible assumption) | (go_simp; done) | (simp [*]; done))
  have hk1_1 : w.heap.size + 1 < W1.heap.size := by omega
  clear hg1 hc1 hf1
  go_wp2_with fail
  refine (St.has_is k O G s 4#8 false HL.out _).mono ?_
  rintro eE W3 ⟨rfl, hg3⟩
  have hb3 : Below w.heap.size w W3 := (show Below w.heap.size w _ by go_grown).trans (hg3.mono (by first | omega | go_size))
  obtain ⟨hc3, hf3⟩ := bcell hg3
  have hs3 := hg3.size
  try simp only [World.size_alloc, World.size_setCell, World.size_drew] at hs3
  have hl3_0_0 : W3.cell? ⟨w.heap.size, 0, none⟩ = some (num k) := (hc3 _ _ (by first | omega | go_size)).trans (by first | (with_reducible assumption) | go_cell)
  have hz3_0_0 : W3.frozen? ⟨w.heap.size, 0, none⟩ = false := (hf3 _ _ (by first | omega | go_size)).trans (by first | (with_reducible assumption) | (go_simp; done) | (simp [*]; done))
  have hl3_0_1 : W3.cell? ⟨w.heap.size, 1, none⟩ = some (st O) := (hc3 _ _ (by first | omega | go_size)).trans (by first | (with_reducible assumption) | go_cell)
  have hz3_0_1 : W3.frozen? ⟨w.heap.size, 1, none⟩ = false := (hf3 _ _ (by first | omega | go_size)).trans (by first | (with_reducible assumption) | (go_simp; done) | (simp [*]; done))
  have hl3_0_2 : W3.cell? ⟨w.heap.size, 2, none⟩ = some (st G) := (hc3 _ _ (by first | omega | go_size)).trans (by first | (with_reducible assumption) | go_cell)
  have hz3_0_2 : W3.frozen? ⟨w.heap.size, 2, none⟩ = false := (hf3 _ _ (by first | omega | go_size)).trans (by first | (with_reducible assumption) | (go_simp; done) | (simp [*]; done))
  have hl3_0_3 : W3.cell? ⟨w.heap.size, 3, none⟩ = some (by8 s) := (hc3 _ _ (by first | omega | go_size)).trans (by first | (with_reducible assumption) | go_cell)
  have hz3_0_3 : W3.frozen? ⟨w.heap.size, 3, none⟩ = false := (hf3 _ _ (by first | omega | go_size)).trans (by first | (with_reducible assumption) | (go_simp; done) | (simp [*]; done))
  have hk3_0 : w.heap.size < W3.heap.size := by omega
  have hl3_1_0 : W3.cell? ⟨w.heap.size + 1, 0, none⟩ = some (.int .i64 0) := (hc3 _ _ (by first | omega | go_size)).trans (by first | (with_reducible assumption) | go_cell)
  have hz3_1_0 : W3.frozen? ⟨w.heap.size + 1, 0, none⟩ = false := (hf3 _ _ (by first | omega | go_size)).trans (by first | (with_reducible assumption) | (go_simp; done) | (simp [*]; done))
  have hl3_1_1 : W3.cell? ⟨w.heap.size + 1, 1, none⟩ = some (.int .u64 0) := (hc3 _ _ (by first | omega | go_size)).trans (by first | (with_reducible assumption) | go_cell)
  have hz3_1_1 : W3.frozen? ⟨w.heap.size + 1, 1, none⟩ = false := (hf3 _ _ (by first | omega | go_size)).trans (by first | (with_reducible assumption) | (go_simp; done) | (simp [*]; done))
  have hl3_1_2 : W3.cell? ⟨w.heap.size + 1, 2, none⟩ = some (.int .u64 0) := (hc3 _ _ (by first | omega | go_size)).trans (by first | (with_reducible assumption) | go_cell)
  have hz3_1_2 : W3.frozen? ⟨w.heap.size + 1, 2, none⟩ = false := (hf3 _ _ (by first | omega | go_size)).trans (by first | (with_reducible assumption) | (go_simp; done) | (simp [*]; done))
  have hl3_1_3 : W3.cell? ⟨w.heap.size + 1, 3, none⟩ = some (.int .u8 0) := (hc3 _ _ (by first | omega | go_size)).trans (by first | (with_reducible assumption) | go_cell)
  have hz3_1_3 : W3.frozen? ⟨w.heap.size + 1, 3, none⟩ = false := (hf3 _ _ (by first | omega | go_size)).trans (by first | (with_reducible assumption) | (go_simp; done) | (simp [*]; done))
  have hk3_1 : w.heap.size + 1 < W3.heap.size := by omega
  clear hg3 hc3 hf3
  go_wp2_with fail
  have hB2 : Below w.heap.size w (((((W3).setCell ⟨w.heap.size + 1, 0, none⟩ (.int .i64 0)).setCell ⟨w.heap.size + 1, 1, none⟩ (.int .u64 0)).setCell ⟨w.heap.size + 1, 2, none⟩ (.int .u64 0)).setCell ⟨w.heap.size + 1, 3, none⟩ (.int .u8 0)) := by go_grown
  generalize hG2 : ((((W3).setCell ⟨w.heap.size + 1, 0, none⟩ (.int .i64 0)).setCell ⟨w.heap.size + 1, 1, none⟩ (.int .u64 0)).setCell ⟨w.heap.size + 1, 2, none⟩ (.int .u64 0)).setCell ⟨w.heap.size + 1, 3, none⟩ (.int .u8 0) = WG2 at hB2 ⊢
  have hR2 := Lib.set_row (W := W3) (b := w.heap.size + 1) [.int .i64 0, .int .u64 0, .int .u64 0, .int .u8 0] (by simp only [Lib.HasRow, Nat.zero_add, Nat.reduceAdd, and_true]; exact ⟨⟨_, by first | (with_reducible assumption) | go_cell | (simp [*]; done)⟩, ⟨_, by first | (with_reducible assumption) | go_cell | (simp [*]; done)⟩, ⟨_, by first | (with_reducible assumption) | go_cell | (simp [*]; done)⟩, ⟨_, by first | (with_reducible assumption) | go_cell | (simp [*]; done)⟩⟩) hG2
  clear hG2
  simp only [Lib.RowAt, Nat.zero_add, Nat.reduceAdd, and_true] at hR2
  obtain ⟨qr0, qr1, qr2, qr3⟩ := hR2
  exact bodyPost_ret (v := .tuple #[.agg #[.int .i64 0, .int .u64 0, .int .u64 0, .int .u8 0], num 8]) (by simp [results, Tryd.results8, go_sem, qr0, qr1, qr2, qr3]) rfl ⟨rfl, hB2⟩
set_option maxRecDepth 100000 in
set_option maxHeartbeats 2000000 in
theorem break_ok (k : Int) (O G : Set64) (s : Byte) (h : validB k O G s = true) (hl : hasb s 4#8 = true) (S : Byte) (hS : s ||| 64#8 = S) (ad : Addr) (cap : Nat) (w : World) (hR : Rules w ad cap) : Calls Tryd.prog 8 #[dev k O G s] w (Gives w.heap.size w (.tuple #[dev k O G S, num 0])) := by
  unfold Gives
  have hW := fun W => with_is k O G s 64#8 W
  rw [hS] at hW
  have HW := Lib.hid hW
  clear hW
  have hb0 : Below w.heap.size w w := Below.refl _ _
  have HR := Lib.hid hR
  have HV := Lib.hid h
  have HL := Lib.hid hl
  clear hR h hl
  go_enter Tryd.func8, Tryd.ntmps8
  go_wp2_with fail
  refine (valid_is k O G s true HV.out ad cap _ (HR.out.below (by go_grown))).mono ?_
  rintro eE W1 ⟨rfl, hg1⟩
  have hb1 : Below w.heap.size w W1 := (show Below w.heap.size w _ by go_grown).trans (hg1.mono (by first | omega | go_size))
  obtain ⟨hc1, hf1⟩ := bcell hg1
  have hs1 := hg1.size
  try simp only [World.size_alloc, World.size_setCell, World.size_drew] at hs1
  have hl1_0_0 : W1.cell? ⟨w.heap.size, 0, none⟩ = some (num k) := (hc1 _ _ (by first | omega | go_size)).trans (by first | (with_reducible assumption) | go_cell)
  have hz1_0_0 : W1.frozen? ⟨w.heap.size, 0, none⟩ = false := (hf1 _ _ (by first | omega | go_size)).trans (by first | (with_reducible assumption) | (go_simp; done) | (simp [*]; done))
  have hl1_0_1 : W1.cell? ⟨w.heap.size, 1, none⟩ = some (st O) := (hc1 _ _ (by first | omega | go_size)).trans (by first | (with_reducible assumption) | go_cell)
  have hz1_0_1 : W1.frozen? ⟨w.heap.size, 1, none⟩ = false := (hf1 _ _ (by first | omega | go_size)).trans (by first | (with_reducible assumption) | (go_simp; done) | (simp [*]; done))
  have hl1_0_2 : W1.cell? ⟨w.heap.size, 2, none⟩ = some (st G) := (hc1 _ _ (by first | omega | go_size)).trans (by first | (with_reducible assumption) | go_cell)
  have hz1_0_2 : W1.frozen? ⟨w.heap.size, 2, none⟩ = false := (hf1 _ _ (by first | omega | go_size)).trans (by first | (with_reducible assumption) | (go_simp; done) | (simp [*]; done))
  have hl1_0_3 : W1.cell? ⟨w.heap.size, 3, none⟩ = some (by8 s) := (hc1 _ _ (by first | omega | go_size)).trans (by first | (with_reducible assumption) | go_cell)
  have hz1_0_3 : W1.frozen? ⟨w.heap.size, 3, none⟩ = false := (hf1 _ _ (by first | omega | go_size)).trans (by first | (with_reducible assumption) | (go_simp; done) | (simp [*]; done))
  have hk1_0 : w.heap.size < W1.heap.size := by omega
  have hl1_1_0 : W1.cell? ⟨w.heap.size + 1, 0, none⟩ = some (.int .i64 0) := (hc1 _ _ (by first | omega | go_size)).trans (by first | (with_reducible assumption) | go_cell)
  have hz1_1_0 : W1.frozen? ⟨w.heap.size + 1, 0, none⟩ = false := (hf1 _ _ (by first | omega | go_size)).trans (by first | (with_reducible assumption) | (go_simp; done) | (simp [*]; done))
  have hl1_1_1 : W1.cell? ⟨w.heap.size + 1, 1, none⟩ = some (.int .u64 0) := (hc1 _ _ (by first | omega | go_size)).trans (by first | (with_reducible assumption) | go_cell)
  have hz1_1_1 : W1.frozen? ⟨w.heap.size + 1, 1, none⟩ = false := (hf1 _ _ (by first | omega | go_size)).trans (by first | (with_reducible assumption) | (go_simp; done) | (simp [*]; done))
  have hl1_1_2 : W1.cell? ⟨w.heap.size + 1, 2, none⟩ = some (.int .u64 0) := (hc1 _ _ (by first | omega | go_size)).trans (by first | (with_reducible assumption) | go_cell)
  have hz1_1_2 : W1.frozen? ⟨w.heap.size + 1, 2, none⟩ = false := (hf1 _ _ (by first | omega | go_size)).trans (by first | (with_reducible assumption) | (go_simp; done) | (simp [*]; done))
  have hl1_1_3 : W1.cell? ⟨w.heap.size + 1, 3, none⟩ = some (.int .u8 0) := (hc1 _ _ (by first | omega | go_size)).trans (by first | (with_reducible assumption) | go_cell)
  have hz1_1_3 : W1.frozen? ⟨w.heap.size + 1, 3, none⟩ = false := (hf1 _ _ (by first | omega | go_size)).trans (by first | (with_reducible assumption) | (go_simp; done) | (simp [*]; done))
  have hk1_1 : w.heap.size + 1 < W1.heap.size := by omega
  clear hg1 hc1 hf1
  go_wp2_with fail
  refine (St.has_is k O G s 4#8 true HL.out _).mono ?_
  rintro eE W3 ⟨rfl, hg3⟩
  have hb3 : Below w.heap.size w W3 := (show Below w.heap.size w _ by go_grown).trans (hg3.mono (by first | omega | go_size))
  obtain ⟨hc3, hf3⟩ := bcell hg3
  have hs3 := hg3.size
  try simp only [World.size_alloc, World.size_setCell, World.size_drew] at hs3
  have hl3_0_0 : W3.cell? ⟨w.heap.size, 0, none⟩ = some (num k) := (hc3 _ _ (by first | omega | go_size)).trans (by first | (with_reducible assumption) | go_cell)
  have hz3_0_0 : W3.frozen? ⟨w.heap.size, 0, none⟩ = false := (hf3 _ _ (by first | omega | go_size)).trans (by first | (with_reducible assumption) | (go_simp; done) | (simp [*]; done))
  have hl3_0_1 : W3.cell? ⟨w.heap.size, 1, none⟩ = some (st O) := (hc3 _ _ (by first | omega | go_size)).trans (by first | (with_reducible assumption) | go_cell)
  have hz3_0_1 : W3.frozen? ⟨w.heap.size, 1, none⟩ = false := (hf3 _ _ (by first | omega | go_size)).trans (by first | (with_reducible assumption) | (go_simp; done) | (simp [*]; done))
  have hl3_0_2 : W3.cell? ⟨w.heap.size, 2, none⟩ = some (st G) := (hc3 _ _ (by first | omega | go_size)).trans (by first | (with_reducible assumption) | go_cell)
  have hz3_0_2 : W3.frozen? ⟨w.heap.size, 2, none⟩ = false := (hf3 _ _ (by first | omega | go_size)).trans (by first | (with_reducible assumption) | (go_simp; done) | (simp [*]; done))
  have hl3_0_3 : W3.cell? ⟨w.heap.size, 3, none⟩ = some (by8 s) := (hc3 _ _ (by first | omega | go_size)).trans (by first | (with_reducible assumption) | go_cell)
  have hz3_0_3 : W3.frozen? ⟨w.heap.size, 3, none⟩ = false := (hf3 _ _ (by first | omega | go_size)).trans (by first | (with_reducible assumption) | (go_simp; done) | (simp [*]; done))
  have hk3_0 : w.heap.size < W3.heap.size := by omega
  have hl3_1_0 : W3.cell? ⟨w.heap.size + 1, 0, none⟩ = some (.int .i64 0) := (hc3 _ _ (by first | omega | go_size)).trans (by first | (with_reducible assumption) | go_cell)
  have hz3_1_0 : W3.frozen? ⟨w.heap.size + 1, 0, none⟩ = false := (hf3 _ _ (by first | omega | go_size)).trans (by first | (with_reducible assumption) | (go_simp; done) | (simp [*]; done))
  have hl3_1_1 : W3.cell? ⟨w.heap.size + 1, 1, none⟩ = some (.int .u64 0) := (hc3 _ _ (by first | omega | go_size)).trans (by first | (with_reducible assumption) | go_cell)
  have hz3_1_1 : W3.frozen? ⟨w.heap.size + 1, 1, none⟩ = false := (hf3 _ _ (by first | omega | go_size)).trans (by first | (with_reducible assumption) | (go_simp; done) | (simp [*]; done))
  have hl3_1_2 : W3.cell? ⟨w.heap.size + 1, 2, none⟩ = some (.int .u64 0) := (hc3 _ _ (by first | omega | go_size)).trans (by first | (with_reducible assumption) | go_cell)
  have hz3_1_2 : W3.frozen? ⟨w.heap.size + 1, 2, none⟩ = false := (hf3 _ _ (by first | omega | go_size)).trans (by first | (with_reducible assumption) | (go_simp; done) | (simp [*]; done))
  have hl3_1_3 : W3.cell? ⟨w.heap.size + 1, 3, none⟩ = some (.int .u8 0) := (hc3 _ _ (by first | omega | go_size)).trans (by first | (with_reducible assumption) | go_cell)
  have hz3_1_3 : W3.frozen? ⟨w.heap.size + 1, 3, none⟩ = false := (hf3 _ _ (by first | omega | go_size)).trans (by first | (with_reducible assumption) | (go_simp; done) | (simp [*]; done))
  have hk3_1 : w.heap.size + 1 < W3.heap.size := by omega
  clear hg3 hc3 hf3
  go_wp2_with fail
  refine (HW.out _).mono ?_
  rintro eE W4 ⟨rfl, hg4⟩
  have hb4 : Below w.heap.size w W4 := (show Below w.heap.size w _ by go_grown).trans (hg4.mono (by first | omega | go_size))
  obtain ⟨hc4, hf4⟩ := bcell hg4
  have hs4 := hg4.size
  try simp only [World.size_alloc, World.size_setCell, World.size_drew] at hs4
  have hl4_0_0 : W4.cell? ⟨w.heap.size, 0, none⟩ = some (num k) := (hc4 _ _ (by first | omega | go_size)).trans (by first | (with_reducible assumption) | go_cell)
  have hz4_0_0 : W4.frozen? ⟨w.heap.size, 0, none⟩ = false := (hf4 _ _ (by first | omega | go_size)).trans (by first | (with_reducible assumption) | (go_simp; done) | (simp [*]; done))
  have hl4_0_1 : W4.cell? ⟨w.heap.size, 1, none⟩ = some (st O) := (hc4 _ _ (by first | omega | go_size)).trans (by first | (with_reducible assumption) | go_cell)
  have hz4_0_1 : W4.frozen? ⟨w.heap.size, 1, none⟩ = false := (hf4 _ _ (by first | omega | go_size)).trans (by first | (with_reducible assumption) | (go_simp; done) | (simp [*]; done))
  have hl4_0_2 : W4.cell? ⟨w.heap.size, 2, none⟩ = some (st G) := (hc4 _ _ (by first | omega | go_size)).trans (by first | (with_reducible assumption) | go_cell)
  have hz4_0_2 : W4.frozen? ⟨w.heap.size, 2, none⟩ = false := (hf4 _ _ (by first | omega | go_size)).trans (by first | (with_reducible assumption) | (go_simp; done) | (simp [*]; done))
  have hl4_0_3 : W4.cell? ⟨w.heap.size, 3, none⟩ = some (by8 s) := (hc4 _ _ (by first | omega | go_size)).trans (by first | (with_reducible assumption) | go_cell)
  have hz4_0_3 : W4.frozen? ⟨w.heap.size, 3, none⟩ = false := (hf4 _ _ (by first | omega | go_size)).trans (by first | (with_reducible assumption) | (go_simp; done) | (simp [*]; done))
  have hk4_0 : w.heap.size < W4.heap.size := by omega
  have hl4_1_0 : W4.cell? ⟨w.heap.size + 1, 0, none⟩ = some (.int .i64 0) := (hc4 _ _ (by first | omega | go_size)).trans (by first | (with_reducible assumption) | go_cell)
  have hz4_1_0 : W4.frozen? ⟨w.heap.size + 1, 0, none⟩ = false := (hf4 _ _ (by first | omega | go_size)).trans (by first | (with_reducible assumption) | (go_simp; done) | (simp [*]; done))
  have hl4_1_1 : W4.cell? ⟨w.heap.size + 1, 1, none⟩ = some (.int .u64 0) := (hc4 _ _ (by first | omega | go_size)).trans (by first | (with_reducible assumption) | go_cell)
  have hz4_1_1 : W4.frozen? ⟨w.heap.size + 1, 1, none⟩ = false := (hf4 _ _ (by first | omega | go_size)).trans (by first | (with_reducible assumption) | (go_simp; done) | (simp [*]; done))
  have hl4_1_2 : W4.cell? ⟨w.heap.size + 1, 2, none⟩ = some (.int .u64 0) := (hc4 _ _ (by first | omega | go_size)).trans (by first | (with_reducible assumption) | go_cell)
  have hz4_1_2 : W4.frozen? ⟨w.heap.size + 1, 2, none⟩ = false := (hf4 _ _ (by first | omega | go_size)).trans (by first | (with_reducible assumption) | (go_simp; done) | (simp [*]; done))
  have hl4_1_3 : W4.cell? ⟨w.heap.size + 1, 3, none⟩ = some (.int .u8 0) := (hc4 _ _ (by first | omega | go_size)).trans (by first | (with_reducible assumption) | go_cell)
  have hz4_1_3 : W4.frozen? ⟨w.heap.size + 1, 3, none⟩ = false := (hf4 _ _ (by first | omega | go_size)).trans (by first | (with_reducible assumption) | (go_simp; done) | (simp [*]; done))
  have hk4_1 : w.heap.size + 1 < W4.heap.size := by omega
  clear hg4 hc4 hf4
  go_wp2_with fail
  have hB2 : Below w.heap.size w (((((W4).setCell ⟨w.heap.size + 1, 0, none⟩ (num k)).setCell ⟨w.heap.size + 1, 1, none⟩ (st O)).setCell ⟨w.heap.size + 1, 2, none⟩ (st G)).setCell ⟨w.heap.size + 1, 3, none⟩ (by8 S)) := by go_grown
  generalize hG2 : ((((W4).setCell ⟨w.heap.size + 1, 0, none⟩ (num k)).setCell ⟨w.heap.size + 1, 1, none⟩ (st O)).setCell ⟨w.heap.size + 1, 2, none⟩ (st G)).setCell ⟨w.heap.size + 1, 3, none⟩ (by8 S) = WG2 at hB2 ⊢
  have hR2 := Lib.set_row (W := W4) (b := w.heap.size + 1) [num k, st O, st G, by8 S] (by simp only [Lib.HasRow, Nat.zero_add, Nat.reduceAdd, and_true]; exact ⟨⟨_, by first | (with_reducible assumption) | go_cell | (simp [*]; done)⟩, ⟨_, by first | (with_reducible assumption) | go_cell | (simp [*]; done)⟩, ⟨_, by first | (with_reducible assumption) | go_cell | (simp [*]; done)⟩, ⟨_, by first | (with_reducible assumption) | go_cell | (simp [*]; done)⟩⟩) hG2
  clear hG2
  simp only [Lib.RowAt, Nat.zero_add, Nat.reduceAdd, and_true] at hR2
  obtain ⟨qr0, qr1, qr2, qr3⟩ := hR2
  exact bodyPost_ret (v := .tuple #[.agg #[num k, st O, st G, by8 S], num 0]) (by simp [results, Tryd.results8, go_sem, qr0, qr1, qr2, qr3]) rfl ⟨rfl, hB2⟩

set_option maxRecDepth 100000 in
set_option maxHeartbeats 2000000 in
theorem ask_is (k : Int) (O G : Set64) (s : Byte) (X G' : Set64) (h : askG k O G s X = G') (ad : Addr) (cap : Nat) (w : World) (hR : Rules w ad cap) : Calls Tryd.prog 14 #[dev k O G s, st X] w (Gives w.heap.size w (dev k O G' s)) := by
  unfold Gives
  subst h
  unfold askG askB
  have hb0 : Below w.heap.size w w := Below.refl _ _
  have HR := Lib.hid hR
  clear hR
  cases hv : validB k O G s with
  | false =>
    have HV := Lib.hid hv
    clear hv
    show Calls _ _ _ _ fun e w' => e = .returned (dev k O G s) ∧ _
    go_enter Tryd.func14, Tryd.ntmps14
    go_wp2_with fail
    refine (valid_is k O G s false HV.out ad cap _ (HR.out.below (by go_grown))).mono ?_
    rintro eE W1 ⟨rfl, hg1⟩
    have hb1 : Below w.heap.size w W1 := (show Below w.heap.size w _ by go_grown).trans (hg1.mono (by first | omega | go_size))
    obtain ⟨hc1, hf1⟩ := bcell hg1
    have hs1 := hg1.size
    try simp only [World.size_alloc, World.size_setCell, World.size_drew] at hs1
    have hl1_0_0 : W1.cell? ⟨w.heap.size, 0, none⟩ = some (num k) := (hc1 _ _ (by first | omega | go_size)).trans (by first | (with_reducible assumption) | go_cell)
    have hz1_0_0 : W1.frozen? ⟨w.heap.size, 0, none⟩ = false := (hf1 _ _ (by first | omega | go_size)).trans (by first | (with_reducible assumption) | (go_simp; done) | (simp [*]; done))
    have hl1_0_1 : W1.cell? ⟨w.heap.size, 1, none⟩ = some (st O) := (hc1 _ _ (by first | omega | go_size)).trans (by first | (with_reducible assumption) | go_cell)
    have hz1_0_1 : W1.frozen? ⟨w.heap.size, 1, none⟩ = false := (hf1 _ _ (by first | omega | go_size)).trans (by first | (with_reducible assumption) | (go_simp; done) | (simp [*]; done))
    have hl1_0_2 : W1.cell? ⟨w.heap.size, 2, none⟩ = some (st G) := (hc1 _ _ (by first | omega | go_size)).trans (by first | (with_reducible assumption) | go_cell)
    have hz1_0_2 : W1.frozen? ⟨w.heap.size, 2, none⟩ = false := (hf1 _ _ (by first | omega | go_size)).trans (by first | (with_reducible assumption) | (go_simp; done) | (simp [*]; done))
    have hl1_0_3 : W1.cell? ⟨w.heap.size, 3, none⟩ = some (by8 s) := (hc1 _ _ (by first | omega | go_size)).trans (by first | (with_reducible assumption) | go_cell)
    have hz1_0_3 : W1.frozen? ⟨w.heap.size, 3, none⟩ = false := (hf1 _ _ (by first | omega | go_size)).trans (by first | (with_reducible assumption) | (go_simp; done) | (simp [*]; done))
    have hk1_0 : w.heap.size < W1.heap.size := by omega
    have hl1_1_0 : W1.cell? ⟨w.heap.size + 1, 0, none⟩ = some (.int .i64 0) := (hc1 _ _ (by first | omega | go_size)).trans (by first | (with_reducible assumption) | go_cell)
    have hz1_1_0 : W1.frozen? ⟨w.heap.size + 1, 0, none⟩ = false := (hf1 _ _ (by first | omega | go_size)).trans (by first | (with_reducible assumption) | (go_simp; done) | (simp [*]; done))
    have hl1_1_1 : W1.cell? ⟨w.heap.size + 1, 1, none⟩ = some (.int .u64 0) := (hc1 _ _ (by first | omega | go_size)).trans (by first | (with_reducible assumption) | go_cell)
    have hz1_1_1 : W1.frozen? ⟨w.heap.size + 1, 1, none⟩ = false := (hf1 _ _ (by first | omega | go_size)).trans (by first | (with_reducible assumption) | (go_simp; done) | (simp [*]; done))
    have hl1_1_2 : W1.cell? ⟨w.heap.size + 1, 2, none⟩ = some (.int .u64 0) := (hc1 _ _ (by first | omega | go_size)).trans (by first | (with_reducible assumption) | go_cell)
    have hz1_1_2 : W1.frozen? ⟨w.heap.size + 1, 2, none⟩ = false := (hf1 _ _ (by first | omega | go_size)).trans (by first | (with_reducible assumption) | (go_simp; done) | (simp [*]; done))
    have hl1_1_3 : W1.cell? ⟨w.heap.size + 1, 3, none⟩ = some (.int .u8 0) := (hc1 _ _ (by first | omega | go_size)).trans (by first | (with_reducible assumption) | go_cell)
    have hz1_1_3 : W1.frozen? ⟨w.heap.size + 1, 3, none⟩ = false := (hf1 _ _ (by first | omega | go_size)).trans (by first | (with_reducible assumption) | (go_simp; done) | (simp [*]; done))
    have hk1_1 : w.heap.size + 1 < W1.heap.size := by omega
    clear hg1 hc1 hf1
    go_wp2_with fail
    have hB2 : Below w.heap.size w (((((W1).setCell ⟨w.heap.size + 1, 0, none⟩ (num k)).setCell ⟨w.heap.size + 1, 1, none⟩ (st O)).setCell ⟨w.heap.size + 1, 2, none⟩ (st G)).setCell ⟨w.heap.size + 1, 3, none⟩ (by8 s)) := by go_grown
    generalize hG2 : ((((W1).setCell ⟨w.heap.size + 1, 0, none⟩ (num k)).setCell ⟨w.heap.size + 1, 1, none⟩ (st O)).setCell ⟨w.heap.size + 1, 2, none⟩ (st G)).setCell ⟨w.heap.size + 1, 3, none⟩ (by8 s) = WG2 at hB2 ⊢
    have hR2 := Lib.set_row (W := W1) (b := w.heap.size + 1) [num k, st O, st G, by8 s] (by simp only [Lib.HasRow, Nat.zero_add, Nat.reduceAdd, and_true]; exact ⟨⟨_, by first | (with_reducible assumption) | go_cell | (simp [*]; done)⟩, ⟨_, by first | (with_reducible assumption) | go_cell | (simp [*]; done)⟩, ⟨_, by first | (with_reducible assumption) | go_cell | (simp [*]; done)⟩, ⟨_, by first | (with_reducible assumption) | go_cell | (simp [*]; done)⟩⟩) hG2
    clear hG2
    simp only [Lib.RowAt, Nat.zero_add, Nat.reduceAdd, and_true] at hR2
    obtain ⟨qr0, qr1, qr2, qr3⟩ := hR2
    exact bodyPost_ret (v := dev k O G s) (by simp [results, Tryd.results14, go_sem, qr0, qr1, qr2, qr3]) rfl ⟨rfl, hB2⟩
  | true =>
    have HV := Lib.hid hv
    clear hv
    cases hd : hasb s 2#8 with
    | false =>
      have HD := Lib.hid hd
      clear hd
      show Calls _ _ _ _ fun e w' => e = .returned (dev k O G s) ∧ _
      go_enter Tryd.func14, Tryd.ntmps14
      go_wp2_with fail
      refine (valid_is k O G s true HV.out ad cap _ (HR.out.below (by go_grown))).mono ?_
      rintro eE W1 ⟨rfl, hg1⟩
      have hb1 : Below w.heap.size w W1 := (show Below w.heap.size w _ by go_grown).trans (hg1.mono (by first | omega | go_size))
      obtain ⟨hc1, hf1⟩ := bcell hg1
      have hs1 := hg1.size
      try simp only [World.size_alloc, World.size_setCell, World.size_drew] at hs1
      have hl1_0_0 : W1.cell? ⟨w.heap.size, 0, none⟩ = some (num k) := (hc1 _ _ (by first | omega | go_size)).trans (by first | (with_reducible assumption) | go_cell)
      have hz1_0_0 : W1.frozen? ⟨w.heap.size, 0, none⟩ = false := (hf1 _ _ (by first | omega | go_size)).trans (by first | (with_reducible assumption) | (go_simp; done) | (simp [*]; done))
      have hl1_0_1 : W1.cell? ⟨w.heap.size, 1, none⟩ = some (st O) := (hc1 _ _ (by first | omega | go_size)).trans (by first | (with_reducible assumption) | go_cell)
      have hz1_0_1 : W1.frozen? ⟨w.heap.size, 1, none⟩ = false := (hf1 _ _ (by first | omega | go_size)).trans (by first | (with_reducible assumption) | (go_simp; done) | (simp [*]; done))
      have hl1_0_2 : W1.cell? ⟨w.heap.size, 2, none⟩ = some (st G) := (hc1 _ _ (by first | omega | go_size)).trans (by first | (with_reducible assumption) | go_cell)
      have hz1_0_2 : W1.frozen? ⟨w.heap.size, 2, none⟩ = false := (hf1 _ _ (by first | omega | go_size)).trans (by first | (with_reducible assumption) | (go_simp; done) | (simp [*]; done))
      have hl1_0_3 : W1.cell? ⟨w.heap.size, 3, none⟩ = some (by8 s) := (hc1 _ _ (by first | omega | go_size)).trans (by first | (with_reducible assumption) | go_cell)
      have hz1_0_3 : W1.frozen? ⟨w.heap.size, 3, none⟩ = false := (hf1 _ _ (by first | omega | go_size)).trans (by first | (with_reducible assumption) | (go_simp; done) | (simp [*]; done))
      have hk1_0 : w.heap.size < W1.heap.size := by omega
      have hl1_1_0 : W1.cell? ⟨w.heap.size + 1, 0, none⟩ = some (.int .i64 0) := (hc1 _ _ (by first | omega | go_size)).trans (by first | (with_reducible assumption) | go_cell)
      have hz1_1_0 : W1.frozen? ⟨w.heap.size + 1, 0, none⟩ = false := (hf1 _ _ (by first | omega | go_size)).trans (by first | (with_reducible assumption) | (go_simp; done) | (simp [*]; done))
      have hl1_1_1 : W1.cell? ⟨w.heap.size + 1, 1, none⟩ = some (.int .u64 0) := (hc1 _ _ (by first | omega | go_size)).trans (by first | (with_reducible assumption) | go_cell)
      have hz1_1_1 : W1.frozen? ⟨w.heap.size + 1, 1, none⟩ = false := (hf1 _ _ (by first | omega | go_size)).trans (by first | (with_reducible assumption) | (go_simp; done) | (simp [*]; done))
      have hl1_1_2 : W1.cell? ⟨w.heap.size + 1, 2, none⟩ = some (.int .u64 0) := (hc1 _ _ (by first | omega | go_size)).trans (by first | (with_reducible assumption) | go_cell)
      have hz1_1_2 : W1.frozen? ⟨w.heap.size + 1, 2, none⟩ = false := (hf1 _ _ (by first | omega | go_size)).trans (by first | (with_reducible assumption) | (go_simp; done) | (simp [*]; done))
      have hl1_1_3 : W1.cell? ⟨w.heap.size + 1, 3, none⟩ = some (.int .u8 0) := (hc1 _ _ (by first | omega | go_size)).trans (by first | (with_reducible assumption) | go_cell)
      have hz1_1_3 : W1.frozen? ⟨w.heap.size + 1, 3, none⟩ = false := (hf1 _ _ (by first | omega | go_size)).trans (by first | (with_reducible assumption) | (go_simp; done) | (simp [*]; done))
      have hk1_1 : w.heap.size + 1 < W1.heap.size := by omega
      clear hg1 hc1 hf1
      go_wp2_with fail
      refine (St.has_is k O G s 2#8 false HD.out _).mono ?_
      rintro eE W3 ⟨rfl, hg3⟩
      have hb3 : Below w.heap.size w W3 := (show Below w.heap.size w _ by go_grown).trans (hg3.mono (by first | omega | go_size))
      obtain ⟨hc3, hf3⟩ := bcell hg3
      have hs3 := hg3.size
      try simp only [World.size_alloc, World.size_setCell, World.size_drew] at hs3
      have hl3_0_0 : W3.cell? ⟨w.heap.size, 0, none⟩ = some (num k) := (hc3 _ _ (by first | omega | go_size)).trans (by first | (with_reducible assumption) | go_cell)
      have hz3_0_0 : W3.frozen? ⟨w.heap.size, 0, none⟩ = false := (hf3 _ _ (by first | omega | go_size)).trans (by first | (with_reducible assumption) | (go_simp; done) | (simp [*]; done))
      have hl3_0_1 : W3.cell? ⟨w.heap.size, 1, none⟩ = some (st O) := (hc3 _ _ (by first | omega | go_size)).trans (by first | (with_reducible assumption) | go_cell)
      have hz3_0_1 : W3.frozen? ⟨w.heap.size, 1, none⟩ = false := (hf3 _ _ (by first | omega | go_size)).trans (by first | (with_reducible assumption) | (go_simp; done) | (simp [*]; done))
      have hl3_0_2 : W3.cell? ⟨w.heap.size, 2, none⟩ = some (st G) := (hc3 _ _ (by first | omega | go_size)).trans (by first | (with_reducible assumption) | go_cell)
      have hz3_0_2 : W3.frozen? ⟨w.heap.size, 2, none⟩ = false := (hf3 _ _ (by first | omega | go_size)).trans (by first | (with_reducible assumption) | (go_simp; done) | (simp [*]; done))
      have hl3_0_3 : W3.cell? ⟨w.heap.size, 3, none⟩ = some (by8 s) := (hc3 _ _ (by first | omega | go_size)).trans (by first | (with_reducible assumption) | go_cell)
      have hz3_0_3 : W3.frozen? ⟨w.heap.size, 3, none⟩ = false := (hf3 _ _ (by first | omega | go_size)).trans (by first | (with_reducible assumption) | (go_simp; done) | (simp [*]; done))
      have hk3_0 : w.heap.size < W3.heap.size := by omega
      have hl3_1_0 : W3.cell? ⟨w.heap.size + 1, 0, none⟩ = some (.int .i64 0) := (hc3 _ _ (by first | omega | go_size)).trans (by first | (with_reducible assumption) | go_cell)
      have hz3_1_0 : W3.frozen? ⟨w.heap.size + 1, 0, none⟩ = false := (hf3 _ _ (by first | omega | go_size)).trans (by first | (with_reducible assumption) | (go_simp; done) | (simp [*]; done))
      have hl3_1_1 : W3.cell? ⟨w.heap.size + 1, 1, none⟩ = some (.int .u64 0) := (hc3 _ _ (by first | omega | go_size)).trans (by first | (with_reducible assumption) | go_cell)
      have hz3_1_1 : W3.frozen? ⟨w.heap.size + 1, 1, none⟩ = false := (hf3 _ _ (by first | omega | go_size)).trans (by first | (with_reducible assumption) | (go_simp; done) | (simp [*]; done))
      have hl3_1_2 : W3.cell? ⟨w.heap.size + 1, 2, none⟩ = some (.int .u64 0) := (hc3 _ _ (by first | omega | go_size)).trans (by first | (with_reducible assumption) | go_cell)
      have hz3_1_2 : W3.frozen? ⟨w.heap.size + 1, 2, none⟩ = false := (hf3 _ _ (by first | omega | go_size)).trans (by first | (with_reducible assumption) | (go_simp; done) | (simp [*]; done))
      have hl3_1_3 : W3.cell? ⟨w.heap.size + 1, 3, none⟩ = some (.int .u8 0) := (hc3 _ _ (by first | omega | go_size)).trans (by first | (with_reducible assumption) | go_cell)
      have hz3_1_3 : W3.frozen? ⟨w.heap.size + 1, 3, none⟩ = false := (hf3 _ _ (by first | omega | go_size)).trans (by first | (with_reducible assumption) | (go_simp; done) | (simp [*]; done))
      have hk3_1 : w.heap.size + 1 < W3.heap.size := by omega
      clear hg3 hc3 hf3
      go_wp2_with fail
      have hB2 : Below w.heap.size w (((((W3).setCell ⟨w.heap.size + 1, 0, none⟩ (num k)).setCell ⟨w.heap.size + 1, 1, none⟩ (st O)).setCell ⟨w.heap.size + 1, 2, none⟩ (st G)).setCell ⟨w.heap.size + 1, 3, none⟩ (by8 s)) := by go_grown
      generalize hG2 : ((((W3).setCell ⟨w.heap.size + 1, 0, none⟩ (num k)).setCell ⟨w.heap.size + 1, 1, none⟩ (st O)).setCell ⟨w.heap.size + 1, 2, none⟩ (st G)).setCell ⟨w.heap.size + 1, 3, none⟩ (by8 s) = WG2 at hB2 ⊢
      have hR2 := Lib.set_row (W := W3) (b := w.heap.size + 1) [num k, st O, st G, by8 s] (by simp only [Lib.HasRow, Nat.zero_add, Nat.reduceAdd, and_true]; exact ⟨⟨_, by first | (with_reducible assumption) | go_cell | (simp [*]; done)⟩, ⟨_, by first | (with_reducible assumption) | go_cell | (simp [*]; done)⟩, ⟨_, by first | (with_reducible assumption) | go_cell | (simp [*]; done)⟩, ⟨_, by first | (with_reducible assumption) | go_cell | (simp [*]; done)⟩⟩) hG2
      clear hG2
      simp only [Lib.RowAt, Nat.zero_add, Nat.reduceAdd, and_true] at hR2
      obtain ⟨qr0, qr1, qr2, qr3⟩ := hR2
      exact bodyPost_ret (v := dev k O G s) (by simp [results, Tryd.results14, go_sem, qr0, qr1, qr2, qr3]) rfl ⟨rfl, hB2⟩
    | true =>
      have HD := Lib.hid hd
      clear hd
      cases hf : hasb s 8#8 with
      | true =>
        have HF := Lib.hid hf
        clear hf
        show Calls _ _ _ _ fun e w' => e = .returned (dev k O G s) ∧ _
        go_enter Tryd.func14, Tryd.ntmps14
        go_wp2_with fail
        refine (valid_is k O G s true HV.out ad cap _ (HR.out.below (by go_grown))).mono ?_
        rintro eE W1 ⟨rfl, hg1⟩
        have hb1 : Below w.heap.size w W1 := (show Below w.heap.size w _ by go_grown).trans (hg1.mono (by first | omega | go_size))
        obtain ⟨hc1, hf1⟩ := bcell hg1
        have hs1 := hg1.size
        try simp only [World.size_alloc, World.size_setCell, World.size_drew] at hs1
        have hl1_0_0 : W1.cell? ⟨w.heap.size, 0, none⟩ = some (num k) := (hc1 _ _ (by first | omega | go_size)).trans (by first | (with_reducible assumption) | go_cell)
        have hz1_0_0 : W1.frozen? ⟨w.heap.size, 0, none⟩ = false := (hf1 _ _ (by first | omega | go_size)).trans (by first | (with_reducible assumption) | (go_simp; done) | (simp [*]; done))
        have hl1_0_1 : W1.cell? ⟨w.heap.size, 1, none⟩ = some (st O) := (hc1 _ _ (by first | omega | go_size)).trans (by first | (with_reducible assumption) | go_cell)
        have hz1_0_1 : W1.frozen? ⟨w.heap.size, 1, none⟩ = false := (hf1 _ _ (by first | omega | go_size)).trans (by first | (with_reducible assumption) | (go_simp; done) | (simp [*]; done))
        have hl1_0_2 : W1.cell? ⟨w.heap.size, 2, none⟩ = some (st G) := (hc1 _ _ (by first | omega | go_size)).trans (by first | (with_reducible assumption) | go_cell)
        have hz1_0_2 : W1.frozen? ⟨w.heap.size, 2, none⟩ = false := (hf1 _ _ (by first | omega | go_size)).trans (by first | (with_reducible assumption) | (go_simp; done) | (simp [*]; done))
        have hl1_0_3 : W1.cell? ⟨w.heap.size, 3, none⟩ = some (by8 s) := (hc1 _ _ (by first | omega | go_size)).trans (by first | (with_reducible assumption) | go_cell)
        have hz1_0_3 : W1.frozen? ⟨w.heap.size, 3, none⟩ = false := (hf1 _ _ (by first | omega | go_size)).trans (by first | (with_reducible assumption) | (go_simp; done) | (simp [*]; done))
        have hk1_0 : w.heap.size < W1.heap.size := by omega
        have hl1_1_0 : W1.cell? ⟨w.heap.size + 1, 0, none⟩ = some (.int .i64 0) := (hc1 _ _ (by first | omega | go_size)).trans (by first | (with_reducible assumption) | go_cell)
        have hz1_1_0 : W1.frozen? ⟨w.heap.size + 1, 0, none⟩ = false := (hf1 _ _ (by first | omega | go_size)).trans (by first | (with_reducible assumption) | (go_simp; done) | (simp [*]; done))
        have hl1_1_1 : W1.cell? ⟨w.heap.size + 1, 1, none⟩ = some (.int .u64 0) := (hc1 _ _ (by first | omega | go_size)).trans (by first | (with_reducible assumption) | go_cell)
        have hz1_1_1 : W1.frozen? ⟨w.heap.size + 1, 1, none⟩ = false := (hf1 _ _ (by first | omega | go_size)).trans (by first | (with_reducible assumption) | (go_simp; done) | (simp [*]; done))
        have hl1_1_2 : W1.cell? ⟨w.heap.size + 1, 2, none⟩ = some (.int .u64 0) := (hc1 _ _ (by first | omega | go_size)).trans (by first | (with_reducible assumption) | go_cell)
        have hz1_1_2 : W1.frozen? ⟨w.heap.size + 1, 2, none⟩ = false := (hf1 _ _ (by first | omega | go_size)).trans (by first | (with_reducible assumption) | (go_simp; done) | (simp [*]; done))
        have hl1_1_3 : W1.cell? ⟨w.heap.size + 1, 3, none⟩ = some (.int .u8 0) := (hc1 _ _ (by first | omega | go_size)).trans (by first | (with_reducible assumption) | go_cell)
        have hz1_1_3 : W1.frozen? ⟨w.heap.size + 1, 3, none⟩ = false := (hf1 _ _ (by first | omega | go_size)).trans (by first | (with_reducible assumption) | (go_simp; done) | (simp [*]; done))
        have hk1_1 : w.heap.size + 1 < W1.heap.size := by omega
        clear hg1 hc1 hf1
        go_wp2_with fail
        refine (St.has_is k O G s 2#8 true HD.out _).mono ?_
        rintro eE W3 ⟨rfl, hg3⟩
        have hb3 : Below w.heap.size w W3 := (show Below w.heap.size w _ by go_grown).trans (hg3.mono (by first | omega | go_size))
        obtain ⟨hc3, hf3⟩ := bcell hg3
        have hs3 := hg3.size
        try simp only [World.size_alloc, World.size_setCell, World.size_drew] at hs3
        have hl3_0_0 : W3.cell? ⟨w.heap.size, 0, none⟩ = some (num k) := (hc3 _ _ (by first | omega | go_size)).trans (by first | (with_reducible assumption) | go_cell)
        have hz3_0_0 : W3.frozen? ⟨w.heap.size, 0, none⟩ = false := (hf3 _ _ (by first | omega | go_size)).trans (by first | (with_reducible assumption) | (go_simp; done) | (simp [*]; done))
        have hl3_0_1 : W3.cell? ⟨w.heap.size, 1, none⟩ = some (st O) := (hc3 _ _ (by first | omega | go_size)).trans (by first | (with_reducible assumption) | go_cell)
        have hz3_0_1 : W3.frozen? ⟨w.heap.size, 1, none⟩ = false := (hf3 _ _ (by first | omega | go_size)).trans (by first | (with_reducible assumption) | (go_simp; done) | (simp [*]; done))
        have hl3_0_2 : W3.cell? ⟨w.heap.size, 2, none⟩ = some (st G) := (hc3 _ _ (by first | omega | go_size)).trans (by first | (with_reducible assumption) | go_cell)
        have hz3_0_2 : W3.frozen? ⟨w.heap.size, 2, none⟩ = false := (hf3 _ _ (by first | omega | go_size)).trans (by first | (with_reducible assumption) | (go_simp; done) | (simp [*]; done))
        have hl3_0_3 : W3.cell? ⟨w.heap.size, 3, none⟩ = some (by8 s) := (hc3 _ _ (by first | omega | go_size)).trans (by first | (with_reducible assumption) | go_cell)
        have hz3_0_3 : W3.frozen? ⟨w.heap.size, 3, none⟩ = false := (hf3 _ _ (by first | omega | go_size)).trans (by first | (with_reducible assumption) | (go_simp; done) | (simp [*]; done))
        have hk3_0 : w.heap.size < W3.heap.size := by omega
        have hl3_1_0 : W3.cell? ⟨w.heap.size + 1, 0, none⟩ = some (.int .i64 0) := (hc3 _ _ (by first | omega | go_size)).trans (by first | (with_reducible assumption) | go_cell)
        have hz3_1_0 : W3.frozen? ⟨w.heap.size + 1, 0, none⟩ = false := (hf3 _ _ (by first | omega | go_size)).trans (by first | (with_reducible assumption) | (go_simp; done) | (simp [*]; done))
        have hl3_1_1 : W3.cell? ⟨w.heap.size + 1, 1, none⟩ = some (.int .u64 0) := (hc3 _ _ (by first | omega | go_size)).trans (by first | (with_reducible assumption) | go_cell)
        have hz3_1_1 : W3.frozen? ⟨w.heap.size + 1, 1, none⟩ = false := (hf3 _ _ (by first | omega | go_size)).trans (by first | (with_reducible assumption) | (go_simp; done) | (simp [*]; done))
        have hl3_1_2 : W3.cell? ⟨w.heap.size + 1, 2, none⟩ = some (.int .u64 0) := (hc3 _ _ (by first | omega | go_size)).trans (by first | (with_reducible assumption) | go_cell)
        have hz3_1_2 : W3.frozen? ⟨w.heap.size + 1, 2, none⟩ = false := (hf3 _ _ (by first | omega | go_size)).trans (by first | (with_reducible assumption) | (go_simp; done) | (simp [*]; done))
        have hl3_1_3 : W3.cell? ⟨w.heap.size + 1, 3, none⟩ = some (.int .u8 0) := (hc3 _ _ (by first | omega | go_size)).trans (by first | (with_reducible assumption) | go_cell)
        have hz3_1_3 : W3.frozen? ⟨w.heap.size + 1, 3, none⟩ = false := (hf3 _ _ (by first | omega | go_size)).trans (by first | (with_reducible assumption) | (go_simp; done) | (simp [*]; done))
        have hk3_1 : w.heap.size + 1 < W3.heap.size := by omega
        clear hg3 hc3 hf3
        go_wp2_with fail
        refine (St.has_is k O G s 8#8 true HF.out _).mono ?_
        rintro eE W4 ⟨rfl, hg4⟩
        have hb4 : Below w.heap.size w W4 := (show Below w.heap.size w _ by go_grown).trans (hg4.mono (by first | omega | go_size))
        obtain ⟨hc4, hf4⟩ := bcell hg4
        have hs4 := hg4.size
        try simp only [World.size_alloc, World.size_setCell, World.size_drew] at hs4
        have hl4_0_0 : W4.cell? ⟨w.heap.size, 0, none⟩ = some (num k) := (hc4 _ _ (by first | omega | go_size)).trans (by first | (with_reducible assumption) | go_cell)
        have hz4_0_0 : W4.frozen? ⟨w.heap.size, 0, none⟩ = false := (hf4 _ _ (by first | omega | go_size)).trans (by first | (with_reducible assumption) | (go_simp; done) | (simp [*]; done))
        have hl4_0_1 : W4.cell? ⟨w.heap.size, 1, none⟩ = some (st O) := (hc4 _ _ (by first | omega | go_size)).trans (by first | (with_reducible assumption) | go_cell)
        have hz4_0_1 : W4.frozen? ⟨w.heap.size, 1, none⟩ = false := (hf4 _ _ (by first | omega | go_size)).trans (by first | (with_reducible assumption) | (go_simp; done) | (simp [*]; done))
        have hl4_0_2 : W4.cell? ⟨w.heap.size, 2, none⟩ = some (st G) := (hc4 _ _ (by first | omega | go_size)).trans (by first | (with_reducible assumption) | go_cell)
        have hz4_0_2 : W4.frozen? ⟨w.heap.size, 2, none⟩ = false := (hf4 _ _ (by first | omega | go_size)).trans (by first | (with_reducible assumption) | (go_simp; done) | (simp [*]; done))
        have hl4_0_3 : W4.cell? ⟨w.heap.size, 3, none⟩ = some (by8 s) := (hc4 _ _ (by first | omega | go_size)).trans (by first | (with_reducible assumption) | go_cell)
        have hz4_0_3 : W4.frozen? ⟨w.heap.size, 3, none⟩ = false := (hf4 _ _ (by first | omega | go_size)).trans (by first | (with_reducible assumption) | (go_simp; done) | (simp [*]; done))
        have hk4_0 : w.heap.size < W4.heap.size := by omega
        have hl4_1_0 : W4.cell? ⟨w.heap.size + 1, 0, none⟩ = some (.int .i64 0) := (hc4 _ _ (by first | omega | go_size)).trans (by first | (with_reducible assumption) | go_cell)
        have hz4_1_0 : W4.frozen? ⟨w.heap.size + 1, 0, none⟩ = false := (hf4 _ _ (by first | omega | go_size)).trans (by first | (with_reducible assumption) | (go_simp; done) | (simp [*]; done))
        have hl4_1_1 : W4.cell? ⟨w.heap.size + 1, 1, none⟩ = some (.int .u64 0) := (hc4 _ _ (by first | omega | go_size)).trans (by first | (with_reducible assumption) | go_cell)
        have hz4_1_1 : W4.frozen? ⟨w.heap.size + 1, 1, none⟩ = false := (hf4 _ _ (by first | omega | go_size)).trans (by first | (with_reducible assumption) | (go_simp; done) | (simp [*]; done))
        have hl4_1_2 : W4.cell? ⟨w.heap.size + 1, 2, none⟩ = some (.int .u64 0) := (hc4 _ _ (by first | omega | go_size)).trans (by first | (with_reducible assumption) | go_cell)
        have hz4_1_2 : W4.frozen? ⟨w.heap.size + 1, 2, none⟩ = false := (hf4 _ _ (by first | omega | go_size)).trans (by first | (with_reducible assumption) | (go_simp; done) | (simp [*]; done))
        have hl4_1_3 : W4.cell? ⟨w.heap.size + 1, 3, none⟩ = some (.int .u8 0) := (hc4 _ _ (by first | omega | go_size)).trans (by first | (with_reducible assumption) | go_cell)
        have hz4_1_3 : W4.frozen? ⟨w.heap.size + 1, 3, none⟩ = false := (hf4 _ _ (by first | omega | go_size)).trans (by first | (with_reducible assumption) | (go_simp; done) | (simp [*]; done))
        have hk4_1 : w.heap.size + 1 < W4.heap.size := by omega
        clear hg4 hc4 hf4
        go_wp2_with fail
        have hB2 : Below w.heap.size w (((((W4).setCell ⟨w.heap.size + 1, 0, none⟩ (num k)).setCell ⟨w.heap.size + 1, 1, none⟩ (st O)).setCell ⟨w.heap.size + 1, 2, none⟩ (st G)).setCell ⟨w.heap.size + 1, 3, none⟩ (by8 s)) := by go_grown
        generalize hG2 : ((((W4).setCell ⟨w.heap.size + 1, 0, none⟩ (num k)).setCell ⟨w.heap.size + 1, 1, none⟩ (st O)).setCell ⟨w.heap.size + 1, 2, none⟩ (st G)).setCell ⟨w.heap.size + 1, 3, none⟩ (by8 s) = WG2 at hB2 ⊢
        have hR2 := Lib.set_row (W := W4) (b := w.heap.size + 1) [num k, st O, st G, by8 s] (by simp only [Lib.HasRow, Nat.zero_add, Nat.reduceAdd, and_true]; exact ⟨⟨_, by first | (with_reducible assumption) | go_cell | (simp [*]; done)⟩, ⟨_, by first | (with_reducible assumption) | go_cell | (simp [*]; done)⟩, ⟨_, by first | (with_reducible assumption) | go_cell | (simp [*]; done)⟩, ⟨_, by first | (with_reducible assumption) | go_cell | (simp [*]; done)⟩⟩) hG2
        clear hG2
        simp only [Lib.RowAt, Nat.zero_add, Nat.reduceAdd, and_true] at hR2
        obtain ⟨qr0, qr1, qr2, qr3⟩ := hR2
        exact bodyPost_ret (v := dev k O G s) (by simp [results, Tryd.results14, go_sem, qr0, qr1, qr2, qr3]) rfl ⟨rfl, hB2⟩
      | false =>
        have HF := Lib.hid hf
        clear hf
        show Calls _ _ _ _ fun e w' => e = .returned (dev k O X s) ∧ _
        go_enter Tryd.func14, Tryd.ntmps14
        go_wp2_with fail
        refine (valid_is k O G s true HV.out ad cap _ (HR.out.below (by go_grown))).mono ?_
        rintro eE W1 ⟨rfl, hg1⟩
        have hb1 : Below w.heap.size w W1 := (show Below w.heap.size w _ by go_grown).trans (hg1.mono (by first | omega | go_size))
        obtain ⟨hc1, hf1⟩ := bcell hg1
        have hs1 := hg1.size
        try simp only [World.size_alloc, World.size_setCell, World.size_drew] at hs1
        have hl1_0_0 : W1.cell? ⟨w.heap.size, 0, none⟩ = some (num k) := (hc1 _ _ (by first | omega | go_size)).trans (by first | (with_reducible assumption) | go_cell)
        have hz1_0_0 : W1.frozen? ⟨w.heap.size, 0, none⟩ = false := (hf1 _ _ (by first | omega | go_size)).trans (by first | (with_reducible assumption) | (go_simp; done) | (simp [*]; done))
        have hl1_0_1 : W1.cell? ⟨w.heap.size, 1, none⟩ = some (st O) := (hc1 _ _ (by first | omega | go_size)).trans (by first | (with_reducible assumption) | go_cell)
        have hz1_0_1 : W1.frozen? ⟨w.heap.size, 1, none⟩ = false := (hf1 _ _ (by first | omega | go_size)).trans (by first | (with_reducible assumption) | (go_simp; done) | (simp [*]; done))
        have hl1_0_2 : W1.cell? ⟨w.heap.size, 2, none⟩ = some (st G) := (hc1 _ _ (by first | omega | go_size)).trans (by first | (with_reducible assumption) | go_cell)
        have hz1_0_2 : W1.frozen? ⟨w.heap.size, 2, none⟩ = false := (hf1 _ _ (by first | omega | go_size)).trans (by first | (with_reducible assumption) | (go_simp; done) | (simp [*]; done))
        have hl1_0_3 : W1.cell? ⟨w.heap.size, 3, none⟩ = some (by8 s) := (hc1 _ _ (by first | omega | go_size)).trans (by first | (with_reducible assumption) | go_cell)
        have hz1_0_3 : W1.frozen? ⟨w.heap.size, 3, none⟩ = false := (hf1 _ _ (by first | omega | go_size)).trans (by first | (with_reducible assumption) | (go_simp; done) | (simp [*]; done))
        have hk1_0 : w.heap.size < W1.heap.size := by omega
        have hl1_1_0 : W1.cell? ⟨w.heap.size + 1, 0, none⟩ = some (.int .i64 0) := (hc1 _ _ (by first | omega | go_size)).trans (by first | (with_reducible assumption) | go_cell)
        have hz1_1_0 : W1.frozen? ⟨w.heap.size + 1, 0, none⟩ = false := (hf1 _ _ (by first | omega | go_size)).trans (by first | (with_reducible assumption) | (go_simp; done) | (simp [*]; done))
        have hl1_1_1 : W1.cell? ⟨w.heap.size + 1, 1, none⟩ = some (.int .u64 0) := (hc1 _ _ (by first | omega | go_size)).trans (by first | (with_reducible assumption) | go_cell)
        have hz1_1_1 : W1.frozen? ⟨w.heap.size + 1, 1, none⟩ = false := (hf1 _ _ (by first | omega | go_size)).trans (by first | (with_reducible assumption) | (go_simp; done) | (simp [*]; done))
        have hl1_1_2 : W1.cell? ⟨w.heap.size + 1, 2, none⟩ = some (.int .u64 0) := (hc1 _ _ (by first | omega | go_size)).trans (by first | (with_reducible assumption) | go_cell)
        have hz1_1_2 : W1.frozen? ⟨w.heap.size + 1, 2, none⟩ = false := (hf1 _ _ (by first | omega | go_size)).trans (by first | (with_reducible assumption) | (go_simp; done) | (simp [*]; done))
        have hl1_1_3 : W1.cell? ⟨w.heap.size + 1, 3, none⟩ = some (.int .u8 0) := (hc1 _ _ (by first | omega | go_size)).trans (by first | (with_reducible assumption) | go_cell)
        have hz1_1_3 : W1.frozen? ⟨w.heap.size + 1, 3, none⟩ = false := (hf1 _ _ (by first | omega | go_size)).trans (by first | (with_reducible assumption) | (go_simp; done) | (simp [*]; done))
        have hk1_1 : w.heap.size + 1 < W1.heap.size := by omega
        clear hg1 hc1 hf1
        go_wp2_with fail
        refine (St.has_is k O G s 2#8 true HD.out _).mono ?_
        rintro eE W3 ⟨rfl, hg3⟩
        have hb3 : Below w.heap.size w W3 := (show Below w.heap.size w _ by go_grown).trans (hg3.mono (by first | omega | go_size))
        obtain ⟨hc3, hf3⟩ := bcell hg3
        have hs3 := hg3.size
        try simp only [World.size_alloc, World.size_setCell, World.size_drew] at hs3
        have hl3_0_0 : W3.cell? ⟨w.heap.size, 0, none⟩ = some (num k) := (hc3 _ _ (by first | omega | go_size)).trans (by first | (with_reducible assumption) | go_cell)
        have hz3_0_0 : W3.frozen? ⟨w.heap.size, 0, none⟩ = false := (hf3 _ _ (by first | omega | go_size)).trans (by first | (with_reducible assumption) | (go_simp; done) | (simp [*]; done))
        have hl3_0_1 : W3.cell? ⟨w.heap.size, 1, none⟩ = some (st O) := (hc3 _ _ (by first | omega | go_size)).trans (by first | (with_reducible assumption) | go_cell)
        have hz3_0_1 : W3.frozen? ⟨w.heap.size, 1, none⟩ = false := (hf3 _ _ (by first | omega | go_size)).trans (by first | (with_reducible assumption) | (go_simp; done) | (simp [*]; done))
        have hl3_0_2 : W3.cell? ⟨w.heap.size, 2, none⟩ = some (st G) := (hc3 _ _ (by first | omega | go_size)).trans (by first | (with_reducible assumption) | go_cell)
        have hz3_0_2 : W3.frozen? ⟨w.heap.size, 2, none⟩ = false := (hf3 _ _ (by first | omega | go_size)).trans (by first | (with_reducible assumption) | (go_simp; done) | (simp [*]; done))
        have hl3_0_3 : W3.cell? ⟨w.heap.size, 3, none⟩ = some (by8 s) := (hc3 _ _ (by first | omega | go_size)).trans (by first | (with_reducible assumption) | go_cell)
        have hz3_0_3 : W3.frozen? ⟨w.heap.size, 3, none⟩ = false := (hf3 _ _ (by first | omega | go_size)).trans (by first | (with_reducible assumption) | (go_simp; done) | (simp [*]; done))
        have hk3_0 : w.heap.size < W3.heap.size := by omega
        have hl3_1_0 : W3.cell? ⟨w.heap.size + 1, 0, none⟩ = some (.int .i64 0) := (hc3 _ _ (by first | omega | go_size)).trans (by first | (with_reducible assumption) | go_cell)
        have hz3_1_0 : W3.frozen? ⟨w.heap.size + 1, 0, none⟩ = false := (hf3 _ _ (by first | omega | go_size)).trans (by first | (with_reducible assumption) | (go_simp; done) | (simp [*]; done))
        have hl3_1_1 : W3.cell? ⟨w.heap.size + 1, 1, none⟩ = some (.int .u64 0) := (hc3 _ _ (by first | omega | go_size)).trans (by first | (with_reducible assumption) | go_cell)
        have hz3_1_1 : W3.frozen? ⟨w.heap.size + 1, 1, none⟩ = false := (hf3 _ _ (by first | omega | go_size)).trans (by first | (with_reducible assumption) | (go_simp; done) | (simp [*]; done))
        have hl3_1_2 : W3.cell? ⟨w.heap.size + 1, 2, none⟩ = some (.int .u64 0) := (hc3 _ _ (by first | omega | go_size)).trans (by first | (with_reducible assumption) | go_cell)
        have hz3_1_2 : W3.frozen? ⟨w.heap.size + 1, 2, none⟩ = false := (hf3 _ _ (by first | omega | go_size)).trans (by first | (with_reducible assumption) | (go_simp; done) | (simp [*]; done))
        have hl3_1_3 : W3.cell? ⟨w.heap.size + 1, 3, none⟩ = some (.int .u8 0) := (hc3 _ _ (by first | omega | go_size)).trans (by first | (with_reducible assumption) | go_cell)
        have hz3_1_3 : W3.frozen? ⟨w.heap.size + 1, 3, none⟩ = false := (hf3 _ _ (by first | omega | go_size)).trans (by first | (with_reducible assumption) | (go_simp; done) | (simp [*]; done))
        have hk3_1 : w.heap.size + 1 < W3.heap.size := by omega
        clear hg3 hc3 hf3
        go_wp2_with fail
        refine (St.has_is k O G s 8#8 false HF.out _).mono ?_
        rintro eE W4 ⟨rfl, hg4⟩
        have hb4 : Below w.heap.size w W4 := (show Below w.heap.size w _ by go_grown).trans (hg4.mono (by first | omega | go_size))
        obtain ⟨hc4, hf4⟩ := bcell hg4
        have hs4 := hg4.size
        try simp only [World.size_alloc, World.size_setCell, World.size_drew] at hs4
        have hl4_0_0 : W4.cell? ⟨w.heap.size, 0, none⟩ = some (num k) := (hc4 _ _ (by first | omega | go_size)).trans (by first | (with_reducible assumption) | go_cell)
        have hz4_0_0 : W4.frozen? ⟨w.heap.size, 0, none⟩ = false := (hf4 _ _ (by first | omega | go_size)).trans (by first | (with_reducible assumption) | (go_simp; done) | (simp [*]; done))
        have hl4_0_1 : W4.cell? ⟨w.heap.size, 1, none⟩ = some (st O) := (hc4 _ _ (by first | omega | go_size)).trans (by first | (with_reducible assumption) | go_cell)
        have hz4_0_1 : W4.frozen? ⟨w.heap.size, 1, none⟩ = false := (hf4 _ _ (by first | omega | go_size)).trans (by first | (with_reducible assumption) | (go_simp; done) | (simp [*]; done))
        have hl4_0_2 : W4.cell? ⟨w.heap.size, 2, none⟩ = some (st G) := (hc4 _ _ (by first | omega | go_size)).trans (by first | (with_reducible assumption) | go_cell)
        have hz4_0_2 : W4.frozen? ⟨w.heap.size, 2, none⟩ = false := (hf4 _ _ (by first | omega | go_size)).trans (by first | (with_reducible assumption) | (go_simp; done) | (simp [*]; done))
        have hl4_0_3 : W4.cell? ⟨w.heap.size, 3, none⟩ = some (by8 s) := (hc4 _ _ (by first | omega | go_size)).trans (by first | (with_reducible assumption) | go_cell)
        have hz4_0_3 : W4.frozen? ⟨w.heap.size, 3, none⟩ = false := (hf4 _ _ (by first | omega | go_size)).trans (by first | (with_reducible assumption) | (go_simp; done) | (simp [*]; done))
        have hk4_0 : w.heap.size < W4.heap.size := by omega
        have hl4_1_0 : W4.cell? ⟨w.heap.size + 1, 0, none⟩ = some (.int .i64 0) := (hc4 _ _ (by first | omega | go_size)).trans (by first | (with_reducible assumption) | go_cell)
        have hz4_1_0 : W4.frozen? ⟨w.heap.size + 1, 0, none⟩ = false := (hf4 _ _ (by first | omega | go_size)).trans (by first | (with_reducible assumption) | (go_simp; done) | (simp [*]; done))
        have hl4_1_1 : W4.cell? ⟨w.heap.size + 1, 1, none⟩ = some (.int .u64 0) := (hc4 _ _ (by first | omega | go_size)).trans (by first | (with_reducible assumption) | go_cell)
        have hz4_1_1 : W4.frozen? ⟨w.heap.size + 1, 1, none⟩ = false := (hf4 _ _ (by first | omega | go_size)).trans (by first | (with_reducible assumption) | (go_simp; done) | (simp [*]; done))
        have hl4_1_2 : W4.cell? ⟨w.heap.size + 1, 2, none⟩ = some (.int .u64 0) := (hc4 _ _ (by first | omega | go_size)).trans (by first | (with_reducible assumption) | go_cell)
        have hz4_1_2 : W4.frozen? ⟨w.heap.size + 1, 2, none⟩ = false := (hf4 _ _ (by first | omega | go_size)).trans (by first | (with_reducible assumption) | (go_simp; done) | (simp [*]; done))
        have hl4_1_3 : W4.cell? ⟨w.heap.size + 1, 3, none⟩ = some (.int .u8 0) := (hc4 _ _ (by first | omega | go_size)).trans (by first | (with_reducible assumption) | go_cell)
        have hz4_1_3 : W4.frozen? ⟨w.heap.size + 1, 3, none⟩ = false := (hf4 _ _ (by first | omega | go_size)).trans (by first | (with_reducible assumption) | (go_simp; done) | (simp [*]; done))
        have hk4_1 : w.heap.size + 1 < W4.heap.size := by omega
        clear hg4 hc4 hf4
        go_wp2_with fail
        have hB2 : Below w.heap.size w ((((((W4.setCell ⟨w.heap.size, 2, none⟩ (st X))).setCell ⟨w.heap.size + 1, 0, none⟩ (num k)).setCell ⟨w.heap.size + 1, 1, none⟩ (st O)).setCell ⟨w.heap.size + 1, 2, none⟩ (st X)).setCell ⟨w.heap.size + 1, 3, none⟩ (by8 s)) := by go_grown
        generalize hG2 : (((((W4.setCell ⟨w.heap.size, 2, none⟩ (st X))).setCell ⟨w.heap.size + 1, 0, none⟩ (num k)).setCell ⟨w.heap.size + 1, 1, none⟩ (st O)).setCell ⟨w.heap.size + 1, 2, none⟩ (st X)).setCell ⟨w.heap.size + 1, 3, none⟩ (by8 s) = WG2 at hB2 ⊢
        have hR2 := Lib.set_row (W := (W4.setCell ⟨w.heap.size, 2, none⟩ (st X))) (b := w.heap.size + 1) [num k, st O, st X, by8 s] (by simp only [Lib.HasRow, Nat.zero_add, Nat.reduceAdd, and_true]; exact ⟨⟨_, by first | (with_reducible assumption) | go_cell | (simp [*]; done)⟩, ⟨_, by first | (with_reducible assumption) | go_cell | (simp [*]; done)⟩, ⟨_, by first | (with_reducible assumption) | go_cell | (simp [*]; done)⟩, ⟨_, by first | (with_reducible assumption) | go_cell | (simp [*]; done)⟩⟩) hG2
        clear hG2
        simp only [Lib.RowAt, Nat.zero_add, Nat.reduceAdd, and_true] at hR2
        obtain ⟨qr0, qr1, qr2, qr3⟩ := hR2
        exact bodyPost_ret (v := dev k O X s) (by simp [results, Tryd.results14, go_sem, qr0, qr1, qr2, qr3]) rfl ⟨rfl, hB2⟩

set_option maxRecDepth 100000 in
set_option maxHeartbeats 2000000 in
theorem runs_is (k : Int) (O G : Set64) (s : Byte) (v : Bool) (h : runsB k O G s = v) (ad : Addr) (cap : Nat) (w : World) (hR : Rules w ad cap) : Calls Tryd.prog 12 #[dev k O G s] w (Gives w.heap.size w (.bool v)) := by
  unfold Gives
  subst h
  unfold runsB
  have hb0 : Below w.heap.size w w := Below.refl _ _
  have HR := Lib.hid hR
  clear hR
  cases hv : validB k O G s with
  | false =>
    have HV := Lib.hid hv
    clear hv
    show Calls _ _ _ _ fun e w' => e = .returned (.bool false) ∧ _
    go_enter Tryd.func12, Tryd.ntmps12
    go_wp2_with fail
    refine (valid_is k O G s false HV.out ad cap _ (HR.out.below (by go_grown))).mono ?_
    rintro eE W1 ⟨rfl, hg1⟩
    have hb1 : Below w.heap.size w W1 := (show Below w.heap.size w _ by go_grown).trans (hg1.mono (by first | omega | go_size))
    obtain ⟨hc1, hf1⟩ := bcell hg1
    have hs1 := hg1.size
    try simp only [World.size_alloc, World.size_setCell, World.size_drew] at hs1
    have hl1_0_0 : W1.cell? ⟨w.heap.size, 0, none⟩ = some (num k) := (hc1 _ _ (by first | omega | go_size)).trans (by first | (with_reducible assumption) | go_cell)
    have hz1_0_0 : W1.frozen? ⟨w.heap.size, 0, none⟩ = false := (hf1 _ _ (by first | omega | go_size)).trans (by first | (with_reducible assumption) | (go_simp; done) | (simp [*]; done))
    have hl1_0_1 : W1.cell? ⟨w.heap.size, 1, none⟩ = some (st O) := (hc1 _ _ (by first | omega | go_size)).trans (by first | (with_reducible assumption) | go_cell)
    have hz1_0_1 : W1.frozen? ⟨w.heap.size, 1, none⟩ = false := (hf1 _ _ (by first | omega | go_size)).trans (by first | (with_reducible assumption) | (go_simp; done) | (simp [*]; done))
    have hl1_0_2 : W1.cell? ⟨w.heap.size, 2, none⟩ = some (st G) := (hc1 _ _ (by first | omega | go_size)).trans (by first | (with_reducible assumption) | go_cell)
    have hz1_0_2 : W1.frozen? ⟨w.heap.size, 2, none⟩ = false := (hf1 _ _ (by first | omega | go_size)).trans (by first | (with_reducible assumption) | (go_simp; done) | (simp [*]; done))
    have hl1_0_3 : W1.cell? ⟨w.heap.size, 3, none⟩ = some (by8 s) := (hc1 _ _ (by first | omega | go_size)).trans (by first | (with_reducible assumption) | go_cell)
    have hz1_0_3 : W1.frozen? ⟨w.heap.size, 3, none⟩ = false := (hf1 _ _ (by first | omega | go_size)).trans (by first | (with_reducible assumption) | (go_simp; done) | (simp [*]; done))
    have hk1_0 : w.heap.size < W1.heap.size := by omega
    clear hg1 hc1 hf1
    go_wp2_with fail
    go_ret
    exact ⟨rfl, by go_grown⟩
  | true =>
    have HV := Lib.hid hv
    clear hv
    cases hd : hasb s 4#8 with
    | false =>
      have HD := Lib.hid hd
      clear hd
      show Calls _ _ _ _ fun e w' => e = .returned (.bool false) ∧ _
      go_enter Tryd.func12, Tryd.ntmps12
      go_wp2_with fail
      refine (valid_is k O G s true HV.out ad cap _ (HR.out.below (by go_grown))).mono ?_
      rintro eE W1 ⟨rfl, hg1⟩
      have hb1 : Below w.heap.size w W1 := (show Below w.heap.size w _ by go_grown).trans (hg1.mono (by first | omega | go_size))
      obtain ⟨hc1, hf1⟩ := bcell hg1
      have hs1 := hg1.size
      try simp only [World.size_alloc, World.size_setCell, World.size_drew] at hs1
      have hl1_0_0 : W1.cell? ⟨w.heap.size, 0, none⟩ = some (num k) := (hc1 _ _ (by first | omega | go_size)).trans (by first | (with_reducible assumption) | go_cell)
      have hz1_0_0 : W1.frozen? ⟨w.heap.size, 0, none⟩ = false := (hf1 _ _ (by first | omega | go_size)).trans (by first | (with_reducible assumption) | (go_simp; done) | (simp [*]; done))
      have hl1_0_1 : W1.cell? ⟨w.heap.size, 1, none⟩ = some (st O) := (hc1 _ _ (by first | omega | go_size)).trans (by first | (with_reducible assumption) | go_cell)
      have hz1_0_1 : W1.frozen? ⟨w.heap.size, 1, none⟩ = false := (hf1 _ _ (by first | omega | go_size)).trans (by first | (with_reducible assumption) | (go_simp; done) | (simp [*]; done))
      have hl1_0_2 : W1.cell? ⟨w.heap.size, 2, none⟩ = some (st G) := (hc1 _ _ (by first | omega | go_size)).trans (by first | (with_reducible assumption) | go_cell)
      have hz1_0_2 : W1.frozen? ⟨w.heap.size, 2, none⟩ = false := (hf1 _ _ (by first | omega | go_size)).trans (by first | (with_reducible assumption) | (go_simp; done) | (simp [*]; done))
      have hl1_0_3 : W1.cell? ⟨w.heap.size, 3, none⟩ = some (by8 s) := (hc1 _ _ (by first | omega | go_size)).trans (by first | (with_reducible assumption) | go_cell)
      have hz1_0_3 : W1.frozen? ⟨w.heap.size, 3, none⟩ = false := (hf1 _ _ (by first | omega | go_size)).trans (by first | (with_reducible assumption) | (go_simp; done) | (simp [*]; done))
      have hk1_0 : w.heap.size < W1.heap.size := by omega
      clear hg1 hc1 hf1
      go_wp2_with fail
      refine (St.has_is k O G s 4#8 false HD.out _).mono ?_
      rintro eE W3 ⟨rfl, hg3⟩
      have hb3 : Below w.heap.size w W3 := (show Below w.heap.size w _ by go_grown).trans (hg3.mono (by first | omega | go_size))
      obtain ⟨hc3, hf3⟩ := bcell hg3
      have hs3 := hg3.size
      try simp only [World.size_alloc, World.size_setCell, World.size_drew] at hs3
      have hl3_0_0 : W3.cell? ⟨w.heap.size, 0, none⟩ = some (num k) := (hc3 _ _ (by first | omega | go_size)).trans (by first | (with_reducible assumption) | go_cell)
      have hz3_0_0 : W3.frozen? ⟨w.heap.size, 0, none⟩ = false := (hf3 _ _ (by first | omega | go_size)).trans (by first | (with_reducible assumption) | (go_simp; done) | (simp [*]; done))
      have hl3_0_1 : W3.cell? ⟨w.heap.size, 1, none⟩ = some (st O) := (hc3 _ _ (by first | omega | go_size)).trans (by first | (with_reducible assumption) | go_cell)
      have hz3_0_1 : W3.frozen? ⟨w.heap.size, 1, none⟩ = false := (hf3 _ _ (by first | omega | go_size)).trans (by first | (with_reducible assumption) | (go_simp; done) | (simp [*]; done))
      have hl3_0_2 : W3.cell? ⟨w.heap.size, 2, none⟩ = some (st G) := (hc3 _ _ (by first | omega | go_size)).trans (by first | (with_reducible assumption) | go_cell)
      have hz3_0_2 : W3.frozen? ⟨w.heap.size, 2, none⟩ = false := (hf3 _ _ (by first | omega | go_size)).trans (by first | (with_reducible assumption) | (go_simp; done) | (simp [*]; done))
      have hl3_0_3 : W3.cell? ⟨w.heap.size, 3, none⟩ = some (by8 s) := (hc3 _ _ (by first | omega | go_size)).trans (by first | (with_reducible assumption) | go_cell)
      have hz3_0_3 : W3.frozen? ⟨w.heap.size, 3, none⟩ = false := (hf3 _ _ (by first | omega | go_size)).trans (by first | (with_reducible assumption) | (go_simp; done) | (simp [*]; done))
      have hk3_0 : w.heap.size < W3.heap.size := by omega
      clear hg3 hc3 hf3
      go_wp2_with fail
      go_ret
      exact ⟨rfl, by go_grown⟩
    | true =>
      have HD := Lib.hid hd
      clear hd
      cases hf : hasb s 64#8 with
      | true =>
        have HF := Lib.hid hf
        clear hf
        show Calls _ _ _ _ fun e w' => e = .returned (.bool false) ∧ _
        go_enter Tryd.func12, Tryd.ntmps12
        go_wp2_with fail
        refine (valid_is k O G s true HV.out ad cap _ (HR.out.below (by go_grown))).mono ?_
        rintro eE W1 ⟨rfl, hg1⟩
        have hb1 : Below w.heap.size w W1 := (show Below w.heap.size w _ by go_grown).trans (hg1.mono (by first | omega | go_size))
        obtain ⟨hc1, hf1⟩ := bcell hg1
        have hs1 := hg1.size
        try simp only [World.size_alloc, World.size_setCell, World.size_drew] at hs1
        have hl1_0_0 : W1.cell? ⟨w.heap.size, 0, none⟩ = some (num k) := (hc1 _ _ (by first | omega | go_size)).trans (by first | (with_reducible assumption) | go_cell)
        have hz1_0_0 : W1.frozen? ⟨w.heap.size, 0, none⟩ = false := (hf1 _ _ (by first | omega | go_size)).trans (by first | (with_reducible assumption) | (go_simp; done) | (simp [*]; done))
        have hl1_0_1 : W1.cell? ⟨w.heap.size, 1, none⟩ = some (st O) := (hc1 _ _ (by first | omega | go_size)).trans (by first | (with_reducible assumption) | go_cell)
        have hz1_0_1 : W1.frozen? ⟨w.heap.size, 1, none⟩ = false := (hf1 _ _ (by first | omega | go_size)).trans (by first | (with_reducible assumption) | (go_simp; done) | (simp [*]; done))
        have hl1_0_2 : W1.cell? ⟨w.heap.size, 2, none⟩ = some (st G) := (hc1 _ _ (by first | omega | go_size)).trans (by first | (with_reducible assumption) | go_cell)
        have hz1_0_2 : W1.frozen? ⟨w.heap.size, 2, none⟩ = false := (hf1 _ _ (by first | omega | go_size)).trans (by first | (with_reducible assumption) | (go_simp; done) | (simp [*]; done))
        have hl1_0_3 : W1.cell? ⟨w.heap.size, 3, none⟩ = some (by8 s) := (hc1 _ _ (by first | omega | go_size)).trans (by first | (with_reducible assumption) | go_cell)
        have hz1_0_3 : W1.frozen? ⟨w.heap.size, 3, none⟩ = false := (hf1 _ _ (by first | omega | go_size)).trans (by first | (with_reducible assumption) | (go_simp; done) | (simp [*]; done))
        have hk1_0 : w.heap.size < W1.heap.size := by omega
        clear hg1 hc1 hf1
        go_wp2_with fail
        refine (St.has_is k O G s 4#8 true HD.out _).mono ?_
        rintro eE W3 ⟨rfl, hg3⟩
        have hb3 : Below w.heap.size w W3 := (show Below w.heap.size w _ by go_grown).trans (hg3.mono (by first | omega | go_size))
        obtain ⟨hc3, hf3⟩ := bcell hg3
        have hs3 := hg3.size
        try simp only [World.size_alloc, World.size_setCell, World.size_drew] at hs3
        have hl3_0_0 : W3.cell? ⟨w.heap.size, 0, none⟩ = some (num k) := (hc3 _ _ (by first | omega | go_size)).trans (by first | (with_reducible assumption) | go_cell)
        have hz3_0_0 : W3.frozen? ⟨w.heap.size, 0, none⟩ = false := (hf3 _ _ (by first | omega | go_size)).trans (by first | (with_reducible assumption) | (go_simp; done) | (simp [*]; done))
        have hl3_0_1 : W3.cell? ⟨w.heap.size, 1, none⟩ = some (st O) := (hc3 _ _ (by first | omega | go_size)).trans (by first | (with_reducible assumption) | go_cell)
        have hz3_0_1 : W3.frozen? ⟨w.heap.size, 1, none⟩ = false := (hf3 _ _ (by first | omega | go_size)).trans (by first | (with_reducible assumption) | (go_simp; done) | (simp [*]; done))
        have hl3_0_2 : W3.cell? ⟨w.heap.size, 2, none⟩ = some (st G) := (hc3 _ _ (by first | omega | go_size)).trans (by first | (with_reducible assumption) | go_cell)
        have hz3_0_2 : W3.frozen? ⟨w.heap.size, 2, none⟩ = false := (hf3 _ _ (by first | omega | go_size)).trans (by first | (with_reducible assumption) | (go_simp; done) | (simp [*]; done))
        have hl3_0_3 : W3.cell? ⟨w.heap.size, 3, none⟩ = some (by8 s) := (hc3 _ _ (by first | omega | go_size)).trans (by first | (with_reducible assumption) | go_cell)
        have hz3_0_3 : W3.frozen? ⟨w.heap.size, 3, none⟩ = false := (hf3 _ _ (by first | omega | go_size)).trans (by first | (with_reducible assumption) | (go_simp; done) | (simp [*]; done))
        have hk3_0 : w.heap.size < W3.heap.size := by omega
        clear hg3 hc3 hf3
        go_wp2_with fail
        refine (St.has_is k O G s 64#8 true HF.out _).mono ?_
        rintro eE W4 ⟨rfl, hg4⟩
        have hb4 : Below w.heap.size w W4 := (show Below w.heap.size w _ by go_grown).trans (hg4.mono (by first | omega | go_size))
        obtain ⟨hc4, hf4⟩ := bcell hg4
        have hs4 := hg4.size
        try simp only [World.size_alloc, World.size_setCell, World.size_drew] at hs4
        have hl4_0_0 : W4.cell? ⟨w.heap.size, 0, none⟩ = some (num k) := (hc4 _ _ (by first | omega | go_size)).trans (by first | (with_reducible assumption) | go_cell)
        have hz4_0_0 : W4.frozen? ⟨w.heap.size, 0, none⟩ = false := (hf4 _ _ (by first | omega | go_size)).trans (by first | (with_reducible assumption) | (go_simp; done) | (simp [*]; done))
        have hl4_0_1 : W4.cell? ⟨w.heap.size, 1, none⟩ = some (st O) := (hc4 _ _ (by first | omega | go_size)).trans (by first | (with_reducible assumption) | go_cell)
        have hz4_0_1 : W4.frozen? ⟨w.heap.size, 1, none⟩ = false := (hf4 _ _ (by first | omega | go_size)).trans (by first | (with_reducible assumption) | (go_simp; done) | (simp [*]; done))
        have hl4_0_2 : W4.cell? ⟨w.heap.size, 2, none⟩ = some (st G) := (hc4 _ _ (by first | omega | go_size)).trans (by first | (with_reducible assumption) | go_cell)
        have hz4_0_2 : W4.frozen? ⟨w.heap.size, 2, none⟩ = false := (hf4 _ _ (by first | omega | go_size)).trans (by first | (with_reducible assumption) | (go_simp; done) | (simp [*]; done))
        have hl4_0_3 : W4.cell? ⟨w.heap.size, 3, none⟩ = some (by8 s) := (hc4 _ _ (by first | omega | go_size)).trans (by first | (with_reducible assumption) | go_cell)
        have hz4_0_3 : W4.frozen? ⟨w.heap.size, 3, none⟩ = false := (hf4 _ _ (by first | omega | go_size)).trans (by first | (with_reducible assumption) | (go_simp; done) | (simp [*]; done))
        have hk4_0 : w.heap.size < W4.heap.size := by omega
        clear hg4 hc4 hf4
        go_wp2_with fail
        go_ret
        exact ⟨rfl, by go_grown⟩
      | false =>
        have HF := Lib.hid hf
        clear hf
        show Calls _ _ _ _ fun e w' => e = .returned (.bool (!hasb s 128#8)) ∧ _
        go_enter Tryd.func12, Tryd.ntmps12
        go_wp2_with fail
        refine (valid_is k O G s true HV.out ad cap _ (HR.out.below (by go_grown))).mono ?_
        rintro eE W1 ⟨rfl, hg1⟩
        have hb1 : Below w.heap.size w W1 := (show Below w.heap.size w _ by go_grown).trans (hg1.mono (by first | omega | go_size))
        obtain ⟨hc1, hf1⟩ := bcell hg1
        have hs1 := hg1.size
        try simp only [World.size_alloc, World.size_setCell, World.size_drew] at hs1
        have hl1_0_0 : W1.cell? ⟨w.heap.size, 0, none⟩ = some (num k) := (hc1 _ _ (by first | omega | go_size)).trans (by first | (with_reducible assumption) | go_cell)
        have hz1_0_0 : W1.frozen? ⟨w.heap.size, 0, none⟩ = false := (hf1 _ _ (by first | omega | go_size)).trans (by first | (with_reducible assumption) | (go_simp; done) | (simp [*]; done))
        have hl1_0_1 : W1.cell? ⟨w.heap.size, 1, none⟩ = some (st O) := (hc1 _ _ (by first | omega | go_size)).trans (by first | (with_reducible assumption) | go_cell)
        have hz1_0_1 : W1.frozen? ⟨w.heap.size, 1, none⟩ = false := (hf1 _ _ (by first | omega | go_size)).trans (by first | (with_reducible assumption) | (go_simp; done) | (simp [*]; done))
        have hl1_0_2 : W1.cell? ⟨w.heap.size, 2, none⟩ = some (st G) := (hc1 _ _ (by first | omega | go_size)).trans (by first | (with_reducible assumption) | go_cell)
        have hz1_0_2 : W1.frozen? ⟨w.heap.size, 2, none⟩ = false := (hf1 _ _ (by first | omega | go_size)).trans (by first | (with_reducible assumption) | (go_simp; done) | (simp [*]; done))
        have hl1_0_3 : W1.cell? ⟨w.heap.size, 3, none⟩ = some (by8 s) := (hc1 _ _ (by first | omega | go_size)).trans (by first | (with_reducible assumption) | go_cell)
        have hz1_0_3 : W1.frozen? ⟨w.heap.size, 3, none⟩ = false := (hf1 _ _ (by first | omega | go_size)).trans (by first | (with_reducible assumption) | (go_simp; done) | (simp [*]; done))
        have hk1_0 : w.heap.size < W1.heap.size := by omega
        clear hg1 hc1 hf1
        go_wp2_with fail
        refine (St.has_is k O G s 4#8 true HD.out _).mono ?_
        rintro eE W3 ⟨rfl, hg3⟩
        have hb3 : Below w.heap.size w W3 := (show Below w.heap.size w _ by go_grown).trans (hg3.mono (by first | omega | go_size))
        obtain ⟨hc3, hf3⟩ := bcell hg3
        have hs3 := hg3.size
        try simp only [World.size_alloc, World.size_setCell, World.size_drew] at hs3
        have hl3_0_0 : W3.cell? ⟨w.heap.size, 0, none⟩ = some (num k) := (hc3 _ _ (by first | omega | go_size)).trans (by first | (with_reducible assumption) | go_cell)
        have hz3_0_0 : W3.frozen? ⟨w.heap.size, 0, none⟩ = false := (hf3 _ _ (by first | omega | go_size)).trans (by first | (with_reducible assumption) | (go_simp; done) | (simp [*]; done))
        have hl3_0_1 : W3.cell? ⟨w.heap.size, 1, none⟩ = some (st O) := (hc3 _ _ (by first | omega | go_size)).trans (by first | (with_reducible assumption) | go_cell)
        have hz3_0_1 : W3.frozen? ⟨w.heap.size, 1, none⟩ = false := (hf3 _ _ (by first | omega | go_size)).trans (by first | (with_reducible assumption) | (go_simp; done) | (simp [*]; done))
        have hl3_0_2 : W3.cell? ⟨w.heap.size, 2, none⟩ = some (st G) := (hc3 _ _ (by first | omega | go_size)).trans (by first | (with_reducible assumption) | go_cell)
        have hz3_0_2 : W3.frozen? ⟨w.heap.size, 2, none⟩ = false := (hf3 _ _ (by first | omega | go_size)).trans (by first | (with_reducible assumption) | (go_simp; done) | (simp [*]; done))
        have hl3_0_3 : W3.cell? ⟨w.heap.size, 3, none⟩ = some (by8 s) := (hc3 _ _ (by first | omega | go_size)).trans (by first | (with_reducible assumption) | go_cell)
        have hz3_0_3 : W3.frozen? ⟨w.heap.size, 3, none⟩ = false := (hf3 _ _ (by first | omega | go_size)).trans (by first | (with_reducible assumption) | (go_simp; done) | (simp [*]; done))
        have hk3_0 : w.heap.size < W3.heap.size := by omega
        clear hg3 hc3 hf3
        go_wp2_with fail
        refine (St.has_is k O G s 64#8 false HF.out _).mono ?_
        rintro eE W4 ⟨rfl, hg4⟩
        have hb4 : Below w.heap.size w W4 := (show Below w.heap.size w _ by go_grown).trans (hg4.mono (by first | omega | go_size))
        obtain ⟨hc4, hf4⟩ := bcell hg4
        have hs4 := hg4.size
        try simp only [World.size_alloc, World.size_setCell, World.size_drew] at hs4
        have hl4_0_0 : W4.cell? ⟨w.heap.size, 0, none⟩ = some (num k) := (hc4 _ _ (by first | omega | go_size)).trans (by first | (with_reducible assumption) | go_cell)
        have hz4_0_0 : W4.frozen? ⟨w.heap.size, 0, none⟩ = false := (hf4 _ _ (by first | omega | go_size)).trans (by first | (with_reducible assumption) | (go_simp; done) | (simp [*]; done))
        have hl4_0_1 : W4.cell? ⟨w.heap.size, 1, none⟩ = some (st O) := (hc4 _ _ (by first | omega | go_size)).trans (by first | (with_reducible assumption) | go_cell)
        have hz4_0_1 : W4.frozen? ⟨w.heap.size, 1, none⟩ = false := (hf4 _ _ (by first | omega | go_size)).trans (by first | (with_reducible assumption) | (go_simp; done) | (simp [*]; done))
        have hl4_0_2 : W4.cell? ⟨w.heap.size, 2, none⟩ = some (st G) := (hc4 _ _ (by first | omega | go_size)).trans (by first | (with_reducible assumption) | go_cell)
        have hz4_0_2 : W4.frozen? ⟨w.heap.size, 2, none⟩ = false := (hf4 _ _ (by first | omega | go_size)).trans (by first | (with_reducible assumption) | (go_simp; done) | (simp [*]; done))
        have hl4_0_3 : W4.cell? ⟨w.heap.size, 3, none⟩ = some (by8 s) := (hc4 _ _ (by first | omega | go_size)).trans (by first | (with_reducible assumption) | go_cell)
        have hz4_0_3 : W4.frozen? ⟨w.heap.size, 3, none⟩ = false := (hf4 _ _ (by first | omega | go_size)).trans (by first | (with_reducible assumption) | (go_simp; done) | (simp [*]; done))
        have hk4_0 : w.heap.size < W4.heap.size := by omega
        clear hg4 hc4 hf4
        go_wp2_with fail
        refine (St.has_is k O G s 128#8 _ rfl _).mono ?_
        rintro eE W5 ⟨rfl, hg5⟩
        have hb5 : Below w.heap.size w W5 := (show Below w.heap.size w _ by go_grown).trans (hg5.mono (by first | omega | go_size))
        obtain ⟨hc5, hf5⟩ := bcell hg5
        have hs5 := hg5.size
        try simp only [World.size_alloc, World.size_setCell, World.size_drew] at hs5
        have hl5_0_0 : W5.cell? ⟨w.heap.size, 0, none⟩ = some (num k) := (hc5 _ _ (by first | omega | go_size)).trans (by first | (with_reducible assumption) | go_cell)
        have hz5_0_0 : W5.frozen? ⟨w.heap.size, 0, none⟩ = false := (hf5 _ _ (by first | omega | go_size)).trans (by first | (with_reducible assumption) | (go_simp; done) | (simp [*]; done))
        have hl5_0_1 : W5.cell? ⟨w.heap.size, 1, none⟩ = some (st O) := (hc5 _ _ (by first | omega | go_size)).trans (by first | (with_reducible assumption) | go_cell)
        have hz5_0_1 : W5.frozen? ⟨w.heap.size, 1, none⟩ = false := (hf5 _ _ (by first | omega | go_size)).trans (by first | (with_reducible assumption) | (go_simp; done) | (simp [*]; done))
        have hl5_0_2 : W5.cell? ⟨w.heap.size, 2, none⟩ = some (st G) := (hc5 _ _ (by first | omega | go_size)).trans (by first | (with_reducible assumption) | go_cell)
        have hz5_0_2 : W5.frozen? ⟨w.heap.size, 2, none⟩ = false := (hf5 _ _ (by first | omega | go_size)).trans (by first | (with_reducible assumption) | (go_simp; done) | (simp [*]; done))
        have hl5_0_3 : W5.cell? ⟨w.heap.size, 3, none⟩ = some (by8 s) := (hc5 _ _ (by first | omega | go_size)).trans (by first | (with_reducible assumption) | go_cell)
        have hz5_0_3 : W5.frozen? ⟨w.heap.size, 3, none⟩ = false := (hf5 _ _ (by first | omega | go_size)).trans (by first | (with_reducible assumption) | (go_simp; done) | (simp [*]; done))
        have hk5_0 : w.heap.size < W5.heap.size := by omega
        clear hg5 hc5 hf5
        go_wp2_with fail
        go_ret
        exact ⟨rfl, by go_grown⟩

set_option maxRecDepth 100000 in
set_option maxHeartbeats 2000000 in
theorem fixed_no (k : Int) (O G : Set64) (s : Byte) (h : (validB k O G s && hasb s 8#8) = false) (ad : Addr) (cap : Nat) (w : World) (hR : Rules w ad cap) : Calls Tryd.prog 10 #[dev k O G s] w (Gives w.heap.size w (.tuple #[st 0#64, .bool false])) := by
  unfold Gives
  have hb0 : Below w.heap.size w w := Below.refl _ _
  have HR := Lib.hid hR
  clear hR
  cases hv : validB k O G s with
  | false =>
    have HV := Lib.hid hv
    clear hv h
    go_enter Tryd.func10, Tryd.ntmps10
    go_wp2_with fail
    refine (valid_is k O G s false HV.out ad cap _ (HR.out.below (by go_grown))).mono ?_
    rintro eE W1 ⟨rfl, hg1⟩
    have hb1 : Below w.heap.size w W1 := (show Below w.heap.size w _ by go_grown).trans (hg1.mono (by first | omega | go_size))
    obtain ⟨hc1, hf1⟩ := bcell hg1
    have hs1 := hg1.size
    try simp only [World.size_alloc, World.size_setCell, World.size_drew] at hs1
    have hl1_0_0 : W1.cell? ⟨w.heap.size, 0, none⟩ = some (num k) := (hc1 _ _ (by first | omega | go_size)).trans (by first | (with_reducible assumption) | go_cell)
    have hz1_0_0 : W1.frozen? ⟨w.heap.size, 0, none⟩ = false := (hf1 _ _ (by first | omega | go_size)).trans (by first | (with_reducible assumption) | (go_simp; done) | (simp [*]; done))
    have hl1_0_1 : W1.cell? ⟨w.heap.size, 1, none⟩ = some (st O) := (hc1 _ _ (by first | omega | go_size)).trans (by first | (with_reducible assumption) | go_cell)
    have hz1_0_1 : W1.frozen? ⟨w.heap.size, 1, none⟩ = false := (hf1 _ _ (by first | omega | go_size)).trans (by first | (with_reducible assumption) | (go_simp; done) | (simp [*]; done))
    have hl1_0_2 : W1.cell? ⟨w.heap.size, 2, none⟩ = some (st G) := (hc1 _ _ (by first | omega | go_size)).trans (by first | (with_reducible assumption) | go_cell)
    have hz1_0_2 : W1.frozen? ⟨w.heap.size, 2, none⟩ = false := (hf1 _ _ (by first | omega | go_size)).trans (by first | (with_reducible assumption) | (go_simp; done) | (simp [*]; done))
    have hl1_0_3 : W1.cell? ⟨w.heap.size, 3, none⟩ = some (by8 s) := (hc1 _ _ (by first | omega | go_size)).trans (by first | (with_reducible assumption) | go_cell)
    have hz1_0_3 : W1.frozen? ⟨w.heap.size, 3, none⟩ = false := (hf1 _ _ (by first | omega | go_size)).trans (by first | (with_reducible assumption) | (go_simp; done) | (simp [*]; done))
    have hk1_0 : w.heap.size < W1.heap.size := by omega
    clear hg1 hc1 hf1
    go_wp2_with fail
    go_returns
    exact ⟨rfl, by go_grown⟩
  | true =>
    have HV := Lib.hid hv
    have HD := Lib.hid (show hasb s 8#8 = false by rw [hv] at h; exact h)
    clear hv h
    go_enter Tryd.func10, Tryd.ntmps10
    go_wp2_with fail
    refine (valid_is k O G s true HV.out ad cap _ (HR.out.below (by go_grown))).mono ?_
    rintro eE W1 ⟨rfl, hg1⟩
    have hb1 : Below w.heap.size w W1 := (show Below w.heap.size w _ by go_grown).trans (hg1.mono (by first | omega | go_size))
    obtain ⟨hc1, hf1⟩ := bcell hg1
    have hs1 := hg1.size
    try simp only [World.size_alloc, World.size_setCell, World.size_drew] at hs1
    have hl1_0_0 : W1.cell? ⟨w.heap.size, 0, none⟩ = some (num k) := (hc1 _ _ (by first | omega | go_size)).trans (by first | (with_reducible assumption) | go_cell)
    have hz1_0_0 : W1.frozen? ⟨w.heap.size, 0, none⟩ = false := (hf1 _ _ (by first | omega | go_size)).trans (by first | (with_reducible assumption) | (go_simp; done) | (simp [*]; done))
    have hl1_0_1 : W1.cell? ⟨w.heap.size, 1, none⟩ = some (st O) := (hc1 _ _ (by first | omega | go_size)).trans (by first | (with_reducible assumption) | go_cell)
    have hz1_0_1 : W1.frozen? ⟨w.heap.size, 1, none⟩ = false := (hf1 _ _ (by first | omega | go_size)).trans (by first | (with_reducible assumption) | (go_simp; done) | (simp [*]; done))
    have hl1_0_2 : W1.cell? ⟨w.heap.size, 2, none⟩ = some (st G) := (hc1 _ _ (by first | omega | go_size)).trans (by first | (with_reducible assumption) | go_cell)
    have hz1_0_2 : W1.frozen? ⟨w.heap.size, 2, none⟩ = false := (hf1 _ _ (by first | omega | go_size)).trans (by first | (with_reducible assumption) | (go_simp; done) | (simp [*]; done))
    have hl1_0_3 : W1.cell? ⟨w.heap.size, 3, none⟩ = some (by8 s) := (hc1 _ _ (by first | omega | go_size)).trans (by first | (with_reducible assumption) | go_cell)
    have hz1_0_3 : W1.frozen? ⟨w.heap.size, 3, none⟩ = false := (hf1 _ _ (by first | omega | go_size)).trans (by first | (with_reducible assumption) | (go_simp; done) | (simp [*]; done))
    have hk1_0 : w.heap.size < W1.heap.size := by omega
    clear hg1 hc1 hf1
    go_wp2_with fail
    refine (St.has_is k O G s 8#8 false HD.out _).mono ?_
    rintro eE W3 ⟨rfl, hg3⟩
    have hb3 : Below w.heap.size w W3 := (show Below w.heap.size w _ by go_grown).trans (hg3.mono (by first | omega | go_size))
    obtain ⟨hc3, hf3⟩ := bcell hg3
    have hs3 := hg3.size
    try simp only [World.size_alloc, World.size_setCell, World.size_drew] at hs3
    have hl3_0_0 : W3.cell? ⟨w.heap.size, 0, none⟩ = some (num k) := (hc3 _ _ (by first | omega | go_size)).trans (by first | (with_reducible assumption) | go_cell)
    have hz3_0_0 : W3.frozen? ⟨w.heap.size, 0, none⟩ = false := (hf3 _ _ (by first | omega | go_size)).trans (by first | (with_reducible assumption) | (go_simp; done) | (simp [*]; done))
    have hl3_0_1 : W3.cell? ⟨w.heap.size, 1, none⟩ = some (st O) := (hc3 _ _ (by first | omega | go_size)).trans (by first | (with_reducible assumption) | go_cell)
    have hz3_0_1 : W3.frozen? ⟨w.heap.size, 1, none⟩ = false := (hf3 _ _ (by first | omega | go_size)).trans (by first | (with_reducible assumption) | (go_simp; done) | (simp [*]; done))
    have hl3_0_2 : W3.cell? ⟨w.heap.size, 2, none⟩ = some (st G) := (hc3 _ _ (by first | omega | go_size)).trans (by first | (with_reducible assumption) | go_cell)
    have hz3_0_2 : W3.frozen? ⟨w.heap.size, 2, none⟩ = false := (hf3 _ _ (by first | omega | go_size)).trans (by first | (with_reducible assumption) | (go_simp; done) | (simp [*]; done))
    have hl3_0_3 : W3.cell? ⟨w.heap.size, 3, none⟩ = some (by8 s) := (hc3 _ _ (by first | omega | go_size)).trans (by first | (with_reducible assumption) | go_cell)
    have hz3_0_3 : W3.frozen? ⟨w.heap.size, 3, none⟩ = false := (hf3 _ _ (by first | omega | go_size)).trans (by first | (with_reducible assumption) | (go_simp; done) | (simp [*]; done))
    have hk3_0 : w.heap.size < W3.heap.size := by omega
    clear hg3 hc3 hf3
    go_wp2_with fail
    go_returns
    exact ⟨rfl, by go_grown⟩
theorem fixed_ok (k : Int) (O G : Set64) (s : Byte) (h : validB k O G s = true) (h8 : hasb s 8#8 = true) (ad : Addr) (cap : Nat) (w : World) (hR : Rules w ad cap) : Calls Tryd.prog 10 #[dev k O G s] w (Gives w.heap.size w (.tuple #[st G, .bool true])) := by
  unfold Gives
  have hb0 : Below w.heap.size w w := Below.refl _ _
  have HR := Lib.hid hR
  have HV := Lib.hid h
  have HD := Lib.hid h8
  clear hR h h8
  go_enter Tryd.func10, Tryd.ntmps10
  go_wp2_with fail
  refine (valid_is k O G s true HV.out ad cap _ (HR.out.below (by go_grown))).mono ?_
  rintro eE W1 ⟨rfl, hg1⟩
  have hb1 : Below w.heap.size w W1 := (show Below w.heap.size w _ by go_grown).trans (hg1.mono (by first | omega | go_size))
  obtain ⟨hc1, hf1⟩ := bcell hg1
  have hs1 := hg1.size
  try simp only [World.size_alloc, World.size_setCell, World.size_drew] at hs1
  have hl1_0_0 : W1.cell? ⟨w.heap.size, 0, none⟩ = some (num k) := (hc1 _ _ (by first | omega | go_size)).trans (by first | (with_reducible assumption) | go_cell)
  have hz1_0_0 : W1.frozen? ⟨w.heap.size, 0, none⟩ = false := (hf1 _ _ (by first | omega | go_size)).trans (by first | (with_reducible assumption) | (go_simp; done) | (simp [*]; done))
  have hl1_0_1 : W1.cell? ⟨w.heap.size, 1, none⟩ = some (st O) := (hc1 _ _ (by first | omega | go_size)).trans (by first | (with_reducible assumption) | go_cell)
  have hz1_0_1 : W1.frozen? ⟨w.heap.size, 1, none⟩ = false := (hf1 _ _ (by first | omega | go_size)).trans (by first | (with_reducible assumption) | (go_simp; done) | (simp [*]; done))
  have hl1_0_2 : W1.cell? ⟨w.heap.size, 2, none⟩ = some (st G) := (hc1 _ _ (by first | omega | go_size)).trans (by first | (with_reducible assumption) | go_cell)
  have hz1_0_2 : W1.frozen? ⟨w.heap.size, 2, none⟩ = false := (hf1 _ _ (by first | omega | go_size)).trans (by first | (with_reducible assumption) | (go_simp; done) | (simp [*]; done))
  have hl1_0_3 : W1.cell? ⟨w.heap.size, 3, none⟩ = some (by8 s) := (hc1 _ _ (by first | omega | go_size)).trans (by first | (with_reducible assumption) | go_cell)
  have hz1_0_3 : W1.frozen? ⟨w.heap.size, 3, none⟩ = false := (hf1 _ _ (by first | omega | go_size)).trans (by first | (with_reducible assumption) | (go_simp; done) | (simp [*]; done))
  have hk1_0 : w.heap.size < W1.heap.size := by omega
  clear hg1 hc1 hf1
  go_wp2_with fail
  refine (St.has_is k O G s 8#8 true HD.out _).mono ?_
  rintro eE W3 ⟨rfl, hg3⟩
  have hb3 : Below w.heap.size w W3 := (show Below w.heap.size w _ by go_grown).trans (hg3.mono (by first | omega | go_size))
  obtain ⟨hc3, hf3⟩ := bcell hg3
  have hs3 := hg3.size
  try simp only [World.size_alloc, World.size_setCell, World.size_drew] at hs3
  have hl3_0_0 : W3.cell? ⟨w.heap.size, 0, none⟩ = some (num k) := (hc3 _ _ (by first | omega | go_size)).trans (by first | (with_reducible assumption) | go_cell)
  have hz3_0_0 : W3.frozen? ⟨w.heap.size, 0, none⟩ = false := (hf3 _ _ (by first | omega | go_size)).trans (by first | (with_reducible assumption) | (go_simp; done) | (simp [*]; done))
  have hl3_0_1 : W3.cell? ⟨w.heap.size, 1, none⟩ = some (st O) := (hc3 _ _ (by first | omega | go_size)).trans (by first | (with_reducible assumption) | go_cell)
  have hz3_0_1 : W3.frozen? ⟨w.heap.size, 1, none⟩ = false := (hf3 _ _ (by first | omega | go_size)).trans (by first | (with_reducible assumption) | (go_simp; done) | (simp [*]; done))
  have hl3_0_2 : W3.cell? ⟨w.heap.size, 2, none⟩ = some (st G) := (hc3 _ _ (by first | omega | go_size)).trans (by first | (with_reducible assumption) | go_cell)
  have hz3_0_2 : W3.frozen? ⟨w.heap.size, 2, none⟩ = false := (hf3 _ _ (by first | omega | go_size)).trans (by first | (with_reducible assumption) | (go_simp; done) | (simp [*]; done))
  have hl3_0_3 : W3.cell? ⟨w.heap.size, 3, none⟩ = some (by8 s) := (hc3 _ _ (by first | omega | go_size)).trans (by first | (with_reducible assumption) | go_cell)
  have hz3_0_3 : W3.frozen? ⟨w.heap.size, 3, none⟩ = false := (hf3 _ _ (by first | omega | go_size)).trans (by first | (with_reducible assumption) | (go_simp; done) | (simp [*]; done))
  have hk3_0 : w.heap.size < W3.heap.size := by omega
  clear hg3 hc3 hf3
  go_wp2_with fail
  go_returns
  exact ⟨rfl, by go_grown⟩

end Go.Proofs.YtmmgcmbniidieaaDoor.St
