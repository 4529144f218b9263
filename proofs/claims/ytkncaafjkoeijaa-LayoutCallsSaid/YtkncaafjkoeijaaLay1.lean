
/- Rings: their sizes, their parts, whether two ranges share a byte. -/
import Derived.Test.YtkncaafjkoeijaaSerAll
import Derived.Test.YtkncaafjkoeijaaHeld
import Derived.Test.YtkncaafjkoeijaaSetN
import Derived.RegionTactic
import Derived.BigRegion
import Derived.LoopN
namespace Go.Proofs.Ytkncaafjkoeijaa.Lay
open Go.RowKit Ser
set_option linter.unusedVariables false
set_option linter.unusedSimpArgs false

abbrev ringV (p : Bool) (n d v e : Int) : Value := .agg #[.bool p, num n, u64 d, u64 v, u64 e]

def sizeB (p : Bool) (n : Int) : Bool := if p = true then decide (1 ≤ n ∧ n ≤ 32768) else powB n
def partsI (p : Bool) (n : Int) : Int × Int × Int := if sizeB p n = true then (if p = true then (16 * n, 4, 4) else (16 * n, 6 + 2 * n, 6 + 8 * n)) else (0, 0, 0)
def toI (p : Bool) : Int := if p = true then 4 else 2
def shareB (a an b bn : Int) : Bool := if b < a then decide (a - b < bn) else decide (b - a < an)
def partB (a n t : Int) : Bool := decide (a % t = 0) && decide (a + (n - 1) ≤ 18446744073709551615)

theorem sizeB_in {p : Bool} {n : Int} (h : sizeB p n = true) : 1 ≤ n ∧ n ≤ 32768 := by
  unfold sizeB at h
  split at h
  · simpa using h
  · simp only [powB, Bool.and_eq_true, decide_eq_true_eq] at h; exact h.1

theorem start_any (w : World) : Calls Try.prog 129 #[] w (Gives w.heap.size w (posV 0 true)) := by
  unfold Gives
  go_enter Try.func129, Try.ntmps129
  go_wp2
  go_returns
  exact ⟨rfl, by go_grown⟩

theorem beq0 (c : Prop) [Decidable c] : (((if c then (0 : Int) else 2) == 0) = decide c) := by split <;> simp_all

set_option maxRecDepth 100000 in
theorem size_any (p : Bool) (n d v e : Int) (w : World) : Calls Try.prog 111 #[ringV p n d v e] w (Gives w.heap.size w (.bool (sizeB p n))) := by
  unfold Gives
  have hb0 : Below w.heap.size w w := Below.refl _ _
  cases p with
  | true =>
    obtain ⟨x, hx⟩ : ∃ x, checkR 0 n = x := ⟨_, rfl⟩
    have HX := Lib.hid (show (x == 0) = sizeB true n from by
      rw [← hx]; unfold checkR sizeB OkPos OkSize
      by_cases h : 1 ≤ n ∧ n ≤ 32768
      · rw [if_pos ⟨h, by omega, by omega⟩]; simp [h]
      · rw [if_neg (fun hh => h hh.1)]; simp [h])
    have hc := fun W => s_check_is 0 n x true hx W
    have HC := Lib.hid hc
    clear hx hc
    go_enter Try.func111, Try.ntmps111
    go_wp2_with fail
    refine Lib.wp_region_class (Lib.Held w _ [(w.heap.size, 0, (.bool true : Value)), (w.heap.size, 1, (num n : Value))]) (by kernel_rfl) (by kernel_rfl) ⟨by go_grown, Below.refl _ _, ⟨by first | omega | go_size, by first | go_cell | (simp [*]; done), by first | (with_reducible assumption) | (go_simp; done) | (simp [*]; done)⟩, ⟨by first | omega | go_size, by first | go_cell | (simp [*]; done), by first | (with_reducible assumption) | (go_simp; done) | (simp [*]; done)⟩, trivial⟩ ?_
    repeat (first | go_big_quiet_step ((intro hq; first | rfl | (go_at_call 129; exact Lib.Held.call hq (start_any _)) | (go_at_call 128; exact Lib.Held.call hq (HC.out _)) | (have hq' := hq; obtain ⟨hbq, heq, ⟨hkq_0, hlq_0, hzq_0⟩, ⟨hkq_1, hlq_1, hzq_1⟩, _⟩ := hq'; go_simp; rfl))) | quiet_step ((intro hq; first | rfl | (go_at_call 129; exact Lib.Held.call hq (start_any _)) | (go_at_call 128; exact Lib.Held.call hq (HC.out _)) | (have hq' := hq; obtain ⟨hbq, heq, ⟨hkq_0, hlq_0, hzq_0⟩, ⟨hkq_1, hlq_1, hzq_1⟩, _⟩ := hq'; go_simp; rfl))))
    refine wpQuiet_nil ?_
    intro W1 hq1
    obtain ⟨hb1, he1, ⟨hk1_0, hl1_0, hz1_0⟩, ⟨hk1_1, hl1_1, hz1_1⟩, _⟩ := hq1
    have hs1 := he1.size
    try simp only [World.size_alloc, World.size_setCell, World.size_drew] at hs1
    go_wp2_with fail
    go_ret
    exact ⟨by first | rfl | (rw [HX.out]; rfl), by go_grown⟩
  | false =>
    go_enter Try.func111, Try.ntmps111
    go_wp2_with fail
    refine (s_power_any n _).mono ?_
    rintro e w' ⟨rfl, rfl⟩
    go_wp2_with fail
    go_ret
    exact ⟨rfl, by go_grown⟩

theorem size_is (p s : Bool) (n d v e : Int) (h : sizeB p n = s) (w : World) : Calls Try.prog 111 #[ringV p n d v e] w (Gives w.heap.size w (.bool s)) := h ▸ size_any p n d v e w

set_option maxRecDepth 100000 in
theorem parts_is (p : Bool) (n d v e x y z : Int) (h : partsI p n = (x, y, z)) (w : World) : Calls Try.prog 63 #[ringV p n d v e] w (Gives w.heap.size w (.tuple #[u64 x, u64 y, u64 z])) := by
  unfold Gives
  have hb0 : Below w.heap.size w w := Below.refl _ _
  unfold partsI at h
  cases hs : sizeB p n with
  | false =>
    rw [hs] at h
    cases h
    have HS := Lib.hid hs
    clear hs
    go_enter Try.func63, Try.ntmps63
    go_wp2_with fail
    refine (size_is p false n d v e HS.out _).mono ?_
    rintro eE W1 ⟨rfl, hg1⟩
    have hb1 : Below w.heap.size w W1 := (show Below w.heap.size w _ by go_grown).trans (hg1.mono (by first | omega | go_size))
    obtain ⟨hc1, hf1⟩ := bcell hg1
    have hs1 := hg1.size
    try simp only [World.size_alloc, World.size_setCell, World.size_drew] at hs1
    have hl1_0_0 : W1.cell? ⟨w.heap.size, 0, none⟩ = some (.bool p) := (hc1 _ _ (by first | omega | go_size)).trans (by first | (with_reducible assumption) | go_cell)
    have hz1_0_0 : W1.frozen? ⟨w.heap.size, 0, none⟩ = false := (hf1 _ _ (by first | omega | go_size)).trans (by first | (with_reducible assumption) | (go_simp; done) | (simp [*]; done))
    have hl1_0_1 : W1.cell? ⟨w.heap.size, 1, none⟩ = some (num n) := (hc1 _ _ (by first | omega | go_size)).trans (by first | (with_reducible assumption) | go_cell)
    have hz1_0_1 : W1.frozen? ⟨w.heap.size, 1, none⟩ = false := (hf1 _ _ (by first | omega | go_size)).trans (by first | (with_reducible assumption) | (go_simp; done) | (simp [*]; done))
    have hl1_0_2 : W1.cell? ⟨w.heap.size, 2, none⟩ = some (u64 d) := (hc1 _ _ (by first | omega | go_size)).trans (by first | (with_reducible assumption) | go_cell)
    have hz1_0_2 : W1.frozen? ⟨w.heap.size, 2, none⟩ = false := (hf1 _ _ (by first | omega | go_size)).trans (by first | (with_reducible assumption) | (go_simp; done) | (simp [*]; done))
    have hl1_0_3 : W1.cell? ⟨w.heap.size, 3, none⟩ = some (u64 v) := (hc1 _ _ (by first | omega | go_size)).trans (by first | (with_reducible assumption) | go_cell)
    have hz1_0_3 : W1.frozen? ⟨w.heap.size, 3, none⟩ = false := (hf1 _ _ (by first | omega | go_size)).trans (by first | (with_reducible assumption) | (go_simp; done) | (simp [*]; done))
    have hl1_0_4 : W1.cell? ⟨w.heap.size, 4, none⟩ = some (u64 e) := (hc1 _ _ (by first | omega | go_size)).trans (by first | (with_reducible assumption) | go_cell)
    have hz1_0_4 : W1.frozen? ⟨w.heap.size, 4, none⟩ = false := (hf1 _ _ (by first | omega | go_size)).trans (by first | (with_reducible assumption) | (go_simp; done) | (simp [*]; done))
    have hk1_0 : w.heap.size < W1.heap.size := by omega
    clear hg1 hc1 hf1
    go_wp2_with fail
    go_returns
    exact ⟨rfl, by go_grown⟩
  | true =>
    have hn := sizeB_in hs
    rw [hs, if_pos rfl] at h
    have HS := Lib.hid hs
    clear hs
    cases p with
    | true =>
      cases h
      go_enter Try.func63, Try.ntmps63
      go_wp2_with fail
      refine (size_is true true n d v e HS.out _).mono ?_
      rintro eE W1 ⟨rfl, hg1⟩
      have hb1 : Below w.heap.size w W1 := (show Below w.heap.size w _ by go_grown).trans (hg1.mono (by first | omega | go_size))
      obtain ⟨hc1, hf1⟩ := bcell hg1
      have hs1 := hg1.size
      try simp only [World.size_alloc, World.size_setCell, World.size_drew] at hs1
      have hl1_0_0 : W1.cell? ⟨w.heap.size, 0, none⟩ = some (.bool true) := (hc1 _ _ (by first | omega | go_size)).trans (by first | (with_reducible assumption) | go_cell)
      have hz1_0_0 : W1.frozen? ⟨w.heap.size, 0, none⟩ = false := (hf1 _ _ (by first | omega | go_size)).trans (by first | (with_reducible assumption) | (go_simp; done) | (simp [*]; done))
      have hl1_0_1 : W1.cell? ⟨w.heap.size, 1, none⟩ = some (num n) := (hc1 _ _ (by first | omega | go_size)).trans (by first | (with_reducible assumption) | go_cell)
      have hz1_0_1 : W1.frozen? ⟨w.heap.size, 1, none⟩ = false := (hf1 _ _ (by first | omega | go_size)).trans (by first | (with_reducible assumption) | (go_simp; done) | (simp [*]; done))
      have hl1_0_2 : W1.cell? ⟨w.heap.size, 2, none⟩ = some (u64 d) := (hc1 _ _ (by first | omega | go_size)).trans (by first | (with_reducible assumption) | go_cell)
      have hz1_0_2 : W1.frozen? ⟨w.heap.size, 2, none⟩ = false := (hf1 _ _ (by first | omega | go_size)).trans (by first | (with_reducible assumption) | (go_simp; done) | (simp [*]; done))
      have hl1_0_3 : W1.cell? ⟨w.heap.size, 3, none⟩ = some (u64 v) := (hc1 _ _ (by first | omega | go_size)).trans (by first | (with_reducible assumption) | go_cell)
      have hz1_0_3 : W1.frozen? ⟨w.heap.size, 3, none⟩ = false := (hf1 _ _ (by first | omega | go_size)).trans (by first | (with_reducible assumption) | (go_simp; done) | (simp [*]; done))
      have hl1_0_4 : W1.cell? ⟨w.heap.size, 4, none⟩ = some (u64 e) := (hc1 _ _ (by first | omega | go_size)).trans (by first | (with_reducible assumption) | go_cell)
      have hz1_0_4 : W1.frozen? ⟨w.heap.size, 4, none⟩ = false := (hf1 _ _ (by first | omega | go_size)).trans (by first | (with_reducible assumption) | (go_simp; done) | (simp [*]; done))
      have hk1_0 : w.heap.size < W1.heap.size := by omega
      clear hg1 hc1 hf1
      go_wp2_with fail
      go_returns
      exact ⟨by rw [Int.mul_comm 16 n]; rfl, by go_grown⟩
    | false =>
      cases h
      go_enter Try.func63, Try.ntmps63
      go_wp2_with fail
      refine (size_is false true n d v e HS.out _).mono ?_
      rintro eE W1 ⟨rfl, hg1⟩
      have hb1 : Below w.heap.size w W1 := (show Below w.heap.size w _ by go_grown).trans (hg1.mono (by first | omega | go_size))
      obtain ⟨hc1, hf1⟩ := bcell hg1
      have hs1 := hg1.size
      try simp only [World.size_alloc, World.size_setCell, World.size_drew] at hs1
      have hl1_0_0 : W1.cell? ⟨w.heap.size, 0, none⟩ = some (.bool false) := (hc1 _ _ (by first | omega | go_size)).trans (by first | (with_reducible assumption) | go_cell)
      have hz1_0_0 : W1.frozen? ⟨w.heap.size, 0, none⟩ = false := (hf1 _ _ (by first | omega | go_size)).trans (by first | (with_reducible assumption) | (go_simp; done) | (simp [*]; done))
      have hl1_0_1 : W1.cell? ⟨w.heap.size, 1, none⟩ = some (num n) := (hc1 _ _ (by first | omega | go_size)).trans (by first | (with_reducible assumption) | go_cell)
      have hz1_0_1 : W1.frozen? ⟨w.heap.size, 1, none⟩ = false := (hf1 _ _ (by first | omega | go_size)).trans (by first | (with_reducible assumption) | (go_simp; done) | (simp [*]; done))
      have hl1_0_2 : W1.cell? ⟨w.heap.size, 2, none⟩ = some (u64 d) := (hc1 _ _ (by first | omega | go_size)).trans (by first | (with_reducible assumption) | go_cell)
      have hz1_0_2 : W1.frozen? ⟨w.heap.size, 2, none⟩ = false := (hf1 _ _ (by first | omega | go_size)).trans (by first | (with_reducible assumption) | (go_simp; done) | (simp [*]; done))
      have hl1_0_3 : W1.cell? ⟨w.heap.size, 3, none⟩ = some (u64 v) := (hc1 _ _ (by first | omega | go_size)).trans (by first | (with_reducible assumption) | go_cell)
      have hz1_0_3 : W1.frozen? ⟨w.heap.size, 3, none⟩ = false := (hf1 _ _ (by first | omega | go_size)).trans (by first | (with_reducible assumption) | (go_simp; done) | (simp [*]; done))
      have hl1_0_4 : W1.cell? ⟨w.heap.size, 4, none⟩ = some (u64 e) := (hc1 _ _ (by first | omega | go_size)).trans (by first | (with_reducible assumption) | go_cell)
      have hz1_0_4 : W1.frozen? ⟨w.heap.size, 4, none⟩ = false := (hf1 _ _ (by first | omega | go_size)).trans (by first | (with_reducible assumption) | (go_simp; done) | (simp [*]; done))
      have hk1_0 : w.heap.size < W1.heap.size := by omega
      clear hg1 hc1 hf1
      go_wp2_with fail
      go_returns
      exact ⟨by rw [Int.mul_comm 16 n, Int.mul_comm 2 n, Int.mul_comm 8 n]; rfl, by go_grown⟩

abbrev partsV (d x v y t e z : Int) : Value := .agg #[u64 d, u64 x, u64 16, u64 v, u64 y, u64 t, u64 e, u64 z, u64 4]

set_option maxRecDepth 100000 in
theorem partsOf_is (p : Bool) (n d v e x y z : Int) (h : partsI p n = (x, y, z)) (w : World) : Calls Try.prog 113 #[ringV p n d v e] w (Gives w.heap.size w (partsV d x v y (toI p) e z)) := by
  unfold Gives
  have hb0 : Below w.heap.size w w := Below.refl _ _
  cases p with
  | true =>
    go_enter Try.func113, Try.ntmps113
    go_wp2_with fail
    refine (parts_is true n d v e x y z h _).mono ?_
    rintro eE W1 ⟨rfl, hg1⟩
    have hb1 : Below w.heap.size w W1 := (show Below w.heap.size w _ by go_grown).trans (hg1.mono (by first | omega | go_size))
    obtain ⟨hc1, hf1⟩ := bcell hg1
    have hs1 := hg1.size
    try simp only [World.size_alloc, World.size_setCell, World.size_drew] at hs1
    have hl1_0_0 : W1.cell? ⟨w.heap.size, 0, none⟩ = some (.bool true) := (hc1 _ _ (by first | omega | go_size)).trans (by first | (with_reducible assumption) | go_cell)
    have hz1_0_0 : W1.frozen? ⟨w.heap.size, 0, none⟩ = false := (hf1 _ _ (by first | omega | go_size)).trans (by first | (with_reducible assumption) | (go_simp; done) | (simp [*]; done))
    have hl1_0_1 : W1.cell? ⟨w.heap.size, 1, none⟩ = some (num n) := (hc1 _ _ (by first | omega | go_size)).trans (by first | (with_reducible assumption) | go_cell)
    have hz1_0_1 : W1.frozen? ⟨w.heap.size, 1, none⟩ = false := (hf1 _ _ (by first | omega | go_size)).trans (by first | (with_reducible assumption) | (go_simp; done) | (simp [*]; done))
    have hl1_0_2 : W1.cell? ⟨w.heap.size, 2, none⟩ = some (u64 d) := (hc1 _ _ (by first | omega | go_size)).trans (by first | (with_reducible assumption) | go_cell)
    have hz1_0_2 : W1.frozen? ⟨w.heap.size, 2, none⟩ = false := (hf1 _ _ (by first | omega | go_size)).trans (by first | (with_reducible assumption) | (go_simp; done) | (simp [*]; done))
    have hl1_0_3 : W1.cell? ⟨w.heap.size, 3, none⟩ = some (u64 v) := (hc1 _ _ (by first | omega | go_size)).trans (by first | (with_reducible assumption) | go_cell)
    have hz1_0_3 : W1.frozen? ⟨w.heap.size, 3, none⟩ = false := (hf1 _ _ (by first | omega | go_size)).trans (by first | (with_reducible assumption) | (go_simp; done) | (simp [*]; done))
    have hl1_0_4 : W1.cell? ⟨w.heap.size, 4, none⟩ = some (u64 e) := (hc1 _ _ (by first | omega | go_size)).trans (by first | (with_reducible assumption) | go_cell)
    have hz1_0_4 : W1.frozen? ⟨w.heap.size, 4, none⟩ = false := (hf1 _ _ (by first | omega | go_size)).trans (by first | (with_reducible assumption) | (go_simp; done) | (simp [*]; done))
    have hk1_0 : w.heap.size < W1.heap.size := by omega
    have hl1_1_0 : W1.cell? ⟨w.heap.size + 1, 0, none⟩ = some (u64 0) := (hc1 _ _ (by first | omega | go_size)).trans (by first | (with_reducible assumption) | go_cell)
    have hz1_1_0 : W1.frozen? ⟨w.heap.size + 1, 0, none⟩ = false := (hf1 _ _ (by first | omega | go_size)).trans (by first | (with_reducible assumption) | (go_simp; done) | (simp [*]; done))
    have hl1_1_1 : W1.cell? ⟨w.heap.size + 1, 1, none⟩ = some (u64 0) := (hc1 _ _ (by first | omega | go_size)).trans (by first | (with_reducible assumption) | go_cell)
    have hz1_1_1 : W1.frozen? ⟨w.heap.size + 1, 1, none⟩ = false := (hf1 _ _ (by first | omega | go_size)).trans (by first | (with_reducible assumption) | (go_simp; done) | (simp [*]; done))
    have hl1_1_2 : W1.cell? ⟨w.heap.size + 1, 2, none⟩ = some (u64 0) := (hc1 _ _ (by first | omega | go_size)).trans (by first | (with_reducible assumption) | go_cell)
    have hz1_1_2 : W1.frozen? ⟨w.heap.size + 1, 2, none⟩ = false := (hf1 _ _ (by first | omega | go_size)).trans (by first | (with_reducible assumption) | (go_simp; done) | (simp [*]; done))
    have hl1_1_3 : W1.cell? ⟨w.heap.size + 1, 3, none⟩ = some (u64 0) := (hc1 _ _ (by first | omega | go_size)).trans (by first | (with_reducible assumption) | go_cell)
    have hz1_1_3 : W1.frozen? ⟨w.heap.size + 1, 3, none⟩ = false := (hf1 _ _ (by first | omega | go_size)).trans (by first | (with_reducible assumption) | (go_simp; done) | (simp [*]; done))
    have hl1_1_4 : W1.cell? ⟨w.heap.size + 1, 4, none⟩ = some (u64 0) := (hc1 _ _ (by first | omega | go_size)).trans (by first | (with_reducible assumption) | go_cell)
    have hz1_1_4 : W1.frozen? ⟨w.heap.size + 1, 4, none⟩ = false := (hf1 _ _ (by first | omega | go_size)).trans (by first | (with_reducible assumption) | (go_simp; done) | (simp [*]; done))
    have hl1_1_5 : W1.cell? ⟨w.heap.size + 1, 5, none⟩ = some (u64 0) := (hc1 _ _ (by first | omega | go_size)).trans (by first | (with_reducible assumption) | go_cell)
    have hz1_1_5 : W1.frozen? ⟨w.heap.size + 1, 5, none⟩ = false := (hf1 _ _ (by first | omega | go_size)).trans (by first | (with_reducible assumption) | (go_simp; done) | (simp [*]; done))
    have hl1_1_6 : W1.cell? ⟨w.heap.size + 1, 6, none⟩ = some (u64 0) := (hc1 _ _ (by first | omega | go_size)).trans (by first | (with_reducible assumption) | go_cell)
    have hz1_1_6 : W1.frozen? ⟨w.heap.size + 1, 6, none⟩ = false := (hf1 _ _ (by first | omega | go_size)).trans (by first | (with_reducible assumption) | (go_simp; done) | (simp [*]; done))
    have hl1_1_7 : W1.cell? ⟨w.heap.size + 1, 7, none⟩ = some (u64 0) := (hc1 _ _ (by first | omega | go_size)).trans (by first | (with_reducible assumption) | go_cell)
    have hz1_1_7 : W1.frozen? ⟨w.heap.size + 1, 7, none⟩ = false := (hf1 _ _ (by first | omega | go_size)).trans (by first | (with_reducible assumption) | (go_simp; done) | (simp [*]; done))
    have hl1_1_8 : W1.cell? ⟨w.heap.size + 1, 8, none⟩ = some (u64 0) := (hc1 _ _ (by first | omega | go_size)).trans (by first | (with_reducible assumption) | go_cell)
    have hz1_1_8 : W1.frozen? ⟨w.heap.size + 1, 8, none⟩ = false := (hf1 _ _ (by first | omega | go_size)).trans (by first | (with_reducible assumption) | (go_simp; done) | (simp [*]; done))
    have hk1_1 : w.heap.size + 1 < W1.heap.size := by omega
    clear hg1 hc1 hf1
    go_wp2_with fail
    have hB2 : Below w.heap.size w ((((((((((W1).setCell ⟨w.heap.size + 1, 0, none⟩ (u64 d)).setCell ⟨w.heap.size + 1, 1, none⟩ (u64 x)).setCell ⟨w.heap.size + 1, 2, none⟩ (u64 16)).setCell ⟨w.heap.size + 1, 3, none⟩ (u64 v)).setCell ⟨w.heap.size + 1, 4, none⟩ (u64 y)).setCell ⟨w.heap.size + 1, 5, none⟩ (u64 4)).setCell ⟨w.heap.size + 1, 6, none⟩ (u64 e)).setCell ⟨w.heap.size + 1, 7, none⟩ (u64 z)).setCell ⟨w.heap.size + 1, 8, none⟩ (u64 4)) := by go_grown
    generalize hG2 : (((((((((W1).setCell ⟨w.heap.size + 1, 0, none⟩ (u64 d)).setCell ⟨w.heap.size + 1, 1, none⟩ (u64 x)).setCell ⟨w.heap.size + 1, 2, none⟩ (u64 16)).setCell ⟨w.heap.size + 1, 3, none⟩ (u64 v)).setCell ⟨w.heap.size + 1, 4, none⟩ (u64 y)).setCell ⟨w.heap.size + 1, 5, none⟩ (u64 4)).setCell ⟨w.heap.size + 1, 6, none⟩ (u64 e)).setCell ⟨w.heap.size + 1, 7, none⟩ (u64 z)).setCell ⟨w.heap.size + 1, 8, none⟩ (u64 4) = WG2 at hB2 ⊢
    have hR2 := Lib.set_row (W := W1) (b := w.heap.size + 1) [u64 d, u64 x, u64 16, u64 v, u64 y, u64 4, u64 e, u64 z, u64 4] (by simp only [Lib.HasRow, Nat.zero_add, Nat.reduceAdd, and_true]; exact ⟨⟨_, by first | (with_reducible assumption) | go_cell | (simp [*]; done)⟩, ⟨_, by first | (with_reducible assumption) | go_cell | (simp [*]; done)⟩, ⟨_, by first | (with_reducible assumption) | go_cell | (simp [*]; done)⟩, ⟨_, by first | (with_reducible assumption) | go_cell | (simp [*]; done)⟩, ⟨_, by first | (with_reducible assumption) | go_cell | (simp [*]; done)⟩, ⟨_, by first | (with_reducible assumption) | go_cell | (simp [*]; done)⟩, ⟨_, by first | (with_reducible assumption) | go_cell | (simp [*]; done)⟩, ⟨_, by first | (with_reducible assumption) | go_cell | (simp [*]; done)⟩, ⟨_, by first | (with_reducible assumption) | go_cell | (simp [*]; done)⟩⟩) hG2
    clear hG2
    simp only [Lib.RowAt, Nat.zero_add, Nat.reduceAdd, and_true] at hR2
    obtain ⟨qr0, qr1, qr2, qr3, qr4, qr5, qr6, qr7, qr8⟩ := hR2
    exact bodyPost_ret (v := partsV d x v y 4 e z) (by simp [results, Try.results113, go_sem, qr0, qr1, qr2, qr3, qr4, qr5, qr6, qr7, qr8]) rfl ⟨rfl, hB2⟩
  | false =>
    go_enter Try.func113, Try.ntmps113
    go_wp2_with fail
    refine (parts_is false n d v e x y z h _).mono ?_
    rintro eE W1 ⟨rfl, hg1⟩
    have hb1 : Below w.heap.size w W1 := (show Below w.heap.size w _ by go_grown).trans (hg1.mono (by first | omega | go_size))
    obtain ⟨hc1, hf1⟩ := bcell hg1
    have hs1 := hg1.size
    try simp only [World.size_alloc, World.size_setCell, World.size_drew] at hs1
    have hl1_0_0 : W1.cell? ⟨w.heap.size, 0, none⟩ = some (.bool false) := (hc1 _ _ (by first | omega | go_size)).trans (by first | (with_reducible assumption) | go_cell)
    have hz1_0_0 : W1.frozen? ⟨w.heap.size, 0, none⟩ = false := (hf1 _ _ (by first | omega | go_size)).trans (by first | (with_reducible assumption) | (go_simp; done) | (simp [*]; done))
    have hl1_0_1 : W1.cell? ⟨w.heap.size, 1, none⟩ = some (num n) := (hc1 _ _ (by first | omega | go_size)).trans (by first | (with_reducible assumption) | go_cell)
    have hz1_0_1 : W1.frozen? ⟨w.heap.size, 1, none⟩ = false := (hf1 _ _ (by first | omega | go_size)).trans (by first | (with_reducible assumption) | (go_simp; done) | (simp [*]; done))
    have hl1_0_2 : W1.cell? ⟨w.heap.size, 2, none⟩ = some (u64 d) := (hc1 _ _ (by first | omega | go_size)).trans (by first | (with_reducible assumption) | go_cell)
    have hz1_0_2 : W1.frozen? ⟨w.heap.size, 2, none⟩ = false := (hf1 _ _ (by first | omega | go_size)).trans (by first | (with_reducible assumption) | (go_simp; done) | (simp [*]; done))
    have hl1_0_3 : W1.cell? ⟨w.heap.size, 3, none⟩ = some (u64 v) := (hc1 _ _ (by first | omega | go_size)).trans (by first | (with_reducible assumption) | go_cell)
    have hz1_0_3 : W1.frozen? ⟨w.heap.size, 3, none⟩ = false := (hf1 _ _ (by first | omega | go_size)).trans (by first | (with_reducible assumption) | (go_simp; done) | (simp [*]; done))
    have hl1_0_4 : W1.cell? ⟨w.heap.size, 4, none⟩ = some (u64 e) := (hc1 _ _ (by first | omega | go_size)).trans (by first | (with_reducible assumption) | go_cell)
    have hz1_0_4 : W1.frozen? ⟨w.heap.size, 4, none⟩ = false := (hf1 _ _ (by first | omega | go_size)).trans (by first | (with_reducible assumption) | (go_simp; done) | (simp [*]; done))
    have hk1_0 : w.heap.size < W1.heap.size := by omega
    have hl1_1_0 : W1.cell? ⟨w.heap.size + 1, 0, none⟩ = some (u64 0) := (hc1 _ _ (by first | omega | go_size)).trans (by first | (with_reducible assumption) | go_cell)
    have hz1_1_0 : W1.frozen? ⟨w.heap.size + 1, 0, none⟩ = false := (hf1 _ _ (by first | omega | go_size)).trans (by first | (with_reducible assumption) | (go_simp; done) | (simp [*]; done))
    have hl1_1_1 : W1.cell? ⟨w.heap.size + 1, 1, none⟩ = some (u64 0) := (hc1 _ _ (by first | omega | go_size)).trans (by first | (with_reducible assumption) | go_cell)
    have hz1_1_1 : W1.frozen? ⟨w.heap.size + 1, 1, none⟩ = false := (hf1 _ _ (by first | omega | go_size)).trans (by first | (with_reducible assumption) | (go_simp; done) | (simp [*]; done))
    have hl1_1_2 : W1.cell? ⟨w.heap.size + 1, 2, none⟩ = some (u64 0) := (hc1 _ _ (by first | omega | go_size)).trans (by first | (with_reducible assumption) | go_cell)
    have hz1_1_2 : W1.frozen? ⟨w.heap.size + 1, 2, none⟩ = false := (hf1 _ _ (by first | omega | go_size)).trans (by first | (with_reducible assumption) | (go_simp; done) | (simp [*]; done))
    have hl1_1_3 : W1.cell? ⟨w.heap.size + 1, 3, none⟩ = some (u64 0) := (hc1 _ _ (by first | omega | go_size)).trans (by first | (with_reducible assumption) | go_cell)
    have hz1_1_3 : W1.frozen? ⟨w.heap.size + 1, 3, none⟩ = false := (hf1 _ _ (by first | omega | go_size)).trans (by first | (with_reducible assumption) | (go_simp; done) | (simp [*]; done))
    have hl1_1_4 : W1.cell? ⟨w.heap.size + 1, 4, none⟩ = some (u64 0) := (hc1 _ _ (by first | omega | go_size)).trans (by first | (with_reducible assumption) | go_cell)
    have hz1_1_4 : W1.frozen? ⟨w.heap.size + 1, 4, none⟩ = false := (hf1 _ _ (by first | omega | go_size)).trans (by first | (with_reducible assumption) | (go_simp; done) | (simp [*]; done))
    have hl1_1_5 : W1.cell? ⟨w.heap.size + 1, 5, none⟩ = some (u64 0) := (hc1 _ _ (by first | omega | go_size)).trans (by first | (with_reducible assumption) | go_cell)
    have hz1_1_5 : W1.frozen? ⟨w.heap.size + 1, 5, none⟩ = false := (hf1 _ _ (by first | omega | go_size)).trans (by first | (with_reducible assumption) | (go_simp; done) | (simp [*]; done))
    have hl1_1_6 : W1.cell? ⟨w.heap.size + 1, 6, none⟩ = some (u64 0) := (hc1 _ _ (by first | omega | go_size)).trans (by first | (with_reducible assumption) | go_cell)
    have hz1_1_6 : W1.frozen? ⟨w.heap.size + 1, 6, none⟩ = false := (hf1 _ _ (by first | omega | go_size)).trans (by first | (with_reducible assumption) | (go_simp; done) | (simp [*]; done))
    have hl1_1_7 : W1.cell? ⟨w.heap.size + 1, 7, none⟩ = some (u64 0) := (hc1 _ _ (by first | omega | go_size)).trans (by first | (with_reducible assumption) | go_cell)
    have hz1_1_7 : W1.frozen? ⟨w.heap.size + 1, 7, none⟩ = false := (hf1 _ _ (by first | omega | go_size)).trans (by first | (with_reducible assumption) | (go_simp; done) | (simp [*]; done))
    have hl1_1_8 : W1.cell? ⟨w.heap.size + 1, 8, none⟩ = some (u64 0) := (hc1 _ _ (by first | omega | go_size)).trans (by first | (with_reducible assumption) | go_cell)
    have hz1_1_8 : W1.frozen? ⟨w.heap.size + 1, 8, none⟩ = false := (hf1 _ _ (by first | omega | go_size)).trans (by first | (with_reducible assumption) | (go_simp; done) | (simp [*]; done))
    have hk1_1 : w.heap.size + 1 < W1.heap.size := by omega
    clear hg1 hc1 hf1
    go_wp2_with fail
    have hB2 : Below w.heap.size w ((((((((((W1).setCell ⟨w.heap.size + 1, 0, none⟩ (u64 d)).setCell ⟨w.heap.size + 1, 1, none⟩ (u64 x)).setCell ⟨w.heap.size + 1, 2, none⟩ (u64 16)).setCell ⟨w.heap.size + 1, 3, none⟩ (u64 v)).setCell ⟨w.heap.size + 1, 4, none⟩ (u64 y)).setCell ⟨w.heap.size + 1, 5, none⟩ (u64 2)).setCell ⟨w.heap.size + 1, 6, none⟩ (u64 e)).setCell ⟨w.heap.size + 1, 7, none⟩ (u64 z)).setCell ⟨w.heap.size + 1, 8, none⟩ (u64 4)) := by go_grown
    generalize hG2 : (((((((((W1).setCell ⟨w.heap.size + 1, 0, none⟩ (u64 d)).setCell ⟨w.heap.size + 1, 1, none⟩ (u64 x)).setCell ⟨w.heap.size + 1, 2, none⟩ (u64 16)).setCell ⟨w.heap.size + 1, 3, none⟩ (u64 v)).setCell ⟨w.heap.size + 1, 4, none⟩ (u64 y)).setCell ⟨w.heap.size + 1, 5, none⟩ (u64 2)).setCell ⟨w.heap.size + 1, 6, none⟩ (u64 e)).setCell ⟨w.heap.size + 1, 7, none⟩ (u64 z)).setCell ⟨w.heap.size + 1, 8, none⟩ (u64 4) = WG2 at hB2 ⊢
    have hR2 := Lib.set_row (W := W1) (b := w.heap.size + 1) [u64 d, u64 x, u64 16, u64 v, u64 y, u64 2, u64 e, u64 z, u64 4] (by simp only [Lib.HasRow, Nat.zero_add, Nat.reduceAdd, and_true]; exact ⟨⟨_, by first | (with_reducible assumption) | go_cell | (simp [*]; done)⟩, ⟨_, by first | (with_reducible assumption) | go_cell | (simp [*]; done)⟩, ⟨_, by first | (with_reducible assumption) | go_cell | (simp [*]; done)⟩, ⟨_, by first | (with_reducible assumption) | go_cell | (simp [*]; done)⟩, ⟨_, by first | (with_reducible assumption) | go_cell | (simp [*]; done)⟩, ⟨_, by first | (with_reducible assumption) | go_cell | (simp [*]; done)⟩, ⟨_, by first | (with_reducible assumption) | go_cell | (simp [*]; done)⟩, ⟨_, by first | (with_reducible assumption) | go_cell | (simp [*]; done)⟩, ⟨_, by first | (with_reducible assumption) | go_cell | (simp [*]; done)⟩⟩) hG2
    clear hG2
    simp only [Lib.RowAt, Nat.zero_add, Nat.reduceAdd, and_true] at hR2
    obtain ⟨qr0, qr1, qr2, qr3, qr4, qr5, qr6, qr7, qr8⟩ := hR2
    exact bodyPost_ret (v := partsV d x v y 2 e z) (by simp [results, Try.results113, go_sem, qr0, qr1, qr2, qr3, qr4, qr5, qr6, qr7, qr8]) rfl ⟨rfl, hB2⟩

abbrev partV (a n t : Int) : Value := .agg #[u64 a, u64 n, u64 t]
set_option maxRecDepth 100000 in
theorem share_any (a an t b bn s : Int) (ha : u64in a) (hb : u64in b) (w : World) : Calls Try.prog 114 #[partV a an t, partV b bn s] w (Gives w.heap.size w (.bool (shareB a an b bn))) := by
  unfold Gives shareB
  unfold u64in at ha hb
  by_cases hab : b < a
  · rw [if_pos hab]
    have hw : IntKind.u64.wrap (a - b) = a - b := wrap_fits _ (by unfold u64in; omega)
    go_enter Try.func114, Try.ntmps114
    go_wp2
    go_ret
    exact ⟨rfl, by go_grown⟩
  · rw [if_neg hab]
    have hw : IntKind.u64.wrap (b - a) = b - a := wrap_fits _ (by unfold u64in; omega)
    go_enter Try.func114, Try.ntmps114
    go_wp2
    go_ret
    exact ⟨rfl, by go_grown⟩

end Go.Proofs.Ytkncaafjkoeijaa.Lay
