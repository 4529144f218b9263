
/- Rings, the document's own answers: sizes, parts, whether two ranges share a byte. -/
import Derived.Test.YtkncaafjkoeijaaLay2
namespace Go.Proofs.Ytkncaafjkoeijaa.Lay
open Go.RowKit Ser
set_option linter.unusedVariables false
set_option linter.unusedSimpArgs false

theorem shareB_comm {a n b m : Int} (hn : 0 < n) (hm : 0 < m) : shareB a n b m = shareB b m a n := by
  unfold shareB
  by_cases h1 : b < a
  · rw [if_pos h1, if_neg (by omega)]
  · by_cases h2 : a < b
    · rw [if_neg h1, if_pos h2]
    · rw [if_neg h1, if_neg h2, decide_eq_true (by omega), decide_eq_true (by omega)]

set_option maxRecDepth 100000 in
theorem r_size_is (p s : Bool) (n : Int) (h : sizeB p n = s) (w : World) : Calls Try.prog 112 #[.bool p, num n] w (Gives w.heap.size w (.bool s)) := by
  unfold Gives
  unfold sizeB at h
  by_cases h1 : 1 ≤ n
  case neg =>
    obtain rfl : s = false := by
      rw [← h]
      split
      · exact decide_eq_false (fun hh => h1 hh.1)
      · simp [powB, h1]
    clear h
    go_enter Try.func112, Try.ntmps112
    go_wp2
    go_ret
    exact ⟨rfl, by go_grown⟩
  by_cases h2 : n ≤ 32768
  case neg =>
    obtain rfl : s = false := by
      rw [← h]
      split
      · exact decide_eq_false (fun hh => h2 hh.2)
      · simp [powB, h2]
    clear h
    go_enter Try.func112, Try.ntmps112
    go_wp2
    go_ret
    exact ⟨rfl, by go_grown⟩
  cases p with
  | true =>
    obtain rfl : s = true := by rw [← h]; exact decide_eq_true ⟨h1, h2⟩
    clear h
    go_enter Try.func112, Try.ntmps112
    go_wp2
    go_ret
    exact ⟨rfl, by go_grown⟩
  | false =>
    have HR := Lib.hid (fun W : World => r_power_is n s (by rw [← h]; rfl) W)
    clear h
    go_enter Try.func112, Try.ntmps112
    go_wp2_with fail
    refine (HR.out _).mono ?_
    rintro e w' ⟨rfl, rfl⟩
    go_wp2_with fail
    go_ret
    exact ⟨rfl, by go_grown⟩

set_option maxRecDepth 100000 in
theorem r_parts_is (p : Bool) (n d v e x y z : Int) (h : partsI p n = (x, y, z)) (w : World) : Calls Try.prog 64 #[ringV p n d v e] w (Gives w.heap.size w (.tuple #[u64 x, u64 y, u64 z])) := by
  unfold Gives
  have hb0 : Below w.heap.size w w := Below.refl _ _
  unfold partsI at h
  cases hs : sizeB p n with
  | false =>
    rw [hs] at h
    cases h
    have HS := Lib.hid hs
    clear hs
    go_enter Try.func64, Try.ntmps64
    go_wp2_with fail
    refine (r_size_is p false n HS.out _).mono ?_
    rintro eE W1 ⟨rfl, hg1⟩
    have hb1 : Below w.heap.size w W1 := (show Below w.heap.size w _ by go_grown).trans (hg1.mono (by first | omega | go_size))
    obtain ⟨hc1, hf1⟩ := bcell hg1
    have hs1 := hg1.size
    try simp only [World.size_alloc, World.size_setCell, World.size_drew] at hs1
    have hl1_0_0 : W1.cell? ⟨w.heap.size, 0, none⟩ = some (.bool p) := (hc1 _ _ (by first | omega | go_size)).trans (by first | (with_reducible assumption) | go_cell)
    have hz1_0_0 : W1.frozen? ⟨w.heap.size, 0, none⟩ = false := (hf1 _ _ (by first | omega | go_size)).trans (by first | (with_reducible assumption) | (go_simp; done) | (simp [*]; done))
    have hl1_0_1 : W1.cell? ⟨w.heap.size, 1, none⟩ = some (num n) := (hc1 _ _ (by first | omega | go_size)).trans (by first | (with_reducible assumption) | go_cell)
    have hz1_0_1 : W1.frozen? ⟨w.heap.size, 1, none⟩ = false := (hf1 _ _ (by first | omega | go_size)).trans (by first | (with_reducible assumption) | (go_simp; done) | (simp [*]; done))
    have hl1_0_2 : W1.cell? ⟨w.heap.size, 2, none⟩ = some (u64 d) := (hc1 _ _ (by first | omega | go_size)).trans (by first | (with_reducible assumption) | go_cell)
    have hz1_0_2 : W1.frozen? ⟨w.heap.size, 2, none⟩ = false := (hf1 _ _ (by first | omega | go_size)).trans (by first | (with_reducible assumption) | (go_simp; done) | (simp [*]; done))
    have hl1_0_3 : W1.cell? ⟨w.heap.size, 3, none⟩ = some (u64 v) := (hc1 _ _ (by first | omega | go_size)).trans (by first | (with_reducible assumption) | go_cell)
    have hz1_0_3 : W1.frozen? ⟨w.heap.size, 3, none⟩ = false := (hf1 _ _ (by first | omega | go_size)).trans (by first | (with_reducible assumption) | (go_simp; done) | (simp [*]; done))
    have hl1_0_4 : W1.cell? ⟨w.heap.size, 4, none⟩ = some (u64 e) := (hc1 _ _ (by first | omega | go_size)).trans (by first | (with_reducible assumption) | go_cell)
    have hz1_0_4 : W1.frozen? ⟨w.heap.size, 4, none⟩ = false := (hf1 _ _ (by first | omega | go_size)).trans (by first | (with_reducible assumption) | (go_simp; done) | (simp [*]; done))
    have hk1_0 : w.heap.size < W1.heap.size := by omega
    clear hg1 hc1 hf1
    go_wp2_with fail
    go_returns
    exact ⟨rfl, by go_grown⟩
  | true =>
    have hn := sizeB_in hs
    rw [hs, if_pos rfl] at h
    have HS := Lib.hid hs
    clear hs
    cases p with
    | true =>
      cases h
      go_enter Try.func64, Try.ntmps64
      go_wp2_with fail
      refine (r_size_is true true n HS.out _).mono ?_
      rintro eE W1 ⟨rfl, hg1⟩
      have hb1 : Below w.heap.size w W1 := (show Below w.heap.size w _ by go_grown).trans (hg1.mono (by first | omega | go_size))
      obtain ⟨hc1, hf1⟩ := bcell hg1
      have hs1 := hg1.size
      try simp only [World.size_alloc, World.size_setCell, World.size_drew] at hs1
      have hl1_0_0 : W1.cell? ⟨w.heap.size, 0, none⟩ = some (.bool true) := (hc1 _ _ (by first | omega | go_size)).trans (by first | (with_reducible assumption) | go_cell)
      have hz1_0_0 : W1.frozen? ⟨w.heap.size, 0, none⟩ = false := (hf1 _ _ (by first | omega | go_size)).trans (by first | (with_reducible assumption) | (go_simp; done) | (simp [*]; done))
      have hl1_0_1 : W1.cell? ⟨w.heap.size, 1, none⟩ = some (num n) := (hc1 _ _ (by first | omega | go_size)).trans (by first | (with_reducible assumption) | go_cell)
      have hz1_0_1 : W1.frozen? ⟨w.heap.size, 1, none⟩ = false := (hf1 _ _ (by first | omega | go_size)).trans (by first | (with_reducible assumption) | (go_simp; done) | (simp [*]; done))
      have hl1_0_2 : W1.cell? ⟨w.heap.size, 2, none⟩ = some (u64 d) := (hc1 _ _ (by first | omega | go_size)).trans (by first | (with_reducible assumption) | go_cell)
      have hz1_0_2 : W1.frozen? ⟨w.heap.size, 2, none⟩ = false := (hf1 _ _ (by first | omega | go_size)).trans (by first | (with_reducible assumption) | (go_simp; done) | (simp [*]; done))
      have hl1_0_3 : W1.cell? ⟨w.heap.size, 3, none⟩ = some (u64 v) := (hc1 _ _ (by first | omega | go_size)).trans (by first | (with_reducible assumption) | go_cell)
      have hz1_0_3 : W1.frozen? ⟨w.heap.size, 3, none⟩ = false := (hf1 _ _ (by first | omega | go_size)).trans (by first | (with_reducible assumption) | (go_simp; done) | (simp [*]; done))
      have hl1_0_4 : W1.cell? ⟨w.heap.size, 4, none⟩ = some (u64 e) := (hc1 _ _ (by first | omega | go_size)).trans (by first | (with_reducible assumption) | go_cell)
      have hz1_0_4 : W1.frozen? ⟨w.heap.size, 4, none⟩ = false := (hf1 _ _ (by first | omega | go_size)).trans (by first | (with_reducible assumption) | (go_simp; done) | (simp [*]; done))
      have hk1_0 : w.heap.size < W1.heap.size := by omega
      clear hg1 hc1 hf1
      go_wp2_with fail
      go_returns
      exact ⟨rfl, by go_grown⟩
    | false =>
      cases h
      go_enter Try.func64, Try.ntmps64
      go_wp2_with fail
      refine (r_size_is false true n HS.out _).mono ?_
      rintro eE W1 ⟨rfl, hg1⟩
      have hb1 : Below w.heap.size w W1 := (show Below w.heap.size w _ by go_grown).trans (hg1.mono (by first | omega | go_size))
      obtain ⟨hc1, hf1⟩ := bcell hg1
      have hs1 := hg1.size
      try simp only [World.size_alloc, World.size_setCell, World.size_drew] at hs1
      have hl1_0_0 : W1.cell? ⟨w.heap.size, 0, none⟩ = some (.bool false) := (hc1 _ _ (by first | omega | go_size)).trans (by first | (with_reducible assumption) | go_cell)
      have hz1_0_0 : W1.frozen? ⟨w.heap.size, 0, none⟩ = false := (hf1 _ _ (by first | omega | go_size)).trans (by first | (with_reducible assumption) | (go_simp; done) | (simp [*]; done))
      have hl1_0_1 : W1.cell? ⟨w.heap.size, 1, none⟩ = some (num n) := (hc1 _ _ (by first | omega | go_size)).trans (by first | (with_reducible assumption) | go_cell)
      have hz1_0_1 : W1.frozen? ⟨w.heap.size, 1, none⟩ = false := (hf1 _ _ (by first | omega | go_size)).trans (by first | (with_reducible assumption) | (go_simp; done) | (simp [*]; done))
      have hl1_0_2 : W1.cell? ⟨w.heap.size, 2, none⟩ = some (u64 d) := (hc1 _ _ (by first | omega | go_size)).trans (by first | (with_reducible assumption) | go_cell)
      have hz1_0_2 : W1.frozen? ⟨w.heap.size, 2, none⟩ = false := (hf1 _ _ (by first | omega | go_size)).trans (by first | (with_reducible assumption) | (go_simp; done) | (simp [*]; done))
      have hl1_0_3 : W1.cell? ⟨w.heap.size, 3, none⟩ = some (u64 v) := (hc1 _ _ (by first | omega | go_size)).trans (by first | (with_reducible assumption) | go_cell)
      have hz1_0_3 : W1.frozen? ⟨w.heap.size, 3, none⟩ = false := (hf1 _ _ (by first | omega | go_size)).trans (by first | (with_reducible assumption) | (go_simp; done) | (simp [*]; done))
      have hl1_0_4 : W1.cell? ⟨w.heap.size, 4, none⟩ = some (u64 e) := (hc1 _ _ (by first | omega | go_size)).trans (by first | (with_reducible assumption) | go_cell)
      have hz1_0_4 : W1.frozen? ⟨w.heap.size, 4, none⟩ = false := (hf1 _ _ (by first | omega | go_size)).trans (by first | (with_reducible assumption) | (go_simp; done) | (simp [*]; done))
      have hk1_0 : w.heap.size < W1.heap.size := by omega
      clear hg1 hc1 hf1
      go_wp2_with fail
      go_returns
      exact ⟨rfl, by go_grown⟩

/-- Nothing is shared with no byte at all. -/
theorem r_common_none (a n b m : Int) (h : ¬ (0 < n ∧ 0 < m)) (w : World) : Calls Try.prog 115 #[u64 a, u64 n, u64 b, u64 m] w (Gives w.heap.size w (.bool false)) := by
  unfold Gives
  by_cases h1 : 0 < n
  · have h2 : ¬ 0 < m := fun hm => h ⟨h1, hm⟩
    go_enter Try.func115, Try.ntmps115
    go_wp2
    go_ret
    exact ⟨rfl, by go_grown⟩
  · go_enter Try.func115, Try.ntmps115
    go_wp2
    go_ret
    exact ⟨rfl, by go_grown⟩
theorem r_common_is (a n b m : Int) (s : Bool) (ha : u64in a) (hb : u64in b) (hn : 0 < n) (hm : 0 < m) (h : shareB a n b m = s) (w : World) : Calls Try.prog 115 #[u64 a, u64 n, u64 b, u64 m] w (Gives w.heap.size w (.bool s)) := by
  unfold Gives
  unfold shareB at h
  unfold u64in at ha hb
  by_cases h1 : b < a
  · rw [if_pos h1] at h
    have hw : IntKind.u64.wrap (a - b) = a - b := wrap_fits _ (by unfold u64in; omega)
    have hl : decide (a ≤ b) = false := decide_eq_false (by omega)
    have HH := Lib.hid h
    clear h
    go_enter Try.func115, Try.ntmps115
    go_wp2
    go_ret
    exact ⟨by rw [HH.out]; rfl, by go_grown⟩
  · rw [if_neg h1] at h
    have hw : IntKind.u64.wrap (b - a) = b - a := wrap_fits _ (by unfold u64in; omega)
    have hl : decide (a ≤ b) = true := decide_eq_true (by omega)
    cases s with
    | true =>
      have hd : b - a < n := of_decide_eq_true h
      go_enter Try.func115, Try.ntmps115
      go_wp2
      go_ret
      exact ⟨rfl, by go_grown⟩
    | false =>
      have hd : ¬ b - a < n := of_decide_eq_false h
      go_enter Try.func115, Try.ntmps115
      go_wp2
      go_ret
      exact ⟨rfl, by go_grown⟩

end Go.Proofs.Ytkncaafjkoeijaa.Lay
