
/- Where of rings, the document's own answer. -/
import Derived.Test.YtkncaafjkoeijaaLayR3
import Derived.Test.YtkncaafjkoeijaaLayMove
namespace Go.Proofs.Ytkncaafjkoeijaa.Lay
open Go.RowKit Ser
set_option linter.unusedVariables false
set_option linter.unusedSimpArgs false

theorem rowI_le {p : Bool} {n d v e k : Int} (hn : 1 ≤ n) : (rowI p n d v e k).2.2 ≤ n := by
  unfold rowI
  repeat' split
  all_goals (show (_ : Int) ≤ n; simp only; omega)
theorem where_out {p : Bool} {n d v e k i : Int} (hn : 1 ≤ n) (h : ¬ (0 ≤ i ∧ i < n)) : whereI p n d v e k i = (0, 0, 2) := by
  have h1 := rowI_le (p := p) (d := d) (v := v) (e := e) (k := k) hn
  unfold whereI
  split
  · rw [if_neg (fun hh => h ⟨hh.1, by omega⟩)]
  · rfl
theorem where_other {p : Bool} {n d v e k i : Int} (h : ¬ (1 ≤ k ∧ k ≤ 11)) : whereI p n d v e k i = (0, 0, 2) := by
  have hr : rowI p n d v e k = (0, 0, 0) := by
    unfold rowI
    rw [if_neg (by omega)]
    split
    · rw [if_neg (by omega), if_neg (by omega)]
    · repeat (rw [if_neg (by omega)])
  unfold whereI
  rw [hr]
  split
  · rw [if_neg (fun hh => by have := hh.2; simp at this; have := hh.1; omega)]
  · rfl

set_option maxRecDepth 100000 in
set_option maxHeartbeats 16000000 in
theorem r_where_is (p : Bool) (n d v e k i q1 q2 q3 : Int) (hd : u64in d) (hv : u64in v) (he : u64in e) (hi : (Lit.int .i64 i).wf = true) (h : whereI p n d v e k i = (q1, q2, q3)) (w : World) :
    Calls Try.prog 70 #[ringV p n d v e, num k, num i] w (Gives w.heap.size w (.tuple #[u64 q1, num q2, num q3])) := by
  unfold Gives
  have hb0 : Below w.heap.size w w := Below.refl _ _
  have hib := bounds_i64 hi
  have hD := Lib.hid hd
  have hV := Lib.hid hv
  have hE := Lib.hid he
  have key : ∀ (c : Int), (if checkB p n d v e = true then (0 : Int) else 2) = c → ∀ W : World, Calls Try.prog 66 #[ringV p n d v e] W (Gives W.heap.size W (num c)) := fun c hc W => r_check_is p n d v e c hd hv he hc W
  have KEY := Lib.hid key
  clear key
  by_cases hk : 1 ≤ k ∧ k ≤ 11
  case neg =>
    rw [where_other hk] at h
    cases h
    have f1 : (k == 1) = false := by simp; omega
    have f2 : (k == 2) = false := by simp; omega
    have f3 : (k == 3) = false := by simp; omega
    have f4 : (k == 4) = false := by simp; omega
    have f5 : (k == 5) = false := by simp; omega
    have f6 : (k == 6) = false := by simp; omega
    have f7 : (k == 7) = false := by simp; omega
    have f8 : (k == 8) = false := by simp; omega
    have f9 : (k == 9) = false := by simp; omega
    have f10 : (k == 10) = false := by simp; omega
    have f11 : (k == 11) = false := by simp; omega
    clear hk
    cases hc : checkB p n d v e with
    | false =>
      have HC := Lib.hid (show (if checkB p n d v e = true then (0 : Int) else 2) = 2 from by rw [hc]; rfl)
      clear hc hd hv he hi
      go_enter Try.func70, Try.ntmps70
      go_wp2_with fail
      refine (KEY.out 2 HC.out _).mono ?_
      rintro eE W1 ⟨rfl, hg1⟩
      have hb1 : Below w.heap.size w W1 := (show Below w.heap.size w _ by go_grown).trans (hg1.mono (by first | omega | go_size))
      obtain ⟨hc1, hf1⟩ := bcell hg1
      have hs1 := hg1.size
      try simp only [World.size_alloc, World.size_setCell, World.size_drew] at hs1
      have hl1_0_0 : W1.cell? ⟨w.heap.size, 0, none⟩ = some (.bool p) := (hc1 _ _ (by first | omega | go_size)).trans (by first | (with_reducible assumption) | go_cell)
      have hz1_0_0 : W1.frozen? ⟨w.heap.size, 0, none⟩ = false := (hf1 _ _ (by first | omega | go_size)).trans (by first | (with_reducible assumption) | (go_simp; done) | (simp [*]; done))
      have hl1_0_1 : W1.cell? ⟨w.heap.size, 1, none⟩ = some (num n) := (hc1 _ _ (by first | omega | go_size)).trans (by first | (with_reducible assumption) | go_cell)
      have hz1_0_1 : W1.frozen? ⟨w.heap.size, 1, none⟩ = false := (hf1 _ _ (by first | omega | go_size)).trans (by first | (with_reducible assumption) | (go_simp; done) | (simp [*]; done))
      have hl1_0_2 : W1.cell? ⟨w.heap.size, 2, none⟩ = some (u64 d) := (hc1 _ _ (by first | omega | go_size)).trans (by first | (with_reducible assumption) | go_cell)
      have hz1_0_2 : W1.frozen? ⟨w.heap.size, 2, none⟩ = false := (hf1 _ _ (by first | omega | go_size)).trans (by first | (with_reducible assumption) | (go_simp; done) | (simp [*]; done))
      have hl1_0_3 : W1.cell? ⟨w.heap.size, 3, none⟩ = some (u64 v) := (hc1 _ _ (by first | omega | go_size)).trans (by first | (with_reducible assumption) | go_cell)
      have hz1_0_3 : W1.frozen? ⟨w.heap.size, 3, none⟩ = false := (hf1 _ _ (by first | omega | go_size)).trans (by first | (with_reducible assumption) | (go_simp; done) | (simp [*]; done))
      have hl1_0_4 : W1.cell? ⟨w.heap.size, 4, none⟩ = some (u64 e) := (hc1 _ _ (by first | omega | go_size)).trans (by first | (with_reducible assumption) | go_cell)
      have hz1_0_4 : W1.frozen? ⟨w.heap.size, 4, none⟩ = false := (hf1 _ _ (by first | omega | go_size)).trans (by first | (with_reducible assumption) | (go_simp; done) | (simp [*]; done))
      have hk1_0 : w.heap.size < W1.heap.size := by omega
      clear hg1 hc1 hf1
      go_wp2_with fail
      go_returns
      exact ⟨rfl, by go_grown⟩
    | true =>
    have HC := Lib.hid (show (if checkB p n d v e = true then (0 : Int) else 2) = 0 from by rw [hc]; rfl)
    have hn := sizeB_in (check_size hc)
    clear hc hd hv he hi
    by_cases i0 : i < 0
    · go_enter Try.func70, Try.ntmps70
      go_wp2_with fail
      refine (KEY.out 0 HC.out _).mono ?_
      rintro eE W1 ⟨rfl, hg1⟩
      have hb1 : Below w.heap.size w W1 := (show Below w.heap.size w _ by go_grown).trans (hg1.mono (by first | omega | go_size))
      obtain ⟨hc1, hf1⟩ := bcell hg1
      have hs1 := hg1.size
      try simp only [World.size_alloc, World.size_setCell, World.size_drew] at hs1
      have hl1_0_0 : W1.cell? ⟨w.heap.size, 0, none⟩ = some (.bool p) := (hc1 _ _ (by first | omega | go_size)).trans (by first | (with_reducible assumption) | go_cell)
      have hz1_0_0 : W1.frozen? ⟨w.heap.size, 0, none⟩ = false := (hf1 _ _ (by first | omega | go_size)).trans (by first | (with_reducible assumption) | (go_simp; done) | (simp [*]; done))
      have hl1_0_1 : W1.cell? ⟨w.heap.size, 1, none⟩ = some (num n) := (hc1 _ _ (by first | omega | go_size)).trans (by first | (with_reducible assumption) | go_cell)
      have hz1_0_1 : W1.frozen? ⟨w.heap.size, 1, none⟩ = false := (hf1 _ _ (by first | omega | go_size)).trans (by first | (with_reducible assumption) | (go_simp; done) | (simp [*]; done))
      have hl1_0_2 : W1.cell? ⟨w.heap.size, 2, none⟩ = some (u64 d) := (hc1 _ _ (by first | omega | go_size)).trans (by first | (with_reducible assumption) | go_cell)
      have hz1_0_2 : W1.frozen? ⟨w.heap.size, 2, none⟩ = false := (hf1 _ _ (by first | omega | go_size)).trans (by first | (with_reducible assumption) | (go_simp; done) | (simp [*]; done))
      have hl1_0_3 : W1.cell? ⟨w.heap.size, 3, none⟩ = some (u64 v) := (hc1 _ _ (by first | omega | go_size)).trans (by first | (with_reducible assumption) | go_cell)
      have hz1_0_3 : W1.frozen? ⟨w.heap.size, 3, none⟩ = false := (hf1 _ _ (by first | omega | go_size)).trans (by first | (with_reducible assumption) | (go_simp; done) | (simp [*]; done))
      have hl1_0_4 : W1.cell? ⟨w.heap.size, 4, none⟩ = some (u64 e) := (hc1 _ _ (by first | omega | go_size)).trans (by first | (with_reducible assumption) | go_cell)
      have hz1_0_4 : W1.frozen? ⟨w.heap.size, 4, none⟩ = false := (hf1 _ _ (by first | omega | go_size)).trans (by first | (with_reducible assumption) | (go_simp; done) | (simp [*]; done))
      have hk1_0 : w.heap.size < W1.heap.size := by omega
      clear hg1 hc1 hf1
      go_wp2_with fail
      go_returns
      exact ⟨rfl, by go_grown⟩
    by_cases i1 : n ≤ i
    · go_enter Try.func70, Try.ntmps70
      go_wp2_with fail
      refine (KEY.out 0 HC.out _).mono ?_
      rintro eE W1 ⟨rfl, hg1⟩
      have hb1 : Below w.heap.size w W1 := (show Below w.heap.size w _ by go_grown).trans (hg1.mono (by first | omega | go_size))
      obtain ⟨hc1, hf1⟩ := bcell hg1
      have hs1 := hg1.size
      try simp only [World.size_alloc, World.size_setCell, World.size_drew] at hs1
      have hl1_0_0 : W1.cell? ⟨w.heap.size, 0, none⟩ = some (.bool p) := (hc1 _ _ (by first | omega | go_size)).trans (by first | (with_reducible assumption) | go_cell)
      have hz1_0_0 : W1.frozen? ⟨w.heap.size, 0, none⟩ = false := (hf1 _ _ (by first | omega | go_size)).trans (by first | (with_reducible assumption) | (go_simp; done) | (simp [*]; done))
      have hl1_0_1 : W1.cell? ⟨w.heap.size, 1, none⟩ = some (num n) := (hc1 _ _ (by first | omega | go_size)).trans (by first | (with_reducible assumption) | go_cell)
      have hz1_0_1 : W1.frozen? ⟨w.heap.size, 1, none⟩ = false := (hf1 _ _ (by first | omega | go_size)).trans (by first | (with_reducible assumption) | (go_simp; done) | (simp [*]; done))
      have hl1_0_2 : W1.cell? ⟨w.heap.size, 2, none⟩ = some (u64 d) := (hc1 _ _ (by first | omega | go_size)).trans (by first | (with_reducible assumption) | go_cell)
      have hz1_0_2 : W1.frozen? ⟨w.heap.size, 2, none⟩ = false := (hf1 _ _ (by first | omega | go_size)).trans (by first | (with_reducible assumption) | (go_simp; done) | (simp [*]; done))
      have hl1_0_3 : W1.cell? ⟨w.heap.size, 3, none⟩ = some (u64 v) := (hc1 _ _ (by first | omega | go_size)).trans (by first | (with_reducible assumption) | go_cell)
      have hz1_0_3 : W1.frozen? ⟨w.heap.size, 3, none⟩ = false := (hf1 _ _ (by first | omega | go_size)).trans (by first | (with_reducible assumption) | (go_simp; done) | (simp [*]; done))
      have hl1_0_4 : W1.cell? ⟨w.heap.size, 4, none⟩ = some (u64 e) := (hc1 _ _ (by first | omega | go_size)).trans (by first | (with_reducible assumption) | go_cell)
      have hz1_0_4 : W1.frozen? ⟨w.heap.size, 4, none⟩ = false := (hf1 _ _ (by first | omega | go_size)).trans (by first | (with_reducible assumption) | (go_simp; done) | (simp [*]; done))
      have hk1_0 : w.heap.size < W1.heap.size := by omega
      clear hg1 hc1 hf1
      go_wp2_with fail
      go_returns
      exact ⟨rfl, by go_grown⟩
    by_cases i2 : i = 0
    · have f0 : (i != 0) = false := by simp [i2]
      cases p with
      | true =>
        go_enter Try.func70, Try.ntmps70
        go_wp2_with fail
        refine (KEY.out 0 HC.out _).mono ?_
        rintro eE W1 ⟨rfl, hg1⟩
        have hb1 : Below w.heap.size w W1 := (show Below w.heap.size w _ by go_grown).trans (hg1.mono (by first | omega | go_size))
        obtain ⟨hc1, hf1⟩ := bcell hg1
        have hs1 := hg1.size
        try simp only [World.size_alloc, World.size_setCell, World.size_drew] at hs1
        have hl1_0_0 : W1.cell? ⟨w.heap.size, 0, none⟩ = some (.bool true) := (hc1 _ _ (by first | omega | go_size)).trans (by first | (with_reducible assumption) | go_cell)
        have hz1_0_0 : W1.frozen? ⟨w.heap.size, 0, none⟩ = false := (hf1 _ _ (by first | omega | go_size)).trans (by first | (with_reducible assumption) | (go_simp; done) | (simp [*]; done))
        have hl1_0_1 : W1.cell? ⟨w.heap.size, 1, none⟩ = some (num n) := (hc1 _ _ (by first | omega | go_size)).trans (by first | (with_reducible assumption) | go_cell)
        have hz1_0_1 : W1.frozen? ⟨w.heap.size, 1, none⟩ = false := (hf1 _ _ (by first | omega | go_size)).trans (by first | (with_reducible assumption) | (go_simp; done) | (simp [*]; done))
        have hl1_0_2 : W1.cell? ⟨w.heap.size, 2, none⟩ = some (u64 d) := (hc1 _ _ (by first | omega | go_size)).trans (by first | (with_reducible assumption) | go_cell)
        have hz1_0_2 : W1.frozen? ⟨w.heap.size, 2, none⟩ = false := (hf1 _ _ (by first | omega | go_size)).trans (by first | (with_reducible assumption) | (go_simp; done) | (simp [*]; done))
        have hl1_0_3 : W1.cell? ⟨w.heap.size, 3, none⟩ = some (u64 v) := (hc1 _ _ (by first | omega | go_size)).trans (by first | (with_reducible assumption) | go_cell)
        have hz1_0_3 : W1.frozen? ⟨w.heap.size, 3, none⟩ = false := (hf1 _ _ (by first | omega | go_size)).trans (by first | (with_reducible assumption) | (go_simp; done) | (simp [*]; done))
        have hl1_0_4 : W1.cell? ⟨w.heap.size, 4, none⟩ = some (u64 e) := (hc1 _ _ (by first | omega | go_size)).trans (by first | (with_reducible assumption) | go_cell)
        have hz1_0_4 : W1.frozen? ⟨w.heap.size, 4, none⟩ = false := (hf1 _ _ (by first | omega | go_size)).trans (by first | (with_reducible assumption) | (go_simp; done) | (simp [*]; done))
        have hk1_0 : w.heap.size < W1.heap.size := by omega
        clear hg1 hc1 hf1
        go_wp2_with fail
        go_returns
        exact ⟨rfl, by go_grown⟩
      | false =>
        go_enter Try.func70, Try.ntmps70
        go_wp2_with fail
        refine (KEY.out 0 HC.out _).mono ?_
        rintro eE W1 ⟨rfl, hg1⟩
        have hb1 : Below w.heap.size w W1 := (show Below w.heap.size w _ by go_grown).trans (hg1.mono (by first | omega | go_size))
        obtain ⟨hc1, hf1⟩ := bcell hg1
        have hs1 := hg1.size
        try simp only [World.size_alloc, World.size_setCell, World.size_drew] at hs1
        have hl1_0_0 : W1.cell? ⟨w.heap.size, 0, none⟩ = some (.bool false) := (hc1 _ _ (by first | omega | go_size)).trans (by first | (with_reducible assumption) | go_cell)
        have hz1_0_0 : W1.frozen? ⟨w.heap.size, 0, none⟩ = false := (hf1 _ _ (by first | omega | go_size)).trans (by first | (with_reducible assumption) | (go_simp; done) | (simp [*]; done))
        have hl1_0_1 : W1.cell? ⟨w.heap.size, 1, none⟩ = some (num n) := (hc1 _ _ (by first | omega | go_size)).trans (by first | (with_reducible assumption) | go_cell)
        have hz1_0_1 : W1.frozen? ⟨w.heap.size, 1, none⟩ = false := (hf1 _ _ (by first | omega | go_size)).trans (by first | (with_reducible assumption) | (go_simp; done) | (simp [*]; done))
        have hl1_0_2 : W1.cell? ⟨w.heap.size, 2, none⟩ = some (u64 d) := (hc1 _ _ (by first | omega | go_size)).trans (by first | (with_reducible assumption) | go_cell)
        have hz1_0_2 : W1.frozen? ⟨w.heap.size, 2, none⟩ = false := (hf1 _ _ (by first | omega | go_size)).trans (by first | (with_reducible assumption) | (go_simp; done) | (simp [*]; done))
        have hl1_0_3 : W1.cell? ⟨w.heap.size, 3, none⟩ = some (u64 v) := (hc1 _ _ (by first | omega | go_size)).trans (by first | (with_reducible assumption) | go_cell)
        have hz1_0_3 : W1.frozen? ⟨w.heap.size, 3, none⟩ = false := (hf1 _ _ (by first | omega | go_size)).trans (by first | (with_reducible assumption) | (go_simp; done) | (simp [*]; done))
        have hl1_0_4 : W1.cell? ⟨w.heap.size, 4, none⟩ = some (u64 e) := (hc1 _ _ (by first | omega | go_size)).trans (by first | (with_reducible assumption) | go_cell)
        have hz1_0_4 : W1.frozen? ⟨w.heap.size, 4, none⟩ = false := (hf1 _ _ (by first | omega | go_size)).trans (by first | (with_reducible assumption) | (go_simp; done) | (simp [*]; done))
        have hk1_0 : w.heap.size < W1.heap.size := by omega
        clear hg1 hc1 hf1
        go_wp2_with fail
        go_returns
        exact ⟨rfl, by go_grown⟩
    · have f0 : (i != 0) = true := by simp [i2]
      go_enter Try.func70, Try.ntmps70
      go_wp2_with fail
      refine (KEY.out 0 HC.out _).mono ?_
      rintro eE W1 ⟨rfl, hg1⟩
      have hb1 : Below w.heap.size w W1 := (show Below w.heap.size w _ by go_grown).trans (hg1.mono (by first | omega | go_size))
      obtain ⟨hc1, hf1⟩ := bcell hg1
      have hs1 := hg1.size
      try simp only [World.size_alloc, World.size_setCell, World.size_drew] at hs1
      have hl1_0_0 : W1.cell? ⟨w.heap.size, 0, none⟩ = some (.bool p) := (hc1 _ _ (by first | omega | go_size)).trans (by first | (with_reducible assumption) | go_cell)
      have hz1_0_0 : W1.frozen? ⟨w.heap.size, 0, none⟩ = false := (hf1 _ _ (by first | omega | go_size)).trans (by first | (with_reducible assumption) | (go_simp; done) | (simp [*]; done))
      have hl1_0_1 : W1.cell? ⟨w.heap.size, 1, none⟩ = some (num n) := (hc1 _ _ (by first | omega | go_size)).trans (by first | (with_reducible assumption) | go_cell)
      have hz1_0_1 : W1.frozen? ⟨w.heap.size, 1, none⟩ = false := (hf1 _ _ (by first | omega | go_size)).trans (by first | (with_reducible assumption) | (go_simp; done) | (simp [*]; done))
      have hl1_0_2 : W1.cell? ⟨w.heap.size, 2, none⟩ = some (u64 d) := (hc1 _ _ (by first | omega | go_size)).trans (by first | (with_reducible assumption) | go_cell)
      have hz1_0_2 : W1.frozen? ⟨w.heap.size, 2, none⟩ = false := (hf1 _ _ (by first | omega | go_size)).trans (by first | (with_reducible assumption) | (go_simp; done) | (simp [*]; done))
      have hl1_0_3 : W1.cell? ⟨w.heap.size, 3, none⟩ = some (u64 v) := (hc1 _ _ (by first | omega | go_size)).trans (by first | (with_reducible assumption) | go_cell)
      have hz1_0_3 : W1.frozen? ⟨w.heap.size, 3, none⟩ = false := (hf1 _ _ (by first | omega | go_size)).trans (by first | (with_reducible assumption) | (go_simp; done) | (simp [*]; done))
      have hl1_0_4 : W1.cell? ⟨w.heap.size, 4, none⟩ = some (u64 e) := (hc1 _ _ (by first | omega | go_size)).trans (by first | (with_reducible assumption) | go_cell)
      have hz1_0_4 : W1.frozen? ⟨w.heap.size, 4, none⟩ = false := (hf1 _ _ (by first | omega | go_size)).trans (by first | (with_reducible assumption) | (go_simp; done) | (simp [*]; done))
      have hk1_0 : w.heap.size < W1.heap.size := by omega
      clear hg1 hc1 hf1
      go_wp2_with fail
      go_returns
      exact ⟨rfl, by go_grown⟩
  cases hc : checkB p n d v e with
  | false =>
    obtain ⟨rfl, rfl, rfl⟩ : q1 = 0 ∧ q2 = 0 ∧ q3 = 2 := by unfold whereI at h; rw [hc] at h; cases h; exact ⟨rfl, rfl, rfl⟩
    have HC := Lib.hid (show (if checkB p n d v e = true then (0 : Int) else 2) = 2 from by rw [hc]; rfl)
    have hk' : k = 1 ∨ k = 2 ∨ k = 3 ∨ k = 4 ∨ k = 5 ∨ k = 6 ∨ k = 7 ∨ k = 8 ∨ k = 9 ∨ k = 10 ∨ k = 11 := by omega
    clear h hc hd hv he hi hk
    rcases hk' with rfl | rfl | rfl | rfl | rfl | rfl | rfl | rfl | rfl | rfl | rfl
    all_goals
      go_enter Try.func70, Try.ntmps70
      go_wp2_with fail
      refine (KEY.out 2 HC.out _).mono ?_
      rintro eE W1 ⟨rfl, hg1⟩
      have hb1 : Below w.heap.size w W1 := (show Below w.heap.size w _ by go_grown).trans (hg1.mono (by first | omega | go_size))
      obtain ⟨hc1, hf1⟩ := bcell hg1
      have hs1 := hg1.size
      try simp only [World.size_alloc, World.size_setCell, World.size_drew] at hs1
      have hl1_0_0 : W1.cell? ⟨w.heap.size, 0, none⟩ = some (.bool p) := (hc1 _ _ (by first | omega | go_size)).trans (by first | (with_reducible assumption) | go_cell)
      have hz1_0_0 : W1.frozen? ⟨w.heap.size, 0, none⟩ = false := (hf1 _ _ (by first | omega | go_size)).trans (by first | (with_reducible assumption) | (go_simp; done) | (simp [*]; done))
      have hl1_0_1 : W1.cell? ⟨w.heap.size, 1, none⟩ = some (num n) := (hc1 _ _ (by first | omega | go_size)).trans (by first | (with_reducible assumption) | go_cell)
      have hz1_0_1 : W1.frozen? ⟨w.heap.size, 1, none⟩ = false := (hf1 _ _ (by first | omega | go_size)).trans (by first | (with_reducible assumption) | (go_simp; done) | (simp [*]; done))
      have hl1_0_2 : W1.cell? ⟨w.heap.size, 2, none⟩ = some (u64 d) := (hc1 _ _ (by first | omega | go_size)).trans (by first | (with_reducible assumption) | go_cell)
      have hz1_0_2 : W1.frozen? ⟨w.heap.size, 2, none⟩ = false := (hf1 _ _ (by first | omega | go_size)).trans (by first | (with_reducible assumption) | (go_simp; done) | (simp [*]; done))
      have hl1_0_3 : W1.cell? ⟨w.heap.size, 3, none⟩ = some (u64 v) := (hc1 _ _ (by first | omega | go_size)).trans (by first | (with_reducible assumption) | go_cell)
      have hz1_0_3 : W1.frozen? ⟨w.heap.size, 3, none⟩ = false := (hf1 _ _ (by first | omega | go_size)).trans (by first | (with_reducible assumption) | (go_simp; done) | (simp [*]; done))
      have hl1_0_4 : W1.cell? ⟨w.heap.size, 4, none⟩ = some (u64 e) := (hc1 _ _ (by first | omega | go_size)).trans (by first | (with_reducible assumption) | go_cell)
      have hz1_0_4 : W1.frozen? ⟨w.heap.size, 4, none⟩ = false := (hf1 _ _ (by first | omega | go_size)).trans (by first | (with_reducible assumption) | (go_simp; done) | (simp [*]; done))
      have hk1_0 : w.heap.size < W1.heap.size := by omega
      clear hg1 hc1 hf1
      go_wp2_with fail
      go_returns
      exact ⟨rfl, by go_grown⟩
  | true =>
  have HC := Lib.hid (show (if checkB p n d v e = true then (0 : Int) else 2) = 0 from by rw [hc]; rfl)
  have hn := sizeB_in (check_size hc)
  have HCK := Lib.hid hc
  obtain ⟨x, y, z, hp⟩ : ∃ x y z, partsI p n = (x, y, z) := ⟨_, _, _, rfl⟩
  have HV := Lib.hid (valid_of hd hv he hc hp)
  have HH := Lib.hid h
  clear hc hp h
  by_cases i0 : i < 0
  · obtain ⟨rfl, rfl, rfl⟩ : q1 = 0 ∧ q2 = 0 ∧ q3 = 2 := by have h := HH.out; rw [where_out hn.1 (by omega)] at h; cases h; exact ⟨rfl, rfl, rfl⟩
    have hk' : k = 1 ∨ k = 2 ∨ k = 3 ∨ k = 4 ∨ k = 5 ∨ k = 6 ∨ k = 7 ∨ k = 8 ∨ k = 9 ∨ k = 10 ∨ k = 11 := by omega
    clear hd hv he hi hk HH HV
    rcases hk' with rfl | rfl | rfl | rfl | rfl | rfl | rfl | rfl | rfl | rfl | rfl
    all_goals
      go_enter Try.func70, Try.ntmps70
      go_wp2_with fail
      refine (KEY.out 0 HC.out _).mono ?_
      rintro eE W1 ⟨rfl, hg1⟩
      have hb1 : Below w.heap.size w W1 := (show Below w.heap.size w _ by go_grown).trans (hg1.mono (by first | omega | go_size))
      obtain ⟨hc1, hf1⟩ := bcell hg1
      have hs1 := hg1.size
      try simp only [World.size_alloc, World.size_setCell, World.size_drew] at hs1
      have hl1_0_0 : W1.cell? ⟨w.heap.size, 0, none⟩ = some (.bool p) := (hc1 _ _ (by first | omega | go_size)).trans (by first | (with_reducible assumption) | go_cell)
      have hz1_0_0 : W1.frozen? ⟨w.heap.size, 0, none⟩ = false := (hf1 _ _ (by first | omega | go_size)).trans (by first | (with_reducible assumption) | (go_simp; done) | (simp [*]; done))
      have hl1_0_1 : W1.cell? ⟨w.heap.size, 1, none⟩ = some (num n) := (hc1 _ _ (by first | omega | go_size)).trans (by first | (with_reducible assumption) | go_cell)
      have hz1_0_1 : W1.frozen? ⟨w.heap.size, 1, none⟩ = false := (hf1 _ _ (by first | omega | go_size)).trans (by first | (with_reducible assumption) | (go_simp; done) | (simp [*]; done))
      have hl1_0_2 : W1.cell? ⟨w.heap.size, 2, none⟩ = some (u64 d) := (hc1 _ _ (by first | omega | go_size)).trans (by first | (with_reducible assumption) | go_cell)
      have hz1_0_2 : W1.frozen? ⟨w.heap.size, 2, none⟩ = false := (hf1 _ _ (by first | omega | go_size)).trans (by first | (with_reducible assumption) | (go_simp; done) | (simp [*]; done))
      have hl1_0_3 : W1.cell? ⟨w.heap.size, 3, none⟩ = some (u64 v) := (hc1 _ _ (by first | omega | go_size)).trans (by first | (with_reducible assumption) | go_cell)
      have hz1_0_3 : W1.frozen? ⟨w.heap.size, 3, none⟩ = false := (hf1 _ _ (by first | omega | go_size)).trans (by first | (with_reducible assumption) | (go_simp; done) | (simp [*]; done))
      have hl1_0_4 : W1.cell? ⟨w.heap.size, 4, none⟩ = some (u64 e) := (hc1 _ _ (by first | omega | go_size)).trans (by first | (with_reducible assumption) | go_cell)
      have hz1_0_4 : W1.frozen? ⟨w.heap.size, 4, none⟩ = false := (hf1 _ _ (by first | omega | go_size)).trans (by first | (with_reducible assumption) | (go_simp; done) | (simp [*]; done))
      have hk1_0 : w.heap.size < W1.heap.size := by omega
      clear hg1 hc1 hf1
      go_wp2_with fail
      go_returns
      exact ⟨rfl, by go_grown⟩
  by_cases i1 : n ≤ i
  · obtain ⟨rfl, rfl, rfl⟩ : q1 = 0 ∧ q2 = 0 ∧ q3 = 2 := by have h := HH.out; rw [where_out hn.1 (by omega)] at h; cases h; exact ⟨rfl, rfl, rfl⟩
    have hk' : k = 1 ∨ k = 2 ∨ k = 3 ∨ k = 4 ∨ k = 5 ∨ k = 6 ∨ k = 7 ∨ k = 8 ∨ k = 9 ∨ k = 10 ∨ k = 11 := by omega
    clear hd hv he hi hk HH HV
    rcases hk' with rfl | rfl | rfl | rfl | rfl | rfl | rfl | rfl | rfl | rfl | rfl
    all_goals
      go_enter Try.func70, Try.ntmps70
      go_wp2_with fail
      refine (KEY.out 0 HC.out _).mono ?_
      rintro eE W1 ⟨rfl, hg1⟩
      have hb1 : Below w.heap.size w W1 := (show Below w.heap.size w _ by go_grown).trans (hg1.mono (by first | omega | go_size))
      obtain ⟨hc1, hf1⟩ := bcell hg1
      have hs1 := hg1.size
      try simp only [World.size_alloc, World.size_setCell, World.size_drew] at hs1
      have hl1_0_0 : W1.cell? ⟨w.heap.size, 0, none⟩ = some (.bool p) := (hc1 _ _ (by first | omega | go_size)).trans (by first | (with_reducible assumption) | go_cell)
      have hz1_0_0 : W1.frozen? ⟨w.heap.size, 0, none⟩ = false := (hf1 _ _ (by first | omega | go_size)).trans (by first | (with_reducible assumption) | (go_simp; done) | (simp [*]; done))
      have hl1_0_1 : W1.cell? ⟨w.heap.size, 1, none⟩ = some (num n) := (hc1 _ _ (by first | omega | go_size)).trans (by first | (with_reducible assumption) | go_cell)
      have hz1_0_1 : W1.frozen? ⟨w.heap.size, 1, none⟩ = false := (hf1 _ _ (by first | omega | go_size)).trans (by first | (with_reducible assumption) | (go_simp; done) | (simp [*]; done))
      have hl1_0_2 : W1.cell? ⟨w.heap.size, 2, none⟩ = some (u64 d) := (hc1 _ _ (by first | omega | go_size)).trans (by first | (with_reducible assumption) | go_cell)
      have hz1_0_2 : W1.frozen? ⟨w.heap.size, 2, none⟩ = false := (hf1 _ _ (by first | omega | go_size)).trans (by first | (with_reducible assumption) | (go_simp; done) | (simp [*]; done))
      have hl1_0_3 : W1.cell? ⟨w.heap.size, 3, none⟩ = some (u64 v) := (hc1 _ _ (by first | omega | go_size)).trans (by first | (with_reducible assumption) | go_cell)
      have hz1_0_3 : W1.frozen? ⟨w.heap.size, 3, none⟩ = false := (hf1 _ _ (by first | omega | go_size)).trans (by first | (with_reducible assumption) | (go_simp; done) | (simp [*]; done))
      have hl1_0_4 : W1.cell? ⟨w.heap.size, 4, none⟩ = some (u64 e) := (hc1 _ _ (by first | omega | go_size)).trans (by first | (with_reducible assumption) | go_cell)
      have hz1_0_4 : W1.frozen? ⟨w.heap.size, 4, none⟩ = false := (hf1 _ _ (by first | omega | go_size)).trans (by first | (with_reducible assumption) | (go_simp; done) | (simp [*]; done))
      have hk1_0 : w.heap.size < W1.heap.size := by omega
      clear hg1 hc1 hf1
      go_wp2_with fail
      go_returns
      exact ⟨rfl, by go_grown⟩
  have hi2 : 0 ≤ i ∧ i < n := by omega
  by_cases hf : manyB k = false ∧ 1 ≤ i
  · obtain ⟨rfl, rfl, rfl⟩ : q1 = 0 ∧ q2 = 0 ∧ q3 = 2 := by have h := HH.out; rw [where_far hk hf.2 hf.1] at h; cases h; exact ⟨rfl, rfl, rfl⟩
    have f0 : (i != 0) = true := by simp; omega
    have fm := hf.1
    unfold manyB at fm
    rw [Bool.or_eq_false_iff, Bool.or_eq_false_iff] at fm
    obtain ⟨f1, f4, f8⟩ := fm
    clear hd hv he hi hk HH HV hf
    go_enter Try.func70, Try.ntmps70
    go_wp2_with fail
    refine (KEY.out 0 HC.out _).mono ?_
    rintro eE W1 ⟨rfl, hg1⟩
    have hb1 : Below w.heap.size w W1 := (show Below w.heap.size w _ by go_grown).trans (hg1.mono (by first | omega | go_size))
    obtain ⟨hc1, hf1⟩ := bcell hg1
    have hs1 := hg1.size
    try simp only [World.size_alloc, World.size_setCell, World.size_drew] at hs1
    have hl1_0_0 : W1.cell? ⟨w.heap.size, 0, none⟩ = some (.bool p) := (hc1 _ _ (by first | omega | go_size)).trans (by first | (with_reducible assumption) | go_cell)
    have hz1_0_0 : W1.frozen? ⟨w.heap.size, 0, none⟩ = false := (hf1 _ _ (by first | omega | go_size)).trans (by first | (with_reducible assumption) | (go_simp; done) | (simp [*]; done))
    have hl1_0_1 : W1.cell? ⟨w.heap.size, 1, none⟩ = some (num n) := (hc1 _ _ (by first | omega | go_size)).trans (by first | (with_reducible assumption) | go_cell)
    have hz1_0_1 : W1.frozen? ⟨w.heap.size, 1, none⟩ = false := (hf1 _ _ (by first | omega | go_size)).trans (by first | (with_reducible assumption) | (go_simp; done) | (simp [*]; done))
    have hl1_0_2 : W1.cell? ⟨w.heap.size, 2, none⟩ = some (u64 d) := (hc1 _ _ (by first | omega | go_size)).trans (by first | (with_reducible assumption) | go_cell)
    have hz1_0_2 : W1.frozen? ⟨w.heap.size, 2, none⟩ = false := (hf1 _ _ (by first | omega | go_size)).trans (by first | (with_reducible assumption) | (go_simp; done) | (simp [*]; done))
    have hl1_0_3 : W1.cell? ⟨w.heap.size, 3, none⟩ = some (u64 v) := (hc1 _ _ (by first | omega | go_size)).trans (by first | (with_reducible assumption) | go_cell)
    have hz1_0_3 : W1.frozen? ⟨w.heap.size, 3, none⟩ = false := (hf1 _ _ (by first | omega | go_size)).trans (by first | (with_reducible assumption) | (go_simp; done) | (simp [*]; done))
    have hl1_0_4 : W1.cell? ⟨w.heap.size, 4, none⟩ = some (u64 e) := (hc1 _ _ (by first | omega | go_size)).trans (by first | (with_reducible assumption) | go_cell)
    have hz1_0_4 : W1.frozen? ⟨w.heap.size, 4, none⟩ = false := (hf1 _ _ (by first | omega | go_size)).trans (by first | (with_reducible assumption) | (go_simp; done) | (simp [*]; done))
    have hk1_0 : w.heap.size < W1.heap.size := by omega
    clear hg1 hc1 hf1
    go_wp2_with fail
    go_returns
    exact ⟨rfl, by go_grown⟩
  have hz : manyB k = false → i = 0 := fun h => by
    have : ¬ 1 ≤ i := fun h2 => hf ⟨h, h2⟩
    omega
  clear hf
  have b0 := hd.1
  have b1 := hv.1
  have b2 := he.1
  clear hd hv he hi
  have hk' : k = 1 ∨ k = 2 ∨ k = 3 ∨ k = 4 ∨ k = 5 ∨ k = 6 ∨ k = 7 ∨ k = 8 ∨ k = 9 ∨ k = 10 ∨ k = 11 := by omega
  rcases hk' with rfl | rfl | rfl | rfl | rfl | rfl | rfl | rfl | rfl | rfl | rfl
  · cases p with
    | true =>
      have c1 : d + 16 * n ≤ 18446744073709551616 ∧ v + 4 ≤ 18446744073709551616 ∧ e + 4 ≤ 18446744073709551616 := by obtain ⟨_, _, _, _, hx, hy, hz', dx, vy, ez, _, _, _⟩ := HV.out; simp only [if_true] at hy hz'; omega
      obtain ⟨rfl, rfl, rfl⟩ : d + 16 * i = q1 ∧ 16 = q2 ∧ 0 = q3 := by
        have h := HH.out
        rw [where_yes HCK.out HV.out hk hi2 (fun _ => hz ‹_›) rfl] at h
        simp only [Prod.mk.injEq] at h
        exact h
      clear HH HV hk hz
      go_enter Try.func70, Try.ntmps70
      go_wp2_with fail
      refine (KEY.out 0 HC.out _).mono ?_
      rintro eE W1 ⟨rfl, hg1⟩
      have hb1 : Below w.heap.size w W1 := (show Below w.heap.size w _ by go_grown).trans (hg1.mono (by first | omega | go_size))
      obtain ⟨hc1, hf1⟩ := bcell hg1
      have hs1 := hg1.size
      try simp only [World.size_alloc, World.size_setCell, World.size_drew] at hs1
      have hl1_0_0 : W1.cell? ⟨w.heap.size, 0, none⟩ = some (.bool true) := (hc1 _ _ (by first | omega | go_size)).trans (by first | (with_reducible assumption) | go_cell)
      have hz1_0_0 : W1.frozen? ⟨w.heap.size, 0, none⟩ = false := (hf1 _ _ (by first | omega | go_size)).trans (by first | (with_reducible assumption) | (go_simp; done) | (simp [*]; done))
      have hl1_0_1 : W1.cell? ⟨w.heap.size, 1, none⟩ = some (num n) := (hc1 _ _ (by first | omega | go_size)).trans (by first | (with_reducible assumption) | go_cell)
      have hz1_0_1 : W1.frozen? ⟨w.heap.size, 1, none⟩ = false := (hf1 _ _ (by first | omega | go_size)).trans (by first | (with_reducible assumption) | (go_simp; done) | (simp [*]; done))
      have hl1_0_2 : W1.cell? ⟨w.heap.size, 2, none⟩ = some (u64 d) := (hc1 _ _ (by first | omega | go_size)).trans (by first | (with_reducible assumption) | go_cell)
      have hz1_0_2 : W1.frozen? ⟨w.heap.size, 2, none⟩ = false := (hf1 _ _ (by first | omega | go_size)).trans (by first | (with_reducible assumption) | (go_simp; done) | (simp [*]; done))
      have hl1_0_3 : W1.cell? ⟨w.heap.size, 3, none⟩ = some (u64 v) := (hc1 _ _ (by first | omega | go_size)).trans (by first | (with_reducible assumption) | go_cell)
      have hz1_0_3 : W1.frozen? ⟨w.heap.size, 3, none⟩ = false := (hf1 _ _ (by first | omega | go_size)).trans (by first | (with_reducible assumption) | (go_simp; done) | (simp [*]; done))
      have hl1_0_4 : W1.cell? ⟨w.heap.size, 4, none⟩ = some (u64 e) := (hc1 _ _ (by first | omega | go_size)).trans (by first | (with_reducible assumption) | go_cell)
      have hz1_0_4 : W1.frozen? ⟨w.heap.size, 4, none⟩ = false := (hf1 _ _ (by first | omega | go_size)).trans (by first | (with_reducible assumption) | (go_simp; done) | (simp [*]; done))
      have hk1_0 : w.heap.size < W1.heap.size := by omega
      clear hg1 hc1 hf1
      go_wp2_with fail
      go_returns
      exact ⟨rfl, by go_grown⟩
    | false =>
      have c1 : d + 16 * n ≤ 18446744073709551616 ∧ v + (6 + 2 * n) ≤ 18446744073709551616 ∧ e + (6 + 8 * n) ≤ 18446744073709551616 := by obtain ⟨_, _, _, _, hx, hy, hz', dx, vy, ez, _, _, _⟩ := HV.out; simp only [Bool.false_eq_true, if_false] at hy hz'; omega
      obtain ⟨rfl, rfl, rfl⟩ : d + 16 * i = q1 ∧ 16 = q2 ∧ 0 = q3 := by
        have h := HH.out
        rw [where_yes HCK.out HV.out hk hi2 (fun _ => hz ‹_›) rfl] at h
        simp only [Prod.mk.injEq] at h
        exact h
      clear HH HV hk hz
      go_enter Try.func70, Try.ntmps70
      go_wp2_with fail
      refine (KEY.out 0 HC.out _).mono ?_
      rintro eE W1 ⟨rfl, hg1⟩
      have hb1 : Below w.heap.size w W1 := (show Below w.heap.size w _ by go_grown).trans (hg1.mono (by first | omega | go_size))
      obtain ⟨hc1, hf1⟩ := bcell hg1
      have hs1 := hg1.size
      try simp only [World.size_alloc, World.size_setCell, World.size_drew] at hs1
      have hl1_0_0 : W1.cell? ⟨w.heap.size, 0, none⟩ = some (.bool false) := (hc1 _ _ (by first | omega | go_size)).trans (by first | (with_reducible assumption) | go_cell)
      have hz1_0_0 : W1.frozen? ⟨w.heap.size, 0, none⟩ = false := (hf1 _ _ (by first | omega | go_size)).trans (by first | (with_reducible assumption) | (go_simp; done) | (simp [*]; done))
      have hl1_0_1 : W1.cell? ⟨w.heap.size, 1, none⟩ = some (num n) := (hc1 _ _ (by first | omega | go_size)).trans (by first | (with_reducible assumption) | go_cell)
      have hz1_0_1 : W1.frozen? ⟨w.heap.size, 1, none⟩ = false := (hf1 _ _ (by first | omega | go_size)).trans (by first | (with_reducible assumption) | (go_simp; done) | (simp [*]; done))
      have hl1_0_2 : W1.cell? ⟨w.heap.size, 2, none⟩ = some (u64 d) := (hc1 _ _ (by first | omega | go_size)).trans (by first | (with_reducible assumption) | go_cell)
      have hz1_0_2 : W1.frozen? ⟨w.heap.size, 2, none⟩ = false := (hf1 _ _ (by first | omega | go_size)).trans (by first | (with_reducible assumption) | (go_simp; done) | (simp [*]; done))
      have hl1_0_3 : W1.cell? ⟨w.heap.size, 3, none⟩ = some (u64 v) := (hc1 _ _ (by first | omega | go_size)).trans (by first | (with_reducible assumption) | go_cell)
      have hz1_0_3 : W1.frozen? ⟨w.heap.size, 3, none⟩ = false := (hf1 _ _ (by first | omega | go_size)).trans (by first | (with_reducible assumption) | (go_simp; done) | (simp [*]; done))
      have hl1_0_4 : W1.cell? ⟨w.heap.size, 4, none⟩ = some (u64 e) := (hc1 _ _ (by first | omega | go_size)).trans (by first | (with_reducible assumption) | go_cell)
      have hz1_0_4 : W1.frozen? ⟨w.heap.size, 4, none⟩ = false := (hf1 _ _ (by first | omega | go_size)).trans (by first | (with_reducible assumption) | (go_simp; done) | (simp [*]; done))
      have hk1_0 : w.heap.size < W1.heap.size := by omega
      clear hg1 hc1 hf1
      go_wp2_with fail
      go_returns
      exact ⟨rfl, by go_grown⟩
  · cases p with
    | true =>
      obtain rfl : i = 0 := hz rfl
      obtain ⟨rfl, rfl, rfl⟩ : q1 = 0 ∧ q2 = 0 ∧ q3 = 2 := by have h := HH.out; rw [where_no hk hi2.1 rfl] at h; cases h; exact ⟨rfl, rfl, rfl⟩
      clear HH HV hk hz
      go_enter Try.func70, Try.ntmps70
      go_wp2_with fail
      refine (KEY.out 0 HC.out _).mono ?_
      rintro eE W1 ⟨rfl, hg1⟩
      have hb1 : Below w.heap.size w W1 := (show Below w.heap.size w _ by go_grown).trans (hg1.mono (by first | omega | go_size))
      obtain ⟨hc1, hf1⟩ := bcell hg1
      have hs1 := hg1.size
      try simp only [World.size_alloc, World.size_setCell, World.size_drew] at hs1
      have hl1_0_0 : W1.cell? ⟨w.heap.size, 0, none⟩ = some (.bool true) := (hc1 _ _ (by first | omega | go_size)).trans (by first | (with_reducible assumption) | go_cell)
      have hz1_0_0 : W1.frozen? ⟨w.heap.size, 0, none⟩ = false := (hf1 _ _ (by first | omega | go_size)).trans (by first | (with_reducible assumption) | (go_simp; done) | (simp [*]; done))
      have hl1_0_1 : W1.cell? ⟨w.heap.size, 1, none⟩ = some (num n) := (hc1 _ _ (by first | omega | go_size)).trans (by first | (with_reducible assumption) | go_cell)
      have hz1_0_1 : W1.frozen? ⟨w.heap.size, 1, none⟩ = false := (hf1 _ _ (by first | omega | go_size)).trans (by first | (with_reducible assumption) | (go_simp; done) | (simp [*]; done))
      have hl1_0_2 : W1.cell? ⟨w.heap.size, 2, none⟩ = some (u64 d) := (hc1 _ _ (by first | omega | go_size)).trans (by first | (with_reducible assumption) | go_cell)
      have hz1_0_2 : W1.frozen? ⟨w.heap.size, 2, none⟩ = false := (hf1 _ _ (by first | omega | go_size)).trans (by first | (with_reducible assumption) | (go_simp; done) | (simp [*]; done))
      have hl1_0_3 : W1.cell? ⟨w.heap.size, 3, none⟩ = some (u64 v) := (hc1 _ _ (by first | omega | go_size)).trans (by first | (with_reducible assumption) | go_cell)
      have hz1_0_3 : W1.frozen? ⟨w.heap.size, 3, none⟩ = false := (hf1 _ _ (by first | omega | go_size)).trans (by first | (with_reducible assumption) | (go_simp; done) | (simp [*]; done))
      have hl1_0_4 : W1.cell? ⟨w.heap.size, 4, none⟩ = some (u64 e) := (hc1 _ _ (by first | omega | go_size)).trans (by first | (with_reducible assumption) | go_cell)
      have hz1_0_4 : W1.frozen? ⟨w.heap.size, 4, none⟩ = false := (hf1 _ _ (by first | omega | go_size)).trans (by first | (with_reducible assumption) | (go_simp; done) | (simp [*]; done))
      have hk1_0 : w.heap.size < W1.heap.size := by omega
      clear hg1 hc1 hf1
      go_wp2_with fail
      go_returns
      exact ⟨rfl, by go_grown⟩
    | false =>
      obtain rfl : i = 0 := hz rfl
      have c1 : d + 16 * n ≤ 18446744073709551616 ∧ v + (6 + 2 * n) ≤ 18446744073709551616 ∧ e + (6 + 8 * n) ≤ 18446744073709551616 := by obtain ⟨_, _, _, _, hx, hy, hz', dx, vy, ez, _, _, _⟩ := HV.out; simp only [Bool.false_eq_true, if_false] at hy hz'; omega
      obtain ⟨rfl, rfl, rfl⟩ : v = q1 ∧ 2 = q2 ∧ 0 = q3 := by
        have h := HH.out
        rw [where_yes HCK.out HV.out hk hi2 (fun _ => rfl) rfl] at h
        simp only [Prod.mk.injEq] at h
        exact h
      clear HH HV hk hz
      go_enter Try.func70, Try.ntmps70
      go_wp2_with fail
      refine (KEY.out 0 HC.out _).mono ?_
      rintro eE W1 ⟨rfl, hg1⟩
      have hb1 : Below w.heap.size w W1 := (show Below w.heap.size w _ by go_grown).trans (hg1.mono (by first | omega | go_size))
      obtain ⟨hc1, hf1⟩ := bcell hg1
      have hs1 := hg1.size
      try simp only [World.size_alloc, World.size_setCell, World.size_drew] at hs1
      have hl1_0_0 : W1.cell? ⟨w.heap.size, 0, none⟩ = some (.bool false) := (hc1 _ _ (by first | omega | go_size)).trans (by first | (with_reducible assumption) | go_cell)
      have hz1_0_0 : W1.frozen? ⟨w.heap.size, 0, none⟩ = false := (hf1 _ _ (by first | omega | go_size)).trans (by first | (with_reducible assumption) | (go_simp; done) | (simp [*]; done))
      have hl1_0_1 : W1.cell? ⟨w.heap.size, 1, none⟩ = some (num n) := (hc1 _ _ (by first | omega | go_size)).trans (by first | (with_reducible assumption) | go_cell)
      have hz1_0_1 : W1.frozen? ⟨w.heap.size, 1, none⟩ = false := (hf1 _ _ (by first | omega | go_size)).trans (by first | (with_reducible assumption) | (go_simp; done) | (simp [*]; done))
      have hl1_0_2 : W1.cell? ⟨w.heap.size, 2, none⟩ = some (u64 d) := (hc1 _ _ (by first | omega | go_size)).trans (by first | (with_reducible assumption) | go_cell)
      have hz1_0_2 : W1.frozen? ⟨w.heap.size, 2, none⟩ = false := (hf1 _ _ (by first | omega | go_size)).trans (by first | (with_reducible assumption) | (go_simp; done) | (simp [*]; done))
      have hl1_0_3 : W1.cell? ⟨w.heap.size, 3, none⟩ = some (u64 v) := (hc1 _ _ (by first | omega | go_size)).trans (by first | (with_reducible assumption) | go_cell)
      have hz1_0_3 : W1.frozen? ⟨w.heap.size, 3, none⟩ = false := (hf1 _ _ (by first | omega | go_size)).trans (by first | (with_reducible assumption) | (go_simp; done) | (simp [*]; done))
      have hl1_0_4 : W1.cell? ⟨w.heap.size, 4, none⟩ = some (u64 e) := (hc1 _ _ (by first | omega | go_size)).trans (by first | (with_reducible assumption) | go_cell)
      have hz1_0_4 : W1.frozen? ⟨w.heap.size, 4, none⟩ = false := (hf1 _ _ (by first | omega | go_size)).trans (by first | (with_reducible assumption) | (go_simp; done) | (simp [*]; done))
      have hk1_0 : w.heap.size < W1.heap.size := by omega
      clear hg1 hc1 hf1
      go_wp2_with fail
      go_returns
      exact ⟨rfl, by go_grown⟩
  · cases p with
    | true =>
      obtain rfl : i = 0 := hz rfl
      obtain ⟨rfl, rfl, rfl⟩ : q1 = 0 ∧ q2 = 0 ∧ q3 = 2 := by have h := HH.out; rw [where_no hk hi2.1 rfl] at h; cases h; exact ⟨rfl, rfl, rfl⟩
      clear HH HV hk hz
      go_enter Try.func70, Try.ntmps70
      go_wp2_with fail
      refine (KEY.out 0 HC.out _).mono ?_
      rintro eE W1 ⟨rfl, hg1⟩
      have hb1 : Below w.heap.size w W1 := (show Below w.heap.size w _ by go_grown).trans (hg1.mono (by first | omega | go_size))
      obtain ⟨hc1, hf1⟩ := bcell hg1
      have hs1 := hg1.size
      try simp only [World.size_alloc, World.size_setCell, World.size_drew] at hs1
      have hl1_0_0 : W1.cell? ⟨w.heap.size, 0, none⟩ = some (.bool true) := (hc1 _ _ (by first | omega | go_size)).trans (by first | (with_reducible assumption) | go_cell)
      have hz1_0_0 : W1.frozen? ⟨w.heap.size, 0, none⟩ = false := (hf1 _ _ (by first | omega | go_size)).trans (by first | (with_reducible assumption) | (go_simp; done) | (simp [*]; done))
      have hl1_0_1 : W1.cell? ⟨w.heap.size, 1, none⟩ = some (num n) := (hc1 _ _ (by first | omega | go_size)).trans (by first | (with_reducible assumption) | go_cell)
      have hz1_0_1 : W1.frozen? ⟨w.heap.size, 1, none⟩ = false := (hf1 _ _ (by first | omega | go_size)).trans (by first | (with_reducible assumption) | (go_simp; done) | (simp [*]; done))
      have hl1_0_2 : W1.cell? ⟨w.heap.size, 2, none⟩ = some (u64 d) := (hc1 _ _ (by first | omega | go_size)).trans (by first | (with_reducible assumption) | go_cell)
      have hz1_0_2 : W1.frozen? ⟨w.heap.size, 2, none⟩ = false := (hf1 _ _ (by first | omega | go_size)).trans (by first | (with_reducible assumption) | (go_simp; done) | (simp [*]; done))
      have hl1_0_3 : W1.cell? ⟨w.heap.size, 3, none⟩ = some (u64 v) := (hc1 _ _ (by first | omega | go_size)).trans (by first | (with_reducible assumption) | go_cell)
      have hz1_0_3 : W1.frozen? ⟨w.heap.size, 3, none⟩ = false := (hf1 _ _ (by first | omega | go_size)).trans (by first | (with_reducible assumption) | (go_simp; done) | (simp [*]; done))
      have hl1_0_4 : W1.cell? ⟨w.heap.size, 4, none⟩ = some (u64 e) := (hc1 _ _ (by first | omega | go_size)).trans (by first | (with_reducible assumption) | go_cell)
      have hz1_0_4 : W1.frozen? ⟨w.heap.size, 4, none⟩ = false := (hf1 _ _ (by first | omega | go_size)).trans (by first | (with_reducible assumption) | (go_simp; done) | (simp [*]; done))
      have hk1_0 : w.heap.size < W1.heap.size := by omega
      clear hg1 hc1 hf1
      go_wp2_with fail
      go_returns
      exact ⟨rfl, by go_grown⟩
    | false =>
      obtain rfl : i = 0 := hz rfl
      have c1 : d + 16 * n ≤ 18446744073709551616 ∧ v + (6 + 2 * n) ≤ 18446744073709551616 ∧ e + (6 + 8 * n) ≤ 18446744073709551616 := by obtain ⟨_, _, _, _, hx, hy, hz', dx, vy, ez, _, _, _⟩ := HV.out; simp only [Bool.false_eq_true, if_false] at hy hz'; omega
      obtain ⟨rfl, rfl, rfl⟩ : v + 2 = q1 ∧ 2 = q2 ∧ 0 = q3 := by
        have h := HH.out
        rw [where_yes HCK.out HV.out hk hi2 (fun _ => rfl) rfl] at h
        simp only [Prod.mk.injEq] at h
        exact h
      clear HH HV hk hz
      go_enter Try.func70, Try.ntmps70
      go_wp2_with fail
      refine (KEY.out 0 HC.out _).mono ?_
      rintro eE W1 ⟨rfl, hg1⟩
      have hb1 : Below w.heap.size w W1 := (show Below w.heap.size w _ by go_grown).trans (hg1.mono (by first | omega | go_size))
      obtain ⟨hc1, hf1⟩ := bcell hg1
      have hs1 := hg1.size
      try simp only [World.size_alloc, World.size_setCell, World.size_drew] at hs1
      have hl1_0_0 : W1.cell? ⟨w.heap.size, 0, none⟩ = some (.bool false) := (hc1 _ _ (by first | omega | go_size)).trans (by first | (with_reducible assumption) | go_cell)
      have hz1_0_0 : W1.frozen? ⟨w.heap.size, 0, none⟩ = false := (hf1 _ _ (by first | omega | go_size)).trans (by first | (with_reducible assumption) | (go_simp; done) | (simp [*]; done))
      have hl1_0_1 : W1.cell? ⟨w.heap.size, 1, none⟩ = some (num n) := (hc1 _ _ (by first | omega | go_size)).trans (by first | (with_reducible assumption) | go_cell)
      have hz1_0_1 : W1.frozen? ⟨w.heap.size, 1, none⟩ = false := (hf1 _ _ (by first | omega | go_size)).trans (by first | (with_reducible assumption) | (go_simp; done) | (simp [*]; done))
      have hl1_0_2 : W1.cell? ⟨w.heap.size, 2, none⟩ = some (u64 d) := (hc1 _ _ (by first | omega | go_size)).trans (by first | (with_reducible assumption) | go_cell)
      have hz1_0_2 : W1.frozen? ⟨w.heap.size, 2, none⟩ = false := (hf1 _ _ (by first | omega | go_size)).trans (by first | (with_reducible assumption) | (go_simp; done) | (simp [*]; done))
      have hl1_0_3 : W1.cell? ⟨w.heap.size, 3, none⟩ = some (u64 v) := (hc1 _ _ (by first | omega | go_size)).trans (by first | (with_reducible assumption) | go_cell)
      have hz1_0_3 : W1.frozen? ⟨w.heap.size, 3, none⟩ = false := (hf1 _ _ (by first | omega | go_size)).trans (by first | (with_reducible assumption) | (go_simp; done) | (simp [*]; done))
      have hl1_0_4 : W1.cell? ⟨w.heap.size, 4, none⟩ = some (u64 e) := (hc1 _ _ (by first | omega | go_size)).trans (by first | (with_reducible assumption) | go_cell)
      have hz1_0_4 : W1.frozen? ⟨w.heap.size, 4, none⟩ = false := (hf1 _ _ (by first | omega | go_size)).trans (by first | (with_reducible assumption) | (go_simp; done) | (simp [*]; done))
      have hk1_0 : w.heap.size < W1.heap.size := by omega
      clear hg1 hc1 hf1
      go_wp2_with fail
      go_returns
      exact ⟨rfl, by go_grown⟩
  · cases p with
    | true =>
      obtain ⟨rfl, rfl, rfl⟩ : q1 = 0 ∧ q2 = 0 ∧ q3 = 2 := by have h := HH.out; rw [where_no hk hi2.1 rfl] at h; cases h; exact ⟨rfl, rfl, rfl⟩
      clear HH HV hk hz
      go_enter Try.func70, Try.ntmps70
      go_wp2_with fail
      refine (KEY.out 0 HC.out _).mono ?_
      rintro eE W1 ⟨rfl, hg1⟩
      have hb1 : Below w.heap.size w W1 := (show Below w.heap.size w _ by go_grown).trans (hg1.mono (by first | omega | go_size))
      obtain ⟨hc1, hf1⟩ := bcell hg1
      have hs1 := hg1.size
      try simp only [World.size_alloc, World.size_setCell, World.size_drew] at hs1
      have hl1_0_0 : W1.cell? ⟨w.heap.size, 0, none⟩ = some (.bool true) := (hc1 _ _ (by first | omega | go_size)).trans (by first | (with_reducible assumption) | go_cell)
      have hz1_0_0 : W1.frozen? ⟨w.heap.size, 0, none⟩ = false := (hf1 _ _ (by first | omega | go_size)).trans (by first | (with_reducible assumption) | (go_simp; done) | (simp [*]; done))
      have hl1_0_1 : W1.cell? ⟨w.heap.size, 1, none⟩ = some (num n) := (hc1 _ _ (by first | omega | go_size)).trans (by first | (with_reducible assumption) | go_cell)
      have hz1_0_1 : W1.frozen? ⟨w.heap.size, 1, none⟩ = false := (hf1 _ _ (by first | omega | go_size)).trans (by first | (with_reducible assumption) | (go_simp; done) | (simp [*]; done))
      have hl1_0_2 : W1.cell? ⟨w.heap.size, 2, none⟩ = some (u64 d) := (hc1 _ _ (by first | omega | go_size)).trans (by first | (with_reducible assumption) | go_cell)
      have hz1_0_2 : W1.frozen? ⟨w.heap.size, 2, none⟩ = false := (hf1 _ _ (by first | omega | go_size)).trans (by first | (with_reducible assumption) | (go_simp; done) | (simp [*]; done))
      have hl1_0_3 : W1.cell? ⟨w.heap.size, 3, none⟩ = some (u64 v) := (hc1 _ _ (by first | omega | go_size)).trans (by first | (with_reducible assumption) | go_cell)
      have hz1_0_3 : W1.frozen? ⟨w.heap.size, 3, none⟩ = false := (hf1 _ _ (by first | omega | go_size)).trans (by first | (with_reducible assumption) | (go_simp; done) | (simp [*]; done))
      have hl1_0_4 : W1.cell? ⟨w.heap.size, 4, none⟩ = some (u64 e) := (hc1 _ _ (by first | omega | go_size)).trans (by first | (with_reducible assumption) | go_cell)
      have hz1_0_4 : W1.frozen? ⟨w.heap.size, 4, none⟩ = false := (hf1 _ _ (by first | omega | go_size)).trans (by first | (with_reducible assumption) | (go_simp; done) | (simp [*]; done))
      have hk1_0 : w.heap.size < W1.heap.size := by omega
      clear hg1 hc1 hf1
      go_wp2_with fail
      go_returns
      exact ⟨rfl, by go_grown⟩
    | false =>
      have c1 : d + 16 * n ≤ 18446744073709551616 ∧ v + (6 + 2 * n) ≤ 18446744073709551616 ∧ e + (6 + 8 * n) ≤ 18446744073709551616 := by obtain ⟨_, _, _, _, hx, hy, hz', dx, vy, ez, _, _, _⟩ := HV.out; simp only [Bool.false_eq_true, if_false] at hy hz'; omega
      obtain ⟨rfl, rfl, rfl⟩ : v + 4 + 2 * i = q1 ∧ 2 = q2 ∧ 0 = q3 := by
        have h := HH.out
        rw [where_yes HCK.out HV.out hk hi2 (fun _ => hz ‹_›) rfl] at h
        simp only [Prod.mk.injEq] at h
        exact h
      clear HH HV hk hz
      go_enter Try.func70, Try.ntmps70
      go_wp2_with fail
      refine (KEY.out 0 HC.out _).mono ?_
      rintro eE W1 ⟨rfl, hg1⟩
      have hb1 : Below w.heap.size w W1 := (show Below w.heap.size w _ by go_grown).trans (hg1.mono (by first | omega | go_size))
      obtain ⟨hc1, hf1⟩ := bcell hg1
      have hs1 := hg1.size
      try simp only [World.size_alloc, World.size_setCell, World.size_drew] at hs1
      have hl1_0_0 : W1.cell? ⟨w.heap.size, 0, none⟩ = some (.bool false) := (hc1 _ _ (by first | omega | go_size)).trans (by first | (with_reducible assumption) | go_cell)
      have hz1_0_0 : W1.frozen? ⟨w.heap.size, 0, none⟩ = false := (hf1 _ _ (by first | omega | go_size)).trans (by first | (with_reducible assumption) | (go_simp; done) | (simp [*]; done))
      have hl1_0_1 : W1.cell? ⟨w.heap.size, 1, none⟩ = some (num n) := (hc1 _ _ (by first | omega | go_size)).trans (by first | (with_reducible assumption) | go_cell)
      have hz1_0_1 : W1.frozen? ⟨w.heap.size, 1, none⟩ = false := (hf1 _ _ (by first | omega | go_size)).trans (by first | (with_reducible assumption) | (go_simp; done) | (simp [*]; done))
      have hl1_0_2 : W1.cell? ⟨w.heap.size, 2, none⟩ = some (u64 d) := (hc1 _ _ (by first | omega | go_size)).trans (by first | (with_reducible assumption) | go_cell)
      have hz1_0_2 : W1.frozen? ⟨w.heap.size, 2, none⟩ = false := (hf1 _ _ (by first | omega | go_size)).trans (by first | (with_reducible assumption) | (go_simp; done) | (simp [*]; done))
      have hl1_0_3 : W1.cell? ⟨w.heap.size, 3, none⟩ = some (u64 v) := (hc1 _ _ (by first | omega | go_size)).trans (by first | (with_reducible assumption) | go_cell)
      have hz1_0_3 : W1.frozen? ⟨w.heap.size, 3, none⟩ = false := (hf1 _ _ (by first | omega | go_size)).trans (by first | (with_reducible assumption) | (go_simp; done) | (simp [*]; done))
      have hl1_0_4 : W1.cell? ⟨w.heap.size, 4, none⟩ = some (u64 e) := (hc1 _ _ (by first | omega | go_size)).trans (by first | (with_reducible assumption) | go_cell)
      have hz1_0_4 : W1.frozen? ⟨w.heap.size, 4, none⟩ = false := (hf1 _ _ (by first | omega | go_size)).trans (by first | (with_reducible assumption) | (go_simp; done) | (simp [*]; done))
      have hk1_0 : w.heap.size < W1.heap.size := by omega
      clear hg1 hc1 hf1
      go_wp2_with fail
      go_returns
      exact ⟨rfl, by go_grown⟩
  · cases p with
    | true =>
      obtain rfl : i = 0 := hz rfl
      obtain ⟨rfl, rfl, rfl⟩ : q1 = 0 ∧ q2 = 0 ∧ q3 = 2 := by have h := HH.out; rw [where_no hk hi2.1 rfl] at h; cases h; exact ⟨rfl, rfl, rfl⟩
      clear HH HV hk hz
      go_enter Try.func70, Try.ntmps70
      go_wp2_with fail
      refine (KEY.out 0 HC.out _).mono ?_
      rintro eE W1 ⟨rfl, hg1⟩
      have hb1 : Below w.heap.size w W1 := (show Below w.heap.size w _ by go_grown).trans (hg1.mono (by first | omega | go_size))
      obtain ⟨hc1, hf1⟩ := bcell hg1
      have hs1 := hg1.size
      try simp only [World.size_alloc, World.size_setCell, World.size_drew] at hs1
      have hl1_0_0 : W1.cell? ⟨w.heap.size, 0, none⟩ = some (.bool true) := (hc1 _ _ (by first | omega | go_size)).trans (by first | (with_reducible assumption) | go_cell)
      have hz1_0_0 : W1.frozen? ⟨w.heap.size, 0, none⟩ = false := (hf1 _ _ (by first | omega | go_size)).trans (by first | (with_reducible assumption) | (go_simp; done) | (simp [*]; done))
      have hl1_0_1 : W1.cell? ⟨w.heap.size, 1, none⟩ = some (num n) := (hc1 _ _ (by first | omega | go_size)).trans (by first | (with_reducible assumption) | go_cell)
      have hz1_0_1 : W1.frozen? ⟨w.heap.size, 1, none⟩ = false := (hf1 _ _ (by first | omega | go_size)).trans (by first | (with_reducible assumption) | (go_simp; done) | (simp [*]; done))
      have hl1_0_2 : W1.cell? ⟨w.heap.size, 2, none⟩ = some (u64 d) := (hc1 _ _ (by first | omega | go_size)).trans (by first | (with_reducible assumption) | go_cell)
      have hz1_0_2 : W1.frozen? ⟨w.heap.size, 2, none⟩ = false := (hf1 _ _ (by first | omega | go_size)).trans (by first | (with_reducible assumption) | (go_simp; done) | (simp [*]; done))
      have hl1_0_3 : W1.cell? ⟨w.heap.size, 3, none⟩ = some (u64 v) := (hc1 _ _ (by first | omega | go_size)).trans (by first | (with_reducible assumption) | go_cell)
      have hz1_0_3 : W1.frozen? ⟨w.heap.size, 3, none⟩ = false := (hf1 _ _ (by first | omega | go_size)).trans (by first | (with_reducible assumption) | (go_simp; done) | (simp [*]; done))
      have hl1_0_4 : W1.cell? ⟨w.heap.size, 4, none⟩ = some (u64 e) := (hc1 _ _ (by first | omega | go_size)).trans (by first | (with_reducible assumption) | go_cell)
      have hz1_0_4 : W1.frozen? ⟨w.heap.size, 4, none⟩ = false := (hf1 _ _ (by first | omega | go_size)).trans (by first | (with_reducible assumption) | (go_simp; done) | (simp [*]; done))
      have hk1_0 : w.heap.size < W1.heap.size := by omega
      clear hg1 hc1 hf1
      go_wp2_with fail
      go_returns
      exact ⟨rfl, by go_grown⟩
    | false =>
      obtain rfl : i = 0 := hz rfl
      have c1 : d + 16 * n ≤ 18446744073709551616 ∧ v + (6 + 2 * n) ≤ 18446744073709551616 ∧ e + (6 + 8 * n) ≤ 18446744073709551616 := by obtain ⟨_, _, _, _, hx, hy, hz', dx, vy, ez, _, _, _⟩ := HV.out; simp only [Bool.false_eq_true, if_false] at hy hz'; omega
      obtain ⟨rfl, rfl, rfl⟩ : v + 4 + 2 * n = q1 ∧ 2 = q2 ∧ 0 = q3 := by
        have h := HH.out
        rw [where_yes HCK.out HV.out hk hi2 (fun _ => rfl) rfl] at h
        simp only [Prod.mk.injEq] at h
        exact h
      clear HH HV hk hz
      go_enter Try.func70, Try.ntmps70
      go_wp2_with fail
      refine (KEY.out 0 HC.out _).mono ?_
      rintro eE W1 ⟨rfl, hg1⟩
      have hb1 : Below w.heap.size w W1 := (show Below w.heap.size w _ by go_grown).trans (hg1.mono (by first | omega | go_size))
      obtain ⟨hc1, hf1⟩ := bcell hg1
      have hs1 := hg1.size
      try simp only [World.size_alloc, World.size_setCell, World.size_drew] at hs1
      have hl1_0_0 : W1.cell? ⟨w.heap.size, 0, none⟩ = some (.bool false) := (hc1 _ _ (by first | omega | go_size)).trans (by first | (with_reducible assumption) | go_cell)
      have hz1_0_0 : W1.frozen? ⟨w.heap.size, 0, none⟩ = false := (hf1 _ _ (by first | omega | go_size)).trans (by first | (with_reducible assumption) | (go_simp; done) | (simp [*]; done))
      have hl1_0_1 : W1.cell? ⟨w.heap.size, 1, none⟩ = some (num n) := (hc1 _ _ (by first | omega | go_size)).trans (by first | (with_reducible assumption) | go_cell)
      have hz1_0_1 : W1.frozen? ⟨w.heap.size, 1, none⟩ = false := (hf1 _ _ (by first | omega | go_size)).trans (by first | (with_reducible assumption) | (go_simp; done) | (simp [*]; done))
      have hl1_0_2 : W1.cell? ⟨w.heap.size, 2, none⟩ = some (u64 d) := (hc1 _ _ (by first | omega | go_size)).trans (by first | (with_reducible assumption) | go_cell)
      have hz1_0_2 : W1.frozen? ⟨w.heap.size, 2, none⟩ = false := (hf1 _ _ (by first | omega | go_size)).trans (by first | (with_reducible assumption) | (go_simp; done) | (simp [*]; done))
      have hl1_0_3 : W1.cell? ⟨w.heap.size, 3, none⟩ = some (u64 v) := (hc1 _ _ (by first | omega | go_size)).trans (by first | (with_reducible assumption) | go_cell)
      have hz1_0_3 : W1.frozen? ⟨w.heap.size, 3, none⟩ = false := (hf1 _ _ (by first | omega | go_size)).trans (by first | (with_reducible assumption) | (go_simp; done) | (simp [*]; done))
      have hl1_0_4 : W1.cell? ⟨w.heap.size, 4, none⟩ = some (u64 e) := (hc1 _ _ (by first | omega | go_size)).trans (by first | (with_reducible assumption) | go_cell)
      have hz1_0_4 : W1.frozen? ⟨w.heap.size, 4, none⟩ = false := (hf1 _ _ (by first | omega | go_size)).trans (by first | (with_reducible assumption) | (go_simp; done) | (simp [*]; done))
      have hk1_0 : w.heap.size < W1.heap.size := by omega
      clear hg1 hc1 hf1
      go_wp2_with fail
      go_returns
      exact ⟨rfl, by go_grown⟩
  · cases p with
    | true =>
      obtain rfl : i = 0 := hz rfl
      obtain ⟨rfl, rfl, rfl⟩ : q1 = 0 ∧ q2 = 0 ∧ q3 = 2 := by have h := HH.out; rw [where_no hk hi2.1 rfl] at h; cases h; exact ⟨rfl, rfl, rfl⟩
      clear HH HV hk hz
      go_enter Try.func70, Try.ntmps70
      go_wp2_with fail
      refine (KEY.out 0 HC.out _).mono ?_
      rintro eE W1 ⟨rfl, hg1⟩
      have hb1 : Below w.heap.size w W1 := (show Below w.heap.size w _ by go_grown).trans (hg1.mono (by first | omega | go_size))
      obtain ⟨hc1, hf1⟩ := bcell hg1
      have hs1 := hg1.size
      try simp only [World.size_alloc, World.size_setCell, World.size_drew] at hs1
      have hl1_0_0 : W1.cell? ⟨w.heap.size, 0, none⟩ = some (.bool true) := (hc1 _ _ (by first | omega | go_size)).trans (by first | (with_reducible assumption) | go_cell)
      have hz1_0_0 : W1.frozen? ⟨w.heap.size, 0, none⟩ = false := (hf1 _ _ (by first | omega | go_size)).trans (by first | (with_reducible assumption) | (go_simp; done) | (simp [*]; done))
      have hl1_0_1 : W1.cell? ⟨w.heap.size, 1, none⟩ = some (num n) := (hc1 _ _ (by first | omega | go_size)).trans (by first | (with_reducible assumption) | go_cell)
      have hz1_0_1 : W1.frozen? ⟨w.heap.size, 1, none⟩ = false := (hf1 _ _ (by first | omega | go_size)).trans (by first | (with_reducible assumption) | (go_simp; done) | (simp [*]; done))
      have hl1_0_2 : W1.cell? ⟨w.heap.size, 2, none⟩ = some (u64 d) := (hc1 _ _ (by first | omega | go_size)).trans (by first | (with_reducible assumption) | go_cell)
      have hz1_0_2 : W1.frozen? ⟨w.heap.size, 2, none⟩ = false := (hf1 _ _ (by first | omega | go_size)).trans (by first | (with_reducible assumption) | (go_simp; done) | (simp [*]; done))
      have hl1_0_3 : W1.cell? ⟨w.heap.size, 3, none⟩ = some (u64 v) := (hc1 _ _ (by first | omega | go_size)).trans (by first | (with_reducible assumption) | go_cell)
      have hz1_0_3 : W1.frozen? ⟨w.heap.size, 3, none⟩ = false := (hf1 _ _ (by first | omega | go_size)).trans (by first | (with_reducible assumption) | (go_simp; done) | (simp [*]; done))
      have hl1_0_4 : W1.cell? ⟨w.heap.size, 4, none⟩ = some (u64 e) := (hc1 _ _ (by first | omega | go_size)).trans (by first | (with_reducible assumption) | go_cell)
      have hz1_0_4 : W1.frozen? ⟨w.heap.size, 4, none⟩ = false := (hf1 _ _ (by first | omega | go_size)).trans (by first | (with_reducible assumption) | (go_simp; done) | (simp [*]; done))
      have hk1_0 : w.heap.size < W1.heap.size := by omega
      clear hg1 hc1 hf1
      go_wp2_with fail
      go_returns
      exact ⟨rfl, by go_grown⟩
    | false =>
      obtain rfl : i = 0 := hz rfl
      have c1 : d + 16 * n ≤ 18446744073709551616 ∧ v + (6 + 2 * n) ≤ 18446744073709551616 ∧ e + (6 + 8 * n) ≤ 18446744073709551616 := by obtain ⟨_, _, _, _, hx, hy, hz', dx, vy, ez, _, _, _⟩ := HV.out; simp only [Bool.false_eq_true, if_false] at hy hz'; omega
      obtain ⟨rfl, rfl, rfl⟩ : e = q1 ∧ 2 = q2 ∧ 0 = q3 := by
        have h := HH.out
        rw [where_yes HCK.out HV.out hk hi2 (fun _ => rfl) rfl] at h
        simp only [Prod.mk.injEq] at h
        exact h
      clear HH HV hk hz
      go_enter Try.func70, Try.ntmps70
      go_wp2_with fail
      refine (KEY.out 0 HC.out _).mono ?_
      rintro eE W1 ⟨rfl, hg1⟩
      have hb1 : Below w.heap.size w W1 := (show Below w.heap.size w _ by go_grown).trans (hg1.mono (by first | omega | go_size))
      obtain ⟨hc1, hf1⟩ := bcell hg1
      have hs1 := hg1.size
      try simp only [World.size_alloc, World.size_setCell, World.size_drew] at hs1
      have hl1_0_0 : W1.cell? ⟨w.heap.size, 0, none⟩ = some (.bool false) := (hc1 _ _ (by first | omega | go_size)).trans (by first | (with_reducible assumption) | go_cell)
      have hz1_0_0 : W1.frozen? ⟨w.heap.size, 0, none⟩ = false := (hf1 _ _ (by first | omega | go_size)).trans (by first | (with_reducible assumption) | (go_simp; done) | (simp [*]; done))
      have hl1_0_1 : W1.cell? ⟨w.heap.size, 1, none⟩ = some (num n) := (hc1 _ _ (by first | omega | go_size)).trans (by first | (with_reducible assumption) | go_cell)
      have hz1_0_1 : W1.frozen? ⟨w.heap.size, 1, none⟩ = false := (hf1 _ _ (by first | omega | go_size)).trans (by first | (with_reducible assumption) | (go_simp; done) | (simp [*]; done))
      have hl1_0_2 : W1.cell? ⟨w.heap.size, 2, none⟩ = some (u64 d) := (hc1 _ _ (by first | omega | go_size)).trans (by first | (with_reducible assumption) | go_cell)
      have hz1_0_2 : W1.frozen? ⟨w.heap.size, 2, none⟩ = false := (hf1 _ _ (by first | omega | go_size)).trans (by first | (with_reducible assumption) | (go_simp; done) | (simp [*]; done))
      have hl1_0_3 : W1.cell? ⟨w.heap.size, 3, none⟩ = some (u64 v) := (hc1 _ _ (by first | omega | go_size)).trans (by first | (with_reducible assumption) | go_cell)
      have hz1_0_3 : W1.frozen? ⟨w.heap.size, 3, none⟩ = false := (hf1 _ _ (by first | omega | go_size)).trans (by first | (with_reducible assumption) | (go_simp; done) | (simp [*]; done))
      have hl1_0_4 : W1.cell? ⟨w.heap.size, 4, none⟩ = some (u64 e) := (hc1 _ _ (by first | omega | go_size)).trans (by first | (with_reducible assumption) | go_cell)
      have hz1_0_4 : W1.frozen? ⟨w.heap.size, 4, none⟩ = false := (hf1 _ _ (by first | omega | go_size)).trans (by first | (with_reducible assumption) | (go_simp; done) | (simp [*]; done))
      have hk1_0 : w.heap.size < W1.heap.size := by omega
      clear hg1 hc1 hf1
      go_wp2_with fail
      go_returns
      exact ⟨rfl, by go_grown⟩
  · cases p with
    | true =>
      obtain rfl : i = 0 := hz rfl
      obtain ⟨rfl, rfl, rfl⟩ : q1 = 0 ∧ q2 = 0 ∧ q3 = 2 := by have h := HH.out; rw [where_no hk hi2.1 rfl] at h; cases h; exact ⟨rfl, rfl, rfl⟩
      clear HH HV hk hz
      go_enter Try.func70, Try.ntmps70
      go_wp2_with fail
      refine (KEY.out 0 HC.out _).mono ?_
      rintro eE W1 ⟨rfl, hg1⟩
      have hb1 : Below w.heap.size w W1 := (show Below w.heap.size w _ by go_grown).trans (hg1.mono (by first | omega | go_size))
      obtain ⟨hc1, hf1⟩ := bcell hg1
      have hs1 := hg1.size
      try simp only [World.size_alloc, World.size_setCell, World.size_drew] at hs1
      have hl1_0_0 : W1.cell? ⟨w.heap.size, 0, none⟩ = some (.bool true) := (hc1 _ _ (by first | omega | go_size)).trans (by first | (with_reducible assumption) | go_cell)
      have hz1_0_0 : W1.frozen? ⟨w.heap.size, 0, none⟩ = false := (hf1 _ _ (by first | omega | go_size)).trans (by first | (with_reducible assumption) | (go_simp; done) | (simp [*]; done))
      have hl1_0_1 : W1.cell? ⟨w.heap.size, 1, none⟩ = some (num n) := (hc1 _ _ (by first | omega | go_size)).trans (by first | (with_reducible assumption) | go_cell)
      have hz1_0_1 : W1.frozen? ⟨w.heap.size, 1, none⟩ = false := (hf1 _ _ (by first | omega | go_size)).trans (by first | (with_reducible assumption) | (go_simp; done) | (simp [*]; done))
      have hl1_0_2 : W1.cell? ⟨w.heap.size, 2, none⟩ = some (u64 d) := (hc1 _ _ (by first | omega | go_size)).trans (by first | (with_reducible assumption) | go_cell)
      have hz1_0_2 : W1.frozen? ⟨w.heap.size, 2, none⟩ = false := (hf1 _ _ (by first | omega | go_size)).trans (by first | (with_reducible assumption) | (go_simp; done) | (simp [*]; done))
      have hl1_0_3 : W1.cell? ⟨w.heap.size, 3, none⟩ = some (u64 v) := (hc1 _ _ (by first | omega | go_size)).trans (by first | (with_reducible assumption) | go_cell)
      have hz1_0_3 : W1.frozen? ⟨w.heap.size, 3, none⟩ = false := (hf1 _ _ (by first | omega | go_size)).trans (by first | (with_reducible assumption) | (go_simp; done) | (simp [*]; done))
      have hl1_0_4 : W1.cell? ⟨w.heap.size, 4, none⟩ = some (u64 e) := (hc1 _ _ (by first | omega | go_size)).trans (by first | (with_reducible assumption) | go_cell)
      have hz1_0_4 : W1.frozen? ⟨w.heap.size, 4, none⟩ = false := (hf1 _ _ (by first | omega | go_size)).trans (by first | (with_reducible assumption) | (go_simp; done) | (simp [*]; done))
      have hk1_0 : w.heap.size < W1.heap.size := by omega
      clear hg1 hc1 hf1
      go_wp2_with fail
      go_returns
      exact ⟨rfl, by go_grown⟩
    | false =>
      obtain rfl : i = 0 := hz rfl
      have c1 : d + 16 * n ≤ 18446744073709551616 ∧ v + (6 + 2 * n) ≤ 18446744073709551616 ∧ e + (6 + 8 * n) ≤ 18446744073709551616 := by obtain ⟨_, _, _, _, hx, hy, hz', dx, vy, ez, _, _, _⟩ := HV.out; simp only [Bool.false_eq_true, if_false] at hy hz'; omega
      obtain ⟨rfl, rfl, rfl⟩ : e + 2 = q1 ∧ 2 = q2 ∧ 0 = q3 := by
        have h := HH.out
        rw [where_yes HCK.out HV.out hk hi2 (fun _ => rfl) rfl] at h
        simp only [Prod.mk.injEq] at h
        exact h
      clear HH HV hk hz
      go_enter Try.func70, Try.ntmps70
      go_wp2_with fail
      refine (KEY.out 0 HC.out _).mono ?_
      rintro eE W1 ⟨rfl, hg1⟩
      have hb1 : Below w.heap.size w W1 := (show Below w.heap.size w _ by go_grown).trans (hg1.mono (by first | omega | go_size))
      obtain ⟨hc1, hf1⟩ := bcell hg1
      have hs1 := hg1.size
      try simp only [World.size_alloc, World.size_setCell, World.size_drew] at hs1
      have hl1_0_0 : W1.cell? ⟨w.heap.size, 0, none⟩ = some (.bool false) := (hc1 _ _ (by first | omega | go_size)).trans (by first | (with_reducible assumption) | go_cell)
      have hz1_0_0 : W1.frozen? ⟨w.heap.size, 0, none⟩ = false := (hf1 _ _ (by first | omega | go_size)).trans (by first | (with_reducible assumption) | (go_simp; done) | (simp [*]; done))
      have hl1_0_1 : W1.cell? ⟨w.heap.size, 1, none⟩ = some (num n) := (hc1 _ _ (by first | omega | go_size)).trans (by first | (with_reducible assumption) | go_cell)
      have hz1_0_1 : W1.frozen? ⟨w.heap.size, 1, none⟩ = false := (hf1 _ _ (by first | omega | go_size)).trans (by first | (with_reducible assumption) | (go_simp; done) | (simp [*]; done))
      have hl1_0_2 : W1.cell? ⟨w.heap.size, 2, none⟩ = some (u64 d) := (hc1 _ _ (by first | omega | go_size)).trans (by first | (with_reducible assumption) | go_cell)
      have hz1_0_2 : W1.frozen? ⟨w.heap.size, 2, none⟩ = false := (hf1 _ _ (by first | omega | go_size)).trans (by first | (with_reducible assumption) | (go_simp; done) | (simp [*]; done))
      have hl1_0_3 : W1.cell? ⟨w.heap.size, 3, none⟩ = some (u64 v) := (hc1 _ _ (by first | omega | go_size)).trans (by first | (with_reducible assumption) | go_cell)
      have hz1_0_3 : W1.frozen? ⟨w.heap.size, 3, none⟩ = false := (hf1 _ _ (by first | omega | go_size)).trans (by first | (with_reducible assumption) | (go_simp; done) | (simp [*]; done))
      have hl1_0_4 : W1.cell? ⟨w.heap.size, 4, none⟩ = some (u64 e) := (hc1 _ _ (by first | omega | go_size)).trans (by first | (with_reducible assumption) | go_cell)
      have hz1_0_4 : W1.frozen? ⟨w.heap.size, 4, none⟩ = false := (hf1 _ _ (by first | omega | go_size)).trans (by first | (with_reducible assumption) | (go_simp; done) | (simp [*]; done))
      have hk1_0 : w.heap.size < W1.heap.size := by omega
      clear hg1 hc1 hf1
      go_wp2_with fail
      go_returns
      exact ⟨rfl, by go_grown⟩
  · cases p with
    | true =>
      obtain ⟨rfl, rfl, rfl⟩ : q1 = 0 ∧ q2 = 0 ∧ q3 = 2 := by have h := HH.out; rw [where_no hk hi2.1 rfl] at h; cases h; exact ⟨rfl, rfl, rfl⟩
      clear HH HV hk hz
      go_enter Try.func70, Try.ntmps70
      go_wp2_with fail
      refine (KEY.out 0 HC.out _).mono ?_
      rintro eE W1 ⟨rfl, hg1⟩
      have hb1 : Below w.heap.size w W1 := (show Below w.heap.size w _ by go_grown).trans (hg1.mono (by first | omega | go_size))
      obtain ⟨hc1, hf1⟩ := bcell hg1
      have hs1 := hg1.size
      try simp only [World.size_alloc, World.size_setCell, World.size_drew] at hs1
      have hl1_0_0 : W1.cell? ⟨w.heap.size, 0, none⟩ = some (.bool true) := (hc1 _ _ (by first | omega | go_size)).trans (by first | (with_reducible assumption) | go_cell)
      have hz1_0_0 : W1.frozen? ⟨w.heap.size, 0, none⟩ = false := (hf1 _ _ (by first | omega | go_size)).trans (by first | (with_reducible assumption) | (go_simp; done) | (simp [*]; done))
      have hl1_0_1 : W1.cell? ⟨w.heap.size, 1, none⟩ = some (num n) := (hc1 _ _ (by first | omega | go_size)).trans (by first | (with_reducible assumption) | go_cell)
      have hz1_0_1 : W1.frozen? ⟨w.heap.size, 1, none⟩ = false := (hf1 _ _ (by first | omega | go_size)).trans (by first | (with_reducible assumption) | (go_simp; done) | (simp [*]; done))
      have hl1_0_2 : W1.cell? ⟨w.heap.size, 2, none⟩ = some (u64 d) := (hc1 _ _ (by first | omega | go_size)).trans (by first | (with_reducible assumption) | go_cell)
      have hz1_0_2 : W1.frozen? ⟨w.heap.size, 2, none⟩ = false := (hf1 _ _ (by first | omega | go_size)).trans (by first | (with_reducible assumption) | (go_simp; done) | (simp [*]; done))
      have hl1_0_3 : W1.cell? ⟨w.heap.size, 3, none⟩ = some (u64 v) := (hc1 _ _ (by first | omega | go_size)).trans (by first | (with_reducible assumption) | go_cell)
      have hz1_0_3 : W1.frozen? ⟨w.heap.size, 3, none⟩ = false := (hf1 _ _ (by first | omega | go_size)).trans (by first | (with_reducible assumption) | (go_simp; done) | (simp [*]; done))
      have hl1_0_4 : W1.cell? ⟨w.heap.size, 4, none⟩ = some (u64 e) := (hc1 _ _ (by first | omega | go_size)).trans (by first | (with_reducible assumption) | go_cell)
      have hz1_0_4 : W1.frozen? ⟨w.heap.size, 4, none⟩ = false := (hf1 _ _ (by first | omega | go_size)).trans (by first | (with_reducible assumption) | (go_simp; done) | (simp [*]; done))
      have hk1_0 : w.heap.size < W1.heap.size := by omega
      clear hg1 hc1 hf1
      go_wp2_with fail
      go_returns
      exact ⟨rfl, by go_grown⟩
    | false =>
      have c1 : d + 16 * n ≤ 18446744073709551616 ∧ v + (6 + 2 * n) ≤ 18446744073709551616 ∧ e + (6 + 8 * n) ≤ 18446744073709551616 := by obtain ⟨_, _, _, _, hx, hy, hz', dx, vy, ez, _, _, _⟩ := HV.out; simp only [Bool.false_eq_true, if_false] at hy hz'; omega
      obtain ⟨rfl, rfl, rfl⟩ : e + 4 + 8 * i = q1 ∧ 8 = q2 ∧ 0 = q3 := by
        have h := HH.out
        rw [where_yes HCK.out HV.out hk hi2 (fun _ => hz ‹_›) rfl] at h
        simp only [Prod.mk.injEq] at h
        exact h
      clear HH HV hk hz
      go_enter Try.func70, Try.ntmps70
      go_wp2_with fail
      refine (KEY.out 0 HC.out _).mono ?_
      rintro eE W1 ⟨rfl, hg1⟩
      have hb1 : Below w.heap.size w W1 := (show Below w.heap.size w _ by go_grown).trans (hg1.mono (by first | omega | go_size))
      obtain ⟨hc1, hf1⟩ := bcell hg1
      have hs1 := hg1.size
      try simp only [World.size_alloc, World.size_setCell, World.size_drew] at hs1
      have hl1_0_0 : W1.cell? ⟨w.heap.size, 0, none⟩ = some (.bool false) := (hc1 _ _ (by first | omega | go_size)).trans (by first | (with_reducible assumption) | go_cell)
      have hz1_0_0 : W1.frozen? ⟨w.heap.size, 0, none⟩ = false := (hf1 _ _ (by first | omega | go_size)).trans (by first | (with_reducible assumption) | (go_simp; done) | (simp [*]; done))
      have hl1_0_1 : W1.cell? ⟨w.heap.size, 1, none⟩ = some (num n) := (hc1 _ _ (by first | omega | go_size)).trans (by first | (with_reducible assumption) | go_cell)
      have hz1_0_1 : W1.frozen? ⟨w.heap.size, 1, none⟩ = false := (hf1 _ _ (by first | omega | go_size)).trans (by first | (with_reducible assumption) | (go_simp; done) | (simp [*]; done))
      have hl1_0_2 : W1.cell? ⟨w.heap.size, 2, none⟩ = some (u64 d) := (hc1 _ _ (by first | omega | go_size)).trans (by first | (with_reducible assumption) | go_cell)
      have hz1_0_2 : W1.frozen? ⟨w.heap.size, 2, none⟩ = false := (hf1 _ _ (by first | omega | go_size)).trans (by first | (with_reducible assumption) | (go_simp; done) | (simp [*]; done))
      have hl1_0_3 : W1.cell? ⟨w.heap.size, 3, none⟩ = some (u64 v) := (hc1 _ _ (by first | omega | go_size)).trans (by first | (with_reducible assumption) | go_cell)
      have hz1_0_3 : W1.frozen? ⟨w.heap.size, 3, none⟩ = false := (hf1 _ _ (by first | omega | go_size)).trans (by first | (with_reducible assumption) | (go_simp; done) | (simp [*]; done))
      have hl1_0_4 : W1.cell? ⟨w.heap.size, 4, none⟩ = some (u64 e) := (hc1 _ _ (by first | omega | go_size)).trans (by first | (with_reducible assumption) | go_cell)
      have hz1_0_4 : W1.frozen? ⟨w.heap.size, 4, none⟩ = false := (hf1 _ _ (by first | omega | go_size)).trans (by first | (with_reducible assumption) | (go_simp; done) | (simp [*]; done))
      have hk1_0 : w.heap.size < W1.heap.size := by omega
      clear hg1 hc1 hf1
      go_wp2_with fail
      go_returns
      exact ⟨rfl, by go_grown⟩
  · cases p with
    | true =>
      obtain rfl : i = 0 := hz rfl
      obtain ⟨rfl, rfl, rfl⟩ : q1 = 0 ∧ q2 = 0 ∧ q3 = 2 := by have h := HH.out; rw [where_no hk hi2.1 rfl] at h; cases h; exact ⟨rfl, rfl, rfl⟩
      clear HH HV hk hz
      go_enter Try.func70, Try.ntmps70
      go_wp2_with fail
      refine (KEY.out 0 HC.out _).mono ?_
      rintro eE W1 ⟨rfl, hg1⟩
      have hb1 : Below w.heap.size w W1 := (show Below w.heap.size w _ by go_grown).trans (hg1.mono (by first | omega | go_size))
      obtain ⟨hc1, hf1⟩ := bcell hg1
      have hs1 := hg1.size
      try simp only [World.size_alloc, World.size_setCell, World.size_drew] at hs1
      have hl1_0_0 : W1.cell? ⟨w.heap.size, 0, none⟩ = some (.bool true) := (hc1 _ _ (by first | omega | go_size)).trans (by first | (with_reducible assumption) | go_cell)
      have hz1_0_0 : W1.frozen? ⟨w.heap.size, 0, none⟩ = false := (hf1 _ _ (by first | omega | go_size)).trans (by first | (with_reducible assumption) | (go_simp; done) | (simp [*]; done))
      have hl1_0_1 : W1.cell? ⟨w.heap.size, 1, none⟩ = some (num n) := (hc1 _ _ (by first | omega | go_size)).trans (by first | (with_reducible assumption) | go_cell)
      have hz1_0_1 : W1.frozen? ⟨w.heap.size, 1, none⟩ = false := (hf1 _ _ (by first | omega | go_size)).trans (by first | (with_reducible assumption) | (go_simp; done) | (simp [*]; done))
      have hl1_0_2 : W1.cell? ⟨w.heap.size, 2, none⟩ = some (u64 d) := (hc1 _ _ (by first | omega | go_size)).trans (by first | (with_reducible assumption) | go_cell)
      have hz1_0_2 : W1.frozen? ⟨w.heap.size, 2, none⟩ = false := (hf1 _ _ (by first | omega | go_size)).trans (by first | (with_reducible assumption) | (go_simp; done) | (simp [*]; done))
      have hl1_0_3 : W1.cell? ⟨w.heap.size, 3, none⟩ = some (u64 v) := (hc1 _ _ (by first | omega | go_size)).trans (by first | (with_reducible assumption) | go_cell)
      have hz1_0_3 : W1.frozen? ⟨w.heap.size, 3, none⟩ = false := (hf1 _ _ (by first | omega | go_size)).trans (by first | (with_reducible assumption) | (go_simp; done) | (simp [*]; done))
      have hl1_0_4 : W1.cell? ⟨w.heap.size, 4, none⟩ = some (u64 e) := (hc1 _ _ (by first | omega | go_size)).trans (by first | (with_reducible assumption) | go_cell)
      have hz1_0_4 : W1.frozen? ⟨w.heap.size, 4, none⟩ = false := (hf1 _ _ (by first | omega | go_size)).trans (by first | (with_reducible assumption) | (go_simp; done) | (simp [*]; done))
      have hk1_0 : w.heap.size < W1.heap.size := by omega
      clear hg1 hc1 hf1
      go_wp2_with fail
      go_returns
      exact ⟨rfl, by go_grown⟩
    | false =>
      obtain rfl : i = 0 := hz rfl
      have c1 : d + 16 * n ≤ 18446744073709551616 ∧ v + (6 + 2 * n) ≤ 18446744073709551616 ∧ e + (6 + 8 * n) ≤ 18446744073709551616 := by obtain ⟨_, _, _, _, hx, hy, hz', dx, vy, ez, _, _, _⟩ := HV.out; simp only [Bool.false_eq_true, if_false] at hy hz'; omega
      obtain ⟨rfl, rfl, rfl⟩ : e + 4 + 8 * n = q1 ∧ 2 = q2 ∧ 0 = q3 := by
        have h := HH.out
        rw [where_yes HCK.out HV.out hk hi2 (fun _ => rfl) rfl] at h
        simp only [Prod.mk.injEq] at h
        exact h
      clear HH HV hk hz
      go_enter Try.func70, Try.ntmps70
      go_wp2_with fail
      refine (KEY.out 0 HC.out _).mono ?_
      rintro eE W1 ⟨rfl, hg1⟩
      have hb1 : Below w.heap.size w W1 := (show Below w.heap.size w _ by go_grown).trans (hg1.mono (by first | omega | go_size))
      obtain ⟨hc1, hf1⟩ := bcell hg1
      have hs1 := hg1.size
      try simp only [World.size_alloc, World.size_setCell, World.size_drew] at hs1
      have hl1_0_0 : W1.cell? ⟨w.heap.size, 0, none⟩ = some (.bool false) := (hc1 _ _ (by first | omega | go_size)).trans (by first | (with_reducible assumption) | go_cell)
      have hz1_0_0 : W1.frozen? ⟨w.heap.size, 0, none⟩ = false := (hf1 _ _ (by first | omega | go_size)).trans (by first | (with_reducible assumption) | (go_simp; done) | (simp [*]; done))
      have hl1_0_1 : W1.cell? ⟨w.heap.size, 1, none⟩ = some (num n) := (hc1 _ _ (by first | omega | go_size)).trans (by first | (with_reducible assumption) | go_cell)
      have hz1_0_1 : W1.frozen? ⟨w.heap.size, 1, none⟩ = false := (hf1 _ _ (by first | omega | go_size)).trans (by first | (with_reducible assumption) | (go_simp; done) | (simp [*]; done))
      have hl1_0_2 : W1.cell? ⟨w.heap.size, 2, none⟩ = some (u64 d) := (hc1 _ _ (by first | omega | go_size)).trans (by first | (with_reducible assumption) | go_cell)
      have hz1_0_2 : W1.frozen? ⟨w.heap.size, 2, none⟩ = false := (hf1 _ _ (by first | omega | go_size)).trans (by first | (with_reducible assumption) | (go_simp; done) | (simp [*]; done))
      have hl1_0_3 : W1.cell? ⟨w.heap.size, 3, none⟩ = some (u64 v) := (hc1 _ _ (by first | omega | go_size)).trans (by first | (with_reducible assumption) | go_cell)
      have hz1_0_3 : W1.frozen? ⟨w.heap.size, 3, none⟩ = false := (hf1 _ _ (by first | omega | go_size)).trans (by first | (with_reducible assumption) | (go_simp; done) | (simp [*]; done))
      have hl1_0_4 : W1.cell? ⟨w.heap.size, 4, none⟩ = some (u64 e) := (hc1 _ _ (by first | omega | go_size)).trans (by first | (with_reducible assumption) | go_cell)
      have hz1_0_4 : W1.frozen? ⟨w.heap.size, 4, none⟩ = false := (hf1 _ _ (by first | omega | go_size)).trans (by first | (with_reducible assumption) | (go_simp; done) | (simp [*]; done))
      have hk1_0 : w.heap.size < W1.heap.size := by omega
      clear hg1 hc1 hf1
      go_wp2_with fail
      go_returns
      exact ⟨rfl, by go_grown⟩
  · cases p with
    | true =>
      obtain rfl : i = 0 := hz rfl
      have c1 : d + 16 * n ≤ 18446744073709551616 ∧ v + 4 ≤ 18446744073709551616 ∧ e + 4 ≤ 18446744073709551616 := by obtain ⟨_, _, _, _, hx, hy, hz', dx, vy, ez, _, _, _⟩ := HV.out; simp only [if_true] at hy hz'; omega
      obtain ⟨rfl, rfl, rfl⟩ : v = q1 ∧ 4 = q2 ∧ 0 = q3 := by
        have h := HH.out
        rw [where_yes HCK.out HV.out hk hi2 (fun _ => rfl) rfl] at h
        simp only [Prod.mk.injEq] at h
        exact h
      clear HH HV hk hz
      go_enter Try.func70, Try.ntmps70
      go_wp2_with fail
      refine (KEY.out 0 HC.out _).mono ?_
      rintro eE W1 ⟨rfl, hg1⟩
      have hb1 : Below w.heap.size w W1 := (show Below w.heap.size w _ by go_grown).trans (hg1.mono (by first | omega | go_size))
      obtain ⟨hc1, hf1⟩ := bcell hg1
      have hs1 := hg1.size
      try simp only [World.size_alloc, World.size_setCell, World.size_drew] at hs1
      have hl1_0_0 : W1.cell? ⟨w.heap.size, 0, none⟩ = some (.bool true) := (hc1 _ _ (by first | omega | go_size)).trans (by first | (with_reducible assumption) | go_cell)
      have hz1_0_0 : W1.frozen? ⟨w.heap.size, 0, none⟩ = false := (hf1 _ _ (by first | omega | go_size)).trans (by first | (with_reducible assumption) | (go_simp; done) | (simp [*]; done))
      have hl1_0_1 : W1.cell? ⟨w.heap.size, 1, none⟩ = some (num n) := (hc1 _ _ (by first | omega | go_size)).trans (by first | (with_reducible assumption) | go_cell)
      have hz1_0_1 : W1.frozen? ⟨w.heap.size, 1, none⟩ = false := (hf1 _ _ (by first | omega | go_size)).trans (by first | (with_reducible assumption) | (go_simp; done) | (simp [*]; done))
      have hl1_0_2 : W1.cell? ⟨w.heap.size, 2, none⟩ = some (u64 d) := (hc1 _ _ (by first | omega | go_size)).trans (by first | (with_reducible assumption) | go_cell)
      have hz1_0_2 : W1.frozen? ⟨w.heap.size, 2, none⟩ = false := (hf1 _ _ (by first | omega | go_size)).trans (by first | (with_reducible assumption) | (go_simp; done) | (simp [*]; done))
      have hl1_0_3 : W1.cell? ⟨w.heap.size, 3, none⟩ = some (u64 v) := (hc1 _ _ (by first | omega | go_size)).trans (by first | (with_reducible assumption) | go_cell)
      have hz1_0_3 : W1.frozen? ⟨w.heap.size, 3, none⟩ = false := (hf1 _ _ (by first | omega | go_size)).trans (by first | (with_reducible assumption) | (go_simp; done) | (simp [*]; done))
      have hl1_0_4 : W1.cell? ⟨w.heap.size, 4, none⟩ = some (u64 e) := (hc1 _ _ (by first | omega | go_size)).trans (by first | (with_reducible assumption) | go_cell)
      have hz1_0_4 : W1.frozen? ⟨w.heap.size, 4, none⟩ = false := (hf1 _ _ (by first | omega | go_size)).trans (by first | (with_reducible assumption) | (go_simp; done) | (simp [*]; done))
      have hk1_0 : w.heap.size < W1.heap.size := by omega
      clear hg1 hc1 hf1
      go_wp2_with fail
      go_returns
      exact ⟨rfl, by go_grown⟩
    | false =>
      obtain rfl : i = 0 := hz rfl
      obtain ⟨rfl, rfl, rfl⟩ : q1 = 0 ∧ q2 = 0 ∧ q3 = 2 := by have h := HH.out; rw [where_no hk hi2.1 rfl] at h; cases h; exact ⟨rfl, rfl, rfl⟩
      clear HH HV hk hz
      go_enter Try.func70, Try.ntmps70
      go_wp2_with fail
      refine (KEY.out 0 HC.out _).mono ?_
      rintro eE W1 ⟨rfl, hg1⟩
      have hb1 : Below w.heap.size w W1 := (show Below w.heap.size w _ by go_grown).trans (hg1.mono (by first | omega | go_size))
      obtain ⟨hc1, hf1⟩ := bcell hg1
      have hs1 := hg1.size
      try simp only [World.size_alloc, World.size_setCell, World.size_drew] at hs1
      have hl1_0_0 : W1.cell? ⟨w.heap.size, 0, none⟩ = some (.bool false) := (hc1 _ _ (by first | omega | go_size)).trans (by first | (with_reducible assumption) | go_cell)
      have hz1_0_0 : W1.frozen? ⟨w.heap.size, 0, none⟩ = false := (hf1 _ _ (by first | omega | go_size)).trans (by first | (with_reducible assumption) | (go_simp; done) | (simp [*]; done))
      have hl1_0_1 : W1.cell? ⟨w.heap.size, 1, none⟩ = some (num n) := (hc1 _ _ (by first | omega | go_size)).trans (by first | (with_reducible assumption) | go_cell)
      have hz1_0_1 : W1.frozen? ⟨w.heap.size, 1, none⟩ = false := (hf1 _ _ (by first | omega | go_size)).trans (by first | (with_reducible assumption) | (go_simp; done) | (simp [*]; done))
      have hl1_0_2 : W1.cell? ⟨w.heap.size, 2, none⟩ = some (u64 d) := (hc1 _ _ (by first | omega | go_size)).trans (by first | (with_reducible assumption) | go_cell)
      have hz1_0_2 : W1.frozen? ⟨w.heap.size, 2, none⟩ = false := (hf1 _ _ (by first | omega | go_size)).trans (by first | (with_reducible assumption) | (go_simp; done) | (simp [*]; done))
      have hl1_0_3 : W1.cell? ⟨w.heap.size, 3, none⟩ = some (u64 v) := (hc1 _ _ (by first | omega | go_size)).trans (by first | (with_reducible assumption) | go_cell)
      have hz1_0_3 : W1.frozen? ⟨w.heap.size, 3, none⟩ = false := (hf1 _ _ (by first | omega | go_size)).trans (by first | (with_reducible assumption) | (go_simp; done) | (simp [*]; done))
      have hl1_0_4 : W1.cell? ⟨w.heap.size, 4, none⟩ = some (u64 e) := (hc1 _ _ (by first | omega | go_size)).trans (by first | (with_reducible assumption) | go_cell)
      have hz1_0_4 : W1.frozen? ⟨w.heap.size, 4, none⟩ = false := (hf1 _ _ (by first | omega | go_size)).trans (by first | (with_reducible assumption) | (go_simp; done) | (simp [*]; done))
      have hk1_0 : w.heap.size < W1.heap.size := by omega
      clear hg1 hc1 hf1
      go_wp2_with fail
      go_returns
      exact ⟨rfl, by go_grown⟩
  · cases p with
    | true =>
      obtain rfl : i = 0 := hz rfl
      have c1 : d + 16 * n ≤ 18446744073709551616 ∧ v + 4 ≤ 18446744073709551616 ∧ e + 4 ≤ 18446744073709551616 := by obtain ⟨_, _, _, _, hx, hy, hz', dx, vy, ez, _, _, _⟩ := HV.out; simp only [if_true] at hy hz'; omega
      obtain ⟨rfl, rfl, rfl⟩ : e = q1 ∧ 4 = q2 ∧ 0 = q3 := by
        have h := HH.out
        rw [where_yes HCK.out HV.out hk hi2 (fun _ => rfl) rfl] at h
        simp only [Prod.mk.injEq] at h
        exact h
      clear HH HV hk hz
      go_enter Try.func70, Try.ntmps70
      go_wp2_with fail
      refine (KEY.out 0 HC.out _).mono ?_
      rintro eE W1 ⟨rfl, hg1⟩
      have hb1 : Below w.heap.size w W1 := (show Below w.heap.size w _ by go_grown).trans (hg1.mono (by first | omega | go_size))
      obtain ⟨hc1, hf1⟩ := bcell hg1
      have hs1 := hg1.size
      try simp only [World.size_alloc, World.size_setCell, World.size_drew] at hs1
      have hl1_0_0 : W1.cell? ⟨w.heap.size, 0, none⟩ = some (.bool true) := (hc1 _ _ (by first | omega | go_size)).trans (by first | (with_reducible assumption) | go_cell)
      have hz1_0_0 : W1.frozen? ⟨w.heap.size, 0, none⟩ = false := (hf1 _ _ (by first | omega | go_size)).trans (by first | (with_reducible assumption) | (go_simp; done) | (simp [*]; done))
      have hl1_0_1 : W1.cell? ⟨w.heap.size, 1, none⟩ = some (num n) := (hc1 _ _ (by first | omega | go_size)).trans (by first | (with_reducible assumption) | go_cell)
      have hz1_0_1 : W1.frozen? ⟨w.heap.size, 1, none⟩ = false := (hf1 _ _ (by first | omega | go_size)).trans (by first | (with_reducible assumption) | (go_simp; done) | (simp [*]; done))
      have hl1_0_2 : W1.cell? ⟨w.heap.size, 2, none⟩ = some (u64 d) := (hc1 _ _ (by first | omega | go_size)).trans (by first | (with_reducible assumption) | go_cell)
      have hz1_0_2 : W1.frozen? ⟨w.heap.size, 2, none⟩ = false := (hf1 _ _ (by first | omega | go_size)).trans (by first | (with_reducible assumption) | (go_simp; done) | (simp [*]; done))
      have hl1_0_3 : W1.cell? ⟨w.heap.size, 3, none⟩ = some (u64 v) := (hc1 _ _ (by first | omega | go_size)).trans (by first | (with_reducible assumption) | go_cell)
      have hz1_0_3 : W1.frozen? ⟨w.heap.size, 3, none⟩ = false := (hf1 _ _ (by first | omega | go_size)).trans (by first | (with_reducible assumption) | (go_simp; done) | (simp [*]; done))
      have hl1_0_4 : W1.cell? ⟨w.heap.size, 4, none⟩ = some (u64 e) := (hc1 _ _ (by first | omega | go_size)).trans (by first | (with_reducible assumption) | go_cell)
      have hz1_0_4 : W1.frozen? ⟨w.heap.size, 4, none⟩ = false := (hf1 _ _ (by first | omega | go_size)).trans (by first | (with_reducible assumption) | (go_simp; done) | (simp [*]; done))
      have hk1_0 : w.heap.size < W1.heap.size := by omega
      clear hg1 hc1 hf1
      go_wp2_with fail
      go_returns
      exact ⟨rfl, by go_grown⟩
    | false =>
      obtain rfl : i = 0 := hz rfl
      obtain ⟨rfl, rfl, rfl⟩ : q1 = 0 ∧ q2 = 0 ∧ q3 = 2 := by have h := HH.out; rw [where_no hk hi2.1 rfl] at h; cases h; exact ⟨rfl, rfl, rfl⟩
      clear HH HV hk hz
      go_enter Try.func70, Try.ntmps70
      go_wp2_with fail
      refine (KEY.out 0 HC.out _).mono ?_
      rintro eE W1 ⟨rfl, hg1⟩
      have hb1 : Below w.heap.size w W1 := (show Below w.heap.size w _ by go_grown).trans (hg1.mono (by first | omega | go_size))
      obtain ⟨hc1, hf1⟩ := bcell hg1
      have hs1 := hg1.size
      try simp only [World.size_alloc, World.size_setCell, World.size_drew] at hs1
      have hl1_0_0 : W1.cell? ⟨w.heap.size, 0, none⟩ = some (.bool false) := (hc1 _ _ (by first | omega | go_size)).trans (by first | (with_reducible assumption) | go_cell)
      have hz1_0_0 : W1.frozen? ⟨w.heap.size, 0, none⟩ = false := (hf1 _ _ (by first | omega | go_size)).trans (by first | (with_reducible assumption) | (go_simp; done) | (simp [*]; done))
      have hl1_0_1 : W1.cell? ⟨w.heap.size, 1, none⟩ = some (num n) := (hc1 _ _ (by first | omega | go_size)).trans (by first | (with_reducible assumption) | go_cell)
      have hz1_0_1 : W1.frozen? ⟨w.heap.size, 1, none⟩ = false := (hf1 _ _ (by first | omega | go_size)).trans (by first | (with_reducible assumption) | (go_simp; done) | (simp [*]; done))
      have hl1_0_2 : W1.cell? ⟨w.heap.size, 2, none⟩ = some (u64 d) := (hc1 _ _ (by first | omega | go_size)).trans (by first | (with_reducible assumption) | go_cell)
      have hz1_0_2 : W1.frozen? ⟨w.heap.size, 2, none⟩ = false := (hf1 _ _ (by first | omega | go_size)).trans (by first | (with_reducible assumption) | (go_simp; done) | (simp [*]; done))
      have hl1_0_3 : W1.cell? ⟨w.heap.size, 3, none⟩ = some (u64 v) := (hc1 _ _ (by first | omega | go_size)).trans (by first | (with_reducible assumption) | go_cell)
      have hz1_0_3 : W1.frozen? ⟨w.heap.size, 3, none⟩ = false := (hf1 _ _ (by first | omega | go_size)).trans (by first | (with_reducible assumption) | (go_simp; done) | (simp [*]; done))
      have hl1_0_4 : W1.cell? ⟨w.heap.size, 4, none⟩ = some (u64 e) := (hc1 _ _ (by first | omega | go_size)).trans (by first | (with_reducible assumption) | go_cell)
      have hz1_0_4 : W1.frozen? ⟨w.heap.size, 4, none⟩ = false := (hf1 _ _ (by first | omega | go_size)).trans (by first | (with_reducible assumption) | (go_simp; done) | (simp [*]; done))
      have hk1_0 : w.heap.size < W1.heap.size := by omega
      clear hg1 hc1 hf1
      go_wp2_with fail
      go_returns
      exact ⟨rfl, by go_grown⟩

end Go.Proofs.Ytkncaafjkoeijaa.Lay
