
/- Over, rowOf, Where of rings. -/
import Derived.Test.YtkncaafjkoeijaaLay2
namespace Go.Proofs.Ytkncaafjkoeijaa.Lay
open Go.RowKit Ser
set_option linter.unusedVariables false
set_option linter.unusedSimpArgs false

def overP (d x v y e z a n : Int) : Bool := shareB d x a n || (shareB v y a n || shareB e z a n)
def overB (p : Bool) (n d v e a m : Int) : Bool := !decide (m = 0) && (checkB p n d v e && overP d (partsI p n).1 v (partsI p n).2.1 e (partsI p n).2.2 a m)

theorem check_size {p : Bool} {n d v e : Int} (h : checkB p n d v e = true) : sizeB p n = true := by
  unfold checkB at h; simp only [Bool.and_eq_true] at h; exact h.1

set_option maxRecDepth 100000 in
set_option maxHeartbeats 4000000 in
theorem over_is (p : Bool) (n d v e a m : Int) (b : Bool) (hd : u64in d) (hv : u64in v) (he : u64in e) (ha : u64in a) (hm : u64in m) (h : overB p n d v e a m = b) (w : World) :
    Calls Try.prog 67 #[ringV p n d v e, u64 a, u64 m] w (Gives w.heap.size w (.bool b)) := by
  unfold Gives
  have hb0 : Below w.heap.size w w := Below.refl _ _
  by_cases h0 : m = 0
  · subst h0
    obtain rfl : b = false := by rw [← h]; rfl
    clear h
    go_enter Try.func67, Try.ntmps67
    go_wp2_with fail
    go_ret
    exact ⟨rfl, by go_grown⟩
  have hm0 : (m == 0) = false := by simpa using h0
  cases hc : checkB p n d v e with
  | false =>
    obtain rfl : b = false := by rw [← h]; unfold overB; rw [hc]; simp
    have HC := Lib.hid (show (if checkB p n d v e = true then (0 : Int) else 2) = 2 from by rw [hc]; rfl)
    have hD := Lib.hid hd
    have hV := Lib.hid hv
    have hE := Lib.hid he
    clear h h0 hc hd hv he ha hm
    go_enter Try.func67, Try.ntmps67
    go_wp2_with fail
    refine (check_is p n d v e 2 hD.out hV.out hE.out HC.out _).mono ?_
    rintro eE W1 ⟨rfl, hg1⟩
    have hb1 : Below w.heap.size w W1 := (show Below w.heap.size w _ by go_grown).trans (hg1.mono (by first | omega | go_size))
    obtain ⟨hc1, hf1⟩ := bcell hg1
    have hs1 := hg1.size
    try simp only [World.size_alloc, World.size_setCell, World.size_drew] at hs1
    have hl1_0_0 : W1.cell? ⟨w.heap.size, 0, none⟩ = some (.bool p) := (hc1 _ _ (by first | omega | go_size)).trans (by first | (with_reducible assumption) | go_cell)
    have hz1_0_0 : W1.frozen? ⟨w.heap.size, 0, none⟩ = false := (hf1 _ _ (by first | omega | go_size)).trans (by first | (with_reducible assumption) | (go_simp; done) | (simp [*]; done))
    have hl1_0_1 : W1.cell? ⟨w.heap.size, 1, none⟩ = some (num n) := (hc1 _ _ (by first | omega | go_size)).trans (by first | (with_reducible assumption) | go_cell)
    have hz1_0_1 : W1.frozen? ⟨w.heap.size, 1, none⟩ = false := (hf1 _ _ (by first | omega | go_size)).trans (by first | (with_reducible assumption) | (go_simp; done) | (simp [*]; done))
    have hl1_0_2 : W1.cell? ⟨w.heap.size, 2, none⟩ = some (u64 d) := (hc1 _ _ (by first | omega | go_size)).trans (by first | (with_reducible assumption) | go_cell)
    have hz1_0_2 : W1.frozen? ⟨w.heap.size, 2, none⟩ = false := (hf1 _ _ (by first | omega | go_size)).trans (by first | (with_reducible assumption) | (go_simp; done) | (simp [*]; done))
    have hl1_0_3 : W1.cell? ⟨w.heap.size, 3, none⟩ = some (u64 v) := (hc1 _ _ (by first | omega | go_size)).trans (by first | (with_reducible assumption) | go_cell)
    have hz1_0_3 : W1.frozen? ⟨w.heap.size, 3, none⟩ = false := (hf1 _ _ (by first | omega | go_size)).trans (by first | (with_reducible assumption) | (go_simp; done) | (simp [*]; done))
    have hl1_0_4 : W1.cell? ⟨w.heap.size, 4, none⟩ = some (u64 e) := (hc1 _ _ (by first | omega | go_size)).trans (by first | (with_reducible assumption) | go_cell)
    have hz1_0_4 : W1.frozen? ⟨w.heap.size, 4, none⟩ = false := (hf1 _ _ (by first | omega | go_size)).trans (by first | (with_reducible assumption) | (go_simp; done) | (simp [*]; done))
    have hk1_0 : w.heap.size < W1.heap.size := by omega
    clear hg1 hc1 hf1
    go_wp2_with fail
    go_ret
    exact ⟨rfl, by go_grown⟩
  | true =>
  obtain ⟨x, y, z, hp⟩ : ∃ x y z, partsI p n = (x, y, z) := ⟨_, _, _, rfl⟩
  have hin := parts_in (check_size hc) hp
  have hq : overP d x v y e z a m = b := by rw [← h]; unfold overB; rw [hc, hp]; simp [h0]
  have HQ := Lib.hid hq
  have HC := Lib.hid (show (if checkB p n d v e = true then (0 : Int) else 2) = 0 from by rw [hc]; rfl)
  have HP := Lib.hid hp
  have hD := Lib.hid hd
  have hV := Lib.hid hv
  have hE := Lib.hid he
  have hA := Lib.hid ha
  obtain ⟨t, ht⟩ : ∃ t, toI p = t := ⟨_, rfl⟩
  have hpo := fun W => partsOf_is p n d v e x y z HP.out W
  rw [ht] at hpo
  have HO := Lib.hid hpo
  have i0 := fun W => (index3 W d x v y t e z).1
  have i1 := fun W => (index3 W d x v y t e z).2.1
  have i2 := fun W => (index3 W d x v y t e z).2.2
  clear h h0 hc hd hv he ha hm hp hq ht hpo
  go_enter Try.func67, Try.ntmps67
  go_wp2_with fail
  refine (check_is p n d v e 0 hD.out hV.out hE.out HC.out _).mono ?_
  rintro eE W1 ⟨rfl, hg1⟩
  have hb1 : Below w.heap.size w W1 := (show Below w.heap.size w _ by go_grown).trans (hg1.mono (by first | omega | go_size))
  obtain ⟨hc1, hf1⟩ := bcell hg1
  have hs1 := hg1.size
  try simp only [World.size_alloc, World.size_setCell, World.size_drew] at hs1
  have hl1_0_0 : W1.cell? ⟨w.heap.size, 0, none⟩ = some (.bool p) := (hc1 _ _ (by first | omega | go_size)).trans (by first | (with_reducible assumption) | go_cell)
  have hz1_0_0 : W1.frozen? ⟨w.heap.size, 0, none⟩ = false := (hf1 _ _ (by first | omega | go_size)).trans (by first | (with_reducible assumption) | (go_simp; done) | (simp [*]; done))
  have hl1_0_1 : W1.cell? ⟨w.heap.size, 1, none⟩ = some (num n) := (hc1 _ _ (by first | omega | go_size)).trans (by first | (with_reducible assumption) | go_cell)
  have hz1_0_1 : W1.frozen? ⟨w.heap.size, 1, none⟩ = false := (hf1 _ _ (by first | omega | go_size)).trans (by first | (with_reducible assumption) | (go_simp; done) | (simp [*]; done))
  have hl1_0_2 : W1.cell? ⟨w.heap.size, 2, none⟩ = some (u64 d) := (hc1 _ _ (by first | omega | go_size)).trans (by first | (with_reducible assumption) | go_cell)
  have hz1_0_2 : W1.frozen? ⟨w.heap.size, 2, none⟩ = false := (hf1 _ _ (by first | omega | go_size)).trans (by first | (with_reducible assumption) | (go_simp; done) | (simp [*]; done))
  have hl1_0_3 : W1.cell? ⟨w.heap.size, 3, none⟩ = some (u64 v) := (hc1 _ _ (by first | omega | go_size)).trans (by first | (with_reducible assumption) | go_cell)
  have hz1_0_3 : W1.frozen? ⟨w.heap.size, 3, none⟩ = false := (hf1 _ _ (by first | omega | go_size)).trans (by first | (with_reducible assumption) | (go_simp; done) | (simp [*]; done))
  have hl1_0_4 : W1.cell? ⟨w.heap.size, 4, none⟩ = some (u64 e) := (hc1 _ _ (by first | omega | go_size)).trans (by first | (with_reducible assumption) | go_cell)
  have hz1_0_4 : W1.frozen? ⟨w.heap.size, 4, none⟩ = false := (hf1 _ _ (by first | omega | go_size)).trans (by first | (with_reducible assumption) | (go_simp; done) | (simp [*]; done))
  have hk1_0 : w.heap.size < W1.heap.size := by omega
  clear hg1 hc1 hf1
  go_wp2_with fail
  refine (HO.out _).mono ?_
  rintro eE W2 ⟨rfl, hg2⟩
  have hb2 : Below w.heap.size w W2 := (show Below w.heap.size w _ by go_grown).trans (hg2.mono (by first | omega | go_size))
  obtain ⟨hc2, hf2⟩ := bcell hg2
  have hs2 := hg2.size
  try simp only [World.size_alloc, World.size_setCell, World.size_drew] at hs2
  have hl2_0_0 : W2.cell? ⟨w.heap.size, 0, none⟩ = some (.bool p) := (hc2 _ _ (by first | omega | go_size)).trans (by first | (with_reducible assumption) | go_cell)
  have hz2_0_0 : W2.frozen? ⟨w.heap.size, 0, none⟩ = false := (hf2 _ _ (by first | omega | go_size)).trans (by first | (with_reducible assumption) | (go_simp; done) | (simp [*]; done))
  have hl2_0_1 : W2.cell? ⟨w.heap.size, 1, none⟩ = some (num n) := (hc2 _ _ (by first | omega | go_size)).trans (by first | (with_reducible assumption) | go_cell)
  have hz2_0_1 : W2.frozen? ⟨w.heap.size, 1, none⟩ = false := (hf2 _ _ (by first | omega | go_size)).trans (by first | (with_reducible assumption) | (go_simp; done) | (simp [*]; done))
  have hl2_0_2 : W2.cell? ⟨w.heap.size, 2, none⟩ = some (u64 d) := (hc2 _ _ (by first | omega | go_size)).trans (by first | (with_reducible assumption) | go_cell)
  have hz2_0_2 : W2.frozen? ⟨w.heap.size, 2, none⟩ = false := (hf2 _ _ (by first | omega | go_size)).trans (by first | (with_reducible assumption) | (go_simp; done) | (simp [*]; done))
  have hl2_0_3 : W2.cell? ⟨w.heap.size, 3, none⟩ = some (u64 v) := (hc2 _ _ (by first | omega | go_size)).trans (by first | (with_reducible assumption) | go_cell)
  have hz2_0_3 : W2.frozen? ⟨w.heap.size, 3, none⟩ = false := (hf2 _ _ (by first | omega | go_size)).trans (by first | (with_reducible assumption) | (go_simp; done) | (simp [*]; done))
  have hl2_0_4 : W2.cell? ⟨w.heap.size, 4, none⟩ = some (u64 e) := (hc2 _ _ (by first | omega | go_size)).trans (by first | (with_reducible assumption) | go_cell)
  have hz2_0_4 : W2.frozen? ⟨w.heap.size, 4, none⟩ = false := (hf2 _ _ (by first | omega | go_size)).trans (by first | (with_reducible assumption) | (go_simp; done) | (simp [*]; done))
  have hk2_0 : w.heap.size < W2.heap.size := by omega
  clear hg2 hc2 hf2
  go_wp2_with fail
  clear HO
  refine wp_loop_rounds 4 ?_
  rw [rounds_succ]
  go_wp2_with fail
  cases hs1 : shareB d x a m with
  | true =>
    obtain rfl : b = true := by rw [← HQ.out]; unfold overP; rw [hs1]; rfl
    have HS := Lib.hid hs1
    clear hs1
    refine (share_is d x 16 a m 0 true hD.out hA.out HS.out _).mono ?_
    rintro eE W3 ⟨rfl, hg3⟩
    have hb3 : Below w.heap.size w W3 := (show Below w.heap.size w _ by go_grown).trans (hg3.mono (by first | omega | go_size))
    obtain ⟨hc3, hf3⟩ := bcell hg3
    have hs3 := hg3.size
    try simp only [World.size_alloc, World.size_setCell, World.size_drew] at hs3
    clear hg3 hc3 hf3
    go_wp2_with fail
    go_ret
    exact ⟨rfl, by go_grown⟩
  | false =>
  have HS1 := Lib.hid hs1
  clear hs1
  refine (share_is d x 16 a m 0 false hD.out hA.out HS1.out _).mono ?_
  rintro eE W3 ⟨rfl, hg3⟩
  have hb3 : Below w.heap.size w W3 := (show Below w.heap.size w _ by go_grown).trans (hg3.mono (by first | omega | go_size))
  obtain ⟨hc3, hf3⟩ := bcell hg3
  have hs3 := hg3.size
  try simp only [World.size_alloc, World.size_setCell, World.size_drew] at hs3
  clear hg3 hc3 hf3
  go_wp2_with fail
  rw [rounds_succ]
  go_wp2_with fail
  cases hs2 : shareB v y a m with
  | true =>
    obtain rfl : b = true := by rw [← HQ.out]; unfold overP; rw [HS1.out, hs2]; rfl
    have HS := Lib.hid hs2
    clear hs2
    refine (share_is v y t a m 0 true hV.out hA.out HS.out _).mono ?_
    rintro eE W4 ⟨rfl, hg4⟩
    have hb4 : Below w.heap.size w W4 := (show Below w.heap.size w _ by go_grown).trans (hg4.mono (by first | omega | go_size))
    obtain ⟨hc4, hf4⟩ := bcell hg4
    have hs4 := hg4.size
    try simp only [World.size_alloc, World.size_setCell, World.size_drew] at hs4
    clear hg4 hc4 hf4
    go_wp2_with fail
    go_ret
    exact ⟨rfl, by go_grown⟩
  | false =>
  have HS2 := Lib.hid hs2
  clear hs2
  refine (share_is v y t a m 0 false hV.out hA.out HS2.out _).mono ?_
  rintro eE W4 ⟨rfl, hg4⟩
  have hb4 : Below w.heap.size w W4 := (show Below w.heap.size w _ by go_grown).trans (hg4.mono (by first | omega | go_size))
  obtain ⟨hc4, hf4⟩ := bcell hg4
  have hs4 := hg4.size
  try simp only [World.size_alloc, World.size_setCell, World.size_drew] at hs4
  clear hg4 hc4 hf4
  go_wp2_with fail
  rw [rounds_succ]
  go_wp2_with fail
  cases hs3 : shareB e z a m with
  | true =>
    obtain rfl : b = true := by rw [← HQ.out]; unfold overP; rw [HS1.out, HS2.out, hs3]; rfl
    have HS := Lib.hid hs3
    clear hs3
    refine (share_is e z 4 a m 0 true hE.out hA.out HS.out _).mono ?_
    rintro eE W5 ⟨rfl, hg5⟩
    have hb5 : Below w.heap.size w W5 := (show Below w.heap.size w _ by go_grown).trans (hg5.mono (by first | omega | go_size))
    obtain ⟨hc5, hf5⟩ := bcell hg5
    have hs5 := hg5.size
    try simp only [World.size_alloc, World.size_setCell, World.size_drew] at hs5
    clear hg5 hc5 hf5
    go_wp2_with fail
    go_ret
    exact ⟨rfl, by go_grown⟩
  | false =>
  have HS3 := Lib.hid hs3
  clear hs3
  refine (share_is e z 4 a m 0 false hE.out hA.out HS3.out _).mono ?_
  rintro eE W5 ⟨rfl, hg5⟩
  have hb5 : Below w.heap.size w W5 := (show Below w.heap.size w _ by go_grown).trans (hg5.mono (by first | omega | go_size))
  obtain ⟨hc5, hf5⟩ := bcell hg5
  have hs5 := hg5.size
  try simp only [World.size_alloc, World.size_setCell, World.size_drew] at hs5
  clear hg5 hc5 hf5
  go_wp2_with fail
  rw [rounds_succ]
  go_wp2_with fail
  obtain rfl : b = false := by rw [← HQ.out]; unfold overP; rw [HS1.out, HS2.out, HS3.out]; rfl
  go_ret
  exact ⟨rfl, by go_grown⟩

/-! Elements: of each kind where they begin, how many bytes they have, how many there are. -/
abbrev rowV (a b c : Int) : Value := .agg #[u64 a, num b, num c]
def w64 (x : Int) : Int := IntKind.u64.wrap x
def rowI (p : Bool) (n d v e k : Int) : Int × Int × Int :=
  if k = 1 then (d, 16, n) else
  if p = true then (if k = 10 then (v, 4, 1) else if k = 11 then (e, 4, 1) else (0, 0, 0)) else
  if k = 2 then (v, 2, 1) else if k = 3 then (w64 (v + 2), 2, 1) else if k = 4 then (w64 (v + 4), 2, n) else if k = 5 then (w64 (w64 (v + 4) + n * 2), 2, 1) else
  if k = 6 then (e, 2, 1) else if k = 7 then (w64 (e + 2), 2, 1) else if k = 8 then (w64 (e + 4), 8, n) else if k = 9 then (w64 (w64 (e + 4) + n * 8), 2, 1) else (0, 0, 0)

set_option maxRecDepth 100000 in
set_option maxHeartbeats 8000000 in
theorem rowOf_is (p : Bool) (n d v e k a b c : Int) (hn : 1 ≤ n ∧ n ≤ 32768) (h : rowI p n d v e k = (a, b, c)) (w : World) : Calls Try.prog 116 #[ringV p n d v e, num k] w (Gives w.heap.size w (rowV a b c)) := by
  unfold Gives
  have HN : Hid (∀ j : Int, ¬ k = j → (k == j) = false) := Lib.hid (fun j h => by simpa using h)
  have hq := fun W a b c d => Lib.run_equalIn_pair (P := Try.prog) (k := .i64) W Try.underlying170 Try.underlying3 (by kernel_rfl) a b c d
  unfold rowI w64 at h
  cases p with
  | true =>
    by_cases e1 : k = 1
    · subst e1; simp only [if_true] at h; cases h
      clear HN
      go_enter Try.func116, Try.ntmps116
      go_wp2
      go_returns
      exact ⟨rfl, by go_grown⟩
    rw [if_neg e1] at h
    have g1 := HN.out 1 e1
    rw [if_pos rfl] at h
    by_cases e10 : k = 10
    · subst e10; simp only [if_true] at h; cases h
      clear HN
      go_enter Try.func116, Try.ntmps116
      go_wp2
      go_returns
      exact ⟨rfl, by go_grown⟩
    rw [if_neg e10] at h
    have g10 := HN.out 10 e10
    by_cases e11 : k = 11
    · subst e11; simp only [if_true] at h; cases h
      clear HN
      go_enter Try.func116, Try.ntmps116
      go_wp2
      go_returns
      exact ⟨rfl, by go_grown⟩
    rw [if_neg e11] at h
    have g11 := HN.out 11 e11
    cases h
    clear HN
    go_enter Try.func116, Try.ntmps116
    go_wp2
    go_returns
    exact ⟨rfl, by go_grown⟩
  | false =>
    by_cases e1 : k = 1
    · subst e1; simp only [if_true] at h; cases h
      clear HN
      go_enter Try.func116, Try.ntmps116
      go_wp2
      go_returns
      exact ⟨rfl, by go_grown⟩
    rw [if_neg e1] at h
    have g1 := HN.out 1 e1
    rw [if_neg (by decide)] at h
    by_cases e2 : k = 2
    · subst e2; simp only [if_true] at h; cases h
      clear HN
      go_enter Try.func116, Try.ntmps116
      go_wp2
      go_returns
      exact ⟨rfl, by go_grown⟩
    rw [if_neg e2] at h
    have g2 := HN.out 2 e2
    by_cases e3 : k = 3
    · subst e3; simp only [if_true] at h; cases h
      clear HN
      go_enter Try.func116, Try.ntmps116
      go_wp2
      go_returns
      exact ⟨rfl, by go_grown⟩
    rw [if_neg e3] at h
    have g3 := HN.out 3 e3
    by_cases e4 : k = 4
    · subst e4; simp only [if_true] at h; cases h
      clear HN
      go_enter Try.func116, Try.ntmps116
      go_wp2
      go_returns
      exact ⟨rfl, by go_grown⟩
    rw [if_neg e4] at h
    have g4 := HN.out 4 e4
    by_cases e5 : k = 5
    · subst e5; simp only [if_true] at h; cases h
      clear HN
      go_enter Try.func116, Try.ntmps116
      go_wp2
      go_returns
      exact ⟨rfl, by go_grown⟩
    rw [if_neg e5] at h
    have g5 := HN.out 5 e5
    by_cases e6 : k = 6
    · subst e6; simp only [if_true] at h; cases h
      clear HN
      go_enter Try.func116, Try.ntmps116
      go_wp2
      go_returns
      exact ⟨rfl, by go_grown⟩
    rw [if_neg e6] at h
    have g6 := HN.out 6 e6
    by_cases e7 : k = 7
    · subst e7; simp only [if_true] at h; cases h
      clear HN
      go_enter Try.func116, Try.ntmps116
      go_wp2
      go_returns
      exact ⟨rfl, by go_grown⟩
    rw [if_neg e7] at h
    have g7 := HN.out 7 e7
    by_cases e8 : k = 8
    · subst e8; simp only [if_true] at h; cases h
      clear HN
      go_enter Try.func116, Try.ntmps116
      go_wp2
      go_returns
      exact ⟨rfl, by go_grown⟩
    rw [if_neg e8] at h
    have g8 := HN.out 8 e8
    by_cases e9 : k = 9
    · subst e9; simp only [if_true] at h; cases h
      clear HN
      go_enter Try.func116, Try.ntmps116
      go_wp2
      go_returns
      exact ⟨rfl, by go_grown⟩
    rw [if_neg e9] at h
    have g9 := HN.out 9 e9
    cases h
    clear HN
    go_enter Try.func116, Try.ntmps116
    go_wp2
    go_returns
    exact ⟨rfl, by go_grown⟩

end Go.Proofs.Ytkncaafjkoeijaa.Lay
