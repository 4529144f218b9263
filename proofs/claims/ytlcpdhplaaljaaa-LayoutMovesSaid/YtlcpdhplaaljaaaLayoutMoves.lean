/- The law LayoutMoves: rings that are laid out elsewhere have the same shape; a greater ring takes more. For every input; no condition. -/
import Derived.Test.YtlcpdhplaaljaaaLayMove
import Derived.Test.YtlcpdhplaaljaaaLayLives
import Derived.Test.YtlcpdhplaaljaaaLayArgs
namespace Go.Proofs.Ytlcpdhplaaljaaa.LayoutMoves
open Go.ChangeShapes Go.WideShapes Go.ChangeAt Go.RowKit Ser Lay
set_option linter.unusedVariables false
set_option linter.unusedSimpArgs false

theorem sizes {k : Int} (h0 : 0 ≤ k) (h1 : k < 10) : ∃ n : Int, wrap64 (2 ^ k.toNat) = n ∧ 1 ≤ n ∧ n ≤ 512 ∧ (∀ p, sizeB p n = true) ∧ ∀ p, sizeB p (2 * n) = true := by
  obtain ⟨q, hq⟩ : ∃ q : Nat, 2 ^ k.toNat = q := ⟨_, rfl⟩
  have h2 : q ≤ 512 := by rw [← hq]; exact Nat.pow_le_pow_right (n := 2) (by decide) (show k.toNat ≤ 9 by omega)
  have h3 : 1 ≤ q := by rw [← hq]; exact Nat.two_pow_pos _
  refine ⟨q, ?_, by omega, by omega, fun p => ?_, fun p => ?_⟩
  · rw [show (2 : Int) ^ k.toNat = (q : Int) by rw [← hq]; simp]; unfold wrap64; omega
  · unfold sizeB
    cases p
    · rw [if_neg (by decide), ← hq]; exact pow_of (by omega)
    · rw [if_pos rfl]; exact decide_eq_true (by omega)
  · unfold sizeB
    cases p
    · have := pow_of (j := k.toNat + 1) (by omega)
      rw [Nat.pow_succ, hq] at this
      rw [if_neg (by decide), show 2 * (q : Int) = ((q * 2 : Nat) : Int) by omega]; exact this
    · rw [if_pos rfl]; exact decide_eq_true (by omega)

set_option maxRecDepth 100000 in
set_option maxHeartbeats 8000000 in
theorem walk (p : Bool) (a1 a2 a3 a4 : Int) (w1 : (Lit.int .i64 a1).wf = true) (w2 : (Lit.int .u64 a2).wf = true) (w3 : (Lit.int .i64 a3).wf = true) (w4 : (Lit.int .i64 a4).wf = true) (w : World) :
    Calls Try.prog 7 #[.bool p, num a1, u64 a2, num a3, num a4] w (Lib.True1 w.heap.size w) := by
  unfold Lib.True1
  have hb0 : Below w.heap.size w w := Below.refl _ _
  have hb2 := bounds_u64 w2
  obtain ⟨r, hr⟩ : ∃ r, a2 % 1099511627776 = r := ⟨_, rfl⟩
  have hr1 : 0 ≤ r ∧ r < 1099511627776 := by omega
  have hm : a2.tmod 1099511627776 = r := by rw [Int.tmod_eq_emod_of_nonneg hb2.1]; exact hr
  clear hr w2
  go_enter Try.func7, Try.ntmps7
  go_wp2_with fail
  refine (lives_any _).mono ?_
  rintro eE W1 ⟨rfl, hg1⟩
  have hb1 : Below w.heap.size w W1 := (show Below w.heap.size w _ by go_grown).trans (hg1.mono (by first | omega | go_size))
  obtain ⟨hc1, hf1⟩ := bcell hg1
  have hs1 := hg1.size
  try simp only [World.size_alloc, World.size_setCell, World.size_drew] at hs1
  clear hg1 hc1 hf1
  go_wp2_with fail
  refine (pick_some a1 10 (by omega) w1 _).mono ?_
  rintro e w' ⟨k, hk1, hk2, rfl, rfl⟩
  go_wp2_with fail
  obtain ⟨n, hn, hn1, hn2, hs, hs2⟩ := sizes hk1 hk2
  obtain ⟨b, hb⟩ : ∃ b, r * 16 = b := ⟨_, rfl⟩
  have hb1 : 0 ≤ b ∧ b ≤ 100000000000000 := by omega
  have hb16 : b % 16 = 0 := by omega
  rw [hn, hb]
  clear hn hk1 hk2 hb hr1 hm
  have hc := up4_in (16 * n + yI p n)
  have hy := yz_in p (n := n) (by omega)
  have hy2 := yz_in p (n := 2 * n) (by omega)
  have htot := tot_grows (p := p) (n := n) (by omega)
  have P0 := place_at (b := 0) (hs p) (by omega) (by omega)
  have P1 := place_at (hs p) hb1 hb16
  have P2' := place_at (b := 0) (hs2 p) (by omega) (by omega)
  have Q0 := parts_eq (hs p)
  have Q2 := parts_eq (hs2 p)
  have K1 := check_at (hs p) hb1 hb16
  simp only [Int.zero_add] at P0 P2'
  have hc' : 16 * n + yI p n ≤ c3 p n ∧ c3 p n ≤ 16 * n + yI p n + 3 ∧ c3 p n % 4 = 0 := hc
  have WM := fun a i ha hi => where_move (p := p) (n := n) (b := b) (a := a) (i := i) (hs p) hb1 hb16 ha hi
  have yz : (p = true ∧ yI p n = 4 ∧ zI p n = 4 ∧ yI p (2 * n) = 4 ∧ zI p (2 * n) = 4) ∨ (p = false ∧ yI p n = 6 + 2 * n ∧ zI p n = 6 + 8 * n ∧ yI p (2 * n) = 6 + 2 * (2 * n) ∧ zI p (2 * n) = 6 + 8 * (2 * n)) := by
    cases p
    · right; exact ⟨rfl, rfl, rfl, rfl, rfl⟩
    · left; exact ⟨rfl, rfl, rfl, rfl, rfl⟩
  obtain ⟨y0, e1⟩ : ∃ q, yI p n = q := ⟨_, rfl⟩
  obtain ⟨z0, e2⟩ : ∃ q, zI p n = q := ⟨_, rfl⟩
  obtain ⟨y1, e3⟩ : ∃ q, yI p (2 * n) = q := ⟨_, rfl⟩
  obtain ⟨z1, e4⟩ : ∃ q, zI p (2 * n) = q := ⟨_, rfl⟩
  obtain ⟨e0, e5⟩ : ∃ q, c3 p n = q := ⟨_, rfl⟩
  obtain ⟨t0, e6⟩ : ∃ q, totI p n = q := ⟨_, rfl⟩
  obtain ⟨t1, e7⟩ : ∃ q, totI p (2 * n) = q := ⟨_, rfl⟩
  obtain ⟨n2, e8⟩ : ∃ q, 2 * n = q := ⟨_, rfl⟩
  obtain ⟨x0, e9⟩ : ∃ q, 16 * n = q := ⟨_, rfl⟩
  obtain ⟨x1, e10⟩ : ∃ q, 16 * n2 = q := ⟨_, rfl⟩
  obtain ⟨f0, e11⟩ : ∃ q, c3 p n2 = q := ⟨_, rfl⟩
  rw [e8] at e3 e4 e7
  obtain ⟨d1, e12⟩ : ∃ q, b + x0 = q := ⟨_, rfl⟩
  obtain ⟨v1, e13⟩ : ∃ q, b + e0 = q := ⟨_, rfl⟩
  have hn2' : 1 ≤ n2 ∧ n2 ≤ 1024 := by omega
  have hx : x1 = 2 * x0 := by omega
  rw [e8] at P2' Q2 yz htot hy2
  rw [e5, e6, e9] at P0
  rw [e5, e6, e9, e12, e13] at P1
  rw [e7, e10, e11] at P2'
  rw [e9, e1, e2] at Q0
  rw [e10, e3, e4] at Q2
  rw [e9, e5, e12, e13] at K1
  rw [e1, e2, e3, e4] at yz
  rw [e6, e7] at htot
  rw [e1, e2] at hy
  rw [e3, e4] at hy2
  rw [e9, e1, e5] at hc'
  simp only [e9, e5, e12, e13] at WM
  have HP0 := Lib.hid P0
  have HP1 := Lib.hid P1
  have HP2 := Lib.hid P2'
  have HQ0 := Lib.hid Q0
  have HQ2 := Lib.hid Q2
  have HK1 := Lib.hid (show (if checkB p n b d1 v1 = true then (0 : Int) else 2) = 0 from by rw [K1]; rfl)
  have HWM := Lib.hid WM
  have hd1 := Lib.hid e12
  have hv1 := Lib.hid e13
  have HX := Lib.hid hx
  have HYZ := Lib.hid yz
  have g0 : IntKind.u64.wrap (b - 0) = b := by rw [IntKind.wrap_u64]; omega
  have g1 : IntKind.u64.wrap (d1 - x0) = b := by rw [IntKind.wrap_u64]; omega
  have g2 : IntKind.u64.wrap (v1 - e0) = b := by rw [IntKind.wrap_u64]; omega
  have hD1 := Lib.hid (show u64in d1 from by unfold u64in; omega)
  have hV1 := Lib.hid (show u64in v1 from by unfold u64in; omega)
  have hB1 := Lib.hid (show u64in b from by unfold u64in; omega)
  have hD0 := Lib.hid (show u64in x0 from by unfold u64in; omega)
  have hE0 := Lib.hid (show u64in e0 from by unfold u64in; omega)
  have hZ0 := Lib.hid (show u64in 0 from by unfold u64in; omega)
  have t01 : decide (t1 ≤ t0) = false := decide_eq_false (by omega)
  have x01 : IntKind.u64.wrap (2 * x0) = x1 := by rw [IntKind.wrap_u64]; omega
  have hnw : IntKind.i64.wrap (2 * n) = n2 := by rw [IntKind.wrap_i64]; omega
  have hnw' : wrap64 (2 * n) = n2 := by unfold wrap64; omega
  clear hx hc P0 P1 P2' Q0 Q2 K1 WM yz e1 e2 e3 e4 e5 e6 e7 e9 e10 e11 e12 e13 hs hs2 hb2
  refine (place_is p n 0 _ hZ0.out HP0.out _).mono ?_
  rintro eE W2 ⟨rfl, hg2⟩
  have hb2 : Below w.heap.size w W2 := (show Below w.heap.size w _ by go_grown).trans (hg2.mono (by first | omega | go_size))
  obtain ⟨hc2, hf2⟩ := bcell hg2
  have hs2 := hg2.size
  try simp only [World.size_alloc, World.size_setCell, World.size_drew] at hs2
  clear hg2 hc2 hf2
  go_wp2_with fail
  refine (place_is p n b _ hB1.out HP1.out _).mono ?_
  rintro eE W3 ⟨rfl, hg3⟩
  have hb3 : Below w.heap.size w W3 := (show Below w.heap.size w _ by go_grown).trans (hg3.mono (by first | omega | go_size))
  obtain ⟨hc3, hf3⟩ := bcell hg3
  have hs3 := hg3.size
  try simp only [World.size_alloc, World.size_setCell, World.size_drew] at hs3
  have hl3_0_0 : W3.cell? ⟨W2.heap.size, 0, none⟩ = some (.bool p) := (hc3 _ _ (by first | omega | go_size)).trans (by first | (with_reducible assumption) | go_cell)
  have hz3_0_0 : W3.frozen? ⟨W2.heap.size, 0, none⟩ = false := (hf3 _ _ (by first | omega | go_size)).trans (by first | (with_reducible assumption) | (go_simp; done) | (simp [*]; done))
  have hl3_0_1 : W3.cell? ⟨W2.heap.size, 1, none⟩ = some (num n) := (hc3 _ _ (by first | omega | go_size)).trans (by first | (with_reducible assumption) | go_cell)
  have hz3_0_1 : W3.frozen? ⟨W2.heap.size, 1, none⟩ = false := (hf3 _ _ (by first | omega | go_size)).trans (by first | (with_reducible assumption) | (go_simp; done) | (simp [*]; done))
  have hl3_0_2 : W3.cell? ⟨W2.heap.size, 2, none⟩ = some (u64 0) := (hc3 _ _ (by first | omega | go_size)).trans (by first | (with_reducible assumption) | go_cell)
  have hz3_0_2 : W3.frozen? ⟨W2.heap.size, 2, none⟩ = false := (hf3 _ _ (by first | omega | go_size)).trans (by first | (with_reducible assumption) | (go_simp; done) | (simp [*]; done))
  have hl3_0_3 : W3.cell? ⟨W2.heap.size, 3, none⟩ = some (u64 x0) := (hc3 _ _ (by first | omega | go_size)).trans (by first | (with_reducible assumption) | go_cell)
  have hz3_0_3 : W3.frozen? ⟨W2.heap.size, 3, none⟩ = false := (hf3 _ _ (by first | omega | go_size)).trans (by first | (with_reducible assumption) | (go_simp; done) | (simp [*]; done))
  have hl3_0_4 : W3.cell? ⟨W2.heap.size, 4, none⟩ = some (u64 e0) := (hc3 _ _ (by first | omega | go_size)).trans (by first | (with_reducible assumption) | go_cell)
  have hz3_0_4 : W3.frozen? ⟨W2.heap.size, 4, none⟩ = false := (hf3 _ _ (by first | omega | go_size)).trans (by first | (with_reducible assumption) | (go_simp; done) | (simp [*]; done))
  have hk3_0 : W2.heap.size < W3.heap.size := by omega
  clear hg3 hc3 hf3
  go_wp2_with fail
  refine (place_is p n2 0 _ hZ0.out HP2.out _).mono ?_
  rintro eE W4 ⟨rfl, hg4⟩
  have hb4 : Below w.heap.size w W4 := (show Below w.heap.size w _ by go_grown).trans (hg4.mono (by first | omega | go_size))
  obtain ⟨hc4, hf4⟩ := bcell hg4
  have hs4 := hg4.size
  try simp only [World.size_alloc, World.size_setCell, World.size_drew] at hs4
  have hl4_0_0 : W4.cell? ⟨W2.heap.size, 0, none⟩ = some (.bool p) := (hc4 _ _ (by first | omega | go_size)).trans (by first | (with_reducible assumption) | go_cell)
  have hz4_0_0 : W4.frozen? ⟨W2.heap.size, 0, none⟩ = false := (hf4 _ _ (by first | omega | go_size)).trans (by first | (with_reducible assumption) | (go_simp; done) | (simp [*]; done))
  have hl4_0_1 : W4.cell? ⟨W2.heap.size, 1, none⟩ = some (num n) := (hc4 _ _ (by first | omega | go_size)).trans (by first | (with_reducible assumption) | go_cell)
  have hz4_0_1 : W4.frozen? ⟨W2.heap.size, 1, none⟩ = false := (hf4 _ _ (by first | omega | go_size)).trans (by first | (with_reducible assumption) | (go_simp; done) | (simp [*]; done))
  have hl4_0_2 : W4.cell? ⟨W2.heap.size, 2, none⟩ = some (u64 0) := (hc4 _ _ (by first | omega | go_size)).trans (by first | (with_reducible assumption) | go_cell)
  have hz4_0_2 : W4.frozen? ⟨W2.heap.size, 2, none⟩ = false := (hf4 _ _ (by first | omega | go_size)).trans (by first | (with_reducible assumption) | (go_simp; done) | (simp [*]; done))
  have hl4_0_3 : W4.cell? ⟨W2.heap.size, 3, none⟩ = some (u64 x0) := (hc4 _ _ (by first | omega | go_size)).trans (by first | (with_reducible assumption) | go_cell)
  have hz4_0_3 : W4.frozen? ⟨W2.heap.size, 3, none⟩ = false := (hf4 _ _ (by first | omega | go_size)).trans (by first | (with_reducible assumption) | (go_simp; done) | (simp [*]; done))
  have hl4_0_4 : W4.cell? ⟨W2.heap.size, 4, none⟩ = some (u64 e0) := (hc4 _ _ (by first | omega | go_size)).trans (by first | (with_reducible assumption) | go_cell)
  have hz4_0_4 : W4.frozen? ⟨W2.heap.size, 4, none⟩ = false := (hf4 _ _ (by first | omega | go_size)).trans (by first | (with_reducible assumption) | (go_simp; done) | (simp [*]; done))
  have hk4_0 : W2.heap.size < W4.heap.size := by omega
  have hl4_1_0 : W4.cell? ⟨W3.heap.size, 0, none⟩ = some (.bool p) := (hc4 _ _ (by first | omega | go_size)).trans (by first | (with_reducible assumption) | go_cell)
  have hz4_1_0 : W4.frozen? ⟨W3.heap.size, 0, none⟩ = false := (hf4 _ _ (by first | omega | go_size)).trans (by first | (with_reducible assumption) | (go_simp; done) | (simp [*]; done))
  have hl4_1_1 : W4.cell? ⟨W3.heap.size, 1, none⟩ = some (num n) := (hc4 _ _ (by first | omega | go_size)).trans (by first | (with_reducible assumption) | go_cell)
  have hz4_1_1 : W4.frozen? ⟨W3.heap.size, 1, none⟩ = false := (hf4 _ _ (by first | omega | go_size)).trans (by first | (with_reducible assumption) | (go_simp; done) | (simp [*]; done))
  have hl4_1_2 : W4.cell? ⟨W3.heap.size, 2, none⟩ = some (u64 b) := (hc4 _ _ (by first | omega | go_size)).trans (by first | (with_reducible assumption) | go_cell)
  have hz4_1_2 : W4.frozen? ⟨W3.heap.size, 2, none⟩ = false := (hf4 _ _ (by first | omega | go_size)).trans (by first | (with_reducible assumption) | (go_simp; done) | (simp [*]; done))
  have hl4_1_3 : W4.cell? ⟨W3.heap.size, 3, none⟩ = some (u64 d1) := (hc4 _ _ (by first | omega | go_size)).trans (by first | (with_reducible assumption) | go_cell)
  have hz4_1_3 : W4.frozen? ⟨W3.heap.size, 3, none⟩ = false := (hf4 _ _ (by first | omega | go_size)).trans (by first | (with_reducible assumption) | (go_simp; done) | (simp [*]; done))
  have hl4_1_4 : W4.cell? ⟨W3.heap.size, 4, none⟩ = some (u64 v1) := (hc4 _ _ (by first | omega | go_size)).trans (by first | (with_reducible assumption) | go_cell)
  have hz4_1_4 : W4.frozen? ⟨W3.heap.size, 4, none⟩ = false := (hf4 _ _ (by first | omega | go_size)).trans (by first | (with_reducible assumption) | (go_simp; done) | (simp [*]; done))
  have hk4_1 : W3.heap.size < W4.heap.size := by omega
  clear hg4 hc4 hf4
  go_wp2_with fail
  refine (parts_is p n 0 x0 e0 x0 y0 z0 HQ0.out _).mono ?_
  rintro eE W5 ⟨rfl, hg5⟩
  have hb5 : Below w.heap.size w W5 := (show Below w.heap.size w _ by go_grown).trans (hg5.mono (by first | omega | go_size))
  obtain ⟨hc5, hf5⟩ := bcell hg5
  have hs5 := hg5.size
  try simp only [World.size_alloc, World.size_setCell, World.size_drew] at hs5
  have hl5_0_0 : W5.cell? ⟨W2.heap.size, 0, none⟩ = some (.bool p) := (hc5 _ _ (by first | omega | go_size)).trans (by first | (with_reducible assumption) | go_cell)
  have hz5_0_0 : W5.frozen? ⟨W2.heap.size, 0, none⟩ = false := (hf5 _ _ (by first | omega | go_size)).trans (by first | (with_reducible assumption) | (go_simp; done) | (simp [*]; done))
  have hl5_0_1 : W5.cell? ⟨W2.heap.size, 1, none⟩ = some (num n) := (hc5 _ _ (by first | omega | go_size)).trans (by first | (with_reducible assumption) | go_cell)
  have hz5_0_1 : W5.frozen? ⟨W2.heap.size, 1, none⟩ = false := (hf5 _ _ (by first | omega | go_size)).trans (by first | (with_reducible assumption) | (go_simp; done) | (simp [*]; done))
  have hl5_0_2 : W5.cell? ⟨W2.heap.size, 2, none⟩ = some (u64 0) := (hc5 _ _ (by first | omega | go_size)).trans (by first | (with_reducible assumption) | go_cell)
  have hz5_0_2 : W5.frozen? ⟨W2.heap.size, 2, none⟩ = false := (hf5 _ _ (by first | omega | go_size)).trans (by first | (with_reducible assumption) | (go_simp; done) | (simp [*]; done))
  have hl5_0_3 : W5.cell? ⟨W2.heap.size, 3, none⟩ = some (u64 x0) := (hc5 _ _ (by first | omega | go_size)).trans (by first | (with_reducible assumption) | go_cell)
  have hz5_0_3 : W5.frozen? ⟨W2.heap.size, 3, none⟩ = false := (hf5 _ _ (by first | omega | go_size)).trans (by first | (with_reducible assumption) | (go_simp; done) | (simp [*]; done))
  have hl5_0_4 : W5.cell? ⟨W2.heap.size, 4, none⟩ = some (u64 e0) := (hc5 _ _ (by first | omega | go_size)).trans (by first | (with_reducible assumption) | go_cell)
  have hz5_0_4 : W5.frozen? ⟨W2.heap.size, 4, none⟩ = false := (hf5 _ _ (by first | omega | go_size)).trans (by first | (with_reducible assumption) | (go_simp; done) | (simp [*]; done))
  have hk5_0 : W2.heap.size < W5.heap.size := by omega
  have hl5_1_0 : W5.cell? ⟨W3.heap.size, 0, none⟩ = some (.bool p) := (hc5 _ _ (by first | omega | go_size)).trans (by first | (with_reducible assumption) | go_cell)
  have hz5_1_0 : W5.frozen? ⟨W3.heap.size, 0, none⟩ = false := (hf5 _ _ (by first | omega | go_size)).trans (by first | (with_reducible assumption) | (go_simp; done) | (simp [*]; done))
  have hl5_1_1 : W5.cell? ⟨W3.heap.size, 1, none⟩ = some (num n) := (hc5 _ _ (by first | omega | go_size)).trans (by first | (with_reducible assumption) | go_cell)
  have hz5_1_1 : W5.frozen? ⟨W3.heap.size, 1, none⟩ = false := (hf5 _ _ (by first | omega | go_size)).trans (by first | (with_reducible assumption) | (go_simp; done) | (simp [*]; done))
  have hl5_1_2 : W5.cell? ⟨W3.heap.size, 2, none⟩ = some (u64 b) := (hc5 _ _ (by first | omega | go_size)).trans (by first | (with_reducible assumption) | go_cell)
  have hz5_1_2 : W5.frozen? ⟨W3.heap.size, 2, none⟩ = false := (hf5 _ _ (by first | omega | go_size)).trans (by first | (with_reducible assumption) | (go_simp; done) | (simp [*]; done))
  have hl5_1_3 : W5.cell? ⟨W3.heap.size, 3, none⟩ = some (u64 d1) := (hc5 _ _ (by first | omega | go_size)).trans (by first | (with_reducible assumption) | go_cell)
  have hz5_1_3 : W5.frozen? ⟨W3.heap.size, 3, none⟩ = false := (hf5 _ _ (by first | omega | go_size)).trans (by first | (with_reducible assumption) | (go_simp; done) | (simp [*]; done))
  have hl5_1_4 : W5.cell? ⟨W3.heap.size, 4, none⟩ = some (u64 v1) := (hc5 _ _ (by first | omega | go_size)).trans (by first | (with_reducible assumption) | go_cell)
  have hz5_1_4 : W5.frozen? ⟨W3.heap.size, 4, none⟩ = false := (hf5 _ _ (by first | omega | go_size)).trans (by first | (with_reducible assumption) | (go_simp; done) | (simp [*]; done))
  have hk5_1 : W3.heap.size < W5.heap.size := by omega
  have hl5_2_0 : W5.cell? ⟨W4.heap.size, 0, none⟩ = some (.bool p) := (hc5 _ _ (by first | omega | go_size)).trans (by first | (with_reducible assumption) | go_cell)
  have hz5_2_0 : W5.frozen? ⟨W4.heap.size, 0, none⟩ = false := (hf5 _ _ (by first | omega | go_size)).trans (by first | (with_reducible assumption) | (go_simp; done) | (simp [*]; done))
  have hl5_2_1 : W5.cell? ⟨W4.heap.size, 1, none⟩ = some (num n2) := (hc5 _ _ (by first | omega | go_size)).trans (by first | (with_reducible assumption) | go_cell)
  have hz5_2_1 : W5.frozen? ⟨W4.heap.size, 1, none⟩ = false := (hf5 _ _ (by first | omega | go_size)).trans (by first | (with_reducible assumption) | (go_simp; done) | (simp [*]; done))
  have hl5_2_2 : W5.cell? ⟨W4.heap.size, 2, none⟩ = some (u64 0) := (hc5 _ _ (by first | omega | go_size)).trans (by first | (with_reducible assumption) | go_cell)
  have hz5_2_2 : W5.frozen? ⟨W4.heap.size, 2, none⟩ = false := (hf5 _ _ (by first | omega | go_size)).trans (by first | (with_reducible assumption) | (go_simp; done) | (simp [*]; done))
  have hl5_2_3 : W5.cell? ⟨W4.heap.size, 3, none⟩ = some (u64 x1) := (hc5 _ _ (by first | omega | go_size)).trans (by first | (with_reducible assumption) | go_cell)
  have hz5_2_3 : W5.frozen? ⟨W4.heap.size, 3, none⟩ = false := (hf5 _ _ (by first | omega | go_size)).trans (by first | (with_reducible assumption) | (go_simp; done) | (simp [*]; done))
  have hl5_2_4 : W5.cell? ⟨W4.heap.size, 4, none⟩ = some (u64 f0) := (hc5 _ _ (by first | omega | go_size)).trans (by first | (with_reducible assumption) | go_cell)
  have hz5_2_4 : W5.frozen? ⟨W4.heap.size, 4, none⟩ = false := (hf5 _ _ (by first | omega | go_size)).trans (by first | (with_reducible assumption) | (go_simp; done) | (simp [*]; done))
  have hk5_2 : W4.heap.size < W5.heap.size := by omega
  clear hg5 hc5 hf5
  go_wp2_with fail
  refine (parts_is p n2 0 x1 f0 x1 y1 z1 HQ2.out _).mono ?_
  rintro eE W6 ⟨rfl, hg6⟩
  rcases HYZ.out with ⟨rfl, rfl, rfl, rfl, rfl⟩ | ⟨rfl, hy0, hz0, hy1, hz1⟩
  · skip
    have hb6 : Below w.heap.size w W6 := (show Below w.heap.size w _ by go_grown).trans (hg6.mono (by first | omega | go_size))
    obtain ⟨hc6, hf6⟩ := bcell hg6
    have hs6 := hg6.size
    try simp only [World.size_alloc, World.size_setCell, World.size_drew] at hs6
    have hl6_0_0 : W6.cell? ⟨W2.heap.size, 0, none⟩ = some (.bool true) := (hc6 _ _ (by first | omega | go_size)).trans (by first | (with_reducible assumption) | go_cell)
    have hz6_0_0 : W6.frozen? ⟨W2.heap.size, 0, none⟩ = false := (hf6 _ _ (by first | omega | go_size)).trans (by first | (with_reducible assumption) | (go_simp; done) | (simp [*]; done))
    have hl6_0_1 : W6.cell? ⟨W2.heap.size, 1, none⟩ = some (num n) := (hc6 _ _ (by first | omega | go_size)).trans (by first | (with_reducible assumption) | go_cell)
    have hz6_0_1 : W6.frozen? ⟨W2.heap.size, 1, none⟩ = false := (hf6 _ _ (by first | omega | go_size)).trans (by first | (with_reducible assumption) | (go_simp; done) | (simp [*]; done))
    have hl6_0_2 : W6.cell? ⟨W2.heap.size, 2, none⟩ = some (u64 0) := (hc6 _ _ (by first | omega | go_size)).trans (by first | (with_reducible assumption) | go_cell)
    have hz6_0_2 : W6.frozen? ⟨W2.heap.size, 2, none⟩ = false := (hf6 _ _ (by first | omega | go_size)).trans (by first | (with_reducible assumption) | (go_simp; done) | (simp [*]; done))
    have hl6_0_3 : W6.cell? ⟨W2.heap.size, 3, none⟩ = some (u64 x0) := (hc6 _ _ (by first | omega | go_size)).trans (by first | (with_reducible assumption) | go_cell)
    have hz6_0_3 : W6.frozen? ⟨W2.heap.size, 3, none⟩ = false := (hf6 _ _ (by first | omega | go_size)).trans (by first | (with_reducible assumption) | (go_simp; done) | (simp [*]; done))
    have hl6_0_4 : W6.cell? ⟨W2.heap.size, 4, none⟩ = some (u64 e0) := (hc6 _ _ (by first | omega | go_size)).trans (by first | (with_reducible assumption) | go_cell)
    have hz6_0_4 : W6.frozen? ⟨W2.heap.size, 4, none⟩ = false := (hf6 _ _ (by first | omega | go_size)).trans (by first | (with_reducible assumption) | (go_simp; done) | (simp [*]; done))
    have hk6_0 : W2.heap.size < W6.heap.size := by omega
    have hl6_1_0 : W6.cell? ⟨W3.heap.size, 0, none⟩ = some (.bool true) := (hc6 _ _ (by first | omega | go_size)).trans (by first | (with_reducible assumption) | go_cell)
    have hz6_1_0 : W6.frozen? ⟨W3.heap.size, 0, none⟩ = false := (hf6 _ _ (by first | omega | go_size)).trans (by first | (with_reducible assumption) | (go_simp; done) | (simp [*]; done))
    have hl6_1_1 : W6.cell? ⟨W3.heap.size, 1, none⟩ = some (num n) := (hc6 _ _ (by first | omega | go_size)).trans (by first | (with_reducible assumption) | go_cell)
    have hz6_1_1 : W6.frozen? ⟨W3.heap.size, 1, none⟩ = false := (hf6 _ _ (by first | omega | go_size)).trans (by first | (with_reducible assumption) | (go_simp; done) | (simp [*]; done))
    have hl6_1_2 : W6.cell? ⟨W3.heap.size, 2, none⟩ = some (u64 b) := (hc6 _ _ (by first | omega | go_size)).trans (by first | (with_reducible assumption) | go_cell)
    have hz6_1_2 : W6.frozen? ⟨W3.heap.size, 2, none⟩ = false := (hf6 _ _ (by first | omega | go_size)).trans (by first | (with_reducible assumption) | (go_simp; done) | (simp [*]; done))
    have hl6_1_3 : W6.cell? ⟨W3.heap.size, 3, none⟩ = some (u64 d1) := (hc6 _ _ (by first | omega | go_size)).trans (by first | (with_reducible assumption) | go_cell)
    have hz6_1_3 : W6.frozen? ⟨W3.heap.size, 3, none⟩ = false := (hf6 _ _ (by first | omega | go_size)).trans (by first | (with_reducible assumption) | (go_simp; done) | (simp [*]; done))
    have hl6_1_4 : W6.cell? ⟨W3.heap.size, 4, none⟩ = some (u64 v1) := (hc6 _ _ (by first | omega | go_size)).trans (by first | (with_reducible assumption) | go_cell)
    have hz6_1_4 : W6.frozen? ⟨W3.heap.size, 4, none⟩ = false := (hf6 _ _ (by first | omega | go_size)).trans (by first | (with_reducible assumption) | (go_simp; done) | (simp [*]; done))
    have hk6_1 : W3.heap.size < W6.heap.size := by omega
    clear hg6 hc6 hf6
    go_wp2_with fail
    refine (pick_some a3 11 (by omega) w3 _).mono ?_
    rintro e w' ⟨ka, ka1, ka2, rfl, rfl⟩
    go_wp2_with fail
    refine (pick_some a4 n (by omega) w4 _).mono ?_
    rintro e w' ⟨i, i1, i2, rfl, rfl⟩
    go_wp2_with fail
    obtain ⟨a, ha⟩ : ∃ a, 1 + ka = a := ⟨_, rfl⟩
    have ha1 : 1 ≤ a ∧ a ≤ 11 := by omega
    rw [ha]
    clear ha ka1 ka2
    have wi : (Lit.int .i64 i).wf = true := by unfold Lit.wf; rw [Bool.and_eq_true, decide_eq_true_eq, decide_eq_true_eq, show IntKind.i64.min = -9223372036854775808 from by decide, show IntKind.i64.max = 9223372036854775807 from by decide]; omega
    rcases HWM.out a i ha1 ⟨i1, i2⟩ with ⟨k1, k2⟩ | ⟨u, q, k1, k2, u1, u2⟩
    · have K1 := Lib.hid k1
      have K2 := Lib.hid k2
      clear k1 k2
      refine (where_is true n 0 x0 e0 a i 0 0 2 hZ0.out hD0.out hE0.out wi K1.out _).mono ?_
      rintro eE W7 ⟨rfl, hg7⟩
      have hb7 : Below w.heap.size w W7 := (show Below w.heap.size w _ by go_grown).trans (hg7.mono (by first | omega | go_size))
      obtain ⟨hc7, hf7⟩ := bcell hg7
      have hs7 := hg7.size
      try simp only [World.size_alloc, World.size_setCell, World.size_drew] at hs7
      have hl7_0_0 : W7.cell? ⟨W2.heap.size, 0, none⟩ = some (.bool true) := (hc7 _ _ (by first | omega | go_size)).trans (by first | (with_reducible assumption) | go_cell)
      have hz7_0_0 : W7.frozen? ⟨W2.heap.size, 0, none⟩ = false := (hf7 _ _ (by first | omega | go_size)).trans (by first | (with_reducible assumption) | (go_simp; done) | (simp [*]; done))
      have hl7_0_1 : W7.cell? ⟨W2.heap.size, 1, none⟩ = some (num n) := (hc7 _ _ (by first | omega | go_size)).trans (by first | (with_reducible assumption) | go_cell)
      have hz7_0_1 : W7.frozen? ⟨W2.heap.size, 1, none⟩ = false := (hf7 _ _ (by first | omega | go_size)).trans (by first | (with_reducible assumption) | (go_simp; done) | (simp [*]; done))
      have hl7_0_2 : W7.cell? ⟨W2.heap.size, 2, none⟩ = some (u64 0) := (hc7 _ _ (by first | omega | go_size)).trans (by first | (with_reducible assumption) | go_cell)
      have hz7_0_2 : W7.frozen? ⟨W2.heap.size, 2, none⟩ = false := (hf7 _ _ (by first | omega | go_size)).trans (by first | (with_reducible assumption) | (go_simp; done) | (simp [*]; done))
      have hl7_0_3 : W7.cell? ⟨W2.heap.size, 3, none⟩ = some (u64 x0) := (hc7 _ _ (by first | omega | go_size)).trans (by first | (with_reducible assumption) | go_cell)
      have hz7_0_3 : W7.frozen? ⟨W2.heap.size, 3, none⟩ = false := (hf7 _ _ (by first | omega | go_size)).trans (by first | (with_reducible assumption) | (go_simp; done) | (simp [*]; done))
      have hl7_0_4 : W7.cell? ⟨W2.heap.size, 4, none⟩ = some (u64 e0) := (hc7 _ _ (by first | omega | go_size)).trans (by first | (with_reducible assumption) | go_cell)
      have hz7_0_4 : W7.frozen? ⟨W2.heap.size, 4, none⟩ = false := (hf7 _ _ (by first | omega | go_size)).trans (by first | (with_reducible assumption) | (go_simp; done) | (simp [*]; done))
      have hk7_0 : W2.heap.size < W7.heap.size := by omega
      have hl7_1_0 : W7.cell? ⟨W3.heap.size, 0, none⟩ = some (.bool true) := (hc7 _ _ (by first | omega | go_size)).trans (by first | (with_reducible assumption) | go_cell)
      have hz7_1_0 : W7.frozen? ⟨W3.heap.size, 0, none⟩ = false := (hf7 _ _ (by first | omega | go_size)).trans (by first | (with_reducible assumption) | (go_simp; done) | (simp [*]; done))
      have hl7_1_1 : W7.cell? ⟨W3.heap.size, 1, none⟩ = some (num n) := (hc7 _ _ (by first | omega | go_size)).trans (by first | (with_reducible assumption) | go_cell)
      have hz7_1_1 : W7.frozen? ⟨W3.heap.size, 1, none⟩ = false := (hf7 _ _ (by first | omega | go_size)).trans (by first | (with_reducible assumption) | (go_simp; done) | (simp [*]; done))
      have hl7_1_2 : W7.cell? ⟨W3.heap.size, 2, none⟩ = some (u64 b) := (hc7 _ _ (by first | omega | go_size)).trans (by first | (with_reducible assumption) | go_cell)
      have hz7_1_2 : W7.frozen? ⟨W3.heap.size, 2, none⟩ = false := (hf7 _ _ (by first | omega | go_size)).trans (by first | (with_reducible assumption) | (go_simp; done) | (simp [*]; done))
      have hl7_1_3 : W7.cell? ⟨W3.heap.size, 3, none⟩ = some (u64 d1) := (hc7 _ _ (by first | omega | go_size)).trans (by first | (with_reducible assumption) | go_cell)
      have hz7_1_3 : W7.frozen? ⟨W3.heap.size, 3, none⟩ = false := (hf7 _ _ (by first | omega | go_size)).trans (by first | (with_reducible assumption) | (go_simp; done) | (simp [*]; done))
      have hl7_1_4 : W7.cell? ⟨W3.heap.size, 4, none⟩ = some (u64 v1) := (hc7 _ _ (by first | omega | go_size)).trans (by first | (with_reducible assumption) | go_cell)
      have hz7_1_4 : W7.frozen? ⟨W3.heap.size, 4, none⟩ = false := (hf7 _ _ (by first | omega | go_size)).trans (by first | (with_reducible assumption) | (go_simp; done) | (simp [*]; done))
      have hk7_1 : W3.heap.size < W7.heap.size := by omega
      clear hg7 hc7 hf7
      go_wp2_with fail
      refine (where_is true n b d1 v1 a i 0 0 2 hB1.out hD1.out hV1.out wi K2.out _).mono ?_
      rintro eE W8 ⟨rfl, hg8⟩
      have hb8 : Below w.heap.size w W8 := (show Below w.heap.size w _ by go_grown).trans (hg8.mono (by first | omega | go_size))
      obtain ⟨hc8, hf8⟩ := bcell hg8
      have hs8 := hg8.size
      try simp only [World.size_alloc, World.size_setCell, World.size_drew] at hs8
      have hl8_0_0 : W8.cell? ⟨W2.heap.size, 0, none⟩ = some (.bool true) := (hc8 _ _ (by first | omega | go_size)).trans (by first | (with_reducible assumption) | go_cell)
      have hz8_0_0 : W8.frozen? ⟨W2.heap.size, 0, none⟩ = false := (hf8 _ _ (by first | omega | go_size)).trans (by first | (with_reducible assumption) | (go_simp; done) | (simp [*]; done))
      have hl8_0_1 : W8.cell? ⟨W2.heap.size, 1, none⟩ = some (num n) := (hc8 _ _ (by first | omega | go_size)).trans (by first | (with_reducible assumption) | go_cell)
      have hz8_0_1 : W8.frozen? ⟨W2.heap.size, 1, none⟩ = false := (hf8 _ _ (by first | omega | go_size)).trans (by first | (with_reducible assumption) | (go_simp; done) | (simp [*]; done))
      have hl8_0_2 : W8.cell? ⟨W2.heap.size, 2, none⟩ = some (u64 0) := (hc8 _ _ (by first | omega | go_size)).trans (by first | (with_reducible assumption) | go_cell)
      have hz8_0_2 : W8.frozen? ⟨W2.heap.size, 2, none⟩ = false := (hf8 _ _ (by first | omega | go_size)).trans (by first | (with_reducible assumption) | (go_simp; done) | (simp [*]; done))
      have hl8_0_3 : W8.cell? ⟨W2.heap.size, 3, none⟩ = some (u64 x0) := (hc8 _ _ (by first | omega | go_size)).trans (by first | (with_reducible assumption) | go_cell)
      have hz8_0_3 : W8.frozen? ⟨W2.heap.size, 3, none⟩ = false := (hf8 _ _ (by first | omega | go_size)).trans (by first | (with_reducible assumption) | (go_simp; done) | (simp [*]; done))
      have hl8_0_4 : W8.cell? ⟨W2.heap.size, 4, none⟩ = some (u64 e0) := (hc8 _ _ (by first | omega | go_size)).trans (by first | (with_reducible assumption) | go_cell)
      have hz8_0_4 : W8.frozen? ⟨W2.heap.size, 4, none⟩ = false := (hf8 _ _ (by first | omega | go_size)).trans (by first | (with_reducible assumption) | (go_simp; done) | (simp [*]; done))
      have hk8_0 : W2.heap.size < W8.heap.size := by omega
      have hl8_1_0 : W8.cell? ⟨W3.heap.size, 0, none⟩ = some (.bool true) := (hc8 _ _ (by first | omega | go_size)).trans (by first | (with_reducible assumption) | go_cell)
      have hz8_1_0 : W8.frozen? ⟨W3.heap.size, 0, none⟩ = false := (hf8 _ _ (by first | omega | go_size)).trans (by first | (with_reducible assumption) | (go_simp; done) | (simp [*]; done))
      have hl8_1_1 : W8.cell? ⟨W3.heap.size, 1, none⟩ = some (num n) := (hc8 _ _ (by first | omega | go_size)).trans (by first | (with_reducible assumption) | go_cell)
      have hz8_1_1 : W8.frozen? ⟨W3.heap.size, 1, none⟩ = false := (hf8 _ _ (by first | omega | go_size)).trans (by first | (with_reducible assumption) | (go_simp; done) | (simp [*]; done))
      have hl8_1_2 : W8.cell? ⟨W3.heap.size, 2, none⟩ = some (u64 b) := (hc8 _ _ (by first | omega | go_size)).trans (by first | (with_reducible assumption) | go_cell)
      have hz8_1_2 : W8.frozen? ⟨W3.heap.size, 2, none⟩ = false := (hf8 _ _ (by first | omega | go_size)).trans (by first | (with_reducible assumption) | (go_simp; done) | (simp [*]; done))
      have hl8_1_3 : W8.cell? ⟨W3.heap.size, 3, none⟩ = some (u64 d1) := (hc8 _ _ (by first | omega | go_size)).trans (by first | (with_reducible assumption) | go_cell)
      have hz8_1_3 : W8.frozen? ⟨W3.heap.size, 3, none⟩ = false := (hf8 _ _ (by first | omega | go_size)).trans (by first | (with_reducible assumption) | (go_simp; done) | (simp [*]; done))
      have hl8_1_4 : W8.cell? ⟨W3.heap.size, 4, none⟩ = some (u64 v1) := (hc8 _ _ (by first | omega | go_size)).trans (by first | (with_reducible assumption) | go_cell)
      have hz8_1_4 : W8.frozen? ⟨W3.heap.size, 4, none⟩ = false := (hf8 _ _ (by first | omega | go_size)).trans (by first | (with_reducible assumption) | (go_simp; done) | (simp [*]; done))
      have hk8_1 : W3.heap.size < W8.heap.size := by omega
      clear hg8 hc8 hf8
      go_wp2_with fail
      refine (check_is true n b d1 v1 0 hB1.out hD1.out hV1.out HK1.out _).mono ?_
      rintro eE W9 ⟨rfl, hg9⟩
      have hb9 : Below w.heap.size w W9 := (show Below w.heap.size w _ by go_grown).trans (hg9.mono (by first | omega | go_size))
      obtain ⟨hc9, hf9⟩ := bcell hg9
      have hs9 := hg9.size
      try simp only [World.size_alloc, World.size_setCell, World.size_drew] at hs9
      have hl9_0_0 : W9.cell? ⟨W2.heap.size, 0, none⟩ = some (.bool true) := (hc9 _ _ (by first | omega | go_size)).trans (by first | (with_reducible assumption) | go_cell)
      have hz9_0_0 : W9.frozen? ⟨W2.heap.size, 0, none⟩ = false := (hf9 _ _ (by first | omega | go_size)).trans (by first | (with_reducible assumption) | (go_simp; done) | (simp [*]; done))
      have hl9_0_1 : W9.cell? ⟨W2.heap.size, 1, none⟩ = some (num n) := (hc9 _ _ (by first | omega | go_size)).trans (by first | (with_reducible assumption) | go_cell)
      have hz9_0_1 : W9.frozen? ⟨W2.heap.size, 1, none⟩ = false := (hf9 _ _ (by first | omega | go_size)).trans (by first | (with_reducible assumption) | (go_simp; done) | (simp [*]; done))
      have hl9_0_2 : W9.cell? ⟨W2.heap.size, 2, none⟩ = some (u64 0) := (hc9 _ _ (by first | omega | go_size)).trans (by first | (with_reducible assumption) | go_cell)
      have hz9_0_2 : W9.frozen? ⟨W2.heap.size, 2, none⟩ = false := (hf9 _ _ (by first | omega | go_size)).trans (by first | (with_reducible assumption) | (go_simp; done) | (simp [*]; done))
      have hl9_0_3 : W9.cell? ⟨W2.heap.size, 3, none⟩ = some (u64 x0) := (hc9 _ _ (by first | omega | go_size)).trans (by first | (with_reducible assumption) | go_cell)
      have hz9_0_3 : W9.frozen? ⟨W2.heap.size, 3, none⟩ = false := (hf9 _ _ (by first | omega | go_size)).trans (by first | (with_reducible assumption) | (go_simp; done) | (simp [*]; done))
      have hl9_0_4 : W9.cell? ⟨W2.heap.size, 4, none⟩ = some (u64 e0) := (hc9 _ _ (by first | omega | go_size)).trans (by first | (with_reducible assumption) | go_cell)
      have hz9_0_4 : W9.frozen? ⟨W2.heap.size, 4, none⟩ = false := (hf9 _ _ (by first | omega | go_size)).trans (by first | (with_reducible assumption) | (go_simp; done) | (simp [*]; done))
      have hk9_0 : W2.heap.size < W9.heap.size := by omega
      have hl9_1_0 : W9.cell? ⟨W3.heap.size, 0, none⟩ = some (.bool true) := (hc9 _ _ (by first | omega | go_size)).trans (by first | (with_reducible assumption) | go_cell)
      have hz9_1_0 : W9.frozen? ⟨W3.heap.size, 0, none⟩ = false := (hf9 _ _ (by first | omega | go_size)).trans (by first | (with_reducible assumption) | (go_simp; done) | (simp [*]; done))
      have hl9_1_1 : W9.cell? ⟨W3.heap.size, 1, none⟩ = some (num n) := (hc9 _ _ (by first | omega | go_size)).trans (by first | (with_reducible assumption) | go_cell)
      have hz9_1_1 : W9.frozen? ⟨W3.heap.size, 1, none⟩ = false := (hf9 _ _ (by first | omega | go_size)).trans (by first | (with_reducible assumption) | (go_simp; done) | (simp [*]; done))
      have hl9_1_2 : W9.cell? ⟨W3.heap.size, 2, none⟩ = some (u64 b) := (hc9 _ _ (by first | omega | go_size)).trans (by first | (with_reducible assumption) | go_cell)
      have hz9_1_2 : W9.frozen? ⟨W3.heap.size, 2, none⟩ = false := (hf9 _ _ (by first | omega | go_size)).trans (by first | (with_reducible assumption) | (go_simp; done) | (simp [*]; done))
      have hl9_1_3 : W9.cell? ⟨W3.heap.size, 3, none⟩ = some (u64 d1) := (hc9 _ _ (by first | omega | go_size)).trans (by first | (with_reducible assumption) | go_cell)
      have hz9_1_3 : W9.frozen? ⟨W3.heap.size, 3, none⟩ = false := (hf9 _ _ (by first | omega | go_size)).trans (by first | (with_reducible assumption) | (go_simp; done) | (simp [*]; done))
      have hl9_1_4 : W9.cell? ⟨W3.heap.size, 4, none⟩ = some (u64 v1) := (hc9 _ _ (by first | omega | go_size)).trans (by first | (with_reducible assumption) | go_cell)
      have hz9_1_4 : W9.frozen? ⟨W3.heap.size, 4, none⟩ = false := (hf9 _ _ (by first | omega | go_size)).trans (by first | (with_reducible assumption) | (go_simp; done) | (simp [*]; done))
      have hk9_1 : W3.heap.size < W9.heap.size := by omega
      clear hg9 hc9 hf9
      go_wp2_with fail
      go_ret
      exact ⟨rfl, by go_grown⟩
    · have K1 := Lib.hid k1
      obtain ⟨ub, hub⟩ : ∃ x, u + b = x := ⟨_, rfl⟩
      rw [hub] at k2
      have K2 := Lib.hid k2
      have g3 : IntKind.u64.wrap (ub - u) = b := by rw [IntKind.wrap_u64]; omega
      clear k1 k2 hub
      refine (where_is true n 0 x0 e0 a i u q 0 hZ0.out hD0.out hE0.out wi K1.out _).mono ?_
      rintro eE W7 ⟨rfl, hg7⟩
      have hb7 : Below w.heap.size w W7 := (show Below w.heap.size w _ by go_grown).trans (hg7.mono (by first | omega | go_size))
      obtain ⟨hc7, hf7⟩ := bcell hg7
      have hs7 := hg7.size
      try simp only [World.size_alloc, World.size_setCell, World.size_drew] at hs7
      have hl7_0_0 : W7.cell? ⟨W2.heap.size, 0, none⟩ = some (.bool true) := (hc7 _ _ (by first | omega | go_size)).trans (by first | (with_reducible assumption) | go_cell)
      have hz7_0_0 : W7.frozen? ⟨W2.heap.size, 0, none⟩ = false := (hf7 _ _ (by first | omega | go_size)).trans (by first | (with_reducible assumption) | (go_simp; done) | (simp [*]; done))
      have hl7_0_1 : W7.cell? ⟨W2.heap.size, 1, none⟩ = some (num n) := (hc7 _ _ (by first | omega | go_size)).trans (by first | (with_reducible assumption) | go_cell)
      have hz7_0_1 : W7.frozen? ⟨W2.heap.size, 1, none⟩ = false := (hf7 _ _ (by first | omega | go_size)).trans (by first | (with_reducible assumption) | (go_simp; done) | (simp [*]; done))
      have hl7_0_2 : W7.cell? ⟨W2.heap.size, 2, none⟩ = some (u64 0) := (hc7 _ _ (by first | omega | go_size)).trans (by first | (with_reducible assumption) | go_cell)
      have hz7_0_2 : W7.frozen? ⟨W2.heap.size, 2, none⟩ = false := (hf7 _ _ (by first | omega | go_size)).trans (by first | (with_reducible assumption) | (go_simp; done) | (simp [*]; done))
      have hl7_0_3 : W7.cell? ⟨W2.heap.size, 3, none⟩ = some (u64 x0) := (hc7 _ _ (by first | omega | go_size)).trans (by first | (with_reducible assumption) | go_cell)
      have hz7_0_3 : W7.frozen? ⟨W2.heap.size, 3, none⟩ = false := (hf7 _ _ (by first | omega | go_size)).trans (by first | (with_reducible assumption) | (go_simp; done) | (simp [*]; done))
      have hl7_0_4 : W7.cell? ⟨W2.heap.size, 4, none⟩ = some (u64 e0) := (hc7 _ _ (by first | omega | go_size)).trans (by first | (with_reducible assumption) | go_cell)
      have hz7_0_4 : W7.frozen? ⟨W2.heap.size, 4, none⟩ = false := (hf7 _ _ (by first | omega | go_size)).trans (by first | (with_reducible assumption) | (go_simp; done) | (simp [*]; done))
      have hk7_0 : W2.heap.size < W7.heap.size := by omega
      have hl7_1_0 : W7.cell? ⟨W3.heap.size, 0, none⟩ = some (.bool true) := (hc7 _ _ (by first | omega | go_size)).trans (by first | (with_reducible assumption) | go_cell)
      have hz7_1_0 : W7.frozen? ⟨W3.heap.size, 0, none⟩ = false := (hf7 _ _ (by first | omega | go_size)).trans (by first | (with_reducible assumption) | (go_simp; done) | (simp [*]; done))
      have hl7_1_1 : W7.cell? ⟨W3.heap.size, 1, none⟩ = some (num n) := (hc7 _ _ (by first | omega | go_size)).trans (by first | (with_reducible assumption) | go_cell)
      have hz7_1_1 : W7.frozen? ⟨W3.heap.size, 1, none⟩ = false := (hf7 _ _ (by first | omega | go_size)).trans (by first | (with_reducible assumption) | (go_simp; done) | (simp [*]; done))
      have hl7_1_2 : W7.cell? ⟨W3.heap.size, 2, none⟩ = some (u64 b) := (hc7 _ _ (by first | omega | go_size)).trans (by first | (with_reducible assumption) | go_cell)
      have hz7_1_2 : W7.frozen? ⟨W3.heap.size, 2, none⟩ = false := (hf7 _ _ (by first | omega | go_size)).trans (by first | (with_reducible assumption) | (go_simp; done) | (simp [*]; done))
      have hl7_1_3 : W7.cell? ⟨W3.heap.size, 3, none⟩ = some (u64 d1) := (hc7 _ _ (by first | omega | go_size)).trans (by first | (with_reducible assumption) | go_cell)
      have hz7_1_3 : W7.frozen? ⟨W3.heap.size, 3, none⟩ = false := (hf7 _ _ (by first | omega | go_size)).trans (by first | (with_reducible assumption) | (go_simp; done) | (simp [*]; done))
      have hl7_1_4 : W7.cell? ⟨W3.heap.size, 4, none⟩ = some (u64 v1) := (hc7 _ _ (by first | omega | go_size)).trans (by first | (with_reducible assumption) | go_cell)
      have hz7_1_4 : W7.frozen? ⟨W3.heap.size, 4, none⟩ = false := (hf7 _ _ (by first | omega | go_size)).trans (by first | (with_reducible assumption) | (go_simp; done) | (simp [*]; done))
      have hk7_1 : W3.heap.size < W7.heap.size := by omega
      clear hg7 hc7 hf7
      go_wp2_with fail
      refine (where_is true n b d1 v1 a i ub q 0 hB1.out hD1.out hV1.out wi K2.out _).mono ?_
      rintro eE W8 ⟨rfl, hg8⟩
      have hb8 : Below w.heap.size w W8 := (show Below w.heap.size w _ by go_grown).trans (hg8.mono (by first | omega | go_size))
      obtain ⟨hc8, hf8⟩ := bcell hg8
      have hs8 := hg8.size
      try simp only [World.size_alloc, World.size_setCell, World.size_drew] at hs8
      have hl8_0_0 : W8.cell? ⟨W2.heap.size, 0, none⟩ = some (.bool true) := (hc8 _ _ (by first | omega | go_size)).trans (by first | (with_reducible assumption) | go_cell)
      have hz8_0_0 : W8.frozen? ⟨W2.heap.size, 0, none⟩ = false := (hf8 _ _ (by first | omega | go_size)).trans (by first | (with_reducible assumption) | (go_simp; done) | (simp [*]; done))
      have hl8_0_1 : W8.cell? ⟨W2.heap.size, 1, none⟩ = some (num n) := (hc8 _ _ (by first | omega | go_size)).trans (by first | (with_reducible assumption) | go_cell)
      have hz8_0_1 : W8.frozen? ⟨W2.heap.size, 1, none⟩ = false := (hf8 _ _ (by first | omega | go_size)).trans (by first | (with_reducible assumption) | (go_simp; done) | (simp [*]; done))
      have hl8_0_2 : W8.cell? ⟨W2.heap.size, 2, none⟩ = some (u64 0) := (hc8 _ _ (by first | omega | go_size)).trans (by first | (with_reducible assumption) | go_cell)
      have hz8_0_2 : W8.frozen? ⟨W2.heap.size, 2, none⟩ = false := (hf8 _ _ (by first | omega | go_size)).trans (by first | (with_reducible assumption) | (go_simp; done) | (simp [*]; done))
      have hl8_0_3 : W8.cell? ⟨W2.heap.size, 3, none⟩ = some (u64 x0) := (hc8 _ _ (by first | omega | go_size)).trans (by first | (with_reducible assumption) | go_cell)
      have hz8_0_3 : W8.frozen? ⟨W2.heap.size, 3, none⟩ = false := (hf8 _ _ (by first | omega | go_size)).trans (by first | (with_reducible assumption) | (go_simp; done) | (simp [*]; done))
      have hl8_0_4 : W8.cell? ⟨W2.heap.size, 4, none⟩ = some (u64 e0) := (hc8 _ _ (by first | omega | go_size)).trans (by first | (with_reducible assumption) | go_cell)
      have hz8_0_4 : W8.frozen? ⟨W2.heap.size, 4, none⟩ = false := (hf8 _ _ (by first | omega | go_size)).trans (by first | (with_reducible assumption) | (go_simp; done) | (simp [*]; done))
      have hk8_0 : W2.heap.size < W8.heap.size := by omega
      have hl8_1_0 : W8.cell? ⟨W3.heap.size, 0, none⟩ = some (.bool true) := (hc8 _ _ (by first | omega | go_size)).trans (by first | (with_reducible assumption) | go_cell)
      have hz8_1_0 : W8.frozen? ⟨W3.heap.size, 0, none⟩ = false := (hf8 _ _ (by first | omega | go_size)).trans (by first | (with_reducible assumption) | (go_simp; done) | (simp [*]; done))
      have hl8_1_1 : W8.cell? ⟨W3.heap.size, 1, none⟩ = some (num n) := (hc8 _ _ (by first | omega | go_size)).trans (by first | (with_reducible assumption) | go_cell)
      have hz8_1_1 : W8.frozen? ⟨W3.heap.size, 1, none⟩ = false := (hf8 _ _ (by first | omega | go_size)).trans (by first | (with_reducible assumption) | (go_simp; done) | (simp [*]; done))
      have hl8_1_2 : W8.cell? ⟨W3.heap.size, 2, none⟩ = some (u64 b) := (hc8 _ _ (by first | omega | go_size)).trans (by first | (with_reducible assumption) | go_cell)
      have hz8_1_2 : W8.frozen? ⟨W3.heap.size, 2, none⟩ = false := (hf8 _ _ (by first | omega | go_size)).trans (by first | (with_reducible assumption) | (go_simp; done) | (simp [*]; done))
      have hl8_1_3 : W8.cell? ⟨W3.heap.size, 3, none⟩ = some (u64 d1) := (hc8 _ _ (by first | omega | go_size)).trans (by first | (with_reducible assumption) | go_cell)
      have hz8_1_3 : W8.frozen? ⟨W3.heap.size, 3, none⟩ = false := (hf8 _ _ (by first | omega | go_size)).trans (by first | (with_reducible assumption) | (go_simp; done) | (simp [*]; done))
      have hl8_1_4 : W8.cell? ⟨W3.heap.size, 4, none⟩ = some (u64 v1) := (hc8 _ _ (by first | omega | go_size)).trans (by first | (with_reducible assumption) | go_cell)
      have hz8_1_4 : W8.frozen? ⟨W3.heap.size, 4, none⟩ = false := (hf8 _ _ (by first | omega | go_size)).trans (by first | (with_reducible assumption) | (go_simp; done) | (simp [*]; done))
      have hk8_1 : W3.heap.size < W8.heap.size := by omega
      clear hg8 hc8 hf8
      go_wp2_with fail
      refine (check_is true n b d1 v1 0 hB1.out hD1.out hV1.out HK1.out _).mono ?_
      rintro eE W9 ⟨rfl, hg9⟩
      have hb9 : Below w.heap.size w W9 := (show Below w.heap.size w _ by go_grown).trans (hg9.mono (by first | omega | go_size))
      obtain ⟨hc9, hf9⟩ := bcell hg9
      have hs9 := hg9.size
      try simp only [World.size_alloc, World.size_setCell, World.size_drew] at hs9
      have hl9_0_0 : W9.cell? ⟨W2.heap.size, 0, none⟩ = some (.bool true) := (hc9 _ _ (by first | omega | go_size)).trans (by first | (with_reducible assumption) | go_cell)
      have hz9_0_0 : W9.frozen? ⟨W2.heap.size, 0, none⟩ = false := (hf9 _ _ (by first | omega | go_size)).trans (by first | (with_reducible assumption) | (go_simp; done) | (simp [*]; done))
      have hl9_0_1 : W9.cell? ⟨W2.heap.size, 1, none⟩ = some (num n) := (hc9 _ _ (by first | omega | go_size)).trans (by first | (with_reducible assumption) | go_cell)
      have hz9_0_1 : W9.frozen? ⟨W2.heap.size, 1, none⟩ = false := (hf9 _ _ (by first | omega | go_size)).trans (by first | (with_reducible assumption) | (go_simp; done) | (simp [*]; done))
      have hl9_0_2 : W9.cell? ⟨W2.heap.size, 2, none⟩ = some (u64 0) := (hc9 _ _ (by first | omega | go_size)).trans (by first | (with_reducible assumption) | go_cell)
      have hz9_0_2 : W9.frozen? ⟨W2.heap.size, 2, none⟩ = false := (hf9 _ _ (by first | omega | go_size)).trans (by first | (with_reducible assumption) | (go_simp; done) | (simp [*]; done))
      have hl9_0_3 : W9.cell? ⟨W2.heap.size, 3, none⟩ = some (u64 x0) := (hc9 _ _ (by first | omega | go_size)).trans (by first | (with_reducible assumption) | go_cell)
      have hz9_0_3 : W9.frozen? ⟨W2.heap.size, 3, none⟩ = false := (hf9 _ _ (by first | omega | go_size)).trans (by first | (with_reducible assumption) | (go_simp; done) | (simp [*]; done))
      have hl9_0_4 : W9.cell? ⟨W2.heap.size, 4, none⟩ = some (u64 e0) := (hc9 _ _ (by first | omega | go_size)).trans (by first | (with_reducible assumption) | go_cell)
      have hz9_0_4 : W9.frozen? ⟨W2.heap.size, 4, none⟩ = false := (hf9 _ _ (by first | omega | go_size)).trans (by first | (with_reducible assumption) | (go_simp; done) | (simp [*]; done))
      have hk9_0 : W2.heap.size < W9.heap.size := by omega
      have hl9_1_0 : W9.cell? ⟨W3.heap.size, 0, none⟩ = some (.bool true) := (hc9 _ _ (by first | omega | go_size)).trans (by first | (with_reducible assumption) | go_cell)
      have hz9_1_0 : W9.frozen? ⟨W3.heap.size, 0, none⟩ = false := (hf9 _ _ (by first | omega | go_size)).trans (by first | (with_reducible assumption) | (go_simp; done) | (simp [*]; done))
      have hl9_1_1 : W9.cell? ⟨W3.heap.size, 1, none⟩ = some (num n) := (hc9 _ _ (by first | omega | go_size)).trans (by first | (with_reducible assumption) | go_cell)
      have hz9_1_1 : W9.frozen? ⟨W3.heap.size, 1, none⟩ = false := (hf9 _ _ (by first | omega | go_size)).trans (by first | (with_reducible assumption) | (go_simp; done) | (simp [*]; done))
      have hl9_1_2 : W9.cell? ⟨W3.heap.size, 2, none⟩ = some (u64 b) := (hc9 _ _ (by first | omega | go_size)).trans (by first | (with_reducible assumption) | go_cell)
      have hz9_1_2 : W9.frozen? ⟨W3.heap.size, 2, none⟩ = false := (hf9 _ _ (by first | omega | go_size)).trans (by first | (with_reducible assumption) | (go_simp; done) | (simp [*]; done))
      have hl9_1_3 : W9.cell? ⟨W3.heap.size, 3, none⟩ = some (u64 d1) := (hc9 _ _ (by first | omega | go_size)).trans (by first | (with_reducible assumption) | go_cell)
      have hz9_1_3 : W9.frozen? ⟨W3.heap.size, 3, none⟩ = false := (hf9 _ _ (by first | omega | go_size)).trans (by first | (with_reducible assumption) | (go_simp; done) | (simp [*]; done))
      have hl9_1_4 : W9.cell? ⟨W3.heap.size, 4, none⟩ = some (u64 v1) := (hc9 _ _ (by first | omega | go_size)).trans (by first | (with_reducible assumption) | go_cell)
      have hz9_1_4 : W9.frozen? ⟨W3.heap.size, 4, none⟩ = false := (hf9 _ _ (by first | omega | go_size)).trans (by first | (with_reducible assumption) | (go_simp; done) | (simp [*]; done))
      have hk9_1 : W3.heap.size < W9.heap.size := by omega
      clear hg9 hc9 hf9
      go_wp2_with fail
      go_ret
      exact ⟨rfl, by go_grown⟩
  · obtain ⟨yy0, j0⟩ : ∃ q, IntKind.u64.wrap (y0 - 6) = q := ⟨_, rfl⟩
    obtain ⟨yy1, j1⟩ : ∃ q, IntKind.u64.wrap (y1 - 6) = q := ⟨_, rfl⟩
    obtain ⟨zz0, j2⟩ : ∃ q, IntKind.u64.wrap (z0 - 6) = q := ⟨_, rfl⟩
    obtain ⟨zz1, j3⟩ : ∃ q, IntKind.u64.wrap (z1 - 6) = q := ⟨_, rfl⟩
    have j4 : IntKind.u64.wrap (2 * yy0) = yy1 := by rw [← j0, ← j1, IntKind.wrap_u64, IntKind.wrap_u64, IntKind.wrap_u64]; omega
    have j5 : IntKind.u64.wrap (2 * zz0) = zz1 := by rw [← j2, ← j3, IntKind.wrap_u64, IntKind.wrap_u64, IntKind.wrap_u64]; omega
    clear hy0 hy1 hz0 hz1
    have hb6 : Below w.heap.size w W6 := (show Below w.heap.size w _ by go_grown).trans (hg6.mono (by first | omega | go_size))
    obtain ⟨hc6, hf6⟩ := bcell hg6
    have hs6 := hg6.size
    try simp only [World.size_alloc, World.size_setCell, World.size_drew] at hs6
    have hl6_0_0 : W6.cell? ⟨W2.heap.size, 0, none⟩ = some (.bool false) := (hc6 _ _ (by first | omega | go_size)).trans (by first | (with_reducible assumption) | go_cell)
    have hz6_0_0 : W6.frozen? ⟨W2.heap.size, 0, none⟩ = false := (hf6 _ _ (by first | omega | go_size)).trans (by first | (with_reducible assumption) | (go_simp; done) | (simp [*]; done))
    have hl6_0_1 : W6.cell? ⟨W2.heap.size, 1, none⟩ = some (num n) := (hc6 _ _ (by first | omega | go_size)).trans (by first | (with_reducible assumption) | go_cell)
    have hz6_0_1 : W6.frozen? ⟨W2.heap.size, 1, none⟩ = false := (hf6 _ _ (by first | omega | go_size)).trans (by first | (with_reducible assumption) | (go_simp; done) | (simp [*]; done))
    have hl6_0_2 : W6.cell? ⟨W2.heap.size, 2, none⟩ = some (u64 0) := (hc6 _ _ (by first | omega | go_size)).trans (by first | (with_reducible assumption) | go_cell)
    have hz6_0_2 : W6.frozen? ⟨W2.heap.size, 2, none⟩ = false := (hf6 _ _ (by first | omega | go_size)).trans (by first | (with_reducible assumption) | (go_simp; done) | (simp [*]; done))
    have hl6_0_3 : W6.cell? ⟨W2.heap.size, 3, none⟩ = some (u64 x0) := (hc6 _ _ (by first | omega | go_size)).trans (by first | (with_reducible assumption) | go_cell)
    have hz6_0_3 : W6.frozen? ⟨W2.heap.size, 3, none⟩ = false := (hf6 _ _ (by first | omega | go_size)).trans (by first | (with_reducible assumption) | (go_simp; done) | (simp [*]; done))
    have hl6_0_4 : W6.cell? ⟨W2.heap.size, 4, none⟩ = some (u64 e0) := (hc6 _ _ (by first | omega | go_size)).trans (by first | (with_reducible assumption) | go_cell)
    have hz6_0_4 : W6.frozen? ⟨W2.heap.size, 4, none⟩ = false := (hf6 _ _ (by first | omega | go_size)).trans (by first | (with_reducible assumption) | (go_simp; done) | (simp [*]; done))
    have hk6_0 : W2.heap.size < W6.heap.size := by omega
    have hl6_1_0 : W6.cell? ⟨W3.heap.size, 0, none⟩ = some (.bool false) := (hc6 _ _ (by first | omega | go_size)).trans (by first | (with_reducible assumption) | go_cell)
    have hz6_1_0 : W6.frozen? ⟨W3.heap.size, 0, none⟩ = false := (hf6 _ _ (by first | omega | go_size)).trans (by first | (with_reducible assumption) | (go_simp; done) | (simp [*]; done))
    have hl6_1_1 : W6.cell? ⟨W3.heap.size, 1, none⟩ = some (num n) := (hc6 _ _ (by first | omega | go_size)).trans (by first | (with_reducible assumption) | go_cell)
    have hz6_1_1 : W6.frozen? ⟨W3.heap.size, 1, none⟩ = false := (hf6 _ _ (by first | omega | go_size)).trans (by first | (with_reducible assumption) | (go_simp; done) | (simp [*]; done))
    have hl6_1_2 : W6.cell? ⟨W3.heap.size, 2, none⟩ = some (u64 b) := (hc6 _ _ (by first | omega | go_size)).trans (by first | (with_reducible assumption) | go_cell)
    have hz6_1_2 : W6.frozen? ⟨W3.heap.size, 2, none⟩ = false := (hf6 _ _ (by first | omega | go_size)).trans (by first | (with_reducible assumption) | (go_simp; done) | (simp [*]; done))
    have hl6_1_3 : W6.cell? ⟨W3.heap.size, 3, none⟩ = some (u64 d1) := (hc6 _ _ (by first | omega | go_size)).trans (by first | (with_reducible assumption) | go_cell)
    have hz6_1_3 : W6.frozen? ⟨W3.heap.size, 3, none⟩ = false := (hf6 _ _ (by first | omega | go_size)).trans (by first | (with_reducible assumption) | (go_simp; done) | (simp [*]; done))
    have hl6_1_4 : W6.cell? ⟨W3.heap.size, 4, none⟩ = some (u64 v1) := (hc6 _ _ (by first | omega | go_size)).trans (by first | (with_reducible assumption) | go_cell)
    have hz6_1_4 : W6.frozen? ⟨W3.heap.size, 4, none⟩ = false := (hf6 _ _ (by first | omega | go_size)).trans (by first | (with_reducible assumption) | (go_simp; done) | (simp [*]; done))
    have hk6_1 : W3.heap.size < W6.heap.size := by omega
    clear hg6 hc6 hf6
    go_wp2_with fail
    refine (pick_some a3 11 (by omega) w3 _).mono ?_
    rintro e w' ⟨ka, ka1, ka2, rfl, rfl⟩
    go_wp2_with fail
    refine (pick_some a4 n (by omega) w4 _).mono ?_
    rintro e w' ⟨i, i1, i2, rfl, rfl⟩
    go_wp2_with fail
    obtain ⟨a, ha⟩ : ∃ a, 1 + ka = a := ⟨_, rfl⟩
    have ha1 : 1 ≤ a ∧ a ≤ 11 := by omega
    rw [ha]
    clear ha ka1 ka2
    have wi : (Lit.int .i64 i).wf = true := by unfold Lit.wf; rw [Bool.and_eq_true, decide_eq_true_eq, decide_eq_true_eq, show IntKind.i64.min = -9223372036854775808 from by decide, show IntKind.i64.max = 9223372036854775807 from by decide]; omega
    rcases HWM.out a i ha1 ⟨i1, i2⟩ with ⟨k1, k2⟩ | ⟨u, q, k1, k2, u1, u2⟩
    · have K1 := Lib.hid k1
      have K2 := Lib.hid k2
      clear k1 k2
      refine (where_is false n 0 x0 e0 a i 0 0 2 hZ0.out hD0.out hE0.out wi K1.out _).mono ?_
      rintro eE W7 ⟨rfl, hg7⟩
      have hb7 : Below w.heap.size w W7 := (show Below w.heap.size w _ by go_grown).trans (hg7.mono (by first | omega | go_size))
      obtain ⟨hc7, hf7⟩ := bcell hg7
      have hs7 := hg7.size
      try simp only [World.size_alloc, World.size_setCell, World.size_drew] at hs7
      have hl7_0_0 : W7.cell? ⟨W2.heap.size, 0, none⟩ = some (.bool false) := (hc7 _ _ (by first | omega | go_size)).trans (by first | (with_reducible assumption) | go_cell)
      have hz7_0_0 : W7.frozen? ⟨W2.heap.size, 0, none⟩ = false := (hf7 _ _ (by first | omega | go_size)).trans (by first | (with_reducible assumption) | (go_simp; done) | (simp [*]; done))
      have hl7_0_1 : W7.cell? ⟨W2.heap.size, 1, none⟩ = some (num n) := (hc7 _ _ (by first | omega | go_size)).trans (by first | (with_reducible assumption) | go_cell)
      have hz7_0_1 : W7.frozen? ⟨W2.heap.size, 1, none⟩ = false := (hf7 _ _ (by first | omega | go_size)).trans (by first | (with_reducible assumption) | (go_simp; done) | (simp [*]; done))
      have hl7_0_2 : W7.cell? ⟨W2.heap.size, 2, none⟩ = some (u64 0) := (hc7 _ _ (by first | omega | go_size)).trans (by first | (with_reducible assumption) | go_cell)
      have hz7_0_2 : W7.frozen? ⟨W2.heap.size, 2, none⟩ = false := (hf7 _ _ (by first | omega | go_size)).trans (by first | (with_reducible assumption) | (go_simp; done) | (simp [*]; done))
      have hl7_0_3 : W7.cell? ⟨W2.heap.size, 3, none⟩ = some (u64 x0) := (hc7 _ _ (by first | omega | go_size)).trans (by first | (with_reducible assumption) | go_cell)
      have hz7_0_3 : W7.frozen? ⟨W2.heap.size, 3, none⟩ = false := (hf7 _ _ (by first | omega | go_size)).trans (by first | (with_reducible assumption) | (go_simp; done) | (simp [*]; done))
      have hl7_0_4 : W7.cell? ⟨W2.heap.size, 4, none⟩ = some (u64 e0) := (hc7 _ _ (by first | omega | go_size)).trans (by first | (with_reducible assumption) | go_cell)
      have hz7_0_4 : W7.frozen? ⟨W2.heap.size, 4, none⟩ = false := (hf7 _ _ (by first | omega | go_size)).trans (by first | (with_reducible assumption) | (go_simp; done) | (simp [*]; done))
      have hk7_0 : W2.heap.size < W7.heap.size := by omega
      have hl7_1_0 : W7.cell? ⟨W3.heap.size, 0, none⟩ = some (.bool false) := (hc7 _ _ (by first | omega | go_size)).trans (by first | (with_reducible assumption) | go_cell)
      have hz7_1_0 : W7.frozen? ⟨W3.heap.size, 0, none⟩ = false := (hf7 _ _ (by first | omega | go_size)).trans (by first | (with_reducible assumption) | (go_simp; done) | (simp [*]; done))
      have hl7_1_1 : W7.cell? ⟨W3.heap.size, 1, none⟩ = some (num n) := (hc7 _ _ (by first | omega | go_size)).trans (by first | (with_reducible assumption) | go_cell)
      have hz7_1_1 : W7.frozen? ⟨W3.heap.size, 1, none⟩ = false := (hf7 _ _ (by first | omega | go_size)).trans (by first | (with_reducible assumption) | (go_simp; done) | (simp [*]; done))
      have hl7_1_2 : W7.cell? ⟨W3.heap.size, 2, none⟩ = some (u64 b) := (hc7 _ _ (by first | omega | go_size)).trans (by first | (with_reducible assumption) | go_cell)
      have hz7_1_2 : W7.frozen? ⟨W3.heap.size, 2, none⟩ = false := (hf7 _ _ (by first | omega | go_size)).trans (by first | (with_reducible assumption) | (go_simp; done) | (simp [*]; done))
      have hl7_1_3 : W7.cell? ⟨W3.heap.size, 3, none⟩ = some (u64 d1) := (hc7 _ _ (by first | omega | go_size)).trans (by first | (with_reducible assumption) | go_cell)
      have hz7_1_3 : W7.frozen? ⟨W3.heap.size, 3, none⟩ = false := (hf7 _ _ (by first | omega | go_size)).trans (by first | (with_reducible assumption) | (go_simp; done) | (simp [*]; done))
      have hl7_1_4 : W7.cell? ⟨W3.heap.size, 4, none⟩ = some (u64 v1) := (hc7 _ _ (by first | omega | go_size)).trans (by first | (with_reducible assumption) | go_cell)
      have hz7_1_4 : W7.frozen? ⟨W3.heap.size, 4, none⟩ = false := (hf7 _ _ (by first | omega | go_size)).trans (by first | (with_reducible assumption) | (go_simp; done) | (simp [*]; done))
      have hk7_1 : W3.heap.size < W7.heap.size := by omega
      clear hg7 hc7 hf7
      go_wp2_with fail
      refine (where_is false n b d1 v1 a i 0 0 2 hB1.out hD1.out hV1.out wi K2.out _).mono ?_
      rintro eE W8 ⟨rfl, hg8⟩
      have hb8 : Below w.heap.size w W8 := (show Below w.heap.size w _ by go_grown).trans (hg8.mono (by first | omega | go_size))
      obtain ⟨hc8, hf8⟩ := bcell hg8
      have hs8 := hg8.size
      try simp only [World.size_alloc, World.size_setCell, World.size_drew] at hs8
      have hl8_0_0 : W8.cell? ⟨W2.heap.size, 0, none⟩ = some (.bool false) := (hc8 _ _ (by first | omega | go_size)).trans (by first | (with_reducible assumption) | go_cell)
      have hz8_0_0 : W8.frozen? ⟨W2.heap.size, 0, none⟩ = false := (hf8 _ _ (by first | omega | go_size)).trans (by first | (with_reducible assumption) | (go_simp; done) | (simp [*]; done))
      have hl8_0_1 : W8.cell? ⟨W2.heap.size, 1, none⟩ = some (num n) := (hc8 _ _ (by first | omega | go_size)).trans (by first | (with_reducible assumption) | go_cell)
      have hz8_0_1 : W8.frozen? ⟨W2.heap.size, 1, none⟩ = false := (hf8 _ _ (by first | omega | go_size)).trans (by first | (with_reducible assumption) | (go_simp; done) | (simp [*]; done))
      have hl8_0_2 : W8.cell? ⟨W2.heap.size, 2, none⟩ = some (u64 0) := (hc8 _ _ (by first | omega | go_size)).trans (by first | (with_reducible assumption) | go_cell)
      have hz8_0_2 : W8.frozen? ⟨W2.heap.size, 2, none⟩ = false := (hf8 _ _ (by first | omega | go_size)).trans (by first | (with_reducible assumption) | (go_simp; done) | (simp [*]; done))
      have hl8_0_3 : W8.cell? ⟨W2.heap.size, 3, none⟩ = some (u64 x0) := (hc8 _ _ (by first | omega | go_size)).trans (by first | (with_reducible assumption) | go_cell)
      have hz8_0_3 : W8.frozen? ⟨W2.heap.size, 3, none⟩ = false := (hf8 _ _ (by first | omega | go_size)).trans (by first | (with_reducible assumption) | (go_simp; done) | (simp [*]; done))
      have hl8_0_4 : W8.cell? ⟨W2.heap.size, 4, none⟩ = some (u64 e0) := (hc8 _ _ (by first | omega | go_size)).trans (by first | (with_reducible assumption) | go_cell)
      have hz8_0_4 : W8.frozen? ⟨W2.heap.size, 4, none⟩ = false := (hf8 _ _ (by first | omega | go_size)).trans (by first | (with_reducible assumption) | (go_simp; done) | (simp [*]; done))
      have hk8_0 : W2.heap.size < W8.heap.size := by omega
      have hl8_1_0 : W8.cell? ⟨W3.heap.size, 0, none⟩ = some (.bool false) := (hc8 _ _ (by first | omega | go_size)).trans (by first | (with_reducible assumption) | go_cell)
      have hz8_1_0 : W8.frozen? ⟨W3.heap.size, 0, none⟩ = false := (hf8 _ _ (by first | omega | go_size)).trans (by first | (with_reducible assumption) | (go_simp; done) | (simp [*]; done))
      have hl8_1_1 : W8.cell? ⟨W3.heap.size, 1, none⟩ = some (num n) := (hc8 _ _ (by first | omega | go_size)).trans (by first | (with_reducible assumption) | go_cell)
      have hz8_1_1 : W8.frozen? ⟨W3.heap.size, 1, none⟩ = false := (hf8 _ _ (by first | omega | go_size)).trans (by first | (with_reducible assumption) | (go_simp; done) | (simp [*]; done))
      have hl8_1_2 : W8.cell? ⟨W3.heap.size, 2, none⟩ = some (u64 b) := (hc8 _ _ (by first | omega | go_size)).trans (by first | (with_reducible assumption) | go_cell)
      have hz8_1_2 : W8.frozen? ⟨W3.heap.size, 2, none⟩ = false := (hf8 _ _ (by first | omega | go_size)).trans (by first | (with_reducible assumption) | (go_simp; done) | (simp [*]; done))
      have hl8_1_3 : W8.cell? ⟨W3.heap.size, 3, none⟩ = some (u64 d1) := (hc8 _ _ (by first | omega | go_size)).trans (by first | (with_reducible assumption) | go_cell)
      have hz8_1_3 : W8.frozen? ⟨W3.heap.size, 3, none⟩ = false := (hf8 _ _ (by first | omega | go_size)).trans (by first | (with_reducible assumption) | (go_simp; done) | (simp [*]; done))
      have hl8_1_4 : W8.cell? ⟨W3.heap.size, 4, none⟩ = some (u64 v1) := (hc8 _ _ (by first | omega | go_size)).trans (by first | (with_reducible assumption) | go_cell)
      have hz8_1_4 : W8.frozen? ⟨W3.heap.size, 4, none⟩ = false := (hf8 _ _ (by first | omega | go_size)).trans (by first | (with_reducible assumption) | (go_simp; done) | (simp [*]; done))
      have hk8_1 : W3.heap.size < W8.heap.size := by omega
      clear hg8 hc8 hf8
      go_wp2_with fail
      refine (check_is false n b d1 v1 0 hB1.out hD1.out hV1.out HK1.out _).mono ?_
      rintro eE W9 ⟨rfl, hg9⟩
      have hb9 : Below w.heap.size w W9 := (show Below w.heap.size w _ by go_grown).trans (hg9.mono (by first | omega | go_size))
      obtain ⟨hc9, hf9⟩ := bcell hg9
      have hs9 := hg9.size
      try simp only [World.size_alloc, World.size_setCell, World.size_drew] at hs9
      have hl9_0_0 : W9.cell? ⟨W2.heap.size, 0, none⟩ = some (.bool false) := (hc9 _ _ (by first | omega | go_size)).trans (by first | (with_reducible assumption) | go_cell)
      have hz9_0_0 : W9.frozen? ⟨W2.heap.size, 0, none⟩ = false := (hf9 _ _ (by first | omega | go_size)).trans (by first | (with_reducible assumption) | (go_simp; done) | (simp [*]; done))
      have hl9_0_1 : W9.cell? ⟨W2.heap.size, 1, none⟩ = some (num n) := (hc9 _ _ (by first | omega | go_size)).trans (by first | (with_reducible assumption) | go_cell)
      have hz9_0_1 : W9.frozen? ⟨W2.heap.size, 1, none⟩ = false := (hf9 _ _ (by first | omega | go_size)).trans (by first | (with_reducible assumption) | (go_simp; done) | (simp [*]; done))
      have hl9_0_2 : W9.cell? ⟨W2.heap.size, 2, none⟩ = some (u64 0) := (hc9 _ _ (by first | omega | go_size)).trans (by first | (with_reducible assumption) | go_cell)
      have hz9_0_2 : W9.frozen? ⟨W2.heap.size, 2, none⟩ = false := (hf9 _ _ (by first | omega | go_size)).trans (by first | (with_reducible assumption) | (go_simp; done) | (simp [*]; done))
      have hl9_0_3 : W9.cell? ⟨W2.heap.size, 3, none⟩ = some (u64 x0) := (hc9 _ _ (by first | omega | go_size)).trans (by first | (with_reducible assumption) | go_cell)
      have hz9_0_3 : W9.frozen? ⟨W2.heap.size, 3, none⟩ = false := (hf9 _ _ (by first | omega | go_size)).trans (by first | (with_reducible assumption) | (go_simp; done) | (simp [*]; done))
      have hl9_0_4 : W9.cell? ⟨W2.heap.size, 4, none⟩ = some (u64 e0) := (hc9 _ _ (by first | omega | go_size)).trans (by first | (with_reducible assumption) | go_cell)
      have hz9_0_4 : W9.frozen? ⟨W2.heap.size, 4, none⟩ = false := (hf9 _ _ (by first | omega | go_size)).trans (by first | (with_reducible assumption) | (go_simp; done) | (simp [*]; done))
      have hk9_0 : W2.heap.size < W9.heap.size := by omega
      have hl9_1_0 : W9.cell? ⟨W3.heap.size, 0, none⟩ = some (.bool false) := (hc9 _ _ (by first | omega | go_size)).trans (by first | (with_reducible assumption) | go_cell)
      have hz9_1_0 : W9.frozen? ⟨W3.heap.size, 0, none⟩ = false := (hf9 _ _ (by first | omega | go_size)).trans (by first | (with_reducible assumption) | (go_simp; done) | (simp [*]; done))
      have hl9_1_1 : W9.cell? ⟨W3.heap.size, 1, none⟩ = some (num n) := (hc9 _ _ (by first | omega | go_size)).trans (by first | (with_reducible assumption) | go_cell)
      have hz9_1_1 : W9.frozen? ⟨W3.heap.size, 1, none⟩ = false := (hf9 _ _ (by first | omega | go_size)).trans (by first | (with_reducible assumption) | (go_simp; done) | (simp [*]; done))
      have hl9_1_2 : W9.cell? ⟨W3.heap.size, 2, none⟩ = some (u64 b) := (hc9 _ _ (by first | omega | go_size)).trans (by first | (with_reducible assumption) | go_cell)
      have hz9_1_2 : W9.frozen? ⟨W3.heap.size, 2, none⟩ = false := (hf9 _ _ (by first | omega | go_size)).trans (by first | (with_reducible assumption) | (go_simp; done) | (simp [*]; done))
      have hl9_1_3 : W9.cell? ⟨W3.heap.size, 3, none⟩ = some (u64 d1) := (hc9 _ _ (by first | omega | go_size)).trans (by first | (with_reducible assumption) | go_cell)
      have hz9_1_3 : W9.frozen? ⟨W3.heap.size, 3, none⟩ = false := (hf9 _ _ (by first | omega | go_size)).trans (by first | (with_reducible assumption) | (go_simp; done) | (simp [*]; done))
      have hl9_1_4 : W9.cell? ⟨W3.heap.size, 4, none⟩ = some (u64 v1) := (hc9 _ _ (by first | omega | go_size)).trans (by first | (with_reducible assumption) | go_cell)
      have hz9_1_4 : W9.frozen? ⟨W3.heap.size, 4, none⟩ = false := (hf9 _ _ (by first | omega | go_size)).trans (by first | (with_reducible assumption) | (go_simp; done) | (simp [*]; done))
      have hk9_1 : W3.heap.size < W9.heap.size := by omega
      clear hg9 hc9 hf9
      go_wp2_with fail
      go_ret
      exact ⟨rfl, by go_grown⟩
    · have K1 := Lib.hid k1
      obtain ⟨ub, hub⟩ : ∃ x, u + b = x := ⟨_, rfl⟩
      rw [hub] at k2
      have K2 := Lib.hid k2
      have g3 : IntKind.u64.wrap (ub - u) = b := by rw [IntKind.wrap_u64]; omega
      clear k1 k2 hub
      refine (where_is false n 0 x0 e0 a i u q 0 hZ0.out hD0.out hE0.out wi K1.out _).mono ?_
      rintro eE W7 ⟨rfl, hg7⟩
      have hb7 : Below w.heap.size w W7 := (show Below w.heap.size w _ by go_grown).trans (hg7.mono (by first | omega | go_size))
      obtain ⟨hc7, hf7⟩ := bcell hg7
      have hs7 := hg7.size
      try simp only [World.size_alloc, World.size_setCell, World.size_drew] at hs7
      have hl7_0_0 : W7.cell? ⟨W2.heap.size, 0, none⟩ = some (.bool false) := (hc7 _ _ (by first | omega | go_size)).trans (by first | (with_reducible assumption) | go_cell)
      have hz7_0_0 : W7.frozen? ⟨W2.heap.size, 0, none⟩ = false := (hf7 _ _ (by first | omega | go_size)).trans (by first | (with_reducible assumption) | (go_simp; done) | (simp [*]; done))
      have hl7_0_1 : W7.cell? ⟨W2.heap.size, 1, none⟩ = some (num n) := (hc7 _ _ (by first | omega | go_size)).trans (by first | (with_reducible assumption) | go_cell)
      have hz7_0_1 : W7.frozen? ⟨W2.heap.size, 1, none⟩ = false := (hf7 _ _ (by first | omega | go_size)).trans (by first | (with_reducible assumption) | (go_simp; done) | (simp [*]; done))
      have hl7_0_2 : W7.cell? ⟨W2.heap.size, 2, none⟩ = some (u64 0) := (hc7 _ _ (by first | omega | go_size)).trans (by first | (with_reducible assumption) | go_cell)
      have hz7_0_2 : W7.frozen? ⟨W2.heap.size, 2, none⟩ = false := (hf7 _ _ (by first | omega | go_size)).trans (by first | (with_reducible assumption) | (go_simp; done) | (simp [*]; done))
      have hl7_0_3 : W7.cell? ⟨W2.heap.size, 3, none⟩ = some (u64 x0) := (hc7 _ _ (by first | omega | go_size)).trans (by first | (with_reducible assumption) | go_cell)
      have hz7_0_3 : W7.frozen? ⟨W2.heap.size, 3, none⟩ = false := (hf7 _ _ (by first | omega | go_size)).trans (by first | (with_reducible assumption) | (go_simp; done) | (simp [*]; done))
      have hl7_0_4 : W7.cell? ⟨W2.heap.size, 4, none⟩ = some (u64 e0) := (hc7 _ _ (by first | omega | go_size)).trans (by first | (with_reducible assumption) | go_cell)
      have hz7_0_4 : W7.frozen? ⟨W2.heap.size, 4, none⟩ = false := (hf7 _ _ (by first | omega | go_size)).trans (by first | (with_reducible assumption) | (go_simp; done) | (simp [*]; done))
      have hk7_0 : W2.heap.size < W7.heap.size := by omega
      have hl7_1_0 : W7.cell? ⟨W3.heap.size, 0, none⟩ = some (.bool false) := (hc7 _ _ (by first | omega | go_size)).trans (by first | (with_reducible assumption) | go_cell)
      have hz7_1_0 : W7.frozen? ⟨W3.heap.size, 0, none⟩ = false := (hf7 _ _ (by first | omega | go_size)).trans (by first | (with_reducible assumption) | (go_simp; done) | (simp [*]; done))
      have hl7_1_1 : W7.cell? ⟨W3.heap.size, 1, none⟩ = some (num n) := (hc7 _ _ (by first | omega | go_size)).trans (by first | (with_reducible assumption) | go_cell)
      have hz7_1_1 : W7.frozen? ⟨W3.heap.size, 1, none⟩ = false := (hf7 _ _ (by first | omega | go_size)).trans (by first | (with_reducible assumption) | (go_simp; done) | (simp [*]; done))
      have hl7_1_2 : W7.cell? ⟨W3.heap.size, 2, none⟩ = some (u64 b) := (hc7 _ _ (by first | omega | go_size)).trans (by first | (with_reducible assumption) | go_cell)
      have hz7_1_2 : W7.frozen? ⟨W3.heap.size, 2, none⟩ = false := (hf7 _ _ (by first | omega | go_size)).trans (by first | (with_reducible assumption) | (go_simp; done) | (simp [*]; done))
      have hl7_1_3 : W7.cell? ⟨W3.heap.size, 3, none⟩ = some (u64 d1) := (hc7 _ _ (by first | omega | go_size)).trans (by first | (with_reducible assumption) | go_cell)
      have hz7_1_3 : W7.frozen? ⟨W3.heap.size, 3, none⟩ = false := (hf7 _ _ (by first | omega | go_size)).trans (by first | (with_reducible assumption) | (go_simp; done) | (simp [*]; done))
      have hl7_1_4 : W7.cell? ⟨W3.heap.size, 4, none⟩ = some (u64 v1) := (hc7 _ _ (by first | omega | go_size)).trans (by first | (with_reducible assumption) | go_cell)
      have hz7_1_4 : W7.frozen? ⟨W3.heap.size, 4, none⟩ = false := (hf7 _ _ (by first | omega | go_size)).trans (by first | (with_reducible assumption) | (go_simp; done) | (simp [*]; done))
      have hk7_1 : W3.heap.size < W7.heap.size := by omega
      clear hg7 hc7 hf7
      go_wp2_with fail
      refine (where_is false n b d1 v1 a i ub q 0 hB1.out hD1.out hV1.out wi K2.out _).mono ?_
      rintro eE W8 ⟨rfl, hg8⟩
      have hb8 : Below w.heap.size w W8 := (show Below w.heap.size w _ by go_grown).trans (hg8.mono (by first | omega | go_size))
      obtain ⟨hc8, hf8⟩ := bcell hg8
      have hs8 := hg8.size
      try simp only [World.size_alloc, World.size_setCell, World.size_drew] at hs8
      have hl8_0_0 : W8.cell? ⟨W2.heap.size, 0, none⟩ = some (.bool false) := (hc8 _ _ (by first | omega | go_size)).trans (by first | (with_reducible assumption) | go_cell)
      have hz8_0_0 : W8.frozen? ⟨W2.heap.size, 0, none⟩ = false := (hf8 _ _ (by first | omega | go_size)).trans (by first | (with_reducible assumption) | (go_simp; done) | (simp [*]; done))
      have hl8_0_1 : W8.cell? ⟨W2.heap.size, 1, none⟩ = some (num n) := (hc8 _ _ (by first | omega | go_size)).trans (by first | (with_reducible assumption) | go_cell)
      have hz8_0_1 : W8.frozen? ⟨W2.heap.size, 1, none⟩ = false := (hf8 _ _ (by first | omega | go_size)).trans (by first | (with_reducible assumption) | (go_simp; done) | (simp [*]; done))
      have hl8_0_2 : W8.cell? ⟨W2.heap.size, 2, none⟩ = some (u64 0) := (hc8 _ _ (by first | omega | go_size)).trans (by first | (with_reducible assumption) | go_cell)
      have hz8_0_2 : W8.frozen? ⟨W2.heap.size, 2, none⟩ = false := (hf8 _ _ (by first | omega | go_size)).trans (by first | (with_reducible assumption) | (go_simp; done) | (simp [*]; done))
      have hl8_0_3 : W8.cell? ⟨W2.heap.size, 3, none⟩ = some (u64 x0) := (hc8 _ _ (by first | omega | go_size)).trans (by first | (with_reducible assumption) | go_cell)
      have hz8_0_3 : W8.frozen? ⟨W2.heap.size, 3, none⟩ = false := (hf8 _ _ (by first | omega | go_size)).trans (by first | (with_reducible assumption) | (go_simp; done) | (simp [*]; done))
      have hl8_0_4 : W8.cell? ⟨W2.heap.size, 4, none⟩ = some (u64 e0) := (hc8 _ _ (by first | omega | go_size)).trans (by first | (with_reducible assumption) | go_cell)
      have hz8_0_4 : W8.frozen? ⟨W2.heap.size, 4, none⟩ = false := (hf8 _ _ (by first | omega | go_size)).trans (by first | (with_reducible assumption) | (go_simp; done) | (simp [*]; done))
      have hk8_0 : W2.heap.size < W8.heap.size := by omega
      have hl8_1_0 : W8.cell? ⟨W3.heap.size, 0, none⟩ = some (.bool false) := (hc8 _ _ (by first | omega | go_size)).trans (by first | (with_reducible assumption) | go_cell)
      have hz8_1_0 : W8.frozen? ⟨W3.heap.size, 0, none⟩ = false := (hf8 _ _ (by first | omega | go_size)).trans (by first | (with_reducible assumption) | (go_simp; done) | (simp [*]; done))
      have hl8_1_1 : W8.cell? ⟨W3.heap.size, 1, none⟩ = some (num n) := (hc8 _ _ (by first | omega | go_size)).trans (by first | (with_reducible assumption) | go_cell)
      have hz8_1_1 : W8.frozen? ⟨W3.heap.size, 1, none⟩ = false := (hf8 _ _ (by first | omega | go_size)).trans (by first | (with_reducible assumption) | (go_simp; done) | (simp [*]; done))
      have hl8_1_2 : W8.cell? ⟨W3.heap.size, 2, none⟩ = some (u64 b) := (hc8 _ _ (by first | omega | go_size)).trans (by first | (with_reducible assumption) | go_cell)
      have hz8_1_2 : W8.frozen? ⟨W3.heap.size, 2, none⟩ = false := (hf8 _ _ (by first | omega | go_size)).trans (by first | (with_reducible assumption) | (go_simp; done) | (simp [*]; done))
      have hl8_1_3 : W8.cell? ⟨W3.heap.size, 3, none⟩ = some (u64 d1) := (hc8 _ _ (by first | omega | go_size)).trans (by first | (with_reducible assumption) | go_cell)
      have hz8_1_3 : W8.frozen? ⟨W3.heap.size, 3, none⟩ = false := (hf8 _ _ (by first | omega | go_size)).trans (by first | (with_reducible assumption) | (go_simp; done) | (simp [*]; done))
      have hl8_1_4 : W8.cell? ⟨W3.heap.size, 4, none⟩ = some (u64 v1) := (hc8 _ _ (by first | omega | go_size)).trans (by first | (with_reducible assumption) | go_cell)
      have hz8_1_4 : W8.frozen? ⟨W3.heap.size, 4, none⟩ = false := (hf8 _ _ (by first | omega | go_size)).trans (by first | (with_reducible assumption) | (go_simp; done) | (simp [*]; done))
      have hk8_1 : W3.heap.size < W8.heap.size := by omega
      clear hg8 hc8 hf8
      go_wp2_with fail
      refine (check_is false n b d1 v1 0 hB1.out hD1.out hV1.out HK1.out _).mono ?_
      rintro eE W9 ⟨rfl, hg9⟩
      have hb9 : Below w.heap.size w W9 := (show Below w.heap.size w _ by go_grown).trans (hg9.mono (by first | omega | go_size))
      obtain ⟨hc9, hf9⟩ := bcell hg9
      have hs9 := hg9.size
      try simp only [World.size_alloc, World.size_setCell, World.size_drew] at hs9
      have hl9_0_0 : W9.cell? ⟨W2.heap.size, 0, none⟩ = some (.bool false) := (hc9 _ _ (by first | omega | go_size)).trans (by first | (with_reducible assumption) | go_cell)
      have hz9_0_0 : W9.frozen? ⟨W2.heap.size, 0, none⟩ = false := (hf9 _ _ (by first | omega | go_size)).trans (by first | (with_reducible assumption) | (go_simp; done) | (simp [*]; done))
      have hl9_0_1 : W9.cell? ⟨W2.heap.size, 1, none⟩ = some (num n) := (hc9 _ _ (by first | omega | go_size)).trans (by first | (with_reducible assumption) | go_cell)
      have hz9_0_1 : W9.frozen? ⟨W2.heap.size, 1, none⟩ = false := (hf9 _ _ (by first | omega | go_size)).trans (by first | (with_reducible assumption) | (go_simp; done) | (simp [*]; done))
      have hl9_0_2 : W9.cell? ⟨W2.heap.size, 2, none⟩ = some (u64 0) := (hc9 _ _ (by first | omega | go_size)).trans (by first | (with_reducible assumption) | go_cell)
      have hz9_0_2 : W9.frozen? ⟨W2.heap.size, 2, none⟩ = false := (hf9 _ _ (by first | omega | go_size)).trans (by first | (with_reducible assumption) | (go_simp; done) | (simp [*]; done))
      have hl9_0_3 : W9.cell? ⟨W2.heap.size, 3, none⟩ = some (u64 x0) := (hc9 _ _ (by first | omega | go_size)).trans (by first | (with_reducible assumption) | go_cell)
      have hz9_0_3 : W9.frozen? ⟨W2.heap.size, 3, none⟩ = false := (hf9 _ _ (by first | omega | go_size)).trans (by first | (with_reducible assumption) | (go_simp; done) | (simp [*]; done))
      have hl9_0_4 : W9.cell? ⟨W2.heap.size, 4, none⟩ = some (u64 e0) := (hc9 _ _ (by first | omega | go_size)).trans (by first | (with_reducible assumption) | go_cell)
      have hz9_0_4 : W9.frozen? ⟨W2.heap.size, 4, none⟩ = false := (hf9 _ _ (by first | omega | go_size)).trans (by first | (with_reducible assumption) | (go_simp; done) | (simp [*]; done))
      have hk9_0 : W2.heap.size < W9.heap.size := by omega
      have hl9_1_0 : W9.cell? ⟨W3.heap.size, 0, none⟩ = some (.bool false) := (hc9 _ _ (by first | omega | go_size)).trans (by first | (with_reducible assumption) | go_cell)
      have hz9_1_0 : W9.frozen? ⟨W3.heap.size, 0, none⟩ = false := (hf9 _ _ (by first | omega | go_size)).trans (by first | (with_reducible assumption) | (go_simp; done) | (simp [*]; done))
      have hl9_1_1 : W9.cell? ⟨W3.heap.size, 1, none⟩ = some (num n) := (hc9 _ _ (by first | omega | go_size)).trans (by first | (with_reducible assumption) | go_cell)
      have hz9_1_1 : W9.frozen? ⟨W3.heap.size, 1, none⟩ = false := (hf9 _ _ (by first | omega | go_size)).trans (by first | (with_reducible assumption) | (go_simp; done) | (simp [*]; done))
      have hl9_1_2 : W9.cell? ⟨W3.heap.size, 2, none⟩ = some (u64 b) := (hc9 _ _ (by first | omega | go_size)).trans (by first | (with_reducible assumption) | go_cell)
      have hz9_1_2 : W9.frozen? ⟨W3.heap.size, 2, none⟩ = false := (hf9 _ _ (by first | omega | go_size)).trans (by first | (with_reducible assumption) | (go_simp; done) | (simp [*]; done))
      have hl9_1_3 : W9.cell? ⟨W3.heap.size, 3, none⟩ = some (u64 d1) := (hc9 _ _ (by first | omega | go_size)).trans (by first | (with_reducible assumption) | go_cell)
      have hz9_1_3 : W9.frozen? ⟨W3.heap.size, 3, none⟩ = false := (hf9 _ _ (by first | omega | go_size)).trans (by first | (with_reducible assumption) | (go_simp; done) | (simp [*]; done))
      have hl9_1_4 : W9.cell? ⟨W3.heap.size, 4, none⟩ = some (u64 v1) := (hc9 _ _ (by first | omega | go_size)).trans (by first | (with_reducible assumption) | go_cell)
      have hz9_1_4 : W9.frozen? ⟨W3.heap.size, 4, none⟩ = false := (hf9 _ _ (by first | omega | go_size)).trans (by first | (with_reducible assumption) | (go_simp; done) | (simp [*]; done))
      have hk9_1 : W3.heap.size < W9.heap.size := by omega
      clear hg9 hc9 hf9
      go_wp2_with fail
      go_ret
      exact ⟨rfl, by go_grown⟩

set_option maxRecDepth 100000 in
theorem lifted (os : Os) (started : os.Started) (H : Type) (enc : TypeId × Value → H) :
    ReturnsInHanded {} Try.checked os 7 .any (Rows.layoutMovesSpec.pre6 enc Try.prog Try.f7 Rows.layoutMovesRow.domain false) (Rows.layoutMovesSpec.post enc Try.prog Try.f7 false true false false) := by
  refine Lib.lifted (C := Try.checked) (tb := 4) H enc Lib.own started (by kernel_rfl) Try.func7
    (ChangeSpec.witness6 (enc := enc) (C := Try.checked) false ⟨#[], #[.bool false, .int .i64 0, .int .u64 0, .int .i64 0, .int .i64 0], []⟩ 8 (by kernel_rfl) (by kernel_rfl) (by kernel_rfl) (by kernel_rfl))
    Lib.laidOut (Lib.readable_of (by kernel_rfl)) rfl Try.underlying4 rfl ?_ ?_
  · intro ds h
    match ds, h with
    | [_, _, _, _, _], _ => exact ⟨rfl, rfl, rfl⟩
  · intro W base args ds p hval hA hfz hlt
    rw [Try.params7] at hval
    have hA' : DataW.TrodAll enc Try.prog W 0 (fun _ => true) true Try.f7.params.toList args.toList ds p := hA
    rw [Try.params7] at hA'
    obtain ⟨v0, vs0, d0, ds0, p0, q0, hargs, rfl, rfl, h0, r0⟩ := trodAll_cons hA'
    obtain ⟨v1, vs1, d1, ds1, p1, q1, rfl, rfl, rfl, h1, r1⟩ := trodAll_cons r0
    obtain ⟨v2, vs2, d2, ds2, p2, q2, rfl, rfl, rfl, h2, r2⟩ := trodAll_cons r1
    obtain ⟨v3, vs3, d3, ds3, p3, q3, rfl, rfl, rfl, h3, r3⟩ := trodAll_cons r2
    obtain ⟨v4, vs4, d4, ds4, p4, q4, rfl, rfl, rfl, h4, r4⟩ := trodAll_cons r3
    obtain ⟨rfl, rfl, rfl⟩ := trodAll_nil r4
    obtain rfl : args = #[v0, v1, v2, v3, v4] := by cases args; simp_all
    obtain ⟨a0, rfl, rfl, rfl⟩ := open_bool Try.underlying4 (hval 0 4 v0 rfl rfl) h0
    obtain ⟨a1, rfl, rfl, rfl, w1⟩ := open_int Try.underlying3 (hval 1 3 v1 rfl rfl) h1
    obtain ⟨a2, rfl, rfl, rfl, w2⟩ := open_int Try.underlying22 (hval 2 22 v2 rfl rfl) h2
    obtain ⟨a3, rfl, rfl, rfl, w3⟩ := open_int Try.underlying3 (hval 3 3 v3 rfl rfl) h3
    obtain ⟨a4, rfl, rfl, rfl, w4⟩ := open_int Try.underlying3 (hval 4 3 v4 rfl rfl) h4
    exact walk a0 a1 a2 a3 a4 w1 w2 w3 w4 W

theorem over : Rows.layoutMovesRow.holds Try.pinned (OpenSpec.ofChange Rows.layoutMovesSpec) :=
  OpenClaim.holds_of_wide 7 Try.f7 rfl rfl rfl rfl rfl rfl rfl ⟨rfl, rfl, rfl, rfl, rfl⟩ rfl rfl rfl rfl rfl (by kernel_rfl) Try.func7 (by kernel_rfl)
    (of_decide_eq_true (by kernel_rfl)) (by unfold Func.isWrapper; first | (rw [if_pos (by decide +kernel)]; kernel_rfl) | (rw [if_neg (by decide +kernel)]; exact ⟨rfl, rfl⟩))
    (fun os started H enc _ => lifted os started H enc)

/-- The statement. -/
theorem proved : Rows.LayoutMovesSaid :=
  over

end Go.Proofs.Ytlcpdhplaaljaaa.LayoutMoves
