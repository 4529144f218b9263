/- The law LayoutPlaces: what is laid out is valid, at the first possible address, and fits in exactly as much memory as is reported. For every input; no condition. -/
import Derived.Test.YtlcpdhplaaljaaaLayMove
import Derived.Test.YtlcpdhplaaljaaaLayLives
import Derived.Test.YtlcpdhplaaljaaaLayFits
import Derived.Test.YtlcpdhplaaljaaaGmOne
import Derived.Deep.DeepCutAuto
namespace Go.Proofs.Ytlcpdhplaaljaaa.LayoutPlaces
open Go.ChangeShapes Go.WideShapes Go.ChangeAt Go.RowKit Ser Lay
set_option linter.unusedVariables false
set_option linter.unusedSimpArgs false

/-- What the law reckons with: a ring's numbers, placed at a base. -/
structure Facts (p : Bool) (n b d v e x y z t : Int) : Prop where
  n1 : 1 ≤ n ∧ n ≤ 256
  b1 : 0 ≤ b ∧ b ≤ 100000
  db : b ≤ d ∧ d ≤ b + 15
  hv : v = d + x
  he : v + y ≤ e ∧ e ≤ v + y + 3
  ht : e + z = b + t
  x1 : 16 ≤ x ∧ x ≤ 4096
  y1 : 4 ≤ y ∧ y ≤ 1000
  z1 : 4 ≤ z ∧ z ≤ 3000
  pl : placeI p n b = (p, n, d, v, e, t, 0)
  ck : checkB p n d v e = true
  pa : partsI p n = (x, y, z)
theorem facts {p : Bool} {n b : Int} (hs : sizeB p n = true) (hn : n ≤ 256) (hb : 0 ≤ b ∧ b ≤ 100000) : ∃ d v e x y z t, Facts p n b d v e x y z t := by
  have h1 := sizeB_in hs
  obtain ⟨g1, g2, g3⟩ := up16_in b
  have hu : 16 * n + yI p n ≤ c3 p n ∧ c3 p n ≤ 16 * n + yI p n + 3 ∧ c3 p n % 4 = 0 := up4_in (16 * n + yI p n)
  have hy : (yI p n = 4 ∧ zI p n = 4) ∨ (yI p n = 6 + 2 * n ∧ zI p n = 6 + 8 * n) := by
    unfold yI zI
    cases p <;> simp
  have hk := check_at (b := up16 b) hs (by omega) g3
  exact ⟨up16 b, up16 b + 16 * n, up16 b + c3 p n, 16 * n, yI p n, zI p n, up16 b - b + totI p n, ⟨⟨h1.1, hn⟩, hb, ⟨g1, g2⟩, rfl, by omega, by unfold totI; omega, by omega, by omega, by omega, place_gen hs (by omega), hk, parts_eq hs⟩⟩

theorem pow_size {j : Nat} (h : j ≤ 8) : sizeB false ((2 ^ j : Nat) : Int) = true ∧ ((2 ^ j : Nat) : Int) ≤ 256 := by
  have h2 : 2 ^ j ≤ 256 := Nat.pow_le_pow_right (n := 2) (by decide) h
  exact ⟨by unfold sizeB; rw [if_neg (by decide)]; exact pow_of (by omega), by omega⟩

set_option maxRecDepth 100000 in
set_option maxHeartbeats 3000000 in
theorem walk (p : Bool) (a1 a2 : Int) (w1 : (Lit.int .i64 a1).wf = true) (w2 : (Lit.int .u64 a2).wf = true) (w : World) :
    Calls Try.prog 6 #[.bool p, num a1, u64 a2] w (Lib.True1 w.heap.size w) := by
  unfold Lib.True1
  have hb0 : Below w.heap.size w w := Below.refl _ _
  have hb2 := bounds_u64 w2
  obtain ⟨b, hr⟩ : ∃ r, a2 % 100001 = r := ⟨_, rfl⟩
  have hb1' : 0 ≤ b ∧ b ≤ 100000 := by omega
  have hm : a2.tmod 100001 = b := by rw [Int.tmod_eq_emod_of_nonneg hb2.1]; exact hr
  clear hr w2 hb2
  go_enter Try.func6, Try.ntmps6
  go_wp2_with fail
  refine (lives_any _).mono ?_
  rintro eE W1 ⟨rfl, hg1⟩
  have hb1 : Below w.heap.size w W1 := (show Below w.heap.size w _ by go_grown).trans (hg1.mono (by first | omega | go_size))
  obtain ⟨hc1, hf1⟩ := bcell hg1
  have hs1 := hg1.size
  try simp only [World.size_alloc, World.size_setCell, World.size_drew] at hs1
  clear hg1 hc1 hf1
  go_wp2_with fail
  refine (pick_some a1 256 (by omega) w1 _).mono ?_
  rintro e w' ⟨k, hk1, hk2, rfl, rfl⟩
  go_upto_if 24 with fail
  go_cut [1, 7] (fun s q wx => ∃ n : Int, s = num n ∧ sizeB p n = true ∧ n ≤ 256 ∧ W1 = wx)
  case first =>
    cases p with
    | true =>
      go_wp2_with fail
      go_meet
      exact ⟨1 + k, by go_num, by unfold sizeB; rw [if_pos rfl]; exact decide_eq_true (by omega), by omega, rfl⟩
    | false =>
      go_wp2_with fail
      go_loop [7] (fun v => ∃ j : Nat, j ≤ 8 ∧ v = .int .i64 ((2 ^ j : Nat) : Int)) (fun v => (1000 - intOf v).toNat)
      case atStart => exact ⟨0, by omega, rfl⟩
      case round =>
        obtain ⟨j, hj, rfl⟩ := hrel
        have HP := Lib.hid (pow_size hj)
        have hb : 2 ^ j ≤ 2 ^ 8 := Nat.pow_le_pow_right (by decide) hj
        have h0 := Nat.two_pow_pos j
        have Hq : Hid (2 ^ (j + 1) = 2 * 2 ^ j) := Lib.hid (by rw [Nat.pow_succ]; omega)
        have H8 : Hid (2 ^ j < 256 → j < 8) := Lib.hid (fun h => by
          rcases Nat.lt_or_ge j 8 with h' | h'
          · exact h'
          · have : 2 ^ 8 ≤ 2 ^ j := Nat.pow_le_pow_right (by decide) h'
            omega)
        obtain ⟨q, hq⟩ : ∃ q, 2 ^ j = q := ⟨_, rfl⟩
        rw [hq] at hb h0 Hq H8 HP ⊢
        clear hq
        have hb' : (q : Int) ≤ 256 := by omega
        have h0' : 1 ≤ (q : Int) := by omega
        clear hb h0
        by_cases hlt : (q : Int) < 1 + k
        · go_wp2_with fail
          go_round
          case rel => exact ⟨j + 1, by have := H8.out (by omega); omega, by rw [Hq.out]; go_num⟩
          case measure => simp [intOf]; omega
        · go_wp2_with fail
          go_meet
          exact ⟨q, rfl, HP.out.1, HP.out.2, rfl⟩
  case rest =>
  obtain ⟨n, rfl, hs, hn, rfl⟩ := hcut
  obtain ⟨d, v, e, x, y, z, t, F⟩ := facts hs hn hb1'
  obtain ⟨⟨n1, n2⟩, _, ⟨db1, db2⟩, hv, ⟨he1, he2⟩, ht, ⟨x1, x2⟩, ⟨y1, y2⟩, ⟨z1, z2⟩, pl, ck, pa⟩ := F
  have HP := Lib.hid pl
  have HK := Lib.hid (show (if checkB p n d v e = true then (0 : Int) else 2) = 0 from by rw [ck]; rfl)
  have HCK := Lib.hid ck
  have HA := Lib.hid pa
  have HD := Lib.hid (show u64in d from by unfold u64in; omega)
  have HV := Lib.hid (show u64in v from by unfold u64in; omega)
  have HE := Lib.hid (show u64in e from by unfold u64in; omega)
  have HBB := Lib.hid (show u64in b from by unfold u64in; omega)
  have t1 : 24 ≤ t ∧ t ≤ 10000 := by omega
  have g1 : IntKind.u64.wrap (d - b) = d - b := by rw [IntKind.wrap_u64]; omega
  have g2 : decide (15 < d - b) = false := decide_eq_false (by omega)
  have g3 : decide (d < b) = false := decide_eq_false (by omega)
  have g4 : IntKind.u64.wrap (t - 1) = t - 1 := by rw [IntKind.wrap_u64]; omega
  have g5 : IntKind.u64.wrap (x + y) = x + y := by rw [IntKind.wrap_u64]; omega
  have g6 : IntKind.u64.wrap (x + y + z) = x + y + z := by rw [IntKind.wrap_u64]; omega
  have g7 : decide (x + y + z ≤ t) = true := decide_eq_true (by omega)
  have g8 : decide (t ≤ x + y + z + 15 + 3 + 3) = true := decide_eq_true (by omega)
  have g9 : IntKind.u64.wrap (d + x) = d + x := by rw [IntKind.wrap_u64]; omega
  have g10 : IntKind.u64.wrap (v + y) = v + y := by rw [IntKind.wrap_u64]; omega
  have g11 : decide (d + x ≤ v) = true := decide_eq_true (by omega)
  have g12 : decide (v + y ≤ e) = true := decide_eq_true (by omega)
  have HN := Lib.hid (And.intro hv (And.intro he1 (And.intro he2 ht)))
  clear pl ck pa hv ht hs
  go_wp2_with fail
  refine (place_is p n b _ HBB.out HP.out _).mono ?_
  rintro eE W2 ⟨rfl, hg2⟩
  have hb2 : Below w.heap.size w W2 := (show Below w.heap.size w _ by go_grown).trans (hg2.mono (by first | omega | go_size))
  obtain ⟨hc2, hf2⟩ := bcell hg2
  have hs2 := hg2.size
  try simp only [World.size_alloc, World.size_setCell, World.size_drew] at hs2
  clear hg2 hc2 hf2
  go_wp2_with fail
  refine (check_is p n d v e 0 HD.out HV.out HE.out HK.out _).mono ?_
  rintro eE W3 ⟨rfl, hg3⟩
  have hb3 : Below w.heap.size w W3 := (show Below w.heap.size w _ by go_grown).trans (hg3.mono (by first | omega | go_size))
  obtain ⟨hc3, hf3⟩ := bcell hg3
  have hs3 := hg3.size
  try simp only [World.size_alloc, World.size_setCell, World.size_drew] at hs3
  have hl3_0_0 : W3.cell? ⟨W2.heap.size, 0, none⟩ = some (.bool p) := (hc3 _ _ (by first | omega | go_size)).trans (by first | (with_reducible assumption) | go_cell)
  have hz3_0_0 : W3.frozen? ⟨W2.heap.size, 0, none⟩ = false := (hf3 _ _ (by first | omega | go_size)).trans (by first | (with_reducible assumption) | (go_simp; done) | (simp [*]; done))
  have hl3_0_1 : W3.cell? ⟨W2.heap.size, 1, none⟩ = some (.int .i64 n) := (hc3 _ _ (by first | omega | go_size)).trans (by first | (with_reducible assumption) | go_cell)
  have hz3_0_1 : W3.frozen? ⟨W2.heap.size, 1, none⟩ = false := (hf3 _ _ (by first | omega | go_size)).trans (by first | (with_reducible assumption) | (go_simp; done) | (simp [*]; done))
  have hl3_0_2 : W3.cell? ⟨W2.heap.size, 2, none⟩ = some (.int .u64 d) := (hc3 _ _ (by first | omega | go_size)).trans (by first | (with_reducible assumption) | go_cell)
  have hz3_0_2 : W3.frozen? ⟨W2.heap.size, 2, none⟩ = false := (hf3 _ _ (by first | omega | go_size)).trans (by first | (with_reducible assumption) | (go_simp; done) | (simp [*]; done))
  have hl3_0_3 : W3.cell? ⟨W2.heap.size, 3, none⟩ = some (.int .u64 v) := (hc3 _ _ (by first | omega | go_size)).trans (by first | (with_reducible assumption) | go_cell)
  have hz3_0_3 : W3.frozen? ⟨W2.heap.size, 3, none⟩ = false := (hf3 _ _ (by first | omega | go_size)).trans (by first | (with_reducible assumption) | (go_simp; done) | (simp [*]; done))
  have hl3_0_4 : W3.cell? ⟨W2.heap.size, 4, none⟩ = some (.int .u64 e) := (hc3 _ _ (by first | omega | go_size)).trans (by first | (with_reducible assumption) | go_cell)
  have hz3_0_4 : W3.frozen? ⟨W2.heap.size, 4, none⟩ = false := (hf3 _ _ (by first | omega | go_size)).trans (by first | (with_reducible assumption) | (go_simp; done) | (simp [*]; done))
  have hk3_0 : W2.heap.size < W3.heap.size := by omega
  clear hg3 hc3 hf3
  go_wp2_with fail
  refine (parts_is p n d v e x y z HA.out _).mono ?_
  rintro eE W4 ⟨rfl, hg4⟩
  have hb4 : Below w.heap.size w W4 := (show Below w.heap.size w _ by go_grown).trans (hg4.mono (by first | omega | go_size))
  obtain ⟨hc4, hf4⟩ := bcell hg4
  have hs4 := hg4.size
  try simp only [World.size_alloc, World.size_setCell, World.size_drew] at hs4
  have hl4_0_0 : W4.cell? ⟨W2.heap.size, 0, none⟩ = some (.bool p) := (hc4 _ _ (by first | omega | go_size)).trans (by first | (with_reducible assumption) | go_cell)
  have hz4_0_0 : W4.frozen? ⟨W2.heap.size, 0, none⟩ = false := (hf4 _ _ (by first | omega | go_size)).trans (by first | (with_reducible assumption) | (go_simp; done) | (simp [*]; done))
  have hl4_0_1 : W4.cell? ⟨W2.heap.size, 1, none⟩ = some (.int .i64 n) := (hc4 _ _ (by first | omega | go_size)).trans (by first | (with_reducible assumption) | go_cell)
  have hz4_0_1 : W4.frozen? ⟨W2.heap.size, 1, none⟩ = false := (hf4 _ _ (by first | omega | go_size)).trans (by first | (with_reducible assumption) | (go_simp; done) | (simp [*]; done))
  have hl4_0_2 : W4.cell? ⟨W2.heap.size, 2, none⟩ = some (.int .u64 d) := (hc4 _ _ (by first | omega | go_size)).trans (by first | (with_reducible assumption) | go_cell)
  have hz4_0_2 : W4.frozen? ⟨W2.heap.size, 2, none⟩ = false := (hf4 _ _ (by first | omega | go_size)).trans (by first | (with_reducible assumption) | (go_simp; done) | (simp [*]; done))
  have hl4_0_3 : W4.cell? ⟨W2.heap.size, 3, none⟩ = some (.int .u64 v) := (hc4 _ _ (by first | omega | go_size)).trans (by first | (with_reducible assumption) | go_cell)
  have hz4_0_3 : W4.frozen? ⟨W2.heap.size, 3, none⟩ = false := (hf4 _ _ (by first | omega | go_size)).trans (by first | (with_reducible assumption) | (go_simp; done) | (simp [*]; done))
  have hl4_0_4 : W4.cell? ⟨W2.heap.size, 4, none⟩ = some (.int .u64 e) := (hc4 _ _ (by first | omega | go_size)).trans (by first | (with_reducible assumption) | go_cell)
  have hz4_0_4 : W4.frozen? ⟨W2.heap.size, 4, none⟩ = false := (hf4 _ _ (by first | omega | go_size)).trans (by first | (with_reducible assumption) | (go_simp; done) | (simp [*]; done))
  have hk4_0 : W2.heap.size < W4.heap.size := by omega
  clear hg4 hc4 hf4
  go_wp2_with fail
  (with_reducible refine (GmOne.new_one b t W4.heap.size 1 _ (by omega) (by omega) (by omega) (by omega) (by go_cell) (by go_cell) (by go_size)).mono ?_)
  rintro eE W5 ⟨m, g1', b3, c2, n3, c3', A2, rfl, hM, hn3, hle, hrow, _, _, _, _, _, hg5⟩
  have HM5 := Lib.hid hM
  clear hM hrow
  have hb5 : Below w.heap.size w W5 := (show Below w.heap.size w _ by go_grown).trans (hg5.mono (by first | omega | go_size))
  obtain ⟨hc5, hf5⟩ := bcell hg5
  have hs5 := hg5.size
  try simp only [World.size_alloc, World.size_setCell, World.size_drew] at hs5
  have hl5_0_0 : W5.cell? ⟨W2.heap.size, 0, none⟩ = some (.bool p) := (hc5 _ _ (by first | omega | go_size)).trans (by first | (with_reducible assumption) | go_cell)
  have hz5_0_0 : W5.frozen? ⟨W2.heap.size, 0, none⟩ = false := (hf5 _ _ (by first | omega | go_size)).trans (by first | (with_reducible assumption) | (go_simp; done) | (simp [*]; done))
  have hl5_0_1 : W5.cell? ⟨W2.heap.size, 1, none⟩ = some (.int .i64 n) := (hc5 _ _ (by first | omega | go_size)).trans (by first | (with_reducible assumption) | go_cell)
  have hz5_0_1 : W5.frozen? ⟨W2.heap.size, 1, none⟩ = false := (hf5 _ _ (by first | omega | go_size)).trans (by first | (with_reducible assumption) | (go_simp; done) | (simp [*]; done))
  have hl5_0_2 : W5.cell? ⟨W2.heap.size, 2, none⟩ = some (.int .u64 d) := (hc5 _ _ (by first | omega | go_size)).trans (by first | (with_reducible assumption) | go_cell)
  have hz5_0_2 : W5.frozen? ⟨W2.heap.size, 2, none⟩ = false := (hf5 _ _ (by first | omega | go_size)).trans (by first | (with_reducible assumption) | (go_simp; done) | (simp [*]; done))
  have hl5_0_3 : W5.cell? ⟨W2.heap.size, 3, none⟩ = some (.int .u64 v) := (hc5 _ _ (by first | omega | go_size)).trans (by first | (with_reducible assumption) | go_cell)
  have hz5_0_3 : W5.frozen? ⟨W2.heap.size, 3, none⟩ = false := (hf5 _ _ (by first | omega | go_size)).trans (by first | (with_reducible assumption) | (go_simp; done) | (simp [*]; done))
  have hl5_0_4 : W5.cell? ⟨W2.heap.size, 4, none⟩ = some (.int .u64 e) := (hc5 _ _ (by first | omega | go_size)).trans (by first | (with_reducible assumption) | go_cell)
  have hz5_0_4 : W5.frozen? ⟨W2.heap.size, 4, none⟩ = false := (hf5 _ _ (by first | omega | go_size)).trans (by first | (with_reducible assumption) | (go_simp; done) | (simp [*]; done))
  have hk5_0 : W2.heap.size < W5.heap.size := by omega
  clear hg5 hc5 hf5
  go_wp2_with fail
  (with_reducible refine (GmOne.new_one b (t - 1) W5.heap.size 1 _ (by omega) (by omega) (by omega) (by omega) (by go_cell) (by go_cell) (by go_size)).mono ?_)
  rintro eE W6 ⟨m', g1'', b3', c2', n3', c3'', A2', rfl, hM', hn3', hle', hrow', _, _, _, _, _, hg6⟩
  have hb56 : Below W5.heap.size W5 W6 := (show Below W5.heap.size W5 _ by go_grown).trans (hg6.mono (by first | omega | go_size))
  have HM6 := Lib.hid (HM5.out.below hb56)
  have HS6 := Lib.hid hM'
  have p1 := Lib.hid (show (GmWord.place (GmOne.oneM b t) 1 d x).isSome = true from by obtain ⟨h1, h2, h3, h4⟩ := HN.out; rw [GmOne.place_one, if_pos ⟨by omega, by omega, by omega⟩]; rfl)
  have p2 := Lib.hid (show (GmWord.place (GmOne.oneM b t) 1 v y).isSome = true from by obtain ⟨h1, h2, h3, h4⟩ := HN.out; rw [GmOne.place_one, if_pos ⟨by omega, by omega, by omega⟩]; rfl)
  have p3 := Lib.hid (show (GmWord.place (GmOne.oneM b t) 1 e z).isSome = true from by obtain ⟨h1, h2, h3, h4⟩ := HN.out; rw [GmOne.place_one, if_pos ⟨by omega, by omega, by omega⟩]; rfl)
  have q1 := Lib.hid (show (GmWord.place (GmOne.oneM b (t - 1)) 1 d x).isSome = true from by obtain ⟨h1, h2, h3, h4⟩ := HN.out; rw [GmOne.place_one, if_pos ⟨by omega, by omega, by omega⟩]; rfl)
  have q2 := Lib.hid (show (GmWord.place (GmOne.oneM b (t - 1)) 1 v y).isSome = true from by obtain ⟨h1, h2, h3, h4⟩ := HN.out; rw [GmOne.place_one, if_pos ⟨by omega, by omega, by omega⟩]; rfl)
  have q3 := Lib.hid (show (GmWord.place (GmOne.oneM b (t - 1)) 1 e z).isSome = false from by obtain ⟨h1, h2, h3, h4⟩ := HN.out; rw [GmOne.place_one, if_neg (fun hh => by have := hh.2.2; omega)]; rfl)
  have I1 := Lib.hid (GmOne.one_in (a := b) (n := t) (by omega) (by omega) (by omega))
  have I2 := Lib.hid (GmOne.one_fits (a := b) (n := t) (n3 := n3) (by omega) hn3)
  have J1 := Lib.hid (GmOne.one_in (a := b) (n := t - 1) (by omega) (by omega) (by omega))
  have J2 := Lib.hid (GmOne.one_fits (a := b) (n := t - 1) (n3 := n3') (by omega) hn3')
  have k3 : n3 ≤ 1000000000 := by omega
  have k3' : n3' ≤ 1000000000 := by omega
  clear hM' hrow' hn3 hn3'
  have hb6 : Below w.heap.size w W6 := (show Below w.heap.size w _ by go_grown).trans (hg6.mono (by first | omega | go_size))
  obtain ⟨hc6, hf6⟩ := bcell hg6
  have hs6 := hg6.size
  try simp only [World.size_alloc, World.size_setCell, World.size_drew] at hs6
  have hl6_0_0 : W6.cell? ⟨W2.heap.size, 0, none⟩ = some (.bool p) := (hc6 _ _ (by first | omega | go_size)).trans (by first | (with_reducible assumption) | go_cell)
  have hz6_0_0 : W6.frozen? ⟨W2.heap.size, 0, none⟩ = false := (hf6 _ _ (by first | omega | go_size)).trans (by first | (with_reducible assumption) | (go_simp; done) | (simp [*]; done))
  have hl6_0_1 : W6.cell? ⟨W2.heap.size, 1, none⟩ = some (.int .i64 n) := (hc6 _ _ (by first | omega | go_size)).trans (by first | (with_reducible assumption) | go_cell)
  have hz6_0_1 : W6.frozen? ⟨W2.heap.size, 1, none⟩ = false := (hf6 _ _ (by first | omega | go_size)).trans (by first | (with_reducible assumption) | (go_simp; done) | (simp [*]; done))
  have hl6_0_2 : W6.cell? ⟨W2.heap.size, 2, none⟩ = some (.int .u64 d) := (hc6 _ _ (by first | omega | go_size)).trans (by first | (with_reducible assumption) | go_cell)
  have hz6_0_2 : W6.frozen? ⟨W2.heap.size, 2, none⟩ = false := (hf6 _ _ (by first | omega | go_size)).trans (by first | (with_reducible assumption) | (go_simp; done) | (simp [*]; done))
  have hl6_0_3 : W6.cell? ⟨W2.heap.size, 3, none⟩ = some (.int .u64 v) := (hc6 _ _ (by first | omega | go_size)).trans (by first | (with_reducible assumption) | go_cell)
  have hz6_0_3 : W6.frozen? ⟨W2.heap.size, 3, none⟩ = false := (hf6 _ _ (by first | omega | go_size)).trans (by first | (with_reducible assumption) | (go_simp; done) | (simp [*]; done))
  have hl6_0_4 : W6.cell? ⟨W2.heap.size, 4, none⟩ = some (.int .u64 e) := (hc6 _ _ (by first | omega | go_size)).trans (by first | (with_reducible assumption) | go_cell)
  have hz6_0_4 : W6.frozen? ⟨W2.heap.size, 4, none⟩ = false := (hf6 _ _ (by first | omega | go_size)).trans (by first | (with_reducible assumption) | (go_simp; done) | (simp [*]; done))
  have hk6_0 : W2.heap.size < W6.heap.size := by omega
  clear hg6 hc6 hf6
  go_wp2_with fail
  refine (fits_is p n d v e x y z 1 m g1' b3 (GmOne.oneM b t) true true true 0 _ (by decide) I1.out I2.out hle k3 HM6.out HD.out HV.out HE.out HCK.out HA.out p1.out p2.out p3.out rfl).mono ?_
  rintro eE W7 ⟨rfl, hg7⟩
  have HS7 := Lib.hid (HS6.out.below hg7)
  have hb7 : Below w.heap.size w W7 := (show Below w.heap.size w _ by go_grown).trans (hg7.mono (by first | omega | go_size))
  obtain ⟨hc7, hf7⟩ := bcell hg7
  have hs7 := hg7.size
  try simp only [World.size_alloc, World.size_setCell, World.size_drew] at hs7
  have hl7_0_0 : W7.cell? ⟨W2.heap.size, 0, none⟩ = some (.bool p) := (hc7 _ _ (by first | omega | go_size)).trans (by first | (with_reducible assumption) | go_cell)
  have hz7_0_0 : W7.frozen? ⟨W2.heap.size, 0, none⟩ = false := (hf7 _ _ (by first | omega | go_size)).trans (by first | (with_reducible assumption) | (go_simp; done) | (simp [*]; done))
  have hl7_0_1 : W7.cell? ⟨W2.heap.size, 1, none⟩ = some (.int .i64 n) := (hc7 _ _ (by first | omega | go_size)).trans (by first | (with_reducible assumption) | go_cell)
  have hz7_0_1 : W7.frozen? ⟨W2.heap.size, 1, none⟩ = false := (hf7 _ _ (by first | omega | go_size)).trans (by first | (with_reducible assumption) | (go_simp; done) | (simp [*]; done))
  have hl7_0_2 : W7.cell? ⟨W2.heap.size, 2, none⟩ = some (.int .u64 d) := (hc7 _ _ (by first | omega | go_size)).trans (by first | (with_reducible assumption) | go_cell)
  have hz7_0_2 : W7.frozen? ⟨W2.heap.size, 2, none⟩ = false := (hf7 _ _ (by first | omega | go_size)).trans (by first | (with_reducible assumption) | (go_simp; done) | (simp [*]; done))
  have hl7_0_3 : W7.cell? ⟨W2.heap.size, 3, none⟩ = some (.int .u64 v) := (hc7 _ _ (by first | omega | go_size)).trans (by first | (with_reducible assumption) | go_cell)
  have hz7_0_3 : W7.frozen? ⟨W2.heap.size, 3, none⟩ = false := (hf7 _ _ (by first | omega | go_size)).trans (by first | (with_reducible assumption) | (go_simp; done) | (simp [*]; done))
  have hl7_0_4 : W7.cell? ⟨W2.heap.size, 4, none⟩ = some (.int .u64 e) := (hc7 _ _ (by first | omega | go_size)).trans (by first | (with_reducible assumption) | go_cell)
  have hz7_0_4 : W7.frozen? ⟨W2.heap.size, 4, none⟩ = false := (hf7 _ _ (by first | omega | go_size)).trans (by first | (with_reducible assumption) | (go_simp; done) | (simp [*]; done))
  have hk7_0 : W2.heap.size < W7.heap.size := by omega
  clear hg7 hc7 hf7
  go_wp2_with fail
  refine (fits_is p n d v e x y z 1 m' g1'' b3' (GmOne.oneM b (t - 1)) true true false 5 _ (by decide) J1.out J2.out hle' k3' HS7.out HD.out HV.out HE.out HCK.out HA.out q1.out q2.out q3.out rfl).mono ?_
  rintro eE W8 ⟨rfl, hg8⟩
  have hb8 : Below w.heap.size w W8 := (show Below w.heap.size w _ by go_grown).trans (hg8.mono (by first | omega | go_size))
  obtain ⟨hc8, hf8⟩ := bcell hg8
  have hs8 := hg8.size
  try simp only [World.size_alloc, World.size_setCell, World.size_drew] at hs8
  have hl8_0_0 : W8.cell? ⟨W2.heap.size, 0, none⟩ = some (.bool p) := (hc8 _ _ (by first | omega | go_size)).trans (by first | (with_reducible assumption) | go_cell)
  have hz8_0_0 : W8.frozen? ⟨W2.heap.size, 0, none⟩ = false := (hf8 _ _ (by first | omega | go_size)).trans (by first | (with_reducible assumption) | (go_simp; done) | (simp [*]; done))
  have hl8_0_1 : W8.cell? ⟨W2.heap.size, 1, none⟩ = some (.int .i64 n) := (hc8 _ _ (by first | omega | go_size)).trans (by first | (with_reducible assumption) | go_cell)
  have hz8_0_1 : W8.frozen? ⟨W2.heap.size, 1, none⟩ = false := (hf8 _ _ (by first | omega | go_size)).trans (by first | (with_reducible assumption) | (go_simp; done) | (simp [*]; done))
  have hl8_0_2 : W8.cell? ⟨W2.heap.size, 2, none⟩ = some (.int .u64 d) := (hc8 _ _ (by first | omega | go_size)).trans (by first | (with_reducible assumption) | go_cell)
  have hz8_0_2 : W8.frozen? ⟨W2.heap.size, 2, none⟩ = false := (hf8 _ _ (by first | omega | go_size)).trans (by first | (with_reducible assumption) | (go_simp; done) | (simp [*]; done))
  have hl8_0_3 : W8.cell? ⟨W2.heap.size, 3, none⟩ = some (.int .u64 v) := (hc8 _ _ (by first | omega | go_size)).trans (by first | (with_reducible assumption) | go_cell)
  have hz8_0_3 : W8.frozen? ⟨W2.heap.size, 3, none⟩ = false := (hf8 _ _ (by first | omega | go_size)).trans (by first | (with_reducible assumption) | (go_simp; done) | (simp [*]; done))
  have hl8_0_4 : W8.cell? ⟨W2.heap.size, 4, none⟩ = some (.int .u64 e) := (hc8 _ _ (by first | omega | go_size)).trans (by first | (with_reducible assumption) | go_cell)
  have hz8_0_4 : W8.frozen? ⟨W2.heap.size, 4, none⟩ = false := (hf8 _ _ (by first | omega | go_size)).trans (by first | (with_reducible assumption) | (go_simp; done) | (simp [*]; done))
  have hk8_0 : W2.heap.size < W8.heap.size := by omega
  clear hg8 hc8 hf8
  go_wp2_with fail
  go_ret
  exact ⟨rfl, by go_grown⟩

set_option maxRecDepth 100000 in
theorem lifted (os : Os) (started : os.Started) (H : Type) (enc : TypeId × Value → H) :
    ReturnsInHanded {} Try.checked os 6 .any (Rows.layoutPlacesSpec.pre6 enc Try.prog Try.f6 Rows.layoutPlacesRow.domain false) (Rows.layoutPlacesSpec.post enc Try.prog Try.f6 false true false false) := by
  refine Lib.lifted (C := Try.checked) (tb := 4) H enc Lib.own started (by kernel_rfl) Try.func6
    (ChangeSpec.witness6 (enc := enc) (C := Try.checked) false ⟨#[], #[.bool false, .int .i64 0, .int .u64 0], []⟩ 8 (by kernel_rfl) (by kernel_rfl) (by kernel_rfl) (by kernel_rfl))
    Lib.laidOut (Lib.readable_of (by kernel_rfl)) rfl Try.underlying4 rfl ?_ ?_
  · intro ds h
    match ds, h with
    | [_, _, _], _ => exact ⟨rfl, rfl, rfl⟩
  · intro W base args ds p hval hA hfz hlt
    rw [Try.params6] at hval
    have hA' : DataW.TrodAll enc Try.prog W 0 (fun _ => true) true Try.f6.params.toList args.toList ds p := hA
    rw [Try.params6] at hA'
    obtain ⟨v0, vs0, d0, ds0, p0, q0, hargs, rfl, rfl, h0, r0⟩ := trodAll_cons hA'
    obtain ⟨v1, vs1, d1, ds1, p1, q1, rfl, rfl, rfl, h1, r1⟩ := trodAll_cons r0
    obtain ⟨v2, vs2, d2, ds2, p2, q2, rfl, rfl, rfl, h2, r2⟩ := trodAll_cons r1
    obtain ⟨rfl, rfl, rfl⟩ := trodAll_nil r2
    obtain rfl : args = #[v0, v1, v2] := by cases args; simp_all
    obtain ⟨a0, rfl, rfl, rfl⟩ := open_bool Try.underlying4 (hval 0 4 v0 rfl rfl) h0
    obtain ⟨a1, rfl, rfl, rfl, w1⟩ := open_int Try.underlying3 (hval 1 3 v1 rfl rfl) h1
    obtain ⟨a2, rfl, rfl, rfl, w2⟩ := open_int Try.underlying22 (hval 2 22 v2 rfl rfl) h2
    exact walk a0 a1 a2 w1 w2 W

theorem over : Rows.layoutPlacesRow.holds Try.pinned (OpenSpec.ofChange Rows.layoutPlacesSpec) :=
  OpenClaim.holds_of_wide 6 Try.f6 rfl rfl rfl rfl rfl rfl rfl ⟨rfl, rfl, rfl, rfl, rfl⟩ rfl rfl rfl rfl rfl (by kernel_rfl) Try.func6 (by kernel_rfl)
    (of_decide_eq_true (by kernel_rfl)) (by unfold Func.isWrapper; first | (rw [if_pos (by decide +kernel)]; kernel_rfl) | (rw [if_neg (by decide +kernel)]; exact ⟨rfl, rfl⟩))
    (fun os started H enc _ => lifted os started H enc)

/-- The statement. -/
theorem proved : Rows.LayoutPlacesSaid :=
  over

end Go.Proofs.Ytlcpdhplaaljaaa.LayoutPlaces
