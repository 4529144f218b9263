/- The law SerialSeen: the event of a position is needed exactly if it was passed. For every input; no condition. -/
import Derived.Test.YtgabbefghabcaaaSerFwd
import Derived.Test.YtgabbefghabcaaaPos
namespace Go.Proofs.Ytgabbefghabcaaa.SerialSeen
open Go.ChangeShapes Go.WideShapes Go.ChangeAt Go.RowKit Ser
set_option linter.unusedVariables false
set_option linter.unusedSimpArgs false

theorem walk (a0 a1 a2 a3 : Int) (b0 : Bool) (w0 : (Lit.int .i64 a0).wf = true) (w1 : (Lit.int .i64 a1).wf = true) (w2 : (Lit.int .i64 a2).wf = true) (w3 : (Lit.int .i64 a3).wf = true) (w : World) :
    Calls Try.prog 7 #[num a0, num a1, num a2, num a3, .bool b0] w (Lib.True1 w.heap.size w) := by
  unfold Lib.True1
  have hb0 : Below w.heap.size w w := Below.refl _ _
  go_enter Try.func7, Try.ntmps7
  go_wp2_with fail
  refine (lives_any _).mono ?_
  rintro e W1 ⟨rfl, hg1⟩
  have hb1 : Below w.heap.size w W1 := (show Below w.heap.size w _ by go_grown).trans (hg1.mono (by go_size))
  obtain ⟨hc1, hf1⟩ := bcell hg1
  have hs1 := hg1.size
  try simp only [World.size_alloc, World.size_setCell, World.size_drew] at hs1
  clear hg1 hc1 hf1
  go_wp2_with fail
  refine (pick_some a0 32768 (by omega) w0 _).mono ?_
  rintro e w' ⟨k, hk1, hk2, rfl, rfl⟩
  go_wp2_with fail
  obtain ⟨n, hn⟩ : ∃ n, 1 + k = n := ⟨_, rfl⟩
  have hn1 : 1 ≤ n := by omega
  have hn2 : n ≤ 32768 := by omega
  rw [hn]
  clear hn hk1 hk2
  refine (pick_some a1 n (by omega) w1 _).mono ?_
  rintro e w' ⟨p, hp1, hp2, rfl, rfl⟩
  go_wp2_with fail
  refine (pick_some a2 (n + 1) (by omega) w2 _).mono ?_
  rintro e w' ⟨m, hm1, hm2, rfl, rfl⟩
  go_wp2_with fail
  refine (pick_some a3 n (by omega) w3 _).mono ?_
  rintro e w' ⟨q, hq1, hq2, rfl, rfl⟩
  go_wp2_with fail
  obtain ⟨⟨x, xb⟩, hx⟩ : ∃ y : Int × Bool, fwd p b0 m n = y := ⟨_, rfl⟩
  obtain ⟨⟨z, zb⟩, hz⟩ : ∃ y : Int × Bool, fwd p b0 q n = y := ⟨_, rfl⟩
  have hxx := fwd_in p m n x b0 xb (by omega) hx
  have hzz := fwd_in p q n z b0 zb (by omega) hz
  have Hx := Lib.hid hx
  have Hz := Lib.hid hz
  clear hx hz
  refine (go_is p m n x b0 xb (by omega) Hx.out _).mono ?_
  rintro e W2 ⟨rfl, hg2⟩
  have hb2 : Below w.heap.size w W2 := (show Below w.heap.size w _ by go_grown).trans (hg2.mono (by go_size))
  obtain ⟨hc2, hf2⟩ := bcell hg2
  have hs2 := hg2.size
  try simp only [World.size_alloc, World.size_setCell, World.size_drew] at hs2
  have hl2_0_0 : W2.cell? ⟨W1.heap.size, 0, none⟩ = some (num p) := (hc2 _ _ (by go_size)).trans (by go_cell)
  have hz2_0_0 : W2.frozen? ⟨W1.heap.size, 0, none⟩ = false := (hf2 _ _ (by go_size)).trans (by first | (go_simp; done) | (simp [*]; done))
  have hl2_0_1 : W2.cell? ⟨W1.heap.size, 1, none⟩ = some (.bool b0) := (hc2 _ _ (by go_size)).trans (by go_cell)
  have hz2_0_1 : W2.frozen? ⟨W1.heap.size, 1, none⟩ = false := (hf2 _ _ (by go_size)).trans (by first | (go_simp; done) | (simp [*]; done))
  have hk2_0 : W1.heap.size < W2.heap.size := by omega
  clear hg2 hc2 hf2
  go_wp2_with fail
  refine (go_is p q n z b0 zb (by omega) Hz.out _).mono ?_
  rintro e W3 ⟨rfl, hg3⟩
  have hb3 : Below w.heap.size w W3 := (show Below w.heap.size w _ by go_grown).trans (hg3.mono (by go_size))
  obtain ⟨hc3, hf3⟩ := bcell hg3
  have hs3 := hg3.size
  try simp only [World.size_alloc, World.size_setCell, World.size_drew] at hs3
  have hl3_0_0 : W3.cell? ⟨W1.heap.size, 0, none⟩ = some (num p) := (hc3 _ _ (by go_size)).trans (by go_cell)
  have hz3_0_0 : W3.frozen? ⟨W1.heap.size, 0, none⟩ = false := (hf3 _ _ (by go_size)).trans (by first | (go_simp; done) | (simp [*]; done))
  have hl3_0_1 : W3.cell? ⟨W1.heap.size, 1, none⟩ = some (.bool b0) := (hc3 _ _ (by go_size)).trans (by go_cell)
  have hz3_0_1 : W3.frozen? ⟨W1.heap.size, 1, none⟩ = false := (hf3 _ _ (by go_size)).trans (by first | (go_simp; done) | (simp [*]; done))
  have hk3_0 : W1.heap.size < W3.heap.size := by omega
  have hl3_1_0 : W3.cell? ⟨W2.heap.size, 0, none⟩ = some (num x) := (hc3 _ _ (by go_size)).trans (by go_cell)
  have hz3_1_0 : W3.frozen? ⟨W2.heap.size, 0, none⟩ = false := (hf3 _ _ (by go_size)).trans (by first | (go_simp; done) | (simp [*]; done))
  have hl3_1_1 : W3.cell? ⟨W2.heap.size, 1, none⟩ = some (.bool xb) := (hc3 _ _ (by go_size)).trans (by go_cell)
  have hz3_1_1 : W3.frozen? ⟨W2.heap.size, 1, none⟩ = false := (hf3 _ _ (by go_size)).trans (by first | (go_simp; done) | (simp [*]; done))
  have hk3_1 : W2.heap.size < W3.heap.size := by omega
  clear hg3 hc3 hf3
  go_wp2_with fail
  by_cases hd : q < m
  all_goals
    refine (needat_is p m q n x z b0 xb zb (by omega) hq1 hq2 Hx.out Hz.out _).mono ?_
    rintro e W4 ⟨rfl, hg4⟩
    have hb4 : Below w.heap.size w W4 := (show Below w.heap.size w _ by go_grown).trans (hg4.mono (by go_size))
    obtain ⟨hc4, hf4⟩ := bcell hg4
    have hs4 := hg4.size
    try simp only [World.size_alloc, World.size_setCell, World.size_drew] at hs4
    have hl4_0_0 : W4.cell? ⟨W1.heap.size, 0, none⟩ = some (num p) := (hc4 _ _ (by go_size)).trans (by go_cell)
    have hz4_0_0 : W4.frozen? ⟨W1.heap.size, 0, none⟩ = false := (hf4 _ _ (by go_size)).trans (by first | (go_simp; done) | (simp [*]; done))
    have hl4_0_1 : W4.cell? ⟨W1.heap.size, 1, none⟩ = some (.bool b0) := (hc4 _ _ (by go_size)).trans (by go_cell)
    have hz4_0_1 : W4.frozen? ⟨W1.heap.size, 1, none⟩ = false := (hf4 _ _ (by go_size)).trans (by first | (go_simp; done) | (simp [*]; done))
    have hk4_0 : W1.heap.size < W4.heap.size := by omega
    have hl4_1_0 : W4.cell? ⟨W2.heap.size, 0, none⟩ = some (num x) := (hc4 _ _ (by go_size)).trans (by go_cell)
    have hz4_1_0 : W4.frozen? ⟨W2.heap.size, 0, none⟩ = false := (hf4 _ _ (by go_size)).trans (by first | (go_simp; done) | (simp [*]; done))
    have hl4_1_1 : W4.cell? ⟨W2.heap.size, 1, none⟩ = some (.bool xb) := (hc4 _ _ (by go_size)).trans (by go_cell)
    have hz4_1_1 : W4.frozen? ⟨W2.heap.size, 1, none⟩ = false := (hf4 _ _ (by go_size)).trans (by first | (go_simp; done) | (simp [*]; done))
    have hk4_1 : W2.heap.size < W4.heap.size := by omega
    have hl4_2_0 : W4.cell? ⟨W3.heap.size, 0, none⟩ = some (num z) := (hc4 _ _ (by go_size)).trans (by go_cell)
    have hz4_2_0 : W4.frozen? ⟨W3.heap.size, 0, none⟩ = false := (hf4 _ _ (by go_size)).trans (by first | (go_simp; done) | (simp [*]; done))
    have hl4_2_1 : W4.cell? ⟨W3.heap.size, 1, none⟩ = some (.bool zb) := (hc4 _ _ (by go_size)).trans (by go_cell)
    have hz4_2_1 : W4.frozen? ⟨W3.heap.size, 1, none⟩ = false := (hf4 _ _ (by go_size)).trans (by first | (go_simp; done) | (simp [*]; done))
    have hk4_2 : W3.heap.size < W4.heap.size := by omega
    clear hg4 hc4 hf4
    go_wp2_with fail
  all_goals
    go_ret
    exact ⟨rfl, by go_grown⟩

set_option maxRecDepth 100000 in
theorem lifted (os : Os) (started : os.Started) (H : Type) (enc : TypeId × Value → H) :
    ReturnsInHanded {} Try.checked os 7 .any (Rows.serialSeenSpec.pre6 enc Try.prog Try.f7 Rows.serialSeenRow.domain false) (Rows.serialSeenSpec.post enc Try.prog Try.f7 false true false false) := by
  refine Lib.lifted (C := Try.checked) (tb := 4) H enc Lib.own started (by kernel_rfl) Try.func7
    (ChangeSpec.witness6 (enc := enc) (C := Try.checked) false ⟨#[], #[.int .i64 0, .int .i64 0, .int .i64 0, .int .i64 0, .bool false], []⟩ 8 (by kernel_rfl) (by kernel_rfl) (by kernel_rfl) (by kernel_rfl))
    Lib.laidOut (Lib.readable_of (by kernel_rfl)) rfl Try.underlying4 rfl ?_ ?_
  · intro ds h
    match ds, h with
    | [_, _, _, _, _], _ => exact ⟨rfl, rfl, rfl⟩
  · intro W base args ds p hval hA hfz hlt
    rw [Try.params7] at hval
    have hA' : DataW.TrodAll enc Try.prog W 0 (fun _ => true) true Try.f7.params.toList args.toList ds p := hA
    rw [Try.params7] at hA'
    obtain ⟨v0, vs0, d0, ds0, p0, q0, hargs, rfl, rfl, h0, r0⟩ := trodAll_cons hA'
    obtain ⟨v1, vs1, d1, ds1, p1, q1, rfl, rfl, rfl, h1, r1⟩ := trodAll_cons r0
    obtain ⟨v2, vs2, d2, ds2, p2, q2, rfl, rfl, rfl, h2, r2⟩ := trodAll_cons r1
    obtain ⟨v3, vs3, d3, ds3, p3, q3, rfl, rfl, rfl, h3, r3⟩ := trodAll_cons r2
    obtain ⟨v4, vs4, d4, ds4, p4, q4, rfl, rfl, rfl, h4, r4⟩ := trodAll_cons r3
    obtain ⟨rfl, rfl, rfl⟩ := trodAll_nil r4
    obtain rfl : args = #[v0, v1, v2, v3, v4] := by cases args; simp_all
    obtain ⟨a0, rfl, rfl, rfl, w0⟩ := open_int Try.underlying3 (hval 0 3 v0 rfl rfl) h0
    obtain ⟨a1, rfl, rfl, rfl, w1⟩ := open_int Try.underlying3 (hval 1 3 v1 rfl rfl) h1
    obtain ⟨a2, rfl, rfl, rfl, w2⟩ := open_int Try.underlying3 (hval 2 3 v2 rfl rfl) h2
    obtain ⟨a3, rfl, rfl, rfl, w3⟩ := open_int Try.underlying3 (hval 3 3 v3 rfl rfl) h3
    obtain ⟨a4, rfl, rfl, rfl⟩ := open_bool Try.underlying4 (hval 4 4 v4 rfl rfl) h4
    exact walk a0 a1 a2 a3 a4 w0 w1 w2 w3 W

theorem over : Rows.serialSeenRow.holds Try.pinned (OpenSpec.ofChange Rows.serialSeenSpec) :=
  OpenClaim.holds_of_wide 7 Try.f7 rfl rfl rfl rfl rfl rfl rfl ⟨rfl, rfl, rfl, rfl, rfl⟩ rfl rfl rfl rfl rfl (by kernel_rfl) Try.func7 (by kernel_rfl)
    (of_decide_eq_true (by kernel_rfl)) (by unfold Func.isWrapper; first | (rw [if_pos (by decide +kernel)]; kernel_rfl) | (rw [if_neg (by decide +kernel)]; exact ⟨rfl, rfl⟩))
    (fun os started H enc _ => lifted os started H enc)

/-- The statement. -/
theorem proved : Rows.SerialSeenSaid :=
  over

end Go.Proofs.Ytgabbefghabcaaa.SerialSeen
