/- The law DescNames: the chapter's examples. No input; no condition. -/
import Derived.Test.YtcenfjfdddponaaDes
import Derived.Test.YtcenfjfdddponaaDesRT
namespace Go.Proofs.Ytcenfjfdddponaa.DescNames
open Go.ChangeShapes Go.WideShapes Go.ChangeAt Go.RowKit Rw DesPut DesRead DesRT
set_option linter.unusedVariables false
set_option linter.unusedSimpArgs false

theorem avail1 (w : World) : Calls Try.prog 43 #[.int .u16 128, .bool true] w fun e w' => e = .returned (.bool true) ∧ Below w.heap.size w w' :=
  Eng.runsAny (E := Eng.Env.of Try.prog) (f := 1000) (args := [.int .u16 128, .bool true]) Des.envOk (by kernel_rfl) (by kernel_rfl) (.cons (.int _ _) (.cons (.bool _) .nil)) w
theorem avail2 (w : World) : Calls Try.prog 43 #[.int .u16 32896, .bool true] w fun e w' => e = .returned (.bool false) ∧ Below w.heap.size w w' :=
  Eng.runsAny (E := Eng.Env.of Try.prog) (f := 1000) (args := [.int .u16 32896, .bool true]) Des.envOk (by kernel_rfl) (by kernel_rfl) (.cons (.int _ _) (.cons (.bool _) .nil)) w
theorem used1 (w : World) : Calls Try.prog 44 #[.int .u16 0, .bool false] w fun e w' => e = .returned (.bool true) ∧ Below w.heap.size w w' :=
  Eng.runsAny (E := Eng.Env.of Try.prog) (f := 1000) (args := [.int .u16 0, .bool false]) Des.envOk (by kernel_rfl) (by kernel_rfl) (.cons (.int _ _) (.cons (.bool _) .nil)) w
theorem uword (w : World) : Calls Try.prog 41 #[.agg #[.int .u32 1, .int .u32 2]] w fun e w' => e = .returned (.int .u64 8589934593) ∧ Below w.heap.size w w' :=
  Eng.runsAny (E := Eng.Env.of Try.prog) (f := 1000) (args := [.agg #[.int .u32 1, .int .u32 2]]) Des.envOk (by kernel_rfl) (by kernel_rfl) (.cons (.agg (.cons (.int _ _) (.cons (.int _ _) .nil))) .nil) w
theorem eword (w : World) : Calls Try.prog 42 #[.agg #[.int .u16 3, .int .u16 2]] w fun e w' => e = .returned (.int .u64 131075) ∧ Below w.heap.size w w' :=
  Eng.runsAny (E := Eng.Env.of Try.prog) (f := 1000) (args := [.agg #[.int .u16 3, .int .u16 2]]) Des.envOk (by kernel_rfl) (by kernel_rfl) (.cons (.agg (.cons (.int _ _) (.cons (.int _ _) .nil))) .nil) w
theorem rtable_17 (A : Option Addr) (c : Nat) (w : World) : Calls Try.prog 39 #[.slice A 17 c] w fun e w' => e = .returned (.tuple #[.slice none 0 0, .int .i64 4]) ∧ w = w' := rtable_bad A 17 c w (by decide) (by decide)
theorem rtable_nil (w : World) : Calls Try.prog 39 #[.slice none 0 0] w fun e w' => ∃ A c, e = .returned (.tuple #[.slice A 0 c, .int .i64 0]) ∧ Below w.heap.size w w' :=
  (rtable_any none 0 0 (fun _ => 0) w (by omega) (by omega) (fun i hi => by omega) (fun h => by omega)).mono fun e w' ⟨v, he, ho, hb⟩ => by
    rcases ho.2 with ⟨rfl, _⟩ | ⟨g, cap, cur, rfl, _⟩
    · exact ⟨_, _, he, hb⟩
    · exact ⟨_, _, he, hb⟩

set_option maxRecDepth 100000 in
set_option maxHeartbeats 4000000 in
theorem walk (w : World) : Calls Try.prog 8 #[] w (Lib.True1 w.heap.size w) := by
  unfold Lib.True1
  have hb0 : Below w.heap.size w w := Below.refl _ _
  obtain ⟨i0, hi, hz0, hz1, hz2⟩ := info_parts DesTab.u8info
  have H0 := Lib.hid hi
  have H1 := Lib.hid hz0
  have H2 := Lib.hid hz1
  have H3 := Lib.hid hz2
  clear hi hz0 hz1 hz2
  go_enter Try.func8, Try.ntmps8
  go_wp2_with (at_make; refine wpList_make_full _ rfl _ _ 32 rfl w.heap.size 5 i0 (.int .u8 0) 1 Try.underlying32 H0.out H1.out H2.out _ _ _ _ 15 rfl rfl rfl rfl (by rw [H3.out]; omega) (by unfold maxLen; omega) (Nat.le_refl _) ?_)
  intro w1 _ hg1
  have hbm1 : Below w.heap.size w w1 := (Below.refl _ w).grown hg1 (Nat.le_refl _) (fun k e => by cases e)
  have hsm1 := hg1.size
  clear hg1
  go_wp2_with fail
  refine (read_no _ 15 15 _ (by decide)).mono ?_
  rintro e W1 ⟨rfl, hg1⟩
  have hb1 : Below w.heap.size w W1 := (show Below w.heap.size w _ by go_grown).trans (hg1.mono (by first | omega | go_size))
  obtain ⟨hc1, hf1⟩ := bcell hg1
  have hs1 := hg1.size
  try simp only [World.size_alloc, World.size_setCell, World.size_drew] at hs1
  clear hg1 hc1 hf1
  go_wp2_with fail
  refine (pread_no _ 0 0 _ (by decide)).mono ?_
  rintro e W2 ⟨rfl, hg2⟩
  have hb2 : Below w.heap.size w W2 := (show Below w.heap.size w _ by go_grown).trans (hg2.mono (by go_size))
  have hs2 := hg2.size
  try simp only [World.size_alloc, World.size_setCell, World.size_drew] at hs2
  clear hg2
  go_wp2_with (at_make; refine wpList_make_full _ rfl _ _ 32 rfl w.heap.size 5 i0 (.int .u8 0) 1 Try.underlying32 H0.out H1.out H2.out _ _ _ _ 17 rfl rfl rfl rfl (by rw [H3.out]; omega) (by unfold maxLen; omega) (by simp; omega) ?_)
  intro w3 _ hg3
  have hbm3 : Below w.heap.size w w3 := (show Below w.heap.size w _ by go_grown).grown hg3 (by simp; omega) (fun k e => by cases e)
  have hsm3 := hg3.size
  simp only [World.size_alloc] at hsm3
  clear hg3
  go_wp2_with fail
  refine (rtable_17 _ _ _).mono ?_
  rintro e w' ⟨rfl, rfl⟩
  go_wp2_with fail
  refine (rtable_nil _).mono ?_
  rintro e W3 ⟨A, c, rfl, hg3⟩
  have hb3 : Below w.heap.size w W3 := (show Below w.heap.size w _ by go_grown).trans (hg3.mono (by first | omega | go_size))
  obtain ⟨hc3, hf3⟩ := bcell hg3
  have hs3 := hg3.size
  try simp only [World.size_alloc, World.size_setCell, World.size_drew] at hs3
  clear hg3 hc3 hf3
  go_wp2_with fail
  refine (Des.lives_any _).mono ?_
  rintro e W4 ⟨rfl, hg4⟩
  have hb4 : Below w.heap.size w W4 := (show Below w.heap.size w _ by go_grown).trans (hg4.mono (by first | omega | go_size))
  obtain ⟨hc4, hf4⟩ := bcell hg4
  have hs4 := hg4.size
  try simp only [World.size_alloc, World.size_setCell, World.size_drew] at hs4
  clear hg4 hc4 hf4
  go_wp2_with fail
  refine (uword _).mono ?_
  rintro e W5 ⟨rfl, hg5⟩
  have hb5 : Below w.heap.size w W5 := (show Below w.heap.size w _ by go_grown).trans (hg5.mono (by first | omega | go_size))
  obtain ⟨hc5, hf5⟩ := bcell hg5
  have hs5 := hg5.size
  try simp only [World.size_alloc, World.size_setCell, World.size_drew] at hs5
  clear hg5 hc5 hf5
  go_wp2_with fail
  refine (eword _).mono ?_
  rintro e W6 ⟨rfl, hg6⟩
  have hb6 : Below w.heap.size w W6 := (show Below w.heap.size w _ by go_grown).trans (hg6.mono (by first | omega | go_size))
  obtain ⟨hc6, hf6⟩ := bcell hg6
  have hs6 := hg6.size
  try simp only [World.size_alloc, World.size_setCell, World.size_drew] at hs6
  clear hg6 hc6 hf6
  go_wp2_with fail
  refine (avail1 _).mono ?_
  rintro e W7 ⟨rfl, hg7⟩
  have hb7 : Below w.heap.size w W7 := (show Below w.heap.size w _ by go_grown).trans (hg7.mono (by first | omega | go_size))
  obtain ⟨hc7, hf7⟩ := bcell hg7
  have hs7 := hg7.size
  try simp only [World.size_alloc, World.size_setCell, World.size_drew] at hs7
  clear hg7 hc7 hf7
  go_wp2_with fail
  refine (avail2 _).mono ?_
  rintro e W8 ⟨rfl, hg8⟩
  have hb8 : Below w.heap.size w W8 := (show Below w.heap.size w _ by go_grown).trans (hg8.mono (by first | omega | go_size))
  obtain ⟨hc8, hf8⟩ := bcell hg8
  have hs8 := hg8.size
  try simp only [World.size_alloc, World.size_setCell, World.size_drew] at hs8
  clear hg8 hc8 hf8
  go_wp2_with fail
  refine (used1 _).mono ?_
  rintro e W9 ⟨rfl, hg9⟩
  have hb9 : Below w.heap.size w W9 := (show Below w.heap.size w _ by go_grown).trans (hg9.mono (by first | omega | go_size))
  obtain ⟨hc9, hf9⟩ := bcell hg9
  have hs9 := hg9.size
  try simp only [World.size_alloc, World.size_setCell, World.size_drew] at hs9
  clear hg9 hc9 hf9
  go_wp2_with fail
  go_ret
  exact ⟨rfl, by go_grown⟩

set_option maxRecDepth 100000 in
theorem lifted (os : Os) (started : os.Started) (H : Type) (enc : TypeId × Value → H) :
    ReturnsInHanded {} Try.checked os 8 .any (Rows.descNamesSpec.pre6 enc Try.prog Try.f8 Rows.descNamesRow.domain false) (Rows.descNamesSpec.post enc Try.prog Try.f8 false true false false) := by
  refine Lib.lifted (C := Try.checked) (tb := 4) H enc Lib.own started (by kernel_rfl) Try.func8
    (ChangeSpec.witness6 (enc := enc) (C := Try.checked) false ⟨#[], #[], []⟩ 8 (by kernel_rfl) (by kernel_rfl) (by kernel_rfl) (by kernel_rfl))
    Lib.laidOut (Lib.readable_of (by kernel_rfl)) rfl Try.underlying4 rfl ?_ ?_
  · intro ds h
    match ds, h with
    | [], _ => exact ⟨rfl, rfl, rfl⟩
  · intro W base args ds p hval hA hfz hlt
    rw [Try.params8] at hval
    have hA' : DataW.TrodAll enc Try.prog W 0 (fun _ => true) true Try.f8.params.toList args.toList ds p := hA
    rw [Try.params8] at hA'
    obtain ⟨hargs, rfl, rfl⟩ := trodAll_nil hA'
    obtain rfl : args = #[] := by cases args; simp_all
    exact walk W

theorem over : Rows.descNamesRow.holds Try.pinned (OpenSpec.ofChange Rows.descNamesSpec) :=
  OpenClaim.holds_of_wide 8 Try.f8 rfl rfl rfl rfl rfl rfl rfl ⟨rfl, rfl, rfl, rfl, rfl⟩ rfl rfl rfl rfl rfl (by kernel_rfl) Try.func8 (by kernel_rfl)
    (of_decide_eq_true (by kernel_rfl)) (by unfold Func.isWrapper; first | (rw [if_pos (by decide +kernel)]; kernel_rfl) | (rw [if_neg (by decide +kernel)]; exact ⟨rfl, rfl⟩))
    (fun os started H enc _ => lifted os started H enc)

/-- The statement. -/
theorem proved : Rows.DescNamesSaid :=
  over

end Go.Proofs.Ytcenfjfdddponaa.DescNames
