/- The law GmemNil: an invalid memory returns ErrNil, or nothing. For every input; no condition. -/
import Derived.Test.YtfbhaecobkjgfaaEngZ
import Derived.Test.YtfbhaecobkjgfaaArgs
namespace Go.Proofs.Ytfbhaecobkjgfaa.GmemNil
open Go.ChangeShapes Go.WideShapes Go.ChangeAt Go.RowKit
set_option linter.unusedVariables false
set_option linter.unusedSimpArgs false

theorem envOk : (Eng.Env.of Try.prog).Ok := Eng.Env.of_ok _ (by kernel_rfl) (by kernel_rfl)
theorem lives_run : Eng.isTrue (Eng.runL (Eng.Env.of Try.prog) 100000 11 []) = true := by kernel_rfl
theorem lives_any (w : World) : Calls Try.prog 11 #[] w fun e w' => e = .returned (.bool true) ∧ Below w.heap.size w w' := Eng.runs envOk lives_run w

theorem load_nil (x y : Value) (w : World) : Calls Try.prog 9 #[.pointer none, x, y] w fun e w' => e = .returned (.tuple #[.int .u64 0, .int .i64 1]) ∧ Below w.heap.size w w' :=
  Eng.runsAny (E := Eng.Env.of Try.prog) (f := 1000) (args := [.pointer none, Eng.bot, Eng.bot]) envOk (by kernel_rfl) (by kernel_rfl) (.cons .ptr0 (.cons (.bot _ _) (.cons (.bot _ _) .nil))) w
theorem read_nil (x y : Value) (w : World) : Calls Try.prog 10 #[.pointer none, x, y] w fun e w' => e = .returned (.tuple #[.slice none 0 0, .int .i64 1]) ∧ Below w.heap.size w w' :=
  Eng.runsAny (E := Eng.Env.of Try.prog) (f := 1000) (args := [.pointer none, Eng.bot, Eng.bot]) envOk (by kernel_rfl) (by kernel_rfl) (.cons .ptr0 (.cons (.bot _ _) (.cons (.bot _ _) .nil))) w
theorem store_nil (x y z : Value) (w : World) : Calls Try.prog 22 #[.pointer none, x, y, z] w fun e w' => e = .returned (.int .i64 1) ∧ Below w.heap.size w w' :=
  Eng.runsAny (E := Eng.Env.of Try.prog) (f := 1000) (args := [.pointer none, Eng.bot, Eng.bot, Eng.bot]) envOk (by kernel_rfl) (by kernel_rfl) (.cons .ptr0 (.cons (.bot _ _) (.cons (.bot _ _) (.cons (.bot _ _) .nil)))) w
theorem write_nil (x y : Value) (w : World) : Calls Try.prog 12 #[.pointer none, x, y] w fun e w' => e = .returned (.int .i64 1) ∧ Below w.heap.size w w' :=
  Eng.runsAny (E := Eng.Env.of Try.prog) (f := 1000) (args := [.pointer none, Eng.bot, Eng.bot]) envOk (by kernel_rfl) (by kernel_rfl) (.cons .ptr0 (.cons (.bot _ _) (.cons (.bot _ _) .nil))) w
theorem has_nil (x y : Value) (w : World) : Calls Try.prog 14 #[.pointer none, x, y] w fun e w' => e = .returned (.bool false) ∧ Below w.heap.size w w' :=
  Eng.runsAny (E := Eng.Env.of Try.prog) (f := 1000) (args := [.pointer none, Eng.bot, Eng.bot]) envOk (by kernel_rfl) (by kernel_rfl) (.cons .ptr0 (.cons (.bot _ _) (.cons (.bot _ _) .nil))) w
theorem regions_nil (w : World) : Calls Try.prog 30 #[.pointer none] w fun e w' => e = .returned (.slice none 0 0) ∧ Below w.heap.size w w' :=
  Eng.runsAny (E := Eng.Env.of Try.prog) (f := 1000) (args := [.pointer none]) envOk (by kernel_rfl) (by kernel_rfl) (.cons .ptr0 .nil) w
theorem image_nil (w : World) : Calls Try.prog 13 #[.pointer none] w fun e w' => e = .returned (.slice none 0 0) ∧ Below w.heap.size w w' :=
  Eng.runsAny (E := Eng.Env.of Try.prog) (f := 1000) (args := [.pointer none]) envOk (by kernel_rfl) (by kernel_rfl) (.cons .ptr0 .nil) w

theorem len_any {W : World} {v : Value} {zs : List Int} (h : Args.IsInts W .u8 v zs) : ∃ a n c, v = .slice a n c ∧ n ≤ 9223372036854775807 := by
  rcases h with ⟨rfl, _⟩ | ⟨a, cap, rfl, h1, h2, _⟩
  · exact ⟨_, _, _, rfl, by omega⟩
  · unfold maxLen at h2; exact ⟨_, _, _, rfl, by omega⟩

set_option maxRecDepth 100000 in
set_option maxHeartbeats 1000000 in
theorem walk' (x y : Value) (a : Option Addr) (n c : Nat) (hn : n ≤ 9223372036854775807) (w : World) : Calls Try.prog 5 #[x, y, .slice a n c] w (Lib.True1 w.heap.size w) := by
  unfold Lib.True1
  have hb0 : Below w.heap.size w w := Below.refl _ _
  by_cases h : (2000 : Int) < (n : Int)
  · go_enter Try.func5, Try.ntmps5
    go_wp2_with fail
    refine (lives_any _).mono ?_
    rintro e W1 ⟨rfl, hg1⟩
    have hb1 : Below w.heap.size w W1 := (show Below w.heap.size w _ by go_grown).trans (hg1.mono (by go_size))
    obtain ⟨hc1, hf1⟩ := bcell hg1
    have hs1 := hg1.size
    try simp only [World.size_alloc, World.size_setCell, World.size_drew] at hs1
    clear hg1 hc1 hf1
    go_wp2_with fail
    go_ret
    exact ⟨rfl, by go_grown⟩
  · have h' : decide ((2000 : Int) < (n : Int)) = false := by simpa using h
    go_enter Try.func5, Try.ntmps5
    go_wp2_with fail
    refine (lives_any _).mono ?_
    rintro e W1 ⟨rfl, hg1⟩
    have hb1 : Below w.heap.size w W1 := (show Below w.heap.size w _ by go_grown).trans (hg1.mono (by go_size))
    obtain ⟨hc1, hf1⟩ := bcell hg1
    have hs1 := hg1.size
    try simp only [World.size_alloc, World.size_setCell, World.size_drew] at hs1
    clear hg1 hc1 hf1
    go_wp2_with fail
    refine (load_nil _ _ _).mono ?_
    rintro e W2 ⟨rfl, hg2⟩
    have hb2 : Below w.heap.size w W2 := (show Below w.heap.size w _ by go_grown).trans (hg2.mono (by go_size))
    obtain ⟨hc2, hf2⟩ := bcell hg2
    have hs2 := hg2.size
    try simp only [World.size_alloc, World.size_setCell, World.size_drew] at hs2
    clear hg2 hc2 hf2
    go_wp2_with fail
    refine (read_nil _ _ _).mono ?_
    rintro e W3 ⟨rfl, hg3⟩
    have hb3 : Below w.heap.size w W3 := (show Below w.heap.size w _ by go_grown).trans (hg3.mono (by go_size))
    obtain ⟨hc3, hf3⟩ := bcell hg3
    have hs3 := hg3.size
    try simp only [World.size_alloc, World.size_setCell, World.size_drew] at hs3
    clear hg3 hc3 hf3
    go_wp2_with fail
    refine (store_nil _ _ _ _).mono ?_
    rintro e W4 ⟨rfl, hg4⟩
    have hb4 : Below w.heap.size w W4 := (show Below w.heap.size w _ by go_grown).trans (hg4.mono (by go_size))
    obtain ⟨hc4, hf4⟩ := bcell hg4
    have hs4 := hg4.size
    try simp only [World.size_alloc, World.size_setCell, World.size_drew] at hs4
    clear hg4 hc4 hf4
    go_wp2_with fail
    refine (write_nil _ _ _).mono ?_
    rintro e W5 ⟨rfl, hg5⟩
    have hb5 : Below w.heap.size w W5 := (show Below w.heap.size w _ by go_grown).trans (hg5.mono (by go_size))
    obtain ⟨hc5, hf5⟩ := bcell hg5
    have hs5 := hg5.size
    try simp only [World.size_alloc, World.size_setCell, World.size_drew] at hs5
    clear hg5 hc5 hf5
    go_wp2_with fail
    refine (has_nil _ _ _).mono ?_
    rintro e W6 ⟨rfl, hg6⟩
    have hb6 : Below w.heap.size w W6 := (show Below w.heap.size w _ by go_grown).trans (hg6.mono (by go_size))
    obtain ⟨hc6, hf6⟩ := bcell hg6
    have hs6 := hg6.size
    try simp only [World.size_alloc, World.size_setCell, World.size_drew] at hs6
    clear hg6 hc6 hf6
    go_wp2_with fail
    refine (regions_nil _).mono ?_
    rintro e W7 ⟨rfl, hg7⟩
    have hb7 : Below w.heap.size w W7 := (show Below w.heap.size w _ by go_grown).trans (hg7.mono (by go_size))
    obtain ⟨hc7, hf7⟩ := bcell hg7
    have hs7 := hg7.size
    try simp only [World.size_alloc, World.size_setCell, World.size_drew] at hs7
    clear hg7 hc7 hf7
    go_wp2_with fail
    refine (image_nil _).mono ?_
    rintro e W8 ⟨rfl, hg8⟩
    have hb8 : Below w.heap.size w W8 := (show Below w.heap.size w _ by go_grown).trans (hg8.mono (by go_size))
    obtain ⟨hc8, hf8⟩ := bcell hg8
    have hs8 := hg8.size
    try simp only [World.size_alloc, World.size_setCell, World.size_drew] at hs8
    clear hg8 hc8 hf8
    go_wp2_with fail
    go_ret
    exact ⟨rfl, by go_grown⟩

theorem walk (a b : Int) (v : Value) (zs : List Int) (W : World) (w0 : (Lit.int .u64 a).wf = true) (w1 : (Lit.int .i64 b).wf = true) (w2 : Args.IsInts W .u8 v zs) : Calls Try.prog 5 #[.int .u64 a, .int .i64 b, v] W (Lib.True1 W.heap.size W) := by
  obtain ⟨p, n, c, rfl, hn⟩ := len_any w2
  exact walk' _ _ p n c hn W

set_option maxRecDepth 100000 in
theorem lifted (os : Os) (started : os.Started) (H : Type) (enc : TypeId × Value → H) :
    ReturnsInHanded {} Try.checked os 5 .any (Rows.gmemNilSpec.pre6 enc Try.prog Try.f5 Rows.gmemNilRow.domain false) (Rows.gmemNilSpec.post enc Try.prog Try.f5 false true false false) := by
  refine Lib.lifted (C := Try.checked) (tb := 4) H enc Lib.own started (by kernel_rfl) Try.func5
    (ChangeSpec.witness6 (enc := enc) (C := Try.checked) false ⟨#[], #[.int .u64 0, .int .i64 0, .slice none 0 0], []⟩ 8 (by kernel_rfl) (by kernel_rfl) (by kernel_rfl) (by kernel_rfl))
    Lib.laidOut (Lib.readable_of (by kernel_rfl)) rfl Try.underlying4 rfl ?_ ?_
  · intro ds h
    match ds, h with
    | [_, _, _], _ => exact ⟨rfl, rfl, rfl⟩
  · intro W base args ds p hval hA hfz hlt
    rw [Try.params5] at hval
    have hA' : DataW.TrodAll enc Try.prog W 0 (fun _ => true) true Try.f5.params.toList args.toList ds p := hA
    rw [Try.params5] at hA'
    obtain ⟨v0, vs0, d0, ds0, p0, q0, hargs, rfl, rfl, h0, r0⟩ := trodAll_cons hA'
    obtain ⟨v1, vs1, d1, ds1, p1, q1, rfl, rfl, rfl, h1, r1⟩ := trodAll_cons r0
    obtain ⟨v2, vs2, d2, ds2, p2, q2, rfl, rfl, rfl, h2, r2⟩ := trodAll_cons r1
    obtain ⟨rfl, rfl, rfl⟩ := trodAll_nil r2
    obtain rfl : args = #[v0, v1, v2] := by cases args; simp_all
    obtain ⟨a0, rfl, rfl, rfl, w0⟩ := open_int Try.underlying26 (hval 0 26 v0 rfl rfl) h0
    obtain ⟨a1, rfl, rfl, rfl, w1⟩ := open_int Try.underlying3 (hval 1 3 v1 rfl rfl) h1
    obtain ⟨zs2, w2⟩ := Args.open_ints Try.underlying32 Try.underlying5 (by kernel_rfl) (hval 2 32 v2 rfl rfl) h2 (fun x hx => hlt x (by simp [hx]))
    exact walk a0 a1 v2 zs2 W w0 w1 w2

theorem over : Rows.gmemNilRow.holds Try.pinned (OpenSpec.ofChange Rows.gmemNilSpec) :=
  OpenClaim.holds_of_wide 5 Try.f5 rfl rfl rfl rfl rfl rfl rfl ⟨rfl, rfl, rfl, rfl, rfl⟩ rfl rfl rfl rfl rfl (by kernel_rfl) Try.func5 (by kernel_rfl)
    (of_decide_eq_true (by kernel_rfl)) (by unfold Func.isWrapper; first | (rw [if_pos (by decide +kernel)]; kernel_rfl) | (rw [if_neg (by decide +kernel)]; exact ⟨rfl, rfl⟩))
    (fun os started H enc _ => lifted os started H enc)

/-- The statement. -/
theorem proved : Rows.GmemNilSaid :=
  over

end Go.Proofs.Ytfbhaecobkjgfaa.GmemNil
