/- The law SerialNeeds: of all events exactly those are needed that were passed. For every input; no condition. -/
import Derived.Test.YtgabbefghabcaaaSer
import Derived.Test.YtgabbefghabcaaaPos
namespace Go.Proofs.Ytgabbefghabcaaa.SerialNeeds
open Go.ChangeShapes Go.WideShapes Go.ChangeAt Go.RowKit Ser
set_option linter.unusedVariables false

theorem passed_of (a0 a1 a2 : Int) (h0 : 0 ≤ a0 ∧ a0 ≤ 65535) (h1 : 0 ≤ a1 ∧ a1 ≤ 65535) (h2 : 0 ≤ a2 ∧ a2 ≤ 65535) :
    passed a2 (IntKind.u16.wrap (a0 + a1)) a0 = decide (IntKind.u16.wrap (a2 - a0) < a1) := by
  unfold passed
  simp only [u16w]
  by_cases h : (a2 - a0) % 65536 < a1
  · simp only [h, decide_true]; simp; omega
  · simp only [h, decide_false]; simp; omega
theorem passed_self (a0 a2 : Int) (h0 : 0 ≤ a0 ∧ a0 ≤ 65535) (h2 : 0 ≤ a2 ∧ a2 ≤ 65535) : passed a2 a0 a0 = false := by
  unfold passed
  simp only [u16w]; simp; omega
theorem dist_of (a0 a1 : Int) (h0 : 0 ≤ a0 ∧ a0 ≤ 65535) (h1 : 0 ≤ a1 ∧ a1 ≤ 65535) : IntKind.u16.wrap (IntKind.u16.wrap (a0 + a1) - a0) = a1 := by
  simp only [u16w]; omega

theorem walk (a0 : Int) (a1 : Int) (a2 : Int) (w0 : (Lit.int .u16 a0).wf = true) (w1 : (Lit.int .u16 a1).wf = true) (w2 : (Lit.int .u16 a2).wf = true) (w : World) :
    Calls Try.prog 5 #[.int .u16 a0, .int .u16 a1, .int .u16 a2] w (Lib.True1 w.heap.size w) := by
  unfold Lib.True1
  have b0 := bounds_u16 w0
  have b1 := bounds_u16 w1
  have b2 := bounds_u16 w2
  have H1 := passed_of a0 a1 a2 b0 b1 b2
  have H2 := passed_self a0 a2 b0 b2
  have H3 := dist_of a0 a1 b0 b1
  clear w0 w1 w2
  generalize hn : passed a2 (IntKind.u16.wrap (a0 + a1)) a0 = n at H1
  by_cases hd : IntKind.u16.wrap (a2 - a0) < a1
  all_goals
    go_enter Try.func5, Try.ntmps5
    go_wp2_with fail
    refine (lives_any _).mono ?_
    rintro e w' ⟨rfl, hg⟩
    go_wp2_with fail
    refine (need_any _ _ _ _).mono ?_
    rintro e w' ⟨rfl, rfl⟩
    go_wp2_with fail
  all_goals
    refine (dist_any _ _ _).mono ?_
    rintro e w' ⟨rfl, rfl⟩
    rw [H3]
    go_wp2_with fail
    refine (need_any _ _ _ _).mono ?_
    rintro e w' ⟨rfl, rfl⟩
    rw [H2]
    go_wp2_with fail
    go_ret
    exact ⟨rfl, hg⟩

set_option maxRecDepth 100000 in
theorem lifted (os : Os) (started : os.Started) (H : Type) (enc : TypeId × Value → H) :
    ReturnsInHanded {} Try.checked os 5 .any (Rows.serialNeedsSpec.pre6 enc Try.prog Try.f5 Rows.serialNeedsRow.domain false) (Rows.serialNeedsSpec.post enc Try.prog Try.f5 false true false false) := by
  refine Lib.lifted (C := Try.checked) (tb := 4) H enc Lib.own started (by kernel_rfl) Try.func5
    (ChangeSpec.witness6 (enc := enc) (C := Try.checked) false ⟨#[], #[.int .u16 0, .int .u16 0, .int .u16 0], []⟩ 8 (by kernel_rfl) (by kernel_rfl) (by kernel_rfl) (by kernel_rfl))
    Lib.laidOut (Lib.readable_of (by kernel_rfl)) rfl Try.underlying4 rfl ?_ ?_
  · intro ds h
    match ds, h with
    | [_, _, _], _ => exact ⟨rfl, rfl, rfl⟩
  · intro W base args ds p hval hA hfz hlt
    rw [Try.params5] at hval
    have hA' : DataW.TrodAll enc Try.prog W 0 (fun _ => true) true Try.f5.params.toList args.toList ds p := hA
    rw [Try.params5] at hA'
    obtain ⟨v0, vs0, d0, ds0, p0, q0, hargs, rfl, rfl, h0, r0⟩ := trodAll_cons hA'
    obtain ⟨v1, vs1, d1, ds1, p1, q1, rfl, rfl, rfl, h1, r1⟩ := trodAll_cons r0
    obtain ⟨v2, vs2, d2, ds2, p2, q2, rfl, rfl, rfl, h2, r2⟩ := trodAll_cons r1
    obtain ⟨rfl, rfl, rfl⟩ := trodAll_nil r2
    obtain rfl : args = #[v0, v1, v2] := by cases args; simp_all
    obtain ⟨a0, rfl, rfl, rfl, w0⟩ := open_int Try.underlying28 (hval 0 28 v0 rfl rfl) h0
    obtain ⟨a1, rfl, rfl, rfl, w1⟩ := open_int Try.underlying28 (hval 1 28 v1 rfl rfl) h1
    obtain ⟨a2, rfl, rfl, rfl, w2⟩ := open_int Try.underlying28 (hval 2 28 v2 rfl rfl) h2
    exact walk a0 a1 a2 w0 w1 w2 W

theorem over : Rows.serialNeedsRow.holds Try.pinned (OpenSpec.ofChange Rows.serialNeedsSpec) :=
  OpenClaim.holds_of_wide 5 Try.f5 rfl rfl rfl rfl rfl rfl rfl ⟨rfl, rfl, rfl, rfl, rfl⟩ rfl rfl rfl rfl rfl (by kernel_rfl) Try.func5 (by kernel_rfl)
    (of_decide_eq_true (by kernel_rfl)) (by unfold Func.isWrapper; first | (rw [if_pos (by decide +kernel)]; kernel_rfl) | (rw [if_neg (by decide +kernel)]; exact ⟨rfl, rfl⟩))
    (fun os started H enc _ => lifted os started H enc)

/-- The statement. -/
theorem proved : Rows.SerialNeedsSaid :=
  over

end Go.Proofs.Ytgabbefghabcaaa.SerialNeeds
