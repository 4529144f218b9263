/- The law SerialNames: the chapter's examples. No input; no condition. -/
import Derived.Test.YtgabbefghabcaaaSer2s
import Derived.Test.YtgabbefghabcaaaSer3
import Derived.Test.YtgabbefghabcaaaPos
namespace Go.Proofs.Ytgabbefghabcaaa.SerialNames
open Go.ChangeShapes Go.WideShapes Go.ChangeAt Go.RowKit Ser
set_option linter.unusedVariables false

theorem walk (w : World) : Calls Try.prog 3 #[] w (Lib.True1 w.heap.size w) := by
  unfold Lib.True1
  have hb0 : Below w.heap.size w w := Below.refl _ _
  have p1 : powB 32768 = true := by decide
  have p2 : powB 65536 = false := by decide
  have p3 : powB 0 = false := by decide
  have p4 : powB 12 = false := by decide
  go_enter Try.func3, Try.ntmps3
  go_wp2_with fail
  refine (s_go_no 4 1 4 false (by omega) _).mono ?_
  rintro e w1 ⟨rfl, hg1⟩
  have hb1 : Below w.heap.size w w1 := (show Below w.heap.size w _ by go_grown).trans (hg1.mono (by go_size))
  obtain ⟨hc1, hf1⟩ := bcell hg1
  have hs1 := hb1.size
  clear hg1
  go_wp2_with fail
  refine (s_read_none 4 4 (by omega) (by omega) (by omega) _).mono ?_
  rintro e w2 ⟨rfl, hg2⟩
  have hb2 : Below w.heap.size w w2 := (show Below w.heap.size w _ by go_grown).trans (hg2.mono (by go_size))
  obtain ⟨hc2, hf2⟩ := bcell hg2
  have hs2 := hb2.size
  clear hg2
  go_wp2_with fail
  refine (s_read_no 0 0 (by omega) _).mono ?_
  rintro e w3 ⟨rfl, hg3⟩
  have hb3 : Below w.heap.size w w3 := (show Below w.heap.size w _ by go_grown).trans (hg3.mono (by go_size))
  obtain ⟨hc3, hf3⟩ := bcell hg3
  have hs3 := hb3.size
  clear hg3
  go_wp2_with fail
  refine (s_read_yes 32771 4 (by omega) (by omega) (by omega) _).mono ?_
  rintro e w4 ⟨rfl, hg4⟩
  have hb4 : Below w.heap.size w w4 := (show Below w.heap.size w _ by go_grown).trans (hg4.mono (by go_size))
  obtain ⟨hc4, hf4⟩ := bcell hg4
  have hs4 := hb4.size
  clear hg4
  go_wp2_with fail
  refine (s_align_bad 5 3 2 (by omega) (by unfold u64in; omega) (by omega) (by decide) _).mono ?_
  rintro e w' ⟨rfl, rfl⟩
  go_wp2_with fail
  refine (s_align_over 18446744073709551615 2 1 (by omega) (by omega) (by omega) (by omega) (by unfold u64in; omega) (by unfold u64in; omega) (by unfold u64over; omega) (by decide) (by decide) (by decide) _).mono ?_
  rintro e w' ⟨rfl, rfl⟩
  go_wp2_with fail
  refine (s_align_up 5 4 1 (by omega) (by omega) (by omega) (by omega) (by unfold u64in; omega) (by unfold u64in; omega) (by unfold u64in; omega) (by decide) (by decide) (by decide) _).mono ?_
  rintro e w' ⟨rfl, rfl⟩
  go_wp2_with fail
  refine (lives_any _).mono ?_
  rintro e w5 ⟨rfl, hg5⟩
  have hb5 : Below w.heap.size w w5 := (show Below w.heap.size w _ by go_grown).trans (hg5.mono (by go_size))
  obtain ⟨hc5, hf5⟩ := bcell hg5
  have hs5 := hb5.size
  clear hg5
  go_wp2_with fail
  refine (s_start _).mono ?_
  rintro e w6 ⟨rfl, hg6⟩
  have hb6 : Below w.heap.size w w6 := (show Below w.heap.size w _ by go_grown).trans (hg6.mono (by go_size))
  obtain ⟨hc6, hf6⟩ := bcell hg6
  have hs6 := hb6.size
  clear hg6
  go_wp2_with fail
  refine (s_power_any 32768 _).mono ?_
  rintro e w' ⟨rfl, rfl⟩
  go_wp2_with fail
  refine (s_power_any 65536 _).mono ?_
  rintro e w' ⟨rfl, rfl⟩
  go_wp2_with fail
  refine (s_power_any 0 _).mono ?_
  rintro e w' ⟨rfl, rfl⟩
  go_wp2_with fail
  refine (s_power_any 12 _).mono ?_
  rintro e w' ⟨rfl, rfl⟩
  go_wp2_with fail
  go_ret
  exact ⟨rfl, by go_grown⟩

set_option maxRecDepth 100000 in
theorem lifted (os : Os) (started : os.Started) (H : Type) (enc : TypeId × Value → H) :
    ReturnsInHanded {} Try.checked os 3 .any (Rows.serialNamesSpec.pre6 enc Try.prog Try.f3 Rows.serialNamesRow.domain false) (Rows.serialNamesSpec.post enc Try.prog Try.f3 false true false false) := by
  refine Lib.lifted (C := Try.checked) (tb := 4) H enc Lib.own started (by kernel_rfl) Try.func3
    (ChangeSpec.witness6 (enc := enc) (C := Try.checked) false ⟨#[], #[], []⟩ 8 (by kernel_rfl) (by kernel_rfl) (by kernel_rfl) (by kernel_rfl))
    Lib.laidOut (Lib.readable_of (by kernel_rfl)) rfl Try.underlying4 rfl ?_ ?_
  · intro ds h
    match ds, h with
    | [], _ => exact ⟨rfl, rfl, rfl⟩
  · intro W base args ds p hval hA hfz hlt
    rw [Try.params3] at hval
    have hA' : DataW.TrodAll enc Try.prog W 0 (fun _ => true) true Try.f3.params.toList args.toList ds p := hA
    rw [Try.params3] at hA'
    obtain ⟨hargs, rfl, rfl⟩ := trodAll_nil hA'
    obtain rfl : args = #[] := by cases args; simp_all
    exact walk  W

theorem over : Rows.serialNamesRow.holds Try.pinned (OpenSpec.ofChange Rows.serialNamesSpec) :=
  OpenClaim.holds_of_wide 3 Try.f3 rfl rfl rfl rfl rfl rfl rfl ⟨rfl, rfl, rfl, rfl, rfl⟩ rfl rfl rfl rfl rfl (by kernel_rfl) Try.func3 (by kernel_rfl)
    (of_decide_eq_true (by kernel_rfl)) (by unfold Func.isWrapper; first | (rw [if_pos (by decide +kernel)]; kernel_rfl) | (rw [if_neg (by decide +kernel)]; exact ⟨rfl, rfl⟩))
    (fun os started H enc _ => lifted os started H enc)

/-- The statement. -/
theorem proved : Rows.SerialNamesSaid :=
  over

end Go.Proofs.Ytgabbefghabcaaa.SerialNames
