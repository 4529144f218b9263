/- Contracts of the functions of package serial, and of the document's own answers, one each. -/
import Derived.Test.YtgabbefghabcaaaLib
namespace Go.Proofs.Ytgabbefghabcaaa.Ser
open Go.RowKit
set_option linter.unusedVariables false

theorem lives_any (w : World) :
    Calls Try.prog 13 #[] w (Lib.True1 w.heap.size w) := by
  unfold Lib.True1
  go_enter Try.func13, Try.ntmps13
  go_wp2
  go_ret
  exact ⟨rfl, by go_grown⟩

theorem u16w (n : Int) : IntKind.u16.wrap n = n % 65536 := by simp [IntKind.wrap, IntKind.bits, IntKind.signed]

/-! Positions. -/
abbrev posV (a : Int) (b : Bool) : Value := .agg #[.int .i64 a, .bool b]
abbrev num (a : Int) : Value := .int .i64 a
abbrev word (a : Int) : Value := .int .u16 a

/-- May a size be, and a position in a ring of it? -/
abbrev OkSize (n : Int) : Prop := 1 ≤ n ∧ n ≤ 32768
abbrev OkPos (a n : Int) : Prop := OkSize n ∧ 0 ≤ a ∧ a < n
abbrev OkMove (a m n : Int) : Prop := OkPos a n ∧ 0 ≤ m ∧ m ≤ n

def Gives (B : Nat) (w : World) (v : Value) (e : Ending) (w' : World) : Prop := e = .returned v ∧ Below B w w'
/-- Was the event passed? -/
def passed (event next old : Int) : Bool := decide (IntKind.u16.wrap (IntKind.u16.wrap (next - event) - 1) < IntKind.u16.wrap (next - old))

theorem s_dist (a b : Int) (w : World) :
    Calls Try.prog 16 #[word a, word b] w fun e w' => e = .returned (.int .u16 (IntKind.u16.wrap (a - b))) ∧ w = w' := by
  go_enter Try.func16, Try.ntmps16
  go_wp2
  go_ret
  exact ⟨rfl, rfl⟩
theorem s_need (a b c : Int) (w : World) :
    Calls Try.prog 18 #[word a, word b, word c] w fun e w' => e = .returned (.bool (passed a b c)) ∧ w = w' := by
  go_enter Try.func18, Try.ntmps18
  go_wp2
  go_ret
  exact ⟨rfl, rfl⟩
theorem s_check_yes (a n : Int) (b : Bool) (h : OkPos a n) (w : World) : Calls Try.prog 20 #[posV a b, num n] w (Gives w.heap.size w (num 0)) := by
  unfold Gives
  obtain ⟨⟨h1, h2⟩, h3, h4⟩ := h
  go_enter Try.func20, Try.ntmps20
  go_wp2
  go_returns
  exact ⟨rfl, by go_grown⟩
theorem s_check_no (a n : Int) (b : Bool) (h : ¬ OkPos a n) (w : World) : Calls Try.prog 20 #[posV a b, num n] w (Gives w.heap.size w (num 2)) := by
  unfold Gives
  by_cases h0 : 1 ≤ n
  case neg =>
    go_enter Try.func20, Try.ntmps20
    go_wp2
    go_returns
    exact ⟨rfl, by go_grown⟩
  by_cases h1 : n ≤ 32768
  case neg =>
    go_enter Try.func20, Try.ntmps20
    go_wp2
    go_returns
    exact ⟨rfl, by go_grown⟩
  by_cases h2 : 0 ≤ a
  case neg =>
    go_enter Try.func20, Try.ntmps20
    go_wp2
    go_returns
    exact ⟨rfl, by go_grown⟩
  by_cases h3 : a < n
  case neg =>
    go_enter Try.func20, Try.ntmps20
    go_wp2
    go_returns
    exact ⟨rfl, by go_grown⟩
  exact absurd ⟨⟨h0, h1⟩, h2, h3⟩ h
theorem s_go_plain (a m n : Int) (b : Bool) (h : OkMove a m n) (h' : a + m < n) (w : World) : Calls Try.prog 10 #[posV a b, num m, num n] w (Gives w.heap.size w (.tuple #[posV (a + m) b, num 0])) := by
  unfold Gives
  obtain ⟨⟨⟨h1, h2⟩, h3, h4⟩, h5, h6⟩ := h
  go_enter Try.func10, Try.ntmps10
  go_wp2
  go_returns
  exact ⟨rfl, by go_grown⟩
theorem s_go_round (a m n : Int) (b : Bool) (h : OkMove a m n) (h' : n ≤ a + m) (w : World) : Calls Try.prog 10 #[posV a b, num m, num n] w (Gives w.heap.size w (.tuple #[posV (a + m - n) (!b), num 0])) := by
  unfold Gives
  obtain ⟨⟨⟨h1, h2⟩, h3, h4⟩, h5, h6⟩ := h
  go_enter Try.func10, Try.ntmps10
  go_wp2
  go_returns
  exact ⟨rfl, by go_grown⟩
theorem s_go_no (a m n : Int) (b : Bool) (h : ¬ OkMove a m n) (w : World) : Calls Try.prog 10 #[posV a b, num m, num n] w (Gives w.heap.size w (.tuple #[posV 0 false, num 2])) := by
  unfold Gives
  by_cases h0 : 1 ≤ n
  case neg =>
    go_enter Try.func10, Try.ntmps10
    go_wp2
    go_returns
    exact ⟨rfl, by go_grown⟩
  by_cases h1 : n ≤ 32768
  case neg =>
    go_enter Try.func10, Try.ntmps10
    go_wp2
    go_returns
    exact ⟨rfl, by go_grown⟩
  by_cases h2 : 0 ≤ a
  case neg =>
    go_enter Try.func10, Try.ntmps10
    go_wp2
    go_returns
    exact ⟨rfl, by go_grown⟩
  by_cases h3 : a < n
  case neg =>
    go_enter Try.func10, Try.ntmps10
    go_wp2
    go_returns
    exact ⟨rfl, by go_grown⟩
  by_cases h4 : 0 ≤ m
  case neg =>
    go_enter Try.func10, Try.ntmps10
    go_wp2
    go_returns
    exact ⟨rfl, by go_grown⟩
  by_cases h5 : m ≤ n
  case neg =>
    go_enter Try.func10, Try.ntmps10
    go_wp2
    go_returns
    exact ⟨rfl, by go_grown⟩
  exact absurd ⟨⟨⟨h0, h1⟩, h2, h3⟩, h4, h5⟩ h
theorem r_dist (a b : Int) (w : World) :
    Calls Try.prog 17 #[word a, word b] w fun e w' => e = .returned (.int .u16 (IntKind.u16.wrap (a - b))) ∧ w = w' := by
  go_enter Try.func17, Try.ntmps17
  go_wp2
  go_ret
  exact ⟨rfl, rfl⟩
theorem r_need (a b c : Int) (w : World) :
    Calls Try.prog 19 #[word a, word b, word c] w fun e w' => e = .returned (.bool (passed a b c)) ∧ w = w' := by
  go_enter Try.func19, Try.ntmps19
  go_wp2
  go_ret
  exact ⟨rfl, rfl⟩
theorem r_check_yes (a n : Int) (b : Bool) (h : OkPos a n) (w : World) : Calls Try.prog 21 #[posV a b, num n] w (Gives w.heap.size w (num 0)) := by
  unfold Gives
  obtain ⟨⟨h1, h2⟩, h3, h4⟩ := h
  go_enter Try.func21, Try.ntmps21
  go_wp2
  go_returns
  exact ⟨rfl, by go_grown⟩
theorem r_check_no (a n : Int) (b : Bool) (h : ¬ OkPos a n) (w : World) : Calls Try.prog 21 #[posV a b, num n] w (Gives w.heap.size w (num 2)) := by
  unfold Gives
  by_cases h0 : 1 ≤ n
  case neg =>
    go_enter Try.func21, Try.ntmps21
    go_wp2
    go_returns
    exact ⟨rfl, by go_grown⟩
  by_cases h1 : n ≤ 32768
  case neg =>
    go_enter Try.func21, Try.ntmps21
    go_wp2
    go_returns
    exact ⟨rfl, by go_grown⟩
  by_cases h2 : 0 ≤ a
  case neg =>
    go_enter Try.func21, Try.ntmps21
    go_wp2
    go_returns
    exact ⟨rfl, by go_grown⟩
  by_cases h3 : a < n
  case neg =>
    go_enter Try.func21, Try.ntmps21
    go_wp2
    go_returns
    exact ⟨rfl, by go_grown⟩
  exact absurd ⟨⟨h0, h1⟩, h2, h3⟩ h
theorem r_go_plain (a m n : Int) (b : Bool) (h : OkMove a m n) (h' : a + m < n) (w : World) : Calls Try.prog 25 #[posV a b, num m, num n] w (Gives w.heap.size w (.tuple #[posV (a + m) b, num 0])) := by
  unfold Gives
  obtain ⟨⟨⟨h1, h2⟩, h3, h4⟩, h5, h6⟩ := h
  go_enter Try.func25, Try.ntmps25
  go_wp2
  go_returns
  exact ⟨rfl, by go_grown⟩
theorem r_go_round (a m n : Int) (b : Bool) (h : OkMove a m n) (h' : n ≤ a + m) (w : World) : Calls Try.prog 25 #[posV a b, num m, num n] w (Gives w.heap.size w (.tuple #[posV (a + m - n) (!b), num 0])) := by
  unfold Gives
  obtain ⟨⟨⟨h1, h2⟩, h3, h4⟩, h5, h6⟩ := h
  go_enter Try.func25, Try.ntmps25
  go_wp2
  go_returns
  exact ⟨rfl, by go_grown⟩
theorem r_go_no (a m n : Int) (b : Bool) (h : ¬ OkMove a m n) (w : World) : Calls Try.prog 25 #[posV a b, num m, num n] w (Gives w.heap.size w (.tuple #[posV 0 false, num 2])) := by
  unfold Gives
  by_cases h0 : 1 ≤ n
  case neg =>
    go_enter Try.func25, Try.ntmps25
    go_wp2
    go_returns
    exact ⟨rfl, by go_grown⟩
  by_cases h1 : n ≤ 32768
  case neg =>
    go_enter Try.func25, Try.ntmps25
    go_wp2
    go_returns
    exact ⟨rfl, by go_grown⟩
  by_cases h2 : 0 ≤ a
  case neg =>
    go_enter Try.func25, Try.ntmps25
    go_wp2
    go_returns
    exact ⟨rfl, by go_grown⟩
  by_cases h3 : a < n
  case neg =>
    go_enter Try.func25, Try.ntmps25
    go_wp2
    go_returns
    exact ⟨rfl, by go_grown⟩
  by_cases h4 : 0 ≤ m
  case neg =>
    go_enter Try.func25, Try.ntmps25
    go_wp2
    go_returns
    exact ⟨rfl, by go_grown⟩
  by_cases h5 : m ≤ n
  case neg =>
    go_enter Try.func25, Try.ntmps25
    go_wp2
    go_returns
    exact ⟨rfl, by go_grown⟩
  exact absurd ⟨⟨⟨h0, h1⟩, h2, h3⟩, h4, h5⟩ h
end Go.Proofs.Ytgabbefghabcaaa.Ser
