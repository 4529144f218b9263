
/- Contracts of the functions of package serial, and of the document's own answers, one each. -/
import Derived.Test.YtkncaafjkoeijaaLib
namespace Go.Proofs.Ytkncaafjkoeijaa.Ser
open Go.RowKit
set_option linter.unusedVariables false

theorem u16w (n : Int) : IntKind.u16.wrap n = n % 65536 := by simp [IntKind.wrap, IntKind.bits, IntKind.signed]

/-! Positions. -/
abbrev posV (a : Int) (b : Bool) : Value := .agg #[.int .i64 a, .bool b]
abbrev num (a : Int) : Value := .int .i64 a
abbrev word (a : Int) : Value := .int .u16 a

/-- May a size be, and a position in a ring of it? -/
abbrev OkSize (n : Int) : Prop := 1 ≤ n ∧ n ≤ 32768
abbrev OkPos (a n : Int) : Prop := OkSize n ∧ 0 ≤ a ∧ a < n
abbrev OkMove (a m n : Int) : Prop := OkPos a n ∧ 0 ≤ m ∧ m ≤ n

def Gives (B : Nat) (w : World) (v : Value) (e : Ending) (w' : World) : Prop := e = .returned v ∧ Below B w w'
/-- Was the event passed? -/
def passed (event next old : Int) : Bool := decide (IntKind.u16.wrap (IntKind.u16.wrap (next - event) - 1) < IntKind.u16.wrap (next - old))

theorem s_check_yes (a n : Int) (b : Bool) (h : OkPos a n) (w : World) : Calls Try.prog 128 #[posV a b, num n] w (Gives w.heap.size w (num 0)) := by
  unfold Gives
  obtain ⟨⟨h1, h2⟩, h3, h4⟩ := h
  go_enter Try.func128, Try.ntmps128
  go_wp2
  go_returns
  exact ⟨rfl, by go_grown⟩
theorem s_check_no (a n : Int) (b : Bool) (h : ¬ OkPos a n) (w : World) : Calls Try.prog 128 #[posV a b, num n] w (Gives w.heap.size w (num 2)) := by
  unfold Gives
  by_cases h0 : 1 ≤ n
  case neg =>
    go_enter Try.func128, Try.ntmps128
    go_wp2
    go_returns
    exact ⟨rfl, by go_grown⟩
  by_cases h1 : n ≤ 32768
  case neg =>
    go_enter Try.func128, Try.ntmps128
    go_wp2
    go_returns
    exact ⟨rfl, by go_grown⟩
  by_cases h2 : 0 ≤ a
  case neg =>
    go_enter Try.func128, Try.ntmps128
    go_wp2
    go_returns
    exact ⟨rfl, by go_grown⟩
  by_cases h3 : a < n
  case neg =>
    go_enter Try.func128, Try.ntmps128
    go_wp2
    go_returns
    exact ⟨rfl, by go_grown⟩
  exact absurd ⟨⟨h0, h1⟩, h2, h3⟩ h
end Go.Proofs.Ytkncaafjkoeijaa.Ser
