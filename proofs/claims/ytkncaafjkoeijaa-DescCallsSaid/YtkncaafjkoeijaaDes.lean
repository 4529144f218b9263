
/- Flags of descriptors: contracts of the functions of package desc and of the document's own answers. -/
import Derived.Test.YtkncaafjkoeijaaLib
import Derived.Test.YtkncaafjkoeijaaMEng1
import Derived.Test.YtkncaafjkoeijaaDesBits
namespace Go.Proofs.Ytkncaafjkoeijaa.Des
open Go.RowKit DesBits
set_option linter.unusedVariables false

theorem envOk : (Eng.Env.of Try.prog).Ok := Eng.Env.of_ok _ (by kernel_rfl) (by kernel_rfl)
theorem lives_run : Eng.isTrue (Eng.runL (Eng.Env.of Try.prog) 100000 34 []) = true := by kernel_rfl
theorem lives_any (w : World) : Calls Try.prog 34 #[] w (Lib.True1 w.heap.size w) := Eng.runs envOk lives_run w

abbrev word (a : Int) : Value := .int .u16 a

def availB (f : Int) (w : Bool) : Bool := (hasB f 128 == w) && (hasB f 32768 != w)
def usedB (f : Int) (w : Bool) : Bool := (hasB f 128 == w) && (hasB f 32768 == w)

theorem has_any (f m : Int) (w : World) : Calls Try.prog 110 #[word f, word m] w fun e w' => e = .returned (.bool (hasB f m)) ∧ w = w' := by
  go_enter Try.func110, Try.ntmps110
  go_wp2
  go_ret
  exact ⟨rfl, rfl⟩
theorem has_is (f m : Int) (x : Bool) (h : hasB f m = x) (w : World) : Calls Try.prog 110 #[word f, word m] w fun e w' => e = .returned (.bool x) ∧ w = w' := h ▸ has_any f m w

theorem s_avail (f : Int) (b : Bool) (w : World) : Calls Try.prog 56 #[word f, .bool b] w fun e w' => e = .returned (.bool (availB f b)) ∧ w = w' := by
  obtain ⟨x, hx⟩ : ∃ x, hasB f 128 = x := ⟨_, rfl⟩
  obtain ⟨y, hy⟩ : ∃ y, hasB f 32768 = y := ⟨_, rfl⟩
  have Hx := Lib.hid hx
  have Hy := Lib.hid hy
  clear hx hy
  have e : availB f b = ((x == b) && (y != b)) := by unfold availB; rw [Hx.out, Hy.out]
  rw [e]
  clear e
  cases b <;> cases x <;> cases y
  all_goals
    go_enter Try.func56, Try.ntmps56
    go_wp2_with (go_at_call 110; (first | (with_reducible refine (has_is f 128 _ Hx.out _).mono ?_) | (with_reducible refine (has_is f 32768 _ Hy.out _).mono ?_)); rintro e w' ⟨rfl, rfl⟩)
    go_ret
    exact ⟨rfl, rfl⟩
theorem s_used (f : Int) (b : Bool) (w : World) : Calls Try.prog 58 #[word f, .bool b] w fun e w' => e = .returned (.bool (usedB f b)) ∧ w = w' := by
  obtain ⟨x, hx⟩ : ∃ x, hasB f 128 = x := ⟨_, rfl⟩
  obtain ⟨y, hy⟩ : ∃ y, hasB f 32768 = y := ⟨_, rfl⟩
  have Hx := Lib.hid hx
  have Hy := Lib.hid hy
  clear hx hy
  have e : usedB f b = ((x == b) && (y == b)) := by unfold usedB; rw [Hx.out, Hy.out]
  rw [e]
  clear e
  cases b <;> cases x <;> cases y
  all_goals
    go_enter Try.func58, Try.ntmps58
    go_wp2_with (go_at_call 110; (first | (with_reducible refine (has_is f 128 _ Hx.out _).mono ?_) | (with_reducible refine (has_is f 32768 _ Hy.out _).mono ?_)); rintro e w' ⟨rfl, rfl⟩)
    go_ret
    exact ⟨rfl, rfl⟩
theorem s_mark (f : Int) (b u : Bool) (w : World) : Calls Try.prog 60 #[word f, .bool b, .bool u] w fun e w' => e = .returned (word (markI f b u)) ∧ w = w' := by
  cases b <;> cases u
  all_goals
    go_enter Try.func60, Try.ntmps60
    go_wp2
    go_ret
    exact ⟨rfl, rfl⟩
theorem r_avail (f : Int) (b : Bool) (w : World) : Calls Try.prog 57 #[word f, .bool b] w fun e w' => e = .returned (.bool (availB f b)) ∧ w = w' := by
  obtain ⟨x, hx⟩ : ∃ x, hasB f 128 = x := ⟨_, rfl⟩
  obtain ⟨y, hy⟩ : ∃ y, hasB f 32768 = y := ⟨_, rfl⟩
  have e : availB f b = ((x == b) && (y != b)) := by unfold availB; rw [hx, hy]
  rw [e]
  clear e
  unfold hasB at hx hy
  obtain ⟨p, hp⟩ : ∃ p, (bits .and .u16 f 128 == 0) = p := ⟨_, rfl⟩
  obtain ⟨q, hq⟩ : ∃ q, (bits .and .u16 f 32768 == 0) = q := ⟨_, rfl⟩
  rw [hp] at hx
  rw [hq] at hy
  subst hx hy
  have hp' : (bits .and .u16 f 128 != 0) = !p := by rw [← hp]; rfl
  have hq' : (bits .and .u16 f 32768 != 0) = !q := by rw [← hq]; rfl
  cases b <;> cases p <;> cases q
  all_goals
    simp only [Bool.not_false, Bool.not_true] at hp' hq'
    go_enter Try.func57, Try.ntmps57
    go_wp2
    go_ret
    exact ⟨rfl, rfl⟩
theorem r_used (f : Int) (b : Bool) (w : World) : Calls Try.prog 59 #[word f, .bool b] w fun e w' => e = .returned (.bool (usedB f b)) ∧ w = w' := by
  obtain ⟨x, hx⟩ : ∃ x, hasB f 128 = x := ⟨_, rfl⟩
  obtain ⟨y, hy⟩ : ∃ y, hasB f 32768 = y := ⟨_, rfl⟩
  have e : usedB f b = ((x == b) && (y == b)) := by unfold usedB; rw [hx, hy]
  rw [e]
  clear e
  unfold hasB at hx hy
  obtain ⟨p, hp⟩ : ∃ p, (bits .and .u16 f 128 == 0) = p := ⟨_, rfl⟩
  obtain ⟨q, hq⟩ : ∃ q, (bits .and .u16 f 32768 == 0) = q := ⟨_, rfl⟩
  rw [hp] at hx
  rw [hq] at hy
  subst hx hy
  have hp' : (bits .and .u16 f 128 != 0) = !p := by rw [← hp]; rfl
  have hq' : (bits .and .u16 f 32768 != 0) = !q := by rw [← hq]; rfl
  cases b <;> cases p <;> cases q
  all_goals
    simp only [Bool.not_false, Bool.not_true] at hp' hq'
    go_enter Try.func59, Try.ntmps59
    go_wp2
    go_ret
    exact ⟨rfl, rfl⟩
theorem r_mark (f : Int) (b u : Bool) (w : World) : Calls Try.prog 61 #[word f, .bool b, .bool u] w fun e w' => e = .returned (word (markI f b u)) ∧ w = w' := by
  cases b <;> cases u
  all_goals
    go_enter Try.func61, Try.ntmps61
    go_wp2
    go_ret
    exact ⟨rfl, rfl⟩

end Go.Proofs.Ytkncaafjkoeijaa.Des
