
/- One contract a function, for every argument; what it says is one Lean function for the program and for the document's answer. -/
import Derived.Test.YtkncaafjkoeijaaSer2s
import Derived.Test.YtkncaafjkoeijaaSer2r
import Derived.Test.YtkncaafjkoeijaaSer3
namespace Go.Proofs.Ytkncaafjkoeijaa.Ser
open Go.RowKit SerBits
set_option linter.unusedVariables false
set_option linter.unusedSimpArgs false
open Classical

noncomputable def checkR (a n : Int) : Int := if OkPos a n then 0 else 2
noncomputable def goR (a m n : Int) (b : Bool) : Int × Bool × Int := if OkMove a m n then (if a + m < n then (a + m, b, 0) else (a + m - n, !b, 0)) else (0, false, 2)
noncomputable def readR (x n : Int) : Int × Bool × Int := if OkSize n then (if x % 32768 < n then (x % 32768, decide (32768 ≤ x), 0) else (0, false, 4)) else (0, false, 2)
noncomputable def needatR (a c m n : Int) (b b2 : Bool) : Bool × Int :=
  if OkMove a m n ∧ OkMove c m n then (if b = b2 then (passed a c (IntKind.u16.wrap (c - m)), 0) else (passed (IntKind.u16.wrap (a - n)) c (IntKind.u16.wrap (c - m)), 0)) else (false, 2)
noncomputable def betweenR (a c n : Int) (b b2 : Bool) : Int × Int :=
  if OkPos a n ∧ OkPos c n then (if b = b2 then (if c < a then c - a + 2 * n else c - a, 0) else (c - a + n, 0)) else (0, 2)
noncomputable def alignAll (n t : Int) : Int × Int := if t = 0 then (0, 2) else if bits .and .u64 t (t - 1) = 0 then alignR n t else (0, 2)

theorem s_check_is (a n x : Int) (b : Bool) (h : checkR a n = x) (w : World) : Calls Try.prog 128 #[posV a b, num n] w (Gives w.heap.size w (num x)) := by
  unfold checkR at h
  split at h <;> cases h
  · exact s_check_yes a n b ‹_› w
  · exact s_check_no a n b ‹_› w
theorem s_align_all (n t a e : Int) (hn : u64in n) (ht : u64in t) (h : alignAll n t = (a, e)) (w : World) :
    Calls Try.prog 117 #[u64 n, u64 t] w fun e' w' => e' = .returned (.tuple #[u64 a, num e]) ∧ w = w' := by
  unfold alignAll at h
  split at h
  · subst t; cases h; exact s_align_zero n w
  · split at h
    · exact s_align_is n t a e hn (p2_mk t ht ‹_› ‹_›) h w
    · cases h; exact s_align_bad n t _ (by unfold u64in at ht; omega) ht ‹_› rfl w
theorem r_align_all (n t a e : Int) (hn : u64in n) (ht : u64in t) (h : alignAll n t = (a, e)) (w : World) :
    Calls Try.prog 118 #[u64 n, u64 t] w fun e' w' => e' = .returned (.tuple #[u64 a, num e]) ∧ w = w' := by
  unfold alignAll at h
  split at h
  · subst t; cases h; exact r_align_zero n w
  · split at h
    · exact r_align_is n t a e hn (p2_mk t ht ‹_› ‹_›) h w
    · cases h; exact r_align_bad n t _ (by unfold u64in at ht; omega) ht ‹_› rfl w
theorem s_power_is (n : Int) (x : Bool) (h : powB n = x) (w : World) : Calls Try.prog 130 #[num n] w fun e w' => e = .returned (.bool x) ∧ w = w' := h ▸ s_power_any n w
theorem r_power_is (n : Int) (x : Bool) (h : powB n = x) (w : World) : Calls Try.prog 131 #[num n] w fun e w' => e = .returned (.bool x) ∧ w = w' := h ▸ r_power_any n w

end Go.Proofs.Ytkncaafjkoeijaa.Ser
