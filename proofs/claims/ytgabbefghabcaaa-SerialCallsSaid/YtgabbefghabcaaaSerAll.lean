/- One contract a function, for every argument; what it says is one Lean function for the program and for the document's answer. -/
import Derived.Test.YtgabbefghabcaaaSer2s
import Derived.Test.YtgabbefghabcaaaSer2r
import Derived.Test.YtgabbefghabcaaaSer3
namespace Go.Proofs.Ytgabbefghabcaaa.Ser
open Go.RowKit SerBits
set_option linter.unusedVariables false
set_option linter.unusedSimpArgs false
open Classical

noncomputable def checkR (a n : Int) : Int := if OkPos a n then 0 else 2
noncomputable def goR (a m n : Int) (b : Bool) : Int × Bool × Int := if OkMove a m n then (if a + m < n then (a + m, b, 0) else (a + m - n, !b, 0)) else (0, false, 2)
noncomputable def readR (x n : Int) : Int × Bool × Int := if OkSize n then (if x % 32768 < n then (x % 32768, decide (32768 ≤ x), 0) else (0, false, 4)) else (0, false, 2)
noncomputable def needatR (a c m n : Int) (b b2 : Bool) : Bool × Int :=
  if OkMove a m n ∧ OkMove c m n then (if b = b2 then (passed a c (IntKind.u16.wrap (c - m)), 0) else (passed (IntKind.u16.wrap (a - n)) c (IntKind.u16.wrap (c - m)), 0)) else (false, 2)
noncomputable def betweenR (a c n : Int) (b b2 : Bool) : Int × Int :=
  if OkPos a n ∧ OkPos c n then (if b = b2 then (if c < a then c - a + 2 * n else c - a, 0) else (c - a + n, 0)) else (0, 2)
noncomputable def alignAll (n t : Int) : Int × Int := if t = 0 then (0, 2) else if bits .and .u64 t (t - 1) = 0 then alignR n t else (0, 2)

theorem s_check_is (a n x : Int) (b : Bool) (h : checkR a n = x) (w : World) : Calls Try.prog 20 #[posV a b, num n] w (Gives w.heap.size w (num x)) := by
  unfold checkR at h
  split at h <;> cases h
  · exact s_check_yes a n b ‹_› w
  · exact s_check_no a n b ‹_› w
theorem s_go_all (a m n x e : Int) (b xb : Bool) (h : goR a m n b = (x, xb, e)) (w : World) : Calls Try.prog 10 #[posV a b, num m, num n] w (Gives w.heap.size w (.tuple #[posV x xb, num e])) := by
  unfold goR at h
  split at h
  · split at h <;> cases h
    · exact s_go_plain a m n b ‹_› ‹_› w
    · exact s_go_round a m n b ‹_› (by omega) w
  · cases h; exact s_go_no a m n b ‹_› w
theorem s_read_all (y n x e : Int) (xb : Bool) (hy : 0 ≤ y ∧ y ≤ 65535) (h : readR y n = (x, xb, e)) (w : World) : Calls Try.prog 11 #[word y, num n] w (Gives w.heap.size w (.tuple #[posV x xb, num e])) := by
  unfold readR at h
  split at h
  · split at h <;> cases h
    · exact s_read_yes y n hy ‹_› ‹_› w
    · exact s_read_none y n hy ‹_› (by omega) w
  · cases h; exact s_read_no y n ‹_› w
theorem s_needat_all (a c m n e : Int) (b b2 x : Bool) (h : needatR a c m n b b2 = (x, e)) (w : World) : Calls Try.prog 27 #[posV a b, posV c b2, num m, num n] w (Gives w.heap.size w (.tuple #[.bool x, num e])) := by
  unfold needatR at h
  split at h
  · rename_i hk
    split at h
    · subst b2; cases h; exact s_needat_same a c m n b hk.1 hk.2 w
    · cases h
      obtain rfl : b2 = !b := by cases b <;> cases b2 <;> simp_all
      exact s_needat_other a c m n b hk.1 hk.2 w
  · cases h; exact s_needat_no a c m n b b2 ‹_› w
theorem s_between_all (a c n x e : Int) (b b2 : Bool) (h : betweenR a c n b b2 = (x, e)) (w : World) : Calls Try.prog 29 #[posV a b, posV c b2, num n] w (Gives w.heap.size w (.tuple #[num x, num e])) := by
  unfold betweenR at h
  split at h
  · rename_i hk
    split at h
    · subst b2; cases h; exact s_between_same a c n b hk.1 hk.2 w
    · cases h
      obtain rfl : b2 = !b := by cases b <;> cases b2 <;> simp_all
      exact s_between_other a c n b hk.1 hk.2 w
  · cases h; exact s_between_no a c n b b2 ‹_› w
theorem s_align_all (n t a e : Int) (hn : u64in n) (ht : u64in t) (h : alignAll n t = (a, e)) (w : World) :
    Calls Try.prog 12 #[u64 n, u64 t] w fun e' w' => e' = .returned (.tuple #[u64 a, num e]) ∧ w = w' := by
  unfold alignAll at h
  split at h
  · subst t; cases h; exact s_align_zero n w
  · split at h
    · exact s_align_is n t a e hn (p2_mk t ht ‹_› ‹_›) h w
    · cases h; exact s_align_bad n t _ (by unfold u64in at ht; omega) ht ‹_› rfl w
theorem r_check_is (a n x : Int) (b : Bool) (h : checkR a n = x) (w : World) : Calls Try.prog 21 #[posV a b, num n] w (Gives w.heap.size w (num x)) := by
  unfold checkR at h
  split at h <;> cases h
  · exact r_check_yes a n b ‹_› w
  · exact r_check_no a n b ‹_› w
theorem r_go_all (a m n x e : Int) (b xb : Bool) (h : goR a m n b = (x, xb, e)) (w : World) : Calls Try.prog 25 #[posV a b, num m, num n] w (Gives w.heap.size w (.tuple #[posV x xb, num e])) := by
  unfold goR at h
  split at h
  · split at h <;> cases h
    · exact r_go_plain a m n b ‹_› ‹_› w
    · exact r_go_round a m n b ‹_› (by omega) w
  · cases h; exact r_go_no a m n b ‹_› w
theorem r_read_all (y n x e : Int) (xb : Bool) (hy : 0 ≤ y ∧ y ≤ 65535) (h : readR y n = (x, xb, e)) (w : World) : Calls Try.prog 26 #[word y, num n] w (Gives w.heap.size w (.tuple #[posV x xb, num e])) := by
  unfold readR at h
  split at h
  · split at h <;> cases h
    · exact r_read_yes y n hy ‹_› ‹_› w
    · exact r_read_none y n hy ‹_› (by omega) w
  · cases h; exact r_read_no y n ‹_› w
theorem r_needat_all (a c m n e : Int) (b b2 x : Bool) (h : needatR a c m n b b2 = (x, e)) (w : World) : Calls Try.prog 28 #[posV a b, posV c b2, num m, num n] w (Gives w.heap.size w (.tuple #[.bool x, num e])) := by
  unfold needatR at h
  split at h
  · rename_i hk
    split at h
    · subst b2; cases h; exact r_needat_same a c m n b hk.1 hk.2 w
    · cases h
      obtain rfl : b2 = !b := by cases b <;> cases b2 <;> simp_all
      exact r_needat_other a c m n b hk.1 hk.2 w
  · cases h; exact r_needat_no a c m n b b2 ‹_› w
theorem r_between_all (a c n x e : Int) (b b2 : Bool) (h : betweenR a c n b b2 = (x, e)) (w : World) : Calls Try.prog 30 #[posV a b, posV c b2, num n] w (Gives w.heap.size w (.tuple #[num x, num e])) := by
  unfold betweenR at h
  split at h
  · rename_i hk
    split at h
    · subst b2; cases h; exact r_between_same a c n b hk.1 hk.2 w
    · cases h
      obtain rfl : b2 = !b := by cases b <;> cases b2 <;> simp_all
      exact r_between_other a c n b hk.1 hk.2 w
  · cases h; exact r_between_no a c n b b2 ‹_› w
theorem r_align_all (n t a e : Int) (hn : u64in n) (ht : u64in t) (h : alignAll n t = (a, e)) (w : World) :
    Calls Try.prog 31 #[u64 n, u64 t] w fun e' w' => e' = .returned (.tuple #[u64 a, num e]) ∧ w = w' := by
  unfold alignAll at h
  split at h
  · subst t; cases h; exact r_align_zero n w
  · split at h
    · exact r_align_is n t a e hn (p2_mk t ht ‹_› ‹_›) h w
    · cases h; exact r_align_bad n t _ (by unfold u64in at ht; omega) ht ‹_› rfl w
theorem s_need_is (a b c : Int) (x : Bool) (h : passed a b c = x) (w : World) : Calls Try.prog 18 #[word a, word b, word c] w fun e w' => e = .returned (.bool x) ∧ w = w' := h ▸ s_need a b c w
theorem s_word_is (a x : Int) (b : Bool) (h : wordI a b = x) (w : World) : Calls Try.prog 22 #[posV a b] w (Gives w.heap.size w (word x)) := h ▸ s_word_any a b w
theorem s_power_is (n : Int) (x : Bool) (h : powB n = x) (w : World) : Calls Try.prog 15 #[num n] w fun e w' => e = .returned (.bool x) ∧ w = w' := h ▸ s_power_any n w
theorem r_need_is (a b c : Int) (x : Bool) (h : passed a b c = x) (w : World) : Calls Try.prog 19 #[word a, word b, word c] w fun e w' => e = .returned (.bool x) ∧ w = w' := h ▸ r_need a b c w
theorem r_word_is (a x : Int) (b : Bool) (h : wordI a b = x) (w : World) : Calls Try.prog 23 #[posV a b] w (Gives w.heap.size w (word x)) := h ▸ r_word_any a b w
theorem r_power_is (n : Int) (x : Bool) (h : powB n = x) (w : World) : Calls Try.prog 24 #[num n] w fun e w' => e = .returned (.bool x) ∧ w = w' := h ▸ r_power_any n w

end Go.Proofs.Ytgabbefghabcaaa.Ser
