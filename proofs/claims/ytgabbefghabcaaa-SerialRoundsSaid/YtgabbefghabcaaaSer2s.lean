/- Contracts of the functions of package serial, and of the document's own answers: words, events at positions, distances. -/
import Derived.Test.YtgabbefghabcaaaSer
import Derived.Test.YtgabbefghabcaaaSerBits
namespace Go.Proofs.Ytgabbefghabcaaa.Ser
open Go.RowKit SerBits
set_option linter.unusedVariables false
set_option linter.unusedSimpArgs false

theorem s_word_any (a : Int) (b : Bool) (w : World) : Calls Try.prog 22 #[posV a b] w (Gives w.heap.size w (word (wordI a b))) := by
  unfold Gives
  have hA := s_word_f a
  have hB := s_word_t a
  have hl := wordI_lo a false
  cases b
  all_goals
    go_enter Try.func22, Try.ntmps22
    go_wp2
    go_returns
    exact ⟨rfl, by go_grown⟩
theorem s_read_yes (x n : Int) (hx : 0 ≤ x ∧ x ≤ 65535) (hn : OkSize n) (h : x % 32768 < n) (w : World) : Calls Try.prog 11 #[word x, num n] w (Gives w.heap.size w (.tuple #[posV (x % 32768) (decide (32768 ≤ x)), num 0])) := by
  unfold Gives
  obtain ⟨hx1, hx2⟩ := hx
  obtain ⟨hn1, hn2⟩ := hn
  have hA := u16_low x hx1 hx2
  have hB := u16_high x hx1 hx2
  by_cases hh : 32768 ≤ x
  · have e : x / 32768 % 2 * 32768 = 32768 := by omega
    rw [e] at hB
    go_enter Try.func11, Try.ntmps11
    go_wp2
    go_returns
    exact ⟨by simp [hh], by go_grown⟩
  · have e : x / 32768 % 2 * 32768 = 0 := by omega
    rw [e] at hB
    go_enter Try.func11, Try.ntmps11
    go_wp2
    go_returns
    exact ⟨by simp [hh], by go_grown⟩
theorem s_read_none (x n : Int) (hx : 0 ≤ x ∧ x ≤ 65535) (hn : OkSize n) (h : n ≤ x % 32768) (w : World) : Calls Try.prog 11 #[word x, num n] w (Gives w.heap.size w (.tuple #[posV 0 false, num 4])) := by
  unfold Gives
  obtain ⟨hx1, hx2⟩ := hx
  obtain ⟨hn1, hn2⟩ := hn
  have hA := u16_low x hx1 hx2
  have hB := u16_high x hx1 hx2
  go_enter Try.func11, Try.ntmps11
  go_wp2
  go_returns
  exact ⟨rfl, by go_grown⟩
theorem s_read_no (x n : Int) (h : ¬ OkSize n) (w : World) : Calls Try.prog 11 #[word x, num n] w (Gives w.heap.size w (.tuple #[posV 0 false, num 2])) := by
  unfold Gives
  by_cases h0 : 1 ≤ n
  case neg =>
    go_enter Try.func11, Try.ntmps11
    go_wp2
    go_returns
    exact ⟨rfl, by go_grown⟩
  by_cases h1 : n ≤ 32768
  case neg =>
    go_enter Try.func11, Try.ntmps11
    go_wp2
    go_returns
    exact ⟨rfl, by go_grown⟩
  exact absurd ⟨h0, h1⟩ h
theorem s_start (w : World) : Calls Try.prog 14 #[] w (Gives w.heap.size w (posV 0 true)) := by
  unfold Gives
  go_enter Try.func14, Try.ntmps14
  go_wp2
  go_returns
  exact ⟨rfl, by go_grown⟩
theorem s_between_same (a c n : Int) (b : Bool) (h : OkPos a n) (h' : OkPos c n) (w : World) : Calls Try.prog 29 #[posV a b, posV c b, num n] w (Gives w.heap.size w (.tuple #[num (if c < a then c - a + 2 * n else c - a), num 0])) := by
  unfold Gives
  obtain ⟨⟨h1, h2⟩, h3, h4⟩ := h
  obtain ⟨⟨h5, h6⟩, h7, h8⟩ := h'
  by_cases hc : c < a
  all_goals
    go_enter Try.func29, Try.ntmps29
    go_wp2
    go_returns
    exact ⟨by simp [hc], by go_grown⟩
theorem s_between_other (a c n : Int) (b : Bool) (h : OkPos a n) (h' : OkPos c n) (w : World) : Calls Try.prog 29 #[posV a b, posV c (!b), num n] w (Gives w.heap.size w (.tuple #[num (c - a + n), num 0])) := by
  unfold Gives
  obtain ⟨⟨h1, h2⟩, h3, h4⟩ := h
  obtain ⟨⟨h5, h6⟩, h7, h8⟩ := h'
  cases b
  all_goals
    go_enter Try.func29, Try.ntmps29
    go_wp2
    go_returns
    exact ⟨rfl, by go_grown⟩
theorem s_between_no (a c n : Int) (b b2 : Bool) (h : ¬ (OkPos a n ∧ OkPos c n)) (w : World) : Calls Try.prog 29 #[posV a b, posV c b2, num n] w (Gives w.heap.size w (.tuple #[num 0, num 2])) := by
  unfold Gives
  by_cases h0 : 1 ≤ n
  case neg =>
    go_enter Try.func29, Try.ntmps29
    go_wp2
    go_returns
    exact ⟨rfl, by go_grown⟩
  by_cases h1 : n ≤ 32768
  case neg =>
    go_enter Try.func29, Try.ntmps29
    go_wp2
    go_returns
    exact ⟨rfl, by go_grown⟩
  by_cases h2 : 0 ≤ a
  case neg =>
    go_enter Try.func29, Try.ntmps29
    go_wp2
    go_returns
    exact ⟨rfl, by go_grown⟩
  by_cases h3 : a < n
  case neg =>
    go_enter Try.func29, Try.ntmps29
    go_wp2
    go_returns
    exact ⟨rfl, by go_grown⟩
  by_cases h4 : 0 ≤ c
  case neg =>
    go_enter Try.func29, Try.ntmps29
    go_wp2
    go_returns
    exact ⟨rfl, by go_grown⟩
  by_cases h5 : c < n
  case neg =>
    go_enter Try.func29, Try.ntmps29
    go_wp2
    go_returns
    exact ⟨rfl, by go_grown⟩
  exact absurd ⟨⟨⟨h0, h1⟩, h2, h3⟩, ⟨h0, h1⟩, h4, h5⟩ h
theorem s_needat_same (a c m n : Int) (b : Bool) (h : OkMove a m n) (h' : OkMove c m n) (w : World) : Calls Try.prog 27 #[posV a b, posV c b, num m, num n] w (Gives w.heap.size w (.tuple #[.bool (passed a c (IntKind.u16.wrap (c - m))), num 0])) := by
  unfold Gives
  obtain ⟨⟨⟨h1, h2⟩, h3, h4⟩, h9, h10⟩ := h
  obtain ⟨⟨⟨h5, h6⟩, h7, h8⟩, h11, h12⟩ := h'
  have hA := i64_and65535 a
  have hB := i64_and65535 (c - m)
  have hC : IntKind.u16.wrap (c - m) = (c - m) % 65536 := IntKind.wrap_u16 _
  have hD : a % 65536 = a := by omega
  go_enter Try.func27, Try.ntmps27
  go_wp2_with (first | (go_at_call 18; (with_reducible refine (s_need _ _ _ _).mono ?_); rintro e w' ⟨rfl, rfl⟩) | go_in)
  go_returns
  exact ⟨by first | rfl | (rw [hC]; done), by go_grown⟩
theorem s_needat_other (a c m n : Int) (b : Bool) (h : OkMove a m n) (h' : OkMove c m n) (w : World) : Calls Try.prog 27 #[posV a b, posV c (!b), num m, num n] w (Gives w.heap.size w (.tuple #[.bool (passed (IntKind.u16.wrap (a - n)) c (IntKind.u16.wrap (c - m))), num 0])) := by
  unfold Gives
  obtain ⟨⟨⟨h1, h2⟩, h3, h4⟩, h9, h10⟩ := h
  obtain ⟨⟨⟨h5, h6⟩, h7, h8⟩, h11, h12⟩ := h'
  have hA := i64_and65535 (a - n)
  have hB := i64_and65535 (c - m)
  have hC : IntKind.u16.wrap (c - m) = (c - m) % 65536 := IntKind.wrap_u16 _
  have hD : IntKind.u16.wrap (a - n) = (a - n) % 65536 := IntKind.wrap_u16 _
  cases b
  all_goals
    go_enter Try.func27, Try.ntmps27
    go_wp2_with (first | (go_at_call 18; (with_reducible refine (s_need _ _ _ _).mono ?_); rintro e w' ⟨rfl, rfl⟩) | go_in)
    go_returns
    exact ⟨by first | rfl | (rw [hC, hD]; done), by go_grown⟩
theorem s_needat_no (a c m n : Int) (b b2 : Bool) (h : ¬ (OkMove a m n ∧ OkMove c m n)) (w : World) : Calls Try.prog 27 #[posV a b, posV c b2, num m, num n] w (Gives w.heap.size w (.tuple #[.bool false, num 2])) := by
  unfold Gives
  by_cases h0 : 1 ≤ n
  case neg =>
    go_enter Try.func27, Try.ntmps27
    go_wp2
    go_returns
    exact ⟨rfl, by go_grown⟩
  by_cases h1 : n ≤ 32768
  case neg =>
    go_enter Try.func27, Try.ntmps27
    go_wp2
    go_returns
    exact ⟨rfl, by go_grown⟩
  by_cases h2 : 0 ≤ a
  case neg =>
    go_enter Try.func27, Try.ntmps27
    go_wp2
    go_returns
    exact ⟨rfl, by go_grown⟩
  by_cases h3 : a < n
  case neg =>
    go_enter Try.func27, Try.ntmps27
    go_wp2
    go_returns
    exact ⟨rfl, by go_grown⟩
  by_cases h4 : 0 ≤ m
  case neg =>
    go_enter Try.func27, Try.ntmps27
    go_wp2
    go_returns
    exact ⟨rfl, by go_grown⟩
  by_cases h5 : m ≤ n
  case neg =>
    go_enter Try.func27, Try.ntmps27
    go_wp2
    go_returns
    exact ⟨rfl, by go_grown⟩
  by_cases h6 : 0 ≤ c
  case neg =>
    go_enter Try.func27, Try.ntmps27
    go_wp2
    go_returns
    exact ⟨rfl, by go_grown⟩
  by_cases h7 : c < n
  case neg =>
    go_enter Try.func27, Try.ntmps27
    go_wp2
    go_returns
    exact ⟨rfl, by go_grown⟩
  exact absurd ⟨⟨⟨⟨h0, h1⟩, h2, h3⟩, h4, h5⟩, ⟨⟨h0, h1⟩, h6, h7⟩, h4, h5⟩ h
end Go.Proofs.Ytgabbefghabcaaa.Ser
