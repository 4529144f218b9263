/- Advancing, as one word; what the contracts say in it. -/
import Derived.Test.YtgabbefghabcaaaSer2s
import Derived.Test.YtgabbefghabcaaaSer3
namespace Go.Proofs.Ytgabbefghabcaaa.Ser
open Go.RowKit
set_option linter.unusedVariables false
set_option linter.unusedSimpArgs false

/-- Advancing, as one word: At, Wrap. -/
def fwd (p : Int) (b : Bool) (m n : Int) : Int × Bool := if p + m < n then (p + m, b) else (p + m - n, !b)

theorem go_is (a m n x : Int) (b xb : Bool) (h : OkMove a m n) (e : fwd a b m n = (x, xb)) (w : World) : Calls Try.prog 10 #[posV a b, num m, num n] w (Gives w.heap.size w (.tuple #[posV x xb, num 0])) := by
  by_cases hh : a + m < n
  · have e' : fwd a b m n = (a + m, b) := by simp [fwd, hh]
    rw [e'] at e; cases e; exact s_go_plain a m n b h hh w
  · have e' : fwd a b m n = (a + m - n, !b) := by simp [fwd, hh]
    rw [e'] at e; cases e; exact s_go_round a m n b h (by omega) w
theorem fwd_in (a m n x : Int) (b xb : Bool) (h : OkMove a m n) (e : fwd a b m n = (x, xb)) : 0 ≤ x ∧ x < n := by
  unfold fwd at e
  obtain ⟨⟨⟨h1, h2⟩, h3, h4⟩, h5, h6⟩ := h
  split at e <;> cases e <;> omega
theorem fwd_fwd (p m k n x : Int) (b xb : Bool) (h : OkMove p m n) (hk : 0 ≤ k) (hmk : m + k ≤ n) (e : fwd p b m n = (x, xb)) : fwd x xb k n = fwd p b (m + k) n := by
  obtain ⟨⟨⟨h1, h2⟩, h3, h4⟩, h5, h6⟩ := h
  unfold fwd at *
  split at e <;> cases e
  · rw [show p + m + k = p + (m + k) by omega]
  · rw [if_pos (by omega), if_neg (by omega)]; congr 1; omega
theorem fwd_round (p n : Int) (b : Bool) (h3 : 0 ≤ p) : fwd p b n n = (p, !b) := by
  unfold fwd
  rw [if_neg (by omega)]; congr 1; omega
theorem between_is (p m n z : Int) (b zb : Bool) (h : OkMove p m n) (e : fwd p b m n = (z, zb)) (w : World) : Calls Try.prog 29 #[posV p b, posV z zb, num n] w (Gives w.heap.size w (.tuple #[num m, num 0])) := by
  have hz := fwd_in p m n z b zb h e
  obtain ⟨⟨⟨h1, h2⟩, h3, h4⟩, h5, h6⟩ := h
  unfold fwd at e
  split at e <;> cases e
  · have := s_between_same p (p + m) n b ⟨⟨h1, h2⟩, h3, h4⟩ ⟨⟨h1, h2⟩, hz.1, hz.2⟩ w
    rw [if_neg (by omega), show p + m - p = m by omega] at this
    exact this
  · have := s_between_other p (p + m - n) n b ⟨⟨h1, h2⟩, h3, h4⟩ ⟨⟨h1, h2⟩, hz.1, hz.2⟩ w
    rw [show p + m - n - p + n = m by omega] at this
    exact this
theorem read_is (p n x : Int) (b : Bool) (h : OkPos p n) (hx : SerBits.wordI p b = x) (w : World) : Calls Try.prog 11 #[word x, num n] w (Gives w.heap.size w (.tuple #[posV p b, num 0])) := by
  obtain ⟨⟨h1, h2⟩, h3, h4⟩ := h
  have hl := SerBits.wordI_lo p b
  rw [hx] at hl
  have e1 : x % 32768 = p := by rw [← hx]; unfold SerBits.wordI; split <;> omega
  have e2 : decide (32768 ≤ x) = b := by
    rw [← hx]; unfold SerBits.wordI; cases b <;> simp <;> omega
  have := s_read_yes x n hl ⟨h1, h2⟩ (by omega) w
  rw [e1, e2] at this
  exact this

theorem needat_is (p m k n x v : Int) (b xb vb : Bool) (h : OkMove p m n) (hk : 0 ≤ k) (hk' : k < n) (ex : fwd p b m n = (x, xb)) (ev : fwd p b k n = (v, vb)) (w : World) :
    Calls Try.prog 27 #[posV v vb, posV x xb, num m, num n] w (Gives w.heap.size w (.tuple #[.bool (decide (k < m)), num 0])) := by
  have hx := fwd_in p m n x b xb h ex
  have hv := fwd_in p k n v b vb ⟨h.1, by omega, by omega⟩ ev
  have hs := s_needat_same v x m n vb ⟨⟨h.1.1, hv.1, hv.2⟩, h.2.1, h.2.2⟩ ⟨⟨h.1.1, hx.1, hx.2⟩, h.2.1, h.2.2⟩ w
  have ho := s_needat_other v x m n vb ⟨⟨h.1.1, hv.1, hv.2⟩, h.2.1, h.2.2⟩ ⟨⟨h.1.1, hx.1, hx.2⟩, h.2.1, h.2.2⟩ w
  obtain ⟨⟨⟨h1, h2⟩, h3, h4⟩, h5, h6⟩ := h
  unfold fwd at ex ev
  have e1 : passed v x (IntKind.u16.wrap (x - m)) = decide (k < m) ∨ ¬ xb = vb := by
    unfold passed; simp only [IntKind.wrap_u16]
    split at ex <;> split at ev <;> cases ex <;> cases ev <;> first | (right; simp; done) | (left; congr 1; apply propext; omega)
  have e2 : passed (IntKind.u16.wrap (v - n)) x (IntKind.u16.wrap (x - m)) = decide (k < m) ∨ xb = vb := by
    unfold passed; simp only [IntKind.wrap_u16]
    split at ex <;> split at ev <;> cases ex <;> cases ev <;> first | (right; rfl; done) | (left; congr 1; apply propext; omega)
  by_cases hb : xb = vb
  · subst hb
    rw [e1.resolve_right (by simp)] at hs
    exact hs
  · obtain rfl : xb = !vb := by cases xb <;> cases vb <;> simp_all
    rw [e2.resolve_right (by simp)] at ho
    exact ho

end Go.Proofs.Ytgabbefghabcaaa.Ser
