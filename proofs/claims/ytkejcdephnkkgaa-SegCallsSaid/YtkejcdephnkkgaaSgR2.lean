/- The document's buffers (dumbwaiterref05): Total, Part, Cut. -/
import Derived.Test.YtkejcdephnkkgaaSgR1
import Derived.Test.YtkejcdephnkkgaaSgArgs
import Derived.Test.YtkejcdephnkkgaaMGm1
namespace Go.Proofs.Ytkejcdephnkkgaa.SgR2
open Go.RowKit Rw Sg SgCheck SgClone SgTake SgTotal SgCut SgMath SgArgs SgR1
set_option linter.unusedVariables false
set_option linter.unusedSimpArgs false

theorem ord_true {r : List S3} (h : ord true r) : (∀ y ∈ r, y.w = true) ∧ tot false r = 0 := by
  induction r with
  | nil => exact ⟨(fun y hy => by cases hy), rfl⟩
  | cons x r ih =>
    have hx : x.w = true := h.1 rfl
    have h2 : ord x.w r := h.2
    rw [hx] at h2
    obtain ⟨i1, i2⟩ := ih h2
    refine ⟨fun y hy => ?_, ?_⟩
    · rcases List.mem_cons.1 hy with rfl | hy
      · exact hx
      · exact i1 y hy
    · rw [tot_cons, hx, i2]; rfl
def onlyL (b : Bool) (l : List S3) : List S3 := l.filter fun x => x.w == b
theorem only_cons (b : Bool) (x : S3) (l : List S3) : onlyL b (x :: l) = if x.w = b then x :: onlyL b l else onlyL b l := by
  unfold onlyL
  rw [List.filter_cons]
  by_cases h : x.w = b
  · simp [h]
  · simp [h]
theorem takeL_cons' (n : Int) (x : S3) (r : List S3) : takeL n (x :: r) = if n ≤ 0 then [] else if n < x.n then [⟨x.a, n, x.w⟩] else x :: takeL (n - x.n) r := rfl
theorem dropL_cons' (n : Int) (x : S3) (r : List S3) : dropL n (x :: r) = if n ≤ 0 then x :: r else if n < x.n then ⟨x.a + n, x.n - n, x.w⟩ :: r else dropL (n - x.n) r := rfl
theorem take_only (l : List S3) (t : Bool) (hv : ∀ x ∈ l, x.Val) (ho : ord t l) : takeL (tot false l) l = onlyL false l ∧ dropL (tot false l) l = onlyL true l := by
  induction l generalizing t with
  | nil => exact ⟨rfl, rfl⟩
  | cons x r ih =>
    have hx := hv x (by simp)
    have hn := hx.n0
    have hr : ∀ y ∈ r, y.Val := fun y hy => hv y (by simp [hy])
    have h0 : 0 ≤ tot false r := tot_nonneg fun y hy => ⟨(hr y hy).a0, by have := (hr y hy).e1; have := (hr y hy).n0; omega, by have := (hr y hy).n0; omega, (hr y hy).n1⟩
    rw [only_cons, only_cons, tot_cons, takeL_cons', dropL_cons']
    cases hw : x.w with
    | false =>
      have ho2 : ord false r := by have := ho.2; rwa [hw] at this
      obtain ⟨i1, i2⟩ := ih false hr ho2
      simp only [if_true]
      rw [if_neg (by omega), if_neg (by omega), if_neg (by omega), if_neg (by omega), show x.n + tot false r - x.n = tot false r from by omega, i1, i2]
      simp
    | true =>
      have ho2 : ord true r := by have := ho.2; rwa [hw] at this
      obtain ⟨i1, i2⟩ := ord_true ho2
      rw [i2]
      have e1 : onlyL false r = [] := List.filter_eq_nil_iff.2 fun y hy => by rw [i1 y hy]; decide
      have e2 : onlyL true r = r := List.filter_eq_self.2 fun y hy => by rw [i1 y hy]; rfl
      simp [e1, e2]
theorem sm_only (l : List S3) : sm (onlyL true l) = tot true l := by
  induction l with
  | nil => rfl
  | cons x r ih =>
    rw [only_cons, tot_cons]
    cases hw : x.w with
    | true => rw [if_pos rfl, if_pos rfl, sm_cons, ih]
    | false => rw [if_neg (by decide), if_neg (by decide), ih]; omega
theorem part_only {l : List S3} (hb : Buf l) (b : Bool) : partL l b = onlyL b l := by
  obtain ⟨h1, h2⟩ := take_only l false hb.val hb.ord
  cases b with
  | false => unfold partL; rw [if_neg (by decide), hb.cut0, hb.rd_eq, h1]
  | true =>
    unfold partL
    rw [if_pos rfl, hb.cut, hb.rd_eq, h2, hb.wr_eq, ← sm_only]
    exact take_all _ _ (fun x hx => hb.val x (List.mem_filter.1 hx).1) (Int.le_refl _)

/-- The document's Cut. -/
def cutR (f n : Int) : List S3 → List S3
  | [] => []
  | x :: r => if x.n ≤ f then cutR (f - x.n) n r else
      (if 0 < (if n < x.n - f then n else x.n - f) then [⟨x.a + f, (if n < x.n - f then n else x.n - f), x.w⟩] else []) ++ cutR 0 (n - (if n < x.n - f then n else x.n - f)) r
theorem cutR_eq (l : List S3) (f n : Int) (hv : ∀ x ∈ l, x.Val) (f0 : 0 ≤ f) (n0 : 0 ≤ n) : cutR f n l = takeL n (dropL f l) := by
  induction l generalizing f n with
  | nil => rfl
  | cons x r ih =>
    have hx := hv x (by simp)
    have h1 := hx.n0
    have hr : ∀ y ∈ r, y.Val := fun y hy => hv y (by simp [hy])
    show (if x.n ≤ f then _ else _) = _
    rw [dropL_cons']
    by_cases hf : x.n ≤ f
    · rw [if_pos hf, if_neg (by omega), if_neg (by omega)]
      exact ih _ _ hr (by omega) n0
    · rw [if_neg hf]
      have e : (if f ≤ 0 then x :: r else if f < x.n then ⟨x.a + f, x.n - f, x.w⟩ :: r else dropL (f - x.n) r) = (⟨x.a + f, x.n - f, x.w⟩ : S3) :: r := by
        by_cases h0 : f ≤ 0
        · have : f = 0 := by omega
          subst this
          rw [if_pos h0]
          congr 1
          cases x
          simp
        · rw [if_neg h0, if_pos (by omega)]
      rw [e, takeL_cons']
      show _ = if n ≤ 0 then [] else if n < x.n - f then [⟨x.a + f, n, x.w⟩] else ⟨x.a + f, x.n - f, x.w⟩ :: takeL (n - (x.n - f)) r
      by_cases hn : n ≤ 0
      · have : n = 0 := by omega
        subst this
        rw [if_pos (show (0 : Int) < x.n - f by omega), if_neg (by omega), if_pos (Int.le_refl 0), List.nil_append, ih 0 _ hr (by omega) (by omega)]
        rw [dropL_zero, show (0 : Int) - 0 = 0 from rfl]
        cases r with
        | nil => rfl
        | cons y r => rw [takeL_cons', if_pos (Int.le_refl 0)]
      · rw [if_neg hn]
        by_cases h2 : n < x.n - f
        · rw [if_pos h2, if_pos (by omega), if_pos h2, ih 0 _ hr (by omega) (by omega), dropL_zero, show n - n = (0 : Int) from by omega]
          cases r with
          | nil => rfl
          | cons y r => rw [takeL_cons', if_pos (Int.le_refl 0)]; rfl
        · rw [if_neg h2, if_pos (by omega), if_neg h2, ih 0 _ hr (by omega) (by omega), dropL_zero]
          rfl

end Go.Proofs.Ytkejcdephnkkgaa.SgR2
