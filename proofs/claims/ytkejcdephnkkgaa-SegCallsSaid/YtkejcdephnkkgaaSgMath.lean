
/- Segments: what takes and drops do to each other. No walk. -/
import Derived.Test.YtkejcdephnkkgaaSgCut
namespace Go.Proofs.Ytkejcdephnkkgaa.SgMath
open Go.RowKit Rw Sg SgCheck SgClone SgTake SgTotal SgCut
set_option linter.unusedVariables false
set_option linter.unusedSimpArgs false

/-- The number of bytes. -/
def sm (l : List S3) : Int := tot false l + tot true l
theorem sm_cons (x : S3) (r : List S3) : sm (x :: r) = x.n + sm r := by
  unfold sm
  rw [tot_cons, tot_cons]
  cases x.w <;> simp <;> omega
theorem sm_nonneg {l : List S3} (h : ∀ x ∈ l, x.Val) : 0 ≤ sm l := by
  induction l with
  | nil => exact Int.le_refl _
  | cons x r ih =>
    rw [sm_cons]
    have := ih (fun y hy => h y (by simp [hy]))
    have := (h x (by simp)).n0
    omega
/-- First those that are read. -/
def ord (t : Bool) : List S3 → Prop
  | [] => True
  | x :: r => (t = true → x.w = true) ∧ ord x.w r
theorem ord_false {t : Bool} {l : List S3} (h : ord t l) : ord false l := by
  cases l with
  | nil => trivial
  | cons x r => exact ⟨fun e => (absurd e (by decide)), h.2⟩
theorem chk_iff (s : Int) (t : Bool) (l : List S3) (h : ∀ x ∈ l, x.Val) : chk s t l = 0 ↔ ord t l ∧ s + sm l ≤ 4294967295 := by
  induction l generalizing s t with
  | nil =>
    unfold chk
    have : sm [] = 0 := rfl
    rw [this]
    split
    · exact ⟨fun e => (absurd e (by decide)), fun e => by have := e.2; omega⟩
    · exact ⟨fun _ => ⟨trivial, by omega⟩, fun _ => rfl⟩
  | cons x r ih =>
    rw [chk_cons, sm_cons]
    obtain ⟨h1, h2, h3, h4⟩ := h x (by simp)
    rw [if_neg (by omega)]
    by_cases hw : t = true ∧ x.w = false
    · rw [if_pos hw]
      exact ⟨fun e => (absurd e (by decide)), fun e => by have := e.1.1 hw.1; rw [hw.2] at this; cases this⟩
    · rw [if_neg hw, ih _ _ (fun y hy => h y (by simp [hy]))]
      refine ⟨fun e => ⟨⟨fun ht => ?_, e.1⟩, by omega⟩, fun e => ⟨e.1.2, by omega⟩⟩
      cases hx : x.w with
      | true => rfl
      | false => exact absurd ⟨ht, hx⟩ hw
theorem check_iff (l : List S3) (h : ∀ x ∈ l, x.Val) (hl : l.length ≤ 64) : checkL l = 0 ↔ ord false l ∧ sm l ≤ 4294967295 := by
  unfold checkL
  rw [if_neg (by omega), chk_iff _ _ _ h, Int.zero_add]

theorem take_val (n : Int) (l : List S3) (h : ∀ x ∈ l, x.Val) : ∀ x ∈ takeL n l, x.Val := by
  induction l generalizing n with
  | nil => intro x hx; cases hx
  | cons y r ih =>
    rw [takeL_cons]
    split
    · intro x hx; cases hx
    · split
      · intro x hx
        obtain rfl := List.mem_singleton.1 hx
        obtain ⟨h1, h2, h3, h4⟩ := h y (by simp)
        exact ⟨h1, by show 1 ≤ n; omega, by show n ≤ _; omega, by show y.a + (n - 1) ≤ _; omega⟩
      · intro x hx
        rcases List.mem_cons.1 hx with rfl | hx
        · exact h x (by simp)
        · exact ih _ (fun x hx => h x (by simp [hx])) x hx
theorem take_ord (n : Int) (t : Bool) (l : List S3) (h : ord t l) : ord t (takeL n l) := by
  induction l generalizing n t with
  | nil => trivial
  | cons y r ih =>
    rw [takeL_cons]
    split
    · trivial
    · split
      · exact ⟨h.1, trivial⟩
      · exact ⟨h.1, ih _ _ h.2⟩
theorem drop_ord (n : Int) (l : List S3) (h : ord false l) : ord false (dropL n l) := by
  induction l generalizing n with
  | nil => trivial
  | cons y r ih =>
    rw [dropL_cons]
    split
    · exact h
    · split
      · exact ⟨fun e => (absurd e (by decide)), h.2⟩
      · exact ih _ (ord_false h.2)
theorem tot_split (b : Bool) (n : Int) (l : List S3) (h : ∀ x ∈ l, x.Val) : tot b (takeL n l) + tot b (dropL n l) = tot b l := by
  induction l generalizing n with
  | nil => rfl
  | cons y r ih =>
    rw [takeL_cons, dropL_cons]
    split
    · simp [tot]
    · split
      · simp only [tot_cons]
        have : tot b [] = 0 := rfl
        rw [this]
        split <;> omega
      · rw [tot_cons, tot_cons]
        have := ih (n - y.n) (fun x hx => h x (by simp [hx]))
        omega
theorem sm_split (n : Int) (l : List S3) (h : ∀ x ∈ l, x.Val) : sm (takeL n l) + sm (dropL n l) = sm l := by
  have h1 := tot_split false n l h
  have h2 := tot_split true n l h
  unfold sm
  omega
theorem sm_take (n : Int) (l : List S3) (h : ∀ x ∈ l, x.Val) (n0 : 0 ≤ n) : sm (takeL n l) = if n ≤ sm l then n else sm l := by
  induction l generalizing n with
  | nil =>
    have e : sm (takeL n []) = 0 := rfl
    have e' : sm ([] : List S3) = 0 := rfl
    rw [e, e']
    split <;> omega
  | cons y r ih =>
    rw [takeL_cons, sm_cons]
    have hr := fun x hx => h x (List.mem_cons_of_mem y hx)
    have s0 := sm_nonneg hr
    have hy := (h y (by simp)).n0
    by_cases h1 : n ≤ 0
    · rw [if_pos h1]
      have e : sm ([] : List S3) = 0 := rfl
      rw [e, if_pos (by omega)]
      omega
    · rw [if_neg h1]
      by_cases h2 : n < y.n
      · rw [if_pos h2, sm_cons]
        have e : sm ([] : List S3) = 0 := rfl
        rw [e, if_pos (by omega)]
        show n + 0 = n
        omega
      · rw [if_neg h2, sm_cons, ih _ hr (by omega)]
        split <;> split <;> omega
theorem take_all (n : Int) (l : List S3) (h : ∀ x ∈ l, x.Val) (hn : sm l ≤ n) : takeL n l = l := by
  induction l generalizing n with
  | nil => rfl
  | cons y r ih =>
    have hr := fun x hx => h x (List.mem_cons_of_mem y hx)
    have s0 := sm_nonneg hr
    have hy := (h y (by simp)).n0
    rw [sm_cons] at hn
    rw [takeL_cons, if_neg (by omega), if_neg (by omega), ih _ hr (by omega)]
theorem drop_all (n : Int) (l : List S3) (h : ∀ x ∈ l, x.Val) (hn : sm l ≤ n) : dropL n l = [] := by
  induction l generalizing n with
  | nil => rfl
  | cons y r ih =>
    have hr := fun x hx => h x (List.mem_cons_of_mem y hx)
    have s0 := sm_nonneg hr
    have hy := (h y (by simp)).n0
    rw [sm_cons] at hn
    rw [dropL_cons, if_neg (by omega), if_neg (by omega), ih _ hr (by omega)]
theorem drop_drop (m f : Int) (l : List S3) (m0 : 0 ≤ m) (f0 : 0 ≤ f) : dropL m (dropL f l) = dropL (f + m) l := by
  induction l generalizing f with
  | nil => rfl
  | cons y r ih =>
    rw [dropL_cons f y r]
    by_cases h1 : f ≤ 0
    · obtain rfl : f = 0 := by omega
      rw [if_pos h1, Int.zero_add]
    · rw [if_neg h1]
      by_cases h2 : f < y.n
      · rw [if_pos h2, dropL_cons, dropL_cons]
        by_cases h3 : m ≤ 0
        · obtain rfl : m = 0 := by omega
          rw [if_pos h3, if_neg (by omega), if_pos (by omega), Int.add_zero]
        · rw [if_neg h3, if_neg (show ¬ f + m ≤ 0 by omega)]
          by_cases h4 : m < y.n - f
          · rw [if_pos (show m < (⟨y.a + f, y.n - f, y.w⟩ : S3).n from h4), if_pos (show f + m < y.n by omega)]
            show (⟨y.a + f + m, y.n - f - m, y.w⟩ : S3) :: r = _
            rw [show y.a + f + m = y.a + (f + m) from by omega, show y.n - f - m = y.n - (f + m) from by omega]
          · rw [if_neg (show ¬ m < (⟨y.a + f, y.n - f, y.w⟩ : S3).n from h4), if_neg (show ¬ f + m < y.n by omega)]
            show dropL (m - (y.n - f)) r = _
            rw [show m - (y.n - f) = f + m - y.n from by omega]
      · rw [if_neg h2, ih _ (by omega), dropL_cons (f + m), if_neg (by omega), if_neg (by omega), show f - y.n + m = f + m - y.n from by omega]
theorem drop_take (k n : Int) (l : List S3) (k0 : 0 ≤ k) (h : k ≤ n) : dropL k (takeL n l) = takeL (n - k) (dropL k l) := by
  induction l generalizing k n with
  | nil => rfl
  | cons y r ih =>
    by_cases h1 : k ≤ 0
    · obtain rfl : k = 0 := by omega
      rw [dropL_zero, dropL_zero, Int.sub_zero]
    · rw [takeL_cons, if_neg (by omega), dropL_cons k, if_neg h1]
      by_cases h2 : k < y.n
      · rw [if_pos h2, takeL_cons]
        by_cases h3 : n < y.n
        · rw [if_pos h3, dropL_cons, if_neg h1]
          by_cases h4 : k < n
          · rw [if_pos (show k < (⟨y.a, n, y.w⟩ : S3).n from h4), if_neg (show ¬ n - k ≤ 0 by omega), if_pos (show n - k < (⟨y.a + k, y.n - k, y.w⟩ : S3).n by show n - k < y.n - k; omega)]
          · rw [if_neg (show ¬ k < (⟨y.a, n, y.w⟩ : S3).n from h4), if_pos (show n - k ≤ 0 by omega)]
            rfl
        · rw [if_neg h3, dropL_cons, if_neg h1, if_pos h2, if_neg (show ¬ n - k ≤ 0 by omega), if_neg (show ¬ n - k < (⟨y.a + k, y.n - k, y.w⟩ : S3).n by show ¬ n - k < y.n - k; omega)]
          show _ = (⟨y.a + k, y.n - k, y.w⟩ : S3) :: takeL (n - k - (y.n - k)) r
          rw [show n - k - (y.n - k) = n - y.n from by omega]
      · rw [if_neg h2, if_neg (by omega), dropL_cons, if_neg h1, if_neg h2, ih _ _ (by omega) (by omega), show n - y.n - (k - y.n) = n - k from by omega]
theorem tot_true_ord {l : List S3} (h : ord true l) : tot false l = 0 := by
  induction l with
  | nil => rfl
  | cons x r ih =>
    rw [tot_cons, h.1 rfl, if_neg (by decide)]
    have := h.2
    rw [h.1 rfl] at this
    rw [ih this]
    rfl
theorem parts (l : List S3) (h : ∀ x ∈ l, x.Val) (ho : ord false l) : takeL (tot false l) l ++ takeL (tot true l) (dropL (tot false l) l) = l := by
  induction l with
  | nil => rfl
  | cons x r ih =>
    have hr := fun y hy => h y (List.mem_cons_of_mem x hy)
    have hx := (h x (by simp)).n0
    cases hw : x.w with
    | true =>
      have e : tot false (x :: r) = 0 := by
        rw [tot_cons, hw, if_neg (by decide), tot_true_ord (by have := ho.2; rwa [hw] at this)]
        rfl
      rw [e, takeL_zero, dropL_zero, List.nil_append]
      refine take_all _ _ h ?_
      unfold sm
      omega
    | false =>
      have t0 : 0 ≤ tot false r := tot_nonneg fun y hy => ⟨(hr y hy).a0, by have := hr y hy; have := this.e1; have := (hr y hy).n0; omega, by have := (hr y hy).n0; omega, (hr y hy).n1⟩
      have e1 : tot false (x :: r) = x.n + tot false r := by rw [tot_cons, hw, if_pos rfl]
      have e2 : tot true (x :: r) = tot true r := by rw [tot_cons, hw, if_neg (by decide), Int.zero_add]
      rw [e1, e2, takeL_cons, dropL_cons, if_neg (by omega), if_neg (by omega), if_neg (by omega), if_neg (by omega), show x.n + tot false r - x.n = tot false r from by omega, List.cons_append]
      rw [ih hr (by have := ho.2; rwa [hw] at this)]

/-- A valid buffer. -/
structure Buf (l : List S3) : Prop where
  val : ∀ x ∈ l, x.Val
  ord : ord false l
  len : l.length ≤ 64
  sum : sm l ≤ 4294967295
theorem Buf.check {l : List S3} (h : Buf l) : checkL l = 0 := (check_iff l h.val h.len).2 ⟨h.ord, h.sum⟩
theorem Buf.of {l : List S3} (hr : ∀ x ∈ l, x.Raw) (h : checkL l = 0) : Buf l := by
  have hv := check_val hr h
  have hl := (check_chk h).2
  obtain ⟨h1, h2⟩ := (check_iff l hv hl).1 h
  exact ⟨hv, h1, hl, h2⟩
theorem Buf.drop {l : List S3} (h : Buf l) (n : Int) (n0 : 0 ≤ n) : Buf (dropL n l) := by
  have hv := drop_val n l h.val n0
  have h1 := sm_split n l h.val
  have h2 := sm_nonneg (take_val n l h.val)
  have h3 := h.sum
  exact ⟨hv, drop_ord n l h.ord, Nat.le_trans (drop_len n l) h.len, by omega⟩
theorem Buf.take {l : List S3} (h : Buf l) (n : Int) (n0 : 0 ≤ n) : Buf (takeL n l) := by
  have hv := take_val n l h.val
  have h1 := sm_split n l h.val
  have h2 := sm_nonneg (drop_val n l h.val n0)
  have h3 := h.sum
  exact ⟨hv, take_ord n false l h.ord, Nat.le_trans (take_len n l) h.len, by omega⟩
theorem Buf.raw {l : List S3} (h : Buf l) : ∀ x ∈ l, x.Raw := fun x hx => by
  obtain ⟨h1, h2, h3, h4⟩ := h.val x hx
  exact ⟨h1, by omega, by omega, h3⟩
theorem Buf.cut {l : List S3} (h : Buf l) (f n : Int) : cutL l f n = takeL n (dropL f l) := by unfold cutL; rw [if_pos h.check]
theorem Buf.cut0 {l : List S3} (h : Buf l) (n : Int) : cutL l 0 n = takeL n l := by rw [h.cut, dropL_zero]
theorem Buf.rd_eq {l : List S3} (h : Buf l) : rd l = tot false l := by unfold rd; rw [if_pos h.check]
theorem Buf.wr_eq {l : List S3} (h : Buf l) : wr l = tot true l := by unfold wr; rw [if_pos h.check]
theorem Buf.rd_wr {l : List S3} (h : Buf l) : rd l + wr l = sm l := by rw [h.rd_eq, h.wr_eq]; rfl
theorem Buf.rd0 {l : List S3} (h : Buf l) : 0 ≤ rd l := by rw [h.rd_eq]; exact tot_nonneg h.raw
theorem Buf.wr0 {l : List S3} (h : Buf l) : 0 ≤ wr l := by rw [h.wr_eq]; exact tot_nonneg h.raw
theorem Buf.parts {l : List S3} (h : Buf l) : partL l false ++ partL l true = l := by
  unfold partL
  rw [if_neg (by decide), if_pos rfl, h.cut0, h.cut, h.rd_eq, h.wr_eq]
  exact SgMath.parts l h.val h.ord
theorem Buf.all {l : List S3} (h : Buf l) : cutL l 0 (sm l) = l := by rw [h.cut0]; exact take_all _ _ h.val (Int.le_refl _)

/-- What SegCuts asks of the sums. -/
theorem cuts_sum {l : List S3} (h : Buf l) (f n : Int) (f0 : 0 ≤ f) (n0 : 0 ≤ n) : rd (cutL l f n) + wr (cutL l f n) = if f < sm l then (if n ≤ sm l - f then n else sm l - f) else 0 := by
  rw [h.cut, ((h.drop f f0).take n n0).rd_wr, sm_take _ _ (h.drop f f0).val n0]
  have h1 := sm_split f l h.val
  rw [sm_take _ _ h.val f0] at h1
  have h2 := sm_nonneg h.val
  by_cases hf : f < sm l
  · rw [if_pos (by omega)] at h1
    rw [if_pos hf, show sm (dropL f l) = sm l - f from by omega]
  · rw [if_neg hf]
    have : sm (dropL f l) = 0 := by
      split at h1 <;> omega
    rw [this]
    split <;> omega
theorem cuts_half {l : List S3} (h : Buf l) (f : Int) (f0 : 0 ≤ f) : rd (cutL l 0 f) + rd (cutL l f (sm l)) = rd l ∧ wr (cutL l 0 f) + wr (cutL l f (sm l)) = wr l := by
  have hs := sm_nonneg h.val
  have e : takeL (sm l) (dropL f l) = dropL f l := take_all _ _ (h.drop f f0).val (by have := sm_split f l h.val; have := sm_nonneg (h.take f f0).val; omega)
  rw [h.cut0, h.cut, e, (h.take f f0).rd_eq, (h.take f f0).wr_eq, (h.drop f f0).rd_eq, (h.drop f f0).wr_eq, h.rd_eq, h.wr_eq]
  exact ⟨tot_split false f l h.val, tot_split true f l h.val⟩
theorem cuts_twice {l : List S3} (h : Buf l) (f n m : Int) (f0 : 0 ≤ f) (n0 : 0 ≤ n) (m0 : 0 ≤ m) : cutL (cutL l f n) m n = cutL l (f + m) (n - (if m ≤ n then m else n)) := by
  have hb := (h.drop f f0).take n n0
  rw [h.cut f n, hb.cut, h.cut]
  by_cases hm : m ≤ n
  · rw [if_pos hm, drop_take _ _ _ m0 hm, drop_drop _ _ _ m0 f0]
    refine take_all _ _ (take_val _ _ (h.drop (f + m) (by omega)).val) ?_
    rw [sm_take _ _ (h.drop (f + m) (by omega)).val (by omega)]
    split <;> omega
  · rw [if_neg hm, Int.sub_self, takeL_zero, drop_all m _ hb.val (by rw [sm_take _ _ (h.drop f f0).val n0]; split <;> omega)]
    rfl

end Go.Proofs.Ytkejcdephnkkgaa.SgMath
