
/- Rings' elements: each within its part, two of them apart. -/
import Derived.Test.YtkncaafjkoeijaaLay4
namespace Go.Proofs.Ytkncaafjkoeijaa.Lay
open Go.RowKit Ser
set_option linter.unusedVariables false
set_option linter.unusedSimpArgs false

/-- Have rings this element? -/
def splitB (a : Int) : Bool := decide (1 < a) && decide (a < 10)
def okE (p : Bool) (a : Int) : Bool := (a == 1) || (splitB a != p)
def manyB (a : Int) : Bool := (a == 1) || ((a == 4) || (a == 8))
def elemS (p : Bool) (n d v e a i : Int) : Int :=
  if a = 1 then d + 16 * i else if p = true then (if a = 10 then v else e) else
  if a = 2 then v else if a = 3 then v + 2 else if a = 4 then v + 4 + 2 * i else if a = 5 then v + 4 + 2 * n else
  if a = 6 then e else if a = 7 then e + 2 else if a = 8 then e + 4 + 8 * i else e + 4 + 8 * n
def elemL (p : Bool) (a : Int) : Int := if a = 1 then 16 else if p = true then 4 else if a = 8 then 8 else 2

/-- Valid rings, in numbers. -/
structure Valid (p : Bool) (n d v e x y z : Int) : Prop where
  n1 : 1 ≤ n ∧ n ≤ 32768
  d0 : 0 ≤ d
  v0 : 0 ≤ v
  e0 : 0 ≤ e
  hx : x = 16 * n
  hy : y = if p = true then 4 else 6 + 2 * n
  hz : z = if p = true then 4 else 6 + 8 * n
  dx : d + x ≤ 18446744073709551616
  vy : v + y ≤ 18446744073709551616
  ez : e + z ≤ 18446744073709551616
  a1 : d + x ≤ v ∨ v + y ≤ d
  a2 : d + x ≤ e ∨ e + z ≤ d
  a3 : v + y ≤ e ∨ e + z ≤ v

theorem shareB_no {a n b m : Int} (h : shareB a n b m = false) : a + n ≤ b ∨ b + m ≤ a := by
  unfold shareB at h
  split at h
  · right; have := of_decide_eq_false h; omega
  · left; have := of_decide_eq_false h; omega
theorem shareB_of {a n b m : Int} (hn : 0 < n) (hm : 0 < m) (h : a + n ≤ b ∨ b + m ≤ a) : shareB a n b m = false := by
  unfold shareB
  split
  · exact decide_eq_false (by omega)
  · exact decide_eq_false (by omega)
theorem shareB_in {a n b : Int} (h1 : a ≤ b) (h2 : b < a + n) : shareB a n b 1 = true := by
  unfold shareB
  rw [if_neg (by omega)]
  exact decide_eq_true (by omega)

theorem valid_of {p : Bool} {n d v e x y z : Int} (hd : u64in d) (hv : u64in v) (he : u64in e) (h : checkB p n d v e = true) (hp : partsI p n = (x, y, z)) : Valid p n d v e x y z := by
  have hs := check_size h
  have hn := sizeB_in hs
  unfold checkB at h
  rw [hs, hp] at h
  unfold apartB at h
  simp only [Bool.true_and, Bool.and_eq_true, Bool.not_eq_true'] at h
  obtain ⟨⟨⟨⟨⟨h1, h2⟩, h3⟩, h4⟩, h5⟩, h6⟩ := h
  have q1 := (partB_yes h1).2
  have q2 := (partB_yes h2).2
  have q3 := (partB_yes h3).2
  unfold partsI at hp
  rw [hs, if_pos rfl] at hp
  unfold u64in at hd hv he
  refine ⟨hn, hd.1, hv.1, he.1, ?_, ?_, ?_, by omega, by omega, by omega, shareB_no h4, shareB_no h5, shareB_no h6⟩
  all_goals
    split at hp
    all_goals
      simp only [Prod.mk.injEq] at hp
      first | omega | (simp_all; done) | (simp_all; omega)

theorem w64_fits {x : Int} (h0 : 0 ≤ x) (h1 : x < 18446744073709551616) : w64 x = x := by unfold w64; rw [IntKind.wrap_u64]; omega

theorem okE_cases {p : Bool} {a : Int} (ha : 1 ≤ a ∧ a ≤ 11) (h : okE p a = true) : a = 1 ∨ (p = true ∧ (a = 10 ∨ a = 11)) ∨ (p = false ∧ (a = 2 ∨ a = 3 ∨ a = 4 ∨ a = 5 ∨ a = 6 ∨ a = 7 ∨ a = 8 ∨ a = 9)) := by
  by_cases h1 : a = 1
  · exact .inl h1
  · right
    cases p
    · right
      have : splitB a = true := by unfold okE at h; simpa [h1] using h
      unfold splitB at this
      simp only [Bool.and_eq_true, decide_eq_true_eq] at this
      exact ⟨rfl, by omega⟩
    · left
      have : splitB a = false := by unfold okE at h; simpa [h1] using h
      unfold splitB at this
      rw [Bool.and_eq_false_iff] at this
      simp only [decide_eq_false_iff_not] at this
      exact ⟨rfl, by omega⟩
theorem okE_not {p : Bool} {a : Int} (ha : 1 ≤ a ∧ a ≤ 11) (h : okE p a = false) : (p = true ∧ 1 < a ∧ a < 10) ∨ (p = false ∧ 10 ≤ a) := by
  unfold okE at h
  rw [Bool.or_eq_false_iff] at h
  have h1 : a ≠ 1 := by simpa using h.1
  have h2 : splitB a = p := by simpa using h.2
  unfold splitB at h2
  cases p
  · right
    rw [Bool.and_eq_false_iff] at h2
    simp only [decide_eq_false_iff_not] at h2
    exact ⟨rfl, by omega⟩
  · left
    simp only [Bool.and_eq_true, decide_eq_true_eq] at h2
    exact ⟨rfl, h2⟩

theorem where_no {p : Bool} {n d v e a i : Int} (ha : 1 ≤ a ∧ a ≤ 11) (hi : 0 ≤ i) (h : okE p a = false) : whereI p n d v e a i = (0, 0, 2) := by
  have hr : rowI p n d v e a = (0, 0, 0) := by
    unfold rowI
    rcases okE_not ha h with ⟨rfl, h1, h2⟩ | ⟨rfl, h1⟩
    · rw [if_neg (by omega), if_pos rfl, if_neg (by omega), if_neg (by omega)]
    · rw [if_neg (by omega), if_neg (by decide)]
      repeat (rw [if_neg (by omega)])
  unfold whereI
  rw [hr]
  split
  · rw [if_neg (fun hh => by have h2 := hh.2; simp at h2; omega)]
  · rfl

theorem where_yes {p : Bool} {n d v e x y z a i : Int} (hc : checkB p n d v e = true) (V : Valid p n d v e x y z) (ha : 1 ≤ a ∧ a ≤ 11) (hi : 0 ≤ i ∧ i < n) (h0 : manyB a = false → i = 0) (h : okE p a = true) :
    whereI p n d v e a i = (elemS p n d v e a i, elemL p a, 0) := by
  obtain ⟨n1, d0, v0, e0, hx, hy, hz, dx, vy, ez, _, _, _⟩ := V
  unfold whereI
  rw [if_pos hc]
  rcases okE_cases ha h with rfl | ⟨rfl, h1⟩ | ⟨rfl, h1⟩
  · simp only [rowI, elemS, elemL, if_true]
    rw [if_pos hi, w64_fits (by omega) (by omega), Int.mul_comm]
  · simp only [if_true] at hy hz
    rcases h1 with rfl | rfl
    all_goals
      obtain rfl : i = 0 := h0 rfl
      simp only [rowI, elemS, elemL, if_true]
      simp
      rw [w64_fits (by omega) (by omega)]
  · simp only [Bool.false_eq_true, if_false] at hy hz
    rcases h1 with rfl | rfl | rfl | rfl | rfl | rfl | rfl | rfl
    · obtain rfl : i = 0 := h0 rfl
      simp [rowI, elemS, elemL]; rw [w64_fits (by omega) (by omega)]
    · obtain rfl : i = 0 := h0 rfl
      simp [rowI, elemS, elemL]; rw [w64_fits (x := v + 2) (by omega) (by omega), w64_fits (by omega) (by omega)]
    · simp [rowI, elemS, elemL, hi.1, hi.2]; rw [w64_fits (x := v + 4) (by omega) (by omega), w64_fits (by omega) (by omega)]; omega
    · obtain rfl : i = 0 := h0 rfl
      simp [rowI, elemS, elemL]; rw [w64_fits (x := v + 4) (by omega) (by omega), w64_fits (x := v + 4 + n * 2) (by omega) (by omega), w64_fits (by omega) (by omega)]; omega
    · obtain rfl : i = 0 := h0 rfl
      simp [rowI, elemS, elemL]; rw [w64_fits (by omega) (by omega)]
    · obtain rfl : i = 0 := h0 rfl
      simp [rowI, elemS, elemL]; rw [w64_fits (x := e + 2) (by omega) (by omega), w64_fits (by omega) (by omega)]
    · simp [rowI, elemS, elemL, hi.1, hi.2]; rw [w64_fits (x := e + 4) (by omega) (by omega), w64_fits (by omega) (by omega)]; omega
    · obtain rfl : i = 0 := h0 rfl
      simp [rowI, elemS, elemL]; rw [w64_fits (x := e + 4) (by omega) (by omega), w64_fits (x := e + 4 + n * 8) (by omega) (by omega), w64_fits (by omega) (by omega)]; omega

/-- In which part an element lies. -/
theorem elem_in {p : Bool} {n d v e x y z a i : Int} (V : Valid p n d v e x y z) (ha : 1 ≤ a ∧ a ≤ 11) (hi : 0 ≤ i ∧ i < n) (h0 : manyB a = false → i = 0) (h : okE p a = true) :
    (elemL p a = 16 ∨ elemL p a = 8 ∨ elemL p a = 4 ∨ elemL p a = 2) ∧ 0 ≤ elemS p n d v e a i ∧
    ((d ≤ elemS p n d v e a i ∧ elemS p n d v e a i + elemL p a ≤ d + x) ∨ (v ≤ elemS p n d v e a i ∧ elemS p n d v e a i + elemL p a ≤ v + y) ∨ (e ≤ elemS p n d v e a i ∧ elemS p n d v e a i + elemL p a ≤ e + z)) := by
  obtain ⟨n1, d0, v0, e0, hx, hy, hz, dx, vy, ez, _, _, _⟩ := V
  rcases okE_cases ha h with rfl | ⟨rfl, h1⟩ | ⟨rfl, h1⟩
  · refine ⟨.inl rfl, ?_, .inl ?_⟩ <;> simp only [elemS, elemL, if_true] <;> omega
  · simp only [if_true] at hy hz
    rcases h1 with rfl | rfl
    all_goals (simp [elemS, elemL]; omega)
  · simp only [Bool.false_eq_true, if_false] at hy hz
    rcases h1 with rfl | rfl | rfl | rfl | rfl | rfl | rfl | rfl
    all_goals (simp [elemS, elemL]; omega)

theorem elem_apart {p : Bool} {n d v e x y z a i b j : Int} (V : Valid p n d v e x y z) (ha : 1 ≤ a ∧ a ≤ 11) (hi : 0 ≤ i ∧ i < n) (h0 : manyB a = false → i = 0) (h : okE p a = true)
    (hb : 1 ≤ b ∧ b ≤ 11) (hj : 0 ≤ j ∧ j < n) (k0 : manyB b = false → j = 0) (k : okE p b = true) :
    (elemS p n d v e a i + elemL p a - 1 < elemS p n d v e b j ∨ elemS p n d v e b j + elemL p b - 1 < elemS p n d v e a i) ↔ (a ≠ b ∨ i ≠ j) := by
  obtain ⟨n1, d0, v0, e0, hx, hy, hz, dx, vy, ez, s1, s2, s3⟩ := V
  rcases okE_cases ha h with rfl | ⟨rfl, h1⟩ | ⟨rfl, h1⟩
  · rcases okE_cases hb k with rfl | ⟨rfl, h2⟩ | ⟨rfl, h2⟩
    · simp [elemS, elemL]; omega
    · simp only [if_true] at hy hz
      rcases h2 with rfl | rfl
      all_goals (simp [elemS, elemL]; omega)
    · simp only [Bool.false_eq_true, if_false] at hy hz
      rcases h2 with rfl | rfl | rfl | rfl | rfl | rfl | rfl | rfl
      all_goals (simp [elemS, elemL]; omega)
  · simp only [if_true] at hy hz
    rcases okE_cases hb k with rfl | ⟨_, h2⟩ | ⟨h2, _⟩
    · rcases h1 with rfl | rfl
      all_goals (simp [elemS, elemL]; omega)
    · rcases h1 with rfl | rfl <;> rcases h2 with rfl | rfl
      all_goals
        obtain rfl : i = 0 := h0 rfl
        obtain rfl : j = 0 := k0 rfl
        simp [elemS, elemL]; omega
    · cases h2
  · simp only [Bool.false_eq_true, if_false] at hy hz
    rcases okE_cases hb k with rfl | ⟨h2, _⟩ | ⟨_, h2⟩
    · rcases h1 with rfl | rfl | rfl | rfl | rfl | rfl | rfl | rfl
      all_goals (simp [elemS, elemL]; omega)
    · cases h2
    · rcases h1 with rfl | rfl | rfl | rfl | rfl | rfl | rfl | rfl <;> rcases h2 with rfl | rfl | rfl | rfl | rfl | rfl | rfl | rfl
      all_goals
        try obtain rfl : i = 0 := h0 rfl
        try obtain rfl : j = 0 := k0 rfl
        simp [elemS, elemL]; try omega

end Go.Proofs.Ytkncaafjkoeijaa.Lay
