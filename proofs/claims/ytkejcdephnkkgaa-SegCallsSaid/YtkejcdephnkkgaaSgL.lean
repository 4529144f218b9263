
/- Segments: a list of them as data, its cells, what Check, Total, take say of it. -/
import Derived.Test.YtkejcdephnkkgaaRow
import Derived.Test.YtkejcdephnkkgaaHeld
namespace Go.Proofs.Ytkejcdephnkkgaa.Sg
open Go.RowKit Rw
set_option linter.unusedVariables false
set_option linter.unusedSimpArgs false

/-- A segment. -/
structure S3 where
  a : Int
  n : Int
  w : Bool
def S3.zero : S3 := ⟨0, 0, false⟩
def S3.cells (x : S3) : List Value := [.int .u64 x.a, .int .u32 x.n, .bool x.w]
/-- What its types allow. -/
structure S3.Raw (x : S3) : Prop where
  a0 : 0 ≤ x.a
  a1 : x.a ≤ 18446744073709551615
  n0 : 0 ≤ x.n
  n1 : x.n ≤ 4294967295
/-- What a buffer asks of each. -/
structure S3.Val (x : S3) : Prop where
  a0 : 0 ≤ x.a
  n0 : 1 ≤ x.n
  n1 : x.n ≤ 4294967295
  e1 : x.a + (x.n - 1) ≤ 18446744073709551615

def at_ (l : List S3) (i : Nat) : S3 := l.getD i S3.zero
def cell (l : List S3) (k : Nat) : Value := if k % 3 = 0 then .int .u64 (at_ l (k / 3)).a else if k % 3 = 1 then .int .u32 (at_ l (k / 3)).n else .bool (at_ l (k / 3)).w
theorem cell0 (l : List S3) (i : Nat) : cell l (i * 3) = .int .u64 (at_ l i).a := by unfold cell; rw [if_pos (by omega)]; congr 3; omega
theorem cell1 (l : List S3) (i : Nat) : cell l (i * 3 + 1) = .int .u32 (at_ l i).n := by unfold cell; rw [if_neg (by omega), if_pos (by omega)]; congr 3; omega
theorem cell2 (l : List S3) (i : Nat) : cell l (i * 3 + 2) = .bool (at_ l i).w := by unfold cell; rw [if_neg (by omega), if_neg (by omega)]; congr 3; omega
theorem cell_one (l : List S3) (k : Nat) : (cell l k).oneCell' = true := by
  unfold cell
  split
  · rfl
  · split <;> rfl
def row (l : List S3) : List Value := (List.range (l.length * 3)).map (cell l)
theorem row_length (l : List S3) : (row l).length = l.length * 3 := by simp [row]
theorem row_getD (l : List S3) {j : Nat} (h : j < l.length * 3) : (row l).getD j undef = cell l j := by simp [row, List.getD_eq_getElem?_getD, h]
theorem row_get (l : List S3) {j : Nat} {v : Value} (h : (row l)[j]? = some v) : j < l.length * 3 ∧ cell l j = v := by
  simp only [row, List.getElem?_map, Option.map_eq_some_iff] at h
  obtain ⟨q, hq, rfl⟩ := h
  obtain ⟨hq1, hq2⟩ := List.getElem?_eq_some_iff.1 hq
  simp at hq1 hq2
  subst hq2
  exact ⟨hq1, rfl⟩
theorem row_one (l : List S3) : ∀ v ∈ row l, v.oneCell' = true := by
  intro v hv
  obtain ⟨q, _, rfl⟩ := List.mem_map.1 hv
  exact cell_one l q
theorem at_append (l r : List S3) (i : Nat) : at_ (l ++ r) i = if i < l.length then at_ l i else at_ r (i - l.length) := by
  unfold at_
  by_cases h : i < l.length
  · rw [if_pos h, List.getD_eq_getElem?_getD, List.getD_eq_getElem?_getD, List.getElem?_append_left h]
  · rw [if_neg h, List.getD_eq_getElem?_getD, List.getD_eq_getElem?_getD, List.getElem?_append_right (by omega)]
theorem cell_append_left (l r : List S3) {j : Nat} (h : j < l.length * 3) : cell (l ++ r) j = cell l j := by
  have e : at_ (l ++ r) (j / 3) = at_ l (j / 3) := by rw [at_append, if_pos (by omega)]
  unfold cell
  rw [e]
theorem cell_append_right (l r : List S3) (j : Nat) : cell (l ++ r) (l.length * 3 + j) = cell r j := by
  have e : at_ (l ++ r) ((l.length * 3 + j) / 3) = at_ r (j / 3) := by rw [at_append, if_neg (by omega), show (l.length * 3 + j) / 3 - l.length = j / 3 from by omega]
  unfold cell
  rw [e, show (l.length * 3 + j) % 3 = j % 3 from by omega]
theorem row_append (l r : List S3) : row (l ++ r) = row l ++ row r := by
  unfold row
  rw [List.length_append, Nat.add_mul, List.range_add, List.map_append]
  congr 1
  · exact List.map_congr_left fun j hj => cell_append_left l r (List.mem_range.1 hj)
  · rw [List.map_map]
    exact List.map_congr_left fun j hj => cell_append_right l r j
theorem row_single (x : S3) : row [x] = x.cells := by simp [row, List.range_succ, cell, at_, S3.cells]
theorem row_nil : row [] = [] := rfl
theorem at_mem (l : List S3) {i : Nat} (h : i < l.length) : at_ l i ∈ l := by
  unfold at_
  rw [List.getD_eq_getElem?_getD, List.getElem?_eq_getElem h]
  exact List.getElem_mem h
theorem drop_at (l : List S3) {i : Nat} (h : i < l.length) : l.drop i = at_ l i :: l.drop (i + 1) := by
  rw [List.drop_eq_getElem_cons h]
  unfold at_
  rw [List.getD_eq_getElem?_getD, List.getElem?_eq_getElem h]
  rfl
theorem at_succ (x : S3) (l : List S3) (i : Nat) : at_ (x :: l) (i + 1) = at_ l i := rfl
theorem at_zero (x : S3) (l : List S3) : at_ (x :: l) 0 = x := rfl
theorem cell_succ (x : S3) (l : List S3) (j : Nat) : cell (x :: l) (3 + j) = cell l j := by
  have := cell_append_right [x] l j
  simpa using this

/-- A list where it lies. -/
def Lst (w : World) (B : Nat) (A : Option Addr) (l : List S3) : Prop := IsRow w B 3 A l.length (cell l)

/-- Check. -/
def chk (s : Int) (t : Bool) : List S3 → Int
  | [] => if 4294967295 < s then 2 else 0
  | x :: r => if x.n = 0 ∨ 18446744073709551615 - x.a < x.n - 1 then 2 else if t = true ∧ x.w = false then 2 else chk (s + x.n) x.w r
def checkL (l : List S3) : Int := if 64 < l.length then 3 else chk 0 false l
/-- The sum of the Lens of one kind. -/
def tot (b : Bool) : List S3 → Int
  | [] => 0
  | x :: r => (if x.w = b then x.n else 0) + tot b r
def rd (l : List S3) : Int := if checkL l = 0 then tot false l else 0
def wr (l : List S3) : Int := if checkL l = 0 then tot true l else 0
/-- What take takes, and what it leaves. -/
def takeL (n : Int) : List S3 → List S3
  | [] => []
  | x :: r => if n ≤ 0 then [] else if n < x.n then [⟨x.a, n, x.w⟩] else x :: takeL (n - x.n) r
def dropL (n : Int) : List S3 → List S3
  | [] => []
  | x :: r => if n ≤ 0 then x :: r else if n < x.n then ⟨x.a + n, x.n - n, x.w⟩ :: r else dropL (n - x.n) r
def cutL (l : List S3) (from_ n : Int) : List S3 := if checkL l = 0 then takeL n (dropL from_ l) else []
def partL (l : List S3) (b : Bool) : List S3 := if b = true then cutL l (rd l) (wr l) else cutL l 0 (rd l)
def eqS (x y : S3) : Bool := x.a == y.a && x.n == y.n && x.w == y.w
def sameL : List S3 → List S3 → Bool
  | [], [] => true
  | x :: r, y :: s => eqS x y && sameL r s
  | _, _ => false
theorem eqS_iff (x y : S3) : eqS x y = true ↔ x = y := by
  cases x; cases y
  simp [eqS, and_assoc]
theorem sameL_refl (l : List S3) : sameL l l = true := by
  induction l with
  | nil => rfl
  | cons x l ih => unfold sameL; rw [ih, (eqS_iff x x).2 rfl]; rfl
theorem sameL_length {l o : List S3} (h : l.length ≠ o.length) : sameL l o = false := by
  induction l generalizing o with
  | nil =>
    cases o with
    | nil => exact absurd rfl h
    | cons y o => rfl
  | cons x l ih =>
    cases o with
    | nil => rfl
    | cons y o =>
      unfold sameL
      rw [ih (fun e => h (by simp [e])), Bool.and_false]

theorem chk_err (s : Int) (t : Bool) (l : List S3) : chk s t l = 0 ∨ chk s t l = 2 := by
  induction l generalizing s t with
  | nil => unfold chk; split <;> simp
  | cons x r ih =>
    unfold chk
    split
    · exact .inr rfl
    · split
      · exact .inr rfl
      · exact ih _ _
theorem chk_val {s : Int} {t : Bool} {l : List S3} (hr : ∀ x ∈ l, x.Raw) (h : chk s t l = 0) : ∀ x ∈ l, x.Val := by
  induction l generalizing s t with
  | nil => intro x hx; cases hx
  | cons y r ih =>
    unfold chk at h
    split at h
    · cases h
    · rename_i h1
      split at h
      · cases h
      · intro x hx
        rcases List.mem_cons.1 hx with rfl | hx
        · have := hr x (by simp)
          refine ⟨this.a0, ?_, this.n1, ?_⟩
          · have := this.n0; omega
          · omega
        · exact ih (fun x hx => hr x (by simp [hx])) h x hx
theorem check_chk {l : List S3} (h : checkL l = 0) : chk 0 false l = 0 ∧ l.length ≤ 64 := by
  unfold checkL at h
  split at h
  · cases h
  · exact ⟨h, by omega⟩
theorem check_val {l : List S3} (hr : ∀ x ∈ l, x.Raw) (h : checkL l = 0) : ∀ x ∈ l, x.Val := chk_val hr (check_chk h).1
theorem tot_nonneg {b : Bool} {l : List S3} (hr : ∀ x ∈ l, x.Raw) : 0 ≤ tot b l := by
  induction l with
  | nil => exact Int.le_refl _
  | cons x r ih =>
    unfold tot
    have := ih (fun x hx => hr x (by simp [hx]))
    have := (hr x (by simp)).n0
    split <;> omega
theorem chk_sum {s : Int} {t : Bool} {l : List S3} (h : chk s t l = 0) : s + (tot false l + tot true l) ≤ 4294967295 := by
  induction l generalizing s t with
  | nil =>
    unfold chk at h
    split at h
    · cases h
    · unfold tot; omega
  | cons x r ih =>
    unfold chk at h
    split at h
    · cases h
    · split at h
      · cases h
      · have := ih h
        unfold tot
        cases x.w <;> simp <;> omega
theorem check_sum {l : List S3} (h : checkL l = 0) : tot false l + tot true l ≤ 4294967295 := by
  have := chk_sum (check_chk h).1
  omega
theorem tot_take {b : Bool} (l : List S3) (i : Nat) : tot b (l.take i) + tot b (l.drop i) = tot b l := by
  induction l generalizing i with
  | nil => simp [tot]
  | cons x r ih =>
    cases i with
    | zero => simp [tot]
    | succ i =>
      simp only [List.take_succ_cons, List.drop_succ_cons, tot]
      rw [← ih i]
      omega

end Go.Proofs.Ytkejcdephnkkgaa.Sg
