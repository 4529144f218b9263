
/- Rings that are placed at multiples of 16: where their parts are; moved, their elements move. -/
import Derived.Test.YtkncaafjkoeijaaLayMath
import Derived.Test.YtkncaafjkoeijaaLay5
namespace Go.Proofs.Ytkncaafjkoeijaa.Lay
open Go.RowKit Ser
set_option linter.unusedVariables false
set_option linter.unusedSimpArgs false

def yI (p : Bool) (n : Int) : Int := if p = true then 4 else 6 + 2 * n
def zI (p : Bool) (n : Int) : Int := if p = true then 4 else 6 + 8 * n
def up4 (m : Int) : Int := if m % 4 = 0 then m else m - m % 4 + 4
def c3 (p : Bool) (n : Int) : Int := up4 (16 * n + yI p n)
def totI (p : Bool) (n : Int) : Int := c3 p n + zI p n

theorem parts_eq {p : Bool} {n : Int} (hs : sizeB p n = true) : partsI p n = (16 * n, yI p n, zI p n) := by
  unfold partsI yI zI
  rw [hs]
  cases p <;> simp
theorem yz_in (p : Bool) {n : Int} (hn : 1 ≤ n ∧ n ≤ 32768) : 4 ≤ yI p n ∧ yI p n ≤ 65542 ∧ 4 ≤ zI p n ∧ zI p n ≤ 262150 := by
  unfold yI zI
  split <;> omega
theorem up4_in (m : Int) : m ≤ up4 m ∧ up4 m ≤ m + 3 ∧ up4 m % 4 = 0 := by
  unfold up4
  split <;> omega
theorem up4_add (m b : Int) (hb : b % 16 = 0) : up4 (b + m) = b + up4 m := by
  unfold up4
  split <;> split <;> omega
theorem alignR_fit {n t a : Int} (ht : n % t = 0 ∧ a = n ∨ n % t ≠ 0 ∧ a = n - n % t + t ∧ a ≤ 18446744073709551615) : alignR n t = (a, 0) := by
  unfold alignR
  rcases ht with ⟨h, rfl⟩ | ⟨h, rfl, h2⟩
  · rw [if_pos h]
  · rw [if_neg h, if_pos h2]
theorem alignR_four {m : Int} (h1 : m ≤ 1000000000000000) : alignR m 4 = (up4 m, 0) := by
  unfold up4
  by_cases h : m % 4 = 0
  · rw [if_pos h]; exact alignR_fit (.inl ⟨h, rfl⟩)
  · rw [if_neg h]; exact alignR_fit (.inr ⟨h, rfl, by omega⟩)

theorem place_at {p : Bool} {n b : Int} (hs : sizeB p n = true) (hb : 0 ≤ b ∧ b ≤ 100000000000000) (h16 : b % 16 = 0) : placeI p n b = (p, n, b, b + 16 * n, b + c3 p n, totI p n, 0) := by
  have hn := sizeB_in hs
  have hy := yz_in p hn
  have hu := up4_in (16 * n + yI p n)
  unfold placeI
  rw [if_pos hs, parts_eq hs]
  unfold place1
  rw [alignR_self b 16 h16, if_pos rfl]
  unfold place2
  rw [w64_fits (x := b + 16 * n) (by omega) (by omega)]
  have ht : alignR (b + 16 * n) (toI p) = (b + 16 * n, 0) := by
    refine alignR_self _ _ ?_
    unfold toI
    split <;> omega
  rw [ht, if_pos rfl]
  unfold place3
  rw [w64_fits (x := b + 16 * n + yI p n) (by omega) (by omega), alignR_four (by omega), if_pos rfl, show b + 16 * n + yI p n = b + (16 * n + yI p n) from by omega, up4_add _ _ h16]
  have hc : up4 (16 * n + yI p n) = c3 p n := rfl
  rw [hc] at hu ⊢
  simp only
  rw [w64_fits (x := b + c3 p n + zI p n) (by omega) (by omega), w64_fits (x := b + c3 p n + zI p n - 1) (by omega) (by omega), w64_fits (x := b + c3 p n + zI p n - b) (by omega) (by omega), if_neg (by omega)]
  unfold totI
  rw [show b + c3 p n + zI p n - b = c3 p n + zI p n from by omega]

def up16 (m : Int) : Int := if m % 16 = 0 then m else m - m % 16 + 16
theorem up16_in (m : Int) : m ≤ up16 m ∧ up16 m ≤ m + 15 ∧ up16 m % 16 = 0 := by
  unfold up16
  split <;> omega
theorem alignR_sixteen {m : Int} (h1 : m ≤ 1000000000000000) : alignR m 16 = (up16 m, 0) := by
  unfold up16
  by_cases h : m % 16 = 0
  · rw [if_pos h]; exact alignR_fit (.inl ⟨h, rfl⟩)
  · rw [if_neg h]; exact alignR_fit (.inr ⟨h, rfl, by omega⟩)
theorem place_gen {p : Bool} {n b : Int} (hs : sizeB p n = true) (hb : 0 ≤ b ∧ b ≤ 100000000000000) : placeI p n b = (p, n, up16 b, up16 b + 16 * n, up16 b + c3 p n, up16 b - b + totI p n, 0) := by
  have hn := sizeB_in hs
  have hy := yz_in p hn
  have hu := up4_in (16 * n + yI p n)
  obtain ⟨g1, g2, g3⟩ := up16_in b
  unfold placeI
  rw [if_pos hs, parts_eq hs]
  unfold place1
  rw [alignR_sixteen (by omega), if_pos rfl]
  obtain ⟨d, hd⟩ : ∃ d, up16 b = d := ⟨_, rfl⟩
  simp only [hd] at g1 g2 g3 ⊢
  unfold place2
  rw [w64_fits (x := d + 16 * n) (by omega) (by omega)]
  have ht : alignR (d + 16 * n) (toI p) = (d + 16 * n, 0) := by
    refine alignR_self _ _ ?_
    unfold toI
    split <;> omega
  rw [ht, if_pos rfl]
  unfold place3
  rw [w64_fits (x := d + 16 * n + yI p n) (by omega) (by omega), alignR_four (by omega), if_pos rfl, show d + 16 * n + yI p n = d + (16 * n + yI p n) from by omega, up4_add _ _ g3]
  have hc : up4 (16 * n + yI p n) = c3 p n := rfl
  rw [hc] at hu ⊢
  simp only
  rw [w64_fits (x := d + c3 p n + zI p n) (by omega) (by omega), w64_fits (x := d + c3 p n + zI p n - 1) (by omega) (by omega), w64_fits (x := d + c3 p n + zI p n - b) (by omega) (by omega), if_neg (by omega)]
  unfold totI
  rw [show d + c3 p n + zI p n - b = d - b + (c3 p n + zI p n) from by omega]

theorem check_at {p : Bool} {n b : Int} (hs : sizeB p n = true) (hb : 0 ≤ b ∧ b ≤ 100000000000000) (h16 : b % 16 = 0) : checkB p n b (b + 16 * n) (b + c3 p n) = true := by
  have hn := sizeB_in hs
  have hy := yz_in p hn
  have hu : 16 * n + yI p n ≤ c3 p n ∧ c3 p n ≤ 16 * n + yI p n + 3 ∧ c3 p n % 4 = 0 := up4_in (16 * n + yI p n)
  unfold checkB
  rw [hs, parts_eq hs]
  show (true && apartB b (16 * n) (b + 16 * n) (yI p n) (toI p) (b + c3 p n) (zI p n)) = true
  unfold apartB
  have e1 : partB b (16 * n) 16 = true := by unfold partB; rw [decide_eq_true (by omega), decide_eq_true (by omega)]; rfl
  have e2 : partB (b + 16 * n) (yI p n) (toI p) = true := by
    unfold partB
    rw [decide_eq_true (p := (b + 16 * n) % toI p = 0) (by unfold toI; split <;> omega), decide_eq_true (by omega)]; rfl
  have e3 : partB (b + c3 p n) (zI p n) 4 = true := by unfold partB; rw [decide_eq_true (by omega), decide_eq_true (by omega)]; rfl
  rw [e1, e2, e3, shareB_of (by omega) (by omega) (.inl (by omega)), shareB_of (by omega) (by omega) (.inl (by omega)), shareB_of (by omega) (by omega) (.inl (by omega))]
  rfl

theorem where_far {p : Bool} {n d v e a i : Int} (ha : 1 ≤ a ∧ a ≤ 11) (hi : 1 ≤ i) (hm : manyB a = false) : whereI p n d v e a i = (0, 0, 2) := by
  unfold manyB at hm
  simp only [Bool.or_eq_false_iff, beq_eq_false_iff_ne, ne_eq] at hm
  obtain ⟨h1, h4, h8⟩ := hm
  have hr : (rowI p n d v e a).2.2 ≤ 1 := by
    unfold rowI
    rw [if_neg h1, if_neg h4, if_neg h8]
    repeat' split
    all_goals simp
  unfold whereI
  split
  · rw [if_neg (by omega)]
  · rfl

theorem elemS_move (p : Bool) (n d v e a i b : Int) : elemS p n (d + b) (v + b) (e + b) a i = elemS p n d v e a i + b := by
  unfold elemS
  repeat' split
  all_goals omega

/-- Moved, what Where says moves. -/
theorem where_move {p : Bool} {n b a i : Int} (hs : sizeB p n = true) (hb : 0 ≤ b ∧ b ≤ 100000000000000) (h16 : b % 16 = 0) (ha : 1 ≤ a ∧ a ≤ 11) (hi : 0 ≤ i ∧ i < n) :
    (whereI p n 0 (16 * n) (c3 p n) a i = (0, 0, 2) ∧ whereI p n b (b + 16 * n) (b + c3 p n) a i = (0, 0, 2)) ∨
    ∃ u q, whereI p n 0 (16 * n) (c3 p n) a i = (u, q, 0) ∧ whereI p n b (b + 16 * n) (b + c3 p n) a i = (u + b, q, 0) ∧ 0 ≤ u ∧ u ≤ 1000000 := by
  have hn := sizeB_in hs
  have hy := yz_in p hn
  have hu : 16 * n + yI p n ≤ c3 p n ∧ c3 p n ≤ 16 * n + yI p n + 3 ∧ c3 p n % 4 = 0 := up4_in (16 * n + yI p n)
  have k1 := check_at hs hb h16
  have k0 := check_at (b := 0) hs (by omega) (by omega)
  simp only [Int.zero_add] at k0
  have V1 := valid_of (by unfold u64in; omega) (by unfold u64in; omega) (by unfold u64in; omega) k1 (parts_eq hs)
  have V0 := valid_of (by unfold u64in; omega) (by unfold u64in; omega) (by unfold u64in; omega) k0 (parts_eq hs)
  cases hk : okE p a with
  | false => exact .inl ⟨where_no ha hi.1 hk, where_no ha hi.1 hk⟩
  | true =>
    by_cases hm : manyB a = false ∧ 1 ≤ i
    · exact .inl ⟨where_far ha hm.2 hm.1, where_far ha hm.2 hm.1⟩
    · have h0 : manyB a = false → i = 0 := fun h => by
        have : ¬ 1 ≤ i := fun h2 => hm ⟨h, h2⟩
        omega
      right
      refine ⟨_, _, where_yes k0 V0 ha hi h0 hk, ?_, ?_, ?_⟩
      · rw [where_yes k1 V1 ha hi h0 hk]
        have := elemS_move p n 0 (16 * n) (c3 p n) a i b
        rw [Int.zero_add, Int.add_comm (16 * n) b, Int.add_comm (c3 p n) b] at this
        rw [this]
      · exact (elem_in V0 ha hi h0 hk).2.1
      · have h3 := elem_in V0 ha hi h0 hk
        omega

theorem tot_grows {p : Bool} {n : Int} (hn : 1 ≤ n ∧ n ≤ 16384) : totI p n < totI p (2 * n) := by
  unfold totI c3
  have h1 := up4_in (16 * n + yI p n)
  have h2 := up4_in (16 * (2 * n) + yI p (2 * n))
  unfold yI zI at *
  cases p <;> simp_all <;> omega

end Go.Proofs.Ytkncaafjkoeijaa.Lay
