
/- Bytes of words: entry.put and entry.get. -/
import Derived.Test.YtkncaafjkoeijaaLib
import Derived.Deep.OwnRows
import Derived.Below
import Derived.Deep.Draws
import Derived.OwnWalk
import Derived.StillTailTactics
import Derived.LoopN
import Derived.Test.YtkncaafjkoeijaaRow
import Derived.Deep.AppendLies
import Derived.Test.YtkncaafjkoeijaaLe
import Derived.RegionTactic
import Derived.BigRegion
namespace Go.Proofs.Ytkncaafjkoeijaa.DesPut
open Go.RowKit Le Rw
set_option linter.unusedVariables false

def putF (f : Nat → Value) (at_ n : Nat) (v : Int) : Nat → Value := fun j => if at_ ≤ j ∧ j < at_ + n then .int .u8 (byteI v (j - at_)) else f j

set_option maxRecDepth 100000 in
theorem put_any (b at_ n : Nat) (v : Int) (f : Nat → Value) (w : World) (hn : n ≤ 8) (ha : at_ + n ≤ 16) (hv : 0 ≤ v) (hv2 : v ≤ 18446744073709551615) (hr : w.rowIs b 128 16 f) :
    Calls Try.prog 127 #[.pointer (some ⟨b, 0, none⟩), .int .i64 at_, .int .i64 n, .int .u64 v] w fun e w' => e = .returned (.tuple #[]) ∧ w'.rowIs b 128 16 (putF f at_ n v) ∧ w.grownBy w' (some b) := by
  go_enter Try.func127, Try.ntmps127
  go_wp2
  go_loopw [8, 10] (fun x i wr => ∃ k : Nat, k ≤ n ∧ i = .int .i64 k ∧ wr.rowIs b 128 16 (putF f at_ k v) ∧ w.grownBy wr (some b)) (fun x i wr => n - (intOf i).toNat)
  case atStart => exact ⟨0, by omega, rfl, hr.congr (fun j hj => by unfold putF; rw [if_neg (by omega)]), World.grownBy.refl _ _⟩
  case round =>
    obtain ⟨k, hk, rfl, hw, hg⟩ := hrel
    by_cases hlt : k < n
    · have hc : wr.cell? ⟨b, at_ + k, none⟩ = some (putF f at_ k v (at_ + k)) := hw.cell (by omega)
      have hz : wr.frozen? ⟨b, at_ + k, none⟩ = false := hw.frozen _
      go_wp2
      go_region
      go_wp2
      go_roundw
      case rel => exact ⟨k + 1, by omega, by go_num, ((hw.set (at_ + k) (.int .u8 (byteI v k))).drew).congr (fun j hj => by
        unfold putF
        by_cases e : j = at_ + k
        · rw [if_pos e, if_pos (by omega), e, Nat.add_sub_cancel_left]
        · rw [if_neg e]
          by_cases e2 : at_ ≤ j ∧ j < at_ + k
          · rw [if_pos e2, if_pos (by omega)]
          · rw [if_neg e2, if_neg (by omega)]), only_drew (only_setCell hg (.inl rfl) _)⟩
      case measure => simp [intOf]; omega
    · obtain rfl : k = n := by omega
      go_wp2
      go_end0
      exact ⟨rfl, hw, hg⟩
theorem get_any (b at_ n : Nat) (g : Nat → Int) (w : World) (hn : n ≤ 8) (ha : at_ + n ≤ 16) (hg : Bytes g 16) (hr : w.rowIs b 128 16 (fun j => .int .u8 (g j))) :
    Calls Try.prog 125 #[.pointer (some ⟨b, 0, none⟩), .int .i64 at_, .int .i64 n] w fun e w' => e = .returned (.int .u64 (wordI (fun j => g (at_ + j)) n)) ∧ w = w' := by
  go_enter Try.func125, Try.ntmps125
  go_wp2
  go_loop [7, 8, 10] (fun v x i => ∃ k : Nat, k ≤ n ∧ i = .int .i64 k ∧ v = .int .u64 (wordI (fun j => g (at_ + j)) k)) (fun v x i => n - (intOf i).toNat)
  case atStart => exact ⟨0, by omega, rfl, rfl⟩
  case round =>
    obtain ⟨k, hk, rfl, rfl⟩ := hrel
    by_cases hlt : k < n
    · have hc : w.cell? ⟨b, at_ + k, none⟩ = some (.int .u8 (g (at_ + k))) := hr.cell (by omega)
      have hb := hg (at_ + k) (by omega)
      go_wp2
      go_round
      case rel => exact ⟨k + 1, by omega, by go_num, by rw [word_step (fun j => g (at_ + j)) k (fun i hi => hg _ (by omega)) (by omega)]⟩
      case measure => simp [intOf]; omega
    · obtain rfl : k = n := by omega
      go_wp2
      go_ret
      exact ⟨rfl, rfl⟩
/-- The bytes of a descriptor: four words, of eight, four, two and two bytes. -/
def descG (a l f x : Int) (j : Nat) : Int := if j < 8 then byteI a j else if j < 12 then byteI l (j - 8) else if j < 14 then byteI f (j - 12) else byteI x (j - 14)
theorem descG_lo (a l f x : Int) : Bytes (descG a l f x) 16 := fun i _ => by unfold descG; split; exact byte_lo _ _; split; exact byte_lo _ _; split; exact byte_lo _ _; exact byte_lo _ _
abbrev descV (a l f x : Int) : Value := .agg #[.int .u64 a, .int .u32 l, .int .u16 f, .int .u16 x]
def u8F (g : Nat → Int) : Nat → Value := fun j => .int .u8 (g j)
structure DescIn (a l f x : Int) : Prop where
  a0 : 0 ≤ a
  a1 : a ≤ 18446744073709551615
  l0 : 0 ≤ l
  l1 : l ≤ 4294967295
  f0 : 0 ≤ f
  f1 : f ≤ 65535
  x0 : 0 ≤ x
  x1 : x ≤ 65535

theorem puts (f0 : Nat → Value) (a l f x : Int) (j : Nat) (hj : j < 16) : putF (putF (putF (putF f0 0 8 a) 8 4 l) 12 2 f) 14 2 x j = u8F (descG a l f x) j := by
  unfold putF u8F descG
  by_cases h1 : j < 8
  · simp (disch := omega) only [if_neg, if_pos]; simp
  · by_cases h2 : j < 12
    · simp (disch := omega) only [if_neg, if_pos]
    · by_cases h3 : j < 14
      · simp (disch := omega) only [if_neg, if_pos]
      · simp (disch := omega) only [if_neg, if_pos]

set_option maxRecDepth 100000 in
theorem setDesc_any (b : Nat) (a l f x : Int) (f0 : Nat → Value) (w : World) (h : DescIn a l f x) (hr : w.rowIs b 128 16 f0) :
    Calls Try.prog 107 #[.pointer (some ⟨b, 0, none⟩), descV a l f x] w fun e w' => e = .returned (.tuple #[]) ∧ w'.rowIs b 128 16 (u8F (descG a l f x)) ∧ w.grownBy w' (some b) := by
  obtain ⟨a0, a1, l0, l1, f0', f1, x0, x1⟩ := h
  have hlt := hr.lt
  go_enter Try.func107, Try.ntmps107
  go_wp2_with fail
  refine (put_any b 0 8 a f0 _ (by omega) (by omega) a0 a1 (hr.alloc _)).mono ?_
  rintro e W1 ⟨rfl, r1, g1⟩
  have z1 := g1.size
  simp only [World.size_alloc] at z1
  have c1 : W1.cell? ⟨w.heap.size, 1, none⟩ = some (.int .u32 l) := (g1.cell_far ⟨_, _, none⟩ (by simp) (by simp; omega)).trans (by go_cell)
  have c2 : W1.cell? ⟨w.heap.size, 2, none⟩ = some (.int .u16 f) := (g1.cell_far ⟨_, _, none⟩ (by simp) (by simp; omega)).trans (by go_cell)
  have c3 : W1.cell? ⟨w.heap.size, 3, none⟩ = some (.int .u16 x) := (g1.cell_far ⟨_, _, none⟩ (by simp) (by simp; omega)).trans (by go_cell)
  go_wp2_with fail
  refine (put_any b 8 4 l _ _ (by omega) (by omega) l0 (by omega) r1).mono ?_
  rintro e W2 ⟨rfl, r2, g2⟩
  have z2 := g2.size
  have d2 : W2.cell? ⟨w.heap.size, 2, none⟩ = some (.int .u16 f) := (g2.cell_far ⟨_, _, none⟩ (by simp; omega) (by simp; omega)).trans c2
  have d3 : W2.cell? ⟨w.heap.size, 3, none⟩ = some (.int .u16 x) := (g2.cell_far ⟨_, _, none⟩ (by simp; omega) (by simp; omega)).trans c3
  clear c1 c2 c3
  go_wp2_with fail
  refine (put_any b 12 2 f _ _ (by omega) (by omega) f0' (by omega) r2).mono ?_
  rintro e W3 ⟨rfl, r3, g3⟩
  have z3 := g3.size
  have e3 : W3.cell? ⟨w.heap.size, 3, none⟩ = some (.int .u16 x) := (g3.cell_far ⟨_, _, none⟩ (by simp; omega) (by simp; omega)).trans d3
  clear d2 d3
  go_wp2_with fail
  refine (put_any b 14 2 x _ _ (by omega) (by omega) x0 (by omega) r3).mono ?_
  rintro e W4 ⟨rfl, r4, g4⟩
  go_wp2_with fail
  go_end0
  exact ⟨rfl, r4.congr (fun j hj => puts _ _ _ _ _ _ hj), only_trans (World.grownBy_alloc w _ _) (only_trans g1 (only_trans g2 (only_trans g3 g4)))⟩

set_option maxRecDepth 100000 in
theorem setPacked_any (b : Nat) (a l f x : Int) (f0 : Nat → Value) (w : World) (h : DescIn a l f x) (hr : w.rowIs b 128 16 f0) :
    Calls Try.prog 109 #[.pointer (some ⟨b, 0, none⟩), descV a l f x] w fun e w' => e = .returned (.tuple #[]) ∧ w'.rowIs b 128 16 (u8F (descG a l f x)) ∧ w.grownBy w' (some b) := by
  obtain ⟨a0, a1, l0, l1, f0', f1, x0, x1⟩ := h
  have hlt := hr.lt
  go_enter Try.func109, Try.ntmps109
  go_wp2_with fail
  refine (put_any b 0 8 a f0 _ (by omega) (by omega) a0 a1 (hr.alloc _)).mono ?_
  rintro e W1 ⟨rfl, r1, g1⟩
  have z1 := g1.size
  simp only [World.size_alloc] at z1
  have c1 : W1.cell? ⟨w.heap.size, 1, none⟩ = some (.int .u32 l) := (g1.cell_far ⟨_, _, none⟩ (by simp) (by simp; omega)).trans (by go_cell)
  have c2 : W1.cell? ⟨w.heap.size, 2, none⟩ = some (.int .u16 f) := (g1.cell_far ⟨_, _, none⟩ (by simp) (by simp; omega)).trans (by go_cell)
  have c3 : W1.cell? ⟨w.heap.size, 3, none⟩ = some (.int .u16 x) := (g1.cell_far ⟨_, _, none⟩ (by simp) (by simp; omega)).trans (by go_cell)
  go_wp2_with fail
  refine (put_any b 8 4 l _ _ (by omega) (by omega) l0 (by omega) r1).mono ?_
  rintro e W2 ⟨rfl, r2, g2⟩
  have z2 := g2.size
  have d2 : W2.cell? ⟨w.heap.size, 2, none⟩ = some (.int .u16 f) := (g2.cell_far ⟨_, _, none⟩ (by simp; omega) (by simp; omega)).trans c2
  have d3 : W2.cell? ⟨w.heap.size, 3, none⟩ = some (.int .u16 x) := (g2.cell_far ⟨_, _, none⟩ (by simp; omega) (by simp; omega)).trans c3
  clear c1 c2 c3
  go_wp2_with fail
  refine (put_any b 12 2 f _ _ (by omega) (by omega) f0' (by omega) r2).mono ?_
  rintro e W3 ⟨rfl, r3, g3⟩
  have z3 := g3.size
  have e3 : W3.cell? ⟨w.heap.size, 3, none⟩ = some (.int .u16 x) := (g3.cell_far ⟨_, _, none⟩ (by simp; omega) (by simp; omega)).trans d3
  clear d2 d3
  go_wp2_with fail
  refine (put_any b 14 2 x _ _ (by omega) (by omega) x0 (by omega) r3).mono ?_
  rintro e W4 ⟨rfl, r4, g4⟩
  go_wp2_with fail
  go_end0
  exact ⟨rfl, r4.congr (fun j hj => puts _ _ _ _ _ _ hj), only_trans (World.grownBy_alloc w _ _) (only_trans g1 (only_trans g2 (only_trans g3 g4)))⟩

/-- The four words of sixteen bytes. -/
def fA (g : Nat → Int) : Int := wordI g 8
def fL (g : Nat → Int) : Int := wordI (fun j => g (8 + j)) 4
def fF (g : Nat → Int) : Int := wordI (fun j => g (12 + j)) 2
def fX (g : Nat → Int) : Int := wordI (fun j => g (14 + j)) 2
theorem f_in {g : Nat → Int} (hg : Bytes g 16) : DescIn (fA g) (fL g) (fF g) (fX g) := by
  have h1 := word_lo (g := g) (n := 8) fun i hi => hg i (by omega)
  have h2 := word_lo (g := fun j => g (8 + j)) (n := 4) fun i hi => hg _ (by omega)
  have h3 := word_lo (g := fun j => g (12 + j)) (n := 2) fun i hi => hg _ (by omega)
  have h4 := word_lo (g := fun j => g (14 + j)) (n := 2) fun i hi => hg _ (by omega)
  simp only [show (2 : Int) ^ (8 * 8) = 18446744073709551616 from by decide, show (2 : Int) ^ (8 * 4) = 4294967296 from by decide, show (2 : Int) ^ (8 * 2) = 65536 from by decide] at h1 h2 h3 h4
  exact ⟨h1.1, by unfold fA; omega, h2.1, by unfold fL; omega, h3.1, by unfold fF; omega, h4.1, by unfold fX; omega⟩
theorem f_desc (a l f x : Int) (h : DescIn a l f x) : fA (descG a l f x) = a ∧ fL (descG a l f x) = l ∧ fF (descG a l f x) = f ∧ fX (descG a l f x) = x := by
  obtain ⟨a0, a1, l0, l1, f0, f1, x0, x1⟩ := h
  refine ⟨?_, ?_, ?_, ?_⟩
  · unfold fA
    rw [word_congr (h := byteI a) fun i hi => by unfold descG; rw [if_pos hi], word_byte a a0]
    exact Int.emod_eq_of_lt a0 (by show a < 18446744073709551616; omega)
  · unfold fL
    rw [word_congr (h := byteI l) fun i hi => by unfold descG; rw [if_neg (by omega), if_pos (by omega), Nat.add_sub_cancel_left], word_byte l l0]
    exact Int.emod_eq_of_lt l0 (by show l < 4294967296; omega)
  · unfold fF
    rw [word_congr (h := byteI f) fun i hi => by unfold descG; rw [if_neg (by omega), if_neg (by omega), if_pos (by omega), Nat.add_sub_cancel_left], word_byte f f0]
    exact Int.emod_eq_of_lt f0 (by show f < 65536; omega)
  · unfold fX
    rw [word_congr (h := byteI x) fun i hi => by unfold descG; rw [if_neg (by omega), if_neg (by omega), if_neg (by omega), Nat.add_sub_cancel_left], word_byte x x0]
    exact Int.emod_eq_of_lt x0 (by show x < 65536; omega)
theorem desc_f {g : Nat → Int} (hg : Bytes g 16) (j : Nat) (hj : j < 16) : descG (fA g) (fL g) (fF g) (fX g) j = g j := by
  unfold descG
  split
  · exact byte_word (fun i hi => hg i (by omega)) j ‹_›
  · split
    · refine (byte_word (fun i hi => hg _ (by omega)) (j - 8) (by omega)).trans ?_
      show g (8 + (j - 8)) = g j
      congr 1; omega
    · split
      · refine (byte_word (fun i hi => hg _ (by omega)) (j - 12) (by omega)).trans ?_
        show g (12 + (j - 12)) = g j
        congr 1; omega
      · refine (byte_word (fun i hi => hg _ (by omega)) (j - 14) (by omega)).trans ?_
        show g (14 + (j - 14)) = g j
        congr 1; omega

def Gives (B : Nat) (w : World) (v : Value) (e : Ending) (w' : World) : Prop := e = .returned v ∧ Below B w w'

set_option maxRecDepth 100000 in
theorem desc_any (b : Nat) (g : Nat → Int) (w : World) (hg : Bytes g 16) (hr : w.rowIs b 128 16 (u8F g)) :
    Calls Try.prog 103 #[.pointer (some ⟨b, 0, none⟩)] w (Gives w.heap.size w (descV (fA g) (fL g) (fF g) (fX g))) := by
  unfold Gives
  have hi := f_in hg
  obtain ⟨a0, a1, l0, l1, f0, f1, x0, x1⟩ := hi
  have r1 := hr.alloc (.cells #[.int .u64 0, .int .u32 0, .int .u16 0, .int .u16 0] 62)
  have e2 : (fL g) % 4294967296 = fL g := Int.emod_eq_of_lt l0 (by omega)
  have e3 : (fF g) % 65536 = fF g := Int.emod_eq_of_lt f0 (by omega)
  have e4 : (fX g) % 65536 = fX g := Int.emod_eq_of_lt x0 (by omega)
  obtain ⟨A, hA⟩ : ∃ A, fA g = A := ⟨_, rfl⟩
  obtain ⟨L, hL⟩ : ∃ L, fL g = L := ⟨_, rfl⟩
  obtain ⟨F, hF⟩ : ∃ F, fF g = F := ⟨_, rfl⟩
  obtain ⟨X, hX⟩ : ∃ X, fX g = X := ⟨_, rfl⟩
  rw [hA] at a0 a1 ⊢
  rw [hL] at l0 l1 ⊢
  rw [hF] at f0 f1 ⊢
  rw [hX] at x0 x1 ⊢
  have HA := Lib.hid hA
  have HL := Lib.hid hL
  have HF := Lib.hid hF
  have HX := Lib.hid hX
  clear hA hL hF hX e2 e3 e4
  go_enter Try.func103, Try.ntmps103
  go_wp2_with fail
  refine (get_any b 0 8 g _ (by omega) (by omega) hg r1).mono ?_
  rintro e w' ⟨rfl, rfl⟩
  rw [show wordI (fun j => g (0 + j)) 8 = A from by rw [← HA.out]; unfold fA; simp only [Nat.zero_add]]
  go_wp2_with fail
  refine (get_any b 8 4 g _ (by omega) (by omega) hg r1).mono ?_
  rintro e w' ⟨rfl, rfl⟩
  rw [show wordI (fun j => g (8 + j)) 4 = L from HL.out]
  go_wp2_with fail
  refine (get_any b 12 2 g _ (by omega) (by omega) hg r1).mono ?_
  rintro e w' ⟨rfl, rfl⟩
  rw [show wordI (fun j => g (12 + j)) 2 = F from HF.out]
  go_wp2_with fail
  refine (get_any b 14 2 g _ (by omega) (by omega) hg r1).mono ?_
  rintro e w' ⟨rfl, rfl⟩
  rw [show wordI (fun j => g (14 + j)) 2 = X from HX.out]
  go_wp2_with fail
  go_returns
  exact ⟨rfl, by go_grown⟩

set_option maxRecDepth 100000 in
theorem packed_any (b : Nat) (g : Nat → Int) (w : World) (hg : Bytes g 16) (hr : w.rowIs b 128 16 (u8F g)) :
    Calls Try.prog 105 #[.pointer (some ⟨b, 0, none⟩)] w (Gives w.heap.size w (descV (fA g) (fL g) (fF g) (fX g))) := by
  unfold Gives
  have hi := f_in hg
  obtain ⟨a0, a1, l0, l1, f0, f1, x0, x1⟩ := hi
  have r1 := hr.alloc (.cells #[.int .u64 0, .int .u32 0, .int .u16 0, .int .u16 0] 64)
  have e2 : (fL g) % 4294967296 = fL g := Int.emod_eq_of_lt l0 (by omega)
  have e3 : (fF g) % 65536 = fF g := Int.emod_eq_of_lt f0 (by omega)
  have e4 : (fX g) % 65536 = fX g := Int.emod_eq_of_lt x0 (by omega)
  obtain ⟨A, hA⟩ : ∃ A, fA g = A := ⟨_, rfl⟩
  obtain ⟨L, hL⟩ : ∃ L, fL g = L := ⟨_, rfl⟩
  obtain ⟨F, hF⟩ : ∃ F, fF g = F := ⟨_, rfl⟩
  obtain ⟨X, hX⟩ : ∃ X, fX g = X := ⟨_, rfl⟩
  rw [hA] at a0 a1 ⊢
  rw [hL] at l0 l1 ⊢
  rw [hF] at f0 f1 ⊢
  rw [hX] at x0 x1 ⊢
  have HA := Lib.hid hA
  have HL := Lib.hid hL
  have HF := Lib.hid hF
  have HX := Lib.hid hX
  clear hA hL hF hX e2 e3 e4
  go_enter Try.func105, Try.ntmps105
  go_wp2_with fail
  refine (get_any b 0 8 g _ (by omega) (by omega) hg r1).mono ?_
  rintro e w' ⟨rfl, rfl⟩
  rw [show wordI (fun j => g (0 + j)) 8 = A from by rw [← HA.out]; unfold fA; simp only [Nat.zero_add]]
  go_wp2_with fail
  refine (get_any b 8 4 g _ (by omega) (by omega) hg r1).mono ?_
  rintro e w' ⟨rfl, rfl⟩
  rw [show wordI (fun j => g (8 + j)) 4 = L from HL.out]
  go_wp2_with fail
  refine (get_any b 12 2 g _ (by omega) (by omega) hg r1).mono ?_
  rintro e w' ⟨rfl, rfl⟩
  rw [show wordI (fun j => g (12 + j)) 2 = F from HF.out]
  go_wp2_with fail
  refine (get_any b 14 2 g _ (by omega) (by omega) hg r1).mono ?_
  rintro e w' ⟨rfl, rfl⟩
  rw [show wordI (fun j => g (14 + j)) 2 = X from HX.out]
  go_wp2_with fail
  go_returns
  exact ⟨rfl, by go_grown⟩


theorem zero16 (w : World) : (w.alloc (.cells #[.int .u8 0, .int .u8 0, .int .u8 0, .int .u8 0, .int .u8 0, .int .u8 0, .int .u8 0, .int .u8 0, .int .u8 0, .int .u8 0, .int .u8 0, .int .u8 0, .int .u8 0, .int .u8 0, .int .u8 0, .int .u8 0] 128)).rowIs w.heap.size 128 16 (fun _ => .int .u8 0) :=
  World.rowIs_alloc w (Array.replicate 16 (.int .u8 0)) 128 (fun _ => .int .u8 0) (fun i hi => by simp at hi; simp [hi])
set_option maxRecDepth 100000 in
theorem bytes_any (a l f x : Int) (h : DescIn a l f x) (w : World) : Calls Try.prog 44 #[descV a l f x] w fun e w' => ∃ b, e = .returned (.slice (some ⟨b, 0, none⟩) 16 16) ∧ w'.rowIs b 128 16 (u8F (descG a l f x)) ∧ w.heap.size ≤ b ∧ Below w.heap.size w w' := by
  go_enter Try.func44, Try.ntmps44
  go_wp2_with fail
  have r0 := zero16 (w.alloc (.cells #[.int .u64 a, .int .u32 l, .int .u16 f, .int .u16 x] 62))
  rw [World.size_alloc] at r0
  (with_reducible refine (setDesc_any _ a l f x _ _ h r0).mono ?_)
  rintro e W1 ⟨rfl, r1, g1⟩
  go_wp2_with fail
  go_ret
  exact ⟨_, rfl, r1, by simp, below_only (by go_grown) g1 (by simp; omega) (by simp)⟩

set_option maxRecDepth 100000 in
theorem pbytes_any (a l f x : Int) (h : DescIn a l f x) (w : World) : Calls Try.prog 46 #[descV a l f x] w fun e w' => ∃ b, e = .returned (.slice (some ⟨b, 0, none⟩) 16 16) ∧ w'.rowIs b 128 16 (u8F (descG a l f x)) ∧ w.heap.size ≤ b ∧ Below w.heap.size w w' := by
  go_enter Try.func46, Try.ntmps46
  go_wp2_with fail
  have r0 := zero16 (w.alloc (.cells #[.int .u64 a, .int .u32 l, .int .u16 f, .int .u16 x] 64))
  rw [World.size_alloc] at r0
  (with_reducible refine (setPacked_any _ a l f x _ _ h r0).mono ?_)
  rintro e W1 ⟨rfl, r1, g1⟩
  go_wp2_with fail
  go_ret
  exact ⟨_, rfl, r1, by simp, below_only (by go_grown) g1 (by simp; omega) (by simp)⟩

end Go.Proofs.Ytkncaafjkoeijaa.DesPut
