
/- Memory in regions: Check. -/
import Derived.Test.YtmmgcmbniidieaaGmWrite
namespace Go.Proofs.Ytmmgcmbniidieaa.GmCheck
open Go.RowKit Rw GmFind GmWord
set_option linter.unusedVariables false
set_option linter.unusedSimpArgs false

def sum (r : Rg) : Nat → Int
  | 0 => 0
  | i + 1 => sum r i + r.len i
/-- Region i is well behind those before it. -/
def Step (r : Rg) (i : Nat) : Prop := 1 ≤ r.len i ∧ sum r i + r.len i ≤ 1048576 ∧ r.at_ i + (r.len i - 1) ≤ 18446744073709551615 ∧ (0 < i → r.at_ (i - 1) + (r.len (i - 1) - 1) < r.at_ i)
/-- Numbers of 64 bits. -/
def Raw (r : Rg) (k : Nat) : Prop := ∀ i, i < k → 0 ≤ r.at_ i ∧ r.at_ i ≤ 18446744073709551615 ∧ 0 ≤ r.len i ∧ r.len i ≤ 18446744073709551615
/-- A list of regions. -/
def Lst (w : World) (B : Nat) (A : Option Addr) (k : Nat) (r : Rg) : Prop := IsRow w B 2 A k r.cell

theorem sum_lo {r : Rg} : ∀ {k : Nat}, Raw r k → ∀ i, i ≤ k → 0 ≤ sum r i
  | k, h, 0, _ => Int.le_refl _
  | k, h, i + 1, hi => by
    have h1 := sum_lo h i (by omega)
    have h2 := h i (by omega)
    show 0 ≤ sum r i + r.len i
    omega

set_option maxRecDepth 100000 in
set_option maxHeartbeats 4000000 in
theorem check_ok (A : Option Addr) (k c : Nat) (r : Rg) (w : World) (hk : k ≤ 16) (hr : Raw r k) (hs : ∀ i, i < k → Step r i) (h : Lst w w.heap.size A k r) :
    Calls Try.prog 12 #[.slice A k c] w (Gives w.heap.size w (.int .i64 0)) := by
  have HL := Lib.hid h
  have HR := Lib.hid hr
  have HS := Lib.hid hs
  clear h hr hs
  go_enter Try.func12, Try.ntmps12
  go_wp2_with fail
  go_loopw [3, 11] (fun x y wr => ∃ i : Nat, i ≤ k ∧ x = .int .u64 (sum r i) ∧ y = .int .i64 i ∧ Below w.heap.size w wr) (fun x y wr => k - (intOf y).toNat)
  case atStart => exact ⟨0, by omega, rfl, rfl, Below.refl _ _⟩
  case round =>
    obtain ⟨i, hi, rfl, rfl, hb⟩ := hrel
    by_cases hlt : i < k
    · obtain ⟨ad, hA, had, hc⟩ := (HL.out.below hb) (by omega)
      have c0 := el0 hc hlt (by decide)
      have c1 := elj hc hlt 1 (by decide) (by decide)
      rw [Rg.cell0] at c0
      rw [Rg.cell1] at c1
      obtain ⟨s1, s2, s3, s4⟩ := HS.out i hlt
      obtain ⟨r1, r2, r3, r4⟩ := HR.out i hlt
      have t1 := sum_lo HR.out i hi
      have HC := Lib.hid hc
      have HS4 := Lib.hid s4
      clear hc s4
      subst hA
      have hsw := hb.size
      have f1 : (r.len i == 0) = false := by simp; omega
      have f2 : decide (1048576 - sum r i < r.len i) = false := by simp; omega
      have f3 : decide (18446744073709551615 - r.at_ i < r.len i - 1) = false := by simp; omega
      have f4 : IntKind.u64.wrap (sum r i + r.len i) = sum r i + r.len i := by rw [IntKind.wrap_u64]; omega
      by_cases h0 : i = 0
      · have e0 : decide ((0 : Int) < (i : Int)) = false := by simp; omega
        have e0' : decide (0 < i) = false := by simp; omega
        have H0 := Lib.hid h0
        clear h0
        go_wp2_with fail
        refine Lib.wp_region_class (Lib.Held w _ [(wr.heap.size, 0, (.int .u64 (r.at_ i) : Value)), (wr.heap.size, 1, (.int .u64 (r.len i) : Value))]) (by kernel_rfl) (by kernel_rfl) ⟨by go_grown, Below.refl _ _, ⟨by go_size, by go_cell, by go_simp⟩, ⟨by go_size, by go_cell, by go_simp⟩, trivial⟩ ?_
        repeat (first | go_big_quiet_step ((intro hq; first | rfl | (go_simp; rfl))) | quiet_step ((intro hq; first | rfl | (go_simp; rfl))))
        refine wpQuiet_nil ?_
        intro W1 hq1
        obtain ⟨hb1, he1, ⟨hk1_0, hl1_0, hz1_0⟩, ⟨hk1_1, hl1_1, hz1_1⟩, _⟩ := hq1
        go_wp2_with fail
        go_roundw
        case rel => exact ⟨i + 1, by omega, rfl, by go_num, hb1⟩
        case measure => simp [intOf]; omega
      · obtain ⟨p, rfl⟩ : ∃ p, i = p + 1 := ⟨i - 1, by omega⟩
        have e0 : decide ((0 : Int) < ((p + 1 : Nat) : Int)) = true := decide_eq_true (by omega)
        have s4 := HS4.out (by omega)
        rw [Nat.add_sub_cancel] at s4
        have e4 : decide (r.at_ (p + 1) ≤ r.at_ p + (r.len p - 1)) = false := by simp; omega
        obtain ⟨p1, _, p3, _⟩ := HS.out p (by omega)
        obtain ⟨p0, _, _, _⟩ := HR.out p (by omega)
        obtain ⟨ad', hA', had', hc'⟩ := HL.out (by omega)
        cases hA'
        have d0 := el0 hc' (show p < k by omega) (by decide)
        have d1 := elj hc' (show p < k by omega) 1 (by decide) (by decide)
        rw [Rg.cell0] at d0
        rw [Rg.cell1] at d1
        have hap : (ad.add (p * 2)).block < w.heap.size := by rw [block_of_add]; exact had
        have hpp : ((p + 1 : Nat) : Int) - 1 = (p : Int) := by omega
        clear hc'
        go_wp2_with fail
        have hB0 : Below w.heap.size w (wr.alloc (.cells #[.int .u64 (r.at_ (p + 1)), .int .u64 (r.len (p + 1))] 55)).drew := by go_grown
        refine Lib.wp_region_class (Lib.Held w _ [(wr.heap.size, 0, (.int .u64 (r.at_ (p + 1)) : Value)), (wr.heap.size, 1, (.int .u64 (r.len (p + 1)) : Value))]) (by kernel_rfl) (by kernel_rfl) ⟨hB0, Below.refl _ _, ⟨by go_size, by go_cell, by go_simp⟩, ⟨by go_size, by go_cell, by go_simp⟩, trivial⟩ ?_
        repeat (first | go_big_quiet_step ((intro hq; first | rfl | (go_at_call 52; exact Lib.Held.call hq (end_any _ _ _ p0 p1 p3)) | (have hq' := hq; obtain ⟨hbq, heq, ⟨hkq_0, hlq_0, hzq_0⟩, ⟨hkq_1, hlq_1, hzq_1⟩, _⟩ := hq'; have zz0 := (hbq.cell (p := ad.add (p * 2)) hap).trans d0; have zz1 := (hbq.cell (p := ⟨(ad.add (p * 2)).block, (ad.add (p * 2)).off + 1, none⟩) hap).trans d1; go_simp; rfl))) | quiet_step ((intro hq; first | rfl | (go_at_call 52; exact Lib.Held.call hq (end_any _ _ _ p0 p1 p3)) | (have hq' := hq; obtain ⟨hbq, heq, ⟨hkq_0, hlq_0, hzq_0⟩, ⟨hkq_1, hlq_1, hzq_1⟩, _⟩ := hq'; have zz0 := (hbq.cell (p := ad.add (p * 2)) hap).trans d0; have zz1 := (hbq.cell (p := ⟨(ad.add (p * 2)).block, (ad.add (p * 2)).off + 1, none⟩) hap).trans d1; go_simp; rfl))))
        refine wpQuiet_nil ?_
        intro W1 hq1
        obtain ⟨hb1, he1, ⟨hk1_0, hl1_0, hz1_0⟩, ⟨hk1_1, hl1_1, hz1_1⟩, _⟩ := hq1
        go_wp2_with fail
        go_roundw
        case rel => exact ⟨p + 1 + 1, by omega, rfl, by go_num, hb1⟩
        case measure => simp [intOf]; omega
    · obtain rfl : i = k := by omega
      go_wp2
      go_ret
      exact ⟨rfl, hb⟩

end Go.Proofs.Ytmmgcmbniidieaa.GmCheck
