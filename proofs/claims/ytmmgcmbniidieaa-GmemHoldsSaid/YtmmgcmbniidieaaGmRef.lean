
/- The document's own answer on lists of regions: Check. -/
import Derived.Test.YtmmgcmbniidieaaGmCheck
namespace Go.Proofs.Ytmmgcmbniidieaa.GmRef
open Go.RowKit Rw GmFind GmWord GmCheck
set_option linter.unusedVariables false
set_option linter.unusedSimpArgs false

/-- A region and the one before it are well, the sum apart. -/
def Own (r : Rg) (i : Nat) : Prop := 1 ≤ r.len i ∧ r.len i ≤ 1048576 ∧ r.at_ i + (r.len i - 1) ≤ 18446744073709551615 ∧ (0 < i → r.at_ (i - 1) + (r.len (i - 1) - 1) < r.at_ i)
theorem own_sum {r : Rg} : ∀ (k : Nat), (∀ i, i < k → Own r i) → 0 ≤ sum r k ∧ sum r k ≤ k * 1048576
  | 0, _ => ⟨Int.le_refl _, by show (0 : Int) ≤ _; omega⟩
  | k + 1, h => by
    have h1 := own_sum k (fun i hi => h i (by omega))
    obtain ⟨a, b, _, _⟩ := h k (by omega)
    have e : sum r (k + 1) = sum r k + r.len k := rfl
    rw [e]
    have : ((k + 1 : Nat) : Int) = (k : Int) + 1 := by omega
    rw [this]
    constructor <;> omega
theorem sum_mono {r : Rg} : ∀ (k : Nat), (∀ i, i < k → Own r i) → ∀ i, i ≤ k → sum r i ≤ sum r k
  | 0, _, i, hi => by obtain rfl : i = 0 := by omega
                      exact Int.le_refl _
  | k + 1, h, i, hi => by
    rcases Nat.lt_or_ge i (k + 1) with hlt | hge
    · have h1 := sum_mono k (fun i hi => h i (by omega)) i (by omega)
      obtain ⟨a, _, _, _⟩ := h k (by omega)
      have e : sum r (k + 1) = sum r k + r.len k := rfl
      rw [e]; omega
    · obtain rfl : i = k + 1 := by omega
      exact Int.le_refl _
/-- All is well, said in two ways. -/
theorem steps_iff {r : Rg} {k : Nat} (hr : Raw r k) : (∀ i, i < k → Step r i) ↔ ((∀ i, i < k → Own r i) ∧ sum r k ≤ 1048576) := by
  constructor
  · intro h
    refine ⟨fun i hi => ?_, ?_⟩
    · obtain ⟨a, b, c, d⟩ := h i hi
      have := sum_lo hr i (by omega)
      exact ⟨a, by omega, c, d⟩
    · cases k with
      | zero => show (0 : Int) ≤ 1048576; omega
      | succ p => exact (h p (by omega)).2.1
  · rintro ⟨h, hs⟩ i hi
    obtain ⟨a, b, c, d⟩ := h i hi
    refine ⟨a, ?_, c, d⟩
    have := sum_mono k h (i + 1) (by omega)
    have e : sum r (i + 1) = sum r i + r.len i := rfl
    rw [e] at this
    omega

set_option maxRecDepth 100000 in
theorem r_check_many (A : Option Addr) (k c : Nat) (w : World) (hk : 16 < k) : Calls Try.prog 51 #[.slice A k c] w (GmWord.Gives w.heap.size w (.int .i64 2)) := by
  unfold GmWord.Gives
  have h : decide ((16 : Int) < (k : Int)) = true := decide_eq_true (by omega)
  go_enter Try.func51, Try.ntmps51
  go_wp2
  go_ret
  exact ⟨rfl, by go_grown⟩

set_option maxRecDepth 100000 in
set_option maxHeartbeats 6000000 in
theorem r_check_any (A : Option Addr) (k c : Nat) (r : Rg) (q : Int) (w : World) (hk : k ≤ 16) (hr : Raw r k) (q0 : (∀ i, i < k → Step r i) → q = 0) (q2 : ¬ (∀ i, i < k → Step r i) → q = 2) (h : Lst w w.heap.size A k r) :
    Calls Try.prog 51 #[.slice A k c] w (GmWord.Gives w.heap.size w (.int .i64 q)) := by
  unfold GmWord.Gives
  have hb0 : Below w.heap.size w w := Below.refl _ _
  rw [steps_iff hr] at q0 q2
  have HL := Lib.hid h
  have HR := Lib.hid hr
  have HQ0 := Lib.hid q0
  have HQ2 := Lib.hid q2
  clear h hr q0 q2
  have h16 : decide ((16 : Int) < (k : Int)) = false := decide_eq_false (by omega)
  go_enter Try.func51, Try.ntmps51
  go_wp2_with fail
  go_loopw [3, 4] (fun x y wr => ∃ i : Nat, i ≤ k ∧ (∀ j, j < i → Own r j) ∧ x = .int .u64 (sum r i) ∧ y = .int .i64 i ∧ Below w.heap.size w wr) (fun x y wr => k - (intOf y).toNat)
  case atStart => exact ⟨0, by omega, fun j hj => by omega, rfl, rfl, Below.refl _ _⟩
  case round =>
    obtain ⟨i, hi, hown, rfl, rfl, hb⟩ := hrel
    have HOWN := Lib.hid hown
    have hsm := own_sum i hown
    have hwz := hb.size
    clear hown
    by_cases hlt : i < k
    · obtain ⟨ad, hA, had, hc⟩ := HL.out (by omega)
      have c0 := el0 hc hlt (by decide)
      have c1 := elj hc hlt 1 (by decide) (by decide)
      rw [Rg.cell0] at c0
      rw [Rg.cell1] at c1
      have hap : (ad.add (i * 2)).block < w.heap.size := by rw [block_of_add]; exact had
      obtain ⟨r1, r2, r3, r4⟩ := HR.out i hlt
      have HC := Lib.hid hc
      clear hc
      subst hA
      have hno : ¬ Own r i → q = 2 := fun hn => HQ2.out (fun hh => hn (hh.1 i hlt))
      by_cases b1 : r.len i = 0
      · obtain rfl : q = 2 := hno (fun hh => by have := hh.1; omega)
        have f1 : (r.len i == 0) = true := by simp [b1]
        clear b1 hno
        go_wp2_with fail
        refine Lib.wp_region_class (Lib.Held w _ []) (by kernel_rfl) (by kernel_rfl) ⟨by go_grown, Below.refl _ _, trivial⟩ ?_
        repeat (first | go_big_quiet_step ((intro hq; first | rfl | (have hbq := hq.1; have zz0 := (hbq.cell (p := ad.add (i * 2)) hap).trans c0; have zz1 := (hbq.cell (p := ⟨(ad.add (i * 2)).block, (ad.add (i * 2)).off + 1, none⟩) hap).trans c1; go_simp; rfl))) | quiet_step ((intro hq; first | rfl | (have hbq := hq.1; have zz0 := (hbq.cell (p := ad.add (i * 2)) hap).trans c0; have zz1 := (hbq.cell (p := ⟨(ad.add (i * 2)).block, (ad.add (i * 2)).off + 1, none⟩) hap).trans c1; go_simp; rfl))))
        refine wpQuiet_nil ?_
        intro W1 hq1
        have hb1 := hq1.1
        have hs1 := hb1.size
        go_wp2_with fail
        go_ret
        exact ⟨rfl, hb1⟩
      have f1 : (r.len i == 0) = false := by simp [b1]
      by_cases b2 : (1048576 : Int) < r.len i
      · obtain rfl : q = 2 := hno (fun hh => by have := hh.2.1; omega)
        have f2 : decide ((1048576 : Int) < r.len i) = true := decide_eq_true b2
        clear b1 b2 hno
        go_wp2_with fail
        refine Lib.wp_region_class (Lib.Held w _ []) (by kernel_rfl) (by kernel_rfl) ⟨by go_grown, Below.refl _ _, trivial⟩ ?_
        repeat (first | go_big_quiet_step ((intro hq; first | rfl | (have hbq := hq.1; have zz0 := (hbq.cell (p := ad.add (i * 2)) hap).trans c0; have zz1 := (hbq.cell (p := ⟨(ad.add (i * 2)).block, (ad.add (i * 2)).off + 1, none⟩) hap).trans c1; go_simp; rfl))) | quiet_step ((intro hq; first | rfl | (have hbq := hq.1; have zz0 := (hbq.cell (p := ad.add (i * 2)) hap).trans c0; have zz1 := (hbq.cell (p := ⟨(ad.add (i * 2)).block, (ad.add (i * 2)).off + 1, none⟩) hap).trans c1; go_simp; rfl))))
        refine wpQuiet_nil ?_
        intro W1 hq1
        have hb1 := hq1.1
        have hs1 := hb1.size
        go_wp2_with fail
        go_ret
        exact ⟨rfl, hb1⟩
      have f2 : decide ((1048576 : Int) < r.len i) = false := decide_eq_false b2
      have f3 : IntKind.u64.wrap (r.len i - 1) = r.len i - 1 := by rw [IntKind.wrap_u64]; omega
      by_cases b3 : 18446744073709551615 < r.at_ i + (r.len i - 1)
      · obtain rfl : q = 2 := hno (fun hh => by have := hh.2.2.1; omega)
        obtain ⟨s, hs, hsl⟩ : ∃ s, IntKind.u64.wrap (r.at_ i + (r.len i - 1)) = s ∧ s < r.at_ i := ⟨_, rfl, by rw [IntKind.wrap_u64]; omega⟩
        have f4 : decide (s < r.at_ i) = true := decide_eq_true hsl
        clear b1 b2 b3 hno
        go_wp2_with fail
        refine Lib.wp_region_class (Lib.Held w _ []) (by kernel_rfl) (by kernel_rfl) ⟨by go_grown, Below.refl _ _, trivial⟩ ?_
        repeat (first | go_big_quiet_step ((intro hq; first | rfl | (have hbq := hq.1; have zz0 := (hbq.cell (p := ad.add (i * 2)) hap).trans c0; have zz1 := (hbq.cell (p := ⟨(ad.add (i * 2)).block, (ad.add (i * 2)).off + 1, none⟩) hap).trans c1; go_simp; rfl))) | quiet_step ((intro hq; first | rfl | (have hbq := hq.1; have zz0 := (hbq.cell (p := ad.add (i * 2)) hap).trans c0; have zz1 := (hbq.cell (p := ⟨(ad.add (i * 2)).block, (ad.add (i * 2)).off + 1, none⟩) hap).trans c1; go_simp; rfl))))
        refine wpQuiet_nil ?_
        intro W1 hq1
        have hb1 := hq1.1
        have hs1 := hb1.size
        go_wp2_with fail
        go_ret
        exact ⟨rfl, hb1⟩
      have f4 : IntKind.u64.wrap (r.at_ i + (r.len i - 1)) = r.at_ i + (r.len i - 1) := by rw [IntKind.wrap_u64]; omega
      have f5 : decide (r.at_ i + (r.len i - 1) < r.at_ i) = false := decide_eq_false (by omega)
      have f6 : IntKind.u64.wrap (sum r i + r.len i) = sum r i + r.len i := by rw [IntKind.wrap_u64]; omega
      go_wp2_with fail
      refine Lib.wp_region_class (Lib.Held w _ []) (by kernel_rfl) (by kernel_rfl) ⟨by go_grown, Below.refl _ _, trivial⟩ ?_
      repeat (first | go_big_quiet_step ((intro hq; first | rfl | (have hbq := hq.1; have zz0 := (hbq.cell (p := ad.add (i * 2)) hap).trans c0; have zz1 := (hbq.cell (p := ⟨(ad.add (i * 2)).block, (ad.add (i * 2)).off + 1, none⟩) hap).trans c1; go_simp; rfl))) | quiet_step ((intro hq; first | rfl | (have hbq := hq.1; have zz0 := (hbq.cell (p := ad.add (i * 2)) hap).trans c0; have zz1 := (hbq.cell (p := ⟨(ad.add (i * 2)).block, (ad.add (i * 2)).off + 1, none⟩) hap).trans c1; go_simp; rfl))))
      refine wpQuiet_nil ?_
      intro W1 hq1
      have hb1 := hq1.1
      have hs1 := hb1.size
      have e1 : W1.cell? ⟨(ad.add (i * 2)).block, (ad.add (i * 2)).off + 1, none⟩ = .some (.int .u64 (r.len i)) := (hb1.cell (p := ⟨(ad.add (i * 2)).block, (ad.add (i * 2)).off + 1, none⟩) hap).trans c1
      by_cases h0 : i = 0
      · have e0 : decide ((0 : Int) < (i : Int)) = false := decide_eq_false (by omega)
        have e0' : decide (0 < i) = false := decide_eq_false (by omega)
        have HOI : Hid (Own r i) := Lib.hid ⟨by omega, by omega, by omega, fun h => by omega⟩
        have H0 := Lib.hid h0
        clear h0 b1 b2 b3 hno
        go_wp2_with fail
        refine Lib.wp_region_class (Lib.Held w _ []) (by kernel_rfl) (by kernel_rfl) ⟨by go_grown, Below.refl _ _, trivial⟩ ?_
        repeat (first | go_big_quiet_step ((intro hq; first | rfl | (have hbq := hq.1; have zz0 := (hbq.cell (p := ad.add (i * 2)) hap).trans c0; have zz1 := (hbq.cell (p := ⟨(ad.add (i * 2)).block, (ad.add (i * 2)).off + 1, none⟩) hap).trans c1; go_simp; rfl))) | quiet_step ((intro hq; first | rfl | (have hbq := hq.1; have zz0 := (hbq.cell (p := ad.add (i * 2)) hap).trans c0; have zz1 := (hbq.cell (p := ⟨(ad.add (i * 2)).block, (ad.add (i * 2)).off + 1, none⟩) hap).trans c1; go_simp; rfl))))
        refine wpQuiet_nil ?_
        intro W2 hq2
        have hb2 := hq2.1
        have hs2 := hb2.size
        go_wp2_with fail
        go_roundw
        case rel => exact ⟨i + 1, by omega, fun j hj => by
          rcases Nat.lt_or_ge j i with hl | hg
          · exact HOWN.out j hl
          · obtain rfl : j = i := by omega
            exact HOI.out, rfl, by go_num, hb2⟩
        case measure => simp [intOf]; omega
      · obtain ⟨p, rfl⟩ : ∃ p, i = p + 1 := ⟨i - 1, by omega⟩
        have e0 : decide ((0 : Int) < ((p + 1 : Nat) : Int)) = true := decide_eq_true (by omega)
        obtain ⟨p1, p2, p3, _⟩ := HOWN.out p (by omega)
        obtain ⟨s1, s2, s3, s4⟩ := HR.out p (by omega)
        have d0 := el0 HC.out (show p < k by omega) (by decide)
        have d1 := elj HC.out (show p < k by omega) 1 (by decide) (by decide)
        rw [Rg.cell0] at d0
        rw [Rg.cell1] at d1
        have hap2 : (ad.add (p * 2)).block < w.heap.size := by rw [block_of_add]; exact had
        have hpp : ((p + 1 : Nat) : Int) - 1 = (p : Int) := by omega
        have g2 : IntKind.u64.wrap (r.len p - 1) = r.len p - 1 := by rw [IntKind.wrap_u64]; omega
        have g3 : IntKind.u64.wrap (r.at_ p + (r.len p - 1)) = r.at_ p + (r.len p - 1) := by rw [IntKind.wrap_u64]; omega
        by_cases b4 : r.at_ (p + 1) ≤ r.at_ p + (r.len p - 1)
        · obtain rfl : q = 2 := hno (fun hh => by have h4 := hh.2.2.2 (by omega); rw [Nat.add_sub_cancel] at h4; omega)
          have e4 : decide (r.at_ (p + 1) ≤ r.at_ p + (r.len p - 1)) = true := decide_eq_true b4
          clear b1 b2 b3 b4 hno h0
          go_wp2_with fail
          refine Lib.wp_region_class (Lib.Held w _ []) (by kernel_rfl) (by kernel_rfl) ⟨by go_grown, Below.refl _ _, trivial⟩ ?_
          repeat (first | go_big_quiet_step ((intro hq; first | rfl | (have hbq := hq.1; have zz0 := (hbq.cell (p := ad.add ((p + 1) * 2)) hap).trans c0; have zz2 := (hbq.cell (p := ad.add (p * 2)) hap2).trans d0; have zz3 := (hbq.cell (p := ⟨(ad.add (p * 2)).block, (ad.add (p * 2)).off + 1, none⟩) hap2).trans d1; go_simp; rfl))) | quiet_step ((intro hq; first | rfl | (have hbq := hq.1; have zz0 := (hbq.cell (p := ad.add ((p + 1) * 2)) hap).trans c0; have zz2 := (hbq.cell (p := ad.add (p * 2)) hap2).trans d0; have zz3 := (hbq.cell (p := ⟨(ad.add (p * 2)).block, (ad.add (p * 2)).off + 1, none⟩) hap2).trans d1; go_simp; rfl))))
          refine wpQuiet_nil ?_
          intro W2 hq2
          have hb2 := hq2.1
          have hs2 := hb2.size
          go_wp2_with fail
          go_ret
          exact ⟨rfl, hb2⟩
        · have e4 : decide (r.at_ (p + 1) ≤ r.at_ p + (r.len p - 1)) = false := decide_eq_false b4
          have HOI : Hid (Own r (p + 1)) := Lib.hid ⟨by omega, by omega, by omega, fun h => by rw [Nat.add_sub_cancel]; omega⟩
          clear b1 b2 b3 b4 hno h0
          go_wp2_with fail
          refine Lib.wp_region_class (Lib.Held w _ []) (by kernel_rfl) (by kernel_rfl) ⟨by go_grown, Below.refl _ _, trivial⟩ ?_
          repeat (first | go_big_quiet_step ((intro hq; first | rfl | (have hbq := hq.1; have zz0 := (hbq.cell (p := ad.add ((p + 1) * 2)) hap).trans c0; have zz2 := (hbq.cell (p := ad.add (p * 2)) hap2).trans d0; have zz3 := (hbq.cell (p := ⟨(ad.add (p * 2)).block, (ad.add (p * 2)).off + 1, none⟩) hap2).trans d1; go_simp; rfl))) | quiet_step ((intro hq; first | rfl | (have hbq := hq.1; have zz0 := (hbq.cell (p := ad.add ((p + 1) * 2)) hap).trans c0; have zz2 := (hbq.cell (p := ad.add (p * 2)) hap2).trans d0; have zz3 := (hbq.cell (p := ⟨(ad.add (p * 2)).block, (ad.add (p * 2)).off + 1, none⟩) hap2).trans d1; go_simp; rfl))))
          refine wpQuiet_nil ?_
          intro W2 hq2
          have hb2 := hq2.1
          have hs2 := hb2.size
          go_wp2_with fail
          go_roundw
          case rel => exact ⟨p + 1 + 1, by omega, fun j hj => by
            rcases Nat.lt_or_ge j (p + 1) with hl | hg
            · exact HOWN.out j hl
            · obtain rfl : j = p + 1 := by omega
              exact HOI.out, rfl, by go_num, hb2⟩
          case measure => simp [intOf]; omega
    · obtain rfl : i = k := by omega
      by_cases hs : (1048576 : Int) < sum r i
      · obtain rfl : q = 2 := HQ2.out (fun hh => by have := hh.2; omega)
        have g1 : decide ((1048576 : Int) < sum r i) = true := decide_eq_true hs
        go_wp2
        go_ret
        exact ⟨rfl, hb⟩
      · obtain rfl : q = 0 := HQ0.out ⟨HOWN.out, by omega⟩
        have g1 : decide ((1048576 : Int) < sum r i) = false := decide_eq_false hs
        go_wp2
        go_ret
        exact ⟨rfl, hb⟩

end Go.Proofs.Ytmmgcmbniidieaa.GmRef
